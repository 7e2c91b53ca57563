import Derived.Test.YtpdmbobcbehilaaRows
import Derived.Test.YtpdmbobcbehilaaCGoodBundle
import Derived.WalkKit
import Derived.WalkSpells
import Derived.WalkLawsBesides
import Derived.Outline
import Derived.Test.YtpdmbobcbehilaaCPut
import Derived.Test.YtpdmbobcbehilaaMGp
import Derived.Test.YtpdmbobcbehilaaMRP
import Derived.Test.YtpdmbobcbehilaaMA
import Derived.Test.YtpdmbobcbehilaaM5
import Derived.Test.YtpdmbobcbehilaaMCur
import Derived.OwnWalk
import Derived.Test.YtpdmbobcbehilaaCPlan
import Derived.Test.YtpdmbobcbehilaaMSta
import Derived.Test.YtpdmbobcbehilaaCSmall6
import Derived.Deep.RegionHeld3
import Derived.Test.YtpdmbobcbehilaaCRiseI
import Derived.Deep.QuietTactic
import Derived.BigQuiet
import Derived.Test.YtpdmbobcbehilaaMB1
import Derived.Test.YtpdmbobcbehilaaMPN
import Derived.Test.YtpdmbobcbehilaaC6Search
import Derived.Test.YtpdmbobcbehilaaM6R
import Derived.Test.YtpdmbobcbehilaaMRou
import Derived.Laws.AppendOwnNone
import Derived.Test.YtpdmbobcbehilaaMJ
import Derived.Test.YtpdmbobcbehilaaCFloatN
import Derived.Test.YtpdmbobcbehilaaMNR
import Derived.Laws.IdiomCopy
import Derived.Laws.AppendOwn
import Derived.Test.YtpdmbobcbehilaaMInfo
import Derived.Test.YtpdmbobcbehilaaCReverse
import Derived.Test.YtpdmbobcbehilaaCFloat
import Derived.Test.YtpdmbobcbehilaaCRise
import Derived.Test.YtpdmbobcbehilaaCInfoRc
import Derived.ArgAppend
import Derived.Lib.SliceRun
import Derived.Test.YtpdmbobcbehilaaCThoseT
import Derived.Test.YtpdmbobcbehilaaCHasJ
import Derived.Test.YtpdmbobcbehilaaLWTreR
/- The program's GoodBundle at any bundle. -/
namespace Go.Proofs.Ytpdmbobcbehilaa
open Go.RowKit
set_option maxHeartbeats 400000 in
set_option maxRecDepth 100000 in
theorem implGoodBundle_any (b : Bd) (w : World) (hs : b.py.size ≤ 1048576) (R : Bool) (hR : Hid (B1.good b = R)) :
    Calls Try.prog 51 #[b.v] w fun e w' => e = .returned (.bool R) ∧ Below w.heap.size w w' := by
  have IG : Hid _ := fun W => isGood_any b W hs R hR
  have PO : Hid _ := fun W => parcelOf_any b W
  obtain ⟨fr, to, gr, md, no, lf, hp, of, tl, py⟩ := b
  clear hR hs
  go_enter Try.func51, Try.ntmps51
  go_wp2_with fail
  refine Calls.mono (PO.out _) ?_
  rintro e w1 ⟨rfl, hb1⟩
  have hB1 : Below w.heap.size w w1 := ((Below.refl _ w).alloc (Nat.le_refl _) _).trans (hb1.mono (by simp))
  clear PO hb1
  go_wp2_with fail
  refine Calls.mono (IG.out _) ?_
  rintro e w2 ⟨rfl, hb2⟩
  have hB2 := hB1.trans (hb2.mono hB1.size)
  clear IG hb2 hB1
  go_wp2
  go_ret
  exact ⟨rfl, hB2⟩
end Go.Proofs.Ytpdmbobcbehilaa

/- l7Put of the specification where the number may be there already. -/
namespace Go.Proofs.Ytpdmbobcbehilaa
open Go.RowKit
namespace GP
theorem has_at {os : List Int} {n : Int} {k : Nat} (hup : os.Pairwise (· < ·)) (hn : n ∈ os) (hT : EG.ltUp os n k) (hlk : ¬ (k < os.length ∧ os.getD k 0 < n)) : k < os.length ∧ os.getD k 0 = n := by
  obtain ⟨j, hj, rfl⟩ := List.mem_iff_getElem.1 hn
  have hkj : k ≤ j := by
    rcases Nat.lt_or_ge j k with h | h
    · have := hT j h; rw [getD_at hj] at this; omega
    · exact h
  have hkl : k < os.length := by omega
  refine ⟨hkl, ?_⟩
  rcases Nat.lt_or_eq_of_le hkj with h | rfl
  · have := List.pairwise_iff_getElem.1 hup k j hkl hj h
    exact absurd ⟨hkl, by rw [getD_at hkl]; exact this⟩ hlk
  · exact getD_at hkl
end GP
set_option linter.unusedSimpArgs false in
set_option maxHeartbeats 1600000 in
set_option maxRecDepth 100000 in
theorem l7Put_has (a : Option Addr) (ca : Nat) (os : List Int) (n : Int) (w : World) (ho : os.length ≤ 1000) (hup : os.Pairwise (· < ·)) (hn : n ∈ os) (hin : M4.IntsAt w a os) :
    Calls Try.prog 41 #[.slice a os.length ca, .int .i64 n] w fun e w' => e = .returned (.slice a os.length ca) ∧ w = w' := by
  have HH : Hid _ := fun (k : Nat) (h : EG.ltUp os n k) (h2 : _) => GP.has_at (k := k) hup hn h h2
  clear hup hn
  go_enter Try.func41, Try.ntmps41
  go_wp2
  go_loopw [5] (fun iv wr => ∃ k : Nat, iv = .int .i64 k ∧ k ≤ os.length ∧ Hid (EG.ltUp os n k) ∧ w = wr) (fun iv _ => (os.length - intOf iv).toNat)
  case atStart => exact ⟨0, rfl, by omega, show Hid _ from fun j hj => by omega, rfl⟩
  case round =>
    obtain ⟨k, rfl, hk, hT, rfl⟩ := hrel
    by_cases hlk : k < os.length ∧ os.getD k 0 < n
    · obtain ⟨hlk, hon⟩ := hlk
      obtain ⟨b1, off1, rfl, hlt1, hc⟩ := hin.at hlk
      have HT : Hid _ := EG.ltUp_succ hT.out hon
      have hq : decide (os.getD k 0 < n) = true := by simp; exact hon
      clear hT hin hon HH
      generalize os.getD k 0 = o at *
      go_wp2
      go_roundw
      case rel => exact ⟨k + 1, by go_num, by omega, HT, trivial⟩
      case measure => simp [intOf]; omega
    · obtain ⟨hkl, hon⟩ := HH.out k hT.out hlk
      obtain ⟨b1, off1, rfl, hlt1, hc⟩ := hin.at hkl
      rw [hon] at hc
      have hq : decide (n < n) = false := by simp
      have hq2 : (n == n) = true := by simp
      clear hT hin hon HH hlk
      go_wp2
      go_ret
      exact ⟨rfl, rfl⟩
/-- Whatever row the call owns, whether the number is there or not. -/
theorem l7Put_up (base : Nat) (v : Value) (os : List Int) (n : Int) (w : World) (ho : os.length ≤ 1000) (hup : os.Pairwise (· < ·)) (hb : base ≤ w.heap.size) (hown : w.ownsRow base 3 1 v os.length (M4.iv os)) :
    Calls Try.prog 41 #[v, .int .i64 n] w fun e w' => ∃ a1 c1, e = .returned (.slice a1 (GP.putT os n).length c1) ∧ w'.ownsRow base 3 1 (.slice a1 (GP.putT os n).length c1) (GP.putT os n).length (M4.iv (GP.putT os n)) ∧ Below w.heap.size w w' := by
  by_cases h : n ∈ os
  · have he : GP.putT os n = os := by unfold GP.putT; rw [if_pos h]
    rw [he]
    obtain ⟨a, cap, rfl, hin⟩ := M5.own_view hown
    exact (l7Put_has a cap os n w ho hup h hin).mono (by rintro e w' ⟨rfl, rfl⟩; exact ⟨a, cap, rfl, hown, Below.refl _ _⟩)
  · have he : GP.putT os n = EG.putS os n := by unfold GP.putT; rw [if_neg h]
    rw [he]
    exact (l7Put_any base v os n w ho h hown).mono (by rintro e w' ⟨a1, c1, rfl, h1, h2⟩; exact ⟨a1, c1, rfl, TR.own_mono h1 hb, h2⟩)
end Go.Proofs.Ytpdmbobcbehilaa

/- Appends in a region that draws; rows and boxes side by side: plain facts, over whatever program. -/
namespace Go.Proofs.Ytpdmbobcbehilaa
namespace RA
open Go.RowKit
theorem rg_grown {w w' : World} {k o : Nat} {cs : List Value} {row : Option Nat} (h : MA.Rg w k o cs) (hg : w.grownBy w' row) (hne : some k ≠ row) : MA.Rg w' k o cs := by
  obtain ⟨h0, h1, h2⟩ := h
  have e := hg.block k h0 hne
  refine ⟨Nat.lt_of_lt_of_le h0 hg.size, fun j v hv => (World.cell?_of_block (a := ⟨k, o + j, none⟩) e).trans (h1 j v hv), fun j hj => ?_⟩
  obtain ⟨q1, q2⟩ := h2 j hj
  exact ⟨by rw [World.cell?_of_block (a := ⟨k, o + j, none⟩) e]; exact q1, by rw [World.frozen?_of_block (a := ⟨k, o + j, none⟩) e]; exact q2⟩
theorem app_run {P : Program} {o : Oper} {a : Act} {w w' : World} {s x : Operand} {t : TypeId} {v u v' : Value} (ho : o.op = .call { callee := .builtin .append, args := #[s, x], argTypes := #[t, t] }) (hs : a.eval s = v) (hx : a.eval x = u) (hr : (Builtin.append_ #[t, t] o.type #[v, u]).run P w = .ok v' w') : (execOp a.eval o).run P w = .ok (.value v') w' := by
  unfold execOp
  simp only [ho, resolve, invoke, builtin, Sem.run_bind, Sem.run_pure, Result.andThen_ok, List.map_toArray, List.map_cons, List.map_nil, hs, hx, hr]
theorem only_cells (k : Nat) : ∀ (vs : List Value) (o : Nat) (w : World), MC.Only k w (w.setCells k o vs)
  | [], _, w => MC.Only.refl k w
  | v :: r, o, w => ((MC.Only.refl k w).setCell o v).trans (only_cells k r (o + 1) _)
theorem own_only {w w' : World} {base e sz n k : Nat} {v : Value} {xs : List Value} (h : w.ownsRow base e sz v n xs) (ho : MC.Only k w w') (hn : v.ownBlock ≠ some k) : w'.ownsRow base e sz v n xs := by
  refine ⟨h.1, ?_⟩
  rcases h.2 with h' | ⟨g, cap', cur, rfl, hb, hg, rest⟩
  · exact .inl h'
  · refine .inr ⟨g, cap', cur, rfl, hb, (ho.block g (Array.getElem?_eq_some_iff.1 hg).1 (fun e => hn (by rw [← e]; rfl))).trans hg, rest⟩
theorem rg_only {w w' : World} {k o p : Nat} {cs : List Value} (h : MA.Rg w k o cs) (ho : MC.Only p w w') (hne : k ≠ p) : MA.Rg w' k o cs := by
  obtain ⟨h0, h1, h2⟩ := h
  have e := ho.block k h0 hne
  refine ⟨Nat.lt_of_lt_of_le h0 ho.size, fun j v hv => (World.cell?_of_block (a := ⟨k, o + j, none⟩) e).trans (h1 j v hv), fun j hj => ?_⟩
  obtain ⟨q1, q2⟩ := h2 j hj
  exact ⟨by rw [World.cell?_of_block (a := ⟨k, o + j, none⟩) e]; exact q1, by rw [World.frozen?_of_block (a := ⟨k, o + j, none⟩) e]; exact q2⟩
end RA
end Go.Proofs.Ytpdmbobcbehilaa

/- isStart, the program's. -/
namespace Go.Proofs.Ytpdmbobcbehilaa
open Go.RowKit
set_option maxHeartbeats 800000 in
set_option maxRecDepth 100000 in
theorem isStart_any (a : Option Addr) (ca : Nat) (xs : List I5) (f n : Int) (w : World) (hn : xs.length ≤ 1048576) (hin : MI5.RowAt w a xs) :
    Calls Try.prog 66 #[.slice a xs.length ca, .int .i64 f, .int .i64 n] w fun e w' => e = .returned (.bool (PN.startOk xs f n)) ∧ Below w.heap.size w w' := by
  have GP : Hid (∀ W : World, MI5.RowAt W a xs → Calls Try.prog 50 #[.slice a xs.length ca] W fun e w' => e = .returned (.bool (PN.okP xs)) ∧ Below W.heap.size W w') := fun W h => implGoodPlan_any a ca xs W hn h _ rfl
  have HI : Hid (MI5.RowAt w a xs) := hin
  have NI : Hid (∀ W : World, Calls Try.prog 52 #[.int .i64 f] W fun e w' => e = .returned (.bool (decide (0 ≤ f ∧ f ≤ 7))) ∧ W = w') := fun W => nodeI_any f W
  have WI : Hid (∀ W : World, Calls Try.prog 53 #[.int .i64 n] W fun e w' => e = .returned (.bool (decide (0 ≤ n ∧ n ≤ 1000))) ∧ W = w') := fun W => whenI_any n W
  clear hin
  obtain ⟨R, hR⟩ : ∃ R, PN.startOk xs f n = R := ⟨_, rfl⟩
  rw [hR]
  simp only [PN.startOk] at hR
  generalize decide (0 ≤ f ∧ f ≤ 7) = q1 at *
  generalize decide (0 ≤ n ∧ n ≤ 1000) = q2 at *
  generalize PN.okP xs = q0 at *
  have HR : Hid _ := hR
  clear hR
  go_enter Try.func66, Try.ntmps66
  go_wp2_with fail
  refine (GP.out _ HI.out).mono ?_
  rintro e w1 ⟨rfl, hb1⟩
  clear GP HI
  cases q0 with
  | false =>
    obtain rfl : R = false := by rw [← HR.out]; rfl
    go_wp2
    go_ret
    exact ⟨rfl, hb1⟩
  | true =>
    go_wp2_with fail
    refine (NI.out _).mono ?_
    rintro e w' ⟨rfl, rfl⟩
    cases q1 with
    | false =>
      obtain rfl : R = false := by rw [← HR.out]; rfl
      go_wp2
      go_ret
      exact ⟨rfl, hb1⟩
    | true =>
      go_wp2_with fail
      refine (WI.out _).mono ?_
      rintro e w' ⟨rfl, rfl⟩
      obtain rfl : R = q2 := by rw [← HR.out]; rfl
      go_wp2
      go_ret
      exact ⟨rfl, hb1⟩
end Go.Proofs.Ytpdmbobcbehilaa

/- Members: areMembers of the program. -/
namespace Go.Proofs.Ytpdmbobcbehilaa
open Go.RowKit
set_option maxHeartbeats 1600000 in
set_option maxRecDepth 100000 in
theorem areMembers_any (b : Option Addr) (cb : Nat) (os : List Int) (w : World) (ho : os.length ≤ 1048576) (hos : M4.IntsAt w b os) (R : Bool) (hR : Hid (EG.rises 8 os = R)) :
    Calls Try.prog 29 #[.slice b os.length cb] w fun e w' => e = .returned (.bool R) ∧ w = w' := by
  have SP : Hid (Calls Try.prog 54 #[.slice b os.length cb, .int .i64 7] w fun e w' => e = .returned (.bool R) ∧ w = w') := areRising_any b cb 8 os w (by omega) ho hos R hR
  have HL : Hid (8 < os.length → R = false) := fun h => by rw [← hR.out]; exact GP.rises_long h
  clear hos hR
  generalize os.length = n at *
  go_enter Try.func29, Try.ntmps29
  by_cases h8 : n ≤ 8
  · have h1 : decide (n ≤ 8) = true := by simp [h8]
    go_wp2_with fail
    refine Calls.mono SP.out ?_
    rintro e w2 ⟨rfl, rfl⟩
    clear SP HL
    go_wp2
    go_ret
    exact ⟨rfl, rfl⟩
  · have h1 : decide (n ≤ 8) = false := by simp; omega
    have hF := HL.out (by omega)
    subst hF
    clear SP HL
    go_wp2
    go_ret
    exact ⟨rfl, rfl⟩
end Go.Proofs.Ytpdmbobcbehilaa

/- Bundles that fit a plan, plain facts. -/
namespace Go.Proofs.Ytpdmbobcbehilaa
open Go.RowKit
namespace GP
open PN
/-- Whether a bundle fits a plan. -/
def fitsB (xs : List I5) (b : Bd) : Bool := okP xs && B1.good b && decide (b.tl = 0) && nodeOk b.fr && whenOk b.md
theorem fits_is {xs : List I5} {b : Bd} (h : fitsB xs b = true) : okP xs = true ∧ B1.good b = true ∧ b.tl = 0 ∧ (0 ≤ b.fr ∧ b.fr ≤ 7) ∧ (0 ≤ b.md ∧ b.md ≤ 1000) ∧ (1 ≤ b.lf ∧ b.lf ≤ 1000000) ∧ (0 ≤ b.hp ∧ b.hp ≤ 30) := by
  simp only [fitsB, Bool.and_eq_true, decide_eq_true_eq] at h
  obtain ⟨⟨⟨⟨h1, h2⟩, h3⟩, h4⟩, h5⟩ := h
  have hg : B1.head b = true := by simp only [B1.good, Bool.and_eq_true] at h2; exact h2.1.1
  simp only [B1.head, Bool.and_eq_true] at hg
  exact ⟨h1, h2, h3, node_yes h4, when_yes h5, B1.inB_is hg.1.2, B1.inB_is hg.2⟩
end GP
end Go.Proofs.Ytpdmbobcbehilaa

/- RouteTo, the specification's. -/
namespace Go.Proofs.Ytpdmbobcbehilaa
open Go.RowKit
namespace PN
theorem SR.grown {base : Nat} {w W W' : World} {g1 g2 c1 c2 : Nat} {s : St} {o : Obj} (h : SR base w W g1 g2 c1 c2 s) (hB : base ≤ w.heap.size) (hg : (W.alloc o).grownBy W' (some W.heap.size)) : SR base w W' g1 g2 c1 c2 s := by
  have l1 := h.l1
  have l2 := h.l2
  have hs := h.bl.size
  exact ⟨own_grown (h.a.alloc o) hg (fun g e => by simp only [Value.ownBlock, Option.some.injEq] at e; simp only [ne_eq, Option.some.injEq]; omega), own_grown (h.b.alloc o) hg (fun g e => by simp only [Value.ownBlock, Option.some.injEq] at e; simp only [ne_eq, Option.some.injEq]; omega), h.ne, (h.bl.alloc (Nat.le_trans hB hs) o).grown hg (by simp; omega) (fun k hk => by simp at hk; omega)⟩
end PN
set_option linter.unusedSimpArgs false in
set_option maxHeartbeats 3200000 in
set_option maxRecDepth 100000 in
theorem specRoute_any (a : Option Addr) (ca : Nat) (xs : List I5) (f n t : Int) (w : World) (hn : xs.length ≤ 1048576) (hin : MI5.RowAt w a xs) :
    Calls Try.prog 49 #[.slice a xs.length ca, .int .i64 f, .int .i64 n, .int .i64 t] w fun e w' => ∃ a1 c1, e = .returned (.tuple #[.slice a1 (PN.routeL xs f n t).length c1, .int .i64 (PN.tellN (PN.routeM xs f n t)), .bool (PN.tellB (PN.routeM xs f n t))]) ∧ w'.ownsRow w.heap.size 3 1 (.slice a1 (PN.routeL xs f n t).length c1) (PN.routeL xs f n t).length (M4.iv (PN.routeL xs f n t)) ∧ Below w.heap.size w w' := by
  obtain ⟨i0, hi, hz0, hz1, hz2⟩ := info_parts Try.info3
  have GP : Hid (∀ W : World, MI5.RowAt W a xs → Calls Try.prog 58 #[.slice a xs.length ca] W fun e w' => e = .returned (.bool (PN.okP xs)) ∧ Below W.heap.size W w') := fun W h => specGoodPlan_any a ca xs W hn h _ rfl
  have NI : Hid (∀ W : World, Calls Try.prog 60 #[.int .i64 f] W fun e w' => e = .returned (.bool (decide (0 ≤ f ∧ f ≤ 7))) ∧ W = w') := fun W => nodeS_any f W
  have NT : Hid (∀ W : World, Calls Try.prog 60 #[.int .i64 t] W fun e w' => e = .returned (.bool (decide (0 ≤ t ∧ t ≤ 7))) ∧ W = w') := fun W => nodeS_any t W
  have WI : Hid (∀ W : World, Calls Try.prog 61 #[.int .i64 n] W fun e w' => e = .returned (.bool (decide (0 ≤ n ∧ n ≤ 1000))) ∧ W = w') := fun W => whenS_any n W
  have HI : Hid (MI5.RowAt w a xs) := hin
  clear hin
  obtain ⟨N, hN⟩ : ∃ N, PN.tellN (PN.routeM xs f n t) = N := ⟨_, rfl⟩
  obtain ⟨T, hT⟩ : ∃ T, PN.tellB (PN.routeM xs f n t) = T := ⟨_, rfl⟩
  obtain ⟨L, hL⟩ : ∃ L, PN.routeL xs f n t = L := ⟨_, rfl⟩
  have NO : Hid (PN.askOk xs f n t = false → N = 0 ∧ T = false ∧ L = []) := fun h => by
    have hT' : PN.tellB (PN.routeM xs f n t) = false := by rw [PN.route_no h]; rfl
    rw [← hN, ← hT, ← hL, PN.routeL_no hT', PN.route_no h]; exact ⟨rfl, rfl, rfl⟩
  have YES : Hid (PN.askOk xs f n t = true → N = PN.tellN ((PN.fin xs (PN.st0 f n)).wh t.toNat) ∧ T = PN.tellB ((PN.fin xs (PN.st0 f n)).wh t.toNat) ∧ (T = false → L = []) ∧ (T = true → L = PN.way xs (PN.fin xs (PN.st0 f n)).la f.toNat 8 t.toNat)) := fun h => by
    rw [← hN, ← hT, ← hL, ← PN.route_yes h]; exact ⟨rfl, rfl, PN.routeL_no, PN.routeL_yes⟩
  have CS0 : Hid (PN.askOk xs f n t = true → ∀ W : World, MI5.RowAt W a xs → Calls Try.prog 62 #[.slice a xs.length ca, .int .i64 f, .int .i64 n] W fun e w' => ∃ g1 g2 c1 c2, e = .returned (.tuple #[.slice (some ⟨g1, 0, none⟩) 8 c1, .slice (some ⟨g2, 0, none⟩) 8 c2]) ∧ PN.SR W.heap.size W w' g1 g2 c1 c2 (PN.fin xs (PN.st0 f n))) := fun h W hr => by
    obtain ⟨h0, h1, h2, h3, h4⟩ := PN.start_is (PN.ask_is h).1
    exact l6Search_any a ca xs f n W h0 h1 h2 h3 h4 hr
  rw [hN, hT, hL]
  clear hN hT hL
  obtain ⟨q1, h1⟩ : ∃ q, decide (0 ≤ f ∧ f ≤ 7) = q := ⟨_, rfl⟩
  obtain ⟨q2, h2⟩ : ∃ q, decide (0 ≤ n ∧ n ≤ 1000) = q := ⟨_, rfl⟩
  obtain ⟨q3, h3⟩ : ∃ q, decide (0 ≤ t ∧ t ≤ 7) = q := ⟨_, rfl⟩
  obtain ⟨q0, h0⟩ : ∃ q, PN.okP xs = q := ⟨_, rfl⟩
  have hS : PN.askOk xs f n t = (q0 && q1 && q2 && q3) := by rw [← h0, ← h1, ← h2, ← h3]; rfl
  rw [h0] at GP
  rw [h1] at NI
  rw [h2] at WI
  rw [h3] at NT
  have HS : Hid _ := hS
  clear h0 h1 h2 h3 hS
  go_enter Try.func49, Try.ntmps49
  go_wp2_with fail
  refine (GP.out _ HI.out).mono ?_
  rintro e w1 ⟨rfl, hb1⟩
  have HI1 : Hid (MI5.RowAt w1 a xs) := HI.out.below hb1
  clear GP HI
  cases q0 with
  | false =>
    obtain ⟨rfl, rfl, rfl⟩ := NO.out HS.out
    clear NO YES CS0 NI NT WI HS HI1
    go_wp2
    go_ret3
    exact ⟨none, 0, rfl, World.ownsRow_nil _ _ _ _, hb1⟩
  | true =>
    go_wp2_with fail
    refine (NI.out _).mono ?_
    rintro e w' ⟨rfl, rfl⟩
    clear NI
    cases q1 with
    | false =>
      obtain ⟨rfl, rfl, rfl⟩ := NO.out HS.out
      clear NO YES CS0 NT WI HS HI1
      go_wp2
      go_ret3
      exact ⟨none, 0, rfl, World.ownsRow_nil _ _ _ _, hb1⟩
    | true =>
      go_wp2_with fail
      refine (WI.out _).mono ?_
      rintro e w' ⟨rfl, rfl⟩
      clear WI
      cases q2 with
      | false =>
        obtain ⟨rfl, rfl, rfl⟩ := NO.out HS.out
        clear NO YES CS0 NT HS HI1
        go_wp2
        go_ret3
        exact ⟨none, 0, rfl, World.ownsRow_nil _ _ _ _, hb1⟩
      | true =>
        go_wp2_with fail
        refine (NT.out _).mono ?_
        rintro e w' ⟨rfl, rfl⟩
        clear NT
        cases q3 with
        | false =>
          obtain ⟨rfl, rfl, rfl⟩ := NO.out HS.out
          clear NO YES CS0 HS HI1
          go_wp2
          go_ret3
          exact ⟨none, 0, rfl, World.ownsRow_nil _ _ _ _, hb1⟩
        | true =>
          have hask : PN.askOk xs f n t = true := HS.out
          obtain ⟨hst, ht0, ht1⟩ := PN.ask_is hask
          obtain ⟨hok, hf0, hf1, hn0, hn1⟩ := PN.start_is hst
          have CS : Hid _ := CS0.out hask
          have HY : Hid _ := YES.out hask
          have HOK : Hid _ := hok
          have GC : Hid (∀ k, k < xs.length → PN.Good (MI5.at_ xs k)) := fun k hk => PN.okP_good hok hk
          have HVI : Hid (∃ rk, PN.Via xs f.toNat (PN.fin xs (PN.st0 f n)) rk) := PN.via_fin hok (PN.st0_ok hn0 hn1) (PN.ord_st0 hok) (PN.via_st0 xs hf0 hf1)
          have HOS : Hid (PN.okS (PN.fin xs (PN.st0 f n)).wh) := PN.fin_okS hok (PN.st0_ok hn0 hn1)
          clear NO YES CS0 HS hask hst hok
          obtain ⟨tn, rfl⟩ := Int.eq_ofNat_of_zero_le ht0
          obtain ⟨fn, rfl⟩ := Int.eq_ofNat_of_zero_le hf0
          have ht8 : tn < 8 := by omega
          have tt8 : (tn : Int) < 8 := by omega
          generalize PN.fin xs (PN.st0 (fn : Int) n) = s at *
          rw [show ((tn : Int)).toNat = tn from rfl, show ((fn : Int)).toNat = fn from rfl] at HY
          rw [show ((fn : Int)).toNat = fn from rfl] at HVI
          go_wp2_with fail
          refine (CS.out _ HI1.out).mono ?_
          rintro e w2 ⟨g1, g2, c1, c2, rfl, hR⟩
          have hci := hR.cellA ht8
          have l1 := hR.l1
          have HR : Hid _ := hR
          have hB2 : Below w.heap.size w w2 := hb1.trans (hR.bl.mono hb1.size)
          clear CS hR
          have okt := HOS.out tn
          cases hm : s.wh tn with
          | ago => rw [hm] at okt; exact absurd okt id
          | inf =>
            rw [hm] at hci HY
            obtain ⟨rfl, rfl, hLL, -⟩ := HY.out
            obtain rfl := hLL rfl
            simp only [PN.tS] at hci
            clear HY HOK GC HVI HOS HR HI1 hm okt
            go_wp2
            go_ret3
            exact ⟨none, 0, rfl, World.ownsRow_nil _ _ _ _, hB2⟩
          | fin p =>
            rw [hm] at hci HY okt
            obtain ⟨p0, p1⟩ : 0 ≤ p ∧ p ≤ 1048576 := okt
            obtain ⟨rfl, rfl, -, hLL⟩ := HY.out
            have hLw := hLL rfl
            obtain ⟨rk, hV⟩ := HVI.out
            have HB : Hid (PN.Back xs fn s L tn []) := by show PN.Back _ _ _ _ _ _; rw [hLw]; exact PN.Back.start hV ht8 hm
            have hl8 : L.length ≤ 8 := by rw [hLw]; exact PN.way_len xs s.la fn 8 tn
            clear hLw
            have HI2 : Hid (MI5.RowAt w1 a xs) := HI1.out
            simp only [PN.tS] at hci
            have HM : Hid (s.wh tn = .fin N) := hm
            clear HY hLL hV HVI HOS HI1 hm
            go_wp2
            go_loopw [13, 14] (fun ov nv wr => ∃ (v : Nat) (acc : List Int), nv = .int .i64 v ∧ Hid (PN.Back xs fn s L v acc) ∧ wr.ownsRow w1.heap.size 3 1 ov acc.length (M4.iv acc) ∧ PN.SR w1.heap.size w1 wr g1 g2 c1 c2 s) (fun ov _ _ => 8 - PN.lenV ov)
            case atStart => exact ⟨tn, [], rfl, HB, World.ownsRow_nil _ _ _ _, HR.out⟩
            case round =>
              clear HB HR hB2 hci l1
              obtain ⟨v, acc, rfl, hB, hown, hS⟩ := hrel
              by_cases hv : v = fn
              · obtain rfl := hv
                have hLe := PN.Back.end_ hB.out
                have hci : wr.cell? ⟨g1, tn, none⟩ = some (.int .i64 N) := by have := hS.cellA ht8; rw [HM.out] at this; exact this
                have l1 := hS.l1
                obtain ⟨a3, c3, hov, _⟩ := M5.own_view hown
                rw [hov] at hown ⊢
                have HO : Hid _ := hown
                have HBL : Hid (Below w.heap.size w wr) := hb1.trans (hS.bl.mono hb1.size)
                have HLE : Hid _ := hLe
                clear hB hown hS HOK GC HI2 hov hLe hi hz0 hz1 hz2
                go_wp2
                go_quiet (fail)
                go_wp2
                go_ret3
                exact ⟨a3, c3, by rw [HLE.out]; rfl, by rw [HLE.out]; exact M5.own_below (CS6.own_base HO.out hb1.size) (below_drewN (Below.refl _ wr) _), below_drewN HBL.out _⟩
              · obtain ⟨k, hk1, hk2, hk3, hk4⟩ := PN.Back.next HOK.out hB.out hv
                have hv8 := hB.out.lt
                have vv8 : (v : Int) < 8 := by omega
                have kk0 : (0 : Int) ≤ (k : Int) := by omega
                have kk1 : (k : Int) < (xs.length : Int) := by omega
                have hvf : ((v : Int) != (fn : Int)) = true := by simp; omega
                have cb : wr.cell? ⟨g2, v, none⟩ = some (.int .i64 (k : Int)) := by have := hS.cellB hv8; rw [hk1] at this; exact this
                have l2 := hS.l2
                have G := GC.out k hk2
                obtain ⟨i, hii⟩ := Int.eq_ofNat_of_zero_le G.f0
                have hin : (MI5.at_ xs k).a0.toNat = i := by rw [hii]; rfl
                rw [hin] at hk4
                obtain ⟨b4, off4, hab, hlt4, e0, -⟩ := HI2.out.at hk2
                have HB2 : Hid _ := hk4
                have hbs := hS.bl.size
                have hown0 : (wr.alloc (.cells #[.int .i64 (k : Int)] 3)).ownsRow w1.heap.size 3 1 (.slice (some ⟨wr.heap.size, 0, none⟩) 1 1) 1 [.int .i64 (k : Int)] := PN.own_lit1 wr _ _ hbs
                have HO0 : Hid _ := hown0
                have HOA : Hid _ := World.ownsRow.alloc hown (.cells #[.int .i64 (k : Int)] 3)
                have hl8' : acc.length < 8 := hk3
                have HS : Hid _ := hS
                have e0' := fun (W' : World) (h : PN.SR w1.heap.size w1 W' g1 g2 c1 c2 s) => (h.bl.cell (p := ⟨b4, off4 + k * 5, none⟩) hlt4).trans e0
                clear hB G hin hown0 hk4 e0
                rw [hii] at e0'
                have E0 : Hid _ := e0'
                have LA : Hid (s.la v = some k) := hk1
                clear e0' hk1
                rcases hown.2 with ⟨hov, hac⟩ | ⟨g, cap, cur, hov, hg, hgc⟩
                · subst hov
                  obtain rfl : acc = [] := List.eq_nil_of_length_eq_zero hac
                  have hS1 : PN.SR w1.heap.size w1 (wr.alloc (.cells #[.int .i64 (k : Int)] 3)) g1 g2 c1 c2 s := HS.out.kept (Nat.le_refl _) ((Below.refl _ wr).alloc (Nat.le_refl _) _)
                  have c0 := E0.out _ hS1
                  have cb1 : (wr.alloc (.cells #[.int .i64 (k : Int)] 3)).cell? ⟨g2, v, none⟩ = some (.int .i64 (k : Int)) := by have := hS1.cellB hv8; rw [LA.out] at this; exact this
                  have hb4 : b4 < (wr.alloc (.cells #[.int .i64 (k : Int)] 3)).heap.size := Nat.lt_of_lt_of_le hlt4 hS1.bl.size
                  have HS1 : Hid _ := hS1
                  clear hown HS hS hS1 HOA E0 LA
                  subst hab
                  go_wp2_with (at_builtin; refine wpList_append_own_none rfl _ _ 25 rfl w1.heap.size 3 i0 1 Try.underlying25 hi _ _ _ rfl HO0.out rfl ?_)
                  go_roundw
                  case rel => exact ⟨i, [(k : Int)], rfl, HB2, HO0.out, HS1.out⟩
                  case measure => simp [PN.lenV]
                · subst hov
                  have HRN : Hid (∀ j u, (M4.iv acc)[j]? = some u → (wr.alloc (.cells #[.int .i64 (k : Int)] 3)).cell? ((⟨g, 0, none⟩ : Addr).add j) = some u) := fun j u hj => by
                    have hjl : j < acc.length := by have := (List.getElem?_eq_some_iff.1 hj).1; simpa [M4.iv] using this
                    have hadd : (⟨g, 0, none⟩ : Addr).add j = ⟨g, j, none⟩ := by unfold Addr.add; split <;> simp_all
                    rw [hadd, World.ownsRow.cellAt HOA.out j (by omega)]; exact hj
                  clear hown hS hgc hg
                  subst hab
                  go_wp2_with (at_builtin; refine wpList_append_own _ rfl _ _ 25 rfl w1.heap.size 3 i0 (.int .i64 0) 1 8 Try.underlying25 hi hz0 hz1 hz2 rfl (by decide) _ _ _ rfl HO0.out ⟨g, 0, none⟩ acc.length cap (M4.iv acc) rfl ?c0 ?c1 ?c2 ?c3 ?c4 ?c5 ?_)
                  case c0 => simp [M4.iv]
                  case c1 => exact HRN.out
                  case c2 => intro u hu; simp only [M4.iv, List.mem_map] at hu; obtain ⟨z, _, rfl⟩ := hu; rfl
                  case c3 => unfold maxLen; omega
                  case c4 => omega
                  case c5 => simp; omega
                  intro v' w3 hown1 hgrow _
                  have hS3 : PN.SR w1.heap.size w1 w3 g1 g2 c1 c2 s := HS.out.grown (Nat.le_refl _) hgrow
                  have R1 : Hid (w3.ownsRow w1.heap.size 3 1 v' ((k : Int) :: acc).length (M4.iv ((k : Int) :: acc))) := by
                    show w3.ownsRow _ _ _ _ _ _
                    rw [List.length_cons, Nat.add_comm acc.length 1]; exact hown1
                  have hlv := PN.own_len R1.out
                  have c0 := E0.out _ hS3
                  have cb1 : w3.cell? ⟨g2, v, none⟩ = some (.int .i64 (k : Int)) := by have := hS3.cellB hv8; rw [LA.out] at this; exact this
                  have hb4 : b4 < w3.heap.size := Nat.lt_of_lt_of_le hlt4 hS3.bl.size
                  have l23 := hS3.l2
                  have HS3 : Hid _ := hS3
                  clear hown1 hgrow HS HOA HO0 E0 LA HRN hS3 l2 cb
                  go_wp2
                  go_roundw
                  case rel => exact ⟨i, (k : Int) :: acc, rfl, HB2, R1.out, HS3.out⟩
                  case measure => simp only [PN.lenV] at *; rw [hlv]; simp; omega
end Go.Proofs.Ytpdmbobcbehilaa

/- (journey).next, the program's. -/
namespace Go.Proofs.Ytpdmbobcbehilaa
open Go.RowKit
namespace PN
open FL
theorem early_lt {t : Int} {m : Mo} (h : early t m = true) : (Mo.fin t).cmp m = .lt := by
  cases m with
  | fin u => exact cmp_lt (by simpa [early] using h)
  | inf => rfl
  | ago => cases h
theorem late_ge {t : Int} {m : Mo} (hm : okT m) (h : early t m = false) : (Mo.fin t).cmp m = .gt ∨ (Mo.fin t).cmp m = .eq := by
  cases m with
  | fin u =>
    have : u ≤ t := by simpa [early] using h
    by_cases e : t = u
    · subst e; exact .inr (cmp_same t)
    · exact .inl (cmp_gt (by omega))
  | inf => cases h
  | ago => exact absurd hm id
theorem inf_ge {m : Mo} (hm : okT m) : Mo.inf.cmp m = .gt ∨ Mo.inf.cmp m = .eq := by
  cases m with
  | fin u => exact .inl rfl
  | inf => exact .inr rfl
  | ago => exact absurd hm id
theorem fin_ge {t u : Int} (h : ¬ t < u) : (Mo.fin t).cmp (.fin u) = .gt ∨ (Mo.fin t).cmp (.fin u) = .eq := by
  by_cases e : t = u
  · subst e; exact .inr (cmp_same t)
  · exact .inl (cmp_gt (by omega))
/-- What next tells. -/
def nextN : Option (Nat × Int) → Int
  | none => 0
  | some (k, _) => k
end PN
set_option linter.unusedSimpArgs false in
set_option maxHeartbeats 3200000 in
set_option maxRecDepth 100000 in
theorem next6_any (a : Option Addr) (ca : Nat) (xs : List I5) (f : Int) (s : PN.St) (w : World) (hok : PN.okP xs = true) (hO : PN.okS s.wh) (hin : MI5.RowAt w a xs) :
    Calls Try.prog 74 #[.agg (PN.jc f (PN.wb s) (PN.lb s)).toArray, .slice a xs.length ca] w fun e w' => e = .returned (.tuple #[.int .i64 (PN.nextN (PN.best xs s.wh xs.length)), .bool (PN.best xs s.wh xs.length).isSome]) ∧ Below w.heap.size w w' := by
  have NV : Hid (∀ W : World, Calls Try.prog 73 #[] W fun e w' => e = .returned (.float .f64 FL.Mo.inf.b) ∧ W = w') := fun W => never_any W
  have HI : Hid (MI5.RowAt w a xs) := hin
  have hlen : xs.length ≤ 20 := ((PN.okP_iff xs).1 hok).1
  have GC : Hid (∀ k, k < xs.length → PN.Good (MI5.at_ xs k)) := fun k hk => PN.okP_good hok hk
  have HO : Hid _ := hO
  have AT : Hid (∀ k, k < xs.length → PN.okT (PN.arr (MI5.at_ xs k) (s.wh (MI5.at_ xs k).a0.toNat))) := fun k hk => PN.okT_of_arr hok hO hk
  have hJ := MA.Rg.new w (PN.jc f (PN.wb s) (PN.lb s)) 90
  have hB0 : Below w.heap.size w (w.alloc (.cells (PN.jc f (PN.wb s) (PN.lb s)).toArray 90)) := (Below.refl _ w).alloc (Nat.le_refl _) _
  have HJ : Hid _ := hJ
  have HB0 : Hid _ := hB0
  obtain ⟨R, hR⟩ : ∃ R, PN.best xs s.wh xs.length = R := ⟨_, rfl⟩
  rw [hR]
  have HR : Hid _ := hR
  clear hin hok hO hJ hB0 hR
  go_enter Try.func74, Try.ntmps74
  go_wp2_with fail
  refine (NV.out _).mono ?_
  rintro e w' ⟨rfl, rfl⟩
  generalize w.alloc (.cells (PN.jc f (PN.wb s) (PN.lb s)).toArray 90) = W0 at *
  generalize hz : w.heap.size = jb at *
  have HB1 : Hid (Below w.heap.size w W0) := by rw [hz]; exact HB0.out
  clear HB0
  go_wp2
  go_loopw [6, 7, 14] (fun nv ev iv wi => ∃ (k : Nat) (b : Int) (m : FL.Mo) (z : Nat), nv = .int .i64 b ∧ ev = .float .f64 z ∧ iv = .int .i64 k ∧ k ≤ xs.length ∧ Hid (PN.BJ (PN.best xs s.wh k) b m) ∧ Hid (m.b = z) ∧ Below W0.heap.size W0 wi) (fun _ _ iv _ => (xs.length - intOf iv).toNat)
  case atStart => exact ⟨0, 0, .inf, _, rfl, rfl, rfl, by omega, show Hid _ from ⟨rfl, rfl⟩, rfl, Below.refl _ _⟩
  case round =>
    obtain ⟨k, b, m, z, rfl, rfl, rfl, hk, hT, hM, hb⟩ := hrel
    by_cases hlk : k < xs.length
    · obtain ⟨b4, off4, rfl, hlt4, e0, e1, e2, e3, e4⟩ := (HI.out.below (HB1.out.trans (hb.mono HB1.out.size))).at hlk
      have G := GC.out k hlk
      have oa := AT.out k hlk
      obtain ⟨i, hi⟩ := Int.eq_ofNat_of_zero_le G.f0
      obtain ⟨j, hj⟩ := Int.eq_ofNat_of_zero_le G.t0
      have hi8 : i < 8 := by have := G.f1; omega
      have hj8 : j < 8 := by have := G.t1; omega
      have ii0 : (0 : Int) ≤ (i : Int) := by omega
      have ii8 : (i : Int) < 8 := by omega
      have jj0 : (0 : Int) ≤ (j : Int) := by omega
      have jj8 : (j : Int) < 8 := by omega
      have hin : (MI5.at_ xs k).a0.toNat = i := by rw [hi]; rfl
      have hjn : (MI5.at_ xs k).a1.toNat = j := by rw [hj]; rfl
      have B1 : Hid _ := @PN.best_skip xs s.wh k
      have B2 : Hid _ := @PN.best_late xs s.wh k
      have B3 : Hid _ := @PN.best_first xs s.wh k
      have B4 : Hid _ := @PN.best_new xs s.wh k
      have B5 : Hid _ := @PN.best_old xs s.wh k
      rw [hin] at B1 B2 B3 B4 B5 oa
      rw [hjn] at B2 B3 B4 B5
      have oi := HO.out i
      have oj := HO.out j
      have om : PN.okT m := by
        have hT' := hT.out
        cases hbk : PN.best xs s.wh k with
        | none => rw [hbk] at hT'; rw [hT'.2]; trivial
        | some p =>
          obtain ⟨kb, u⟩ := p
          rw [hbk] at hT'
          obtain ⟨h1, h2, _⟩ := PN.best_is hbk
          have := AT.out kb (by omega)
          rw [h2] at this; rw [hT'.2]; exact this
      have hJr := MA.Rg.below HJ.out hb HJ.out.lt
      rw [hi] at e0
      rw [hj] at e1
      have AR : Hid (∀ W : World, Calls Try.prog 75 #[(MI5.at_ xs k).v, .float .f64 (s.wh i).b] W fun e w' => e = .returned (.float .f64 (PN.arr (MI5.at_ xs k) (s.wh i)).b) ∧ Below W.heap.size W w') := fun W => arrival_any _ _ W G oi
      clear GC HI AT HO HR hin hjn G
      generalize hx : MI5.at_ xs k = x at *
      obtain ⟨x0, x1, x2, x3, x4⟩ := x
      simp only at hi hj e0 e1 e2 e3 e4
      subst hi hj
      clear hx
      have hbA : Below W0.heap.size W0 (wr.alloc (.cells #[.int .i64 (i : Int), .int .i64 (j : Int), .int .i64 x2, .int .i64 x3, .int .i64 x4] 50)) := hb.alloc hb.size _
      have HBA : Hid _ := hbA
      have F0 : Hid ((wr.alloc (.cells #[.int .i64 (i : Int), .int .i64 (j : Int), .int .i64 x2, .int .i64 x3, .int .i64 x4] 50)).cell? ⟨wr.heap.size, 0, none⟩ = some (.int .i64 (i : Int))) := by show _ = _; simp
      have F1 : Hid ((wr.alloc (.cells #[.int .i64 (i : Int), .int .i64 (j : Int), .int .i64 x2, .int .i64 x3, .int .i64 x4] 50)).cell? ⟨wr.heap.size, 1, none⟩ = some (.int .i64 (j : Int))) := by show _ = _; simp
      have F2 : Hid ((wr.alloc (.cells #[.int .i64 (i : Int), .int .i64 (j : Int), .int .i64 x2, .int .i64 x3, .int .i64 x4] 50)).cell? ⟨wr.heap.size, 2, none⟩ = some (.int .i64 x2)) := by show _ = _; simp
      have F3 : Hid ((wr.alloc (.cells #[.int .i64 (i : Int), .int .i64 (j : Int), .int .i64 x2, .int .i64 x3, .int .i64 x4] 50)).cell? ⟨wr.heap.size, 3, none⟩ = some (.int .i64 x3)) := by show _ = _; simp
      have F4 : Hid ((wr.alloc (.cells #[.int .i64 (i : Int), .int .i64 (j : Int), .int .i64 x2, .int .i64 x3, .int .i64 x4] 50)).cell? ⟨wr.heap.size, 4, none⟩ = some (.int .i64 x4)) := by show _ = _; simp
      have HQ : Hid (wr.heap.size < (wr.alloc (.cells #[.int .i64 (i : Int), .int .i64 (j : Int), .int .i64 x2, .int .i64 x3, .int .i64 x4] 50)).heap.size) := by show _ < _; simp
      have HJ1 : Hid (MA.Rg (wr.alloc (.cells #[.int .i64 (i : Int), .int .i64 (j : Int), .int .i64 x2, .int .i64 x3, .int .i64 x4] 50)) jb 0 (PN.jc f (PN.wb s) (PN.lb s))) := hJr.alloc _
      clear hbA hJr
      go_wp2_with fail
      clear e0 e1 e2 e3 e4 hlt4
      generalize (wr.alloc (.cells #[.int .i64 (i : Int), .int .i64 (j : Int), .int .i64 x2, .int .i64 x3, .int .i64 x4] 50)) = W1 at *
      generalize wr.heap.size = q at *
      have f0 := F0.out
      have f1 := F1.out
      have f2 := F2.out
      have f3 := F3.out
      have f4 := F4.out
      have hq := HQ.out
      have hci : W1.cell? ⟨jb, 1 + i, none⟩ = some (.float .f64 (s.wh i).b) := (PN.rg_w HJ1.out hi8).1
      have hjb := HJ1.out.lt
      clear F0 F1 F2 F3 F4 HQ
      go_region_held3 (fun w' => w'.cell? ⟨q, 0, none⟩ = some (.int .i64 (i : Int)) ∧ w'.cell? ⟨q, 1, none⟩ = some (.int .i64 (j : Int)) ∧ w'.cell? ⟨q, 2, none⟩ = some (.int .i64 x2) ∧ w'.cell? ⟨q, 3, none⟩ = some (.int .i64 x3) ∧ w'.cell? ⟨q, 4, none⟩ = some (.int .i64 x4) ∧ w'.cell? ⟨jb, 1 + i, none⟩ = some (.float .f64 (s.wh i).b)) (first | assumption | go_keep) (first | (go_at_call 75; refine Calls.mono (AR.out _) ?_; rintro e w3 ⟨rfl, hb3⟩; have k0 : w3.cell? ⟨q, 0, none⟩ = some (.int .i64 (i : Int)) := (hb3.cell (p := ⟨q, 0, none⟩) (by simpa using hq)).trans (by simpa using f0); have k1 : w3.cell? ⟨q, 1, none⟩ = some (.int .i64 (j : Int)) := (hb3.cell (p := ⟨q, 1, none⟩) (by simpa using hq)).trans (by simpa using f1); have k2 : w3.cell? ⟨q, 2, none⟩ = some (.int .i64 x2) := (hb3.cell (p := ⟨q, 2, none⟩) (by simpa using hq)).trans (by simpa using f2); have k3 : w3.cell? ⟨q, 3, none⟩ = some (.int .i64 x3) := (hb3.cell (p := ⟨q, 3, none⟩) (by simpa using hq)).trans (by simpa using f3); have k4 : w3.cell? ⟨q, 4, none⟩ = some (.int .i64 x4) := (hb3.cell (p := ⟨q, 4, none⟩) (by simpa using hq)).trans (by simpa using f4); have ki : w3.cell? ⟨jb, 1 + i, none⟩ = some (.float .f64 (s.wh i).b) := (hb3.cell (p := ⟨jb, 1 + i, none⟩) (by simpa using hjb)).trans (by simpa using hci)))
      have hB3 : Below W0.heap.size W0 w3 := HBA.out.drew.trans (hb3.mono (by have := HBA.out.size; simpa using this))
      have kj : w3.cell? ⟨jb, 1 + j, none⟩ = some (.float .f64 (s.wh j).b) := (hb3.cell (p := ⟨jb, 1 + j, none⟩) (by simpa using hjb)).trans (by have h : W1.cell? ⟨jb, 1 + j, none⟩ = some (.float .f64 (s.wh j).b) := (PN.rg_w HJ1.out hj8).1; simpa using h)
      have hq3 : q < w3.heap.size := Nat.lt_of_lt_of_le (by simpa using hq) hb3.size
      have hj3 : jb < w3.heap.size := Nat.lt_of_lt_of_le (by simpa using hjb) hb3.size
      clear f0 f1 f2 f3 f4 hci hq hjb hb3 HJ1 HBA AR k0 k2 k3 k4 ki hb
      generalize hr : PN.arr _ (s.wh i) = r at *
      generalize hmj : s.wh j = mj at *
      have o1 := FL.order_is r mj (PN.okT_ok oa) (PN.okT_ok oj)
      have o2 := FL.order_is r m (PN.okT_ok oa) (PN.okT_ok om)
      rw [hM.out] at o2
      cases r with
      | ago => exact absurd oa id
      | inf =>
        have hT' : Hid (PN.BJ (PN.best xs s.wh (k + 1)) b m) := by rw [B1.out rfl]; exact hT
        have hge := PN.inf_ge oj
        clear B1 B2 B3 B4 B5 hT o2 hmj hr
        generalize FL.Mo.cmp .inf mj = o at *
        generalize FL.Mo.b mj = zj at *
        rcases hge with rfl | rfl
        all_goals
          go_wp2
          go_roundw
          case rel => exact ⟨k + 1, b, m, z, rfl, rfl, by go_num, by omega, hT', hM, hB3⟩
          case measure => simp [intOf]; omega
      | fin t =>
        cases he : PN.early t mj with
        | false =>
          have hT' : Hid (PN.BJ (PN.best xs s.wh (k + 1)) b m) := by rw [B2.out rfl he]; exact hT
          have hge := PN.late_ge oj he
          clear B1 B2 B3 B4 B5 hT o2 hmj hr he
          generalize FL.Mo.cmp (.fin t) mj = o at *
          generalize FL.Mo.b mj = zj at *
          generalize FL.Mo.b (.fin t) = zr at *
          rcases hge with rfl | rfl
          all_goals
            go_wp2
            go_roundw
            case rel => exact ⟨k + 1, b, m, z, rfl, rfl, by go_num, by omega, hT', hM, hB3⟩
            case measure => simp [intOf]; omega
        | true =>
          rw [PN.early_lt he] at o1
          have hT1 := hT.out
          have pick : ((FL.Mo.fin t).cmp m = .lt ∧ Hid (PN.BJ (PN.best xs s.wh (k + 1)) (k : Int) (.fin t))) ∨ (((FL.Mo.fin t).cmp m = .gt ∨ (FL.Mo.fin t).cmp m = .eq) ∧ Hid (PN.BJ (PN.best xs s.wh (k + 1)) b m)) := by
            cases hbk : PN.best xs s.wh k with
            | none =>
              rw [hbk] at hT1
              exact .inl ⟨by rw [hT1.2]; rfl, by rw [B3.out rfl he hbk]; exact ⟨rfl, rfl⟩⟩
            | some p =>
              obtain ⟨kb, u⟩ := p
              rw [hbk] at hT1
              obtain ⟨h1, h2⟩ := hT1
              by_cases hlt : t < u
              · exact .inl ⟨by rw [h2]; exact FL.cmp_lt hlt, by rw [B4.out rfl he hbk hlt]; exact ⟨rfl, rfl⟩⟩
              · exact .inr ⟨by rw [h2]; exact PN.fin_ge hlt, by rw [B5.out rfl he hbk (by omega)]; exact ⟨h1, h2⟩⟩
          clear B1 B2 B3 B4 B5 hT hT1 hmj hr he
          rcases pick with ⟨pk, hT'⟩ | ⟨pk, hT'⟩
          · rw [pk] at o2
            have hM' : Hid ((FL.Mo.fin t).b = (FL.Mo.fin t).b) := rfl
            clear pk hM
            generalize FL.Mo.b mj = zj at *
            generalize hzr : FL.Mo.b (.fin t) = zr at *
            have hM2 : Hid ((FL.Mo.fin t).b = zr) := hzr
            clear hM' hzr
            go_wp2
            go_roundw
            case rel => exact ⟨k + 1, k, .fin t, zr, rfl, rfl, by go_num, by omega, hT', hM2, hB3⟩
            case measure => simp [intOf]; omega
          · generalize FL.Mo.cmp (.fin t) m = o at *
            generalize FL.Mo.b mj = zj at *
            generalize FL.Mo.b (.fin t) = zr at *
            rcases pk with rfl | rfl
            all_goals
              go_wp2
              go_roundw
              case rel => exact ⟨k + 1, b, m, z, rfl, rfl, by go_num, by omega, hT', hM, hB3⟩
              case measure => simp [intOf]; omega
    · obtain rfl : k = xs.length := by omega
      have hT' := hT.out
      rw [HR.out] at hT'
      cases R with
      | none =>
        obtain ⟨rfl, rfl⟩ := hT'
        have o1 : FloatKind.f64.format.order z FL.Mo.inf.b = some .eq := by rw [← hM.out]; decide
        clear hT hM HR AT GC HO HI HJ
        go_wp2_with fail
        refine (NV.out _).mono ?_
        rintro e w' ⟨rfl, rfl⟩
        generalize FL.Mo.inf.b = zi at *
        go_wp2
        go_ret2
        exact ⟨rfl, HB1.out.trans (hb.mono HB1.out.size)⟩
      | some p =>
        obtain ⟨kb, u⟩ := p
        obtain ⟨rfl, rfl⟩ := hT'
        have ou : PN.okT (.fin u) := by
          obtain ⟨h1, h2, _⟩ := PN.best_is HR.out
          have := AT.out kb h1
          rw [h2] at this; exact this
        have o1 : FloatKind.f64.format.order z FL.Mo.inf.b = some .lt := by rw [← hM.out]; exact FL.order_is (.fin u) .inf (PN.okT_ok ou) trivial
        clear hT hM HR AT GC HO HI HJ ou
        go_wp2_with fail
        refine (NV.out _).mono ?_
        rintro e w' ⟨rfl, rfl⟩
        generalize FL.Mo.inf.b = zi at *
        go_wp2
        go_ret2
        exact ⟨rfl, HB1.out.trans (hb.mono HB1.out.size)⟩
end Go.Proofs.Ytpdmbobcbehilaa

/- Rows of reaches in memory (a number, a time, a row of numbers each): plain facts. -/
namespace Go.Proofs.Ytpdmbobcbehilaa
open Go.RowKit
/-- A reach, and where its row of numbers lies. -/
structure Rq where
  m : Int
  t : Int
  os : List Int
  a : Option Addr
  c : Nat
abbrev Rq.v (p : Rq) : Value := .agg #[.int .i64 p.m, .int .i64 p.t, .slice p.a p.os.length p.c]
abbrev Rq.cs (p : Rq) : List Value := [.int .i64 p.m, .int .i64 p.t, .slice p.a p.os.length p.c]
def Rq.said (p : Rq) : Int × Int × List Int := (p.m, p.t, p.os)
namespace RQ
def flat : List Rq → List Value
  | [] => []
  | p :: ps => p.cs ++ flat ps
def at_ (ps : List Rq) (j : Nat) : Rq := ps.getD j ⟨0, 0, [], none, 0⟩
theorem at_eq {ps : List Rq} {j : Nat} (h : j < ps.length) : at_ ps j = ps[j] := by simp [at_, List.getD_eq_getElem?_getD, List.getElem?_eq_getElem h]
theorem at_mem {ps : List Rq} {j : Nat} (h : j < ps.length) : at_ ps j ∈ ps := by rw [at_eq h]; exact List.getElem_mem h
theorem flat_len : ∀ ps : List Rq, (flat ps).length = ps.length * 3
  | [] => rfl
  | p :: ps => by simp only [flat, List.length_append, flat_len ps, List.length_cons, List.length_nil]; omega
theorem flat_app : ∀ ps qs : List Rq, flat (ps ++ qs) = flat ps ++ flat qs
  | [], qs => rfl
  | p :: ps, qs => by simp only [List.cons_append, flat, flat_app ps qs, List.append_assoc]
theorem flat_get : ∀ (ps : List Rq) (j : Nat), j < ps.length → (flat ps)[j * 3]? = some (.int .i64 (at_ ps j).m) ∧ (flat ps)[j * 3 + 1]? = some (.int .i64 (at_ ps j).t) ∧ (flat ps)[j * 3 + 2]? = some (.slice (at_ ps j).a (at_ ps j).os.length (at_ ps j).c)
  | [], j, h => by simp at h
  | p :: ps, 0, _ => ⟨rfl, rfl, rfl⟩
  | p :: ps, j + 1, h => by
    have ih := flat_get ps j (by simpa using h)
    have e : at_ (p :: ps) (j + 1) = at_ ps j := rfl
    rw [e, show (j + 1) * 3 = j * 3 + 3 by omega]
    exact ih
theorem flat_set3 : ∀ (ps : List Rq) (j : Nat) (q : Rq), j < ps.length → flat (ps.set j q) = ((((flat ps).set (j * 3) (.int .i64 q.m)).set (j * 3 + 1) (.int .i64 q.t)).set (j * 3 + 2) (.slice q.a q.os.length q.c))
  | [], j, _, h => by simp at h
  | p :: ps, 0, q, _ => rfl
  | p :: ps, j + 1, q, h => by
    have ih := flat_set3 ps j q (by simpa using h)
    rw [List.set_cons_succ, show (j + 1) * 3 = j * 3 + 3 by omega]
    show q.cs.take 0 ++ (p.cs ++ flat (ps.set j q)) = _
    rw [ih]; rfl
/-- What lies at a slice's address. -/
structure At (w : World) (a : Option Addr) (ps : List Rq) : Prop where
  is : ps = [] ∨ ∃ b off, a = some ⟨b, off, none⟩ ∧ b < w.heap.size ∧ ∀ j, j < ps.length → w.cell? ⟨b, off + j * 3, none⟩ = some (.int .i64 (at_ ps j).m) ∧ w.cell? ⟨b, off + j * 3 + 1, none⟩ = some (.int .i64 (at_ ps j).t) ∧ w.cell? ⟨b, off + j * 3 + 2, none⟩ = some (.slice (at_ ps j).a (at_ ps j).os.length (at_ ps j).c) ∧ (at_ ps j).os.length ≤ maxLen ∧ M4.IntsAt w (at_ ps j).a (at_ ps j).os
theorem At.below {w w' : World} {a : Option Addr} {ps : List Rq} (h : At w a ps) (hb : Below w.heap.size w w') : At w' a ps := by
  rcases h.is with rfl | ⟨b, off, rfl, hlt, hc⟩
  · exact ⟨.inl rfl⟩
  · refine ⟨.inr ⟨b, off, rfl, Nat.lt_of_lt_of_le hlt hb.size, fun j hj => ?_⟩⟩
    obtain ⟨c0, c1, c2, c3, c4⟩ := hc j hj
    exact ⟨(hb.cell (p := ⟨b, _, none⟩) hlt).trans c0, (hb.cell (p := ⟨b, _, none⟩) hlt).trans c1, (hb.cell (p := ⟨b, _, none⟩) hlt).trans c2, c3, c4.below hb⟩
theorem At.at {w : World} {a : Option Addr} {ps : List Rq} (h : At w a ps) {j : Nat} (hj : j < ps.length) : ∃ b off, a = some ⟨b, off, none⟩ ∧ b < w.heap.size ∧ w.cell? ⟨b, off + j * 3, none⟩ = some (.int .i64 (at_ ps j).m) ∧ w.cell? ⟨b, off + j * 3 + 1, none⟩ = some (.int .i64 (at_ ps j).t) ∧ w.cell? ⟨b, off + j * 3 + 2, none⟩ = some (.slice (at_ ps j).a (at_ ps j).os.length (at_ ps j).c) ∧ (at_ ps j).os.length ≤ maxLen ∧ M4.IntsAt w (at_ ps j).a (at_ ps j).os := by
  rcases h.is with rfl | ⟨b, off, rfl, hlt, hc⟩
  · simp at hj
  · exact ⟨b, off, rfl, hlt, hc j hj⟩
/-- Their rows: each in a block of its own, of the call's. -/
structure Rows (w : World) (B : Nat) (ps : List Rq) : Prop where
  row : ∀ p, p ∈ ps → NR.In w B p.a p.os
  far : ps.Pairwise fun p q => p.os ≠ [] → q.os ≠ [] → p.a ≠ q.a
theorem Rows.nil (w : World) (B : Nat) : Rows w B [] := ⟨fun p h => by simp at h, List.Pairwise.nil⟩
theorem Rows.below {w w' : World} {B : Nat} {ps : List Rq} (h : Rows w B ps) (hb : Below w.heap.size w w') : Rows w' B ps := ⟨fun p hp => (h.row p hp).below hb, h.far⟩
theorem Rows.mono {w : World} {B B' : Nat} {ps : List Rq} (h : Rows w B ps) (hb : B' ≤ B) : Rows w B' ps := ⟨fun p hp => (h.row p hp).mono hb, h.far⟩
theorem Rows.filter {w : World} {B : Nat} {ps : List Rq} (h : Rows w B ps) (f : Rq → Bool) : Rows w B (ps.filter f) := ⟨fun p hp => h.row p (List.mem_filter.1 hp).1, List.Pairwise.filter f h.far⟩
theorem Rows.snoc {w : World} {B : Nat} {ps : List Rq} {q : Rq} (h : Rows w B ps) (hq : NR.In w B q.a q.os) (hf : ∀ p, p ∈ ps → p.os ≠ [] → q.os ≠ [] → p.a ≠ q.a) : Rows w B (ps ++ [q]) := by
  refine ⟨fun p hp => ?_, ?_⟩
  · rcases List.mem_append.1 hp with h1 | h1
    · exact h.row p h1
    · rw [List.mem_singleton.1 h1]; exact hq
  · rw [List.pairwise_append]
    refine ⟨h.far, List.pairwise_singleton _ _, fun p hp r hr => ?_⟩
    rw [List.mem_singleton.1 hr]; exact hf p hp
/-- A block of another type than the rows' is none of theirs. -/
theorem in_ne {T : TypeId} (hT : T ≠ 3) {w : World} {B B' g n cap sz : Nat} {a : Option Addr} {l : List Int} {vs : List Value} (h : NR.In w B a l) (hl : l ≠ []) (ho : w.ownsRow B' T sz (.slice (some ⟨g, 0, none⟩) n cap) n vs) : a ≠ some ⟨g, 0, none⟩ := by
  intro ea
  rcases h.is with e | ⟨g', m, us, ha, hw, _⟩
  · exact hl e
  · rw [ea] at ha
    simp only [Option.some.injEq, Addr.mk.injEq, and_true] at ha
    subst ha
    rcases hw.2 with ⟨h', _⟩ | ⟨g3, cap3, cur3, hv3, _, hg3, _⟩
    · cases h'
    · simp only [Value.slice.injEq, Option.some.injEq, Addr.mk.injEq, and_true] at hv3
      obtain ⟨rfl, _⟩ := hv3
      rcases ho.2 with ⟨h', _⟩ | ⟨g4, cap4, cur4, hv4, _, hg4, _⟩
      · cases h'
      · simp only [Value.slice.injEq, Option.some.injEq, Addr.mk.injEq, and_true] at hv4
        obtain ⟨rfl, _⟩ := hv4
        rw [hg4] at hg3
        simp only [Option.some.injEq, Obj.cells.injEq] at hg3
        exact hT hg3.2.1
/-- What turns one block of another type leaves the rows alone. -/
theorem Rows.only {T : TypeId} (hT : T ≠ 3) {w w' : World} {B B' g n cap sz : Nat} {ps : List Rq} {vs : List Value} (h : Rows w B ps) (ho : w.ownsRow B' T sz (.slice (some ⟨g, 0, none⟩) n cap) n vs) (hO : MC.Only g w w') : Rows w' B ps := by
  refine ⟨fun p hp => ?_, h.far⟩
  by_cases e : p.os = []
  · rw [e]; exact .nil _ _ _
  · exact (h.row p hp).only hO (in_ne hT (h.row p hp) e ho)
/-- Of the call's own: the row and its rows. -/
structure Own (T : TypeId) (w : World) (B : Nat) (v : Value) (ps : List Rq) : Prop where
  out : w.ownsRow B T 3 v ps.length (flat ps)
  rows : Rows w B ps
theorem Own.below {T : TypeId} {w w' : World} {B : Nat} {v : Value} {ps : List Rq} (h : Own T w B v ps) (hb : Below w.heap.size w w') : Own T w' B v ps := ⟨M5.own_below h.out hb, h.rows.below hb⟩
theorem own_mono {w : World} {B B' e sz n : Nat} {v : Value} {xs : List Value} (h : w.ownsRow B e sz v n xs) (hb : B' ≤ B) : w.ownsRow B' e sz v n xs := by
  refine ⟨h.1, ?_⟩
  rcases h.2 with h' | ⟨g', cap, cur, hv, hB, rest⟩
  · exact .inl h'
  · exact .inr ⟨g', cap, cur, hv, by omega, rest⟩
theorem Own.mono {T : TypeId} {w : World} {B B' : Nat} {v : Value} {ps : List Rq} (h : Own T w B v ps) (hb : B' ≤ B) : Own T w B' v ps := ⟨own_mono h.out hb, h.rows.mono hb⟩
theorem Own.at {T : TypeId} {w : World} {B n c : Nat} {a : Option Addr} {ps : List Rq} (h : Own T w B (.slice a n c) ps) : At w a ps := by
  rcases h.out.2 with ⟨h1, h0⟩ | ⟨g, cap, cur, hv, hB, hg, h1, h2, h3, h4⟩
  · exact ⟨.inl (List.eq_nil_of_length_eq_zero h0)⟩
  · have hv' := hv
    simp only [Value.slice.injEq] at hv
    obtain ⟨rfl, rfl, rfl⟩ := hv
    refine ⟨.inr ⟨g, 0, rfl, (h.out.lt g rfl).2, fun j hj => ?_⟩⟩
    obtain ⟨f0, f1, f2⟩ := flat_get ps j hj
    have hr := h.rows.row _ (at_mem hj)
    simp only [Nat.zero_add]
    exact ⟨(h.out.cellAt (j * 3) (by omega)).trans f0, (h.out.cellAt (j * 3 + 1) (by omega)).trans f1, (h.out.cellAt (j * 3 + 2) (by omega)).trans f2, hr.len, hr.ints⟩
theorem Own.view {T : TypeId} {w : World} {B : Nat} {v : Value} {ps : List Rq} (h : Own T w B v ps) : ∃ a c, v = .slice a ps.length c ∧ At w a ps := by
  rcases h.out.2 with ⟨rfl, h0⟩ | ⟨g, cap, cur, rfl, hB, hg, h1, h2, h3, h4⟩
  · exact ⟨none, 0, by rw [h0], ⟨.inl (List.eq_nil_of_length_eq_zero h0)⟩⟩
  · exact ⟨some ⟨g, 0, none⟩, cap, rfl, h.at⟩
theorem Own.nil (T : TypeId) (w : World) (B : Nat) : Own T w B (.slice none 0 0) [] := ⟨World.ownsRow_nil _ _ _ _, Rows.nil _ _⟩
/-- Cells of a row of the call's own are written: what lies ahead of them stays. -/
theorem own_cells {T : TypeId} {g n cap B : Nat} : ∀ (vs : List Value) (o : Nat) (w : World) (cur : List Value), w.ownsRow B T 3 (.slice (some ⟨g, 0, none⟩) n cap) n cur → ∃ cur', (w.setCells g o vs).ownsRow B T 3 (.slice (some ⟨g, 0, none⟩) n cap) n cur' ∧ cur'.take o = cur.take o ∧ MC.Only g w (w.setCells g o vs)
  | [], o, w, cur, h => ⟨cur, h, rfl, MC.Only.refl _ _⟩
  | u :: vs, o, w, cur, h => by
    have st := h.stored o u
    obtain ⟨cur', h1, h2, h3⟩ := own_cells vs (o + 1) (w.setCell ⟨g, o, none⟩ u) _ st.1
    refine ⟨cur', h1, ?_, RA.only_cells g (u :: vs) o w⟩
    have h4 := congrArg (List.take o) h2
    rw [List.take_take, List.take_take, Nat.min_eq_left (by omega), List.take_set_of_le (Nat.le_refl _)] at h4
    exact h4
/-- The first of a row. -/
theorem own_first {T : TypeId} {w : World} {B g n cap k : Nat} {cur : List Value} {ks : List Rq} (h : w.ownsRow B T 3 (.slice (some ⟨g, 0, none⟩) n cap) n cur) (hk : ks.length = k) (hkn : k ≤ n) (hc : cur.take (k * 3) = flat ks) : w.ownsRow B T 3 (.slice (some ⟨g, 0, none⟩) k cap) k (flat ks) := by
  refine ⟨by rw [flat_len, hk], ?_⟩
  rcases h.2 with ⟨h', _⟩ | ⟨g', cap', cur0, hv, hB, hg, h1, h2, h3, h4⟩
  · cases h'
  · simp only [Value.slice.injEq, Option.some.injEq, Addr.mk.injEq, and_true] at hv
    obtain ⟨rfl, _, rfl⟩ := hv
    refine .inr ⟨g, cap, cur0, rfl, hB, hg, by omega, h2, h3, ?_⟩
    rw [← hc, ← h4, List.take_take, Nat.min_eq_left (by omega)]
end RQ
end Go.Proofs.Ytpdmbobcbehilaa

/- Whether a bundle fits a plan: fits of the program, l17Fits of the specification; and until when it may be there. -/
namespace Go.Proofs.Ytpdmbobcbehilaa
open Go.RowKit
set_option linter.unusedSimpArgs false in
set_option maxHeartbeats 1600000 in
set_option maxRecDepth 100000 in
theorem fitsI_any (a : Option Addr) (cap : Nat) (xs : List I5) (b : Bd) (w : World) (hn : xs.length ≤ 1048576) (hs : b.py.size ≤ 1048576) (hin : MI5.RowAt w a xs) :
    Calls Try.prog 28 #[.slice a xs.length cap, b.v] w fun e w' => e = .returned (.bool (GP.fitsB xs b)) ∧ Below w.heap.size w w' := by
  have P1 : Hid (∀ W : World, Below w.heap.size w W → Calls Try.prog 50 #[.slice a xs.length cap] W fun e w' => e = .returned (.bool (PN.okP xs)) ∧ Below W.heap.size W w') := fun W h => implGoodPlan_any a cap xs W hn (hin.below h) _ rfl
  have P2 : Hid (∀ W : World, Calls Try.prog 51 #[b.v] W fun e w' => e = .returned (.bool (B1.good b)) ∧ Below W.heap.size W w') := fun W => implGoodBundle_any b W hs _ rfl
  have P4 : Hid (∀ W : World, Calls Try.prog 52 #[.int .i64 b.fr] W fun e w' => e = .returned (.bool (PN.nodeOk b.fr)) ∧ W = w') := fun W => nodeI_any b.fr W
  have P5 : Hid (∀ W : World, Calls Try.prog 53 #[.int .i64 b.md] W fun e w' => e = .returned (.bool (PN.whenOk b.md)) ∧ W = w') := fun W => whenI_any b.md W
  have HR : Hid (GP.fitsB xs b = (PN.okP xs && B1.good b && (b.tl == 0) && PN.nodeOk b.fr && PN.whenOk b.md)) := by show GP.fitsB xs b = _; unfold GP.fitsB; rw [show decide (b.tl = 0) = (b.tl == 0) by rw [Bool.eq_iff_iff]; simp]
  have hA := BdAt.box w b 33
  have hB := (Below.refl _ w).alloc (Nat.le_refl _) (.cells #[.int .i64 b.fr, .int .i64 b.to, .bool b.gr, .int .i64 b.md, .int .i64 b.no, .int .i64 b.lf, .int .i64 b.hp, .int .i64 b.of, .int .i64 b.tl, .string b.py] 33)
  clear hin
  generalize GP.fitsB xs b = R at *
  generalize PN.okP xs = q1 at *
  generalize B1.good b = q2 at *
  generalize hq3 : (b.tl == 0) = q3 at *
  generalize PN.nodeOk b.fr = q4 at *
  generalize PN.whenOk b.md = q5 at *
  obtain ⟨fr, to, gr, md, no, lf, hp, of, tl, py⟩ := b
  have HQ3 : Hid ((tl == 0) = q3) := hq3
  clear hq3
  go_enter Try.func28, Try.ntmps28
  go_wp2_with fail
  refine (P1.out _ hB).mono ?_
  rintro e w1 ⟨rfl, hb1⟩
  have hA1 := hA.below hb1 hA.1
  have hB1 := hB.trans (hb1.mono hB.size)
  clear P1 hb1 hA hB
  cases q1 with
  | false =>
    have hR : R = false := HR.out
    subst hR
    clear P2 P4 P5 HR HQ3 hA1
    go_wp2
    go_ret
    exact ⟨rfl, hB1⟩
  | true =>
    obtain ⟨hlt, c0, c1, c2, c3, c4, c5, c6, c7, c8, c9⟩ := id hA1
    go_wp2_with fail
    refine (P2.out _).mono ?_
    rintro e w2 ⟨rfl, hb2⟩
    clear c0 c1 c2 c3 c4 c5 c6 c7 c8 c9 hlt P2
    have hA2 := hA1.below hb2 hA1.1
    have hB2 := hB1.trans (hb2.mono hB1.size)
    clear hb2 hA1 hB1
    cases q2 with
    | false =>
      have hR : R = false := HR.out
      subst hR
      clear P4 P5 HR HQ3 hA2
      go_wp2
      go_ret
      exact ⟨rfl, hB2⟩
    | true =>
      obtain ⟨hlt, c0, c1, c2, c3, c4, c5, c6, c7, c8, c9⟩ := id hA2
      clear c1 c2 c4 c5 c6 c7 c9 hA2
      have hq3 := HQ3.out
      cases q3 with
      | false =>
        have hR : R = false := HR.out
        subst hR
        clear P4 P5 HR HQ3
        go_wp2
        go_ret
        exact ⟨rfl, hB2⟩
      | true =>
        clear HQ3
        go_wp2_with fail
        refine (P4.out _).mono ?_
        rintro e w' ⟨rfl, rfl⟩
        clear P4 c0 c8
        cases q4 with
        | false =>
          have hR : R = false := HR.out
          subst hR
          clear P5 HR c3
          go_wp2
          go_ret
          exact ⟨rfl, hB2⟩
        | true =>
          have hR : R = q5 := HR.out
          subst hR
          clear HR
          go_wp2_with fail
          refine (P5.out _).mono ?_
          rintro e w' ⟨rfl, rfl⟩
          clear P5 c3
          go_wp2
          go_ret
          exact ⟨rfl, hB2⟩
set_option linter.unusedSimpArgs false in
set_option maxHeartbeats 1600000 in
set_option maxRecDepth 100000 in
theorem fitsS_any (a : Option Addr) (cap : Nat) (xs : List I5) (b : Bd) (w : World) (hn : xs.length ≤ 1048576) (hs : b.py.size ≤ 1048576) (hin : MI5.RowAt w a xs) :
    Calls Try.prog 47 #[.slice a xs.length cap, b.v] w fun e w' => e = .returned (.bool (GP.fitsB xs b)) ∧ Below w.heap.size w w' := by
  have P1 : Hid (∀ W : World, Below w.heap.size w W → Calls Try.prog 58 #[.slice a xs.length cap] W fun e w' => e = .returned (.bool (PN.okP xs)) ∧ Below W.heap.size W w') := fun W h => specGoodPlan_any a cap xs W hn (hin.below h) _ rfl
  have P2 : Hid (∀ W : World, Calls Try.prog 59 #[b.v] W fun e w' => e = .returned (.bool (B1.good b)) ∧ Below W.heap.size W w') := fun W => specGoodBundle_any b W hs _ rfl
  have P4 : Hid (∀ W : World, Calls Try.prog 60 #[.int .i64 b.fr] W fun e w' => e = .returned (.bool (PN.nodeOk b.fr)) ∧ W = w') := fun W => nodeS_any b.fr W
  have P5 : Hid (∀ W : World, Calls Try.prog 61 #[.int .i64 b.md] W fun e w' => e = .returned (.bool (PN.whenOk b.md)) ∧ W = w') := fun W => whenS_any b.md W
  have HR : Hid (GP.fitsB xs b = (PN.okP xs && B1.good b && (b.tl == 0) && PN.nodeOk b.fr && PN.whenOk b.md)) := by show GP.fitsB xs b = _; unfold GP.fitsB; rw [show decide (b.tl = 0) = (b.tl == 0) by rw [Bool.eq_iff_iff]; simp]
  have hA := BdAt.box w b 33
  have hB := (Below.refl _ w).alloc (Nat.le_refl _) (.cells #[.int .i64 b.fr, .int .i64 b.to, .bool b.gr, .int .i64 b.md, .int .i64 b.no, .int .i64 b.lf, .int .i64 b.hp, .int .i64 b.of, .int .i64 b.tl, .string b.py] 33)
  clear hin
  generalize GP.fitsB xs b = R at *
  generalize PN.okP xs = q1 at *
  generalize B1.good b = q2 at *
  generalize hq3 : (b.tl == 0) = q3 at *
  generalize PN.nodeOk b.fr = q4 at *
  generalize PN.whenOk b.md = q5 at *
  obtain ⟨fr, to, gr, md, no, lf, hp, of, tl, py⟩ := b
  have HQ3 : Hid ((tl == 0) = q3) := hq3
  clear hq3
  go_enter Try.func47, Try.ntmps47
  go_wp2_with fail
  refine (P1.out _ hB).mono ?_
  rintro e w1 ⟨rfl, hb1⟩
  have hA1 := hA.below hb1 hA.1
  have hB1 := hB.trans (hb1.mono hB.size)
  clear P1 hb1 hA hB
  cases q1 with
  | false =>
    have hR : R = false := HR.out
    subst hR
    clear P2 P4 P5 HR HQ3 hA1
    go_wp2
    go_ret
    exact ⟨rfl, hB1⟩
  | true =>
    obtain ⟨hlt, c0, c1, c2, c3, c4, c5, c6, c7, c8, c9⟩ := id hA1
    go_wp2_with fail
    refine (P2.out _).mono ?_
    rintro e w2 ⟨rfl, hb2⟩
    clear c0 c1 c2 c3 c4 c5 c6 c7 c8 c9 hlt P2
    have hA2 := hA1.below hb2 hA1.1
    have hB2 := hB1.trans (hb2.mono hB1.size)
    clear hb2 hA1 hB1
    cases q2 with
    | false =>
      have hR : R = false := HR.out
      subst hR
      clear P4 P5 HR HQ3 hA2
      go_wp2
      go_ret
      exact ⟨rfl, hB2⟩
    | true =>
      obtain ⟨hlt, c0, c1, c2, c3, c4, c5, c6, c7, c8, c9⟩ := id hA2
      clear c1 c2 c4 c5 c6 c7 c9 hA2
      have hq3 := HQ3.out
      cases q3 with
      | false =>
        have hR : R = false := HR.out
        subst hR
        clear P4 P5 HR HQ3
        go_wp2
        go_ret
        exact ⟨rfl, hB2⟩
      | true =>
        clear HQ3
        go_wp2_with fail
        refine (P4.out _).mono ?_
        rintro e w' ⟨rfl, rfl⟩
        clear P4 c0 c8
        cases q4 with
        | false =>
          have hR : R = false := HR.out
          subst hR
          clear P5 HR c3
          go_wp2
          go_ret
          exact ⟨rfl, hB2⟩
        | true =>
          have hR : R = q5 := HR.out
          subst hR
          clear HR
          go_wp2_with fail
          refine (P5.out _).mono ?_
          rintro e w' ⟨rfl, rfl⟩
          clear P5 c3
          go_wp2
          go_ret
          exact ⟨rfl, hB2⟩
set_option maxHeartbeats 800000 in
set_option maxRecDepth 100000 in
theorem lastTime_any (b : Bd) (w : World) (h1 : 0 ≤ b.md ∧ b.md ≤ 1000) (h2 : 1 ≤ b.lf ∧ b.lf ≤ 1000000) :
    Calls Try.prog 33 #[b.v] w fun e w' => e = .returned (.int .i64 (b.md + b.lf)) ∧ Below w.heap.size w w' := by
  have hB := (Below.refl _ w).alloc (Nat.le_refl _) (.cells #[.int .i64 b.fr, .int .i64 b.to, .bool b.gr, .int .i64 b.md, .int .i64 b.no, .int .i64 b.lf, .int .i64 b.hp, .int .i64 b.of, .int .i64 b.tl, .string b.py] 33)
  obtain ⟨fr, to, gr, md, no, lf, hp, of, tl, py⟩ := b
  simp only at h1 h2
  go_enter Try.func33, Try.ntmps33
  go_wp2
  go_ret
  exact ⟨rfl, hB⟩
end Go.Proofs.Ytpdmbobcbehilaa

/- journeyFrom, the program's. -/
namespace Go.Proofs.Ytpdmbobcbehilaa
open Go.RowKit
namespace PN
/-- The result's box, and the journey that is being made. -/
structure JW (w W : World) (rb jb : Nat) (f : Int) (wf : Nat → Nat) (lf : Nat → Int) : Prop where
  r : MA.Rg W rb 0 (jc 0 (fun _ => 0) (fun _ => 0))
  j : MA.Rg W jb 0 (jc f wf lf)
  ne : rb ≠ jb
  br : w.heap.size ≤ rb
  bj : w.heap.size ≤ jb
  bl : Below w.heap.size w W
theorem JW.kept {w W W' : World} {rb jb : Nat} {f : Int} {wf : Nat → Nat} {lf : Nat → Int} (h : JW w W rb jb f wf lf) (hb : Below W.heap.size W W') : JW w W' rb jb f wf lf :=
  ⟨h.r.below hb h.r.lt, h.j.below hb h.j.lt, h.ne, h.br, h.bj, h.bl.trans (hb.mono h.bl.size)⟩
theorem JW.setw {w W : World} {rb jb : Nat} {f : Int} {wf : Nat → Nat} {lf : Nat → Int} (h : JW w W rb jb f wf lf) {i : Nat} (hi : i < 8) (b : Nat) : JW w (W.setCell ⟨jb, 1 + i, none⟩ (.float .f64 b)) rb jb f (put wf i b) lf :=
  ⟨h.r.other (k' := jb) (o' := 1 + i) (vs := [.float .f64 b]) (.inl h.ne), rg_setw h.j hi b, h.ne, h.br, h.bj, MA.below_cells h.bj [.float .f64 b] (1 + i) W h.bl⟩
theorem JW.setl {w W : World} {rb jb : Nat} {f : Int} {wf : Nat → Nat} {lf : Nat → Int} (h : JW w W rb jb f wf lf) {i : Nat} (hi : i < 8) (b : Int) : JW w (W.setCell ⟨jb, 9 + i, none⟩ (.int .i64 b)) rb jb f wf (put lf i b) :=
  ⟨h.r.other (k' := jb) (o' := 9 + i) (vs := [.int .i64 b]) (.inl h.ne), rg_setl h.j hi b, h.ne, h.br, h.bj, MA.below_cells h.bj [.int .i64 b] (9 + i) W h.bl⟩
theorem jw_new (w : World) (t : TypeId) (f : Int) : JW w (((w.alloc (.cells (jc 0 (fun _ => 0) (fun _ => 0)).toArray t)).alloc (.cells (jc 0 (fun _ => 0) (fun _ => 0)).toArray t)).setCells (w.heap.size + 1) 0 (jc f (fun _ => 0) (fun _ => 0))) w.heap.size (w.heap.size + 1) f (fun _ => 0) (fun _ => 0) := by
  have r1 := (MA.Rg.new w (jc 0 (fun _ => 0) (fun _ => 0)) t).alloc (.cells (jc 0 (fun _ => 0) (fun _ => 0)).toArray t)
  have r2 := MA.Rg.new' (w.alloc (.cells (jc 0 (fun _ => 0) (fun _ => 0)).toArray t)) (jc 0 (fun _ => 0) (fun _ => 0)) t (w.heap.size + 1) (by simp)
  exact ⟨r1.other (.inl (by omega)), r2.put (by rw [jc_len, jc_len]), by omega, Nat.le_refl _, by omega, MA.below_cells (by omega) _ _ _ (((Below.refl _ w).alloc (Nat.le_refl _) _).alloc (by simp) _)⟩
def upB (k : Nat) : Nat → Nat := fun i => if i < k then FL.Mo.inf.b else 0
theorem upB_put (k : Nat) : put (upB k) k FL.Mo.inf.b = upB (k + 1) := by
  funext p
  simp only [put, upB]
  by_cases e : p = k
  · subst e; simp
  · rw [if_neg e]
    by_cases h : p < k
    · rw [if_pos h, if_pos (by omega)]
    · rw [if_neg h, if_neg (by omega)]
theorem upB_all {f : Int} {lf : Nat → Int} : jc f (upB 8) lf = jc f (wb ⟨fun _ => .inf, fun _ => none⟩) lf := jc_ext (fun i hi => by simp [upB, wb, hi]) (fun _ _ => rfl)
end PN
theorem Try.infoJ : (Try.prog.info? 90).map (fun i => (i.zero, i.size)) = some (some (.agg (PN.jc 0 (fun _ => 0) (fun _ => 0)).toArray), 17) := by kernel_rfl
theorem Try.sizeJ : (Try.prog.info? 90).map (·.size) = some 17 := by kernel_rfl
theorem Try.builtJ (f : Int) : Try.prog.built 90 [(0, .int .i64 f)] = some (PN.jc f (fun _ => 0) (fun _ => 0)).toArray := by kernel_rfl
theorem MA.build_pJ {P : Program} {ops : Array Oper} {rest : List Oper} {op : Oper} {a : Act} {w : World} {Q : Exit → Act → World → Prop} (hgd : op.guard = none) (ty : TypeId) {parts : Array (Nat × Operand)} (ho : op.op = .build ty parts)
    (ps : List (Nat × Value)) (hps : (parts.map fun (i, x) => (i, a.eval x)).toList = ps) {cs : List Value} (hb : P.built ty ps = some cs.toArray)
    (h : wpList P ops Q rest (a.put op.dst (.agg cs.toArray)) w) : wpList P ops Q (op :: rest) a w := MA.build_m hgd ty ho (by rw [hps]; exact hb) h
set_option linter.unusedSimpArgs false in
set_option maxHeartbeats 3200000 in
set_option maxRecDepth 100000 in
theorem journeyFrom_any (a : Option Addr) (ca : Nat) (xs : List I5) (f n : Int) (w : World) (hok : PN.okP xs = true) (hf0 : 0 ≤ f) (hf1 : f ≤ 7) (hn0 : 0 ≤ n) (hn1 : n ≤ 1000) (hin : MI5.RowAt w a xs) :
    Calls Try.prog 67 #[.slice a xs.length ca, .int .i64 f, .int .i64 n] w fun e w' => e = .returned (.agg (PN.jc f (PN.wb (PN.fin xs (PN.st0 f n))) (PN.lb (PN.fin xs (PN.st0 f n)))).toArray) ∧ Below w.heap.size w w' := by
  have NV : Hid (∀ W : World, Calls Try.prog 73 #[] W fun e w' => e = .returned (.float .f64 FL.Mo.inf.b) ∧ W = w') := fun W => never_any W
  have SF : ∀ (W : World) (ad : Addr) (b : Nat) (m : Mode), (store ad (.float .f64 b) m).run Try.prog W = stored Try.prog W ad (.float .f64 b) m := fun W ad b m => run_store _ W ad _ m rfl
  have HI : Hid (MI5.RowAt w a xs) := hin
  have hlen : xs.length ≤ 20 := ((PN.okP_iff xs).1 hok).1
  have GC : Hid (∀ k, k < xs.length → PN.Good (MI5.at_ xs k)) := fun k hk => PN.okP_good hok hk
  have HOK : Hid _ := hok
  have NX : Hid (∀ (s : PN.St) (W : World), PN.okS s.wh → MI5.RowAt W a xs → Calls Try.prog 74 #[.agg (PN.jc f (PN.wb s) (PN.lb s)).toArray, .slice a xs.length ca] W fun e w' => e = .returned (.tuple #[.int .i64 (PN.nextN (PN.best xs s.wh xs.length)), .bool (PN.best xs s.wh xs.length).isSome]) ∧ Below W.heap.size W w') := fun s W hs hr => next6_any a ca xs f s W hok hs hr
  obtain ⟨fn, rfl⟩ := Int.eq_ofNat_of_zero_le hf0
  have hfn : fn < 8 := by omega
  have ff1 : (fn : Int) < 8 := by omega
  have HN : Hid _ := PN.jw_new w 90 (fn : Int)
  have RZ : Hid (MA.Rg ((w.alloc (.cells (PN.jc 0 (fun _ => 0) (fun _ => 0)).toArray 90)).alloc (.cells (PN.jc 0 (fun _ => 0) (fun _ => 0)).toArray 90)) (w.heap.size + 1) 0 (PN.jc 0 (fun _ => 0) (fun _ => 0))) := MA.Rg.new' _ _ _ _ (by simp)
  clear hin hok
  go_enter Try.func67, Try.ntmps67
  go_wp2_with (first
    | (refine MA.alloc_z rfl 90 rfl _ _ Try.infoJ ?_; simp only [MA.sz_alloc])
    | (refine MA.build_pJ rfl 90 rfl [(0, .int .i64 (fn : Int))] (by simp [Act.eval]) (Try.builtJ _) ?_)
    | (refine MA.store_m rfl 90 _ _ rfl rfl rfl (vs := PN.jc (fn : Int) (fun _ => 0) (fun _ => 0)) (cs := PN.jc 0 (fun _ => 0) (fun _ => 0)) ?_ Try.sizeJ (PN.jc_len _ _ _) (PN.jc_len _ _ _) (PN.jc_one _ _ _) ?_; exact RZ.out; clear RZ; generalize World.setCells _ _ _ _ = W3 at *))
  generalize w.heap.size + 1 = jb at *
  go_loopw [14] (fun iv wr => ∃ k : Nat, iv = .int .i64 k ∧ k ≤ 8 ∧ PN.JW w wr w.heap.size jb (fn : Int) (PN.upB k) (fun _ => 0)) (fun iv _ => (8 - intOf iv).toNat)
  case atStart => exact ⟨0, rfl, by omega, HN.out⟩
  case round =>
    clear HN
    obtain ⟨k, rfl, hk, hJ⟩ := hrel
    by_cases hl : k < 8
    · obtain ⟨q1, z1⟩ := PN.rg_w hJ.j hl
      have hl1 := hJ.j.lt
      have hJ2 := hJ.setw hl FL.Mo.inf.b
      rw [PN.upB_put] at hJ2
      have HJ2 : Hid _ := hJ2
      have kk : (k : Int) < 8 := by omega
      clear hJ hJ2
      go_wp2_with fail
      refine (NV.out _).mono ?_
      rintro e w' ⟨rfl, rfl⟩
      go_wp2
      go_roundw
      case rel => exact ⟨k + 1, by go_num, by omega, HJ2.out⟩
      case measure => simp [intOf]; omega
    · obtain rfl : k = 8 := by omega
      have hJ0 : PN.JW w wr w.heap.size jb (fn : Int) (PN.wb ⟨fun _ => .inf, fun _ => none⟩) (PN.lb ⟨fun _ => .inf, fun _ => none⟩) := by
        have h := hJ.j
        rw [PN.upB_all] at h
        exact ⟨hJ.r, h, hJ.ne, hJ.br, hJ.bj, hJ.bl⟩
      obtain ⟨q1, z1⟩ := PN.rg_w hJ0.j hfn
      have hl1 := hJ0.j.lt
      have hJ1 := hJ0.setw hfn (FL.Mo.fin n).b
      rw [PN.wb_put _ _ _ (fun _ => none)] at hJ1
      have HS0 : Hid (PN.JW w (wr.setCell ⟨jb, 1 + fn, none⟩ (.float .f64 (floatOfInt .f64 n))) w.heap.size jb (fn : Int) (PN.wb (PN.st0 (fn : Int) n)) (PN.lb (PN.st0 (fn : Int) n))) := hJ1
      have HOS : Hid (PN.okS (PN.st0 (fn : Int) n).wh) := PN.st0_ok hn0 hn1
      clear hJ hJ0 hJ1
      generalize hst : PN.st0 (fn : Int) n = s0 at *
      have HR0 : Hid (MA.Rg (wr.setCell ⟨jb, 1 + fn, none⟩ (.float .f64 (floatOfInt .f64 n))) jb 0 (PN.jc (fn : Int) (PN.wb s0) (PN.lb s0))) := HS0.out.j
      go_wp2_with (refine MA.load_m rfl 90 _ rfl rfl (cs := PN.jc (fn : Int) (PN.wb s0) (PN.lb s0)) ?_ Try.underlying90 rfl Try.sizeJ (PN.jc_len _ _ _) ?_; exact HR0.out; clear HR0)
      generalize wr.setCell ⟨jb, 1 + fn, none⟩ (.float .f64 (floatOfInt .f64 n)) = W4 at *
      clear q1 z1 hl1
      refine (NX.out s0 _ HOS.out (HI.out.below HS0.out.bl)).mono ?_
      rintro e w5 ⟨rfl, hb5⟩
      have HS5 : Hid _ := HS0.out.kept hb5
      clear HS0 hb5
      generalize hbest : PN.best xs s0.wh xs.length = R0 at *
      have HBT : Hid _ := hbest
      clear hbest
      go_wp2
      go_loopw [9, 10] (fun kv ov wr => ∃ s : PN.St, kv = .int .i64 (PN.nextN (PN.best xs s.wh xs.length)) ∧ ov = .bool (PN.best xs s.wh xs.length).isSome ∧ PN.JW w wr w.heap.size jb (fn : Int) (PN.wb s) (PN.lb s) ∧ Hid (PN.okS s.wh) ∧ Hid (PN.fin xs s = PN.fin xs s0)) (fun _ _ wr => PN.MJ jb wr)
      case atStart => exact ⟨s0, by rw [HBT.out], by rw [HBT.out], HS5.out, HOS, rfl⟩
      case round =>
        clear HS5 HOS HBT
        obtain ⟨s, rfl, rfl, hJ, hO, hF⟩ := hrel
        have HM : Hid (PN.MJ jb wr = PN.mu s.wh) := PN.JR.mu hJ.j hO.out
        cases hb : PN.best xs s.wh xs.length with
        | none =>
          have hE : Hid (s = PN.fin xs s0) := by show s = _; rw [← hF.out, PN.fin_none hb]
          have HRJ : Hid (MA.Rg wr jb 0 (PN.jc (fn : Int) (PN.wb s) (PN.lb s))) := hJ.j
          have HRR : Hid (MA.Rg wr w.heap.size 0 (PN.jc 0 (fun _ => 0) (fun _ => 0))) := hJ.r
          have HRP : Hid (MA.Rg (wr.setCells w.heap.size 0 (PN.jc (fn : Int) (PN.wb s) (PN.lb s))) w.heap.size 0 (PN.jc (fn : Int) (PN.wb s) (PN.lb s))) := hJ.r.put (by rw [PN.jc_len, PN.jc_len])
          have HBP : Hid (Below w.heap.size w (wr.setCells w.heap.size 0 (PN.jc (fn : Int) (PN.wb s) (PN.lb s)))) := MA.below_cells (Nat.le_refl _) _ _ _ hJ.bl
          clear hb hF hO hJ HM HOK GC HI NX NV SF
          go_wp2_with (first
            | (refine MA.load_m rfl 90 _ rfl rfl (cs := PN.jc (fn : Int) (PN.wb s) (PN.lb s)) ?_ Try.underlying90 rfl Try.sizeJ (PN.jc_len _ _ _) ?_; exact HRJ.out; clear HRJ)
            | (refine MA.store_m rfl 90 _ _ rfl rfl rfl (vs := PN.jc (fn : Int) (PN.wb s) (PN.lb s)) (cs := PN.jc 0 (fun _ => 0) (fun _ => 0)) ?_ Try.sizeJ (PN.jc_len _ _ _) (PN.jc_len _ _ _) (PN.jc_one _ _ _) ?_; exact HRR.out; clear HRR))
          exact bodyPost_ret (MA.ret_cell rfl rfl (MA.load_rg HRP.out Try.underlying90 rfl Try.sizeJ (PN.jc_len _ _ _))) rfl ⟨by rw [hst, ← hE.out], HBP.out⟩
        | some p =>
          obtain ⟨kb, t⟩ := p
          obtain ⟨hkb, hA, hE⟩ := PN.best_is hb
          obtain ⟨hO2, hmu⟩ := PN.step_ok HOK.out hO.out hb
          have hF2 : Hid (PN.fin xs (PN.take1 xs s kb t) = PN.fin xs s0) := by show _ = _; rw [← hF.out, PN.fin_some HOK.out hO.out hb]
          have G := GC.out kb hkb
          obtain ⟨b4, off4, hab, hlt4, e0, e1, e2, e3, e4⟩ := (HI.out.below hJ.bl).at hkb
          obtain ⟨i, hi⟩ := Int.eq_ofNat_of_zero_le G.f0
          obtain ⟨j, hj⟩ := Int.eq_ofNat_of_zero_le G.t0
          have hi8 : i < 8 := by have := G.f1; omega
          have hj8 : j < 8 := by have := G.t1; omega
          have hij : i ≠ j := by have := G.ne; omega
          have ii0 : (0 : Int) ≤ (i : Int) := by omega
          have ii8 : (i : Int) < 8 := by omega
          have jj0 : (0 : Int) ≤ (j : Int) := by omega
          have jj8 : (j : Int) < 8 := by omega
          have kk0 : (0 : Int) ≤ (kb : Int) := by omega
          have kk1 : (kb : Int) < (xs.length : Int) := by omega
          have hin : (MI5.at_ xs kb).a0.toNat = i := by rw [hi]; rfl
          have hjn : (MI5.at_ xs kb).a1.toNat = j := by rw [hj]; rfl
          rw [hin] at hA
          have AR : Hid (∀ W : World, Calls Try.prog 75 #[(MI5.at_ xs kb).v, .float .f64 (s.wh i).b] W fun e w' => e = .returned (.float .f64 (FL.Mo.fin t).b) ∧ Below W.heap.size W w') := fun W => by
            have := arrival_any (MI5.at_ xs kb) (s.wh i) W G (hO.out i)
            rw [hA] at this; exact this
          have hST : (⟨PN.put s.wh j (.fin t), PN.put s.la j (some kb)⟩ : PN.St) = PN.take1 xs s kb t := by unfold PN.take1; rw [hjn]
          have HST : Hid _ := hST
          have HO2 : Hid _ := hO2
          have HMU : Hid (PN.mu (PN.take1 xs s kb t).wh < PN.mu s.wh) := hmu
          rw [hi] at e0
          rw [hj] at e1
          have HJA : Hid (PN.JW w (wr.alloc (.cells #[.int .i64 (i : Int), .int .i64 (j : Int), .int .i64 (MI5.at_ xs kb).a2, .int .i64 (MI5.at_ xs kb).a3, .int .i64 (MI5.at_ xs kb).a4] 50)) w.heap.size jb (fn : Int) (PN.wb s) (PN.lb s)) := hJ.kept ((Below.refl _ wr).alloc (Nat.le_refl _) _)
          have hjq : jb < wr.heap.size := hJ.j.lt
          clear hb hF hO GC G hjn hin hA hE hST hO2 hmu hJ
          generalize hx : MI5.at_ xs kb = x at *
          obtain ⟨x0, x1, x2, x3, x4⟩ := x
          simp only at hi hj e0 e1 e2 e3 e4
          subst hi hj
          clear hx
          subst hab
          have F0 : Hid ((wr.alloc (.cells #[.int .i64 (i : Int), .int .i64 (j : Int), .int .i64 x2, .int .i64 x3, .int .i64 x4] 50)).cell? ⟨wr.heap.size, 0, none⟩ = some (.int .i64 (i : Int))) := by show _ = _; simp
          have F1 : Hid ((wr.alloc (.cells #[.int .i64 (i : Int), .int .i64 (j : Int), .int .i64 x2, .int .i64 x3, .int .i64 x4] 50)).cell? ⟨wr.heap.size, 1, none⟩ = some (.int .i64 (j : Int))) := by show _ = _; simp
          have F2 : Hid ((wr.alloc (.cells #[.int .i64 (i : Int), .int .i64 (j : Int), .int .i64 x2, .int .i64 x3, .int .i64 x4] 50)).cell? ⟨wr.heap.size, 2, none⟩ = some (.int .i64 x2)) := by show _ = _; simp
          have F3 : Hid ((wr.alloc (.cells #[.int .i64 (i : Int), .int .i64 (j : Int), .int .i64 x2, .int .i64 x3, .int .i64 x4] 50)).cell? ⟨wr.heap.size, 3, none⟩ = some (.int .i64 x3)) := by show _ = _; simp
          have F4 : Hid ((wr.alloc (.cells #[.int .i64 (i : Int), .int .i64 (j : Int), .int .i64 x2, .int .i64 x3, .int .i64 x4] 50)).cell? ⟨wr.heap.size, 4, none⟩ = some (.int .i64 x4)) := by show _ = _; simp
          have HQ : Hid (wr.heap.size < (wr.alloc (.cells #[.int .i64 (i : Int), .int .i64 (j : Int), .int .i64 x2, .int .i64 x3, .int .i64 x4] 50)).heap.size) := by show _ < _; simp
          rw [show PN.nextN (some (kb, t)) = (kb : Int) from rfl, show (some (kb, t)).isSome = true from rfl]
          go_wp2_with fail
          clear e0 e1 e2 e3 e4 hlt4
          generalize (wr.alloc (.cells #[.int .i64 (i : Int), .int .i64 (j : Int), .int .i64 x2, .int .i64 x3, .int .i64 x4] 50)) = W1 at *
          generalize wr.heap.size = q at *
          have f0 := F0.out
          have f1 := F1.out
          have f2 := F2.out
          have f3 := F3.out
          have f4 := F4.out
          have hq := HQ.out
          have hci : W1.cell? ⟨jb, 1 + i, none⟩ = some (.float .f64 (s.wh i).b) := (PN.rg_w HJA.out.j hi8).1
          have hjb := HJA.out.j.lt
          have hqj : q ≠ jb := by omega
          have hqj' : jb ≠ q := by omega
          clear F0 F1 F2 F3 F4 HQ
          go_region_held3 (fun w' => w'.cell? ⟨q, 0, none⟩ = some (.int .i64 (i : Int)) ∧ w'.cell? ⟨q, 1, none⟩ = some (.int .i64 (j : Int)) ∧ w'.cell? ⟨q, 2, none⟩ = some (.int .i64 x2) ∧ w'.cell? ⟨q, 3, none⟩ = some (.int .i64 x3) ∧ w'.cell? ⟨q, 4, none⟩ = some (.int .i64 x4) ∧ w'.cell? ⟨jb, 1 + i, none⟩ = some (.float .f64 (s.wh i).b)) (first | assumption | go_keep) (first | (go_at_call 75; refine Calls.mono (AR.out _) ?_; rintro e w3 ⟨rfl, hb3⟩; have k0 : w3.cell? ⟨q, 0, none⟩ = some (.int .i64 (i : Int)) := (hb3.cell (p := ⟨q, 0, none⟩) (by simpa using hq)).trans (by simpa using f0); have k1 : w3.cell? ⟨q, 1, none⟩ = some (.int .i64 (j : Int)) := (hb3.cell (p := ⟨q, 1, none⟩) (by simpa using hq)).trans (by simpa using f1); have k2 : w3.cell? ⟨q, 2, none⟩ = some (.int .i64 x2) := (hb3.cell (p := ⟨q, 2, none⟩) (by simpa using hq)).trans (by simpa using f2); have k3 : w3.cell? ⟨q, 3, none⟩ = some (.int .i64 x3) := (hb3.cell (p := ⟨q, 3, none⟩) (by simpa using hq)).trans (by simpa using f3); have k4 : w3.cell? ⟨q, 4, none⟩ = some (.int .i64 x4) := (hb3.cell (p := ⟨q, 4, none⟩) (by simpa using hq)).trans (by simpa using f4); have ki : w3.cell? ⟨jb, 1 + i, none⟩ = some (.float .f64 (s.wh i).b) := (hb3.cell (p := ⟨jb, 1 + i, none⟩) (by simpa using hjb)).trans (by simpa using hci); have HJ3 := HJA.out.kept (((Below.refl _ W1).drew).trans hb3); obtain ⟨kj, zj⟩ := PN.rg_w HJ3.j hj8; have HJ4 := HJ3.setw hj8 (FL.Mo.fin t).b; obtain ⟨kl, zl⟩ := PN.rg_l HJ4.j hj8; have HJ5 := HJ4.setl hj8 (kb : Int); have ki4 : (w3.setCell ⟨jb, 1 + j, none⟩ (.float .f64 (FL.Mo.fin t).b)).cell? ⟨jb, 1 + i, none⟩ = some (.float .f64 (s.wh i).b) := (PN.rg_w HJ4.j hi8).1.trans (by rw [PN.put_ne _ _ hij]; rfl); have ki5 : ((w3.setCell ⟨jb, 1 + j, none⟩ (.float .f64 (FL.Mo.fin t).b)).setCell ⟨jb, 9 + j, none⟩ (.int .i64 (kb : Int))).cell? ⟨jb, 1 + i, none⟩ = some (.float .f64 (s.wh i).b) := (PN.rg_w HJ5.j hi8).1.trans (by rw [PN.put_ne _ _ hij]; rfl)))
          rw [PN.wb_put s j (.fin t) (PN.put s.la j (some kb)), PN.lb_put s j kb (PN.put s.wh j (.fin t)), HST.out] at HJ5
          clear k0 k1 k2 k3 k4 ki kj zj kl zl ki4 ki5 HJ3 HJ4 hb3 f0 f1 f2 f3 f4 hq hci hjb HJA AR HST hqj hqj' hjq
          have HJ6 : Hid _ := HJ5
          have HR6 : Hid (MA.Rg ((w3.setCell ⟨jb, 1 + j, none⟩ (.float .f64 (FL.Mo.fin t).b)).setCell ⟨jb, 9 + j, none⟩ (.int .i64 (kb : Int))) jb 0 (PN.jc (fn : Int) (PN.wb (PN.take1 xs s kb t)) (PN.lb (PN.take1 xs s kb t)))) := HJ5.j
          clear HJ5
          generalize (w3.setCell ⟨jb, 1 + j, none⟩ (.float .f64 (FL.Mo.fin t).b)).setCell ⟨jb, 9 + j, none⟩ (.int .i64 (kb : Int)) = W5 at *
          generalize PN.take1 xs s kb t = s' at *
          go_wp2_with (refine MA.load_m rfl 90 _ rfl rfl (cs := PN.jc (fn : Int) (PN.wb s') (PN.lb s')) ?_ Try.underlying90 rfl Try.sizeJ (PN.jc_len _ _ _) ?_; exact HR6.out; clear HR6)
          refine (NX.out s' _ HO2.out (HI.out.below HJ6.out.bl)).mono ?_
          rintro e w6 ⟨rfl, hb6⟩
          have HJ7 : Hid _ := HJ6.out.kept hb6
          have HM7 : Hid (PN.MJ jb w6 = PN.mu s'.wh) := PN.JR.mu HJ7.out.j HO2.out
          clear hb6 HJ6
          go_wp2
          go_roundw
          case rel => exact ⟨s', rfl, rfl, HJ7.out, HO2, hF2⟩
          case measure => rw [HM.out, HM7.out]; exact HMU.out
end Go.Proofs.Ytpdmbobcbehilaa

/- Who is reached, in time and near enough: plain facts; one reach more in memory. -/
namespace Go.Proofs.Ytpdmbobcbehilaa
open Go.RowKit
namespace RQ
open PN
theorem new3 (W : World) (x y z : Value) (e : TypeId) (n : Nat) (hn : W.heap.size = n) : ∀ (j : Nat) (u : Value), [x, y, z][j]? = some u → (W.alloc (.cells #[x, y, z] e)).cell? ((⟨n, 0, none⟩ : Addr).add j) = some u := by
  subst hn
  intro j u hj
  have hl : j < 3 := by have := (List.getElem?_eq_some_iff.1 hj).1; simpa using this
  have ha : (⟨W.heap.size, 0, none⟩ : Addr).add j = ⟨W.heap.size, j, none⟩ := by unfold Addr.add; split <;> simp_all
  rw [ha, World.cell?_alloc_new]
  simpa using hj
theorem one3 (p : Rq) : ∀ u ∈ p.cs, u.oneCell' = true := by intro u hu; simp at hu; rcases hu with rfl | rfl | rfl <;> rfl
theorem only_grown {w w' : World} {v : Value} {g : Nat} (hg : w.grownBy w' v.ownBlock) (h : ∀ k, v.ownBlock = some k → k = g) : MC.Only g w w' := by
  refine ⟨hg.os, hg.tape, hg.output, hg.size, fun k hk hne => hg.block k hk (fun e => hne (h k e.symm))⟩
/-- One reach more behind the last, its row in a block of its own that is younger. -/
theorem Own.snoc {T : TypeId} (hT : T ≠ 3) {w w' : World} {B X : Nat} {v v' : Value} {ps : List Rq} {q : Rq} (h : Own T w B v ps) (hq : NR.In w X q.a q.os) (hBX : B ≤ X) (hold : ∀ p, p ∈ ps → p.os ≠ [] → ∀ g, p.a = some ⟨g, 0, none⟩ → g < X) (hg : w.grownBy w' v.ownBlock) (ho : w'.ownsRow B T 3 v' (ps.length + 1) (flat ps ++ q.cs)) : Own T w' B v' (ps ++ [q]) := by
  have hr : Rows w B (ps ++ [q]) := h.rows.snoc (hq.mono hBX) (fun p hp h1 h2 e => by
    obtain ⟨g, hg⟩ := (h.rows.row p hp).some h1
    have h3 := hold p hp h1 g hg
    rw [← e, hg] at hq
    have := (hq.lt h2).1
    omega)
  refine ⟨by rw [flat_app, List.length_append]; exact ho, ?_⟩
  rcases h.out.2 with ⟨rfl, h0⟩ | ⟨g, cap, cur, rfl, rest⟩
  · refine ⟨fun p hp => ?_, hr.far⟩
    by_cases e : p.os = []
    · rw [e]; exact .nil _ _ _
    · obtain ⟨k, hk⟩ := (hr.row p hp).some e
      exact (hr.row p hp).only (p := k + 1) (only_grown hg (fun k h => by cases h)) (fun e => by rw [hk] at e; simp at e)
  · exact hr.only hT h.out (only_grown hg (fun k h => by simp only [Value.ownBlock, Option.some.injEq] at h; exact h.symm))
theorem Own.only2 {T : TypeId} {w w' : World} {B p : Nat} {v : Value} {ps : List Rq} (h : Own T w B v ps) (ho : MC.Only p w w') (hp : p < B) : Own T w' B v ps := by
  refine ⟨NR.own_only h.out ho (fun e => by have := (h.out.lt _ e).1; omega), fun q hq => ?_, h.rows.far⟩
  by_cases e : q.os = []
  · rw [e]; exact .nil _ _ _
  · refine (h.rows.row q hq).only ho (fun ea => ?_)
    have r := h.rows.row q hq
    rw [ea] at r
    have := (r.lt e).1; omega
/-- Whoever the rows' blocks are, they are there by now. -/
theorem Rows.lt {w : World} {B : Nat} {ps : List Rq} (h : Rows w B ps) : ∀ p, p ∈ ps → p.os ≠ [] → ∀ g, p.a = some ⟨g, 0, none⟩ → g < w.heap.size := fun p hp h1 g hg => by
  have := h.row p hp
  rw [hg] at this
  exact (this.lt h1).2
/-- What RouteTo tells of a member. -/
def one (xs : List I5) (b : Bd) (m : Int) : Int × Int × List Int := (m, tellN (routeM xs b.fr b.md m), routeL xs b.fr b.md m)
def there (xs : List I5) (b : Bd) (m : Int) : Bool := tellB (routeM xs b.fr b.md m)
def allL (xs : List I5) (b : Bd) (ms : List Int) : List (Int × Int × List Int) := (ms.filter (there xs b)).map (one xs b)
def inTime (n : Int) (r : Int × Int × List Int) : Bool := decide (r.2.1 ≤ n)
def near (n : Int) (r : Int × Int × List Int) : Bool := decide ((r.2.2.length : Int) ≤ n)
def reaL (xs : List I5) (b : Bd) (ms : List Int) : List (Int × Int × List Int) := ((allL xs b ms).filter (inTime (b.md + b.lf))).filter (near b.hp)
noncomputable def reaOk (xs : List I5) (b : Bd) (ms : List Int) : Bool := GP.fitsB xs b && EG.rises 8 ms
noncomputable def reaA (xs : List I5) (b : Bd) (ms : List Int) : List (Int × Int × List Int) := if reaOk xs b ms = true then reaL xs b ms else []
theorem allL_yes {xs : List I5} {b : Bd} {ms : List Int} {k : Nat} (hk : k < ms.length) (h : there xs b (ms.getD k 0) = true) : allL xs b (ms.take (k + 1)) = allL xs b (ms.take k) ++ [one xs b (ms.getD k 0)] := by
  unfold allL; rw [M4.take_snoc _ _ hk, List.filter_append, List.filter_cons, if_pos h, List.map_append]; rfl
theorem allL_no {xs : List I5} {b : Bd} {ms : List Int} {k : Nat} (hk : k < ms.length) (h : there xs b (ms.getD k 0) = false) : allL xs b (ms.take (k + 1)) = allL xs b (ms.take k) := by
  unfold allL; rw [M4.take_snoc _ _ hk, List.filter_append, List.filter_cons, h]; simp
def okOne (xs : List I5) (b : Bd) (m : Int) : Bool := there xs b m && inTime (b.md + b.lf) (one xs b m) && near b.hp (one xs b m)
theorem reaL_yes {xs : List I5} {b : Bd} {ms : List Int} {k : Nat} (hk : k < ms.length) (h : okOne xs b (ms.getD k 0) = true) : reaL xs b (ms.take (k + 1)) = reaL xs b (ms.take k) ++ [one xs b (ms.getD k 0)] := by
  simp only [okOne, Bool.and_eq_true] at h
  unfold reaL; rw [allL_yes hk h.1.1, List.filter_append, List.filter_append, List.filter_cons, if_pos h.1.2, List.filter_nil, List.filter_cons, if_pos h.2]; rfl
theorem reaL_no {xs : List I5} {b : Bd} {ms : List Int} {k : Nat} (hk : k < ms.length) (h : okOne xs b (ms.getD k 0) = false) : reaL xs b (ms.take (k + 1)) = reaL xs b (ms.take k) := by
  cases h1 : there xs b (ms.getD k 0) with
  | false => unfold reaL; rw [allL_no hk h1]
  | true =>
    unfold okOne at h
    rw [h1, Bool.true_and] at h
    unfold reaL; rw [allL_yes hk h1]
    generalize one xs b (ms.getD k 0) = r at *
    rw [List.filter_append, List.filter_append, List.filter_cons]
    cases h2 : inTime (b.md + b.lf) r with
    | false => simp
    | true =>
      rw [h2, Bool.true_and] at h
      simp [h]
theorem allL_len (xs : List I5) (b : Bd) (ms : List Int) : (allL xs b ms).length ≤ ms.length := by unfold allL; rw [List.length_map]; exact List.length_filter_le _ _
theorem reaL_len (xs : List I5) (b : Bd) (ms : List Int) : (reaL xs b ms).length ≤ ms.length := by
  unfold reaL
  exact Nat.le_trans (List.length_filter_le _ _) (Nat.le_trans (List.length_filter_le _ _) (allL_len xs b ms))
theorem said_filter (f : Int × Int × List Int → Bool) : ∀ ps : List Rq, (ps.filter (fun p => f p.said)).map Rq.said = (ps.map Rq.said).filter f := fun ps => by rw [List.filter_map]; rfl
theorem rea_no {xs : List I5} {b : Bd} {ms : List Int} (h : reaOk xs b ms = false) : reaA xs b ms = [] := by unfold reaA; rw [h]; rfl
theorem rea_yes {xs : List I5} {b : Bd} {ms : List Int} (h : reaOk xs b ms = true) : reaA xs b ms = reaL xs b ms := by unfold reaA; rw [if_pos h]
theorem reaA_len (xs : List I5) (b : Bd) (ms : List Int) : (reaA xs b ms).length ≤ 8 := by
  unfold reaA
  split
  · next h =>
    unfold reaOk at h
    rw [Bool.and_eq_true] at h
    exact Nat.le_trans (reaL_len xs b ms) (GP.rises_len h.2)
  · simp
theorem reaA_row (xs : List I5) (b : Bd) (ms : List Int) : ∀ r, r ∈ reaA xs b ms → r.2.2.length ≤ 1048576 := by
  unfold reaA
  split
  · intro r hr
    have h1 := (List.mem_filter.1 (List.mem_filter.1 hr).1).1
    obtain ⟨m, _, rfl⟩ := List.mem_map.1 h1
    exact PN.routeL_len _ _ _ _
  · intro r hr; simp at hr
end RQ
end Go.Proofs.Ytpdmbobcbehilaa

/- What is told of a reach: its member, its time, how many contacts. -/
namespace Go.Proofs.Ytpdmbobcbehilaa
open Go.RowKit
set_option maxHeartbeats 800000 in
set_option maxRecDepth 100000 in
theorem timeRe_any (p : Rq) (w : World) : Calls Try.prog 32 #[p.v] w fun e w' => e = .returned (.int .i64 p.t) ∧ Below w.heap.size w w' := by
  obtain ⟨m, t, os, a, c⟩ := p
  have hB : ∀ o, Below w.heap.size w (w.alloc o) := fun o => (Below.refl _ w).alloc (Nat.le_refl _) o
  go_enter Try.func32, Try.ntmps32
  go_wp2
  go_ret
  exact ⟨rfl, hB _⟩
set_option maxHeartbeats 800000 in
set_option maxRecDepth 100000 in
theorem hopsRe_any (p : Rq) (w : World) : Calls Try.prog 34 #[p.v] w fun e w' => e = .returned (.int .i64 (p.os.length : Int)) ∧ Below w.heap.size w w' := by
  obtain ⟨m, t, os, a, c⟩ := p
  have hB : ∀ o, Below w.heap.size w (w.alloc o) := fun o => (Below.refl _ w).alloc (Nat.le_refl _) o
  go_enter Try.func34, Try.ntmps34
  go_wp2
  go_ret
  exact ⟨rfl, hB _⟩
end Go.Proofs.Ytpdmbobcbehilaa

/- RouteTo, the program's. -/
namespace Go.Proofs.Ytpdmbobcbehilaa
open Go.RowKit
set_option linter.unusedSimpArgs false in
set_option maxHeartbeats 3200000 in
set_option maxRecDepth 100000 in
theorem rowTo_any (a : Option Addr) (ca : Nat) (xs : List I5) (fn tn : Nat) (s : PN.St) (L : List Int) (w : World) (hok : PN.okP xs = true) (hf8 : fn < 8) (hBk : PN.Back xs fn s L tn []) (hin : MI5.RowAt w a xs) :
    Calls Try.prog 69 #[.agg (PN.jc (fn : Int) (PN.wb s) (PN.lb s)).toArray, .slice a xs.length ca, .int .i64 (tn : Int)] w fun e w' => ∃ a1 c1, e = .returned (.slice a1 L.length c1) ∧ w'.ownsRow w.heap.size 3 1 (.slice a1 L.length c1) L.length (M4.iv L) ∧ Below w.heap.size w w' := by
  obtain ⟨i0, hi, hz0, hz1, hz2⟩ := info_parts Try.info3
  have HI : Hid (MI5.RowAt w a xs) := hin
  have HOK : Hid _ := hok
  have GC : Hid (∀ k, k < xs.length → PN.Good (MI5.at_ xs k)) := fun k hk => PN.okP_good hok hk
  have HJ : Hid _ := MA.Rg.new w (PN.jc (fn : Int) (PN.wb s) (PN.lb s)) 90
  have HB0 : Hid (Below w.heap.size w (w.alloc (.cells (PN.jc (fn : Int) (PN.wb s) (PN.lb s)).toArray 90))) := (Below.refl _ w).alloc (Nat.le_refl _) _
  have HBK : Hid _ := hBk
  have RV : Hid (∀ (base g cap : Nat) (zs : List Int) (W : World), zs.length ≤ 1048576 → base ≤ W.heap.size → W.ownsRow base 3 1 (.slice (some ⟨g, 0, none⟩) zs.length cap) zs.length (M4.iv zs) → Calls Try.prog 77 #[.slice (some ⟨g, 0, none⟩) zs.length cap] W fun e w' => e = .returned (.tuple #[]) ∧ w'.ownsRow base 3 1 (.slice (some ⟨g, 0, none⟩) zs.length cap) zs.length (M4.iv zs.reverse) ∧ Below base W w') := fun base g cap zs W h1 h2 h3 => reverse_any base g cap zs W h1 h2 h3
  clear hin hok hBk
  go_enter Try.func69, Try.ntmps69
  generalize hW0 : w.alloc (.cells (PN.jc (fn : Int) (PN.wb s) (PN.lb s)).toArray 90) = W0 at HJ HB0
  have HSZ : Hid (W0.heap.size = w.heap.size + 1) := by show _ = _; rw [← hW0]; simp
  have HB1 : Hid (Below W0.heap.size W0 (W0.alloc (.cells #[] 3))) := (Below.refl _ W0).alloc (Nat.le_refl _) _
  go_wp2
  generalize hW1 : W0.alloc (.cells #[] 3) = W1 at *
  go_loopw [7, 8] (fun rv nv wr => ∃ (v : Nat) (acc : List Int) (g cap : Nat), nv = .int .i64 v ∧ rv = .slice (some ⟨g, 0, none⟩) acc.length cap ∧ Hid (PN.Back xs fn s L v acc) ∧ wr.ownsRow W0.heap.size 3 1 (.slice (some ⟨g, 0, none⟩) acc.length cap) acc.length (M4.iv acc.reverse) ∧ Below W0.heap.size W0 wr) (fun rv _ _ => 8 - PN.lenV rv)
  case atStart => exact ⟨tn, [], W0.heap.size, 0, rfl, rfl, HBK, by have h := PN.own_lit0 W0 W0.heap.size (Nat.le_refl _); rw [hW1] at h; exact h, HB1.out⟩
  case round =>
    clear HBK HB1 hW1
    obtain ⟨v, acc, g, cap, rfl, rfl, hB, hown, hb⟩ := hrel
    have hJr := MA.Rg.below HJ.out hb HJ.out.lt
    have cf : wr.cell? ⟨w.heap.size, 0, none⟩ = some (.int .i64 (fn : Int)) := by have := hJr.cell (PN.jc_f _ _ _); rwa [Nat.zero_add] at this
    have hjb := hJr.lt
    by_cases hv : v = fn
    · subst hv
      have hLe := PN.Back.end_ hB.out
      have hlen : acc.length ≤ 8 := by obtain ⟨_, m, _, _, h, _⟩ := hB.out.go; omega
      have HLE : Hid _ := hLe
      have HO : Hid (wr.ownsRow W0.heap.size 3 1 (.slice (some ⟨g, 0, none⟩) acc.length cap) acc.length (M4.iv acc.reverse)) := hown
      clear hB hown HOK GC hLe hi hz0 hz1 hz2 hJr
      have hrl : acc.reverse.length = acc.length := by simp
      have RV1 : Hid (Calls Try.prog 77 #[.slice (some ⟨g, 0, none⟩) acc.length cap] wr fun e w' => e = .returned (.tuple #[]) ∧ w'.ownsRow W0.heap.size 3 1 (.slice (some ⟨g, 0, none⟩) acc.length cap) acc.length (M4.iv acc) ∧ Below W0.heap.size wr w') := by
        have h := RV.out W0.heap.size g cap acc.reverse wr (by rw [hrl]; omega) hb.size (by rw [hrl]; exact HO.out)
        rw [hrl, List.reverse_reverse] at h
        exact h
      clear RV hrl HO
      go_wp2_with fail
      refine Calls.mono RV1.out ?_
      rintro e w3 ⟨rfl, hown3, hb3⟩
      have HO3 : Hid (w3.ownsRow W0.heap.size 3 1 (.slice (some ⟨g, 0, none⟩) acc.length cap) acc.length (M4.iv acc)) := hown3
      have HBB : Hid (Below w.heap.size w w3) := HB0.out.trans ((hb.trans hb3).mono HB0.out.size)
      clear hown3 hb3 RV1 cf
      go_wp2
      go_ret
      exact ⟨some ⟨g, 0, none⟩, cap, by rw [HLE.out]; rfl, by rw [HLE.out]; exact CS6.own_base HO3.out HB0.out.size, HBB.out⟩
    · obtain ⟨k, hk1, hk2, hk3, hk4⟩ := PN.Back.next HOK.out hB.out hv
      have hv8 := hB.out.lt
      have vv8 : (v : Int) < 8 := by omega
      have kk0 : (0 : Int) ≤ (k : Int) := by omega
      have kk1 : (k : Int) < (xs.length : Int) := by omega
      have hvf : ((v : Int) != (fn : Int)) = true := by simp; omega
      have cl : wr.cell? ⟨w.heap.size, 9 + v, none⟩ = some (.int .i64 (k : Int)) := by have := (PN.rg_l hJr hv8).1; simp only [PN.lb, hk1, PN.kI] at this; exact this
      have G := GC.out k hk2
      obtain ⟨i, hii⟩ := Int.eq_ofNat_of_zero_le G.f0
      have hin : (MI5.at_ xs k).a0.toNat = i := by rw [hii]; rfl
      rw [hin] at hk4
      obtain ⟨b4, off4, hab, hlt4, e0, -⟩ := (HI.out.below HB0.out).at hk2
      rw [hii] at e0
      have HB2 : Hid _ := hk4
      have LK : Hid (s.la v = some k) := hk1
      have HOA : Hid (World.ownsRow (wr.alloc (.cells #[.int .i64 (k : Int)] 3)) W0.heap.size 3 1 (.slice (some ⟨g, 0, none⟩) acc.length cap) acc.length (M4.iv acc.reverse)) := World.ownsRow.alloc hown (.cells #[.int .i64 (k : Int)] 3)
      have HO : Hid (World.ownsRow wr W0.heap.size 3 1 (.slice (some ⟨g, 0, none⟩) acc.length cap) acc.length (M4.iv acc.reverse)) := hown
      have hbs := hb.size
      clear hB G hin hk4 hk1 hown hJr
      go_wp2_with (at_builtin; refine wpList_append_own _ rfl _ _ 25 rfl W0.heap.size 3 i0 (.int .i64 0) 1 8 Try.underlying25 hi hz0 hz1 hz2 rfl (by decide) _ _ _ rfl HOA.out ⟨wr.heap.size, 0, none⟩ 1 1 [.int .i64 (k : Int)] rfl rfl ?c1 ?c2 ?c3 ?c4 ?c5 ?_)
      case c1 => exact M2.new1 _ _ _
      case c2 => exact M2.one1 _ _
      case c3 => unfold maxLen; omega
      case c4 => omega
      case c5 => simp; omega
      intro v' w3 hown1 hgrow hnn
      have hb3 : Below W0.heap.size W0 w3 := (hb.alloc hbs _).grown hgrow (by simp; omega) (fun j hj => (World.ownsRow.lt HO.out j hj).1)
      have hJ3 := MA.Rg.below HJ.out hb3 HJ.out.lt
      have cl3 : w3.cell? ⟨w.heap.size, 9 + v, none⟩ = some (.int .i64 (k : Int)) := by have := (PN.rg_l hJ3 hv8).1; simp only [PN.lb, LK.out, PN.kI] at this; exact this
      have hjb3 := hJ3.lt
      have c0 := (hb3.cell (p := ⟨b4, off4 + k * 5, none⟩) hlt4).trans e0
      have hb4 : b4 < w3.heap.size := Nat.lt_of_lt_of_le hlt4 hb3.size
      obtain ⟨g', cap', rfl⟩ : ∃ g' cap', v' = .slice (some ⟨g', 0, none⟩) (acc.length + 1) cap' := by
        rcases hown1.2 with ⟨h1, h2⟩ | ⟨g', cap', cur, h1, _⟩
        · omega
        · exact ⟨g', cap', h1⟩
      have R1 : Hid (w3.ownsRow W0.heap.size 3 1 (.slice (some ⟨g', 0, none⟩) ((k : Int) :: acc).length cap') ((k : Int) :: acc).length (M4.iv ((k : Int) :: acc).reverse)) := by
        show w3.ownsRow _ _ _ _ _ _
        rw [List.reverse_cons, List.length_cons]
        have e : M4.iv (acc.reverse ++ [(k : Int)]) = M4.iv acc.reverse ++ [.int .i64 (k : Int)] := by simp [M4.iv]
        rw [e]; exact hown1
      clear hown1 hgrow hnn HO HOA cl cf e0 hJ3 hb LK
      subst hab
      go_wp2
      go_roundw
      case rel => exact ⟨i, (k : Int) :: acc, g', cap', rfl, rfl, HB2, R1.out, hb3⟩
      case measure => simp [PN.lenV]; omega
set_option linter.unusedSimpArgs false in
set_option maxHeartbeats 3200000 in
set_option maxRecDepth 100000 in
theorem implRoute_any (a : Option Addr) (ca : Nat) (xs : List I5) (f n t : Int) (w : World) (hn : xs.length ≤ 1048576) (hin : MI5.RowAt w a xs) :
    Calls Try.prog 55 #[.slice a xs.length ca, .int .i64 f, .int .i64 n, .int .i64 t] w fun e w' => ∃ a1 c1, e = .returned (.tuple #[.slice a1 (PN.routeL xs f n t).length c1, .int .i64 (PN.tellN (PN.routeM xs f n t)), .bool (PN.tellB (PN.routeM xs f n t))]) ∧ w'.ownsRow w.heap.size 3 1 (.slice a1 (PN.routeL xs f n t).length c1) (PN.routeL xs f n t).length (M4.iv (PN.routeL xs f n t)) ∧ Below w.heap.size w w' := by
  have ST : Hid (∀ W : World, MI5.RowAt W a xs → Calls Try.prog 66 #[.slice a xs.length ca, .int .i64 f, .int .i64 n] W fun e w' => e = .returned (.bool (PN.startOk xs f n)) ∧ Below W.heap.size W w') := fun W h => isStart_any a ca xs f n W hn h
  have NT : Hid (∀ W : World, Calls Try.prog 52 #[.int .i64 t] W fun e w' => e = .returned (.bool (decide (0 ≤ t ∧ t ≤ 7))) ∧ W = w') := fun W => nodeI_any t W
  have HI : Hid (MI5.RowAt w a xs) := hin
  clear hin
  obtain ⟨N, hN⟩ : ∃ N, PN.tellN (PN.routeM xs f n t) = N := ⟨_, rfl⟩
  obtain ⟨T, hT⟩ : ∃ T, PN.tellB (PN.routeM xs f n t) = T := ⟨_, rfl⟩
  obtain ⟨L, hL⟩ : ∃ L, PN.routeL xs f n t = L := ⟨_, rfl⟩
  have NO : Hid (PN.askOk xs f n t = false → N = 0 ∧ T = false ∧ L = []) := fun h => by
    have hT' : PN.tellB (PN.routeM xs f n t) = false := by rw [PN.route_no h]; rfl
    rw [← hN, ← hT, ← hL, PN.routeL_no hT', PN.route_no h]; exact ⟨rfl, rfl, rfl⟩
  have YES : Hid (PN.askOk xs f n t = true → N = PN.tellN ((PN.fin xs (PN.st0 f n)).wh t.toNat) ∧ T = PN.tellB ((PN.fin xs (PN.st0 f n)).wh t.toNat) ∧ (T = false → L = []) ∧ (T = true → L = PN.way xs (PN.fin xs (PN.st0 f n)).la f.toNat 8 t.toNat)) := fun h => by
    rw [← hN, ← hT, ← hL, ← PN.route_yes h]; exact ⟨rfl, rfl, PN.routeL_no, PN.routeL_yes⟩
  rw [hN, hT, hL]
  clear hN hT hL
  obtain ⟨q3, h3⟩ : ∃ q, decide (0 ≤ t ∧ t ≤ 7) = q := ⟨_, rfl⟩
  obtain ⟨q0, h0⟩ : ∃ q, PN.startOk xs f n = q := ⟨_, rfl⟩
  have hS : PN.askOk xs f n t = (q0 && q3) := by rw [← h0, ← h3]; rfl
  rw [h0] at ST
  rw [h3] at NT
  have HS : Hid _ := hS
  clear h0 h3 hS
  go_enter Try.func55, Try.ntmps55
  go_wp2_with fail
  refine (ST.out _ HI.out).mono ?_
  rintro e w1 ⟨rfl, hb1⟩
  have HI1 : Hid (MI5.RowAt w1 a xs) := HI.out.below hb1
  clear ST HI
  cases q0 with
  | false =>
    obtain ⟨rfl, rfl, rfl⟩ := NO.out HS.out
    clear NO YES NT HS HI1
    go_wp2
    go_ret3
    exact ⟨none, 0, rfl, World.ownsRow_nil _ _ _ _, hb1⟩
  | true =>
    go_wp2_with fail
    refine (NT.out _).mono ?_
    rintro e w' ⟨rfl, rfl⟩
    clear NT
    cases q3 with
    | false =>
      obtain ⟨rfl, rfl, rfl⟩ := NO.out HS.out
      clear NO YES HS HI1
      go_wp2
      go_ret3
      exact ⟨none, 0, rfl, World.ownsRow_nil _ _ _ _, hb1⟩
    | true =>
      have hask : PN.askOk xs f n t = true := HS.out
      obtain ⟨hst, ht0, ht1⟩ := PN.ask_is hask
      obtain ⟨hok, hf0, hf1, hn0, hn1⟩ := PN.start_is hst
      have HY : Hid _ := YES.out hask
      have JF : Hid (∀ W : World, MI5.RowAt W a xs → Calls Try.prog 67 #[.slice a xs.length ca, .int .i64 f, .int .i64 n] W fun e w' => e = .returned (.agg (PN.jc f (PN.wb (PN.fin xs (PN.st0 f n))) (PN.lb (PN.fin xs (PN.st0 f n)))).toArray) ∧ Below W.heap.size W w') := fun W hr => journeyFrom_any a ca xs f n W hok hf0 hf1 hn0 hn1 hr
      have HVI : Hid (∃ rk, PN.Via xs f.toNat (PN.fin xs (PN.st0 f n)) rk) := PN.via_fin hok (PN.st0_ok hn0 hn1) (PN.ord_st0 hok) (PN.via_st0 xs hf0 hf1)
      have HOS : Hid (PN.okS (PN.fin xs (PN.st0 f n)).wh) := PN.fin_okS hok (PN.st0_ok hn0 hn1)
      have HOK : Hid _ := hok
      clear NO YES HS hask hst hok
      obtain ⟨tn, rfl⟩ := Int.eq_ofNat_of_zero_le ht0
      obtain ⟨fn, rfl⟩ := Int.eq_ofNat_of_zero_le hf0
      have ht8 : tn < 8 := by omega
      have hf8 : fn < 8 := by omega
      have tt8 : (tn : Int) < 8 := by omega
      generalize PN.fin xs (PN.st0 (fn : Int) n) = s at *
      rw [show ((tn : Int)).toNat = tn from rfl, show ((fn : Int)).toNat = fn from rfl] at HY
      rw [show ((fn : Int)).toNat = fn from rfl] at HVI
      go_wp2_with fail
      refine (JF.out _ HI1.out).mono ?_
      rintro e w2 ⟨rfl, hb2⟩
      have HRN : Hid (MA.Rg (w2.alloc (.cells (PN.jc 0 (fun _ => 0) (fun _ => 0)).toArray 90)) w2.heap.size 0 (PN.jc 0 (fun _ => 0) (fun _ => 0))) := MA.Rg.new _ _ _
      have HRP : Hid (MA.Rg ((w2.alloc (.cells (PN.jc 0 (fun _ => 0) (fun _ => 0)).toArray 90)).setCells w2.heap.size 0 (PN.jc (fn : Int) (PN.wb s) (PN.lb s))) w2.heap.size 0 (PN.jc (fn : Int) (PN.wb s) (PN.lb s))) := HRN.out.put (by rw [PN.jc_len, PN.jc_len])
      have HBP : Hid (Below w2.heap.size w2 ((w2.alloc (.cells (PN.jc 0 (fun _ => 0) (fun _ => 0)).toArray 90)).setCells w2.heap.size 0 (PN.jc (fn : Int) (PN.wb s) (PN.lb s)))) := MA.below_cells (Nat.le_refl _) _ _ _ ((Below.refl _ w2).alloc (Nat.le_refl _) _)
      have HB2 : Hid (Below w.heap.size w w2) := hb1.trans (hb2.mono hb1.size)
      have HI2 : Hid (MI5.RowAt w2 a xs) := HI1.out.below hb2
      clear JF HI1 hb1 hb2
      have TL : Hid (∀ W : World, Calls Try.prog 68 #[.float .f64 (s.wh tn).b] W fun e w' => e = .returned (.tuple #[.int .i64 (PN.tellN (s.wh tn)), .bool (PN.tellB (s.wh tn))]) ∧ W = w') := fun W => tell_any _ W (.inr (HOS.out tn))
      go_wp2_with (first
        | (refine MA.alloc_z rfl 90 rfl _ _ Try.infoJ ?_)
        | (refine MA.store_m rfl 90 _ _ rfl rfl rfl (vs := PN.jc (fn : Int) (PN.wb s) (PN.lb s)) (cs := PN.jc 0 (fun _ => 0) (fun _ => 0)) ?_ Try.sizeJ (PN.jc_len _ _ _) (PN.jc_len _ _ _) (PN.jc_one _ _ _) ?_; exact HRN.out; clear HRN; generalize World.setCells _ _ _ _ = W3 at *; have ct : W3.cell? ⟨w2.heap.size, 1 + tn, none⟩ = some (.float .f64 (s.wh tn).b) := (PN.rg_w HRP.out ht8).1; have hl3 := HRP.out.lt))
      refine (TL.out _).mono ?_
      rintro e w' ⟨rfl, rfl⟩
      have HB3 : Hid (Below w.heap.size w W3) := HB2.out.trans (HBP.out.mono HB2.out.size)
      have HI3 : Hid (MI5.RowAt W3 a xs) := HI2.out.below HBP.out
      clear TL ct HBP HI2 HB2
      generalize w2.heap.size = jb at *
      have okt := HOS.out tn
      cases hm : s.wh tn with
      | ago => rw [hm] at okt; exact absurd okt id
      | inf =>
        rw [hm] at HY
        obtain ⟨rfl, rfl, hLL, -⟩ := HY.out
        obtain rfl := hLL rfl
        clear HY HOK HVI HOS HRP HI3 hm okt
        go_wp2
        go_ret3
        exact ⟨none, 0, rfl, World.ownsRow_nil _ _ _ _, HB3.out⟩
      | fin p =>
        rw [hm] at HY
        obtain ⟨hNp, hTp, -, hLL⟩ := HY.out
        have hTp' : T = true := hTp
        have hLw := hLL hTp'
        obtain ⟨rk, hV⟩ := HVI.out
        have HB : PN.Back xs fn s L tn [] := by rw [hLw]; exact PN.Back.start hV ht8 hm
        have RT : Hid (∀ W : World, MI5.RowAt W a xs → Calls Try.prog 69 #[.agg (PN.jc (fn : Int) (PN.wb s) (PN.lb s)).toArray, .slice a xs.length ca, .int .i64 (tn : Int)] W fun e w' => ∃ a1 c1, e = .returned (.slice a1 L.length c1) ∧ w'.ownsRow W.heap.size 3 1 (.slice a1 L.length c1) L.length (M4.iv L) ∧ Below W.heap.size W w') := fun W hr => rowTo_any a ca xs fn tn s L W HOK.out hf8 HB hr
        have HN : Hid (PN.tellN (.fin p) = N) := hNp.symm
        have HT : Hid (T = true) := hTp'
        clear HY hLL hV HVI HOS hm hLw HB hNp hTp hTp' HOK okt
        rw [show PN.tellB (.fin p) = true from rfl, HN.out]
        go_wp2_with (refine MA.load_m rfl 90 _ rfl rfl (cs := PN.jc (fn : Int) (PN.wb s) (PN.lb s)) ?_ Try.underlying90 rfl Try.sizeJ (PN.jc_len _ _ _) ?_; exact HRP.out; clear HRP)
        refine (RT.out _ HI3.out).mono ?_
        rintro e w4 ⟨a1, c1, rfl, hown4, hb4⟩
        have HO4 : Hid _ := hown4
        have HB4 : Hid (Below w.heap.size w w4) := HB3.out.trans (hb4.mono HB3.out.size)
        clear RT hown4 hb4
        go_wp2
        go_ret3
        exact ⟨a1, c1, by rw [HT.out]; rfl, CS6.own_base HO4.out HB3.out.size, HB4.out⟩
end Go.Proofs.Ytpdmbobcbehilaa

/- Who is reached, the specification's: l17Reach, l17Ask, ReachAll. -/
namespace Go.Proofs.Ytpdmbobcbehilaa
open Go.RowKit
set_option linter.unusedSimpArgs false in
set_option maxHeartbeats 3200000 in
set_option maxRecDepth 100000 in
theorem l17Reach_any (a d : Option Addr) (cap cd : Nat) (xs : List I5) (b : Bd) (ms : List Int) (w : World) (hf : GP.fitsB xs b = true) (hm : ms.length ≤ 8) (hn : xs.length ≤ 1048576) (hin : MI5.RowAt w a xs) (hin2 : M4.IntsAt w d ms) :
    Calls Try.prog 26 #[.slice a xs.length cap, b.v, .slice d ms.length cd] w fun e w' => ∃ a1 c1 ps, e = .returned (.slice a1 (List.length ps) c1) ∧ RQ.Own 59 w' w.heap.size (.slice a1 ps.length c1) ps ∧ ps.map Rq.said = RQ.reaL xs b ms ∧ Below w.heap.size w w' := by
  obtain ⟨i2, hi', hz0', hz1', hz2'⟩ := info_parts Try.infoRc
  have P2 : Hid (∀ (t : Int) (W : World), Below w.heap.size w W → Calls Try.prog 49 #[.slice a xs.length cap, .int .i64 b.fr, .int .i64 b.md, .int .i64 t] W fun e w' => ∃ a1 c1, e = .returned (.tuple #[.slice a1 (PN.routeL xs b.fr b.md t).length c1, .int .i64 (PN.tellN (PN.routeM xs b.fr b.md t)), .bool (PN.tellB (PN.routeM xs b.fr b.md t))]) ∧ w'.ownsRow W.heap.size 3 1 (.slice a1 (PN.routeL xs b.fr b.md t).length c1) (PN.routeL xs b.fr b.md t).length (M4.iv (PN.routeL xs b.fr b.md t)) ∧ Below W.heap.size W w') := fun t W h => specRoute_any a cap xs b.fr b.md t W hn (hin.below h)
  have HMS : Hid (M4.IntsAt w d ms) := hin2
  obtain ⟨_, _, _, _, ⟨hm0, hm1⟩, ⟨hf0, hf1⟩, _⟩ := GP.fits_is hf
  have YES : Hid (∀ k, k < ms.length → PN.tellB (PN.routeM xs b.fr b.md (ms.getD k 0)) = true → decide (PN.tellN (PN.routeM xs b.fr b.md (ms.getD k 0)) ≤ b.md + b.lf) = true → decide (((PN.routeL xs b.fr b.md (ms.getD k 0)).length : Int) ≤ b.hp) = true → RQ.reaL xs b (ms.take (k + 1)) = RQ.reaL xs b (ms.take k) ++ [(ms.getD k 0, PN.tellN (PN.routeM xs b.fr b.md (ms.getD k 0)), PN.routeL xs b.fr b.md (ms.getD k 0))]) := fun k hk h1 h2 h3 => RQ.reaL_yes hk (by unfold RQ.okOne RQ.there RQ.inTime RQ.near RQ.one; rw [h1, h2, h3]; rfl)
  have NO : Hid (∀ k, k < ms.length → (PN.tellB (PN.routeM xs b.fr b.md (ms.getD k 0)) && decide (PN.tellN (PN.routeM xs b.fr b.md (ms.getD k 0)) ≤ b.md + b.lf) && decide (((PN.routeL xs b.fr b.md (ms.getD k 0)).length : Int) ≤ b.hp)) = false → RQ.reaL xs b (ms.take (k + 1)) = RQ.reaL xs b (ms.take k)) := fun k hk h => RQ.reaL_no hk h
  have ML : Hid (∀ k, (RQ.reaL xs b (ms.take k)).length ≤ 8) := fun k => by have := RQ.reaL_len xs b (ms.take k); rw [List.length_take] at this; omega
  have RL : Hid (∀ t, (PN.routeL xs b.fr b.md t).length ≤ 1048576) := fun t => PN.routeL_len _ _ _ _
  have Z0 : Hid (RQ.reaL xs b (ms.take 0) = []) := (show _ = _ from by rw [List.take_zero]; rfl)
  have ZN : Hid (RQ.reaL xs b (ms.take ms.length) = RQ.reaL xs b ms) := (show _ = _ from by rw [List.take_length])
  have BA := BdAt.box w b 33
  have BB := (Below.refl _ w).alloc (Nat.le_refl _) (.cells #[.int .i64 b.fr, .int .i64 b.to, .bool b.gr, .int .i64 b.md, .int .i64 b.no, .int .i64 b.lf, .int .i64 b.hp, .int .i64 b.of, .int .i64 b.tl, .string b.py] 33)
  clear hin hin2 hf
  generalize RQ.reaL xs b ms = R at *
  generalize hR : (fun k => RQ.reaL xs b (ms.take k)) = RK at *
  have e1 : ∀ k, RQ.reaL xs b (ms.take k) = RK k := fun k => by rw [← hR]
  clear hR
  simp only [e1] at YES NO ML Z0 ZN
  clear e1
  generalize hR : (fun t => PN.routeM xs b.fr b.md t) = RM at *
  have e1 : ∀ t, PN.routeM xs b.fr b.md t = RM t := fun t => by rw [← hR]
  clear hR
  simp only [e1] at P2 YES NO
  clear e1
  generalize hR : (fun t => PN.routeL xs b.fr b.md t) = RT at *
  have e1 : ∀ t, PN.routeL xs b.fr b.md t = RT t := fun t => by rw [← hR]
  clear hR
  simp only [e1] at P2 YES NO RL
  clear e1
  obtain ⟨fr, to, gr, md, no, lf, hp, of, tl, py⟩ := b
  go_enter Try.func26, Try.ntmps26
  generalize hW1 : w.alloc _ = W1 at *
  go_wp2
  go_loopw [7, 9, 10, 11, 12, 15] (fun u _ _ _ _ iv wr => ∃ (k : Nat) (ps : List Rq), iv = .int .i64 k ∧ k ≤ ms.length ∧ Hid (ps.map Rq.said = RK k) ∧ Hid (RQ.Own 59 wr W1.heap.size u ps) ∧ Below W1.heap.size W1 wr) (fun _ _ _ _ _ iv _ => (ms.length - intOf iv).toNat)
  case atStart => exact ⟨0, [], rfl, by omega, by show _ = _; rw [Z0.out]; rfl, RQ.Own.nil _ _ _, Below.refl _ _⟩
  case round =>
    obtain ⟨k, ps, rfl, hk, hP, hO, hb⟩ := hrel
    have BA2 := BA.below hb BA.1
    have BB2 := BB.trans (hb.mono BB.size)
    have hbs := hb.size
    have hps : ps.length ≤ 8 := by have := congrArg List.length hP.out; rw [List.length_map] at this; rw [this]; exact ML.out k
    by_cases hlk : k < ms.length
    · obtain ⟨b1, off1, hd1, hlt1, hc1⟩ := M4.IntsAt.at (M4.IntsAt.below HMS.out BB2) hlk
      have Y1 : Hid _ := YES.out k hlk
      have N1 : Hid _ := NO.out k hlk
      generalize ms.getD k 0 = z at *
      have P2' : Hid (Calls _ _ _ _ _) := P2.out z wr BB2
      have hrl := RL.out z
      generalize RT z = L at *
      generalize PN.tellN (RM z) = tn at *
      generalize hTB : PN.tellB (RM z) = T at *
      clear hTB
      obtain ⟨hlt, c0, c1, c2, c3, c4, c5, c6, c7, c8, c9⟩ := id BA2
      clear c1 c2 c4 c5 c6 c7 c8 c9
      subst hd1
      go_wp2_with fail
      refine Calls.mono P2'.out ?_
      rintro e w2 ⟨a2, ca2, rfl, ho2, hb2⟩
      clear c0 c3 hlt hc1 P2'
      have BA3 := BA2.below hb2 BA2.1
      have BB3 := BB2.trans (hb2.mono BB2.size)
      have HB3 : Hid (Below W1.heap.size W1 w2) := hb.trans (hb2.mono hbs)
      have HO2 : Hid _ := hO.out.below hb2
      have HN2 : Hid (NR.In w2 wr.heap.size a2 L) := NR.In.of_own ho2
      have HOLD : Hid _ := hO.out.rows.lt
      have hb2s := hb2.size
      clear hb2 ho2 BA2 hO
      obtain ⟨hlt, c0, c1, c2, c3, c4, c5, c6, c7, c8, c9⟩ := id BA3
      clear c0 c1 c2 c4 c7 c8 c9
      cases T with
      | false =>
        have HR : Hid (RK (k + 1) = RK k) := N1.out (by simp)
        clear Y1 N1 HN2 HOLD
        go_wp2
        go_roundw
        case rel => exact ⟨k + 1, ps, by go_num, by omega, by show _ = _; rw [HR.out]; exact hP.out, HO2, HB3.out⟩
        case measure => simp [intOf]; omega
      | true =>
        cases h1 : decide (tn ≤ md + lf) with
        | false =>
          have HR : Hid (RK (k + 1) = RK k) := N1.out (by simp [h1])
          clear Y1 N1 HN2 HOLD
          go_wp2
          go_roundw
          case rel => exact ⟨k + 1, ps, by go_num, by omega, by show _ = _; rw [HR.out]; exact hP.out, HO2, HB3.out⟩
          case measure => simp [intOf]; omega
        | true =>
          cases h2 : decide ((L.length : Int) ≤ hp) with
          | false =>
            have HR : Hid (RK (k + 1) = RK k) := N1.out (by simp [h2])
            clear Y1 N1 HN2 HOLD
            go_wp2
            go_roundw
            case rel => exact ⟨k + 1, ps, by go_num, by omega, by show _ = _; rw [HR.out]; exact hP.out, HO2, HB3.out⟩
            case measure => simp [intOf]; omega
          | true =>
            have HR : Hid (RK (k + 1) = RK k ++ [(z, tn, L)]) := Y1.out (by first | rfl | trivial) h1 h2
            have HP : Hid _ := hP.out
            clear Y1 N1 hP
            have HLIT : Hid (RQ.Own 59 (w2.alloc (.cells #[.int .i64 z, .int .i64 tn, .slice a2 L.length ca2] 59)) W1.heap.size u7 ps) := HO2.out.below ((Below.refl _ w2).alloc (Nat.le_refl _) _)
            go_wp2_with (at_builtin; refine wpList_append_own _ rfl _ _ 28 rfl W1.heap.size 59 i2 (.agg #[.int .i64 0, .int .i64 0, .slice none 0 0]) 3 40 Try.underlying28 hi' hz0' hz1' hz2' rfl (by decide) _ _ _ rfl HLIT.out.out ⟨w2.heap.size, 0, none⟩ 1 1 [.int .i64 z, .int .i64 tn, .slice a2 L.length ca2] rfl rfl ?c1 ?c2 ?c3 ?c4 ?c5 ?_)
            case c1 => exact RQ.new3 _ _ _ _ _ _ rfl
            case c2 => exact RQ.one3 ⟨z, tn, L, a2, ca2⟩
            case c3 => unfold maxLen; omega
            case c4 => omega
            case c5 => have := HB3.out.size; simp; omega
            intro v' w6 hown1 hgrow _
            have HS : Hid (RQ.Own 59 w6 W1.heap.size v' (ps ++ [⟨z, tn, L, a2, ca2⟩])) := RQ.Own.snoc (q := ⟨z, tn, L, a2, ca2⟩) (by decide) HLIT.out (HN2.out.below ((Below.refl _ w2).alloc (Nat.le_refl _) _)) (by have := BB2.size; omega) HOLD.out hgrow hown1
            have HB6 : Hid (Below W1.heap.size W1 w6) := (HB3.out.alloc HB3.out.size _).grown hgrow (by have := HB3.out.size; simp; omega) (fun j hj => (HLIT.out.out.lt j hj).1)
            have hsl : (ps ++ [(⟨z, tn, L, a2, ca2⟩ : Rq)]).map Rq.said = RK (k + 1) := by rw [HR.out, List.map_append, HP.out]; rfl
            have HSL : Hid _ := hsl
            clear hown1 hgrow HLIT HN2 HOLD HO2 HP HR hsl
            generalize ps ++ [(⟨z, tn, L, a2, ca2⟩ : Rq)] = qs at *
            go_wp2
            go_roundw
            case rel => exact ⟨k + 1, qs, by go_num, by omega, HSL, HS, HB6.out⟩
            case measure => simp [intOf]; omega
    · obtain rfl : k = ms.length := by omega
      have HL : Hid (ps.map Rq.said = R) := by show _ = _; rw [hP.out, ZN.out]
      obtain ⟨a1, c1, rfl, -⟩ := hO.out.view
      clear P2 YES NO ML RL Z0 ZN BA BA2 hP
      go_wp2
      go_ret
      exact ⟨a1, c1, ps, rfl, hO.out.mono BB.size, HL.out, BB2⟩
set_option linter.unusedSimpArgs false in
set_option maxHeartbeats 1600000 in
set_option maxRecDepth 100000 in
theorem l17Ask_any (a d : Option Addr) (cap cd : Nat) (xs : List I5) (b : Bd) (ms : List Int) (w : World) (hm : ms.length ≤ 1048576) (hn : xs.length ≤ 1048576) (hs : b.py.size ≤ 1048576) (hin : MI5.RowAt w a xs) (hin2 : M4.IntsAt w d ms) :
    Calls Try.prog 25 #[.slice a xs.length cap, b.v, .slice d ms.length cd] w fun e w' => e = .returned (.bool (RQ.reaOk xs b ms)) ∧ Below w.heap.size w w' := by
  have P1 : Hid (∀ W : World, Below w.heap.size w W → Calls Try.prog 47 #[.slice a xs.length cap, b.v] W fun e w' => e = .returned (.bool (GP.fitsB xs b)) ∧ Below W.heap.size W w') := fun W h => fitsS_any a cap xs b W hn hs (hin.below h)
  have P2 : Hid (∀ W : World, Below w.heap.size w W → Calls Try.prog 48 #[.slice d ms.length cd, .int .i64 8] W fun e w' => e = .returned (.bool (EG.rises 8 ms)) ∧ Below W.heap.size W w') := fun W h => l1Some_any d cd 8 ms W (by omega) hm (M4.IntsAt.below hin2 h) _ rfl
  have HR : Hid (RQ.reaOk xs b ms = (GP.fitsB xs b && EG.rises 8 ms)) := show RQ.reaOk xs b ms = _ from rfl
  have BA := BdAt.box w b 33
  have BB := (Below.refl _ w).alloc (Nat.le_refl _) (.cells #[.int .i64 b.fr, .int .i64 b.to, .bool b.gr, .int .i64 b.md, .int .i64 b.no, .int .i64 b.lf, .int .i64 b.hp, .int .i64 b.of, .int .i64 b.tl, .string b.py] 33)
  clear hin hin2
  generalize RQ.reaOk xs b ms = R at *
  generalize GP.fitsB xs b = q1 at *
  generalize EG.rises 8 ms = q2 at *
  obtain ⟨fr, to, gr, md, no, lf, hp, of, tl, py⟩ := b
  obtain ⟨hlt, c0, c1, c2, c3, c4, c5, c6, c7, c8, c9⟩ := id BA
  go_enter Try.func25, Try.ntmps25
  go_wp2_with fail
  refine (P1.out _ BB).mono ?_
  rintro e w1 ⟨rfl, hb1⟩
  clear c0 c1 c2 c3 c4 c5 c6 c7 c8 c9 hlt P1
  have BB1 := BB.trans (hb1.mono BB.size)
  clear hb1 BA BB
  cases q1 with
  | false =>
    have hR : R = false := HR.out
    subst hR
    clear P2 HR
    go_wp2
    go_ret
    exact ⟨rfl, BB1⟩
  | true =>
    have hR : R = q2 := HR.out
    subst hR
    go_wp2_with fail
    refine (P2.out _ BB1).mono ?_
    rintro e w2 ⟨rfl, hb2⟩
    have BB2 := BB1.trans (hb2.mono BB1.size)
    clear P2 HR hb2
    go_wp2
    go_ret
    exact ⟨rfl, BB2⟩
set_option linter.unusedSimpArgs false in
set_option maxHeartbeats 1600000 in
set_option maxRecDepth 100000 in
theorem reachS_any (a d : Option Addr) (cap cd : Nat) (xs : List I5) (b : Bd) (ms : List Int) (w : World) (hm : ms.length ≤ 1048576) (hn : xs.length ≤ 1048576) (hs : b.py.size ≤ 1048576) (hin : MI5.RowAt w a xs) (hin2 : M4.IntsAt w d ms) :
    Calls Try.prog 8 #[.slice a xs.length cap, b.v, .slice d ms.length cd] w fun e w' => ∃ a1 c1 ps, e = .returned (.tuple #[.slice a1 (List.length ps) c1, .bool (RQ.reaOk xs b ms)]) ∧ RQ.Own 59 w' w.heap.size (.slice a1 ps.length c1) ps ∧ ps.map Rq.said = RQ.reaA xs b ms ∧ Below w.heap.size w w' := by
  have P1 : Hid (∀ W : World, Below w.heap.size w W → Calls Try.prog 25 #[.slice a xs.length cap, b.v, .slice d ms.length cd] W fun e w' => e = .returned (.bool (RQ.reaOk xs b ms)) ∧ Below W.heap.size W w') := fun W h => l17Ask_any a d cap cd xs b ms W hm hn hs (hin.below h) (M4.IntsAt.below hin2 h)
  have P2 : Hid (RQ.reaOk xs b ms = true → ∀ W : World, Below w.heap.size w W → Calls Try.prog 26 #[.slice a xs.length cap, b.v, .slice d ms.length cd] W fun e w' => ∃ a1 c1 ps, e = .returned (.slice a1 (List.length ps) c1) ∧ RQ.Own 59 w' W.heap.size (.slice a1 ps.length c1) ps ∧ ps.map Rq.said = RQ.reaA xs b ms ∧ Below W.heap.size W w') := fun hq W h => by
    rw [RQ.rea_yes hq]
    have hq' := hq
    unfold RQ.reaOk at hq'
    rw [Bool.and_eq_true] at hq'
    exact l17Reach_any a d cap cd xs b ms W hq'.1 (GP.rises_len hq'.2) hn (hin.below h) (M4.IntsAt.below hin2 h)
  have NO : Hid (RQ.reaOk xs b ms = false → RQ.reaA xs b ms = []) := fun h => RQ.rea_no h
  have BA := BdAt.box w b 33
  have BB := (Below.refl _ w).alloc (Nat.le_refl _) (.cells #[.int .i64 b.fr, .int .i64 b.to, .bool b.gr, .int .i64 b.md, .int .i64 b.no, .int .i64 b.lf, .int .i64 b.hp, .int .i64 b.of, .int .i64 b.tl, .string b.py] 33)
  clear hin hin2
  generalize RQ.reaOk xs b ms = R at *
  generalize RQ.reaA xs b ms = L at *
  obtain ⟨fr, to, gr, md, no, lf, hp, of, tl, py⟩ := b
  obtain ⟨hlt, c0, c1, c2, c3, c4, c5, c6, c7, c8, c9⟩ := id BA
  go_enter Try.func8, Try.ntmps8
  go_wp2_with fail
  refine (P1.out _ BB).mono ?_
  rintro e w1 ⟨rfl, hb1⟩
  clear c0 c1 c2 c3 c4 c5 c6 c7 c8 c9 hlt P1
  have BA1 := BA.below hb1 BA.1
  have BB1 := BB.trans (hb1.mono BB.size)
  clear hb1 BA BB
  cases R with
  | false =>
    have HL : Hid (L = []) := NO.out rfl
    clear P2 NO BA1
    go_wp2
    exact bodyPost_ret (v := .tuple #[.slice none 0 0, .bool false]) (by simp [results, Try.results8, go_sem]) rfl ⟨none, 0, [], rfl, RQ.Own.nil _ _ _, HL.out.symm, BB1⟩
  | true =>
    have P2' : Hid _ := P2.out (by first | rfl | trivial)
    clear P2 NO
    obtain ⟨hlt, c0, c1, c2, c3, c4, c5, c6, c7, c8, c9⟩ := id BA1
    go_wp2_with fail
    refine (P2'.out _ BB1).mono ?_
    rintro e w2 ⟨a2, c2', ps, rfl, ho, hL, hb2⟩
    clear c0 c1 c2 c3 c4 c5 c6 c7 c8 c9 hlt P2'
    have BB2 := BB1.trans (hb2.mono BB1.size)
    have HO : Hid _ := ho.mono BB1.size
    have HL : Hid _ := hL
    clear ho hL hb2 BA1
    go_wp2
    exact bodyPost_ret (v := .tuple #[.slice a2 ps.length c2', .bool true]) (by simp [results, Try.results8, go_sem]) rfl ⟨a2, c2', ps, rfl, HO.out, HL.out, BB2⟩
end Go.Proofs.Ytpdmbobcbehilaa

/- Reaches filtered in their own place: plain facts. -/
namespace Go.Proofs.Ytpdmbobcbehilaa
open Go.RowKit
namespace RQ
theorem wpList_append_room {P : Program} {w w' : World} {ops : Array Oper} {rest : List Oper} {o : Oper} {a : Act} {Q : Exit → Act → World → Prop} (hgd : o.guard = none) (s x : Operand) (t : TypeId) (v u v' : Value)
    (ho : o.op = .call { callee := .builtin .append, args := #[s, x], argTypes := #[t, t] }) (hrun : ∀ ty, (Builtin.append_ #[t, t] ty #[v, u]).run P w = .ok v' w') (hs : a.eval s = v) (hx : a.eval x = u)
    (h : wpList P ops Q rest (a.put o.dst v') w') : wpList P ops Q (o :: rest) a w := by
  refine wpList_plain hgd fun K hK => ?_
  unfold Oper.wp
  simp [execOp, ho, resolve, invoke, builtin, hs, hx, hrun, Result.andThen]
  exact hK _ _ h
theorem set3_take : ∀ (cur : List Value) (j : Nat) (x y z : Value), j + 3 ≤ cur.length → (((cur.set j x).set (j + 1) y).set (j + 2) z).take (j + 3) = cur.take j ++ [x, y, z]
  | [], j, _, _, _, h => by simp at h
  | [_], 0, _, _, _, h => by simp at h
  | [_, _], 0, _, _, _, h => by simp at h
  | _ :: _ :: _ :: _, 0, _, _, _, _ => by simp
  | u :: l, j + 1, x, y, z, h => by
    have ih := set3_take l j x y z (by simpa using h)
    rw [List.set_cons_succ, List.set_cons_succ, List.set_cons_succ, show j + 1 + 3 = (j + 3) + 1 by omega, List.take_succ_cons, ih]; rfl
/-- 'clear' of a slice of structs of three cells. -/
theorem run_clear3 {P : Program} (w : World) (t e ty : TypeId) (x y z : Value) (ht : P.underlying t = some (.slice e)) (hv : ∀ w, (zeroValue e).run P w = .ok (.agg #[x, y, z]) w) (h1 : x.oneCell' = true ∧ y.oneCell' = true ∧ z.oneCell' = true) (hc3 : (Value.agg #[x, y, z]).cells = #[x, y, z]) (b o n c : Nat) (hn : 0 < n)
    (hc : ∀ j, j < n * 3 → (w.cell? ⟨b, o + j, none⟩).isSome = true) (hf : ∀ j, j < n * 3 → w.frozen? ⟨b, o + j, none⟩ = false) :
    (Builtin.clear_ #[t] ty #[.slice (some ⟨b, o, none⟩) n c]).run P w = .ok (.tuple #[]) (w.setCells b o (Builtin.zeroCells #[x, y, z] n).toList) := by
  have hl : (Builtin.zeroCells #[x, y, z] n).toList.length = n * 3 := by simp [Builtin.zeroCells]
  have hst := run_storeCells_cells (P := P) b o (Builtin.zeroCells #[x, y, z] n).toList 0 w (fun j hj => by rw [hl] at hj; simpa using hc j hj) (fun j hj => by rw [hl] at hj; simpa using hf j hj) (fun v hv' => by
    simp only [Builtin.zeroCells, Array.toList_map, List.mem_map] at hv'
    obtain ⟨i, _, rfl⟩ := hv'
    have h3 : i % 3 = 0 ∨ i % 3 = 1 ∨ i % 3 = 2 := by omega
    rcases h3 with h | h | h <;> simp [h, h1.1, h1.2.1, h1.2.2])
  simp only [Nat.add_zero] at hst
  obtain ⟨m, rfl⟩ : ∃ m, n = m + 1 := ⟨n - 1, by omega⟩
  simp [Builtin.clear_, run_underlying ht, hv, hc3, hst]
/-- The state while they are gone through: the block, those that are kept, those still to come. -/
structure Flt (T : TypeId) (w : World) (B g cap : Nat) (ps : List Rq) (f : Rq → Bool) (k : Nat) (ks : List Rq) : Prop where
  is : ks = (ps.take k).filter f
  own : ∃ cur, w.ownsRow B T 3 (.slice (some ⟨g, 0, none⟩) ps.length cap) ps.length cur ∧ cur.take (ks.length * 3) = flat ks ∧ cur.drop (k * 3) = (flat ps).drop (k * 3)
theorem Flt.start {T : TypeId} {w : World} {B g cap : Nat} {ps : List Rq} (f : Rq → Bool) (h : w.ownsRow B T 3 (.slice (some ⟨g, 0, none⟩) ps.length cap) ps.length (flat ps)) : Flt T w B g cap ps f 0 [] := ⟨by simp, _, h, by simp [flat], rfl⟩
theorem Flt.len {T : TypeId} {w : World} {B g cap : Nat} {ps : List Rq} {f : Rq → Bool} {k : Nat} {ks : List Rq} (h : Flt T w B g cap ps f k ks) : ks.length ≤ k := by
  rw [h.is]
  exact Nat.le_trans (List.length_filter_le _ _) (by rw [List.length_take]; omega)
theorem Flt.below {T : TypeId} {w w' : World} {B g cap : Nat} {ps : List Rq} {f : Rq → Bool} {k : Nat} {ks : List Rq} (h : Flt T w B g cap ps f k ks) (hb : Below w.heap.size w w') : Flt T w' B g cap ps f k ks := by
  obtain ⟨cur, h1, h2, h3⟩ := h.own
  exact ⟨h.is, cur, M5.own_below h1 hb, h2, h3⟩
/-- The next one's cells. -/
theorem Flt.next {T : TypeId} {w : World} {B g cap : Nat} {ps : List Rq} {f : Rq → Bool} {k : Nat} {ks : List Rq} (h : Flt T w B g cap ps f k ks) (hk : k < ps.length) : w.cell? ⟨g, k * 3, none⟩ = some (.int .i64 (at_ ps k).m) ∧ w.cell? ⟨g, k * 3 + 1, none⟩ = some (.int .i64 (at_ ps k).t) ∧ w.cell? ⟨g, k * 3 + 2, none⟩ = some (.slice (at_ ps k).a (at_ ps k).os.length (at_ ps k).c) ∧ g < w.heap.size := by
  obtain ⟨cur, h1, h2, h3⟩ := h.own
  obtain ⟨f0, f1, f2⟩ := flat_get ps k hk
  have e : ∀ j, cur[k * 3 + j]? = (flat ps)[k * 3 + j]? := fun j => by
    have := congrArg (fun l => l[j]?) h3
    simpa [List.getElem?_drop] using this
  exact ⟨(h1.cellAt (k * 3) (by omega)).trans ((e 0).trans f0), (h1.cellAt (k * 3 + 1) (by omega)).trans ((e 1).trans f1), (h1.cellAt (k * 3 + 2) (by omega)).trans ((e 2).trans f2), (h1.lt g rfl).2⟩
theorem Flt.out {T : TypeId} {w : World} {B g cap : Nat} {ps : List Rq} {f : Rq → Bool} {k : Nat} {ks : List Rq} (h : Flt T w B g cap ps f k ks) (hk : k < ps.length) (hf : f (at_ ps k) = false) : Flt T w B g cap ps f (k + 1) ks := by
  obtain ⟨cur, h1, h2, h3⟩ := h.own
  refine ⟨?_, cur, h1, h2, ?_⟩
  · rw [List.take_succ_eq_append_getElem hk, List.filter_append, ← at_eq hk, List.filter_cons, hf, h.is]; simp
  · have := congrArg (List.drop 3) h3
    rw [List.drop_drop, List.drop_drop] at this
    rw [show (k + 1) * 3 = k * 3 + 3 by omega]; exact this
theorem Flt.keep {T : TypeId} {w : World} {B g cap : Nat} {ps : List Rq} {f : Rq → Bool} {k : Nat} {ks : List Rq} (h : Flt T w B g cap ps f k ks) (hk : k < ps.length) (hf : f (at_ ps k) = true) : Flt T (w.setCells g (ks.length * 3) (at_ ps k).cs) B g cap ps f (k + 1) (ks ++ [at_ ps k]) := by
  have hl := h.len
  obtain ⟨cur, h1, h2, h3⟩ := h.own
  have hcl : cur.length = ps.length * 3 := h1.1
  have hfl := flat_len ks
  refine ⟨?_, (((cur.set (ks.length * 3) (.int .i64 (at_ ps k).m)).set (ks.length * 3 + 1) (.int .i64 (at_ ps k).t)).set (ks.length * 3 + 2) (.slice (at_ ps k).a (at_ ps k).os.length (at_ ps k).c)), ?_, ?_, ?_⟩
  · rw [List.take_succ_eq_append_getElem hk, List.filter_append, ← at_eq hk, List.filter_cons, if_pos hf, h.is]; simp
  · exact ((h1.stored (ks.length * 3) (.int .i64 (at_ ps k).m)).1.stored (ks.length * 3 + 1) (.int .i64 (at_ ps k).t)).1.stored (ks.length * 3 + 2) (.slice (at_ ps k).a (at_ ps k).os.length (at_ ps k).c) |>.1
  · rw [flat_app, List.length_append, List.length_singleton, show (ks.length + 1) * 3 = ks.length * 3 + 3 by omega, ← h2]
    rw [set3_take cur (ks.length * 3) _ _ _ (by omega)]
    simp only [flat, List.append_nil]
  · rw [show (k + 1) * 3 = k * 3 + 3 by omega]
    have h4 : cur.drop (k * 3 + 3) = (flat ps).drop (k * 3 + 3) := by
      have := congrArg (List.drop 3) h3
      rwa [List.drop_drop, List.drop_drop] at this
    rw [List.drop_set_of_lt (by omega), List.drop_set_of_lt (by omega), List.drop_set_of_lt (by omega), h4]
theorem Flt.room {T : TypeId} {w : World} {B g cap : Nat} {ps : List Rq} {f : Rq → Bool} {k : Nat} {ks : List Rq} (h : Flt T w B g cap ps f k ks) {o : Nat} (ho : o < ps.length * 3) : (w.cell? ⟨g, o, none⟩).isSome = true ∧ w.frozen? ⟨g, o, none⟩ = false := by
  obtain ⟨cur, h1, _, _⟩ := h.own
  refine ⟨?_, h1.frozenAt o⟩
  rw [h1.cellAt o ho, List.getElem?_eq_getElem (by rw [h1.1]; exact ho)]; rfl
theorem Flt.caps {T : TypeId} {w : World} {B g cap : Nat} {ps : List Rq} {f : Rq → Bool} {k : Nat} {ks : List Rq} (h : Flt T w B g cap ps f k ks) : ps.length ≤ cap ∧ cap ≤ maxLen ∧ B ≤ g ∧ g < w.heap.size := by
  obtain ⟨cur, h1, _, _⟩ := h.own
  refine ⟨?_, ?_, (h1.lt g rfl).1, (h1.lt g rfl).2⟩ <;>
  · rcases h1.2 with ⟨h, _⟩ | ⟨g', c', cur, hv, _, _, h1, h2, _⟩
    · cases h
    · cases hv; assumption
/-- What was kept, behind the clearing. -/
theorem Flt.done {T : TypeId} (hT : T ≠ 3) {w : World} {B g cap : Nat} {ps : List Rq} {f : Rq → Bool} {ks : List Rq} (h : Flt T w B g cap ps f ps.length ks) (hr : Rows w B ps) (vs : List Value) : ks = ps.filter f ∧ Own T (w.setCells g (ks.length * 3) vs) B (.slice (some ⟨g, 0, none⟩) ks.length cap) ks ∧ MC.Only g w (w.setCells g (ks.length * 3) vs) := by
  have hi := h.is
  rw [List.take_length] at hi
  have hl := h.len
  obtain ⟨cur, h1, h2, h3⟩ := h.own
  obtain ⟨cur', h4, h5, h6⟩ := own_cells vs (ks.length * 3) w cur h1
  refine ⟨hi, ⟨own_first h4 rfl hl (h5.trans h2), ?_⟩, h6⟩
  have := (hr.filter f).only hT h1 h6
  rw [← hi] at this
  exact this
theorem Flt.none_ {T : TypeId} {w : World} {B g cap : Nat} {ps : List Rq} {f : Rq → Bool} {ks : List Rq} (h : Flt T w B g cap ps f ps.length ks) (hr : Rows w B ps) : ks = ps.filter f ∧ Own T w B (.slice (some ⟨g, 0, none⟩) ks.length cap) ks := by
  have hi := h.is
  rw [List.take_length] at hi
  have hl := h.len
  obtain ⟨cur, h1, h2, h3⟩ := h.own
  refine ⟨hi, own_first h1 rfl hl h2, ?_⟩
  have := hr.filter f
  rw [← hi] at this
  exact this
end RQ
end Go.Proofs.Ytpdmbobcbehilaa

/- The contacts by which a group is reached: plain facts. -/
namespace Go.Proofs.Ytpdmbobcbehilaa
open Go.RowKit
namespace PN
theorem way_mem {xs : List I5} {f : Nat} {s : St} {rk : Nat → Nat} (hV : Via xs f s rk) : ∀ (m v : Nat) (u : Int), s.wh v = .fin u → ∀ z, z ∈ way xs s.la f m v → 0 ≤ z ∧ z < xs.length := by
  intro m
  induction m with
  | zero => intro v u _ z hz; simp [way] at hz
  | succ m ih =>
    intro v u hu z hz
    by_cases hv : v = f
    · subst hv; rw [way_end] at hz; simp at hz
    · obtain ⟨k, h1, h2, ⟨p, h3⟩, _⟩ := hV.via v hv u hu
      rw [way_step hv h1, List.mem_append, List.mem_singleton] at hz
      rcases hz with hz | rfl
      · exact ih _ p h3 z hz
      · omega
/-- A route's contacts are of the plan. -/
theorem routeL_in {xs : List I5} {f n t : Int} : ∀ z, z ∈ routeL xs f n t → 0 ≤ z ∧ z < xs.length := by
  intro z hz
  cases h : tellB (routeM xs f n t) with
  | false => rw [routeL_no h] at hz; simp at hz
  | true =>
    have ha : askOk xs f n t = true := by
      cases c : askOk xs f n t with
      | true => rfl
      | false => rw [route_no c] at h; cases h
    obtain ⟨hst, t0, t1⟩ := ask_is ha
    obtain ⟨hok, f0, f1, n0, n1⟩ := start_is hst
    have hs0 := st0_ok (f := f) n0 n1
    have hO := ord_st0 hok (f := f) (n := n)
    obtain ⟨rk, hV⟩ := via_fin hok hs0 hO (via_st0 xs f0 f1 (n := n))
    rw [routeL_yes h] at hz
    rw [route_yes ha] at h
    cases c : (fin xs (st0 f n)).wh t.toNat with
    | fin u => exact way_mem hV 8 _ u c z hz
    | inf => rw [c] at h; cases h
    | ago => rw [c] at h; cases h
end PN
namespace RQ
def anyOf (L : List (Int × Int × List Int)) (k : Nat) : Bool := L.any fun r => EG.hasB r.2.2 (k : Int)
def treL (xs : List I5) (b : Bd) (ms : List Int) : List Int := TR.those xs.length (anyOf (reaL xs b ms))
noncomputable def treA (xs : List I5) (b : Bd) (ms : List Int) : List Int := if reaOk xs b ms = true then treL xs b ms else []
theorem tre_no {xs : List I5} {b : Bd} {ms : List Int} (h : reaOk xs b ms = false) : treA xs b ms = [] := by unfold treA; rw [h]; rfl
theorem tre_yes {xs : List I5} {b : Bd} {ms : List Int} (h : reaOk xs b ms = true) : treA xs b ms = TR.those xs.length (anyOf (reaL xs b ms)) := by unfold treA; rw [if_pos h]; rfl
theorem rea_plan {xs : List I5} {b : Bd} {ms : List Int} (h : reaOk xs b ms = true) : xs.length ≤ 20 := by
  unfold reaOk at h
  rw [Bool.and_eq_true] at h
  exact ((PN.okP_iff xs).1 (GP.fits_is h.1).1).1
theorem treA_len (xs : List I5) (b : Bd) (ms : List Int) : (treA xs b ms).length ≤ 1048576 := by
  cases h : reaOk xs b ms with
  | false => rw [tre_no h]; simp
  | true =>
    rw [tre_yes h]
    have := TR.those_len xs.length (anyOf (reaL xs b ms))
    have := rea_plan h
    omega
theorem rea_in {xs : List I5} {b : Bd} {ms : List Int} : ∀ r, r ∈ reaL xs b ms → ∀ z, z ∈ r.2.2 → 0 ≤ z ∧ z < xs.length := by
  intro r hr z hz
  have h1 := (List.mem_filter.1 (List.mem_filter.1 hr).1).1
  obtain ⟨m, _, rfl⟩ := List.mem_map.1 h1
  exact PN.routeL_in z hz
/-- What is in the tree behind the first k. -/
structure TrUp (m : Nat) (ps : List Rq) (k : Nat) (T : List Int) : Prop where
  up : T.Pairwise (· < ·)
  bd : ∀ z, z ∈ T → 0 ≤ z ∧ z < m
  mem : ∀ z, z ∈ T ↔ ∃ j, j < k ∧ z ∈ (at_ ps j).os
theorem TrUp.start (m : Nat) (ps : List Rq) : TrUp m ps 0 [] := ⟨List.Pairwise.nil, fun z h => by simp at h, fun z => by simp⟩
theorem TrUp.next {m : Nat} {ps : List Rq} {k : Nat} {T T' : List Int} (h : TrUp m ps k T) (hp : GP.PutUp m T (at_ ps k).os T' (at_ ps k).os.length) : TrUp m ps (k + 1) T' := by
  refine ⟨hp.up, hp.bd, fun z => ?_⟩
  rw [hp.end_, GP.putAll_mem, h.mem]
  constructor
  · rintro (⟨j, h1, h2⟩ | h1)
    · exact ⟨j, by omega, h2⟩
    · exact ⟨k, by omega, h1⟩
  · rintro ⟨j, h1, h2⟩
    by_cases e : j = k
    · subst e; exact .inr h2
    · exact .inl ⟨j, by omega, h2⟩
theorem TrUp.end_ {xs : List I5} {b : Bd} {ms : List Int} {ps : List Rq} {T : List Int} (h : TrUp xs.length ps ps.length T) (hs : ps.map Rq.said = reaL xs b ms) : T = treL xs b ms := by
  refine GP.up_only h.up (TR.those_lt _ _) (fun z => ?_)
  unfold treL
  rw [h.mem, TR.those_mem]
  constructor
  · rintro ⟨j, h1, h2⟩
    have hz := h.bd z ((h.mem z).2 ⟨j, h1, h2⟩)
    refine ⟨z.toNat, by omega, ?_, by omega⟩
    unfold anyOf
    rw [List.any_eq_true]
    refine ⟨(at_ ps j).said, ?_, ?_⟩
    · rw [← hs]; exact List.mem_map_of_mem (at_mem h1)
    · rw [show ((z.toNat : Nat) : Int) = z by omega]; show EG.hasB (at_ ps j).os z = true; unfold EG.hasB; exact decide_eq_true h2
  · rintro ⟨i, h1, h2, rfl⟩
    unfold anyOf at h2
    rw [List.any_eq_true] at h2
    obtain ⟨r, h3, h4⟩ := h2
    rw [← hs] at h3
    obtain ⟨p, h5, rfl⟩ := List.mem_map.1 h3
    obtain ⟨j, hj, rfl⟩ := List.mem_iff_getElem.1 h5
    exact ⟨j, hj, by rw [at_eq hj]; exact of_decide_eq_true h4⟩
theorem os_in {xs : List I5} {b : Bd} {ms : List Int} {ps : List Rq} (hs : ps.map Rq.said = reaL xs b ms) {k : Nat} (hk : k < ps.length) : ∀ j, j < (at_ ps k).os.length → 0 ≤ (at_ ps k).os.getD j 0 ∧ (at_ ps k).os.getD j 0 < xs.length := by
  intro j hj
  refine rea_in (at_ ps k).said ?_ _ ?_ (b := b) (ms := ms)
  · rw [← hs]; exact List.mem_map_of_mem (at_mem hk)
  · show (at_ ps k).os.getD j 0 ∈ (at_ ps k).os
    rw [GP.getD_at hj]; exact List.getElem_mem hj
/-- Whether one of the first i is gone by. -/
def anyUp (ps : List Rq) (k : Nat) (i : Nat) : Prop := ∀ j, j < i → EG.hasB (at_ ps j).os (k : Int) = false
theorem any_yes {ps : List Rq} {L : List (Int × Int × List Int)} (hs : ps.map Rq.said = L) {k i : Nat} (hi : i < ps.length) (h : EG.hasB (at_ ps i).os (k : Int) = true) : anyOf L k = true := by
  unfold anyOf
  rw [List.any_eq_true]
  exact ⟨(at_ ps i).said, by rw [← hs]; exact List.mem_map_of_mem (at_mem hi), h⟩
theorem any_no {ps : List Rq} {L : List (Int × Int × List Int)} (hs : ps.map Rq.said = L) {k : Nat} (h : anyUp ps k ps.length) : anyOf L k = false := by
  cases c : anyOf L k with
  | false => rfl
  | true =>
    unfold anyOf at c
    rw [List.any_eq_true] at c
    obtain ⟨r, h3, h4⟩ := c
    rw [← hs] at h3
    obtain ⟨p, h5, rfl⟩ := List.mem_map.1 h3
    obtain ⟨j, hj, rfl⟩ := List.mem_iff_getElem.1 h5
    have := h j hj
    rw [at_eq hj] at this
    simp only [Rq.said] at h4
    rw [this] at h4; cases h4
theorem anyUp_succ {ps : List Rq} {k i : Nat} (h : anyUp ps k i) (h1 : EG.hasB (at_ ps i).os (k : Int) = false) : anyUp ps k (i + 1) := by
  intro j hj
  by_cases e : j = i
  · subst e; exact h1
  · exact h j (by omega)
end RQ
end Go.Proofs.Ytpdmbobcbehilaa

/- Those of whom no more than so much is told, kept in their own place: withNoMore of the program, by time and by how many contacts. -/
namespace Go.Proofs.Ytpdmbobcbehilaa
open Go.RowKit
theorem Try.zeroRc (w : World) : (zeroValue 59).run Try.prog w = .ok (.agg #[.int .i64 0, .int .i64 0, .slice none 0 0]) w := by kernel_rfl
set_option linter.unusedSimpArgs false in
set_option maxHeartbeats 3200000 in
set_option maxRecDepth 100000 in
theorem noMoreT_any (B g cap : Nat) (ps : List Rq) (n : Int) (w : World) (h8 : ps.length ≤ 8) (ho : RQ.Own 59 w B (.slice (some ⟨g, 0, none⟩) ps.length cap) ps) (qs : List Rq) (hqs : Hid (ps.filter (fun p => RQ.inTime n p.said) = qs)) :
    Calls Try.prog 30 #[.slice (some ⟨g, 0, none⟩) ps.length cap, .func (.func 32) #[] #[], .int .i64 n] w fun e w' => e = .returned (.slice (some ⟨g, 0, none⟩) qs.length cap) ∧ RQ.Own 59 w' B (.slice (some ⟨g, 0, none⟩) qs.length cap) qs ∧ MC.Only g w w' := by
  obtain ⟨i2, hi', hz0', hz1', hz2'⟩ := info_parts Try.infoRc
  have ROWS : Hid (RQ.Rows w B ps) := ho.rows
  have OUT : Hid _ := ho.out
  have FL0 : Hid (RQ.Flt 59 w B g cap ps (fun p => RQ.inTime n p.said) 0 []) := RQ.Flt.start _ ho.out
  obtain ⟨hc1, hc2, hBg, hgl⟩ := FL0.out.caps
  have hc63 : cap ≤ 9223372036854775807 := by unfold maxLen at hc2; omega
  clear ho
  go_enter Try.func30, Try.ntmps30
  go_wp2
  go_loopw [7, 9, 14] (fun u _ iv wr => ∃ (k : Nat) (ks : List Rq), iv = .int .i64 k ∧ k ≤ ps.length ∧ u = .slice (some ⟨g, 0, none⟩) ks.length cap ∧ Hid (RQ.Flt 59 wr B g cap ps (fun p => RQ.inTime n p.said) k ks) ∧ MC.Only g w wr) (fun _ _ iv _ => (ps.length - intOf iv).toNat)
  case atStart => exact ⟨0, [], rfl, by omega, rfl, FL0, MC.Only.refl _ _⟩
  case round =>
    obtain ⟨k, ks, rfl, hk, rfl, hF, hO⟩ := hrel
    by_cases hlk : k < ps.length
    · obtain ⟨e0, e1, e2, hg⟩ := hF.out.next hlk
      have hkl := hF.out.len
      have KEEP : Hid _ := fun (W : World) (hb : Below wr.heap.size wr W) h => (hF.out.below hb).keep (k := k) hlk h
      have OUTK : Hid _ := fun (W : World) (hb : Below wr.heap.size wr W) h => (hF.out.below hb).out (k := k) hlk h
      have ROOM : Hid _ := fun (W : World) (hb : Below wr.heap.size wr W) (o : Nat) (h : o < ps.length * 3) => (hF.out.below hb).room h
      have TL : Hid _ := fun W => timeRe_any (RQ.at_ ps k) W
      clear FL0 hF ROWS OUT
      generalize RQ.at_ ps k = p at *
      obtain ⟨m, t, os, a, c⟩ := p
      go_wp2_with fail
      refine Calls.mono (TL.out _) ?_
      rintro e w2 ⟨rfl, hb2⟩
      have q0 : (wr.alloc (.cells #[.int .i64 m, .int .i64 t, .slice a os.length c] 59)).cell? ⟨wr.heap.size, 0, none⟩ = some (.int .i64 m) := by rw [World.cell?_alloc_new]; rfl
      have q1 : (wr.alloc (.cells #[.int .i64 m, .int .i64 t, .slice a os.length c] 59)).cell? ⟨wr.heap.size, 1, none⟩ = some (.int .i64 t) := by rw [World.cell?_alloc_new]; rfl
      have q2 : (wr.alloc (.cells #[.int .i64 m, .int .i64 t, .slice a os.length c] 59)).cell? ⟨wr.heap.size, 2, none⟩ = some (.slice a os.length c) := by rw [World.cell?_alloc_new]; rfl
      replace q0 := (hb2.cell (p := ⟨wr.heap.size, 0, none⟩) (by simp)).trans q0
      replace q1 := (hb2.cell (p := ⟨wr.heap.size, 1, none⟩) (by simp)).trans q1
      replace q2 := (hb2.cell (p := ⟨wr.heap.size, 2, none⟩) (by simp)).trans q2
      have hlt2 : wr.heap.size < w2.heap.size := by have := hb2.size; simp at this; omega
      have hbx : Below wr.heap.size wr w2 := ((Below.refl _ wr).alloc (Nat.le_refl _) _).trans (hb2.mono (by simp))
      have HBX : Hid _ := hbx
      clear hb2 TL e0 e1 e2 hbx
      cases hq : decide (t ≤ n) with
      | false =>
        have HF2 : Hid _ := OUTK.out w2 HBX.out hq
        have HO2 : MC.Only g w w2 := hO.trans (MC.Only.of_below HBX.out)
        clear KEEP OUTK ROOM q0 q1 q2 HBX
        go_wp2
        go_roundw
        case rel => exact ⟨k + 1, ks, by go_num, by omega, rfl, HF2, HO2⟩
        case measure => simp [intOf]; omega
      | true =>
        have hbl : Below wr.heap.size wr (w2.alloc (.cells #[.int .i64 m, .int .i64 t, .slice a os.length c] 59)) := HBX.out.alloc HBX.out.size _
        have HF2 : Hid _ := KEEP.out _ hbl hq
        have hrun : ∀ ty, (Builtin.append_ #[28, 28] ty #[.slice (some ⟨g, 0, none⟩) ks.length cap, .slice (some ⟨w2.heap.size, 0, none⟩) 1 1]).run Try.prog (w2.alloc (.cells #[.int .i64 m, .int .i64 t, .slice a os.length c] 59)) = .ok (.slice (some ⟨g, 0, none⟩) (ks.length + 1) cap) ((w2.alloc (.cells #[.int .i64 m, .int .i64 t, .slice a os.length c] 59)).setCells g (ks.length * 3) [.int .i64 m, .int .i64 t, .slice a os.length c]) := fun ty => by
          have h := run_append_room_cells (P := Try.prog) (w2.alloc (.cells #[.int .i64 m, .int .i64 t, .slice a os.length c] 59)) 28 ty 59 i2 Try.underlying28 hi' g 0 ks.length cap ⟨w2.heap.size, 0, none⟩ 1 1 [.int .i64 m, .int .i64 t, .slice a os.length c] (by rw [hz1']; rfl) (RQ.new3 _ _ _ _ _ _ rfl) (RQ.one3 ⟨m, t, os, a, c⟩) (by omega) (fun j hj => by rw [hz1', Nat.zero_add]; exact (ROOM.out _ hbl _ (by simp at hj; omega)).1) (fun j hj => by rw [hz1', Nat.zero_add]; exact (ROOM.out _ hbl _ (by simp at hj; omega)).2)
          rw [hz1', Nat.zero_add] at h
          exact h
        have HO2 : MC.Only g w ((w2.alloc (.cells #[.int .i64 m, .int .i64 t, .slice a os.length c] 59)).setCells g (ks.length * 3) [.int .i64 m, .int .i64 t, .slice a os.length c]) := (hO.trans (MC.Only.of_below hbl)).trans (RA.only_cells g _ _ _)
        have HRUN : Hid _ := hrun
        have HO2' : Hid _ := HO2
        clear KEEP OUTK ROOM HBX hrun HO2 hbl
        go_wp2_with (at_builtin; refine RQ.wpList_append_room rfl _ _ 28 _ _ _ rfl HRUN.out rfl rfl ?_)
        generalize World.setCells _ _ _ _ = w3 at *
        have HLN : Hid ((ks ++ [(⟨m, t, os, a, c⟩ : Rq)]).length = ks.length + 1) := (show _ = _ from by simp)
        clear HRUN q0 q1 q2
        go_wp2
        go_roundw
        case rel => exact ⟨k + 1, ks ++ [⟨m, t, os, a, c⟩], by go_num, by omega, by rw [HLN.out], HF2, HO2'.out⟩
        case measure => simp [intOf]; omega
    · obtain rfl : k = ps.length := by omega
      have hkl := hF.out.len
      have hR : RQ.Rows wr B ps := RQ.Rows.only (by decide) ROWS.out OUT.out hO
      have HCL0 : Hid (∀ (a : Option Addr) (c : Nat) ty (W : World), (Builtin.clear_ #[28] ty #[.slice a 0 c]).run Try.prog W = .ok (.tuple #[]) W) := fun a c ty W => by cases a <;> simp [Builtin.clear_, run_underlying Try.underlying28]
      have hF' := hF.out
      clear FL0 ROWS OUT
      have hks : ks = qs := by rw [← hqs.out]; exact (hF'.none_ hR).1
      subst hks
      by_cases hlt : ks.length < ps.length
      · obtain ⟨hd1, hd2, hd3⟩ := hF'.done (by decide) hR (Builtin.zeroCells #[.int .i64 0, .int .i64 0, .slice none 0 0] (ps.length - ks.length)).toList
        have hcl : ∀ ty, (Builtin.clear_ #[28] ty #[.slice (some ⟨g, ks.length * 3, none⟩) (ps.length - ks.length) (cap - ks.length)]).run Try.prog wr = .ok (.tuple #[]) (wr.setCells g (ks.length * 3) (Builtin.zeroCells #[.int .i64 0, .int .i64 0, .slice none 0 0] (ps.length - ks.length)).toList) := fun ty =>
          RQ.run_clear3 wr 28 59 ty _ _ _ Try.underlying28 Try.zeroRc ⟨rfl, rfl, rfl⟩ rfl g (ks.length * 3) _ _ (by omega) (fun j hj => (hF'.room (by omega)).1) (fun j hj => (hF'.room (by omega)).2)
        have HD2 : Hid _ := hd2
        have HD3 : Hid _ := hO.trans hd3
        have hkc : ¬ (cap = ks.length) := by omega
        have hkc' : ¬ (ks.length = cap) := by omega
        clear hF hF' hR hd1 hd2 hd3 HCL0 hO hqs
        generalize wr.setCells _ _ _ = w3 at *
        go_wp2
        go_ret
        exact ⟨rfl, HD2.out, HD3.out⟩
      · have hd2 := (hF'.none_ hR).2
        have hke : ks.length = ps.length := by omega
        have HD2 : Hid _ := hd2
        have hcl := fun a c ty W => HCL0.out a c ty W
        clear hF hF' hR hd2 hlt hkl HCL0 hqs
        have hsub : ps.length - ks.length = 0 := by omega
        have hle : ks.length ≤ ps.length := by omega
        have hle2 : ks.length ≤ cap := by omega
        clear hke
        by_cases hcc : cap = ks.length
        · subst hcc
          go_wp2
          go_ret
          exact ⟨rfl, HD2.out, hO⟩
        · have hcc' : ¬ (ks.length = cap) := fun e => hcc e.symm
          go_wp2
          go_ret
          exact ⟨rfl, HD2.out, hO⟩
set_option linter.unusedSimpArgs false in
set_option maxHeartbeats 3200000 in
set_option maxRecDepth 100000 in
theorem noMoreH_any (B g cap : Nat) (ps : List Rq) (n : Int) (w : World) (h8 : ps.length ≤ 8) (ho : RQ.Own 59 w B (.slice (some ⟨g, 0, none⟩) ps.length cap) ps) (qs : List Rq) (hqs : Hid (ps.filter (fun p => RQ.near n p.said) = qs)) :
    Calls Try.prog 30 #[.slice (some ⟨g, 0, none⟩) ps.length cap, .func (.func 34) #[] #[], .int .i64 n] w fun e w' => e = .returned (.slice (some ⟨g, 0, none⟩) qs.length cap) ∧ RQ.Own 59 w' B (.slice (some ⟨g, 0, none⟩) qs.length cap) qs ∧ MC.Only g w w' := by
  obtain ⟨i2, hi', hz0', hz1', hz2'⟩ := info_parts Try.infoRc
  have ROWS : Hid (RQ.Rows w B ps) := ho.rows
  have OUT : Hid _ := ho.out
  have FL0 : Hid (RQ.Flt 59 w B g cap ps (fun p => RQ.near n p.said) 0 []) := RQ.Flt.start _ ho.out
  obtain ⟨hc1, hc2, hBg, hgl⟩ := FL0.out.caps
  have hc63 : cap ≤ 9223372036854775807 := by unfold maxLen at hc2; omega
  clear ho
  go_enter Try.func30, Try.ntmps30
  go_wp2
  go_loopw [7, 9, 14] (fun u _ iv wr => ∃ (k : Nat) (ks : List Rq), iv = .int .i64 k ∧ k ≤ ps.length ∧ u = .slice (some ⟨g, 0, none⟩) ks.length cap ∧ Hid (RQ.Flt 59 wr B g cap ps (fun p => RQ.near n p.said) k ks) ∧ MC.Only g w wr) (fun _ _ iv _ => (ps.length - intOf iv).toNat)
  case atStart => exact ⟨0, [], rfl, by omega, rfl, FL0, MC.Only.refl _ _⟩
  case round =>
    obtain ⟨k, ks, rfl, hk, rfl, hF, hO⟩ := hrel
    by_cases hlk : k < ps.length
    · obtain ⟨e0, e1, e2, hg⟩ := hF.out.next hlk
      have hkl := hF.out.len
      have KEEP : Hid _ := fun (W : World) (hb : Below wr.heap.size wr W) h => (hF.out.below hb).keep (k := k) hlk h
      have OUTK : Hid _ := fun (W : World) (hb : Below wr.heap.size wr W) h => (hF.out.below hb).out (k := k) hlk h
      have ROOM : Hid _ := fun (W : World) (hb : Below wr.heap.size wr W) (o : Nat) (h : o < ps.length * 3) => (hF.out.below hb).room h
      have TL : Hid _ := fun W => hopsRe_any (RQ.at_ ps k) W
      clear FL0 hF ROWS OUT
      generalize RQ.at_ ps k = p at *
      obtain ⟨m, t, os, a, c⟩ := p
      go_wp2_with fail
      refine Calls.mono (TL.out _) ?_
      rintro e w2 ⟨rfl, hb2⟩
      have q0 : (wr.alloc (.cells #[.int .i64 m, .int .i64 t, .slice a os.length c] 59)).cell? ⟨wr.heap.size, 0, none⟩ = some (.int .i64 m) := by rw [World.cell?_alloc_new]; rfl
      have q1 : (wr.alloc (.cells #[.int .i64 m, .int .i64 t, .slice a os.length c] 59)).cell? ⟨wr.heap.size, 1, none⟩ = some (.int .i64 t) := by rw [World.cell?_alloc_new]; rfl
      have q2 : (wr.alloc (.cells #[.int .i64 m, .int .i64 t, .slice a os.length c] 59)).cell? ⟨wr.heap.size, 2, none⟩ = some (.slice a os.length c) := by rw [World.cell?_alloc_new]; rfl
      replace q0 := (hb2.cell (p := ⟨wr.heap.size, 0, none⟩) (by simp)).trans q0
      replace q1 := (hb2.cell (p := ⟨wr.heap.size, 1, none⟩) (by simp)).trans q1
      replace q2 := (hb2.cell (p := ⟨wr.heap.size, 2, none⟩) (by simp)).trans q2
      have hlt2 : wr.heap.size < w2.heap.size := by have := hb2.size; simp at this; omega
      have hbx : Below wr.heap.size wr w2 := ((Below.refl _ wr).alloc (Nat.le_refl _) _).trans (hb2.mono (by simp))
      have HBX : Hid _ := hbx
      clear hb2 TL e0 e1 e2 hbx
      cases hq : decide ((os.length : Int) ≤ n) with
      | false =>
        have HF2 : Hid _ := OUTK.out w2 HBX.out hq
        have HO2 : MC.Only g w w2 := hO.trans (MC.Only.of_below HBX.out)
        clear KEEP OUTK ROOM q0 q1 q2 HBX
        go_wp2
        go_roundw
        case rel => exact ⟨k + 1, ks, by go_num, by omega, rfl, HF2, HO2⟩
        case measure => simp [intOf]; omega
      | true =>
        have hbl : Below wr.heap.size wr (w2.alloc (.cells #[.int .i64 m, .int .i64 t, .slice a os.length c] 59)) := HBX.out.alloc HBX.out.size _
        have HF2 : Hid _ := KEEP.out _ hbl hq
        have hrun : ∀ ty, (Builtin.append_ #[28, 28] ty #[.slice (some ⟨g, 0, none⟩) ks.length cap, .slice (some ⟨w2.heap.size, 0, none⟩) 1 1]).run Try.prog (w2.alloc (.cells #[.int .i64 m, .int .i64 t, .slice a os.length c] 59)) = .ok (.slice (some ⟨g, 0, none⟩) (ks.length + 1) cap) ((w2.alloc (.cells #[.int .i64 m, .int .i64 t, .slice a os.length c] 59)).setCells g (ks.length * 3) [.int .i64 m, .int .i64 t, .slice a os.length c]) := fun ty => by
          have h := run_append_room_cells (P := Try.prog) (w2.alloc (.cells #[.int .i64 m, .int .i64 t, .slice a os.length c] 59)) 28 ty 59 i2 Try.underlying28 hi' g 0 ks.length cap ⟨w2.heap.size, 0, none⟩ 1 1 [.int .i64 m, .int .i64 t, .slice a os.length c] (by rw [hz1']; rfl) (RQ.new3 _ _ _ _ _ _ rfl) (RQ.one3 ⟨m, t, os, a, c⟩) (by omega) (fun j hj => by rw [hz1', Nat.zero_add]; exact (ROOM.out _ hbl _ (by simp at hj; omega)).1) (fun j hj => by rw [hz1', Nat.zero_add]; exact (ROOM.out _ hbl _ (by simp at hj; omega)).2)
          rw [hz1', Nat.zero_add] at h
          exact h
        have HO2 : MC.Only g w ((w2.alloc (.cells #[.int .i64 m, .int .i64 t, .slice a os.length c] 59)).setCells g (ks.length * 3) [.int .i64 m, .int .i64 t, .slice a os.length c]) := (hO.trans (MC.Only.of_below hbl)).trans (RA.only_cells g _ _ _)
        have HRUN : Hid _ := hrun
        have HO2' : Hid _ := HO2
        clear KEEP OUTK ROOM HBX hrun HO2 hbl
        go_wp2_with (at_builtin; refine RQ.wpList_append_room rfl _ _ 28 _ _ _ rfl HRUN.out rfl rfl ?_)
        generalize World.setCells _ _ _ _ = w3 at *
        have HLN : Hid ((ks ++ [(⟨m, t, os, a, c⟩ : Rq)]).length = ks.length + 1) := (show _ = _ from by simp)
        clear HRUN q0 q1 q2
        go_wp2
        go_roundw
        case rel => exact ⟨k + 1, ks ++ [⟨m, t, os, a, c⟩], by go_num, by omega, by rw [HLN.out], HF2, HO2'.out⟩
        case measure => simp [intOf]; omega
    · obtain rfl : k = ps.length := by omega
      have hkl := hF.out.len
      have hR : RQ.Rows wr B ps := RQ.Rows.only (by decide) ROWS.out OUT.out hO
      have HCL0 : Hid (∀ (a : Option Addr) (c : Nat) ty (W : World), (Builtin.clear_ #[28] ty #[.slice a 0 c]).run Try.prog W = .ok (.tuple #[]) W) := fun a c ty W => by cases a <;> simp [Builtin.clear_, run_underlying Try.underlying28]
      have hF' := hF.out
      clear FL0 ROWS OUT
      have hks : ks = qs := by rw [← hqs.out]; exact (hF'.none_ hR).1
      subst hks
      by_cases hlt : ks.length < ps.length
      · obtain ⟨hd1, hd2, hd3⟩ := hF'.done (by decide) hR (Builtin.zeroCells #[.int .i64 0, .int .i64 0, .slice none 0 0] (ps.length - ks.length)).toList
        have hcl : ∀ ty, (Builtin.clear_ #[28] ty #[.slice (some ⟨g, ks.length * 3, none⟩) (ps.length - ks.length) (cap - ks.length)]).run Try.prog wr = .ok (.tuple #[]) (wr.setCells g (ks.length * 3) (Builtin.zeroCells #[.int .i64 0, .int .i64 0, .slice none 0 0] (ps.length - ks.length)).toList) := fun ty =>
          RQ.run_clear3 wr 28 59 ty _ _ _ Try.underlying28 Try.zeroRc ⟨rfl, rfl, rfl⟩ rfl g (ks.length * 3) _ _ (by omega) (fun j hj => (hF'.room (by omega)).1) (fun j hj => (hF'.room (by omega)).2)
        have HD2 : Hid _ := hd2
        have HD3 : Hid _ := hO.trans hd3
        have hkc : ¬ (cap = ks.length) := by omega
        have hkc' : ¬ (ks.length = cap) := by omega
        clear hF hF' hR hd1 hd2 hd3 HCL0 hO hqs
        generalize wr.setCells _ _ _ = w3 at *
        go_wp2
        go_ret
        exact ⟨rfl, HD2.out, HD3.out⟩
      · have hd2 := (hF'.none_ hR).2
        have hke : ks.length = ps.length := by omega
        have HD2 : Hid _ := hd2
        have hcl := fun a c ty W => HCL0.out a c ty W
        clear hF hF' hR hd2 hlt hkl HCL0 hqs
        have hsub : ps.length - ks.length = 0 := by omega
        have hle : ks.length ≤ ps.length := by omega
        have hle2 : ks.length ≤ cap := by omega
        clear hke
        by_cases hcc : cap = ks.length
        · subst hcc
          go_wp2
          go_ret
          exact ⟨rfl, HD2.out, hO⟩
        · have hcc' : ¬ (ks.length = cap) := fun e => hcc e.symm
          go_wp2
          go_ret
          exact ⟨rfl, HD2.out, hO⟩
end Go.Proofs.Ytpdmbobcbehilaa

/- The contacts by which a group is reached, the specification's: TreeFor. -/
namespace Go.Proofs.Ytpdmbobcbehilaa
open Go.RowKit
set_option linter.unusedSimpArgs false in
set_option maxHeartbeats 3200000 in
set_option maxRecDepth 100000 in
theorem treS_any (a d : Option Addr) (cap cd : Nat) (xs : List I5) (b : Bd) (ms : List Int) (w : World) (hm : ms.length ≤ 1048576) (hn : xs.length ≤ 1048576) (hs : b.py.size ≤ 1048576) (hin : MI5.RowAt w a xs) (hin2 : M4.IntsAt w d ms) :
    Calls Try.prog 23 #[.slice a xs.length cap, b.v, .slice d ms.length cd] w fun e w' => ∃ a1 c1, e = .returned (.tuple #[.slice a1 (RQ.treA xs b ms).length c1, .bool (RQ.reaOk xs b ms)]) ∧ w'.ownsRow w.heap.size 3 1 (.slice a1 (RQ.treA xs b ms).length c1) (RQ.treA xs b ms).length (M4.iv (RQ.treA xs b ms)) ∧ Below w.heap.size w w' := by
  have P1 : Hid (∀ W : World, Below w.heap.size w W → Calls Try.prog 25 #[.slice a xs.length cap, b.v, .slice d ms.length cd] W fun e w' => e = .returned (.bool (RQ.reaOk xs b ms)) ∧ Below W.heap.size W w') := fun W h => l17Ask_any a d cap cd xs b ms W hm hn hs (hin.below h) (M4.IntsAt.below hin2 h)
  have P3 : Hid (RQ.reaOk xs b ms = true → ∀ W : World, Below w.heap.size w W → Calls Try.prog 26 #[.slice a xs.length cap, b.v, .slice d ms.length cd] W fun e w' => ∃ a1 c1 ps, e = .returned (.slice a1 (List.length ps) c1) ∧ RQ.Own 59 w' W.heap.size (.slice a1 ps.length c1) ps ∧ ps.map Rq.said = RQ.reaL xs b ms ∧ Below W.heap.size W w') := fun hq W h => by
    have hq' := hq
    unfold RQ.reaOk at hq'
    rw [Bool.and_eq_true] at hq'
    exact l17Reach_any a d cap cd xs b ms W hq'.1 (GP.rises_len hq'.2) hn (hin.below h) (M4.IntsAt.below hin2 h)
  have NO : Hid (RQ.reaOk xs b ms = false → RQ.treA xs b ms = []) := fun h => RQ.tre_no h
  have YES : Hid (RQ.reaOk xs b ms = true → ∀ (ps : List Rq) T, ps.map Rq.said = RQ.reaL xs b ms → RQ.TrUp xs.length ps ps.length T → T = RQ.treA xs b ms) := fun h ps T hp ht => by
    rw [RQ.tre_yes h]; exact ht.end_ hp
  have OSI : Hid (∀ ps : List Rq, ps.map Rq.said = RQ.reaL xs b ms → ∀ k, k < ps.length → ∀ j, j < (RQ.at_ ps k).os.length → 0 ≤ (RQ.at_ ps k).os.getD j 0 ∧ (RQ.at_ ps k).os.getD j 0 < xs.length) := fun ps hp k hk => RQ.os_in hp hk
  have OSL : Hid (∀ ps : List Rq, ps.map Rq.said = RQ.reaL xs b ms → ∀ k, k < ps.length → (RQ.at_ ps k).os.length ≤ 1048576) := fun ps hp k hk => by
    have h1 : (RQ.at_ ps k).said ∈ RQ.reaL xs b ms := by rw [← hp]; exact List.mem_map_of_mem (RQ.at_mem hk)
    have h2 := (List.mem_filter.1 (List.mem_filter.1 h1).1).1
    obtain ⟨m, _, e⟩ := List.mem_map.1 h2
    have h3 := PN.routeL_len xs b.fr b.md m
    have h4 : PN.routeL xs b.fr b.md m = (RQ.at_ ps k).os := congrArg (fun r => r.2.2) e
    rw [h4] at h3; exact h3
  have XL : Hid (RQ.reaOk xs b ms = true → xs.length ≤ 20) := fun h => RQ.rea_plan h
  have ML : Hid (RQ.reaOk xs b ms = true → (RQ.reaL xs b ms).length ≤ 8) := fun h => by
    unfold RQ.reaOk at h
    rw [Bool.and_eq_true] at h
    exact Nat.le_trans (RQ.reaL_len xs b ms) (GP.rises_len h.2)
  have BA := BdAt.box w b 33
  have BB := (Below.refl _ w).alloc (Nat.le_refl _) (.cells #[.int .i64 b.fr, .int .i64 b.to, .bool b.gr, .int .i64 b.md, .int .i64 b.no, .int .i64 b.lf, .int .i64 b.hp, .int .i64 b.of, .int .i64 b.tl, .string b.py] 33)
  clear hin hin2
  generalize RQ.treA xs b ms = L at *
  generalize RQ.reaL xs b ms = AL at *
  generalize RQ.reaOk xs b ms = q1 at *
  obtain ⟨fr, to, gr, md, no, lf, hp, of, tl, py⟩ := b
  obtain ⟨hlt, c0, c1, c2, c3, c4, c5, c6, c7, c8, c9⟩ := id BA
  go_enter Try.func23, Try.ntmps23
  go_wp2_with fail
  refine (P1.out _ BB).mono ?_
  rintro e w1 ⟨rfl, hb1⟩
  clear c0 c1 c2 c3 c4 c5 c6 c7 c8 c9 hlt P1
  have BA1 := BA.below hb1 BA.1
  have BB1 := BB.trans (hb1.mono BB.size)
  clear hb1 BA BB
  cases q1 with
  | false =>
    have hL := NO.out (by first | rfl | trivial)
    subst hL
    clear P3 NO YES OSI OSL XL ML BA1
    go_wp2
    exact bodyPost_ret (v := .tuple #[.slice none 0 0, .bool false]) (by simp [results, Try.results23, go_sem]) rfl ⟨none, 0, rfl, World.ownsRow_nil _ _ _ _, BB1⟩
  | true =>
    have P3' : Hid _ := P3.out (by first | rfl | trivial)
    have YES' : Hid _ := YES.out (by first | rfl | trivial)
    have ML' := ML.out (by first | rfl | trivial)
    have h20 := XL.out (by first | rfl | trivial)
    clear P3 NO YES ML XL
    obtain ⟨hlt, c0, c1, c2, c3, c4, c5, c6, c7, c8, c9⟩ := id BA1
    go_wp2_with fail
    refine (P3'.out _ BB1).mono ?_
    rintro e w2 ⟨a2, c2', ps, rfl, ho, hL, hb2⟩
    clear c0 c1 c2 c3 c4 c5 c6 c7 c8 c9 hlt P3'
    have BB2 := BB1.trans (hb2.mono BB1.size)
    have HI : Hid (RQ.At w2 a2 ps) := ho.at
    have HY : Hid _ := fun T h => YES'.out ps T hL h
    have OI : Hid _ := OSI.out ps hL
    have OL : Hid _ := OSL.out ps hL
    have h8 : ps.length ≤ 8 := by have := congrArg List.length hL; rw [List.length_map] at this; rw [this]; exact ML'
    have hs2 := BB2.size
    clear ho hL hb2 BA1 BB1 YES' ML' OSI OSL
    go_wp2
    go_loopw [8, 10, 12, 23, 28, 29, 30] (fun u _ _ iv _ _ _ wr => ∃ (k : Nat) (T : List Int), iv = .int .i64 k ∧ k ≤ ps.length ∧ Hid (RQ.TrUp xs.length ps k T) ∧ Hid (wr.ownsRow w2.heap.size 3 1 u T.length (M4.iv T)) ∧ Below w2.heap.size w2 wr) (fun _ _ _ iv _ _ _ _ => (ps.length - intOf iv).toNat)
    case atStart => exact ⟨0, [], rfl, by omega, RQ.TrUp.start _ _, World.ownsRow_nil _ _ _ _, Below.refl _ _⟩
    case round =>
      obtain ⟨k, T, rfl, hk, hP, hO, hb⟩ := hrel
      have hbs := hb.size
      by_cases hlk : k < ps.length
      · obtain ⟨b1, o1, rfl, hlt1, p0, p1, p2, p3, p4⟩ := (HI.out.below hb).at hlk
        have OIk : Hid _ := OI.out k hlk
        have OLk := OL.out k hlk
        have NX : Hid _ := fun (T' : List Int) h => hP.out.next (T' := T') h
        have PU0 : Hid (GP.PutUp xs.length T (RQ.at_ ps k).os T 0) := GP.PutUp.start _ hP.out.up hP.out.bd
        clear hP p3
        generalize RQ.at_ ps k = p at *
        obtain ⟨m, t, ys, ya, yc⟩ := p
        have hb1 : Below wr.heap.size wr (wr.alloc (.cells #[.int .i64 m, .int .i64 t, .slice ya ys.length yc] 59)) := (Below.refl _ wr).alloc (Nat.le_refl _) _
        have HB3 : Hid _ := hb.trans (hb1.mono hbs)
        have HO2 : Hid _ := M5.own_below hO.out hb1
        have HYS : Hid (M4.IntsAt (wr.alloc (.cells #[.int .i64 m, .int .i64 t, .slice ya ys.length yc] 59)) ya ys) := M4.IntsAt.below p4 hb1
        clear hO hb hb1 p4
        obtain ⟨W0, hW0⟩ : ∃ W0, W0 = wr := ⟨_, rfl⟩
        go_wp2
        generalize wr.alloc (.cells #[.int .i64 m, .int .i64 t, .slice ya ys.length yc] 59) = W3 at *
        subst hW0
        go_loopw [8, 12, 30] (fun u _ jv wq => ∃ (j : Nat) (T1 : List Int), jv = .int .i64 j ∧ j ≤ ys.length ∧ Hid (GP.PutUp xs.length T ys T1 j) ∧ Hid (wq.ownsRow w2.heap.size 3 1 u T1.length (M4.iv T1)) ∧ Hid (M4.IntsAt wq ya ys) ∧ Below w2.heap.size w2 wq) (fun _ _ jv _ => (ys.length - intOf jv).toNat)
        case atStart => exact ⟨0, T, rfl, by omega, PU0, HO2, HYS, HB3.out⟩
        case round =>
          obtain ⟨j, T1, rfl, hj, hP, hO, hZ, hb⟩ := hrel
          have hbs := hb.size
          by_cases hlj : j < ys.length
          · obtain ⟨b5, o5, rfl, hlt5, hc5⟩ := M4.IntsAt.at hZ.out hlj
            have HP2 : Hid _ := hP.out.next hlj (OIk.out j hlj)
            have hT1 := hP.out.len
            have LP : Hid (Calls _ _ _ _ _) := l7Put_up w2.heap.size u8 T1 (ys.getD j 0) wr (by omega) hP.out.up hb.size hO.out
            clear hP hO PU0 HO2
            generalize ys.getD j 0 = z at *
            generalize GP.putT T1 z = T' at *
            go_wp2_with fail
            refine Calls.mono LP.out ?_
            rintro e w6 ⟨a1, c1, rfl, ho6, hb6⟩
            have HO6 : Hid _ := ho6
            have HZ6 : Hid _ := M4.IntsAt.below hZ.out hb6
            have HB6 := hb.trans (hb6.mono hbs)
            clear LP ho6 hb6 hc5 hZ hb
            go_wp2
            go_roundw
            case rel => exact ⟨j + 1, T', by go_num, by omega, HP2, HO6, HZ6, HB6⟩
            case measure => simp [intOf]; omega
          · obtain rfl : j = ys.length := by omega
            have HN : Hid _ := NX.out T1 hP.out
            clear hP PU0 HO2 NX OIk HYS hZ
            go_wp2
            go_roundw
            case rel => exact ⟨k + 1, T1, by go_num, by omega, HN, hO, hb⟩
            case measure => simp [intOf]; omega
      · obtain rfl : k = ps.length := by omega
        have hos := HY.out T hP.out
        subst hos
        obtain ⟨a1, c1, rfl, -⟩ := M5.own_view hO.out
        have HO1 := TR.own_mono hO.out hs2
        have BB3 := BB2.trans (hb.mono hs2)
        clear HI hP HY OI OL
        go_wp2
        exact bodyPost_ret (v := .tuple #[.slice a1 T.length c1, .bool true]) (by simp [results, Try.results23, go_sem]) rfl ⟨a1, c1, rfl, HO1, BB3⟩
end Go.Proofs.Ytpdmbobcbehilaa

/- All for whom there is a route, the program's: allReached. -/
namespace Go.Proofs.Ytpdmbobcbehilaa
open Go.RowKit
set_option linter.unusedSimpArgs false in
set_option maxHeartbeats 3200000 in
set_option maxRecDepth 100000 in
theorem allReached_any (a d : Option Addr) (cap cd : Nat) (xs : List I5) (b : Bd) (ms : List Int) (w : World) (hm : ms.length ≤ 8) (hn : xs.length ≤ 1048576) (hin : MI5.RowAt w a xs) (hin2 : M4.IntsAt w d ms) :
    Calls Try.prog 31 #[.slice a xs.length cap, b.v, .slice d ms.length cd] w fun e w' => ∃ g c1 ps, e = .returned (.slice (some ⟨g, 0, none⟩) (List.length ps) c1) ∧ RQ.Own 59 w' w.heap.size (.slice (some ⟨g, 0, none⟩) ps.length c1) ps ∧ ps.map Rq.said = RQ.allL xs b ms ∧ Below w.heap.size w w' := by
  obtain ⟨i2, hi', hz0', hz1', hz2'⟩ := info_parts Try.infoRc
  have P2 : Hid (∀ (t : Int) (W : World), Below w.heap.size w W → Calls Try.prog 55 #[.slice a xs.length cap, .int .i64 b.fr, .int .i64 b.md, .int .i64 t] W fun e w' => ∃ a1 c1, e = .returned (.tuple #[.slice a1 (PN.routeL xs b.fr b.md t).length c1, .int .i64 (PN.tellN (PN.routeM xs b.fr b.md t)), .bool (PN.tellB (PN.routeM xs b.fr b.md t))]) ∧ w'.ownsRow W.heap.size 3 1 (.slice a1 (PN.routeL xs b.fr b.md t).length c1) (PN.routeL xs b.fr b.md t).length (M4.iv (PN.routeL xs b.fr b.md t)) ∧ Below W.heap.size W w') := fun t W h => implRoute_any a cap xs b.fr b.md t W hn (hin.below h)
  have HMS : Hid (M4.IntsAt w d ms) := hin2
  have YES : Hid (∀ k, k < ms.length → PN.tellB (PN.routeM xs b.fr b.md (ms.getD k 0)) = true → RQ.allL xs b (ms.take (k + 1)) = RQ.allL xs b (ms.take k) ++ [(ms.getD k 0, PN.tellN (PN.routeM xs b.fr b.md (ms.getD k 0)), PN.routeL xs b.fr b.md (ms.getD k 0))]) := fun k hk h1 => RQ.allL_yes hk h1
  have NO : Hid (∀ k, k < ms.length → PN.tellB (PN.routeM xs b.fr b.md (ms.getD k 0)) = false → RQ.allL xs b (ms.take (k + 1)) = RQ.allL xs b (ms.take k)) := fun k hk h => RQ.allL_no hk h
  have ML : Hid (∀ k, (RQ.allL xs b (ms.take k)).length ≤ 8) := fun k => by have := RQ.allL_len xs b (ms.take k); rw [List.length_take] at this; omega
  have RL : Hid (∀ t, (PN.routeL xs b.fr b.md t).length ≤ 1048576) := fun t => PN.routeL_len _ _ _ _
  have Z0 : Hid (RQ.allL xs b (ms.take 0) = []) := (show _ = _ from by rw [List.take_zero]; rfl)
  have ZN : Hid (RQ.allL xs b (ms.take ms.length) = RQ.allL xs b ms) := (show _ = _ from by rw [List.take_length])
  have BA := BdAt.box w b 33
  have BB := (Below.refl _ w).alloc (Nat.le_refl _) (.cells #[.int .i64 b.fr, .int .i64 b.to, .bool b.gr, .int .i64 b.md, .int .i64 b.no, .int .i64 b.lf, .int .i64 b.hp, .int .i64 b.of, .int .i64 b.tl, .string b.py] 33)
  clear hin hin2
  generalize RQ.allL xs b ms = R at *
  generalize hR : (fun k => RQ.allL xs b (ms.take k)) = RK at *
  have e1 : ∀ k, RQ.allL xs b (ms.take k) = RK k := fun k => by rw [← hR]
  clear hR
  simp only [e1] at YES NO ML Z0 ZN
  clear e1
  generalize hR : (fun t => PN.routeM xs b.fr b.md t) = RM at *
  have e1 : ∀ t, PN.routeM xs b.fr b.md t = RM t := fun t => by rw [← hR]
  clear hR
  simp only [e1] at P2 YES NO
  clear e1
  generalize hR : (fun t => PN.routeL xs b.fr b.md t) = RT at *
  have e1 : ∀ t, PN.routeL xs b.fr b.md t = RT t := fun t => by rw [← hR]
  clear hR
  simp only [e1] at P2 YES NO RL
  clear e1
  obtain ⟨fr, to, gr, md, no, lf, hp, of, tl, py⟩ := b
  go_enter Try.func31, Try.ntmps31
  generalize hW1 : w.alloc _ = W1 at *
  have BLIT : Hid (Below W1.heap.size W1 (W1.alloc (.cells #[] 59))) := (Below.refl _ W1).alloc (Nat.le_refl _) _
  have OLIT : Hid (RQ.Own 59 (W1.alloc (.cells #[] 59)) W1.heap.size (.slice (some ⟨W1.heap.size, 0, none⟩) ([] : List Rq).length 0) []) := ⟨World.ownsRow_lit (base := W1.heap.size) (e := 59) (size := 3) W1 #[] 0 (Nat.le_refl _) (by unfold maxLen; omega) (by simp), RQ.Rows.nil _ _⟩
  go_wp2
  generalize W1.alloc (.cells #[] 59) = W2 at *
  go_loopw [7, 9, 10, 11, 12, 16] (fun u _ _ _ _ iv wr => ∃ (k : Nat) (ps : List Rq), iv = .int .i64 k ∧ k ≤ ms.length ∧ Hid (ps.map Rq.said = RK k) ∧ Hid (RQ.Own 59 wr W1.heap.size u ps) ∧ (∃ g c, u = .slice (some ⟨g, 0, none⟩) ps.length c) ∧ Below W1.heap.size W1 wr) (fun _ _ _ _ _ iv _ => (ms.length - intOf iv).toNat)
  case atStart => exact ⟨0, [], rfl, by omega, by show _ = _; rw [Z0.out]; rfl, OLIT, ⟨W1.heap.size, 0, rfl⟩, BLIT.out⟩
  case round =>
    obtain ⟨k, ps, rfl, hk, hP, hO, ⟨gu, cu, rfl⟩, hb⟩ := hrel
    have BA2 := BA.below hb BA.1
    have BB2 := BB.trans (hb.mono BB.size)
    have hbs := hb.size
    have hps : ps.length ≤ 8 := by have := congrArg List.length hP.out; rw [List.length_map] at this; rw [this]; exact ML.out k
    by_cases hlk : k < ms.length
    · obtain ⟨b1, off1, hd1, hlt1, hc1⟩ := M4.IntsAt.at (M4.IntsAt.below HMS.out BB2) hlk
      have Y1 : Hid _ := YES.out k hlk
      have N1 : Hid _ := NO.out k hlk
      generalize ms.getD k 0 = z at *
      have P2' : Hid (Calls _ _ _ _ _) := P2.out z wr BB2
      have hrl := RL.out z
      generalize RT z = L at *
      generalize PN.tellN (RM z) = tn at *
      generalize hTB : PN.tellB (RM z) = T at *
      clear hTB
      obtain ⟨hlt, c0, c1, c2, c3, c4, c5, c6, c7, c8, c9⟩ := id BA2
      clear c1 c2 c4 c5 c6 c7 c8 c9
      subst hd1
      go_wp2_with fail
      refine Calls.mono P2'.out ?_
      rintro e w2 ⟨a2, ca2, rfl, ho2, hb2⟩
      clear c0 c3 hlt hc1 P2'
      have BA3 := BA2.below hb2 BA2.1
      have BB3 := BB2.trans (hb2.mono BB2.size)
      have HB3 : Hid (Below W1.heap.size W1 w2) := hb.trans (hb2.mono hbs)
      have HO2 : Hid _ := hO.out.below hb2
      have HN2 : Hid (NR.In w2 wr.heap.size a2 L) := NR.In.of_own ho2
      have HOLD : Hid _ := hO.out.rows.lt
      have hb2s := hb2.size
      clear hb2 ho2 BA2 hO
      clear BA3
      cases T with
      | false =>
        have HR : Hid (RK (k + 1) = RK k) := N1.out rfl
        clear Y1 N1 HN2 HOLD
        go_wp2
        go_roundw
        case rel => exact ⟨k + 1, ps, by go_num, by omega, by show _ = _; rw [HR.out]; exact hP.out, HO2, ⟨gu, cu, rfl⟩, HB3.out⟩
        case measure => simp [intOf]; omega
      | true =>
        have HR : Hid (RK (k + 1) = RK k ++ [(z, tn, L)]) := Y1.out (by first | rfl | trivial)
        have HP : Hid _ := hP.out
        clear Y1 N1 hP
        have HLIT : Hid (RQ.Own 59 (w2.alloc (.cells #[.int .i64 z, .int .i64 tn, .slice a2 L.length ca2] 59)) W1.heap.size (.slice (some ⟨gu, 0, none⟩) ps.length cu) ps) := HO2.out.below ((Below.refl _ w2).alloc (Nat.le_refl _) _)
        go_wp2_with (at_builtin; refine wpList_append_own _ rfl _ _ 28 rfl W1.heap.size 59 i2 (.agg #[.int .i64 0, .int .i64 0, .slice none 0 0]) 3 40 Try.underlying28 hi' hz0' hz1' hz2' rfl (by decide) _ _ _ rfl HLIT.out.out ⟨w2.heap.size, 0, none⟩ 1 1 [.int .i64 z, .int .i64 tn, .slice a2 L.length ca2] rfl rfl ?c1 ?c2 ?c3 ?c4 ?c5 ?_)
        case c1 => exact RQ.new3 _ _ _ _ _ _ rfl
        case c2 => exact RQ.one3 ⟨z, tn, L, a2, ca2⟩
        case c3 => unfold maxLen; omega
        case c4 => omega
        case c5 => have := HB3.out.size; simp; omega
        intro v' w6 hown1 hgrow _
        have HS : Hid (RQ.Own 59 w6 W1.heap.size v' (ps ++ [⟨z, tn, L, a2, ca2⟩])) := RQ.Own.snoc (q := ⟨z, tn, L, a2, ca2⟩) (by decide) HLIT.out (HN2.out.below ((Below.refl _ w2).alloc (Nat.le_refl _) _)) (by have := BB2.size; omega) HOLD.out hgrow hown1
        have HB6 : Hid (Below W1.heap.size W1 w6) := (HB3.out.alloc HB3.out.size _).grown hgrow (by have := HB3.out.size; simp; omega) (fun j hj => (HLIT.out.out.lt j hj).1)
        have hsl : (ps ++ [(⟨z, tn, L, a2, ca2⟩ : Rq)]).map Rq.said = RK (k + 1) := by rw [HR.out, List.map_append, HP.out]; rfl
        have HSL : Hid _ := hsl
        clear hown1 hgrow HLIT HN2 HOLD HO2 HP HR hsl
        obtain ⟨gv, cv, hv⟩ : ∃ g c, v' = .slice (some ⟨g, 0, none⟩) (ps ++ [(⟨z, tn, L, a2, ca2⟩ : Rq)]).length c := by
          rcases HS.out.out.2 with ⟨h1, h2⟩ | ⟨g, c, cur, hv, _⟩
          · simp at h2
          · exact ⟨g, c, hv⟩
        subst hv
        generalize ps ++ [(⟨z, tn, L, a2, ca2⟩ : Rq)] = qs at *
        go_wp2
        go_roundw
        case rel => exact ⟨k + 1, qs, by go_num, by omega, HSL, HS, ⟨gv, cv, rfl⟩, HB6.out⟩
        case measure => simp [intOf]; omega
    · obtain rfl : k = ms.length := by omega
      have HL : Hid (ps.map Rq.said = R) := by show _ = _; rw [hP.out, ZN.out]
      clear P2 YES NO ML RL Z0 ZN BA BA2 hP
      go_wp2
      go_ret
      exact ⟨gu, cu, ps, rfl, hO.out.mono BB.size, HL.out, BB2⟩
end Go.Proofs.Ytpdmbobcbehilaa

/- Who is reached, the program's: ReachAll. -/
namespace Go.Proofs.Ytpdmbobcbehilaa
open Go.RowKit
set_option linter.unusedSimpArgs false in
set_option maxHeartbeats 3200000 in
set_option maxRecDepth 100000 in
theorem reachI2_any (a d : Option Addr) (cap cd : Nat) (xs : List I5) (b : Bd) (ms : List Int) (w : World) (hm : ms.length ≤ 1048576) (hn : xs.length ≤ 1048576) (hs : b.py.size ≤ 1048576) (hin : MI5.RowAt w a xs) (hin2 : M4.IntsAt w d ms) :
    Calls Try.prog 12 #[.slice a xs.length cap, b.v, .slice d ms.length cd] w fun e w' => ∃ a1 c1 ps, e = .returned (.tuple #[.slice a1 (List.length ps) c1, .bool (RQ.reaOk xs b ms)]) ∧ RQ.Own 59 w' w.heap.size (.slice a1 ps.length c1) ps ∧ ps.map Rq.said = RQ.reaA xs b ms ∧ (RQ.reaOk xs b ms = true → ∃ g, a1 = some ⟨g, 0, none⟩) ∧ Below w.heap.size w w' := by
  have P1 : Hid (∀ W : World, Below w.heap.size w W → Calls Try.prog 28 #[.slice a xs.length cap, b.v] W fun e w' => e = .returned (.bool (GP.fitsB xs b)) ∧ Below W.heap.size W w') := fun W h => fitsI_any a cap xs b W hn hs (hin.below h)
  have P2 : Hid (∀ W : World, Below w.heap.size w W → Calls Try.prog 29 #[.slice d ms.length cd] W fun e w' => e = .returned (.bool (EG.rises 8 ms)) ∧ W = w') := fun W h => areMembers_any d cd ms W hm (M4.IntsAt.below hin2 h) _ rfl
  have P3 : Hid (EG.rises 8 ms = true → ∀ W : World, Below w.heap.size w W → Calls Try.prog 31 #[.slice a xs.length cap, b.v, .slice d ms.length cd] W fun e w' => ∃ g c1 ps, e = .returned (.slice (some ⟨g, 0, none⟩) (List.length ps) c1) ∧ RQ.Own 59 w' W.heap.size (.slice (some ⟨g, 0, none⟩) ps.length c1) ps ∧ ps.map Rq.said = RQ.allL xs b ms ∧ Below W.heap.size W w') := fun h W hb => allReached_any a d cap cd xs b ms W (GP.rises_len h) hn (hin.below hb) (M4.IntsAt.below hin2 hb)
  have P4 : Hid (GP.fitsB xs b = true → ∀ W : World, Calls Try.prog 33 #[b.v] W fun e w' => e = .returned (.int .i64 (b.md + b.lf)) ∧ Below W.heap.size W w') := fun h W => by
    obtain ⟨_, _, _, _, h1, h2, _⟩ := GP.fits_is h
    exact lastTime_any b W h1 h2
  have HR : Hid (RQ.reaOk xs b ms = (GP.fitsB xs b && EG.rises 8 ms)) := show RQ.reaOk xs b ms = _ from rfl
  have NO : Hid (RQ.reaOk xs b ms = false → RQ.reaA xs b ms = []) := fun h => RQ.rea_no h
  have YES : Hid (RQ.reaOk xs b ms = true → ∀ ps : List Rq, ps.map Rq.said = RQ.allL xs b ms → ((ps.filter (fun p => RQ.inTime (b.md + b.lf) p.said)).filter (fun p => RQ.near b.hp p.said)).map Rq.said = RQ.reaA xs b ms) := fun h ps hp => by
    rw [RQ.rea_yes h, RQ.said_filter, RQ.said_filter, hp]; rfl
  have ML : Hid (EG.rises 8 ms = true → (RQ.allL xs b ms).length ≤ 8) := fun h => Nat.le_trans (RQ.allL_len xs b ms) (GP.rises_len h)
  have BA := BdAt.box w b 33
  have BB := (Below.refl _ w).alloc (Nat.le_refl _) (.cells #[.int .i64 b.fr, .int .i64 b.to, .bool b.gr, .int .i64 b.md, .int .i64 b.no, .int .i64 b.lf, .int .i64 b.hp, .int .i64 b.of, .int .i64 b.tl, .string b.py] 33)
  clear hin hin2
  generalize RQ.reaOk xs b ms = R at *
  generalize RQ.reaA xs b ms = L at *
  generalize RQ.allL xs b ms = AL at *
  generalize GP.fitsB xs b = q1 at *
  generalize EG.rises 8 ms = q2 at *
  generalize hml : b.md + b.lf = ml at *
  obtain ⟨fr, to, gr, md, no, lf, hp, of, tl, py⟩ := b
  clear hml
  obtain ⟨hlt, c0, c1, c2, c3, c4, c5, c6, c7, c8, c9⟩ := id BA
  go_enter Try.func12, Try.ntmps12
  go_wp2_with fail
  refine (P1.out _ BB).mono ?_
  rintro e w1 ⟨rfl, hb1⟩
  clear c0 c1 c2 c3 c4 c5 c6 c7 c8 c9 hlt P1
  have BA1 := BA.below hb1 BA.1
  have BB1 := BB.trans (hb1.mono BB.size)
  clear hb1 BA BB
  cases q1 with
  | false =>
    have hR : R = false := HR.out
    subst hR
    have HL : Hid (L = []) := NO.out (by first | rfl | trivial)
    clear P2 P3 P4 HR NO YES ML BA1
    go_wp2
    exact bodyPost_ret (v := .tuple #[.slice none 0 0, .bool false]) (by simp [results, Try.results12, go_sem]) rfl ⟨none, 0, [], rfl, RQ.Own.nil _ _ _, HL.out.symm, (fun h => by cases h), BB1⟩
  | true =>
    have hR : R = q2 := HR.out
    subst hR
    go_wp2_with fail
    refine (P2.out _ BB1).mono ?_
    rintro e w' ⟨rfl, rfl⟩
    clear P2 HR
    cases R with
    | false =>
      have HL : Hid (L = []) := NO.out (by first | rfl | trivial)
      clear P3 P4 NO YES ML BA1
      go_wp2
      exact bodyPost_ret (v := .tuple #[.slice none 0 0, .bool false]) (by simp [results, Try.results12, go_sem]) rfl ⟨none, 0, [], rfl, RQ.Own.nil _ _ _, HL.out.symm, (fun h => by cases h), BB1⟩
    | true =>
      have P3' : Hid _ := P3.out (by first | rfl | trivial)
      have P4' : Hid _ := P4.out (by first | rfl | trivial)
      have YES' : Hid _ := YES.out (by first | rfl | trivial)
      have ML' := ML.out (by first | rfl | trivial)
      clear P3 P4 YES ML NO
      have hq := BA1.1
      have KP : ∀ V1 V2 : World, (Below w1.heap.size w1 V1 ∧ V1.cell? ⟨w.heap.size, 0, none⟩ = some (.int .i64 fr) ∧ V1.cell? ⟨w.heap.size, 1, none⟩ = some (.int .i64 to) ∧ V1.cell? ⟨w.heap.size, 2, none⟩ = some (.bool gr) ∧ V1.cell? ⟨w.heap.size, 3, none⟩ = some (.int .i64 md) ∧ V1.cell? ⟨w.heap.size, 4, none⟩ = some (.int .i64 no) ∧ V1.cell? ⟨w.heap.size, 5, none⟩ = some (.int .i64 lf) ∧ V1.cell? ⟨w.heap.size, 6, none⟩ = some (.int .i64 hp) ∧ V1.cell? ⟨w.heap.size, 7, none⟩ = some (.int .i64 of) ∧ V1.cell? ⟨w.heap.size, 8, none⟩ = some (.int .i64 tl) ∧ V1.cell? ⟨w.heap.size, 9, none⟩ = some (.string py)) → Below V1.heap.size V1 V2 → (Below w1.heap.size w1 V2 ∧ V2.cell? ⟨w.heap.size, 0, none⟩ = some (.int .i64 fr) ∧ V2.cell? ⟨w.heap.size, 1, none⟩ = some (.int .i64 to) ∧ V2.cell? ⟨w.heap.size, 2, none⟩ = some (.bool gr) ∧ V2.cell? ⟨w.heap.size, 3, none⟩ = some (.int .i64 md) ∧ V2.cell? ⟨w.heap.size, 4, none⟩ = some (.int .i64 no) ∧ V2.cell? ⟨w.heap.size, 5, none⟩ = some (.int .i64 lf) ∧ V2.cell? ⟨w.heap.size, 6, none⟩ = some (.int .i64 hp) ∧ V2.cell? ⟨w.heap.size, 7, none⟩ = some (.int .i64 of) ∧ V2.cell? ⟨w.heap.size, 8, none⟩ = some (.int .i64 tl) ∧ V2.cell? ⟨w.heap.size, 9, none⟩ = some (.string py)) := fun V1 V2 ⟨h, h0, h1, h2, h3, h4, h5, h6, h7, h8, h9⟩ hb => ⟨h.trans (hb.mono h.size), (hb.cell (p := ⟨w.heap.size, 0, none⟩) (Nat.lt_of_lt_of_le hq h.size)).trans h0, (hb.cell (p := ⟨w.heap.size, 1, none⟩) (Nat.lt_of_lt_of_le hq h.size)).trans h1, (hb.cell (p := ⟨w.heap.size, 2, none⟩) (Nat.lt_of_lt_of_le hq h.size)).trans h2, (hb.cell (p := ⟨w.heap.size, 3, none⟩) (Nat.lt_of_lt_of_le hq h.size)).trans h3, (hb.cell (p := ⟨w.heap.size, 4, none⟩) (Nat.lt_of_lt_of_le hq h.size)).trans h4, (hb.cell (p := ⟨w.heap.size, 5, none⟩) (Nat.lt_of_lt_of_le hq h.size)).trans h5, (hb.cell (p := ⟨w.heap.size, 6, none⟩) (Nat.lt_of_lt_of_le hq h.size)).trans h6, (hb.cell (p := ⟨w.heap.size, 7, none⟩) (Nat.lt_of_lt_of_le hq h.size)).trans h7, (hb.cell (p := ⟨w.heap.size, 8, none⟩) (Nat.lt_of_lt_of_le hq h.size)).trans h8, (hb.cell (p := ⟨w.heap.size, 9, none⟩) (Nat.lt_of_lt_of_le hq h.size)).trans h9⟩
      have KO : ∀ (g : Nat) (V1 V2 : World), w1.heap.size ≤ g → (Below w1.heap.size w1 V1 ∧ V1.cell? ⟨w.heap.size, 0, none⟩ = some (.int .i64 fr) ∧ V1.cell? ⟨w.heap.size, 1, none⟩ = some (.int .i64 to) ∧ V1.cell? ⟨w.heap.size, 2, none⟩ = some (.bool gr) ∧ V1.cell? ⟨w.heap.size, 3, none⟩ = some (.int .i64 md) ∧ V1.cell? ⟨w.heap.size, 4, none⟩ = some (.int .i64 no) ∧ V1.cell? ⟨w.heap.size, 5, none⟩ = some (.int .i64 lf) ∧ V1.cell? ⟨w.heap.size, 6, none⟩ = some (.int .i64 hp) ∧ V1.cell? ⟨w.heap.size, 7, none⟩ = some (.int .i64 of) ∧ V1.cell? ⟨w.heap.size, 8, none⟩ = some (.int .i64 tl) ∧ V1.cell? ⟨w.heap.size, 9, none⟩ = some (.string py)) → MC.Only g V1 V2 → (Below w1.heap.size w1 V2 ∧ V2.cell? ⟨w.heap.size, 0, none⟩ = some (.int .i64 fr) ∧ V2.cell? ⟨w.heap.size, 1, none⟩ = some (.int .i64 to) ∧ V2.cell? ⟨w.heap.size, 2, none⟩ = some (.bool gr) ∧ V2.cell? ⟨w.heap.size, 3, none⟩ = some (.int .i64 md) ∧ V2.cell? ⟨w.heap.size, 4, none⟩ = some (.int .i64 no) ∧ V2.cell? ⟨w.heap.size, 5, none⟩ = some (.int .i64 lf) ∧ V2.cell? ⟨w.heap.size, 6, none⟩ = some (.int .i64 hp) ∧ V2.cell? ⟨w.heap.size, 7, none⟩ = some (.int .i64 of) ∧ V2.cell? ⟨w.heap.size, 8, none⟩ = some (.int .i64 tl) ∧ V2.cell? ⟨w.heap.size, 9, none⟩ = some (.string py)) := fun g V1 V2 hg ⟨h, h0, h1, h2, h3, h4, h5, h6, h7, h8, h9⟩ hb => ⟨h.trans (hb.below hg h.size), (hb.cell (x := ⟨w.heap.size, 0, none⟩) (Nat.lt_of_lt_of_le hq h.size) (by simp; omega)).trans h0, (hb.cell (x := ⟨w.heap.size, 1, none⟩) (Nat.lt_of_lt_of_le hq h.size) (by simp; omega)).trans h1, (hb.cell (x := ⟨w.heap.size, 2, none⟩) (Nat.lt_of_lt_of_le hq h.size) (by simp; omega)).trans h2, (hb.cell (x := ⟨w.heap.size, 3, none⟩) (Nat.lt_of_lt_of_le hq h.size) (by simp; omega)).trans h3, (hb.cell (x := ⟨w.heap.size, 4, none⟩) (Nat.lt_of_lt_of_le hq h.size) (by simp; omega)).trans h4, (hb.cell (x := ⟨w.heap.size, 5, none⟩) (Nat.lt_of_lt_of_le hq h.size) (by simp; omega)).trans h5, (hb.cell (x := ⟨w.heap.size, 6, none⟩) (Nat.lt_of_lt_of_le hq h.size) (by simp; omega)).trans h6, (hb.cell (x := ⟨w.heap.size, 7, none⟩) (Nat.lt_of_lt_of_le hq h.size) (by simp; omega)).trans h7, (hb.cell (x := ⟨w.heap.size, 8, none⟩) (Nat.lt_of_lt_of_le hq h.size) (by simp; omega)).trans h8, (hb.cell (x := ⟨w.heap.size, 9, none⟩) (Nat.lt_of_lt_of_le hq h.size) (by simp; omega)).trans h9⟩
      have AQ : Hid (∀ W' : World, (Below w1.heap.size w1 W' ∧ W'.cell? ⟨w.heap.size, 0, none⟩ = some (.int .i64 fr) ∧ W'.cell? ⟨w.heap.size, 1, none⟩ = some (.int .i64 to) ∧ W'.cell? ⟨w.heap.size, 2, none⟩ = some (.bool gr) ∧ W'.cell? ⟨w.heap.size, 3, none⟩ = some (.int .i64 md) ∧ W'.cell? ⟨w.heap.size, 4, none⟩ = some (.int .i64 no) ∧ W'.cell? ⟨w.heap.size, 5, none⟩ = some (.int .i64 lf) ∧ W'.cell? ⟨w.heap.size, 6, none⟩ = some (.int .i64 hp) ∧ W'.cell? ⟨w.heap.size, 7, none⟩ = some (.int .i64 of) ∧ W'.cell? ⟨w.heap.size, 8, none⟩ = some (.int .i64 tl) ∧ W'.cell? ⟨w.heap.size, 9, none⟩ = some (.string py)) → Calls Try.prog 31 #[.slice a xs.length cap, Bd.v ⟨fr, to, gr, md, no, lf, hp, of, tl, py⟩, .slice d ms.length cd] W' fun e w' => ∃ g c ps, e = .returned (.slice (some ⟨g, 0, none⟩) (List.length ps) c) ∧ (RQ.Own 59 w' w1.heap.size (.slice (some ⟨g, 0, none⟩) ps.length c) ps ∧ ps.length ≤ 8 ∧ ((ps.filter (fun p => RQ.inTime ml p.said)).filter (fun p => RQ.near hp p.said)).map Rq.said = L) ∧ (Below w1.heap.size w1 w' ∧ w'.cell? ⟨w.heap.size, 0, none⟩ = some (.int .i64 fr) ∧ w'.cell? ⟨w.heap.size, 1, none⟩ = some (.int .i64 to) ∧ w'.cell? ⟨w.heap.size, 2, none⟩ = some (.bool gr) ∧ w'.cell? ⟨w.heap.size, 3, none⟩ = some (.int .i64 md) ∧ w'.cell? ⟨w.heap.size, 4, none⟩ = some (.int .i64 no) ∧ w'.cell? ⟨w.heap.size, 5, none⟩ = some (.int .i64 lf) ∧ w'.cell? ⟨w.heap.size, 6, none⟩ = some (.int .i64 hp) ∧ w'.cell? ⟨w.heap.size, 7, none⟩ = some (.int .i64 of) ∧ w'.cell? ⟨w.heap.size, 8, none⟩ = some (.int .i64 tl) ∧ w'.cell? ⟨w.heap.size, 9, none⟩ = some (.string py))) := fun W' h => (P3'.out W' (BB1.trans (h.1.mono BB1.size))).mono fun e w' ⟨g, c, ps, e1, ho, hL, hb⟩ => ⟨g, c, ps, e1, ⟨ho.mono h.1.size, by have := congrArg List.length hL; rw [List.length_map] at this; rw [this]; exact ML', YES'.out ps hL⟩, KP _ _ h hb⟩
      have LQ : Hid (∀ W' : World, (Below w1.heap.size w1 W' ∧ W'.cell? ⟨w.heap.size, 0, none⟩ = some (.int .i64 fr) ∧ W'.cell? ⟨w.heap.size, 1, none⟩ = some (.int .i64 to) ∧ W'.cell? ⟨w.heap.size, 2, none⟩ = some (.bool gr) ∧ W'.cell? ⟨w.heap.size, 3, none⟩ = some (.int .i64 md) ∧ W'.cell? ⟨w.heap.size, 4, none⟩ = some (.int .i64 no) ∧ W'.cell? ⟨w.heap.size, 5, none⟩ = some (.int .i64 lf) ∧ W'.cell? ⟨w.heap.size, 6, none⟩ = some (.int .i64 hp) ∧ W'.cell? ⟨w.heap.size, 7, none⟩ = some (.int .i64 of) ∧ W'.cell? ⟨w.heap.size, 8, none⟩ = some (.int .i64 tl) ∧ W'.cell? ⟨w.heap.size, 9, none⟩ = some (.string py)) → Calls Try.prog 33 #[Bd.v ⟨fr, to, gr, md, no, lf, hp, of, tl, py⟩] W' fun e w' => e = .returned (.int .i64 ml) ∧ Below W'.heap.size W' w' ∧ (Below w1.heap.size w1 w' ∧ w'.cell? ⟨w.heap.size, 0, none⟩ = some (.int .i64 fr) ∧ w'.cell? ⟨w.heap.size, 1, none⟩ = some (.int .i64 to) ∧ w'.cell? ⟨w.heap.size, 2, none⟩ = some (.bool gr) ∧ w'.cell? ⟨w.heap.size, 3, none⟩ = some (.int .i64 md) ∧ w'.cell? ⟨w.heap.size, 4, none⟩ = some (.int .i64 no) ∧ w'.cell? ⟨w.heap.size, 5, none⟩ = some (.int .i64 lf) ∧ w'.cell? ⟨w.heap.size, 6, none⟩ = some (.int .i64 hp) ∧ w'.cell? ⟨w.heap.size, 7, none⟩ = some (.int .i64 of) ∧ w'.cell? ⟨w.heap.size, 8, none⟩ = some (.int .i64 tl) ∧ w'.cell? ⟨w.heap.size, 9, none⟩ = some (.string py))) := fun W' h => (P4'.out W').mono fun e w' ⟨e1, hb⟩ => ⟨e1, hb, KP _ _ h hb⟩
      have NQ : Hid (∀ (g c : Nat) (ps qs : List Rq) (W' : World), ps.length ≤ 8 → ps.filter (fun p => RQ.inTime ml p.said) = qs → RQ.Own 59 W' w1.heap.size (.slice (some ⟨g, 0, none⟩) ps.length c) ps → (Below w1.heap.size w1 W' ∧ W'.cell? ⟨w.heap.size, 0, none⟩ = some (.int .i64 fr) ∧ W'.cell? ⟨w.heap.size, 1, none⟩ = some (.int .i64 to) ∧ W'.cell? ⟨w.heap.size, 2, none⟩ = some (.bool gr) ∧ W'.cell? ⟨w.heap.size, 3, none⟩ = some (.int .i64 md) ∧ W'.cell? ⟨w.heap.size, 4, none⟩ = some (.int .i64 no) ∧ W'.cell? ⟨w.heap.size, 5, none⟩ = some (.int .i64 lf) ∧ W'.cell? ⟨w.heap.size, 6, none⟩ = some (.int .i64 hp) ∧ W'.cell? ⟨w.heap.size, 7, none⟩ = some (.int .i64 of) ∧ W'.cell? ⟨w.heap.size, 8, none⟩ = some (.int .i64 tl) ∧ W'.cell? ⟨w.heap.size, 9, none⟩ = some (.string py)) → Calls Try.prog 30 #[.slice (some ⟨g, 0, none⟩) ps.length c, .func (.func 32) #[] #[], .int .i64 ml] W' fun e w' => e = .returned (.slice (some ⟨g, 0, none⟩) qs.length c) ∧ RQ.Own 59 w' w1.heap.size (.slice (some ⟨g, 0, none⟩) qs.length c) qs ∧ (Below w1.heap.size w1 w' ∧ w'.cell? ⟨w.heap.size, 0, none⟩ = some (.int .i64 fr) ∧ w'.cell? ⟨w.heap.size, 1, none⟩ = some (.int .i64 to) ∧ w'.cell? ⟨w.heap.size, 2, none⟩ = some (.bool gr) ∧ w'.cell? ⟨w.heap.size, 3, none⟩ = some (.int .i64 md) ∧ w'.cell? ⟨w.heap.size, 4, none⟩ = some (.int .i64 no) ∧ w'.cell? ⟨w.heap.size, 5, none⟩ = some (.int .i64 lf) ∧ w'.cell? ⟨w.heap.size, 6, none⟩ = some (.int .i64 hp) ∧ w'.cell? ⟨w.heap.size, 7, none⟩ = some (.int .i64 of) ∧ w'.cell? ⟨w.heap.size, 8, none⟩ = some (.int .i64 tl) ∧ w'.cell? ⟨w.heap.size, 9, none⟩ = some (.string py))) := fun g c ps qs W' h8 hqs ho h => (noMoreT_any w1.heap.size g c ps ml W' h8 ho qs hqs).mono fun e w' ⟨e1, h1, h2⟩ => ⟨e1, h1, KO g _ _ (ho.out.lt g rfl).1 h h2⟩
      have hSd : Below w1.heap.size w1 w1.drew ∧ w1.drew.cell? ⟨w.heap.size, 0, none⟩ = some (.int .i64 fr) ∧ w1.drew.cell? ⟨w.heap.size, 1, none⟩ = some (.int .i64 to) ∧ w1.drew.cell? ⟨w.heap.size, 2, none⟩ = some (.bool gr) ∧ w1.drew.cell? ⟨w.heap.size, 3, none⟩ = some (.int .i64 md) ∧ w1.drew.cell? ⟨w.heap.size, 4, none⟩ = some (.int .i64 no) ∧ w1.drew.cell? ⟨w.heap.size, 5, none⟩ = some (.int .i64 lf) ∧ w1.drew.cell? ⟨w.heap.size, 6, none⟩ = some (.int .i64 hp) ∧ w1.drew.cell? ⟨w.heap.size, 7, none⟩ = some (.int .i64 of) ∧ w1.drew.cell? ⟨w.heap.size, 8, none⟩ = some (.int .i64 tl) ∧ w1.drew.cell? ⟨w.heap.size, 9, none⟩ = some (.string py) := ⟨(Below.refl _ _).drew, BA1.2⟩
      clear P3' P4' YES' ML' KO KP BA1
      go_wp2
      go_region_held3 (fun w' => Below w1.heap.size w1 w' ∧ w'.cell? ⟨w.heap.size, 0, none⟩ = some (.int .i64 fr) ∧ w'.cell? ⟨w.heap.size, 1, none⟩ = some (.int .i64 to) ∧ w'.cell? ⟨w.heap.size, 2, none⟩ = some (.bool gr) ∧ w'.cell? ⟨w.heap.size, 3, none⟩ = some (.int .i64 md) ∧ w'.cell? ⟨w.heap.size, 4, none⟩ = some (.int .i64 no) ∧ w'.cell? ⟨w.heap.size, 5, none⟩ = some (.int .i64 lf) ∧ w'.cell? ⟨w.heap.size, 6, none⟩ = some (.int .i64 hp) ∧ w'.cell? ⟨w.heap.size, 7, none⟩ = some (.int .i64 of) ∧ w'.cell? ⟨w.heap.size, 8, none⟩ = some (.int .i64 tl) ∧ w'.cell? ⟨w.heap.size, 9, none⟩ = some (.string py)) (first | assumption | (show _ ∧ _; assumption)) (first | (go_at_call 31; refine Calls.mono (AQ.out _ (by assumption)) ?_; (rintro e w2 ⟨g, c, ps, rfl, ⟨hA1, hA2, hA3⟩, hS2⟩)) | (go_at_call 33; refine Calls.mono (LQ.out _ (by assumption)) ?_; (rintro e w3 ⟨rfl, hb3, hS3⟩); (replace hA1 := RQ.Own.below hA1 hb3); (obtain ⟨qs, hqs⟩ : ∃ qs, ps.filter (fun p => RQ.inTime ml p.said) = qs := ⟨_, rfl⟩)) | (go_at_call 30; refine Calls.mono (NQ.out g c ps qs _ hA2 hqs hA1 (by assumption)) ?_; (rintro e w4 ⟨rfl, ho4, hSr⟩)))
      have HO4 : Hid _ := ho4
      have HL2 : Hid _ := hA3
      have hq8 : qs.length ≤ 8 := by rw [← hqs]; exact Nat.le_trans (List.length_filter_le _ _) hA2
      rw [hqs] at HL2
      have Hgb : Hid (w1.heap.size ≤ g) := (ho4.out.lt g rfl).1
      obtain ⟨hbS, d0, d1, d2, d3, d4, d5, c6', d7, d8, d9⟩ := hSr
      have BB4 := BB1.trans (hbS.mono BB1.size)
      have hlt4 := Nat.lt_of_lt_of_le hq hbS.size
      clear d0 d1 d2 d3 d4 d5 d7 d8 d9 hSd hS2 hS3 hb3 hA1 hA2 hA3 hqs ho4 AQ LQ NQ hbS
      obtain ⟨rs, hrs⟩ : ∃ rs, qs.filter (fun p => RQ.near hp p.said) = rs := ⟨_, rfl⟩
      have N2 : Hid (Calls _ _ _ _ _) := noMoreH_any w1.heap.size g c qs hp w4 hq8 HO4.out rs hrs
      rw [hrs] at HL2
      clear hrs HO4
      go_wp2_with fail
      refine Calls.mono N2.out ?_
      rintro e w5 ⟨rfl, ho5, hO5⟩
      have HO5 : Hid _ := ho5
      have BB5 := BB4.trans (hO5.below (Nat.le_trans BB1.size Hgb.out) BB4.size)
      clear N2 ho5 hO5 BB4 c6'
      go_wp2
      exact bodyPost_ret (v := .tuple #[.slice (some ⟨g, 0, none⟩) rs.length c, .bool true]) (by simp [results, Try.results12, go_sem]) rfl ⟨some ⟨g, 0, none⟩, c, rs, rfl, HO5.out.mono BB1.size, HL2.out, ⟨g, rfl⟩, BB5⟩
theorem reachI_any (a d : Option Addr) (cap cd : Nat) (xs : List I5) (b : Bd) (ms : List Int) (w : World) (hm : ms.length ≤ 1048576) (hn : xs.length ≤ 1048576) (hs : b.py.size ≤ 1048576) (hin : MI5.RowAt w a xs) (hin2 : M4.IntsAt w d ms) :
    Calls Try.prog 12 #[.slice a xs.length cap, b.v, .slice d ms.length cd] w fun e w' => ∃ a1 c1 ps, e = .returned (.tuple #[.slice a1 (List.length ps) c1, .bool (RQ.reaOk xs b ms)]) ∧ RQ.Own 59 w' w.heap.size (.slice a1 ps.length c1) ps ∧ ps.map Rq.said = RQ.reaA xs b ms ∧ Below w.heap.size w w' :=
  (reachI2_any a d cap cd xs b ms w hm hn hs hin hin2).mono fun _ _ ⟨a1, c1, ps, h1, h2, h3, _, h5⟩ => ⟨a1, c1, ps, h1, h2, h3, h5⟩
end Go.Proofs.Ytpdmbobcbehilaa

/- The contacts by which a group is reached, the program's: TreeFor. -/
namespace Go.Proofs.Ytpdmbobcbehilaa
open Go.RowKit
set_option linter.unusedSimpArgs false in
set_option maxHeartbeats 1600000 in
set_option maxRecDepth 100000 in
theorem goneBy_any (p : Rq) (g k : Nat) (w : World) (hz : p.os.length ≤ 1048576) (hg : g < w.heap.size) (hk : w.cell? ⟨g, 0, none⟩ = some (.int .i64 (k : Int))) (hin : M4.IntsAt w p.a p.os) (R : Bool) (hR : Hid (EG.hasB p.os (k : Int) = R)) :
    Calls Try.prog 45 #[p.v, .pointer (some ⟨g, 0, none⟩)] w fun e w' => e = .returned (.bool R) ∧ Below w.heap.size w w' := by
  obtain ⟨m, t, os, a, c⟩ := p
  have hb : Below w.heap.size w (w.alloc (.cells #[.int .i64 m, .int .i64 t, .slice a os.length c] 59)) := (Below.refl _ w).alloc (Nat.le_refl _) _
  have hk2 : (w.alloc (.cells #[.int .i64 m, .int .i64 t, .slice a os.length c] 59)).cell? ⟨g, 0, none⟩ = some (.int .i64 (k : Int)) := (hb.cell (p := ⟨g, 0, none⟩) hg).trans hk
  have CT : Hid (Calls _ _ _ _ _) := containsI_any a c os (k : Int) (w.alloc (.cells #[.int .i64 m, .int .i64 t, .slice a os.length c] 59)) hz (M4.IntsAt.below hin hb)
  rw [show EG.hasB os (k : Int) = R from hR.out] at CT
  clear hin hR hk
  go_enter Try.func45, Try.ntmps45
  go_wp2_with fail
  refine Calls.mono CT.out ?_
  rintro e w2 ⟨rfl, rfl⟩
  clear CT hk2
  go_wp2
  go_ret
  exact ⟨rfl, hb⟩
set_option linter.unusedSimpArgs false in
set_option maxHeartbeats 1600000 in
set_option maxRecDepth 100000 in
theorem indexRe_any (a : Option Addr) (c : Nat) (ps : List Rq) (g k : Nat) (w : World) (h8 : ps.length ≤ 8) (hz : ∀ p, p ∈ ps → p.os.length ≤ 1048576) (hg : g < w.heap.size) (hk : w.cell? ⟨g, 0, none⟩ = some (.int .i64 (k : Int))) (hin : RQ.At w a ps) (L : List (Int × Int × List Int)) (hs : ps.map Rq.said = L) :
    Calls Try.prog 56 #[.slice a ps.length c, .func (.func 45) #[] #[.pointer (some ⟨g, 0, none⟩)]] w fun e w' => ∃ i : Int, e = .returned (.int .i64 i) ∧ decide (0 ≤ i) = RQ.anyOf L k ∧ Below w.heap.size w w' := by
  have HI : Hid _ := hin
  have HZ : Hid _ := fun i (hi : i < ps.length) => hz _ (RQ.at_mem hi)
  have HY : Hid (∀ i, i < ps.length → EG.hasB (RQ.at_ ps i).os (k : Int) = true → RQ.anyOf L k = true) := fun i hi h => RQ.any_yes hs hi h
  have HN : Hid (RQ.anyUp ps k ps.length → RQ.anyOf L k = false) := fun h => RQ.any_no hs h
  clear hin hz hs
  go_enter Try.func56, Try.ntmps56
  go_wp2
  go_loopw [5, 8] (fun _ iv wr => ∃ i : Nat, iv = .int .i64 i ∧ i ≤ ps.length ∧ Hid (RQ.anyUp ps k i) ∧ Below w.heap.size w wr) (fun _ iv _ => (ps.length - intOf iv).toNat)
  case atStart => exact ⟨0, rfl, by omega, show Hid _ from fun j hj => by omega, Below.refl _ _⟩
  case round =>
    obtain ⟨i, rfl, hil, hT, hb⟩ := hrel
    by_cases hl : i < ps.length
    · obtain ⟨b1, o1, rfl, hlt1, p0, p1, p2, p3, p4⟩ := (HI.out.below hb).at hl
      have hzz := HZ.out i hl
      have hgr := Nat.lt_of_lt_of_le hg hb.size
      have hkr : wr.cell? ⟨g, 0, none⟩ = some (.int .i64 (k : Int)) := (hb.cell (p := ⟨g, 0, none⟩) hg).trans hk
      obtain ⟨q, hq⟩ : ∃ q, EG.hasB (RQ.at_ ps i).os (k : Int) = q := ⟨_, rfl⟩
      have GB : Hid (Calls _ _ _ _ _) := goneBy_any (RQ.at_ ps i) g k wr hzz hgr hkr p4 q hq
      have Y1 : Hid (q = true → RQ.anyOf L k = true) := fun h => HY.out i hl (hq.trans h)
      have N1 : Hid (q = false → RQ.anyUp ps k (i + 1)) := fun h => RQ.anyUp_succ hT.out (hq.trans h)
      clear HY HN hT p3 p4 hq
      generalize RQ.at_ ps i = p at *
      obtain ⟨m, t, ys, ya, yc⟩ := p
      go_wp2_with fail
      refine Calls.mono GB.out ?_
      rintro e w2 ⟨rfl, hb2⟩
      have hb3 := hb.trans (hb2.mono hb.size)
      clear GB hb2 hb p0 p1 p2
      cases q with
      | true =>
        have HT := Y1.out (by first | rfl | trivial)
        clear Y1 N1
        go_wp2
        go_ret
        exact ⟨i, rfl, by rw [HT]; simp, hb3⟩
      | false =>
        have HT : Hid _ := N1.out (by first | rfl | trivial)
        clear Y1 N1
        go_wp2
        go_roundw
        case rel => exact ⟨i + 1, by go_num, by omega, HT, hb3⟩
        case measure => simp [intOf]; omega
    · obtain rfl : i = ps.length := by omega
      have HF := HN.out hT.out
      clear HY HN hT HI
      go_wp2
      go_ret
      exact ⟨-1, rfl, by rw [HF]; rfl, hb⟩
set_option linter.unusedSimpArgs false in
set_option maxHeartbeats 1600000 in
set_option maxRecDepth 100000 in
theorem treeK_any (a : Option Addr) (c : Nat) (ps : List Rq) (g k : Nat) (w : World) (h8 : ps.length ≤ 8) (hz : ∀ p, p ∈ ps → p.os.length ≤ 1048576) (hg : w.cell? ⟨g, 0, none⟩ = some (.slice a ps.length c)) (hgl : g < w.heap.size) (hin : RQ.At w a ps) (L : List (Int × Int × List Int)) (hs : ps.map Rq.said = L) :
    Calls Try.prog 43 #[.int .i64 (k : Int), .pointer (some ⟨g, 0, none⟩)] w fun e w' => e = .returned (.bool (RQ.anyOf L k)) ∧ Below w.heap.size w w' := by
  have hb : Below w.heap.size w (w.alloc (.cells #[.int .i64 (k : Int)] 3)) := (Below.refl _ w).alloc (Nat.le_refl _) _
  have hg2 : (w.alloc (.cells #[.int .i64 (k : Int)] 3)).cell? ⟨g, 0, none⟩ = some (.slice a ps.length c) := (hb.cell (p := ⟨g, 0, none⟩) hgl).trans hg
  have hk2 : (w.alloc (.cells #[.int .i64 (k : Int)] 3)).cell? ⟨w.heap.size, 0, none⟩ = some (.int .i64 (k : Int)) := by rw [World.cell?_alloc_new]; rfl
  have IX : Hid (Calls _ _ _ _ _) := indexRe_any a c ps w.heap.size k (w.alloc (.cells #[.int .i64 (k : Int)] 3)) h8 hz (by simp) hk2 (hin.below hb) L hs
  have CF : Hid (Calls Try.prog 44 #[.slice a ps.length c, .func (.func 45) #[] #[.pointer (some ⟨w.heap.size, 0, none⟩)]] (w.alloc (.cells #[.int .i64 (k : Int)] 3)) fun e w' => e = .returned (.bool (RQ.anyOf L k)) ∧ Below w.heap.size w w') := by
    clear hin hz hk2 hg2 hg hs
    generalize RQ.anyOf L k = R at *
    generalize w.alloc (.cells #[.int .i64 (k : Int)] 3) = W at *
    show Calls _ _ _ _ _
    go_enter Try.func44, Try.ntmps44
    go_wp2_with fail
    refine Calls.mono IX.out ?_
    rintro e w2 ⟨i, rfl, hi, hb2⟩
    have hb3 := hb.trans (hb2.mono hb.size)
    clear IX hb2
    go_wp2
    go_ret
    exact ⟨rfl, hb3⟩
  clear IX hin hz hk2 hg hs
  go_enter Try.func43, Try.ntmps43
  go_wp2_with fail
  refine Calls.mono CF.out ?_
  rintro e w2 ⟨rfl, hb2⟩
  clear CF hg2
  go_wp2
  go_ret
  exact ⟨rfl, hb2⟩
set_option linter.unusedSimpArgs false in
set_option maxHeartbeats 1600000 in
set_option maxRecDepth 100000 in
theorem treI_any (a d : Option Addr) (cap cd : Nat) (xs : List I5) (b : Bd) (ms : List Int) (w : World) (hm : ms.length ≤ 1048576) (hn : xs.length ≤ 1048576) (hs : b.py.size ≤ 1048576) (hin : MI5.RowAt w a xs) (hin2 : M4.IntsAt w d ms) :
    Calls Try.prog 24 #[.slice a xs.length cap, b.v, .slice d ms.length cd] w fun e w' => ∃ a1 c1, e = .returned (.tuple #[.slice a1 (RQ.treA xs b ms).length c1, .bool (RQ.reaOk xs b ms)]) ∧ w'.ownsRow w.heap.size 3 1 (.slice a1 (RQ.treA xs b ms).length c1) (RQ.treA xs b ms).length (M4.iv (RQ.treA xs b ms)) ∧ Below w.heap.size w w' := by
  have P1 : Hid (∀ W : World, Below w.heap.size w W → Calls Try.prog 12 #[.slice a xs.length cap, b.v, .slice d ms.length cd] W fun e w' => ∃ a1 c1 ps, e = .returned (.tuple #[.slice a1 (List.length ps) c1, .bool (RQ.reaOk xs b ms)]) ∧ RQ.Own 59 w' W.heap.size (.slice a1 ps.length c1) ps ∧ ps.map Rq.said = RQ.reaA xs b ms ∧ Below W.heap.size W w') := fun W h => reachI_any a d cap cd xs b ms W hm hn hs (hin.below h) (M4.IntsAt.below hin2 h)
  have NO : Hid (RQ.reaOk xs b ms = false → RQ.treA xs b ms = []) := fun h => RQ.tre_no h
  have YES : Hid (RQ.reaOk xs b ms = true → TR.those xs.length (RQ.anyOf (RQ.reaA xs b ms)) = RQ.treA xs b ms ∧ xs.length ≤ 20) := fun h => ⟨by rw [RQ.tre_yes h, RQ.rea_yes h], RQ.rea_plan h⟩
  have ML : Hid ((RQ.reaA xs b ms).length ≤ 8) := RQ.reaA_len xs b ms
  have MZ : Hid (∀ r, r ∈ RQ.reaA xs b ms → r.2.2.length ≤ 1048576) := RQ.reaA_row xs b ms
  have BA := BdAt.box w b 33
  have BB := (Below.refl _ w).alloc (Nat.le_refl _) (.cells #[.int .i64 b.fr, .int .i64 b.to, .bool b.gr, .int .i64 b.md, .int .i64 b.no, .int .i64 b.lf, .int .i64 b.hp, .int .i64 b.of, .int .i64 b.tl, .string b.py] 33)
  clear hin hin2
  generalize RQ.reaA xs b ms = AL at *
  generalize RQ.treA xs b ms = L at *
  generalize RQ.reaOk xs b ms = q1 at *
  obtain ⟨fr, to, gr, md, no, lf, hp, of, tl, py⟩ := b
  obtain ⟨hlt, c0, c1, c2, c3, c4, c5, c6, c7, c8, c9⟩ := id BA
  go_enter Try.func24, Try.ntmps24
  go_wp2_with fail
  refine (P1.out _ BB).mono ?_
  rintro e w1 ⟨a1, ca1, ps, rfl, ho, hL, hb1⟩
  clear c0 c1 c2 c3 c4 c5 c6 c7 c8 c9 hlt P1
  have BB1 := BB.trans (hb1.mono BB.size)
  have HO : Hid (RQ.At w1 a1 ps) := ho.at
  have h8 : ps.length ≤ 8 := by have := congrArg List.length hL; rw [List.length_map] at this; rw [this]; exact ML.out
  have HPZ : Hid (∀ p, p ∈ ps → p.os.length ≤ 1048576) := fun p hp => MZ.out p.said (by rw [← hL]; exact List.mem_map_of_mem hp)
  have HL : Hid _ := hL
  have hbx : Below w1.heap.size w1 (w1.alloc (.cells #[.slice a1 ps.length ca1] 28)) := (Below.refl _ w1).alloc (Nat.le_refl _) _
  have HBX : Hid _ := hbx
  have hcx : (w1.alloc (.cells #[.slice a1 ps.length ca1] 28)).cell? ⟨w1.heap.size, 0, none⟩ = some (.slice a1 ps.length ca1) := by rw [World.cell?_alloc_new]; rfl
  have HCX : Hid _ := hcx
  have BB2 := BB1.trans (hbx.mono BB1.size)
  clear hb1 ho hL ML MZ BA hbx hcx
  cases q1 with
  | false =>
    have hL := NO.out (by first | rfl | trivial)
    subst hL
    clear NO YES HO HL HPZ HBX HCX
    go_wp2
    exact bodyPost_ret (v := .tuple #[.slice none 0 0, .bool false]) (by simp [results, Try.results24, go_sem]) rfl ⟨none, 0, rfl, World.ownsRow_nil _ _ _ _, BB2⟩
  | true =>
    obtain ⟨hY, h20⟩ := YES.out (by first | rfl | trivial)
    have TH : Hid (Calls _ _ _ _ _) := thoseOfT_any (.pointer (some ⟨w1.heap.size, 0, none⟩)) xs.length (RQ.anyOf AL) (w1.alloc (.cells #[.slice a1 ps.length ca1] 28)) (by omega) (fun i W1 hi hb => treeK_any a1 ca1 ps w1.heap.size i W1 h8 HPZ.out ((hb.cell (p := ⟨w1.heap.size, 0, none⟩) (by simp)).trans HCX.out) (by have := hb.size; simp at this; omega) ((HO.out.below HBX.out).below hb) AL HL.out) L hY
    have hs2 := BB2.size
    clear NO YES HO HL HPZ HBX HCX hY
    go_wp2_with fail
    refine Calls.mono TH.out ?_
    rintro e w3 ⟨a3, c3, rfl, ho3, hb3⟩
    have HO3 : Hid _ := TR.own_mono ho3 hs2
    have BB3 := BB2.trans (hb3.mono hs2)
    clear TH ho3 hb3 BB1 BB BB2
    go_wp2
    exact bodyPost_ret (v := .tuple #[.slice a3 L.length c3, .bool true]) (by simp [results, Try.results24, go_sem]) rfl ⟨a3, c3, rfl, HO3.out, BB3⟩
end Go.Proofs.Ytpdmbobcbehilaa

/- The law FnExactTreeFor answers true, whatever the arguments. -/
namespace Go.Proofs.Ytpdmbobcbehilaa
open Go.RowKit
theorem lawTreR_any (a : Option Addr) (cap : Nat) (xs : List I5) (b : Bd) (d : Option Addr) (cd : Nat) (ms : List Int) (w : World) (hl : xs.length ≤ maxLen) (hl2 : ms.length ≤ maxLen) (hi : MI5.RowAt w a xs) (hi2 : M4.IntsAt w d ms) (hp : b.py.size ≤ maxLen) :
    Calls Try.prog 5 #[.slice a xs.length cap, b.v, .slice d ms.length cd] w fun e w' => e = .returned (.bool true) ∧ Below w.heap.size w w' :=
  lawTreeFor_any a cap xs b d cd ms (RQ.treA xs b ms) (RQ.treA_len xs b ms) (RQ.reaOk xs b ms) (fun hz hz2 hy _ _ W hr hr2 => treS_any _ _ _ _ xs b ms W hz2 hz hy hr hr2) (fun hz hz2 hy _ _ W hr hr2 => treI_any _ _ _ _ xs b ms W hz2 hz hy hr hr2) w hl hl2 hi hi2 hp
end Go.Proofs.Ytpdmbobcbehilaa
