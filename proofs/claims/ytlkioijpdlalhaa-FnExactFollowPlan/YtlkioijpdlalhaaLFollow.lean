import Derived.Test.YtlkioijpdlalhaaMRP
import Derived.Test.YtlkioijpdlalhaaMA
import Derived.Test.YtlkioijpdlalhaaM5
import Derived.Test.YtlkioijpdlalhaaMCur
import Derived.OwnWalk
import Derived.Test.YtlkioijpdlalhaaRows
import Derived.Test.YtlkioijpdlalhaaCPlan
import Derived.Test.YtlkioijpdlalhaaMSta
import Derived.Test.YtlkioijpdlalhaaCSmall6
import Derived.WalkKit
import Derived.WalkSpells
import Derived.WalkLawsBesides
import Derived.Outline
import Derived.Deep.RegionHeld3
import Derived.Test.YtlkioijpdlalhaaMB1
import Derived.Test.YtlkioijpdlalhaaMPN
import Derived.Test.YtlkioijpdlalhaaC6Search
import Derived.Test.YtlkioijpdlalhaaM6R
import Derived.Test.YtlkioijpdlalhaaMRou
import Derived.Deep.QuietTactic
import Derived.BigQuiet
import Derived.Laws.AppendOwnNone
import Derived.Test.YtlkioijpdlalhaaMJ
import Derived.Test.YtlkioijpdlalhaaCFloatN
import Derived.Test.YtlkioijpdlalhaaMPA
import Derived.Test.YtlkioijpdlalhaaCGoodBundle
import Derived.Test.YtlkioijpdlalhaaCImplGoodB
import Derived.Test.YtlkioijpdlalhaaMVix
import Derived.Test.YtlkioijpdlalhaaCArrO
import Derived.Test.YtlkioijpdlalhaaMInfo
import Derived.Test.YtlkioijpdlalhaaCReverse
import Derived.Test.YtlkioijpdlalhaaCFloat
import Derived.Test.YtlkioijpdlalhaaMOne
import Derived.Test.YtlkioijpdlalhaaMTr
import Derived.Test.YtlkioijpdlalhaaMRO
import Derived.Test.YtlkioijpdlalhaaMRH
import Derived.Test.YtlkioijpdlalhaaLWFollow
/- Appends in a region that draws; rows and boxes side by side: plain facts, over whatever program. -/
namespace Go.Proofs.Ytlkioijpdlalhaa
namespace RA
open Go.RowKit
theorem rg_grown {w w' : World} {k o : Nat} {cs : List Value} {row : Option Nat} (h : MA.Rg w k o cs) (hg : w.grownBy w' row) (hne : some k ≠ row) : MA.Rg w' k o cs := by
  obtain ⟨h0, h1, h2⟩ := h
  have e := hg.block k h0 hne
  refine ⟨Nat.lt_of_lt_of_le h0 hg.size, fun j v hv => (World.cell?_of_block (a := ⟨k, o + j, none⟩) e).trans (h1 j v hv), fun j hj => ?_⟩
  obtain ⟨q1, q2⟩ := h2 j hj
  exact ⟨by rw [World.cell?_of_block (a := ⟨k, o + j, none⟩) e]; exact q1, by rw [World.frozen?_of_block (a := ⟨k, o + j, none⟩) e]; exact q2⟩
theorem app_run {P : Program} {o : Oper} {a : Act} {w w' : World} {s x : Operand} {t : TypeId} {v u v' : Value} (ho : o.op = .call { callee := .builtin .append, args := #[s, x], argTypes := #[t, t] }) (hs : a.eval s = v) (hx : a.eval x = u) (hr : (Builtin.append_ #[t, t] o.type #[v, u]).run P w = .ok v' w') : (execOp a.eval o).run P w = .ok (.value v') w' := by
  unfold execOp
  simp only [ho, resolve, invoke, builtin, Sem.run_bind, Sem.run_pure, Result.andThen_ok, List.map_toArray, List.map_cons, List.map_nil, hs, hx, hr]
theorem only_cells (k : Nat) : ∀ (vs : List Value) (o : Nat) (w : World), MC.Only k w (w.setCells k o vs)
  | [], _, w => MC.Only.refl k w
  | v :: r, o, w => ((MC.Only.refl k w).setCell o v).trans (only_cells k r (o + 1) _)
theorem own_only {w w' : World} {base e sz n k : Nat} {v : Value} {xs : List Value} (h : w.ownsRow base e sz v n xs) (ho : MC.Only k w w') (hn : v.ownBlock ≠ some k) : w'.ownsRow base e sz v n xs := by
  refine ⟨h.1, ?_⟩
  rcases h.2 with h' | ⟨g, cap', cur, rfl, hb, hg, rest⟩
  · exact .inl h'
  · refine .inr ⟨g, cap', cur, rfl, hb, (ho.block g (Array.getElem?_eq_some_iff.1 hg).1 (fun e => hn (by rw [← e]; rfl))).trans hg, rest⟩
theorem rg_only {w w' : World} {k o p : Nat} {cs : List Value} (h : MA.Rg w k o cs) (ho : MC.Only p w w') (hne : k ≠ p) : MA.Rg w' k o cs := by
  obtain ⟨h0, h1, h2⟩ := h
  have e := ho.block k h0 hne
  refine ⟨Nat.lt_of_lt_of_le h0 ho.size, fun j v hv => (World.cell?_of_block (a := ⟨k, o + j, none⟩) e).trans (h1 j v hv), fun j hj => ?_⟩
  obtain ⟨q1, q2⟩ := h2 j hj
  exact ⟨by rw [World.cell?_of_block (a := ⟨k, o + j, none⟩) e]; exact q1, by rw [World.frozen?_of_block (a := ⟨k, o + j, none⟩) e]; exact q2⟩
end RA
end Go.Proofs.Ytlkioijpdlalhaa

/- isStart, the program's. -/
namespace Go.Proofs.Ytlkioijpdlalhaa
open Go.RowKit
set_option maxHeartbeats 800000 in
set_option maxRecDepth 100000 in
theorem isStart_any (a : Option Addr) (ca : Nat) (xs : List I5) (f n : Int) (w : World) (hn : xs.length ≤ 1048576) (hin : MI5.RowAt w a xs) :
    Calls Try.prog 36 #[.slice a xs.length ca, .int .i64 f, .int .i64 n] w fun e w' => e = .returned (.bool (PN.startOk xs f n)) ∧ Below w.heap.size w w' := by
  have GP : Hid (∀ W : World, MI5.RowAt W a xs → Calls Try.prog 32 #[.slice a xs.length ca] W fun e w' => e = .returned (.bool (PN.okP xs)) ∧ Below W.heap.size W w') := fun W h => implGoodPlan_any a ca xs W hn h _ rfl
  have HI : Hid (MI5.RowAt w a xs) := hin
  have NI : Hid (∀ W : World, Calls Try.prog 34 #[.int .i64 f] W fun e w' => e = .returned (.bool (decide (0 ≤ f ∧ f ≤ 7))) ∧ W = w') := fun W => nodeI_any f W
  have WI : Hid (∀ W : World, Calls Try.prog 35 #[.int .i64 n] W fun e w' => e = .returned (.bool (decide (0 ≤ n ∧ n ≤ 1000))) ∧ W = w') := fun W => whenI_any n W
  clear hin
  obtain ⟨R, hR⟩ : ∃ R, PN.startOk xs f n = R := ⟨_, rfl⟩
  rw [hR]
  simp only [PN.startOk] at hR
  generalize decide (0 ≤ f ∧ f ≤ 7) = q1 at *
  generalize decide (0 ≤ n ∧ n ≤ 1000) = q2 at *
  generalize PN.okP xs = q0 at *
  have HR : Hid _ := hR
  clear hR
  go_enter Try.func36, Try.ntmps36
  go_wp2_with fail
  refine (GP.out _ HI.out).mono ?_
  rintro e w1 ⟨rfl, hb1⟩
  clear GP HI
  cases q0 with
  | false =>
    obtain rfl : R = false := by rw [← HR.out]; rfl
    go_wp2
    go_ret
    exact ⟨rfl, hb1⟩
  | true =>
    go_wp2_with fail
    refine (NI.out _).mono ?_
    rintro e w' ⟨rfl, rfl⟩
    cases q1 with
    | false =>
      obtain rfl : R = false := by rw [← HR.out]; rfl
      go_wp2
      go_ret
      exact ⟨rfl, hb1⟩
    | true =>
      go_wp2_with fail
      refine (WI.out _).mono ?_
      rintro e w' ⟨rfl, rfl⟩
      obtain rfl : R = q2 := by rw [← HR.out]; rfl
      go_wp2
      go_ret
      exact ⟨rfl, hb1⟩
end Go.Proofs.Ytlkioijpdlalhaa

/- Bundles that fit a plan, plain facts. -/
namespace Go.Proofs.Ytlkioijpdlalhaa
open Go.RowKit
namespace GP
open PN
/-- Whether a bundle fits a plan. -/
def fitsB (xs : List I5) (b : Bd) : Bool := okP xs && B1.good b && decide (b.tl = 0) && nodeOk b.fr && whenOk b.md
theorem fits_is {xs : List I5} {b : Bd} (h : fitsB xs b = true) : okP xs = true ∧ B1.good b = true ∧ b.tl = 0 ∧ (0 ≤ b.fr ∧ b.fr ≤ 7) ∧ (0 ≤ b.md ∧ b.md ≤ 1000) ∧ (1 ≤ b.lf ∧ b.lf ≤ 1000000) ∧ (0 ≤ b.hp ∧ b.hp ≤ 30) := by
  simp only [fitsB, Bool.and_eq_true, decide_eq_true_eq] at h
  obtain ⟨⟨⟨⟨h1, h2⟩, h3⟩, h4⟩, h5⟩ := h
  have hg : B1.head b = true := by simp only [B1.good, Bool.and_eq_true] at h2; exact h2.1.1
  simp only [B1.head, Bool.and_eq_true] at hg
  exact ⟨h1, h2, h3, node_yes h4, when_yes h5, B1.inB_is hg.1.2, B1.inB_is hg.2⟩
end GP
end Go.Proofs.Ytlkioijpdlalhaa

/- RouteTo, the specification's. -/
namespace Go.Proofs.Ytlkioijpdlalhaa
open Go.RowKit
namespace PN
theorem SR.grown {base : Nat} {w W W' : World} {g1 g2 c1 c2 : Nat} {s : St} {o : Obj} (h : SR base w W g1 g2 c1 c2 s) (hB : base ≤ w.heap.size) (hg : (W.alloc o).grownBy W' (some W.heap.size)) : SR base w W' g1 g2 c1 c2 s := by
  have l1 := h.l1
  have l2 := h.l2
  have hs := h.bl.size
  exact ⟨own_grown (h.a.alloc o) hg (fun g e => by simp only [Value.ownBlock, Option.some.injEq] at e; simp only [ne_eq, Option.some.injEq]; omega), own_grown (h.b.alloc o) hg (fun g e => by simp only [Value.ownBlock, Option.some.injEq] at e; simp only [ne_eq, Option.some.injEq]; omega), h.ne, (h.bl.alloc (Nat.le_trans hB hs) o).grown hg (by simp; omega) (fun k hk => by simp at hk; omega)⟩
end PN
set_option linter.unusedSimpArgs false in
set_option maxHeartbeats 3200000 in
set_option maxRecDepth 100000 in
theorem specRoute_any (a : Option Addr) (ca : Nat) (xs : List I5) (f n t : Int) (w : World) (hn : xs.length ≤ 1048576) (hin : MI5.RowAt w a xs) :
    Calls Try.prog 19 #[.slice a xs.length ca, .int .i64 f, .int .i64 n, .int .i64 t] w fun e w' => ∃ a1 c1, e = .returned (.tuple #[.slice a1 (PN.routeL xs f n t).length c1, .int .i64 (PN.tellN (PN.routeM xs f n t)), .bool (PN.tellB (PN.routeM xs f n t))]) ∧ w'.ownsRow w.heap.size 3 1 (.slice a1 (PN.routeL xs f n t).length c1) (PN.routeL xs f n t).length (M4.iv (PN.routeL xs f n t)) ∧ Below w.heap.size w w' := by
  obtain ⟨i0, hi, hz0, hz1, hz2⟩ := info_parts Try.info3
  have GP : Hid (∀ W : World, MI5.RowAt W a xs → Calls Try.prog 28 #[.slice a xs.length ca] W fun e w' => e = .returned (.bool (PN.okP xs)) ∧ Below W.heap.size W w') := fun W h => specGoodPlan_any a ca xs W hn h _ rfl
  have NI : Hid (∀ W : World, Calls Try.prog 27 #[.int .i64 f] W fun e w' => e = .returned (.bool (decide (0 ≤ f ∧ f ≤ 7))) ∧ W = w') := fun W => nodeS_any f W
  have NT : Hid (∀ W : World, Calls Try.prog 27 #[.int .i64 t] W fun e w' => e = .returned (.bool (decide (0 ≤ t ∧ t ≤ 7))) ∧ W = w') := fun W => nodeS_any t W
  have WI : Hid (∀ W : World, Calls Try.prog 30 #[.int .i64 n] W fun e w' => e = .returned (.bool (decide (0 ≤ n ∧ n ≤ 1000))) ∧ W = w') := fun W => whenS_any n W
  have HI : Hid (MI5.RowAt w a xs) := hin
  clear hin
  obtain ⟨N, hN⟩ : ∃ N, PN.tellN (PN.routeM xs f n t) = N := ⟨_, rfl⟩
  obtain ⟨T, hT⟩ : ∃ T, PN.tellB (PN.routeM xs f n t) = T := ⟨_, rfl⟩
  obtain ⟨L, hL⟩ : ∃ L, PN.routeL xs f n t = L := ⟨_, rfl⟩
  have NO : Hid (PN.askOk xs f n t = false → N = 0 ∧ T = false ∧ L = []) := fun h => by
    have hT' : PN.tellB (PN.routeM xs f n t) = false := by rw [PN.route_no h]; rfl
    rw [← hN, ← hT, ← hL, PN.routeL_no hT', PN.route_no h]; exact ⟨rfl, rfl, rfl⟩
  have YES : Hid (PN.askOk xs f n t = true → N = PN.tellN ((PN.fin xs (PN.st0 f n)).wh t.toNat) ∧ T = PN.tellB ((PN.fin xs (PN.st0 f n)).wh t.toNat) ∧ (T = false → L = []) ∧ (T = true → L = PN.way xs (PN.fin xs (PN.st0 f n)).la f.toNat 8 t.toNat)) := fun h => by
    rw [← hN, ← hT, ← hL, ← PN.route_yes h]; exact ⟨rfl, rfl, PN.routeL_no, PN.routeL_yes⟩
  have CS0 : Hid (PN.askOk xs f n t = true → ∀ W : World, MI5.RowAt W a xs → Calls Try.prog 31 #[.slice a xs.length ca, .int .i64 f, .int .i64 n] W fun e w' => ∃ g1 g2 c1 c2, e = .returned (.tuple #[.slice (some ⟨g1, 0, none⟩) 8 c1, .slice (some ⟨g2, 0, none⟩) 8 c2]) ∧ PN.SR W.heap.size W w' g1 g2 c1 c2 (PN.fin xs (PN.st0 f n))) := fun h W hr => by
    obtain ⟨h0, h1, h2, h3, h4⟩ := PN.start_is (PN.ask_is h).1
    exact l6Search_any a ca xs f n W h0 h1 h2 h3 h4 hr
  rw [hN, hT, hL]
  clear hN hT hL
  obtain ⟨q1, h1⟩ : ∃ q, decide (0 ≤ f ∧ f ≤ 7) = q := ⟨_, rfl⟩
  obtain ⟨q2, h2⟩ : ∃ q, decide (0 ≤ n ∧ n ≤ 1000) = q := ⟨_, rfl⟩
  obtain ⟨q3, h3⟩ : ∃ q, decide (0 ≤ t ∧ t ≤ 7) = q := ⟨_, rfl⟩
  obtain ⟨q0, h0⟩ : ∃ q, PN.okP xs = q := ⟨_, rfl⟩
  have hS : PN.askOk xs f n t = (q0 && q1 && q2 && q3) := by rw [← h0, ← h1, ← h2, ← h3]; rfl
  rw [h0] at GP
  rw [h1] at NI
  rw [h2] at WI
  rw [h3] at NT
  have HS : Hid _ := hS
  clear h0 h1 h2 h3 hS
  go_enter Try.func19, Try.ntmps19
  go_wp2_with fail
  refine (GP.out _ HI.out).mono ?_
  rintro e w1 ⟨rfl, hb1⟩
  have HI1 : Hid (MI5.RowAt w1 a xs) := HI.out.below hb1
  clear GP HI
  cases q0 with
  | false =>
    obtain ⟨rfl, rfl, rfl⟩ := NO.out HS.out
    clear NO YES CS0 NI NT WI HS HI1
    go_wp2
    go_ret3
    exact ⟨none, 0, rfl, World.ownsRow_nil _ _ _ _, hb1⟩
  | true =>
    go_wp2_with fail
    refine (NI.out _).mono ?_
    rintro e w' ⟨rfl, rfl⟩
    clear NI
    cases q1 with
    | false =>
      obtain ⟨rfl, rfl, rfl⟩ := NO.out HS.out
      clear NO YES CS0 NT WI HS HI1
      go_wp2
      go_ret3
      exact ⟨none, 0, rfl, World.ownsRow_nil _ _ _ _, hb1⟩
    | true =>
      go_wp2_with fail
      refine (WI.out _).mono ?_
      rintro e w' ⟨rfl, rfl⟩
      clear WI
      cases q2 with
      | false =>
        obtain ⟨rfl, rfl, rfl⟩ := NO.out HS.out
        clear NO YES CS0 NT HS HI1
        go_wp2
        go_ret3
        exact ⟨none, 0, rfl, World.ownsRow_nil _ _ _ _, hb1⟩
      | true =>
        go_wp2_with fail
        refine (NT.out _).mono ?_
        rintro e w' ⟨rfl, rfl⟩
        clear NT
        cases q3 with
        | false =>
          obtain ⟨rfl, rfl, rfl⟩ := NO.out HS.out
          clear NO YES CS0 HS HI1
          go_wp2
          go_ret3
          exact ⟨none, 0, rfl, World.ownsRow_nil _ _ _ _, hb1⟩
        | true =>
          have hask : PN.askOk xs f n t = true := HS.out
          obtain ⟨hst, ht0, ht1⟩ := PN.ask_is hask
          obtain ⟨hok, hf0, hf1, hn0, hn1⟩ := PN.start_is hst
          have CS : Hid _ := CS0.out hask
          have HY : Hid _ := YES.out hask
          have HOK : Hid _ := hok
          have GC : Hid (∀ k, k < xs.length → PN.Good (MI5.at_ xs k)) := fun k hk => PN.okP_good hok hk
          have HVI : Hid (∃ rk, PN.Via xs f.toNat (PN.fin xs (PN.st0 f n)) rk) := PN.via_fin hok (PN.st0_ok hn0 hn1) (PN.ord_st0 hok) (PN.via_st0 xs hf0 hf1)
          have HOS : Hid (PN.okS (PN.fin xs (PN.st0 f n)).wh) := PN.fin_okS hok (PN.st0_ok hn0 hn1)
          clear NO YES CS0 HS hask hst hok
          obtain ⟨tn, rfl⟩ := Int.eq_ofNat_of_zero_le ht0
          obtain ⟨fn, rfl⟩ := Int.eq_ofNat_of_zero_le hf0
          have ht8 : tn < 8 := by omega
          have tt8 : (tn : Int) < 8 := by omega
          generalize PN.fin xs (PN.st0 (fn : Int) n) = s at *
          rw [show ((tn : Int)).toNat = tn from rfl, show ((fn : Int)).toNat = fn from rfl] at HY
          rw [show ((fn : Int)).toNat = fn from rfl] at HVI
          go_wp2_with fail
          refine (CS.out _ HI1.out).mono ?_
          rintro e w2 ⟨g1, g2, c1, c2, rfl, hR⟩
          have hci := hR.cellA ht8
          have l1 := hR.l1
          have HR : Hid _ := hR
          have hB2 : Below w.heap.size w w2 := hb1.trans (hR.bl.mono hb1.size)
          clear CS hR
          have okt := HOS.out tn
          cases hm : s.wh tn with
          | ago => rw [hm] at okt; exact absurd okt id
          | inf =>
            rw [hm] at hci HY
            obtain ⟨rfl, rfl, hLL, -⟩ := HY.out
            obtain rfl := hLL rfl
            simp only [PN.tS] at hci
            clear HY HOK GC HVI HOS HR HI1 hm okt
            go_wp2
            go_ret3
            exact ⟨none, 0, rfl, World.ownsRow_nil _ _ _ _, hB2⟩
          | fin p =>
            rw [hm] at hci HY okt
            obtain ⟨p0, p1⟩ : 0 ≤ p ∧ p ≤ 1048576 := okt
            obtain ⟨rfl, rfl, -, hLL⟩ := HY.out
            have hLw := hLL rfl
            obtain ⟨rk, hV⟩ := HVI.out
            have HB : Hid (PN.Back xs fn s L tn []) := by show PN.Back _ _ _ _ _ _; rw [hLw]; exact PN.Back.start hV ht8 hm
            have hl8 : L.length ≤ 8 := by rw [hLw]; exact PN.way_len xs s.la fn 8 tn
            clear hLw
            have HI2 : Hid (MI5.RowAt w1 a xs) := HI1.out
            simp only [PN.tS] at hci
            have HM : Hid (s.wh tn = .fin N) := hm
            clear HY hLL hV HVI HOS HI1 hm
            go_wp2
            go_loopw [13, 14] (fun ov nv wr => ∃ (v : Nat) (acc : List Int), nv = .int .i64 v ∧ Hid (PN.Back xs fn s L v acc) ∧ wr.ownsRow w1.heap.size 3 1 ov acc.length (M4.iv acc) ∧ PN.SR w1.heap.size w1 wr g1 g2 c1 c2 s) (fun ov _ _ => 8 - PN.lenV ov)
            case atStart => exact ⟨tn, [], rfl, HB, World.ownsRow_nil _ _ _ _, HR.out⟩
            case round =>
              clear HB HR hB2 hci l1
              obtain ⟨v, acc, rfl, hB, hown, hS⟩ := hrel
              by_cases hv : v = fn
              · obtain rfl := hv
                have hLe := PN.Back.end_ hB.out
                have hci : wr.cell? ⟨g1, tn, none⟩ = some (.int .i64 N) := by have := hS.cellA ht8; rw [HM.out] at this; exact this
                have l1 := hS.l1
                obtain ⟨a3, c3, hov, _⟩ := M5.own_view hown
                rw [hov] at hown ⊢
                have HO : Hid _ := hown
                have HBL : Hid (Below w.heap.size w wr) := hb1.trans (hS.bl.mono hb1.size)
                have HLE : Hid _ := hLe
                clear hB hown hS HOK GC HI2 hov hLe hi hz0 hz1 hz2
                go_wp2
                go_quiet (fail)
                go_wp2
                go_ret3
                exact ⟨a3, c3, by rw [HLE.out]; rfl, by rw [HLE.out]; exact M5.own_below (CS6.own_base HO.out hb1.size) (below_drewN (Below.refl _ wr) _), below_drewN HBL.out _⟩
              · obtain ⟨k, hk1, hk2, hk3, hk4⟩ := PN.Back.next HOK.out hB.out hv
                have hv8 := hB.out.lt
                have vv8 : (v : Int) < 8 := by omega
                have kk0 : (0 : Int) ≤ (k : Int) := by omega
                have kk1 : (k : Int) < (xs.length : Int) := by omega
                have hvf : ((v : Int) != (fn : Int)) = true := by simp; omega
                have cb : wr.cell? ⟨g2, v, none⟩ = some (.int .i64 (k : Int)) := by have := hS.cellB hv8; rw [hk1] at this; exact this
                have l2 := hS.l2
                have G := GC.out k hk2
                obtain ⟨i, hii⟩ := Int.eq_ofNat_of_zero_le G.f0
                have hin : (MI5.at_ xs k).a0.toNat = i := by rw [hii]; rfl
                rw [hin] at hk4
                obtain ⟨b4, off4, hab, hlt4, e0, -⟩ := HI2.out.at hk2
                have HB2 : Hid _ := hk4
                have hbs := hS.bl.size
                have hown0 : (wr.alloc (.cells #[.int .i64 (k : Int)] 3)).ownsRow w1.heap.size 3 1 (.slice (some ⟨wr.heap.size, 0, none⟩) 1 1) 1 [.int .i64 (k : Int)] := PN.own_lit1 wr _ _ hbs
                have HO0 : Hid _ := hown0
                have HOA : Hid _ := World.ownsRow.alloc hown (.cells #[.int .i64 (k : Int)] 3)
                have hl8' : acc.length < 8 := hk3
                have HS : Hid _ := hS
                have e0' := fun (W' : World) (h : PN.SR w1.heap.size w1 W' g1 g2 c1 c2 s) => (h.bl.cell (p := ⟨b4, off4 + k * 5, none⟩) hlt4).trans e0
                clear hB G hin hown0 hk4 e0
                rw [hii] at e0'
                have E0 : Hid _ := e0'
                have LA : Hid (s.la v = some k) := hk1
                clear e0' hk1
                rcases hown.2 with ⟨hov, hac⟩ | ⟨g, cap, cur, hov, hg, hgc⟩
                · subst hov
                  obtain rfl : acc = [] := List.eq_nil_of_length_eq_zero hac
                  have hS1 : PN.SR w1.heap.size w1 (wr.alloc (.cells #[.int .i64 (k : Int)] 3)) g1 g2 c1 c2 s := HS.out.kept (Nat.le_refl _) ((Below.refl _ wr).alloc (Nat.le_refl _) _)
                  have c0 := E0.out _ hS1
                  have cb1 : (wr.alloc (.cells #[.int .i64 (k : Int)] 3)).cell? ⟨g2, v, none⟩ = some (.int .i64 (k : Int)) := by have := hS1.cellB hv8; rw [LA.out] at this; exact this
                  have hb4 : b4 < (wr.alloc (.cells #[.int .i64 (k : Int)] 3)).heap.size := Nat.lt_of_lt_of_le hlt4 hS1.bl.size
                  have HS1 : Hid _ := hS1
                  clear hown HS hS hS1 HOA E0 LA
                  subst hab
                  go_wp2_with (at_builtin; refine wpList_append_own_none rfl _ _ 35 rfl w1.heap.size 3 i0 1 Try.underlying35 hi _ _ _ rfl HO0.out rfl ?_)
                  go_roundw
                  case rel => exact ⟨i, [(k : Int)], rfl, HB2, HO0.out, HS1.out⟩
                  case measure => simp [PN.lenV]
                · subst hov
                  have HRN : Hid (∀ j u, (M4.iv acc)[j]? = some u → (wr.alloc (.cells #[.int .i64 (k : Int)] 3)).cell? ((⟨g, 0, none⟩ : Addr).add j) = some u) := fun j u hj => by
                    have hjl : j < acc.length := by have := (List.getElem?_eq_some_iff.1 hj).1; simpa [M4.iv] using this
                    have hadd : (⟨g, 0, none⟩ : Addr).add j = ⟨g, j, none⟩ := by unfold Addr.add; split <;> simp_all
                    rw [hadd, World.ownsRow.cellAt HOA.out j (by omega)]; exact hj
                  clear hown hS hgc hg
                  subst hab
                  go_wp2_with (at_builtin; refine wpList_append_own _ rfl _ _ 35 rfl w1.heap.size 3 i0 (.int .i64 0) 1 8 Try.underlying35 hi hz0 hz1 hz2 rfl (by decide) _ _ _ rfl HO0.out ⟨g, 0, none⟩ acc.length cap (M4.iv acc) rfl ?c0 ?c1 ?c2 ?c3 ?c4 ?c5 ?_)
                  case c0 => simp [M4.iv]
                  case c1 => exact HRN.out
                  case c2 => intro u hu; simp only [M4.iv, List.mem_map] at hu; obtain ⟨z, _, rfl⟩ := hu; rfl
                  case c3 => unfold maxLen; omega
                  case c4 => omega
                  case c5 => simp; omega
                  intro v' w3 hown1 hgrow _
                  have hS3 : PN.SR w1.heap.size w1 w3 g1 g2 c1 c2 s := HS.out.grown (Nat.le_refl _) hgrow
                  have R1 : Hid (w3.ownsRow w1.heap.size 3 1 v' ((k : Int) :: acc).length (M4.iv ((k : Int) :: acc))) := by
                    show w3.ownsRow _ _ _ _ _ _
                    rw [List.length_cons, Nat.add_comm acc.length 1]; exact hown1
                  have hlv := PN.own_len R1.out
                  have c0 := E0.out _ hS3
                  have cb1 : w3.cell? ⟨g2, v, none⟩ = some (.int .i64 (k : Int)) := by have := hS3.cellB hv8; rw [LA.out] at this; exact this
                  have hb4 : b4 < w3.heap.size := Nat.lt_of_lt_of_le hlt4 hS3.bl.size
                  have l23 := hS3.l2
                  have HS3 : Hid _ := hS3
                  clear hown1 hgrow HS HOA HO0 E0 LA HRN hS3 l2 cb
                  go_wp2
                  go_roundw
                  case rel => exact ⟨i, (k : Int) :: acc, rfl, HB2, R1.out, HS3.out⟩
                  case measure => simp only [PN.lenV] at *; rw [hlv]; simp; omega
end Go.Proofs.Ytlkioijpdlalhaa

/- (journey).next, the program's. -/
namespace Go.Proofs.Ytlkioijpdlalhaa
open Go.RowKit
namespace PN
open FL
theorem early_lt {t : Int} {m : Mo} (h : early t m = true) : (Mo.fin t).cmp m = .lt := by
  cases m with
  | fin u => exact cmp_lt (by simpa [early] using h)
  | inf => rfl
  | ago => cases h
theorem late_ge {t : Int} {m : Mo} (hm : okT m) (h : early t m = false) : (Mo.fin t).cmp m = .gt ∨ (Mo.fin t).cmp m = .eq := by
  cases m with
  | fin u =>
    have : u ≤ t := by simpa [early] using h
    by_cases e : t = u
    · subst e; exact .inr (cmp_same t)
    · exact .inl (cmp_gt (by omega))
  | inf => cases h
  | ago => exact absurd hm id
theorem inf_ge {m : Mo} (hm : okT m) : Mo.inf.cmp m = .gt ∨ Mo.inf.cmp m = .eq := by
  cases m with
  | fin u => exact .inl rfl
  | inf => exact .inr rfl
  | ago => exact absurd hm id
theorem fin_ge {t u : Int} (h : ¬ t < u) : (Mo.fin t).cmp (.fin u) = .gt ∨ (Mo.fin t).cmp (.fin u) = .eq := by
  by_cases e : t = u
  · subst e; exact .inr (cmp_same t)
  · exact .inl (cmp_gt (by omega))
/-- What next tells. -/
def nextN : Option (Nat × Int) → Int
  | none => 0
  | some (k, _) => k
end PN
set_option linter.unusedSimpArgs false in
set_option maxHeartbeats 3200000 in
set_option maxRecDepth 100000 in
theorem next6_any (a : Option Addr) (ca : Nat) (xs : List I5) (f : Int) (s : PN.St) (w : World) (hok : PN.okP xs = true) (hO : PN.okS s.wh) (hin : MI5.RowAt w a xs) :
    Calls Try.prog 48 #[.agg (PN.jc f (PN.wb s) (PN.lb s)).toArray, .slice a xs.length ca] w fun e w' => e = .returned (.tuple #[.int .i64 (PN.nextN (PN.best xs s.wh xs.length)), .bool (PN.best xs s.wh xs.length).isSome]) ∧ Below w.heap.size w w' := by
  have NV : Hid (∀ W : World, Calls Try.prog 47 #[] W fun e w' => e = .returned (.float .f64 FL.Mo.inf.b) ∧ W = w') := fun W => never_any W
  have HI : Hid (MI5.RowAt w a xs) := hin
  have hlen : xs.length ≤ 20 := ((PN.okP_iff xs).1 hok).1
  have GC : Hid (∀ k, k < xs.length → PN.Good (MI5.at_ xs k)) := fun k hk => PN.okP_good hok hk
  have HO : Hid _ := hO
  have AT : Hid (∀ k, k < xs.length → PN.okT (PN.arr (MI5.at_ xs k) (s.wh (MI5.at_ xs k).a0.toNat))) := fun k hk => PN.okT_of_arr hok hO hk
  have hJ := MA.Rg.new w (PN.jc f (PN.wb s) (PN.lb s)) 64
  have hB0 : Below w.heap.size w (w.alloc (.cells (PN.jc f (PN.wb s) (PN.lb s)).toArray 64)) := (Below.refl _ w).alloc (Nat.le_refl _) _
  have HJ : Hid _ := hJ
  have HB0 : Hid _ := hB0
  obtain ⟨R, hR⟩ : ∃ R, PN.best xs s.wh xs.length = R := ⟨_, rfl⟩
  rw [hR]
  have HR : Hid _ := hR
  clear hin hok hO hJ hB0 hR
  go_enter Try.func48, Try.ntmps48
  go_wp2_with fail
  refine (NV.out _).mono ?_
  rintro e w' ⟨rfl, rfl⟩
  generalize w.alloc (.cells (PN.jc f (PN.wb s) (PN.lb s)).toArray 64) = W0 at *
  generalize hz : w.heap.size = jb at *
  have HB1 : Hid (Below w.heap.size w W0) := by rw [hz]; exact HB0.out
  clear HB0
  go_wp2
  go_loopw [6, 7, 14] (fun nv ev iv wi => ∃ (k : Nat) (b : Int) (m : FL.Mo) (z : Nat), nv = .int .i64 b ∧ ev = .float .f64 z ∧ iv = .int .i64 k ∧ k ≤ xs.length ∧ Hid (PN.BJ (PN.best xs s.wh k) b m) ∧ Hid (m.b = z) ∧ Below W0.heap.size W0 wi) (fun _ _ iv _ => (xs.length - intOf iv).toNat)
  case atStart => exact ⟨0, 0, .inf, _, rfl, rfl, rfl, by omega, show Hid _ from ⟨rfl, rfl⟩, rfl, Below.refl _ _⟩
  case round =>
    obtain ⟨k, b, m, z, rfl, rfl, rfl, hk, hT, hM, hb⟩ := hrel
    by_cases hlk : k < xs.length
    · obtain ⟨b4, off4, rfl, hlt4, e0, e1, e2, e3, e4⟩ := (HI.out.below (HB1.out.trans (hb.mono HB1.out.size))).at hlk
      have G := GC.out k hlk
      have oa := AT.out k hlk
      obtain ⟨i, hi⟩ := Int.eq_ofNat_of_zero_le G.f0
      obtain ⟨j, hj⟩ := Int.eq_ofNat_of_zero_le G.t0
      have hi8 : i < 8 := by have := G.f1; omega
      have hj8 : j < 8 := by have := G.t1; omega
      have ii0 : (0 : Int) ≤ (i : Int) := by omega
      have ii8 : (i : Int) < 8 := by omega
      have jj0 : (0 : Int) ≤ (j : Int) := by omega
      have jj8 : (j : Int) < 8 := by omega
      have hin : (MI5.at_ xs k).a0.toNat = i := by rw [hi]; rfl
      have hjn : (MI5.at_ xs k).a1.toNat = j := by rw [hj]; rfl
      have B1 : Hid _ := @PN.best_skip xs s.wh k
      have B2 : Hid _ := @PN.best_late xs s.wh k
      have B3 : Hid _ := @PN.best_first xs s.wh k
      have B4 : Hid _ := @PN.best_new xs s.wh k
      have B5 : Hid _ := @PN.best_old xs s.wh k
      rw [hin] at B1 B2 B3 B4 B5 oa
      rw [hjn] at B2 B3 B4 B5
      have oi := HO.out i
      have oj := HO.out j
      have om : PN.okT m := by
        have hT' := hT.out
        cases hbk : PN.best xs s.wh k with
        | none => rw [hbk] at hT'; rw [hT'.2]; trivial
        | some p =>
          obtain ⟨kb, u⟩ := p
          rw [hbk] at hT'
          obtain ⟨h1, h2, _⟩ := PN.best_is hbk
          have := AT.out kb (by omega)
          rw [h2] at this; rw [hT'.2]; exact this
      have hJr := MA.Rg.below HJ.out hb HJ.out.lt
      rw [hi] at e0
      rw [hj] at e1
      have AR : Hid (∀ W : World, Calls Try.prog 41 #[(MI5.at_ xs k).v, .float .f64 (s.wh i).b] W fun e w' => e = .returned (.float .f64 (PN.arr (MI5.at_ xs k) (s.wh i)).b) ∧ Below W.heap.size W w') := fun W => arrival_any _ _ W G oi
      clear GC HI AT HO HR hin hjn G
      generalize hx : MI5.at_ xs k = x at *
      obtain ⟨x0, x1, x2, x3, x4⟩ := x
      simp only at hi hj e0 e1 e2 e3 e4
      subst hi hj
      clear hx
      have hbA : Below W0.heap.size W0 (wr.alloc (.cells #[.int .i64 (i : Int), .int .i64 (j : Int), .int .i64 x2, .int .i64 x3, .int .i64 x4] 46)) := hb.alloc hb.size _
      have HBA : Hid _ := hbA
      have F0 : Hid ((wr.alloc (.cells #[.int .i64 (i : Int), .int .i64 (j : Int), .int .i64 x2, .int .i64 x3, .int .i64 x4] 46)).cell? ⟨wr.heap.size, 0, none⟩ = some (.int .i64 (i : Int))) := by show _ = _; simp
      have F1 : Hid ((wr.alloc (.cells #[.int .i64 (i : Int), .int .i64 (j : Int), .int .i64 x2, .int .i64 x3, .int .i64 x4] 46)).cell? ⟨wr.heap.size, 1, none⟩ = some (.int .i64 (j : Int))) := by show _ = _; simp
      have F2 : Hid ((wr.alloc (.cells #[.int .i64 (i : Int), .int .i64 (j : Int), .int .i64 x2, .int .i64 x3, .int .i64 x4] 46)).cell? ⟨wr.heap.size, 2, none⟩ = some (.int .i64 x2)) := by show _ = _; simp
      have F3 : Hid ((wr.alloc (.cells #[.int .i64 (i : Int), .int .i64 (j : Int), .int .i64 x2, .int .i64 x3, .int .i64 x4] 46)).cell? ⟨wr.heap.size, 3, none⟩ = some (.int .i64 x3)) := by show _ = _; simp
      have F4 : Hid ((wr.alloc (.cells #[.int .i64 (i : Int), .int .i64 (j : Int), .int .i64 x2, .int .i64 x3, .int .i64 x4] 46)).cell? ⟨wr.heap.size, 4, none⟩ = some (.int .i64 x4)) := by show _ = _; simp
      have HQ : Hid (wr.heap.size < (wr.alloc (.cells #[.int .i64 (i : Int), .int .i64 (j : Int), .int .i64 x2, .int .i64 x3, .int .i64 x4] 46)).heap.size) := by show _ < _; simp
      have HJ1 : Hid (MA.Rg (wr.alloc (.cells #[.int .i64 (i : Int), .int .i64 (j : Int), .int .i64 x2, .int .i64 x3, .int .i64 x4] 46)) jb 0 (PN.jc f (PN.wb s) (PN.lb s))) := hJr.alloc _
      clear hbA hJr
      go_wp2_with fail
      clear e0 e1 e2 e3 e4 hlt4
      generalize (wr.alloc (.cells #[.int .i64 (i : Int), .int .i64 (j : Int), .int .i64 x2, .int .i64 x3, .int .i64 x4] 46)) = W1 at *
      generalize wr.heap.size = q at *
      have f0 := F0.out
      have f1 := F1.out
      have f2 := F2.out
      have f3 := F3.out
      have f4 := F4.out
      have hq := HQ.out
      have hci : W1.cell? ⟨jb, 1 + i, none⟩ = some (.float .f64 (s.wh i).b) := (PN.rg_w HJ1.out hi8).1
      have hjb := HJ1.out.lt
      clear F0 F1 F2 F3 F4 HQ
      go_region_held3 (fun w' => w'.cell? ⟨q, 0, none⟩ = some (.int .i64 (i : Int)) ∧ w'.cell? ⟨q, 1, none⟩ = some (.int .i64 (j : Int)) ∧ w'.cell? ⟨q, 2, none⟩ = some (.int .i64 x2) ∧ w'.cell? ⟨q, 3, none⟩ = some (.int .i64 x3) ∧ w'.cell? ⟨q, 4, none⟩ = some (.int .i64 x4) ∧ w'.cell? ⟨jb, 1 + i, none⟩ = some (.float .f64 (s.wh i).b)) (first | assumption | go_keep) (first | (go_at_call 41; refine Calls.mono (AR.out _) ?_; rintro e w3 ⟨rfl, hb3⟩; have k0 : w3.cell? ⟨q, 0, none⟩ = some (.int .i64 (i : Int)) := (hb3.cell (p := ⟨q, 0, none⟩) (by simpa using hq)).trans (by simpa using f0); have k1 : w3.cell? ⟨q, 1, none⟩ = some (.int .i64 (j : Int)) := (hb3.cell (p := ⟨q, 1, none⟩) (by simpa using hq)).trans (by simpa using f1); have k2 : w3.cell? ⟨q, 2, none⟩ = some (.int .i64 x2) := (hb3.cell (p := ⟨q, 2, none⟩) (by simpa using hq)).trans (by simpa using f2); have k3 : w3.cell? ⟨q, 3, none⟩ = some (.int .i64 x3) := (hb3.cell (p := ⟨q, 3, none⟩) (by simpa using hq)).trans (by simpa using f3); have k4 : w3.cell? ⟨q, 4, none⟩ = some (.int .i64 x4) := (hb3.cell (p := ⟨q, 4, none⟩) (by simpa using hq)).trans (by simpa using f4); have ki : w3.cell? ⟨jb, 1 + i, none⟩ = some (.float .f64 (s.wh i).b) := (hb3.cell (p := ⟨jb, 1 + i, none⟩) (by simpa using hjb)).trans (by simpa using hci)))
      have hB3 : Below W0.heap.size W0 w3 := HBA.out.drew.trans (hb3.mono (by have := HBA.out.size; simpa using this))
      have kj : w3.cell? ⟨jb, 1 + j, none⟩ = some (.float .f64 (s.wh j).b) := (hb3.cell (p := ⟨jb, 1 + j, none⟩) (by simpa using hjb)).trans (by have h : W1.cell? ⟨jb, 1 + j, none⟩ = some (.float .f64 (s.wh j).b) := (PN.rg_w HJ1.out hj8).1; simpa using h)
      have hq3 : q < w3.heap.size := Nat.lt_of_lt_of_le (by simpa using hq) hb3.size
      have hj3 : jb < w3.heap.size := Nat.lt_of_lt_of_le (by simpa using hjb) hb3.size
      clear f0 f1 f2 f3 f4 hci hq hjb hb3 HJ1 HBA AR k0 k2 k3 k4 ki hb
      generalize hr : PN.arr _ (s.wh i) = r at *
      generalize hmj : s.wh j = mj at *
      have o1 := FL.order_is r mj (PN.okT_ok oa) (PN.okT_ok oj)
      have o2 := FL.order_is r m (PN.okT_ok oa) (PN.okT_ok om)
      rw [hM.out] at o2
      cases r with
      | ago => exact absurd oa id
      | inf =>
        have hT' : Hid (PN.BJ (PN.best xs s.wh (k + 1)) b m) := by rw [B1.out rfl]; exact hT
        have hge := PN.inf_ge oj
        clear B1 B2 B3 B4 B5 hT o2 hmj hr
        generalize FL.Mo.cmp .inf mj = o at *
        generalize FL.Mo.b mj = zj at *
        rcases hge with rfl | rfl
        all_goals
          go_wp2
          go_roundw
          case rel => exact ⟨k + 1, b, m, z, rfl, rfl, by go_num, by omega, hT', hM, hB3⟩
          case measure => simp [intOf]; omega
      | fin t =>
        cases he : PN.early t mj with
        | false =>
          have hT' : Hid (PN.BJ (PN.best xs s.wh (k + 1)) b m) := by rw [B2.out rfl he]; exact hT
          have hge := PN.late_ge oj he
          clear B1 B2 B3 B4 B5 hT o2 hmj hr he
          generalize FL.Mo.cmp (.fin t) mj = o at *
          generalize FL.Mo.b mj = zj at *
          generalize FL.Mo.b (.fin t) = zr at *
          rcases hge with rfl | rfl
          all_goals
            go_wp2
            go_roundw
            case rel => exact ⟨k + 1, b, m, z, rfl, rfl, by go_num, by omega, hT', hM, hB3⟩
            case measure => simp [intOf]; omega
        | true =>
          rw [PN.early_lt he] at o1
          have hT1 := hT.out
          have pick : ((FL.Mo.fin t).cmp m = .lt ∧ Hid (PN.BJ (PN.best xs s.wh (k + 1)) (k : Int) (.fin t))) ∨ (((FL.Mo.fin t).cmp m = .gt ∨ (FL.Mo.fin t).cmp m = .eq) ∧ Hid (PN.BJ (PN.best xs s.wh (k + 1)) b m)) := by
            cases hbk : PN.best xs s.wh k with
            | none =>
              rw [hbk] at hT1
              exact .inl ⟨by rw [hT1.2]; rfl, by rw [B3.out rfl he hbk]; exact ⟨rfl, rfl⟩⟩
            | some p =>
              obtain ⟨kb, u⟩ := p
              rw [hbk] at hT1
              obtain ⟨h1, h2⟩ := hT1
              by_cases hlt : t < u
              · exact .inl ⟨by rw [h2]; exact FL.cmp_lt hlt, by rw [B4.out rfl he hbk hlt]; exact ⟨rfl, rfl⟩⟩
              · exact .inr ⟨by rw [h2]; exact PN.fin_ge hlt, by rw [B5.out rfl he hbk (by omega)]; exact ⟨h1, h2⟩⟩
          clear B1 B2 B3 B4 B5 hT hT1 hmj hr he
          rcases pick with ⟨pk, hT'⟩ | ⟨pk, hT'⟩
          · rw [pk] at o2
            have hM' : Hid ((FL.Mo.fin t).b = (FL.Mo.fin t).b) := rfl
            clear pk hM
            generalize FL.Mo.b mj = zj at *
            generalize hzr : FL.Mo.b (.fin t) = zr at *
            have hM2 : Hid ((FL.Mo.fin t).b = zr) := hzr
            clear hM' hzr
            go_wp2
            go_roundw
            case rel => exact ⟨k + 1, k, .fin t, zr, rfl, rfl, by go_num, by omega, hT', hM2, hB3⟩
            case measure => simp [intOf]; omega
          · generalize FL.Mo.cmp (.fin t) m = o at *
            generalize FL.Mo.b mj = zj at *
            generalize FL.Mo.b (.fin t) = zr at *
            rcases pk with rfl | rfl
            all_goals
              go_wp2
              go_roundw
              case rel => exact ⟨k + 1, b, m, z, rfl, rfl, by go_num, by omega, hT', hM, hB3⟩
              case measure => simp [intOf]; omega
    · obtain rfl : k = xs.length := by omega
      have hT' := hT.out
      rw [HR.out] at hT'
      cases R with
      | none =>
        obtain ⟨rfl, rfl⟩ := hT'
        have o1 : FloatKind.f64.format.order z FL.Mo.inf.b = some .eq := by rw [← hM.out]; decide
        clear hT hM HR AT GC HO HI HJ
        go_wp2_with fail
        refine (NV.out _).mono ?_
        rintro e w' ⟨rfl, rfl⟩
        generalize FL.Mo.inf.b = zi at *
        go_wp2
        go_ret2
        exact ⟨rfl, HB1.out.trans (hb.mono HB1.out.size)⟩
      | some p =>
        obtain ⟨kb, u⟩ := p
        obtain ⟨rfl, rfl⟩ := hT'
        have ou : PN.okT (.fin u) := by
          obtain ⟨h1, h2, _⟩ := PN.best_is HR.out
          have := AT.out kb h1
          rw [h2] at this; exact this
        have o1 : FloatKind.f64.format.order z FL.Mo.inf.b = some .lt := by rw [← hM.out]; exact FL.order_is (.fin u) .inf (PN.okT_ok ou) trivial
        clear hT hM HR AT GC HO HI HJ ou
        go_wp2_with fail
        refine (NV.out _).mono ?_
        rintro e w' ⟨rfl, rfl⟩
        generalize FL.Mo.inf.b = zi at *
        go_wp2
        go_ret2
        exact ⟨rfl, HB1.out.trans (hb.mono HB1.out.size)⟩
end Go.Proofs.Ytlkioijpdlalhaa

/- ArriveBy, the program's. -/
namespace Go.Proofs.Ytlkioijpdlalhaa
open Go.RowKit
theorem cells5 {w2 : World} {b off i : Nat} {x0 x1 x2 x3 x4 : Int} {W : World} (hb : Below W.heap.size W w2) (hl : b < W.heap.size) (c0 : W.cell? ⟨b, off + i * 5, none⟩ = some (.int .i64 x0)) (c1 : W.cell? ⟨b, off + i * 5 + 1, none⟩ = some (.int .i64 x1)) (c2 : W.cell? ⟨b, off + i * 5 + 2, none⟩ = some (.int .i64 x2)) (c3 : W.cell? ⟨b, off + i * 5 + 3, none⟩ = some (.int .i64 x3)) (c4 : W.cell? ⟨b, off + i * 5 + 4, none⟩ = some (.int .i64 x4)) :
    w2.cell? ⟨b, off + i * 5, none⟩ = some (.int .i64 x0) ∧ w2.cell? ⟨b, off + i * 5 + 1, none⟩ = some (.int .i64 x1) ∧ w2.cell? ⟨b, off + i * 5 + 2, none⟩ = some (.int .i64 x2) ∧ w2.cell? ⟨b, off + i * 5 + 3, none⟩ = some (.int .i64 x3) ∧ w2.cell? ⟨b, off + i * 5 + 4, none⟩ = some (.int .i64 x4) :=
  ⟨(hb.cell (p := ⟨b, _, none⟩) hl).trans c0, (hb.cell (p := ⟨b, _, none⟩) hl).trans c1, (hb.cell (p := ⟨b, _, none⟩) hl).trans c2, (hb.cell (p := ⟨b, _, none⟩) hl).trans c3, (hb.cell (p := ⟨b, _, none⟩) hl).trans c4⟩
set_option linter.unusedSimpArgs false in
set_option maxHeartbeats 3200000 in
set_option maxRecDepth 100000 in
theorem implArrive_any (a b : Option Addr) (ca cb : Nat) (xs : List I5) (f n : Int) (os : List Int) (w : World) (hn : xs.length ≤ 1048576) (ho : os.length ≤ 1048576) (hin : MI5.RowAt w a xs) (hos : M4.IntsAt w b os) :
    Calls Try.prog 24 #[.slice a xs.length ca, .int .i64 f, .int .i64 n, .slice b os.length cb] w fun e w' => e = .returned (.tuple #[.int .i64 (PN.tellN (PN.arrM xs f n os)), .bool (PN.tellB (PN.arrM xs f n os))]) ∧ Below w.heap.size w w' := by
  have ST : Hid (∀ W : World, MI5.RowAt W a xs → Calls Try.prog 36 #[.slice a xs.length ca, .int .i64 f, .int .i64 n] W fun e w' => e = .returned (.bool (PN.startOk xs f n)) ∧ Below W.heap.size W w') := fun W h => isStart_any a ca xs f n W hn h
  have AP : Hid (∀ W : World, M4.IntsAt W b os → Calls Try.prog 40 #[.slice a xs.length ca, .slice b os.length cb] W fun e w' => e = .returned (.bool (decide (os.length ≤ 20) && PN.inP xs.length os)) ∧ Below W.heap.size W w') := fun W h2 => areOfPlan_any a b ca cb xs.length os W hn ho h2 _ rfl
  have HI : Hid (MI5.RowAt w a xs) := hin
  have HO : Hid (M4.IntsAt w b os) := hos
  clear hin hos
  obtain ⟨N, hN⟩ : ∃ N, PN.tellN (PN.arrM xs f n os) = N := ⟨_, rfl⟩
  obtain ⟨T, hT⟩ : ∃ T, PN.tellB (PN.arrM xs f n os) = T := ⟨_, rfl⟩
  have NO : Hid (PN.wayOk xs f n os = false → N = 0 ∧ T = false) := fun h => by rw [← hN, ← hT, PN.arrM_no h]; exact ⟨rfl, rfl⟩
  have YES : Hid (PN.wayOk xs f n os = true → N = PN.tellN (PN.mo xs os n os.length) ∧ T = PN.tellB (PN.mo xs os n os.length)) := fun h => by rw [← hN, ← hT, PN.arrM_yes h]; exact ⟨rfl, rfl⟩
  rw [hN, hT]
  clear hN hT
  go_enter Try.func24, Try.ntmps24
  go_wp2_with fail
  refine (ST.out _ HI.out).mono ?_
  rintro e w1 ⟨rfl, hb1⟩
  have HI1 : Hid (MI5.RowAt w1 a xs) := HI.out.below hb1
  have HO1 : Hid (M4.IntsAt w1 b os) := M4.IntsAt.below HO.out hb1
  clear ST HI HO
  cases hs : PN.startOk xs f n with
  | false =>
    obtain ⟨rfl, rfl⟩ := NO.out (by simp [PN.wayOk, hs])
    clear NO YES AP HI1 HO1 hs
    go_wp2
    go_ret2
    exact ⟨rfl, hb1⟩
  | true =>
    go_wp2_with fail
    refine (AP.out _ HO1.out).mono ?_
    rintro e w2 ⟨rfl, hb2⟩
    have hB2 := hb1.trans (hb2.mono hb1.size)
    have HI2 : Hid (MI5.RowAt w2 a xs) := HI1.out.below hb2
    have HO2 : Hid (M4.IntsAt w2 b os) := M4.IntsAt.below HO1.out hb2
    clear AP HI1 HO1 hb2
    cases hap : (decide (os.length ≤ 20) && PN.inP xs.length os) with
    | false =>
      obtain ⟨rfl, rfl⟩ := NO.out (by
        have : PN.rowB xs os = false := by
          rw [Bool.and_eq_false_iff] at hap
          unfold PN.rowB
          rcases hap with h | h
          · rw [h]; simp
          · rw [h]; simp
        simp [PN.wayOk, this])
      clear NO YES HI2 HO2 hs hap
      go_wp2
      go_ret2
      exact ⟨rfl, hB2⟩
    | true =>
      obtain ⟨hl20, hI⟩ : os.length ≤ 20 ∧ PN.inP xs.length os = true := by simpa using hap
      obtain ⟨hok, -, -, hn0, hn1⟩ := PN.start_is hs
      have IU : Hid _ := (PN.inP_iff _ _).1 hI
      have GC : Hid (∀ k, k < os.length → PN.Good (PN.ofN xs (os.getD k 0))) := fun k hk => PN.good_of_in hok IU.out hk
      have OT : Hid (∀ k, k ≤ os.length → PN.okT (PN.mo xs os n k)) := fun k hk => PN.mo_okT hok IU.out hn0 hn1 k hk
      have GO : Hid (PN.goUp xs f os os.length → PN.wayOk xs f n os = true) := fun h => PN.way_go hs hI hl20 h
      have GN : Hid (∀ k, k < os.length → (PN.ofN xs (os.getD k 0)).a0 ≠ PN.nodeAt xs f os k → PN.wayOk xs f n os = false) := fun k hk h => PN.way_no hk h
      clear hap hI hok hs
      go_wp2_with fail
      go_loopw [10, 11, 13, 30] (fun nv mv _ iv wr => ∃ (k : Nat) (y : Int) (m : Nat), nv = .int .i64 y ∧ mv = .float .f64 m ∧ iv = .int .i64 k ∧ k ≤ os.length ∧ Hid (PN.nodeAt xs f os k = y) ∧ Hid ((PN.mo xs os n k).b = m) ∧ Hid (PN.goUp xs f os k) ∧ Below w2.heap.size w2 wr) (fun _ _ _ iv _ => (os.length - intOf iv).toNat)
      case atStart => exact ⟨0, f, _, rfl, rfl, rfl, by omega, rfl, rfl, show Hid _ from fun i hi => by omega, Below.refl _ _⟩
      case round =>
        obtain ⟨k, y, m, rfl, rfl, rfl, hk, hY, hM, hG, hb⟩ := hrel
        by_cases hlk : k < os.length
        · obtain ⟨b3, off3, hb3, hlt3, hc3⟩ := M4.IntsAt.at (M4.IntsAt.below HO2.out hb) hlk
          obtain ⟨hp0, hp1⟩ := IU.out k hlk
          obtain ⟨i, hi⟩ := Int.eq_ofNat_of_zero_le hp0
          have hil : i < xs.length := by omega
          obtain ⟨b4, off4, ha4, hlt4, e0, e1, e2, e3, e4⟩ := (HI2.out.below hb).at hil
          rw [hi] at hc3
          have eo : PN.ofN xs (os.getD k 0) = MI5.at_ xs i := by rw [hi]; rfl
          have G := GC.out k hlk
          have M1 : Hid ((PN.mo xs os n (k + 1)).b = (PN.arr (MI5.at_ xs i) (PN.mo xs os n k)).b) := by show (PN.arr _ (PN.mo xs os n k)).b = _; rw [eo]
          have Y1 : Hid (PN.nodeAt xs f os (k + 1) = (MI5.at_ xs i).a1) := by show (PN.ofN xs _).a1 = _; rw [eo]
          have NG : Hid ((MI5.at_ xs i).a0 ≠ y → PN.wayOk xs f n os = false) := fun h => GN.out k hlk (by rw [eo, hY.out]; exact h)
          have YG : Hid ((MI5.at_ xs i).a0 = y → PN.goUp xs f os (k + 1)) := fun h => PN.goUp_succ hG.out (by rw [eo, hY.out]; exact h)
          have OK0 := OT.out k hk
          rw [eo] at G
          have AR : Hid (∀ W : World, Calls Try.prog 41 #[(MI5.at_ xs i).v, .float .f64 m] W fun e w' => e = .returned (.float .f64 (PN.arr (MI5.at_ xs i) (PN.mo xs os n k)).b) ∧ Below W.heap.size W w') := fun W => by rw [← hM.out]; exact arrival_any _ _ W G OK0
          generalize (PN.arr (MI5.at_ xs i) (PN.mo xs os n k)).b = m' at *
          clear hp0 hp1 hi eo hM G OK0 hG hY
          generalize MI5.at_ xs i = c at *
          obtain ⟨x0, x1, x2, x3, x4⟩ := c
          simp only at Y1 NG YG
          subst hb3 ha4
          by_cases hx : x0 = y
          · have hne : (x0 != y) = false := by simp [hx]
            have hG1 : Hid _ := YG.out hx
            clear NG YG hx HO2 HI2 IU GC OT GN
            go_wp2_with fail
            go_region_held3 (fun w' => w'.cell? ⟨b4, off4 + i * 5, none⟩ = some (.int .i64 x0) ∧ w'.cell? ⟨b4, off4 + i * 5 + 1, none⟩ = some (.int .i64 x1) ∧ w'.cell? ⟨b4, off4 + i * 5 + 2, none⟩ = some (.int .i64 x2) ∧ w'.cell? ⟨b4, off4 + i * 5 + 3, none⟩ = some (.int .i64 x3) ∧ w'.cell? ⟨b4, off4 + i * 5 + 4, none⟩ = some (.int .i64 x4)) (first | assumption | go_keep) (first | (go_at_call 41; refine Calls.mono (AR.out _) ?_; rintro e w3 ⟨rfl, hb3⟩; obtain ⟨p0, p1, p2, p3, p4⟩ := cells5 hb3 (by simpa using hlt4) (by simpa using e0) (by simpa using e1) (by simpa using e2) (by simpa using e3) (by simpa using e4)))
            have hB3 : Below w2.heap.size w2 w3 := hb.drew.trans (hb3.mono (by have := hb.size; simpa using this))
            clear p0 p1 p2 p3 p4 e0 e1 e2 e3 e4 hb3 AR hb
            go_wp2
            go_roundw
            case rel => exact ⟨k + 1, x1, m', rfl, rfl, by go_num, by omega, Y1, M1, hG1, hB3⟩
            case measure => simp [intOf]; omega
          · have hne : (x0 != y) = true := by simp [hx]
            obtain ⟨rfl, rfl⟩ := NO.out (NG.out hx)
            clear NG YG hx HO2 HI2 IU GC OT GN GO NO YES AR M1 Y1
            go_wp2
            go_ret2
            exact ⟨rfl, hB2.trans (hb.mono hB2.size)⟩
        · obtain rfl : k = os.length := by omega
          obtain ⟨hN, hT⟩ := YES.out (GO.out hG.out)
          have TL : Hid (∀ W : World, Calls Try.prog 38 #[.float .f64 m] W fun e w' => e = .returned (.tuple #[.int .i64 (PN.tellN (PN.mo xs os n os.length)), .bool (PN.tellB (PN.mo xs os n os.length))]) ∧ W = w') := fun W => by rw [← hM.out]; exact tell_any _ W (.inr (OT.out _ (Nat.le_refl _)))
          clear HO2 HI2 IU GC OT GN GO NO YES hY hM hG
          rw [← hN, ← hT] at TL
          clear hN hT
          go_wp2_with fail
          refine (TL.out _).mono ?_
          rintro e w' ⟨rfl, rfl⟩
          clear TL
          go_wp2
          go_ret2
          exact ⟨rfl, hB2.trans (hb.mono hB2.size)⟩
end Go.Proofs.Ytlkioijpdlalhaa

/- Whether a bundle fits a plan: fits of the program, l17Fits of the specification; and until when it may be there. -/
namespace Go.Proofs.Ytlkioijpdlalhaa
open Go.RowKit
set_option linter.unusedSimpArgs false in
set_option maxHeartbeats 1600000 in
set_option maxRecDepth 100000 in
theorem fitsI_any (a : Option Addr) (cap : Nat) (xs : List I5) (b : Bd) (w : World) (hn : xs.length ≤ 1048576) (hs : b.py.size ≤ 1048576) (hin : MI5.RowAt w a xs) :
    Calls Try.prog 22 #[.slice a xs.length cap, b.v] w fun e w' => e = .returned (.bool (GP.fitsB xs b)) ∧ Below w.heap.size w w' := by
  have P1 : Hid (∀ W : World, Below w.heap.size w W → Calls Try.prog 32 #[.slice a xs.length cap] W fun e w' => e = .returned (.bool (PN.okP xs)) ∧ Below W.heap.size W w') := fun W h => implGoodPlan_any a cap xs W hn (hin.below h) _ rfl
  have P2 : Hid (∀ W : World, Calls Try.prog 33 #[b.v] W fun e w' => e = .returned (.bool (B1.good b)) ∧ Below W.heap.size W w') := fun W => implGoodBundle_any b W hs _ rfl
  have P4 : Hid (∀ W : World, Calls Try.prog 34 #[.int .i64 b.fr] W fun e w' => e = .returned (.bool (PN.nodeOk b.fr)) ∧ W = w') := fun W => nodeI_any b.fr W
  have P5 : Hid (∀ W : World, Calls Try.prog 35 #[.int .i64 b.md] W fun e w' => e = .returned (.bool (PN.whenOk b.md)) ∧ W = w') := fun W => whenI_any b.md W
  have HR : Hid (GP.fitsB xs b = (PN.okP xs && B1.good b && (b.tl == 0) && PN.nodeOk b.fr && PN.whenOk b.md)) := by show GP.fitsB xs b = _; unfold GP.fitsB; rw [show decide (b.tl = 0) = (b.tl == 0) by rw [Bool.eq_iff_iff]; simp]
  have hA := BdAt.box w b 31
  have hB := (Below.refl _ w).alloc (Nat.le_refl _) (.cells #[.int .i64 b.fr, .int .i64 b.to, .bool b.gr, .int .i64 b.md, .int .i64 b.no, .int .i64 b.lf, .int .i64 b.hp, .int .i64 b.of, .int .i64 b.tl, .string b.py] 31)
  clear hin
  generalize GP.fitsB xs b = R at *
  generalize PN.okP xs = q1 at *
  generalize B1.good b = q2 at *
  generalize hq3 : (b.tl == 0) = q3 at *
  generalize PN.nodeOk b.fr = q4 at *
  generalize PN.whenOk b.md = q5 at *
  obtain ⟨fr, to, gr, md, no, lf, hp, of, tl, py⟩ := b
  have HQ3 : Hid ((tl == 0) = q3) := hq3
  clear hq3
  go_enter Try.func22, Try.ntmps22
  go_wp2_with fail
  refine (P1.out _ hB).mono ?_
  rintro e w1 ⟨rfl, hb1⟩
  have hA1 := hA.below hb1 hA.1
  have hB1 := hB.trans (hb1.mono hB.size)
  clear P1 hb1 hA hB
  cases q1 with
  | false =>
    have hR : R = false := HR.out
    subst hR
    clear P2 P4 P5 HR HQ3 hA1
    go_wp2
    go_ret
    exact ⟨rfl, hB1⟩
  | true =>
    obtain ⟨hlt, c0, c1, c2, c3, c4, c5, c6, c7, c8, c9⟩ := id hA1
    go_wp2_with fail
    refine (P2.out _).mono ?_
    rintro e w2 ⟨rfl, hb2⟩
    clear c0 c1 c2 c3 c4 c5 c6 c7 c8 c9 hlt P2
    have hA2 := hA1.below hb2 hA1.1
    have hB2 := hB1.trans (hb2.mono hB1.size)
    clear hb2 hA1 hB1
    cases q2 with
    | false =>
      have hR : R = false := HR.out
      subst hR
      clear P4 P5 HR HQ3 hA2
      go_wp2
      go_ret
      exact ⟨rfl, hB2⟩
    | true =>
      obtain ⟨hlt, c0, c1, c2, c3, c4, c5, c6, c7, c8, c9⟩ := id hA2
      clear c1 c2 c4 c5 c6 c7 c9 hA2
      have hq3 := HQ3.out
      cases q3 with
      | false =>
        have hR : R = false := HR.out
        subst hR
        clear P4 P5 HR HQ3
        go_wp2
        go_ret
        exact ⟨rfl, hB2⟩
      | true =>
        clear HQ3
        go_wp2_with fail
        refine (P4.out _).mono ?_
        rintro e w' ⟨rfl, rfl⟩
        clear P4 c0 c8
        cases q4 with
        | false =>
          have hR : R = false := HR.out
          subst hR
          clear P5 HR c3
          go_wp2
          go_ret
          exact ⟨rfl, hB2⟩
        | true =>
          have hR : R = q5 := HR.out
          subst hR
          clear HR
          go_wp2_with fail
          refine (P5.out _).mono ?_
          rintro e w' ⟨rfl, rfl⟩
          clear P5 c3
          go_wp2
          go_ret
          exact ⟨rfl, hB2⟩
set_option linter.unusedSimpArgs false in
set_option maxHeartbeats 1600000 in
set_option maxRecDepth 100000 in
theorem fitsS_any (a : Option Addr) (cap : Nat) (xs : List I5) (b : Bd) (w : World) (hn : xs.length ≤ 1048576) (hs : b.py.size ≤ 1048576) (hin : MI5.RowAt w a xs) :
    Calls Try.prog 18 #[.slice a xs.length cap, b.v] w fun e w' => e = .returned (.bool (GP.fitsB xs b)) ∧ Below w.heap.size w w' := by
  have P1 : Hid (∀ W : World, Below w.heap.size w W → Calls Try.prog 28 #[.slice a xs.length cap] W fun e w' => e = .returned (.bool (PN.okP xs)) ∧ Below W.heap.size W w') := fun W h => specGoodPlan_any a cap xs W hn (hin.below h) _ rfl
  have P2 : Hid (∀ W : World, Calls Try.prog 29 #[b.v] W fun e w' => e = .returned (.bool (B1.good b)) ∧ Below W.heap.size W w') := fun W => specGoodBundle_any b W hs _ rfl
  have P4 : Hid (∀ W : World, Calls Try.prog 27 #[.int .i64 b.fr] W fun e w' => e = .returned (.bool (PN.nodeOk b.fr)) ∧ W = w') := fun W => nodeS_any b.fr W
  have P5 : Hid (∀ W : World, Calls Try.prog 30 #[.int .i64 b.md] W fun e w' => e = .returned (.bool (PN.whenOk b.md)) ∧ W = w') := fun W => whenS_any b.md W
  have HR : Hid (GP.fitsB xs b = (PN.okP xs && B1.good b && (b.tl == 0) && PN.nodeOk b.fr && PN.whenOk b.md)) := by show GP.fitsB xs b = _; unfold GP.fitsB; rw [show decide (b.tl = 0) = (b.tl == 0) by rw [Bool.eq_iff_iff]; simp]
  have hA := BdAt.box w b 31
  have hB := (Below.refl _ w).alloc (Nat.le_refl _) (.cells #[.int .i64 b.fr, .int .i64 b.to, .bool b.gr, .int .i64 b.md, .int .i64 b.no, .int .i64 b.lf, .int .i64 b.hp, .int .i64 b.of, .int .i64 b.tl, .string b.py] 31)
  clear hin
  generalize GP.fitsB xs b = R at *
  generalize PN.okP xs = q1 at *
  generalize B1.good b = q2 at *
  generalize hq3 : (b.tl == 0) = q3 at *
  generalize PN.nodeOk b.fr = q4 at *
  generalize PN.whenOk b.md = q5 at *
  obtain ⟨fr, to, gr, md, no, lf, hp, of, tl, py⟩ := b
  have HQ3 : Hid ((tl == 0) = q3) := hq3
  clear hq3
  go_enter Try.func18, Try.ntmps18
  go_wp2_with fail
  refine (P1.out _ hB).mono ?_
  rintro e w1 ⟨rfl, hb1⟩
  have hA1 := hA.below hb1 hA.1
  have hB1 := hB.trans (hb1.mono hB.size)
  clear P1 hb1 hA hB
  cases q1 with
  | false =>
    have hR : R = false := HR.out
    subst hR
    clear P2 P4 P5 HR HQ3 hA1
    go_wp2
    go_ret
    exact ⟨rfl, hB1⟩
  | true =>
    obtain ⟨hlt, c0, c1, c2, c3, c4, c5, c6, c7, c8, c9⟩ := id hA1
    go_wp2_with fail
    refine (P2.out _).mono ?_
    rintro e w2 ⟨rfl, hb2⟩
    clear c0 c1 c2 c3 c4 c5 c6 c7 c8 c9 hlt P2
    have hA2 := hA1.below hb2 hA1.1
    have hB2 := hB1.trans (hb2.mono hB1.size)
    clear hb2 hA1 hB1
    cases q2 with
    | false =>
      have hR : R = false := HR.out
      subst hR
      clear P4 P5 HR HQ3 hA2
      go_wp2
      go_ret
      exact ⟨rfl, hB2⟩
    | true =>
      obtain ⟨hlt, c0, c1, c2, c3, c4, c5, c6, c7, c8, c9⟩ := id hA2
      clear c1 c2 c4 c5 c6 c7 c9 hA2
      have hq3 := HQ3.out
      cases q3 with
      | false =>
        have hR : R = false := HR.out
        subst hR
        clear P4 P5 HR HQ3
        go_wp2
        go_ret
        exact ⟨rfl, hB2⟩
      | true =>
        clear HQ3
        go_wp2_with fail
        refine (P4.out _).mono ?_
        rintro e w' ⟨rfl, rfl⟩
        clear P4 c0 c8
        cases q4 with
        | false =>
          have hR : R = false := HR.out
          subst hR
          clear P5 HR c3
          go_wp2
          go_ret
          exact ⟨rfl, hB2⟩
        | true =>
          have hR : R = q5 := HR.out
          subst hR
          clear HR
          go_wp2_with fail
          refine (P5.out _).mono ?_
          rintro e w' ⟨rfl, rfl⟩
          clear P5 c3
          go_wp2
          go_ret
          exact ⟨rfl, hB2⟩
set_option maxHeartbeats 800000 in
set_option maxRecDepth 100000 in
theorem lastTime_any (b : Bd) (w : World) (h1 : 0 ≤ b.md ∧ b.md ≤ 1000) (h2 : 1 ≤ b.lf ∧ b.lf ≤ 1000000) :
    Calls Try.prog 25 #[b.v] w fun e w' => e = .returned (.int .i64 (b.md + b.lf)) ∧ Below w.heap.size w w' := by
  have hB := (Below.refl _ w).alloc (Nat.le_refl _) (.cells #[.int .i64 b.fr, .int .i64 b.to, .bool b.gr, .int .i64 b.md, .int .i64 b.no, .int .i64 b.lf, .int .i64 b.hp, .int .i64 b.of, .int .i64 b.tl, .string b.py] 31)
  obtain ⟨fr, to, gr, md, no, lf, hp, of, tl, py⟩ := b
  simp only at h1 h2
  go_enter Try.func25, Try.ntmps25
  go_wp2
  go_ret
  exact ⟨rfl, hB⟩
end Go.Proofs.Ytlkioijpdlalhaa

/- The way that is noted leads there: plain facts. -/
namespace Go.Proofs.Ytlkioijpdlalhaa
open Go.RowKit
namespace PN
open FL
theorem getD_left {os ps : List Int} {i : Nat} (h : i < os.length) : (os ++ ps).getD i 0 = os.getD i 0 := by simp only [List.getD_eq_getElem?_getD]; rw [List.getElem?_append_left h]
theorem mo_app (xs : List I5) (os ps : List Int) (n : Int) : ∀ j, j ≤ os.length → mo xs (os ++ ps) n j = mo xs os n j
  | 0, _ => rfl
  | j + 1, h => by rw [mo, mo, mo_app xs os ps n j (by omega), getD_left (by omega)]
theorem node_app (xs : List I5) (f : Int) (os ps : List Int) : ∀ j, j ≤ os.length → nodeAt xs f (os ++ ps) j = nodeAt xs f os j
  | 0, _ => rfl
  | j + 1, h => by rw [nodeAt, nodeAt, getD_left (by omega)]
/-- The way that is noted leads there, at the time that is told. -/
theorem way_is {xs : List I5} (hok : okP xs = true) {f : Nat} {fi n : Int} (hf : fi = (f : Int)) {s : St} {rk : Nat → Nat} (hx : Vix xs f n s) (hv : Via xs f s rk) : ∀ m v u, s.wh v = .fin u → rk v ≤ m → mo xs (way xs s.la f m v) n (way xs s.la f m v).length = .fin u ∧ inUp xs.length (way xs s.la f m v) (way xs s.la f m v).length ∧ goUp xs fi (way xs s.la f m v) (way xs s.la f m v).length ∧ nodeAt xs fi (way xs s.la f m v) (way xs s.la f m v).length = (v : Int) := by
  intro m
  induction m with
  | zero =>
    intro v u hu hr
    by_cases hvf : v = f
    · subst hvf
      rw [way_end]
      rw [hx.src] at hu
      exact ⟨hu, fun i hi => by simp at hi, fun i hi => by simp at hi, hf⟩
    · obtain ⟨k, _, _, _, h⟩ := hv.via v hvf u hu
      omega
  | succ m ih =>
    intro v u hu hr
    by_cases hvf : v = f
    · subst hvf
      rw [way_end]
      rw [hx.src] at hu
      exact ⟨hu, fun i hi => by simp at hi, fun i hi => by simp at hi, hf⟩
    · obtain ⟨k, a1, a2, a3, a4⟩ := hx.via v hvf u hu
      obtain ⟨k', b1, _, _, b4⟩ := hv.via v hvf u hu
      rw [a1] at b1
      cases b1
      obtain ⟨p, hp⟩ := arr_fin a4
      obtain ⟨i1, i2, i3, i4⟩ := ih (MI5.at_ xs k).a0.toNat p hp (by omega)
      rw [way_step hvf a1]
      generalize way xs s.la f m (MI5.at_ xs k).a0.toNat = W at *
      have eL : (W ++ [(k : Int)]).length = W.length + 1 := by simp
      have eG : (W ++ [(k : Int)]).getD W.length 0 = (k : Int) := by simp [List.getD_eq_getElem?_getD]
      have eO : ofN xs ((W ++ [(k : Int)]).getD W.length 0) = MI5.at_ xs k := by rw [eG, ofN, Int.toNat_natCast]
      have G := okP_good hok a2
      have g1 := G.f0
      have g2 := G.t0
      rw [eL]
      refine ⟨?_, fun i hi => ?_, fun i hi => ?_, ?_⟩
      · rw [mo, eO, mo_app _ _ _ _ _ (Nat.le_refl _), i1, ← hp]; exact a4
      · by_cases e : i = W.length
        · subst e; rw [eG]; omega
        · rw [getD_left (by omega)]; exact i2 i (by omega)
      · by_cases e : i = W.length
        · subst e; rw [eO, node_app _ _ _ _ _ (Nat.le_refl _), i4]; omega
        · rw [getD_left (by omega), node_app _ _ _ _ _ (by omega)]; exact i3 i (by omega)
      · rw [nodeAt, eO]; omega
end PN
end Go.Proofs.Ytlkioijpdlalhaa

/- journeyFrom, the program's. -/
namespace Go.Proofs.Ytlkioijpdlalhaa
open Go.RowKit
namespace PN
/-- The result's box, and the journey that is being made. -/
structure JW (w W : World) (rb jb : Nat) (f : Int) (wf : Nat → Nat) (lf : Nat → Int) : Prop where
  r : MA.Rg W rb 0 (jc 0 (fun _ => 0) (fun _ => 0))
  j : MA.Rg W jb 0 (jc f wf lf)
  ne : rb ≠ jb
  br : w.heap.size ≤ rb
  bj : w.heap.size ≤ jb
  bl : Below w.heap.size w W
theorem JW.kept {w W W' : World} {rb jb : Nat} {f : Int} {wf : Nat → Nat} {lf : Nat → Int} (h : JW w W rb jb f wf lf) (hb : Below W.heap.size W W') : JW w W' rb jb f wf lf :=
  ⟨h.r.below hb h.r.lt, h.j.below hb h.j.lt, h.ne, h.br, h.bj, h.bl.trans (hb.mono h.bl.size)⟩
theorem JW.setw {w W : World} {rb jb : Nat} {f : Int} {wf : Nat → Nat} {lf : Nat → Int} (h : JW w W rb jb f wf lf) {i : Nat} (hi : i < 8) (b : Nat) : JW w (W.setCell ⟨jb, 1 + i, none⟩ (.float .f64 b)) rb jb f (put wf i b) lf :=
  ⟨h.r.other (k' := jb) (o' := 1 + i) (vs := [.float .f64 b]) (.inl h.ne), rg_setw h.j hi b, h.ne, h.br, h.bj, MA.below_cells h.bj [.float .f64 b] (1 + i) W h.bl⟩
theorem JW.setl {w W : World} {rb jb : Nat} {f : Int} {wf : Nat → Nat} {lf : Nat → Int} (h : JW w W rb jb f wf lf) {i : Nat} (hi : i < 8) (b : Int) : JW w (W.setCell ⟨jb, 9 + i, none⟩ (.int .i64 b)) rb jb f wf (put lf i b) :=
  ⟨h.r.other (k' := jb) (o' := 9 + i) (vs := [.int .i64 b]) (.inl h.ne), rg_setl h.j hi b, h.ne, h.br, h.bj, MA.below_cells h.bj [.int .i64 b] (9 + i) W h.bl⟩
theorem jw_new (w : World) (t : TypeId) (f : Int) : JW w (((w.alloc (.cells (jc 0 (fun _ => 0) (fun _ => 0)).toArray t)).alloc (.cells (jc 0 (fun _ => 0) (fun _ => 0)).toArray t)).setCells (w.heap.size + 1) 0 (jc f (fun _ => 0) (fun _ => 0))) w.heap.size (w.heap.size + 1) f (fun _ => 0) (fun _ => 0) := by
  have r1 := (MA.Rg.new w (jc 0 (fun _ => 0) (fun _ => 0)) t).alloc (.cells (jc 0 (fun _ => 0) (fun _ => 0)).toArray t)
  have r2 := MA.Rg.new' (w.alloc (.cells (jc 0 (fun _ => 0) (fun _ => 0)).toArray t)) (jc 0 (fun _ => 0) (fun _ => 0)) t (w.heap.size + 1) (by simp)
  exact ⟨r1.other (.inl (by omega)), r2.put (by rw [jc_len, jc_len]), by omega, Nat.le_refl _, by omega, MA.below_cells (by omega) _ _ _ (((Below.refl _ w).alloc (Nat.le_refl _) _).alloc (by simp) _)⟩
def upB (k : Nat) : Nat → Nat := fun i => if i < k then FL.Mo.inf.b else 0
theorem upB_put (k : Nat) : put (upB k) k FL.Mo.inf.b = upB (k + 1) := by
  funext p
  simp only [put, upB]
  by_cases e : p = k
  · subst e; simp
  · rw [if_neg e]
    by_cases h : p < k
    · rw [if_pos h, if_pos (by omega)]
    · rw [if_neg h, if_neg (by omega)]
theorem upB_all {f : Int} {lf : Nat → Int} : jc f (upB 8) lf = jc f (wb ⟨fun _ => .inf, fun _ => none⟩) lf := jc_ext (fun i hi => by simp [upB, wb, hi]) (fun _ _ => rfl)
end PN
theorem Try.infoJ : (Try.prog.info? 64).map (fun i => (i.zero, i.size)) = some (some (.agg (PN.jc 0 (fun _ => 0) (fun _ => 0)).toArray), 17) := by kernel_rfl
theorem Try.sizeJ : (Try.prog.info? 64).map (·.size) = some 17 := by kernel_rfl
theorem Try.builtJ (f : Int) : Try.prog.built 64 [(0, .int .i64 f)] = some (PN.jc f (fun _ => 0) (fun _ => 0)).toArray := by kernel_rfl
theorem MA.build_pJ {P : Program} {ops : Array Oper} {rest : List Oper} {op : Oper} {a : Act} {w : World} {Q : Exit → Act → World → Prop} (hgd : op.guard = none) (ty : TypeId) {parts : Array (Nat × Operand)} (ho : op.op = .build ty parts)
    (ps : List (Nat × Value)) (hps : (parts.map fun (i, x) => (i, a.eval x)).toList = ps) {cs : List Value} (hb : P.built ty ps = some cs.toArray)
    (h : wpList P ops Q rest (a.put op.dst (.agg cs.toArray)) w) : wpList P ops Q (op :: rest) a w := MA.build_m hgd ty ho (by rw [hps]; exact hb) h
set_option linter.unusedSimpArgs false in
set_option maxHeartbeats 3200000 in
set_option maxRecDepth 100000 in
theorem journeyFrom_any (a : Option Addr) (ca : Nat) (xs : List I5) (f n : Int) (w : World) (hok : PN.okP xs = true) (hf0 : 0 ≤ f) (hf1 : f ≤ 7) (hn0 : 0 ≤ n) (hn1 : n ≤ 1000) (hin : MI5.RowAt w a xs) :
    Calls Try.prog 37 #[.slice a xs.length ca, .int .i64 f, .int .i64 n] w fun e w' => e = .returned (.agg (PN.jc f (PN.wb (PN.fin xs (PN.st0 f n))) (PN.lb (PN.fin xs (PN.st0 f n)))).toArray) ∧ Below w.heap.size w w' := by
  have NV : Hid (∀ W : World, Calls Try.prog 47 #[] W fun e w' => e = .returned (.float .f64 FL.Mo.inf.b) ∧ W = w') := fun W => never_any W
  have SF : ∀ (W : World) (ad : Addr) (b : Nat) (m : Mode), (store ad (.float .f64 b) m).run Try.prog W = stored Try.prog W ad (.float .f64 b) m := fun W ad b m => run_store _ W ad _ m rfl
  have HI : Hid (MI5.RowAt w a xs) := hin
  have hlen : xs.length ≤ 20 := ((PN.okP_iff xs).1 hok).1
  have GC : Hid (∀ k, k < xs.length → PN.Good (MI5.at_ xs k)) := fun k hk => PN.okP_good hok hk
  have HOK : Hid _ := hok
  have NX : Hid (∀ (s : PN.St) (W : World), PN.okS s.wh → MI5.RowAt W a xs → Calls Try.prog 48 #[.agg (PN.jc f (PN.wb s) (PN.lb s)).toArray, .slice a xs.length ca] W fun e w' => e = .returned (.tuple #[.int .i64 (PN.nextN (PN.best xs s.wh xs.length)), .bool (PN.best xs s.wh xs.length).isSome]) ∧ Below W.heap.size W w') := fun s W hs hr => next6_any a ca xs f s W hok hs hr
  obtain ⟨fn, rfl⟩ := Int.eq_ofNat_of_zero_le hf0
  have hfn : fn < 8 := by omega
  have ff1 : (fn : Int) < 8 := by omega
  have HN : Hid _ := PN.jw_new w 64 (fn : Int)
  have RZ : Hid (MA.Rg ((w.alloc (.cells (PN.jc 0 (fun _ => 0) (fun _ => 0)).toArray 64)).alloc (.cells (PN.jc 0 (fun _ => 0) (fun _ => 0)).toArray 64)) (w.heap.size + 1) 0 (PN.jc 0 (fun _ => 0) (fun _ => 0))) := MA.Rg.new' _ _ _ _ (by simp)
  clear hin hok
  go_enter Try.func37, Try.ntmps37
  go_wp2_with (first
    | (refine MA.alloc_z rfl 64 rfl _ _ Try.infoJ ?_; simp only [MA.sz_alloc])
    | (refine MA.build_pJ rfl 64 rfl [(0, .int .i64 (fn : Int))] (by simp [Act.eval]) (Try.builtJ _) ?_)
    | (refine MA.store_m rfl 64 _ _ rfl rfl rfl (vs := PN.jc (fn : Int) (fun _ => 0) (fun _ => 0)) (cs := PN.jc 0 (fun _ => 0) (fun _ => 0)) ?_ Try.sizeJ (PN.jc_len _ _ _) (PN.jc_len _ _ _) (PN.jc_one _ _ _) ?_; exact RZ.out; clear RZ; generalize World.setCells _ _ _ _ = W3 at *))
  generalize w.heap.size + 1 = jb at *
  go_loopw [14] (fun iv wr => ∃ k : Nat, iv = .int .i64 k ∧ k ≤ 8 ∧ PN.JW w wr w.heap.size jb (fn : Int) (PN.upB k) (fun _ => 0)) (fun iv _ => (8 - intOf iv).toNat)
  case atStart => exact ⟨0, rfl, by omega, HN.out⟩
  case round =>
    clear HN
    obtain ⟨k, rfl, hk, hJ⟩ := hrel
    by_cases hl : k < 8
    · obtain ⟨q1, z1⟩ := PN.rg_w hJ.j hl
      have hl1 := hJ.j.lt
      have hJ2 := hJ.setw hl FL.Mo.inf.b
      rw [PN.upB_put] at hJ2
      have HJ2 : Hid _ := hJ2
      have kk : (k : Int) < 8 := by omega
      clear hJ hJ2
      go_wp2_with fail
      refine (NV.out _).mono ?_
      rintro e w' ⟨rfl, rfl⟩
      go_wp2
      go_roundw
      case rel => exact ⟨k + 1, by go_num, by omega, HJ2.out⟩
      case measure => simp [intOf]; omega
    · obtain rfl : k = 8 := by omega
      have hJ0 : PN.JW w wr w.heap.size jb (fn : Int) (PN.wb ⟨fun _ => .inf, fun _ => none⟩) (PN.lb ⟨fun _ => .inf, fun _ => none⟩) := by
        have h := hJ.j
        rw [PN.upB_all] at h
        exact ⟨hJ.r, h, hJ.ne, hJ.br, hJ.bj, hJ.bl⟩
      obtain ⟨q1, z1⟩ := PN.rg_w hJ0.j hfn
      have hl1 := hJ0.j.lt
      have hJ1 := hJ0.setw hfn (FL.Mo.fin n).b
      rw [PN.wb_put _ _ _ (fun _ => none)] at hJ1
      have HS0 : Hid (PN.JW w (wr.setCell ⟨jb, 1 + fn, none⟩ (.float .f64 (floatOfInt .f64 n))) w.heap.size jb (fn : Int) (PN.wb (PN.st0 (fn : Int) n)) (PN.lb (PN.st0 (fn : Int) n))) := hJ1
      have HOS : Hid (PN.okS (PN.st0 (fn : Int) n).wh) := PN.st0_ok hn0 hn1
      clear hJ hJ0 hJ1
      generalize hst : PN.st0 (fn : Int) n = s0 at *
      have HR0 : Hid (MA.Rg (wr.setCell ⟨jb, 1 + fn, none⟩ (.float .f64 (floatOfInt .f64 n))) jb 0 (PN.jc (fn : Int) (PN.wb s0) (PN.lb s0))) := HS0.out.j
      go_wp2_with (refine MA.load_m rfl 64 _ rfl rfl (cs := PN.jc (fn : Int) (PN.wb s0) (PN.lb s0)) ?_ Try.underlying64 rfl Try.sizeJ (PN.jc_len _ _ _) ?_; exact HR0.out; clear HR0)
      generalize wr.setCell ⟨jb, 1 + fn, none⟩ (.float .f64 (floatOfInt .f64 n)) = W4 at *
      clear q1 z1 hl1
      refine (NX.out s0 _ HOS.out (HI.out.below HS0.out.bl)).mono ?_
      rintro e w5 ⟨rfl, hb5⟩
      have HS5 : Hid _ := HS0.out.kept hb5
      clear HS0 hb5
      generalize hbest : PN.best xs s0.wh xs.length = R0 at *
      have HBT : Hid _ := hbest
      clear hbest
      go_wp2
      go_loopw [9, 10] (fun kv ov wr => ∃ s : PN.St, kv = .int .i64 (PN.nextN (PN.best xs s.wh xs.length)) ∧ ov = .bool (PN.best xs s.wh xs.length).isSome ∧ PN.JW w wr w.heap.size jb (fn : Int) (PN.wb s) (PN.lb s) ∧ Hid (PN.okS s.wh) ∧ Hid (PN.fin xs s = PN.fin xs s0)) (fun _ _ wr => PN.MJ jb wr)
      case atStart => exact ⟨s0, by rw [HBT.out], by rw [HBT.out], HS5.out, HOS, rfl⟩
      case round =>
        clear HS5 HOS HBT
        obtain ⟨s, rfl, rfl, hJ, hO, hF⟩ := hrel
        have HM : Hid (PN.MJ jb wr = PN.mu s.wh) := PN.JR.mu hJ.j hO.out
        cases hb : PN.best xs s.wh xs.length with
        | none =>
          have hE : Hid (s = PN.fin xs s0) := by show s = _; rw [← hF.out, PN.fin_none hb]
          have HRJ : Hid (MA.Rg wr jb 0 (PN.jc (fn : Int) (PN.wb s) (PN.lb s))) := hJ.j
          have HRR : Hid (MA.Rg wr w.heap.size 0 (PN.jc 0 (fun _ => 0) (fun _ => 0))) := hJ.r
          have HRP : Hid (MA.Rg (wr.setCells w.heap.size 0 (PN.jc (fn : Int) (PN.wb s) (PN.lb s))) w.heap.size 0 (PN.jc (fn : Int) (PN.wb s) (PN.lb s))) := hJ.r.put (by rw [PN.jc_len, PN.jc_len])
          have HBP : Hid (Below w.heap.size w (wr.setCells w.heap.size 0 (PN.jc (fn : Int) (PN.wb s) (PN.lb s)))) := MA.below_cells (Nat.le_refl _) _ _ _ hJ.bl
          clear hb hF hO hJ HM HOK GC HI NX NV SF
          go_wp2_with (first
            | (refine MA.load_m rfl 64 _ rfl rfl (cs := PN.jc (fn : Int) (PN.wb s) (PN.lb s)) ?_ Try.underlying64 rfl Try.sizeJ (PN.jc_len _ _ _) ?_; exact HRJ.out; clear HRJ)
            | (refine MA.store_m rfl 64 _ _ rfl rfl rfl (vs := PN.jc (fn : Int) (PN.wb s) (PN.lb s)) (cs := PN.jc 0 (fun _ => 0) (fun _ => 0)) ?_ Try.sizeJ (PN.jc_len _ _ _) (PN.jc_len _ _ _) (PN.jc_one _ _ _) ?_; exact HRR.out; clear HRR))
          exact bodyPost_ret (MA.ret_cell rfl rfl (MA.load_rg HRP.out Try.underlying64 rfl Try.sizeJ (PN.jc_len _ _ _))) rfl ⟨by rw [hst, ← hE.out], HBP.out⟩
        | some p =>
          obtain ⟨kb, t⟩ := p
          obtain ⟨hkb, hA, hE⟩ := PN.best_is hb
          obtain ⟨hO2, hmu⟩ := PN.step_ok HOK.out hO.out hb
          have hF2 : Hid (PN.fin xs (PN.take1 xs s kb t) = PN.fin xs s0) := by show _ = _; rw [← hF.out, PN.fin_some HOK.out hO.out hb]
          have G := GC.out kb hkb
          obtain ⟨b4, off4, hab, hlt4, e0, e1, e2, e3, e4⟩ := (HI.out.below hJ.bl).at hkb
          obtain ⟨i, hi⟩ := Int.eq_ofNat_of_zero_le G.f0
          obtain ⟨j, hj⟩ := Int.eq_ofNat_of_zero_le G.t0
          have hi8 : i < 8 := by have := G.f1; omega
          have hj8 : j < 8 := by have := G.t1; omega
          have hij : i ≠ j := by have := G.ne; omega
          have ii0 : (0 : Int) ≤ (i : Int) := by omega
          have ii8 : (i : Int) < 8 := by omega
          have jj0 : (0 : Int) ≤ (j : Int) := by omega
          have jj8 : (j : Int) < 8 := by omega
          have kk0 : (0 : Int) ≤ (kb : Int) := by omega
          have kk1 : (kb : Int) < (xs.length : Int) := by omega
          have hin : (MI5.at_ xs kb).a0.toNat = i := by rw [hi]; rfl
          have hjn : (MI5.at_ xs kb).a1.toNat = j := by rw [hj]; rfl
          rw [hin] at hA
          have AR : Hid (∀ W : World, Calls Try.prog 41 #[(MI5.at_ xs kb).v, .float .f64 (s.wh i).b] W fun e w' => e = .returned (.float .f64 (FL.Mo.fin t).b) ∧ Below W.heap.size W w') := fun W => by
            have := arrival_any (MI5.at_ xs kb) (s.wh i) W G (hO.out i)
            rw [hA] at this; exact this
          have hST : (⟨PN.put s.wh j (.fin t), PN.put s.la j (some kb)⟩ : PN.St) = PN.take1 xs s kb t := by unfold PN.take1; rw [hjn]
          have HST : Hid _ := hST
          have HO2 : Hid _ := hO2
          have HMU : Hid (PN.mu (PN.take1 xs s kb t).wh < PN.mu s.wh) := hmu
          rw [hi] at e0
          rw [hj] at e1
          have HJA : Hid (PN.JW w (wr.alloc (.cells #[.int .i64 (i : Int), .int .i64 (j : Int), .int .i64 (MI5.at_ xs kb).a2, .int .i64 (MI5.at_ xs kb).a3, .int .i64 (MI5.at_ xs kb).a4] 46)) w.heap.size jb (fn : Int) (PN.wb s) (PN.lb s)) := hJ.kept ((Below.refl _ wr).alloc (Nat.le_refl _) _)
          have hjq : jb < wr.heap.size := hJ.j.lt
          clear hb hF hO GC G hjn hin hA hE hST hO2 hmu hJ
          generalize hx : MI5.at_ xs kb = x at *
          obtain ⟨x0, x1, x2, x3, x4⟩ := x
          simp only at hi hj e0 e1 e2 e3 e4
          subst hi hj
          clear hx
          subst hab
          have F0 : Hid ((wr.alloc (.cells #[.int .i64 (i : Int), .int .i64 (j : Int), .int .i64 x2, .int .i64 x3, .int .i64 x4] 46)).cell? ⟨wr.heap.size, 0, none⟩ = some (.int .i64 (i : Int))) := by show _ = _; simp
          have F1 : Hid ((wr.alloc (.cells #[.int .i64 (i : Int), .int .i64 (j : Int), .int .i64 x2, .int .i64 x3, .int .i64 x4] 46)).cell? ⟨wr.heap.size, 1, none⟩ = some (.int .i64 (j : Int))) := by show _ = _; simp
          have F2 : Hid ((wr.alloc (.cells #[.int .i64 (i : Int), .int .i64 (j : Int), .int .i64 x2, .int .i64 x3, .int .i64 x4] 46)).cell? ⟨wr.heap.size, 2, none⟩ = some (.int .i64 x2)) := by show _ = _; simp
          have F3 : Hid ((wr.alloc (.cells #[.int .i64 (i : Int), .int .i64 (j : Int), .int .i64 x2, .int .i64 x3, .int .i64 x4] 46)).cell? ⟨wr.heap.size, 3, none⟩ = some (.int .i64 x3)) := by show _ = _; simp
          have F4 : Hid ((wr.alloc (.cells #[.int .i64 (i : Int), .int .i64 (j : Int), .int .i64 x2, .int .i64 x3, .int .i64 x4] 46)).cell? ⟨wr.heap.size, 4, none⟩ = some (.int .i64 x4)) := by show _ = _; simp
          have HQ : Hid (wr.heap.size < (wr.alloc (.cells #[.int .i64 (i : Int), .int .i64 (j : Int), .int .i64 x2, .int .i64 x3, .int .i64 x4] 46)).heap.size) := by show _ < _; simp
          rw [show PN.nextN (some (kb, t)) = (kb : Int) from rfl, show (some (kb, t)).isSome = true from rfl]
          go_wp2_with fail
          clear e0 e1 e2 e3 e4 hlt4
          generalize (wr.alloc (.cells #[.int .i64 (i : Int), .int .i64 (j : Int), .int .i64 x2, .int .i64 x3, .int .i64 x4] 46)) = W1 at *
          generalize wr.heap.size = q at *
          have f0 := F0.out
          have f1 := F1.out
          have f2 := F2.out
          have f3 := F3.out
          have f4 := F4.out
          have hq := HQ.out
          have hci : W1.cell? ⟨jb, 1 + i, none⟩ = some (.float .f64 (s.wh i).b) := (PN.rg_w HJA.out.j hi8).1
          have hjb := HJA.out.j.lt
          have hqj : q ≠ jb := by omega
          have hqj' : jb ≠ q := by omega
          clear F0 F1 F2 F3 F4 HQ
          go_region_held3 (fun w' => w'.cell? ⟨q, 0, none⟩ = some (.int .i64 (i : Int)) ∧ w'.cell? ⟨q, 1, none⟩ = some (.int .i64 (j : Int)) ∧ w'.cell? ⟨q, 2, none⟩ = some (.int .i64 x2) ∧ w'.cell? ⟨q, 3, none⟩ = some (.int .i64 x3) ∧ w'.cell? ⟨q, 4, none⟩ = some (.int .i64 x4) ∧ w'.cell? ⟨jb, 1 + i, none⟩ = some (.float .f64 (s.wh i).b)) (first | assumption | go_keep) (first | (go_at_call 41; refine Calls.mono (AR.out _) ?_; rintro e w3 ⟨rfl, hb3⟩; have k0 : w3.cell? ⟨q, 0, none⟩ = some (.int .i64 (i : Int)) := (hb3.cell (p := ⟨q, 0, none⟩) (by simpa using hq)).trans (by simpa using f0); have k1 : w3.cell? ⟨q, 1, none⟩ = some (.int .i64 (j : Int)) := (hb3.cell (p := ⟨q, 1, none⟩) (by simpa using hq)).trans (by simpa using f1); have k2 : w3.cell? ⟨q, 2, none⟩ = some (.int .i64 x2) := (hb3.cell (p := ⟨q, 2, none⟩) (by simpa using hq)).trans (by simpa using f2); have k3 : w3.cell? ⟨q, 3, none⟩ = some (.int .i64 x3) := (hb3.cell (p := ⟨q, 3, none⟩) (by simpa using hq)).trans (by simpa using f3); have k4 : w3.cell? ⟨q, 4, none⟩ = some (.int .i64 x4) := (hb3.cell (p := ⟨q, 4, none⟩) (by simpa using hq)).trans (by simpa using f4); have ki : w3.cell? ⟨jb, 1 + i, none⟩ = some (.float .f64 (s.wh i).b) := (hb3.cell (p := ⟨jb, 1 + i, none⟩) (by simpa using hjb)).trans (by simpa using hci); have HJ3 := HJA.out.kept (((Below.refl _ W1).drew).trans hb3); obtain ⟨kj, zj⟩ := PN.rg_w HJ3.j hj8; have HJ4 := HJ3.setw hj8 (FL.Mo.fin t).b; obtain ⟨kl, zl⟩ := PN.rg_l HJ4.j hj8; have HJ5 := HJ4.setl hj8 (kb : Int); have ki4 : (w3.setCell ⟨jb, 1 + j, none⟩ (.float .f64 (FL.Mo.fin t).b)).cell? ⟨jb, 1 + i, none⟩ = some (.float .f64 (s.wh i).b) := (PN.rg_w HJ4.j hi8).1.trans (by rw [PN.put_ne _ _ hij]; rfl); have ki5 : ((w3.setCell ⟨jb, 1 + j, none⟩ (.float .f64 (FL.Mo.fin t).b)).setCell ⟨jb, 9 + j, none⟩ (.int .i64 (kb : Int))).cell? ⟨jb, 1 + i, none⟩ = some (.float .f64 (s.wh i).b) := (PN.rg_w HJ5.j hi8).1.trans (by rw [PN.put_ne _ _ hij]; rfl)))
          rw [PN.wb_put s j (.fin t) (PN.put s.la j (some kb)), PN.lb_put s j kb (PN.put s.wh j (.fin t)), HST.out] at HJ5
          clear k0 k1 k2 k3 k4 ki kj zj kl zl ki4 ki5 HJ3 HJ4 hb3 f0 f1 f2 f3 f4 hq hci hjb HJA AR HST hqj hqj' hjq
          have HJ6 : Hid _ := HJ5
          have HR6 : Hid (MA.Rg ((w3.setCell ⟨jb, 1 + j, none⟩ (.float .f64 (FL.Mo.fin t).b)).setCell ⟨jb, 9 + j, none⟩ (.int .i64 (kb : Int))) jb 0 (PN.jc (fn : Int) (PN.wb (PN.take1 xs s kb t)) (PN.lb (PN.take1 xs s kb t)))) := HJ5.j
          clear HJ5
          generalize (w3.setCell ⟨jb, 1 + j, none⟩ (.float .f64 (FL.Mo.fin t).b)).setCell ⟨jb, 9 + j, none⟩ (.int .i64 (kb : Int)) = W5 at *
          generalize PN.take1 xs s kb t = s' at *
          go_wp2_with (refine MA.load_m rfl 64 _ rfl rfl (cs := PN.jc (fn : Int) (PN.wb s') (PN.lb s')) ?_ Try.underlying64 rfl Try.sizeJ (PN.jc_len _ _ _) ?_; exact HR6.out; clear HR6)
          refine (NX.out s' _ HO2.out (HI.out.below HJ6.out.bl)).mono ?_
          rintro e w6 ⟨rfl, hb6⟩
          have HJ7 : Hid _ := HJ6.out.kept hb6
          have HM7 : Hid (PN.MJ jb w6 = PN.mu s'.wh) := PN.JR.mu HJ7.out.j HO2.out
          clear hb6 HJ6
          go_wp2
          go_roundw
          case rel => exact ⟨s', rfl, rfl, HJ7.out, HO2, hF2⟩
          case measure => rw [HM.out, HM7.out]; exact HMU.out
end Go.Proofs.Ytlkioijpdlalhaa

/- The step that is first on a route: plain facts. -/
namespace Go.Proofs.Ytlkioijpdlalhaa
open Go.RowKit
namespace GP
open PN FL
/-- The first contact of a route leads on from where one is, and can be taken then. -/
theorem first_of {xs : List I5} {f n t : Int} (h : tellB (routeM xs f n t) = true) (hne : routeL xs f n t ≠ []) :
    startOk xs f n = true ∧ 0 < (routeL xs f n t).length ∧ (0 ≤ (routeL xs f n t).getD 0 0 ∧ (routeL xs f n t).getD 0 0 < xs.length) ∧ (ofN xs ((routeL xs f n t).getD 0 0)).a0 = f ∧ ¬ (ofN xs ((routeL xs f n t).getD 0 0)).a3 ≤ n ∧ arrM xs f n [(routeL xs f n t).getD 0 0] = .fin (ov (ofN xs ((routeL xs f n t).getD 0 0)) n) := by
  have ha : askOk xs f n t = true := by
    cases c : askOk xs f n t with
    | true => rfl
    | false => rw [route_no c] at h; cases h
  obtain ⟨hst, t0, t1⟩ := ask_is ha
  obtain ⟨hok, f0, f1, n0, n1⟩ := start_is hst
  have hs0 := st0_ok (f := f) n0 n1
  have hO := ord_st0 hok (f := f) (n := n)
  have hX := vix_fin hok hs0 hO (vix_st0 xs (f := f) (n := n))
  obtain ⟨rk, hV⟩ := via_fin hok hs0 hO (via_st0 xs f0 f1 (n := n))
  have hL := routeL_yes h
  rw [route_yes ha] at h
  obtain ⟨u, hu⟩ : ∃ u, (fin xs (st0 f n)).wh t.toNat = .fin u := by
    cases c : (fin xs (st0 f n)).wh t.toNat with
    | fin u => exact ⟨u, rfl⟩
    | inf => rw [c] at h; cases h
    | ago => rw [c] at h; cases h
  obtain ⟨w1, w2, w3, w4⟩ := way_is hok (fi := f) (by omega : f = (f.toNat : Int)) hX hV 8 t.toNat u hu (Nat.le_trans (hV.top _ _ hu) (cnt_le _))
  rw [← hL] at w1 w2 w3
  generalize routeL xs f n t = L at *
  have hl : 0 < L.length := by cases L with | nil => exact absurd rfl hne | cons _ _ => simp
  have hin := w2 0 hl
  have hgo : (ofN xs (L.getD 0 0)).a0 = f := w3 0 hl
  have hmo : mo xs L n 1 = arr (ofN xs (L.getD 0 0)) (.fin n) := rfl
  have hne2 : ¬ (ofN xs (L.getD 0 0)).a3 ≤ n := fun c => by
    have := mo_inf (xs := xs) (os := L) (n := n) (k := 1) (by rw [hmo, (ov_no c).2]) (L.length - 1)
    rw [show 1 + (L.length - 1) = L.length by omega, w1] at this
    cases this
  refine ⟨hst, hl, ⟨hin.1, hin.2⟩, hgo, hne2, ?_⟩
  have hin1 : inUp xs.length [L.getD 0 0] [L.getD 0 0].length := fun i hi => by
    obtain rfl : i = 0 := by simpa using hi
    exact hin
  have hgo1 : goUp xs f [L.getD 0 0] [L.getD 0 0].length := fun i hi => by
    obtain rfl : i = 0 := by simpa using hi
    exact hgo
  rw [arrM_yes (way_go hst ((inP_iff _ _).2 hin1) (by simp) hgo1), ← ov_yes hne2]; rfl
/-- Whether there is a step that is in time; the contact, and when one is there by it. -/
def stepOk (xs : List I5) (b : Bd) (f n t : Int) : Bool := fitsB xs b && tellB (routeM xs f n t) && decide (routeL xs f n t ≠ []) && decide (ov (ofN xs ((routeL xs f n t).getD 0 0)) n ≤ b.md + b.lf)
def stepK (xs : List I5) (b : Bd) (f n t : Int) : Int := if stepOk xs b f n t = true then (routeL xs f n t).getD 0 0 else 0
def stepT (xs : List I5) (b : Bd) (f n t : Int) : Int := if stepOk xs b f n t = true then ov (ofN xs ((routeL xs f n t).getD 0 0)) n else 0
theorem step_no {xs : List I5} {b : Bd} {f n t : Int} (h : stepOk xs b f n t = false) : stepK xs b f n t = 0 ∧ stepT xs b f n t = 0 := by unfold stepK stepT; rw [h]; exact ⟨rfl, rfl⟩
theorem step_yes {xs : List I5} {b : Bd} {f n t : Int} (h : stepOk xs b f n t = true) : stepK xs b f n t = (routeL xs f n t).getD 0 0 ∧ stepT xs b f n t = ov (ofN xs ((routeL xs f n t).getD 0 0)) n := by unfold stepK stepT; rw [h]; exact ⟨rfl, rfl⟩
end GP
end Go.Proofs.Ytlkioijpdlalhaa

/- RouteTo, the program's. -/
namespace Go.Proofs.Ytlkioijpdlalhaa
open Go.RowKit
set_option linter.unusedSimpArgs false in
set_option maxHeartbeats 3200000 in
set_option maxRecDepth 100000 in
theorem rowTo_any (a : Option Addr) (ca : Nat) (xs : List I5) (fn tn : Nat) (s : PN.St) (L : List Int) (w : World) (hok : PN.okP xs = true) (hf8 : fn < 8) (hBk : PN.Back xs fn s L tn []) (hin : MI5.RowAt w a xs) :
    Calls Try.prog 39 #[.agg (PN.jc (fn : Int) (PN.wb s) (PN.lb s)).toArray, .slice a xs.length ca, .int .i64 (tn : Int)] w fun e w' => ∃ a1 c1, e = .returned (.slice a1 L.length c1) ∧ w'.ownsRow w.heap.size 3 1 (.slice a1 L.length c1) L.length (M4.iv L) ∧ Below w.heap.size w w' := by
  obtain ⟨i0, hi, hz0, hz1, hz2⟩ := info_parts Try.info3
  have HI : Hid (MI5.RowAt w a xs) := hin
  have HOK : Hid _ := hok
  have GC : Hid (∀ k, k < xs.length → PN.Good (MI5.at_ xs k)) := fun k hk => PN.okP_good hok hk
  have HJ : Hid _ := MA.Rg.new w (PN.jc (fn : Int) (PN.wb s) (PN.lb s)) 64
  have HB0 : Hid (Below w.heap.size w (w.alloc (.cells (PN.jc (fn : Int) (PN.wb s) (PN.lb s)).toArray 64))) := (Below.refl _ w).alloc (Nat.le_refl _) _
  have HBK : Hid _ := hBk
  have RV : Hid (∀ (base g cap : Nat) (zs : List Int) (W : World), zs.length ≤ 1048576 → base ≤ W.heap.size → W.ownsRow base 3 1 (.slice (some ⟨g, 0, none⟩) zs.length cap) zs.length (M4.iv zs) → Calls Try.prog 50 #[.slice (some ⟨g, 0, none⟩) zs.length cap] W fun e w' => e = .returned (.tuple #[]) ∧ w'.ownsRow base 3 1 (.slice (some ⟨g, 0, none⟩) zs.length cap) zs.length (M4.iv zs.reverse) ∧ Below base W w') := fun base g cap zs W h1 h2 h3 => reverse_any base g cap zs W h1 h2 h3
  clear hin hok hBk
  go_enter Try.func39, Try.ntmps39
  generalize hW0 : w.alloc (.cells (PN.jc (fn : Int) (PN.wb s) (PN.lb s)).toArray 64) = W0 at HJ HB0
  have HSZ : Hid (W0.heap.size = w.heap.size + 1) := by show _ = _; rw [← hW0]; simp
  have HB1 : Hid (Below W0.heap.size W0 (W0.alloc (.cells #[] 3))) := (Below.refl _ W0).alloc (Nat.le_refl _) _
  go_wp2
  generalize hW1 : W0.alloc (.cells #[] 3) = W1 at *
  go_loopw [7, 8] (fun rv nv wr => ∃ (v : Nat) (acc : List Int) (g cap : Nat), nv = .int .i64 v ∧ rv = .slice (some ⟨g, 0, none⟩) acc.length cap ∧ Hid (PN.Back xs fn s L v acc) ∧ wr.ownsRow W0.heap.size 3 1 (.slice (some ⟨g, 0, none⟩) acc.length cap) acc.length (M4.iv acc.reverse) ∧ Below W0.heap.size W0 wr) (fun rv _ _ => 8 - PN.lenV rv)
  case atStart => exact ⟨tn, [], W0.heap.size, 0, rfl, rfl, HBK, by have h := PN.own_lit0 W0 W0.heap.size (Nat.le_refl _); rw [hW1] at h; exact h, HB1.out⟩
  case round =>
    clear HBK HB1 hW1
    obtain ⟨v, acc, g, cap, rfl, rfl, hB, hown, hb⟩ := hrel
    have hJr := MA.Rg.below HJ.out hb HJ.out.lt
    have cf : wr.cell? ⟨w.heap.size, 0, none⟩ = some (.int .i64 (fn : Int)) := by have := hJr.cell (PN.jc_f _ _ _); rwa [Nat.zero_add] at this
    have hjb := hJr.lt
    by_cases hv : v = fn
    · subst hv
      have hLe := PN.Back.end_ hB.out
      have hlen : acc.length ≤ 8 := by obtain ⟨_, m, _, _, h, _⟩ := hB.out.go; omega
      have HLE : Hid _ := hLe
      have HO : Hid (wr.ownsRow W0.heap.size 3 1 (.slice (some ⟨g, 0, none⟩) acc.length cap) acc.length (M4.iv acc.reverse)) := hown
      clear hB hown HOK GC hLe hi hz0 hz1 hz2 hJr
      have hrl : acc.reverse.length = acc.length := by simp
      have RV1 : Hid (Calls Try.prog 50 #[.slice (some ⟨g, 0, none⟩) acc.length cap] wr fun e w' => e = .returned (.tuple #[]) ∧ w'.ownsRow W0.heap.size 3 1 (.slice (some ⟨g, 0, none⟩) acc.length cap) acc.length (M4.iv acc) ∧ Below W0.heap.size wr w') := by
        have h := RV.out W0.heap.size g cap acc.reverse wr (by rw [hrl]; omega) hb.size (by rw [hrl]; exact HO.out)
        rw [hrl, List.reverse_reverse] at h
        exact h
      clear RV hrl HO
      go_wp2_with fail
      refine Calls.mono RV1.out ?_
      rintro e w3 ⟨rfl, hown3, hb3⟩
      have HO3 : Hid (w3.ownsRow W0.heap.size 3 1 (.slice (some ⟨g, 0, none⟩) acc.length cap) acc.length (M4.iv acc)) := hown3
      have HBB : Hid (Below w.heap.size w w3) := HB0.out.trans ((hb.trans hb3).mono HB0.out.size)
      clear hown3 hb3 RV1 cf
      go_wp2
      go_ret
      exact ⟨some ⟨g, 0, none⟩, cap, by rw [HLE.out]; rfl, by rw [HLE.out]; exact CS6.own_base HO3.out HB0.out.size, HBB.out⟩
    · obtain ⟨k, hk1, hk2, hk3, hk4⟩ := PN.Back.next HOK.out hB.out hv
      have hv8 := hB.out.lt
      have vv8 : (v : Int) < 8 := by omega
      have kk0 : (0 : Int) ≤ (k : Int) := by omega
      have kk1 : (k : Int) < (xs.length : Int) := by omega
      have hvf : ((v : Int) != (fn : Int)) = true := by simp; omega
      have cl : wr.cell? ⟨w.heap.size, 9 + v, none⟩ = some (.int .i64 (k : Int)) := by have := (PN.rg_l hJr hv8).1; simp only [PN.lb, hk1, PN.kI] at this; exact this
      have G := GC.out k hk2
      obtain ⟨i, hii⟩ := Int.eq_ofNat_of_zero_le G.f0
      have hin : (MI5.at_ xs k).a0.toNat = i := by rw [hii]; rfl
      rw [hin] at hk4
      obtain ⟨b4, off4, hab, hlt4, e0, -⟩ := (HI.out.below HB0.out).at hk2
      rw [hii] at e0
      have HB2 : Hid _ := hk4
      have LK : Hid (s.la v = some k) := hk1
      have HOA : Hid (World.ownsRow (wr.alloc (.cells #[.int .i64 (k : Int)] 3)) W0.heap.size 3 1 (.slice (some ⟨g, 0, none⟩) acc.length cap) acc.length (M4.iv acc.reverse)) := World.ownsRow.alloc hown (.cells #[.int .i64 (k : Int)] 3)
      have HO : Hid (World.ownsRow wr W0.heap.size 3 1 (.slice (some ⟨g, 0, none⟩) acc.length cap) acc.length (M4.iv acc.reverse)) := hown
      have hbs := hb.size
      clear hB G hin hk4 hk1 hown hJr
      go_wp2_with (at_builtin; refine wpList_append_own _ rfl _ _ 35 rfl W0.heap.size 3 i0 (.int .i64 0) 1 8 Try.underlying35 hi hz0 hz1 hz2 rfl (by decide) _ _ _ rfl HOA.out ⟨wr.heap.size, 0, none⟩ 1 1 [.int .i64 (k : Int)] rfl rfl ?c1 ?c2 ?c3 ?c4 ?c5 ?_)
      case c1 => exact M2.new1 _ _ _
      case c2 => exact M2.one1 _ _
      case c3 => unfold maxLen; omega
      case c4 => omega
      case c5 => simp; omega
      intro v' w3 hown1 hgrow hnn
      have hb3 : Below W0.heap.size W0 w3 := (hb.alloc hbs _).grown hgrow (by simp; omega) (fun j hj => (World.ownsRow.lt HO.out j hj).1)
      have hJ3 := MA.Rg.below HJ.out hb3 HJ.out.lt
      have cl3 : w3.cell? ⟨w.heap.size, 9 + v, none⟩ = some (.int .i64 (k : Int)) := by have := (PN.rg_l hJ3 hv8).1; simp only [PN.lb, LK.out, PN.kI] at this; exact this
      have hjb3 := hJ3.lt
      have c0 := (hb3.cell (p := ⟨b4, off4 + k * 5, none⟩) hlt4).trans e0
      have hb4 : b4 < w3.heap.size := Nat.lt_of_lt_of_le hlt4 hb3.size
      obtain ⟨g', cap', rfl⟩ : ∃ g' cap', v' = .slice (some ⟨g', 0, none⟩) (acc.length + 1) cap' := by
        rcases hown1.2 with ⟨h1, h2⟩ | ⟨g', cap', cur, h1, _⟩
        · omega
        · exact ⟨g', cap', h1⟩
      have R1 : Hid (w3.ownsRow W0.heap.size 3 1 (.slice (some ⟨g', 0, none⟩) ((k : Int) :: acc).length cap') ((k : Int) :: acc).length (M4.iv ((k : Int) :: acc).reverse)) := by
        show w3.ownsRow _ _ _ _ _ _
        rw [List.reverse_cons, List.length_cons]
        have e : M4.iv (acc.reverse ++ [(k : Int)]) = M4.iv acc.reverse ++ [.int .i64 (k : Int)] := by simp [M4.iv]
        rw [e]; exact hown1
      clear hown1 hgrow hnn HO HOA cl cf e0 hJ3 hb LK
      subst hab
      go_wp2
      go_roundw
      case rel => exact ⟨i, (k : Int) :: acc, g', cap', rfl, rfl, HB2, R1.out, hb3⟩
      case measure => simp [PN.lenV]; omega
set_option linter.unusedSimpArgs false in
set_option maxHeartbeats 3200000 in
set_option maxRecDepth 100000 in
theorem implRoute_any (a : Option Addr) (ca : Nat) (xs : List I5) (f n t : Int) (w : World) (hn : xs.length ≤ 1048576) (hin : MI5.RowAt w a xs) :
    Calls Try.prog 23 #[.slice a xs.length ca, .int .i64 f, .int .i64 n, .int .i64 t] w fun e w' => ∃ a1 c1, e = .returned (.tuple #[.slice a1 (PN.routeL xs f n t).length c1, .int .i64 (PN.tellN (PN.routeM xs f n t)), .bool (PN.tellB (PN.routeM xs f n t))]) ∧ w'.ownsRow w.heap.size 3 1 (.slice a1 (PN.routeL xs f n t).length c1) (PN.routeL xs f n t).length (M4.iv (PN.routeL xs f n t)) ∧ Below w.heap.size w w' := by
  have ST : Hid (∀ W : World, MI5.RowAt W a xs → Calls Try.prog 36 #[.slice a xs.length ca, .int .i64 f, .int .i64 n] W fun e w' => e = .returned (.bool (PN.startOk xs f n)) ∧ Below W.heap.size W w') := fun W h => isStart_any a ca xs f n W hn h
  have NT : Hid (∀ W : World, Calls Try.prog 34 #[.int .i64 t] W fun e w' => e = .returned (.bool (decide (0 ≤ t ∧ t ≤ 7))) ∧ W = w') := fun W => nodeI_any t W
  have HI : Hid (MI5.RowAt w a xs) := hin
  clear hin
  obtain ⟨N, hN⟩ : ∃ N, PN.tellN (PN.routeM xs f n t) = N := ⟨_, rfl⟩
  obtain ⟨T, hT⟩ : ∃ T, PN.tellB (PN.routeM xs f n t) = T := ⟨_, rfl⟩
  obtain ⟨L, hL⟩ : ∃ L, PN.routeL xs f n t = L := ⟨_, rfl⟩
  have NO : Hid (PN.askOk xs f n t = false → N = 0 ∧ T = false ∧ L = []) := fun h => by
    have hT' : PN.tellB (PN.routeM xs f n t) = false := by rw [PN.route_no h]; rfl
    rw [← hN, ← hT, ← hL, PN.routeL_no hT', PN.route_no h]; exact ⟨rfl, rfl, rfl⟩
  have YES : Hid (PN.askOk xs f n t = true → N = PN.tellN ((PN.fin xs (PN.st0 f n)).wh t.toNat) ∧ T = PN.tellB ((PN.fin xs (PN.st0 f n)).wh t.toNat) ∧ (T = false → L = []) ∧ (T = true → L = PN.way xs (PN.fin xs (PN.st0 f n)).la f.toNat 8 t.toNat)) := fun h => by
    rw [← hN, ← hT, ← hL, ← PN.route_yes h]; exact ⟨rfl, rfl, PN.routeL_no, PN.routeL_yes⟩
  rw [hN, hT, hL]
  clear hN hT hL
  obtain ⟨q3, h3⟩ : ∃ q, decide (0 ≤ t ∧ t ≤ 7) = q := ⟨_, rfl⟩
  obtain ⟨q0, h0⟩ : ∃ q, PN.startOk xs f n = q := ⟨_, rfl⟩
  have hS : PN.askOk xs f n t = (q0 && q3) := by rw [← h0, ← h3]; rfl
  rw [h0] at ST
  rw [h3] at NT
  have HS : Hid _ := hS
  clear h0 h3 hS
  go_enter Try.func23, Try.ntmps23
  go_wp2_with fail
  refine (ST.out _ HI.out).mono ?_
  rintro e w1 ⟨rfl, hb1⟩
  have HI1 : Hid (MI5.RowAt w1 a xs) := HI.out.below hb1
  clear ST HI
  cases q0 with
  | false =>
    obtain ⟨rfl, rfl, rfl⟩ := NO.out HS.out
    clear NO YES NT HS HI1
    go_wp2
    go_ret3
    exact ⟨none, 0, rfl, World.ownsRow_nil _ _ _ _, hb1⟩
  | true =>
    go_wp2_with fail
    refine (NT.out _).mono ?_
    rintro e w' ⟨rfl, rfl⟩
    clear NT
    cases q3 with
    | false =>
      obtain ⟨rfl, rfl, rfl⟩ := NO.out HS.out
      clear NO YES HS HI1
      go_wp2
      go_ret3
      exact ⟨none, 0, rfl, World.ownsRow_nil _ _ _ _, hb1⟩
    | true =>
      have hask : PN.askOk xs f n t = true := HS.out
      obtain ⟨hst, ht0, ht1⟩ := PN.ask_is hask
      obtain ⟨hok, hf0, hf1, hn0, hn1⟩ := PN.start_is hst
      have HY : Hid _ := YES.out hask
      have JF : Hid (∀ W : World, MI5.RowAt W a xs → Calls Try.prog 37 #[.slice a xs.length ca, .int .i64 f, .int .i64 n] W fun e w' => e = .returned (.agg (PN.jc f (PN.wb (PN.fin xs (PN.st0 f n))) (PN.lb (PN.fin xs (PN.st0 f n)))).toArray) ∧ Below W.heap.size W w') := fun W hr => journeyFrom_any a ca xs f n W hok hf0 hf1 hn0 hn1 hr
      have HVI : Hid (∃ rk, PN.Via xs f.toNat (PN.fin xs (PN.st0 f n)) rk) := PN.via_fin hok (PN.st0_ok hn0 hn1) (PN.ord_st0 hok) (PN.via_st0 xs hf0 hf1)
      have HOS : Hid (PN.okS (PN.fin xs (PN.st0 f n)).wh) := PN.fin_okS hok (PN.st0_ok hn0 hn1)
      have HOK : Hid _ := hok
      clear NO YES HS hask hst hok
      obtain ⟨tn, rfl⟩ := Int.eq_ofNat_of_zero_le ht0
      obtain ⟨fn, rfl⟩ := Int.eq_ofNat_of_zero_le hf0
      have ht8 : tn < 8 := by omega
      have hf8 : fn < 8 := by omega
      have tt8 : (tn : Int) < 8 := by omega
      generalize PN.fin xs (PN.st0 (fn : Int) n) = s at *
      rw [show ((tn : Int)).toNat = tn from rfl, show ((fn : Int)).toNat = fn from rfl] at HY
      rw [show ((fn : Int)).toNat = fn from rfl] at HVI
      go_wp2_with fail
      refine (JF.out _ HI1.out).mono ?_
      rintro e w2 ⟨rfl, hb2⟩
      have HRN : Hid (MA.Rg (w2.alloc (.cells (PN.jc 0 (fun _ => 0) (fun _ => 0)).toArray 64)) w2.heap.size 0 (PN.jc 0 (fun _ => 0) (fun _ => 0))) := MA.Rg.new _ _ _
      have HRP : Hid (MA.Rg ((w2.alloc (.cells (PN.jc 0 (fun _ => 0) (fun _ => 0)).toArray 64)).setCells w2.heap.size 0 (PN.jc (fn : Int) (PN.wb s) (PN.lb s))) w2.heap.size 0 (PN.jc (fn : Int) (PN.wb s) (PN.lb s))) := HRN.out.put (by rw [PN.jc_len, PN.jc_len])
      have HBP : Hid (Below w2.heap.size w2 ((w2.alloc (.cells (PN.jc 0 (fun _ => 0) (fun _ => 0)).toArray 64)).setCells w2.heap.size 0 (PN.jc (fn : Int) (PN.wb s) (PN.lb s)))) := MA.below_cells (Nat.le_refl _) _ _ _ ((Below.refl _ w2).alloc (Nat.le_refl _) _)
      have HB2 : Hid (Below w.heap.size w w2) := hb1.trans (hb2.mono hb1.size)
      have HI2 : Hid (MI5.RowAt w2 a xs) := HI1.out.below hb2
      clear JF HI1 hb1 hb2
      have TL : Hid (∀ W : World, Calls Try.prog 38 #[.float .f64 (s.wh tn).b] W fun e w' => e = .returned (.tuple #[.int .i64 (PN.tellN (s.wh tn)), .bool (PN.tellB (s.wh tn))]) ∧ W = w') := fun W => tell_any _ W (.inr (HOS.out tn))
      go_wp2_with (first
        | (refine MA.alloc_z rfl 64 rfl _ _ Try.infoJ ?_)
        | (refine MA.store_m rfl 64 _ _ rfl rfl rfl (vs := PN.jc (fn : Int) (PN.wb s) (PN.lb s)) (cs := PN.jc 0 (fun _ => 0) (fun _ => 0)) ?_ Try.sizeJ (PN.jc_len _ _ _) (PN.jc_len _ _ _) (PN.jc_one _ _ _) ?_; exact HRN.out; clear HRN; generalize World.setCells _ _ _ _ = W3 at *; have ct : W3.cell? ⟨w2.heap.size, 1 + tn, none⟩ = some (.float .f64 (s.wh tn).b) := (PN.rg_w HRP.out ht8).1; have hl3 := HRP.out.lt))
      refine (TL.out _).mono ?_
      rintro e w' ⟨rfl, rfl⟩
      have HB3 : Hid (Below w.heap.size w W3) := HB2.out.trans (HBP.out.mono HB2.out.size)
      have HI3 : Hid (MI5.RowAt W3 a xs) := HI2.out.below HBP.out
      clear TL ct HBP HI2 HB2
      generalize w2.heap.size = jb at *
      have okt := HOS.out tn
      cases hm : s.wh tn with
      | ago => rw [hm] at okt; exact absurd okt id
      | inf =>
        rw [hm] at HY
        obtain ⟨rfl, rfl, hLL, -⟩ := HY.out
        obtain rfl := hLL rfl
        clear HY HOK HVI HOS HRP HI3 hm okt
        go_wp2
        go_ret3
        exact ⟨none, 0, rfl, World.ownsRow_nil _ _ _ _, HB3.out⟩
      | fin p =>
        rw [hm] at HY
        obtain ⟨hNp, hTp, -, hLL⟩ := HY.out
        have hTp' : T = true := hTp
        have hLw := hLL hTp'
        obtain ⟨rk, hV⟩ := HVI.out
        have HB : PN.Back xs fn s L tn [] := by rw [hLw]; exact PN.Back.start hV ht8 hm
        have RT : Hid (∀ W : World, MI5.RowAt W a xs → Calls Try.prog 39 #[.agg (PN.jc (fn : Int) (PN.wb s) (PN.lb s)).toArray, .slice a xs.length ca, .int .i64 (tn : Int)] W fun e w' => ∃ a1 c1, e = .returned (.slice a1 L.length c1) ∧ w'.ownsRow W.heap.size 3 1 (.slice a1 L.length c1) L.length (M4.iv L) ∧ Below W.heap.size W w') := fun W hr => rowTo_any a ca xs fn tn s L W HOK.out hf8 HB hr
        have HN : Hid (PN.tellN (.fin p) = N) := hNp.symm
        have HT : Hid (T = true) := hTp'
        clear HY hLL hV HVI HOS hm hLw HB hNp hTp hTp' HOK okt
        rw [show PN.tellB (.fin p) = true from rfl, HN.out]
        go_wp2_with (refine MA.load_m rfl 64 _ rfl rfl (cs := PN.jc (fn : Int) (PN.wb s) (PN.lb s)) ?_ Try.underlying64 rfl Try.sizeJ (PN.jc_len _ _ _) ?_; exact HRP.out; clear HRP)
        refine (RT.out _ HI3.out).mono ?_
        rintro e w4 ⟨a1, c1, rfl, hown4, hb4⟩
        have HO4 : Hid _ := hown4
        have HB4 : Hid (Below w.heap.size w w4) := HB3.out.trans (hb4.mono HB3.out.size)
        clear RT hown4 hb4
        go_wp2
        go_ret3
        exact ⟨a1, c1, by rw [HT.out]; rfl, CS6.own_base HO4.out HB3.out.size, HB4.out⟩
end Go.Proofs.Ytlkioijpdlalhaa

/- ForwardStep, the specification's. -/
namespace Go.Proofs.Ytlkioijpdlalhaa
open Go.RowKit
set_option linter.unusedSimpArgs false in
set_option maxHeartbeats 1600000 in
set_option maxRecDepth 100000 in
theorem stepS_any (a : Option Addr) (cap : Nat) (xs : List I5) (b : Bd) (f n t : Int) (w : World) (hn : xs.length ≤ 1048576) (hs : b.py.size ≤ 1048576) (hin : MI5.RowAt w a xs) :
    Calls Try.prog 7 #[.slice a xs.length cap, b.v, .int .i64 f, .int .i64 n, .int .i64 t] w fun e w' => e = .returned (.tuple #[.int .i64 (GP.stepK xs b f n t), .int .i64 (GP.stepT xs b f n t), .bool (GP.stepOk xs b f n t)]) ∧ Below w.heap.size w w' := by
  have P1 : Hid (∀ W : World, Below w.heap.size w W → Calls Try.prog 18 #[.slice a xs.length cap, b.v] W fun e w' => e = .returned (.bool (GP.fitsB xs b)) ∧ Below W.heap.size W w') := fun W h => fitsS_any a cap xs b W hn hs (hin.below h)
  have P2 : Hid (∀ W : World, Below w.heap.size w W → Calls Try.prog 19 #[.slice a xs.length cap, .int .i64 f, .int .i64 n, .int .i64 t] W fun e w' => ∃ a1 c1, e = .returned (.tuple #[.slice a1 (PN.routeL xs f n t).length c1, .int .i64 (PN.tellN (PN.routeM xs f n t)), .bool (PN.tellB (PN.routeM xs f n t))]) ∧ w'.ownsRow W.heap.size 3 1 (.slice a1 (PN.routeL xs f n t).length c1) (PN.routeL xs f n t).length (M4.iv (PN.routeL xs f n t)) ∧ Below W.heap.size W w') := fun W h => specRoute_any a cap xs f n t W hn (hin.below h)
  have P3 : Hid (PN.tellB (PN.routeM xs f n t) = true → PN.routeL xs f n t ≠ [] → ∃ i : Nat, (PN.routeL xs f n t).getD 0 0 = (i : Int) ∧ i < xs.length ∧ (∀ W : World, Calls Try.prog 20 #[(MI5.at_ xs i).v, .int .i64 n] W fun e w' => e = .returned (.int .i64 (PN.ov (PN.ofN xs ((PN.routeL xs f n t).getD 0 0)) n)) ∧ Below W.heap.size W w')) := fun h1 h2 => by
    obtain ⟨q1, q2, ⟨q3, q4⟩, q5, q6, q7⟩ := GP.first_of h1 h2
    obtain ⟨hok, f0, f1, n0, n1⟩ := PN.start_is q1
    obtain ⟨i, hi⟩ := Int.eq_ofNat_of_zero_le q3
    have hil : i < xs.length := by omega
    refine ⟨i, hi, hil, fun W => ?_⟩
    rw [hi]
    exact l6Over_any _ n W (PN.okP_good hok hil) n0 (by omega)
  have HROW : Hid (MI5.RowAt w a xs) := hin
  have P4 : Hid (GP.fitsB xs b = true → (0 ≤ b.md ∧ b.md ≤ 1000) ∧ (1 ≤ b.lf ∧ b.lf ≤ 1000000)) := fun h => by
    obtain ⟨_, _, _, _, h1, h2, _⟩ := GP.fits_is h
    exact ⟨h1, h2⟩
  have HS : Hid (GP.stepOk xs b f n t = (GP.fitsB xs b && PN.tellB (PN.routeM xs f n t) && decide (PN.routeL xs f n t ≠ []) && decide (PN.ov (PN.ofN xs ((PN.routeL xs f n t).getD 0 0)) n ≤ b.md + b.lf))) := show GP.stepOk xs b f n t = _ from rfl
  have NO : Hid (GP.stepOk xs b f n t = false → GP.stepK xs b f n t = 0 ∧ GP.stepT xs b f n t = 0) := fun h => GP.step_no h
  have YES : Hid (GP.stepOk xs b f n t = true → GP.stepK xs b f n t = (PN.routeL xs f n t).getD 0 0 ∧ GP.stepT xs b f n t = PN.ov (PN.ofN xs ((PN.routeL xs f n t).getD 0 0)) n) := fun h => GP.step_yes h
  have hA := BdAt.box w b 31
  have hB := (Below.refl _ w).alloc (Nat.le_refl _) (.cells #[.int .i64 b.fr, .int .i64 b.to, .bool b.gr, .int .i64 b.md, .int .i64 b.no, .int .i64 b.lf, .int .i64 b.hp, .int .i64 b.of, .int .i64 b.tl, .string b.py] 31)
  clear hin
  generalize GP.stepOk xs b f n t = R at *
  generalize GP.stepK xs b f n t = RK at *
  generalize GP.stepT xs b f n t = RT at *
  generalize PN.ov (PN.ofN xs ((PN.routeL xs f n t).getD 0 0)) n = u at *
  generalize GP.fitsB xs b = q1 at *
  generalize PN.tellB (PN.routeM xs f n t) = T at *
  generalize PN.tellN (PN.routeM xs f n t) = N at *
  generalize PN.routeL xs f n t = L at *
  obtain ⟨fr, to, gr, md, no, lf, hp, of, tl, py⟩ := b
  obtain ⟨hlt, c0, c1, c2, c3, c4, c5, c6, c7, c8, c9⟩ := id hA
  go_enter Try.func7, Try.ntmps7
  go_wp2_with fail
  refine (P1.out _ hB).mono ?_
  rintro e w1 ⟨rfl, hb1⟩
  clear c0 c1 c2 c3 c4 c5 c6 c7 c8 c9 hlt P1
  have hA1 := hA.below hb1 hA.1
  have hB1 := hB.trans (hb1.mono hB.size)
  clear hb1 hA hB
  cases q1 with
  | false =>
    have hR : R = false := HS.out
    obtain ⟨rfl, rfl⟩ := NO.out hR
    subst hR
    clear P2 P3 P4 HS NO YES hA1 HROW
    go_wp2
    go_ret3
    exact ⟨rfl, hB1⟩
  | true =>
    go_wp2_with fail
    refine (P2.out _ hB1).mono ?_
    rintro e w2 ⟨a2, c2, rfl, ho, hb2⟩
    have HO : Hid _ := ho
    clear P2 ho
    have hA2 := hA1.below hb2 hA1.1
    have hB2 := hB1.trans (hb2.mono hB1.size)
    clear hb2 hA1 hB1
    cases T with
    | false =>
      have hR : R = false := HS.out
      obtain ⟨rfl, rfl⟩ := NO.out hR
      subst hR
      clear P3 P4 HS NO YES hA2 HO HROW
      go_wp2
      go_ret3
      exact ⟨rfl, hB2⟩
    | true =>
      by_cases hL : L = []
      · subst hL
        have hR : R = false := HS.out
        obtain ⟨rfl, rfl⟩ := NO.out hR
        subst hR
        clear P3 P4 HS NO YES hA2 HO HROW
        go_wp2
        go_ret3
        exact ⟨rfl, hB2⟩
      · have hl0 : 0 < L.length := List.length_pos_iff.2 hL
        obtain ⟨i, hki, hil, hov⟩ := P3.out (by first | rfl | trivial) hL
        have P3' : Hid _ := hov
        obtain ⟨⟨hm0, hm1⟩, hf0, hf1⟩ := P4.out (by first | rfl | trivial)
        have HS' : Hid (R = decide (u ≤ md + lf)) := by show R = _; rw [HS.out]; simp [hL]
        obtain ⟨b4, off4, rfl, hlt4, e0, e1, e2, e3, e4⟩ := (HROW.out.below hB2).at hil
        clear P3 P4 HS hL HROW hov
        obtain ⟨g, c, hsl, hcap⟩ : ∃ g c, Value.slice a2 L.length c2 = .slice (some ⟨g, 0, none⟩) L.length c ∧ L.length ≤ c ∧ c ≤ maxLen := by
          rcases HO.out.2 with ⟨h1, h2⟩ | ⟨g, c, cur, hv, _, _, h1, h2, _⟩
          · exact absurd h2 (by omega)
          · exact ⟨g, c, hv, h1, h2⟩
        cases hsl
        obtain ⟨hi1, hc1, hg1⟩ := GP.ints_one (M5.own_ints HO.out) hl0
        have HI1 : Hid _ := hi1
        have HC1 : Hid _ := hc1
        clear HO hi1 hc1
        rw [hki] at HC1 YES
        clear HI1 hki
        generalize hln : L.length = ln at *
        clear hln
        have h0 : (ln == 0) = false := by simp; omega
        obtain ⟨hlt, c0, c1, c2_, c3, c4, c5, c6, c7, c8, c9⟩ := id hA2
        clear c0 c1 c2_ c4 c6 c7 c8 c9
        have hc1 := HC1.out
        generalize hcc : MI5.at_ xs i = cc at *
        clear hcc
        obtain ⟨x0, x1, x2, x3, x4⟩ := cc
        clear c3 c5 hlt
        go_wp2_with fail
        refine (P3'.out _).mono ?_
        rintro e w3 ⟨rfl, hb3⟩
        clear P3' e0 e1 e2 e3 e4
        have hc4 : w3.cell? ⟨g, 0, none⟩ = some (.int .i64 (i : Int)) := (hb3.cell (p := ⟨g, 0, none⟩) hg1).trans HC1.out
        have hg4 := Nat.lt_of_lt_of_le hg1 hb3.size
        have hA3 := hA2.below hb3 hA2.1
        have hB3 := hB2.trans (hb3.mono hB2.size)
        clear hb3 hA2 hB2 HC1 hc1 hg1
        obtain ⟨hlt, c0, c1, c2_, c3, c4, c5, c6, c7, c8, c9⟩ := id hA3
        clear c0 c1 c2_ c4 c6 c7 c8 c9 hA3
        by_cases hu : u ≤ md + lf
        · have hR : R = true := by rw [HS'.out]; simp [hu]
          obtain ⟨hk, hT⟩ := YES.out hR
          have hd : decide (md + lf < u) = false := by simp; omega
          subst hR
          subst hT
          subst hk
          clear NO YES HS'
          go_wp2
          go_ret3
          exact ⟨rfl, hB3⟩
        · have hR : R = false := by rw [HS'.out]; simp; omega
          have hd : decide (md + lf < u) = true := by simp; omega
          obtain ⟨rfl, rfl⟩ := NO.out hR
          subst hR
          clear NO YES HS'
          go_wp2
          go_ret3
          exact ⟨rfl, hB3⟩
end Go.Proofs.Ytlkioijpdlalhaa

/- Going on by the plan, step by step: plain facts. -/
namespace Go.Proofs.Ytlkioijpdlalhaa
open Go.RowKit
namespace GP
open PN FL
/-- From a node and a time on, so many steps at most; what was gone is kept. -/
def fol (xs : List I5) (b : Bd) (t : Int) : Nat → List Int → Int → Int → Option (List Int × Int)
  | 0, _, _, _ => none
  | f + 1, os, v, n => if v = t then some (os, n) else if stepOk xs b v n t = true then fol xs b t f (os ++ [stepK xs b v n t]) (ofN xs (stepK xs b v n t)).a1 (stepT xs b v n t) else none
def folA (xs : List I5) (b : Bd) (t : Int) : Option (List Int × Int) := if fitsB xs b = true then fol xs b t 21 [] b.fr b.md else none
def folL : Option (List Int × Int) → List Int
  | some (os, _) => os
  | none => []
def folN : Option (List Int × Int) → Int
  | some (_, n) => n
  | none => 0
theorem fol_end {xs : List I5} {b : Bd} {t : Int} (f : Nat) (os : List Int) (n : Int) : fol xs b t (f + 1) os t n = some (os, n) := by simp [fol]
theorem fol_stop {xs : List I5} {b : Bd} {t : Int} {f : Nat} {os : List Int} {v n : Int} (hv : v ≠ t) (h : stepOk xs b v n t = false) : fol xs b t (f + 1) os v n = none := by simp [fol, hv, h]
theorem fol_full {xs : List I5} {b : Bd} {t : Int} {os : List Int} {v n : Int} (hv : v ≠ t) : fol xs b t 1 os v n = none := by simp [fol, hv]
theorem fol_step {xs : List I5} {b : Bd} {t : Int} {f : Nat} {os : List Int} {v n : Int} (hv : v ≠ t) (h : stepOk xs b v n t = true) : fol xs b t (f + 1) os v n = fol xs b t f (os ++ [stepK xs b v n t]) (ofN xs (stepK xs b v n t)).a1 (stepT xs b v n t) := by simp [fol, hv, h]
theorem fol_len {xs : List I5} {b : Bd} {t : Int} : ∀ (f : Nat) (os : List Int) (v n : Int), (folL (fol xs b t f os v n)).length ≤ os.length + f
  | 0, os, _, _ => by simp [fol, folL]
  | f + 1, os, v, n => by
    rw [fol]
    split
    · simp [folL]
    · split
      · have := fol_len (xs := xs) (b := b) (t := t) f (os ++ [stepK xs b v n t]) (ofN xs (stepK xs b v n t)).a1 (stepT xs b v n t)
        simp only [List.length_append, List.length_singleton] at this
        omega
      · simp [folL]
theorem folA_len (xs : List I5) (b : Bd) (t : Int) : (folL (folA xs b t)).length ≤ 1048576 := by
  unfold folA
  split
  · have := fol_len (xs := xs) (b := b) (t := t) 21 [] b.fr b.md
    simp only [List.length_nil] at this
    omega
  · simp [folL]
theorem folA_no {xs : List I5} {b : Bd} {t : Int} (h : fitsB xs b = false) : folA xs b t = none := by simp [folA, h]
theorem folA_yes {xs : List I5} {b : Bd} {t : Int} (h : fitsB xs b = true) : fol xs b t 21 [] b.fr b.md = folA xs b t := by simp [folA, h]
/-- Nothing leads to what is no node. -/
theorem folA_node {xs : List I5} {b : Bd} {t : Int} (h : nodeOk t = false) : folA xs b t = none := by
  unfold folA
  split
  · next hf =>
    obtain ⟨_, _, _, hn, _⟩ := fits_is hf
    have ht : ¬ (0 ≤ t ∧ t ≤ 7) := by simpa [nodeOk] using h
    have hs : stepOk xs b b.fr b.md t = false := by
      have ha : askOk xs b.fr b.md t = false := by
        unfold askOk
        rw [decide_eq_false ht, Bool.and_false]
      unfold stepOk
      rw [route_no ha]
      simp [tellB]
    exact fol_stop (f := 20) (fun e => ht (e ▸ hn)) hs
  · rfl
/-- The contact of a step is one of the plan. -/
theorem step_in {xs : List I5} {b : Bd} {f n t : Int} (h : stepOk xs b f n t = true) : ∃ i : Nat, stepK xs b f n t = (i : Int) ∧ i < xs.length := by
  have hk := (step_yes h).1
  simp only [stepOk, Bool.and_eq_true, decide_eq_true_eq] at h
  obtain ⟨_, _, ⟨h0, h1⟩, _⟩ := first_of h.1.1.2 h.1.2
  exact ⟨(stepK xs b f n t).toNat, by rw [hk]; omega, by rw [hk]; omega⟩
end GP
end Go.Proofs.Ytlkioijpdlalhaa

/- FollowPlan, the specification's. -/
namespace Go.Proofs.Ytlkioijpdlalhaa
open Go.RowKit
set_option linter.unusedSimpArgs false in
set_option maxHeartbeats 3200000 in
set_option maxRecDepth 100000 in
theorem folS_any (a : Option Addr) (cap : Nat) (xs : List I5) (b : Bd) (t : Int) (w : World) (hn : xs.length ≤ 1048576) (hs : b.py.size ≤ 1048576) (hin : MI5.RowAt w a xs) :
    Calls Try.prog 12 #[.slice a xs.length cap, b.v, .int .i64 t] w fun e w' => ∃ a1 c1, e = .returned (.tuple #[.slice a1 (GP.folL (GP.folA xs b t)).length c1, .int .i64 (GP.folN (GP.folA xs b t)), .bool (GP.folA xs b t).isSome]) ∧ w'.ownsRow w.heap.size 3 1 (.slice a1 (GP.folL (GP.folA xs b t)).length c1) (GP.folL (GP.folA xs b t)).length (M4.iv (GP.folL (GP.folA xs b t))) ∧ Below w.heap.size w w' := by
  obtain ⟨i0, hi, hz0, hz1, hz2⟩ := info_parts Try.info3
  have P1 : Hid (∀ W : World, Below w.heap.size w W → Calls Try.prog 18 #[.slice a xs.length cap, b.v] W fun e w' => e = .returned (.bool (GP.fitsB xs b)) ∧ Below W.heap.size W w') := fun W h => fitsS_any a cap xs b W hn hs (hin.below h)
  have P2 : Hid (∀ W : World, Calls Try.prog 27 #[.int .i64 t] W fun e w' => e = .returned (.bool (PN.nodeOk t)) ∧ W = w') := fun W => nodeS_any t W
  have P3 : Hid (∀ (v n : Int) (W : World), Below w.heap.size w W → Calls Try.prog 7 #[.slice a xs.length cap, b.v, .int .i64 v, .int .i64 n, .int .i64 t] W fun e w' => e = .returned (.tuple #[.int .i64 (GP.stepK xs b v n t), .int .i64 (GP.stepT xs b v n t), .bool (GP.stepOk xs b v n t)]) ∧ Below W.heap.size W w') := fun v n W h => stepS_any a cap xs b v n t W hn hs (hin.below h)
  have HROW : Hid (MI5.RowAt w a xs) := hin
  obtain ⟨AR, hA⟩ : ∃ AR, GP.folA xs b t = AR := ⟨_, rfl⟩
  have N1 : Hid (GP.fitsB xs b = false → AR = none) := fun h => by rw [← hA]; exact GP.folA_no h
  have N2 : Hid (PN.nodeOk t = false → AR = none) := fun h => by rw [← hA]; exact GP.folA_node h
  have Y1 : Hid (GP.fitsB xs b = true → GP.fol xs b t 21 [] b.fr b.md = AR) := fun h => by rw [← hA]; exact GP.folA_yes h
  rw [hA]
  obtain ⟨L, hL⟩ : ∃ L, GP.folL AR = L := ⟨_, rfl⟩
  obtain ⟨N, hN⟩ : ∃ N, GP.folN AR = N := ⟨_, rfl⟩
  obtain ⟨T, hT⟩ : ∃ T, AR.isSome = T := ⟨_, rfl⟩
  rw [hL, hN, hT]
  have NO : Hid (AR = none → L = [] ∧ N = 0 ∧ T = false) := fun h => by subst h; exact ⟨hL.symm, hN.symm, hT.symm⟩
  have YES : Hid (∀ os n, some (os, n) = AR → L = os ∧ N = n ∧ T = true) := fun os n h => by subst h; exact ⟨hL.symm, hN.symm, hT.symm⟩
  clear hin hA hL hN hT
  have GE : Hid (∀ (f : Nat) (os : List Int) (v n : Int), v = t → GP.fol xs b t (f + 1) os v n = AR → some (os, n) = AR) := fun f os v n hv h => by subst hv; rw [← h, GP.fol_end]
  have GS : Hid (∀ (f : Nat) (os : List Int) (v n : Int), v ≠ t → GP.stepOk xs b v n t = false → GP.fol xs b t (f + 1) os v n = AR → AR = none) := fun f os v n hv h1 h => by rw [← h, GP.fol_stop hv h1]
  have GF : Hid (∀ (os : List Int) (v n : Int), v ≠ t → GP.fol xs b t 1 os v n = AR → AR = none) := fun os v n hv h => by rw [← h, GP.fol_full hv]
  have GN : Hid (∀ (f : Nat) (os : List Int) (v n : Int), v ≠ t → GP.stepOk xs b v n t = true → GP.fol xs b t (f + 1) os v n = AR → ∃ i : Nat, GP.stepK xs b v n t = (i : Int) ∧ i < xs.length ∧ GP.fol xs b t f (os ++ [(i : Int)]) (MI5.at_ xs i).a1 (GP.stepT xs b v n t) = AR) := fun f os v n hv h1 h => by
    obtain ⟨i, h2, h3⟩ := GP.step_in h1
    refine ⟨i, h2, h3, ?_⟩
    rw [GP.fol_step hv h1, h2] at h
    exact h
  have BA := BdAt.box w b 31
  have BB := (Below.refl _ w).alloc (Nat.le_refl _) (.cells #[.int .i64 b.fr, .int .i64 b.to, .bool b.gr, .int .i64 b.md, .int .i64 b.no, .int .i64 b.lf, .int .i64 b.hp, .int .i64 b.of, .int .i64 b.tl, .string b.py] 31)
  generalize GP.fol xs b t = FO at *
  generalize hst : (fun v n => GP.stepOk xs b v n t) = SO at *
  have e1 : ∀ v n, GP.stepOk xs b v n t = SO v n := fun v n => by rw [← hst]
  clear hst
  simp only [e1] at P3 GS GN
  clear e1
  generalize hst : (fun v n => GP.stepT xs b v n t) = ST at *
  have e1 : ∀ v n, GP.stepT xs b v n t = ST v n := fun v n => by rw [← hst]
  clear hst
  simp only [e1] at P3 GS GN
  clear e1
  generalize hst : (fun v n => GP.stepK xs b v n t) = SK at *
  have e1 : ∀ v n, GP.stepK xs b v n t = SK v n := fun v n => by rw [← hst]
  clear hst
  simp only [e1] at P3 GS GN
  clear e1
  generalize GP.fitsB xs b = q1 at *
  generalize PN.nodeOk t = q2 at *
  obtain ⟨fr, to, gr, md, no, lf, hp, of, tl, py⟩ := b
  obtain ⟨hlt, c0, c1, c2, c3, c4, c5, c6, c7, c8, c9⟩ := id BA
  go_enter Try.func12, Try.ntmps12
  go_wp2_with fail
  refine (P1.out _ BB).mono ?_
  rintro e w1 ⟨rfl, hb1⟩
  clear c0 c1 c2 c3 c4 c5 c6 c7 c8 c9 hlt P1
  have BA1 := BA.below hb1 BA.1
  have BB1 := BB.trans (hb1.mono BB.size)
  clear hb1 BA BB
  cases q1 with
  | false =>
    obtain ⟨rfl, rfl, rfl⟩ := NO.out (N1.out rfl)
    clear P2 P3 HROW N1 N2 Y1 NO YES GE GS GF GN BA1
    go_wp2
    go_ret3
    exact ⟨none, 0, rfl, World.ownsRow_nil _ _ _ _, BB1⟩
  | true =>
    go_wp2_with fail
    refine (P2.out _).mono ?_
    rintro e w' ⟨rfl, rfl⟩
    clear P2
    cases q2 with
    | false =>
      obtain ⟨rfl, rfl, rfl⟩ := NO.out (N2.out rfl)
      clear P3 HROW N1 N2 Y1 NO YES GE GS GF GN BA1
      go_wp2
      go_ret3
      exact ⟨none, 0, rfl, World.ownsRow_nil _ _ _ _, BB1⟩
    | true =>
      have HST : Hid _ := Y1.out (by first | rfl | trivial)
      clear Y1 N1 N2
      obtain ⟨hlt, c0, c1, c2, c3, c4, c5, c6, c7, c8, c9⟩ := id BA1
      go_wp2
      clear c0 c1 c2 c3 c4 c5 c6 c7 c8 c9 hlt
      go_loopw [9, 10, 11, 12, 13, 14] (fun vv nn u _ _ _ wr => ∃ (os : List Int) (v n : Int), vv = .int .i64 v ∧ nn = .int .i64 n ∧ os.length ≤ 20 ∧ Hid (FO (21 - os.length) os v n = AR) ∧ Hid (wr.ownsRow w1.heap.size 3 1 u os.length (M4.iv os)) ∧ Below w1.heap.size w1 wr) (fun _ _ u _ _ _ _ => 21 - PN.lenV u)
      case atStart => exact ⟨[], fr, md, rfl, rfl, by simp, HST, World.ownsRow_nil _ _ _ _, Below.refl _ _⟩
      case round =>
        obtain ⟨os, v, n, rfl, rfl, hol, hF, hO, hb⟩ := hrel
        have hbs := hb.size
        have BA2 := BA1.below hb BA1.1
        have BB2 := BB1.trans (hb.mono BB1.size)
        obtain ⟨a2, ca2, rfl, -⟩ := M5.own_view hO.out
        obtain ⟨f, hf⟩ : ∃ f, 21 - os.length = f + 1 := ⟨20 - os.length, by omega⟩
        rw [hf] at hF
        have HFF : Hid (21 - os.length = f + 1) := hf
        clear hf HST
        by_cases hv : v = t
        · obtain ⟨rfl, rfl, rfl⟩ := YES.out _ _ (GE.out f os v n hv hF.out)
          subst hv
          have HO1 := TR.own_mono hO.out BB1.size
          clear P3 HROW NO YES GE GS GF GN BA1 BA2 hF hO HFF
          go_wp2
          go_ret3
          exact ⟨a2, ca2, rfl, HO1, BB2⟩
        · have hne : (v != t) = true := by simp [hv]
          have GS1 : Hid _ := fun h => GS.out f os v n hv h hF.out
          have GN1 : Hid _ := fun h => GN.out f os v n hv h hF.out
          have GF1 : Hid (os.length = 20 → AR = none) := fun h => GF.out os v n hv (by obtain rfl : f = 0 := (by have := HFF.out; omega); exact hF.out)
          have P3' : Hid (Calls _ _ _ _ _) := P3.out v n _ BB2
          clear P3 GS GN GF GE hF
          generalize SO v n = q at *
          generalize SK v n = kk at *
          generalize ST v n = tt at *
          generalize hoo : os.length = ol at *
          have HOL : Hid (os.length = ol) := hoo
          clear hoo
          obtain ⟨hlt, c0, c1, c2, c3, c4, c5, c6, c7, c8, c9⟩ := id BA2
          go_wp2_with fail
          refine Calls.mono P3'.out ?_
          rintro e w2 ⟨rfl, hb2⟩
          clear c0 c1 c2 c3 c4 c5 c6 c7 c8 c9 hlt P3' BA2
          have hb3 := hb.trans (hb2.mono hbs)
          have hbs3 := hb3.size
          have BB3 := BB2.trans (hb2.mono BB2.size)
          have HO2 : Hid _ := M5.own_below hO.out hb2
          clear hb hb2 hO BB2 hbs
          cases q with
          | false =>
            obtain ⟨rfl, rfl, rfl⟩ := NO.out (GS1.out rfl)
            clear HROW NO YES GS1 GN1 GF1 HO2 BA1 BB1 HOL HFF
            go_wp2
            go_ret3
            exact ⟨none, 0, rfl, World.ownsRow_nil _ _ _ _, BB3⟩
          | true =>
            by_cases h20 : ol = 20
            · obtain ⟨rfl, rfl, rfl⟩ := NO.out (GF1.out h20)
              subst h20
              clear HROW NO YES GS1 GN1 GF1 HO2 BA1 BB1 HOL HFF
              go_wp2
              go_ret3
              exact ⟨none, 0, rfl, World.ownsRow_nil _ _ _ _, BB3⟩
            · have h20b : (ol == 20) = false := by simp; omega
              obtain ⟨i, rfl, hil, hFN⟩ := GN1.out (by first | rfl | trivial)
              have HFN : Hid _ := hFN
              clear hFN GS1 GN1 GF1 BB3
              go_wp2_with (at_builtin; (refine wpList_append_own _ rfl _ _ 35 rfl w1.heap.size 3 i0 (.int .i64 0) 1 8 Try.underlying35 hi hz0 hz1 hz2 rfl (by decide) _ _ _ rfl (World.ownsRow.alloc HO2.out _) ⟨w2.heap.size, 0, none⟩ 1 1 [.int .i64 (i : Int)] rfl rfl ?c1 ?c2 ?c3 ?c4 ?c5 ?_))
              all_goals try (first | rfl | omega | exact M2.new1 _ _ _ | exact M2.one1 _ _ | (unfold maxLen; omega) | (simp; omega))
              intro v' w6 hown1 hgrow _
              have hb6 : Below w1.heap.size w1 w6 := (hb3.alloc hbs3 _).grown hgrow (by simp; omega) (fun j hj => (World.ownsRow.lt HO2.out j hj).1)
              have HT6 : Hid (w6.ownsRow w1.heap.size 3 1 v' (os ++ [(i : Int)]).length (M4.iv (os ++ [(i : Int)]))) :=
                TR.own_snoc (by rw [HOL.out]; exact hown1) rfl
              have BB6 := BB1.trans (hb6.mono BB1.size)
              obtain ⟨b4, off4, rfl, hlt4, -, e1, -⟩ := (HROW.out.below BB6).at hil
              obtain ⟨a6, c6, rfl, -⟩ := M5.own_view HT6.out
              have hll : (os ++ [(i : Int)]).length = ol + 1 := by rw [List.length_append, HOL.out]; rfl
              have HLL : Hid _ := hll
              have hf2 : 21 - (os ++ [(i : Int)]).length = f := by rw [hll]; have := HFF.out; omega
              have HFF2 : Hid (FO (21 - (os ++ [(i : Int)]).length) (os ++ [(i : Int)]) (MI5.at_ xs i).a1 tt = AR) := by rw [hf2]; exact HFN.out
              generalize (MI5.at_ xs i).a1 = vv at *
              have HL2 : Hid ((os ++ [(i : Int)]).length ≤ 20) := by show _ ≤ _; rw [hll]; omega
              clear hown1 hgrow HO2 hb3 HFF HFN hll hf2 BB1
              generalize hzz : (os ++ [(i : Int)]) = zz at *
              clear hzz
              go_wp2
              go_roundw
              case rel => exact ⟨zz, vv, tt, rfl, rfl, HL2.out, HFF2, HT6, hb6⟩
              case measure => have := HLL.out; simp [PN.lenV]; omega
end Go.Proofs.Ytlkioijpdlalhaa

/- ForwardStep, the program's. -/
namespace Go.Proofs.Ytlkioijpdlalhaa
open Go.RowKit
set_option linter.unusedSimpArgs false in
set_option maxHeartbeats 1600000 in
set_option maxRecDepth 100000 in
theorem stepI_any (a : Option Addr) (cap : Nat) (xs : List I5) (b : Bd) (f n t : Int) (w : World) (hn : xs.length ≤ 1048576) (hs : b.py.size ≤ 1048576) (hin : MI5.RowAt w a xs) :
    Calls Try.prog 10 #[.slice a xs.length cap, b.v, .int .i64 f, .int .i64 n, .int .i64 t] w fun e w' => e = .returned (.tuple #[.int .i64 (GP.stepK xs b f n t), .int .i64 (GP.stepT xs b f n t), .bool (GP.stepOk xs b f n t)]) ∧ Below w.heap.size w w' := by
  have P1 : Hid (∀ W : World, Below w.heap.size w W → Calls Try.prog 22 #[.slice a xs.length cap, b.v] W fun e w' => e = .returned (.bool (GP.fitsB xs b)) ∧ Below W.heap.size W w') := fun W h => fitsI_any a cap xs b W hn hs (hin.below h)
  have P2 : Hid (∀ W : World, Below w.heap.size w W → Calls Try.prog 23 #[.slice a xs.length cap, .int .i64 f, .int .i64 n, .int .i64 t] W fun e w' => ∃ a1 c1, e = .returned (.tuple #[.slice a1 (PN.routeL xs f n t).length c1, .int .i64 (PN.tellN (PN.routeM xs f n t)), .bool (PN.tellB (PN.routeM xs f n t))]) ∧ w'.ownsRow W.heap.size 3 1 (.slice a1 (PN.routeL xs f n t).length c1) (PN.routeL xs f n t).length (M4.iv (PN.routeL xs f n t)) ∧ Below W.heap.size W w') := fun W h => implRoute_any a cap xs f n t W hn (hin.below h)
  have P3 : Hid (PN.tellB (PN.routeM xs f n t) = true → PN.routeL xs f n t ≠ [] → ∀ (W : World) (g c : Nat), Below w.heap.size w W → M4.IntsAt W (some ⟨g, 0, none⟩) [(PN.routeL xs f n t).getD 0 0] → Calls Try.prog 24 #[.slice a xs.length cap, .int .i64 f, .int .i64 n, .slice (some ⟨g, 0, none⟩) 1 c] W fun e w' => e = .returned (.tuple #[.int .i64 (PN.ov (PN.ofN xs ((PN.routeL xs f n t).getD 0 0)) n), .bool true]) ∧ Below W.heap.size W w') := fun h1 h2 W g c hb hi => by
    have h := implArrive_any a (some ⟨g, 0, none⟩) cap c xs f n [(PN.routeL xs f n t).getD 0 0] W hn (by simp) (hin.below hb) hi
    rw [(GP.first_of h1 h2).2.2.2.2.2] at h
    exact h
  have P4 : Hid (GP.fitsB xs b = true → ∀ W : World, Calls Try.prog 25 #[b.v] W fun e w' => e = .returned (.int .i64 (b.md + b.lf)) ∧ Below W.heap.size W w') := fun h W => by
    obtain ⟨_, _, _, _, h1, h2, _⟩ := GP.fits_is h
    exact lastTime_any b W h1 h2
  have HS : Hid (GP.stepOk xs b f n t = (GP.fitsB xs b && PN.tellB (PN.routeM xs f n t) && decide (PN.routeL xs f n t ≠ []) && decide (PN.ov (PN.ofN xs ((PN.routeL xs f n t).getD 0 0)) n ≤ b.md + b.lf))) := show GP.stepOk xs b f n t = _ from rfl
  have NO : Hid (GP.stepOk xs b f n t = false → GP.stepK xs b f n t = 0 ∧ GP.stepT xs b f n t = 0) := fun h => GP.step_no h
  have YES : Hid (GP.stepOk xs b f n t = true → GP.stepK xs b f n t = (PN.routeL xs f n t).getD 0 0 ∧ GP.stepT xs b f n t = PN.ov (PN.ofN xs ((PN.routeL xs f n t).getD 0 0)) n) := fun h => GP.step_yes h
  have hA := BdAt.box w b 31
  have hB := (Below.refl _ w).alloc (Nat.le_refl _) (.cells #[.int .i64 b.fr, .int .i64 b.to, .bool b.gr, .int .i64 b.md, .int .i64 b.no, .int .i64 b.lf, .int .i64 b.hp, .int .i64 b.of, .int .i64 b.tl, .string b.py] 31)
  clear hin
  generalize GP.stepOk xs b f n t = R at *
  generalize GP.stepK xs b f n t = RK at *
  generalize GP.stepT xs b f n t = RT at *
  generalize PN.ov (PN.ofN xs ((PN.routeL xs f n t).getD 0 0)) n = u at *
  generalize GP.fitsB xs b = q1 at *
  generalize PN.tellB (PN.routeM xs f n t) = T at *
  generalize PN.tellN (PN.routeM xs f n t) = N at *
  generalize PN.routeL xs f n t = L at *
  generalize hml : b.md + b.lf = ml at *
  generalize xs.length = m at *
  obtain ⟨fr, to, gr, md, no, lf, hp, of, tl, py⟩ := b
  obtain ⟨hlt, c0, c1, c2, c3, c4, c5, c6, c7, c8, c9⟩ := id hA
  clear hml
  go_enter Try.func10, Try.ntmps10
  go_wp2_with fail
  refine (P1.out _ hB).mono ?_
  rintro e w1 ⟨rfl, hb1⟩
  clear c0 c1 c2 c3 c4 c5 c6 c7 c8 c9 hlt P1
  have hA1 := hA.below hb1 hA.1
  have hB1 := hB.trans (hb1.mono hB.size)
  clear hb1 hA hB
  cases q1 with
  | false =>
    have hR : R = false := HS.out
    obtain ⟨rfl, rfl⟩ := NO.out hR
    subst hR
    clear P2 P3 P4 HS NO YES hA1
    go_wp2
    go_ret3
    exact ⟨rfl, hB1⟩
  | true =>
    go_wp2_with fail
    refine (P2.out _ hB1).mono ?_
    rintro e w2 ⟨a2, c2, rfl, ho, hb2⟩
    have HO : Hid _ := ho
    clear P2 ho
    have hA2 := hA1.below hb2 hA1.1
    have hB2 := hB1.trans (hb2.mono hB1.size)
    clear hb2 hA1 hB1
    cases T with
    | false =>
      have hR : R = false := HS.out
      obtain ⟨rfl, rfl⟩ := NO.out hR
      subst hR
      clear P3 P4 HS NO YES hA2 HO
      go_wp2
      go_ret3
      exact ⟨rfl, hB2⟩
    | true =>
      by_cases hL : L = []
      · subst hL
        have hR : R = false := HS.out
        obtain ⟨rfl, rfl⟩ := NO.out hR
        subst hR
        clear P3 P4 HS NO YES hA2 HO
        go_wp2
        go_ret3
        exact ⟨rfl, hB2⟩
      · have hl0 : 0 < L.length := List.length_pos_iff.2 hL
        have P3' : Hid _ := P3.out (by first | rfl | trivial) hL
        have P4' : Hid _ := P4.out (by first | rfl | trivial)
        have HS' : Hid (R = decide (u ≤ ml)) := by show R = _; rw [HS.out]; simp [hL]
        clear P3 P4 HS hL
        obtain ⟨g, c, hsl, hcap⟩ : ∃ g c, Value.slice a2 L.length c2 = .slice (some ⟨g, 0, none⟩) L.length c ∧ L.length ≤ c ∧ c ≤ maxLen := by
          rcases HO.out.2 with ⟨h1, h2⟩ | ⟨g, c, cur, hv, _, _, h1, h2, _⟩
          · exact absurd h2 (by omega)
          · exact ⟨g, c, hv, h1, h2⟩
        cases hsl
        obtain ⟨hi1, hc1, hg1⟩ := GP.ints_one (M5.own_ints HO.out) hl0
        have HI1 : Hid _ := hi1
        have HC1 : Hid _ := hc1
        clear HO hi1 hc1
        generalize L.getD 0 0 = k at *
        generalize hln : L.length = ln at *
        clear hln
        have h1c : 1 ≤ c2 := by omega
        have h0 : (ln == 0) = false := by simp; omega
        obtain ⟨hlt, c0, c1, c2_, c3, c4, c5, c6, c7, c8, c9⟩ := id hA2
        clear c0 c1 c2_ c3 c4 c5 c6 c7 c8 c9 hlt
        go_wp2_with fail
        refine (P3'.out _ g _ hB2 HI1.out).mono ?_
        rintro e w3 ⟨rfl, hb3⟩
        clear P3' HI1
        have HC3 : Hid (w3.cell? ⟨g, 0, none⟩ = some (.int .i64 k)) := (hb3.cell (p := ⟨g, 0, none⟩) hg1).trans HC1.out
        have hg3 := Nat.lt_of_lt_of_le hg1 hb3.size
        have hA3 := hA2.below hb3 hA2.1
        have hB3 := hB2.trans (hb3.mono hB2.size)
        clear hb3 hA2 hB2 HC1 hg1
        obtain ⟨hlt, c0, c1, c2_, c3, c4, c5, c6, c7, c8, c9⟩ := id hA3
        go_wp2_with fail
        refine (P4'.out _).mono ?_
        rintro e w4 ⟨rfl, hb4⟩
        clear c0 c1 c2_ c3 c4 c5 c6 c7 c8 c9 hlt P4'
        have hc4 : w4.cell? ⟨g, 0, none⟩ = some (.int .i64 k) := (hb4.cell (p := ⟨g, 0, none⟩) hg3).trans HC3.out
        have hg4 := Nat.lt_of_lt_of_le hg3 hb4.size
        have hB4 := hB3.trans (hb4.mono hB3.size)
        clear hb4 hA3 hB3 HC3
        by_cases hu : u ≤ ml
        · have hR : R = true := by rw [HS'.out]; simp [hu]
          obtain ⟨hk, hT⟩ := YES.out hR
          have hd : decide (ml < u) = false := by simp; omega
          subst hR
          subst hk hT
          clear NO YES HS'
          go_wp2
          go_ret3
          exact ⟨rfl, hB4⟩
        · have hR : R = false := by rw [HS'.out]; simp; omega
          have hd : decide (ml < u) = true := by simp; omega
          obtain ⟨rfl, rfl⟩ := NO.out hR
          subst hR
          clear NO YES HS'
          go_wp2
          go_ret3
          exact ⟨rfl, hB4⟩
end Go.Proofs.Ytlkioijpdlalhaa

/- FollowPlan, the program's. -/
namespace Go.Proofs.Ytlkioijpdlalhaa
open Go.RowKit
set_option linter.unusedSimpArgs false in
set_option maxHeartbeats 3200000 in
set_option maxRecDepth 100000 in
theorem folI_any (a : Option Addr) (cap : Nat) (xs : List I5) (b : Bd) (t : Int) (w : World) (hn : xs.length ≤ 1048576) (hs : b.py.size ≤ 1048576) (hin : MI5.RowAt w a xs) :
    Calls Try.prog 13 #[.slice a xs.length cap, b.v, .int .i64 t] w fun e w' => ∃ a1 c1, e = .returned (.tuple #[.slice a1 (GP.folL (GP.folA xs b t)).length c1, .int .i64 (GP.folN (GP.folA xs b t)), .bool (GP.folA xs b t).isSome]) ∧ w'.ownsRow w.heap.size 3 1 (.slice a1 (GP.folL (GP.folA xs b t)).length c1) (GP.folL (GP.folA xs b t)).length (M4.iv (GP.folL (GP.folA xs b t))) ∧ Below w.heap.size w w' := by
  obtain ⟨i0, hi, hz0, hz1, hz2⟩ := info_parts Try.info3
  have P1 : Hid (∀ W : World, Below w.heap.size w W → Calls Try.prog 22 #[.slice a xs.length cap, b.v] W fun e w' => e = .returned (.bool (GP.fitsB xs b)) ∧ Below W.heap.size W w') := fun W h => fitsI_any a cap xs b W hn hs (hin.below h)
  have P3 : Hid (∀ (v n : Int) (W : World), Below w.heap.size w W → Calls Try.prog 10 #[.slice a xs.length cap, b.v, .int .i64 v, .int .i64 n, .int .i64 t] W fun e w' => e = .returned (.tuple #[.int .i64 (GP.stepK xs b v n t), .int .i64 (GP.stepT xs b v n t), .bool (GP.stepOk xs b v n t)]) ∧ Below W.heap.size W w') := fun v n W h => stepI_any a cap xs b v n t W hn hs (hin.below h)
  have HROW : Hid (MI5.RowAt w a xs) := hin
  obtain ⟨AR, hA⟩ : ∃ AR, GP.folA xs b t = AR := ⟨_, rfl⟩
  have N1 : Hid (GP.fitsB xs b = false → AR = none) := fun h => by rw [← hA]; exact GP.folA_no h
  have Y1 : Hid (GP.fitsB xs b = true → GP.fol xs b t 21 [] b.fr b.md = AR) := fun h => by rw [← hA]; exact GP.folA_yes h
  rw [hA]
  obtain ⟨L, hL⟩ : ∃ L, GP.folL AR = L := ⟨_, rfl⟩
  obtain ⟨N, hN⟩ : ∃ N, GP.folN AR = N := ⟨_, rfl⟩
  obtain ⟨T, hT⟩ : ∃ T, AR.isSome = T := ⟨_, rfl⟩
  rw [hL, hN, hT]
  have NO : Hid (AR = none → L = [] ∧ N = 0 ∧ T = false) := fun h => by subst h; exact ⟨hL.symm, hN.symm, hT.symm⟩
  have YES : Hid (∀ os n, some (os, n) = AR → L = os ∧ N = n ∧ T = true) := fun os n h => by subst h; exact ⟨hL.symm, hN.symm, hT.symm⟩
  clear hin hA hL hN hT
  have GE : Hid (∀ (f : Nat) (os : List Int) (v n : Int), v = t → GP.fol xs b t (f + 1) os v n = AR → some (os, n) = AR) := fun f os v n hv h => by subst hv; rw [← h, GP.fol_end]
  have GS : Hid (∀ (f : Nat) (os : List Int) (v n : Int), v ≠ t → GP.stepOk xs b v n t = false → GP.fol xs b t (f + 1) os v n = AR → AR = none) := fun f os v n hv h1 h => by rw [← h, GP.fol_stop hv h1]
  have GF : Hid (∀ (os : List Int) (v n : Int), v ≠ t → GP.fol xs b t 1 os v n = AR → AR = none) := fun os v n hv h => by rw [← h, GP.fol_full hv]
  have GN : Hid (∀ (f : Nat) (os : List Int) (v n : Int), v ≠ t → GP.stepOk xs b v n t = true → GP.fol xs b t (f + 1) os v n = AR → ∃ i : Nat, GP.stepK xs b v n t = (i : Int) ∧ i < xs.length ∧ GP.fol xs b t f (os ++ [(i : Int)]) (MI5.at_ xs i).a1 (GP.stepT xs b v n t) = AR) := fun f os v n hv h1 h => by
    obtain ⟨i, h2, h3⟩ := GP.step_in h1
    refine ⟨i, h2, h3, ?_⟩
    rw [GP.fol_step hv h1, h2] at h
    exact h
  have BA := BdAt.box w b 31
  have BB := (Below.refl _ w).alloc (Nat.le_refl _) (.cells #[.int .i64 b.fr, .int .i64 b.to, .bool b.gr, .int .i64 b.md, .int .i64 b.no, .int .i64 b.lf, .int .i64 b.hp, .int .i64 b.of, .int .i64 b.tl, .string b.py] 31)
  generalize GP.fol xs b t = FO at *
  generalize hst : (fun v n => GP.stepOk xs b v n t) = SO at *
  have e1 : ∀ v n, GP.stepOk xs b v n t = SO v n := fun v n => by rw [← hst]
  clear hst
  simp only [e1] at P3 GS GN
  clear e1
  generalize hst : (fun v n => GP.stepT xs b v n t) = ST at *
  have e1 : ∀ v n, GP.stepT xs b v n t = ST v n := fun v n => by rw [← hst]
  clear hst
  simp only [e1] at P3 GS GN
  clear e1
  generalize hst : (fun v n => GP.stepK xs b v n t) = SK at *
  have e1 : ∀ v n, GP.stepK xs b v n t = SK v n := fun v n => by rw [← hst]
  clear hst
  simp only [e1] at P3 GS GN
  clear e1
  generalize GP.fitsB xs b = q1 at *
  obtain ⟨fr, to, gr, md, no, lf, hp, of, tl, py⟩ := b
  obtain ⟨hlt, c0, c1, c2, c3, c4, c5, c6, c7, c8, c9⟩ := id BA
  go_enter Try.func13, Try.ntmps13
  go_wp2_with fail
  refine (P1.out _ BB).mono ?_
  rintro e w1 ⟨rfl, hb1⟩
  clear c0 c1 c2 c3 c4 c5 c6 c7 c8 c9 hlt P1
  have BA1 := BA.below hb1 BA.1
  have BB1 := BB.trans (hb1.mono BB.size)
  clear hb1 BA BB
  cases q1 with
  | false =>
    obtain ⟨rfl, rfl, rfl⟩ := NO.out (N1.out rfl)
    clear P3 HROW N1 Y1 NO YES GE GS GF GN BA1
    go_wp2
    go_ret3
    exact ⟨none, 0, rfl, World.ownsRow_nil _ _ _ _, BB1⟩
  | true =>
    have HST : Hid _ := Y1.out (by first | rfl | trivial)
    clear Y1 N1
    obtain ⟨hlt, c0, c1, c2, c3, c4, c5, c6, c7, c8, c9⟩ := id BA1
    clear c1 c2 c4 c5 c6 c7 c8 c9 hlt
    go_wp2
    go_region_held3 (fun w' => w'.cell? ⟨w.heap.size, 0, none⟩ = some (.int .i64 fr) ∧ w'.cell? ⟨w.heap.size, 3, none⟩ = some (.int .i64 md)) (go_keep) (fail)
    have OW0 : Hid (((w1.alloc (.cells #[] 3)).drew).ownsRow w1.heap.size 3 1 (.slice (some ⟨w1.heap.size, 0, none⟩) 0 0) ([] : List Int).length (M4.iv [])) := PN.own_lit0 w1 w1.heap.size (Nat.le_refl _)
    have HB0 : Hid (Below w1.heap.size w1 ((w1.alloc (.cells #[] 3)).drew)) := ((Below.refl _ w1).alloc (Nat.le_refl _) _).drew
    generalize Value.slice (some ⟨w1.heap.size, 0, none⟩) 0 0 = v0 at *
    generalize (w1.alloc (.cells #[] 3)).drew = W1 at *
    go_wp2
    go_loopw [9, 10, 11, 12, 13, 14] (fun u vv nn _ _ _ wr => ∃ (os : List Int) (v n : Int), vv = .int .i64 v ∧ nn = .int .i64 n ∧ os.length ≤ 20 ∧ Hid (FO (21 - os.length) os v n = AR) ∧ Hid (wr.ownsRow w1.heap.size 3 1 u os.length (M4.iv os)) ∧ Below w1.heap.size w1 wr) (fun u _ _ _ _ _ _ => 21 - PN.lenV u)
    case atStart => exact ⟨[], fr, md, rfl, rfl, by simp, HST, OW0, HB0.out⟩
    case round =>
      obtain ⟨os, v, n, rfl, rfl, hol, hF, hO, hb⟩ := hrel
      have hbs := hb.size
      have BA2 := BA1.below hb BA1.1
      have BB2 := BB1.trans (hb.mono BB1.size)
      obtain ⟨a2, ca2, rfl, -⟩ := M5.own_view hO.out
      obtain ⟨f, hf⟩ : ∃ f, 21 - os.length = f + 1 := ⟨20 - os.length, by omega⟩
      rw [hf] at hF
      have HFF : Hid (21 - os.length = f + 1) := hf
      clear hf HST
      by_cases hv : v = t
      · obtain ⟨rfl, rfl, rfl⟩ := YES.out _ _ (GE.out f os v n hv hF.out)
        subst hv
        have HO1 := TR.own_mono hO.out BB1.size
        clear P3 HROW NO YES GE GS GF GN BA1 BA2 hF hO HFF
        go_wp2
        go_ret3
        exact ⟨a2, ca2, rfl, HO1, BB2⟩
      · have hne : (v != t) = true := by simp [hv]
        have GS1 : Hid _ := fun h => GS.out f os v n hv h hF.out
        have GN1 : Hid _ := fun h => GN.out f os v n hv h hF.out
        have GF1 : Hid (os.length = 20 → AR = none) := fun h => GF.out os v n hv (by obtain rfl : f = 0 := (by have := HFF.out; omega); exact hF.out)
        have P3' : Hid (Calls _ _ _ _ _) := P3.out v n _ BB2
        clear P3 GS GN GF GE hF
        generalize SO v n = q at *
        generalize SK v n = kk at *
        generalize ST v n = tt at *
        generalize hoo : os.length = ol at *
        have HOL : Hid (os.length = ol) := hoo
        clear hoo
        obtain ⟨hlt, c0, c1, c2, c3, c4, c5, c6, c7, c8, c9⟩ := id BA2
        go_wp2_with fail
        refine Calls.mono P3'.out ?_
        rintro e w2 ⟨rfl, hb2⟩
        clear c0 c1 c2 c3 c4 c5 c6 c7 c8 c9 hlt P3' BA2
        have hb3 := hb.trans (hb2.mono hbs)
        have hbs3 := hb3.size
        have BB3 := BB2.trans (hb2.mono BB2.size)
        have HO2 : Hid _ := M5.own_below hO.out hb2
        clear hb hb2 hO BB2 hbs
        cases q with
        | false =>
          obtain ⟨rfl, rfl, rfl⟩ := NO.out (GS1.out rfl)
          clear HROW NO YES GS1 GN1 GF1 HO2 BA1 BB1 HOL HFF
          go_wp2
          go_ret3
          exact ⟨none, 0, rfl, World.ownsRow_nil _ _ _ _, BB3⟩
        | true =>
          by_cases h20 : ol = 20
          · obtain ⟨rfl, rfl, rfl⟩ := NO.out (GF1.out h20)
            subst h20
            clear HROW NO YES GS1 GN1 GF1 HO2 BA1 BB1 HOL HFF
            go_wp2
            go_ret3
            exact ⟨none, 0, rfl, World.ownsRow_nil _ _ _ _, BB3⟩
          · have h20b : (ol == 20) = false := by simp; omega
            obtain ⟨i, rfl, hil, hFN⟩ := GN1.out (by first | rfl | trivial)
            have HFN : Hid _ := hFN
            clear hFN GS1 GN1 GF1
            obtain ⟨b4, off4, rfl, hlt4, -, e1, -⟩ := HROW.out.at hil
            have hzl := hil
            obtain ⟨zc, hzc0⟩ : ∃ z, (MI5.at_ xs i).a1 = z := ⟨_, rfl⟩
            rw [hzc0] at e1 HFN
            clear hzc0
            have HO2d : Hid ((World.drew w2).ownsRow w1.heap.size 3 1 (.slice a2 ol ca2) ol (M4.iv os)) := HO2.out
            have ii0 : (0 : Int) ≤ (i : Int) := by omega
            have ii1 : (i : Int) < (xs.length : Int) := by omega
            have hS0 : (fun w' => w'.cell? ⟨b4, off4 + i * 5 + 1, none⟩ = some (.int .i64 zc)) (World.drew w2) := ((BB3.drew).cell (p := ⟨b4, off4 + i * 5 + 1, none⟩) hlt4).trans e1
            have hS1 : (fun w' => w'.cell? ⟨b4, off4 + i * 5 + 1, none⟩ = some (.int .i64 zc)) ((World.drew w2).alloc (.cells #[.int .i64 (i : Int)] 3)) := (((BB3.drew).alloc BB3.size _).cell (p := ⟨b4, off4 + i * 5 + 1, none⟩) hlt4).trans e1
            go_wp2
            refine MR.frame fun A hA => ?_
            have hsz : A.tmps.size = 56 := by rw [hA]; rfl
            have e0 : A.eval (.tmp 0) = .slice (some ⟨b4, off4, none⟩) xs.length cap := by rw [hA]; rfl
            have f0 := MR.read (t := 0) (by rw [hsz]; decide) e0
            have e9 : A.eval (.tmp 9) = .slice a2 ol ca2 := by rw [hA]; rfl
            have f9 := MR.read (t := 9) (by rw [hsz]; decide) e9
            have e12 : A.eval (.tmp 12) = .int .i64 (i : Int) := by rw [hA]; rfl
            have f12 := MR.read (t := 12) (by rw [hsz]; decide) e12
            have e13 : A.eval (.tmp 13) = .int .i64 tt := by rw [hA]; rfl
            have f13 := MR.read (t := 13) (by rw [hsz]; decide) e13
            have HA : Hid (A = _) := hA
            clear hA
            have hS : (fun w' => w'.cell? ⟨b4, off4 + i * 5 + 1, none⟩ = some (.int .i64 zc)) (World.drew _) := hS0
            refine wp_region_held (S := fun w' => w'.cell? ⟨b4, off4 + i * 5 + 1, none⟩ = some (.int .i64 zc)) (by kernel_rfl) ?_
            change wpAnyH _ _ _ _ _ _ _ _ (World.drew _)
            refine MR.takeH (i := 0) (some 44) (.slice a2 ol ca2) rfl rfl (by kernel_rfl) (by kernel_rfl) (by kernel_rfl) (fun _ _ _ h => h) hS (MR.free rfl) (fun wq hw => by simp [execOp, MR.ev, MR.size, hsz, e0, f0, e9, f9, e12, f12, e13, f13, go_sem]) ?_
            refine MR.takeH (i := 1) (some 45) (.int .i64 (i : Int)) rfl rfl (by kernel_rfl) (by kernel_rfl) (by kernel_rfl) (fun _ _ _ h => h) hS (MR.free rfl) (fun wq hw => by simp [execOp, MR.ev, MR.size, hsz, e0, f0, e9, f9, e12, f12, e13, f13, go_sem]) ?_
            refine MR.takeH (i := 4) (some 48) (.slice (some ⟨b4, off4, none⟩) xs.length cap) rfl rfl (by kernel_rfl) (by kernel_rfl) (by kernel_rfl) (fun _ _ _ h => h) hS (MR.free rfl) (fun wq hw => by simp [execOp, MR.ev, MR.size, hsz, e0, f0, e9, f9, e12, f12, e13, f13, go_sem]) ?_
            refine MR.takeH (i := 5) (some 49) (.int .i64 (i : Int)) rfl rfl (by kernel_rfl) (by kernel_rfl) (by kernel_rfl) (fun _ _ _ h => h) hS (MR.free rfl) (fun wq hw => by simp [execOp, MR.ev, MR.size, hsz, e0, f0, e9, f9, e12, f12, e13, f13, go_sem]) ?_
            refine MR.takeH (i := 6) (some 50) (.pointer (some ⟨b4, off4 + i * 5, none⟩)) rfl rfl (by kernel_rfl) (by kernel_rfl) (by kernel_rfl) (fun _ _ _ h => h) hS (MR.free rfl) (fun wq hw => by simp [execOp, MR.ev, MR.size, hsz, e0, f0, e9, f9, e12, f12, e13, f13, Try.underlying29, ii0, ii1, go_sem]) ?_
            refine MR.takeH (i := 7) (some 51) (.pointer (some ⟨b4, off4 + i * 5 + 1, none⟩)) rfl rfl (by kernel_rfl) (by kernel_rfl) (by kernel_rfl) (fun _ _ _ h => h) hS (MR.free rfl) (fun wq hw => by simp [execOp, MR.ev, MR.size, hsz, e0, f0, e9, f9, e12, f12, e13, f13, Try.underlying46, go_sem]) ?_
            refine MR.takeH (i := 8) (some 52) (.int .i64 zc) rfl rfl (by kernel_rfl) (by kernel_rfl) (by kernel_rfl) (fun _ _ _ h => h) hS (MR.free rfl) (fun wq hw => by simp [execOp, MR.ev, MR.size, hsz, e0, f0, e9, f9, e12, f12, e13, f13, hw, go_sem]) ?_
            refine MR.takeH (i := 9) (some 53) (.int .i64 tt) rfl rfl (by kernel_rfl) (by kernel_rfl) (by kernel_rfl) (fun _ _ _ h => h) hS (MR.free rfl) (fun wq hw => by simp [execOp, MR.ev, MR.size, hsz, e0, f0, e9, f9, e12, f12, e13, f13, go_sem]) ?_
            refine MR.nowH (w' := (World.drew w2).alloc (.cells #[.int .i64 (i : Int)] 3)) (i := 2) (some 46) (.slice (some ⟨w2.heap.size, 0, none⟩) 1 1) (by kernel_rfl) rfl rfl (MR.free rfl) (by simp [execOp, MR.ev, MR.size, hsz, e0, f0, e9, f9, e12, f12, e13, f13, go_sem]) ⟨hS1, ?_⟩
            obtain ⟨v5, w5, hrun5, hown5, hgrow5, _⟩ := run_append_own (P := Try.prog) (w := (World.drew w2).alloc (.cells #[.int .i64 (i : Int)] 3)) w1.heap.size 35 35 3 i0 (.int .i64 0) 1 8 Try.underlying35 hi hz0 hz1 hz2 rfl (by decide) (.slice a2 ol ca2) ol (M4.iv os) (World.ownsRow.alloc HO2d.out _) ⟨w2.heap.size, 0, none⟩ 1 1 [.int .i64 (i : Int)] rfl (M2.new1 _ _ _) (M2.one1 _ _) (by unfold maxLen; omega) (by omega) (by simp; omega)
            have hb6 : Below w1.heap.size w1 w5 := ((hb3.drew).alloc hbs3 _).grown hgrow5 (by simp; omega) (fun j hj => (World.ownsRow.lt HO2d.out j hj).1)
            have BB6 := BB1.trans (hb6.mono BB1.size)
            have hS5 : (fun w' => w'.cell? ⟨b4, off4 + i * 5 + 1, none⟩ = some (.int .i64 zc)) w5 := (BB6.cell (p := ⟨b4, off4 + i * 5 + 1, none⟩) hlt4).trans e1
            refine MR.nowH (w' := w5) (i := 3) (some 47) v5 (by kernel_rfl) rfl rfl (MR.free rfl) (RA.app_run rfl (by simp [MR.ev, MR.size, hsz, e0, f0, e9, f9, e12, f12, e13, f13]) (by simp [MR.ev, MR.size, hsz, e0, f0, e9, f9, e12, f12, e13, f13]) hrun5) ⟨hS5, ?_⟩
            refine MR.takeH (i := 10) (some 9) (v5) rfl rfl (by kernel_rfl) (by kernel_rfl) (by kernel_rfl) (fun _ _ _ h => h) hS5 (MR.free rfl) (fun wq hw => by simp [execOp, MR.ev, MR.size, hsz, e0, f0, e9, f9, e12, f12, e13, f13, go_sem]) ?_
            refine MR.takeH (i := 11) (some 10) (.int .i64 zc) rfl rfl (by kernel_rfl) (by kernel_rfl) (by kernel_rfl) (fun _ _ _ h => h) hS5 (MR.free rfl) (fun wq hw => by simp [execOp, MR.ev, MR.size, hsz, e0, f0, e9, f9, e12, f12, e13, f13, go_sem]) ?_
            refine MR.takeH (i := 12) (some 11) (.int .i64 tt) rfl rfl (by kernel_rfl) (by kernel_rfl) (by kernel_rfl) (fun _ _ _ h => h) hS5 (MR.free rfl) (fun wq hw => by simp [execOp, MR.ev, MR.size, hsz, e0, f0, e9, f9, e12, f12, e13, f13, go_sem]) ?_
            refine wpAnyH_done (by kernel_rfl) ?_ _
            have HT6 : Hid (w5.ownsRow w1.heap.size 3 1 v5 (os ++ [(i : Int)]).length (M4.iv (os ++ [(i : Int)]))) := TR.own_snoc (by rw [HOL.out]; exact hown5) rfl
            rw [HA.out]
            simp only [Act.put, List.setIfInBounds_toArray, List.set_cons_succ, List.set_cons_zero]
            clear HA hsz e0 f0 e9 f9 e12 f12 e13 f13 hS hS5 hrun5
            clear HO2d hS0 hS1 e1 hlt4 hgrow5 hown5 HROW BB3
            obtain ⟨a6, c6, rfl, -⟩ := M5.own_view HT6.out
            have hll : (os ++ [(i : Int)]).length = ol + 1 := by rw [List.length_append, HOL.out]; rfl
            have HLL : Hid _ := hll
            have hf2 : 21 - (os ++ [(i : Int)]).length = f := by rw [hll]; have := HFF.out; omega
            have HFF2 : Hid (FO (21 - (os ++ [(i : Int)]).length) (os ++ [(i : Int)]) zc tt = AR) := by rw [hf2]; exact HFN.out
            have HL2 : Hid ((os ++ [(i : Int)]).length ≤ 20) := by show _ ≤ _; rw [hll]; omega
            clear HO2 hb3 HFF HFN hll hf2 BB1
            generalize hzz : (os ++ [(i : Int)]) = zz at *
            clear hzz
            go_wp2
            go_roundw
            case rel => exact ⟨zz, zc, tt, rfl, rfl, HL2.out, HFF2, HT6, hb6⟩
            case measure => have := HLL.out; simp [PN.lenV]; omega
end Go.Proofs.Ytlkioijpdlalhaa

/- The law FnExactFollowPlan answers true, whatever the arguments. -/
namespace Go.Proofs.Ytlkioijpdlalhaa
open Go.RowKit
theorem lawFollow_any (a : Option Addr) (cap : Nat) (xs : List I5) (b : Bd) (t : Int) (w : World) (hl : xs.length ≤ maxLen) (hi : MI5.RowAt w a xs) (hp : b.py.size ≤ maxLen) :
    Calls Try.prog 4 #[.slice a xs.length cap, b.v, .int .i64 t] w fun e w' => e = .returned (.bool true) ∧ Below w.heap.size w w' :=
  lawFollowPlan_any a cap xs b t (GP.folL (GP.folA xs b t)) (GP.folA_len xs b t) (GP.folN (GP.folA xs b t)) (GP.folA xs b t).isSome (fun hz hy _ W hr => folS_any _ _ xs b t W hz hy hr) (fun hz hy _ W hr => folI_any _ _ xs b t W hz hy hr) w hl hi hp
end Go.Proofs.Ytlkioijpdlalhaa
