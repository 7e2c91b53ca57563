import Derived.Test.YtpdmbobcbehilaaMB1
import Derived.Test.YtpdmbobcbehilaaMPN
import Derived.Test.YtpdmbobcbehilaaCSmall6
import Derived.Test.YtpdmbobcbehilaaMNR
import Derived.Test.YtpdmbobcbehilaaMRA
import Derived.Laws.IdiomCopy
import Derived.Test.YtpdmbobcbehilaaRows
import Derived.Test.YtpdmbobcbehilaaCPlan
import Derived.Test.YtpdmbobcbehilaaCGoodBundle
import Derived.Test.YtpdmbobcbehilaaCImplGoodB
import Derived.WalkKit
import Derived.WalkSpells
import Derived.WalkLawsBesides
import Derived.Outline
import Derived.Test.YtpdmbobcbehilaaC6Next
import Derived.Deep.RegionHeld3
import Derived.Test.YtpdmbobcbehilaaMRou
import Derived.Test.YtpdmbobcbehilaaMGp
import Derived.Laws.AppendOwn
import Derived.Test.YtpdmbobcbehilaaMInfo
import Derived.Test.YtpdmbobcbehilaaCReverse
import Derived.Test.YtpdmbobcbehilaaCArrS
import Derived.Test.YtpdmbobcbehilaaCFloat
import Derived.Test.YtpdmbobcbehilaaCRouteS
import Derived.Test.YtpdmbobcbehilaaCRise
import Derived.Test.YtpdmbobcbehilaaCInfoRc
import Derived.ArgAppend
import Derived.Lib.SliceRun
import Derived.Test.YtpdmbobcbehilaaCEqIntS
import Derived.Test.YtpdmbobcbehilaaCMarkIn
import Derived.Test.YtpdmbobcbehilaaCMarkIntS
import Derived.Test.YtpdmbobcbehilaaM5
import Derived.Test.YtpdmbobcbehilaaMCur
import Derived.Test.YtpdmbobcbehilaaCBundleLaw
import Derived.Test.YtpdmbobcbehilaaCToIntO
import Derived.Test.YtpdmbobcbehilaaCMarkIntO
import Derived.Test.YtpdmbobcbehilaaCToContact
import Derived.Test.YtpdmbobcbehilaaCEqContact
import Derived.Test.YtpdmbobcbehilaaCMarkContact
import Derived.Test.YtpdmbobcbehilaaCMemb
/- Bundles that fit a plan, plain facts. -/
namespace Go.Proofs.Ytpdmbobcbehilaa
open Go.RowKit
namespace GP
open PN
/-- Whether a bundle fits a plan. -/
def fitsB (xs : List I5) (b : Bd) : Bool := okP xs && B1.good b && decide (b.tl = 0) && nodeOk b.fr && whenOk b.md
theorem fits_is {xs : List I5} {b : Bd} (h : fitsB xs b = true) : okP xs = true ∧ B1.good b = true ∧ b.tl = 0 ∧ (0 ≤ b.fr ∧ b.fr ≤ 7) ∧ (0 ≤ b.md ∧ b.md ≤ 1000) ∧ (1 ≤ b.lf ∧ b.lf ≤ 1000000) ∧ (0 ≤ b.hp ∧ b.hp ≤ 30) := by
  simp only [fitsB, Bool.and_eq_true, decide_eq_true_eq] at h
  obtain ⟨⟨⟨⟨h1, h2⟩, h3⟩, h4⟩, h5⟩ := h
  have hg : B1.head b = true := by simp only [B1.good, Bool.and_eq_true] at h2; exact h2.1.1
  simp only [B1.head, Bool.and_eq_true] at hg
  exact ⟨h1, h2, h3, node_yes h4, when_yes h5, B1.inB_is hg.1.2, B1.inB_is hg.2⟩
end GP
end Go.Proofs.Ytpdmbobcbehilaa

/- Rows of reaches in memory (a number, a time, a row of numbers each): plain facts. -/
namespace Go.Proofs.Ytpdmbobcbehilaa
open Go.RowKit
/-- A reach, and where its row of numbers lies. -/
structure Rq where
  m : Int
  t : Int
  os : List Int
  a : Option Addr
  c : Nat
abbrev Rq.v (p : Rq) : Value := .agg #[.int .i64 p.m, .int .i64 p.t, .slice p.a p.os.length p.c]
abbrev Rq.cs (p : Rq) : List Value := [.int .i64 p.m, .int .i64 p.t, .slice p.a p.os.length p.c]
def Rq.said (p : Rq) : Int × Int × List Int := (p.m, p.t, p.os)
namespace RQ
def flat : List Rq → List Value
  | [] => []
  | p :: ps => p.cs ++ flat ps
def at_ (ps : List Rq) (j : Nat) : Rq := ps.getD j ⟨0, 0, [], none, 0⟩
theorem at_eq {ps : List Rq} {j : Nat} (h : j < ps.length) : at_ ps j = ps[j] := by simp [at_, List.getD_eq_getElem?_getD, List.getElem?_eq_getElem h]
theorem at_mem {ps : List Rq} {j : Nat} (h : j < ps.length) : at_ ps j ∈ ps := by rw [at_eq h]; exact List.getElem_mem h
theorem flat_len : ∀ ps : List Rq, (flat ps).length = ps.length * 3
  | [] => rfl
  | p :: ps => by simp only [flat, List.length_append, flat_len ps, List.length_cons, List.length_nil]; omega
theorem flat_app : ∀ ps qs : List Rq, flat (ps ++ qs) = flat ps ++ flat qs
  | [], qs => rfl
  | p :: ps, qs => by simp only [List.cons_append, flat, flat_app ps qs, List.append_assoc]
theorem flat_get : ∀ (ps : List Rq) (j : Nat), j < ps.length → (flat ps)[j * 3]? = some (.int .i64 (at_ ps j).m) ∧ (flat ps)[j * 3 + 1]? = some (.int .i64 (at_ ps j).t) ∧ (flat ps)[j * 3 + 2]? = some (.slice (at_ ps j).a (at_ ps j).os.length (at_ ps j).c)
  | [], j, h => by simp at h
  | p :: ps, 0, _ => ⟨rfl, rfl, rfl⟩
  | p :: ps, j + 1, h => by
    have ih := flat_get ps j (by simpa using h)
    have e : at_ (p :: ps) (j + 1) = at_ ps j := rfl
    rw [e, show (j + 1) * 3 = j * 3 + 3 by omega]
    exact ih
theorem flat_set3 : ∀ (ps : List Rq) (j : Nat) (q : Rq), j < ps.length → flat (ps.set j q) = ((((flat ps).set (j * 3) (.int .i64 q.m)).set (j * 3 + 1) (.int .i64 q.t)).set (j * 3 + 2) (.slice q.a q.os.length q.c))
  | [], j, _, h => by simp at h
  | p :: ps, 0, q, _ => rfl
  | p :: ps, j + 1, q, h => by
    have ih := flat_set3 ps j q (by simpa using h)
    rw [List.set_cons_succ, show (j + 1) * 3 = j * 3 + 3 by omega]
    show q.cs.take 0 ++ (p.cs ++ flat (ps.set j q)) = _
    rw [ih]; rfl
/-- What lies at a slice's address. -/
structure At (w : World) (a : Option Addr) (ps : List Rq) : Prop where
  is : ps = [] ∨ ∃ b off, a = some ⟨b, off, none⟩ ∧ b < w.heap.size ∧ ∀ j, j < ps.length → w.cell? ⟨b, off + j * 3, none⟩ = some (.int .i64 (at_ ps j).m) ∧ w.cell? ⟨b, off + j * 3 + 1, none⟩ = some (.int .i64 (at_ ps j).t) ∧ w.cell? ⟨b, off + j * 3 + 2, none⟩ = some (.slice (at_ ps j).a (at_ ps j).os.length (at_ ps j).c) ∧ (at_ ps j).os.length ≤ maxLen ∧ M4.IntsAt w (at_ ps j).a (at_ ps j).os
theorem At.below {w w' : World} {a : Option Addr} {ps : List Rq} (h : At w a ps) (hb : Below w.heap.size w w') : At w' a ps := by
  rcases h.is with rfl | ⟨b, off, rfl, hlt, hc⟩
  · exact ⟨.inl rfl⟩
  · refine ⟨.inr ⟨b, off, rfl, Nat.lt_of_lt_of_le hlt hb.size, fun j hj => ?_⟩⟩
    obtain ⟨c0, c1, c2, c3, c4⟩ := hc j hj
    exact ⟨(hb.cell (p := ⟨b, _, none⟩) hlt).trans c0, (hb.cell (p := ⟨b, _, none⟩) hlt).trans c1, (hb.cell (p := ⟨b, _, none⟩) hlt).trans c2, c3, c4.below hb⟩
theorem At.at {w : World} {a : Option Addr} {ps : List Rq} (h : At w a ps) {j : Nat} (hj : j < ps.length) : ∃ b off, a = some ⟨b, off, none⟩ ∧ b < w.heap.size ∧ w.cell? ⟨b, off + j * 3, none⟩ = some (.int .i64 (at_ ps j).m) ∧ w.cell? ⟨b, off + j * 3 + 1, none⟩ = some (.int .i64 (at_ ps j).t) ∧ w.cell? ⟨b, off + j * 3 + 2, none⟩ = some (.slice (at_ ps j).a (at_ ps j).os.length (at_ ps j).c) ∧ (at_ ps j).os.length ≤ maxLen ∧ M4.IntsAt w (at_ ps j).a (at_ ps j).os := by
  rcases h.is with rfl | ⟨b, off, rfl, hlt, hc⟩
  · simp at hj
  · exact ⟨b, off, rfl, hlt, hc j hj⟩
/-- Their rows: each in a block of its own, of the call's. -/
structure Rows (w : World) (B : Nat) (ps : List Rq) : Prop where
  row : ∀ p, p ∈ ps → NR.In w B p.a p.os
  far : ps.Pairwise fun p q => p.os ≠ [] → q.os ≠ [] → p.a ≠ q.a
theorem Rows.nil (w : World) (B : Nat) : Rows w B [] := ⟨fun p h => by simp at h, List.Pairwise.nil⟩
theorem Rows.below {w w' : World} {B : Nat} {ps : List Rq} (h : Rows w B ps) (hb : Below w.heap.size w w') : Rows w' B ps := ⟨fun p hp => (h.row p hp).below hb, h.far⟩
theorem Rows.mono {w : World} {B B' : Nat} {ps : List Rq} (h : Rows w B ps) (hb : B' ≤ B) : Rows w B' ps := ⟨fun p hp => (h.row p hp).mono hb, h.far⟩
theorem Rows.filter {w : World} {B : Nat} {ps : List Rq} (h : Rows w B ps) (f : Rq → Bool) : Rows w B (ps.filter f) := ⟨fun p hp => h.row p (List.mem_filter.1 hp).1, List.Pairwise.filter f h.far⟩
theorem Rows.snoc {w : World} {B : Nat} {ps : List Rq} {q : Rq} (h : Rows w B ps) (hq : NR.In w B q.a q.os) (hf : ∀ p, p ∈ ps → p.os ≠ [] → q.os ≠ [] → p.a ≠ q.a) : Rows w B (ps ++ [q]) := by
  refine ⟨fun p hp => ?_, ?_⟩
  · rcases List.mem_append.1 hp with h1 | h1
    · exact h.row p h1
    · rw [List.mem_singleton.1 h1]; exact hq
  · rw [List.pairwise_append]
    refine ⟨h.far, List.pairwise_singleton _ _, fun p hp r hr => ?_⟩
    rw [List.mem_singleton.1 hr]; exact hf p hp
/-- A block of another type than the rows' is none of theirs. -/
theorem in_ne {T : TypeId} (hT : T ≠ 3) {w : World} {B B' g n cap sz : Nat} {a : Option Addr} {l : List Int} {vs : List Value} (h : NR.In w B a l) (hl : l ≠ []) (ho : w.ownsRow B' T sz (.slice (some ⟨g, 0, none⟩) n cap) n vs) : a ≠ some ⟨g, 0, none⟩ := by
  intro ea
  rcases h.is with e | ⟨g', m, us, ha, hw, _⟩
  · exact hl e
  · rw [ea] at ha
    simp only [Option.some.injEq, Addr.mk.injEq, and_true] at ha
    subst ha
    rcases hw.2 with ⟨h', _⟩ | ⟨g3, cap3, cur3, hv3, _, hg3, _⟩
    · cases h'
    · simp only [Value.slice.injEq, Option.some.injEq, Addr.mk.injEq, and_true] at hv3
      obtain ⟨rfl, _⟩ := hv3
      rcases ho.2 with ⟨h', _⟩ | ⟨g4, cap4, cur4, hv4, _, hg4, _⟩
      · cases h'
      · simp only [Value.slice.injEq, Option.some.injEq, Addr.mk.injEq, and_true] at hv4
        obtain ⟨rfl, _⟩ := hv4
        rw [hg4] at hg3
        simp only [Option.some.injEq, Obj.cells.injEq] at hg3
        exact hT hg3.2.1
/-- What turns one block of another type leaves the rows alone. -/
theorem Rows.only {T : TypeId} (hT : T ≠ 3) {w w' : World} {B B' g n cap sz : Nat} {ps : List Rq} {vs : List Value} (h : Rows w B ps) (ho : w.ownsRow B' T sz (.slice (some ⟨g, 0, none⟩) n cap) n vs) (hO : MC.Only g w w') : Rows w' B ps := by
  refine ⟨fun p hp => ?_, h.far⟩
  by_cases e : p.os = []
  · rw [e]; exact .nil _ _ _
  · exact (h.row p hp).only hO (in_ne hT (h.row p hp) e ho)
/-- Of the call's own: the row and its rows. -/
structure Own (T : TypeId) (w : World) (B : Nat) (v : Value) (ps : List Rq) : Prop where
  out : w.ownsRow B T 3 v ps.length (flat ps)
  rows : Rows w B ps
theorem Own.below {T : TypeId} {w w' : World} {B : Nat} {v : Value} {ps : List Rq} (h : Own T w B v ps) (hb : Below w.heap.size w w') : Own T w' B v ps := ⟨M5.own_below h.out hb, h.rows.below hb⟩
theorem own_mono {w : World} {B B' e sz n : Nat} {v : Value} {xs : List Value} (h : w.ownsRow B e sz v n xs) (hb : B' ≤ B) : w.ownsRow B' e sz v n xs := by
  refine ⟨h.1, ?_⟩
  rcases h.2 with h' | ⟨g', cap, cur, hv, hB, rest⟩
  · exact .inl h'
  · exact .inr ⟨g', cap, cur, hv, by omega, rest⟩
theorem Own.mono {T : TypeId} {w : World} {B B' : Nat} {v : Value} {ps : List Rq} (h : Own T w B v ps) (hb : B' ≤ B) : Own T w B' v ps := ⟨own_mono h.out hb, h.rows.mono hb⟩
theorem Own.at {T : TypeId} {w : World} {B n c : Nat} {a : Option Addr} {ps : List Rq} (h : Own T w B (.slice a n c) ps) : At w a ps := by
  rcases h.out.2 with ⟨h1, h0⟩ | ⟨g, cap, cur, hv, hB, hg, h1, h2, h3, h4⟩
  · exact ⟨.inl (List.eq_nil_of_length_eq_zero h0)⟩
  · have hv' := hv
    simp only [Value.slice.injEq] at hv
    obtain ⟨rfl, rfl, rfl⟩ := hv
    refine ⟨.inr ⟨g, 0, rfl, (h.out.lt g rfl).2, fun j hj => ?_⟩⟩
    obtain ⟨f0, f1, f2⟩ := flat_get ps j hj
    have hr := h.rows.row _ (at_mem hj)
    simp only [Nat.zero_add]
    exact ⟨(h.out.cellAt (j * 3) (by omega)).trans f0, (h.out.cellAt (j * 3 + 1) (by omega)).trans f1, (h.out.cellAt (j * 3 + 2) (by omega)).trans f2, hr.len, hr.ints⟩
theorem Own.view {T : TypeId} {w : World} {B : Nat} {v : Value} {ps : List Rq} (h : Own T w B v ps) : ∃ a c, v = .slice a ps.length c ∧ At w a ps := by
  rcases h.out.2 with ⟨rfl, h0⟩ | ⟨g, cap, cur, rfl, hB, hg, h1, h2, h3, h4⟩
  · exact ⟨none, 0, by rw [h0], ⟨.inl (List.eq_nil_of_length_eq_zero h0)⟩⟩
  · exact ⟨some ⟨g, 0, none⟩, cap, rfl, h.at⟩
theorem Own.nil (T : TypeId) (w : World) (B : Nat) : Own T w B (.slice none 0 0) [] := ⟨World.ownsRow_nil _ _ _ _, Rows.nil _ _⟩
/-- Cells of a row of the call's own are written: what lies ahead of them stays. -/
theorem own_cells {T : TypeId} {g n cap B : Nat} : ∀ (vs : List Value) (o : Nat) (w : World) (cur : List Value), w.ownsRow B T 3 (.slice (some ⟨g, 0, none⟩) n cap) n cur → ∃ cur', (w.setCells g o vs).ownsRow B T 3 (.slice (some ⟨g, 0, none⟩) n cap) n cur' ∧ cur'.take o = cur.take o ∧ MC.Only g w (w.setCells g o vs)
  | [], o, w, cur, h => ⟨cur, h, rfl, MC.Only.refl _ _⟩
  | u :: vs, o, w, cur, h => by
    have st := h.stored o u
    obtain ⟨cur', h1, h2, h3⟩ := own_cells vs (o + 1) (w.setCell ⟨g, o, none⟩ u) _ st.1
    refine ⟨cur', h1, ?_, RA.only_cells g (u :: vs) o w⟩
    have h4 := congrArg (List.take o) h2
    rw [List.take_take, List.take_take, Nat.min_eq_left (by omega), List.take_set_of_le (Nat.le_refl _)] at h4
    exact h4
/-- The first of a row. -/
theorem own_first {T : TypeId} {w : World} {B g n cap k : Nat} {cur : List Value} {ks : List Rq} (h : w.ownsRow B T 3 (.slice (some ⟨g, 0, none⟩) n cap) n cur) (hk : ks.length = k) (hkn : k ≤ n) (hc : cur.take (k * 3) = flat ks) : w.ownsRow B T 3 (.slice (some ⟨g, 0, none⟩) k cap) k (flat ks) := by
  refine ⟨by rw [flat_len, hk], ?_⟩
  rcases h.2 with ⟨h', _⟩ | ⟨g', cap', cur0, hv, hB, hg, h1, h2, h3, h4⟩
  · cases h'
  · simp only [Value.slice.injEq, Option.some.injEq, Addr.mk.injEq, and_true] at hv
    obtain ⟨rfl, _, rfl⟩ := hv
    refine .inr ⟨g, cap, cur0, rfl, hB, hg, by omega, h2, h3, ?_⟩
    rw [← hc, ← h4, List.take_take, Nat.min_eq_left (by omega)]
end RQ
end Go.Proofs.Ytpdmbobcbehilaa

/- Whether a bundle fits a plan: fits of the program, l17Fits of the specification; and until when it may be there. -/
namespace Go.Proofs.Ytpdmbobcbehilaa
open Go.RowKit
set_option linter.unusedSimpArgs false in
set_option maxHeartbeats 1600000 in
set_option maxRecDepth 100000 in
theorem fitsI_any (a : Option Addr) (cap : Nat) (xs : List I5) (b : Bd) (w : World) (hn : xs.length ≤ 1048576) (hs : b.py.size ≤ 1048576) (hin : MI5.RowAt w a xs) :
    Calls Try.prog 28 #[.slice a xs.length cap, b.v] w fun e w' => e = .returned (.bool (GP.fitsB xs b)) ∧ Below w.heap.size w w' := by
  have P1 : Hid (∀ W : World, Below w.heap.size w W → Calls Try.prog 50 #[.slice a xs.length cap] W fun e w' => e = .returned (.bool (PN.okP xs)) ∧ Below W.heap.size W w') := fun W h => implGoodPlan_any a cap xs W hn (hin.below h) _ rfl
  have P2 : Hid (∀ W : World, Calls Try.prog 51 #[b.v] W fun e w' => e = .returned (.bool (B1.good b)) ∧ Below W.heap.size W w') := fun W => implGoodBundle_any b W hs _ rfl
  have P4 : Hid (∀ W : World, Calls Try.prog 52 #[.int .i64 b.fr] W fun e w' => e = .returned (.bool (PN.nodeOk b.fr)) ∧ W = w') := fun W => nodeI_any b.fr W
  have P5 : Hid (∀ W : World, Calls Try.prog 53 #[.int .i64 b.md] W fun e w' => e = .returned (.bool (PN.whenOk b.md)) ∧ W = w') := fun W => whenI_any b.md W
  have HR : Hid (GP.fitsB xs b = (PN.okP xs && B1.good b && (b.tl == 0) && PN.nodeOk b.fr && PN.whenOk b.md)) := by show GP.fitsB xs b = _; unfold GP.fitsB; rw [show decide (b.tl = 0) = (b.tl == 0) by rw [Bool.eq_iff_iff]; simp]
  have hA := BdAt.box w b 33
  have hB := (Below.refl _ w).alloc (Nat.le_refl _) (.cells #[.int .i64 b.fr, .int .i64 b.to, .bool b.gr, .int .i64 b.md, .int .i64 b.no, .int .i64 b.lf, .int .i64 b.hp, .int .i64 b.of, .int .i64 b.tl, .string b.py] 33)
  clear hin
  generalize GP.fitsB xs b = R at *
  generalize PN.okP xs = q1 at *
  generalize B1.good b = q2 at *
  generalize hq3 : (b.tl == 0) = q3 at *
  generalize PN.nodeOk b.fr = q4 at *
  generalize PN.whenOk b.md = q5 at *
  obtain ⟨fr, to, gr, md, no, lf, hp, of, tl, py⟩ := b
  have HQ3 : Hid ((tl == 0) = q3) := hq3
  clear hq3
  go_enter Try.func28, Try.ntmps28
  go_wp2_with fail
  refine (P1.out _ hB).mono ?_
  rintro e w1 ⟨rfl, hb1⟩
  have hA1 := hA.below hb1 hA.1
  have hB1 := hB.trans (hb1.mono hB.size)
  clear P1 hb1 hA hB
  cases q1 with
  | false =>
    have hR : R = false := HR.out
    subst hR
    clear P2 P4 P5 HR HQ3 hA1
    go_wp2
    go_ret
    exact ⟨rfl, hB1⟩
  | true =>
    obtain ⟨hlt, c0, c1, c2, c3, c4, c5, c6, c7, c8, c9⟩ := id hA1
    go_wp2_with fail
    refine (P2.out _).mono ?_
    rintro e w2 ⟨rfl, hb2⟩
    clear c0 c1 c2 c3 c4 c5 c6 c7 c8 c9 hlt P2
    have hA2 := hA1.below hb2 hA1.1
    have hB2 := hB1.trans (hb2.mono hB1.size)
    clear hb2 hA1 hB1
    cases q2 with
    | false =>
      have hR : R = false := HR.out
      subst hR
      clear P4 P5 HR HQ3 hA2
      go_wp2
      go_ret
      exact ⟨rfl, hB2⟩
    | true =>
      obtain ⟨hlt, c0, c1, c2, c3, c4, c5, c6, c7, c8, c9⟩ := id hA2
      clear c1 c2 c4 c5 c6 c7 c9 hA2
      have hq3 := HQ3.out
      cases q3 with
      | false =>
        have hR : R = false := HR.out
        subst hR
        clear P4 P5 HR HQ3
        go_wp2
        go_ret
        exact ⟨rfl, hB2⟩
      | true =>
        clear HQ3
        go_wp2_with fail
        refine (P4.out _).mono ?_
        rintro e w' ⟨rfl, rfl⟩
        clear P4 c0 c8
        cases q4 with
        | false =>
          have hR : R = false := HR.out
          subst hR
          clear P5 HR c3
          go_wp2
          go_ret
          exact ⟨rfl, hB2⟩
        | true =>
          have hR : R = q5 := HR.out
          subst hR
          clear HR
          go_wp2_with fail
          refine (P5.out _).mono ?_
          rintro e w' ⟨rfl, rfl⟩
          clear P5 c3
          go_wp2
          go_ret
          exact ⟨rfl, hB2⟩
set_option linter.unusedSimpArgs false in
set_option maxHeartbeats 1600000 in
set_option maxRecDepth 100000 in
theorem fitsS_any (a : Option Addr) (cap : Nat) (xs : List I5) (b : Bd) (w : World) (hn : xs.length ≤ 1048576) (hs : b.py.size ≤ 1048576) (hin : MI5.RowAt w a xs) :
    Calls Try.prog 47 #[.slice a xs.length cap, b.v] w fun e w' => e = .returned (.bool (GP.fitsB xs b)) ∧ Below w.heap.size w w' := by
  have P1 : Hid (∀ W : World, Below w.heap.size w W → Calls Try.prog 58 #[.slice a xs.length cap] W fun e w' => e = .returned (.bool (PN.okP xs)) ∧ Below W.heap.size W w') := fun W h => specGoodPlan_any a cap xs W hn (hin.below h) _ rfl
  have P2 : Hid (∀ W : World, Calls Try.prog 59 #[b.v] W fun e w' => e = .returned (.bool (B1.good b)) ∧ Below W.heap.size W w') := fun W => specGoodBundle_any b W hs _ rfl
  have P4 : Hid (∀ W : World, Calls Try.prog 60 #[.int .i64 b.fr] W fun e w' => e = .returned (.bool (PN.nodeOk b.fr)) ∧ W = w') := fun W => nodeS_any b.fr W
  have P5 : Hid (∀ W : World, Calls Try.prog 61 #[.int .i64 b.md] W fun e w' => e = .returned (.bool (PN.whenOk b.md)) ∧ W = w') := fun W => whenS_any b.md W
  have HR : Hid (GP.fitsB xs b = (PN.okP xs && B1.good b && (b.tl == 0) && PN.nodeOk b.fr && PN.whenOk b.md)) := by show GP.fitsB xs b = _; unfold GP.fitsB; rw [show decide (b.tl = 0) = (b.tl == 0) by rw [Bool.eq_iff_iff]; simp]
  have hA := BdAt.box w b 33
  have hB := (Below.refl _ w).alloc (Nat.le_refl _) (.cells #[.int .i64 b.fr, .int .i64 b.to, .bool b.gr, .int .i64 b.md, .int .i64 b.no, .int .i64 b.lf, .int .i64 b.hp, .int .i64 b.of, .int .i64 b.tl, .string b.py] 33)
  clear hin
  generalize GP.fitsB xs b = R at *
  generalize PN.okP xs = q1 at *
  generalize B1.good b = q2 at *
  generalize hq3 : (b.tl == 0) = q3 at *
  generalize PN.nodeOk b.fr = q4 at *
  generalize PN.whenOk b.md = q5 at *
  obtain ⟨fr, to, gr, md, no, lf, hp, of, tl, py⟩ := b
  have HQ3 : Hid ((tl == 0) = q3) := hq3
  clear hq3
  go_enter Try.func47, Try.ntmps47
  go_wp2_with fail
  refine (P1.out _ hB).mono ?_
  rintro e w1 ⟨rfl, hb1⟩
  have hA1 := hA.below hb1 hA.1
  have hB1 := hB.trans (hb1.mono hB.size)
  clear P1 hb1 hA hB
  cases q1 with
  | false =>
    have hR : R = false := HR.out
    subst hR
    clear P2 P4 P5 HR HQ3 hA1
    go_wp2
    go_ret
    exact ⟨rfl, hB1⟩
  | true =>
    obtain ⟨hlt, c0, c1, c2, c3, c4, c5, c6, c7, c8, c9⟩ := id hA1
    go_wp2_with fail
    refine (P2.out _).mono ?_
    rintro e w2 ⟨rfl, hb2⟩
    clear c0 c1 c2 c3 c4 c5 c6 c7 c8 c9 hlt P2
    have hA2 := hA1.below hb2 hA1.1
    have hB2 := hB1.trans (hb2.mono hB1.size)
    clear hb2 hA1 hB1
    cases q2 with
    | false =>
      have hR : R = false := HR.out
      subst hR
      clear P4 P5 HR HQ3 hA2
      go_wp2
      go_ret
      exact ⟨rfl, hB2⟩
    | true =>
      obtain ⟨hlt, c0, c1, c2, c3, c4, c5, c6, c7, c8, c9⟩ := id hA2
      clear c1 c2 c4 c5 c6 c7 c9 hA2
      have hq3 := HQ3.out
      cases q3 with
      | false =>
        have hR : R = false := HR.out
        subst hR
        clear P4 P5 HR HQ3
        go_wp2
        go_ret
        exact ⟨rfl, hB2⟩
      | true =>
        clear HQ3
        go_wp2_with fail
        refine (P4.out _).mono ?_
        rintro e w' ⟨rfl, rfl⟩
        clear P4 c0 c8
        cases q4 with
        | false =>
          have hR : R = false := HR.out
          subst hR
          clear P5 HR c3
          go_wp2
          go_ret
          exact ⟨rfl, hB2⟩
        | true =>
          have hR : R = q5 := HR.out
          subst hR
          clear HR
          go_wp2_with fail
          refine (P5.out _).mono ?_
          rintro e w' ⟨rfl, rfl⟩
          clear P5 c3
          go_wp2
          go_ret
          exact ⟨rfl, hB2⟩
set_option maxHeartbeats 800000 in
set_option maxRecDepth 100000 in
theorem lastTime_any (b : Bd) (w : World) (h1 : 0 ≤ b.md ∧ b.md ≤ 1000) (h2 : 1 ≤ b.lf ∧ b.lf ≤ 1000000) :
    Calls Try.prog 33 #[b.v] w fun e w' => e = .returned (.int .i64 (b.md + b.lf)) ∧ Below w.heap.size w w' := by
  have hB := (Below.refl _ w).alloc (Nat.le_refl _) (.cells #[.int .i64 b.fr, .int .i64 b.to, .bool b.gr, .int .i64 b.md, .int .i64 b.no, .int .i64 b.lf, .int .i64 b.hp, .int .i64 b.of, .int .i64 b.tl, .string b.py] 33)
  obtain ⟨fr, to, gr, md, no, lf, hp, of, tl, py⟩ := b
  simp only at h1 h2
  go_enter Try.func33, Try.ntmps33
  go_wp2
  go_ret
  exact ⟨rfl, hB⟩
end Go.Proofs.Ytpdmbobcbehilaa

/- journeyFrom, the program's. -/
namespace Go.Proofs.Ytpdmbobcbehilaa
open Go.RowKit
namespace PN
/-- The result's box, and the journey that is being made. -/
structure JW (w W : World) (rb jb : Nat) (f : Int) (wf : Nat → Nat) (lf : Nat → Int) : Prop where
  r : MA.Rg W rb 0 (jc 0 (fun _ => 0) (fun _ => 0))
  j : MA.Rg W jb 0 (jc f wf lf)
  ne : rb ≠ jb
  br : w.heap.size ≤ rb
  bj : w.heap.size ≤ jb
  bl : Below w.heap.size w W
theorem JW.kept {w W W' : World} {rb jb : Nat} {f : Int} {wf : Nat → Nat} {lf : Nat → Int} (h : JW w W rb jb f wf lf) (hb : Below W.heap.size W W') : JW w W' rb jb f wf lf :=
  ⟨h.r.below hb h.r.lt, h.j.below hb h.j.lt, h.ne, h.br, h.bj, h.bl.trans (hb.mono h.bl.size)⟩
theorem JW.setw {w W : World} {rb jb : Nat} {f : Int} {wf : Nat → Nat} {lf : Nat → Int} (h : JW w W rb jb f wf lf) {i : Nat} (hi : i < 8) (b : Nat) : JW w (W.setCell ⟨jb, 1 + i, none⟩ (.float .f64 b)) rb jb f (put wf i b) lf :=
  ⟨h.r.other (k' := jb) (o' := 1 + i) (vs := [.float .f64 b]) (.inl h.ne), rg_setw h.j hi b, h.ne, h.br, h.bj, MA.below_cells h.bj [.float .f64 b] (1 + i) W h.bl⟩
theorem JW.setl {w W : World} {rb jb : Nat} {f : Int} {wf : Nat → Nat} {lf : Nat → Int} (h : JW w W rb jb f wf lf) {i : Nat} (hi : i < 8) (b : Int) : JW w (W.setCell ⟨jb, 9 + i, none⟩ (.int .i64 b)) rb jb f wf (put lf i b) :=
  ⟨h.r.other (k' := jb) (o' := 9 + i) (vs := [.int .i64 b]) (.inl h.ne), rg_setl h.j hi b, h.ne, h.br, h.bj, MA.below_cells h.bj [.int .i64 b] (9 + i) W h.bl⟩
theorem jw_new (w : World) (t : TypeId) (f : Int) : JW w (((w.alloc (.cells (jc 0 (fun _ => 0) (fun _ => 0)).toArray t)).alloc (.cells (jc 0 (fun _ => 0) (fun _ => 0)).toArray t)).setCells (w.heap.size + 1) 0 (jc f (fun _ => 0) (fun _ => 0))) w.heap.size (w.heap.size + 1) f (fun _ => 0) (fun _ => 0) := by
  have r1 := (MA.Rg.new w (jc 0 (fun _ => 0) (fun _ => 0)) t).alloc (.cells (jc 0 (fun _ => 0) (fun _ => 0)).toArray t)
  have r2 := MA.Rg.new' (w.alloc (.cells (jc 0 (fun _ => 0) (fun _ => 0)).toArray t)) (jc 0 (fun _ => 0) (fun _ => 0)) t (w.heap.size + 1) (by simp)
  exact ⟨r1.other (.inl (by omega)), r2.put (by rw [jc_len, jc_len]), by omega, Nat.le_refl _, by omega, MA.below_cells (by omega) _ _ _ (((Below.refl _ w).alloc (Nat.le_refl _) _).alloc (by simp) _)⟩
def upB (k : Nat) : Nat → Nat := fun i => if i < k then FL.Mo.inf.b else 0
theorem upB_put (k : Nat) : put (upB k) k FL.Mo.inf.b = upB (k + 1) := by
  funext p
  simp only [put, upB]
  by_cases e : p = k
  · subst e; simp
  · rw [if_neg e]
    by_cases h : p < k
    · rw [if_pos h, if_pos (by omega)]
    · rw [if_neg h, if_neg (by omega)]
theorem upB_all {f : Int} {lf : Nat → Int} : jc f (upB 8) lf = jc f (wb ⟨fun _ => .inf, fun _ => none⟩) lf := jc_ext (fun i hi => by simp [upB, wb, hi]) (fun _ _ => rfl)
end PN
theorem Try.infoJ : (Try.prog.info? 90).map (fun i => (i.zero, i.size)) = some (some (.agg (PN.jc 0 (fun _ => 0) (fun _ => 0)).toArray), 17) := by kernel_rfl
theorem Try.sizeJ : (Try.prog.info? 90).map (·.size) = some 17 := by kernel_rfl
theorem Try.builtJ (f : Int) : Try.prog.built 90 [(0, .int .i64 f)] = some (PN.jc f (fun _ => 0) (fun _ => 0)).toArray := by kernel_rfl
theorem MA.build_pJ {P : Program} {ops : Array Oper} {rest : List Oper} {op : Oper} {a : Act} {w : World} {Q : Exit → Act → World → Prop} (hgd : op.guard = none) (ty : TypeId) {parts : Array (Nat × Operand)} (ho : op.op = .build ty parts)
    (ps : List (Nat × Value)) (hps : (parts.map fun (i, x) => (i, a.eval x)).toList = ps) {cs : List Value} (hb : P.built ty ps = some cs.toArray)
    (h : wpList P ops Q rest (a.put op.dst (.agg cs.toArray)) w) : wpList P ops Q (op :: rest) a w := MA.build_m hgd ty ho (by rw [hps]; exact hb) h
set_option linter.unusedSimpArgs false in
set_option maxHeartbeats 3200000 in
set_option maxRecDepth 100000 in
theorem journeyFrom_any (a : Option Addr) (ca : Nat) (xs : List I5) (f n : Int) (w : World) (hok : PN.okP xs = true) (hf0 : 0 ≤ f) (hf1 : f ≤ 7) (hn0 : 0 ≤ n) (hn1 : n ≤ 1000) (hin : MI5.RowAt w a xs) :
    Calls Try.prog 67 #[.slice a xs.length ca, .int .i64 f, .int .i64 n] w fun e w' => e = .returned (.agg (PN.jc f (PN.wb (PN.fin xs (PN.st0 f n))) (PN.lb (PN.fin xs (PN.st0 f n)))).toArray) ∧ Below w.heap.size w w' := by
  have NV : Hid (∀ W : World, Calls Try.prog 73 #[] W fun e w' => e = .returned (.float .f64 FL.Mo.inf.b) ∧ W = w') := fun W => never_any W
  have SF : ∀ (W : World) (ad : Addr) (b : Nat) (m : Mode), (store ad (.float .f64 b) m).run Try.prog W = stored Try.prog W ad (.float .f64 b) m := fun W ad b m => run_store _ W ad _ m rfl
  have HI : Hid (MI5.RowAt w a xs) := hin
  have hlen : xs.length ≤ 20 := ((PN.okP_iff xs).1 hok).1
  have GC : Hid (∀ k, k < xs.length → PN.Good (MI5.at_ xs k)) := fun k hk => PN.okP_good hok hk
  have HOK : Hid _ := hok
  have NX : Hid (∀ (s : PN.St) (W : World), PN.okS s.wh → MI5.RowAt W a xs → Calls Try.prog 74 #[.agg (PN.jc f (PN.wb s) (PN.lb s)).toArray, .slice a xs.length ca] W fun e w' => e = .returned (.tuple #[.int .i64 (PN.nextN (PN.best xs s.wh xs.length)), .bool (PN.best xs s.wh xs.length).isSome]) ∧ Below W.heap.size W w') := fun s W hs hr => next6_any a ca xs f s W hok hs hr
  obtain ⟨fn, rfl⟩ := Int.eq_ofNat_of_zero_le hf0
  have hfn : fn < 8 := by omega
  have ff1 : (fn : Int) < 8 := by omega
  have HN : Hid _ := PN.jw_new w 90 (fn : Int)
  have RZ : Hid (MA.Rg ((w.alloc (.cells (PN.jc 0 (fun _ => 0) (fun _ => 0)).toArray 90)).alloc (.cells (PN.jc 0 (fun _ => 0) (fun _ => 0)).toArray 90)) (w.heap.size + 1) 0 (PN.jc 0 (fun _ => 0) (fun _ => 0))) := MA.Rg.new' _ _ _ _ (by simp)
  clear hin hok
  go_enter Try.func67, Try.ntmps67
  go_wp2_with (first
    | (refine MA.alloc_z rfl 90 rfl _ _ Try.infoJ ?_; simp only [MA.sz_alloc])
    | (refine MA.build_pJ rfl 90 rfl [(0, .int .i64 (fn : Int))] (by simp [Act.eval]) (Try.builtJ _) ?_)
    | (refine MA.store_m rfl 90 _ _ rfl rfl rfl (vs := PN.jc (fn : Int) (fun _ => 0) (fun _ => 0)) (cs := PN.jc 0 (fun _ => 0) (fun _ => 0)) ?_ Try.sizeJ (PN.jc_len _ _ _) (PN.jc_len _ _ _) (PN.jc_one _ _ _) ?_; exact RZ.out; clear RZ; generalize World.setCells _ _ _ _ = W3 at *))
  generalize w.heap.size + 1 = jb at *
  go_loopw [14] (fun iv wr => ∃ k : Nat, iv = .int .i64 k ∧ k ≤ 8 ∧ PN.JW w wr w.heap.size jb (fn : Int) (PN.upB k) (fun _ => 0)) (fun iv _ => (8 - intOf iv).toNat)
  case atStart => exact ⟨0, rfl, by omega, HN.out⟩
  case round =>
    clear HN
    obtain ⟨k, rfl, hk, hJ⟩ := hrel
    by_cases hl : k < 8
    · obtain ⟨q1, z1⟩ := PN.rg_w hJ.j hl
      have hl1 := hJ.j.lt
      have hJ2 := hJ.setw hl FL.Mo.inf.b
      rw [PN.upB_put] at hJ2
      have HJ2 : Hid _ := hJ2
      have kk : (k : Int) < 8 := by omega
      clear hJ hJ2
      go_wp2_with fail
      refine (NV.out _).mono ?_
      rintro e w' ⟨rfl, rfl⟩
      go_wp2
      go_roundw
      case rel => exact ⟨k + 1, by go_num, by omega, HJ2.out⟩
      case measure => simp [intOf]; omega
    · obtain rfl : k = 8 := by omega
      have hJ0 : PN.JW w wr w.heap.size jb (fn : Int) (PN.wb ⟨fun _ => .inf, fun _ => none⟩) (PN.lb ⟨fun _ => .inf, fun _ => none⟩) := by
        have h := hJ.j
        rw [PN.upB_all] at h
        exact ⟨hJ.r, h, hJ.ne, hJ.br, hJ.bj, hJ.bl⟩
      obtain ⟨q1, z1⟩ := PN.rg_w hJ0.j hfn
      have hl1 := hJ0.j.lt
      have hJ1 := hJ0.setw hfn (FL.Mo.fin n).b
      rw [PN.wb_put _ _ _ (fun _ => none)] at hJ1
      have HS0 : Hid (PN.JW w (wr.setCell ⟨jb, 1 + fn, none⟩ (.float .f64 (floatOfInt .f64 n))) w.heap.size jb (fn : Int) (PN.wb (PN.st0 (fn : Int) n)) (PN.lb (PN.st0 (fn : Int) n))) := hJ1
      have HOS : Hid (PN.okS (PN.st0 (fn : Int) n).wh) := PN.st0_ok hn0 hn1
      clear hJ hJ0 hJ1
      generalize hst : PN.st0 (fn : Int) n = s0 at *
      have HR0 : Hid (MA.Rg (wr.setCell ⟨jb, 1 + fn, none⟩ (.float .f64 (floatOfInt .f64 n))) jb 0 (PN.jc (fn : Int) (PN.wb s0) (PN.lb s0))) := HS0.out.j
      go_wp2_with (refine MA.load_m rfl 90 _ rfl rfl (cs := PN.jc (fn : Int) (PN.wb s0) (PN.lb s0)) ?_ Try.underlying90 rfl Try.sizeJ (PN.jc_len _ _ _) ?_; exact HR0.out; clear HR0)
      generalize wr.setCell ⟨jb, 1 + fn, none⟩ (.float .f64 (floatOfInt .f64 n)) = W4 at *
      clear q1 z1 hl1
      refine (NX.out s0 _ HOS.out (HI.out.below HS0.out.bl)).mono ?_
      rintro e w5 ⟨rfl, hb5⟩
      have HS5 : Hid _ := HS0.out.kept hb5
      clear HS0 hb5
      generalize hbest : PN.best xs s0.wh xs.length = R0 at *
      have HBT : Hid _ := hbest
      clear hbest
      go_wp2
      go_loopw [9, 10] (fun kv ov wr => ∃ s : PN.St, kv = .int .i64 (PN.nextN (PN.best xs s.wh xs.length)) ∧ ov = .bool (PN.best xs s.wh xs.length).isSome ∧ PN.JW w wr w.heap.size jb (fn : Int) (PN.wb s) (PN.lb s) ∧ Hid (PN.okS s.wh) ∧ Hid (PN.fin xs s = PN.fin xs s0)) (fun _ _ wr => PN.MJ jb wr)
      case atStart => exact ⟨s0, by rw [HBT.out], by rw [HBT.out], HS5.out, HOS, rfl⟩
      case round =>
        clear HS5 HOS HBT
        obtain ⟨s, rfl, rfl, hJ, hO, hF⟩ := hrel
        have HM : Hid (PN.MJ jb wr = PN.mu s.wh) := PN.JR.mu hJ.j hO.out
        cases hb : PN.best xs s.wh xs.length with
        | none =>
          have hE : Hid (s = PN.fin xs s0) := by show s = _; rw [← hF.out, PN.fin_none hb]
          have HRJ : Hid (MA.Rg wr jb 0 (PN.jc (fn : Int) (PN.wb s) (PN.lb s))) := hJ.j
          have HRR : Hid (MA.Rg wr w.heap.size 0 (PN.jc 0 (fun _ => 0) (fun _ => 0))) := hJ.r
          have HRP : Hid (MA.Rg (wr.setCells w.heap.size 0 (PN.jc (fn : Int) (PN.wb s) (PN.lb s))) w.heap.size 0 (PN.jc (fn : Int) (PN.wb s) (PN.lb s))) := hJ.r.put (by rw [PN.jc_len, PN.jc_len])
          have HBP : Hid (Below w.heap.size w (wr.setCells w.heap.size 0 (PN.jc (fn : Int) (PN.wb s) (PN.lb s)))) := MA.below_cells (Nat.le_refl _) _ _ _ hJ.bl
          clear hb hF hO hJ HM HOK GC HI NX NV SF
          go_wp2_with (first
            | (refine MA.load_m rfl 90 _ rfl rfl (cs := PN.jc (fn : Int) (PN.wb s) (PN.lb s)) ?_ Try.underlying90 rfl Try.sizeJ (PN.jc_len _ _ _) ?_; exact HRJ.out; clear HRJ)
            | (refine MA.store_m rfl 90 _ _ rfl rfl rfl (vs := PN.jc (fn : Int) (PN.wb s) (PN.lb s)) (cs := PN.jc 0 (fun _ => 0) (fun _ => 0)) ?_ Try.sizeJ (PN.jc_len _ _ _) (PN.jc_len _ _ _) (PN.jc_one _ _ _) ?_; exact HRR.out; clear HRR))
          exact bodyPost_ret (MA.ret_cell rfl rfl (MA.load_rg HRP.out Try.underlying90 rfl Try.sizeJ (PN.jc_len _ _ _))) rfl ⟨by rw [hst, ← hE.out], HBP.out⟩
        | some p =>
          obtain ⟨kb, t⟩ := p
          obtain ⟨hkb, hA, hE⟩ := PN.best_is hb
          obtain ⟨hO2, hmu⟩ := PN.step_ok HOK.out hO.out hb
          have hF2 : Hid (PN.fin xs (PN.take1 xs s kb t) = PN.fin xs s0) := by show _ = _; rw [← hF.out, PN.fin_some HOK.out hO.out hb]
          have G := GC.out kb hkb
          obtain ⟨b4, off4, hab, hlt4, e0, e1, e2, e3, e4⟩ := (HI.out.below hJ.bl).at hkb
          obtain ⟨i, hi⟩ := Int.eq_ofNat_of_zero_le G.f0
          obtain ⟨j, hj⟩ := Int.eq_ofNat_of_zero_le G.t0
          have hi8 : i < 8 := by have := G.f1; omega
          have hj8 : j < 8 := by have := G.t1; omega
          have hij : i ≠ j := by have := G.ne; omega
          have ii0 : (0 : Int) ≤ (i : Int) := by omega
          have ii8 : (i : Int) < 8 := by omega
          have jj0 : (0 : Int) ≤ (j : Int) := by omega
          have jj8 : (j : Int) < 8 := by omega
          have kk0 : (0 : Int) ≤ (kb : Int) := by omega
          have kk1 : (kb : Int) < (xs.length : Int) := by omega
          have hin : (MI5.at_ xs kb).a0.toNat = i := by rw [hi]; rfl
          have hjn : (MI5.at_ xs kb).a1.toNat = j := by rw [hj]; rfl
          rw [hin] at hA
          have AR : Hid (∀ W : World, Calls Try.prog 75 #[(MI5.at_ xs kb).v, .float .f64 (s.wh i).b] W fun e w' => e = .returned (.float .f64 (FL.Mo.fin t).b) ∧ Below W.heap.size W w') := fun W => by
            have := arrival_any (MI5.at_ xs kb) (s.wh i) W G (hO.out i)
            rw [hA] at this; exact this
          have hST : (⟨PN.put s.wh j (.fin t), PN.put s.la j (some kb)⟩ : PN.St) = PN.take1 xs s kb t := by unfold PN.take1; rw [hjn]
          have HST : Hid _ := hST
          have HO2 : Hid _ := hO2
          have HMU : Hid (PN.mu (PN.take1 xs s kb t).wh < PN.mu s.wh) := hmu
          rw [hi] at e0
          rw [hj] at e1
          have HJA : Hid (PN.JW w (wr.alloc (.cells #[.int .i64 (i : Int), .int .i64 (j : Int), .int .i64 (MI5.at_ xs kb).a2, .int .i64 (MI5.at_ xs kb).a3, .int .i64 (MI5.at_ xs kb).a4] 50)) w.heap.size jb (fn : Int) (PN.wb s) (PN.lb s)) := hJ.kept ((Below.refl _ wr).alloc (Nat.le_refl _) _)
          have hjq : jb < wr.heap.size := hJ.j.lt
          clear hb hF hO GC G hjn hin hA hE hST hO2 hmu hJ
          generalize hx : MI5.at_ xs kb = x at *
          obtain ⟨x0, x1, x2, x3, x4⟩ := x
          simp only at hi hj e0 e1 e2 e3 e4
          subst hi hj
          clear hx
          subst hab
          have F0 : Hid ((wr.alloc (.cells #[.int .i64 (i : Int), .int .i64 (j : Int), .int .i64 x2, .int .i64 x3, .int .i64 x4] 50)).cell? ⟨wr.heap.size, 0, none⟩ = some (.int .i64 (i : Int))) := by show _ = _; simp
          have F1 : Hid ((wr.alloc (.cells #[.int .i64 (i : Int), .int .i64 (j : Int), .int .i64 x2, .int .i64 x3, .int .i64 x4] 50)).cell? ⟨wr.heap.size, 1, none⟩ = some (.int .i64 (j : Int))) := by show _ = _; simp
          have F2 : Hid ((wr.alloc (.cells #[.int .i64 (i : Int), .int .i64 (j : Int), .int .i64 x2, .int .i64 x3, .int .i64 x4] 50)).cell? ⟨wr.heap.size, 2, none⟩ = some (.int .i64 x2)) := by show _ = _; simp
          have F3 : Hid ((wr.alloc (.cells #[.int .i64 (i : Int), .int .i64 (j : Int), .int .i64 x2, .int .i64 x3, .int .i64 x4] 50)).cell? ⟨wr.heap.size, 3, none⟩ = some (.int .i64 x3)) := by show _ = _; simp
          have F4 : Hid ((wr.alloc (.cells #[.int .i64 (i : Int), .int .i64 (j : Int), .int .i64 x2, .int .i64 x3, .int .i64 x4] 50)).cell? ⟨wr.heap.size, 4, none⟩ = some (.int .i64 x4)) := by show _ = _; simp
          have HQ : Hid (wr.heap.size < (wr.alloc (.cells #[.int .i64 (i : Int), .int .i64 (j : Int), .int .i64 x2, .int .i64 x3, .int .i64 x4] 50)).heap.size) := by show _ < _; simp
          rw [show PN.nextN (some (kb, t)) = (kb : Int) from rfl, show (some (kb, t)).isSome = true from rfl]
          go_wp2_with fail
          clear e0 e1 e2 e3 e4 hlt4
          generalize (wr.alloc (.cells #[.int .i64 (i : Int), .int .i64 (j : Int), .int .i64 x2, .int .i64 x3, .int .i64 x4] 50)) = W1 at *
          generalize wr.heap.size = q at *
          have f0 := F0.out
          have f1 := F1.out
          have f2 := F2.out
          have f3 := F3.out
          have f4 := F4.out
          have hq := HQ.out
          have hci : W1.cell? ⟨jb, 1 + i, none⟩ = some (.float .f64 (s.wh i).b) := (PN.rg_w HJA.out.j hi8).1
          have hjb := HJA.out.j.lt
          have hqj : q ≠ jb := by omega
          have hqj' : jb ≠ q := by omega
          clear F0 F1 F2 F3 F4 HQ
          go_region_held3 (fun w' => w'.cell? ⟨q, 0, none⟩ = some (.int .i64 (i : Int)) ∧ w'.cell? ⟨q, 1, none⟩ = some (.int .i64 (j : Int)) ∧ w'.cell? ⟨q, 2, none⟩ = some (.int .i64 x2) ∧ w'.cell? ⟨q, 3, none⟩ = some (.int .i64 x3) ∧ w'.cell? ⟨q, 4, none⟩ = some (.int .i64 x4) ∧ w'.cell? ⟨jb, 1 + i, none⟩ = some (.float .f64 (s.wh i).b)) (first | assumption | go_keep) (first | (go_at_call 75; refine Calls.mono (AR.out _) ?_; rintro e w3 ⟨rfl, hb3⟩; have k0 : w3.cell? ⟨q, 0, none⟩ = some (.int .i64 (i : Int)) := (hb3.cell (p := ⟨q, 0, none⟩) (by simpa using hq)).trans (by simpa using f0); have k1 : w3.cell? ⟨q, 1, none⟩ = some (.int .i64 (j : Int)) := (hb3.cell (p := ⟨q, 1, none⟩) (by simpa using hq)).trans (by simpa using f1); have k2 : w3.cell? ⟨q, 2, none⟩ = some (.int .i64 x2) := (hb3.cell (p := ⟨q, 2, none⟩) (by simpa using hq)).trans (by simpa using f2); have k3 : w3.cell? ⟨q, 3, none⟩ = some (.int .i64 x3) := (hb3.cell (p := ⟨q, 3, none⟩) (by simpa using hq)).trans (by simpa using f3); have k4 : w3.cell? ⟨q, 4, none⟩ = some (.int .i64 x4) := (hb3.cell (p := ⟨q, 4, none⟩) (by simpa using hq)).trans (by simpa using f4); have ki : w3.cell? ⟨jb, 1 + i, none⟩ = some (.float .f64 (s.wh i).b) := (hb3.cell (p := ⟨jb, 1 + i, none⟩) (by simpa using hjb)).trans (by simpa using hci); have HJ3 := HJA.out.kept (((Below.refl _ W1).drew).trans hb3); obtain ⟨kj, zj⟩ := PN.rg_w HJ3.j hj8; have HJ4 := HJ3.setw hj8 (FL.Mo.fin t).b; obtain ⟨kl, zl⟩ := PN.rg_l HJ4.j hj8; have HJ5 := HJ4.setl hj8 (kb : Int); have ki4 : (w3.setCell ⟨jb, 1 + j, none⟩ (.float .f64 (FL.Mo.fin t).b)).cell? ⟨jb, 1 + i, none⟩ = some (.float .f64 (s.wh i).b) := (PN.rg_w HJ4.j hi8).1.trans (by rw [PN.put_ne _ _ hij]; rfl); have ki5 : ((w3.setCell ⟨jb, 1 + j, none⟩ (.float .f64 (FL.Mo.fin t).b)).setCell ⟨jb, 9 + j, none⟩ (.int .i64 (kb : Int))).cell? ⟨jb, 1 + i, none⟩ = some (.float .f64 (s.wh i).b) := (PN.rg_w HJ5.j hi8).1.trans (by rw [PN.put_ne _ _ hij]; rfl)))
          rw [PN.wb_put s j (.fin t) (PN.put s.la j (some kb)), PN.lb_put s j kb (PN.put s.wh j (.fin t)), HST.out] at HJ5
          clear k0 k1 k2 k3 k4 ki kj zj kl zl ki4 ki5 HJ3 HJ4 hb3 f0 f1 f2 f3 f4 hq hci hjb HJA AR HST hqj hqj' hjq
          have HJ6 : Hid _ := HJ5
          have HR6 : Hid (MA.Rg ((w3.setCell ⟨jb, 1 + j, none⟩ (.float .f64 (FL.Mo.fin t).b)).setCell ⟨jb, 9 + j, none⟩ (.int .i64 (kb : Int))) jb 0 (PN.jc (fn : Int) (PN.wb (PN.take1 xs s kb t)) (PN.lb (PN.take1 xs s kb t)))) := HJ5.j
          clear HJ5
          generalize (w3.setCell ⟨jb, 1 + j, none⟩ (.float .f64 (FL.Mo.fin t).b)).setCell ⟨jb, 9 + j, none⟩ (.int .i64 (kb : Int)) = W5 at *
          generalize PN.take1 xs s kb t = s' at *
          go_wp2_with (refine MA.load_m rfl 90 _ rfl rfl (cs := PN.jc (fn : Int) (PN.wb s') (PN.lb s')) ?_ Try.underlying90 rfl Try.sizeJ (PN.jc_len _ _ _) ?_; exact HR6.out; clear HR6)
          refine (NX.out s' _ HO2.out (HI.out.below HJ6.out.bl)).mono ?_
          rintro e w6 ⟨rfl, hb6⟩
          have HJ7 : Hid _ := HJ6.out.kept hb6
          have HM7 : Hid (PN.MJ jb w6 = PN.mu s'.wh) := PN.JR.mu HJ7.out.j HO2.out
          clear hb6 HJ6
          go_wp2
          go_roundw
          case rel => exact ⟨s', rfl, rfl, HJ7.out, HO2, hF2⟩
          case measure => rw [HM.out, HM7.out]; exact HMU.out
end Go.Proofs.Ytpdmbobcbehilaa

/- Who is reached, in time and near enough: plain facts; one reach more in memory. -/
namespace Go.Proofs.Ytpdmbobcbehilaa
open Go.RowKit
namespace RQ
open PN
theorem new3 (W : World) (x y z : Value) (e : TypeId) (n : Nat) (hn : W.heap.size = n) : ∀ (j : Nat) (u : Value), [x, y, z][j]? = some u → (W.alloc (.cells #[x, y, z] e)).cell? ((⟨n, 0, none⟩ : Addr).add j) = some u := by
  subst hn
  intro j u hj
  have hl : j < 3 := by have := (List.getElem?_eq_some_iff.1 hj).1; simpa using this
  have ha : (⟨W.heap.size, 0, none⟩ : Addr).add j = ⟨W.heap.size, j, none⟩ := by unfold Addr.add; split <;> simp_all
  rw [ha, World.cell?_alloc_new]
  simpa using hj
theorem one3 (p : Rq) : ∀ u ∈ p.cs, u.oneCell' = true := by intro u hu; simp at hu; rcases hu with rfl | rfl | rfl <;> rfl
theorem only_grown {w w' : World} {v : Value} {g : Nat} (hg : w.grownBy w' v.ownBlock) (h : ∀ k, v.ownBlock = some k → k = g) : MC.Only g w w' := by
  refine ⟨hg.os, hg.tape, hg.output, hg.size, fun k hk hne => hg.block k hk (fun e => hne (h k e.symm))⟩
/-- One reach more behind the last, its row in a block of its own that is younger. -/
theorem Own.snoc {T : TypeId} (hT : T ≠ 3) {w w' : World} {B X : Nat} {v v' : Value} {ps : List Rq} {q : Rq} (h : Own T w B v ps) (hq : NR.In w X q.a q.os) (hBX : B ≤ X) (hold : ∀ p, p ∈ ps → p.os ≠ [] → ∀ g, p.a = some ⟨g, 0, none⟩ → g < X) (hg : w.grownBy w' v.ownBlock) (ho : w'.ownsRow B T 3 v' (ps.length + 1) (flat ps ++ q.cs)) : Own T w' B v' (ps ++ [q]) := by
  have hr : Rows w B (ps ++ [q]) := h.rows.snoc (hq.mono hBX) (fun p hp h1 h2 e => by
    obtain ⟨g, hg⟩ := (h.rows.row p hp).some h1
    have h3 := hold p hp h1 g hg
    rw [← e, hg] at hq
    have := (hq.lt h2).1
    omega)
  refine ⟨by rw [flat_app, List.length_append]; exact ho, ?_⟩
  rcases h.out.2 with ⟨rfl, h0⟩ | ⟨g, cap, cur, rfl, rest⟩
  · refine ⟨fun p hp => ?_, hr.far⟩
    by_cases e : p.os = []
    · rw [e]; exact .nil _ _ _
    · obtain ⟨k, hk⟩ := (hr.row p hp).some e
      exact (hr.row p hp).only (p := k + 1) (only_grown hg (fun k h => by cases h)) (fun e => by rw [hk] at e; simp at e)
  · exact hr.only hT h.out (only_grown hg (fun k h => by simp only [Value.ownBlock, Option.some.injEq] at h; exact h.symm))
theorem Own.only2 {T : TypeId} {w w' : World} {B p : Nat} {v : Value} {ps : List Rq} (h : Own T w B v ps) (ho : MC.Only p w w') (hp : p < B) : Own T w' B v ps := by
  refine ⟨NR.own_only h.out ho (fun e => by have := (h.out.lt _ e).1; omega), fun q hq => ?_, h.rows.far⟩
  by_cases e : q.os = []
  · rw [e]; exact .nil _ _ _
  · refine (h.rows.row q hq).only ho (fun ea => ?_)
    have r := h.rows.row q hq
    rw [ea] at r
    have := (r.lt e).1; omega
/-- Whoever the rows' blocks are, they are there by now. -/
theorem Rows.lt {w : World} {B : Nat} {ps : List Rq} (h : Rows w B ps) : ∀ p, p ∈ ps → p.os ≠ [] → ∀ g, p.a = some ⟨g, 0, none⟩ → g < w.heap.size := fun p hp h1 g hg => by
  have := h.row p hp
  rw [hg] at this
  exact (this.lt h1).2
/-- What RouteTo tells of a member. -/
def one (xs : List I5) (b : Bd) (m : Int) : Int × Int × List Int := (m, tellN (routeM xs b.fr b.md m), routeL xs b.fr b.md m)
def there (xs : List I5) (b : Bd) (m : Int) : Bool := tellB (routeM xs b.fr b.md m)
def allL (xs : List I5) (b : Bd) (ms : List Int) : List (Int × Int × List Int) := (ms.filter (there xs b)).map (one xs b)
def inTime (n : Int) (r : Int × Int × List Int) : Bool := decide (r.2.1 ≤ n)
def near (n : Int) (r : Int × Int × List Int) : Bool := decide ((r.2.2.length : Int) ≤ n)
def reaL (xs : List I5) (b : Bd) (ms : List Int) : List (Int × Int × List Int) := ((allL xs b ms).filter (inTime (b.md + b.lf))).filter (near b.hp)
noncomputable def reaOk (xs : List I5) (b : Bd) (ms : List Int) : Bool := GP.fitsB xs b && EG.rises 8 ms
noncomputable def reaA (xs : List I5) (b : Bd) (ms : List Int) : List (Int × Int × List Int) := if reaOk xs b ms = true then reaL xs b ms else []
theorem allL_yes {xs : List I5} {b : Bd} {ms : List Int} {k : Nat} (hk : k < ms.length) (h : there xs b (ms.getD k 0) = true) : allL xs b (ms.take (k + 1)) = allL xs b (ms.take k) ++ [one xs b (ms.getD k 0)] := by
  unfold allL; rw [M4.take_snoc _ _ hk, List.filter_append, List.filter_cons, if_pos h, List.map_append]; rfl
theorem allL_no {xs : List I5} {b : Bd} {ms : List Int} {k : Nat} (hk : k < ms.length) (h : there xs b (ms.getD k 0) = false) : allL xs b (ms.take (k + 1)) = allL xs b (ms.take k) := by
  unfold allL; rw [M4.take_snoc _ _ hk, List.filter_append, List.filter_cons, h]; simp
def okOne (xs : List I5) (b : Bd) (m : Int) : Bool := there xs b m && inTime (b.md + b.lf) (one xs b m) && near b.hp (one xs b m)
theorem reaL_yes {xs : List I5} {b : Bd} {ms : List Int} {k : Nat} (hk : k < ms.length) (h : okOne xs b (ms.getD k 0) = true) : reaL xs b (ms.take (k + 1)) = reaL xs b (ms.take k) ++ [one xs b (ms.getD k 0)] := by
  simp only [okOne, Bool.and_eq_true] at h
  unfold reaL; rw [allL_yes hk h.1.1, List.filter_append, List.filter_append, List.filter_cons, if_pos h.1.2, List.filter_nil, List.filter_cons, if_pos h.2]; rfl
theorem reaL_no {xs : List I5} {b : Bd} {ms : List Int} {k : Nat} (hk : k < ms.length) (h : okOne xs b (ms.getD k 0) = false) : reaL xs b (ms.take (k + 1)) = reaL xs b (ms.take k) := by
  cases h1 : there xs b (ms.getD k 0) with
  | false => unfold reaL; rw [allL_no hk h1]
  | true =>
    unfold okOne at h
    rw [h1, Bool.true_and] at h
    unfold reaL; rw [allL_yes hk h1]
    generalize one xs b (ms.getD k 0) = r at *
    rw [List.filter_append, List.filter_append, List.filter_cons]
    cases h2 : inTime (b.md + b.lf) r with
    | false => simp
    | true =>
      rw [h2, Bool.true_and] at h
      simp [h]
theorem allL_len (xs : List I5) (b : Bd) (ms : List Int) : (allL xs b ms).length ≤ ms.length := by unfold allL; rw [List.length_map]; exact List.length_filter_le _ _
theorem reaL_len (xs : List I5) (b : Bd) (ms : List Int) : (reaL xs b ms).length ≤ ms.length := by
  unfold reaL
  exact Nat.le_trans (List.length_filter_le _ _) (Nat.le_trans (List.length_filter_le _ _) (allL_len xs b ms))
theorem said_filter (f : Int × Int × List Int → Bool) : ∀ ps : List Rq, (ps.filter (fun p => f p.said)).map Rq.said = (ps.map Rq.said).filter f := fun ps => by rw [List.filter_map]; rfl
theorem rea_no {xs : List I5} {b : Bd} {ms : List Int} (h : reaOk xs b ms = false) : reaA xs b ms = [] := by unfold reaA; rw [h]; rfl
theorem rea_yes {xs : List I5} {b : Bd} {ms : List Int} (h : reaOk xs b ms = true) : reaA xs b ms = reaL xs b ms := by unfold reaA; rw [if_pos h]
end RQ
end Go.Proofs.Ytpdmbobcbehilaa

/- What is told of a reach: its member, its time, how many contacts. -/
namespace Go.Proofs.Ytpdmbobcbehilaa
open Go.RowKit
set_option maxHeartbeats 800000 in
set_option maxRecDepth 100000 in
theorem timeRe_any (p : Rq) (w : World) : Calls Try.prog 32 #[p.v] w fun e w' => e = .returned (.int .i64 p.t) ∧ Below w.heap.size w w' := by
  obtain ⟨m, t, os, a, c⟩ := p
  have hB : ∀ o, Below w.heap.size w (w.alloc o) := fun o => (Below.refl _ w).alloc (Nat.le_refl _) o
  go_enter Try.func32, Try.ntmps32
  go_wp2
  go_ret
  exact ⟨rfl, hB _⟩
set_option maxHeartbeats 800000 in
set_option maxRecDepth 100000 in
theorem hopsRe_any (p : Rq) (w : World) : Calls Try.prog 34 #[p.v] w fun e w' => e = .returned (.int .i64 (p.os.length : Int)) ∧ Below w.heap.size w w' := by
  obtain ⟨m, t, os, a, c⟩ := p
  have hB : ∀ o, Below w.heap.size w (w.alloc o) := fun o => (Below.refl _ w).alloc (Nat.le_refl _) o
  go_enter Try.func34, Try.ntmps34
  go_wp2
  go_ret
  exact ⟨rfl, hB _⟩
end Go.Proofs.Ytpdmbobcbehilaa

/- RouteTo, the program's. -/
namespace Go.Proofs.Ytpdmbobcbehilaa
open Go.RowKit
set_option linter.unusedSimpArgs false in
set_option maxHeartbeats 3200000 in
set_option maxRecDepth 100000 in
theorem rowTo_any (a : Option Addr) (ca : Nat) (xs : List I5) (fn tn : Nat) (s : PN.St) (L : List Int) (w : World) (hok : PN.okP xs = true) (hf8 : fn < 8) (hBk : PN.Back xs fn s L tn []) (hin : MI5.RowAt w a xs) :
    Calls Try.prog 69 #[.agg (PN.jc (fn : Int) (PN.wb s) (PN.lb s)).toArray, .slice a xs.length ca, .int .i64 (tn : Int)] w fun e w' => ∃ a1 c1, e = .returned (.slice a1 L.length c1) ∧ w'.ownsRow w.heap.size 3 1 (.slice a1 L.length c1) L.length (M4.iv L) ∧ Below w.heap.size w w' := by
  obtain ⟨i0, hi, hz0, hz1, hz2⟩ := info_parts Try.info3
  have HI : Hid (MI5.RowAt w a xs) := hin
  have HOK : Hid _ := hok
  have GC : Hid (∀ k, k < xs.length → PN.Good (MI5.at_ xs k)) := fun k hk => PN.okP_good hok hk
  have HJ : Hid _ := MA.Rg.new w (PN.jc (fn : Int) (PN.wb s) (PN.lb s)) 90
  have HB0 : Hid (Below w.heap.size w (w.alloc (.cells (PN.jc (fn : Int) (PN.wb s) (PN.lb s)).toArray 90))) := (Below.refl _ w).alloc (Nat.le_refl _) _
  have HBK : Hid _ := hBk
  have RV : Hid (∀ (base g cap : Nat) (zs : List Int) (W : World), zs.length ≤ 1048576 → base ≤ W.heap.size → W.ownsRow base 3 1 (.slice (some ⟨g, 0, none⟩) zs.length cap) zs.length (M4.iv zs) → Calls Try.prog 77 #[.slice (some ⟨g, 0, none⟩) zs.length cap] W fun e w' => e = .returned (.tuple #[]) ∧ w'.ownsRow base 3 1 (.slice (some ⟨g, 0, none⟩) zs.length cap) zs.length (M4.iv zs.reverse) ∧ Below base W w') := fun base g cap zs W h1 h2 h3 => reverse_any base g cap zs W h1 h2 h3
  clear hin hok hBk
  go_enter Try.func69, Try.ntmps69
  generalize hW0 : w.alloc (.cells (PN.jc (fn : Int) (PN.wb s) (PN.lb s)).toArray 90) = W0 at HJ HB0
  have HSZ : Hid (W0.heap.size = w.heap.size + 1) := by show _ = _; rw [← hW0]; simp
  have HB1 : Hid (Below W0.heap.size W0 (W0.alloc (.cells #[] 3))) := (Below.refl _ W0).alloc (Nat.le_refl _) _
  go_wp2
  generalize hW1 : W0.alloc (.cells #[] 3) = W1 at *
  go_loopw [7, 8] (fun rv nv wr => ∃ (v : Nat) (acc : List Int) (g cap : Nat), nv = .int .i64 v ∧ rv = .slice (some ⟨g, 0, none⟩) acc.length cap ∧ Hid (PN.Back xs fn s L v acc) ∧ wr.ownsRow W0.heap.size 3 1 (.slice (some ⟨g, 0, none⟩) acc.length cap) acc.length (M4.iv acc.reverse) ∧ Below W0.heap.size W0 wr) (fun rv _ _ => 8 - PN.lenV rv)
  case atStart => exact ⟨tn, [], W0.heap.size, 0, rfl, rfl, HBK, by have h := PN.own_lit0 W0 W0.heap.size (Nat.le_refl _); rw [hW1] at h; exact h, HB1.out⟩
  case round =>
    clear HBK HB1 hW1
    obtain ⟨v, acc, g, cap, rfl, rfl, hB, hown, hb⟩ := hrel
    have hJr := MA.Rg.below HJ.out hb HJ.out.lt
    have cf : wr.cell? ⟨w.heap.size, 0, none⟩ = some (.int .i64 (fn : Int)) := by have := hJr.cell (PN.jc_f _ _ _); rwa [Nat.zero_add] at this
    have hjb := hJr.lt
    by_cases hv : v = fn
    · subst hv
      have hLe := PN.Back.end_ hB.out
      have hlen : acc.length ≤ 8 := by obtain ⟨_, m, _, _, h, _⟩ := hB.out.go; omega
      have HLE : Hid _ := hLe
      have HO : Hid (wr.ownsRow W0.heap.size 3 1 (.slice (some ⟨g, 0, none⟩) acc.length cap) acc.length (M4.iv acc.reverse)) := hown
      clear hB hown HOK GC hLe hi hz0 hz1 hz2 hJr
      have hrl : acc.reverse.length = acc.length := by simp
      have RV1 : Hid (Calls Try.prog 77 #[.slice (some ⟨g, 0, none⟩) acc.length cap] wr fun e w' => e = .returned (.tuple #[]) ∧ w'.ownsRow W0.heap.size 3 1 (.slice (some ⟨g, 0, none⟩) acc.length cap) acc.length (M4.iv acc) ∧ Below W0.heap.size wr w') := by
        have h := RV.out W0.heap.size g cap acc.reverse wr (by rw [hrl]; omega) hb.size (by rw [hrl]; exact HO.out)
        rw [hrl, List.reverse_reverse] at h
        exact h
      clear RV hrl HO
      go_wp2_with fail
      refine Calls.mono RV1.out ?_
      rintro e w3 ⟨rfl, hown3, hb3⟩
      have HO3 : Hid (w3.ownsRow W0.heap.size 3 1 (.slice (some ⟨g, 0, none⟩) acc.length cap) acc.length (M4.iv acc)) := hown3
      have HBB : Hid (Below w.heap.size w w3) := HB0.out.trans ((hb.trans hb3).mono HB0.out.size)
      clear hown3 hb3 RV1 cf
      go_wp2
      go_ret
      exact ⟨some ⟨g, 0, none⟩, cap, by rw [HLE.out]; rfl, by rw [HLE.out]; exact CS6.own_base HO3.out HB0.out.size, HBB.out⟩
    · obtain ⟨k, hk1, hk2, hk3, hk4⟩ := PN.Back.next HOK.out hB.out hv
      have hv8 := hB.out.lt
      have vv8 : (v : Int) < 8 := by omega
      have kk0 : (0 : Int) ≤ (k : Int) := by omega
      have kk1 : (k : Int) < (xs.length : Int) := by omega
      have hvf : ((v : Int) != (fn : Int)) = true := by simp; omega
      have cl : wr.cell? ⟨w.heap.size, 9 + v, none⟩ = some (.int .i64 (k : Int)) := by have := (PN.rg_l hJr hv8).1; simp only [PN.lb, hk1, PN.kI] at this; exact this
      have G := GC.out k hk2
      obtain ⟨i, hii⟩ := Int.eq_ofNat_of_zero_le G.f0
      have hin : (MI5.at_ xs k).a0.toNat = i := by rw [hii]; rfl
      rw [hin] at hk4
      obtain ⟨b4, off4, hab, hlt4, e0, -⟩ := (HI.out.below HB0.out).at hk2
      rw [hii] at e0
      have HB2 : Hid _ := hk4
      have LK : Hid (s.la v = some k) := hk1
      have HOA : Hid (World.ownsRow (wr.alloc (.cells #[.int .i64 (k : Int)] 3)) W0.heap.size 3 1 (.slice (some ⟨g, 0, none⟩) acc.length cap) acc.length (M4.iv acc.reverse)) := World.ownsRow.alloc hown (.cells #[.int .i64 (k : Int)] 3)
      have HO : Hid (World.ownsRow wr W0.heap.size 3 1 (.slice (some ⟨g, 0, none⟩) acc.length cap) acc.length (M4.iv acc.reverse)) := hown
      have hbs := hb.size
      clear hB G hin hk4 hk1 hown hJr
      go_wp2_with (at_builtin; refine wpList_append_own _ rfl _ _ 25 rfl W0.heap.size 3 i0 (.int .i64 0) 1 8 Try.underlying25 hi hz0 hz1 hz2 rfl (by decide) _ _ _ rfl HOA.out ⟨wr.heap.size, 0, none⟩ 1 1 [.int .i64 (k : Int)] rfl rfl ?c1 ?c2 ?c3 ?c4 ?c5 ?_)
      case c1 => exact M2.new1 _ _ _
      case c2 => exact M2.one1 _ _
      case c3 => unfold maxLen; omega
      case c4 => omega
      case c5 => simp; omega
      intro v' w3 hown1 hgrow hnn
      have hb3 : Below W0.heap.size W0 w3 := (hb.alloc hbs _).grown hgrow (by simp; omega) (fun j hj => (World.ownsRow.lt HO.out j hj).1)
      have hJ3 := MA.Rg.below HJ.out hb3 HJ.out.lt
      have cl3 : w3.cell? ⟨w.heap.size, 9 + v, none⟩ = some (.int .i64 (k : Int)) := by have := (PN.rg_l hJ3 hv8).1; simp only [PN.lb, LK.out, PN.kI] at this; exact this
      have hjb3 := hJ3.lt
      have c0 := (hb3.cell (p := ⟨b4, off4 + k * 5, none⟩) hlt4).trans e0
      have hb4 : b4 < w3.heap.size := Nat.lt_of_lt_of_le hlt4 hb3.size
      obtain ⟨g', cap', rfl⟩ : ∃ g' cap', v' = .slice (some ⟨g', 0, none⟩) (acc.length + 1) cap' := by
        rcases hown1.2 with ⟨h1, h2⟩ | ⟨g', cap', cur, h1, _⟩
        · omega
        · exact ⟨g', cap', h1⟩
      have R1 : Hid (w3.ownsRow W0.heap.size 3 1 (.slice (some ⟨g', 0, none⟩) ((k : Int) :: acc).length cap') ((k : Int) :: acc).length (M4.iv ((k : Int) :: acc).reverse)) := by
        show w3.ownsRow _ _ _ _ _ _
        rw [List.reverse_cons, List.length_cons]
        have e : M4.iv (acc.reverse ++ [(k : Int)]) = M4.iv acc.reverse ++ [.int .i64 (k : Int)] := by simp [M4.iv]
        rw [e]; exact hown1
      clear hown1 hgrow hnn HO HOA cl cf e0 hJ3 hb LK
      subst hab
      go_wp2
      go_roundw
      case rel => exact ⟨i, (k : Int) :: acc, g', cap', rfl, rfl, HB2, R1.out, hb3⟩
      case measure => simp [PN.lenV]; omega
set_option linter.unusedSimpArgs false in
set_option maxHeartbeats 3200000 in
set_option maxRecDepth 100000 in
theorem implRoute_any (a : Option Addr) (ca : Nat) (xs : List I5) (f n t : Int) (w : World) (hn : xs.length ≤ 1048576) (hin : MI5.RowAt w a xs) :
    Calls Try.prog 55 #[.slice a xs.length ca, .int .i64 f, .int .i64 n, .int .i64 t] w fun e w' => ∃ a1 c1, e = .returned (.tuple #[.slice a1 (PN.routeL xs f n t).length c1, .int .i64 (PN.tellN (PN.routeM xs f n t)), .bool (PN.tellB (PN.routeM xs f n t))]) ∧ w'.ownsRow w.heap.size 3 1 (.slice a1 (PN.routeL xs f n t).length c1) (PN.routeL xs f n t).length (M4.iv (PN.routeL xs f n t)) ∧ Below w.heap.size w w' := by
  have ST : Hid (∀ W : World, MI5.RowAt W a xs → Calls Try.prog 66 #[.slice a xs.length ca, .int .i64 f, .int .i64 n] W fun e w' => e = .returned (.bool (PN.startOk xs f n)) ∧ Below W.heap.size W w') := fun W h => isStart_any a ca xs f n W hn h
  have NT : Hid (∀ W : World, Calls Try.prog 52 #[.int .i64 t] W fun e w' => e = .returned (.bool (decide (0 ≤ t ∧ t ≤ 7))) ∧ W = w') := fun W => nodeI_any t W
  have HI : Hid (MI5.RowAt w a xs) := hin
  clear hin
  obtain ⟨N, hN⟩ : ∃ N, PN.tellN (PN.routeM xs f n t) = N := ⟨_, rfl⟩
  obtain ⟨T, hT⟩ : ∃ T, PN.tellB (PN.routeM xs f n t) = T := ⟨_, rfl⟩
  obtain ⟨L, hL⟩ : ∃ L, PN.routeL xs f n t = L := ⟨_, rfl⟩
  have NO : Hid (PN.askOk xs f n t = false → N = 0 ∧ T = false ∧ L = []) := fun h => by
    have hT' : PN.tellB (PN.routeM xs f n t) = false := by rw [PN.route_no h]; rfl
    rw [← hN, ← hT, ← hL, PN.routeL_no hT', PN.route_no h]; exact ⟨rfl, rfl, rfl⟩
  have YES : Hid (PN.askOk xs f n t = true → N = PN.tellN ((PN.fin xs (PN.st0 f n)).wh t.toNat) ∧ T = PN.tellB ((PN.fin xs (PN.st0 f n)).wh t.toNat) ∧ (T = false → L = []) ∧ (T = true → L = PN.way xs (PN.fin xs (PN.st0 f n)).la f.toNat 8 t.toNat)) := fun h => by
    rw [← hN, ← hT, ← hL, ← PN.route_yes h]; exact ⟨rfl, rfl, PN.routeL_no, PN.routeL_yes⟩
  rw [hN, hT, hL]
  clear hN hT hL
  obtain ⟨q3, h3⟩ : ∃ q, decide (0 ≤ t ∧ t ≤ 7) = q := ⟨_, rfl⟩
  obtain ⟨q0, h0⟩ : ∃ q, PN.startOk xs f n = q := ⟨_, rfl⟩
  have hS : PN.askOk xs f n t = (q0 && q3) := by rw [← h0, ← h3]; rfl
  rw [h0] at ST
  rw [h3] at NT
  have HS : Hid _ := hS
  clear h0 h3 hS
  go_enter Try.func55, Try.ntmps55
  go_wp2_with fail
  refine (ST.out _ HI.out).mono ?_
  rintro e w1 ⟨rfl, hb1⟩
  have HI1 : Hid (MI5.RowAt w1 a xs) := HI.out.below hb1
  clear ST HI
  cases q0 with
  | false =>
    obtain ⟨rfl, rfl, rfl⟩ := NO.out HS.out
    clear NO YES NT HS HI1
    go_wp2
    go_ret3
    exact ⟨none, 0, rfl, World.ownsRow_nil _ _ _ _, hb1⟩
  | true =>
    go_wp2_with fail
    refine (NT.out _).mono ?_
    rintro e w' ⟨rfl, rfl⟩
    clear NT
    cases q3 with
    | false =>
      obtain ⟨rfl, rfl, rfl⟩ := NO.out HS.out
      clear NO YES HS HI1
      go_wp2
      go_ret3
      exact ⟨none, 0, rfl, World.ownsRow_nil _ _ _ _, hb1⟩
    | true =>
      have hask : PN.askOk xs f n t = true := HS.out
      obtain ⟨hst, ht0, ht1⟩ := PN.ask_is hask
      obtain ⟨hok, hf0, hf1, hn0, hn1⟩ := PN.start_is hst
      have HY : Hid _ := YES.out hask
      have JF : Hid (∀ W : World, MI5.RowAt W a xs → Calls Try.prog 67 #[.slice a xs.length ca, .int .i64 f, .int .i64 n] W fun e w' => e = .returned (.agg (PN.jc f (PN.wb (PN.fin xs (PN.st0 f n))) (PN.lb (PN.fin xs (PN.st0 f n)))).toArray) ∧ Below W.heap.size W w') := fun W hr => journeyFrom_any a ca xs f n W hok hf0 hf1 hn0 hn1 hr
      have HVI : Hid (∃ rk, PN.Via xs f.toNat (PN.fin xs (PN.st0 f n)) rk) := PN.via_fin hok (PN.st0_ok hn0 hn1) (PN.ord_st0 hok) (PN.via_st0 xs hf0 hf1)
      have HOS : Hid (PN.okS (PN.fin xs (PN.st0 f n)).wh) := PN.fin_okS hok (PN.st0_ok hn0 hn1)
      have HOK : Hid _ := hok
      clear NO YES HS hask hst hok
      obtain ⟨tn, rfl⟩ := Int.eq_ofNat_of_zero_le ht0
      obtain ⟨fn, rfl⟩ := Int.eq_ofNat_of_zero_le hf0
      have ht8 : tn < 8 := by omega
      have hf8 : fn < 8 := by omega
      have tt8 : (tn : Int) < 8 := by omega
      generalize PN.fin xs (PN.st0 (fn : Int) n) = s at *
      rw [show ((tn : Int)).toNat = tn from rfl, show ((fn : Int)).toNat = fn from rfl] at HY
      rw [show ((fn : Int)).toNat = fn from rfl] at HVI
      go_wp2_with fail
      refine (JF.out _ HI1.out).mono ?_
      rintro e w2 ⟨rfl, hb2⟩
      have HRN : Hid (MA.Rg (w2.alloc (.cells (PN.jc 0 (fun _ => 0) (fun _ => 0)).toArray 90)) w2.heap.size 0 (PN.jc 0 (fun _ => 0) (fun _ => 0))) := MA.Rg.new _ _ _
      have HRP : Hid (MA.Rg ((w2.alloc (.cells (PN.jc 0 (fun _ => 0) (fun _ => 0)).toArray 90)).setCells w2.heap.size 0 (PN.jc (fn : Int) (PN.wb s) (PN.lb s))) w2.heap.size 0 (PN.jc (fn : Int) (PN.wb s) (PN.lb s))) := HRN.out.put (by rw [PN.jc_len, PN.jc_len])
      have HBP : Hid (Below w2.heap.size w2 ((w2.alloc (.cells (PN.jc 0 (fun _ => 0) (fun _ => 0)).toArray 90)).setCells w2.heap.size 0 (PN.jc (fn : Int) (PN.wb s) (PN.lb s)))) := MA.below_cells (Nat.le_refl _) _ _ _ ((Below.refl _ w2).alloc (Nat.le_refl _) _)
      have HB2 : Hid (Below w.heap.size w w2) := hb1.trans (hb2.mono hb1.size)
      have HI2 : Hid (MI5.RowAt w2 a xs) := HI1.out.below hb2
      clear JF HI1 hb1 hb2
      have TL : Hid (∀ W : World, Calls Try.prog 68 #[.float .f64 (s.wh tn).b] W fun e w' => e = .returned (.tuple #[.int .i64 (PN.tellN (s.wh tn)), .bool (PN.tellB (s.wh tn))]) ∧ W = w') := fun W => tell_any _ W (.inr (HOS.out tn))
      go_wp2_with (first
        | (refine MA.alloc_z rfl 90 rfl _ _ Try.infoJ ?_)
        | (refine MA.store_m rfl 90 _ _ rfl rfl rfl (vs := PN.jc (fn : Int) (PN.wb s) (PN.lb s)) (cs := PN.jc 0 (fun _ => 0) (fun _ => 0)) ?_ Try.sizeJ (PN.jc_len _ _ _) (PN.jc_len _ _ _) (PN.jc_one _ _ _) ?_; exact HRN.out; clear HRN; generalize World.setCells _ _ _ _ = W3 at *; have ct : W3.cell? ⟨w2.heap.size, 1 + tn, none⟩ = some (.float .f64 (s.wh tn).b) := (PN.rg_w HRP.out ht8).1; have hl3 := HRP.out.lt))
      refine (TL.out _).mono ?_
      rintro e w' ⟨rfl, rfl⟩
      have HB3 : Hid (Below w.heap.size w W3) := HB2.out.trans (HBP.out.mono HB2.out.size)
      have HI3 : Hid (MI5.RowAt W3 a xs) := HI2.out.below HBP.out
      clear TL ct HBP HI2 HB2
      generalize w2.heap.size = jb at *
      have okt := HOS.out tn
      cases hm : s.wh tn with
      | ago => rw [hm] at okt; exact absurd okt id
      | inf =>
        rw [hm] at HY
        obtain ⟨rfl, rfl, hLL, -⟩ := HY.out
        obtain rfl := hLL rfl
        clear HY HOK HVI HOS HRP HI3 hm okt
        go_wp2
        go_ret3
        exact ⟨none, 0, rfl, World.ownsRow_nil _ _ _ _, HB3.out⟩
      | fin p =>
        rw [hm] at HY
        obtain ⟨hNp, hTp, -, hLL⟩ := HY.out
        have hTp' : T = true := hTp
        have hLw := hLL hTp'
        obtain ⟨rk, hV⟩ := HVI.out
        have HB : PN.Back xs fn s L tn [] := by rw [hLw]; exact PN.Back.start hV ht8 hm
        have RT : Hid (∀ W : World, MI5.RowAt W a xs → Calls Try.prog 69 #[.agg (PN.jc (fn : Int) (PN.wb s) (PN.lb s)).toArray, .slice a xs.length ca, .int .i64 (tn : Int)] W fun e w' => ∃ a1 c1, e = .returned (.slice a1 L.length c1) ∧ w'.ownsRow W.heap.size 3 1 (.slice a1 L.length c1) L.length (M4.iv L) ∧ Below W.heap.size W w') := fun W hr => rowTo_any a ca xs fn tn s L W HOK.out hf8 HB hr
        have HN : Hid (PN.tellN (.fin p) = N) := hNp.symm
        have HT : Hid (T = true) := hTp'
        clear HY hLL hV HVI HOS hm hLw HB hNp hTp hTp' HOK okt
        rw [show PN.tellB (.fin p) = true from rfl, HN.out]
        go_wp2_with (refine MA.load_m rfl 90 _ rfl rfl (cs := PN.jc (fn : Int) (PN.wb s) (PN.lb s)) ?_ Try.underlying90 rfl Try.sizeJ (PN.jc_len _ _ _) ?_; exact HRP.out; clear HRP)
        refine (RT.out _ HI3.out).mono ?_
        rintro e w4 ⟨a1, c1, rfl, hown4, hb4⟩
        have HO4 : Hid _ := hown4
        have HB4 : Hid (Below w.heap.size w w4) := HB3.out.trans (hb4.mono HB3.out.size)
        clear RT hown4 hb4
        go_wp2
        go_ret3
        exact ⟨a1, c1, by rw [HT.out]; rfl, CS6.own_base HO4.out HB3.out.size, HB4.out⟩
end Go.Proofs.Ytpdmbobcbehilaa

/- Who is reached, the specification's: l17Reach, l17Ask, ReachAll. -/
namespace Go.Proofs.Ytpdmbobcbehilaa
open Go.RowKit
set_option linter.unusedSimpArgs false in
set_option maxHeartbeats 3200000 in
set_option maxRecDepth 100000 in
theorem l17Reach_any (a d : Option Addr) (cap cd : Nat) (xs : List I5) (b : Bd) (ms : List Int) (w : World) (hf : GP.fitsB xs b = true) (hm : ms.length ≤ 8) (hn : xs.length ≤ 1048576) (hin : MI5.RowAt w a xs) (hin2 : M4.IntsAt w d ms) :
    Calls Try.prog 26 #[.slice a xs.length cap, b.v, .slice d ms.length cd] w fun e w' => ∃ a1 c1 ps, e = .returned (.slice a1 (List.length ps) c1) ∧ RQ.Own 59 w' w.heap.size (.slice a1 ps.length c1) ps ∧ ps.map Rq.said = RQ.reaL xs b ms ∧ Below w.heap.size w w' := by
  obtain ⟨i2, hi', hz0', hz1', hz2'⟩ := info_parts Try.infoRc
  have P2 : Hid (∀ (t : Int) (W : World), Below w.heap.size w W → Calls Try.prog 49 #[.slice a xs.length cap, .int .i64 b.fr, .int .i64 b.md, .int .i64 t] W fun e w' => ∃ a1 c1, e = .returned (.tuple #[.slice a1 (PN.routeL xs b.fr b.md t).length c1, .int .i64 (PN.tellN (PN.routeM xs b.fr b.md t)), .bool (PN.tellB (PN.routeM xs b.fr b.md t))]) ∧ w'.ownsRow W.heap.size 3 1 (.slice a1 (PN.routeL xs b.fr b.md t).length c1) (PN.routeL xs b.fr b.md t).length (M4.iv (PN.routeL xs b.fr b.md t)) ∧ Below W.heap.size W w') := fun t W h => specRoute_any a cap xs b.fr b.md t W hn (hin.below h)
  have HMS : Hid (M4.IntsAt w d ms) := hin2
  obtain ⟨_, _, _, _, ⟨hm0, hm1⟩, ⟨hf0, hf1⟩, _⟩ := GP.fits_is hf
  have YES : Hid (∀ k, k < ms.length → PN.tellB (PN.routeM xs b.fr b.md (ms.getD k 0)) = true → decide (PN.tellN (PN.routeM xs b.fr b.md (ms.getD k 0)) ≤ b.md + b.lf) = true → decide (((PN.routeL xs b.fr b.md (ms.getD k 0)).length : Int) ≤ b.hp) = true → RQ.reaL xs b (ms.take (k + 1)) = RQ.reaL xs b (ms.take k) ++ [(ms.getD k 0, PN.tellN (PN.routeM xs b.fr b.md (ms.getD k 0)), PN.routeL xs b.fr b.md (ms.getD k 0))]) := fun k hk h1 h2 h3 => RQ.reaL_yes hk (by unfold RQ.okOne RQ.there RQ.inTime RQ.near RQ.one; rw [h1, h2, h3]; rfl)
  have NO : Hid (∀ k, k < ms.length → (PN.tellB (PN.routeM xs b.fr b.md (ms.getD k 0)) && decide (PN.tellN (PN.routeM xs b.fr b.md (ms.getD k 0)) ≤ b.md + b.lf) && decide (((PN.routeL xs b.fr b.md (ms.getD k 0)).length : Int) ≤ b.hp)) = false → RQ.reaL xs b (ms.take (k + 1)) = RQ.reaL xs b (ms.take k)) := fun k hk h => RQ.reaL_no hk h
  have ML : Hid (∀ k, (RQ.reaL xs b (ms.take k)).length ≤ 8) := fun k => by have := RQ.reaL_len xs b (ms.take k); rw [List.length_take] at this; omega
  have RL : Hid (∀ t, (PN.routeL xs b.fr b.md t).length ≤ 1048576) := fun t => PN.routeL_len _ _ _ _
  have Z0 : Hid (RQ.reaL xs b (ms.take 0) = []) := (show _ = _ from by rw [List.take_zero]; rfl)
  have ZN : Hid (RQ.reaL xs b (ms.take ms.length) = RQ.reaL xs b ms) := (show _ = _ from by rw [List.take_length])
  have BA := BdAt.box w b 33
  have BB := (Below.refl _ w).alloc (Nat.le_refl _) (.cells #[.int .i64 b.fr, .int .i64 b.to, .bool b.gr, .int .i64 b.md, .int .i64 b.no, .int .i64 b.lf, .int .i64 b.hp, .int .i64 b.of, .int .i64 b.tl, .string b.py] 33)
  clear hin hin2 hf
  generalize RQ.reaL xs b ms = R at *
  generalize hR : (fun k => RQ.reaL xs b (ms.take k)) = RK at *
  have e1 : ∀ k, RQ.reaL xs b (ms.take k) = RK k := fun k => by rw [← hR]
  clear hR
  simp only [e1] at YES NO ML Z0 ZN
  clear e1
  generalize hR : (fun t => PN.routeM xs b.fr b.md t) = RM at *
  have e1 : ∀ t, PN.routeM xs b.fr b.md t = RM t := fun t => by rw [← hR]
  clear hR
  simp only [e1] at P2 YES NO
  clear e1
  generalize hR : (fun t => PN.routeL xs b.fr b.md t) = RT at *
  have e1 : ∀ t, PN.routeL xs b.fr b.md t = RT t := fun t => by rw [← hR]
  clear hR
  simp only [e1] at P2 YES NO RL
  clear e1
  obtain ⟨fr, to, gr, md, no, lf, hp, of, tl, py⟩ := b
  go_enter Try.func26, Try.ntmps26
  generalize hW1 : w.alloc _ = W1 at *
  go_wp2
  go_loopw [7, 9, 10, 11, 12, 15] (fun u _ _ _ _ iv wr => ∃ (k : Nat) (ps : List Rq), iv = .int .i64 k ∧ k ≤ ms.length ∧ Hid (ps.map Rq.said = RK k) ∧ Hid (RQ.Own 59 wr W1.heap.size u ps) ∧ Below W1.heap.size W1 wr) (fun _ _ _ _ _ iv _ => (ms.length - intOf iv).toNat)
  case atStart => exact ⟨0, [], rfl, by omega, by show _ = _; rw [Z0.out]; rfl, RQ.Own.nil _ _ _, Below.refl _ _⟩
  case round =>
    obtain ⟨k, ps, rfl, hk, hP, hO, hb⟩ := hrel
    have BA2 := BA.below hb BA.1
    have BB2 := BB.trans (hb.mono BB.size)
    have hbs := hb.size
    have hps : ps.length ≤ 8 := by have := congrArg List.length hP.out; rw [List.length_map] at this; rw [this]; exact ML.out k
    by_cases hlk : k < ms.length
    · obtain ⟨b1, off1, hd1, hlt1, hc1⟩ := M4.IntsAt.at (M4.IntsAt.below HMS.out BB2) hlk
      have Y1 : Hid _ := YES.out k hlk
      have N1 : Hid _ := NO.out k hlk
      generalize ms.getD k 0 = z at *
      have P2' : Hid (Calls _ _ _ _ _) := P2.out z wr BB2
      have hrl := RL.out z
      generalize RT z = L at *
      generalize PN.tellN (RM z) = tn at *
      generalize hTB : PN.tellB (RM z) = T at *
      clear hTB
      obtain ⟨hlt, c0, c1, c2, c3, c4, c5, c6, c7, c8, c9⟩ := id BA2
      clear c1 c2 c4 c5 c6 c7 c8 c9
      subst hd1
      go_wp2_with fail
      refine Calls.mono P2'.out ?_
      rintro e w2 ⟨a2, ca2, rfl, ho2, hb2⟩
      clear c0 c3 hlt hc1 P2'
      have BA3 := BA2.below hb2 BA2.1
      have BB3 := BB2.trans (hb2.mono BB2.size)
      have HB3 : Hid (Below W1.heap.size W1 w2) := hb.trans (hb2.mono hbs)
      have HO2 : Hid _ := hO.out.below hb2
      have HN2 : Hid (NR.In w2 wr.heap.size a2 L) := NR.In.of_own ho2
      have HOLD : Hid _ := hO.out.rows.lt
      have hb2s := hb2.size
      clear hb2 ho2 BA2 hO
      obtain ⟨hlt, c0, c1, c2, c3, c4, c5, c6, c7, c8, c9⟩ := id BA3
      clear c0 c1 c2 c4 c7 c8 c9
      cases T with
      | false =>
        have HR : Hid (RK (k + 1) = RK k) := N1.out (by simp)
        clear Y1 N1 HN2 HOLD
        go_wp2
        go_roundw
        case rel => exact ⟨k + 1, ps, by go_num, by omega, by show _ = _; rw [HR.out]; exact hP.out, HO2, HB3.out⟩
        case measure => simp [intOf]; omega
      | true =>
        cases h1 : decide (tn ≤ md + lf) with
        | false =>
          have HR : Hid (RK (k + 1) = RK k) := N1.out (by simp [h1])
          clear Y1 N1 HN2 HOLD
          go_wp2
          go_roundw
          case rel => exact ⟨k + 1, ps, by go_num, by omega, by show _ = _; rw [HR.out]; exact hP.out, HO2, HB3.out⟩
          case measure => simp [intOf]; omega
        | true =>
          cases h2 : decide ((L.length : Int) ≤ hp) with
          | false =>
            have HR : Hid (RK (k + 1) = RK k) := N1.out (by simp [h2])
            clear Y1 N1 HN2 HOLD
            go_wp2
            go_roundw
            case rel => exact ⟨k + 1, ps, by go_num, by omega, by show _ = _; rw [HR.out]; exact hP.out, HO2, HB3.out⟩
            case measure => simp [intOf]; omega
          | true =>
            have HR : Hid (RK (k + 1) = RK k ++ [(z, tn, L)]) := Y1.out (by first | rfl | trivial) h1 h2
            have HP : Hid _ := hP.out
            clear Y1 N1 hP
            have HLIT : Hid (RQ.Own 59 (w2.alloc (.cells #[.int .i64 z, .int .i64 tn, .slice a2 L.length ca2] 59)) W1.heap.size u7 ps) := HO2.out.below ((Below.refl _ w2).alloc (Nat.le_refl _) _)
            go_wp2_with (at_builtin; refine wpList_append_own _ rfl _ _ 28 rfl W1.heap.size 59 i2 (.agg #[.int .i64 0, .int .i64 0, .slice none 0 0]) 3 40 Try.underlying28 hi' hz0' hz1' hz2' rfl (by decide) _ _ _ rfl HLIT.out.out ⟨w2.heap.size, 0, none⟩ 1 1 [.int .i64 z, .int .i64 tn, .slice a2 L.length ca2] rfl rfl ?c1 ?c2 ?c3 ?c4 ?c5 ?_)
            case c1 => exact RQ.new3 _ _ _ _ _ _ rfl
            case c2 => exact RQ.one3 ⟨z, tn, L, a2, ca2⟩
            case c3 => unfold maxLen; omega
            case c4 => omega
            case c5 => have := HB3.out.size; simp; omega
            intro v' w6 hown1 hgrow _
            have HS : Hid (RQ.Own 59 w6 W1.heap.size v' (ps ++ [⟨z, tn, L, a2, ca2⟩])) := RQ.Own.snoc (q := ⟨z, tn, L, a2, ca2⟩) (by decide) HLIT.out (HN2.out.below ((Below.refl _ w2).alloc (Nat.le_refl _) _)) (by have := BB2.size; omega) HOLD.out hgrow hown1
            have HB6 : Hid (Below W1.heap.size W1 w6) := (HB3.out.alloc HB3.out.size _).grown hgrow (by have := HB3.out.size; simp; omega) (fun j hj => (HLIT.out.out.lt j hj).1)
            have hsl : (ps ++ [(⟨z, tn, L, a2, ca2⟩ : Rq)]).map Rq.said = RK (k + 1) := by rw [HR.out, List.map_append, HP.out]; rfl
            have HSL : Hid _ := hsl
            clear hown1 hgrow HLIT HN2 HOLD HO2 HP HR hsl
            generalize ps ++ [(⟨z, tn, L, a2, ca2⟩ : Rq)] = qs at *
            go_wp2
            go_roundw
            case rel => exact ⟨k + 1, qs, by go_num, by omega, HSL, HS, HB6.out⟩
            case measure => simp [intOf]; omega
    · obtain rfl : k = ms.length := by omega
      have HL : Hid (ps.map Rq.said = R) := by show _ = _; rw [hP.out, ZN.out]
      obtain ⟨a1, c1, rfl, -⟩ := hO.out.view
      clear P2 YES NO ML RL Z0 ZN BA BA2 hP
      go_wp2
      go_ret
      exact ⟨a1, c1, ps, rfl, hO.out.mono BB.size, HL.out, BB2⟩
set_option linter.unusedSimpArgs false in
set_option maxHeartbeats 1600000 in
set_option maxRecDepth 100000 in
theorem l17Ask_any (a d : Option Addr) (cap cd : Nat) (xs : List I5) (b : Bd) (ms : List Int) (w : World) (hm : ms.length ≤ 1048576) (hn : xs.length ≤ 1048576) (hs : b.py.size ≤ 1048576) (hin : MI5.RowAt w a xs) (hin2 : M4.IntsAt w d ms) :
    Calls Try.prog 25 #[.slice a xs.length cap, b.v, .slice d ms.length cd] w fun e w' => e = .returned (.bool (RQ.reaOk xs b ms)) ∧ Below w.heap.size w w' := by
  have P1 : Hid (∀ W : World, Below w.heap.size w W → Calls Try.prog 47 #[.slice a xs.length cap, b.v] W fun e w' => e = .returned (.bool (GP.fitsB xs b)) ∧ Below W.heap.size W w') := fun W h => fitsS_any a cap xs b W hn hs (hin.below h)
  have P2 : Hid (∀ W : World, Below w.heap.size w W → Calls Try.prog 48 #[.slice d ms.length cd, .int .i64 8] W fun e w' => e = .returned (.bool (EG.rises 8 ms)) ∧ Below W.heap.size W w') := fun W h => l1Some_any d cd 8 ms W (by omega) hm (M4.IntsAt.below hin2 h) _ rfl
  have HR : Hid (RQ.reaOk xs b ms = (GP.fitsB xs b && EG.rises 8 ms)) := show RQ.reaOk xs b ms = _ from rfl
  have BA := BdAt.box w b 33
  have BB := (Below.refl _ w).alloc (Nat.le_refl _) (.cells #[.int .i64 b.fr, .int .i64 b.to, .bool b.gr, .int .i64 b.md, .int .i64 b.no, .int .i64 b.lf, .int .i64 b.hp, .int .i64 b.of, .int .i64 b.tl, .string b.py] 33)
  clear hin hin2
  generalize RQ.reaOk xs b ms = R at *
  generalize GP.fitsB xs b = q1 at *
  generalize EG.rises 8 ms = q2 at *
  obtain ⟨fr, to, gr, md, no, lf, hp, of, tl, py⟩ := b
  obtain ⟨hlt, c0, c1, c2, c3, c4, c5, c6, c7, c8, c9⟩ := id BA
  go_enter Try.func25, Try.ntmps25
  go_wp2_with fail
  refine (P1.out _ BB).mono ?_
  rintro e w1 ⟨rfl, hb1⟩
  clear c0 c1 c2 c3 c4 c5 c6 c7 c8 c9 hlt P1
  have BB1 := BB.trans (hb1.mono BB.size)
  clear hb1 BA BB
  cases q1 with
  | false =>
    have hR : R = false := HR.out
    subst hR
    clear P2 HR
    go_wp2
    go_ret
    exact ⟨rfl, BB1⟩
  | true =>
    have hR : R = q2 := HR.out
    subst hR
    go_wp2_with fail
    refine (P2.out _ BB1).mono ?_
    rintro e w2 ⟨rfl, hb2⟩
    have BB2 := BB1.trans (hb2.mono BB1.size)
    clear P2 HR hb2
    go_wp2
    go_ret
    exact ⟨rfl, BB2⟩
set_option linter.unusedSimpArgs false in
set_option maxHeartbeats 1600000 in
set_option maxRecDepth 100000 in
theorem reachS_any (a d : Option Addr) (cap cd : Nat) (xs : List I5) (b : Bd) (ms : List Int) (w : World) (hm : ms.length ≤ 1048576) (hn : xs.length ≤ 1048576) (hs : b.py.size ≤ 1048576) (hin : MI5.RowAt w a xs) (hin2 : M4.IntsAt w d ms) :
    Calls Try.prog 8 #[.slice a xs.length cap, b.v, .slice d ms.length cd] w fun e w' => ∃ a1 c1 ps, e = .returned (.tuple #[.slice a1 (List.length ps) c1, .bool (RQ.reaOk xs b ms)]) ∧ RQ.Own 59 w' w.heap.size (.slice a1 ps.length c1) ps ∧ ps.map Rq.said = RQ.reaA xs b ms ∧ Below w.heap.size w w' := by
  have P1 : Hid (∀ W : World, Below w.heap.size w W → Calls Try.prog 25 #[.slice a xs.length cap, b.v, .slice d ms.length cd] W fun e w' => e = .returned (.bool (RQ.reaOk xs b ms)) ∧ Below W.heap.size W w') := fun W h => l17Ask_any a d cap cd xs b ms W hm hn hs (hin.below h) (M4.IntsAt.below hin2 h)
  have P2 : Hid (RQ.reaOk xs b ms = true → ∀ W : World, Below w.heap.size w W → Calls Try.prog 26 #[.slice a xs.length cap, b.v, .slice d ms.length cd] W fun e w' => ∃ a1 c1 ps, e = .returned (.slice a1 (List.length ps) c1) ∧ RQ.Own 59 w' W.heap.size (.slice a1 ps.length c1) ps ∧ ps.map Rq.said = RQ.reaA xs b ms ∧ Below W.heap.size W w') := fun hq W h => by
    rw [RQ.rea_yes hq]
    have hq' := hq
    unfold RQ.reaOk at hq'
    rw [Bool.and_eq_true] at hq'
    exact l17Reach_any a d cap cd xs b ms W hq'.1 (GP.rises_len hq'.2) hn (hin.below h) (M4.IntsAt.below hin2 h)
  have NO : Hid (RQ.reaOk xs b ms = false → RQ.reaA xs b ms = []) := fun h => RQ.rea_no h
  have BA := BdAt.box w b 33
  have BB := (Below.refl _ w).alloc (Nat.le_refl _) (.cells #[.int .i64 b.fr, .int .i64 b.to, .bool b.gr, .int .i64 b.md, .int .i64 b.no, .int .i64 b.lf, .int .i64 b.hp, .int .i64 b.of, .int .i64 b.tl, .string b.py] 33)
  clear hin hin2
  generalize RQ.reaOk xs b ms = R at *
  generalize RQ.reaA xs b ms = L at *
  obtain ⟨fr, to, gr, md, no, lf, hp, of, tl, py⟩ := b
  obtain ⟨hlt, c0, c1, c2, c3, c4, c5, c6, c7, c8, c9⟩ := id BA
  go_enter Try.func8, Try.ntmps8
  go_wp2_with fail
  refine (P1.out _ BB).mono ?_
  rintro e w1 ⟨rfl, hb1⟩
  clear c0 c1 c2 c3 c4 c5 c6 c7 c8 c9 hlt P1
  have BA1 := BA.below hb1 BA.1
  have BB1 := BB.trans (hb1.mono BB.size)
  clear hb1 BA BB
  cases R with
  | false =>
    have HL : Hid (L = []) := NO.out rfl
    clear P2 NO BA1
    go_wp2
    exact bodyPost_ret (v := .tuple #[.slice none 0 0, .bool false]) (by simp [results, Try.results8, go_sem]) rfl ⟨none, 0, [], rfl, RQ.Own.nil _ _ _, HL.out.symm, BB1⟩
  | true =>
    have P2' : Hid _ := P2.out (by first | rfl | trivial)
    clear P2 NO
    obtain ⟨hlt, c0, c1, c2, c3, c4, c5, c6, c7, c8, c9⟩ := id BA1
    go_wp2_with fail
    refine (P2'.out _ BB1).mono ?_
    rintro e w2 ⟨a2, c2', ps, rfl, ho, hL, hb2⟩
    clear c0 c1 c2 c3 c4 c5 c6 c7 c8 c9 hlt P2'
    have BB2 := BB1.trans (hb2.mono BB1.size)
    have HO : Hid _ := ho.mono BB1.size
    have HL : Hid _ := hL
    clear ho hL hb2 BA1
    go_wp2
    exact bodyPost_ret (v := .tuple #[.slice a2 ps.length c2', .bool true]) (by simp [results, Try.results8, go_sem]) rfl ⟨a2, c2', ps, rfl, HO.out, HL.out, BB2⟩
end Go.Proofs.Ytpdmbobcbehilaa

/- Reaches filtered in their own place: plain facts. -/
namespace Go.Proofs.Ytpdmbobcbehilaa
open Go.RowKit
namespace RQ
theorem wpList_append_room {P : Program} {w w' : World} {ops : Array Oper} {rest : List Oper} {o : Oper} {a : Act} {Q : Exit → Act → World → Prop} (hgd : o.guard = none) (s x : Operand) (t : TypeId) (v u v' : Value)
    (ho : o.op = .call { callee := .builtin .append, args := #[s, x], argTypes := #[t, t] }) (hrun : ∀ ty, (Builtin.append_ #[t, t] ty #[v, u]).run P w = .ok v' w') (hs : a.eval s = v) (hx : a.eval x = u)
    (h : wpList P ops Q rest (a.put o.dst v') w') : wpList P ops Q (o :: rest) a w := by
  refine wpList_plain hgd fun K hK => ?_
  unfold Oper.wp
  simp [execOp, ho, resolve, invoke, builtin, hs, hx, hrun, Result.andThen]
  exact hK _ _ h
theorem set3_take : ∀ (cur : List Value) (j : Nat) (x y z : Value), j + 3 ≤ cur.length → (((cur.set j x).set (j + 1) y).set (j + 2) z).take (j + 3) = cur.take j ++ [x, y, z]
  | [], j, _, _, _, h => by simp at h
  | [_], 0, _, _, _, h => by simp at h
  | [_, _], 0, _, _, _, h => by simp at h
  | _ :: _ :: _ :: _, 0, _, _, _, _ => by simp
  | u :: l, j + 1, x, y, z, h => by
    have ih := set3_take l j x y z (by simpa using h)
    rw [List.set_cons_succ, List.set_cons_succ, List.set_cons_succ, show j + 1 + 3 = (j + 3) + 1 by omega, List.take_succ_cons, ih]; rfl
/-- 'clear' of a slice of structs of three cells. -/
theorem run_clear3 {P : Program} (w : World) (t e ty : TypeId) (x y z : Value) (ht : P.underlying t = some (.slice e)) (hv : ∀ w, (zeroValue e).run P w = .ok (.agg #[x, y, z]) w) (h1 : x.oneCell' = true ∧ y.oneCell' = true ∧ z.oneCell' = true) (hc3 : (Value.agg #[x, y, z]).cells = #[x, y, z]) (b o n c : Nat) (hn : 0 < n)
    (hc : ∀ j, j < n * 3 → (w.cell? ⟨b, o + j, none⟩).isSome = true) (hf : ∀ j, j < n * 3 → w.frozen? ⟨b, o + j, none⟩ = false) :
    (Builtin.clear_ #[t] ty #[.slice (some ⟨b, o, none⟩) n c]).run P w = .ok (.tuple #[]) (w.setCells b o (Builtin.zeroCells #[x, y, z] n).toList) := by
  have hl : (Builtin.zeroCells #[x, y, z] n).toList.length = n * 3 := by simp [Builtin.zeroCells]
  have hst := run_storeCells_cells (P := P) b o (Builtin.zeroCells #[x, y, z] n).toList 0 w (fun j hj => by rw [hl] at hj; simpa using hc j hj) (fun j hj => by rw [hl] at hj; simpa using hf j hj) (fun v hv' => by
    simp only [Builtin.zeroCells, Array.toList_map, List.mem_map] at hv'
    obtain ⟨i, _, rfl⟩ := hv'
    have h3 : i % 3 = 0 ∨ i % 3 = 1 ∨ i % 3 = 2 := by omega
    rcases h3 with h | h | h <;> simp [h, h1.1, h1.2.1, h1.2.2])
  simp only [Nat.add_zero] at hst
  obtain ⟨m, rfl⟩ : ∃ m, n = m + 1 := ⟨n - 1, by omega⟩
  simp [Builtin.clear_, run_underlying ht, hv, hc3, hst]
/-- The state while they are gone through: the block, those that are kept, those still to come. -/
structure Flt (T : TypeId) (w : World) (B g cap : Nat) (ps : List Rq) (f : Rq → Bool) (k : Nat) (ks : List Rq) : Prop where
  is : ks = (ps.take k).filter f
  own : ∃ cur, w.ownsRow B T 3 (.slice (some ⟨g, 0, none⟩) ps.length cap) ps.length cur ∧ cur.take (ks.length * 3) = flat ks ∧ cur.drop (k * 3) = (flat ps).drop (k * 3)
theorem Flt.start {T : TypeId} {w : World} {B g cap : Nat} {ps : List Rq} (f : Rq → Bool) (h : w.ownsRow B T 3 (.slice (some ⟨g, 0, none⟩) ps.length cap) ps.length (flat ps)) : Flt T w B g cap ps f 0 [] := ⟨by simp, _, h, by simp [flat], rfl⟩
theorem Flt.len {T : TypeId} {w : World} {B g cap : Nat} {ps : List Rq} {f : Rq → Bool} {k : Nat} {ks : List Rq} (h : Flt T w B g cap ps f k ks) : ks.length ≤ k := by
  rw [h.is]
  exact Nat.le_trans (List.length_filter_le _ _) (by rw [List.length_take]; omega)
theorem Flt.below {T : TypeId} {w w' : World} {B g cap : Nat} {ps : List Rq} {f : Rq → Bool} {k : Nat} {ks : List Rq} (h : Flt T w B g cap ps f k ks) (hb : Below w.heap.size w w') : Flt T w' B g cap ps f k ks := by
  obtain ⟨cur, h1, h2, h3⟩ := h.own
  exact ⟨h.is, cur, M5.own_below h1 hb, h2, h3⟩
/-- The next one's cells. -/
theorem Flt.next {T : TypeId} {w : World} {B g cap : Nat} {ps : List Rq} {f : Rq → Bool} {k : Nat} {ks : List Rq} (h : Flt T w B g cap ps f k ks) (hk : k < ps.length) : w.cell? ⟨g, k * 3, none⟩ = some (.int .i64 (at_ ps k).m) ∧ w.cell? ⟨g, k * 3 + 1, none⟩ = some (.int .i64 (at_ ps k).t) ∧ w.cell? ⟨g, k * 3 + 2, none⟩ = some (.slice (at_ ps k).a (at_ ps k).os.length (at_ ps k).c) ∧ g < w.heap.size := by
  obtain ⟨cur, h1, h2, h3⟩ := h.own
  obtain ⟨f0, f1, f2⟩ := flat_get ps k hk
  have e : ∀ j, cur[k * 3 + j]? = (flat ps)[k * 3 + j]? := fun j => by
    have := congrArg (fun l => l[j]?) h3
    simpa [List.getElem?_drop] using this
  exact ⟨(h1.cellAt (k * 3) (by omega)).trans ((e 0).trans f0), (h1.cellAt (k * 3 + 1) (by omega)).trans ((e 1).trans f1), (h1.cellAt (k * 3 + 2) (by omega)).trans ((e 2).trans f2), (h1.lt g rfl).2⟩
theorem Flt.out {T : TypeId} {w : World} {B g cap : Nat} {ps : List Rq} {f : Rq → Bool} {k : Nat} {ks : List Rq} (h : Flt T w B g cap ps f k ks) (hk : k < ps.length) (hf : f (at_ ps k) = false) : Flt T w B g cap ps f (k + 1) ks := by
  obtain ⟨cur, h1, h2, h3⟩ := h.own
  refine ⟨?_, cur, h1, h2, ?_⟩
  · rw [List.take_succ_eq_append_getElem hk, List.filter_append, ← at_eq hk, List.filter_cons, hf, h.is]; simp
  · have := congrArg (List.drop 3) h3
    rw [List.drop_drop, List.drop_drop] at this
    rw [show (k + 1) * 3 = k * 3 + 3 by omega]; exact this
theorem Flt.keep {T : TypeId} {w : World} {B g cap : Nat} {ps : List Rq} {f : Rq → Bool} {k : Nat} {ks : List Rq} (h : Flt T w B g cap ps f k ks) (hk : k < ps.length) (hf : f (at_ ps k) = true) : Flt T (w.setCells g (ks.length * 3) (at_ ps k).cs) B g cap ps f (k + 1) (ks ++ [at_ ps k]) := by
  have hl := h.len
  obtain ⟨cur, h1, h2, h3⟩ := h.own
  have hcl : cur.length = ps.length * 3 := h1.1
  have hfl := flat_len ks
  refine ⟨?_, (((cur.set (ks.length * 3) (.int .i64 (at_ ps k).m)).set (ks.length * 3 + 1) (.int .i64 (at_ ps k).t)).set (ks.length * 3 + 2) (.slice (at_ ps k).a (at_ ps k).os.length (at_ ps k).c)), ?_, ?_, ?_⟩
  · rw [List.take_succ_eq_append_getElem hk, List.filter_append, ← at_eq hk, List.filter_cons, if_pos hf, h.is]; simp
  · exact ((h1.stored (ks.length * 3) (.int .i64 (at_ ps k).m)).1.stored (ks.length * 3 + 1) (.int .i64 (at_ ps k).t)).1.stored (ks.length * 3 + 2) (.slice (at_ ps k).a (at_ ps k).os.length (at_ ps k).c) |>.1
  · rw [flat_app, List.length_append, List.length_singleton, show (ks.length + 1) * 3 = ks.length * 3 + 3 by omega, ← h2]
    rw [set3_take cur (ks.length * 3) _ _ _ (by omega)]
    simp only [flat, List.append_nil]
  · rw [show (k + 1) * 3 = k * 3 + 3 by omega]
    have h4 : cur.drop (k * 3 + 3) = (flat ps).drop (k * 3 + 3) := by
      have := congrArg (List.drop 3) h3
      rwa [List.drop_drop, List.drop_drop] at this
    rw [List.drop_set_of_lt (by omega), List.drop_set_of_lt (by omega), List.drop_set_of_lt (by omega), h4]
theorem Flt.room {T : TypeId} {w : World} {B g cap : Nat} {ps : List Rq} {f : Rq → Bool} {k : Nat} {ks : List Rq} (h : Flt T w B g cap ps f k ks) {o : Nat} (ho : o < ps.length * 3) : (w.cell? ⟨g, o, none⟩).isSome = true ∧ w.frozen? ⟨g, o, none⟩ = false := by
  obtain ⟨cur, h1, _, _⟩ := h.own
  refine ⟨?_, h1.frozenAt o⟩
  rw [h1.cellAt o ho, List.getElem?_eq_getElem (by rw [h1.1]; exact ho)]; rfl
theorem Flt.caps {T : TypeId} {w : World} {B g cap : Nat} {ps : List Rq} {f : Rq → Bool} {k : Nat} {ks : List Rq} (h : Flt T w B g cap ps f k ks) : ps.length ≤ cap ∧ cap ≤ maxLen ∧ B ≤ g ∧ g < w.heap.size := by
  obtain ⟨cur, h1, _, _⟩ := h.own
  refine ⟨?_, ?_, (h1.lt g rfl).1, (h1.lt g rfl).2⟩ <;>
  · rcases h1.2 with ⟨h, _⟩ | ⟨g', c', cur, hv, _, _, h1, h2, _⟩
    · cases h
    · cases hv; assumption
/-- What was kept, behind the clearing. -/
theorem Flt.done {T : TypeId} (hT : T ≠ 3) {w : World} {B g cap : Nat} {ps : List Rq} {f : Rq → Bool} {ks : List Rq} (h : Flt T w B g cap ps f ps.length ks) (hr : Rows w B ps) (vs : List Value) : ks = ps.filter f ∧ Own T (w.setCells g (ks.length * 3) vs) B (.slice (some ⟨g, 0, none⟩) ks.length cap) ks ∧ MC.Only g w (w.setCells g (ks.length * 3) vs) := by
  have hi := h.is
  rw [List.take_length] at hi
  have hl := h.len
  obtain ⟨cur, h1, h2, h3⟩ := h.own
  obtain ⟨cur', h4, h5, h6⟩ := own_cells vs (ks.length * 3) w cur h1
  refine ⟨hi, ⟨own_first h4 rfl hl (h5.trans h2), ?_⟩, h6⟩
  have := (hr.filter f).only hT h1 h6
  rw [← hi] at this
  exact this
theorem Flt.none_ {T : TypeId} {w : World} {B g cap : Nat} {ps : List Rq} {f : Rq → Bool} {ks : List Rq} (h : Flt T w B g cap ps f ps.length ks) (hr : Rows w B ps) : ks = ps.filter f ∧ Own T w B (.slice (some ⟨g, 0, none⟩) ks.length cap) ks := by
  have hi := h.is
  rw [List.take_length] at hi
  have hl := h.len
  obtain ⟨cur, h1, h2, h3⟩ := h.own
  refine ⟨hi, own_first h1 rfl hl h2, ?_⟩
  have := hr.filter f
  rw [← hi] at this
  exact this
end RQ
end Go.Proofs.Ytpdmbobcbehilaa

/- Rows of reaches, marked: plain facts. -/
namespace Go.Proofs.Ytpdmbobcbehilaa
open Go.RowKit
namespace RQ
def tot (ps : List Rq) : Nat := (ps.map fun p => 2 + p.os.length).sum
theorem tot_app (a b : List Rq) : tot (a ++ b) = tot a + tot b := by simp [tot]
theorem tot_take {ps : List Rq} {i : Nat} (h : i < ps.length) : tot (ps.take (i + 1)) = tot (ps.take i) + (2 + (at_ ps i).os.length) := by
  rw [List.take_succ_eq_append_getElem h, tot_app, at_eq h]; simp [tot]
theorem tot_le (ps : List Rq) (i : Nat) : tot (ps.take i) ≤ tot ps := by
  have := tot_app (ps.take i) (ps.drop i)
  rw [List.take_append_drop] at this; omega
theorem tot_bd : ∀ (ps : List Rq) (n : Nat), (∀ p, p ∈ ps → p.os.length ≤ n) → tot ps ≤ ps.length * (2 + n)
  | [], _, _ => by simp [tot]
  | p :: ps, n, h => by
    have h1 := tot_bd ps n (fun q hq => h q (by simp [hq]))
    have h2 := h p (by simp)
    have e : tot (p :: ps) = 2 + p.os.length + tot ps := by simp [tot]
    rw [e, List.length_cons, Nat.add_mul]; omega
/-- A reach, marked from k on. -/
def mk1 (k : Int) (p : Rq) : Rq := ⟨k, k + 1, M5.marks (k + 2) p.os.length, p.a, p.c⟩
def mkL (k : Int) : List Rq → List Rq
  | [] => []
  | p :: ps => mk1 k p :: mkL (k + (2 + p.os.length : Nat)) ps
theorem mkL_len : ∀ (ps : List Rq) (k : Int), (mkL k ps).length = ps.length
  | [], _ => rfl
  | p :: ps, k => by simp [mkL, mkL_len ps]
theorem mkL_snoc : ∀ (ps : List Rq) (k : Int) (q : Rq), mkL k (ps ++ [q]) = mkL k ps ++ [mk1 (k + tot ps) q]
  | [], k, q => by simp [mkL, tot]
  | p :: ps, k, q => by
    have e : tot (p :: ps) = 2 + p.os.length + tot ps := by simp [tot]
    rw [List.cons_append, mkL, mkL_snoc ps, mkL, e, List.cons_append, show k + ((2 + p.os.length + tot ps : Nat) : Int) = k + ((2 + p.os.length : Nat) : Int) + (tot ps : Int) by push_cast; omega]
theorem mkL_at {ps : List Rq} {k : Int} {i : Nat} (h : i < ps.length) : at_ (mkL k ps) i = mk1 (k + tot (ps.take i)) (at_ ps i) := by
  have e1 : mkL k ps = mkL k (ps.take (i + 1)) ++ (mkL k ps).drop (i + 1) := by
    have aux : ∀ (a b : List Rq) (k : Int), (mkL k (a ++ b)).take a.length = mkL k a := by
      intro a
      induction a with
      | nil => intro b k; simp [mkL]
      | cons p a ih => intro b k; simp [mkL, ih]
    have := aux (ps.take (i + 1)) (ps.drop (i + 1)) k
    rw [List.take_append_drop, List.length_take, Nat.min_eq_left (by omega)] at this
    rw [← this, List.take_append_drop]
  rw [e1, List.take_succ_eq_append_getElem h, mkL_snoc, ← at_eq h]
  unfold at_
  rw [List.append_assoc, List.getD_eq_getElem?_getD, List.getElem?_append_right (by rw [mkL_len, List.length_take]; omega), mkL_len, List.length_take, Nat.min_eq_left (by omega), Nat.sub_self]; rfl
/-- The first i are marked. -/
def mkUp (k : Int) (ps : List Rq) (i : Nat) : List Rq := mkL k (ps.take i) ++ ps.drop i
theorem mkUp_zero (k : Int) (ps : List Rq) : mkUp k ps 0 = ps := by simp [mkUp, mkL]
theorem mkUp_all (k : Int) (ps : List Rq) : mkUp k ps ps.length = mkL k ps := by simp [mkUp]
theorem mkUp_len (k : Int) (ps : List Rq) (i : Nat) (h : i ≤ ps.length) : (mkUp k ps i).length = ps.length := by simp [mkUp, mkL_len]; omega
theorem mkUp_at {k : Int} {ps : List Rq} {i : Nat} (h : i < ps.length) : at_ (mkUp k ps i) i = at_ ps i := by
  unfold at_ mkUp
  rw [List.getD_eq_getElem?_getD, List.getElem?_append_right (by rw [mkL_len, List.length_take]; omega), mkL_len, List.length_take, Nat.min_eq_left (by omega), Nat.sub_self, List.getElem?_drop, Nat.add_zero, List.getD_eq_getElem?_getD]
theorem mkUp_set {k : Int} {ps : List Rq} {i : Nat} (h : i < ps.length) : (mkUp k ps i).set i (mk1 (k + tot (ps.take i)) (at_ ps i)) = mkUp k ps (i + 1) := by
  unfold mkUp
  rw [List.set_append_right _ _ (by rw [mkL_len, List.length_take]; omega), mkL_len, List.length_take, Nat.min_eq_left (by omega), Nat.sub_self, List.take_succ_eq_append_getElem h, ← at_eq h, mkL_snoc, List.append_assoc]
  congr 1
  rw [List.drop_eq_getElem_cons h]; rfl
theorem set_same {l : List Value} {j : Nat} {v : Value} (h : l[j]? = some v) : l.set j v = l := by
  apply List.ext_getElem?
  intro i
  rw [List.getElem?_set]
  by_cases e : j = i
  · subst e; rw [if_pos rfl]; have := (List.getElem?_eq_some_iff.1 h).1; rw [if_pos this, h]
  · rw [if_neg e]
/-- One of them is marked: two cells of the row, and its own row. -/
theorem Own.mark {T : TypeId} (hT : T ≠ 3) {w w2 : World} {B g n c i : Nat} {qs : List Rq} {K : Int} {os' : List Int} (h : Own T w B (.slice (some ⟨g, 0, none⟩) n c) qs) (hi : i < qs.length) (hl : os'.length = (at_ qs i).os.length)
    (hin : NR.In w2 B (at_ qs i).a os') (h0 : (at_ qs i).os = [] → (w.setCell ⟨g, i * 3, none⟩ (.int .i64 K)).setCell ⟨g, i * 3 + 1, none⟩ (.int .i64 (K + 1)) = w2)
    (hO : ∀ g', (at_ qs i).a = some ⟨g', 0, none⟩ → MC.Only g' ((w.setCell ⟨g, i * 3, none⟩ (.int .i64 K)).setCell ⟨g, i * 3 + 1, none⟩ (.int .i64 (K + 1))) w2) :
    Own T w2 B (.slice (some ⟨g, 0, none⟩) n c) (qs.set i ⟨K, K + 1, os', (at_ qs i).a, (at_ qs i).c⟩) := by
  obtain rfl : n = qs.length := by
    rcases h.out.2 with ⟨h', _⟩ | ⟨g', cap', cur, hv, _⟩
    · cases h'
    · simp only [Value.slice.injEq] at hv; exact hv.2.1
  have st := ((h.out.stored (i * 3) (.int .i64 K)).1.stored (i * 3 + 1) (.int .i64 (K + 1))).1
  have onW : MC.Only g w ((w.setCell ⟨g, i * 3, none⟩ (.int .i64 K)).setCell ⟨g, i * 3 + 1, none⟩ (.int .i64 (K + 1))) := ((MC.Only.refl g w).setCell (i * 3) (.int .i64 K)).setCell (i * 3 + 1) (.int .i64 (K + 1))
  have hflat : flat (qs.set i ⟨K, K + 1, os', (at_ qs i).a, (at_ qs i).c⟩) = (((flat qs).set (i * 3) (.int .i64 K)).set (i * 3 + 1) (.int .i64 (K + 1))) := by
    rw [flat_set3 _ _ _ hi, hl]
    refine set_same ?_
    rw [List.getElem?_set_ne (by omega), List.getElem?_set_ne (by omega)]
    exact (flat_get qs i hi).2.2
  have hr0 := h.rows.only hT h.out onW
  have hp := at_mem hi
  generalize (w.setCell ⟨g, i * 3, none⟩ (.int .i64 K)).setCell ⟨g, i * 3 + 1, none⟩ (.int .i64 (K + 1)) = w1 at *
  have hpr := hr0.row _ hp
  have hne : ∀ q, q ∈ qs → q.os ≠ [] → q.a ≠ some ⟨g, 0, none⟩ := fun q hq hq0 => in_ne hT (hr0.row q hq) hq0 st
  refine ⟨?_, fun q hq => ?_, ?_⟩
  · rw [hflat, List.length_set]
    by_cases e : (at_ qs i).os = []
    · rw [← h0 e]; exact st
    · obtain ⟨g', hg'⟩ := hpr.some e
      exact NR.own_only st (hO g' hg') (fun e2 => hne _ hp e (by rw [hg']; simp only [Value.ownBlock, Option.some.injEq] at e2; rw [e2]))
  · obtain ⟨j, hj, rfl⟩ := List.mem_iff_getElem.1 hq
    rw [List.length_set] at hj
    by_cases ej : i = j
    · subst ej; rw [List.getElem_set_self]; exact hin
    · rw [List.getElem_set_ne ej]
      have hqj := hr0.row _ (List.getElem_mem hj)
      by_cases e : (at_ qs i).os = []
      · rw [← h0 e]; exact hqj
      · obtain ⟨g', hg'⟩ := hpr.some e
        by_cases e2 : (qs[j]).os = []
        · rw [e2]; exact .nil _ _ _
        · refine hqj.only (hO g' hg') (fun e3 => ?_)
          rw [at_eq hi] at e hg'
          rcases Nat.lt_or_gt_of_ne ej with c | c
          · exact (List.pairwise_iff_getElem.1 h.rows.far) i j hi hj c e e2 (by rw [hg', e3])
          · exact (List.pairwise_iff_getElem.1 h.rows.far) j i hj hi c e2 e (by rw [hg', e3])
  · rw [List.pairwise_iff_getElem]
    intro x y hx hy hxy
    rw [List.length_set] at hx hy
    have hf := (List.pairwise_iff_getElem.1 h.rows.far) x y hx hy hxy
    have ne : os' ≠ [] → (at_ qs i).os ≠ [] := fun e e2 => e (by rw [e2] at hl; exact List.eq_nil_of_length_eq_zero hl)
    have hqi : qs[i] = at_ qs i := (at_eq hi).symm
    by_cases ex : i = x
    · subst ex
      rw [List.getElem_set_self, List.getElem_set_ne (by omega)]
      rw [hqi] at hf
      exact fun a1 a2 => hf (ne a1) a2
    · rw [List.getElem_set_ne ex]
      by_cases ey : i = y
      · subst ey
        rw [List.getElem_set_self]
        rw [hqi] at hf
        exact fun a1 a2 => hf a1 (ne a2)
      · rw [List.getElem_set_ne ey]; exact hf
end RQ
end Go.Proofs.Ytpdmbobcbehilaa

/- Rows of reaches compared: eqReach, eqReachS of the laws. -/
namespace Go.Proofs.Ytpdmbobcbehilaa
open Go.RowKit
set_option linter.unusedSimpArgs false in
set_option maxHeartbeats 1600000 in
set_option maxRecDepth 100000 in
theorem eqReach_any (m t : Int) (os : List Int) (a b : Option Addr) (ca cb : Nat) (w : World) (hz : os.length ≤ 1048576) (h1 : M4.IntsAt w a os) (h2 : M4.IntsAt w b os) :
    Calls Try.prog 35 #[.agg #[.int .i64 m, .int .i64 t, .slice a os.length ca], .agg #[.int .i64 m, .int .i64 t, .slice b os.length cb]] w fun e w' => e = .returned (.bool true) ∧ Below w.heap.size w w' := by
  have EQ : Hid (∀ W, Below w.heap.size w W → Calls Try.prog 15 #[.slice a os.length ca, .slice b os.length cb] W fun e w' => e = .returned (.bool true) ∧ Below W.heap.size W w') := fun W hb => by
    have h := eqIntS_any a b ca cb os os W (by omega) (by omega) (M4.IntsAt.below h1 hb) (M4.IntsAt.below h2 hb)
    rwa [show decide (os = os) = true by simp] at h
  have hB : ∀ o p, Below w.heap.size w ((w.alloc o).alloc p) := fun o p => ((Below.refl _ w).alloc (Nat.le_refl _) o).alloc (by simp) p
  have hm : (m != m) = false := by simp
  have ht : (t != t) = false := by simp
  clear h1 h2
  go_enter Try.func35, Try.ntmps35
  go_wp2_with fail
  refine (EQ.out _ (hB _ _)).mono ?_
  rintro e w2 ⟨rfl, hb2⟩
  have hB2 := (hB _ _).trans (hb2.mono (hB _ _).size)
  clear EQ hb2
  go_wp2
  go_ret
  exact ⟨rfl, hB2⟩
namespace RQ
theorem said_at {ps qs : List Rq} (h : ps.map Rq.said = qs.map Rq.said) {k : Nat} (hk : k < ps.length) : (at_ qs k).m = (at_ ps k).m ∧ (at_ qs k).t = (at_ ps k).t ∧ (at_ qs k).os = (at_ ps k).os := by
  have hl : ps.length = qs.length := by have := congrArg List.length h; simpa using this
  have := congrArg (fun l => l[k]?) h
  simp only [List.getElem?_map, List.getElem?_eq_getElem hk, List.getElem?_eq_getElem (hl ▸ hk), Option.map_some, Option.some.injEq, Rq.said, Prod.mk.injEq] at this
  rw [at_eq hk, at_eq (hl ▸ hk)]
  exact ⟨this.1.symm, this.2.1.symm, this.2.2.symm⟩
end RQ
set_option linter.unusedSimpArgs false in
set_option maxHeartbeats 1600000 in
set_option maxRecDepth 100000 in
theorem eqReachS_any (a b : Option Addr) (ca cb : Nat) (ps qs : List Rq) (w : World) (hn : ps.length ≤ 1048576) (hs : ps.map Rq.said = qs.map Rq.said) (hz : ∀ p, p ∈ ps → p.os.length ≤ 1048576) (h1 : RQ.At w a ps) (h2 : RQ.At w b qs) :
    Calls Try.prog 13 #[.slice a ps.length ca, .slice b qs.length cb] w fun e w' => e = .returned (.bool true) ∧ Below w.heap.size w w' := by
  have hl : qs.length = ps.length := by have := congrArg List.length hs; simpa using this.symm
  rw [hl]
  have HL : Hid (qs.length = ps.length) := hl
  have H1 : Hid _ := h1
  have H2 : Hid _ := h2
  have HS : Hid _ := fun k hk => RQ.said_at (k := k) hs hk
  have HZ : Hid _ := fun k (hk : k < ps.length) => hz _ (RQ.at_mem hk)
  clear hs hz h1 h2 hl
  go_enter Try.func13, Try.ntmps13
  go_wp2
  go_loopw [5] (fun iv wr => ∃ k : Nat, iv = .int .i64 k ∧ k ≤ ps.length ∧ Below w.heap.size w wr) (fun iv _ => (ps.length - intOf iv).toNat)
  case atStart => exact ⟨0, rfl, by omega, Below.refl _ _⟩
  case round =>
    obtain ⟨k, rfl, hk, hb⟩ := hrel
    by_cases hlk : k < ps.length
    · obtain ⟨b1, o1, rfl, hlt1, p0, p1, p2, p3, p4⟩ := (H1.out.below hb).at hlk
      obtain ⟨b2, o2, rfl, hlt2, q0, q1, q2, q3, q4⟩ := (H2.out.below hb).at (by rw [HL.out]; exact hlk)
      obtain ⟨e0, e1, e2⟩ := HS.out k hlk
      have hzz := HZ.out k hlk
      rw [e0] at q0; rw [e1] at q1; rw [e2] at q2 q4
      have EQ : Hid (∀ W, Below wr.heap.size wr W → Calls Try.prog 35 _ W fun e w' => e = .returned (.bool true) ∧ Below W.heap.size W w') := fun W hb => eqReach_any (RQ.at_ ps k).m (RQ.at_ ps k).t (RQ.at_ ps k).os (RQ.at_ ps k).a (RQ.at_ qs k).a (RQ.at_ ps k).c (RQ.at_ qs k).c W hzz (M4.IntsAt.below p4 hb) (M4.IntsAt.below q4 hb)
      clear e0 e1 e2 p3 q3 p4 q4
      generalize (RQ.at_ ps k).m = m at *
      generalize (RQ.at_ ps k).t = t at *
      generalize (RQ.at_ ps k).a = pa at *
      generalize (RQ.at_ qs k).a = qa at *
      generalize (RQ.at_ ps k).c = pc at *
      generalize (RQ.at_ qs k).c = qc at *
      generalize (RQ.at_ ps k).os.length = n at *
      have EQ' : Hid (Calls _ _ _ _ _) := EQ.out wr.drew (Below.refl _ _).drew
      clear EQ
      go_wp2
      go_region_held3 (fun w' => w'.cell? ⟨b1, o1 + k * 3, none⟩ = some (.int .i64 m) ∧ w'.cell? ⟨b1, o1 + k * 3 + 1, none⟩ = some (.int .i64 t) ∧ w'.cell? ⟨b1, o1 + k * 3 + 2, none⟩ = some (.slice pa n pc) ∧ w'.cell? ⟨b2, o2 + k * 3, none⟩ = some (.int .i64 m) ∧ w'.cell? ⟨b2, o2 + k * 3 + 1, none⟩ = some (.int .i64 t) ∧ w'.cell? ⟨b2, o2 + k * 3 + 2, none⟩ = some (.slice qa n qc)) (first | exact hk2 | go_keep) (first | (go_at_call 35; refine Calls.mono EQ'.out ?_; (rintro e w2 ⟨rfl, hb2⟩); (have hb3 := ((Below.refl wr.heap.size wr).drew).trans (hb2.mono (Nat.le_refl _))); (have hk2 := And.intro ((hb3.cell (p := ⟨b1, o1 + k * 3, none⟩) hlt1).trans p0) (And.intro ((hb3.cell (p := ⟨b1, o1 + k * 3 + 1, none⟩) hlt1).trans p1) (And.intro ((hb3.cell (p := ⟨b1, o1 + k * 3 + 2, none⟩) hlt1).trans p2) (And.intro ((hb3.cell (p := ⟨b2, o2 + k * 3, none⟩) hlt2).trans q0) (And.intro ((hb3.cell (p := ⟨b2, o2 + k * 3 + 1, none⟩) hlt2).trans q1) ((hb3.cell (p := ⟨b2, o2 + k * 3 + 2, none⟩) hlt2).trans q2))))))))
      have hb4 := hb.trans (hb3.mono hb.size)
      clear hk2 hb2 hb3 p0 p1 p2 q0 q1 q2 EQ'
      go_wp2
      go_roundw
      case rel => exact ⟨k + 1, by go_num, by omega, hb4⟩
      case measure => simp [intOf]; omega
    · obtain rfl : k = ps.length := by omega
      go_wp2
      go_ret
      exact ⟨rfl, hb⟩
end Go.Proofs.Ytpdmbobcbehilaa

/- Those of whom no more than so much is told, kept in their own place: withNoMore of the program, by time and by how many contacts. -/
namespace Go.Proofs.Ytpdmbobcbehilaa
open Go.RowKit
theorem Try.zeroRc (w : World) : (zeroValue 59).run Try.prog w = .ok (.agg #[.int .i64 0, .int .i64 0, .slice none 0 0]) w := by kernel_rfl
set_option linter.unusedSimpArgs false in
set_option maxHeartbeats 3200000 in
set_option maxRecDepth 100000 in
theorem noMoreT_any (B g cap : Nat) (ps : List Rq) (n : Int) (w : World) (h8 : ps.length ≤ 8) (ho : RQ.Own 59 w B (.slice (some ⟨g, 0, none⟩) ps.length cap) ps) (qs : List Rq) (hqs : Hid (ps.filter (fun p => RQ.inTime n p.said) = qs)) :
    Calls Try.prog 30 #[.slice (some ⟨g, 0, none⟩) ps.length cap, .func (.func 32) #[] #[], .int .i64 n] w fun e w' => e = .returned (.slice (some ⟨g, 0, none⟩) qs.length cap) ∧ RQ.Own 59 w' B (.slice (some ⟨g, 0, none⟩) qs.length cap) qs ∧ MC.Only g w w' := by
  obtain ⟨i2, hi', hz0', hz1', hz2'⟩ := info_parts Try.infoRc
  have ROWS : Hid (RQ.Rows w B ps) := ho.rows
  have OUT : Hid _ := ho.out
  have FL0 : Hid (RQ.Flt 59 w B g cap ps (fun p => RQ.inTime n p.said) 0 []) := RQ.Flt.start _ ho.out
  obtain ⟨hc1, hc2, hBg, hgl⟩ := FL0.out.caps
  have hc63 : cap ≤ 9223372036854775807 := by unfold maxLen at hc2; omega
  clear ho
  go_enter Try.func30, Try.ntmps30
  go_wp2
  go_loopw [7, 9, 14] (fun u _ iv wr => ∃ (k : Nat) (ks : List Rq), iv = .int .i64 k ∧ k ≤ ps.length ∧ u = .slice (some ⟨g, 0, none⟩) ks.length cap ∧ Hid (RQ.Flt 59 wr B g cap ps (fun p => RQ.inTime n p.said) k ks) ∧ MC.Only g w wr) (fun _ _ iv _ => (ps.length - intOf iv).toNat)
  case atStart => exact ⟨0, [], rfl, by omega, rfl, FL0, MC.Only.refl _ _⟩
  case round =>
    obtain ⟨k, ks, rfl, hk, rfl, hF, hO⟩ := hrel
    by_cases hlk : k < ps.length
    · obtain ⟨e0, e1, e2, hg⟩ := hF.out.next hlk
      have hkl := hF.out.len
      have KEEP : Hid _ := fun (W : World) (hb : Below wr.heap.size wr W) h => (hF.out.below hb).keep (k := k) hlk h
      have OUTK : Hid _ := fun (W : World) (hb : Below wr.heap.size wr W) h => (hF.out.below hb).out (k := k) hlk h
      have ROOM : Hid _ := fun (W : World) (hb : Below wr.heap.size wr W) (o : Nat) (h : o < ps.length * 3) => (hF.out.below hb).room h
      have TL : Hid _ := fun W => timeRe_any (RQ.at_ ps k) W
      clear FL0 hF ROWS OUT
      generalize RQ.at_ ps k = p at *
      obtain ⟨m, t, os, a, c⟩ := p
      go_wp2_with fail
      refine Calls.mono (TL.out _) ?_
      rintro e w2 ⟨rfl, hb2⟩
      have q0 : (wr.alloc (.cells #[.int .i64 m, .int .i64 t, .slice a os.length c] 59)).cell? ⟨wr.heap.size, 0, none⟩ = some (.int .i64 m) := by rw [World.cell?_alloc_new]; rfl
      have q1 : (wr.alloc (.cells #[.int .i64 m, .int .i64 t, .slice a os.length c] 59)).cell? ⟨wr.heap.size, 1, none⟩ = some (.int .i64 t) := by rw [World.cell?_alloc_new]; rfl
      have q2 : (wr.alloc (.cells #[.int .i64 m, .int .i64 t, .slice a os.length c] 59)).cell? ⟨wr.heap.size, 2, none⟩ = some (.slice a os.length c) := by rw [World.cell?_alloc_new]; rfl
      replace q0 := (hb2.cell (p := ⟨wr.heap.size, 0, none⟩) (by simp)).trans q0
      replace q1 := (hb2.cell (p := ⟨wr.heap.size, 1, none⟩) (by simp)).trans q1
      replace q2 := (hb2.cell (p := ⟨wr.heap.size, 2, none⟩) (by simp)).trans q2
      have hlt2 : wr.heap.size < w2.heap.size := by have := hb2.size; simp at this; omega
      have hbx : Below wr.heap.size wr w2 := ((Below.refl _ wr).alloc (Nat.le_refl _) _).trans (hb2.mono (by simp))
      have HBX : Hid _ := hbx
      clear hb2 TL e0 e1 e2 hbx
      cases hq : decide (t ≤ n) with
      | false =>
        have HF2 : Hid _ := OUTK.out w2 HBX.out hq
        have HO2 : MC.Only g w w2 := hO.trans (MC.Only.of_below HBX.out)
        clear KEEP OUTK ROOM q0 q1 q2 HBX
        go_wp2
        go_roundw
        case rel => exact ⟨k + 1, ks, by go_num, by omega, rfl, HF2, HO2⟩
        case measure => simp [intOf]; omega
      | true =>
        have hbl : Below wr.heap.size wr (w2.alloc (.cells #[.int .i64 m, .int .i64 t, .slice a os.length c] 59)) := HBX.out.alloc HBX.out.size _
        have HF2 : Hid _ := KEEP.out _ hbl hq
        have hrun : ∀ ty, (Builtin.append_ #[28, 28] ty #[.slice (some ⟨g, 0, none⟩) ks.length cap, .slice (some ⟨w2.heap.size, 0, none⟩) 1 1]).run Try.prog (w2.alloc (.cells #[.int .i64 m, .int .i64 t, .slice a os.length c] 59)) = .ok (.slice (some ⟨g, 0, none⟩) (ks.length + 1) cap) ((w2.alloc (.cells #[.int .i64 m, .int .i64 t, .slice a os.length c] 59)).setCells g (ks.length * 3) [.int .i64 m, .int .i64 t, .slice a os.length c]) := fun ty => by
          have h := run_append_room_cells (P := Try.prog) (w2.alloc (.cells #[.int .i64 m, .int .i64 t, .slice a os.length c] 59)) 28 ty 59 i2 Try.underlying28 hi' g 0 ks.length cap ⟨w2.heap.size, 0, none⟩ 1 1 [.int .i64 m, .int .i64 t, .slice a os.length c] (by rw [hz1']; rfl) (RQ.new3 _ _ _ _ _ _ rfl) (RQ.one3 ⟨m, t, os, a, c⟩) (by omega) (fun j hj => by rw [hz1', Nat.zero_add]; exact (ROOM.out _ hbl _ (by simp at hj; omega)).1) (fun j hj => by rw [hz1', Nat.zero_add]; exact (ROOM.out _ hbl _ (by simp at hj; omega)).2)
          rw [hz1', Nat.zero_add] at h
          exact h
        have HO2 : MC.Only g w ((w2.alloc (.cells #[.int .i64 m, .int .i64 t, .slice a os.length c] 59)).setCells g (ks.length * 3) [.int .i64 m, .int .i64 t, .slice a os.length c]) := (hO.trans (MC.Only.of_below hbl)).trans (RA.only_cells g _ _ _)
        have HRUN : Hid _ := hrun
        have HO2' : Hid _ := HO2
        clear KEEP OUTK ROOM HBX hrun HO2 hbl
        go_wp2_with (at_builtin; refine RQ.wpList_append_room rfl _ _ 28 _ _ _ rfl HRUN.out rfl rfl ?_)
        generalize World.setCells _ _ _ _ = w3 at *
        have HLN : Hid ((ks ++ [(⟨m, t, os, a, c⟩ : Rq)]).length = ks.length + 1) := (show _ = _ from by simp)
        clear HRUN q0 q1 q2
        go_wp2
        go_roundw
        case rel => exact ⟨k + 1, ks ++ [⟨m, t, os, a, c⟩], by go_num, by omega, by rw [HLN.out], HF2, HO2'.out⟩
        case measure => simp [intOf]; omega
    · obtain rfl : k = ps.length := by omega
      have hkl := hF.out.len
      have hR : RQ.Rows wr B ps := RQ.Rows.only (by decide) ROWS.out OUT.out hO
      have HCL0 : Hid (∀ (a : Option Addr) (c : Nat) ty (W : World), (Builtin.clear_ #[28] ty #[.slice a 0 c]).run Try.prog W = .ok (.tuple #[]) W) := fun a c ty W => by cases a <;> simp [Builtin.clear_, run_underlying Try.underlying28]
      have hF' := hF.out
      clear FL0 ROWS OUT
      have hks : ks = qs := by rw [← hqs.out]; exact (hF'.none_ hR).1
      subst hks
      by_cases hlt : ks.length < ps.length
      · obtain ⟨hd1, hd2, hd3⟩ := hF'.done (by decide) hR (Builtin.zeroCells #[.int .i64 0, .int .i64 0, .slice none 0 0] (ps.length - ks.length)).toList
        have hcl : ∀ ty, (Builtin.clear_ #[28] ty #[.slice (some ⟨g, ks.length * 3, none⟩) (ps.length - ks.length) (cap - ks.length)]).run Try.prog wr = .ok (.tuple #[]) (wr.setCells g (ks.length * 3) (Builtin.zeroCells #[.int .i64 0, .int .i64 0, .slice none 0 0] (ps.length - ks.length)).toList) := fun ty =>
          RQ.run_clear3 wr 28 59 ty _ _ _ Try.underlying28 Try.zeroRc ⟨rfl, rfl, rfl⟩ rfl g (ks.length * 3) _ _ (by omega) (fun j hj => (hF'.room (by omega)).1) (fun j hj => (hF'.room (by omega)).2)
        have HD2 : Hid _ := hd2
        have HD3 : Hid _ := hO.trans hd3
        have hkc : ¬ (cap = ks.length) := by omega
        have hkc' : ¬ (ks.length = cap) := by omega
        clear hF hF' hR hd1 hd2 hd3 HCL0 hO hqs
        generalize wr.setCells _ _ _ = w3 at *
        go_wp2
        go_ret
        exact ⟨rfl, HD2.out, HD3.out⟩
      · have hd2 := (hF'.none_ hR).2
        have hke : ks.length = ps.length := by omega
        have HD2 : Hid _ := hd2
        have hcl := fun a c ty W => HCL0.out a c ty W
        clear hF hF' hR hd2 hlt hkl HCL0 hqs
        have hsub : ps.length - ks.length = 0 := by omega
        have hle : ks.length ≤ ps.length := by omega
        have hle2 : ks.length ≤ cap := by omega
        clear hke
        by_cases hcc : cap = ks.length
        · subst hcc
          go_wp2
          go_ret
          exact ⟨rfl, HD2.out, hO⟩
        · have hcc' : ¬ (ks.length = cap) := fun e => hcc e.symm
          go_wp2
          go_ret
          exact ⟨rfl, HD2.out, hO⟩
set_option linter.unusedSimpArgs false in
set_option maxHeartbeats 3200000 in
set_option maxRecDepth 100000 in
theorem noMoreH_any (B g cap : Nat) (ps : List Rq) (n : Int) (w : World) (h8 : ps.length ≤ 8) (ho : RQ.Own 59 w B (.slice (some ⟨g, 0, none⟩) ps.length cap) ps) (qs : List Rq) (hqs : Hid (ps.filter (fun p => RQ.near n p.said) = qs)) :
    Calls Try.prog 30 #[.slice (some ⟨g, 0, none⟩) ps.length cap, .func (.func 34) #[] #[], .int .i64 n] w fun e w' => e = .returned (.slice (some ⟨g, 0, none⟩) qs.length cap) ∧ RQ.Own 59 w' B (.slice (some ⟨g, 0, none⟩) qs.length cap) qs ∧ MC.Only g w w' := by
  obtain ⟨i2, hi', hz0', hz1', hz2'⟩ := info_parts Try.infoRc
  have ROWS : Hid (RQ.Rows w B ps) := ho.rows
  have OUT : Hid _ := ho.out
  have FL0 : Hid (RQ.Flt 59 w B g cap ps (fun p => RQ.near n p.said) 0 []) := RQ.Flt.start _ ho.out
  obtain ⟨hc1, hc2, hBg, hgl⟩ := FL0.out.caps
  have hc63 : cap ≤ 9223372036854775807 := by unfold maxLen at hc2; omega
  clear ho
  go_enter Try.func30, Try.ntmps30
  go_wp2
  go_loopw [7, 9, 14] (fun u _ iv wr => ∃ (k : Nat) (ks : List Rq), iv = .int .i64 k ∧ k ≤ ps.length ∧ u = .slice (some ⟨g, 0, none⟩) ks.length cap ∧ Hid (RQ.Flt 59 wr B g cap ps (fun p => RQ.near n p.said) k ks) ∧ MC.Only g w wr) (fun _ _ iv _ => (ps.length - intOf iv).toNat)
  case atStart => exact ⟨0, [], rfl, by omega, rfl, FL0, MC.Only.refl _ _⟩
  case round =>
    obtain ⟨k, ks, rfl, hk, rfl, hF, hO⟩ := hrel
    by_cases hlk : k < ps.length
    · obtain ⟨e0, e1, e2, hg⟩ := hF.out.next hlk
      have hkl := hF.out.len
      have KEEP : Hid _ := fun (W : World) (hb : Below wr.heap.size wr W) h => (hF.out.below hb).keep (k := k) hlk h
      have OUTK : Hid _ := fun (W : World) (hb : Below wr.heap.size wr W) h => (hF.out.below hb).out (k := k) hlk h
      have ROOM : Hid _ := fun (W : World) (hb : Below wr.heap.size wr W) (o : Nat) (h : o < ps.length * 3) => (hF.out.below hb).room h
      have TL : Hid _ := fun W => hopsRe_any (RQ.at_ ps k) W
      clear FL0 hF ROWS OUT
      generalize RQ.at_ ps k = p at *
      obtain ⟨m, t, os, a, c⟩ := p
      go_wp2_with fail
      refine Calls.mono (TL.out _) ?_
      rintro e w2 ⟨rfl, hb2⟩
      have q0 : (wr.alloc (.cells #[.int .i64 m, .int .i64 t, .slice a os.length c] 59)).cell? ⟨wr.heap.size, 0, none⟩ = some (.int .i64 m) := by rw [World.cell?_alloc_new]; rfl
      have q1 : (wr.alloc (.cells #[.int .i64 m, .int .i64 t, .slice a os.length c] 59)).cell? ⟨wr.heap.size, 1, none⟩ = some (.int .i64 t) := by rw [World.cell?_alloc_new]; rfl
      have q2 : (wr.alloc (.cells #[.int .i64 m, .int .i64 t, .slice a os.length c] 59)).cell? ⟨wr.heap.size, 2, none⟩ = some (.slice a os.length c) := by rw [World.cell?_alloc_new]; rfl
      replace q0 := (hb2.cell (p := ⟨wr.heap.size, 0, none⟩) (by simp)).trans q0
      replace q1 := (hb2.cell (p := ⟨wr.heap.size, 1, none⟩) (by simp)).trans q1
      replace q2 := (hb2.cell (p := ⟨wr.heap.size, 2, none⟩) (by simp)).trans q2
      have hlt2 : wr.heap.size < w2.heap.size := by have := hb2.size; simp at this; omega
      have hbx : Below wr.heap.size wr w2 := ((Below.refl _ wr).alloc (Nat.le_refl _) _).trans (hb2.mono (by simp))
      have HBX : Hid _ := hbx
      clear hb2 TL e0 e1 e2 hbx
      cases hq : decide ((os.length : Int) ≤ n) with
      | false =>
        have HF2 : Hid _ := OUTK.out w2 HBX.out hq
        have HO2 : MC.Only g w w2 := hO.trans (MC.Only.of_below HBX.out)
        clear KEEP OUTK ROOM q0 q1 q2 HBX
        go_wp2
        go_roundw
        case rel => exact ⟨k + 1, ks, by go_num, by omega, rfl, HF2, HO2⟩
        case measure => simp [intOf]; omega
      | true =>
        have hbl : Below wr.heap.size wr (w2.alloc (.cells #[.int .i64 m, .int .i64 t, .slice a os.length c] 59)) := HBX.out.alloc HBX.out.size _
        have HF2 : Hid _ := KEEP.out _ hbl hq
        have hrun : ∀ ty, (Builtin.append_ #[28, 28] ty #[.slice (some ⟨g, 0, none⟩) ks.length cap, .slice (some ⟨w2.heap.size, 0, none⟩) 1 1]).run Try.prog (w2.alloc (.cells #[.int .i64 m, .int .i64 t, .slice a os.length c] 59)) = .ok (.slice (some ⟨g, 0, none⟩) (ks.length + 1) cap) ((w2.alloc (.cells #[.int .i64 m, .int .i64 t, .slice a os.length c] 59)).setCells g (ks.length * 3) [.int .i64 m, .int .i64 t, .slice a os.length c]) := fun ty => by
          have h := run_append_room_cells (P := Try.prog) (w2.alloc (.cells #[.int .i64 m, .int .i64 t, .slice a os.length c] 59)) 28 ty 59 i2 Try.underlying28 hi' g 0 ks.length cap ⟨w2.heap.size, 0, none⟩ 1 1 [.int .i64 m, .int .i64 t, .slice a os.length c] (by rw [hz1']; rfl) (RQ.new3 _ _ _ _ _ _ rfl) (RQ.one3 ⟨m, t, os, a, c⟩) (by omega) (fun j hj => by rw [hz1', Nat.zero_add]; exact (ROOM.out _ hbl _ (by simp at hj; omega)).1) (fun j hj => by rw [hz1', Nat.zero_add]; exact (ROOM.out _ hbl _ (by simp at hj; omega)).2)
          rw [hz1', Nat.zero_add] at h
          exact h
        have HO2 : MC.Only g w ((w2.alloc (.cells #[.int .i64 m, .int .i64 t, .slice a os.length c] 59)).setCells g (ks.length * 3) [.int .i64 m, .int .i64 t, .slice a os.length c]) := (hO.trans (MC.Only.of_below hbl)).trans (RA.only_cells g _ _ _)
        have HRUN : Hid _ := hrun
        have HO2' : Hid _ := HO2
        clear KEEP OUTK ROOM HBX hrun HO2 hbl
        go_wp2_with (at_builtin; refine RQ.wpList_append_room rfl _ _ 28 _ _ _ rfl HRUN.out rfl rfl ?_)
        generalize World.setCells _ _ _ _ = w3 at *
        have HLN : Hid ((ks ++ [(⟨m, t, os, a, c⟩ : Rq)]).length = ks.length + 1) := (show _ = _ from by simp)
        clear HRUN q0 q1 q2
        go_wp2
        go_roundw
        case rel => exact ⟨k + 1, ks ++ [⟨m, t, os, a, c⟩], by go_num, by omega, by rw [HLN.out], HF2, HO2'.out⟩
        case measure => simp [intOf]; omega
    · obtain rfl : k = ps.length := by omega
      have hkl := hF.out.len
      have hR : RQ.Rows wr B ps := RQ.Rows.only (by decide) ROWS.out OUT.out hO
      have HCL0 : Hid (∀ (a : Option Addr) (c : Nat) ty (W : World), (Builtin.clear_ #[28] ty #[.slice a 0 c]).run Try.prog W = .ok (.tuple #[]) W) := fun a c ty W => by cases a <;> simp [Builtin.clear_, run_underlying Try.underlying28]
      have hF' := hF.out
      clear FL0 ROWS OUT
      have hks : ks = qs := by rw [← hqs.out]; exact (hF'.none_ hR).1
      subst hks
      by_cases hlt : ks.length < ps.length
      · obtain ⟨hd1, hd2, hd3⟩ := hF'.done (by decide) hR (Builtin.zeroCells #[.int .i64 0, .int .i64 0, .slice none 0 0] (ps.length - ks.length)).toList
        have hcl : ∀ ty, (Builtin.clear_ #[28] ty #[.slice (some ⟨g, ks.length * 3, none⟩) (ps.length - ks.length) (cap - ks.length)]).run Try.prog wr = .ok (.tuple #[]) (wr.setCells g (ks.length * 3) (Builtin.zeroCells #[.int .i64 0, .int .i64 0, .slice none 0 0] (ps.length - ks.length)).toList) := fun ty =>
          RQ.run_clear3 wr 28 59 ty _ _ _ Try.underlying28 Try.zeroRc ⟨rfl, rfl, rfl⟩ rfl g (ks.length * 3) _ _ (by omega) (fun j hj => (hF'.room (by omega)).1) (fun j hj => (hF'.room (by omega)).2)
        have HD2 : Hid _ := hd2
        have HD3 : Hid _ := hO.trans hd3
        have hkc : ¬ (cap = ks.length) := by omega
        have hkc' : ¬ (ks.length = cap) := by omega
        clear hF hF' hR hd1 hd2 hd3 HCL0 hO hqs
        generalize wr.setCells _ _ _ = w3 at *
        go_wp2
        go_ret
        exact ⟨rfl, HD2.out, HD3.out⟩
      · have hd2 := (hF'.none_ hR).2
        have hke : ks.length = ps.length := by omega
        have HD2 : Hid _ := hd2
        have hcl := fun a c ty W => HCL0.out a c ty W
        clear hF hF' hR hd2 hlt hkl HCL0 hqs
        have hsub : ps.length - ks.length = 0 := by omega
        have hle : ks.length ≤ ps.length := by omega
        have hle2 : ks.length ≤ cap := by omega
        clear hke
        by_cases hcc : cap = ks.length
        · subst hcc
          go_wp2
          go_ret
          exact ⟨rfl, HD2.out, hO⟩
        · have hcc' : ¬ (ks.length = cap) := fun e => hcc e.symm
          go_wp2
          go_ret
          exact ⟨rfl, HD2.out, hO⟩
end Go.Proofs.Ytpdmbobcbehilaa

/- Rows of reaches marked, and the marks found: markReachS, heldReachS of the laws. -/
namespace Go.Proofs.Ytpdmbobcbehilaa
open Go.RowKit
set_option linter.unusedSimpArgs false in
set_option maxHeartbeats 1600000 in
set_option maxRecDepth 100000 in
theorem markReachS_any (B : Nat) (a : Option Addr) (c : Nat) (ps : List Rq) (k : Int) (w : World) (hn : ps.length ≤ 8) (hz : ∀ p, p ∈ ps → p.os.length ≤ 1048576) (hk0 : 0 ≤ k) (hk : k ≤ 1048576) (hB : B ≤ w.heap.size) (hown : RQ.Own 59 w B (.slice a ps.length c) ps) :
    Calls Try.prog 18 #[.slice a ps.length c, .int .i64 k] w fun e w' => e = .returned (.int .i64 (k + RQ.tot ps)) ∧ RQ.Own 59 w' B (.slice a ps.length c) (RQ.mkL k ps) ∧ Below B w w' := by
  have HT : Hid (RQ.tot ps ≤ 8388624) := by
    show _ ≤ _
    have := RQ.tot_bd ps 1048576 hz
    have h2 := Nat.mul_le_mul_right (2 + 1048576) hn
    omega
  have HZ : Hid _ := fun i (hi : i < ps.length) => hz _ (RQ.at_mem hi)
  have HO : Hid _ := hown
  clear hown hz
  go_enter Try.func18, Try.ntmps18
  go_wp2
  go_loopw [1, 5] (fun kv iv wr => ∃ i : Nat, kv = .int .i64 (k + RQ.tot (ps.take i)) ∧ iv = .int .i64 i ∧ i ≤ ps.length ∧ Hid (RQ.Own 59 wr B (.slice a ps.length c) (RQ.mkUp k ps i)) ∧ Below B w wr) (fun _ iv _ => (ps.length - intOf iv).toNat)
  case atStart => exact ⟨0, by simp [RQ.tot], rfl, by omega, by show RQ.Own _ _ _ _ _; rw [RQ.mkUp_zero]; exact HO.out, Below.refl _ _⟩
  case round =>
    clear HO
    obtain ⟨i, rfl, rfl, hi, HO, hb⟩ := hrel
    have tl := RQ.tot_le ps i
    have HT' := HT.out
    by_cases hl : i < ps.length
    · have hl' : i < (RQ.mkUp k ps i).length := by rw [RQ.mkUp_len k ps i (by omega)]; exact hl
      rcases HO.out.out.2 with ⟨h', h0⟩ | ⟨g, cap', cur, hv, -⟩
      · rw [RQ.mkUp_len k ps i (by omega)] at h0; omega
      · simp only [Value.slice.injEq] at hv
        obtain ⟨rfl, -, -⟩ := hv
        have ol := RQ.mkUp_len k ps i (by omega)
        have oo : wr.ownsRow B 59 3 (.slice (some ⟨g, 0, none⟩) ps.length c) ps.length (RQ.flat (RQ.mkUp k ps i)) := by have h := HO.out.out; rw [ol] at h; exact h
        obtain ⟨f0, f1, f2⟩ := RQ.flat_get _ i hl'
        have c0 := (oo.cellAt (i * 3) (by omega)).trans f0
        have c1 := (oo.cellAt (i * 3 + 1) (by omega)).trans f1
        have c2 := (oo.cellAt (i * 3 + 2) (by omega)).trans f2
        have z0 := oo.frozenAt (i * 3)
        have z1 := oo.frozenAt (i * 3 + 1)
        have hg := (oo.lt g rfl).2
        have hat := RQ.mkUp_at (k := k) hl
        rw [hat] at c0 c1 c2
        have hBg := (oo.lt g rfl).1
        have hr := HO.out.rows.row _ (RQ.at_mem hl')
        rw [hat] at hr
        have hzz := HZ.out i hl
        have htt := RQ.tot_take hl
        have st := ((oo.stored (i * 3) (.int .i64 (k + RQ.tot (ps.take i)))).1.stored (i * 3 + 1) (.int .i64 (k + RQ.tot (ps.take i) + 1))).1
        have onW : MC.Only g wr ((wr.setCell ⟨g, i * 3, none⟩ (.int .i64 (k + RQ.tot (ps.take i)))).setCell ⟨g, i * 3 + 1, none⟩ (.int .i64 (k + RQ.tot (ps.take i) + 1))) := ((MC.Only.refl g wr).setCell (i * 3) _).setCell (i * 3 + 1) _
        have hr1 : NR.In ((wr.setCell ⟨g, i * 3, none⟩ (.int .i64 (k + RQ.tot (ps.take i)))).setCell ⟨g, i * 3 + 1, none⟩ (.int .i64 (k + RQ.tot (ps.take i) + 1))) B (RQ.at_ ps i).a (RQ.at_ ps i).os := by
          by_cases e : (RQ.at_ ps i).os = []
          · rw [e]; exact .nil _ _ _
          · exact hr.only onW (RQ.in_ne (by decide) hr e oo)
        have HMK : Hid (Calls _ _ _ _ _) := markIntS_in B (RQ.at_ ps i).a (RQ.at_ ps i).c (RQ.at_ ps i).os (k + RQ.tot (ps.take i) + 1 + 1) ((wr.setCell ⟨g, i * 3, none⟩ (.int .i64 (k + RQ.tot (ps.take i)))).setCell ⟨g, i * 3 + 1, none⟩ (.int .i64 (k + RQ.tot (ps.take i) + 1))) hzz (by omega) (by omega) hr1
        have HNX : Hid (∀ w' : World, NR.In w' B (RQ.at_ ps i).a (M5.marks (k + RQ.tot (ps.take i) + 1 + 1) (RQ.at_ ps i).os.length) → ((RQ.at_ ps i).os = [] → (wr.setCell ⟨g, i * 3, none⟩ (.int .i64 (k + RQ.tot (ps.take i)))).setCell ⟨g, i * 3 + 1, none⟩ (.int .i64 (k + RQ.tot (ps.take i) + 1)) = w') → (∀ g', (RQ.at_ ps i).a = some ⟨g', 0, none⟩ → MC.Only g' ((wr.setCell ⟨g, i * 3, none⟩ (.int .i64 (k + RQ.tot (ps.take i)))).setCell ⟨g, i * 3 + 1, none⟩ (.int .i64 (k + RQ.tot (ps.take i) + 1))) w') → RQ.Own 59 w' B (.slice (some ⟨g, 0, none⟩) ps.length c) (RQ.mkUp k ps (i + 1)) ∧ Below B w w') := fun w' h1 h2 h3 => by
          have hm := HO.out.mark (by decide) hl' (os' := M5.marks (k + RQ.tot (ps.take i) + 1 + 1) (RQ.at_ ps i).os.length) (by rw [hat, M5.marks_len]) (by rw [hat]; exact h1) (fun e => h2 (by rw [← hat]; exact e)) (by rw [hat]; exact h3)
          rw [hat, show (⟨k + RQ.tot (ps.take i), k + RQ.tot (ps.take i) + 1, M5.marks (k + RQ.tot (ps.take i) + 1 + 1) (RQ.at_ ps i).os.length, (RQ.at_ ps i).a, (RQ.at_ ps i).c⟩ : Rq) = RQ.mk1 (k + RQ.tot (ps.take i)) (RQ.at_ ps i) by unfold RQ.mk1; rw [Int.add_assoc _ 1 1]; rfl, RQ.mkUp_set hl] at hm
          refine ⟨hm, ?_⟩
          have hb1 := hb.trans (onW.below hBg (Nat.le_trans hB hb.size))
          by_cases e : (RQ.at_ ps i).os = []
          · rw [← h2 e]; exact hb1
          · obtain ⟨g', hg'⟩ := hr1.some e
            have h4 := hr1
            rw [hg'] at h4
            exact hb1.trans ((h3 g' hg').below (h4.lt e).1 (Nat.le_trans hB hb1.size))
        have ET : Hid (RQ.tot (ps.take (i + 1)) = RQ.tot (ps.take i) + (2 + (RQ.at_ ps i).os.length)) := htt
        have c2' : ((wr.setCell ⟨g, i * 3, none⟩ (.int .i64 (k + RQ.tot (ps.take i)))).setCell ⟨g, i * 3 + 1, none⟩ (.int .i64 (k + RQ.tot (ps.take i) + 1))).cell? ⟨g, i * 3 + 2, none⟩ = some (.slice (RQ.at_ ps i).a (RQ.at_ ps i).os.length (RQ.at_ ps i).c) := by
          rw [st.cellAt (i * 3 + 2) (by omega), List.getElem?_set_ne (by omega), List.getElem?_set_ne (by omega)]
          rw [hat] at f2; exact f2
        clear HO hr hr1 htt hat oo st onW hb f0 f1 f2 ol hl'
        generalize RQ.tot (ps.take i) = ti at *
        generalize (RQ.at_ ps i).os.length = ri at *
        generalize (RQ.at_ ps i).a = ra at *
        generalize (RQ.at_ ps i).c = rc at *
        generalize (RQ.at_ ps i).m = rm at *
        generalize (RQ.at_ ps i).t = rt at *
        go_wp2_with fail
        refine Calls.mono HMK.out ?_
        rintro e w2 ⟨rfl, h1, h2, h3⟩
        obtain ⟨R1, R2⟩ := HNX.out w2 h1 h2 h3
        have HR1 : Hid _ := R1
        clear HMK HNX h1 h2 h3 c0 c1 c2 c2' R1 z0 z1
        go_wp2
        go_roundw
        case rel => exact ⟨i + 1, by rw [ET.out]; congr 1; push_cast; omega, by go_num, by omega, HR1, R2⟩
        case measure => simp [intOf]; omega
    · obtain rfl : i = ps.length := by omega
      rw [List.take_length]
      rw [RQ.mkUp_all] at HO
      go_wp2
      go_ret
      exact ⟨rfl, HO.out, hb⟩
set_option linter.unusedSimpArgs false in
set_option maxHeartbeats 1600000 in
set_option maxRecDepth 100000 in
theorem heldReachS_any (a : Option Addr) (c : Nat) (ps : List Rq) (k : Int) (w : World) (hn : ps.length ≤ 8) (hz : ∀ p, p ∈ ps → p.os.length ≤ 1048576) (hk0 : 0 ≤ k) (hk : k ≤ 1048576) (hin : RQ.At w a (RQ.mkL k ps)) :
    Calls Try.prog 19 #[.slice a ps.length c, .int .i64 k] w fun e w' => e = .returned (.int .i64 (k + RQ.tot ps)) ∧ w = w' := by
  have HT : Hid (RQ.tot ps ≤ 8388624) := by
    show _ ≤ _
    have := RQ.tot_bd ps 1048576 hz
    have h2 := Nat.mul_le_mul_right (2 + 1048576) hn
    omega
  have HZ : Hid _ := fun i (hi : i < ps.length) => hz _ (RQ.at_mem hi)
  have HI : Hid _ := hin
  clear hin hz
  go_enter Try.func19, Try.ntmps19
  go_wp2
  go_loopw [1, 5] (fun kv iv wr => ∃ i : Nat, kv = .int .i64 (k + RQ.tot (ps.take i)) ∧ iv = .int .i64 i ∧ i ≤ ps.length ∧ w = wr) (fun _ iv _ => (ps.length - intOf iv).toNat)
  case atStart => exact ⟨0, by simp [RQ.tot], rfl, by omega, rfl⟩
  case round =>
    obtain ⟨i, rfl, rfl, hi, rfl⟩ := hrel
    have tl := RQ.tot_le ps i
    have HT' := HT.out
    by_cases hl : i < ps.length
    · obtain ⟨b1, o1, rfl, hlt1, p0, p1, p2, p3, p4⟩ := HI.out.at (j := i) (by rw [RQ.mkL_len]; exact hl)
      rw [RQ.mkL_at hl] at p0 p1 p2 p4
      have hzz := HZ.out i hl
      simp only [RQ.mk1, M5.marks_len] at p0 p1 p2 p4
      have ET : Hid (RQ.tot (ps.take (i + 1)) = RQ.tot (ps.take i) + (2 + (RQ.at_ ps i).os.length)) := RQ.tot_take hl
      have tl2 := RQ.tot_le ps (i + 1)
      rw [ET.out] at tl2
      rw [show k + (RQ.tot (ps.take i) : Int) + 2 = k + (RQ.tot (ps.take i) : Int) + 1 + 1 by omega] at p4
      have HLD : Hid (Calls _ _ _ _ _) := heldIntS_any (RQ.at_ ps i).a (RQ.at_ ps i).c (RQ.at_ ps i).os.length (k + RQ.tot (ps.take i) + 1 + 1) w hzz (by omega) (by omega) p4
      clear p3 p4
      generalize RQ.tot (ps.take i) = ti at *
      generalize (RQ.at_ ps i).os.length = ri at *
      generalize (RQ.at_ ps i).a = ra at *
      generalize (RQ.at_ ps i).c = rc at *
      have h1 : (k + (ti : Int) != k + ti) = false := by simp
      have h2 : (k + (ti : Int) + 1 != k + ti + 1) = false := by simp
      go_wp2_with fail
      refine Calls.mono HLD.out ?_
      rintro e w2 ⟨rfl, rfl⟩
      have h3 : decide (k + (ti : Int) + 1 + 1 + ri < 0) = false := decide_eq_false (by omega)
      clear HLD p0 p1 p2
      go_wp2
      go_roundw
      case rel => exact ⟨i + 1, by rw [ET.out]; congr 1; push_cast; omega, by go_num, by omega, trivial⟩
      case measure => simp [intOf]; omega
    · obtain rfl : i = ps.length := by omega
      rw [List.take_length]
      go_wp2
      go_ret
      exact ⟨rfl, rfl⟩
end Go.Proofs.Ytpdmbobcbehilaa

/- All for whom there is a route, the program's: allReached. -/
namespace Go.Proofs.Ytpdmbobcbehilaa
open Go.RowKit
set_option linter.unusedSimpArgs false in
set_option maxHeartbeats 3200000 in
set_option maxRecDepth 100000 in
theorem allReached_any (a d : Option Addr) (cap cd : Nat) (xs : List I5) (b : Bd) (ms : List Int) (w : World) (hm : ms.length ≤ 8) (hn : xs.length ≤ 1048576) (hin : MI5.RowAt w a xs) (hin2 : M4.IntsAt w d ms) :
    Calls Try.prog 31 #[.slice a xs.length cap, b.v, .slice d ms.length cd] w fun e w' => ∃ g c1 ps, e = .returned (.slice (some ⟨g, 0, none⟩) (List.length ps) c1) ∧ RQ.Own 59 w' w.heap.size (.slice (some ⟨g, 0, none⟩) ps.length c1) ps ∧ ps.map Rq.said = RQ.allL xs b ms ∧ Below w.heap.size w w' := by
  obtain ⟨i2, hi', hz0', hz1', hz2'⟩ := info_parts Try.infoRc
  have P2 : Hid (∀ (t : Int) (W : World), Below w.heap.size w W → Calls Try.prog 55 #[.slice a xs.length cap, .int .i64 b.fr, .int .i64 b.md, .int .i64 t] W fun e w' => ∃ a1 c1, e = .returned (.tuple #[.slice a1 (PN.routeL xs b.fr b.md t).length c1, .int .i64 (PN.tellN (PN.routeM xs b.fr b.md t)), .bool (PN.tellB (PN.routeM xs b.fr b.md t))]) ∧ w'.ownsRow W.heap.size 3 1 (.slice a1 (PN.routeL xs b.fr b.md t).length c1) (PN.routeL xs b.fr b.md t).length (M4.iv (PN.routeL xs b.fr b.md t)) ∧ Below W.heap.size W w') := fun t W h => implRoute_any a cap xs b.fr b.md t W hn (hin.below h)
  have HMS : Hid (M4.IntsAt w d ms) := hin2
  have YES : Hid (∀ k, k < ms.length → PN.tellB (PN.routeM xs b.fr b.md (ms.getD k 0)) = true → RQ.allL xs b (ms.take (k + 1)) = RQ.allL xs b (ms.take k) ++ [(ms.getD k 0, PN.tellN (PN.routeM xs b.fr b.md (ms.getD k 0)), PN.routeL xs b.fr b.md (ms.getD k 0))]) := fun k hk h1 => RQ.allL_yes hk h1
  have NO : Hid (∀ k, k < ms.length → PN.tellB (PN.routeM xs b.fr b.md (ms.getD k 0)) = false → RQ.allL xs b (ms.take (k + 1)) = RQ.allL xs b (ms.take k)) := fun k hk h => RQ.allL_no hk h
  have ML : Hid (∀ k, (RQ.allL xs b (ms.take k)).length ≤ 8) := fun k => by have := RQ.allL_len xs b (ms.take k); rw [List.length_take] at this; omega
  have RL : Hid (∀ t, (PN.routeL xs b.fr b.md t).length ≤ 1048576) := fun t => PN.routeL_len _ _ _ _
  have Z0 : Hid (RQ.allL xs b (ms.take 0) = []) := (show _ = _ from by rw [List.take_zero]; rfl)
  have ZN : Hid (RQ.allL xs b (ms.take ms.length) = RQ.allL xs b ms) := (show _ = _ from by rw [List.take_length])
  have BA := BdAt.box w b 33
  have BB := (Below.refl _ w).alloc (Nat.le_refl _) (.cells #[.int .i64 b.fr, .int .i64 b.to, .bool b.gr, .int .i64 b.md, .int .i64 b.no, .int .i64 b.lf, .int .i64 b.hp, .int .i64 b.of, .int .i64 b.tl, .string b.py] 33)
  clear hin hin2
  generalize RQ.allL xs b ms = R at *
  generalize hR : (fun k => RQ.allL xs b (ms.take k)) = RK at *
  have e1 : ∀ k, RQ.allL xs b (ms.take k) = RK k := fun k => by rw [← hR]
  clear hR
  simp only [e1] at YES NO ML Z0 ZN
  clear e1
  generalize hR : (fun t => PN.routeM xs b.fr b.md t) = RM at *
  have e1 : ∀ t, PN.routeM xs b.fr b.md t = RM t := fun t => by rw [← hR]
  clear hR
  simp only [e1] at P2 YES NO
  clear e1
  generalize hR : (fun t => PN.routeL xs b.fr b.md t) = RT at *
  have e1 : ∀ t, PN.routeL xs b.fr b.md t = RT t := fun t => by rw [← hR]
  clear hR
  simp only [e1] at P2 YES NO RL
  clear e1
  obtain ⟨fr, to, gr, md, no, lf, hp, of, tl, py⟩ := b
  go_enter Try.func31, Try.ntmps31
  generalize hW1 : w.alloc _ = W1 at *
  have BLIT : Hid (Below W1.heap.size W1 (W1.alloc (.cells #[] 59))) := (Below.refl _ W1).alloc (Nat.le_refl _) _
  have OLIT : Hid (RQ.Own 59 (W1.alloc (.cells #[] 59)) W1.heap.size (.slice (some ⟨W1.heap.size, 0, none⟩) ([] : List Rq).length 0) []) := ⟨World.ownsRow_lit (base := W1.heap.size) (e := 59) (size := 3) W1 #[] 0 (Nat.le_refl _) (by unfold maxLen; omega) (by simp), RQ.Rows.nil _ _⟩
  go_wp2
  generalize W1.alloc (.cells #[] 59) = W2 at *
  go_loopw [7, 9, 10, 11, 12, 16] (fun u _ _ _ _ iv wr => ∃ (k : Nat) (ps : List Rq), iv = .int .i64 k ∧ k ≤ ms.length ∧ Hid (ps.map Rq.said = RK k) ∧ Hid (RQ.Own 59 wr W1.heap.size u ps) ∧ (∃ g c, u = .slice (some ⟨g, 0, none⟩) ps.length c) ∧ Below W1.heap.size W1 wr) (fun _ _ _ _ _ iv _ => (ms.length - intOf iv).toNat)
  case atStart => exact ⟨0, [], rfl, by omega, by show _ = _; rw [Z0.out]; rfl, OLIT, ⟨W1.heap.size, 0, rfl⟩, BLIT.out⟩
  case round =>
    obtain ⟨k, ps, rfl, hk, hP, hO, ⟨gu, cu, rfl⟩, hb⟩ := hrel
    have BA2 := BA.below hb BA.1
    have BB2 := BB.trans (hb.mono BB.size)
    have hbs := hb.size
    have hps : ps.length ≤ 8 := by have := congrArg List.length hP.out; rw [List.length_map] at this; rw [this]; exact ML.out k
    by_cases hlk : k < ms.length
    · obtain ⟨b1, off1, hd1, hlt1, hc1⟩ := M4.IntsAt.at (M4.IntsAt.below HMS.out BB2) hlk
      have Y1 : Hid _ := YES.out k hlk
      have N1 : Hid _ := NO.out k hlk
      generalize ms.getD k 0 = z at *
      have P2' : Hid (Calls _ _ _ _ _) := P2.out z wr BB2
      have hrl := RL.out z
      generalize RT z = L at *
      generalize PN.tellN (RM z) = tn at *
      generalize hTB : PN.tellB (RM z) = T at *
      clear hTB
      obtain ⟨hlt, c0, c1, c2, c3, c4, c5, c6, c7, c8, c9⟩ := id BA2
      clear c1 c2 c4 c5 c6 c7 c8 c9
      subst hd1
      go_wp2_with fail
      refine Calls.mono P2'.out ?_
      rintro e w2 ⟨a2, ca2, rfl, ho2, hb2⟩
      clear c0 c3 hlt hc1 P2'
      have BA3 := BA2.below hb2 BA2.1
      have BB3 := BB2.trans (hb2.mono BB2.size)
      have HB3 : Hid (Below W1.heap.size W1 w2) := hb.trans (hb2.mono hbs)
      have HO2 : Hid _ := hO.out.below hb2
      have HN2 : Hid (NR.In w2 wr.heap.size a2 L) := NR.In.of_own ho2
      have HOLD : Hid _ := hO.out.rows.lt
      have hb2s := hb2.size
      clear hb2 ho2 BA2 hO
      clear BA3
      cases T with
      | false =>
        have HR : Hid (RK (k + 1) = RK k) := N1.out rfl
        clear Y1 N1 HN2 HOLD
        go_wp2
        go_roundw
        case rel => exact ⟨k + 1, ps, by go_num, by omega, by show _ = _; rw [HR.out]; exact hP.out, HO2, ⟨gu, cu, rfl⟩, HB3.out⟩
        case measure => simp [intOf]; omega
      | true =>
        have HR : Hid (RK (k + 1) = RK k ++ [(z, tn, L)]) := Y1.out (by first | rfl | trivial)
        have HP : Hid _ := hP.out
        clear Y1 N1 hP
        have HLIT : Hid (RQ.Own 59 (w2.alloc (.cells #[.int .i64 z, .int .i64 tn, .slice a2 L.length ca2] 59)) W1.heap.size (.slice (some ⟨gu, 0, none⟩) ps.length cu) ps) := HO2.out.below ((Below.refl _ w2).alloc (Nat.le_refl _) _)
        go_wp2_with (at_builtin; refine wpList_append_own _ rfl _ _ 28 rfl W1.heap.size 59 i2 (.agg #[.int .i64 0, .int .i64 0, .slice none 0 0]) 3 40 Try.underlying28 hi' hz0' hz1' hz2' rfl (by decide) _ _ _ rfl HLIT.out.out ⟨w2.heap.size, 0, none⟩ 1 1 [.int .i64 z, .int .i64 tn, .slice a2 L.length ca2] rfl rfl ?c1 ?c2 ?c3 ?c4 ?c5 ?_)
        case c1 => exact RQ.new3 _ _ _ _ _ _ rfl
        case c2 => exact RQ.one3 ⟨z, tn, L, a2, ca2⟩
        case c3 => unfold maxLen; omega
        case c4 => omega
        case c5 => have := HB3.out.size; simp; omega
        intro v' w6 hown1 hgrow _
        have HS : Hid (RQ.Own 59 w6 W1.heap.size v' (ps ++ [⟨z, tn, L, a2, ca2⟩])) := RQ.Own.snoc (q := ⟨z, tn, L, a2, ca2⟩) (by decide) HLIT.out (HN2.out.below ((Below.refl _ w2).alloc (Nat.le_refl _) _)) (by have := BB2.size; omega) HOLD.out hgrow hown1
        have HB6 : Hid (Below W1.heap.size W1 w6) := (HB3.out.alloc HB3.out.size _).grown hgrow (by have := HB3.out.size; simp; omega) (fun j hj => (HLIT.out.out.lt j hj).1)
        have hsl : (ps ++ [(⟨z, tn, L, a2, ca2⟩ : Rq)]).map Rq.said = RK (k + 1) := by rw [HR.out, List.map_append, HP.out]; rfl
        have HSL : Hid _ := hsl
        clear hown1 hgrow HLIT HN2 HOLD HO2 HP HR hsl
        obtain ⟨gv, cv, hv⟩ : ∃ g c, v' = .slice (some ⟨g, 0, none⟩) (ps ++ [(⟨z, tn, L, a2, ca2⟩ : Rq)]).length c := by
          rcases HS.out.out.2 with ⟨h1, h2⟩ | ⟨g, c, cur, hv, _⟩
          · simp at h2
          · exact ⟨g, c, hv⟩
        subst hv
        generalize ps ++ [(⟨z, tn, L, a2, ca2⟩ : Rq)] = qs at *
        go_wp2
        go_roundw
        case rel => exact ⟨k + 1, qs, by go_num, by omega, HSL, HS, ⟨gv, cv, rfl⟩, HB6.out⟩
        case measure => simp [intOf]; omega
    · obtain rfl : k = ms.length := by omega
      have HL : Hid (ps.map Rq.said = R) := by show _ = _; rw [hP.out, ZN.out]
      clear P2 YES NO ML RL Z0 ZN BA BA2 hP
      go_wp2
      go_ret
      exact ⟨gu, cu, ps, rfl, hO.out.mono BB.size, HL.out, BB2⟩
end Go.Proofs.Ytpdmbobcbehilaa

/- The law FnExactReachAll answers true, whatever the arguments, by contracts of the two functions. -/
namespace Go.Proofs.Ytpdmbobcbehilaa
open Go.RowKit
set_option linter.unusedSimpArgs false in
set_option maxHeartbeats 3200000 in
set_option maxRecDepth 100000 in
theorem lawReachAll_any (a0 : Option Addr) (cap0 : Nat) (xs0 : List I5) (b1 : Bd) (a2 : Option Addr) (cap2 : Nat) (xs2 : List Int) (L : List (Int × Int × List Int)) (hL8 : L.length ≤ 8) (hLz : ∀ r, r ∈ L → r.2.2.length ≤ 1048576) (r1 : Bool)
    (SG0 : xs0.length ≤ 1048576 → xs2.length ≤ 1048576 → b1.py.size ≤ 1048576 → ∀ (g0 g2 : Nat) (W : World), MI5.RowAt W (some ⟨g0, 0, none⟩) xs0 → M4.IntsAt W (some ⟨g2, 0, none⟩) xs2 → Calls Try.prog 8 #[.slice (some ⟨g0, 0, none⟩) xs0.length xs0.length, b1.v, .slice (some ⟨g2, 0, none⟩) xs2.length xs2.length] W fun e w' => ∃ a1 c1 ps, e = .returned (.tuple #[.slice a1 (List.length ps) c1, .bool r1]) ∧ RQ.Own 59 w' W.heap.size (.slice a1 ps.length c1) ps ∧ ps.map Rq.said = L ∧ Below W.heap.size W w')
    (IG0 : xs0.length ≤ 1048576 → xs2.length ≤ 1048576 → b1.py.size ≤ 1048576 → ∀ (g0 g2 : Nat) (W : World), MI5.RowAt W (some ⟨g0, 0, none⟩) xs0 → M4.IntsAt W (some ⟨g2, 0, none⟩) xs2 → Calls Try.prog 12 #[.slice (some ⟨g0, 0, none⟩) xs0.length xs0.length, b1.v, .slice (some ⟨g2, 0, none⟩) xs2.length xs2.length] W fun e w' => ∃ a1 c1 ps, e = .returned (.tuple #[.slice a1 (List.length ps) c1, .bool r1]) ∧ RQ.Own 59 w' W.heap.size (.slice a1 ps.length c1) ps ∧ ps.map Rq.said = L ∧ Below W.heap.size W w')
    (w : World) (hl0 : xs0.length ≤ maxLen) (hl2 : xs2.length ≤ maxLen) (hi0 : MI5.RowAt w a0 xs0) (hi2 : M4.IntsAt w a2 xs2) (hp : b1.py.size ≤ maxLen) :
    Calls Try.prog 3 #[.slice a0 xs0.length cap0, b1.v, .slice a2 xs2.length cap2] w fun e w' => e = .returned (.bool true) ∧ Below w.heap.size w w' := by
  have H0 : Hid (MI5.RowAt w a0 xs0) := hi0
  have H2 : Hid (M4.IntsAt w a2 xs2) := hi2
  clear hi0 hi2
  unfold maxLen at hl2
  by_cases hz2 : xs2.length ≤ 1048576
  · clear hl2
    have SG1 : Hid _ := SG0
    have IG1 : Hid _ := IG0
    clear SG0 IG0
    have SZ0 : Hid _ := fun (left : Int) (h0 : 0 ≤ left) (h1 : left ≤ 1048576) W => szContactS_any a0 cap0 xs0.length W left h0 h1 hl0
    have SZB : Hid (∀ (left : Int) (W : World), 0 ≤ left ∧ left ≤ 1048576 → _) := fun (left : Int) W (h : 0 ≤ left ∧ left ≤ 1048576) => szBundle_any b1 left W hp h
    have TB : Hid _ := fun W => toBundle_any b1 W
    have BX : Hid (BdAt _ _ b1) := BdAt.box w b1 24
    have B := (Below.refl _ w).alloc (Nat.le_refl _) (.cells #[.int .i64 b1.fr, .int .i64 b1.to, .bool b1.gr, .int .i64 b1.md, .int .i64 b1.no, .int .i64 b1.lf, .int .i64 b1.hp, .int .i64 b1.of, .int .i64 b1.tl, .string b1.py] 24)
    clear hl0
    clear hp
    obtain ⟨fr, to, gr, md, no, lf, hp, of, tl, py⟩ := b1
    have hS0 := B.size
    go_enter Try.func3, Try.ntmps3
    go_wp2_with fail
    refine (SZ0.out 1048576 (by omega) (by omega) _).mono ?_
    rintro e w1 ⟨l0, rfl, hr0, rfl⟩
    clear SZ0
    by_cases h0 : l0 < 0
    · clear hr0
      go_wp2
      go_ret
      exact ⟨rfl, B⟩
    · have hz0 : xs0.length ≤ 1048576 := by omega
      have hl00 : 0 ≤ l0 := by omega
      have hl01 : l0 ≤ 1048576 := by omega
      clear hr0
      obtain ⟨hlt, c0, c1, c2, c3, c4, c5, c6, c7, c8, c9⟩ := id BX.out
      go_wp2_with fail
      refine (SZB.out l0 _ ⟨by omega, by omega⟩).mono ?_
      rintro e w1 ⟨⟨r, rfl, hr⟩, hb1⟩
      clear hlt c0 c1 c2 c3 c4 c5 c6 c7 c8 c9
      replace BX : Hid (BdAt w1 w.heap.size ⟨fr, to, gr, md, no, lf, hp, of, tl, py⟩) := BdAt.below BX.out hb1 BX.out.1
      replace B := B.trans (hb1.mono B.size)
      clear SZB hb1
      rcases hr with hr | ⟨hr1, hr2⟩
      · go_wp2
        go_ret
        exact ⟨rfl, B⟩
      · have hpy : py.size ≤ 1048576 := by omega
        have hr3 : 0 ≤ r ∧ r ≤ 1048576 := by omega
        clear hr1
        have SG : Hid _ := SG1.out hz0 hz2 hpy
        have IG : Hid _ := IG1.out hz0 hz2 hpy
        clear SG1 IG1
        have TP0 : Hid _ := fun W h => toContactS_any a0 cap0 xs0 W hz0 h
        have EQ0 : Hid _ := fun g g2 W h1 h2 => eqContactS_any (some ⟨g, 0, none⟩) (some ⟨g2, 0, none⟩) xs0.length xs0.length xs0 xs0 W hz0 hz0 h1 h2
        have TP2 : Hid _ := fun W h => toIntS_own a2 cap2 xs2 W hz2 h
        have EQ2 : Hid _ := fun g g2 W h1 h2 => eqIntS_any (some ⟨g, 0, none⟩) (some ⟨g2, 0, none⟩) xs2.length xs2.length xs2 xs2 W (by omega) (by omega) h1 h2
        have hq : w.heap.size < w1.heap.size := BX.out.1
        have KP : ∀ V1 V2 : World, (Below w1.heap.size w1 V1 ∧ V1.cell? ⟨w.heap.size, 0, none⟩ = some (.int .i64 fr) ∧ V1.cell? ⟨w.heap.size, 1, none⟩ = some (.int .i64 to) ∧ V1.cell? ⟨w.heap.size, 2, none⟩ = some (.bool gr) ∧ V1.cell? ⟨w.heap.size, 3, none⟩ = some (.int .i64 md) ∧ V1.cell? ⟨w.heap.size, 4, none⟩ = some (.int .i64 no) ∧ V1.cell? ⟨w.heap.size, 5, none⟩ = some (.int .i64 lf) ∧ V1.cell? ⟨w.heap.size, 6, none⟩ = some (.int .i64 hp) ∧ V1.cell? ⟨w.heap.size, 7, none⟩ = some (.int .i64 of) ∧ V1.cell? ⟨w.heap.size, 8, none⟩ = some (.int .i64 tl) ∧ V1.cell? ⟨w.heap.size, 9, none⟩ = some (.string py)) → Below V1.heap.size V1 V2 → (Below w1.heap.size w1 V2 ∧ V2.cell? ⟨w.heap.size, 0, none⟩ = some (.int .i64 fr) ∧ V2.cell? ⟨w.heap.size, 1, none⟩ = some (.int .i64 to) ∧ V2.cell? ⟨w.heap.size, 2, none⟩ = some (.bool gr) ∧ V2.cell? ⟨w.heap.size, 3, none⟩ = some (.int .i64 md) ∧ V2.cell? ⟨w.heap.size, 4, none⟩ = some (.int .i64 no) ∧ V2.cell? ⟨w.heap.size, 5, none⟩ = some (.int .i64 lf) ∧ V2.cell? ⟨w.heap.size, 6, none⟩ = some (.int .i64 hp) ∧ V2.cell? ⟨w.heap.size, 7, none⟩ = some (.int .i64 of) ∧ V2.cell? ⟨w.heap.size, 8, none⟩ = some (.int .i64 tl) ∧ V2.cell? ⟨w.heap.size, 9, none⟩ = some (.string py)) := fun V1 V2 ⟨h, h0, h1, h2, h3, h4, h5, h6, h7, h8, h9⟩ hb => ⟨h.trans (hb.mono h.size), (hb.cell (p := ⟨w.heap.size, 0, none⟩) (Nat.lt_of_lt_of_le hq h.size)).trans h0, (hb.cell (p := ⟨w.heap.size, 1, none⟩) (Nat.lt_of_lt_of_le hq h.size)).trans h1, (hb.cell (p := ⟨w.heap.size, 2, none⟩) (Nat.lt_of_lt_of_le hq h.size)).trans h2, (hb.cell (p := ⟨w.heap.size, 3, none⟩) (Nat.lt_of_lt_of_le hq h.size)).trans h3, (hb.cell (p := ⟨w.heap.size, 4, none⟩) (Nat.lt_of_lt_of_le hq h.size)).trans h4, (hb.cell (p := ⟨w.heap.size, 5, none⟩) (Nat.lt_of_lt_of_le hq h.size)).trans h5, (hb.cell (p := ⟨w.heap.size, 6, none⟩) (Nat.lt_of_lt_of_le hq h.size)).trans h6, (hb.cell (p := ⟨w.heap.size, 7, none⟩) (Nat.lt_of_lt_of_le hq h.size)).trans h7, (hb.cell (p := ⟨w.heap.size, 8, none⟩) (Nat.lt_of_lt_of_le hq h.size)).trans h8, (hb.cell (p := ⟨w.heap.size, 9, none⟩) (Nat.lt_of_lt_of_le hq h.size)).trans h9⟩
        have TQ0 : Hid (∀ W' : World, (Below w1.heap.size w1 W' ∧ W'.cell? ⟨w.heap.size, 0, none⟩ = some (.int .i64 fr) ∧ W'.cell? ⟨w.heap.size, 1, none⟩ = some (.int .i64 to) ∧ W'.cell? ⟨w.heap.size, 2, none⟩ = some (.bool gr) ∧ W'.cell? ⟨w.heap.size, 3, none⟩ = some (.int .i64 md) ∧ W'.cell? ⟨w.heap.size, 4, none⟩ = some (.int .i64 no) ∧ W'.cell? ⟨w.heap.size, 5, none⟩ = some (.int .i64 lf) ∧ W'.cell? ⟨w.heap.size, 6, none⟩ = some (.int .i64 hp) ∧ W'.cell? ⟨w.heap.size, 7, none⟩ = some (.int .i64 of) ∧ W'.cell? ⟨w.heap.size, 8, none⟩ = some (.int .i64 tl) ∧ W'.cell? ⟨w.heap.size, 9, none⟩ = some (.string py)) → Calls Try.prog 9 #[.slice a0 xs0.length cap0] W' fun e w' => ∃ g : Nat, e = .returned (.slice (some ⟨g, 0, none⟩) xs0.length xs0.length) ∧ MI5.RowAt w' (some ⟨g, 0, none⟩) xs0 ∧ Below W'.heap.size W' w' ∧ (Below w1.heap.size w1 w' ∧ w'.cell? ⟨w.heap.size, 0, none⟩ = some (.int .i64 fr) ∧ w'.cell? ⟨w.heap.size, 1, none⟩ = some (.int .i64 to) ∧ w'.cell? ⟨w.heap.size, 2, none⟩ = some (.bool gr) ∧ w'.cell? ⟨w.heap.size, 3, none⟩ = some (.int .i64 md) ∧ w'.cell? ⟨w.heap.size, 4, none⟩ = some (.int .i64 no) ∧ w'.cell? ⟨w.heap.size, 5, none⟩ = some (.int .i64 lf) ∧ w'.cell? ⟨w.heap.size, 6, none⟩ = some (.int .i64 hp) ∧ w'.cell? ⟨w.heap.size, 7, none⟩ = some (.int .i64 of) ∧ w'.cell? ⟨w.heap.size, 8, none⟩ = some (.int .i64 tl) ∧ w'.cell? ⟨w.heap.size, 9, none⟩ = some (.string py))) := fun W' h => (TP0.out W' (MI5.RowAt.below H0.out (B.trans (h.1.mono B.size)))).mono fun e w' ⟨g, e1, ho, hb⟩ => ⟨g, e1, MI5.RowAt.of_own ho, hb, KP _ _ h hb⟩
        have TBQ : Hid (∀ W' : World, (Below w1.heap.size w1 W' ∧ W'.cell? ⟨w.heap.size, 0, none⟩ = some (.int .i64 fr) ∧ W'.cell? ⟨w.heap.size, 1, none⟩ = some (.int .i64 to) ∧ W'.cell? ⟨w.heap.size, 2, none⟩ = some (.bool gr) ∧ W'.cell? ⟨w.heap.size, 3, none⟩ = some (.int .i64 md) ∧ W'.cell? ⟨w.heap.size, 4, none⟩ = some (.int .i64 no) ∧ W'.cell? ⟨w.heap.size, 5, none⟩ = some (.int .i64 lf) ∧ W'.cell? ⟨w.heap.size, 6, none⟩ = some (.int .i64 hp) ∧ W'.cell? ⟨w.heap.size, 7, none⟩ = some (.int .i64 of) ∧ W'.cell? ⟨w.heap.size, 8, none⟩ = some (.int .i64 tl) ∧ W'.cell? ⟨w.heap.size, 9, none⟩ = some (.string py)) → Calls Try.prog 10 #[Bd.v ⟨fr, to, gr, md, no, lf, hp, of, tl, py⟩] W' fun e w' => e = .returned (Bd.v ⟨fr, to, gr, md, no, lf, hp, of, tl, py⟩) ∧ Below W'.heap.size W' w' ∧ (Below w1.heap.size w1 w' ∧ w'.cell? ⟨w.heap.size, 0, none⟩ = some (.int .i64 fr) ∧ w'.cell? ⟨w.heap.size, 1, none⟩ = some (.int .i64 to) ∧ w'.cell? ⟨w.heap.size, 2, none⟩ = some (.bool gr) ∧ w'.cell? ⟨w.heap.size, 3, none⟩ = some (.int .i64 md) ∧ w'.cell? ⟨w.heap.size, 4, none⟩ = some (.int .i64 no) ∧ w'.cell? ⟨w.heap.size, 5, none⟩ = some (.int .i64 lf) ∧ w'.cell? ⟨w.heap.size, 6, none⟩ = some (.int .i64 hp) ∧ w'.cell? ⟨w.heap.size, 7, none⟩ = some (.int .i64 of) ∧ w'.cell? ⟨w.heap.size, 8, none⟩ = some (.int .i64 tl) ∧ w'.cell? ⟨w.heap.size, 9, none⟩ = some (.string py))) := fun W' h => (TB.out W').mono fun e w' ⟨e1, hb⟩ => ⟨e1, hb, KP _ _ h hb⟩
        have TQ2 : Hid (∀ W' : World, (Below w1.heap.size w1 W' ∧ W'.cell? ⟨w.heap.size, 0, none⟩ = some (.int .i64 fr) ∧ W'.cell? ⟨w.heap.size, 1, none⟩ = some (.int .i64 to) ∧ W'.cell? ⟨w.heap.size, 2, none⟩ = some (.bool gr) ∧ W'.cell? ⟨w.heap.size, 3, none⟩ = some (.int .i64 md) ∧ W'.cell? ⟨w.heap.size, 4, none⟩ = some (.int .i64 no) ∧ W'.cell? ⟨w.heap.size, 5, none⟩ = some (.int .i64 lf) ∧ W'.cell? ⟨w.heap.size, 6, none⟩ = some (.int .i64 hp) ∧ W'.cell? ⟨w.heap.size, 7, none⟩ = some (.int .i64 of) ∧ W'.cell? ⟨w.heap.size, 8, none⟩ = some (.int .i64 tl) ∧ W'.cell? ⟨w.heap.size, 9, none⟩ = some (.string py)) → Calls Try.prog 11 #[.slice a2 xs2.length cap2] W' fun e w' => ∃ g : Nat, e = .returned (.slice (some ⟨g, 0, none⟩) xs2.length xs2.length) ∧ M4.IntsAt w' (some ⟨g, 0, none⟩) xs2 ∧ Below W'.heap.size W' w' ∧ (Below w1.heap.size w1 w' ∧ w'.cell? ⟨w.heap.size, 0, none⟩ = some (.int .i64 fr) ∧ w'.cell? ⟨w.heap.size, 1, none⟩ = some (.int .i64 to) ∧ w'.cell? ⟨w.heap.size, 2, none⟩ = some (.bool gr) ∧ w'.cell? ⟨w.heap.size, 3, none⟩ = some (.int .i64 md) ∧ w'.cell? ⟨w.heap.size, 4, none⟩ = some (.int .i64 no) ∧ w'.cell? ⟨w.heap.size, 5, none⟩ = some (.int .i64 lf) ∧ w'.cell? ⟨w.heap.size, 6, none⟩ = some (.int .i64 hp) ∧ w'.cell? ⟨w.heap.size, 7, none⟩ = some (.int .i64 of) ∧ w'.cell? ⟨w.heap.size, 8, none⟩ = some (.int .i64 tl) ∧ w'.cell? ⟨w.heap.size, 9, none⟩ = some (.string py))) := fun W' h => (TP2.out W' (M4.IntsAt.below H2.out (B.trans (h.1.mono B.size)))).mono fun e w' ⟨g, e1, ho, hb⟩ => ⟨g, e1, M4.IntsAt.of_own ho, hb, KP _ _ h hb⟩
        have SQ : Hid (∀ (g0 g2 : Nat) (W' : World), (Below w1.heap.size w1 W' ∧ W'.cell? ⟨w.heap.size, 0, none⟩ = some (.int .i64 fr) ∧ W'.cell? ⟨w.heap.size, 1, none⟩ = some (.int .i64 to) ∧ W'.cell? ⟨w.heap.size, 2, none⟩ = some (.bool gr) ∧ W'.cell? ⟨w.heap.size, 3, none⟩ = some (.int .i64 md) ∧ W'.cell? ⟨w.heap.size, 4, none⟩ = some (.int .i64 no) ∧ W'.cell? ⟨w.heap.size, 5, none⟩ = some (.int .i64 lf) ∧ W'.cell? ⟨w.heap.size, 6, none⟩ = some (.int .i64 hp) ∧ W'.cell? ⟨w.heap.size, 7, none⟩ = some (.int .i64 of) ∧ W'.cell? ⟨w.heap.size, 8, none⟩ = some (.int .i64 tl) ∧ W'.cell? ⟨w.heap.size, 9, none⟩ = some (.string py)) → MI5.RowAt W' (some ⟨g0, 0, none⟩) xs0 → M4.IntsAt W' (some ⟨g2, 0, none⟩) xs2 → Calls Try.prog 8 #[.slice (some ⟨g0, 0, none⟩) xs0.length xs0.length, Bd.v ⟨fr, to, gr, md, no, lf, hp, of, tl, py⟩, .slice (some ⟨g2, 0, none⟩) xs2.length xs2.length] W' fun e w' => (∃ a1 c1 ps, e = .returned (.tuple #[.slice a1 (List.length ps) c1, .bool r1]) ∧ RQ.At w' a1 ps ∧ ps.map Rq.said = L) ∧ (Below w1.heap.size w1 w' ∧ w'.cell? ⟨w.heap.size, 0, none⟩ = some (.int .i64 fr) ∧ w'.cell? ⟨w.heap.size, 1, none⟩ = some (.int .i64 to) ∧ w'.cell? ⟨w.heap.size, 2, none⟩ = some (.bool gr) ∧ w'.cell? ⟨w.heap.size, 3, none⟩ = some (.int .i64 md) ∧ w'.cell? ⟨w.heap.size, 4, none⟩ = some (.int .i64 no) ∧ w'.cell? ⟨w.heap.size, 5, none⟩ = some (.int .i64 lf) ∧ w'.cell? ⟨w.heap.size, 6, none⟩ = some (.int .i64 hp) ∧ w'.cell? ⟨w.heap.size, 7, none⟩ = some (.int .i64 of) ∧ w'.cell? ⟨w.heap.size, 8, none⟩ = some (.int .i64 tl) ∧ w'.cell? ⟨w.heap.size, 9, none⟩ = some (.string py))) := fun g0 g2 W' h q0 q2 => (SG.out g0 g2 W' q0 q2).mono (by rintro e w' ⟨a1, c1, ps, rfl, ho, hL, hb⟩; exact ⟨⟨a1, c1, ps, rfl, ho.at, hL⟩, KP _ _ h hb⟩)
        have hSd : Below w1.heap.size w1 w1.drew ∧ w1.drew.cell? ⟨w.heap.size, 0, none⟩ = some (.int .i64 fr) ∧ w1.drew.cell? ⟨w.heap.size, 1, none⟩ = some (.int .i64 to) ∧ w1.drew.cell? ⟨w.heap.size, 2, none⟩ = some (.bool gr) ∧ w1.drew.cell? ⟨w.heap.size, 3, none⟩ = some (.int .i64 md) ∧ w1.drew.cell? ⟨w.heap.size, 4, none⟩ = some (.int .i64 no) ∧ w1.drew.cell? ⟨w.heap.size, 5, none⟩ = some (.int .i64 lf) ∧ w1.drew.cell? ⟨w.heap.size, 6, none⟩ = some (.int .i64 hp) ∧ w1.drew.cell? ⟨w.heap.size, 7, none⟩ = some (.int .i64 of) ∧ w1.drew.cell? ⟨w.heap.size, 8, none⟩ = some (.int .i64 tl) ∧ w1.drew.cell? ⟨w.heap.size, 9, none⟩ = some (.string py) := ⟨(Below.refl _ _).drew, BX.out.2⟩
        clear KP hq
        go_wp2
        go_region_held3 (fun w' => Below w1.heap.size w1 w' ∧ w'.cell? ⟨w.heap.size, 0, none⟩ = some (.int .i64 fr) ∧ w'.cell? ⟨w.heap.size, 1, none⟩ = some (.int .i64 to) ∧ w'.cell? ⟨w.heap.size, 2, none⟩ = some (.bool gr) ∧ w'.cell? ⟨w.heap.size, 3, none⟩ = some (.int .i64 md) ∧ w'.cell? ⟨w.heap.size, 4, none⟩ = some (.int .i64 no) ∧ w'.cell? ⟨w.heap.size, 5, none⟩ = some (.int .i64 lf) ∧ w'.cell? ⟨w.heap.size, 6, none⟩ = some (.int .i64 hp) ∧ w'.cell? ⟨w.heap.size, 7, none⟩ = some (.int .i64 of) ∧ w'.cell? ⟨w.heap.size, 8, none⟩ = some (.int .i64 tl) ∧ w'.cell? ⟨w.heap.size, 9, none⟩ = some (.string py)) (first | assumption | (show _ ∧ _; assumption)) (first | (go_at_call 9; refine Calls.mono (TQ0.out _ (by assumption)) ?_; (rintro e ws0 ⟨g0s, rfl, hr0s, hbq0, hSq0⟩)) | (go_at_call 10; refine Calls.mono (TBQ.out _ (by assumption)) ?_; (rintro e ws1 ⟨rfl, hbq1, hSq1⟩); (replace hr0s := MI5.RowAt.below hr0s hbq1)) | (go_at_call 11; refine Calls.mono (TQ2.out _ (by assumption)) ?_; (rintro e ws2 ⟨g2s, rfl, hr2s, hbq2, hSq2⟩); (replace hr0s := MI5.RowAt.below hr0s hbq2)) | (go_at_call 8; refine Calls.mono (SQ.out g0s g2s _ (by assumption) hr0s hr2s) ?_; (rintro e w2 ⟨⟨az, cz, pz, rfl, owns, hLs⟩, hSr⟩)))
        have hb := hSr.1
        clear hSd hSr SQ TBQ hSq0 hbq0 hSq1 hbq1 hSq2 hbq2 TQ0 hr0s TQ2 hr2s
        replace B := B.trans (hb.mono B.size)
        replace BX : Hid (BdAt w2 w.heap.size ⟨fr, to, gr, md, no, lf, hp, of, tl, py⟩) := BdAt.below BX.out hb BX.out.1
        clear hb
        clear SG
        have IN0 : Hid (RQ.At w2 az pz) := owns
        clear owns
        have HLS : Hid (pz.map Rq.said = L) := hLs
        clear hLs
        have C : Below w2.heap.size w2 w2 := Below.refl _ _
        have BS : w.heap.size ≤ w2.heap.size := B.size
        have hQ0 : w.heap.size < w2.heap.size := BX.out.1
        go_wp2_with fail
        refine (TP0.out _ (MI5.RowAt.below H0.out B)).mono ?_
        rintro e w3 ⟨g0x, rfl, ho, hb⟩
        have hG0 : w2.heap.size ≤ g0x ∧ g0x < w3.heap.size := ho.lt g0x rfl
        replace B := B.trans (hb.mono B.size)
        replace C := C.trans (hb.mono C.size)
        replace BX : Hid (BdAt w3 w.heap.size ⟨fr, to, gr, md, no, lf, hp, of, tl, py⟩) := BdAt.below BX.out hb BX.out.1
        clear hb
        have X0x : Hid (World.ownsRow w3 w2.heap.size 50 5 (.slice (some ⟨g0x, 0, none⟩) xs0.length xs0.length) xs0.length (MI5.flat xs0)) := ho
        clear ho
        have hQ2 : w.heap.size < w3.heap.size := BX.out.1
        go_wp2_with fail
        refine (TP2.out _ (M4.IntsAt.below H2.out B)).mono ?_
        rintro e w4 ⟨g2x, rfl, ho, hb⟩
        have hG2 : w3.heap.size ≤ g2x ∧ g2x < w4.heap.size := ho.lt g2x rfl
        replace B := B.trans (hb.mono B.size)
        replace C := C.trans (hb.mono C.size)
        replace BX : Hid (BdAt w4 w.heap.size ⟨fr, to, gr, md, no, lf, hp, of, tl, py⟩) := BdAt.below BX.out hb BX.out.1
        replace X0x : Hid (World.ownsRow w4 w2.heap.size 50 5 (.slice (some ⟨g0x, 0, none⟩) xs0.length xs0.length) xs0.length (MI5.flat xs0)) := M5.own_below X0x.out hb
        clear hb
        have X2x : Hid (World.ownsRow w4 w3.heap.size 3 1 (.slice (some ⟨g2x, 0, none⟩) xs2.length xs2.length) xs2.length (M4.iv xs2)) := ho
        clear ho
        obtain ⟨hlt, c0, c1, c2, c3, c4, c5, c6, c7, c8, c9⟩ := id BX.out
        go_wp2_with fail
        refine (TB.out _).mono ?_
        rintro e w5 ⟨rfl, hb⟩
        clear hlt c0 c1 c2 c3 c4 c5 c6 c7 c8 c9
        have hTB : w4.heap.size ≤ w5.heap.size := hb.size
        replace B := B.trans (hb.mono B.size)
        replace C := C.trans (hb.mono C.size)
        replace BX : Hid (BdAt w5 w.heap.size ⟨fr, to, gr, md, no, lf, hp, of, tl, py⟩) := BdAt.below BX.out hb BX.out.1
        replace X0x : Hid (World.ownsRow w5 w2.heap.size 50 5 (.slice (some ⟨g0x, 0, none⟩) xs0.length xs0.length) xs0.length (MI5.flat xs0)) := M5.own_below X0x.out hb
        replace X2x : Hid (World.ownsRow w5 w3.heap.size 3 1 (.slice (some ⟨g2x, 0, none⟩) xs2.length xs2.length) xs2.length (M4.iv xs2)) := M5.own_below X2x.out hb
        clear hb
        go_wp2_with fail
        refine (IG.out g0x g2x _ (MI5.RowAt.of_own X0x.out) (M4.IntsAt.of_own X2x.out)).mono ?_
        rintro e w6 ⟨ai, ci, pi, rfl, owni, hLi, hb⟩
        have SC : w2.heap.size ≤ w5.heap.size := C.size
        have SW : w5.heap.size ≤ w6.heap.size := hb.size
        replace B := B.trans (hb.mono B.size)
        replace C := C.trans (hb.mono C.size)
        replace BX : Hid (BdAt w6 w.heap.size ⟨fr, to, gr, md, no, lf, hp, of, tl, py⟩) := BdAt.below BX.out hb BX.out.1
        replace X0x : Hid (World.ownsRow w6 w2.heap.size 50 5 (.slice (some ⟨g0x, 0, none⟩) xs0.length xs0.length) xs0.length (MI5.flat xs0)) := M5.own_below X0x.out hb
        replace X2x : Hid (World.ownsRow w6 w3.heap.size 3 1 (.slice (some ⟨g2x, 0, none⟩) xs2.length xs2.length) xs2.length (M4.iv xs2)) := M5.own_below X2x.out hb
        clear hb
        have HLI : Hid (pi.map Rq.said = L) := hLi
        have h8 : pi.length ≤ 8 := by have := congrArg List.length hLi; rw [List.length_map] at this; rw [this]; exact hL8
        have HPZ : Hid (∀ p, p ∈ pi → p.os.length ≤ 1048576) := fun p hp => hLz p.said (by rw [← hLi]; exact List.mem_map_of_mem hp)
        clear hLi hL8 hLz
        have OG : Hid (RQ.Own 59 w6 w5.heap.size (.slice ai pi.length ci) pi) := owni
        clear owni
        go_wp2_with fail
        refine (eqReachS_any _ _ _ _ pi pz _ (by omega) (HLI.out.trans HLS.out.symm) HPZ.out (RQ.Own.at OG.out) (RQ.At.below IN0.out C)).mono ?_
        rintro e w7 ⟨rfl, hb⟩
        replace SW : w5.heap.size ≤ w7.heap.size := Nat.le_trans SW hb.size
        replace B := B.trans (hb.mono B.size)
        replace C := C.trans (hb.mono C.size)
        replace BX : Hid (BdAt w7 w.heap.size ⟨fr, to, gr, md, no, lf, hp, of, tl, py⟩) := BdAt.below BX.out hb BX.out.1
        replace X0x : Hid (World.ownsRow w7 w2.heap.size 50 5 (.slice (some ⟨g0x, 0, none⟩) xs0.length xs0.length) xs0.length (MI5.flat xs0)) := M5.own_below X0x.out hb
        replace X2x : Hid (World.ownsRow w7 w3.heap.size 3 1 (.slice (some ⟨g2x, 0, none⟩) xs2.length xs2.length) xs2.length (M4.iv xs2)) := M5.own_below X2x.out hb
        replace OG : Hid (RQ.Own 59 w7 w5.heap.size (.slice ai pi.length ci) pi) := RQ.Own.below OG.out hb
        clear hb
        go_wp2_with fail
        refine (TP0.out _ (MI5.RowAt.below H0.out B)).mono ?_
        rintro e w8 ⟨gq0, rfl, ho, hb⟩
        replace SW : w5.heap.size ≤ w8.heap.size := Nat.le_trans SW hb.size
        replace B := B.trans (hb.mono B.size)
        replace C := C.trans (hb.mono C.size)
        replace BX : Hid (BdAt w8 w.heap.size ⟨fr, to, gr, md, no, lf, hp, of, tl, py⟩) := BdAt.below BX.out hb BX.out.1
        replace X0x : Hid (World.ownsRow w8 w2.heap.size 50 5 (.slice (some ⟨g0x, 0, none⟩) xs0.length xs0.length) xs0.length (MI5.flat xs0)) := M5.own_below X0x.out hb
        replace X2x : Hid (World.ownsRow w8 w3.heap.size 3 1 (.slice (some ⟨g2x, 0, none⟩) xs2.length xs2.length) xs2.length (M4.iv xs2)) := M5.own_below X2x.out hb
        replace OG : Hid (RQ.Own 59 w8 w5.heap.size (.slice ai pi.length ci) pi) := RQ.Own.below OG.out hb
        clear hb
        have XQ : Hid (MI5.RowAt w8 (some ⟨gq0, 0, none⟩) xs0) := MI5.RowAt.of_own ho
        clear ho
        go_wp2_with fail
        refine (EQ0.out g0x gq0 _ (MI5.RowAt.of_own X0x.out) XQ.out).mono ?_
        rintro e w9 ⟨rfl, hb⟩
        replace SW : w5.heap.size ≤ w9.heap.size := Nat.le_trans SW hb.size
        replace B := B.trans (hb.mono B.size)
        replace C := C.trans (hb.mono C.size)
        replace BX : Hid (BdAt w9 w.heap.size ⟨fr, to, gr, md, no, lf, hp, of, tl, py⟩) := BdAt.below BX.out hb BX.out.1
        replace X0x : Hid (World.ownsRow w9 w2.heap.size 50 5 (.slice (some ⟨g0x, 0, none⟩) xs0.length xs0.length) xs0.length (MI5.flat xs0)) := M5.own_below X0x.out hb
        replace X2x : Hid (World.ownsRow w9 w3.heap.size 3 1 (.slice (some ⟨g2x, 0, none⟩) xs2.length xs2.length) xs2.length (M4.iv xs2)) := M5.own_below X2x.out hb
        replace OG : Hid (RQ.Own 59 w9 w5.heap.size (.slice ai pi.length ci) pi) := RQ.Own.below OG.out hb
        clear hb
        clear XQ
        go_wp2_with fail
        refine (TP2.out _ (M4.IntsAt.below H2.out B)).mono ?_
        rintro e w10 ⟨gq2, rfl, ho, hb⟩
        replace SW : w5.heap.size ≤ w10.heap.size := Nat.le_trans SW hb.size
        replace B := B.trans (hb.mono B.size)
        replace C := C.trans (hb.mono C.size)
        replace BX : Hid (BdAt w10 w.heap.size ⟨fr, to, gr, md, no, lf, hp, of, tl, py⟩) := BdAt.below BX.out hb BX.out.1
        replace X0x : Hid (World.ownsRow w10 w2.heap.size 50 5 (.slice (some ⟨g0x, 0, none⟩) xs0.length xs0.length) xs0.length (MI5.flat xs0)) := M5.own_below X0x.out hb
        replace X2x : Hid (World.ownsRow w10 w3.heap.size 3 1 (.slice (some ⟨g2x, 0, none⟩) xs2.length xs2.length) xs2.length (M4.iv xs2)) := M5.own_below X2x.out hb
        replace OG : Hid (RQ.Own 59 w10 w5.heap.size (.slice ai pi.length ci) pi) := RQ.Own.below OG.out hb
        clear hb
        have XQ : Hid (M4.IntsAt w10 (some ⟨gq2, 0, none⟩) xs2) := M4.IntsAt.of_own ho
        clear ho
        go_wp2_with fail
        refine (EQ2.out g2x gq2 _ (M4.IntsAt.of_own X2x.out) XQ.out).mono ?_
        rintro e w11 ⟨rfl, hb⟩
        replace SW : w5.heap.size ≤ w11.heap.size := Nat.le_trans SW hb.size
        replace B := B.trans (hb.mono B.size)
        replace C := C.trans (hb.mono C.size)
        replace BX : Hid (BdAt w11 w.heap.size ⟨fr, to, gr, md, no, lf, hp, of, tl, py⟩) := BdAt.below BX.out hb BX.out.1
        replace X0x : Hid (World.ownsRow w11 w2.heap.size 50 5 (.slice (some ⟨g0x, 0, none⟩) xs0.length xs0.length) xs0.length (MI5.flat xs0)) := M5.own_below X0x.out hb
        replace X2x : Hid (World.ownsRow w11 w3.heap.size 3 1 (.slice (some ⟨g2x, 0, none⟩) xs2.length xs2.length) xs2.length (M4.iv xs2)) := M5.own_below X2x.out hb
        replace OG : Hid (RQ.Own 59 w11 w5.heap.size (.slice ai pi.length ci) pi) := RQ.Own.below OG.out hb
        clear hb
        clear XQ
        replace BX : Hid (BdAt w11 w.heap.size ⟨fr, to, gr, md, no, lf, hp, of, tl, py⟩) := BX
        go_wp2_with fail
        refine (markContactS_only _ g0x xs0.length 1 _ hz0 (by omega) (by omega) ⟨_, X0x.out⟩).mono ?_
        rintro e w12 ⟨rfl, hO⟩
        replace SW : w5.heap.size ≤ w12.heap.size := Nat.le_trans SW hO.size
        replace B := B.trans (hO.below (by omega) B.size)
        replace C := C.trans (hO.below (by omega) C.size)
        replace BX : Hid (BdAt w12 w.heap.size ⟨fr, to, gr, md, no, lf, hp, of, tl, py⟩) := by obtain ⟨hk, q⟩ := BX.out; exact ⟨Nat.lt_of_lt_of_le hk hO.size, (hO.cell (x := ⟨w.heap.size, 0, none⟩) hk (by simp; omega)).trans q.1, (hO.cell (x := ⟨w.heap.size, 1, none⟩) hk (by simp; omega)).trans q.2.1, (hO.cell (x := ⟨w.heap.size, 2, none⟩) hk (by simp; omega)).trans q.2.2.1, (hO.cell (x := ⟨w.heap.size, 3, none⟩) hk (by simp; omega)).trans q.2.2.2.1, (hO.cell (x := ⟨w.heap.size, 4, none⟩) hk (by simp; omega)).trans q.2.2.2.2.1, (hO.cell (x := ⟨w.heap.size, 5, none⟩) hk (by simp; omega)).trans q.2.2.2.2.2.1, (hO.cell (x := ⟨w.heap.size, 6, none⟩) hk (by simp; omega)).trans q.2.2.2.2.2.2.1, (hO.cell (x := ⟨w.heap.size, 7, none⟩) hk (by simp; omega)).trans q.2.2.2.2.2.2.2.1, (hO.cell (x := ⟨w.heap.size, 8, none⟩) hk (by simp; omega)).trans q.2.2.2.2.2.2.2.2.1, (hO.cell (x := ⟨w.heap.size, 9, none⟩) hk (by simp; omega)).trans q.2.2.2.2.2.2.2.2.2⟩
        replace X2x : Hid (World.ownsRow w12 w3.heap.size 3 1 (.slice (some ⟨g2x, 0, none⟩) xs2.length xs2.length) xs2.length (M4.iv xs2)) := MC.own_only X2x.out hO (by omega)
        replace OG : Hid (RQ.Own 59 w12 w5.heap.size (.slice ai pi.length ci) pi) := RQ.Own.only2 OG.out hO (by omega)
        clear hO X0x
        replace BX : Hid (BdAt w12 w.heap.size ⟨fr, to, gr, md, no, lf, hp, of, tl, py⟩) := BX
        go_wp2_with fail
        refine (markIntS_only _ g2x xs2.length (1 + 5 * xs0.length) _ hz2 (by omega) (by omega) ⟨_, X2x.out⟩).mono ?_
        rintro e w13 ⟨rfl, hO⟩
        replace SW : w5.heap.size ≤ w13.heap.size := Nat.le_trans SW hO.size
        replace B := B.trans (hO.below (by omega) B.size)
        replace C := C.trans (hO.below (by omega) C.size)
        replace BX : Hid (BdAt w13 w.heap.size ⟨fr, to, gr, md, no, lf, hp, of, tl, py⟩) := by obtain ⟨hk, q⟩ := BX.out; exact ⟨Nat.lt_of_lt_of_le hk hO.size, (hO.cell (x := ⟨w.heap.size, 0, none⟩) hk (by simp; omega)).trans q.1, (hO.cell (x := ⟨w.heap.size, 1, none⟩) hk (by simp; omega)).trans q.2.1, (hO.cell (x := ⟨w.heap.size, 2, none⟩) hk (by simp; omega)).trans q.2.2.1, (hO.cell (x := ⟨w.heap.size, 3, none⟩) hk (by simp; omega)).trans q.2.2.2.1, (hO.cell (x := ⟨w.heap.size, 4, none⟩) hk (by simp; omega)).trans q.2.2.2.2.1, (hO.cell (x := ⟨w.heap.size, 5, none⟩) hk (by simp; omega)).trans q.2.2.2.2.2.1, (hO.cell (x := ⟨w.heap.size, 6, none⟩) hk (by simp; omega)).trans q.2.2.2.2.2.2.1, (hO.cell (x := ⟨w.heap.size, 7, none⟩) hk (by simp; omega)).trans q.2.2.2.2.2.2.2.1, (hO.cell (x := ⟨w.heap.size, 8, none⟩) hk (by simp; omega)).trans q.2.2.2.2.2.2.2.2.1, (hO.cell (x := ⟨w.heap.size, 9, none⟩) hk (by simp; omega)).trans q.2.2.2.2.2.2.2.2.2⟩
        replace OG : Hid (RQ.Own 59 w13 w5.heap.size (.slice ai pi.length ci) pi) := RQ.Own.only2 OG.out hO (by omega)
        clear hO X2x
        go_wp2_with fail
        refine (eqReachS_any _ _ _ _ pi pz _ (by omega) (HLI.out.trans HLS.out.symm) HPZ.out (RQ.Own.at OG.out) (RQ.At.below IN0.out C)).mono ?_
        rintro e w14 ⟨rfl, hb⟩
        replace SW : w5.heap.size ≤ w14.heap.size := Nat.le_trans SW hb.size
        replace B := B.trans (hb.mono B.size)
        replace C := C.trans (hb.mono C.size)
        replace BX : Hid (BdAt w14 w.heap.size ⟨fr, to, gr, md, no, lf, hp, of, tl, py⟩) := BdAt.below BX.out hb BX.out.1
        replace OG : Hid (RQ.Own 59 w14 w5.heap.size (.slice ai pi.length ci) pi) := RQ.Own.below OG.out hb
        clear hb
        go_wp2_with fail
        refine (markReachS_any w5.heap.size _ _ pi 1 _ h8 HPZ.out (by omega) (by omega) SW OG.out).mono ?_
        rintro e w15 ⟨rfl, ownm, hbm⟩
        replace B := B.trans (hbm.mono (by omega))
        replace C := C.trans (hbm.mono SC)
        replace BX : Hid (BdAt w15 w.heap.size ⟨fr, to, gr, md, no, lf, hp, of, tl, py⟩) := BdAt.below BX.out hbm (by omega)
        have INM : Hid (RQ.At w15 ai (RQ.mkL 1 pi)) := (show RQ.Own _ _ _ (.slice ai pi.length ci) _ from ownm).at
        clear OG ownm hbm SW
        go_wp2_with fail
        refine (heldReachS_any _ _ pi 1 _ h8 HPZ.out (by omega) (by omega) INM.out).mono ?_
        rintro e w' ⟨rfl, rfl⟩
        have hq : w.heap.size < w15.heap.size := BX.out.1
        have KP : ∀ V1 V2 : World, (Below w15.heap.size w15 V1 ∧ V1.cell? ⟨w.heap.size, 0, none⟩ = some (.int .i64 fr) ∧ V1.cell? ⟨w.heap.size, 1, none⟩ = some (.int .i64 to) ∧ V1.cell? ⟨w.heap.size, 2, none⟩ = some (.bool gr) ∧ V1.cell? ⟨w.heap.size, 3, none⟩ = some (.int .i64 md) ∧ V1.cell? ⟨w.heap.size, 4, none⟩ = some (.int .i64 no) ∧ V1.cell? ⟨w.heap.size, 5, none⟩ = some (.int .i64 lf) ∧ V1.cell? ⟨w.heap.size, 6, none⟩ = some (.int .i64 hp) ∧ V1.cell? ⟨w.heap.size, 7, none⟩ = some (.int .i64 of) ∧ V1.cell? ⟨w.heap.size, 8, none⟩ = some (.int .i64 tl) ∧ V1.cell? ⟨w.heap.size, 9, none⟩ = some (.string py)) → Below V1.heap.size V1 V2 → (Below w15.heap.size w15 V2 ∧ V2.cell? ⟨w.heap.size, 0, none⟩ = some (.int .i64 fr) ∧ V2.cell? ⟨w.heap.size, 1, none⟩ = some (.int .i64 to) ∧ V2.cell? ⟨w.heap.size, 2, none⟩ = some (.bool gr) ∧ V2.cell? ⟨w.heap.size, 3, none⟩ = some (.int .i64 md) ∧ V2.cell? ⟨w.heap.size, 4, none⟩ = some (.int .i64 no) ∧ V2.cell? ⟨w.heap.size, 5, none⟩ = some (.int .i64 lf) ∧ V2.cell? ⟨w.heap.size, 6, none⟩ = some (.int .i64 hp) ∧ V2.cell? ⟨w.heap.size, 7, none⟩ = some (.int .i64 of) ∧ V2.cell? ⟨w.heap.size, 8, none⟩ = some (.int .i64 tl) ∧ V2.cell? ⟨w.heap.size, 9, none⟩ = some (.string py)) := fun V1 V2 ⟨h, h0, h1, h2, h3, h4, h5, h6, h7, h8, h9⟩ hb => ⟨h.trans (hb.mono h.size), (hb.cell (p := ⟨w.heap.size, 0, none⟩) (Nat.lt_of_lt_of_le hq h.size)).trans h0, (hb.cell (p := ⟨w.heap.size, 1, none⟩) (Nat.lt_of_lt_of_le hq h.size)).trans h1, (hb.cell (p := ⟨w.heap.size, 2, none⟩) (Nat.lt_of_lt_of_le hq h.size)).trans h2, (hb.cell (p := ⟨w.heap.size, 3, none⟩) (Nat.lt_of_lt_of_le hq h.size)).trans h3, (hb.cell (p := ⟨w.heap.size, 4, none⟩) (Nat.lt_of_lt_of_le hq h.size)).trans h4, (hb.cell (p := ⟨w.heap.size, 5, none⟩) (Nat.lt_of_lt_of_le hq h.size)).trans h5, (hb.cell (p := ⟨w.heap.size, 6, none⟩) (Nat.lt_of_lt_of_le hq h.size)).trans h6, (hb.cell (p := ⟨w.heap.size, 7, none⟩) (Nat.lt_of_lt_of_le hq h.size)).trans h7, (hb.cell (p := ⟨w.heap.size, 8, none⟩) (Nat.lt_of_lt_of_le hq h.size)).trans h8, (hb.cell (p := ⟨w.heap.size, 9, none⟩) (Nat.lt_of_lt_of_le hq h.size)).trans h9⟩
        have TQ0 : Hid (∀ W' : World, (Below w15.heap.size w15 W' ∧ W'.cell? ⟨w.heap.size, 0, none⟩ = some (.int .i64 fr) ∧ W'.cell? ⟨w.heap.size, 1, none⟩ = some (.int .i64 to) ∧ W'.cell? ⟨w.heap.size, 2, none⟩ = some (.bool gr) ∧ W'.cell? ⟨w.heap.size, 3, none⟩ = some (.int .i64 md) ∧ W'.cell? ⟨w.heap.size, 4, none⟩ = some (.int .i64 no) ∧ W'.cell? ⟨w.heap.size, 5, none⟩ = some (.int .i64 lf) ∧ W'.cell? ⟨w.heap.size, 6, none⟩ = some (.int .i64 hp) ∧ W'.cell? ⟨w.heap.size, 7, none⟩ = some (.int .i64 of) ∧ W'.cell? ⟨w.heap.size, 8, none⟩ = some (.int .i64 tl) ∧ W'.cell? ⟨w.heap.size, 9, none⟩ = some (.string py)) → Calls Try.prog 9 #[.slice a0 xs0.length cap0] W' fun e w' => ∃ g : Nat, e = .returned (.slice (some ⟨g, 0, none⟩) xs0.length xs0.length) ∧ MI5.RowAt w' (some ⟨g, 0, none⟩) xs0 ∧ Below W'.heap.size W' w' ∧ (Below w15.heap.size w15 w' ∧ w'.cell? ⟨w.heap.size, 0, none⟩ = some (.int .i64 fr) ∧ w'.cell? ⟨w.heap.size, 1, none⟩ = some (.int .i64 to) ∧ w'.cell? ⟨w.heap.size, 2, none⟩ = some (.bool gr) ∧ w'.cell? ⟨w.heap.size, 3, none⟩ = some (.int .i64 md) ∧ w'.cell? ⟨w.heap.size, 4, none⟩ = some (.int .i64 no) ∧ w'.cell? ⟨w.heap.size, 5, none⟩ = some (.int .i64 lf) ∧ w'.cell? ⟨w.heap.size, 6, none⟩ = some (.int .i64 hp) ∧ w'.cell? ⟨w.heap.size, 7, none⟩ = some (.int .i64 of) ∧ w'.cell? ⟨w.heap.size, 8, none⟩ = some (.int .i64 tl) ∧ w'.cell? ⟨w.heap.size, 9, none⟩ = some (.string py))) := fun W' h => (TP0.out W' (MI5.RowAt.below H0.out (B.trans (h.1.mono B.size)))).mono fun e w' ⟨g, e1, ho, hb⟩ => ⟨g, e1, MI5.RowAt.of_own ho, hb, KP _ _ h hb⟩
        have TBQ : Hid (∀ W' : World, (Below w15.heap.size w15 W' ∧ W'.cell? ⟨w.heap.size, 0, none⟩ = some (.int .i64 fr) ∧ W'.cell? ⟨w.heap.size, 1, none⟩ = some (.int .i64 to) ∧ W'.cell? ⟨w.heap.size, 2, none⟩ = some (.bool gr) ∧ W'.cell? ⟨w.heap.size, 3, none⟩ = some (.int .i64 md) ∧ W'.cell? ⟨w.heap.size, 4, none⟩ = some (.int .i64 no) ∧ W'.cell? ⟨w.heap.size, 5, none⟩ = some (.int .i64 lf) ∧ W'.cell? ⟨w.heap.size, 6, none⟩ = some (.int .i64 hp) ∧ W'.cell? ⟨w.heap.size, 7, none⟩ = some (.int .i64 of) ∧ W'.cell? ⟨w.heap.size, 8, none⟩ = some (.int .i64 tl) ∧ W'.cell? ⟨w.heap.size, 9, none⟩ = some (.string py)) → Calls Try.prog 10 #[Bd.v ⟨fr, to, gr, md, no, lf, hp, of, tl, py⟩] W' fun e w' => e = .returned (Bd.v ⟨fr, to, gr, md, no, lf, hp, of, tl, py⟩) ∧ Below W'.heap.size W' w' ∧ (Below w15.heap.size w15 w' ∧ w'.cell? ⟨w.heap.size, 0, none⟩ = some (.int .i64 fr) ∧ w'.cell? ⟨w.heap.size, 1, none⟩ = some (.int .i64 to) ∧ w'.cell? ⟨w.heap.size, 2, none⟩ = some (.bool gr) ∧ w'.cell? ⟨w.heap.size, 3, none⟩ = some (.int .i64 md) ∧ w'.cell? ⟨w.heap.size, 4, none⟩ = some (.int .i64 no) ∧ w'.cell? ⟨w.heap.size, 5, none⟩ = some (.int .i64 lf) ∧ w'.cell? ⟨w.heap.size, 6, none⟩ = some (.int .i64 hp) ∧ w'.cell? ⟨w.heap.size, 7, none⟩ = some (.int .i64 of) ∧ w'.cell? ⟨w.heap.size, 8, none⟩ = some (.int .i64 tl) ∧ w'.cell? ⟨w.heap.size, 9, none⟩ = some (.string py))) := fun W' h => (TB.out W').mono fun e w' ⟨e1, hb⟩ => ⟨e1, hb, KP _ _ h hb⟩
        have TQ2 : Hid (∀ W' : World, (Below w15.heap.size w15 W' ∧ W'.cell? ⟨w.heap.size, 0, none⟩ = some (.int .i64 fr) ∧ W'.cell? ⟨w.heap.size, 1, none⟩ = some (.int .i64 to) ∧ W'.cell? ⟨w.heap.size, 2, none⟩ = some (.bool gr) ∧ W'.cell? ⟨w.heap.size, 3, none⟩ = some (.int .i64 md) ∧ W'.cell? ⟨w.heap.size, 4, none⟩ = some (.int .i64 no) ∧ W'.cell? ⟨w.heap.size, 5, none⟩ = some (.int .i64 lf) ∧ W'.cell? ⟨w.heap.size, 6, none⟩ = some (.int .i64 hp) ∧ W'.cell? ⟨w.heap.size, 7, none⟩ = some (.int .i64 of) ∧ W'.cell? ⟨w.heap.size, 8, none⟩ = some (.int .i64 tl) ∧ W'.cell? ⟨w.heap.size, 9, none⟩ = some (.string py)) → Calls Try.prog 11 #[.slice a2 xs2.length cap2] W' fun e w' => ∃ g : Nat, e = .returned (.slice (some ⟨g, 0, none⟩) xs2.length xs2.length) ∧ M4.IntsAt w' (some ⟨g, 0, none⟩) xs2 ∧ Below W'.heap.size W' w' ∧ (Below w15.heap.size w15 w' ∧ w'.cell? ⟨w.heap.size, 0, none⟩ = some (.int .i64 fr) ∧ w'.cell? ⟨w.heap.size, 1, none⟩ = some (.int .i64 to) ∧ w'.cell? ⟨w.heap.size, 2, none⟩ = some (.bool gr) ∧ w'.cell? ⟨w.heap.size, 3, none⟩ = some (.int .i64 md) ∧ w'.cell? ⟨w.heap.size, 4, none⟩ = some (.int .i64 no) ∧ w'.cell? ⟨w.heap.size, 5, none⟩ = some (.int .i64 lf) ∧ w'.cell? ⟨w.heap.size, 6, none⟩ = some (.int .i64 hp) ∧ w'.cell? ⟨w.heap.size, 7, none⟩ = some (.int .i64 of) ∧ w'.cell? ⟨w.heap.size, 8, none⟩ = some (.int .i64 tl) ∧ w'.cell? ⟨w.heap.size, 9, none⟩ = some (.string py))) := fun W' h => (TP2.out W' (M4.IntsAt.below H2.out (B.trans (h.1.mono B.size)))).mono fun e w' ⟨g, e1, ho, hb⟩ => ⟨g, e1, M4.IntsAt.of_own ho, hb, KP _ _ h hb⟩
        have SQ : Hid (∀ (g0 g2 : Nat) (W' : World), (Below w15.heap.size w15 W' ∧ W'.cell? ⟨w.heap.size, 0, none⟩ = some (.int .i64 fr) ∧ W'.cell? ⟨w.heap.size, 1, none⟩ = some (.int .i64 to) ∧ W'.cell? ⟨w.heap.size, 2, none⟩ = some (.bool gr) ∧ W'.cell? ⟨w.heap.size, 3, none⟩ = some (.int .i64 md) ∧ W'.cell? ⟨w.heap.size, 4, none⟩ = some (.int .i64 no) ∧ W'.cell? ⟨w.heap.size, 5, none⟩ = some (.int .i64 lf) ∧ W'.cell? ⟨w.heap.size, 6, none⟩ = some (.int .i64 hp) ∧ W'.cell? ⟨w.heap.size, 7, none⟩ = some (.int .i64 of) ∧ W'.cell? ⟨w.heap.size, 8, none⟩ = some (.int .i64 tl) ∧ W'.cell? ⟨w.heap.size, 9, none⟩ = some (.string py)) → MI5.RowAt W' (some ⟨g0, 0, none⟩) xs0 → M4.IntsAt W' (some ⟨g2, 0, none⟩) xs2 → Calls Try.prog 12 #[.slice (some ⟨g0, 0, none⟩) xs0.length xs0.length, Bd.v ⟨fr, to, gr, md, no, lf, hp, of, tl, py⟩, .slice (some ⟨g2, 0, none⟩) xs2.length xs2.length] W' fun e w' => (∃ a1 c1 ps, e = .returned (.tuple #[.slice a1 (List.length ps) c1, .bool r1]) ∧ RQ.At w' a1 ps ∧ ps.map Rq.said = L) ∧ (Below w15.heap.size w15 w' ∧ w'.cell? ⟨w.heap.size, 0, none⟩ = some (.int .i64 fr) ∧ w'.cell? ⟨w.heap.size, 1, none⟩ = some (.int .i64 to) ∧ w'.cell? ⟨w.heap.size, 2, none⟩ = some (.bool gr) ∧ w'.cell? ⟨w.heap.size, 3, none⟩ = some (.int .i64 md) ∧ w'.cell? ⟨w.heap.size, 4, none⟩ = some (.int .i64 no) ∧ w'.cell? ⟨w.heap.size, 5, none⟩ = some (.int .i64 lf) ∧ w'.cell? ⟨w.heap.size, 6, none⟩ = some (.int .i64 hp) ∧ w'.cell? ⟨w.heap.size, 7, none⟩ = some (.int .i64 of) ∧ w'.cell? ⟨w.heap.size, 8, none⟩ = some (.int .i64 tl) ∧ w'.cell? ⟨w.heap.size, 9, none⟩ = some (.string py))) := fun g0 g2 W' h q0 q2 => (IG.out g0 g2 W' q0 q2).mono (by rintro e w' ⟨a1, c1, ps, rfl, ho, hL, hb⟩; exact ⟨⟨a1, c1, ps, rfl, ho.at, hL⟩, KP _ _ h hb⟩)
        have hSd : Below w15.heap.size w15 w15.drew ∧ w15.drew.cell? ⟨w.heap.size, 0, none⟩ = some (.int .i64 fr) ∧ w15.drew.cell? ⟨w.heap.size, 1, none⟩ = some (.int .i64 to) ∧ w15.drew.cell? ⟨w.heap.size, 2, none⟩ = some (.bool gr) ∧ w15.drew.cell? ⟨w.heap.size, 3, none⟩ = some (.int .i64 md) ∧ w15.drew.cell? ⟨w.heap.size, 4, none⟩ = some (.int .i64 no) ∧ w15.drew.cell? ⟨w.heap.size, 5, none⟩ = some (.int .i64 lf) ∧ w15.drew.cell? ⟨w.heap.size, 6, none⟩ = some (.int .i64 hp) ∧ w15.drew.cell? ⟨w.heap.size, 7, none⟩ = some (.int .i64 of) ∧ w15.drew.cell? ⟨w.heap.size, 8, none⟩ = some (.int .i64 tl) ∧ w15.drew.cell? ⟨w.heap.size, 9, none⟩ = some (.string py) := ⟨(Below.refl _ _).drew, BX.out.2⟩
        clear KP hq
        go_wp2
        go_region_held3 (fun w' => Below w15.heap.size w15 w' ∧ w'.cell? ⟨w.heap.size, 0, none⟩ = some (.int .i64 fr) ∧ w'.cell? ⟨w.heap.size, 1, none⟩ = some (.int .i64 to) ∧ w'.cell? ⟨w.heap.size, 2, none⟩ = some (.bool gr) ∧ w'.cell? ⟨w.heap.size, 3, none⟩ = some (.int .i64 md) ∧ w'.cell? ⟨w.heap.size, 4, none⟩ = some (.int .i64 no) ∧ w'.cell? ⟨w.heap.size, 5, none⟩ = some (.int .i64 lf) ∧ w'.cell? ⟨w.heap.size, 6, none⟩ = some (.int .i64 hp) ∧ w'.cell? ⟨w.heap.size, 7, none⟩ = some (.int .i64 of) ∧ w'.cell? ⟨w.heap.size, 8, none⟩ = some (.int .i64 tl) ∧ w'.cell? ⟨w.heap.size, 9, none⟩ = some (.string py)) (first | assumption | (show _ ∧ _; assumption)) (first | (go_at_call 9; refine Calls.mono (TQ0.out _ (by assumption)) ?_; (rintro e wy0 ⟨g0y, rfl, hr0y, hbq0, hSq0⟩)) | (go_at_call 10; refine Calls.mono (TBQ.out _ (by assumption)) ?_; (rintro e wy1 ⟨rfl, hbq1, hSq1⟩); (replace hr0y := MI5.RowAt.below hr0y hbq1)) | (go_at_call 11; refine Calls.mono (TQ2.out _ (by assumption)) ?_; (rintro e wy2 ⟨g2y, rfl, hr2y, hbq2, hSq2⟩); (replace hr0y := MI5.RowAt.below hr0y hbq2)) | (go_at_call 12; refine Calls.mono (SQ.out g0y g2y _ (by assumption) hr0y hr2y) ?_; (rintro e w16 ⟨⟨ay, cy, py2, rfl, owny, hLy⟩, hSr⟩)))
        have hb := hSr.1
        clear hSd hSr SQ TBQ hSq0 hbq0 hSq1 hbq1 hSq2 hbq2 TQ0 hr0y TQ2 hr2y
        replace B := B.trans (hb.mono B.size)
        replace C := C.trans (hb.mono C.size)
        replace BX : Hid (BdAt w16 w.heap.size ⟨fr, to, gr, md, no, lf, hp, of, tl, py⟩) := BdAt.below BX.out hb BX.out.1
        replace INM : Hid (RQ.At w16 ai (RQ.mkL 1 pi)) := RQ.At.below INM.out hb
        clear hb
        clear IG
        have INY : Hid (RQ.At w16 ay py2) := owny
        have HLY : Hid (py2.map Rq.said = L) := hLy
        have h82 : py2.length ≤ 8 := by have h1 := congrArg List.length hLy; have h2 := congrArg List.length HLI.out; rw [List.length_map] at h1 h2; omega
        have HPY : Hid (∀ p, p ∈ py2 → p.os.length ≤ 1048576) := fun p hp => by have h1 : p.said ∈ py2.map Rq.said := List.mem_map_of_mem hp; rw [hLy, ← HLI.out] at h1; obtain ⟨q, hq, e⟩ := List.mem_map.1 h1; have := HPZ.out q hq; rw [show q.os = p.os from congrArg (fun r => r.2.2) e] at this; exact this
        clear hLy
        clear owny
        go_wp2_with fail
        refine (eqReachS_any _ _ _ _ py2 pz _ (by omega) (HLY.out.trans HLS.out.symm) HPY.out (INY.out) (RQ.At.below IN0.out C)).mono ?_
        rintro e w17 ⟨rfl, hb⟩
        replace B := B.trans (hb.mono B.size)
        replace C := C.trans (hb.mono C.size)
        replace BX : Hid (BdAt w17 w.heap.size ⟨fr, to, gr, md, no, lf, hp, of, tl, py⟩) := BdAt.below BX.out hb BX.out.1
        replace INM : Hid (RQ.At w17 ai (RQ.mkL 1 pi)) := RQ.At.below INM.out hb
        replace INY : Hid (RQ.At w17 ay py2) := RQ.At.below INY.out hb
        clear hb
        go_wp2_with fail
        refine (heldReachS_any _ _ pi 1 _ h8 HPZ.out (by omega) (by omega) INM.out).mono ?_
        rintro e w' ⟨rfl, rfl⟩
        clear TB BX H0 TP0 EQ0 H2 TP2 EQ2
        go_wp2
        go_ret
        exact ⟨rfl, B⟩
  · clear SG0 IG0
    go_enter Try.func3, Try.ntmps3
    go_wp2
    go_ret
    exact ⟨rfl, (Below.refl _ w).alloc (Nat.le_refl _) _⟩
end Go.Proofs.Ytpdmbobcbehilaa

/- Who is reached, the program's: ReachAll. -/
namespace Go.Proofs.Ytpdmbobcbehilaa
open Go.RowKit
set_option linter.unusedSimpArgs false in
set_option maxHeartbeats 3200000 in
set_option maxRecDepth 100000 in
theorem reachI_any (a d : Option Addr) (cap cd : Nat) (xs : List I5) (b : Bd) (ms : List Int) (w : World) (hm : ms.length ≤ 1048576) (hn : xs.length ≤ 1048576) (hs : b.py.size ≤ 1048576) (hin : MI5.RowAt w a xs) (hin2 : M4.IntsAt w d ms) :
    Calls Try.prog 12 #[.slice a xs.length cap, b.v, .slice d ms.length cd] w fun e w' => ∃ a1 c1 ps, e = .returned (.tuple #[.slice a1 (List.length ps) c1, .bool (RQ.reaOk xs b ms)]) ∧ RQ.Own 59 w' w.heap.size (.slice a1 ps.length c1) ps ∧ ps.map Rq.said = RQ.reaA xs b ms ∧ Below w.heap.size w w' := by
  have P1 : Hid (∀ W : World, Below w.heap.size w W → Calls Try.prog 28 #[.slice a xs.length cap, b.v] W fun e w' => e = .returned (.bool (GP.fitsB xs b)) ∧ Below W.heap.size W w') := fun W h => fitsI_any a cap xs b W hn hs (hin.below h)
  have P2 : Hid (∀ W : World, Below w.heap.size w W → Calls Try.prog 29 #[.slice d ms.length cd] W fun e w' => e = .returned (.bool (EG.rises 8 ms)) ∧ W = w') := fun W h => areMembers_any d cd ms W hm (M4.IntsAt.below hin2 h) _ rfl
  have P3 : Hid (EG.rises 8 ms = true → ∀ W : World, Below w.heap.size w W → Calls Try.prog 31 #[.slice a xs.length cap, b.v, .slice d ms.length cd] W fun e w' => ∃ g c1 ps, e = .returned (.slice (some ⟨g, 0, none⟩) (List.length ps) c1) ∧ RQ.Own 59 w' W.heap.size (.slice (some ⟨g, 0, none⟩) ps.length c1) ps ∧ ps.map Rq.said = RQ.allL xs b ms ∧ Below W.heap.size W w') := fun h W hb => allReached_any a d cap cd xs b ms W (GP.rises_len h) hn (hin.below hb) (M4.IntsAt.below hin2 hb)
  have P4 : Hid (GP.fitsB xs b = true → ∀ W : World, Calls Try.prog 33 #[b.v] W fun e w' => e = .returned (.int .i64 (b.md + b.lf)) ∧ Below W.heap.size W w') := fun h W => by
    obtain ⟨_, _, _, _, h1, h2, _⟩ := GP.fits_is h
    exact lastTime_any b W h1 h2
  have HR : Hid (RQ.reaOk xs b ms = (GP.fitsB xs b && EG.rises 8 ms)) := show RQ.reaOk xs b ms = _ from rfl
  have NO : Hid (RQ.reaOk xs b ms = false → RQ.reaA xs b ms = []) := fun h => RQ.rea_no h
  have YES : Hid (RQ.reaOk xs b ms = true → ∀ ps : List Rq, ps.map Rq.said = RQ.allL xs b ms → ((ps.filter (fun p => RQ.inTime (b.md + b.lf) p.said)).filter (fun p => RQ.near b.hp p.said)).map Rq.said = RQ.reaA xs b ms) := fun h ps hp => by
    rw [RQ.rea_yes h, RQ.said_filter, RQ.said_filter, hp]; rfl
  have ML : Hid (EG.rises 8 ms = true → (RQ.allL xs b ms).length ≤ 8) := fun h => Nat.le_trans (RQ.allL_len xs b ms) (GP.rises_len h)
  have BA := BdAt.box w b 33
  have BB := (Below.refl _ w).alloc (Nat.le_refl _) (.cells #[.int .i64 b.fr, .int .i64 b.to, .bool b.gr, .int .i64 b.md, .int .i64 b.no, .int .i64 b.lf, .int .i64 b.hp, .int .i64 b.of, .int .i64 b.tl, .string b.py] 33)
  clear hin hin2
  generalize RQ.reaOk xs b ms = R at *
  generalize RQ.reaA xs b ms = L at *
  generalize RQ.allL xs b ms = AL at *
  generalize GP.fitsB xs b = q1 at *
  generalize EG.rises 8 ms = q2 at *
  generalize hml : b.md + b.lf = ml at *
  obtain ⟨fr, to, gr, md, no, lf, hp, of, tl, py⟩ := b
  clear hml
  obtain ⟨hlt, c0, c1, c2, c3, c4, c5, c6, c7, c8, c9⟩ := id BA
  go_enter Try.func12, Try.ntmps12
  go_wp2_with fail
  refine (P1.out _ BB).mono ?_
  rintro e w1 ⟨rfl, hb1⟩
  clear c0 c1 c2 c3 c4 c5 c6 c7 c8 c9 hlt P1
  have BA1 := BA.below hb1 BA.1
  have BB1 := BB.trans (hb1.mono BB.size)
  clear hb1 BA BB
  cases q1 with
  | false =>
    have hR : R = false := HR.out
    subst hR
    have HL : Hid (L = []) := NO.out (by first | rfl | trivial)
    clear P2 P3 P4 HR NO YES ML BA1
    go_wp2
    exact bodyPost_ret (v := .tuple #[.slice none 0 0, .bool false]) (by simp [results, Try.results12, go_sem]) rfl ⟨none, 0, [], rfl, RQ.Own.nil _ _ _, HL.out.symm, BB1⟩
  | true =>
    have hR : R = q2 := HR.out
    subst hR
    go_wp2_with fail
    refine (P2.out _ BB1).mono ?_
    rintro e w' ⟨rfl, rfl⟩
    clear P2 HR
    cases R with
    | false =>
      have HL : Hid (L = []) := NO.out (by first | rfl | trivial)
      clear P3 P4 NO YES ML BA1
      go_wp2
      exact bodyPost_ret (v := .tuple #[.slice none 0 0, .bool false]) (by simp [results, Try.results12, go_sem]) rfl ⟨none, 0, [], rfl, RQ.Own.nil _ _ _, HL.out.symm, BB1⟩
    | true =>
      have P3' : Hid _ := P3.out (by first | rfl | trivial)
      have P4' : Hid _ := P4.out (by first | rfl | trivial)
      have YES' : Hid _ := YES.out (by first | rfl | trivial)
      have ML' := ML.out (by first | rfl | trivial)
      clear P3 P4 YES ML NO
      have hq := BA1.1
      have KP : ∀ V1 V2 : World, (Below w1.heap.size w1 V1 ∧ V1.cell? ⟨w.heap.size, 0, none⟩ = some (.int .i64 fr) ∧ V1.cell? ⟨w.heap.size, 1, none⟩ = some (.int .i64 to) ∧ V1.cell? ⟨w.heap.size, 2, none⟩ = some (.bool gr) ∧ V1.cell? ⟨w.heap.size, 3, none⟩ = some (.int .i64 md) ∧ V1.cell? ⟨w.heap.size, 4, none⟩ = some (.int .i64 no) ∧ V1.cell? ⟨w.heap.size, 5, none⟩ = some (.int .i64 lf) ∧ V1.cell? ⟨w.heap.size, 6, none⟩ = some (.int .i64 hp) ∧ V1.cell? ⟨w.heap.size, 7, none⟩ = some (.int .i64 of) ∧ V1.cell? ⟨w.heap.size, 8, none⟩ = some (.int .i64 tl) ∧ V1.cell? ⟨w.heap.size, 9, none⟩ = some (.string py)) → Below V1.heap.size V1 V2 → (Below w1.heap.size w1 V2 ∧ V2.cell? ⟨w.heap.size, 0, none⟩ = some (.int .i64 fr) ∧ V2.cell? ⟨w.heap.size, 1, none⟩ = some (.int .i64 to) ∧ V2.cell? ⟨w.heap.size, 2, none⟩ = some (.bool gr) ∧ V2.cell? ⟨w.heap.size, 3, none⟩ = some (.int .i64 md) ∧ V2.cell? ⟨w.heap.size, 4, none⟩ = some (.int .i64 no) ∧ V2.cell? ⟨w.heap.size, 5, none⟩ = some (.int .i64 lf) ∧ V2.cell? ⟨w.heap.size, 6, none⟩ = some (.int .i64 hp) ∧ V2.cell? ⟨w.heap.size, 7, none⟩ = some (.int .i64 of) ∧ V2.cell? ⟨w.heap.size, 8, none⟩ = some (.int .i64 tl) ∧ V2.cell? ⟨w.heap.size, 9, none⟩ = some (.string py)) := fun V1 V2 ⟨h, h0, h1, h2, h3, h4, h5, h6, h7, h8, h9⟩ hb => ⟨h.trans (hb.mono h.size), (hb.cell (p := ⟨w.heap.size, 0, none⟩) (Nat.lt_of_lt_of_le hq h.size)).trans h0, (hb.cell (p := ⟨w.heap.size, 1, none⟩) (Nat.lt_of_lt_of_le hq h.size)).trans h1, (hb.cell (p := ⟨w.heap.size, 2, none⟩) (Nat.lt_of_lt_of_le hq h.size)).trans h2, (hb.cell (p := ⟨w.heap.size, 3, none⟩) (Nat.lt_of_lt_of_le hq h.size)).trans h3, (hb.cell (p := ⟨w.heap.size, 4, none⟩) (Nat.lt_of_lt_of_le hq h.size)).trans h4, (hb.cell (p := ⟨w.heap.size, 5, none⟩) (Nat.lt_of_lt_of_le hq h.size)).trans h5, (hb.cell (p := ⟨w.heap.size, 6, none⟩) (Nat.lt_of_lt_of_le hq h.size)).trans h6, (hb.cell (p := ⟨w.heap.size, 7, none⟩) (Nat.lt_of_lt_of_le hq h.size)).trans h7, (hb.cell (p := ⟨w.heap.size, 8, none⟩) (Nat.lt_of_lt_of_le hq h.size)).trans h8, (hb.cell (p := ⟨w.heap.size, 9, none⟩) (Nat.lt_of_lt_of_le hq h.size)).trans h9⟩
      have KO : ∀ (g : Nat) (V1 V2 : World), w1.heap.size ≤ g → (Below w1.heap.size w1 V1 ∧ V1.cell? ⟨w.heap.size, 0, none⟩ = some (.int .i64 fr) ∧ V1.cell? ⟨w.heap.size, 1, none⟩ = some (.int .i64 to) ∧ V1.cell? ⟨w.heap.size, 2, none⟩ = some (.bool gr) ∧ V1.cell? ⟨w.heap.size, 3, none⟩ = some (.int .i64 md) ∧ V1.cell? ⟨w.heap.size, 4, none⟩ = some (.int .i64 no) ∧ V1.cell? ⟨w.heap.size, 5, none⟩ = some (.int .i64 lf) ∧ V1.cell? ⟨w.heap.size, 6, none⟩ = some (.int .i64 hp) ∧ V1.cell? ⟨w.heap.size, 7, none⟩ = some (.int .i64 of) ∧ V1.cell? ⟨w.heap.size, 8, none⟩ = some (.int .i64 tl) ∧ V1.cell? ⟨w.heap.size, 9, none⟩ = some (.string py)) → MC.Only g V1 V2 → (Below w1.heap.size w1 V2 ∧ V2.cell? ⟨w.heap.size, 0, none⟩ = some (.int .i64 fr) ∧ V2.cell? ⟨w.heap.size, 1, none⟩ = some (.int .i64 to) ∧ V2.cell? ⟨w.heap.size, 2, none⟩ = some (.bool gr) ∧ V2.cell? ⟨w.heap.size, 3, none⟩ = some (.int .i64 md) ∧ V2.cell? ⟨w.heap.size, 4, none⟩ = some (.int .i64 no) ∧ V2.cell? ⟨w.heap.size, 5, none⟩ = some (.int .i64 lf) ∧ V2.cell? ⟨w.heap.size, 6, none⟩ = some (.int .i64 hp) ∧ V2.cell? ⟨w.heap.size, 7, none⟩ = some (.int .i64 of) ∧ V2.cell? ⟨w.heap.size, 8, none⟩ = some (.int .i64 tl) ∧ V2.cell? ⟨w.heap.size, 9, none⟩ = some (.string py)) := fun g V1 V2 hg ⟨h, h0, h1, h2, h3, h4, h5, h6, h7, h8, h9⟩ hb => ⟨h.trans (hb.below hg h.size), (hb.cell (x := ⟨w.heap.size, 0, none⟩) (Nat.lt_of_lt_of_le hq h.size) (by simp; omega)).trans h0, (hb.cell (x := ⟨w.heap.size, 1, none⟩) (Nat.lt_of_lt_of_le hq h.size) (by simp; omega)).trans h1, (hb.cell (x := ⟨w.heap.size, 2, none⟩) (Nat.lt_of_lt_of_le hq h.size) (by simp; omega)).trans h2, (hb.cell (x := ⟨w.heap.size, 3, none⟩) (Nat.lt_of_lt_of_le hq h.size) (by simp; omega)).trans h3, (hb.cell (x := ⟨w.heap.size, 4, none⟩) (Nat.lt_of_lt_of_le hq h.size) (by simp; omega)).trans h4, (hb.cell (x := ⟨w.heap.size, 5, none⟩) (Nat.lt_of_lt_of_le hq h.size) (by simp; omega)).trans h5, (hb.cell (x := ⟨w.heap.size, 6, none⟩) (Nat.lt_of_lt_of_le hq h.size) (by simp; omega)).trans h6, (hb.cell (x := ⟨w.heap.size, 7, none⟩) (Nat.lt_of_lt_of_le hq h.size) (by simp; omega)).trans h7, (hb.cell (x := ⟨w.heap.size, 8, none⟩) (Nat.lt_of_lt_of_le hq h.size) (by simp; omega)).trans h8, (hb.cell (x := ⟨w.heap.size, 9, none⟩) (Nat.lt_of_lt_of_le hq h.size) (by simp; omega)).trans h9⟩
      have AQ : Hid (∀ W' : World, (Below w1.heap.size w1 W' ∧ W'.cell? ⟨w.heap.size, 0, none⟩ = some (.int .i64 fr) ∧ W'.cell? ⟨w.heap.size, 1, none⟩ = some (.int .i64 to) ∧ W'.cell? ⟨w.heap.size, 2, none⟩ = some (.bool gr) ∧ W'.cell? ⟨w.heap.size, 3, none⟩ = some (.int .i64 md) ∧ W'.cell? ⟨w.heap.size, 4, none⟩ = some (.int .i64 no) ∧ W'.cell? ⟨w.heap.size, 5, none⟩ = some (.int .i64 lf) ∧ W'.cell? ⟨w.heap.size, 6, none⟩ = some (.int .i64 hp) ∧ W'.cell? ⟨w.heap.size, 7, none⟩ = some (.int .i64 of) ∧ W'.cell? ⟨w.heap.size, 8, none⟩ = some (.int .i64 tl) ∧ W'.cell? ⟨w.heap.size, 9, none⟩ = some (.string py)) → Calls Try.prog 31 #[.slice a xs.length cap, Bd.v ⟨fr, to, gr, md, no, lf, hp, of, tl, py⟩, .slice d ms.length cd] W' fun e w' => ∃ g c ps, e = .returned (.slice (some ⟨g, 0, none⟩) (List.length ps) c) ∧ (RQ.Own 59 w' w1.heap.size (.slice (some ⟨g, 0, none⟩) ps.length c) ps ∧ ps.length ≤ 8 ∧ ((ps.filter (fun p => RQ.inTime ml p.said)).filter (fun p => RQ.near hp p.said)).map Rq.said = L) ∧ (Below w1.heap.size w1 w' ∧ w'.cell? ⟨w.heap.size, 0, none⟩ = some (.int .i64 fr) ∧ w'.cell? ⟨w.heap.size, 1, none⟩ = some (.int .i64 to) ∧ w'.cell? ⟨w.heap.size, 2, none⟩ = some (.bool gr) ∧ w'.cell? ⟨w.heap.size, 3, none⟩ = some (.int .i64 md) ∧ w'.cell? ⟨w.heap.size, 4, none⟩ = some (.int .i64 no) ∧ w'.cell? ⟨w.heap.size, 5, none⟩ = some (.int .i64 lf) ∧ w'.cell? ⟨w.heap.size, 6, none⟩ = some (.int .i64 hp) ∧ w'.cell? ⟨w.heap.size, 7, none⟩ = some (.int .i64 of) ∧ w'.cell? ⟨w.heap.size, 8, none⟩ = some (.int .i64 tl) ∧ w'.cell? ⟨w.heap.size, 9, none⟩ = some (.string py))) := fun W' h => (P3'.out W' (BB1.trans (h.1.mono BB1.size))).mono fun e w' ⟨g, c, ps, e1, ho, hL, hb⟩ => ⟨g, c, ps, e1, ⟨ho.mono h.1.size, by have := congrArg List.length hL; rw [List.length_map] at this; rw [this]; exact ML', YES'.out ps hL⟩, KP _ _ h hb⟩
      have LQ : Hid (∀ W' : World, (Below w1.heap.size w1 W' ∧ W'.cell? ⟨w.heap.size, 0, none⟩ = some (.int .i64 fr) ∧ W'.cell? ⟨w.heap.size, 1, none⟩ = some (.int .i64 to) ∧ W'.cell? ⟨w.heap.size, 2, none⟩ = some (.bool gr) ∧ W'.cell? ⟨w.heap.size, 3, none⟩ = some (.int .i64 md) ∧ W'.cell? ⟨w.heap.size, 4, none⟩ = some (.int .i64 no) ∧ W'.cell? ⟨w.heap.size, 5, none⟩ = some (.int .i64 lf) ∧ W'.cell? ⟨w.heap.size, 6, none⟩ = some (.int .i64 hp) ∧ W'.cell? ⟨w.heap.size, 7, none⟩ = some (.int .i64 of) ∧ W'.cell? ⟨w.heap.size, 8, none⟩ = some (.int .i64 tl) ∧ W'.cell? ⟨w.heap.size, 9, none⟩ = some (.string py)) → Calls Try.prog 33 #[Bd.v ⟨fr, to, gr, md, no, lf, hp, of, tl, py⟩] W' fun e w' => e = .returned (.int .i64 ml) ∧ Below W'.heap.size W' w' ∧ (Below w1.heap.size w1 w' ∧ w'.cell? ⟨w.heap.size, 0, none⟩ = some (.int .i64 fr) ∧ w'.cell? ⟨w.heap.size, 1, none⟩ = some (.int .i64 to) ∧ w'.cell? ⟨w.heap.size, 2, none⟩ = some (.bool gr) ∧ w'.cell? ⟨w.heap.size, 3, none⟩ = some (.int .i64 md) ∧ w'.cell? ⟨w.heap.size, 4, none⟩ = some (.int .i64 no) ∧ w'.cell? ⟨w.heap.size, 5, none⟩ = some (.int .i64 lf) ∧ w'.cell? ⟨w.heap.size, 6, none⟩ = some (.int .i64 hp) ∧ w'.cell? ⟨w.heap.size, 7, none⟩ = some (.int .i64 of) ∧ w'.cell? ⟨w.heap.size, 8, none⟩ = some (.int .i64 tl) ∧ w'.cell? ⟨w.heap.size, 9, none⟩ = some (.string py))) := fun W' h => (P4'.out W').mono fun e w' ⟨e1, hb⟩ => ⟨e1, hb, KP _ _ h hb⟩
      have NQ : Hid (∀ (g c : Nat) (ps qs : List Rq) (W' : World), ps.length ≤ 8 → ps.filter (fun p => RQ.inTime ml p.said) = qs → RQ.Own 59 W' w1.heap.size (.slice (some ⟨g, 0, none⟩) ps.length c) ps → (Below w1.heap.size w1 W' ∧ W'.cell? ⟨w.heap.size, 0, none⟩ = some (.int .i64 fr) ∧ W'.cell? ⟨w.heap.size, 1, none⟩ = some (.int .i64 to) ∧ W'.cell? ⟨w.heap.size, 2, none⟩ = some (.bool gr) ∧ W'.cell? ⟨w.heap.size, 3, none⟩ = some (.int .i64 md) ∧ W'.cell? ⟨w.heap.size, 4, none⟩ = some (.int .i64 no) ∧ W'.cell? ⟨w.heap.size, 5, none⟩ = some (.int .i64 lf) ∧ W'.cell? ⟨w.heap.size, 6, none⟩ = some (.int .i64 hp) ∧ W'.cell? ⟨w.heap.size, 7, none⟩ = some (.int .i64 of) ∧ W'.cell? ⟨w.heap.size, 8, none⟩ = some (.int .i64 tl) ∧ W'.cell? ⟨w.heap.size, 9, none⟩ = some (.string py)) → Calls Try.prog 30 #[.slice (some ⟨g, 0, none⟩) ps.length c, .func (.func 32) #[] #[], .int .i64 ml] W' fun e w' => e = .returned (.slice (some ⟨g, 0, none⟩) qs.length c) ∧ RQ.Own 59 w' w1.heap.size (.slice (some ⟨g, 0, none⟩) qs.length c) qs ∧ (Below w1.heap.size w1 w' ∧ w'.cell? ⟨w.heap.size, 0, none⟩ = some (.int .i64 fr) ∧ w'.cell? ⟨w.heap.size, 1, none⟩ = some (.int .i64 to) ∧ w'.cell? ⟨w.heap.size, 2, none⟩ = some (.bool gr) ∧ w'.cell? ⟨w.heap.size, 3, none⟩ = some (.int .i64 md) ∧ w'.cell? ⟨w.heap.size, 4, none⟩ = some (.int .i64 no) ∧ w'.cell? ⟨w.heap.size, 5, none⟩ = some (.int .i64 lf) ∧ w'.cell? ⟨w.heap.size, 6, none⟩ = some (.int .i64 hp) ∧ w'.cell? ⟨w.heap.size, 7, none⟩ = some (.int .i64 of) ∧ w'.cell? ⟨w.heap.size, 8, none⟩ = some (.int .i64 tl) ∧ w'.cell? ⟨w.heap.size, 9, none⟩ = some (.string py))) := fun g c ps qs W' h8 hqs ho h => (noMoreT_any w1.heap.size g c ps ml W' h8 ho qs hqs).mono fun e w' ⟨e1, h1, h2⟩ => ⟨e1, h1, KO g _ _ (ho.out.lt g rfl).1 h h2⟩
      have hSd : Below w1.heap.size w1 w1.drew ∧ w1.drew.cell? ⟨w.heap.size, 0, none⟩ = some (.int .i64 fr) ∧ w1.drew.cell? ⟨w.heap.size, 1, none⟩ = some (.int .i64 to) ∧ w1.drew.cell? ⟨w.heap.size, 2, none⟩ = some (.bool gr) ∧ w1.drew.cell? ⟨w.heap.size, 3, none⟩ = some (.int .i64 md) ∧ w1.drew.cell? ⟨w.heap.size, 4, none⟩ = some (.int .i64 no) ∧ w1.drew.cell? ⟨w.heap.size, 5, none⟩ = some (.int .i64 lf) ∧ w1.drew.cell? ⟨w.heap.size, 6, none⟩ = some (.int .i64 hp) ∧ w1.drew.cell? ⟨w.heap.size, 7, none⟩ = some (.int .i64 of) ∧ w1.drew.cell? ⟨w.heap.size, 8, none⟩ = some (.int .i64 tl) ∧ w1.drew.cell? ⟨w.heap.size, 9, none⟩ = some (.string py) := ⟨(Below.refl _ _).drew, BA1.2⟩
      clear P3' P4' YES' ML' KO KP BA1
      go_wp2
      go_region_held3 (fun w' => Below w1.heap.size w1 w' ∧ w'.cell? ⟨w.heap.size, 0, none⟩ = some (.int .i64 fr) ∧ w'.cell? ⟨w.heap.size, 1, none⟩ = some (.int .i64 to) ∧ w'.cell? ⟨w.heap.size, 2, none⟩ = some (.bool gr) ∧ w'.cell? ⟨w.heap.size, 3, none⟩ = some (.int .i64 md) ∧ w'.cell? ⟨w.heap.size, 4, none⟩ = some (.int .i64 no) ∧ w'.cell? ⟨w.heap.size, 5, none⟩ = some (.int .i64 lf) ∧ w'.cell? ⟨w.heap.size, 6, none⟩ = some (.int .i64 hp) ∧ w'.cell? ⟨w.heap.size, 7, none⟩ = some (.int .i64 of) ∧ w'.cell? ⟨w.heap.size, 8, none⟩ = some (.int .i64 tl) ∧ w'.cell? ⟨w.heap.size, 9, none⟩ = some (.string py)) (first | assumption | (show _ ∧ _; assumption)) (first | (go_at_call 31; refine Calls.mono (AQ.out _ (by assumption)) ?_; (rintro e w2 ⟨g, c, ps, rfl, ⟨hA1, hA2, hA3⟩, hS2⟩)) | (go_at_call 33; refine Calls.mono (LQ.out _ (by assumption)) ?_; (rintro e w3 ⟨rfl, hb3, hS3⟩); (replace hA1 := RQ.Own.below hA1 hb3); (obtain ⟨qs, hqs⟩ : ∃ qs, ps.filter (fun p => RQ.inTime ml p.said) = qs := ⟨_, rfl⟩)) | (go_at_call 30; refine Calls.mono (NQ.out g c ps qs _ hA2 hqs hA1 (by assumption)) ?_; (rintro e w4 ⟨rfl, ho4, hSr⟩)))
      have HO4 : Hid _ := ho4
      have HL2 : Hid _ := hA3
      have hq8 : qs.length ≤ 8 := by rw [← hqs]; exact Nat.le_trans (List.length_filter_le _ _) hA2
      rw [hqs] at HL2
      have Hgb : Hid (w1.heap.size ≤ g) := (ho4.out.lt g rfl).1
      obtain ⟨hbS, d0, d1, d2, d3, d4, d5, c6', d7, d8, d9⟩ := hSr
      have BB4 := BB1.trans (hbS.mono BB1.size)
      have hlt4 := Nat.lt_of_lt_of_le hq hbS.size
      clear d0 d1 d2 d3 d4 d5 d7 d8 d9 hSd hS2 hS3 hb3 hA1 hA2 hA3 hqs ho4 AQ LQ NQ hbS
      obtain ⟨rs, hrs⟩ : ∃ rs, qs.filter (fun p => RQ.near hp p.said) = rs := ⟨_, rfl⟩
      have N2 : Hid (Calls _ _ _ _ _) := noMoreH_any w1.heap.size g c qs hp w4 hq8 HO4.out rs hrs
      rw [hrs] at HL2
      clear hrs HO4
      go_wp2_with fail
      refine Calls.mono N2.out ?_
      rintro e w5 ⟨rfl, ho5, hO5⟩
      have HO5 : Hid _ := ho5
      have BB5 := BB4.trans (hO5.below (Nat.le_trans BB1.size Hgb.out) BB4.size)
      clear N2 ho5 hO5 BB4 c6'
      go_wp2
      exact bodyPost_ret (v := .tuple #[.slice (some ⟨g, 0, none⟩) rs.length c, .bool true]) (by simp [results, Try.results12, go_sem]) rfl ⟨some ⟨g, 0, none⟩, c, rs, rfl, HO5.out.mono BB1.size, HL2.out, BB5⟩
end Go.Proofs.Ytpdmbobcbehilaa

/- The law FnExactReachAll answers true, whatever the arguments. -/
namespace Go.Proofs.Ytpdmbobcbehilaa
open Go.RowKit
theorem RQ.reaA_len (xs : List I5) (b : Bd) (ms : List Int) : (RQ.reaA xs b ms).length ≤ 8 := by
  unfold RQ.reaA
  split
  · next h =>
    unfold RQ.reaOk at h
    rw [Bool.and_eq_true] at h
    exact Nat.le_trans (RQ.reaL_len xs b ms) (GP.rises_len h.2)
  · simp
theorem RQ.reaA_row (xs : List I5) (b : Bd) (ms : List Int) : ∀ r, r ∈ RQ.reaA xs b ms → r.2.2.length ≤ 1048576 := by
  unfold RQ.reaA
  split
  · intro r hr
    have h1 := (List.mem_filter.1 (List.mem_filter.1 hr).1).1
    obtain ⟨m, _, rfl⟩ := List.mem_map.1 h1
    exact PN.routeL_len _ _ _ _
  · intro r hr; simp at hr
theorem lawReach17_any (a : Option Addr) (cap : Nat) (xs : List I5) (b : Bd) (d : Option Addr) (cd : Nat) (ms : List Int) (w : World) (hl : xs.length ≤ maxLen) (hl2 : ms.length ≤ maxLen) (hi : MI5.RowAt w a xs) (hi2 : M4.IntsAt w d ms) (hp : b.py.size ≤ maxLen) :
    Calls Try.prog 3 #[.slice a xs.length cap, b.v, .slice d ms.length cd] w fun e w' => e = .returned (.bool true) ∧ Below w.heap.size w w' :=
  lawReachAll_any a cap xs b d cd ms (RQ.reaA xs b ms) (RQ.reaA_len xs b ms) (RQ.reaA_row xs b ms) (RQ.reaOk xs b ms) (fun hz hz2 hy _ _ W hr hr2 => reachS_any _ _ _ _ xs b ms W hz2 hz hy hr hr2) (fun hz hz2 hy _ _ W hr hr2 => reachI_any _ _ _ _ xs b ms W hz2 hz hy hr hr2) w hl hl2 hi hi2 hp
end Go.Proofs.Ytpdmbobcbehilaa
