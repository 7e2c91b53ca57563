/- Rows of reaches in memory (a number, a time, a row of numbers each): plain facts. -/
import Derived.Test.YtpdmbobcbehilaaMNR
import Derived.Test.YtpdmbobcbehilaaMRA
import Derived.Laws.IdiomCopy
namespace Go.Proofs.Ytpdmbobcbehilaa
open Go.RowKit
/-- A reach, and where its row of numbers lies. -/
structure Rq where
  m : Int
  t : Int
  os : List Int
  a : Option Addr
  c : Nat
abbrev Rq.v (p : Rq) : Value := .agg #[.int .i64 p.m, .int .i64 p.t, .slice p.a p.os.length p.c]
abbrev Rq.cs (p : Rq) : List Value := [.int .i64 p.m, .int .i64 p.t, .slice p.a p.os.length p.c]
def Rq.said (p : Rq) : Int × Int × List Int := (p.m, p.t, p.os)
namespace RQ
def flat : List Rq → List Value
  | [] => []
  | p :: ps => p.cs ++ flat ps
def at_ (ps : List Rq) (j : Nat) : Rq := ps.getD j ⟨0, 0, [], none, 0⟩
theorem at_eq {ps : List Rq} {j : Nat} (h : j < ps.length) : at_ ps j = ps[j] := by simp [at_, List.getD_eq_getElem?_getD, List.getElem?_eq_getElem h]
theorem at_mem {ps : List Rq} {j : Nat} (h : j < ps.length) : at_ ps j ∈ ps := by rw [at_eq h]; exact List.getElem_mem h
theorem flat_len : ∀ ps : List Rq, (flat ps).length = ps.length * 3
  | [] => rfl
  | p :: ps => by simp only [flat, List.length_append, flat_len ps, List.length_cons, List.length_nil]; omega
theorem flat_app : ∀ ps qs : List Rq, flat (ps ++ qs) = flat ps ++ flat qs
  | [], qs => rfl
  | p :: ps, qs => by simp only [List.cons_append, flat, flat_app ps qs, List.append_assoc]
theorem flat_get : ∀ (ps : List Rq) (j : Nat), j < ps.length → (flat ps)[j * 3]? = some (.int .i64 (at_ ps j).m) ∧ (flat ps)[j * 3 + 1]? = some (.int .i64 (at_ ps j).t) ∧ (flat ps)[j * 3 + 2]? = some (.slice (at_ ps j).a (at_ ps j).os.length (at_ ps j).c)
  | [], j, h => by simp at h
  | p :: ps, 0, _ => ⟨rfl, rfl, rfl⟩
  | p :: ps, j + 1, h => by
    have ih := flat_get ps j (by simpa using h)
    have e : at_ (p :: ps) (j + 1) = at_ ps j := rfl
    rw [e, show (j + 1) * 3 = j * 3 + 3 by omega]
    exact ih
theorem flat_set3 : ∀ (ps : List Rq) (j : Nat) (q : Rq), j < ps.length → flat (ps.set j q) = ((((flat ps).set (j * 3) (.int .i64 q.m)).set (j * 3 + 1) (.int .i64 q.t)).set (j * 3 + 2) (.slice q.a q.os.length q.c))
  | [], j, _, h => by simp at h
  | p :: ps, 0, q, _ => rfl
  | p :: ps, j + 1, q, h => by
    have ih := flat_set3 ps j q (by simpa using h)
    rw [List.set_cons_succ, show (j + 1) * 3 = j * 3 + 3 by omega]
    show q.cs.take 0 ++ (p.cs ++ flat (ps.set j q)) = _
    rw [ih]; rfl
/-- What lies at a slice's address. -/
structure At (w : World) (a : Option Addr) (ps : List Rq) : Prop where
  is : ps = [] ∨ ∃ b off, a = some ⟨b, off, none⟩ ∧ b < w.heap.size ∧ ∀ j, j < ps.length → w.cell? ⟨b, off + j * 3, none⟩ = some (.int .i64 (at_ ps j).m) ∧ w.cell? ⟨b, off + j * 3 + 1, none⟩ = some (.int .i64 (at_ ps j).t) ∧ w.cell? ⟨b, off + j * 3 + 2, none⟩ = some (.slice (at_ ps j).a (at_ ps j).os.length (at_ ps j).c) ∧ (at_ ps j).os.length ≤ maxLen ∧ M4.IntsAt w (at_ ps j).a (at_ ps j).os
theorem At.below {w w' : World} {a : Option Addr} {ps : List Rq} (h : At w a ps) (hb : Below w.heap.size w w') : At w' a ps := by
  rcases h.is with rfl | ⟨b, off, rfl, hlt, hc⟩
  · exact ⟨.inl rfl⟩
  · refine ⟨.inr ⟨b, off, rfl, Nat.lt_of_lt_of_le hlt hb.size, fun j hj => ?_⟩⟩
    obtain ⟨c0, c1, c2, c3, c4⟩ := hc j hj
    exact ⟨(hb.cell (p := ⟨b, _, none⟩) hlt).trans c0, (hb.cell (p := ⟨b, _, none⟩) hlt).trans c1, (hb.cell (p := ⟨b, _, none⟩) hlt).trans c2, c3, c4.below hb⟩
theorem At.at {w : World} {a : Option Addr} {ps : List Rq} (h : At w a ps) {j : Nat} (hj : j < ps.length) : ∃ b off, a = some ⟨b, off, none⟩ ∧ b < w.heap.size ∧ w.cell? ⟨b, off + j * 3, none⟩ = some (.int .i64 (at_ ps j).m) ∧ w.cell? ⟨b, off + j * 3 + 1, none⟩ = some (.int .i64 (at_ ps j).t) ∧ w.cell? ⟨b, off + j * 3 + 2, none⟩ = some (.slice (at_ ps j).a (at_ ps j).os.length (at_ ps j).c) ∧ (at_ ps j).os.length ≤ maxLen ∧ M4.IntsAt w (at_ ps j).a (at_ ps j).os := by
  rcases h.is with rfl | ⟨b, off, rfl, hlt, hc⟩
  · simp at hj
  · exact ⟨b, off, rfl, hlt, hc j hj⟩
/-- Their rows: each in a block of its own, of the call's. -/
structure Rows (w : World) (B : Nat) (ps : List Rq) : Prop where
  row : ∀ p, p ∈ ps → NR.In w B p.a p.os
  far : ps.Pairwise fun p q => p.os ≠ [] → q.os ≠ [] → p.a ≠ q.a
theorem Rows.nil (w : World) (B : Nat) : Rows w B [] := ⟨fun p h => by simp at h, List.Pairwise.nil⟩
theorem Rows.below {w w' : World} {B : Nat} {ps : List Rq} (h : Rows w B ps) (hb : Below w.heap.size w w') : Rows w' B ps := ⟨fun p hp => (h.row p hp).below hb, h.far⟩
theorem Rows.mono {w : World} {B B' : Nat} {ps : List Rq} (h : Rows w B ps) (hb : B' ≤ B) : Rows w B' ps := ⟨fun p hp => (h.row p hp).mono hb, h.far⟩
theorem Rows.filter {w : World} {B : Nat} {ps : List Rq} (h : Rows w B ps) (f : Rq → Bool) : Rows w B (ps.filter f) := ⟨fun p hp => h.row p (List.mem_filter.1 hp).1, List.Pairwise.filter f h.far⟩
theorem Rows.snoc {w : World} {B : Nat} {ps : List Rq} {q : Rq} (h : Rows w B ps) (hq : NR.In w B q.a q.os) (hf : ∀ p, p ∈ ps → p.os ≠ [] → q.os ≠ [] → p.a ≠ q.a) : Rows w B (ps ++ [q]) := by
  refine ⟨fun p hp => ?_, ?_⟩
  · rcases List.mem_append.1 hp with h1 | h1
    · exact h.row p h1
    · rw [List.mem_singleton.1 h1]; exact hq
  · rw [List.pairwise_append]
    refine ⟨h.far, List.pairwise_singleton _ _, fun p hp r hr => ?_⟩
    rw [List.mem_singleton.1 hr]; exact hf p hp
/-- A block of another type than the rows' is none of theirs. -/
theorem in_ne {T : TypeId} (hT : T ≠ 3) {w : World} {B B' g n cap sz : Nat} {a : Option Addr} {l : List Int} {vs : List Value} (h : NR.In w B a l) (hl : l ≠ []) (ho : w.ownsRow B' T sz (.slice (some ⟨g, 0, none⟩) n cap) n vs) : a ≠ some ⟨g, 0, none⟩ := by
  intro ea
  rcases h.is with e | ⟨g', m, us, ha, hw, _⟩
  · exact hl e
  · rw [ea] at ha
    simp only [Option.some.injEq, Addr.mk.injEq, and_true] at ha
    subst ha
    rcases hw.2 with ⟨h', _⟩ | ⟨g3, cap3, cur3, hv3, _, hg3, _⟩
    · cases h'
    · simp only [Value.slice.injEq, Option.some.injEq, Addr.mk.injEq, and_true] at hv3
      obtain ⟨rfl, _⟩ := hv3
      rcases ho.2 with ⟨h', _⟩ | ⟨g4, cap4, cur4, hv4, _, hg4, _⟩
      · cases h'
      · simp only [Value.slice.injEq, Option.some.injEq, Addr.mk.injEq, and_true] at hv4
        obtain ⟨rfl, _⟩ := hv4
        rw [hg4] at hg3
        simp only [Option.some.injEq, Obj.cells.injEq] at hg3
        exact hT hg3.2.1
/-- What turns one block of another type leaves the rows alone. -/
theorem Rows.only {T : TypeId} (hT : T ≠ 3) {w w' : World} {B B' g n cap sz : Nat} {ps : List Rq} {vs : List Value} (h : Rows w B ps) (ho : w.ownsRow B' T sz (.slice (some ⟨g, 0, none⟩) n cap) n vs) (hO : MC.Only g w w') : Rows w' B ps := by
  refine ⟨fun p hp => ?_, h.far⟩
  by_cases e : p.os = []
  · rw [e]; exact .nil _ _ _
  · exact (h.row p hp).only hO (in_ne hT (h.row p hp) e ho)
/-- Of the call's own: the row and its rows. -/
structure Own (T : TypeId) (w : World) (B : Nat) (v : Value) (ps : List Rq) : Prop where
  out : w.ownsRow B T 3 v ps.length (flat ps)
  rows : Rows w B ps
theorem Own.below {T : TypeId} {w w' : World} {B : Nat} {v : Value} {ps : List Rq} (h : Own T w B v ps) (hb : Below w.heap.size w w') : Own T w' B v ps := ⟨M5.own_below h.out hb, h.rows.below hb⟩
theorem own_mono {w : World} {B B' e sz n : Nat} {v : Value} {xs : List Value} (h : w.ownsRow B e sz v n xs) (hb : B' ≤ B) : w.ownsRow B' e sz v n xs := by
  refine ⟨h.1, ?_⟩
  rcases h.2 with h' | ⟨g', cap, cur, hv, hB, rest⟩
  · exact .inl h'
  · exact .inr ⟨g', cap, cur, hv, by omega, rest⟩
theorem Own.mono {T : TypeId} {w : World} {B B' : Nat} {v : Value} {ps : List Rq} (h : Own T w B v ps) (hb : B' ≤ B) : Own T w B' v ps := ⟨own_mono h.out hb, h.rows.mono hb⟩
theorem Own.at {T : TypeId} {w : World} {B n c : Nat} {a : Option Addr} {ps : List Rq} (h : Own T w B (.slice a n c) ps) : At w a ps := by
  rcases h.out.2 with ⟨h1, h0⟩ | ⟨g, cap, cur, hv, hB, hg, h1, h2, h3, h4⟩
  · exact ⟨.inl (List.eq_nil_of_length_eq_zero h0)⟩
  · have hv' := hv
    simp only [Value.slice.injEq] at hv
    obtain ⟨rfl, rfl, rfl⟩ := hv
    refine ⟨.inr ⟨g, 0, rfl, (h.out.lt g rfl).2, fun j hj => ?_⟩⟩
    obtain ⟨f0, f1, f2⟩ := flat_get ps j hj
    have hr := h.rows.row _ (at_mem hj)
    simp only [Nat.zero_add]
    exact ⟨(h.out.cellAt (j * 3) (by omega)).trans f0, (h.out.cellAt (j * 3 + 1) (by omega)).trans f1, (h.out.cellAt (j * 3 + 2) (by omega)).trans f2, hr.len, hr.ints⟩
theorem Own.view {T : TypeId} {w : World} {B : Nat} {v : Value} {ps : List Rq} (h : Own T w B v ps) : ∃ a c, v = .slice a ps.length c ∧ At w a ps := by
  rcases h.out.2 with ⟨rfl, h0⟩ | ⟨g, cap, cur, rfl, hB, hg, h1, h2, h3, h4⟩
  · exact ⟨none, 0, by rw [h0], ⟨.inl (List.eq_nil_of_length_eq_zero h0)⟩⟩
  · exact ⟨some ⟨g, 0, none⟩, cap, rfl, h.at⟩
theorem Own.nil (T : TypeId) (w : World) (B : Nat) : Own T w B (.slice none 0 0) [] := ⟨World.ownsRow_nil _ _ _ _, Rows.nil _ _⟩
/-- Cells of a row of the call's own are written: what lies ahead of them stays. -/
theorem own_cells {T : TypeId} {g n cap B : Nat} : ∀ (vs : List Value) (o : Nat) (w : World) (cur : List Value), w.ownsRow B T 3 (.slice (some ⟨g, 0, none⟩) n cap) n cur → ∃ cur', (w.setCells g o vs).ownsRow B T 3 (.slice (some ⟨g, 0, none⟩) n cap) n cur' ∧ cur'.take o = cur.take o ∧ MC.Only g w (w.setCells g o vs)
  | [], o, w, cur, h => ⟨cur, h, rfl, MC.Only.refl _ _⟩
  | u :: vs, o, w, cur, h => by
    have st := h.stored o u
    obtain ⟨cur', h1, h2, h3⟩ := own_cells vs (o + 1) (w.setCell ⟨g, o, none⟩ u) _ st.1
    refine ⟨cur', h1, ?_, RA.only_cells g (u :: vs) o w⟩
    have h4 := congrArg (List.take o) h2
    rw [List.take_take, List.take_take, Nat.min_eq_left (by omega), List.take_set_of_le (Nat.le_refl _)] at h4
    exact h4
/-- The first of a row. -/
theorem own_first {T : TypeId} {w : World} {B g n cap k : Nat} {cur : List Value} {ks : List Rq} (h : w.ownsRow B T 3 (.slice (some ⟨g, 0, none⟩) n cap) n cur) (hk : ks.length = k) (hkn : k ≤ n) (hc : cur.take (k * 3) = flat ks) : w.ownsRow B T 3 (.slice (some ⟨g, 0, none⟩) k cap) k (flat ks) := by
  refine ⟨by rw [flat_len, hk], ?_⟩
  rcases h.2 with ⟨h', _⟩ | ⟨g', cap', cur0, hv, hB, hg, h1, h2, h3, h4⟩
  · cases h'
  · simp only [Value.slice.injEq, Option.some.injEq, Addr.mk.injEq, and_true] at hv
    obtain ⟨rfl, _, rfl⟩ := hv
    refine .inr ⟨g, cap, cur0, rfl, hB, hg, by omega, h2, h3, ?_⟩
    rw [← hc, ← h4, List.take_take, Nat.min_eq_left (by omega)]
end RQ
end Go.Proofs.Ytpdmbobcbehilaa
