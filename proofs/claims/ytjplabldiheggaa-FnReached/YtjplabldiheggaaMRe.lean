import Derived.Test.YtjplabldiheggaaM5
import Derived.Test.YtjplabldiheggaaMCur
import Derived.OwnWalk
import Derived.Test.YtjplabldiheggaaMRA
import Derived.Laws.IdiomCopy
/- Rows of rows of numbers in memory: plain facts, over whatever program. -/
namespace Go.Proofs.Ytjplabldiheggaa
namespace NR
open Go.RowKit
/-- The row of that number. -/
def rw_ (ws : List (List Int)) (j : Nat) : List Int := ws.getD j []
theorem rw_eq (ws : List (List Int)) (j : Nat) (h : j < ws.length) : rw_ ws j = ws[j] := by simp [rw_, List.getD_eq_getElem?_getD, List.getElem?_eq_getElem h]
/-- The rows lie at a slice's address, wherever each of them lies. -/
structure RowsAt (w : World) (a : Option Addr) (ws : List (List Int)) : Prop where
  is : ws = [] ∨ ∃ b off, a = some ⟨b, off, none⟩ ∧ b < w.heap.size ∧ ∀ j, j < ws.length → ∃ aj cj, w.cell? ⟨b, off + j, none⟩ = some (.slice aj (rw_ ws j).length cj) ∧ (rw_ ws j).length ≤ maxLen ∧ M4.IntsAt w aj (rw_ ws j)
theorem RowsAt.below {w w' : World} {a : Option Addr} {ws : List (List Int)} (h : RowsAt w a ws) (hb : Below w.heap.size w w') : RowsAt w' a ws := by
  rcases h.is with rfl | ⟨b, off, rfl, hlt, hc⟩
  · exact ⟨.inl rfl⟩
  · refine ⟨.inr ⟨b, off, rfl, Nat.lt_of_lt_of_le hlt hb.size, fun j hj => ?_⟩⟩
    obtain ⟨aj, cj, c0, c1, c2⟩ := hc j hj
    exact ⟨aj, cj, (hb.cell (p := ⟨b, _, none⟩) hlt).trans c0, c1, c2.below hb⟩
theorem RowsAt.at {w : World} {a : Option Addr} {ws : List (List Int)} (h : RowsAt w a ws) {j : Nat} (hj : j < ws.length) : ∃ b off aj cj, a = some ⟨b, off, none⟩ ∧ b < w.heap.size ∧ w.cell? ⟨b, off + j, none⟩ = some (.slice aj (rw_ ws j).length cj) ∧ (rw_ ws j).length ≤ maxLen ∧ M4.IntsAt w aj (rw_ ws j) := by
  rcases h.is with rfl | ⟨b, off, rfl, hlt, hc⟩
  · simp at hj
  · obtain ⟨aj, cj, c0, c1, c2⟩ := hc j hj
    exact ⟨b, off, aj, cj, rfl, hlt, c0, c1, c2⟩
/-- A row of numbers in a block of the call's own, perhaps not all of the block. -/
structure In (w : World) (B : Nat) (a : Option Addr) (l : List Int) : Prop where
  is : l = [] ∨ ∃ g m vs, a = some ⟨g, 0, none⟩ ∧ w.ownsRow B 3 1 (.slice (some ⟨g, 0, none⟩) m m) m vs ∧ l.length ≤ m ∧ vs.take l.length = M4.iv l
theorem In.nil (w : World) (B : Nat) (a : Option Addr) : In w B a [] := ⟨.inl rfl⟩
theorem In.below {w w' : World} {B : Nat} {a : Option Addr} {l : List Int} (h : In w B a l) (hb : Below w.heap.size w w') : In w' B a l := by
  rcases h.is with rfl | ⟨g, m, vs, ha, ho, h1, h2⟩
  · exact ⟨.inl rfl⟩
  · exact ⟨.inr ⟨g, m, vs, ha, M5.own_below ho hb, h1, h2⟩⟩
theorem own_only {w w' : World} {base e sz n k : Nat} {v : Value} {xs : List Value} (h : w.ownsRow base e sz v n xs) (ho : MC.Only k w w') (hn : v.ownBlock ≠ some k) : w'.ownsRow base e sz v n xs := by
  refine ⟨h.1, ?_⟩
  rcases h.2 with h' | ⟨g, cap', cur, rfl, hb, hg, rest⟩
  · exact .inl h'
  · refine .inr ⟨g, cap', cur, rfl, hb, (ho.block g (Array.getElem?_eq_some_iff.1 hg).1 (fun e => hn (by rw [← e]; rfl))).trans hg, rest⟩
theorem In.only {w w' : World} {B p : Nat} {a : Option Addr} {l : List Int} (h : In w B a l) (ho : MC.Only p w w') (hp : a ≠ some ⟨p, 0, none⟩) : In w' B a l := by
  rcases h.is with rfl | ⟨g, m, vs, ha, hw, h1, h2⟩
  · exact ⟨.inl rfl⟩
  · exact ⟨.inr ⟨g, m, vs, ha, own_only hw ho (fun e => hp (by rw [ha]; simp only [Value.ownBlock, Option.some.injEq] at e; rw [e])), h1, h2⟩⟩
theorem In.lt {w : World} {B g : Nat} {l : List Int} (h : In w B (some ⟨g, 0, none⟩) l) (hl : l ≠ []) : B ≤ g ∧ g < w.heap.size := by
  rcases h.is with rfl | ⟨g', m, vs, ha, hw, h1, h2⟩
  · exact absurd rfl hl
  · simp only [Option.some.injEq, Addr.mk.injEq, and_true] at ha
    obtain ⟨rfl⟩ := ha
    exact hw.lt g rfl
theorem In.some {w : World} {B : Nat} {a : Option Addr} {l : List Int} (h : In w B a l) (hl : l ≠ []) : ∃ g, a = some ⟨g, 0, none⟩ := by
  rcases h.is with rfl | ⟨g', m, vs, ha, hw, h1, h2⟩
  · exact absurd rfl hl
  · exact ⟨g', ha⟩
theorem In.ints {w : World} {B : Nat} {a : Option Addr} {l : List Int} (h : In w B a l) : M4.IntsAt w a l := by
  rcases h.is with rfl | ⟨g, m, vs, ha, hw, h1, h2⟩
  · exact .inl rfl
  · refine .inr ⟨g, 0, ha, (hw.lt g rfl).2, fun j hj => ?_⟩
    rw [Nat.zero_add, hw.cellAt j (by omega)]
    have : (vs.take l.length)[j]? = vs[j]? := by rw [List.getElem?_take, if_pos hj]
    rw [← this, h2]
    exact M4.iv_get _ _ _ (by rw [List.getD_eq_getElem?_getD, List.getElem?_eq_getElem hj]; rfl)
theorem In.len {w : World} {B : Nat} {a : Option Addr} {l : List Int} (h : In w B a l) : l.length ≤ maxLen := by
  rcases h.is with rfl | ⟨g, m, vs, ha, hw, h1, h2⟩
  · simp
  · rcases hw.2 with ⟨h', _⟩ | ⟨_, cap, _, hv, _, _, h3, h4, _⟩
    · cases h'
    · cases hv; omega
theorem In.mono {w : World} {B B' : Nat} {a : Option Addr} {l : List Int} (h : In w B a l) (hb : B' ≤ B) : In w B' a l := by
  rcases h.is with rfl | ⟨g, m, vs, ha, hw, h1, h2⟩
  · exact ⟨.inl rfl⟩
  · refine ⟨.inr ⟨g, m, vs, ha, ⟨hw.1, ?_⟩, h1, h2⟩⟩
    rcases hw.2 with ⟨h', _⟩ | ⟨g', cap, cur, hv, hB, rest⟩
    · cases h'
    · exact .inr ⟨g', cap, cur, hv, by omega, rest⟩
/-- A row that the call owns is one. -/
theorem In.of_own {w : World} {B n cap : Nat} {a : Option Addr} {l : List Int} (h : w.ownsRow B 3 1 (.slice a n cap) n (M4.iv l)) : In w B a l := by
  have hl : l.length = n := by have := h.1; simpa [M4.iv] using this
  rcases h.2 with ⟨h', h0⟩ | ⟨g, cap', cur, hv, hB, hg, h1, h2, h3, h4⟩
  · exact ⟨.inl (List.eq_nil_of_length_eq_zero (by omega))⟩
  · simp only [Value.slice.injEq] at hv
    obtain ⟨rfl, _, rfl⟩ := hv
    refine ⟨.inr ⟨g, cap, cur.toList, rfl, ⟨by simp [h3], .inr ⟨g, cap, cur, rfl, hB, hg, Nat.le_refl _, h2, h3, ?_⟩⟩, by omega, ?_⟩⟩
    · rw [List.take_of_length_le]; simp [h3]
    · rw [hl]; simpa using h4
/-- The heads of the rows. -/
def hd (ws : List (List Int)) (A : Nat → Option Addr) (C : Nat → Nat) : List Value := (List.range ws.length).map fun j => .slice (A j) (rw_ ws j).length (C j)
theorem hd_len (ws : List (List Int)) (A : Nat → Option Addr) (C : Nat → Nat) : (hd ws A C).length = ws.length := by simp [hd]
theorem hd_get (ws : List (List Int)) (A : Nat → Option Addr) (C : Nat → Nat) {j : Nat} (h : j < ws.length) : (hd ws A C)[j]? = some (.slice (A j) (rw_ ws j).length (C j)) := by simp [hd, h]
/-- Rows of rows that the call owns: each in a block of its own. -/
structure Own (T : TypeId) (w : World) (B : Nat) (v : Value) (ws : List (List Int)) (A : Nat → Option Addr) (C : Nat → Nat) : Prop where
  out : w.ownsRow B T 1 v ws.length (hd ws A C)
  row : ∀ j, j < ws.length → In w B (A j) (rw_ ws j)
  far : ∀ i j, i < j → j < ws.length → rw_ ws i ≠ [] → rw_ ws j ≠ [] → A i ≠ A j
theorem Own.view {T : TypeId} {w : World} {B : Nat} {v : Value} {ws : List (List Int)} {A : Nat → Option Addr} {C : Nat → Nat} (h : Own T w B v ws A C) : ∃ a c, v = .slice a ws.length c ∧ RowsAt w a ws := by
  rcases h.out.2 with ⟨rfl, h0⟩ | ⟨g, cap, cur, rfl, hB, hg, h1, h2, h3, h4⟩
  · exact ⟨none, 0, by rw [h0], ⟨.inl (List.eq_nil_of_length_eq_zero h0)⟩⟩
  · refine ⟨some ⟨g, 0, none⟩, cap, rfl, ⟨.inr ⟨g, 0, rfl, (h.out.lt g rfl).2, fun j hj => ?_⟩⟩⟩
    have c0 := h.out.cellAt j (by omega)
    rw [hd_get ws A C hj] at c0
    exact ⟨A j, C j, by rw [Nat.zero_add]; exact c0, (h.row j hj).len, (h.row j hj).ints⟩
theorem Own.rows {T : TypeId} {w : World} {B n c : Nat} {a : Option Addr} {ws : List (List Int)} {A : Nat → Option Addr} {C : Nat → Nat} (h : Own T w B (.slice a n c) ws A C) : RowsAt w a ws := by
  obtain ⟨a', c', e, hr⟩ := h.view
  simp only [Value.slice.injEq] at e
  obtain ⟨rfl, _, _⟩ := e
  exact hr
theorem Own.below {T : TypeId} {w w' : World} {B : Nat} {v : Value} {ws : List (List Int)} {A : Nat → Option Addr} {C : Nat → Nat} (h : Own T w B v ws A C) (hb : Below w.heap.size w w') : Own T w' B v ws A C :=
  ⟨M5.own_below h.out hb, fun j hj => (h.row j hj).below hb, h.far⟩
theorem Own.only {T : TypeId} {w w' : World} {B p : Nat} {v : Value} {ws : List (List Int)} {A : Nat → Option Addr} {C : Nat → Nat} (h : Own T w B v ws A C) (ho : MC.Only p w w') (hp : p < B) : Own T w' B v ws A C := by
  refine ⟨own_only h.out ho (fun e => by have := (h.out.lt _ e).1; omega), fun j hj => ?_, h.far⟩
  by_cases e : rw_ ws j = []
  · rw [e]; exact .nil _ _ _
  · refine (h.row j hj).only ho (fun ea => ?_)
    have r := h.row j hj
    rw [ea] at r
    have := (r.lt e).1; omega
theorem Own.nil (T : TypeId) (w : World) (B : Nat) (A : Nat → Option Addr) (C : Nat → Nat) : Own T w B (.slice none 0 0) [] A C :=
  ⟨World.ownsRow_nil _ _ _ _, fun j hj => by simp at hj, fun i j _ hj => by simp at hj⟩
/-- All lengths together. -/
def tot (ws : List (List Int)) : Nat := (ws.map List.length).sum
theorem tot_app (a b : List (List Int)) : tot (a ++ b) = tot a + tot b := by simp [tot]
theorem tot_one (l : List Int) : tot [l] = l.length := by simp [tot]
theorem tot_take (ws : List (List Int)) {i : Nat} (h : i < ws.length) : tot (ws.take (i + 1)) = tot (ws.take i) + (rw_ ws i).length := by
  rw [List.take_succ_eq_append_getElem h, tot_app, tot_one, rw_eq ws i h]
theorem tot_le (ws : List (List Int)) (i : Nat) : tot (ws.take i) ≤ tot ws := by
  have := tot_app (ws.take i) (ws.drop i)
  rw [List.take_append_drop] at this; omega
theorem tot_row (ws : List (List Int)) {i : Nat} (h : i < ws.length) : (rw_ ws i).length ≤ tot ws := by
  have := tot_take ws h; have := tot_le ws (i + 1); omega
/-- The marks, row by row. -/
def mkR (k : Int) (ws : List (List Int)) (j : Nat) : List Int := M5.marks (k + tot (ws.take j)) (rw_ ws j).length
def mkUp (k : Int) (ws : List (List Int)) (i : Nat) : List (List Int) := (List.range ws.length).map fun j => if j < i then mkR k ws j else rw_ ws j
theorem mk_len (k : Int) (ws : List (List Int)) (i : Nat) : (mkUp k ws i).length = ws.length := by simp [mkUp]
theorem mk_at (k : Int) (ws : List (List Int)) (i : Nat) {j : Nat} (h : j < ws.length) : rw_ (mkUp k ws i) j = if j < i then mkR k ws j else rw_ ws j := by
  rw [rw_eq _ _ (by rw [mk_len]; exact h)]; simp [mkUp]
theorem mk_row (k : Int) (ws : List (List Int)) (i : Nat) {j : Nat} (h : j < ws.length) : (rw_ (mkUp k ws i) j).length = (rw_ ws j).length := by
  rw [mk_at k ws i h]; split
  · rw [mkR, M5.marks_len]
  · rfl
theorem mk_zero (k : Int) (ws : List (List Int)) : mkUp k ws 0 = ws := by
  apply List.ext_getElem (by simp [mkUp])
  intro j h1 h2
  simp [mkUp, rw_eq ws j h2]
theorem mk_hd (k : Int) (ws : List (List Int)) (i : Nat) (A : Nat → Option Addr) (C : Nat → Nat) : hd (mkUp k ws i) A C = hd ws A C := by
  unfold hd
  rw [mk_len]
  apply List.map_congr_left
  intro j hj
  rw [mk_row k ws i (List.mem_range.1 hj)]
theorem Own.mark {T : TypeId} (hT : T ≠ 3) {w w' : World} {B i : Nat} {k : Int} {v : Value} {ws : List (List Int)} {A : Nat → Option Addr} {C : Nat → Nat} (h : Own T w B v (mkUp k ws i) A C) (hi : i < ws.length) (hr : In w' B (A i) (mkR k ws i)) (h0 : rw_ ws i = [] → w = w') (ho : ∀ g, A i = some ⟨g, 0, none⟩ → MC.Only g w w') : Own T w' B v (mkUp k ws (i + 1)) A C := by
  have hl := mk_len k ws i
  have hl' := mk_len k ws (i + 1)
  have far' : ∀ a b, a < b → b < (mkUp k ws (i + 1)).length → rw_ (mkUp k ws (i + 1)) a ≠ [] → rw_ (mkUp k ws (i + 1)) b ≠ [] → A a ≠ A b := by
    intro a b hab hb ha0 hb0
    rw [hl'] at hb
    have la := mk_row k ws (i + 1) (j := a) (by omega)
    have lb := mk_row k ws (i + 1) (j := b) hb
    have la' := mk_row k ws i (j := a) (by omega)
    have lb' := mk_row k ws i (j := b) hb
    refine h.far a b hab (by rw [hl]; exact hb) (fun e => ha0 ?_) (fun e => hb0 ?_)
    · rw [e] at la'; exact List.eq_nil_of_length_eq_zero (by rw [la, ← la']; rfl)
    · rw [e] at lb'; exact List.eq_nil_of_length_eq_zero (by rw [lb, ← lb']; rfl)
  by_cases e0 : rw_ ws i = []
  · obtain rfl := h0 e0
    refine ⟨?_, fun j hj => ?_, far'⟩
    · have := h.out; rw [mk_hd, hl] at this; rw [mk_hd, hl']; exact this
    · rw [hl'] at hj
      by_cases e : j = i
      · subst e; rw [mk_at k ws _ hj, if_pos (by omega)]; exact hr
      · have := h.row j (by rw [hl]; exact hj)
        rw [mk_at k ws i hj] at this
        rw [mk_at k ws _ hj]
        by_cases c : j < i
        · rw [if_pos c] at this; rw [if_pos (by omega)]; exact this
        · rw [if_neg c] at this; rw [if_neg (by omega)]; exact this
  · have hri := h.row i (by rw [hl]; exact hi)
    have hne : rw_ (mkUp k ws i) i ≠ [] := fun e => e0 (by
      have := mk_row k ws i hi; rw [e] at this; exact List.eq_nil_of_length_eq_zero this.symm)
    obtain ⟨g, hg⟩ := hri.some hne
    have hO := ho g hg
    refine ⟨?_, fun j hj => ?_, far'⟩
    · have o := h.out
      rw [mk_hd, hl] at o
      rw [mk_hd, hl']
      refine own_only o hO (fun e => hT ?_)
      rcases o.2 with ⟨rfl, _⟩ | ⟨g', cap, cur, rfl, hB, hg', _⟩
      · cases e
      · simp only [Value.ownBlock, Option.some.injEq] at e
        subst e
        rcases hri.is with e1 | ⟨g2, m, vs, ha, hw, _⟩
        · exact absurd e1 hne
        · rw [hg] at ha
          simp only [Option.some.injEq, Addr.mk.injEq, and_true] at ha
          subst ha
          rcases hw.2 with ⟨h', _⟩ | ⟨g3, cap3, cur3, hv3, _, hg3, _⟩
          · cases h'
          · simp only [Value.slice.injEq, Option.some.injEq, Addr.mk.injEq, and_true] at hv3
            obtain ⟨rfl, _⟩ := hv3
            rw [hg'] at hg3
            simp only [Option.some.injEq, Obj.cells.injEq] at hg3
            exact hg3.2.1
    · rw [hl'] at hj
      by_cases e : j = i
      · subst e; rw [mk_at k ws _ hj, if_pos (by omega)]; exact hr
      · have q := h.row j (by rw [hl]; exact hj)
        have key : In w' B (A j) (rw_ (mkUp k ws i) j) := by
          by_cases ej : rw_ (mkUp k ws i) j = []
          · rw [ej]; exact .nil _ _ _
          · refine q.only hO (fun ea => ?_)
            have hAA : A i = A j := hg.trans ea.symm
            by_cases c : i < j
            · exact h.far i j c (by rw [hl]; exact hj) hne ej hAA
            · exact h.far j i (by omega) (by rw [hl]; exact hi) ej hne hAA.symm
        rw [mk_at k ws i hj] at key
        rw [mk_at k ws _ hj]
        by_cases c : j < i
        · rw [if_pos c] at key; rw [if_pos (by omega)]; exact key
        · rw [if_neg c] at key; rw [if_neg (by omega)]; exact key
/-- One row more behind the last. -/
theorem rw_snoc_lt (ws : List (List Int)) (l : List Int) {j : Nat} (h : j < ws.length) : rw_ (ws ++ [l]) j = rw_ ws j := by simp [rw_, List.getD_eq_getElem?_getD, List.getElem?_append_left h]
theorem rw_snoc_eq (ws : List (List Int)) (l : List Int) : rw_ (ws ++ [l]) ws.length = l := by simp [rw_, List.getD_eq_getElem?_getD]
def setF {α : Type} (F : Nat → α) (i : Nat) (x : α) : Nat → α := fun j => if j = i then x else F j
theorem hd_snoc (ws : List (List Int)) (l : List Int) (A : Nat → Option Addr) (C : Nat → Nat) (a : Option Addr) (c : Nat) : hd (ws ++ [l]) (setF A ws.length a) (setF C ws.length c) = hd ws A C ++ [.slice a l.length c] := by
  unfold hd
  rw [List.length_append, List.length_singleton, List.range_succ, List.map_append]
  congr 1
  · apply List.map_congr_left
    intro j hj
    have hj := List.mem_range.1 hj
    rw [rw_snoc_lt ws l hj, setF, setF, if_neg (by omega), if_neg (by omega)]
  · simp [setF, rw_snoc_eq]
theorem Own.snoc {T : TypeId} {w w' : World} {B : Nat} {v v' : Value} {ws : List (List Int)} {l : List Int} {A : Nat → Option Addr} {C : Nat → Nat} {a : Option Addr} {c : Nat} (h : Own T w B v ws A C) (hold : ∀ j, j < ws.length → In w' B (A j) (rw_ ws j)) (hnew : In w' B a l) (hfar : l ≠ [] → ∀ j, j < ws.length → rw_ ws j ≠ [] → A j ≠ a) (ho : w'.ownsRow B T 1 v' (ws.length + 1) (hd ws A C ++ [.slice a l.length c])) : Own T w' B v' (ws ++ [l]) (setF A ws.length a) (setF C ws.length c) := by
  refine ⟨by rw [hd_snoc, List.length_append]; exact ho, fun j hj => ?_, fun i j hij hj hi0 hj0 => ?_⟩
  · rw [List.length_append, List.length_singleton] at hj
    by_cases e : j = ws.length
    · subst e; rw [rw_snoc_eq, setF, if_pos rfl]; exact hnew
    · rw [rw_snoc_lt ws l (by omega), setF, if_neg e]; exact hold j (by omega)
  · rw [List.length_append, List.length_singleton] at hj
    have hi : i < ws.length := by omega
    rw [rw_snoc_lt ws l hi] at hi0
    rw [show setF A ws.length a i = A i from by rw [setF, if_neg (by omega)]]
    by_cases e : j = ws.length
    · subst e
      rw [rw_snoc_eq] at hj0
      rw [setF, if_pos rfl]; exact hfar hj0 i hi hi0
    · rw [rw_snoc_lt ws l (by omega)] at hj0
      rw [setF, if_neg e]; exact h.far i j hij (by omega) hi0 hj0
end NR
end Go.Proofs.Ytjplabldiheggaa

/- Rows of reaches in memory (a number, a time, a row of numbers each): plain facts. -/
namespace Go.Proofs.Ytjplabldiheggaa
open Go.RowKit
/-- A reach, and where its row of numbers lies. -/
structure Rq where
  m : Int
  t : Int
  os : List Int
  a : Option Addr
  c : Nat
abbrev Rq.v (p : Rq) : Value := .agg #[.int .i64 p.m, .int .i64 p.t, .slice p.a p.os.length p.c]
abbrev Rq.cs (p : Rq) : List Value := [.int .i64 p.m, .int .i64 p.t, .slice p.a p.os.length p.c]
def Rq.said (p : Rq) : Int × Int × List Int := (p.m, p.t, p.os)
namespace RQ
def flat : List Rq → List Value
  | [] => []
  | p :: ps => p.cs ++ flat ps
def at_ (ps : List Rq) (j : Nat) : Rq := ps.getD j ⟨0, 0, [], none, 0⟩
theorem at_eq {ps : List Rq} {j : Nat} (h : j < ps.length) : at_ ps j = ps[j] := by simp [at_, List.getD_eq_getElem?_getD, List.getElem?_eq_getElem h]
theorem at_mem {ps : List Rq} {j : Nat} (h : j < ps.length) : at_ ps j ∈ ps := by rw [at_eq h]; exact List.getElem_mem h
theorem flat_len : ∀ ps : List Rq, (flat ps).length = ps.length * 3
  | [] => rfl
  | p :: ps => by simp only [flat, List.length_append, flat_len ps, List.length_cons, List.length_nil]; omega
theorem flat_app : ∀ ps qs : List Rq, flat (ps ++ qs) = flat ps ++ flat qs
  | [], qs => rfl
  | p :: ps, qs => by simp only [List.cons_append, flat, flat_app ps qs, List.append_assoc]
theorem flat_get : ∀ (ps : List Rq) (j : Nat), j < ps.length → (flat ps)[j * 3]? = some (.int .i64 (at_ ps j).m) ∧ (flat ps)[j * 3 + 1]? = some (.int .i64 (at_ ps j).t) ∧ (flat ps)[j * 3 + 2]? = some (.slice (at_ ps j).a (at_ ps j).os.length (at_ ps j).c)
  | [], j, h => by simp at h
  | p :: ps, 0, _ => ⟨rfl, rfl, rfl⟩
  | p :: ps, j + 1, h => by
    have ih := flat_get ps j (by simpa using h)
    have e : at_ (p :: ps) (j + 1) = at_ ps j := rfl
    rw [e, show (j + 1) * 3 = j * 3 + 3 by omega]
    exact ih
theorem flat_set3 : ∀ (ps : List Rq) (j : Nat) (q : Rq), j < ps.length → flat (ps.set j q) = ((((flat ps).set (j * 3) (.int .i64 q.m)).set (j * 3 + 1) (.int .i64 q.t)).set (j * 3 + 2) (.slice q.a q.os.length q.c))
  | [], j, _, h => by simp at h
  | p :: ps, 0, q, _ => rfl
  | p :: ps, j + 1, q, h => by
    have ih := flat_set3 ps j q (by simpa using h)
    rw [List.set_cons_succ, show (j + 1) * 3 = j * 3 + 3 by omega]
    show q.cs.take 0 ++ (p.cs ++ flat (ps.set j q)) = _
    rw [ih]; rfl
/-- What lies at a slice's address. -/
structure At (w : World) (a : Option Addr) (ps : List Rq) : Prop where
  is : ps = [] ∨ ∃ b off, a = some ⟨b, off, none⟩ ∧ b < w.heap.size ∧ ∀ j, j < ps.length → w.cell? ⟨b, off + j * 3, none⟩ = some (.int .i64 (at_ ps j).m) ∧ w.cell? ⟨b, off + j * 3 + 1, none⟩ = some (.int .i64 (at_ ps j).t) ∧ w.cell? ⟨b, off + j * 3 + 2, none⟩ = some (.slice (at_ ps j).a (at_ ps j).os.length (at_ ps j).c) ∧ (at_ ps j).os.length ≤ maxLen ∧ M4.IntsAt w (at_ ps j).a (at_ ps j).os
theorem At.below {w w' : World} {a : Option Addr} {ps : List Rq} (h : At w a ps) (hb : Below w.heap.size w w') : At w' a ps := by
  rcases h.is with rfl | ⟨b, off, rfl, hlt, hc⟩
  · exact ⟨.inl rfl⟩
  · refine ⟨.inr ⟨b, off, rfl, Nat.lt_of_lt_of_le hlt hb.size, fun j hj => ?_⟩⟩
    obtain ⟨c0, c1, c2, c3, c4⟩ := hc j hj
    exact ⟨(hb.cell (p := ⟨b, _, none⟩) hlt).trans c0, (hb.cell (p := ⟨b, _, none⟩) hlt).trans c1, (hb.cell (p := ⟨b, _, none⟩) hlt).trans c2, c3, c4.below hb⟩
theorem At.at {w : World} {a : Option Addr} {ps : List Rq} (h : At w a ps) {j : Nat} (hj : j < ps.length) : ∃ b off, a = some ⟨b, off, none⟩ ∧ b < w.heap.size ∧ w.cell? ⟨b, off + j * 3, none⟩ = some (.int .i64 (at_ ps j).m) ∧ w.cell? ⟨b, off + j * 3 + 1, none⟩ = some (.int .i64 (at_ ps j).t) ∧ w.cell? ⟨b, off + j * 3 + 2, none⟩ = some (.slice (at_ ps j).a (at_ ps j).os.length (at_ ps j).c) ∧ (at_ ps j).os.length ≤ maxLen ∧ M4.IntsAt w (at_ ps j).a (at_ ps j).os := by
  rcases h.is with rfl | ⟨b, off, rfl, hlt, hc⟩
  · simp at hj
  · exact ⟨b, off, rfl, hlt, hc j hj⟩
/-- Their rows: each in a block of its own, of the call's. -/
structure Rows (w : World) (B : Nat) (ps : List Rq) : Prop where
  row : ∀ p, p ∈ ps → NR.In w B p.a p.os
  far : ps.Pairwise fun p q => p.os ≠ [] → q.os ≠ [] → p.a ≠ q.a
theorem Rows.nil (w : World) (B : Nat) : Rows w B [] := ⟨fun p h => by simp at h, List.Pairwise.nil⟩
theorem Rows.below {w w' : World} {B : Nat} {ps : List Rq} (h : Rows w B ps) (hb : Below w.heap.size w w') : Rows w' B ps := ⟨fun p hp => (h.row p hp).below hb, h.far⟩
theorem Rows.mono {w : World} {B B' : Nat} {ps : List Rq} (h : Rows w B ps) (hb : B' ≤ B) : Rows w B' ps := ⟨fun p hp => (h.row p hp).mono hb, h.far⟩
theorem Rows.filter {w : World} {B : Nat} {ps : List Rq} (h : Rows w B ps) (f : Rq → Bool) : Rows w B (ps.filter f) := ⟨fun p hp => h.row p (List.mem_filter.1 hp).1, List.Pairwise.filter f h.far⟩
theorem Rows.snoc {w : World} {B : Nat} {ps : List Rq} {q : Rq} (h : Rows w B ps) (hq : NR.In w B q.a q.os) (hf : ∀ p, p ∈ ps → p.os ≠ [] → q.os ≠ [] → p.a ≠ q.a) : Rows w B (ps ++ [q]) := by
  refine ⟨fun p hp => ?_, ?_⟩
  · rcases List.mem_append.1 hp with h1 | h1
    · exact h.row p h1
    · rw [List.mem_singleton.1 h1]; exact hq
  · rw [List.pairwise_append]
    refine ⟨h.far, List.pairwise_singleton _ _, fun p hp r hr => ?_⟩
    rw [List.mem_singleton.1 hr]; exact hf p hp
/-- A block of another type than the rows' is none of theirs. -/
theorem in_ne {T : TypeId} (hT : T ≠ 3) {w : World} {B B' g n cap sz : Nat} {a : Option Addr} {l : List Int} {vs : List Value} (h : NR.In w B a l) (hl : l ≠ []) (ho : w.ownsRow B' T sz (.slice (some ⟨g, 0, none⟩) n cap) n vs) : a ≠ some ⟨g, 0, none⟩ := by
  intro ea
  rcases h.is with e | ⟨g', m, us, ha, hw, _⟩
  · exact hl e
  · rw [ea] at ha
    simp only [Option.some.injEq, Addr.mk.injEq, and_true] at ha
    subst ha
    rcases hw.2 with ⟨h', _⟩ | ⟨g3, cap3, cur3, hv3, _, hg3, _⟩
    · cases h'
    · simp only [Value.slice.injEq, Option.some.injEq, Addr.mk.injEq, and_true] at hv3
      obtain ⟨rfl, _⟩ := hv3
      rcases ho.2 with ⟨h', _⟩ | ⟨g4, cap4, cur4, hv4, _, hg4, _⟩
      · cases h'
      · simp only [Value.slice.injEq, Option.some.injEq, Addr.mk.injEq, and_true] at hv4
        obtain ⟨rfl, _⟩ := hv4
        rw [hg4] at hg3
        simp only [Option.some.injEq, Obj.cells.injEq] at hg3
        exact hT hg3.2.1
/-- What turns one block of another type leaves the rows alone. -/
theorem Rows.only {T : TypeId} (hT : T ≠ 3) {w w' : World} {B B' g n cap sz : Nat} {ps : List Rq} {vs : List Value} (h : Rows w B ps) (ho : w.ownsRow B' T sz (.slice (some ⟨g, 0, none⟩) n cap) n vs) (hO : MC.Only g w w') : Rows w' B ps := by
  refine ⟨fun p hp => ?_, h.far⟩
  by_cases e : p.os = []
  · rw [e]; exact .nil _ _ _
  · exact (h.row p hp).only hO (in_ne hT (h.row p hp) e ho)
/-- Of the call's own: the row and its rows. -/
structure Own (T : TypeId) (w : World) (B : Nat) (v : Value) (ps : List Rq) : Prop where
  out : w.ownsRow B T 3 v ps.length (flat ps)
  rows : Rows w B ps
theorem Own.below {T : TypeId} {w w' : World} {B : Nat} {v : Value} {ps : List Rq} (h : Own T w B v ps) (hb : Below w.heap.size w w') : Own T w' B v ps := ⟨M5.own_below h.out hb, h.rows.below hb⟩
theorem own_mono {w : World} {B B' e sz n : Nat} {v : Value} {xs : List Value} (h : w.ownsRow B e sz v n xs) (hb : B' ≤ B) : w.ownsRow B' e sz v n xs := by
  refine ⟨h.1, ?_⟩
  rcases h.2 with h' | ⟨g', cap, cur, hv, hB, rest⟩
  · exact .inl h'
  · exact .inr ⟨g', cap, cur, hv, by omega, rest⟩
theorem Own.mono {T : TypeId} {w : World} {B B' : Nat} {v : Value} {ps : List Rq} (h : Own T w B v ps) (hb : B' ≤ B) : Own T w B' v ps := ⟨own_mono h.out hb, h.rows.mono hb⟩
theorem Own.at {T : TypeId} {w : World} {B n c : Nat} {a : Option Addr} {ps : List Rq} (h : Own T w B (.slice a n c) ps) : At w a ps := by
  rcases h.out.2 with ⟨h1, h0⟩ | ⟨g, cap, cur, hv, hB, hg, h1, h2, h3, h4⟩
  · exact ⟨.inl (List.eq_nil_of_length_eq_zero h0)⟩
  · have hv' := hv
    simp only [Value.slice.injEq] at hv
    obtain ⟨rfl, rfl, rfl⟩ := hv
    refine ⟨.inr ⟨g, 0, rfl, (h.out.lt g rfl).2, fun j hj => ?_⟩⟩
    obtain ⟨f0, f1, f2⟩ := flat_get ps j hj
    have hr := h.rows.row _ (at_mem hj)
    simp only [Nat.zero_add]
    exact ⟨(h.out.cellAt (j * 3) (by omega)).trans f0, (h.out.cellAt (j * 3 + 1) (by omega)).trans f1, (h.out.cellAt (j * 3 + 2) (by omega)).trans f2, hr.len, hr.ints⟩
theorem Own.view {T : TypeId} {w : World} {B : Nat} {v : Value} {ps : List Rq} (h : Own T w B v ps) : ∃ a c, v = .slice a ps.length c ∧ At w a ps := by
  rcases h.out.2 with ⟨rfl, h0⟩ | ⟨g, cap, cur, rfl, hB, hg, h1, h2, h3, h4⟩
  · exact ⟨none, 0, by rw [h0], ⟨.inl (List.eq_nil_of_length_eq_zero h0)⟩⟩
  · exact ⟨some ⟨g, 0, none⟩, cap, rfl, h.at⟩
theorem Own.nil (T : TypeId) (w : World) (B : Nat) : Own T w B (.slice none 0 0) [] := ⟨World.ownsRow_nil _ _ _ _, Rows.nil _ _⟩
/-- Cells of a row of the call's own are written: what lies ahead of them stays. -/
theorem own_cells {T : TypeId} {g n cap B : Nat} : ∀ (vs : List Value) (o : Nat) (w : World) (cur : List Value), w.ownsRow B T 3 (.slice (some ⟨g, 0, none⟩) n cap) n cur → ∃ cur', (w.setCells g o vs).ownsRow B T 3 (.slice (some ⟨g, 0, none⟩) n cap) n cur' ∧ cur'.take o = cur.take o ∧ MC.Only g w (w.setCells g o vs)
  | [], o, w, cur, h => ⟨cur, h, rfl, MC.Only.refl _ _⟩
  | u :: vs, o, w, cur, h => by
    have st := h.stored o u
    obtain ⟨cur', h1, h2, h3⟩ := own_cells vs (o + 1) (w.setCell ⟨g, o, none⟩ u) _ st.1
    refine ⟨cur', h1, ?_, RA.only_cells g (u :: vs) o w⟩
    have h4 := congrArg (List.take o) h2
    rw [List.take_take, List.take_take, Nat.min_eq_left (by omega), List.take_set_of_le (Nat.le_refl _)] at h4
    exact h4
/-- The first of a row. -/
theorem own_first {T : TypeId} {w : World} {B g n cap k : Nat} {cur : List Value} {ks : List Rq} (h : w.ownsRow B T 3 (.slice (some ⟨g, 0, none⟩) n cap) n cur) (hk : ks.length = k) (hkn : k ≤ n) (hc : cur.take (k * 3) = flat ks) : w.ownsRow B T 3 (.slice (some ⟨g, 0, none⟩) k cap) k (flat ks) := by
  refine ⟨by rw [flat_len, hk], ?_⟩
  rcases h.2 with ⟨h', _⟩ | ⟨g', cap', cur0, hv, hB, hg, h1, h2, h3, h4⟩
  · cases h'
  · simp only [Value.slice.injEq, Option.some.injEq, Addr.mk.injEq, and_true] at hv
    obtain ⟨rfl, _, rfl⟩ := hv
    refine .inr ⟨g, cap, cur0, rfl, hB, hg, by omega, h2, h3, ?_⟩
    rw [← hc, ← h4, List.take_take, Nat.min_eq_left (by omega)]
end RQ
end Go.Proofs.Ytjplabldiheggaa
