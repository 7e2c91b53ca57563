/- Custodies that are new: a row of who is above, and keepers that have nothing. -/
import Derived.Test.YtonablbjikegmaaRows
import Derived.Test.YtonablbjikegmaaMTr
import Derived.Test.YtonablbjikegmaaMCur
namespace Go.Proofs.Ytonablbjikegmaa
open Go.RowKit
namespace CU
/-- At g lie n keepers that have nothing. -/
structure KZ (w : World) (g n : Nat) : Prop where
  lt : g < w.heap.size
  at_ : ∀ j, j < 3 * n → w.cell? ⟨g, j, none⟩ = some (.slice none 0 0)
theorem KZ.below {w w' : World} {g n : Nat} (h : KZ w g n) (hb : Below w.heap.size w w') : KZ w' g n :=
  ⟨Nat.lt_of_lt_of_le h.lt hb.size, fun j hj => (hb.cell (p := ⟨g, j, none⟩) h.lt).trans (h.at_ j hj)⟩
theorem KZ.only {w w' : World} {p g n : Nat} (h : KZ w g n) (ho : MC.Only p w w') (hp : g ≠ p) : KZ w' g n :=
  ⟨Nat.lt_of_lt_of_le h.lt ho.size, fun j hj => (ho.cell (x := ⟨g, j, none⟩) h.lt hp).trans (h.at_ j hj)⟩
theorem KZ.get {w : World} {g n : Nat} (h : KZ w g n) {i : Nat} (hi : i < n) : w.cell? ⟨g, i * 3, none⟩ = some (.slice none 0 0) ∧ w.cell? ⟨g, i * 3 + 1, none⟩ = some (.slice none 0 0) ∧ w.cell? ⟨g, i * 3 + 2, none⟩ = some (.slice none 0 0) :=
  ⟨h.at_ _ (by omega), h.at_ _ (by omega), h.at_ _ (by omega)⟩
theorem own_only {w w' : World} {p base e size n g c : Nat} {xs : List Value} (h : w.ownsRow base e size (.slice (some ⟨g, 0, none⟩) n c) n xs) (ho : MC.Only p w w') (hp : g ≠ p) : w'.ownsRow base e size (.slice (some ⟨g, 0, none⟩) n c) n xs := by
  refine ⟨h.1, ?_⟩
  rcases h.2 with ⟨hn, -⟩ | ⟨g', cap, cur, hv, hbg, hgg, rest⟩
  · cases hn
  · cases hv
    refine .inr ⟨g, c, cur, rfl, hbg, ?_, rest⟩
    rw [ho.block g (Array.getElem?_eq_some_iff.1 hgg).1 hp]
    exact hgg
theorem own_lt {w : World} {base e size n g c : Nat} {xs : List Value} (h : w.ownsRow base e size (.slice (some ⟨g, 0, none⟩) n c) n xs) : base ≤ g ∧ g < w.heap.size := by
  rcases h.2 with ⟨hn, -⟩ | ⟨g', cap, cur, hv, hbg, hgg, rest⟩
  · cases hn
  · cases hv
    exact ⟨hbg, (Array.getElem?_eq_some_iff.1 hgg).1⟩
/-- The value of a custody that is new. -/
def val (gu cu gk n : Nat) : Value := .agg #[.slice (some ⟨gu, 0, none⟩) n cu, .slice (some ⟨gk, 0, none⟩) n n, .slice none 0 0, .slice none 0 0]
/-- A new custody in memory. -/
structure Nw (w : World) (base gu cu gk : Nat) (L : List Int) : Prop where
  own : w.ownsRow base 3 1 (.slice (some ⟨gu, 0, none⟩) L.length cu) L.length (M4.iv L)
  kz : KZ w gk L.length
  le : base ≤ gk
  ne : gu ≠ gk
theorem Nw.below {w w' : World} {base gu cu gk : Nat} {L : List Int} (h : Nw w base gu cu gk L) (hb : Below w.heap.size w w') : Nw w' base gu cu gk L := ⟨M5.own_below h.own hb, h.kz.below hb, h.le, h.ne⟩
theorem Nw.alloc {w : World} {base gu cu gk : Nat} {L : List Int} (h : Nw w base gu cu gk L) (o : Obj) : Nw (w.alloc o) base gu cu gk L := h.below ((Below.refl _ w).alloc (Nat.le_refl _) o)
theorem Nw.only {w w' : World} {p base gu cu gk : Nat} {L : List Int} (h : Nw w base gu cu gk L) (ho : MC.Only p w w') (h1 : gu ≠ p) (h2 : gk ≠ p) : Nw w' base gu cu gk L := ⟨own_only h.own ho h1, h.kz.only ho h2, h.le, h.ne⟩
theorem Nw.ints {w : World} {base gu cu gk : Nat} {L : List Int} (h : Nw w base gu cu gk L) : M4.IntsAt w (some ⟨gu, 0, none⟩) L := M5.own_ints h.own
theorem Nw.lt {w : World} {base gu cu gk : Nat} {L : List Int} (h : Nw w base gu cu gk L) : base ≤ gu ∧ gu < w.heap.size ∧ base ≤ gk ∧ gk < w.heap.size := ⟨(own_lt h.own).1, (own_lt h.own).2, h.le, h.kz.lt⟩
theorem Nw.mono {w : World} {base base' gu cu gk : Nat} {L : List Int} (h : Nw w base gu cu gk L) (hb : base' ≤ base) : Nw w base' gu cu gk L := ⟨TR.own_mono h.own hb, h.kz, Nat.le_trans hb h.le, h.ne⟩
theorem made0 : (madeCells (Value.cells (.agg #[.slice none 0 0, .slice none 0 0, .slice none 0 0])) (0 * 3)).toList = List.replicate (0 * 3) (.slice none 0 0) := by kernel_rfl
theorem made1 : (madeCells (Value.cells (.agg #[.slice none 0 0, .slice none 0 0, .slice none 0 0])) (1 * 3)).toList = List.replicate (1 * 3) (.slice none 0 0) := by kernel_rfl
theorem made2 : (madeCells (Value.cells (.agg #[.slice none 0 0, .slice none 0 0, .slice none 0 0])) (2 * 3)).toList = List.replicate (2 * 3) (.slice none 0 0) := by kernel_rfl
theorem made3 : (madeCells (Value.cells (.agg #[.slice none 0 0, .slice none 0 0, .slice none 0 0])) (3 * 3)).toList = List.replicate (3 * 3) (.slice none 0 0) := by kernel_rfl
theorem made4 : (madeCells (Value.cells (.agg #[.slice none 0 0, .slice none 0 0, .slice none 0 0])) (4 * 3)).toList = List.replicate (4 * 3) (.slice none 0 0) := by kernel_rfl
theorem made5 : (madeCells (Value.cells (.agg #[.slice none 0 0, .slice none 0 0, .slice none 0 0])) (5 * 3)).toList = List.replicate (5 * 3) (.slice none 0 0) := by kernel_rfl
theorem made6 : (madeCells (Value.cells (.agg #[.slice none 0 0, .slice none 0 0, .slice none 0 0])) (6 * 3)).toList = List.replicate (6 * 3) (.slice none 0 0) := by kernel_rfl
theorem made7 : (madeCells (Value.cells (.agg #[.slice none 0 0, .slice none 0 0, .slice none 0 0])) (7 * 3)).toList = List.replicate (7 * 3) (.slice none 0 0) := by kernel_rfl
theorem made8 : (madeCells (Value.cells (.agg #[.slice none 0 0, .slice none 0 0, .slice none 0 0])) (8 * 3)).toList = List.replicate (8 * 3) (.slice none 0 0) := by kernel_rfl
theorem made_zs (n : Nat) (h : n ≤ 8) : (madeCells (Value.cells (.agg #[.slice none 0 0, .slice none 0 0, .slice none 0 0])) (n * 3)).toList = List.replicate (n * 3) (.slice none 0 0) := by
  have : n = 0 ∨ n = 1 ∨ n = 2 ∨ n = 3 ∨ n = 4 ∨ n = 5 ∨ n = 6 ∨ n = 7 ∨ n = 8 := by omega
  rcases this with rfl | rfl | rfl | rfl | rfl | rfl | rfl | rfl | rfl
  · exact made0
  · exact made1
  · exact made2
  · exact made3
  · exact made4
  · exact made5
  · exact made6
  · exact made7
  · exact made8
theorem KZ.of_own {w : World} {base e g n : Nat} (h : w.ownsRow base e 3 (.slice (some ⟨g, 0, none⟩) n n) n (List.replicate (n * 3) (.slice none 0 0))) : KZ w g n :=
  ⟨(own_lt h).2, fun j hj => by rw [h.cellAt j (by omega), List.getElem?_replicate, if_pos (by omega)]⟩
end CU
end Go.Proofs.Ytonablbjikegmaa
