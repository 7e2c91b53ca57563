/- Facts on rows of numbers in memory, over whatever program: a slice of numbers that is read, and a copy of one that is being filled. -/
import Derived.Test.YtdgflhgbcfehhaaM2
import Derived.Laws.OwnMore
namespace Go.Proofs.Ytdgflhgbcfehhaa
namespace M4
open Go.RowKit
/-- The numbers zs lie at a slice's address (nothing is said of an empty slice's). -/
def IntsAt (w : World) (a : Option Addr) (zs : List Int) : Prop := zs = [] ∨ ∃ b off, a = some ⟨b, off, none⟩ ∧ b < w.heap.size ∧ ∀ j, j < zs.length → w.cell? ⟨b, off + j, none⟩ = some (.int .i64 (zs.getD j 0))
theorem IntsAt.below {w w' : World} {a : Option Addr} {zs : List Int} (h : IntsAt w a zs) (hb : Below w.heap.size w w') : IntsAt w' a zs := by
  rcases h with rfl | ⟨b, off, rfl, hlt, hc⟩
  · exact .inl rfl
  · exact .inr ⟨b, off, rfl, Nat.lt_of_lt_of_le hlt hb.size, fun j hj => (hb.cell (p := ⟨b, off + j, none⟩) hlt).trans (hc j hj)⟩
theorem IntsAt.at {w : World} {a : Option Addr} {zs : List Int} (h : IntsAt w a zs) {k : Nat} (hk : k < zs.length) : ∃ b off, a = some ⟨b, off, none⟩ ∧ b < w.heap.size ∧ w.cell? ⟨b, off + k, none⟩ = some (.int .i64 (zs.getD k 0)) := by
  rcases h with rfl | ⟨b, off, rfl, hlt, hc⟩
  · simp at hk
  · exact ⟨b, off, rfl, hlt, hc k hk⟩
def iv (l : List Int) : List Value := l.map (Value.int .i64)
/-- A row of numbers that the call owns. -/
theorem IntsAt.of_own {w : World} {base e g n cap : Nat} {zs : List Int} (h : w.ownsRow base e 1 (.slice (some ⟨g, 0, none⟩) n cap) n (iv zs)) : IntsAt w (some ⟨g, 0, none⟩) zs := by
  have hlen : zs.length = n := by have := h.1; simpa [iv] using this
  refine .inr ⟨g, 0, rfl, (h.lt g rfl).2, fun j hj => ?_⟩
  rw [Nat.zero_add, h.cellAt j (by omega)]
  simp [iv, List.getElem?_eq_getElem hj]
/-- The first k of zs, then noughts. -/
def mix (zs : List Int) (k : Nat) : List Int := zs.take k ++ List.replicate (zs.length - k) 0
theorem mix_zero (zs : List Int) : mix zs 0 = List.replicate zs.length 0 := by simp [mix]
theorem mix_all (zs : List Int) : mix zs zs.length = zs := by simp [mix]
theorem mix_len (zs : List Int) (k : Nat) (h : k ≤ zs.length) : (mix zs k).length = zs.length := by simp [mix]; omega
theorem mix_get (zs : List Int) (k : Nat) (h : k < zs.length) : (mix zs k)[k]? = some 0 := by
  unfold mix
  have e : k = (zs.take k).length := by simp; omega
  rw [List.getElem?_append_right (by omega)]
  rw [← e, Nat.sub_self]
  have : zs.length - k = (zs.length - k - 1) + 1 := by omega
  rw [this, List.replicate_succ]; rfl
theorem mix_set (zs : List Int) (k : Nat) (h : k < zs.length) : (mix zs k).set k (zs.getD k 0) = mix zs (k + 1) := by
  apply List.ext_getElem?
  intro j
  unfold mix
  rw [List.getElem?_set]
  by_cases hj : k = j
  · subst hj
    have hl : k < (zs.take k ++ List.replicate (zs.length - k) 0).length := by simp; omega
    rw [if_pos rfl, if_pos hl, List.getElem?_append_left (by simp; omega), List.getElem?_take, if_pos (by omega), List.getElem?_eq_getElem h, List.getD_eq_getElem?_getD, List.getElem?_eq_getElem h]; rfl
  · rw [if_neg hj]
    by_cases hjk : j < k
    · rw [List.getElem?_append_left (by simp; omega), List.getElem?_append_left (by simp; omega), List.getElem?_take, List.getElem?_take, if_pos hjk, if_pos (by omega)]
    · rw [List.getElem?_append_right (by simp; omega), List.getElem?_append_right (by simp; omega)]
      simp only [List.getElem?_replicate, List.length_take]
      by_cases hl : j < zs.length
      · rw [if_pos (by omega), if_pos (by omega)]
      · rw [if_neg (by omega), if_neg (by omega)]
theorem iv_set (l : List Int) (k : Nat) (z : Int) : (iv l).set k (.int .i64 z) = iv (l.set k z) := by simp [iv, List.map_set]
theorem iv_get (l : List Int) (k : Nat) (z : Int) (h : l[k]? = some z) : (iv l)[k]? = some (.int .i64 z) := by simp [iv, h]
theorem made_iv (n : Nat) : (madeCells #[Value.int .i64 0] n).toList = iv (List.replicate n 0) := by
  rw [toList_madeCells_one]; simp [iv]
theorem take_snoc (xs : List Int) (k : Nat) (h : k < xs.length) : xs.take (k + 1) = xs.take k ++ [xs.getD k 0] := by
  rw [List.take_succ_eq_append_getElem h]; simp [List.getD_eq_getElem?_getD, List.getElem?_eq_getElem h]
theorem take_ne (xs ys : List Int) (k : Nat) (h : xs.getD k 0 ≠ ys.getD k 0) : xs ≠ ys := fun e => h (by rw [e])
theorem take_eq (xs ys : List Int) (h : xs.length = ys.length) (e : xs.take xs.length = ys.take xs.length) : xs = ys := by
  rw [List.take_length] at e; rw [e, h, List.take_length]
theorem ret_bool {a b : Bool} (h : a = b) : Ending.returned (.bool a) = .returned (.bool b) := by rw [h]
end M4
end Go.Proofs.Ytdgflhgbcfehhaa
