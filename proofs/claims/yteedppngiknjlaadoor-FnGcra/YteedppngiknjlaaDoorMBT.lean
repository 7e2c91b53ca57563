/- Times that are asked of a bucket one by one: plain facts, over whatever program. -/
import Derived.Test.YteedppngiknjlaaDoorMBKb
namespace Go.Proofs.YteedppngiknjlaaDoor
namespace BK
/-- The bucket behind the first k times. -/
def st (b : Bk) (ts : List Int) : Nat → Bk
  | 0 => b
  | k + 1 => ask (st b ts k) (ts.getD k 0)
/-- What is told of the first k times. -/
def tl (b : Bk) (ts : List Int) (k : Nat) : List Bool := (List.range k).map fun j => letB (st b ts j) (ts.getD j 0)
theorem tl_len (b : Bk) (ts : List Int) (k : Nat) : (tl b ts k).length = k := by simp [tl]
theorem tl_zero (b : Bk) (ts : List Int) : tl b ts 0 = [] := rfl
theorem tl_succ (b : Bk) (ts : List Int) (k : Nat) : tl b ts (k + 1) = tl b ts k ++ [letB (st b ts k) (ts.getD k 0)] := by simp [tl, List.range_succ]
theorem tl_at {b : Bk} {ts : List Int} {n k : Nat} (h : k < n) : (tl b ts n).getD k false = letB (st b ts k) (ts.getD k 0) := by simp [tl, h]
/-- The first k times may be asked. -/
structure OkUp (b : Bk) (ts : List Int) (k : Nat) : Prop where
  is : ∀ j, j < k → levOk (st b ts j) (ts.getD j 0) = true
theorem OkUp.zero (b : Bk) (ts : List Int) : OkUp b ts 0 := ⟨fun j hj => by omega⟩
theorem OkUp.succ {b : Bk} {ts : List Int} {k : Nat} (h : OkUp b ts k) (hk : levOk (st b ts k) (ts.getD k 0) = true) : OkUp b ts (k + 1) := ⟨fun j hj => by
  by_cases e : j = k
  · subst e; exact hk
  · exact h.is j (by omega)⟩
def bothOk (p u : Int) (ts : List Int) : Bool := okS p u && decide (ts.length ≤ 60) && (List.range ts.length).all fun j => levOk (st (newB p u) ts j) (ts.getD j 0)
def both (p u : Int) (ts : List Int) : List Bool := if bothOk p u ts = true then tl (newB p u) ts ts.length else []
theorem both_iff {p u : Int} {ts : List Int} : bothOk p u ts = true ↔ okS p u = true ∧ ts.length ≤ 60 ∧ OkUp (newB p u) ts ts.length := by
  simp only [bothOk, Bool.and_eq_true, decide_eq_true_eq, List.all_eq_true, List.mem_range]
  exact ⟨fun ⟨⟨a, b⟩, c⟩ => ⟨a, b, ⟨c⟩⟩, fun ⟨a, b, c⟩ => ⟨⟨a, b⟩, c.is⟩⟩
theorem both_no {p u : Int} {ts : List Int} (h : bothOk p u ts = false) : both p u ts = [] := by simp [both, h]
theorem both_yes {p u : Int} {ts : List Int} (h : bothOk p u ts = true) : both p u ts = tl (newB p u) ts ts.length := by simp [both, h]
theorem no_s {p u : Int} {ts : List Int} (h : okS p u = false) : bothOk p u ts = false := by simp [bothOk, h]
theorem no_l {p u : Int} {ts : List Int} (h : 60 < ts.length) : bothOk p u ts = false := by
  rw [Bool.eq_false_iff]; intro e; have := (both_iff.1 e).2.1; omega
theorem no_k {p u : Int} {ts : List Int} {k : Nat} (hk : k < ts.length) (h : levOk (st (newB p u) ts k) (ts.getD k 0) = false) : bothOk p u ts = false := by
  rw [Bool.eq_false_iff]; intro e; have := (both_iff.1 e).2.2.is k hk; rw [h] at this; cases this
/-- What the program has filled in. -/
def fil (b : Bk) (ts : List Int) (n k : Nat) : List Bool := tl b ts k ++ List.replicate (n - k) false
theorem fil_zero (b : Bk) (ts : List Int) (n : Nat) : fil b ts n 0 = List.replicate n false := by simp [fil, tl]
theorem fil_all (b : Bk) (ts : List Int) (n : Nat) : fil b ts n n = tl b ts n := by simp [fil]
theorem fil_get {b : Bk} {ts : List Int} {n k : Nat} (h : k < n) : (fil b ts n k).getD k false = false := by
  simp only [fil, List.getD_eq_getElem?_getD]
  rw [List.getElem?_append_right (by rw [tl_len]; omega), tl_len]
  rw [Nat.sub_self, show n - k = (n - k - 1) + 1 by omega, List.replicate_succ]
  rfl
theorem fil_len {b : Bk} {ts : List Int} {n k : Nat} (h : k ≤ n) : (fil b ts n k).length = n := by simp [fil, tl_len]; omega
theorem fil_set {b : Bk} {ts : List Int} {n k : Nat} (h : k < n) : (fil b ts n k).set k (letB (st b ts k) (ts.getD k 0)) = fil b ts n (k + 1) := by
  unfold fil
  rw [List.set_append_right _ _ (by rw [tl_len]; omega), tl_len, Nat.sub_self, tl_succ, List.append_assoc]
  congr 1
  rw [show n - k = (n - (k + 1)) + 1 by omega, List.replicate_succ]
  rfl
/-- All four cells of a box are put anew. -/
theorem set_at {w : World} {k j : Nat} {cs : Array Value} {t : TypeId} {v : Value} (h : w.heap[k]? = some (.cells cs t)) : (w.setCell ⟨k, j, none⟩ v).heap[k]? = some (.cells (cs.setIfInBounds j v) t) := by
  have hk : k < w.heap.size := (Array.getElem?_eq_some_iff.1 h).1
  unfold World.setCell
  simp only [Array.getElem?_modify, if_true, h]
  rfl
theorem At4.put {w : World} {k : Nat} {a b c d : Value} {t : TypeId} (h : At4 w k a b c d t) (a' b' c' d' : Value) : At4 ((((w.setCell ⟨k, 0, none⟩ a').setCell ⟨k, 1, none⟩ b').setCell ⟨k, 2, none⟩ c').setCell ⟨k, 3, none⟩ d') k a' b' c' d' t := by
  have h0 := set_at (j := 0) (v := a') h.is
  have h1 := set_at (j := 1) (v := b') h0
  have h2 := set_at (j := 2) (v := c') h1
  have h3 := set_at (j := 3) (v := d') h2
  exact ⟨h3⟩
end BK
end Go.Proofs.YteedppngiknjlaaDoor
