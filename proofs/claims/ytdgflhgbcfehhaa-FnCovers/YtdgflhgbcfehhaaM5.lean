/- Plain facts on reading a row of numbers in sevens (chapter 1), and on rows of numbers that a call owns, marks and holds against its marks. No program is named here. -/
import Derived.Test.YtdgflhgbcfehhaaM3
import Derived.Test.YtdgflhgbcfehhaaM4
namespace Go.Proofs.Ytdgflhgbcfehhaa
namespace M5
open Go.RowKit
theorem tkS_end (g : Nat → Nat) (len at_ : Nat) (k n : Nat) (h : (M3.tkS g len at_ k n).2.2 = true) : k < (M3.tkS g len at_ k n).2.1 ∧ (M3.tkS g len at_ k n).2.1 ≤ len := by
  induction hd : len - k using Nat.strongRecOn generalizing k n with
  | ind d ih =>
    rw [M3.tkS] at h ⊢
    by_cases h1 : k < len ∧ k < at_ + 5
    · rw [if_pos h1] at h ⊢
      by_cases h2 : k = at_ ∧ g k = 128
      · rw [if_pos h2] at h; simp [M3.no] at h
      · rw [if_neg h2] at h ⊢
        by_cases h3 : g k < 128
        · rw [if_pos h3] at h ⊢
          by_cases h4 : n * 128 + g k % 128 ≤ 1000000000
          · rw [if_pos h4]; exact ⟨by simp, by simp; omega⟩
          · rw [if_neg h4] at h; simp [M3.no] at h
        · rw [if_neg h3] at h ⊢
          have := ih (len - (k + 1)) (by omega) (k + 1) _ h rfl
          omega
    · rw [if_neg h1] at h; simp [M3.no] at h
theorem tkS_le (g : Nat → Nat) (len at_ : Nat) (k n : Nat) : (M3.tkS g len at_ k n).1 ≤ 1000000000 := by
  induction hd : len - k using Nat.strongRecOn generalizing k n with
  | ind d ih =>
    rw [M3.tkS]
    by_cases h1 : k < len ∧ k < at_ + 5
    · rw [if_pos h1]
      by_cases h2 : k = at_ ∧ g k = 128
      · rw [if_pos h2]; simp [M3.no]
      · rw [if_neg h2]
        by_cases h3 : g k < 128
        · rw [if_pos h3]
          by_cases h4 : n * 128 + g k % 128 ≤ 1000000000
          · rw [if_pos h4]; exact h4
          · rw [if_neg h4]; simp [M3.no]
        · rw [if_neg h3]
          exact ih (len - (k + 1)) (by omega) (k + 1) _ rfl
    · rw [if_neg h1]; simp [M3.no]
abbrev L := List Int × Bool
/-- What is read at a place. -/
def tk (s : ByteArray) (k : Nat) : M3.R := M3.tkS (M3.gb s) s.size k k 0
def fin (acc : List Int) : L := if acc.length ≤ 40 then (acc, true) else ([], false)
/-- The specification's loop. -/
def rdS (s : ByteArray) : Nat → Nat → List Int → L
  | 0, _, acc => fin acc
  | f + 1, k, acc => if k < s.size then (if (tk s k).2.2 = true then rdS s f (tk s k).2.1 (acc ++ [((tk s k).1 : Int)]) else ([], false)) else fin acc
/-- The program's loop. -/
def rdI (s : ByteArray) : Nat → Nat → List Int → L
  | 0, _, acc => (acc, true)
  | f + 1, k, acc => if k < s.size then (if (tk s k).2.2 = true ∧ acc.length ≠ 40 then rdI s f (tk s k).2.1 (acc ++ [((tk s k).1 : Int)]) else ([], false)) else (acc, true)
theorem rdS_many (s : ByteArray) (f k : Nat) (acc : List Int) (h : 40 < acc.length) : rdS s f k acc = ([], false) := by
  induction f generalizing k acc with
  | zero => simp [rdS, fin]; omega
  | succ f ih =>
    rw [rdS]
    split
    · split
      · exact ih _ _ (by simp; omega)
      · rfl
    · simp [fin]; omega
theorem rd_same (s : ByteArray) (f k : Nat) (acc : List Int) (h : acc.length ≤ 40) : rdI s f k acc = rdS s f k acc := by
  induction f generalizing k acc with
  | zero => simp [rdI, rdS, fin, h]
  | succ f ih =>
    rw [rdI, rdS]
    by_cases h1 : k < s.size
    · rw [if_pos h1, if_pos h1]
      by_cases h2 : (tk s k).2.2 = true
      · rw [if_pos h2]
        by_cases h3 : acc.length = 40
        · rw [if_neg (by simp [h3]), rdS_many _ _ _ _ (by simp; omega)]
        · rw [if_pos ⟨h2, h3⟩]; exact ih _ _ (by simp; omega)
      · rw [if_neg h2, if_neg (fun h => h2 h.1)]
    · rw [if_neg h1, if_neg h1]; simp [fin, h]
/-- What ReadSdnvs answers. -/
def readF (s : ByteArray) : L := if s.size ≤ 400 then rdS s s.size 0 [] else ([], false)
/-- What one number more does to a row that the call owns. -/
theorem growI {e base : Nat} {z : Int} {w wr w1 : World} {u v' : Value} {o : Obj} {zs : List Int} (hown : wr.ownsRow base e 1 u zs.length (M4.iv zs)) (hb : Below base w wr) (hB : base ≤ wr.heap.size)
    (hown1 : w1.ownsRow base e 1 v' (zs.length + 1) (M4.iv zs ++ [.int .i64 z])) (hgrow : (wr.alloc o).grownBy w1 u.ownBlock) :
    w1.ownsRow base e 1 v' (zs ++ [z]).length (M4.iv (zs ++ [z])) ∧ Below base w w1 := by
  refine ⟨?_, (hb.alloc hB o).grown hgrow (by simp; omega) (fun j hj => (hown.lt j hj).1)⟩
  simpa [M4.iv] using hown1
/-- A row that the call owns, seen as a slice of numbers. -/
theorem own_view {w : World} {base e : Nat} {v : Value} {zs : List Int} (h : w.ownsRow base e 1 v zs.length (M4.iv zs)) : ∃ a cap, v = .slice a zs.length cap ∧ M4.IntsAt w a zs := by
  rcases h.2 with ⟨rfl, h0⟩ | ⟨g, cap, cur, rfl, hb, hg, hc1, hc2, hc3, hc4⟩
  · obtain rfl : zs = [] := List.eq_nil_of_length_eq_zero h0
    exact ⟨none, 0, rfl, .inl rfl⟩
  · exact ⟨_, cap, rfl, M4.IntsAt.of_own h⟩
/-- The marks k, k + 1, .. -/
def marks (k : Int) (n : Nat) : List Int := (List.range n).map fun (i : Nat) => k + (i : Int)
theorem marks_len (k : Int) (n : Nat) : (marks k n).length = n := by simp [marks]
theorem marks_get (k : Int) (n i : Nat) (h : i < n) : (marks k n).getD i 0 = k + i := by simp [marks, List.getD_eq_getElem?_getD, h]
/-- The first i cells marked, the others as they were. -/
def mk (zs : List Int) (k : Int) (i : Nat) : List Int := marks k i ++ zs.drop i
theorem mk_zero (zs : List Int) (k : Int) : mk zs k 0 = zs := by simp [mk, marks]
theorem mk_all (zs : List Int) (k : Int) : mk zs k zs.length = marks k zs.length := by simp [mk]
theorem mk_len (zs : List Int) (k : Int) (i : Nat) (h : i ≤ zs.length) : (mk zs k i).length = zs.length := by simp [mk, marks_len]; omega
theorem mk_set (zs : List Int) (k : Int) (i : Nat) (h : i < zs.length) : (mk zs k i).set i (k + i) = mk zs k (i + 1) := by
  unfold mk
  have e : marks k (i + 1) = marks k i ++ [k + (i : Int)] := by simp [marks, List.range_succ]
  rw [e, List.set_append_right _ _ (by rw [marks_len]; omega), marks_len, Nat.sub_self, List.append_assoc]
  congr 1
  rw [List.drop_eq_getElem_cons h]; rfl
theorem rdS_len (s : ByteArray) (f k : Nat) (acc : List Int) : (rdS s f k acc).1.length ≤ 40 := by
  induction f generalizing k acc with
  | zero => rw [rdS, fin]; split <;> simp_all
  | succ f ih =>
    rw [rdS]
    split
    · split
      · exact ih _ _
      · simp
    · rw [fin]; split <;> simp_all
theorem readF_len (s : ByteArray) : (readF s).1.length ≤ 40 := by
  unfold readF; split
  · exact rdS_len _ _ _ _
  · simp
theorem own_below {w w' : World} {base e size n : Nat} {v : Value} {xs : List Value} (h : w.ownsRow base e size v n xs) (hb : Below w.heap.size w w') : w'.ownsRow base e size v n xs := by
  refine ⟨h.1, ?_⟩
  rcases h.2 with hn | ⟨g, cap, cur, rfl, hbg, hgg, rest⟩
  · exact .inl hn
  · refine .inr ⟨g, cap, cur, rfl, hbg, ?_, rest⟩
    rw [hb.block g (Array.getElem?_eq_some_iff.1 hgg).1]
    exact hgg
theorem own_ints {w : World} {base e n cap : Nat} {a : Option Addr} {zs : List Int} (h : w.ownsRow base e 1 (.slice a n cap) n (M4.iv zs)) : M4.IntsAt w a zs := by
  have hlen : zs.length = n := by have := h.1; simpa [M4.iv] using this
  subst hlen
  obtain ⟨a', cap', he, hi⟩ := own_view h
  simp only [Value.slice.injEq] at he
  obtain ⟨rfl, _, _⟩ := he
  exact hi
end M5
end Go.Proofs.Ytdgflhgbcfehhaa
