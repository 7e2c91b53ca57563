import Derived.Test.YtdglialjcibbbaaM1
import Derived.Test.YtdglialjcibbbaaM4
/- Plain facts on reading a number in sevens (chapter 1): the program's way and the specification's way come to the same. No program is named here. -/
namespace Go.Proofs.Ytdglialjcibbbaa
namespace M3
/-- The k-th byte of a text. -/
def gb (s : ByteArray) (k : Nat) : Nat := if h : k < s.size then s[k].toNat else 0
theorem gb_lt (s : ByteArray) (k : Nat) : gb s k < 256 := by
  unfold gb; split
  · exact UInt8.toNat_lt _
  · omega
theorem gb_eq (s : ByteArray) (k : Nat) (h : k < s.size) : s[k].toNat = gb s k := by simp [gb, h]
abbrev R := Nat × Nat × Bool
def no : R := (0, 0, false)
/-- The program's loop. -/
def tkI (g : Nat → Nat) (len : Nat) (i n : Nat) : R :=
  if i < len then
    if 1000000000 < n * 128 + g i % 128 then no
    else if g i < 128 then (n * 128 + g i % 128, i + 1, true)
    else tkI g len (i + 1) (n * 128 + g i % 128)
  else no
termination_by len - i
/-- The specification's loop. -/
def tkS (g : Nat → Nat) (len at_ : Nat) (k n : Nat) : R :=
  if k < len ∧ k < at_ + 5 then
    if k = at_ ∧ g k = 128 then no
    else if g k < 128 then (if n * 128 + g k % 128 ≤ 1000000000 then (n * 128 + g k % 128, k + 1, true) else no)
    else tkS g len at_ (k + 1) (n * 128 + g k % 128)
  else no
termination_by len - k
theorem tkS_far (g : Nat → Nat) (len at_ : Nat) (k n : Nat) (hn : 1000000000 < n) : tkS g len at_ k n = no := by
  induction h : len - k using Nat.strongRecOn generalizing k n with
  | ind d ih =>
    rw [tkS]
    split
    · split
      · rfl
      · split
        · rw [if_neg (by omega)]
        · exact ih (len - (k + 1)) (by omega) (k + 1) _ (by omega) rfl
    · rfl
/-- From the second byte on both loops come to the same. -/
theorem tk_same (g : Nat → Nat) (len at_ : Nat) (k n : Nat) (hk : at_ < k) (hn : n ≤ 1000000000) (h5 : k ≤ at_ + 5) (hlo : 128 ^ (k - at_ - 1) ≤ n) : tkI g len k n = tkS g len at_ k n := by
  induction h : len - k using Nat.strongRecOn generalizing k n with
  | ind d ih =>
    rw [tkI, tkS]
    have hne : ¬ k = at_ := by omega
    by_cases hl : k < len
    · by_cases h6 : k < at_ + 5
      · by_cases hv : n * 128 + g k % 128 ≤ 1000000000
        · have hv' : ¬ 1000000000 < n * 128 + g k % 128 := by omega
          by_cases hb : g k < 128
          · simp only [hl, h6, hne, hb, hv, hv', if_true, if_false, and_self, false_and]
          · simp only [hl, h6, hne, hb, hv', if_true, if_false, and_self, false_and]
            refine ih (len - (k + 1)) (by omega) (k + 1) _ (by omega) hv (by omega) ?_ rfl
            have e : k + 1 - at_ - 1 = (k - at_ - 1) + 1 := by omega
            rw [e, Nat.pow_succ]; omega
        · have hv' : 1000000000 < n * 128 + g k % 128 := by omega
          by_cases hb : g k < 128
          · simp only [hl, h6, hne, hb, hv, hv', if_true, if_false, and_self, false_and]
          · simp only [hl, h6, hne, hb, hv', if_true, if_false, and_self, false_and]
            exact (tkS_far _ _ _ _ _ hv').symm
      · obtain rfl : k = at_ + 5 := by omega
        have e : at_ + 5 - at_ - 1 = 4 := by omega
        rw [e] at hlo
        have hv' : 1000000000 < n * 128 + g (at_ + 5) % 128 := by omega
        simp only [hl, h6, hv', if_true, if_false, and_false]
    · simp only [hl, if_false, false_and]
/-- Both ways come to the same. -/
theorem tk_all (g : Nat → Nat) (len at_ : Nat) (hl : at_ < len) (hg : g at_ < 256) : (if g at_ = 128 then no else tkI g len at_ 0) = tkS g len at_ at_ 0 := by
  rw [tkS, tkI]
  have h6 : at_ < at_ + 5 := by omega
  have hv : 0 * 128 + g at_ % 128 ≤ 1000000000 := by omega
  have hv' : ¬ 1000000000 < 0 * 128 + g at_ % 128 := by omega
  by_cases h128 : g at_ = 128
  · simp only [hl, h6, h128, if_true, and_self]
  · by_cases hb : g at_ < 128
    · simp only [hl, h6, h128, hb, hv, hv', if_true, if_false, and_self, and_false]
    · simp only [hl, h6, h128, hb, hv', if_true, if_false, and_self, and_false]
      refine tk_same g len at_ (at_ + 1) _ (by omega) (by omega) (by omega) ?_
      have e : at_ + 1 - at_ - 1 = 0 := by omega
      rw [e]; omega
/-- What TakeSdnv answers. -/
def takeF (s : ByteArray) (at_ : Int) : R := if s.size ≤ 400 ∧ 0 ≤ at_ ∧ at_ < s.size then tkS (gb s) s.size at_.toNat at_.toNat 0 else no
theorem or7 (n b : Nat) (hn : n ≤ 1000000000000) (hb : b < 128) : bits .or .i64 ((n : Int) * 128) (b : Int) = ((n * 128 + b : Nat) : Int) := by
  rw [show ((n : Int) * 128) = ((n * 128 : Nat) : Int) from by omega, M1.i64_or_nat (n * 128) b (by omega) (by omega), nat_join 7 (n * 128) b (by omega) (by omega)]
theorem and127b (b : Nat) (hb : b < 256) : bits .and .u8 (b : Int) 127 = ((b % 128 : Nat) : Int) := by
  rw [show (127 : Int) = ((127 : Nat) : Int) from rfl, u8_and_nat b 127 hb (by omega), nat_mask7]
theorem or7i (n b : Nat) (hn : n ≤ 1000000000000) : bits .or .i64 ((n : Int) * 128) ((b : Int) % 128) = ((n * 128 + b % 128 : Nat) : Int) := by
  rw [show ((b : Int) % 128) = ((b % 128 : Nat) : Int) from by omega]; exact or7 n (b % 128) hn (by omega)
end M3
end Go.Proofs.Ytdglialjcibbbaa

/- Plain facts on reading a row of numbers in sevens (chapter 1), and on rows of numbers that a call owns, marks and holds against its marks. No program is named here. -/
namespace Go.Proofs.Ytdglialjcibbbaa
namespace M5
open Go.RowKit
theorem tkS_end (g : Nat → Nat) (len at_ : Nat) (k n : Nat) (h : (M3.tkS g len at_ k n).2.2 = true) : k < (M3.tkS g len at_ k n).2.1 ∧ (M3.tkS g len at_ k n).2.1 ≤ len := by
  induction hd : len - k using Nat.strongRecOn generalizing k n with
  | ind d ih =>
    rw [M3.tkS] at h ⊢
    by_cases h1 : k < len ∧ k < at_ + 5
    · rw [if_pos h1] at h ⊢
      by_cases h2 : k = at_ ∧ g k = 128
      · rw [if_pos h2] at h; simp [M3.no] at h
      · rw [if_neg h2] at h ⊢
        by_cases h3 : g k < 128
        · rw [if_pos h3] at h ⊢
          by_cases h4 : n * 128 + g k % 128 ≤ 1000000000
          · rw [if_pos h4]; exact ⟨by simp, by simp; omega⟩
          · rw [if_neg h4] at h; simp [M3.no] at h
        · rw [if_neg h3] at h ⊢
          have := ih (len - (k + 1)) (by omega) (k + 1) _ h rfl
          omega
    · rw [if_neg h1] at h; simp [M3.no] at h
theorem tkS_le (g : Nat → Nat) (len at_ : Nat) (k n : Nat) : (M3.tkS g len at_ k n).1 ≤ 1000000000 := by
  induction hd : len - k using Nat.strongRecOn generalizing k n with
  | ind d ih =>
    rw [M3.tkS]
    by_cases h1 : k < len ∧ k < at_ + 5
    · rw [if_pos h1]
      by_cases h2 : k = at_ ∧ g k = 128
      · rw [if_pos h2]; simp [M3.no]
      · rw [if_neg h2]
        by_cases h3 : g k < 128
        · rw [if_pos h3]
          by_cases h4 : n * 128 + g k % 128 ≤ 1000000000
          · rw [if_pos h4]; exact h4
          · rw [if_neg h4]; simp [M3.no]
        · rw [if_neg h3]
          exact ih (len - (k + 1)) (by omega) (k + 1) _ rfl
    · rw [if_neg h1]; simp [M3.no]
abbrev L := List Int × Bool
/-- What is read at a place. -/
def tk (s : ByteArray) (k : Nat) : M3.R := M3.tkS (M3.gb s) s.size k k 0
def fin (acc : List Int) : L := if acc.length ≤ 40 then (acc, true) else ([], false)
/-- The specification's loop. -/
def rdS (s : ByteArray) : Nat → Nat → List Int → L
  | 0, _, acc => fin acc
  | f + 1, k, acc => if k < s.size then (if (tk s k).2.2 = true then rdS s f (tk s k).2.1 (acc ++ [((tk s k).1 : Int)]) else ([], false)) else fin acc
/-- The program's loop. -/
def rdI (s : ByteArray) : Nat → Nat → List Int → L
  | 0, _, acc => (acc, true)
  | f + 1, k, acc => if k < s.size then (if (tk s k).2.2 = true ∧ acc.length ≠ 40 then rdI s f (tk s k).2.1 (acc ++ [((tk s k).1 : Int)]) else ([], false)) else (acc, true)
theorem rdS_many (s : ByteArray) (f k : Nat) (acc : List Int) (h : 40 < acc.length) : rdS s f k acc = ([], false) := by
  induction f generalizing k acc with
  | zero => simp [rdS, fin]; omega
  | succ f ih =>
    rw [rdS]
    split
    · split
      · exact ih _ _ (by simp; omega)
      · rfl
    · simp [fin]; omega
theorem rd_same (s : ByteArray) (f k : Nat) (acc : List Int) (h : acc.length ≤ 40) : rdI s f k acc = rdS s f k acc := by
  induction f generalizing k acc with
  | zero => simp [rdI, rdS, fin, h]
  | succ f ih =>
    rw [rdI, rdS]
    by_cases h1 : k < s.size
    · rw [if_pos h1, if_pos h1]
      by_cases h2 : (tk s k).2.2 = true
      · rw [if_pos h2]
        by_cases h3 : acc.length = 40
        · rw [if_neg (by simp [h3]), rdS_many _ _ _ _ (by simp; omega)]
        · rw [if_pos ⟨h2, h3⟩]; exact ih _ _ (by simp; omega)
      · rw [if_neg h2, if_neg (fun h => h2 h.1)]
    · rw [if_neg h1, if_neg h1]; simp [fin, h]
/-- What ReadSdnvs answers. -/
def readF (s : ByteArray) : L := if s.size ≤ 400 then rdS s s.size 0 [] else ([], false)
/-- What one number more does to a row that the call owns. -/
theorem growI {e base : Nat} {z : Int} {w wr w1 : World} {u v' : Value} {o : Obj} {zs : List Int} (hown : wr.ownsRow base e 1 u zs.length (M4.iv zs)) (hb : Below base w wr) (hB : base ≤ wr.heap.size)
    (hown1 : w1.ownsRow base e 1 v' (zs.length + 1) (M4.iv zs ++ [.int .i64 z])) (hgrow : (wr.alloc o).grownBy w1 u.ownBlock) :
    w1.ownsRow base e 1 v' (zs ++ [z]).length (M4.iv (zs ++ [z])) ∧ Below base w w1 := by
  refine ⟨?_, (hb.alloc hB o).grown hgrow (by simp; omega) (fun j hj => (hown.lt j hj).1)⟩
  simpa [M4.iv] using hown1
/-- A row that the call owns, seen as a slice of numbers. -/
theorem own_view {w : World} {base e : Nat} {v : Value} {zs : List Int} (h : w.ownsRow base e 1 v zs.length (M4.iv zs)) : ∃ a cap, v = .slice a zs.length cap ∧ M4.IntsAt w a zs := by
  rcases h.2 with ⟨rfl, h0⟩ | ⟨g, cap, cur, rfl, hb, hg, hc1, hc2, hc3, hc4⟩
  · obtain rfl : zs = [] := List.eq_nil_of_length_eq_zero h0
    exact ⟨none, 0, rfl, .inl rfl⟩
  · exact ⟨_, cap, rfl, M4.IntsAt.of_own h⟩
/-- The marks k, k + 1, .. -/
def marks (k : Int) (n : Nat) : List Int := (List.range n).map fun (i : Nat) => k + (i : Int)
theorem marks_len (k : Int) (n : Nat) : (marks k n).length = n := by simp [marks]
theorem marks_get (k : Int) (n i : Nat) (h : i < n) : (marks k n).getD i 0 = k + i := by simp [marks, List.getD_eq_getElem?_getD, h]
/-- The first i cells marked, the others as they were. -/
def mk (zs : List Int) (k : Int) (i : Nat) : List Int := marks k i ++ zs.drop i
theorem mk_zero (zs : List Int) (k : Int) : mk zs k 0 = zs := by simp [mk, marks]
theorem mk_all (zs : List Int) (k : Int) : mk zs k zs.length = marks k zs.length := by simp [mk]
theorem mk_len (zs : List Int) (k : Int) (i : Nat) (h : i ≤ zs.length) : (mk zs k i).length = zs.length := by simp [mk, marks_len]; omega
theorem mk_set (zs : List Int) (k : Int) (i : Nat) (h : i < zs.length) : (mk zs k i).set i (k + i) = mk zs k (i + 1) := by
  unfold mk
  have e : marks k (i + 1) = marks k i ++ [k + (i : Int)] := by simp [marks, List.range_succ]
  rw [e, List.set_append_right _ _ (by rw [marks_len]; omega), marks_len, Nat.sub_self, List.append_assoc]
  congr 1
  rw [List.drop_eq_getElem_cons h]; rfl
theorem rdS_len (s : ByteArray) (f k : Nat) (acc : List Int) : (rdS s f k acc).1.length ≤ 40 := by
  induction f generalizing k acc with
  | zero => rw [rdS, fin]; split <;> simp_all
  | succ f ih =>
    rw [rdS]
    split
    · split
      · exact ih _ _
      · simp
    · rw [fin]; split <;> simp_all
theorem readF_len (s : ByteArray) : (readF s).1.length ≤ 40 := by
  unfold readF; split
  · exact rdS_len _ _ _ _
  · simp
theorem own_below {w w' : World} {base e size n : Nat} {v : Value} {xs : List Value} (h : w.ownsRow base e size v n xs) (hb : Below w.heap.size w w') : w'.ownsRow base e size v n xs := by
  refine ⟨h.1, ?_⟩
  rcases h.2 with hn | ⟨g, cap, cur, rfl, hbg, hgg, rest⟩
  · exact .inl hn
  · refine .inr ⟨g, cap, cur, rfl, hbg, ?_, rest⟩
    rw [hb.block g (Array.getElem?_eq_some_iff.1 hgg).1]
    exact hgg
theorem own_ints {w : World} {base e n cap : Nat} {a : Option Addr} {zs : List Int} (h : w.ownsRow base e 1 (.slice a n cap) n (M4.iv zs)) : M4.IntsAt w a zs := by
  have hlen : zs.length = n := by have := h.1; simpa [M4.iv] using this
  subst hlen
  obtain ⟨a', cap', he, hi⟩ := own_view h
  simp only [Value.slice.injEq] at he
  obtain ⟨rfl, _, _⟩ := he
  exact hi
end M5
end Go.Proofs.Ytdglialjcibbbaa
