import Derived.Test.YtcpfbgogfhlmjaaDoorOkN
import Derived.Test.YtcpfbgogfhlmjaaDoorM4
/- Plain facts on heads (chapter 2): the shortest head of a major and a number, and the head that bytes begin with. No program is named here. -/
namespace Go.Proofs.YtcpfbgogfhlmjaaDoor
namespace M7
/-- A head's bytes. -/
def hb (m n : Nat) : List UInt8 :=
  if n < 24 then [UInt8.ofNat (32 * m + n)]
  else if n < 256 then [UInt8.ofNat (32 * m + 24), UInt8.ofNat n]
  else if n < 65536 then [UInt8.ofNat (32 * m + 25), UInt8.ofNat (n / 256), UInt8.ofNat n]
  else [UInt8.ofNat (32 * m + 26), UInt8.ofNat (n / 16777216), UInt8.ofNat (n / 65536), UInt8.ofNat (n / 256), UInt8.ofNat n]
/-- Bytes as a number, the highest first. -/
def be (l : List UInt8) : Nat := l.foldl (fun n b => n * 256 + b.toNat) 0
theorem be_snoc (l : List UInt8) (b : UInt8) : be (l ++ [b]) = be l * 256 + b.toNat := by simp [be]
/-- How many bytes follow. -/
def more (low : Nat) : Nat := if low < 24 then 0 else if low = 24 then 1 else if low = 25 then 2 else 4
/-- The head that bytes begin with: major, number, how many bytes. -/
def hd : List UInt8 → Option (Nat × Nat × Nat)
  | [] => none
  | b :: r =>
    if b.toNat % 32 < 24 then some (b.toNat / 32, b.toNat % 32, 1)
    else if 26 < b.toNat % 32 then none
    else if r.length < more (b.toNat % 32) then none
    else if be (r.take (more (b.toNat % 32))) ≤ 1000000000 ∧ hb (b.toNat / 32) (be (r.take (more (b.toNat % 32)))) = (b :: r).take (1 + more (b.toNat % 32)) then some (b.toNat / 32, be (r.take (more (b.toNat % 32))), 1 + more (b.toNat % 32))
    else none
theorem hd_cons (b : UInt8) (r : List UInt8) : hd (b :: r) =
    (if b.toNat % 32 < 24 then some (b.toNat / 32, b.toNat % 32, 1)
    else if 26 < b.toNat % 32 then none
    else if r.length < more (b.toNat % 32) then none
    else if be (r.take (more (b.toNat % 32))) ≤ 1000000000 ∧ hb (b.toNat / 32) (be (r.take (more (b.toNat % 32)))) = (b :: r).take (1 + more (b.toNat % 32)) then some (b.toNat / 32, be (r.take (more (b.toNat % 32))), 1 + more (b.toNat % 32))
    else none) := rfl
theorem hb_low (b : UInt8) (h : b.toNat % 32 < 24) : hb (b.toNat / 32) (b.toNat % 32) = [b] := by
  unfold hb; rw [if_pos h, Nat.div_add_mod]; simp
theorem hb_pos (m n : Nat) : 1 ≤ (hb m n).length ∧ (hb m n).length ≤ 5 := by
  unfold hb; (repeat' split) <;> simp
/-- What a head that is read says. -/
theorem hd_is {l : List UInt8} {m n c : Nat} (h : hd l = some (m, n, c)) : m ≤ 7 ∧ n ≤ 1000000000 ∧ 1 ≤ c ∧ c ≤ l.length ∧ l.take c = hb m n := by
  match l, h with
  | b :: r, h =>
    have hb' : b.toNat < 256 := UInt8.toNat_lt b
    rw [hd_cons] at h
    split at h
    · rename_i h1
      simp only [Option.some.injEq, Prod.mk.injEq] at h
      obtain ⟨rfl, rfl, rfl⟩ := h
      refine ⟨by omega, by omega, by omega, by simp, ?_⟩
      rw [hb_low b h1]; rfl
    · split at h
      · simp at h
      · split at h
        · simp at h
        · split at h
          · rename_i h1 h2 h3 h4
            simp only [Option.some.injEq, Prod.mk.injEq] at h
            obtain ⟨rfl, rfl, rfl⟩ := h
            exact ⟨by omega, h4.1, by omega, by simp; omega, h4.2.symm⟩
          · simp at h
theorem len_c {l : List UInt8} {m n c : Nat} (h : hd l = some (m, n, c)) : c = (hb m n).length := by
  have := hd_is h
  rw [← this.2.2.2.2]; simp; omega
theorem back {l : List UInt8} {m n c : Nat} (h : hd l = some (m, n, c)) : l = hb m n ++ l.drop c := by
  have := hd_is h
  rw [← this.2.2.2.2, List.take_append_drop]
theorem be1 (a : UInt8) : be [a] = a.toNat := by simp [be]
theorem be2 (a b : UInt8) : be [a, b] = a.toNat * 256 + b.toNat := by simp [be]
theorem be4 (a b c d : UInt8) : be [a, b, c, d] = ((a.toNat * 256 + b.toNat) * 256 + c.toNat) * 256 + d.toNat := by simp [be]
/-- A head that was made is read. -/
theorem hd_hb (m n : Nat) (hm : m ≤ 7) (hn : n ≤ 1000000000) (r : List UInt8) : hd (hb m n ++ r) = some (m, n, (hb m n).length) := by
  by_cases h1 : n < 24
  · have e : (UInt8.ofNat (32 * m + n)).toNat = 32 * m + n := by simp; omega
    have d1 : (32 * m + n) / 32 = m := by omega
    have d2 : (32 * m + n) % 32 = n := by omega
    unfold hb hd
    simp only [h1, if_true, List.cons_append, List.nil_append, e, d1, d2, List.length_cons, List.length_nil]
  · by_cases h2 : n < 256
    · have e : (UInt8.ofNat (32 * m + 24)).toNat = 32 * m + 24 := by simp; omega
      have d1 : (32 * m + 24) / 32 = m := by omega
      have d2 : (32 * m + 24) % 32 = 24 := by omega
      have k : hb m n = [UInt8.ofNat (32 * m + 24), UInt8.ofNat n] := by unfold hb; rw [if_neg h1, if_pos h2]
      have b : be [UInt8.ofNat n] = n := by rw [be1]; simp; omega
      have t : (UInt8.ofNat n :: r).take 1 = [UInt8.ofNat n] := by simp
      rw [k]; unfold hd
      simp only [List.cons_append, List.nil_append, e, d1, d2, show more 24 = 1 from rfl, List.length_cons, t, b, k]
      simp; omega
    · by_cases h3 : n < 65536
      · have e : (UInt8.ofNat (32 * m + 25)).toNat = 32 * m + 25 := by simp; omega
        have d1 : (32 * m + 25) / 32 = m := by omega
        have d2 : (32 * m + 25) % 32 = 25 := by omega
        have k : hb m n = [UInt8.ofNat (32 * m + 25), UInt8.ofNat (n / 256), UInt8.ofNat n] := by unfold hb; rw [if_neg h1, if_neg h2, if_pos h3]
        have b : be [UInt8.ofNat (n / 256), UInt8.ofNat n] = n := by rw [be2]; simp; omega
        have t : (UInt8.ofNat (n / 256) :: UInt8.ofNat n :: r).take 2 = [UInt8.ofNat (n / 256), UInt8.ofNat n] := by simp
        rw [k]; unfold hd
        simp only [List.cons_append, List.nil_append, e, d1, d2, show more 25 = 2 from rfl, List.length_cons, t, b, k]
        simp; omega
      · have e : (UInt8.ofNat (32 * m + 26)).toNat = 32 * m + 26 := by simp; omega
        have d1 : (32 * m + 26) / 32 = m := by omega
        have d2 : (32 * m + 26) % 32 = 26 := by omega
        have k : hb m n = [UInt8.ofNat (32 * m + 26), UInt8.ofNat (n / 16777216), UInt8.ofNat (n / 65536), UInt8.ofNat (n / 256), UInt8.ofNat n] := by unfold hb; rw [if_neg h1, if_neg h2, if_neg h3]
        have b : be [UInt8.ofNat (n / 16777216), UInt8.ofNat (n / 65536), UInt8.ofNat (n / 256), UInt8.ofNat n] = n := by rw [be4]; simp; omega
        have t : (UInt8.ofNat (n / 16777216) :: UInt8.ofNat (n / 65536) :: UInt8.ofNat (n / 256) :: UInt8.ofNat n :: r).take 4 = [UInt8.ofNat (n / 16777216), UInt8.ofNat (n / 65536), UInt8.ofNat (n / 256), UInt8.ofNat n] := by simp
        rw [k]; unfold hd
        simp only [List.cons_append, List.nil_append, e, d1, d2, show more 26 = 4 from rfl, List.length_cons, t, b, k]
        simp; omega
end M7
end Go.Proofs.YtcpfbgogfhlmjaaDoor

/- Items as values and as cells (chapter 2): plain facts, no program is named here. -/
namespace Go.Proofs.YtcpfbgogfhlmjaaDoor
/-- An item. -/
structure It where
  kind : Int
  num : Int
  text : ByteArray
  many : Int
abbrev It.v (x : It) : Value := .agg #[.int .i64 x.kind, .int .i64 x.num, .string x.text, .int .i64 x.many]
namespace M8
/-- A text's bytes. -/
def bl (s : ByteArray) : List UInt8 := s.data.toList
theorem bl_len (s : ByteArray) : (bl s).length = s.size := by simp [bl]
theorem bl_inj {s t : ByteArray} (h : bl s = bl t) : s = t := by
  apply ByteArray.ext; apply Array.ext'; exact h
theorem beq_yes {a b : ByteArray} (h : a = b) : (a.toList == b.toList) = true := by rw [h]; simp
theorem beq_no {a b : ByteArray} (h : ¬ a = b) : (a.toList == b.toList) = false := by
  rw [beq_eq_false_iff_ne, ByteArray.toList_eq, ByteArray.toList_eq]
  intro e
  exact h (ByteArray.ext (by rw [← Array.toList_inj]; exact e))
theorem nil_no {a : ByteArray} (h : ¬ a = ⟨#[]⟩) : (a.toList == []) = false := by
  have := beq_no h
  simpa using this
def zero : It := ⟨0, 0, ⟨#[]⟩, 0⟩
def same (x y : It) : Bool := decide (x.kind = y.kind) && decide (x.num = y.num) && decide (x.text = y.text) && decide (x.many = y.many)
theorem same_iff (x y : It) : same x y = true ↔ x = y := by
  cases x; cases y; simp [same, and_assoc]
theorem same_self (x : It) : same x x = true := (same_iff x x).2 rfl
end M8
end Go.Proofs.YtcpfbgogfhlmjaaDoor
