/- Plain facts: what has its sum is told, and one byte that is turned is seen. -/
import Derived.Test.YtcpfbgogfhlmjaaDoorCCheckCrc
import Derived.Lib.Strings
namespace Go.Proofs.YtcpfbgogfhlmjaaDoor
namespace MCrc
theorem xor_lc {a b c : Nat} (h : a ^^^ b = a ^^^ c) : b = c := by
  have := congrArg (a ^^^ ·) h
  simpa [← Nat.xor_assoc] using this
theorem xor_rc {a b c : Nat} (h : a ^^^ c = b ^^^ c) : a = b := by
  rw [Nat.xor_comm a, Nat.xor_comm b] at h; exact xor_lc h
theorem xor_z {a b : Nat} (h : a ^^^ b = 0) : a = b := xor_rc (c := b) (by rw [h, Nat.xor_self])
theorem st_zero (z : Nat) (h : M6.st z = 0) : z = 0 := by
  unfold M6.st at h
  split at h
  · have h1 : z * 2 = 69665 := xor_z h
    omega
  · omega
theorem st_inj (x y : Nat) (hx : x < 65536) (hy : y < 65536) (h : M6.st x = M6.st y) : x = y := by
  have := M6.st_xor x y hx hy
  rw [h, Nat.xor_self] at this
  exact xor_z (st_zero _ this)
theorem eight_inj (x y : Nat) (hx : x < 65536) (hy : y < 65536) (h : M6.eight x = M6.eight y) : x = y := by
  have key : ∀ k, M6.stk x k = M6.stk y k → x = y := by
    intro k
    induction k with
    | zero => exact id
    | succ k ih => exact fun h => ih (st_inj _ _ (M6.stk_lt x hx k) (M6.stk_lt y hy k) h)
  exact key 8 h
theorem lt16 (x b : Nat) (hx : x < 65536) (hb : b < 256) : x ^^^ (b * 256) < 65536 := Nat.xor_lt_two_pow (n := 16) hx (by omega)
theorem add_left (x y b : Nat) (hx : x < 65536) (hy : y < 65536) (hb : b < 256) (h : M6.add x b = M6.add y b) : x = y :=
  xor_rc (eight_inj _ _ (lt16 x b hx hb) (lt16 y b hy hb) h)
theorem add_byte (x b c : Nat) (hx : x < 65536) (hb : b < 256) (hc : c < 256) (h : M6.add x b = M6.add x c) : b = c := by
  have := xor_lc (eight_inj _ _ (lt16 x b hx hb) (lt16 x c hx hc) h)
  omega
/-- Where two texts part at one place alone, their sums part behind it. -/
theorem cs_part (s t : ByteArray) (i : Nat) (he : ∀ k, k ≠ i → M3.gb s k = M3.gb t k) (hne : M3.gb s i ≠ M3.gb t i) : ∀ k, i < k → cs s k ≠ cs t k := by
  have heq : ∀ k, k ≤ i → cs s k = cs t k := by
    intro k
    induction k with
    | zero => intro _; rfl
    | succ k ih => intro hk; rw [cs, cs, ih (by omega), he k (by omega)]
  intro k
  induction k with
  | zero => intro h; omega
  | succ k ih =>
    intro hk h
    rw [cs, cs] at h
    by_cases hki : k = i
    · subst hki
      rw [heq k (Nat.le_refl _)] at h
      exact hne (add_byte _ _ _ (cs_lt t k) (M3.gb_lt s k) (M3.gb_lt t k) h)
    · rw [he k hki] at h
      exact ih (by omega) (add_left _ _ _ (cs_lt s k) (cs_lt t k) (M3.gb_lt t k) h)
theorem gb_list (s : ByteArray) (k : Nat) : M3.gb s k = (s.data.toList.getD k 0).toNat := by
  unfold M3.gb
  split
  · rename_i h
    have h' : k < s.data.toList.length := by simpa using h
    simp only [List.getD_eq_getElem?_getD, List.getElem?_eq_getElem h', Option.getD_some]
    congr 1
  · rename_i h
    have h' : s.data.toList.length ≤ k := by simp; omega
    simp only [List.getD_eq_getElem?_getD, List.getElem?_eq_none h', Option.getD_none]; rfl
theorem list_eq {s t : ByteArray} (h : s.data.toList = t.data.toList) : s = t := ByteArray.ext (by rw [← Array.toList_inj]; exact h)
theorem size_list (s : ByteArray) : s.size = s.data.toList.length := by simp
theorem with_list (s : ByteArray) : (withS s).data.toList = s.data.toList ++ [UInt8.ofNat (crcT s / 256), UInt8.ofNat (crcT s % 256)] := by
  unfold withS; simp
theorem with_size (s : ByteArray) : (withS s).size = s.size + 2 := by rw [size_list, with_list, size_list s]; simp
theorem body_list (s : ByteArray) : (bodyOf s).data.toList = s.data.toList.take (s.size - 2) := by
  unfold bodyOf; rw [Lib.extract_data]; simp
theorem body_with (s : ByteArray) : bodyOf (withS s) = s := by
  apply list_eq
  rw [body_list, with_size, with_list, show s.size + 2 - 2 = s.data.toList.length from by rw [size_list]; omega]
  simp
/-- What has its sum is told. -/
theorem told (s : ByteArray) (h : s.size ≤ 398) : chk (withS s) = true ∧ chkS (withS s) = s := by
  have h1 : chk (withS s) = true := chk_yes (by rw [with_size]; omega) (by rw [with_size]; omega) (by rw [body_with])
  exact ⟨h1, by rw [← chkS_yes h1, body_with]⟩
/-- The text with one byte turned. -/
def flip (t : ByteArray) (i d : Nat) : ByteArray := ⟨(t.data.toList.set i (UInt8.ofNat (M3.gb t i ^^^ d))).toArray⟩
theorem flip_list (t : ByteArray) (i d : Nat) : (flip t i d).data.toList = t.data.toList.set i (UInt8.ofNat (M3.gb t i ^^^ d)) := by unfold flip; simp
theorem flip_size (t : ByteArray) (i d : Nat) : (flip t i d).size = t.size := by rw [size_list, flip_list, size_list t]; simp
theorem xor_ne (a d : Nat) (hd : 0 < d) : a ^^^ d ≠ a := by
  intro h
  have : a ^^^ d = a ^^^ 0 := by rw [h, Nat.xor_zero]
  have := xor_lc this
  omega
theorem bytes_ne (a d : Nat) (ha : a < 256) (hd : 0 < d) (hd' : d < 256) : (UInt8.ofNat (a ^^^ d)).toNat ≠ a := by
  have hlt : a ^^^ d < 256 := Nat.xor_lt_two_pow (n := 8) ha hd'
  rw [M1.byte_nat _ hlt]
  exact xor_ne a d hd
/-- One byte that is turned is seen. -/
theorem seen (s : ByteArray) (i d : Nat) (hi : i < s.size + 2) (hd : 0 < d) (hd' : d < 256) : chk (flip (withS s) i d) = false := by
  apply chk_no
  rintro ⟨_, _, h⟩
  have hfl := flip_list (withS s) i d
  have hgi : ((withS s).data.toList.getD i 0).toNat = M3.gb (withS s) i := (gb_list _ _).symm
  have hil : i < (withS s).data.toList.length := by rw [← size_list, with_size]; exact hi
  have hne := bytes_ne (M3.gb (withS s) i) d (M3.gb_lt _ _) hd hd'
  generalize hv : UInt8.ofNat (M3.gb (withS s) i ^^^ d) = v at *
  have hb := body_list (flip (withS s) i d)
  rw [flip_size, with_size, hfl, with_list, show s.size + 2 - 2 = s.size from by omega] at hb
  have hw := with_list (bodyOf (flip (withS s) i d))
  rw [h, hfl, with_list] at hw
  have hsl : s.data.toList.length = s.size := (size_list s).symm
  by_cases hin : i < s.size
  · rw [List.set_append_left _ _ (by omega), List.take_append_of_le_length (by simp), List.take_of_length_le (by simp)] at hb
    rw [List.set_append_left _ _ (by omega), hb] at hw
    have hcr := List.append_cancel_left hw
    simp only [List.cons.injEq, and_true] at hcr
    have hbs : (bodyOf (flip (withS s) i d)).size = s.size := by rw [body_size, flip_size, with_size]; omega
    have hpart : crcT s ≠ crcT (bodyOf (flip (withS s) i d)) := by
      unfold crcT
      rw [hbs]
      refine cs_part s _ i (fun k hk => ?_) ?_ s.size hin
      · rw [gb_list, gb_list, hb, List.getD_eq_getElem?_getD, List.getD_eq_getElem?_getD, List.getElem?_set_ne (by omega)]
      · rw [gb_list (bodyOf _), hb, List.getD_eq_getElem?_getD, List.getElem?_set_self (by omega)]
        have hgs : M3.gb s i = M3.gb (withS s) i := by
          rw [gb_list, gb_list, with_list, List.getD_eq_getElem?_getD, List.getD_eq_getElem?_getD, List.getElem?_append_left (by omega)]
        rw [hgs]; exact fun e => hne e.symm
    have l1 := crcT_lt s
    have l2 := crcT_lt (bodyOf (flip (withS s) i d))
    generalize crcT s = x at *
    generalize crcT (bodyOf (flip (withS s) i d)) = y at *
    have e1 := congrArg UInt8.toNat hcr.1
    have e2 := congrArg UInt8.toNat hcr.2
    rw [M1.byte_nat _ (by omega), M1.byte_nat _ (by omega)] at e1
    rw [M1.byte_nat _ (by omega), M1.byte_nat _ (by omega)] at e2
    exact hpart (by omega)
  · rw [List.set_append_right _ _ (by omega), List.take_append_of_le_length (by omega), List.take_of_length_le (by omega)] at hb
    have hbe : bodyOf (flip (withS s) i d) = s := list_eq hb
    rw [hbe, ← with_list s] at hw
    have : (withS s).data.toList.set i v = (withS s).data.toList := by
      rw [with_list]; exact hw.trans (with_list s)
    have h2 := congrArg (fun l : List UInt8 => (l.getD i 0).toNat) this
    simp only [List.getD_eq_getElem?_getD, List.getElem?_set_self hil, Option.getD_some] at h2
    rw [← List.getD_eq_getElem?_getD, hgi] at h2
    exact hne h2
end MCrc
end Go.Proofs.YtcpfbgogfhlmjaaDoor
