/- Marks of texts and of items: plain facts, no program is named here. -/
import Derived.Test.YtjekofjhplhemaaM11
namespace Go.Proofs.Ytjekofjhplhemaa
namespace M18
/-- The digits of a number above 0. -/
def dg (k : Nat) : List UInt8 := if _h : k = 0 then [] else dg (k / 10) ++ [UInt8.ofNat (48 + k % 10)]
termination_by k
decreasing_by omega
theorem dg_zero : dg 0 = [] := by rw [dg, dif_pos rfl]
theorem dg_step (k : Nat) (h : 0 < k) : dg k = dg (k / 10) ++ [UInt8.ofNat (48 + k % 10)] := by rw [dg, dif_neg (by omega)]
theorem dg_len (k : Nat) : (dg k).length ≤ k := by
  induction k using Nat.strongRecOn with
  | ind k ih =>
    by_cases h : k = 0
    · subst h; rw [dg_zero]; simp
    · rw [dg_step k (by omega), List.length_append, List.length_singleton]
      have := ih (k / 10) (by omega)
      omega
/-- A text's mark. -/
def mt (k : Nat) : ByteArray := if k = 0 then ⟨#[109, 48]⟩ else ⟨(109 :: dg k).toArray⟩
/-- The marks of n items. -/
def mkI (k n : Nat) : List It := (List.range n).map fun i => ⟨((k + 4 * i : Nat) : Int), ((k + 4 * i + 1 : Nat) : Int), mt (k + 4 * i + 2), ((k + 4 * i + 3 : Nat) : Int)⟩
theorem mkI_len (k n : Nat) : (mkI k n).length = n := by simp [mkI]
theorem mkI_at (k n i : Nat) (h : i < n) : M11.at_ (mkI k n) i = ⟨((k + 4 * i : Nat) : Int), ((k + 4 * i + 1 : Nat) : Int), mt (k + 4 * i + 2), ((k + 4 * i + 3 : Nat) : Int)⟩ := by simp [M11.at_, mkI, h]
theorem bs_cons (a : UInt8) (l : List UInt8) : (⟨#[a]⟩ : ByteArray) ++ ⟨l.toArray⟩ = ⟨(a :: l).toArray⟩ := by apply ByteArray.ext; simp
end M18
end Go.Proofs.Ytjekofjhplhemaa
