/- The bytes of a row of numbers: plain facts, no program is named here. -/
import Derived.Test.YtcpfbgogfhlmjaaDoorOkN
import Derived.Test.YtcpfbgogfhlmjaaDoorM4
namespace Go.Proofs.YtcpfbgogfhlmjaaDoor
/-- The bytes of a row of numbers. -/
def sl (zs : List Int) : List UInt8 := zs.flatMap fun z => M1.sdnv z.toNat
def slOk (zs : List Int) : Bool := zs.all okN && decide (zs.length ≤ 40)
def slStr (zs : List Int) : ByteArray := if slOk zs = true then ⟨(sl zs).toArray⟩ else ⟨#[]⟩
theorem sl_snoc (zs : List Int) (k : Nat) (h : k < zs.length) : sl (zs.take (k + 1)) = sl (zs.take k) ++ M1.sdnv (zs.getD k 0).toNat := by
  rw [M4.take_snoc zs k h]; simp [sl]
theorem slOk_no (zs : List Int) (h : slOk zs = false) : slStr zs = ⟨#[]⟩ := by simp [slStr, h]
theorem slOk_yes (zs : List Int) (h : slOk zs = true) : slStr zs = ⟨(sl zs).toArray⟩ := by simp [slStr, h]
theorem slOk_at (zs : List Int) (k : Nat) (h : k < zs.length) (hz : okN (zs.getD k 0) = false) : slOk zs = false := by
  have : zs.all okN = false := by
    rw [List.all_eq_false]
    exact ⟨zs[k], List.getElem_mem h, by simpa [List.getD_eq_getElem?_getD, List.getElem?_eq_getElem h] using hz⟩
  simp [slOk, this]
theorem slOk_long (zs : List Int) (h : 40 < zs.length) : slOk zs = false := by simp [slOk]; omega
theorem all_snoc (zs : List Int) (k : Nat) (h : k < zs.length) (h1 : (zs.take k).all okN = true) (hz : okN (zs.getD k 0) = true) : (zs.take (k + 1)).all okN = true := by
  rw [M4.take_snoc zs k h, List.all_append, h1]; simp only [List.all_cons, hz]; rfl
theorem slOk_all (zs : List Int) (h : zs.length ≤ 40) (h1 : (zs.take zs.length).all okN = true) : slOk zs = true := by
  rw [List.take_length] at h1; simp [slOk, h1, h]
theorem ret_sb {s t : ByteArray} {a b : Bool} (h1 : s = t) (h2 : a = b) : Ending.returned (.tuple #[.string s, .bool a]) = .returned (.tuple #[.string t, .bool b]) := by rw [h1, h2]
end Go.Proofs.YtcpfbgogfhlmjaaDoor
