/- Which numbers have bytes, and the text that SdnvOf answers: plain facts, no program is named here. -/
import Derived.Test.YtdgflhgbcfehhaaM1
namespace Go.Proofs.Ytdgflhgbcfehhaa
/-- What SdnvOf says. -/
def okN (n : Int) : Bool := decide (0 ≤ n ∧ n ≤ 1000000000)
/-- The text that SdnvOf answers. -/
def sdStr (n : Int) : ByteArray := if okN n = true then ⟨(M1.sdnv n.toNat).toArray⟩ else ⟨#[]⟩
theorem okN_no {n : Int} (h : ¬ (0 ≤ n ∧ n ≤ 1000000000)) : okN n = false ∧ sdStr n = ⟨#[]⟩ := by
  have : okN n = false := by simp [okN]; omega
  exact ⟨this, by simp [sdStr, this]⟩
theorem okN_yes {n : Int} (h : 0 ≤ n ∧ n ≤ 1000000000) : okN n = true ∧ sdStr n = ⟨(M1.sdnv n.toNat).toArray⟩ := by
  have : okN n = true := by simp [okN]; omega
  exact ⟨this, by simp [sdStr, this]⟩
def inB (n lo hi : Int) : Bool := decide (lo ≤ n ∧ n ≤ hi)
end Go.Proofs.Ytdgflhgbcfehhaa
