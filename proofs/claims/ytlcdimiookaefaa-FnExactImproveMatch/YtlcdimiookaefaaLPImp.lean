/- The law FnExactImproveMatch answers true, whatever the arguments. -/
import Derived.Test.YtlcdimiookaefaaLWPImp
import Derived.Test.YtlcdimiookaefaaCPairMI
namespace Go.Proofs.Ytlcdimiookaefaa
open Go.RowKit
namespace PG
theorem impL_len (l r : Int) (ws : List (List Int)) (m : List Int) : ((impL l r ws m).getD []).length ≤ 8 := by
  cases h : impL l r ws m with
  | none => simp
  | some m' =>
    unfold impL at h
    split at h
    · rename_i h1
      obtain ⟨k1, k2, k3, _⟩ := imB_is h1
      have := (good_is k1).1
      have := (imp_some (good_Gd k1) (isB_inj k3) _ m' (Nat.le_refl _) h).2.1
      show m'.length ≤ 8
      omega
    · cases h
end PG
theorem lawPImp_any (l r : Int) (a0 : Option Addr) (cap0 : Nat) (xs0 : List (List Int)) (a1 : Option Addr) (cap1 : Nat) (xs1 : List Int) (w : World) (hl0 : xs0.length ≤ maxLen) (hl1 : xs1.length ≤ maxLen) (hi0 : NR.RowsAt w a0 xs0) (hi1 : M4.IntsAt w a1 xs1) :
    Calls Try.prog 6 #[PG.pv l r (.slice a0 xs0.length cap0), .slice a1 xs1.length cap1] w fun e w' => e = .returned (.bool true) ∧ Below w.heap.size w w' :=
  lawImproveMatch_any l r a0 cap0 xs0 a1 cap1 xs1 ((PG.impL l r xs0 xs1).getD []) (by have := PG.impL_len l r xs0 xs1; omega) (PG.impL l r xs0 xs1).isSome
    (fun h1 h2 h3 g g1 W h h' => specImp_any l r (some ⟨g, 0, none⟩) (some ⟨g1, 0, none⟩) _ _ xs0 xs1 W h1 h3 h2 (Nat.le_refl _) h h' _ rfl)
    (fun h1 h2 h3 g g1 W h h' => implImp_any l r (some ⟨g, 0, none⟩) _ _ g1 xs0 xs1 W h1 h3 h2 (Nat.le_refl _) h h' _ rfl) w hl0 hl1 hi0 hi1
end Go.Proofs.Ytlcdimiookaefaa
