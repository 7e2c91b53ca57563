/- Members: areMembers of the program. -/
import Derived.Test.YtjplabldiheggaaRows
import Derived.Test.YtjplabldiheggaaMGp
import Derived.Test.YtjplabldiheggaaCRiseI
import Derived.WalkKit
import Derived.WalkSpells
import Derived.WalkLawsBesides
import Derived.Outline
import Derived.Deep.QuietTactic
import Derived.BigQuiet
namespace Go.Proofs.Ytjplabldiheggaa
open Go.RowKit
set_option maxHeartbeats 1600000 in
set_option maxRecDepth 100000 in
theorem areMembers_any (b : Option Addr) (cb : Nat) (os : List Int) (w : World) (ho : os.length ≤ 1048576) (hos : M4.IntsAt w b os) (R : Bool) (hR : Hid (EG.rises 8 os = R)) :
    Calls Try.prog 21 #[.slice b os.length cb] w fun e w' => e = .returned (.bool R) ∧ w = w' := by
  have SP : Hid (Calls Try.prog 54 #[.slice b os.length cb, .int .i64 7] w fun e w' => e = .returned (.bool R) ∧ w = w') := areRising_any b cb 8 os w (by omega) ho hos R hR
  have HL : Hid (8 < os.length → R = false) := fun h => by rw [← hR.out]; exact GP.rises_long h
  clear hos hR
  generalize os.length = n at *
  go_enter Try.func21, Try.ntmps21
  by_cases h8 : n ≤ 8
  · have h1 : decide (n ≤ 8) = true := by simp [h8]
    go_wp2_with fail
    refine Calls.mono SP.out ?_
    rintro e w2 ⟨rfl, rfl⟩
    clear SP HL
    go_wp2
    go_ret
    exact ⟨rfl, rfl⟩
  · have h1 : decide (n ≤ 8) = false := by simp; omega
    have hF := HL.out (by omega)
    subst hF
    clear SP HL
    go_wp2
    go_ret
    exact ⟨rfl, rfl⟩
end Go.Proofs.Ytjplabldiheggaa
