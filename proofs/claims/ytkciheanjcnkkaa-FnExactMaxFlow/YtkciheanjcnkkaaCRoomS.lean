/- How much more a pipe bears from a node: l8Room of the specification. -/
import Derived.Test.YtkciheanjcnkkaaRows
import Derived.Test.YtkciheanjcnkkaaMFS
import Derived.Test.YtkciheanjcnkkaaMRetB
import Derived.Test.YtkciheanjcnkkaaMCur
import Derived.WalkKit
import Derived.WalkSpells
import Derived.WalkLawsBesides
import Derived.Outline
import Derived.Deep.QuietTactic
import Derived.BigQuiet
namespace Go.Proofs.Ytkciheanjcnkkaa
open Go.RowKit
set_option linter.unusedSimpArgs false in
set_option maxHeartbeats 1600000 in
set_option maxRecDepth 100000 in
theorem l8Room_any (c : I3) (v n : Int) (w : World) (hg : FL.Good c) (hv0 : 0 ≤ v) (hv1 : v ≤ 100) :
    Calls Try.prog 51 #[c.v, .int .i64 v, .int .i64 n] w fun e w' => e = .returned (.tuple #[.int .i64 (FL.rm c v n), .int .i64 (FL.nx c n)]) ∧ Below w.heap.size w w' := by
  obtain ⟨x0, x1, x2⟩ := c
  have hc0 : 0 ≤ x2 := hg.c0
  have hc1 : x2 ≤ 100 := hg.c1
  clear hg
  have HB : Hid (∀ o, Below w.heap.size w (w.alloc o)) := fun o => (Below.refl _ w).alloc (Nat.le_refl _) o
  obtain ⟨R, hR⟩ : ∃ R, FL.rm ⟨x0, x1, x2⟩ v n = R := ⟨_, rfl⟩
  obtain ⟨T, hT⟩ : ∃ T, FL.nx ⟨x0, x1, x2⟩ n = T := ⟨_, rfl⟩
  rw [hR, hT]
  simp only [FL.rm, FL.nx] at hR hT
  by_cases h0 : x0 = n
  · have hF : Hid (R = x2 - v) := by show _ = _; rw [← hR, if_pos h0]
    have hF2 : Hid (T = x1) := by show _ = _; rw [← hT, if_pos h0]
    clear hR hT
    subst h0
    go_enter Try.func51, Try.ntmps51
    go_wp2_with fail
    go_quiet (fail)
    have HB2 : Hid _ := below_drewN (HB.out (.cells #[.int .i64 x0, .int .i64 x1, .int .i64 x2] 44)) nq
    generalize ((w.alloc (.cells #[.int .i64 x0, .int .i64 x1, .int .i64 x2] 44)).drewN nq) = w2 at *
    clear HB
    go_wp2
    go_ret2
    exact ⟨by rw [hF.out, hF2.out]; rfl, HB2.out⟩
  · by_cases h1 : x1 = n
    · have hF : Hid (R = v) := by show _ = _; rw [← hR, if_neg h0, if_pos h1]
      have hF2 : Hid (T = x0) := by show _ = _; rw [← hT, if_neg h0, if_pos h1]
      clear hR hT
      subst h1
      go_enter Try.func51, Try.ntmps51
      go_wp2_with fail
      go_quiet (fail)
      have HB2 : Hid _ := below_drewN (HB.out (.cells #[.int .i64 x0, .int .i64 x1, .int .i64 x2] 44)) nq
      generalize ((w.alloc (.cells #[.int .i64 x0, .int .i64 x1, .int .i64 x2] 44)).drewN nq) = w2 at *
      clear HB
      go_wp2
      go_ret2
      exact ⟨by rw [hF.out, hF2.out]; rfl, HB2.out⟩
    · have hF : Hid (R = 0) := by show _ = _; rw [← hR, if_neg h0, if_neg h1]
      have hF2 : Hid (T = 0) := by show _ = _; rw [← hT, if_neg h0, if_neg h1]
      clear hR hT
      go_enter Try.func51, Try.ntmps51
      go_wp2
      go_ret2
      exact ⟨by rw [hF.out, hF2.out]; rfl, HB.out _⟩
end Go.Proofs.Ytkciheanjcnkkaa
