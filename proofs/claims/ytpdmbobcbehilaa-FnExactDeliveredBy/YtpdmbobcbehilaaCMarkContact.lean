/- The laws' markContactS writes into one row alone. -/
import Derived.Test.YtpdmbobcbehilaaRows
import Derived.Test.YtpdmbobcbehilaaMI5
import Derived.Test.YtpdmbobcbehilaaMCur
import Derived.WalkKit
import Derived.WalkSpells
import Derived.WalkLawsBesides
import Derived.Outline
namespace Go.Proofs.Ytpdmbobcbehilaa
open Go.RowKit
set_option maxHeartbeats 1600000 in
set_option maxRecDepth 100000 in
theorem markContactS_only (base g n : Nat) (k : Int) (w : World) (hz : n ≤ 1048576) (hk0 : 0 ≤ k) (hk : k ≤ 1073741824) (hown : ∃ vs, w.ownsRow base 50 5 (.slice (some ⟨g, 0, none⟩) n n) n vs) :
    Calls Try.prog 16 #[.slice (some ⟨g, 0, none⟩) n n, .int .i64 k] w fun e w' => e = .returned (.int .i64 (k + 5 * n)) ∧ MC.Only g w w' := by
  go_enter Try.func16, Try.ntmps16
  go_wp2
  go_loopw [1, 5] (fun kv iv wr => ∃ i : Nat, kv = .int .i64 (k + 5 * i) ∧ iv = .int .i64 i ∧ i ≤ n ∧ (∃ vs, wr.ownsRow base 50 5 (.slice (some ⟨g, 0, none⟩) n n) n vs) ∧ MC.Only g w wr) (fun _ iv _ => (n - intOf iv).toNat)
  case atStart => exact ⟨0, by simp, rfl, by omega, hown, MC.Only.refl _ _⟩
  case round =>
    clear hown
    obtain ⟨i, rfl, rfl, hi, ⟨vs, hown⟩, hO⟩ := hrel
    by_cases hl : i < n
    · have hlen := hown.1
      obtain ⟨y0, q0⟩ : ∃ y, wr.cell? ⟨g, i * 5, none⟩ = some y := MI5.some_at hown _ (by omega)
      obtain ⟨y1, q1⟩ : ∃ y, wr.cell? ⟨g, i * 5 + 1, none⟩ = some y := MI5.some_at hown _ (by omega)
      obtain ⟨y2, q2⟩ : ∃ y, wr.cell? ⟨g, i * 5 + 2, none⟩ = some y := MI5.some_at hown _ (by omega)
      obtain ⟨y3, q3⟩ : ∃ y, wr.cell? ⟨g, i * 5 + 3, none⟩ = some y := MI5.some_at hown _ (by omega)
      obtain ⟨y4, q4⟩ : ∃ y, wr.cell? ⟨g, i * 5 + 4, none⟩ = some y := MI5.some_at hown _ (by omega)
      have z0 := hown.frozenAt (i * 5)
      have z1 := hown.frozenAt (i * 5 + 1)
      have z2 := hown.frozenAt (i * 5 + 2)
      have z3 := hown.frozenAt (i * 5 + 3)
      have z4 := hown.frozenAt (i * 5 + 4)
      have s0 := World.ownsRow.stored hown (i * 5) (.int .i64 (k + 5 * i))
      have s1 := s0.1.stored (i * 5 + 1) (.int .i64 (k + 5 * i + 1))
      have s2 := s1.1.stored (i * 5 + 2) (.int .i64 (k + 5 * i + 1 + 1))
      have s3 := s2.1.stored (i * 5 + 3) (.int .i64 (k + 5 * i + 1 + 1 + 1))
      have s4 := s3.1.stored (i * 5 + 4) (.int .i64 (k + 5 * i + 1 + 1 + 1 + 1))
      have R1 := s4.1
      have R2 := (((((hO.setCell (i * 5) (.int .i64 (k + 5 * i))).setCell (i * 5 + 1) (.int .i64 (k + 5 * i + 1))).setCell (i * 5 + 2) (.int .i64 (k + 5 * i + 1 + 1))).setCell (i * 5 + 3) (.int .i64 (k + 5 * i + 1 + 1 + 1))).setCell (i * 5 + 4) (.int .i64 (k + 5 * i + 1 + 1 + 1 + 1)))
      clear s0 s1 s2 s3 s4 hown hO hlen
      go_wp2
      go_roundw
      case rel => exact ⟨i + 1, by go_num, by go_num, by omega, ⟨_, R1⟩, R2⟩
      case measure => simp [intOf]; omega
    · obtain rfl : i = n := by omega
      clear hown
      go_wp2
      go_ret
      exact ⟨rfl, hO⟩
end Go.Proofs.Ytpdmbobcbehilaa
