/- The laws' markIntS writes into one row alone. -/
import Derived.Test.YtpdmbobcbehilaaRows
import Derived.Test.YtpdmbobcbehilaaM5
import Derived.Test.YtpdmbobcbehilaaMCur
import Derived.WalkKit
import Derived.WalkSpells
import Derived.WalkLawsBesides
import Derived.Outline
namespace Go.Proofs.Ytpdmbobcbehilaa
open Go.RowKit
set_option maxHeartbeats 800000 in
set_option maxRecDepth 100000 in
theorem markIntS_only (base g n : Nat) (k : Int) (w : World) (hz : n ≤ 1048576) (hk0 : 0 ≤ k) (hk : k ≤ 1073741824) (hown : ∃ vs, w.ownsRow base 3 1 (.slice (some ⟨g, 0, none⟩) n n) n vs) :
    Calls Try.prog 17 #[.slice (some ⟨g, 0, none⟩) n n, .int .i64 k] w fun e w' => e = .returned (.int .i64 (k + n)) ∧ MC.Only g w w' := by
  go_enter Try.func17, Try.ntmps17
  go_wp2
  go_loopw [1, 5] (fun kv iv wr => ∃ i : Nat, kv = .int .i64 (k + i) ∧ iv = .int .i64 i ∧ i ≤ n ∧ (∃ vs, wr.ownsRow base 3 1 (.slice (some ⟨g, 0, none⟩) n n) n vs) ∧ MC.Only g w wr) (fun _ iv _ => (n - intOf iv).toNat)
  case atStart => exact ⟨0, by simp, rfl, by omega, hown, MC.Only.refl _ _⟩
  case round =>
    clear hown
    obtain ⟨i, rfl, rfl, hi, ⟨vs, hown⟩, hO⟩ := hrel
    by_cases hl : i < n
    · have hlen := hown.1
      have hcell : ∃ u, wr.cell? ⟨g, i, none⟩ = some u := by
        rw [hown.cellAt i (by omega)]
        exact ⟨_, List.getElem?_eq_getElem (by omega)⟩
      obtain ⟨u, hcell⟩ := hcell
      have hfz := hown.frozenAt i
      have hst := hown.stored i (.int .i64 (k + i))
      have R1 := hst.1
      have R2 := hO.setCell i (.int .i64 (k + i))
      clear hst hown hlen hO
      go_wp2
      go_roundw
      case rel => exact ⟨i + 1, by go_num, by go_num, by omega, ⟨_, R1⟩, R2⟩
      case measure => simp [intOf]; omega
    · obtain rfl : i = n := by omega
      clear hown
      go_wp2
      go_ret
      exact ⟨rfl, hO⟩
end Go.Proofs.Ytpdmbobcbehilaa
