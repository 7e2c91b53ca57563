/- Draws of plans: whenTo. -/
import Derived.Test.YtdimdhiknjimaaaRows
import Derived.Test.YtdimdhiknjimaaaCPlanD
namespace Go.Proofs.Ytdimdhiknjimaaa
open Go.RowKit
set_option linter.unusedSimpArgs false in
set_option maxHeartbeats 1600000 in
set_option maxRecDepth 100000 in
theorem whenTo_any (p : Nat) (a : Option Addr) (zs : List Int) (cap M : Nat) (w : World) (hz : zs.length ≤ 140737488355328) (hM : M ≤ 140737488340000) (hc : MC.Cur w p a zs cap M) :
    Calls Try.prog 12 #[.pointer (some ⟨p, 0, none⟩)] w fun e w' => ∃ z : Int, e = .returned (.int .i64 z) ∧ (-1 ≤ z ∧ z ≤ 1001) ∧ MC.Cur w' p a zs cap (M + 4) ∧ MC.Only p w w' := by
  have hplt := hc.lt
  go_enter Try.func12, Try.ntmps12
  go_wp2_with fail
  refine (one_any p a zs cap M _ _ hz (by omega) hc).mono ?_
  rintro e w1 ⟨b, rfl, hc1, ho1⟩
  have hs1 := ho1.size
  clear hc
  cases b with
  | false =>
    go_wp2_with fail
    refine (pick_any p a zs cap (M + 2) _ _ hz (by omega) hc1).mono ?_
    rintro e w2 ⟨r, rfl, hr, _, hc2, ho2⟩
    have hr5 : r < 50 := by omega
    have hoA := ho1.trans ho2
    clear ho1 ho2 hc1 hr
    go_wp2
    go_ret
    exact ⟨r, rfl, ⟨by omega, by omega⟩, hc2, hoA⟩
  | true =>
    go_wp2_with fail
    refine (among_any p a zs cap (M + 2) (some ⟨w1.heap.size, 0, none⟩) [-1, 1000, 1001] 3 _ hz (by omega) (hc1.alloc _) (by simp) (by simp) ?_ ?_).mono ?_
    · exact .inr ⟨w1.heap.size, 0, rfl, by simp, fun j hj => by
        rw [Nat.zero_add]
        have h3 : j < 3 := hj
        rcases (show j = 0 ∨ j = 1 ∨ j = 2 by omega) with rfl | rfl | rfl <;> exact World.cell?_alloc_at _ _ _ _ (by rfl)⟩
    · intro b off hb; cases hb; have := hc1.lt; omega
    rintro e w2 ⟨z, rfl, hz2, hc2, ho2⟩
    have hoA := (ho1.alloc (.cells #[.int .i64 (-1), .int .i64 1000, .int .i64 1001] 3)).trans ho2
    have hzz : -1 ≤ z ∧ z ≤ 1001 := by simp at hz2; omega
    clear ho1 ho2 hc1 hz2
    go_wp2
    go_ret
    exact ⟨z, rfl, hzz, hc2, hoA⟩
end Go.Proofs.Ytdimdhiknjimaaa
