/- The walk of the cursor's among: one of some numbers. -/
import Derived.Test.YtdgflhgbcfehhaaCPick
namespace Go.Proofs.Ytdgflhgbcfehhaa
open Go.RowKit
set_option maxHeartbeats 800000 in
set_option maxRecDepth 100000 in
theorem among_any (p : Nat) (a : Option Addr) (zs : List Int) (cap M : Nat) (l : Option Addr) (xs : List Int) (lc : Nat) (w : World) (hz : zs.length ≤ 140737488355328) (hM : M ≤ 140737488350000) (hc : MC.Cur w p a zs cap M)
    (hx0 : 0 < xs.length) (hx : xs.length ≤ 1048576) (hl : M4.IntsAt w l xs) (hp : ∀ b off, l = some ⟨b, off, none⟩ → b ≠ p) :
    Calls Try.prog 29 #[.pointer (some ⟨p, 0, none⟩), .slice l xs.length lc] w fun e w' => ∃ z : Int, e = .returned (.int .i64 z) ∧ z ∈ xs ∧ MC.Cur w' p a zs cap (M + 2) ∧ MC.Only p w w' := by
  go_enter Try.func29, Try.ntmps29
  go_wp2_with fail
  refine (pick_any p a zs cap M _ _ hz hM hc).mono ?_
  rintro e w1 ⟨r, rfl, hr, _, hc1, ho1⟩
  have hr' : r < xs.length := by omega
  obtain ⟨b, off, rfl, hlt, hcell⟩ := (ho1.ints hl hp).at hr'
  have hmem : xs.getD r 0 ∈ xs := by rw [List.getD_eq_getElem?_getD, List.getElem?_eq_getElem hr']; exact List.getElem_mem hr'
  generalize xs.getD r 0 = z at *
  clear hl hp
  go_wp2
  go_ret
  exact ⟨z, rfl, hmem, hc1, ho1⟩
end Go.Proofs.Ytdgflhgbcfehhaa
