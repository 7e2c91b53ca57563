/- The cursor's of: one of some texts. -/
import Derived.Test.YtdgflhgbcfehhaaCPick
import Derived.Laws.OwnMore
namespace Go.Proofs.Ytdgflhgbcfehhaa
open Go.RowKit
/-- Some texts lie at an address. -/
def StrsAt (w : World) (b off : Nat) (xs : List ByteArray) : Prop := b < w.heap.size ∧ ∀ j, j < xs.length → w.cell? ⟨b, off + j, none⟩ = some (.string (xs.getD j ⟨#[]⟩))
set_option maxHeartbeats 800000 in
set_option maxRecDepth 100000 in
theorem of_any (p : Nat) (a : Option Addr) (zs : List Int) (cap M : Nat) (b off : Nat) (xs : List ByteArray) (lc : Nat) (w : World) (hz : zs.length ≤ 140737488355328) (hM : M ≤ 140737488350000) (hc : MC.Cur w p a zs cap M)
    (hx0 : 0 < xs.length) (hx : xs.length ≤ 1048576) (hl : StrsAt w b off xs) (hp : b ≠ p) :
    Calls Try.prog 57 #[.pointer (some ⟨p, 0, none⟩), .slice (some ⟨b, off, none⟩) xs.length lc] w fun e w' => ∃ s : ByteArray, e = .returned (.string s) ∧ s ∈ xs ∧ MC.Cur w' p a zs cap (M + 2) ∧ MC.Only p w w' := by
  go_enter Try.func57, Try.ntmps57
  go_wp2_with fail
  refine (pick_any p a zs cap M _ _ hz hM hc).mono ?_
  rintro e w1 ⟨r, rfl, hr, _, hc1, ho1⟩
  have hr' : r < xs.length := by omega
  have hcell : w1.cell? ⟨b, off + r, none⟩ = some (.string (xs.getD r ⟨#[]⟩)) := (ho1.cell (x := ⟨b, off + r, none⟩) hl.1 hp).trans (hl.2 r hr')
  have hmem : xs.getD r ⟨#[]⟩ ∈ xs := by rw [List.getD_eq_getElem?_getD, List.getElem?_eq_getElem hr']; exact List.getElem_mem hr'
  generalize xs.getD r ⟨#[]⟩ = s at *
  clear hl hp
  go_wp2
  go_ret
  exact ⟨s, rfl, hmem, hc1, ho1⟩
end Go.Proofs.Ytdgflhgbcfehhaa
