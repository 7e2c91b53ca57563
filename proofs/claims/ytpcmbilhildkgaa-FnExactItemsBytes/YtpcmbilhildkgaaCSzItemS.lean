/- The laws' szItemS: a bound on how much the items hold. -/
import Derived.Test.YtpcmbilhildkgaaRows
import Derived.Test.YtpcmbilhildkgaaM11
import Derived.WalkKit
import Derived.WalkSpells
import Derived.WalkLawsBesides
import Derived.Outline
namespace Go.Proofs.Ytpcmbilhildkgaa
open Go.RowKit
set_option maxHeartbeats 800000 in
set_option maxRecDepth 100000 in
theorem szItem_any (x : It) (left : Int) (w : World) (h0 : 0 ≤ left) (h1 : left ≤ 1048576) (hs : x.text.size ≤ maxLen) :
    Calls Try.prog 52 #[x.v, .int .i64 left] w fun e w' => ∃ r : Int, e = .returned (.int .i64 r) ∧ (r = -1 ∨ (r = left - x.text.size ∧ 0 ≤ r)) ∧ Below w.heap.size w w' := by
  obtain ⟨a, b, s, c⟩ := x
  simp only at hs
  unfold maxLen at hs
  by_cases h : left - (s.size : Int) < 0
  · go_enter Try.func52, Try.ntmps52
    go_wp2
    go_ret
    exact ⟨-1, rfl, .inl rfl, (Below.refl _ w).alloc (Nat.le_refl _) _⟩
  · go_enter Try.func52, Try.ntmps52
    go_wp2
    go_ret
    exact ⟨left - s.size, rfl, .inr ⟨rfl, by omega⟩, (Below.refl _ w).alloc (Nat.le_refl _) _⟩
set_option maxHeartbeats 800000 in
set_option maxRecDepth 100000 in
theorem szItemS_any (a : Option Addr) (cap : Nat) (xs : List It) (w : World) (hl : xs.length ≤ maxLen) (ht : Hid (∀ k, k < xs.length → (M11.at_ xs k).text.size ≤ maxLen)) (hin : M11.ItemsAt w a xs) :
    Calls Try.prog 27 #[.slice a xs.length cap, .int .i64 1048576] w fun e w' => ∃ r : Int, e = .returned (.int .i64 r) ∧ (r < 0 ∨ (0 ≤ r ∧ xs.length ≤ 1048576 ∧ Hid (∀ k, k < xs.length → (M11.at_ xs k).text.size ≤ 1048576))) ∧ Below w.heap.size w w' := by
  unfold maxLen at hl
  by_cases h : (1048576 : Int) - xs.length < 0
  · go_enter Try.func27, Try.ntmps27
    go_wp2
    go_ret
    exact ⟨-1, rfl, .inl (by omega), Below.refl _ _⟩
  · have hl2 : xs.length ≤ 1048576 := by omega
    go_enter Try.func27, Try.ntmps27
    go_wp2
    go_loopw [1, 5] (fun lv iv wr => ∃ (k : Nat) (left : Int), lv = .int .i64 left ∧ iv = .int .i64 k ∧ k ≤ xs.length ∧ 0 ≤ left ∧ left ≤ 1048576 ∧ Hid (∀ j, j < k → (M11.at_ xs j).text.size ≤ 1048576) ∧ Below w.heap.size w wr) (fun _ iv _ => (xs.length - intOf iv).toNat)
    case atStart => exact ⟨0, _, rfl, rfl, by omega, by omega, by omega, show Hid _ from fun j hj => by omega, Below.refl _ _⟩
    case round =>
      obtain ⟨k, left, rfl, rfl, hk, hl0, hl1, hT, hb⟩ := hrel
      by_cases hlk : k < xs.length
      · obtain ⟨b, off, rfl, hlt, c0, c1, c2, c3⟩ := (hin.below hb).at hlk
        have hts := ht.out k hlk
        have HS : Hid _ := fun (h : (M11.at_ xs k).text.size ≤ 1048576) j (hj : j < k + 1) => (if e : j = k then e ▸ h else hT.out j (by omega) : (M11.at_ xs j).text.size ≤ 1048576)
        clear hT hin
        generalize M11.at_ xs k = x at *
        obtain ⟨x0, x1, x2, x3⟩ := x
        have SZ : Hid _ := fun W => szItem_any ⟨x0, x1, x2, x3⟩ left W hl0 hl1 hts
        clear hts
        go_wp2_with fail
        refine (SZ.out _).mono ?_
        rintro e w2 ⟨r, rfl, hr, hb2⟩
        have hB2 := hb.trans (hb2.mono hb.size)
        clear hb2 hb SZ c0 c1 c2 c3
        rcases hr with rfl | ⟨rfl, hr⟩
        · go_wp2
          go_ret
          exact ⟨-1, rfl, .inl (by omega), hB2⟩
        · have HS2 : Hid _ := HS.out (by omega)
          clear HS
          go_wp2
          go_roundw
          case rel => exact ⟨k + 1, _, rfl, by go_num, by omega, by omega, by omega, HS2, hB2⟩
          case measure => simp [intOf]; omega
      · obtain rfl : k = xs.length := by omega
        clear hin
        go_wp2
        go_ret
        exact ⟨left, rfl, .inr ⟨hl0, hl2, hT⟩, hb⟩
end Go.Proofs.Ytpcmbilhildkgaa
