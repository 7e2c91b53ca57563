/- numbersBelow of the program. -/
import Derived.Test.YtdglialjcibbbaaRows
import Derived.Test.YtdglialjcibbbaaMJT
import Derived.Test.YtdglialjcibbbaaMInfo
import Derived.WalkKit
import Derived.WalkSpells
import Derived.WalkLawsBesides
import Derived.Outline
namespace Go.Proofs.Ytdglialjcibbbaa
open Go.RowKit
set_option linter.unusedSimpArgs false in
set_option maxHeartbeats 800000 in
set_option maxRecDepth 100000 in
theorem numbersBelow_any (n : Nat) (w : World) (hn : n ≤ 1000) :
    Calls Try.prog 58 #[.int .i64 (n : Int)] w fun e w' => ∃ g c1, e = .returned (.slice (some ⟨g, 0, none⟩) n c1) ∧ w'.ownsRow w.heap.size 3 1 (.slice (some ⟨g, 0, none⟩) n c1) n (M4.iv (JD.nums n)) ∧ Below w.heap.size w w' := by
  obtain ⟨i0, hi, hz0, hz1, hz2⟩ := info_parts Try.info3
  have OW0 : Hid (World.ownsRow (w.alloc (.cells #[] 3)) w.heap.size 3 1 (.slice (some ⟨w.heap.size, 0, none⟩) 0 0) 0 (M4.iv (JD.nums 0))) := by
    have := World.ownsRow_lit (base := w.heap.size) (e := 3) (size := 1) w #[] 0 (Nat.le_refl _) (by unfold maxLen; omega) (by simp)
    show World.ownsRow _ _ _ _ _ _ _
    simpa [M4.iv, JD.nums] using this
  go_enter Try.func58, Try.ntmps58
  go_wp2
  go_loopw [3, 4, 7] (fun v _ iv wr => ∃ (k g c : Nat), iv = .int .i64 k ∧ k ≤ n ∧ v = .slice (some ⟨g, 0, none⟩) k c ∧ Hid (World.ownsRow wr w.heap.size 3 1 (.slice (some ⟨g, 0, none⟩) k c) k (M4.iv (JD.nums k))) ∧ Below w.heap.size w wr) (fun _ _ iv _ => (n - intOf iv).toNat)
  case atStart => exact ⟨0, w.heap.size, 0, rfl, by omega, rfl, OW0, (Below.refl _ _).alloc (Nat.le_refl _) _⟩
  case round =>
    clear OW0
    obtain ⟨k, g, c, rfl, hk, rfl, HO, hb⟩ := hrel
    have hbs := hb.size
    by_cases hlk : k < n
    · have kn : (k : Int) < (n : Int) := by omega
      go_wp2_with (at_builtin; go_loud (refine wpList_append_own _ rfl _ _ 24 rfl w.heap.size 3 i0 (.int .i64 0) 1 8 Try.underlying24 hi hz0 hz1 hz2 rfl (by decide) _ _ _ rfl (World.ownsRow.alloc HO.out _) ⟨wr.heap.size, 0, none⟩ 1 1 [.int .i64 (k : Int)] rfl rfl ?c1 ?c2 ?c3 ?c4 ?c5 ?_))
      all_goals try (first | rfl | omega | exact M2.new1 _ _ _ | exact M2.one1 _ _ | (unfold maxLen; omega) | (simp; omega))
      intro v' wn hown1 hgrow _
      have R1 : wn.ownsRow w.heap.size 3 1 v' (k + 1) (M4.iv (JD.nums (k + 1))) := by
        rw [JD.nums_succ]; simpa [M4.iv] using hown1
      have R3 := (hb.alloc hbs _).grown hgrow (by simp; omega) (fun j hj => (HO.out.lt j hj).1)
      obtain ⟨g', c', rfl⟩ : ∃ g' c', v' = .slice (some ⟨g', 0, none⟩) (k + 1) c' := by
        rcases R1.2 with ⟨-, h0⟩ | ⟨g', c', cur, rfl, -⟩
        · omega
        · exact ⟨g', c', rfl⟩
      have HR1 : Hid _ := R1
      clear hown1 hgrow HO R1
      go_wp2
      go_roundw
      case rel => exact ⟨k + 1, g', c', by go_num, by omega, rfl, HR1, R3⟩
      case measure => simp [intOf]; omega
    · obtain rfl : k = n := by omega
      go_wp2
      go_ret
      exact ⟨g, c, rfl, HO.out, hb⟩
end Go.Proofs.Ytdglialjcibbbaa
