/- Talks: the bytes of one where nothing came; the rows of empty links. -/
import Derived.Test.YtjlombnjmpejjaaRows
import Derived.Test.YtjlombnjmpejjaaCS3
import Derived.Test.YtjlombnjmpejjaaM9
import Derived.WalkKit
import Derived.WalkSpells
import Derived.WalkLawsBesides
import Derived.Outline
namespace Go.Proofs.Ytjlombnjmpejjaa
open Go.RowKit
theorem Try.infoU8 : (Try.prog.info? 5).map (fun i => (i.zero, i.size, i.bytes)) = some (some (.int .u8 0), 1, 1) := by kernel_rfl
/-- Bytes 0. -/
def zS (n : Nat) : ByteArray := ⟨(List.replicate n (0 : UInt8)).toArray⟩
set_option linter.unusedSimpArgs false in
set_option maxHeartbeats 800000 in
set_option maxRecDepth 100000 in
theorem bytes0_any (k : Nat) (b : ByteArray) (w : World) (hs : b.size ≤ 40) (hc : w.cell? ⟨k, 0, none⟩ = some (.string b)) (hk : k < w.heap.size) (hg : ∀ j, j < 5 → w.cell? ⟨k, 6 + j, none⟩ = some (.bool false)) :
    Calls Try.prog 78 #[.pointer (some ⟨k, 0, none⟩)] w fun e w' => e = .returned (.string (zS b.size)) ∧ Below w.heap.size w w' := by
  have hm := SE.many_le hs
  have MN : Hid (∀ W : World, W.cell? ⟨k, 0, none⟩ = some (.string b) → Calls Try.prog 118 #[.pointer (some ⟨k, 0, none⟩)] W fun e w' => e = .returned (.int .i64 (SE.many b : Int)) ∧ W = w') := fun W h => many_any k b W (by omega) h
  obtain ⟨i0, hi, hz0, hz1, hz2⟩ := info_parts Try.infoU8
  have HG : Hid (∀ j, j < 5 → w.cell? ⟨k, 6 + j, none⟩ = some (.bool false)) := hg
  clear hg
  generalize SE.many b = n at *
  go_enter Try.func78, Try.ntmps78
  go_wp2_with (at_make; refine wpList_make_full _ rfl _ _ 104 rfl w.heap.size 5 i0 (.int .u8 0) 1 Try.underlying104 hi hz0 hz1 .i64 .i64 _ _ b.size rfl rfl rfl rfl ?_ ?_ ?_ ?_)
  · rw [hz2]; omega
  · unfold maxLen; omega
  · simp
  intro w1 hown1 hgrow1
  have hb1 : Below w.heap.size w w1 := (Below.refl _ w).grown hgrow1 (Nat.le_refl _) (fun k hk => by cases hk)
  have c1 : w1.cell? ⟨k, 0, none⟩ = some (.string b) := (hb1.cell (p := ⟨k, 0, none⟩) hk).trans hc
  replace HG : Hid (∀ j, j < 5 → w1.cell? ⟨k, 6 + j, none⟩ = some (.bool false)) := fun j hj => (hb1.cell (p := ⟨k, 6 + j, none⟩) hk).trans (HG.out j hj)
  have hown2 : w1.ownsRow w.heap.size 5 1 (.slice (some ⟨w.heap.size, 0, none⟩) b.size b.size) (List.replicate b.size (0 : UInt8)).length (M2.bv (List.replicate b.size 0)) := by
    rw [List.length_replicate, ← M9.made_bv]
    simpa using hown1
  have hcv := M2.conv_own (P := Try.prog) 104 9 5 Try.underlying104 Try.underlying5 Try.underlying9 hown2
  have HCV : Hid ((convert 104 9 (.slice (some ⟨w.heap.size, 0, none⟩) b.size b.size)).run Try.prog w1 = .ok (.string (zS b.size)) w1) := hcv
  clear hown1 hown2 hcv hgrow1 hc hi hz0 hz1 hz2
  go_wp2_with fail
  refine (MN.out _ c1).mono ?_
  rintro e w2 ⟨rfl, rfl⟩
  clear MN c1
  go_wp2
  go_loopw [4, 13] (fun _ iv wr => ∃ j : Nat, iv = .int .i64 j ∧ j ≤ n ∧ Hid (w1 = wr)) (fun _ iv _ => (n - intOf iv).toNat)
  case atStart => exact ⟨0, rfl, by omega, rfl⟩
  case round =>
    obtain ⟨j, rfl, hj, HW⟩ := hrel
    obtain rfl := HW.out
    by_cases hl : j < n
    · have hj0 : (0 : Int) ≤ (j : Int) := by omega
      have hj1 : (j : Int) < 5 := by omega
      have hjn : (j : Int) < (n : Int) := by omega
      have c := HG.out j (by omega)
      clear HG HCV
      go_wp2
      go_roundw
      case rel => exact ⟨j + 1, by go_num, by omega, trivial⟩
      case measure => simp [intOf]; omega
    · obtain rfl : j = n := by omega
      have hcv := HCV.out
      clear HG HCV
      go_wp2
      go_ret
      exact ⟨rfl, hb1⟩
theorem Try.infoA : (Try.prog.info? 141).map (fun i => (i.zero, i.size, i.bytes)) = some (some (.agg #[.int .i64 0, .bool false]), 2, 16) := by kernel_rfl
set_option linter.unusedSimpArgs false in
set_option maxHeartbeats 800000 in
set_option maxRecDepth 100000 in
theorem rowA_nil (c s r : Nat) (w : World) (hc : w.heap[c]? = some (.chan 30 #[] false s r false)) :
    Calls Try.prog 96 #[.chan (some c)] w fun e w' => (∃ a, e = .returned (.slice a 0 0)) ∧ Below w.heap.size w w' := by
  obtain ⟨i0, hi, hz0, hz1, hz2⟩ := info_parts Try.infoA
  have hlen : ∀ ty, (Builtin.len_ #[127] ty #[.chan (some c)]).run Try.prog w = .ok (.int .i64 0) w := fun ty => by
    have := Go.Conc.run_len_chan (P := Try.prog) 127 ty Try.underlying127 hc
    simpa [goInt] using this
  go_enter Try.func96, Try.ntmps96
  go_wp2_with (at_make; refine wpList_make_full _ rfl _ _ 145 rfl w.heap.size 141 i0 (.agg #[.int .i64 0, .bool false]) 2 Try.underlying145 hi hz0 hz1 .i64 .i64 _ _ 0 rfl rfl rfl rfl ?_ ?_ ?_ ?_)
  · simp
  · simp
  · simp
  intro w1 hown1 hgrow1
  have hb1 : Below w.heap.size w w1 := (Below.refl _ w).grown hgrow1 (Nat.le_refl _) (fun k hk => by cases hk)
  clear hown1 hgrow1 hlen
  go_wp2
  go_loopw [4, 10] (fun _ iv wr => iv = .int .i64 0 ∧ Hid (w1 = wr)) (fun _ _ _ => 0)
  case atStart => exact ⟨rfl, rfl⟩
  case round =>
    obtain ⟨rfl, HW⟩ := hrel
    obtain rfl := HW.out
    clear HW
    go_wp2
    go_ret
    exact ⟨⟨_, rfl⟩, hb1⟩
theorem Try.infoB : (Try.prog.info? 125).map (fun i => (i.zero, i.size, i.bytes)) = some (some (.agg #[.bool false, .bool false, .bool false, .bool false, .bool false]), 5, 5) := by kernel_rfl
set_option linter.unusedSimpArgs false in
set_option maxHeartbeats 800000 in
set_option maxRecDepth 100000 in
theorem rowB_nil (c s r : Nat) (w : World) (hc : w.heap[c]? = some (.chan 30 #[] false s r false)) :
    Calls Try.prog 98 #[.chan (some c)] w fun e w' => (∃ a, e = .returned (.slice a 0 0)) ∧ Below w.heap.size w w' := by
  obtain ⟨i0, hi, hz0, hz1, hz2⟩ := info_parts Try.infoB
  have hlen : ∀ ty, (Builtin.len_ #[129] ty #[.chan (some c)]).run Try.prog w = .ok (.int .i64 0) w := fun ty => by
    have := Go.Conc.run_len_chan (P := Try.prog) 129 ty Try.underlying129 hc
    simpa [goInt] using this
  go_enter Try.func98, Try.ntmps98
  go_wp2_with (at_make; refine wpList_make_full _ rfl _ _ 148 rfl w.heap.size 125 i0 (.agg #[.bool false, .bool false, .bool false, .bool false, .bool false]) 5 Try.underlying148 hi hz0 hz1 .i64 .i64 _ _ 0 rfl rfl rfl rfl ?_ ?_ ?_ ?_)
  · simp
  · simp
  · simp
  intro w1 hown1 hgrow1
  have hb1 : Below w.heap.size w w1 := (Below.refl _ w).grown hgrow1 (Nat.le_refl _) (fun k hk => by cases hk)
  clear hown1 hgrow1 hlen
  go_wp2
  go_loopw [4, 10] (fun _ iv wr => iv = .int .i64 0 ∧ Hid (w1 = wr)) (fun _ _ _ => 0)
  case atStart => exact ⟨rfl, rfl⟩
  case round =>
    obtain ⟨rfl, HW⟩ := hrel
    obtain rfl := HW.out
    clear HW
    go_wp2
    go_ret
    exact ⟨⟨_, rfl⟩, hb1⟩
end Go.Proofs.Ytjlombnjmpejjaa
