/- firstMarks: the first places marked. -/
import Derived.Test.YtdgflhgbcfehhaaRows
import Derived.Test.YtdgflhgbcfehhaaCInfoSheet
import Derived.WalkKit
import Derived.WalkSpells
import Derived.WalkLawsBesides
import Derived.Outline
namespace Go.Proofs.Ytdgflhgbcfehhaa
open Go.RowKit
set_option maxHeartbeats 800000 in
set_option maxRecDepth 100000 in
theorem firstMarks_any (n : Nat) (w : World) (hn : n ≤ 60) :
    Calls Try.prog 66 #[.int .i64 (n : Int)] w fun e w' => e = .returned (.agg (MA.tF fun p => decide (p < n)).toArray) ∧ Below w.heap.size w w' := by
  go_enter Try.func66, Try.ntmps66
  go_wp2_with (refine MA.alloc_z rfl 69 rfl _ _ Try.infoMarks ?_)
  have r0 : MA.Rg ((w.alloc (.cells (MA.tF fun _ => false).toArray 69)).alloc (.cells (MA.tF fun _ => false).toArray 69)) w.heap.size 0 (MA.tF fun _ => false) := (MA.Rg.new w _ _).alloc _
  have r1 : MA.Rg ((w.alloc (.cells (MA.tF fun _ => false).toArray 69)).alloc (.cells (MA.tF fun _ => false).toArray 69)) (w.heap.size + 1) 0 (MA.tF fun p => decide (p < 0)) := by
    have := MA.Rg.new (w.alloc (.cells (MA.tF fun _ => false).toArray 69)) (MA.tF fun _ => false) 69
    have e : (MA.tF fun p => decide (p < 0)) = MA.tF fun _ => false := MA.tF_ext fun p _ => by simp
    rw [e]
    simpa using this
  have hb : Below w.heap.size w ((w.alloc (.cells (MA.tF fun _ => false).toArray 69)).alloc (.cells (MA.tF fun _ => false).toArray 69)) := ((Below.refl _ w).alloc (Nat.le_refl _) _).alloc (by simp) _
  go_loopw [6] (fun iv wr => ∃ k : Nat, iv = .int .i64 k ∧ k ≤ n ∧ MA.Rg wr w.heap.size 0 (MA.tF fun _ => false) ∧ MA.Rg wr (w.heap.size + 1) 0 (MA.tF fun p => decide (p < k)) ∧ Below w.heap.size w wr) (fun iv _ => (n - intOf iv).toNat)
  case atStart => exact ⟨0, rfl, by omega, r0, r1, hb⟩
  case round =>
    clear r0 r1 hb
    obtain ⟨k, rfl, hk, r0, r1, hb⟩ := hrel
    by_cases hl : k < n
    · have c0 : wr.cell? ⟨w.heap.size + 1, k, none⟩ = some (.bool (decide (k < k))) := by have := r1.cell (MA.tF_get _ (p := k) (by omega)); rwa [Nat.zero_add] at this
      have f0 : wr.frozen? ⟨w.heap.size + 1, k, none⟩ = false := by have := r1.free (j := k) (by rw [MA.tF_len]; omega); rwa [Nat.zero_add] at this
      have hk0 : (0 : Int) ≤ (k : Int) := by omega
      have hk1 : (k : Int) < 60 := by omega
      have q1 := r1.put1 (j := k) (by rw [MA.tF_len]; omega) (.bool true)
      rw [MA.tF_set, MA.tF_ext (f' := fun p => decide (p < k + 1)) (fun p _ => by by_cases e : p = k <;> simp [e]; omega), Nat.zero_add] at q1
      have q0 := r0.other (k' := w.heap.size + 1) (o' := k) (vs := [.bool true]) (.inl (by omega))
      have q2 := hb.setCell (p := ⟨w.heap.size + 1, k, none⟩) (by simp) (.bool true)
      clear r0 r1 hb
      go_wp2
      go_roundw
      case rel => exact ⟨k + 1, by go_num, by omega, q0, q1, q2⟩
      case measure => simp [intOf]; omega
    · obtain rfl : k = n := by omega
      go_wp2_with (first | refine MA.load_m rfl 69 _ rfl rfl r1 Try.underlying69 rfl Try.sizeMarks (MA.tF_len _) ?_ | refine MA.store_m rfl 69 _ _ rfl rfl rfl r0 Try.sizeMarks (MA.tF_len _) (MA.tF_len _) (MA.tF_one _) ?_)
      refine bodyPost_ret (MA.ret_cell rfl rfl (MA.load_rg (r0.put (by rw [MA.tF_len, MA.tF_len])) Try.underlying69 rfl Try.sizeMarks (MA.tF_len _))) rfl ⟨rfl, ?_⟩
      exact MA.below_cells (Nat.le_refl _) _ _ _ hb
end Go.Proofs.Ytdgflhgbcfehhaa
