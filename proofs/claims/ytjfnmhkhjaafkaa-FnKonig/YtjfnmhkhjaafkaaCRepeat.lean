/- slices.Repeat of a row of one number, at most eight times. -/
import Derived.Test.YtjfnmhkhjaafkaaRows
import Derived.Test.YtjfnmhkhjaafkaaMCur
import Derived.Test.YtjfnmhkhjaafkaaM4
import Derived.Test.YtjfnmhkhjaafkaaMInfo
import Derived.Test.YtjfnmhkhjaafkaaMRP
import Derived.Deep.OwnRows
import Derived.Laws.CopyRow
import Derived.WalkKit
import Derived.WalkSpells
import Derived.WalkLawsBesides
import Derived.Outline
namespace Go.Proofs.Ytjfnmhkhjaafkaa
open Go.RowKit
set_option maxHeartbeats 1600000 in
set_option maxRecDepth 100000 in
theorem mul64_any (n : Nat) (w : World) (hn : n ≤ 8) :
    Calls Try.prog 61 #[.int .u64 1, .int .u64 (n : Int)] w fun e w' => e = .returned (.tuple #[.int .u64 0, .int .u64 (n : Int)]) ∧ w = w' := by
  have h : n = 0 ∨ n = 1 ∨ n = 2 ∨ n = 3 ∨ n = 4 ∨ n = 5 ∨ n = 6 ∨ n = 7 ∨ n = 8 := by omega
  clear hn
  rcases h with rfl | rfl | rfl | rfl | rfl | rfl | rfl | rfl | rfl
  all_goals (
    go_enter Try.func61, Try.ntmps61
    go_wp2
    go_ret2
    exact ⟨rfl, rfl⟩)
set_option maxHeartbeats 1600000 in
set_option maxRecDepth 100000 in
theorem mul_any (n : Nat) (w : World) (hn : n ≤ 8) :
    Calls Try.prog 55 #[.int .u64 1, .int .u64 (n : Int)] w fun e w' => e = .returned (.tuple #[.int .u64 0, .int .u64 (n : Int)]) ∧ w = w' := by
  have M : Hid _ := mul64_any n w hn
  go_enter Try.func55, Try.ntmps55
  go_wp2_with fail
  refine Calls.mono M.out ?_
  rintro e w1 ⟨rfl, rfl⟩
  clear M
  go_wp2
  go_ret2
  exact ⟨rfl, rfl⟩
namespace RP
/-- k are there, the others are still naught. -/
def rp (x : Int) (n k : Nat) : List Value := List.replicate k (.int .i64 x) ++ List.replicate (n - k) (.int .i64 0)
theorem rp_len {x : Int} {n k : Nat} (h : k ≤ n) : (rp x n k).length = n := by simp [rp]; omega
theorem rp_get {x : Int} {n k j : Nat} (h : j < k) : (rp x n k)[j]? = some (.int .i64 x) := by simp [rp, List.getElem?_append_left, h]
theorem rp_copy {x : Int} {n k m : Nat} (_hm : k + m ≤ n) : (rp x n k).take k ++ List.replicate m (.int .i64 x) ++ (rp x n k).drop (k + m) = rp x n (k + m) := by
  have e1 : (rp x n k).take k = List.replicate k (.int .i64 x) := by simp [rp]
  have e2 : (rp x n k).drop (k + m) = List.replicate (n - (k + m)) (.int .i64 0) := by simp [rp, List.drop_append]; omega
  rw [e1, e2, rp, List.replicate_append_replicate]
theorem rp_all (x : Int) (n : Nat) : rp x n n = M4.iv (List.replicate n x) := by simp [rp, M4.iv]
end RP
set_option linter.unusedSimpArgs false in
set_option maxHeartbeats 3200000 in
set_option maxRecDepth 100000 in
theorem repeat_any (g c : Nat) (x : Int) (n : Nat) (w : World) (hn : n ≤ 8) (hn1 : 1 ≤ n) (hg : g < w.heap.size) (hc : w.cell? ⟨g, 0, none⟩ = some (.int .i64 x)) :
    Calls Try.prog 47 #[.slice (some ⟨g, 0, none⟩) 1 c, .int .i64 (n : Int)] w fun e w' => ∃ a, e = .returned (.slice (some ⟨a, 0, none⟩) n n) ∧ w'.ownsRow w.heap.size 3 1 (.slice (some ⟨a, 0, none⟩) n n) n (M4.iv (List.replicate n x)) ∧ Below w.heap.size w w' := by
  have ML : Hid _ := mul_any n w hn
  have MK : Hid (∀ W : World, (Instr.makeSlice 27 (.int .i64 (n : Int)) (.int .i64 (n : Int))).run Try.prog W = .ok (.slice (some ⟨W.heap.size, 0, none⟩) n n) (W.alloc (.cells (madeCells #[.int .i64 0] n) 3))) := fun W => run_make_row' 27 3 (.int .i64 0) 8 Try.underlying27 Try.info3 rfl .i64 .i64 n (by omega) (by omega) W
  have one : (Try.prog.info? 3).map (·.size) = some 1 := by
    obtain ⟨i0, hi, hz0, hz1, hz2⟩ := info_parts Try.info3
    rw [hi]; simp [hz1]
  have hmade : (madeCells #[Value.int .i64 0] n).toList = RP.rp x n 0 := by rw [toList_madeCells_one]; simp [RP.rp]
  have hb1 : Below w.heap.size w (w.alloc (.cells (madeCells #[.int .i64 0] n) 3)) := (Below.refl _ w).alloc (Nat.le_refl _) _
  have hh1 : (w.alloc (.cells (madeCells #[.int .i64 0] n) 3)).heap[w.heap.size]? = some (.cells (madeCells #[.int .i64 0] n) 3 (0, 0)) := heap_alloc_new w _
  have hc1 := (hb1.cell (p := ⟨g, 0, none⟩) hg).trans hc
  have hms : (madeCells #[Value.int .i64 0] n).size = n := by simp [size_madeCells]
  have CP0 := run_copy_row (P := Try.prog) (w.alloc (.cells (madeCells #[.int .i64 0] n) 3)) 27 27 3 3 w.heap.size 0 n n ⟨g, 0, none⟩ 1 c _ 3 [.int .i64 x] Try.underlying27 one hh1 (by simp only [List.length_singleton, Nat.min_def]; split <;> omega) (fun j v hj => by
      cases j with
      | zero => simp at hj; subst hj; exact hc1
      | succ j => simp at hj) (by rw [hms]; simp only [List.length_singleton]; omega) (by simp [Value.oneCell'])
  rw [hmade, Nat.zero_add] at CP0
  have e0 := RP.rp_copy (x := x) (n := n) (k := 0) (m := 1) (by omega)
  simp only [Nat.zero_add, List.replicate_one] at e0
  simp only [List.length_singleton] at CP0
  rw [e0] at CP0
  have hh2 : ((w.alloc (.cells (madeCells #[.int .i64 0] n) 3)).setRow w.heap.size (RP.rp x n 1).toArray).heap[w.heap.size]? = some (.cells (RP.rp x n 1).toArray 3 (0, 0)) := setRow_heap _ _ _ _ 3 (0, 0) hh1
  have hb2 : Below w.heap.size w ((w.alloc (.cells (madeCells #[.int .i64 0] n) 3)).setRow w.heap.size (RP.rp x n 1).toArray) := ⟨rfl, rfl, rfl, by simp, fun k hk => (setRow_other _ _ k _ (by omega)).trans (hb1.block k hk)⟩
  have hp0 : decide (0 < 0) = false := rfl
  clear hms hmade e0 hc1 hh1 hb1
  go_enter Try.func47, Try.ntmps47
  go_wp2_with fail
  refine Calls.mono ML.out ?_
  rintro e w1 ⟨rfl, rfl⟩
  clear ML
  have mk1 := MK.out w
  go_wp2
  generalize (w.alloc (.cells (madeCells #[.int .i64 0] n) 3)).setRow w.heap.size (RP.rp x n 1).toArray = W2 at *
  clear CP0 MK mk1
  go_loopw [8] (fun kv wr => ∃ k : Nat, kv = .int .i64 k ∧ k ≤ n ∧ 1 ≤ k ∧ Hid (wr.heap[w.heap.size]? = some (.cells (RP.rp x n k).toArray 3 (0, 0))) ∧ Below w.heap.size w wr) (fun kv _ => (n - intOf kv).toNat)
  case atStart => exact ⟨1, rfl, hn1, by omega, hh2, hb2⟩
  case round =>
    clear hh2 hb2
    obtain ⟨k, rfl, hk, hk1, hh, hb⟩ := hrel
    by_cases hl : k < n
    · obtain ⟨m, hm⟩ : ∃ m, Nat.min k (n - k) = m := ⟨_, rfl⟩
      have hm1 : 1 ≤ m ∧ k + m ≤ n := by rw [← hm]; simp only [Nat.min_def]; split <;> omega
      have hcell : ∀ j, j < k → wr.drew.cell? ⟨w.heap.size, j, none⟩ = some (.int .i64 x) := fun j hj => by
        show wr.cell? _ = _
        unfold World.cell?
        rw [hh.out]
        simpa using RP.rp_get (x := x) (n := n) hj
      have CP := run_copy_row (P := Try.prog) wr.drew 27 27 3 3 w.heap.size k (n - k) (n - k) ⟨w.heap.size, 0, none⟩ k n _ 3 (List.replicate m (.int .i64 x)) Try.underlying27 one hh.out (by rw [List.length_replicate, hm]) (fun j v hj => by
          have hjm : j < m := by have := (List.getElem?_eq_some_iff.1 hj).1; simpa using this
          have hjk : j < k := by rw [← hm] at hjm; exact Nat.lt_of_lt_of_le hjm (Nat.min_le_left _ _)
          have hadd : (⟨w.heap.size, 0, none⟩ : Addr).add j = ⟨w.heap.size, j, none⟩ := by unfold Addr.add; split <;> simp_all
          rw [hadd, hcell j hjk, ← hj]
          simp [hjm]) (by simp [RP.rp_len hk]; omega) (fun v hv => by rw [List.eq_of_mem_replicate hv]; rfl)
      simp only [List.length_replicate] at CP
      rw [RP.rp_copy hm1.2] at CP
      have hh3 : Hid ((wr.drew.setRow w.heap.size (RP.rp x n (k + m)).toArray).heap[w.heap.size]? = some (.cells (RP.rp x n (k + m)).toArray 3 (0, 0))) := setRow_heap _ _ _ _ 3 (0, 0) hh.out
      have hb3 : Below w.heap.size w (wr.drew.setRow w.heap.size (RP.rp x n (k + m)).toArray) := ⟨hb.os, hb.tape, hb.output, by have := hb.size; simpa using this, fun j hj => (setRow_other _ _ j _ (by omega)).trans (hb.block j hj)⟩
      have HCP : Hid ((Builtin.copy_ #[27, 27] 3 #[.slice (some ⟨w.heap.size, k, none⟩) (n - k) (n - k), .slice (some ⟨w.heap.size, 0, none⟩) k n]).run Try.prog wr.drew = .ok (.int .i64 (m : Int)) (wr.drew.setRow w.heap.size (RP.rp x n (k + m)).toArray)) := CP
      clear hcell CP hm
      have hck : ¬ n = k := by omega
      have hkz : ¬ k = 0 := by omega
      have hw1 : IntKind.i64.wrap ((k : Int) + (m : Int)) = (k : Int) + (m : Int) := by rw [IntKind.wrap_i64]; omega
      go_wp2
      refine MR.frame fun A hA => ?_
      have hsz : A.tmps.size = 48 := by rw [hA]; rfl
      have e7 : A.eval (.tmp 7) = .slice (some ⟨w.heap.size, 0, none⟩) n n := by rw [hA]; rfl
      have f7 := MR.read (t := 7) (by rw [hsz]; decide) e7
      have e8 : A.eval (.tmp 8) = .int .i64 (k : Int) := by rw [hA]; rfl
      have f8 := MR.read (t := 8) (by rw [hsz]; decide) e8
      have HA : Hid (A = _) := hA
      clear hA
      have hS : (fun _ : World => True) (World.drew wr) := trivial
      refine wp_region_held (S := fun _ : World => True) (by kernel_rfl) ?_
      change wpAnyH _ _ _ _ _ _ _ _ (World.drew _)
      refine MR.takeH (i := 0) (some 38) (.int .i64 (k : Int)) rfl rfl (by kernel_rfl) (by kernel_rfl) (by kernel_rfl) (fun _ _ _ h => h) hS (MR.free rfl) (fun wq hw => by simp [execOp, MR.ev, MR.size, hsz, e7, f7, e8, f8, go_sem]) ?_
      refine MR.takeH (i := 1) (some 39) (.slice (some ⟨w.heap.size, 0, none⟩) n n) rfl rfl (by kernel_rfl) (by kernel_rfl) (by kernel_rfl) (fun _ _ _ h => h) hS (MR.free rfl) (fun wq hw => by simp [execOp, MR.ev, MR.size, hsz, e7, f7, e8, f8, go_sem]) ?_
      refine MR.takeH (i := 2) (some 40) (.int .i64 (k : Int)) rfl rfl (by kernel_rfl) (by kernel_rfl) (by kernel_rfl) (fun _ _ _ h => h) hS (MR.free rfl) (fun wq hw => by simp [execOp, MR.ev, MR.size, hsz, e7, f7, e8, f8, go_sem]) ?_
      refine MR.takeH (i := 3) (some 41) (.slice (some ⟨w.heap.size, k, none⟩) (n - k) (n - k)) rfl rfl (by kernel_rfl) (by kernel_rfl) (by kernel_rfl) (fun _ _ _ h => h) hS (MR.free rfl) (fun wq hw => by simp [execOp, MR.ev, MR.size, hsz, e7, f7, e8, f8, hk, hl, hck, hkz, Instr.sliceAt, Addr.add, go_sem]) ?_
      refine MR.takeH (i := 4) (some 42) (.slice (some ⟨w.heap.size, 0, none⟩) n n) rfl rfl (by kernel_rfl) (by kernel_rfl) (by kernel_rfl) (fun _ _ _ h => h) hS (MR.free rfl) (fun wq hw => by simp [execOp, MR.ev, MR.size, hsz, e7, f7, e8, f8, go_sem]) ?_
      refine MR.takeH (i := 5) (some 43) (.int .i64 (k : Int)) rfl rfl (by kernel_rfl) (by kernel_rfl) (by kernel_rfl) (fun _ _ _ h => h) hS (MR.free rfl) (fun wq hw => by simp [execOp, MR.ev, MR.size, hsz, e7, f7, e8, f8, go_sem]) ?_
      refine MR.takeH (i := 6) (some 44) (.slice (some ⟨w.heap.size, 0, none⟩) k n) rfl rfl (by kernel_rfl) (by kernel_rfl) (by kernel_rfl) (fun _ _ _ h => h) hS (MR.free rfl) (fun wq hw => by simp [execOp, MR.ev, MR.size, hsz, e7, f7, e8, f8, hk, hl, hck, Instr.sliceAt, Addr.add, go_sem]) ?_
      refine MR.nowH (w' := wr.drew.setRow w.heap.size (RP.rp x n (k + m)).toArray) (i := 7) (some 45) (.int .i64 (m : Int)) (by kernel_rfl) rfl rfl (MR.free rfl) (by simp [execOp, MR.ev, MR.size, hsz, e7, f7, e8, f8, HCP.out, go_sem]) ⟨trivial, ?_⟩
      refine MR.takeH (i := 8) (some 46) (.int .i64 ((k : Int) + (m : Int))) rfl rfl (by kernel_rfl) (by kernel_rfl) (by kernel_rfl) (fun _ _ _ h => h) trivial (MR.free rfl) (fun wq hw => by simp [execOp, MR.ev, MR.size, hsz, e7, f7, e8, f8, hw1, go_sem]) ?_
      refine MR.takeH (i := 9) (some 8) (.int .i64 ((k : Int) + (m : Int))) rfl rfl (by kernel_rfl) (by kernel_rfl) (by kernel_rfl) (fun _ _ _ h => h) trivial (MR.free rfl) (fun wq hw => by simp [execOp, MR.ev, MR.size, hsz, e7, f7, e8, f8, go_sem]) ?_
      refine wpAnyH_done (by kernel_rfl) ?_ _
      rw [HA.out]
      clear HA hsz e7 f7 e8 f8 hS HCP
      generalize wr.drew.setRow w.heap.size (RP.rp x n (k + m)).toArray = W3 at *
      simp only [Act.put, List.setIfInBounds_toArray, List.set_cons_succ, List.set_cons_zero]
      go_roundw
      case rel => exact ⟨.int .i64 ((k : Int) + (m : Int)), _, _, _, _, _, _, _, _, _, _, _, _, _, ⟨k + m, by go_num, by omega, by omega, hh3, hb3⟩, rfl⟩
      case measure => simp [intOf]; omega
    · obtain rfl : k = n := by omega
      have HO : Hid (wr.ownsRow w.heap.size 3 1 (.slice (some ⟨w.heap.size, 0, none⟩) k k) k (M4.iv (List.replicate k x))) := by
        rw [← RP.rp_all]
        exact ⟨by simp [RP.rp], .inr ⟨w.heap.size, k, _, rfl, Nat.le_refl _, hh.out, Nat.le_refl _, by unfold maxLen; omega, by simp [RP.rp_len (Nat.le_refl k)], by simp [RP.rp]⟩⟩
      clear hh
      go_wp2
      go_ret
      exact ⟨w.heap.size, rfl, HO.out, hb⟩
end Go.Proofs.Ytjfnmhkhjaafkaa
