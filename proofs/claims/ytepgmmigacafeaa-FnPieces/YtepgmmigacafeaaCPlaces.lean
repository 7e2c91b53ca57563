/- places: which places are marked, in a row of its own. -/
import Derived.Test.YtepgmmigacafeaaRows
import Derived.Test.YtepgmmigacafeaaCInfoSheet
import Derived.Test.YtepgmmigacafeaaM5
import Derived.WalkKit
import Derived.WalkSpells
import Derived.WalkLawsBesides
import Derived.Outline
namespace Go.Proofs.Ytepgmmigacafeaa
open Go.RowKit
theorem Try.infoInt : (Try.prog.info? 3).map (fun i => (i.zero, i.size, i.bytes)) = some (some (.int .i64 0), 1, 8) := by kernel_rfl
def plF (f : Nat → Bool) (n : Nat) : List Int := ((List.range n).filter f).map Int.ofNat
theorem plF_succ (f : Nat → Bool) (n : Nat) : plF f (n + 1) = plF f n ++ (if f n = true then [(n : Int)] else []) := by
  unfold plF
  rw [List.range_succ, List.filter_append, List.map_append]
  congr 1
  cases h : f n <;> simp [h]
theorem plF_len (f : Nat → Bool) (n : Nat) : (plF f n).length ≤ n := by
  have := List.length_filter_le f (List.range n)
  simpa [plF] using this
set_option maxHeartbeats 800000 in
set_option maxRecDepth 100000 in
theorem places_any (f : Nat → Bool) (w : World) :
    Calls Try.prog 47 #[.agg (MA.tF f).toArray] w fun e w' => ∃ a cap, e = .returned (.slice a (plF f 60).length cap) ∧ w'.ownsRow w.heap.size 3 1 (.slice a (plF f 60).length cap) (plF f 60).length (M4.iv (plF f 60)) ∧ Below w.heap.size w w' := by
  obtain ⟨i0, hi, hz0, hz1, hz2⟩ := info_parts Try.infoInt
  have r0 := MA.Rg.new w (MA.tF f) 69
  go_enter Try.func47, Try.ntmps47
  go_wp2_with (refine MA.load_m rfl 69 _ rfl rfl (by first | exact r0 | exact r0.alloc _) Try.underlying69 rfl Try.sizeMarks (MA.tF_len _) ?_)
  have own0 : ((w.alloc (.cells (MA.tF f).toArray 69)).alloc (.cells #[] 3)).ownsRow w.heap.size 3 1 (.slice (some ⟨w.heap.size + 1, 0, none⟩) 0 0) (plF f 0).length (M4.iv (plF f 0)) := by
    have := World.ownsRow_lit (base := w.heap.size) (e := 3) (size := 1) (w.alloc (.cells (MA.tF f).toArray 69)) #[] 0 (by simp) (by unfold maxLen; omega) (by simp)
    simpa [plF, M4.iv] using this
  have hb : Below w.heap.size w ((w.alloc (.cells (MA.tF f).toArray 69)).alloc (.cells #[] 3)) := ((Below.refl _ w).alloc (Nat.le_refl _) _).alloc (by simp) _
  clear r0
  go_loopw [3, 4, 5, 8] (fun v _ _ iv wr => ∃ k : Nat, iv = .int .i64 k ∧ k ≤ 60 ∧ wr.ownsRow w.heap.size 3 1 v (plF f k).length (M4.iv (plF f k)) ∧ Below w.heap.size w wr) (fun _ _ _ iv _ => (60 - intOf iv).toNat)
  case atStart => exact ⟨0, rfl, by omega, own0, hb⟩
  case round =>
    clear own0 hb
    obtain ⟨k, rfl, hk, hown, hb⟩ := hrel
    have hbs := hb.size
    have hln := plF_len f k
    by_cases hl : k < 60
    · have hk0 : (0 : Int) ≤ (k : Int) := by omega
      have hk1 : (k : Int) < 60 := by omega
      have hg : ∀ W, (Instr.index 69 (.agg (MA.tF f).toArray) (.int .i64 (k : Int))).run Try.prog W = .ok (.bool (f k)) W := fun W => MA.run_index Try.underlying69 (by go_simp) (by go_simp) hl (MA.tF_get f hl)
      have hS : Hid _ := plF_succ f k
      cases hf : f k with
      | false =>
        rw [hf] at hg
        have e : plF f (k + 1) = plF f k := by rw [hS.out, hf]; simp
        rw [← e] at hown
        clear e hS hf
        clear hln
        go_wp2
        go_roundw
        case rel => exact ⟨k + 1, by go_num, by omega, hown, hb⟩
        case measure => simp [intOf]; omega
      | true =>
        rw [hf] at hg
        have HE : Hid (plF f (k + 1) = plF f k ++ [(k : Int)]) := by rw [hS.out, hf]; rfl
        clear hS hf
        go_wp2_with (at_builtin; refine wpList_append_own _ rfl _ _ 47 rfl w.heap.size 3 i0 (.int .i64 0) 1 8 Try.underlying47 hi hz0 hz1 hz2 rfl (by decide) _ _ _ rfl (hown.alloc _) ⟨wr.heap.size, 0, none⟩ 1 1 [.int .i64 (k : Int)] rfl rfl ?c1 ?c2 ?c3 ?c4 ?c5 ?_)
        case c1 => exact M2.new1 _ _ _
        case c2 => exact M2.one1 _ _
        case c3 => unfold maxLen; omega
        case c4 => omega
        case c5 => simp; omega
        intro v' w1 hown1 hgrow _
        have R := M5.growI hown hb (by omega) (by exact hown1) hgrow
        have R1 := R.1
        have R2 := R.2
        rw [← HE.out] at R1
        clear hown1 hgrow hown R HE hg hln
        go_wp2
        go_roundw
        case rel => exact ⟨k + 1, by go_num, by omega, R1, R2⟩
        case measure => simp [intOf]; omega
    · obtain rfl : k = 60 := by omega
      obtain ⟨a, cap, hv, _⟩ := M5.own_view hown
      rw [hv] at hown ⊢
      clear hln hv
      go_wp2
      go_ret
      exact ⟨a, cap, rfl, hown, hb⟩
end Go.Proofs.Ytepgmmigacafeaa
