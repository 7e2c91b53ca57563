/- slices.AppendSeq, slices.Collect over nodes. -/
import Derived.Test.YtdimdhiknjimaaaRows
import Derived.Test.YtdimdhiknjimaaaMInfo
import Derived.Test.YtdimdhiknjimaaaMRnd
import Derived.Test.YtdimdhiknjimaaaMSpr
import Derived.RangeFuncNested
import Derived.RangeFuncBound
import Derived.RangeFuncCalls
import Derived.RangeFuncLeaves
import Derived.Shelf.Abstract
import Derived.Shelf.RegionOpen
import Derived.WalkKit
import Derived.WalkSpells
import Derived.WalkLawsBesides
import Derived.Outline
import Derived.OwnWalkIn
import Derived.TacticsInMore
import Derived.LoopNIn
import Derived.LoopIn
import Derived.RangeFuncBox
import Derived.Maps.AppendAt
namespace Go.Proofs.Ytdimdhiknjimaaa
open Go.RowKit Go.Shelf
attribute [local go_sem] Oper.semAt_some RD.wide_fn
set_option maxHeartbeats 3200000 in
set_option maxRecDepth 100000 in
theorem appendSeq_in {m x y N : Nat} (hm : m ≤ 1048576) (lb : Array Value) (ys : List (Fin m)) (w0 w : World) (hb0 : Below w0.heap.size w0 w) (hN : N ≤ w.heap.size)
    (ST : SeqStopsK Fence.wide 9 Try.prog 38 lb (fun i : Fin m => #[Value.int .i64 (i.val : Int)]) (SP.KP x y N) (fun l => l = ys) (fun pre => pre <+: ys) m w0) :
    CallsIn Fence.wide 10 Try.prog 28 #[.slice none 0 0, .func (.func 38) #[] lb] w fun e w' => ∃ v, e = .returned v ∧ w'.ownsRow w.heap.size 3 1 v (SP.nv ys).length (M4.iv (SP.nv ys)) ∧ Below w.heap.size w w' := by
  obtain ⟨i0, hi, hz0, hz1, hz2⟩ := info_parts Try.info3
  refine callsIn_of_wp_marks Try.func28 rfl trivial ?_ rfl
  simp only [Try.ntmps28, List.size_toArray, List.length_cons, List.length_nil, Nat.reduceAdd, Nat.reduceSub, Array.replicate_succ, Array.replicate_zero, List.push_toArray, List.append_toArray, List.nil_append, List.cons_append]
  gi_wp2_with fail
  have bO := Boxed.new w 26 (.slice none 0 0)
  have hB0 : Below w.heap.size w (w.alloc (.cells #[.slice none 0 0] 26)) := (Below.refl _ w).alloc (Nat.le_refl _) _
  refine wpIn_rangeFunc_ownG rfl (by omega) (gf := 38) (lb := lb) rfl trivial (enters_of Try.func38 (by kernel_rfl) rfl)
    ST (fun h k => h.trans k) (fun W l o o' hl _ _ _ => SP.KP.put W l o' (by simp at hl; omega)) (hb0.trans (hB0.mono hb0.size)) (fun _ => rfl)
    (fun pre W => (∃ v, Boxed W w.heap.size 26 v ∧ W.ownsRow w.heap.size 3 1 v (SP.nv pre).length (M4.iv (SP.nv pre)) ∧ (v = .slice none 0 0 ↔ SP.nv pre = [])) ∧ Below w.heap.size w W)
    (fun _ _ _ => False)
    (OwnFrom.and (Own.from (holdsRow_own w.heap.size w.heap.size 26 3 1 (fun pre : List (Fin m) => (SP.nv pre).length) (fun pre => M4.iv (SP.nv pre)) (fun pre v => v = .slice none 0 0 ↔ SP.nv pre = [])) _) (ownFrom_below (Nat.le_refl _) (by simp)))
    (fun _ _ _ _ _ hs _ _ => hs)
    ⟨⟨_, bO, World.ownsRow_nil _ _ _ _, by simp [SP.nv]⟩, hB0⟩
    (fun x => { tmps := #[.slice none 0 0, .func (.func 38) #[] lb, .pointer (some ⟨w.heap.size, 0, none⟩), undef, .slice none 0 0, .int .i64 (x.val : Int), .func (.func 38) #[] lb, .int .i64 (x.val : Int), undef, undef, undef, undef, undef], defers := [] }) ?assign ?body ?done ?stop
  case assign =>
    intro l x W K hK
    gi_wp2
    exact hK
  case body =>
    rintro l pre x W ⟨⟨v, hv, hrow, hnil⟩, hB⟩ hlt
    have hc := hv.cell
    have hpl : (SP.nv pre).length ≤ m := by rw [SP.nv_len]; omega
    have hsn := SP.nv_snoc pre x
    have hml : (1048577 : Nat) ≤ maxLen := by unfold maxLen; omega
    gi_wp2_with (gi_at_builtin; refine wpListIn_append_own _ rfl _ _ 26 rfl w.heap.size 3 i0 (.int .i64 0) 1 8 Try.underlying26 hi hz0 hz1 hz2 rfl (by decide) _ _ _ rfl (hrow.alloc _) ⟨W.heap.size, 0, none⟩ 1 1 [.int .i64 (x.val : Int)] rfl rfl (cell_one_new _ _ _) (by simp [Value.oneCell']) (by omega) (by omega) (by have := hB.size; simp; omega) ?_; intro v' w1 hown' hgrow _; obtain ⟨g', cap', rfl⟩ := ownsRow_succ hown'; obtain ⟨hv1, hv2, hr2, hk2, hb2⟩ := hv.appended (by decide) hrow hB.size (Nat.le_refl _) hown' hgrow; have hc1 := hv1.cell; have hf1 := hv1.frozen)
    exact ⟨hk2.from _, SP.KP.below hb2 (by omega), ⟨_, hv2, by rw [hsn]; simpa [M4.iv] using hr2, by rw [hsn]; simp⟩, hB.trans hb2⟩
  case done =>
    rintro D ys' W hD rfl ⟨⟨v, hv, hrow, hnil⟩, hB⟩ hK
    have hc := hv.cell
    gi_wp2
    refine ⟨by simp, .inl ⟨_, _, rfl, run_takeDeferred hK, ?_⟩⟩
    exact ⟨_, results_tmp rfl _ _ _, v, rfl, ownsRow_putObj hrow _ hK rfl, hB.trans (belowK_b (w := w) (Nat.le_refl _) W D _ _ (by simp at hD; omega) hK rfl rfl)⟩
  case stop =>
    rintro D c pre W _ _ h _
    exact h.elim
set_option maxHeartbeats 800000 in
set_option maxRecDepth 100000 in
theorem collect_any {m x y N : Nat} (hm : m ≤ 1048576) (lb : Array Value) (ys : List (Fin m)) (w0 w : World) (hb0 : Below w0.heap.size w0 w) (hN : N ≤ w.heap.size)
    (ST : SeqStopsK Fence.wide 9 Try.prog 38 lb (fun i : Fin m => #[Value.int .i64 (i.val : Int)]) (SP.KP x y N) (fun l => l = ys) (fun pre => pre <+: ys) m w0) :
    Calls Try.prog 15 #[.func (.func 38) #[] lb] w fun e w' => ∃ v, e = .returned v ∧ w'.ownsRow w.heap.size 3 1 v (SP.nv ys).length (M4.iv (SP.nv ys)) ∧ Below w.heap.size w w' := by
  have AP : Hid (Calls Try.prog 28 #[.slice none 0 0, .func (.func 38) #[] lb] w fun e w' => ∃ v, e = .returned v ∧ w'.ownsRow w.heap.size 3 1 v (SP.nv ys).length (M4.iv (SP.nv ys)) ∧ Below w.heap.size w w') := callsIn_wide.1 (appendSeq_in hm lb ys w0 w hb0 hN ST)
  clear ST hb0
  generalize M4.iv (SP.nv ys) = vs at *
  generalize (SP.nv ys).length = k at *
  go_enter Try.func15, Try.ntmps15
  go_wp2_with fail
  refine Calls.mono AP.out ?_
  rintro e w1 ⟨v, rfl, ho, hb⟩
  have HO : Hid _ := ho
  clear AP ho
  go_wp2
  go_ret
  exact ⟨v, rfl, HO.out, hb⟩
end Go.Proofs.Ytdimdhiknjimaaa
