/- slices.AppendSeq, slices.Collect over nodes; impl.CarriersIn. -/
import Derived.Test.YtgajfpohlemahaaRows
import Derived.Test.YtgajfpohlemahaaMSprT
import Derived.Test.YtgajfpohlemahaaMInfo
import Derived.Test.YtgajfpohlemahaaCSprG
import Derived.RangeFuncBox
import Derived.Maps.AppendAt
namespace Go.Proofs.Ytgajfpohlemahaa
open Go.RowKit Go.Shelf
attribute [local go_sem] Oper.semAt_some RD.wide_fn
set_option maxHeartbeats 3200000 in
set_option maxRecDepth 100000 in
theorem appendSeq_in {m x y N : Nat} (hm : m ≤ 1048576) (lb : Array Value) (ys : List (Fin m)) (w0 w : World) (hb0 : Below w0.heap.size w0 w) (hN : N ≤ w.heap.size)
    (ST : SeqStopsK Fence.wide 9 Try.prog 38 lb (fun i : Fin m => #[Value.int .i64 (i.val : Int)]) (SP.KP x y N) (fun l => l = ys) (fun pre => pre <+: ys) m w0) :
    CallsIn Fence.wide 10 Try.prog 36 #[.slice none 0 0, .func (.func 38) #[] lb] w fun e w' => ∃ v, e = .returned v ∧ w'.ownsRow w.heap.size 3 1 v (SP.nv ys).length (M4.iv (SP.nv ys)) ∧ Below w.heap.size w w' := by
  obtain ⟨i0, hi, hz0, hz1, hz2⟩ := info_parts Try.info3
  refine callsIn_of_wp_marks Try.func36 rfl trivial ?_ rfl
  simp only [Try.ntmps36, List.size_toArray, List.length_cons, List.length_nil, Nat.reduceAdd, Nat.reduceSub, Array.replicate_succ, Array.replicate_zero, List.push_toArray, List.append_toArray, List.nil_append, List.cons_append]
  gi_wp2_with fail
  have bO := Boxed.new w 26 (.slice none 0 0)
  have hB0 : Below w.heap.size w (w.alloc (.cells #[.slice none 0 0] 26)) := (Below.refl _ w).alloc (Nat.le_refl _) _
  refine wpIn_rangeFunc_ownG rfl (by omega) (gf := 38) (lb := lb) rfl trivial (enters_of Try.func38 (by kernel_rfl) rfl)
    ST (fun h k => h.trans k) (fun W l o o' hl _ _ _ => SP.KP.put W l o' (by simp at hl; omega)) (hb0.trans (hB0.mono hb0.size)) (fun _ => rfl)
    (fun pre W => (∃ v, Boxed W w.heap.size 26 v ∧ W.ownsRow w.heap.size 3 1 v (SP.nv pre).length (M4.iv (SP.nv pre)) ∧ (v = .slice none 0 0 ↔ SP.nv pre = [])) ∧ Below w.heap.size w W)
    (fun _ _ _ => False)
    (OwnFrom.and (Own.from (holdsRow_own w.heap.size w.heap.size 26 3 1 (fun pre : List (Fin m) => (SP.nv pre).length) (fun pre => M4.iv (SP.nv pre)) (fun pre v => v = .slice none 0 0 ↔ SP.nv pre = [])) _) (ownFrom_below (Nat.le_refl _) (by simp)))
    (fun _ _ _ _ _ hs _ _ => hs)
    ⟨⟨_, bO, World.ownsRow_nil _ _ _ _, by simp [SP.nv]⟩, hB0⟩
    (fun x => { tmps := #[.slice none 0 0, .func (.func 38) #[] lb, .pointer (some ⟨w.heap.size, 0, none⟩), undef, .slice none 0 0, .int .i64 (x.val : Int), .func (.func 38) #[] lb, .int .i64 (x.val : Int), undef, undef, undef, undef, undef], defers := [] }) ?assign ?body ?done ?stop
  case assign =>
    intro l x W K hK
    gi_wp2
    exact hK
  case body =>
    rintro l pre x W ⟨⟨v, hv, hrow, hnil⟩, hB⟩ hlt
    have hc := hv.cell
    have hpl : (SP.nv pre).length ≤ m := by rw [SP.nv_len]; omega
    have hsn := SP.nv_snoc pre x
    have hml : (1048577 : Nat) ≤ maxLen := by unfold maxLen; omega
    gi_wp2_with (gi_at_builtin; refine wpListIn_append_own _ rfl _ _ 26 rfl w.heap.size 3 i0 (.int .i64 0) 1 8 Try.underlying26 hi hz0 hz1 hz2 rfl (by decide) _ _ _ rfl (hrow.alloc _) ⟨W.heap.size, 0, none⟩ 1 1 [.int .i64 (x.val : Int)] rfl rfl (cell_one_new _ _ _) (by simp [Value.oneCell']) (by omega) (by omega) (by have := hB.size; simp; omega) ?_; intro v' w1 hown' hgrow _; obtain ⟨g', cap', rfl⟩ := ownsRow_succ hown'; obtain ⟨hv1, hv2, hr2, hk2, hb2⟩ := hv.appended (by decide) hrow hB.size (Nat.le_refl _) hown' hgrow; have hc1 := hv1.cell; have hf1 := hv1.frozen)
    exact ⟨hk2.from _, SP.KP.below hb2 (by omega), ⟨_, hv2, by rw [hsn]; simpa [M4.iv] using hr2, by rw [hsn]; simp⟩, hB.trans hb2⟩
  case done =>
    rintro D ys' W hD rfl ⟨⟨v, hv, hrow, hnil⟩, hB⟩ hK
    have hc := hv.cell
    gi_wp2
    refine ⟨by simp, .inl ⟨_, _, rfl, run_takeDeferred hK, ?_⟩⟩
    exact ⟨_, results_tmp rfl _ _ _, v, rfl, ownsRow_putObj hrow _ hK rfl, hB.trans (belowK_b (w := w) (Nat.le_refl _) W D _ _ (by simp at hD; omega) hK rfl rfl)⟩
  case stop =>
    rintro D c pre W _ _ h _
    exact h.elim
set_option maxHeartbeats 800000 in
set_option maxRecDepth 100000 in
theorem collect_any {m x y N : Nat} (hm : m ≤ 1048576) (lb : Array Value) (ys : List (Fin m)) (w0 w : World) (hb0 : Below w0.heap.size w0 w) (hN : N ≤ w.heap.size)
    (ST : SeqStopsK Fence.wide 9 Try.prog 38 lb (fun i : Fin m => #[Value.int .i64 (i.val : Int)]) (SP.KP x y N) (fun l => l = ys) (fun pre => pre <+: ys) m w0) :
    Calls Try.prog 23 #[.func (.func 38) #[] lb] w fun e w' => ∃ v, e = .returned v ∧ w'.ownsRow w.heap.size 3 1 v (SP.nv ys).length (M4.iv (SP.nv ys)) ∧ Below w.heap.size w w' := by
  have AP : Hid (Calls Try.prog 36 #[.slice none 0 0, .func (.func 38) #[] lb] w fun e w' => ∃ v, e = .returned v ∧ w'.ownsRow w.heap.size 3 1 v (SP.nv ys).length (M4.iv (SP.nv ys)) ∧ Below w.heap.size w w') := callsIn_wide.1 (appendSeq_in hm lb ys w0 w hb0 hN ST)
  clear ST hb0
  generalize M4.iv (SP.nv ys) = vs at *
  generalize (SP.nv ys).length = k at *
  go_enter Try.func23, Try.ntmps23
  go_wp2_with fail
  refine Calls.mono AP.out ?_
  rintro e w1 ⟨v, rfl, ho, hb⟩
  have HO : Hid _ := ho
  clear AP ho
  go_wp2
  go_ret
  exact ⟨v, rfl, HO.out, hb⟩
set_option maxHeartbeats 800000 in
set_option maxRecDepth 100000 in
theorem implCarriers_any (a : Option Addr) (cap : Nat) (zs : List Int) (t : Int) (th : Bool) (w : World) (hz : M4.IntsAt w a zs) (hl : zs.length ≤ 1048576) :
    Calls Try.prog 9 #[.agg #[.slice a zs.length cap, .int .i64 t, .bool th]] w fun e w' => ∃ b c, e = .returned (.tuple #[.slice b (if SP.good zs t = true then SP.cr zs zs.length else []).length c, .bool (SP.good zs t)]) ∧ w'.ownsRow w.heap.size 3 1 (.slice b (if SP.good zs t = true then SP.cr zs zs.length else []).length c) (if SP.good zs t = true then SP.cr zs zs.length else []).length (M4.iv (if SP.good zs t = true then SP.cr zs zs.length else [])) ∧ Below w.heap.size w w' := by
  have BX : Below w.heap.size w (w.alloc (.cells #[.slice a zs.length cap, .int .i64 t, .bool th] 28)) := (Below.refl _ _).alloc (Nat.le_refl _) _
  have GD : Hid (Calls _ _ _ _ _) := implGoodSpray_any a cap zs t th _ (hz.below BX) hl
  have b0 := SP.B3.new w (.slice a zs.length cap) (.int .i64 t) (.bool th) 28 rfl
  by_cases hg : SP.good zs t = true
  · have h1 := SP.good_len hg
    rw [hg] at GD
    rw [if_pos hg, hg]
    have CO : Hid (∀ w1 : World, Below w.heap.size w w1 → w.heap.size < w1.heap.size → Calls Try.prog 23 #[.func (.func 38) #[] #[.pointer (some ⟨w1.heap.size + 1, 0, none⟩), .pointer (some ⟨w1.heap.size + 1 + 1, 0, none⟩)]] (SP.carW w1 (.slice a zs.length cap) zs.length t th) fun e w' => ∃ v, e = .returned v ∧ w'.ownsRow (SP.carW w1 (.slice a zs.length cap) zs.length t th).heap.size 3 1 v (SP.cr zs zs.length).length (M4.iv (SP.cr zs zs.length)) ∧ Below (SP.carW w1 (.slice a zs.length cap) zs.length t th).heap.size (SP.carW w1 (.slice a zs.length cap) zs.length t th) w') := fun w1 B1 hs => by
      have hz1 := hz.below B1
      have ST := carriers_stops 9 (by omega) w1.heap.size a cap t th zs w.heap.size w.heap.size w1 _ rfl rfl hl hz1 hs hs (fun g off e => by
        rcases hz with h | ⟨g', off', e', hg', -⟩
        · rw [h] at h1; simp at h1
        · rw [e] at e'; cases e'; omega)
      have hN : w1.heap.size + 3 ≤ (SP.carW w1 (.slice a zs.length cap) zs.length t th).heap.size := by simp [SP.carW]
      have := collect_any hl _ _ _ _ (Below.refl _ _) hN ST
      rw [SP.cr_up (SP.good_each hg) zs.length (Nat.le_refl _)] at this
      exact this
    have hcw : ∀ w1 : World, Below w1.heap.size w1 (SP.carW w1 (.slice a zs.length cap) zs.length t th) := fun w1 => (((Below.refl _ _).alloc (Nat.le_refl _) _).alloc (by simp) _).alloc (by simp; omega) _
    have HCW : Hid _ := hcw
    clear hcw hz hg hl
    generalize SP.cr zs zs.length = L at *
    generalize zs.length = m at *
    go_enter Try.func9, Try.ntmps9
    go_wp2_with fail
    refine Calls.mono GD.out ?_
    rintro e w1 ⟨rfl, hb⟩
    have B1 := BX.trans (hb.mono BX.size)
    replace b0 := b0.below hb b0.lt
    have hlt := b0.lt
    obtain ⟨c0, c1, c2⟩ := b0.cells
    clear GD BX hb
    go_wp2_with fail
    refine (carriers_any _ _ _ _ _ _).mono ?_
    rintro e w2 ⟨rfl, hw2⟩
    have COL := CO.out w1 B1 hlt
    have hcw := HCW.out w1
    rw [← hw2] at COL hcw
    have HCOL : Hid (Calls _ _ _ _ _) := COL
    clear hw2 CO HCW c0 c1 c2 b0 COL
    go_wp2_with fail
    refine Calls.mono HCOL.out ?_
    rintro e w3 ⟨v, rfl, ho, hb⟩
    have B3 := (B1.trans (hcw.mono B1.size)).trans (hb.mono (B1.trans (hcw.mono B1.size)).size)
    obtain ⟨b, c, hv⟩ : ∃ b c, v = .slice b L.length c := by
      rcases ho.2 with ⟨h, h0⟩ | ⟨g', cap', cur, e1, _⟩
      · exact ⟨none, 0, by rw [h, h0]⟩
      · exact ⟨_, _, e1⟩
    subst hv
    have HO : Hid _ := SP.own_le ho (Nat.le_trans B1.size hcw.size)
    clear ho HCOL hb hcw B1
    go_wp2
    exact bodyPost_ret (v := .tuple #[.slice b L.length c, .bool true]) (by simp [results, Try.results9, go_sem]) rfl ⟨b, c, rfl, HO.out, B3⟩
  · have hg' : SP.good zs t = false := by simpa using hg
    rw [hg'] at GD
    rw [hg', if_neg (by simp)]
    clear hg hg' hz b0
    generalize zs.length = m at *
    go_enter Try.func9, Try.ntmps9
    go_wp2_with fail
    refine Calls.mono GD.out ?_
    rintro e w1 ⟨rfl, hb⟩
    have B1 := BX.trans (hb.mono BX.size)
    clear GD BX hb
    go_wp2
    exact bodyPost_ret (v := .tuple #[.slice none 0 0, .bool false]) (by simp [results, Try.results9, go_sem]) rfl ⟨none, 0, rfl, World.ownsRow_nil _ _ _ _, B1⟩
end Go.Proofs.Ytgajfpohlemahaa
