/- impl.TokensIn. -/
import Derived.Test.YtgajfpohlemahaaRows
import Derived.Test.YtgajfpohlemahaaMSprT
import Derived.Test.YtgajfpohlemahaaCSprG
import Derived.RangeFuncBox
namespace Go.Proofs.Ytgajfpohlemahaa
open Go.RowKit Go.Shelf
attribute [local go_sem] Oper.semAt_some RD.wide_fn
set_option maxHeartbeats 3200000 in
set_option maxRecDepth 100000 in
theorem implTokens_in (a : Option Addr) (cap : Nat) (zs : List Int) (t : Int) (th : Bool) (w : World) (hz : M4.IntsAt w a zs) (hgd : SP.good zs t = true) :
    CallsIn Fence.wide 10 Try.prog 8 #[.agg #[.slice a zs.length cap, .int .i64 t, .bool th]] w fun e w' => e = .returned (.tuple #[.int .i64 (SP.sm zs zs.length), .bool true]) ∧ Below w.heap.size w w' := by
  have h1 := SP.good_len hgd
  have hE := SP.good_each hgd
  have BX : Below w.heap.size w (w.alloc (.cells #[.slice a zs.length cap, .int .i64 t, .bool th] 28)) := (Below.refl _ _).alloc (Nat.le_refl _) _
  have GD : Hid _ := implGoodSpray_any a cap zs t th _ (hz.below BX) (by omega)
  rw [hgd] at GD
  obtain ⟨g, off, rfl, hg, hcl⟩ : ∃ b off, a = some ⟨b, off, none⟩ ∧ b < w.heap.size ∧ ∀ j, j < zs.length → w.cell? ⟨b, off + j, none⟩ = some (.int .i64 (zs.getD j 0)) := by
    rcases hz with h | h
    · rw [h] at h1; simp at h1
    · exact h
  refine callsIn_of_wp_marks Try.func8 rfl trivial ?_ rfl
  simp only [Try.ntmps8, List.size_toArray, List.length_cons, List.length_nil, Nat.reduceAdd, Nat.reduceSub, Array.replicate_succ, Array.replicate_zero, List.push_toArray, List.append_toArray, List.nil_append, List.cons_append]
  gi_wp2_with fail
  refine (callsIn_wide.2 GD.out).mono ?_
  rintro e w1 ⟨rfl, hb1⟩
  have b0 := (SP.B3.new w (.slice (some ⟨g, off, none⟩) zs.length cap) (.int .i64 t) (.bool th) 28 rfl).below hb1 (by simp)
  have B1 := BX.trans (hb1.mono BX.size)
  have hz1 : M4.IntsAt w1 (some ⟨g, off, none⟩) zs := hz.below B1
  have hs1 : w.heap.size < w1.heap.size := b0.lt
  obtain ⟨c0, c1, c2⟩ := (b0.alloc (.cells #[.int .i64 0] 3)).cells
  obtain ⟨c0', c1', c2'⟩ := b0.cells
  clear GD BX hb1
  gi_wp2_with fail
  refine (callsIn_wide.2 (carriers_any _ _ _ _ _ _)).mono ?_
  rintro e w2 ⟨rfl, hw2⟩
  gi_wp2_with fail
  have hsz : w2.heap.size = w1.heap.size + 4 := by rw [hw2, SP.carW]; simp
  have hbW : Below (w1.heap.size + 1) (w1.alloc (.cells #[.int .i64 0] 3)) w2 := by
    rw [hw2, SP.carW]
    exact (((Below.refl _ _).alloc (by simp) _).alloc (by simp) _).alloc (by simp) _
  have B2 : Below w.heap.size w w2 := (B1.alloc B1.size _).trans (hbW.mono (by omega))
  have k0 : w2.cell? ⟨w.heap.size, 0, none⟩ = _ := (hbW.cell (p := ⟨w.heap.size, 0, none⟩) (by simp; omega)).trans c0
  have bS : Boxed w2 w1.heap.size 3 (.int .i64 0) := (hbW.block _ (by omega)).trans (Boxed.new w1 3 (.int .i64 0))
  have ST := carriers_stops 9 (by omega) (w1.heap.size + 1) (some ⟨g, off, none⟩) cap t th zs w1.heap.size w1.heap.size _ w2 (by simp) hw2 (by omega) (hz1.below ((Below.refl _ _).alloc (Nat.le_refl _) _)) (by omega) (by omega) (fun g' off' e => by cases e; omega)
  rw [← hw2]
  clear hw2 c0 c1 c2 c0' c1' c2' b0 hz1
  refine wpIn_rangeFunc_ownF rfl (by omega) (gf := 38) (lb := #[.pointer (some ⟨w1.heap.size + 1 + 1, 0, none⟩), .pointer (some ⟨w1.heap.size + 1 + 1 + 1, 0, none⟩)]) rfl trivial (enters_of Try.func38 (by kernel_rfl) rfl)
    ST (fun h k => h.trans k) (fun W l o o' hl _ _ _ => SP.KP.put W l o' (by omega)) (Below.refl _ _) (fun _ => rfl)
    (fun pre W => ((pre.length ≤ 8 ∧ Boxed W w1.heap.size 3 (.int .i64 (SP.sf zs pre)) ∧ 0 ≤ SP.sf zs pre ∧ SP.sf zs pre ≤ 64 * pre.length) ∧ W.cell? ⟨w.heap.size, 0, none⟩ = some (.slice (some ⟨g, off, none⟩) zs.length cap)) ∧ Below w.heap.size w W)
    (fun _ _ _ => False)
    (OwnFrom.and (Own.from (fun pre X Y row hs hg hr => ⟨⟨hs.1.1, SP.bk hs.1.2.1 hg hr, hs.1.2.2⟩, cell_kept hs.2 hg hr⟩) _) (ownFrom_below (Nat.le_refl _) (by omega)))
    (fun _ _ _ _ _ hs _ _ => hs)
    ⟨⟨⟨by simp, bS, by simp [SP.sf], by simp [SP.sf]⟩, k0⟩, B2⟩
    (fun x => { tmps := #[.agg #[.slice (some ⟨g, off, none⟩) zs.length cap, .int .i64 t, .bool th], .pointer (some ⟨w.heap.size, 0, none⟩), .int .i64 0, .bool false, .pointer (some ⟨w1.heap.size, 0, none⟩), .int .i64 (x.val : Int),
        .agg #[.slice (some ⟨g, off, none⟩) zs.length cap, .int .i64 t, .bool th], .bool true, .bool false, .agg #[.slice (some ⟨g, off, none⟩) zs.length cap, .int .i64 t, .bool th],
        .func (.func 38) #[] #[.pointer (some ⟨w1.heap.size + 1 + 1, 0, none⟩), .pointer (some ⟨w1.heap.size + 1 + 1 + 1, 0, none⟩)], .int .i64 (x.val : Int), undef, undef, undef, undef, undef, undef, undef, undef], defers := [] }) ?assign ?body ?done ?stop
  case assign =>
    intro l x W K hK
    gi_wp2
    exact hK
  case body =>
    rintro l pre ⟨k, hk⟩ V ⟨⟨⟨hp8, bV, hs0, hs1⟩, k0⟩, hB⟩ hlt
    have tc : V.cell? ⟨g, off + k, none⟩ = some (.int .i64 (zs.getD k 0)) := (hB.cell (p := ⟨g, off + k, none⟩) hg).trans (hcl k hk)
    have hEk := hE k hk
    have hsn := SP.sf_snoc zs pre ⟨k, hk⟩
    have hpl : (pre ++ [(⟨k, hk⟩ : Fin zs.length)]).length = pre.length + 1 := by simp
    dsimp only at hsn
    generalize zs.getD k 0 = z at *
    have hwr : IntKind.i64.wrap (SP.sf zs pre + z) = SP.sf zs pre + z := by rw [IntKind.wrap_i64]; omega
    have FIN : Hid (KeepsOthers V ((V).setCell ⟨w1.heap.size, 0, none⟩ (.int .i64 (IntKind.i64.wrap (SP.sf zs pre + z)))).drew ∧ SP.KP w1.heap.size w1.heap.size (w1.heap.size + 1 + 3) V ((V).setCell ⟨w1.heap.size, 0, none⟩ (.int .i64 (IntKind.i64.wrap (SP.sf zs pre + z)))).drew ∧ (((pre ++ [(⟨k, hk⟩ : Fin zs.length)]).length ≤ 8 ∧ Boxed ((V).setCell ⟨w1.heap.size, 0, none⟩ (.int .i64 (IntKind.i64.wrap (SP.sf zs pre + z)))).drew w1.heap.size 3 (.int .i64 (SP.sf zs (pre ++ [⟨k, hk⟩]))) ∧ 0 ≤ SP.sf zs (pre ++ [⟨k, hk⟩]) ∧ SP.sf zs (pre ++ [⟨k, hk⟩]) ≤ 64 * ((pre ++ [(⟨k, hk⟩ : Fin zs.length)]).length : Int)) ∧ (((V).setCell ⟨w1.heap.size, 0, none⟩ (.int .i64 (IntKind.i64.wrap (SP.sf zs pre + z)))).drew).cell? ⟨w.heap.size, 0, none⟩ = some (.slice (some ⟨g, off, none⟩) zs.length cap)) ∧ Below w.heap.size w ((V).setCell ⟨w1.heap.size, 0, none⟩ (.int .i64 (IntKind.i64.wrap (SP.sf zs pre + z)))).drew) := by
      rw [hwr, hsn, hpl]
      exact ⟨(KeepsOthers.setCell _ _ _).trans (KeepsOthers.drew _), SP.KP.setB V 0 _, ⟨⟨by omega, bV.set _, by omega, by (first | omega | (push_cast; omega))⟩, (World.cell?_setCell_other _ _ _ _ (by simp <;> omega)).trans k0⟩, (hB.setCell (p := ⟨w1.heap.size, 0, none⟩) (by simp <;> omega) _).trans (RD.below_drewN _ _ 1)⟩
    have cV := bV.cell
    have fV := bV.frozen
    clear hwr hsn hpl hB ST hE hcl hz bV hs0 hs1 hgd B1 B2 hbW bS
    dsimp only at *
    generalize SP.sf zs pre = s at *
    gi_wp2_with fail
    have hm : Try.prog.follows .mixedOrders = true := by kernel_rfl
    gi_region_elder_o
    all_goals (gi_wp2; exact FIN.out)
  case done =>
    rintro D ys W hD rfl ⟨⟨⟨-, bV, -, -⟩, k0⟩, hB⟩ hK
    rw [SP.sf_up zs zs.length zs.length (Nat.le_refl _)] at bV
    have cV := bV.cell
    clear ST
    gi_wp2
    refine ⟨by simp, .inl ⟨_, _, rfl, run_takeDeferred hK, ?_⟩⟩
    refine ⟨.tuple #[.int .i64 (SP.sm zs zs.length), .bool true], ?_, rfl, hB.trans (belowK_b (w := w) (Nat.le_refl _) W D _ _ (by omega) hK rfl rfl)⟩
    simp [results, Try.f8, go_sem]
  case stop =>
    rintro D c pre W _ _ h _
    exact h.elim
set_option maxHeartbeats 800000 in
set_option maxRecDepth 100000 in
theorem implTokens_any (a : Option Addr) (cap : Nat) (zs : List Int) (t : Int) (th : Bool) (w : World) (hz : M4.IntsAt w a zs) (hl : zs.length ≤ 1048576) :
    Calls Try.prog 8 #[.agg #[.slice a zs.length cap, .int .i64 t, .bool th]] w fun e w' => e = .returned (.tuple #[.int .i64 (if SP.good zs t = true then SP.sm zs zs.length else 0), .bool (SP.good zs t)]) ∧ Below w.heap.size w w' := by
  by_cases hg : SP.good zs t = true
  · rw [if_pos hg, hg]
    exact callsIn_wide.1 (implTokens_in a cap zs t th w hz hg)
  · have hg' : SP.good zs t = false := by simpa using hg
    have BX : Below w.heap.size w (w.alloc (.cells #[.slice a zs.length cap, .int .i64 t, .bool th] 28)) := (Below.refl _ _).alloc (Nat.le_refl _) _
    have GD : Hid _ := implGoodSpray_any a cap zs t th _ (hz.below BX) hl
    rw [hg'] at GD
    rw [hg', if_neg (by simp)]
    clear hg hg' hz
    generalize zs.length = m at *
    go_enter Try.func8, Try.ntmps8
    go_wp2_with fail
    refine Calls.mono GD.out ?_
    rintro e w1 ⟨rfl, hb⟩
    have B1 := BX.trans (hb.mono BX.size)
    clear GD BX hb
    go_wp2
    exact bodyPost_ret (v := .tuple #[.int .i64 0, .bool false]) (by simp [results, Try.results8, go_sem]) rfl ⟨rfl, B1⟩
end Go.Proofs.Ytgajfpohlemahaa
