import Derived.Test.YtfkmnmiolnijaaaRows
import Derived.Test.YtfkmnmiolnijaaaMCg
import Derived.Test.YtfkmnmiolnijaaaMInfo
import Derived.Test.YtfkmnmiolnijaaaMRnd
import Derived.Test.YtfkmnmiolnijaaaMSI
import Derived.Test.YtfkmnmiolnijaaaCSort
import Derived.Test.YtfkmnmiolnijaaaCSortN
import Derived.Test.YtfkmnmiolnijaaaMBxN
import Derived.RangeFuncNested
import Derived.RangeFuncBound
import Derived.RangeFuncCalls
import Derived.RangeFuncLeaves
import Derived.Shelf.Abstract
import Derived.Shelf.RegionOpen
import Derived.WalkKit
import Derived.WalkSmall
import Derived.WalkSpells
import Derived.WalkLawsBesides
import Derived.Outline
import Derived.OwnWalkIn
import Derived.TacticsInMore
import Derived.LoopNIn
import Derived.LoopIn
import Derived.RangeFuncBox
import Derived.Maps.AppendAt
import Derived.Deep.QuietTactic
import Derived.BigQuiet
import Derived.Deep.RegionHeld3
import Derived.Test.YtfkmnmiolnijaaaCFault
import Derived.Test.YtfkmnmiolnijaaaCRiseI
import Derived.Test.YtfkmnmiolnijaaaMDie
/- slices.Values of a row of numbers, collected, sorted; slices.Equal; areInSomeOrder. -/
namespace Go.Proofs.Ytfkmnmiolnijaaa
open Go.RowKit Go.Shelf
attribute [local go_sem] Oper.semAt_some RD.wide_fn
set_option maxRecDepth 100000 in
set_option maxHeartbeats 2000000 in
/-- What slices.Values hands back goes along the row as long as it is asked to go on, whatever the body does above n0. -/
theorem vals_in (n : Nat) (hn : 1 ≤ n) (l q n0 : Nat) (a : Option Addr) (cap : Nat) (zs : List Int) (hz : zs.length ≤ 1048576) (J Jx : List Int → World → Prop)
    (hY : ∀ pre x W, J pre W → pre.length < zs.length → YieldAt Fence.wide (n - 1) Try.prog l #[.int .i64 x] W fun e W' =>
      (e = .returned (.bool true) ∧ J (pre ++ [x]) W' ∧ Below n0 W W') ∨ (e = .returned (.bool false) ∧ Jx (pre ++ [x]) W'))
    (W : World) (hq : W.cell? ⟨q, 0, none⟩ = some (.slice a zs.length cap)) (hI : ∀ V, Below n0 W V → M4.IntsAt V a zs) (h0 : J [] W) :
    CallsIn Fence.wide n Try.prog 72 #[.func (.yield l) #[] #[], .pointer (some ⟨q, 0, none⟩)] W fun e W' => (∃ v, e = .returned v) ∧ (J zs W' ∨ ∃ k, k ≤ zs.length ∧ Jx (zs.take k) W') := by
  refine callsIn_of_wp Try.func72 rfl trivial ?_ rfl
  simp only [Try.ntmps72, List.size_toArray, List.length_cons, List.length_nil, Nat.reduceAdd, Nat.reduceSub, Array.replicate_succ, Array.replicate_zero, List.push_toArray, List.append_toArray, List.nil_append, List.cons_append]
  gi_wp2
  gi_loopw [7] (fun i wr => ∃ k : Nat, k ≤ zs.length ∧ i = .int .i64 k ∧ J (zs.take k) wr ∧ Below n0 W wr)
    (fun i _ => zs.length - (intOf i).toNat)
  case atStart => exact ⟨0, Nat.zero_le _, rfl, h0, Below.refl _ _⟩
  case round =>
    obtain ⟨k, hk, rfl, hJs, hnx⟩ := hrel
    by_cases hlt : k < zs.length
    · obtain ⟨fn, tmps, assign, body, hy, hR⟩ := hY _ (zs.getD k 0) wr hJs (by rw [List.length_take]; omega)
      have ht : zs.take k ++ [zs.getD k 0] = zs.take (k + 1) := by rw [List.take_succ_eq_append_getElem hlt, List.getD_eq_getElem?_getD, List.getElem?_eq_getElem hlt]; rfl
      rw [ht] at hR
      obtain ⟨b, off, rfl, hlt1, hc⟩ := (hI wr hnx).at hlt
      clear ht
      generalize zs.getD k 0 = x at *
      gi_wp2
      refine hR.mono ?_
      rintro e W3 (⟨rfl, hJ3, hk3⟩ | ⟨rfl, hJx3⟩)
      · gi_wp2
        go_roundw
        case rel => exact ⟨k + 1, by omega, by simp, hJ3, hnx.trans hk3⟩
        case measure => simp [intOf]; omega
      · gi_wp2
        refine bodyPost_ret (results_none rfl _ _ _) rfl ?_
        exact ⟨⟨_, rfl⟩, .inr ⟨k + 1, by omega, hJx3⟩⟩
    · obtain rfl : k = zs.length := by omega
      rw [List.take_length] at hJs
      gi_wp2
      go_end0
      exact ⟨⟨_, rfl⟩, .inl hJs⟩
theorem vals_stops (n : Nat) (hn : 1 ≤ n) (q n0 : Nat) (a : Option Addr) (cap : Nat) (zs : List Int) (hz : zs.length ≤ 1048576) (w : World) (hqn : q < w.heap.size) (hn0 : n0 ≤ w.heap.size)
    (hq : w.cell? ⟨q, 0, none⟩ = some (.slice a zs.length cap)) (hI : ∀ V, Below n0 w V → M4.IntsAt V a zs) :
    SeqStopsK Fence.wide n Try.prog 72 #[.pointer (some ⟨q, 0, none⟩)] (fun x : Int => #[Value.int .i64 x]) (Below n0) (fun ys => ys = zs) (fun pre => pre <+: zs) zs.length w := fun l J Jx W hW _ _ hY h0 => by
  have hq' := (hW.cell (p := ⟨q, 0, none⟩) hqn).trans hq
  refine (vals_in n hn l q n0 a cap zs hz J Jx hY W hq' (fun V hV => hI V ((hW.mono hn0).trans hV)) h0).mono ?_
  rintro e W' ⟨he, hj | ⟨k, hk, hj⟩⟩
  · exact ⟨he, .inl ⟨_, rfl, hj⟩⟩
  · exact ⟨he, .inr ⟨_, List.take_prefix _ _, hj⟩⟩
set_option maxHeartbeats 3200000 in
set_option maxRecDepth 100000 in
theorem appendVals_in (q n0 : Nat) (a : Option Addr) (cap : Nat) (zs : List Int) (hz : zs.length ≤ 1048576) (w : World) (hqn : q < w.heap.size) (hn0 : n0 ≤ w.heap.size)
    (hq : w.cell? ⟨q, 0, none⟩ = some (.slice a zs.length cap)) (hI : ∀ V, Below n0 w V → M4.IntsAt V a zs) :
    CallsIn Fence.wide 10 Try.prog 76 #[.slice none 0 0, .func (.func 72) #[] #[.pointer (some ⟨q, 0, none⟩)]] w fun e w' => ∃ v, e = .returned v ∧ w'.ownsRow w.heap.size 3 1 v zs.length (M4.iv zs) ∧ Below w.heap.size w w' := by
  obtain ⟨i0, hi, hz0, hz1, hz2⟩ := info_parts Try.info3
  refine callsIn_of_wp_marks Try.func76 rfl trivial ?_ rfl
  simp only [Try.ntmps76, List.size_toArray, List.length_cons, List.length_nil, Nat.reduceAdd, Nat.reduceSub, Array.replicate_succ, Array.replicate_zero, List.push_toArray, List.append_toArray, List.nil_append, List.cons_append]
  gi_wp2_with fail
  have bO := Boxed.new w 22 (.slice none 0 0)
  have hB0 : Below w.heap.size w (w.alloc (.cells #[.slice none 0 0] 22)) := (Below.refl _ w).alloc (Nat.le_refl _) _
  refine wpIn_rangeFunc_ownG rfl (by omega) (gf := 72) (lb := #[.pointer (some ⟨q, 0, none⟩)]) rfl trivial (enters_of Try.func72 (by kernel_rfl) rfl)
    (vals_stops 9 (by omega) q n0 a cap zs hz w hqn hn0 hq hI) belowK_t (belowK_b (by simp; omega)) hB0 (fun _ => rfl)
    (fun pre W => (∃ v, Boxed W w.heap.size 22 v ∧ W.ownsRow w.heap.size 3 1 v pre.length (M4.iv pre) ∧ (v = .slice none 0 0 ↔ pre = [])) ∧ Below w.heap.size w W)
    (fun _ _ _ => False)
    (OwnFrom.and (Own.from (holdsRow_own w.heap.size w.heap.size 22 3 1 (fun pre : List Int => pre.length) (fun pre => M4.iv pre) (fun pre v => v = .slice none 0 0 ↔ pre = [])) _) (ownFrom_below (Nat.le_refl _) (by simp)))
    (fun _ _ _ _ _ hs _ _ => hs)
    ⟨⟨_, bO, World.ownsRow_nil _ _ _ _, by simp⟩, hB0⟩
    (fun x => { tmps := #[.slice none 0 0, .func (.func 72) #[] #[.pointer (some ⟨q, 0, none⟩)], .pointer (some ⟨w.heap.size, 0, none⟩), undef, .slice none 0 0, .int .i64 x, .func (.func 72) #[] #[.pointer (some ⟨q, 0, none⟩)], .int .i64 x, undef, undef, undef, undef, undef], defers := [] }) ?assign ?body ?done ?stop
  case assign =>
    intro l x W K hK
    gi_wp2
    exact hK
  case body =>
    rintro l pre x W ⟨⟨v, hv, hrow, hnil⟩, hB⟩ hlt
    have hc := hv.cell
    have hml : (1048577 : Nat) ≤ maxLen := by unfold maxLen; omega
    gi_wp2_with (gi_at_builtin; refine wpListIn_append_own _ rfl _ _ 22 rfl w.heap.size 3 i0 (.int .i64 0) 1 8 Try.underlying22 hi hz0 hz1 hz2 rfl (by decide) _ _ _ rfl (hrow.alloc _) ⟨W.heap.size, 0, none⟩ 1 1 [.int .i64 x] rfl rfl (cell_one_new _ _ _) (by simp [Value.oneCell']) (by omega) (by omega) (by have := hB.size; simp; omega) ?_; intro v' w1 hown' hgrow _; obtain ⟨g', cap', rfl⟩ := ownsRow_succ hown'; obtain ⟨hv1, hv2, hr2, hk2, hb2⟩ := hv.appended (by decide) hrow hB.size (Nat.le_refl _) hown' hgrow; have hc1 := hv1.cell; have hf1 := hv1.frozen)
    exact ⟨hk2.from _, hb2.mono (by omega), ⟨_, hv2, by simpa [M4.iv] using hr2, by simp⟩, hB.trans hb2⟩
  case done =>
    rintro D ys' W hD rfl ⟨⟨v, hv, hrow, hnil⟩, hB⟩ hK
    have hc := hv.cell
    gi_wp2
    refine ⟨by simp, .inl ⟨_, _, rfl, run_takeDeferred hK, ?_⟩⟩
    exact ⟨_, results_tmp rfl _ _ _, v, rfl, ownsRow_putObj hrow _ hK rfl, hB.trans (belowK_b (w := w) (Nat.le_refl _) W D _ _ (by simp at hD; omega) hK rfl rfl)⟩
  case stop =>
    rintro D c pre W _ _ h _
    exact h.elim
set_option maxHeartbeats 800000 in
set_option maxRecDepth 100000 in
theorem sortedVals_any (q : Nat) (a : Option Addr) (cap : Nat) (zs : List Int) (hz : zs.length ≤ 1048576) (w : World) (hqn : q < w.heap.size)
    (hq : w.cell? ⟨q, 0, none⟩ = some (.slice a zs.length cap)) (hI : M4.IntsAt w a zs) :
    Calls Try.prog 62 #[.func (.func 72) #[] #[.pointer (some ⟨q, 0, none⟩)]] w fun e w' => ∃ v, e = .returned v ∧ w'.ownsRow w.heap.size 3 1 v zs.length (M4.iv (CG.srt zs)) ∧ Below w.heap.size w w' := by
  have AP : Hid (Calls Try.prog 76 #[.slice none 0 0, .func (.func 72) #[] #[.pointer (some ⟨q, 0, none⟩)]] w fun e w' => ∃ v, e = .returned v ∧ w'.ownsRow w.heap.size 3 1 v zs.length (M4.iv zs) ∧ Below w.heap.size w w') := callsIn_wide.1 (appendVals_in q w.heap.size a cap zs hz w hqn (Nat.le_refl _) hq (fun V hV => M4.IntsAt.below hI hV))
  have CL : Hid (Calls Try.prog 70 #[.func (.func 72) #[] #[.pointer (some ⟨q, 0, none⟩)]] w fun e w' => ∃ v, e = .returned v ∧ w'.ownsRow w.heap.size 3 1 v zs.length (M4.iv zs) ∧ Below w.heap.size w w') := by
    show Calls _ _ _ _ _
    clear hq hI
    go_enter Try.func70, Try.ntmps70
    go_wp2_with fail
    refine Calls.mono AP.out ?_
    rintro e w1 ⟨v, rfl, ho, hb⟩
    have HO : Hid _ := ho
    clear AP ho
    go_wp2
    go_ret
    exact ⟨v, rfl, HO.out, hb⟩
  clear AP hI hq
  go_enter Try.func62, Try.ntmps62
  go_wp2_with fail
  refine Calls.mono CL.out ?_
  rintro e w1 ⟨v, rfl, ho, hb⟩
  clear CL
  rcases ho.2 with ⟨rfl, h0⟩ | ⟨g, c, cur, rfl, hrest⟩
  · have hz0 : zs = [] := by
      have := ho.1
      simp [M4.iv] at this
      cases zs with
      | nil => rfl
      | cons z zs => simp at h0
    subst hz0
    clear ho h0
    go_wp2_with fail
    refine (sortI_0 _ _ _).mono ?_
    rintro e w2 ⟨rfl, rfl⟩
    go_wp2
    go_ret
    exact ⟨_, rfl, by rw [show CG.srt [] = [] from by simp [CG.srt]]; exact World.ownsRow_nil _ _ _ _, hb⟩
  · have SO : Hid (Calls Try.prog 71 #[.slice (some ⟨g, 0, none⟩) zs.length c] w1 fun e w' => e = .returned (.tuple #[]) ∧ w'.ownsRow w.heap.size 3 1 (.slice (some ⟨g, 0, none⟩) zs.length c) zs.length (M4.iv (zs.mergeSort fun x y => decide (x ≤ y))) ∧ w1.grownBy w' (some g)) := sortsI _ g c zs w1 ho hz
    have HG : Hid (w.heap.size ≤ g) := (ho.lt g rfl).1
    clear ho hrest
    go_wp2_with fail
    refine Calls.mono SO.out ?_
    rintro e w2 ⟨rfl, o2, gr⟩
    have HO : Hid _ := o2
    have hB2 : Below w.heap.size w w2 := hb.grown gr hb.size (fun k hk => by cases hk; exact HG.out)
    clear SO o2 gr HG
    go_wp2
    go_ret
    exact ⟨_, rfl, HO.out, hB2⟩
theorem take_eq_succ {xs ys : List Int} {k : Nat} (hx : k < xs.length) (hy : k < ys.length) (h : xs.take k = ys.take k) (e : xs.getD k 0 = ys.getD k 0) : xs.take (k + 1) = ys.take (k + 1) := by
  rw [List.take_succ_eq_append_getElem hx, List.take_succ_eq_append_getElem hy, h]
  congr 2
  simpa [List.getD_eq_getElem?_getD, List.getElem?_eq_getElem hx, List.getElem?_eq_getElem hy] using e
set_option maxHeartbeats 1600000 in
set_option maxRecDepth 100000 in
theorem equalInts_any (a b : Option Addr) (ca cb : Nat) (xs ys : List Int) (w : World) (hx : xs.length ≤ 1048576) (hy : ys.length ≤ 1048576) (hax : M4.IntsAt w a xs) (hay : M4.IntsAt w b ys) :
    Calls Try.prog 61 #[.slice a xs.length ca, .slice b ys.length cb] w fun e w' => e = .returned (.bool (decide (xs = ys))) ∧ Below w.heap.size w w' := by
  obtain ⟨D, hD⟩ : ∃ D, decide (xs = ys) = D := ⟨_, rfl⟩
  rw [hD]
  have HD : Hid (decide (xs = ys) = D) := hD
  have HX : Hid _ := hax
  have HY : Hid _ := hay
  clear hD hax hay
  by_cases hl : xs.length = ys.length
  · have hne : ((xs.length : Int) != (ys.length : Int)) = false := by simp [hl]
    have hne2 : (xs.length != ys.length) = false := by simp [hl]
    have l1 : xs.length ≤ ys.length := by omega
    have HL : Hid (xs.length = ys.length) := hl
    clear hl
    go_enter Try.func61, Try.ntmps61
    go_wp2
    go_loopw [13] (fun iv wr => ∃ k : Nat, iv = .int .i64 k ∧ k ≤ xs.length ∧ Hid (xs.take k = ys.take k) ∧ Below w.heap.size w wr) (fun iv _ => (xs.length - intOf iv).toNat)
    case atStart => exact ⟨0, rfl, by omega, rfl, Below.refl _ _⟩
    case round =>
      obtain ⟨k, rfl, hk, hT, hb⟩ := hrel
      by_cases hlk : k < xs.length
      · have hly : k < ys.length := by omega
        obtain ⟨b1, off1, rfl, hlt1, c0⟩ := (M4.IntsAt.below HX.out hb).at hlk
        obtain ⟨b2, off2, rfl, hlt2, d0⟩ := (M4.IntsAt.below HY.out hb).at hly
        have hT' : Hid (xs.getD k 0 = ys.getD k 0 → xs.take (k + 1) = ys.take (k + 1)) := fun e => take_eq_succ hlk hly hT.out e
        have hF : Hid (xs.getD k 0 ≠ ys.getD k 0 → D = false) := fun e => by rw [← HD.out]; exact decide_eq_false (fun c => e (by rw [c]))
        clear HX HY hT
        generalize xs.getD k 0 = x at *
        generalize ys.getD k 0 = y at *
        by_cases hxy : x = y
        · have hE : Hid _ := hT'.out hxy
          subst hxy
          clear hT' hF HD
          go_wp2
          go_quiet (fail)
          all_goals (
            go_wp2
            go_roundw
            case rel => exact ⟨k + 1, by go_num, by omega, hE, below_drewN hb _⟩
            case measure => simp [intOf]; omega)
        · have hE : Hid (D = false) := hF.out hxy
          have hn : (x != y) = true := by simp [hxy]
          clear hT' hF HD hxy
          go_wp2
          go_quiet (fail)
          all_goals (
            go_wp2
            go_ret
            exact ⟨M4.ret_bool hE.out.symm, below_drewN hb _⟩)
      · obtain rfl : k = xs.length := by omega
        have hF : Hid (D = true) := by
          show _ = _
          rw [← HD.out, decide_eq_true_eq]
          have := hT.out
          rw [List.take_length, HL.out, List.take_length] at this
          exact this
        clear HD HX HY hT
        go_wp2
        go_ret
        exact ⟨M4.ret_bool hF.out.symm, hb⟩
  · have hne : ((xs.length : Int) != (ys.length : Int)) = true := by simp; omega
    have hne2 : (xs.length != ys.length) = true := by simp [hl]
    have hF : Hid (D = false) := by show _ = _; rw [← HD.out]; exact decide_eq_false (fun e => hl (by rw [e]))
    clear hl HD HX HY
    go_enter Try.func61, Try.ntmps61
    go_wp2
    go_ret
    exact ⟨M4.ret_bool hF.out.symm, Below.refl _ _⟩
set_option maxHeartbeats 1600000 in
set_option maxRecDepth 100000 in
theorem inSome_any (a b : Option Addr) (ca cb : Nat) (l rising : List Int) (w : World) (hl : l.length ≤ 1048576) (hr : rising.length ≤ 1048576) (hax : M4.IntsAt w a l) (hay : M4.IntsAt w b rising) :
    Calls Try.prog 48 #[.slice a l.length ca, .slice b rising.length cb] w fun e w' => e = .returned (.bool (CG.inOrd l rising)) ∧ Below w.heap.size w w' := by
  have VA : Hid (Calls Try.prog 63 #[.slice a l.length ca] w fun e w' => e = .returned (.func (.func 72) #[] #[.pointer (some ⟨w.heap.size, 0, none⟩)]) ∧ w' = w.alloc (.cells #[.slice a l.length ca] 22)) := by
    show Calls _ _ _ _ _
    have hmf : ∀ (fn : Fn) (first cap : Array Value) (w : World), (Instr.makeFunc fn first cap).run Try.prog w = .ok (.func fn first cap) w := fun _ _ _ _ => rfl
    clear hax hay
    go_enter Try.func63, Try.ntmps63
    go_wp2
    go_ret
    exact ⟨rfl, rfl⟩
  have hB0 : Below w.heap.size w (w.alloc (.cells #[.slice a l.length ca] 22)) := (Below.refl _ w).alloc (Nat.le_refl _) _
  have x0 : BxN (w.alloc (.cells #[.slice a l.length ca] 22)) w.heap.size [.slice a l.length ca] 22 := BxN.new w _ _ rfl
  have SO : Hid _ := sortedVals_any w.heap.size a ca l hl _ x0.lt (x0.cell 0 rfl) (M4.IntsAt.below hax hB0)
  have EQ : Hid (∀ (W : World) (g : Option Addr) (c : Nat), Below w.heap.size w W → M4.IntsAt W g (CG.srt l) → Calls Try.prog 61 #[.slice g l.length c, .slice b rising.length cb] W fun e w' => e = .returned (.bool (CG.inOrd l rising)) ∧ Below W.heap.size W w') := fun W g c hW hg => by
    have h := equalInts_any g b c cb (CG.srt l) rising W (by rw [CG.srt, List.length_mergeSort]; exact hl) hr hg (M4.IntsAt.below hay hW)
    rw [show (CG.srt l).length = l.length from List.length_mergeSort l] at h
    exact h
  generalize CG.inOrd l rising = D at *
  generalize CG.srt l = sl at *
  generalize w.alloc (.cells #[.slice a l.length ca] 22) = W0 at *
  clear x0 hax hay
  go_enter Try.func48, Try.ntmps48
  go_wp2_with fail
  refine Calls.mono VA.out ?_
  rintro e w1 ⟨rfl, rfl⟩
  clear VA
  go_wp2_with fail
  refine Calls.mono SO.out ?_
  rintro e w2 ⟨v, rfl, ho, hb⟩
  have hB2 := hB0.trans (hb.mono hB0.size)
  obtain ⟨g, c, rfl⟩ : ∃ g c, v = .slice g l.length c := by
    rcases ho.2 with ⟨rfl, h0⟩ | ⟨g, c, cur, rfl, _⟩
    · exact ⟨none, 0, by first | rfl | (rw [h0])⟩
    · exact ⟨_, _, rfl⟩
  have hg : M4.IntsAt w2 g sl := by
    rcases ho.2 with ⟨h, h0⟩ | ⟨g', c', cur, h, _⟩
    · exact .inl (List.length_eq_zero_iff.1 (by have h1 := ho.1; simpa [M4.iv, h0] using h1))
    · cases h; exact M5.own_ints ho
  have E2 : Hid _ := EQ.out w2 g c hB2 hg
  clear EQ SO ho hb hg
  go_wp2_with fail
  refine Calls.mono E2.out ?_
  rintro e w3 ⟨rfl, hb3⟩
  clear E2
  go_wp2
  go_ret
  exact ⟨rfl, hB2.trans (hb3.mono hB2.size)⟩
end Go.Proofs.Ytfkmnmiolnijaaa

/- The program's order of holds: cmp.Compare, cmp.Or, byIdThenChild. -/
namespace Go.Proofs.Ytfkmnmiolnijaaa
open Go.RowKit
namespace CG
/-- What cmp.Compare answers. -/
def cmpI (x y : Int) : Int := if x < y then -1 else if y < x then 1 else 0
/-- What cmp.Or answers of two. -/
def orI (x y : Int) : Int := if x = 0 then y else x
/-- What the order of holds answers. -/
def cmpH (g h : I2) : Int := orI (cmpI g.a0 h.a0) (cmpI g.a1 h.a1)
theorem cmpI_in (x y : Int) : cmpI x y = -1 ∨ cmpI x y = 0 ∨ cmpI x y = 1 := by unfold cmpI; split; exact .inl rfl; split; exact .inr (.inr rfl); exact .inr (.inl rfl)
theorem cmpH_lt (g h : I2) : decide (cmpH g h < 0) = lessH g h := by
  rw [lessH, decide_eq_decide]
  unfold cmpH orI cmpI
  by_cases h1 : g.a0 < h.a0
  · simp [h1]
  · by_cases h2 : h.a0 < g.a0
    · simp [h1, h2]; omega
    · have e : g.a0 = h.a0 := by omega
      by_cases h3 : g.a1 < h.a1
      · simp [e, h3]
      · by_cases h4 : h.a1 < g.a1
        · simp [e, h3, h4]
        · simp [e, h3, h4]
end CG
set_option maxHeartbeats 400000 in
set_option maxRecDepth 100000 in
theorem compareC_any (x y : Int) (w : World) : Calls Try.prog 69 #[.int .i64 x, .int .i64 y] w fun e w' => e = .returned (.int .i64 (CG.cmpI x y)) ∧ w = w' := by
  by_cases h1 : x < y
  · have hC : Hid (CG.cmpI x y = -1) := by show _ = _; simp [CG.cmpI, h1]
    go_enter Try.func69, Try.ntmps69
    go_wp2
    go_ret
    exact ⟨by rw [hC.out]; rfl, rfl⟩
  · by_cases h2 : y < x
    · have hC : Hid (CG.cmpI x y = 1) := by show _ = _; simp [CG.cmpI, h1, h2]
      go_enter Try.func69, Try.ntmps69
      go_wp2
      go_ret
      exact ⟨by rw [hC.out]; rfl, rfl⟩
    · have hC : Hid (CG.cmpI x y = 0) := by show _ = _; simp [CG.cmpI, h1, h2]
      go_enter Try.func69, Try.ntmps69
      go_wp2
      go_ret
      exact ⟨by rw [hC.out]; rfl, rfl⟩
set_option maxHeartbeats 1600000 in
set_option maxRecDepth 100000 in
theorem orC_any (g : Nat) (x y : Int) (w : World) (h0 : w.cell? ⟨g, 0, none⟩ = some (.int .i64 x)) (h1 : w.cell? ⟨g, 1, none⟩ = some (.int .i64 y)) :
    Calls Try.prog 68 #[.slice (some ⟨g, 0, none⟩) 2 2] w fun e w' => e = .returned (.int .i64 (CG.orI x y)) ∧ w = w' := by
  obtain ⟨z, hz⟩ : ∃ z, CG.orI x y = z := ⟨_, rfl⟩
  rw [hz]
  have hC : Hid (CG.orI x y = z) := hz
  clear hz
  by_cases hx : x = 0
  · have hE : y = z := by rw [← hC.out, CG.orI, if_pos hx]
    subst hx hE
    clear hC
    by_cases hy : y = 0
    · subst hy
      go_enter Try.func68, Try.ntmps68
      go_wp2
      refine wp_loop_rounds 3 ?_
      rw [rounds_succ]
      go_wp2
      rw [rounds_succ]
      go_wp2
      rw [rounds_succ]
      go_wp2
      go_ret
      exact ⟨rfl, rfl⟩
    · have hn : (y != 0) = true := by simp [hy]
      go_enter Try.func68, Try.ntmps68
      go_wp2
      refine wp_loop_rounds 2 ?_
      rw [rounds_succ]
      go_wp2
      rw [rounds_succ]
      go_wp2
      go_ret
      exact ⟨rfl, rfl⟩
  · have hE : x = z := by rw [← hC.out, CG.orI, if_neg hx]
    subst hE
    clear hC
    have hn : (x != 0) = true := by simp [hx]
    go_enter Try.func68, Try.ntmps68
    go_wp2
    refine wp_loop_rounds 1 ?_
    rw [rounds_succ]
    go_wp2
    go_ret
    exact ⟨rfl, rfl⟩
set_option maxHeartbeats 1600000 in
set_option maxRecDepth 100000 in
theorem byIdC_any (g h : I2) (w : World) : Calls Try.prog 56 #[g.v, h.v] w fun e w' => e = .returned (.int .i64 (CG.cmpH g h)) ∧ Below w.heap.size w w' := by
  obtain ⟨g0, g1⟩ := g
  obtain ⟨h0, h1⟩ := h
  obtain ⟨z, hz⟩ : ∃ z, CG.cmpH ⟨g0, g1⟩ ⟨h0, h1⟩ = z := ⟨_, rfl⟩
  rw [hz]
  unfold CG.cmpH at hz
  simp only at hz
  obtain ⟨c0, hc0⟩ : ∃ c, CG.cmpI g0 h0 = c := ⟨_, rfl⟩
  obtain ⟨c1, hc1⟩ : ∃ c, CG.cmpI g1 h1 = c := ⟨_, rfl⟩
  have C0 : Hid (∀ W, Calls Try.prog 69 #[.int .i64 g0, .int .i64 h0] W fun e w' => e = .returned (.int .i64 c0) ∧ W = w') := fun W => hc0 ▸ compareC_any g0 h0 W
  have C1 : Hid (∀ W, Calls Try.prog 69 #[.int .i64 g1, .int .i64 h1] W fun e w' => e = .returned (.int .i64 c1) ∧ W = w') := fun W => hc1 ▸ compareC_any g1 h1 W
  rw [hc0, hc1] at hz
  have OR : Hid (∀ (g : Nat) (W : World), W.cell? ⟨g, 0, none⟩ = some (.int .i64 c0) → W.cell? ⟨g, 1, none⟩ = some (.int .i64 c1) → Calls Try.prog 68 #[.slice (some ⟨g, 0, none⟩) 2 2] W fun e w' => e = .returned (.int .i64 z) ∧ W = w') := fun g W a b => hz ▸ orC_any g c0 c1 W a b
  clear hc0 hc1 hz
  have hB0 : Below w.heap.size w ((w.alloc (.cells #[.int .i64 g0, .int .i64 g1] 61)).alloc (.cells #[.int .i64 h0, .int .i64 h1] 61)) := ((Below.refl _ w).alloc (Nat.le_refl _) _).alloc (by simp) _
  have x0 : BxN ((w.alloc (.cells #[.int .i64 g0, .int .i64 g1] 61)).alloc (.cells #[.int .i64 h0, .int .i64 h1] 61)) w.heap.size [.int .i64 g0, .int .i64 g1] 61 := (BxN.new w _ _ rfl).alloc _
  have y0 : BxN ((w.alloc (.cells #[.int .i64 g0, .int .i64 g1] 61)).alloc (.cells #[.int .i64 h0, .int .i64 h1] 61)) (w.heap.size + 1) [.int .i64 h0, .int .i64 h1] 61 := BxN.new _ _ _ (by simp)
  go_enter Try.func56, Try.ntmps56
  go_wp2_with fail
  generalize (w.alloc (.cells #[.int .i64 g0, .int .i64 g1] 61)).alloc (.cells #[.int .i64 h0, .int .i64 h1] 61) = W0 at *
  have a0 := x0.cell 0 rfl
  have a1 := x0.cell 1 rfl
  have b0 := y0.cell 0 rfl
  have b1 := y0.cell 1 rfl
  clear x0 y0
  go_region_held3 (fun w' => w'.cell? ⟨w.heap.size, 0, none⟩ = some (.int .i64 g0) ∧ w'.cell? ⟨w.heap.size, 1, none⟩ = some (.int .i64 g1) ∧ w'.cell? ⟨w.heap.size + 1, 0, none⟩ = some (.int .i64 h0) ∧ w'.cell? ⟨w.heap.size + 1, 1, none⟩ = some (.int .i64 h1)) (go_keep) (first | (go_at_call 69; with_reducible refine Calls.mono (C0.out _) ?_; rintro e wn ⟨rfl, rfl⟩) | (go_at_call 69; with_reducible refine Calls.mono (C1.out _) ?_; rintro e wn ⟨rfl, rfl⟩) | (go_at_call 68; refine Calls.mono (OR.out _ _ (by simp [go_sem]) (by simp [go_sem])) ?_; rintro e wn ⟨rfl, rfl⟩))
  go_wp2
  go_ret
  exact ⟨rfl, (hB0.alloc hB0.size _).drew⟩
end Go.Proofs.Ytfkmnmiolnijaaa

/- Keepers of the program: checkRows. -/
namespace Go.Proofs.Ytfkmnmiolnijaaa
open Go.RowKit
namespace CG
theorem up_no {hs : List I2} {j : Nat} (hj : j + 1 < hs.length) (h : lessH (MI2.at_ hs j) (MI2.at_ hs (j + 1)) = false) : upH hs = false := by
  rw [Bool.eq_false_iff]; intro e
  rcases (upH_iff hs).1 e (j + 1) hj with c | c
  · omega
  · rw [Nat.add_sub_cancel, h] at c; cases c
theorem up_yes {hs : List I2} {j : Nat} (hj : hs.length ≤ j + 1) (h : ∀ m, m < j → lessH (MI2.at_ hs m) (MI2.at_ hs (m + 1)) = true) : upH hs = true := by
  refine (upH_iff hs).2 fun m hm => ?_
  cases m with
  | zero => exact .inl rfl
  | succ m => exact .inr (h m (by omega))
theorem up_succ {hs : List I2} {j : Nat} (h : ∀ m, m < j → lessH (MI2.at_ hs m) (MI2.at_ hs (m + 1)) = true) (h1 : lessH (MI2.at_ hs j) (MI2.at_ hs (j + 1)) = true) : ∀ m, m < j + 1 → lessH (MI2.at_ hs m) (MI2.at_ hs (m + 1)) = true := fun m hm => by
  by_cases c : m = j
  · subst c; exact h1
  · exact h m (by omega)
end CG
set_option linter.unusedSimpArgs false in
set_option maxHeartbeats 3200000 in
set_option maxRecDepth 100000 in
theorem checkRows_any (p : Kp) (w : World) (hp : KP.In w 0 p) (hl : p.ss.length ≤ 1048576 ∧ p.hs.length ≤ 1048576 ∧ p.ts.length ≤ 1048576) :
    Calls Try.prog 43 #[p.v] w fun e w' => e = Try.out (CG.rowsI p.said) ∧ Below w.heap.size w w' := by
  obtain ⟨ss, hs, ts, sa, ha, ta, sc, hc, tc⟩ := p
  obtain ⟨hl1, hl2, hl3⟩ := hl
  simp only at hl1 hl2 hl3
  obtain ⟨B, hB⟩ : ∃ B, CG.rowsI (Kp.said ⟨ss, hs, ts, sa, ha, ta, sc, hc, tc⟩) = B := ⟨_, rfl⟩
  rw [hB]
  have hB' : (EG.rises 6 ss && CG.inOrd ts ss && CG.upH hs) = B := hB
  clear hB
  obtain ⟨b1, h1⟩ : ∃ b, EG.rises 6 ss = b := ⟨_, rfl⟩
  obtain ⟨b2, h2⟩ : ∃ b, CG.inOrd ts ss = b := ⟨_, rfl⟩
  rw [h1, h2] at hB'
  have HB : Hid ((b1 && b2 && CG.upH hs) = B) := hB'
  have R1 : Hid (∀ W : World, Below w.heap.size w W → Calls Try.prog 55 #[.slice sa ss.length sc, .int .i64 5] W fun e w' => e = .returned (.bool b1) ∧ W = w') := fun W hW => areRising_any sa sc 6 ss W (by omega) hl1 (M4.IntsAt.below hp.s.at_ hW) b1 h1
  have R2 : Hid (∀ W : World, Below w.heap.size w W → Calls Try.prog 48 #[.slice ta ts.length tc, .slice sa ss.length sc] W fun e w' => e = .returned (.bool b2) ∧ Below W.heap.size W w') := fun W hW => h2 ▸ inSome_any ta sa tc sc ts ss W hl3 hl1 (M4.IntsAt.below hp.t.at_ hW) (M4.IntsAt.below hp.s.at_ hW)
  have HI : Hid (∀ W : World, Below w.heap.size w W → MI2.RowAt W ha hs) := fun W hW => hp.h.at_.below hW
  clear h1 h2 hB' hp hl1 hl3
  have hB0 : Below w.heap.size w (w.alloc (.cells #[.slice sa ss.length sc, .slice ha hs.length hc, .slice ta ts.length tc] 50)) := (Below.refl _ w).alloc (Nat.le_refl _) _
  have x0 : BxN (w.alloc (.cells #[.slice sa ss.length sc, .slice ha hs.length hc, .slice ta ts.length tc] 50)) w.heap.size [.slice sa ss.length sc, .slice ha hs.length hc, .slice ta ts.length tc] 50 := BxN.new w _ _ rfl
  go_enter Try.func43, Try.ntmps43
  go_wp2_with fail
  generalize w.alloc (.cells #[.slice sa ss.length sc, .slice ha hs.length hc, .slice ta ts.length tc] 50) = W0 at *
  refine (R1.out W0 hB0).mono ?_
  rintro e w1 ⟨rfl, rfl⟩
  clear R1
  cases b1
  · have hF : Hid (B = false) := by show _ = _; rw [← HB.out]; rfl
    clear R2 HI HB
    go_wp2_with fail
    refine (need_no W0).mono ?_
    rintro e w2 ⟨rfl, rfl⟩
    go_wp2
    exact ⟨rfl, by rw [hF.out]; rfl, hB0⟩
  have a0 := x0.cell 0 rfl
  have a2 := x0.cell 2 rfl
  go_wp2_with fail
  refine (need_yes W0).mono ?_
  rintro e w2 ⟨rfl, rfl⟩
  go_wp2_with fail
  refine (R2.out W0 hB0).mono ?_
  rintro e w1 ⟨rfl, hb⟩
  have hB1 := hB0.trans (hb.mono hB0.size)
  have x1 := x0.below hb x0.lt
  clear R2 hb x0 a0 a2 hB0
  cases b2
  · have hF : Hid (B = false) := by show _ = _; rw [← HB.out]; rfl
    clear HI HB x1
    go_wp2_with fail
    refine (need_no w1).mono ?_
    rintro e w2 ⟨rfl, rfl⟩
    go_wp2
    exact ⟨rfl, by rw [hF.out]; rfl, hB1⟩
  have HU : Hid (CG.upH hs = B) := HB.out
  clear HB
  go_wp2_with fail
  refine (need_yes w1).mono ?_
  rintro e w2 ⟨rfl, rfl⟩
  have l1 := x1.lt
  go_wp2_with fail
  go_loopw [2] (fun iv wr => ∃ j : Nat, iv = .int .i64 ((j : Int) + 1) ∧ (j = 0 ∨ j + 1 ≤ hs.length) ∧ Hid (∀ m, m < j → CG.lessH (MI2.at_ hs m) (MI2.at_ hs (m + 1)) = true) ∧ Below w1.heap.size w1 wr) (fun iv _ => (hs.length + 1 - intOf iv).toNat)
  case atStart => exact ⟨0, rfl, .inl rfl, show Hid _ from fun m hm => by omega, Below.refl _ _⟩
  case round =>
    obtain ⟨j, rfl, hj, hT, hb⟩ := hrel
    have x2 := x1.below hb l1
    have hB2 := hB1.trans (hb.mono hB1.size)
    by_cases hjl : j + 1 < hs.length
    · obtain ⟨b1, off1, rfl, hlt1, c0, c1⟩ := (HI.out wr hB2).at (j := j) (by omega)
      obtain ⟨b1', off1', he, -, d0, d1⟩ := (HI.out wr hB2).at hjl
      simp only [Option.some.injEq, Addr.mk.injEq] at he
      obtain ⟨rfl, rfl, -⟩ := he
      have HN : Hid (CG.lessH (MI2.at_ hs j) (MI2.at_ hs (j + 1)) = false → B = false) := fun e => by rw [← HU.out]; exact CG.up_no hjl e
      have HY : Hid (CG.lessH (MI2.at_ hs j) (MI2.at_ hs (j + 1)) = true → ∀ m, m < j + 1 → CG.lessH (MI2.at_ hs m) (MI2.at_ hs (m + 1)) = true) := fun e => CG.up_succ hT.out e
      have BI : Hid (∀ W : World, Calls Try.prog 56 #[(MI2.at_ hs j).v, (MI2.at_ hs (j + 1)).v] W fun e w' => e = .returned (.int .i64 (CG.cmpH (MI2.at_ hs j) (MI2.at_ hs (j + 1)))) ∧ Below W.heap.size W w') := fun W => byIdC_any (MI2.at_ hs j) (MI2.at_ hs (j + 1)) W
      rw [← CG.cmpH_lt] at HN HY
      generalize CG.cmpH (MI2.at_ hs j) (MI2.at_ hs (j + 1)) = z at *
      generalize MI2.at_ hs j = x at *
      generalize MI2.at_ hs (j + 1) = y at *
      obtain ⟨xa, xb⟩ := x
      obtain ⟨ya, yb⟩ := y
      have k1 := x2.cell 1 rfl
      clear HI hT HU x2 x1
      have hj1 : decide (j + 1 < hs.length) = true := by simpa using hjl
      go_wp2_with fail
      have q0 : (0 : Int) ≤ (j : Int) := by omega
      have q1 : (j : Int) < (hs.length : Int) := by omega
      have q2 : (0 : Int) ≤ (j : Int) + 1 := by omega
      have q3 : (j : Int) + 1 < (hs.length : Int) := by omega
      have q4 : IntKind.i64.wrap ((j : Int) + 1 - 1) = (j : Int) := by rw [show (j : Int) + 1 - 1 = (j : Int) from by omega, IntKind.wrap_i64]; omega
      have q6 : IntKind.i64.wrap (j : Int) = (j : Int) := by rw [IntKind.wrap_i64]; omega
      have q5 : ((j : Int) + 1).toNat = j + 1 := by omega
      have hS := And.intro k1 (And.intro c0 (And.intro c1 (And.intro d0 d1)))
      have SB : ∀ V V' : World, w.heap.size < V.heap.size → b1 < V.heap.size → Below V.heap.size V V' → (V.cell? ⟨w.heap.size, 1, none⟩ = some (.slice (some ⟨b1, off1, none⟩) hs.length hc) ∧ V.cell? ⟨b1, off1 + j * 2, none⟩ = some (.int .i64 xa) ∧ V.cell? ⟨b1, off1 + j * 2 + 1, none⟩ = some (.int .i64 xb) ∧ V.cell? ⟨b1, off1 + (j + 1) * 2, none⟩ = some (.int .i64 ya) ∧ V.cell? ⟨b1, off1 + (j + 1) * 2 + 1, none⟩ = some (.int .i64 yb)) → (V'.cell? ⟨w.heap.size, 1, none⟩ = some (.slice (some ⟨b1, off1, none⟩) hs.length hc) ∧ V'.cell? ⟨b1, off1 + j * 2, none⟩ = some (.int .i64 xa) ∧ V'.cell? ⟨b1, off1 + j * 2 + 1, none⟩ = some (.int .i64 xb) ∧ V'.cell? ⟨b1, off1 + (j + 1) * 2, none⟩ = some (.int .i64 ya) ∧ V'.cell? ⟨b1, off1 + (j + 1) * 2 + 1, none⟩ = some (.int .i64 yb)) := fun V V' h1 h2 hb ⟨a1, a2, a3, a4, a5⟩ => ⟨(hb.cell (p := ⟨_, _, none⟩) h1).trans a1, (hb.cell (p := ⟨_, _, none⟩) h2).trans a2, (hb.cell (p := ⟨_, _, none⟩) h2).trans a3, (hb.cell (p := ⟨_, _, none⟩) h2).trans a4, (hb.cell (p := ⟨_, _, none⟩) h2).trans a5⟩
      have l2 : w.heap.size < wr.heap.size := Nat.lt_of_lt_of_le l1 hb.size
      by_cases hz : z < 0
      · have hT : Hid _ := HY.out (decide_eq_true hz)
        have hzb : decide (z < 0) = true := decide_eq_true hz
        clear HY HN
        go_region_held3 (fun w' => w'.cell? ⟨w.heap.size, 1, none⟩ = some (.slice (some ⟨b1, off1, none⟩) hs.length hc) ∧ w'.cell? ⟨b1, off1 + j * 2, none⟩ = some (.int .i64 xa) ∧ w'.cell? ⟨b1, off1 + j * 2 + 1, none⟩ = some (.int .i64 xb) ∧ w'.cell? ⟨b1, off1 + (j + 1) * 2, none⟩ = some (.int .i64 ya) ∧ w'.cell? ⟨b1, off1 + (j + 1) * 2 + 1, none⟩ = some (.int .i64 yb)) (first | assumption | go_keep) (first | (go_at_call 56; refine Calls.mono (BI.out _) ?_; rintro e wn ⟨rfl, hbn⟩; have hS2 := SB _ wn (by simpa using l2) (by simpa using hlt1) hbn (by assumption); have hBn := hB2.drew.trans (hbn.mono (by simpa using hB2.size)); have hbn2 := hb.drew.trans (hbn.mono (by simpa using hb.size))) | (go_at_call 41; refine Calls.mono (need_yes _) ?_; rintro e wm ⟨rfl, rfl⟩))
        all_goals (
          go_wp2
          go_roundw
          case rel => exact ⟨j + 1, by go_num, by omega, hT, by assumption⟩
          case measure => simp [intOf]; omega)
      · have hF : Hid _ := HN.out (decide_eq_false hz)
        have hzb : decide (z < 0) = false := decide_eq_false hz
        clear HY HN
        refine MR.frame fun A hA => ?_
        have hsz : A.tmps.size = 34 := by rw [hA]; rfl
        have e1 : A.eval (.tmp 1) = .pointer (some ⟨w.heap.size, 0, none⟩) := by rw [hA]; rfl
        have f1 := MR.read (t := 1) (by rw [hsz]; decide) e1
        have e2 : A.eval (.tmp 2) = .int .i64 ((j : Int) + 1) := by rw [hA]; rfl
        have f2 := MR.read (t := 2) (by rw [hsz]; decide) e2
        have HA : Hid (A = _) := hA
        clear hA
        have hS : (fun w' => w'.cell? ⟨w.heap.size, 1, none⟩ = some (.slice (some ⟨b1, off1, none⟩) hs.length hc) ∧ w'.cell? ⟨b1, off1 + j * 2, none⟩ = some (.int .i64 xa) ∧ w'.cell? ⟨b1, off1 + j * 2 + 1, none⟩ = some (.int .i64 xb) ∧ w'.cell? ⟨b1, off1 + (j + 1) * 2, none⟩ = some (.int .i64 ya) ∧ w'.cell? ⟨b1, off1 + (j + 1) * 2 + 1, none⟩ = some (.int .i64 yb)) (World.drew _) := ⟨k1, c0, c1, d0, d1⟩
        refine wp_region_held (S := fun w' => w'.cell? ⟨w.heap.size, 1, none⟩ = some (.slice (some ⟨b1, off1, none⟩) hs.length hc) ∧ w'.cell? ⟨b1, off1 + j * 2, none⟩ = some (.int .i64 xa) ∧ w'.cell? ⟨b1, off1 + j * 2 + 1, none⟩ = some (.int .i64 xb) ∧ w'.cell? ⟨b1, off1 + (j + 1) * 2, none⟩ = some (.int .i64 ya) ∧ w'.cell? ⟨b1, off1 + (j + 1) * 2 + 1, none⟩ = some (.int .i64 yb)) (by kernel_rfl) ?_
        change wpAnyH _ _ _ _ _ _ _ _ (World.drew _)
        refine MR.takeH (i := 0) (some 20) (.pointer (some ⟨w.heap.size, 1, none⟩)) rfl rfl (by kernel_rfl) (by kernel_rfl) (by kernel_rfl) (fun _ _ _ h => h) hS (MR.free rfl) (fun wq hw => by simp [execOp, MR.ev, MR.size, hsz, e1, f1, e2, f2, go_sem]) ?_
        refine MR.takeH (i := 1) (some 21) (.slice (some ⟨b1, off1, none⟩) hs.length hc) rfl rfl (by kernel_rfl) (by kernel_rfl) (by kernel_rfl) (fun _ _ _ h => h) hS (MR.free rfl) (fun wq hw => by simp [execOp, MR.ev, MR.size, hsz, e1, f1, e2, f2, hw.1, go_sem]) ?_
        refine MR.takeH (i := 2) (some 22) (.int .i64 ((j : Int) + 1)) rfl rfl (by kernel_rfl) (by kernel_rfl) (by kernel_rfl) (fun _ _ _ h => h) hS (MR.free rfl) (fun wq hw => by simp [execOp, MR.ev, MR.size, hsz, e1, f1, e2, f2, go_sem]) ?_
        refine MR.takeH (i := 3) (some 23) (.int .i64 (j : Int)) rfl rfl (by kernel_rfl) (by kernel_rfl) (by kernel_rfl) (fun _ _ _ h => h) hS (MR.free rfl) (fun wq hw => by simp [execOp, MR.ev, MR.size, hsz, e1, f1, e2, f2, q0, q1, q2, q3, q4, q5, q6, go_sem]) ?_
        refine MR.takeH (i := 4) (some 24) (.pointer (some ⟨b1, off1 + j * 2, none⟩)) rfl rfl (by kernel_rfl) (by kernel_rfl) (by kernel_rfl) (fun _ _ _ h => h) hS (MR.free rfl) (fun wq hw => by simp [execOp, MR.ev, MR.size, hsz, e1, f1, e2, f2, q0, q1, q2, q3, q4, q5, q6, go_sem]) ?_
        refine MR.takeH (i := 5) (some 25) (.agg #[.int .i64 xa, .int .i64 xb]) rfl rfl (by kernel_rfl) (by kernel_rfl) (by kernel_rfl) (fun _ _ _ h => h) hS (MR.free rfl) (fun wq hw => by simp [execOp, MR.ev, MR.size, hsz, e1, f1, e2, f2, hw.1, hw.2.1, hw.2.2.1, hw.2.2.2.1, hw.2.2.2.2, go_sem]) ?_
        refine MR.takeH (i := 6) (some 26) (.pointer (some ⟨w.heap.size, 1, none⟩)) rfl rfl (by kernel_rfl) (by kernel_rfl) (by kernel_rfl) (fun _ _ _ h => h) hS (MR.free rfl) (fun wq hw => by simp [execOp, MR.ev, MR.size, hsz, e1, f1, e2, f2, go_sem]) ?_
        refine MR.takeH (i := 7) (some 27) (.slice (some ⟨b1, off1, none⟩) hs.length hc) rfl rfl (by kernel_rfl) (by kernel_rfl) (by kernel_rfl) (fun _ _ _ h => h) hS (MR.free rfl) (fun wq hw => by simp [execOp, MR.ev, MR.size, hsz, e1, f1, e2, f2, hw.1, go_sem]) ?_
        refine MR.takeH (i := 8) (some 28) (.int .i64 ((j : Int) + 1)) rfl rfl (by kernel_rfl) (by kernel_rfl) (by kernel_rfl) (fun _ _ _ h => h) hS (MR.free rfl) (fun wq hw => by simp [execOp, MR.ev, MR.size, hsz, e1, f1, e2, f2, go_sem]) ?_
        refine MR.takeH (i := 9) (some 29) (.pointer (some ⟨b1, off1 + (j + 1) * 2, none⟩)) rfl rfl (by kernel_rfl) (by kernel_rfl) (by kernel_rfl) (fun _ _ _ h => h) hS (MR.free rfl) (fun wq hw => by simp [execOp, MR.ev, MR.size, hsz, e1, f1, e2, f2, q0, q1, q2, q3, q4, q5, q6, go_sem]) ?_
        refine MR.takeH (i := 10) (some 30) (.agg #[.int .i64 ya, .int .i64 yb]) rfl rfl (by kernel_rfl) (by kernel_rfl) (by kernel_rfl) (fun _ _ _ h => h) hS (MR.free rfl) (fun wq hw => by simp [execOp, MR.ev, MR.size, hsz, e1, f1, e2, f2, hw.1, hw.2.1, hw.2.2.1, hw.2.2.2.1, hw.2.2.2.2, go_sem]) ?_
        refine MR.callH (i := 11) (some 31) (56) (#[.agg #[.int .i64 xa, .int .i64 xb], .agg #[.int .i64 ya, .int .i64 yb]]) (by kernel_rfl) rfl rfl (MR.free rfl) (by simp [execOp, MR.ev, MR.size, hsz, e1, f1, e2, f2, go_sem]) ?_
        refine Calls.mono (BI.out _) ?_
        rintro e wn ⟨rfl, hbn⟩
        have hS2 := SB _ wn (by simpa using l2) (by simpa using hlt1) hbn hS
        refine ⟨_, rfl, hS2, ?_⟩
        have hBn := hB2.drew.trans (hbn.mono (by simpa using hB2.size))
        refine MR.takeH (i := 12) (some 32) (.bool false) rfl rfl (by kernel_rfl) (by kernel_rfl) (by kernel_rfl) (fun _ _ _ h => h) hS2 (MR.free rfl) (fun wq hw => by simp [execOp, MR.ev, MR.size, hsz, e1, f1, e2, f2, hzb, go_sem]) ?_
        refine MR.dieH (i := 13) 41 #[.bool false] (by kernel_rfl) rfl (MR.free rfl) (by simp [execOp, MR.ev, MR.size, hsz, go_sem]) ?_
        refine (need_no _).mono ?_
        rintro e wm ⟨rfl, rfl⟩
        exact ⟨_, rfl, (by rw [HA.out]; rfl), by rw [hF.out]; rfl, hBn⟩
    · have hF : Hid (B = true) := by show _ = _; rw [← HU.out]; exact CG.up_yes (j := j) (by omega) hT.out
      have k1 := x2.cell 1 rfl
      have hj1 : decide (j + 1 < hs.length) = false := by simpa using hjl
      clear HI hT HU x2 x1
      go_wp2
      first | go_end0 | refine bodyPost_ret (results_none rfl _ _ _) rfl ?_
      exact ⟨by rw [hF.out]; rfl, hB2⟩
end Go.Proofs.Ytfkmnmiolnijaaa
