import Derived.Test.YtfkmnmiolnijaaaRows
import Derived.Test.YtfkmnmiolnijaaaMCg
import Derived.Test.YtfkmnmiolnijaaaMInfo
import Derived.Test.YtfkmnmiolnijaaaMRnd
import Derived.Test.YtfkmnmiolnijaaaMSI
import Derived.Test.YtfkmnmiolnijaaaCSort
import Derived.Test.YtfkmnmiolnijaaaCSortN
import Derived.Test.YtfkmnmiolnijaaaMBxN
import Derived.RangeFuncNested
import Derived.RangeFuncBound
import Derived.RangeFuncCalls
import Derived.RangeFuncLeaves
import Derived.Shelf.Abstract
import Derived.Shelf.RegionOpen
import Derived.WalkKit
import Derived.WalkSmall
import Derived.WalkSpells
import Derived.WalkLawsBesides
import Derived.Outline
import Derived.OwnWalkIn
import Derived.TacticsInMore
import Derived.LoopNIn
import Derived.LoopIn
import Derived.RangeFuncBox
import Derived.Maps.AppendAt
import Derived.Deep.QuietTactic
import Derived.BigQuiet
import Derived.Deep.RegionHeld3
import Derived.Test.YtfkmnmiolnijaaaCFault
import Derived.Test.YtfkmnmiolnijaaaCToCu
import Derived.Test.YtfkmnmiolnijaaaCHsI
import Derived.Test.YtfkmnmiolnijaaaCTwoOf
import Derived.Test.YtfkmnmiolnijaaaMDie
import Derived.Test.YtfkmnmiolnijaaaCRiseI
import Derived.Test.YtfkmnmiolnijaaaCBothK
import Derived.Test.YtfkmnmiolnijaaaCTrI
import Derived.Test.YtfkmnmiolnijaaaCKidI
import Derived.Test.YtfkmnmiolnijaaaCKeepS
import Derived.Test.YtfkmnmiolnijaaaCTrS
import Derived.Test.YtfkmnmiolnijaaaCL1In
import Derived.Test.YtfkmnmiolnijaaaMRH
import Derived.Test.YtfkmnmiolnijaaaCEqCu
import Derived.Test.YtfkmnmiolnijaaaMCuL
/- slices.Values of a row of numbers, collected, sorted; slices.Equal; areInSomeOrder. -/
namespace Go.Proofs.Ytfkmnmiolnijaaa
open Go.RowKit Go.Shelf
attribute [local go_sem] Oper.semAt_some RD.wide_fn
set_option maxRecDepth 100000 in
set_option maxHeartbeats 2000000 in
/-- What slices.Values hands back goes along the row as long as it is asked to go on, whatever the body does above n0. -/
theorem vals_in (n : Nat) (hn : 1 ≤ n) (l q n0 : Nat) (a : Option Addr) (cap : Nat) (zs : List Int) (hz : zs.length ≤ 1048576) (J Jx : List Int → World → Prop)
    (hY : ∀ pre x W, J pre W → pre.length < zs.length → YieldAt Fence.wide (n - 1) Try.prog l #[.int .i64 x] W fun e W' =>
      (e = .returned (.bool true) ∧ J (pre ++ [x]) W' ∧ Below n0 W W') ∨ (e = .returned (.bool false) ∧ Jx (pre ++ [x]) W'))
    (W : World) (hq : W.cell? ⟨q, 0, none⟩ = some (.slice a zs.length cap)) (hI : ∀ V, Below n0 W V → M4.IntsAt V a zs) (h0 : J [] W) :
    CallsIn Fence.wide n Try.prog 72 #[.func (.yield l) #[] #[], .pointer (some ⟨q, 0, none⟩)] W fun e W' => (∃ v, e = .returned v) ∧ (J zs W' ∨ ∃ k, k ≤ zs.length ∧ Jx (zs.take k) W') := by
  refine callsIn_of_wp Try.func72 rfl trivial ?_ rfl
  simp only [Try.ntmps72, List.size_toArray, List.length_cons, List.length_nil, Nat.reduceAdd, Nat.reduceSub, Array.replicate_succ, Array.replicate_zero, List.push_toArray, List.append_toArray, List.nil_append, List.cons_append]
  gi_wp2
  gi_loopw [7] (fun i wr => ∃ k : Nat, k ≤ zs.length ∧ i = .int .i64 k ∧ J (zs.take k) wr ∧ Below n0 W wr)
    (fun i _ => zs.length - (intOf i).toNat)
  case atStart => exact ⟨0, Nat.zero_le _, rfl, h0, Below.refl _ _⟩
  case round =>
    obtain ⟨k, hk, rfl, hJs, hnx⟩ := hrel
    by_cases hlt : k < zs.length
    · obtain ⟨fn, tmps, assign, body, hy, hR⟩ := hY _ (zs.getD k 0) wr hJs (by rw [List.length_take]; omega)
      have ht : zs.take k ++ [zs.getD k 0] = zs.take (k + 1) := by rw [List.take_succ_eq_append_getElem hlt, List.getD_eq_getElem?_getD, List.getElem?_eq_getElem hlt]; rfl
      rw [ht] at hR
      obtain ⟨b, off, rfl, hlt1, hc⟩ := (hI wr hnx).at hlt
      clear ht
      generalize zs.getD k 0 = x at *
      gi_wp2
      refine hR.mono ?_
      rintro e W3 (⟨rfl, hJ3, hk3⟩ | ⟨rfl, hJx3⟩)
      · gi_wp2
        go_roundw
        case rel => exact ⟨k + 1, by omega, by simp, hJ3, hnx.trans hk3⟩
        case measure => simp [intOf]; omega
      · gi_wp2
        refine bodyPost_ret (results_none rfl _ _ _) rfl ?_
        exact ⟨⟨_, rfl⟩, .inr ⟨k + 1, by omega, hJx3⟩⟩
    · obtain rfl : k = zs.length := by omega
      rw [List.take_length] at hJs
      gi_wp2
      go_end0
      exact ⟨⟨_, rfl⟩, .inl hJs⟩
theorem vals_stops (n : Nat) (hn : 1 ≤ n) (q n0 : Nat) (a : Option Addr) (cap : Nat) (zs : List Int) (hz : zs.length ≤ 1048576) (w : World) (hqn : q < w.heap.size) (hn0 : n0 ≤ w.heap.size)
    (hq : w.cell? ⟨q, 0, none⟩ = some (.slice a zs.length cap)) (hI : ∀ V, Below n0 w V → M4.IntsAt V a zs) :
    SeqStopsK Fence.wide n Try.prog 72 #[.pointer (some ⟨q, 0, none⟩)] (fun x : Int => #[Value.int .i64 x]) (Below n0) (fun ys => ys = zs) (fun pre => pre <+: zs) zs.length w := fun l J Jx W hW _ _ hY h0 => by
  have hq' := (hW.cell (p := ⟨q, 0, none⟩) hqn).trans hq
  refine (vals_in n hn l q n0 a cap zs hz J Jx hY W hq' (fun V hV => hI V ((hW.mono hn0).trans hV)) h0).mono ?_
  rintro e W' ⟨he, hj | ⟨k, hk, hj⟩⟩
  · exact ⟨he, .inl ⟨_, rfl, hj⟩⟩
  · exact ⟨he, .inr ⟨_, List.take_prefix _ _, hj⟩⟩
set_option maxHeartbeats 3200000 in
set_option maxRecDepth 100000 in
theorem appendVals_in (q n0 : Nat) (a : Option Addr) (cap : Nat) (zs : List Int) (hz : zs.length ≤ 1048576) (w : World) (hqn : q < w.heap.size) (hn0 : n0 ≤ w.heap.size)
    (hq : w.cell? ⟨q, 0, none⟩ = some (.slice a zs.length cap)) (hI : ∀ V, Below n0 w V → M4.IntsAt V a zs) :
    CallsIn Fence.wide 10 Try.prog 76 #[.slice none 0 0, .func (.func 72) #[] #[.pointer (some ⟨q, 0, none⟩)]] w fun e w' => ∃ v, e = .returned v ∧ w'.ownsRow w.heap.size 3 1 v zs.length (M4.iv zs) ∧ Below w.heap.size w w' := by
  obtain ⟨i0, hi, hz0, hz1, hz2⟩ := info_parts Try.info3
  refine callsIn_of_wp_marks Try.func76 rfl trivial ?_ rfl
  simp only [Try.ntmps76, List.size_toArray, List.length_cons, List.length_nil, Nat.reduceAdd, Nat.reduceSub, Array.replicate_succ, Array.replicate_zero, List.push_toArray, List.append_toArray, List.nil_append, List.cons_append]
  gi_wp2_with fail
  have bO := Boxed.new w 22 (.slice none 0 0)
  have hB0 : Below w.heap.size w (w.alloc (.cells #[.slice none 0 0] 22)) := (Below.refl _ w).alloc (Nat.le_refl _) _
  refine wpIn_rangeFunc_ownG rfl (by omega) (gf := 72) (lb := #[.pointer (some ⟨q, 0, none⟩)]) rfl trivial (enters_of Try.func72 (by kernel_rfl) rfl)
    (vals_stops 9 (by omega) q n0 a cap zs hz w hqn hn0 hq hI) belowK_t (belowK_b (by simp; omega)) hB0 (fun _ => rfl)
    (fun pre W => (∃ v, Boxed W w.heap.size 22 v ∧ W.ownsRow w.heap.size 3 1 v pre.length (M4.iv pre) ∧ (v = .slice none 0 0 ↔ pre = [])) ∧ Below w.heap.size w W)
    (fun _ _ _ => False)
    (OwnFrom.and (Own.from (holdsRow_own w.heap.size w.heap.size 22 3 1 (fun pre : List Int => pre.length) (fun pre => M4.iv pre) (fun pre v => v = .slice none 0 0 ↔ pre = [])) _) (ownFrom_below (Nat.le_refl _) (by simp)))
    (fun _ _ _ _ _ hs _ _ => hs)
    ⟨⟨_, bO, World.ownsRow_nil _ _ _ _, by simp⟩, hB0⟩
    (fun x => { tmps := #[.slice none 0 0, .func (.func 72) #[] #[.pointer (some ⟨q, 0, none⟩)], .pointer (some ⟨w.heap.size, 0, none⟩), undef, .slice none 0 0, .int .i64 x, .func (.func 72) #[] #[.pointer (some ⟨q, 0, none⟩)], .int .i64 x, undef, undef, undef, undef, undef], defers := [] }) ?assign ?body ?done ?stop
  case assign =>
    intro l x W K hK
    gi_wp2
    exact hK
  case body =>
    rintro l pre x W ⟨⟨v, hv, hrow, hnil⟩, hB⟩ hlt
    have hc := hv.cell
    have hml : (1048577 : Nat) ≤ maxLen := by unfold maxLen; omega
    gi_wp2_with (gi_at_builtin; refine wpListIn_append_own _ rfl _ _ 22 rfl w.heap.size 3 i0 (.int .i64 0) 1 8 Try.underlying22 hi hz0 hz1 hz2 rfl (by decide) _ _ _ rfl (hrow.alloc _) ⟨W.heap.size, 0, none⟩ 1 1 [.int .i64 x] rfl rfl (cell_one_new _ _ _) (by simp [Value.oneCell']) (by omega) (by omega) (by have := hB.size; simp; omega) ?_; intro v' w1 hown' hgrow _; obtain ⟨g', cap', rfl⟩ := ownsRow_succ hown'; obtain ⟨hv1, hv2, hr2, hk2, hb2⟩ := hv.appended (by decide) hrow hB.size (Nat.le_refl _) hown' hgrow; have hc1 := hv1.cell; have hf1 := hv1.frozen)
    exact ⟨hk2.from _, hb2.mono (by omega), ⟨_, hv2, by simpa [M4.iv] using hr2, by simp⟩, hB.trans hb2⟩
  case done =>
    rintro D ys' W hD rfl ⟨⟨v, hv, hrow, hnil⟩, hB⟩ hK
    have hc := hv.cell
    gi_wp2
    refine ⟨by simp, .inl ⟨_, _, rfl, run_takeDeferred hK, ?_⟩⟩
    exact ⟨_, results_tmp rfl _ _ _, v, rfl, ownsRow_putObj hrow _ hK rfl, hB.trans (belowK_b (w := w) (Nat.le_refl _) W D _ _ (by simp at hD; omega) hK rfl rfl)⟩
  case stop =>
    rintro D c pre W _ _ h _
    exact h.elim
set_option maxHeartbeats 800000 in
set_option maxRecDepth 100000 in
theorem sortedVals_any (q : Nat) (a : Option Addr) (cap : Nat) (zs : List Int) (hz : zs.length ≤ 1048576) (w : World) (hqn : q < w.heap.size)
    (hq : w.cell? ⟨q, 0, none⟩ = some (.slice a zs.length cap)) (hI : M4.IntsAt w a zs) :
    Calls Try.prog 62 #[.func (.func 72) #[] #[.pointer (some ⟨q, 0, none⟩)]] w fun e w' => ∃ v, e = .returned v ∧ w'.ownsRow w.heap.size 3 1 v zs.length (M4.iv (CG.srt zs)) ∧ Below w.heap.size w w' := by
  have AP : Hid (Calls Try.prog 76 #[.slice none 0 0, .func (.func 72) #[] #[.pointer (some ⟨q, 0, none⟩)]] w fun e w' => ∃ v, e = .returned v ∧ w'.ownsRow w.heap.size 3 1 v zs.length (M4.iv zs) ∧ Below w.heap.size w w') := callsIn_wide.1 (appendVals_in q w.heap.size a cap zs hz w hqn (Nat.le_refl _) hq (fun V hV => M4.IntsAt.below hI hV))
  have CL : Hid (Calls Try.prog 70 #[.func (.func 72) #[] #[.pointer (some ⟨q, 0, none⟩)]] w fun e w' => ∃ v, e = .returned v ∧ w'.ownsRow w.heap.size 3 1 v zs.length (M4.iv zs) ∧ Below w.heap.size w w') := by
    show Calls _ _ _ _ _
    clear hq hI
    go_enter Try.func70, Try.ntmps70
    go_wp2_with fail
    refine Calls.mono AP.out ?_
    rintro e w1 ⟨v, rfl, ho, hb⟩
    have HO : Hid _ := ho
    clear AP ho
    go_wp2
    go_ret
    exact ⟨v, rfl, HO.out, hb⟩
  clear AP hI hq
  go_enter Try.func62, Try.ntmps62
  go_wp2_with fail
  refine Calls.mono CL.out ?_
  rintro e w1 ⟨v, rfl, ho, hb⟩
  clear CL
  rcases ho.2 with ⟨rfl, h0⟩ | ⟨g, c, cur, rfl, hrest⟩
  · have hz0 : zs = [] := by
      have := ho.1
      simp [M4.iv] at this
      cases zs with
      | nil => rfl
      | cons z zs => simp at h0
    subst hz0
    clear ho h0
    go_wp2_with fail
    refine (sortI_0 _ _ _).mono ?_
    rintro e w2 ⟨rfl, rfl⟩
    go_wp2
    go_ret
    exact ⟨_, rfl, by rw [show CG.srt [] = [] from by simp [CG.srt]]; exact World.ownsRow_nil _ _ _ _, hb⟩
  · have SO : Hid (Calls Try.prog 71 #[.slice (some ⟨g, 0, none⟩) zs.length c] w1 fun e w' => e = .returned (.tuple #[]) ∧ w'.ownsRow w.heap.size 3 1 (.slice (some ⟨g, 0, none⟩) zs.length c) zs.length (M4.iv (zs.mergeSort fun x y => decide (x ≤ y))) ∧ w1.grownBy w' (some g)) := sortsI _ g c zs w1 ho hz
    have HG : Hid (w.heap.size ≤ g) := (ho.lt g rfl).1
    clear ho hrest
    go_wp2_with fail
    refine Calls.mono SO.out ?_
    rintro e w2 ⟨rfl, o2, gr⟩
    have HO : Hid _ := o2
    have hB2 : Below w.heap.size w w2 := hb.grown gr hb.size (fun k hk => by cases hk; exact HG.out)
    clear SO o2 gr HG
    go_wp2
    go_ret
    exact ⟨_, rfl, HO.out, hB2⟩
theorem take_eq_succ {xs ys : List Int} {k : Nat} (hx : k < xs.length) (hy : k < ys.length) (h : xs.take k = ys.take k) (e : xs.getD k 0 = ys.getD k 0) : xs.take (k + 1) = ys.take (k + 1) := by
  rw [List.take_succ_eq_append_getElem hx, List.take_succ_eq_append_getElem hy, h]
  congr 2
  simpa [List.getD_eq_getElem?_getD, List.getElem?_eq_getElem hx, List.getElem?_eq_getElem hy] using e
set_option maxHeartbeats 1600000 in
set_option maxRecDepth 100000 in
theorem equalInts_any (a b : Option Addr) (ca cb : Nat) (xs ys : List Int) (w : World) (hx : xs.length ≤ 1048576) (hy : ys.length ≤ 1048576) (hax : M4.IntsAt w a xs) (hay : M4.IntsAt w b ys) :
    Calls Try.prog 61 #[.slice a xs.length ca, .slice b ys.length cb] w fun e w' => e = .returned (.bool (decide (xs = ys))) ∧ Below w.heap.size w w' := by
  obtain ⟨D, hD⟩ : ∃ D, decide (xs = ys) = D := ⟨_, rfl⟩
  rw [hD]
  have HD : Hid (decide (xs = ys) = D) := hD
  have HX : Hid _ := hax
  have HY : Hid _ := hay
  clear hD hax hay
  by_cases hl : xs.length = ys.length
  · have hne : ((xs.length : Int) != (ys.length : Int)) = false := by simp [hl]
    have hne2 : (xs.length != ys.length) = false := by simp [hl]
    have l1 : xs.length ≤ ys.length := by omega
    have HL : Hid (xs.length = ys.length) := hl
    clear hl
    go_enter Try.func61, Try.ntmps61
    go_wp2
    go_loopw [13] (fun iv wr => ∃ k : Nat, iv = .int .i64 k ∧ k ≤ xs.length ∧ Hid (xs.take k = ys.take k) ∧ Below w.heap.size w wr) (fun iv _ => (xs.length - intOf iv).toNat)
    case atStart => exact ⟨0, rfl, by omega, rfl, Below.refl _ _⟩
    case round =>
      obtain ⟨k, rfl, hk, hT, hb⟩ := hrel
      by_cases hlk : k < xs.length
      · have hly : k < ys.length := by omega
        obtain ⟨b1, off1, rfl, hlt1, c0⟩ := (M4.IntsAt.below HX.out hb).at hlk
        obtain ⟨b2, off2, rfl, hlt2, d0⟩ := (M4.IntsAt.below HY.out hb).at hly
        have hT' : Hid (xs.getD k 0 = ys.getD k 0 → xs.take (k + 1) = ys.take (k + 1)) := fun e => take_eq_succ hlk hly hT.out e
        have hF : Hid (xs.getD k 0 ≠ ys.getD k 0 → D = false) := fun e => by rw [← HD.out]; exact decide_eq_false (fun c => e (by rw [c]))
        clear HX HY hT
        generalize xs.getD k 0 = x at *
        generalize ys.getD k 0 = y at *
        by_cases hxy : x = y
        · have hE : Hid _ := hT'.out hxy
          subst hxy
          clear hT' hF HD
          go_wp2
          go_quiet (fail)
          all_goals (
            go_wp2
            go_roundw
            case rel => exact ⟨k + 1, by go_num, by omega, hE, below_drewN hb _⟩
            case measure => simp [intOf]; omega)
        · have hE : Hid (D = false) := hF.out hxy
          have hn : (x != y) = true := by simp [hxy]
          clear hT' hF HD hxy
          go_wp2
          go_quiet (fail)
          all_goals (
            go_wp2
            go_ret
            exact ⟨M4.ret_bool hE.out.symm, below_drewN hb _⟩)
      · obtain rfl : k = xs.length := by omega
        have hF : Hid (D = true) := by
          show _ = _
          rw [← HD.out, decide_eq_true_eq]
          have := hT.out
          rw [List.take_length, HL.out, List.take_length] at this
          exact this
        clear HD HX HY hT
        go_wp2
        go_ret
        exact ⟨M4.ret_bool hF.out.symm, hb⟩
  · have hne : ((xs.length : Int) != (ys.length : Int)) = true := by simp; omega
    have hne2 : (xs.length != ys.length) = true := by simp [hl]
    have hF : Hid (D = false) := by show _ = _; rw [← HD.out]; exact decide_eq_false (fun e => hl (by rw [e]))
    clear hl HD HX HY
    go_enter Try.func61, Try.ntmps61
    go_wp2
    go_ret
    exact ⟨M4.ret_bool hF.out.symm, Below.refl _ _⟩
set_option maxHeartbeats 1600000 in
set_option maxRecDepth 100000 in
theorem inSome_any (a b : Option Addr) (ca cb : Nat) (l rising : List Int) (w : World) (hl : l.length ≤ 1048576) (hr : rising.length ≤ 1048576) (hax : M4.IntsAt w a l) (hay : M4.IntsAt w b rising) :
    Calls Try.prog 48 #[.slice a l.length ca, .slice b rising.length cb] w fun e w' => e = .returned (.bool (CG.inOrd l rising)) ∧ Below w.heap.size w w' := by
  have VA : Hid (Calls Try.prog 63 #[.slice a l.length ca] w fun e w' => e = .returned (.func (.func 72) #[] #[.pointer (some ⟨w.heap.size, 0, none⟩)]) ∧ w' = w.alloc (.cells #[.slice a l.length ca] 22)) := by
    show Calls _ _ _ _ _
    have hmf : ∀ (fn : Fn) (first cap : Array Value) (w : World), (Instr.makeFunc fn first cap).run Try.prog w = .ok (.func fn first cap) w := fun _ _ _ _ => rfl
    clear hax hay
    go_enter Try.func63, Try.ntmps63
    go_wp2
    go_ret
    exact ⟨rfl, rfl⟩
  have hB0 : Below w.heap.size w (w.alloc (.cells #[.slice a l.length ca] 22)) := (Below.refl _ w).alloc (Nat.le_refl _) _
  have x0 : BxN (w.alloc (.cells #[.slice a l.length ca] 22)) w.heap.size [.slice a l.length ca] 22 := BxN.new w _ _ rfl
  have SO : Hid _ := sortedVals_any w.heap.size a ca l hl _ x0.lt (x0.cell 0 rfl) (M4.IntsAt.below hax hB0)
  have EQ : Hid (∀ (W : World) (g : Option Addr) (c : Nat), Below w.heap.size w W → M4.IntsAt W g (CG.srt l) → Calls Try.prog 61 #[.slice g l.length c, .slice b rising.length cb] W fun e w' => e = .returned (.bool (CG.inOrd l rising)) ∧ Below W.heap.size W w') := fun W g c hW hg => by
    have h := equalInts_any g b c cb (CG.srt l) rising W (by rw [CG.srt, List.length_mergeSort]; exact hl) hr hg (M4.IntsAt.below hay hW)
    rw [show (CG.srt l).length = l.length from List.length_mergeSort l] at h
    exact h
  generalize CG.inOrd l rising = D at *
  generalize CG.srt l = sl at *
  generalize w.alloc (.cells #[.slice a l.length ca] 22) = W0 at *
  clear x0 hax hay
  go_enter Try.func48, Try.ntmps48
  go_wp2_with fail
  refine Calls.mono VA.out ?_
  rintro e w1 ⟨rfl, rfl⟩
  clear VA
  go_wp2_with fail
  refine Calls.mono SO.out ?_
  rintro e w2 ⟨v, rfl, ho, hb⟩
  have hB2 := hB0.trans (hb.mono hB0.size)
  obtain ⟨g, c, rfl⟩ : ∃ g c, v = .slice g l.length c := by
    rcases ho.2 with ⟨rfl, h0⟩ | ⟨g, c, cur, rfl, _⟩
    · exact ⟨none, 0, by first | rfl | (rw [h0])⟩
    · exact ⟨_, _, rfl⟩
  have hg : M4.IntsAt w2 g sl := by
    rcases ho.2 with ⟨h, h0⟩ | ⟨g', c', cur, h, _⟩
    · exact .inl (List.length_eq_zero_iff.1 (by have h1 := ho.1; simpa [M4.iv, h0] using h1))
    · cases h; exact M5.own_ints ho
  have E2 : Hid _ := EQ.out w2 g c hB2 hg
  clear EQ SO ho hb hg
  go_wp2_with fail
  refine Calls.mono E2.out ?_
  rintro e w3 ⟨rfl, hb3⟩
  clear E2
  go_wp2
  go_ret
  exact ⟨rfl, hB2.trans (hb3.mono hB2.size)⟩
end Go.Proofs.Ytfkmnmiolnijaaa

/- The program's order of holds: cmp.Compare, cmp.Or, byIdThenChild. -/
namespace Go.Proofs.Ytfkmnmiolnijaaa
open Go.RowKit
namespace CG
/-- What cmp.Compare answers. -/
def cmpI (x y : Int) : Int := if x < y then -1 else if y < x then 1 else 0
/-- What cmp.Or answers of two. -/
def orI (x y : Int) : Int := if x = 0 then y else x
/-- What the order of holds answers. -/
def cmpH (g h : I2) : Int := orI (cmpI g.a0 h.a0) (cmpI g.a1 h.a1)
theorem cmpI_in (x y : Int) : cmpI x y = -1 ∨ cmpI x y = 0 ∨ cmpI x y = 1 := by unfold cmpI; split; exact .inl rfl; split; exact .inr (.inr rfl); exact .inr (.inl rfl)
theorem cmpH_lt (g h : I2) : decide (cmpH g h < 0) = lessH g h := by
  rw [lessH, decide_eq_decide]
  unfold cmpH orI cmpI
  by_cases h1 : g.a0 < h.a0
  · simp [h1]
  · by_cases h2 : h.a0 < g.a0
    · simp [h1, h2]; omega
    · have e : g.a0 = h.a0 := by omega
      by_cases h3 : g.a1 < h.a1
      · simp [e, h3]
      · by_cases h4 : h.a1 < g.a1
        · simp [e, h3, h4]
        · simp [e, h3, h4]
end CG
set_option maxHeartbeats 400000 in
set_option maxRecDepth 100000 in
theorem compareC_any (x y : Int) (w : World) : Calls Try.prog 69 #[.int .i64 x, .int .i64 y] w fun e w' => e = .returned (.int .i64 (CG.cmpI x y)) ∧ w = w' := by
  by_cases h1 : x < y
  · have hC : Hid (CG.cmpI x y = -1) := by show _ = _; simp [CG.cmpI, h1]
    go_enter Try.func69, Try.ntmps69
    go_wp2
    go_ret
    exact ⟨by rw [hC.out]; rfl, rfl⟩
  · by_cases h2 : y < x
    · have hC : Hid (CG.cmpI x y = 1) := by show _ = _; simp [CG.cmpI, h1, h2]
      go_enter Try.func69, Try.ntmps69
      go_wp2
      go_ret
      exact ⟨by rw [hC.out]; rfl, rfl⟩
    · have hC : Hid (CG.cmpI x y = 0) := by show _ = _; simp [CG.cmpI, h1, h2]
      go_enter Try.func69, Try.ntmps69
      go_wp2
      go_ret
      exact ⟨by rw [hC.out]; rfl, rfl⟩
set_option maxHeartbeats 1600000 in
set_option maxRecDepth 100000 in
theorem orC_any (g : Nat) (x y : Int) (w : World) (h0 : w.cell? ⟨g, 0, none⟩ = some (.int .i64 x)) (h1 : w.cell? ⟨g, 1, none⟩ = some (.int .i64 y)) :
    Calls Try.prog 68 #[.slice (some ⟨g, 0, none⟩) 2 2] w fun e w' => e = .returned (.int .i64 (CG.orI x y)) ∧ w = w' := by
  obtain ⟨z, hz⟩ : ∃ z, CG.orI x y = z := ⟨_, rfl⟩
  rw [hz]
  have hC : Hid (CG.orI x y = z) := hz
  clear hz
  by_cases hx : x = 0
  · have hE : y = z := by rw [← hC.out, CG.orI, if_pos hx]
    subst hx hE
    clear hC
    by_cases hy : y = 0
    · subst hy
      go_enter Try.func68, Try.ntmps68
      go_wp2
      refine wp_loop_rounds 3 ?_
      rw [rounds_succ]
      go_wp2
      rw [rounds_succ]
      go_wp2
      rw [rounds_succ]
      go_wp2
      go_ret
      exact ⟨rfl, rfl⟩
    · have hn : (y != 0) = true := by simp [hy]
      go_enter Try.func68, Try.ntmps68
      go_wp2
      refine wp_loop_rounds 2 ?_
      rw [rounds_succ]
      go_wp2
      rw [rounds_succ]
      go_wp2
      go_ret
      exact ⟨rfl, rfl⟩
  · have hE : x = z := by rw [← hC.out, CG.orI, if_neg hx]
    subst hE
    clear hC
    have hn : (x != 0) = true := by simp [hx]
    go_enter Try.func68, Try.ntmps68
    go_wp2
    refine wp_loop_rounds 1 ?_
    rw [rounds_succ]
    go_wp2
    go_ret
    exact ⟨rfl, rfl⟩
set_option maxHeartbeats 1600000 in
set_option maxRecDepth 100000 in
theorem byIdC_any (g h : I2) (w : World) : Calls Try.prog 56 #[g.v, h.v] w fun e w' => e = .returned (.int .i64 (CG.cmpH g h)) ∧ Below w.heap.size w w' := by
  obtain ⟨g0, g1⟩ := g
  obtain ⟨h0, h1⟩ := h
  obtain ⟨z, hz⟩ : ∃ z, CG.cmpH ⟨g0, g1⟩ ⟨h0, h1⟩ = z := ⟨_, rfl⟩
  rw [hz]
  unfold CG.cmpH at hz
  simp only at hz
  obtain ⟨c0, hc0⟩ : ∃ c, CG.cmpI g0 h0 = c := ⟨_, rfl⟩
  obtain ⟨c1, hc1⟩ : ∃ c, CG.cmpI g1 h1 = c := ⟨_, rfl⟩
  have C0 : Hid (∀ W, Calls Try.prog 69 #[.int .i64 g0, .int .i64 h0] W fun e w' => e = .returned (.int .i64 c0) ∧ W = w') := fun W => hc0 ▸ compareC_any g0 h0 W
  have C1 : Hid (∀ W, Calls Try.prog 69 #[.int .i64 g1, .int .i64 h1] W fun e w' => e = .returned (.int .i64 c1) ∧ W = w') := fun W => hc1 ▸ compareC_any g1 h1 W
  rw [hc0, hc1] at hz
  have OR : Hid (∀ (g : Nat) (W : World), W.cell? ⟨g, 0, none⟩ = some (.int .i64 c0) → W.cell? ⟨g, 1, none⟩ = some (.int .i64 c1) → Calls Try.prog 68 #[.slice (some ⟨g, 0, none⟩) 2 2] W fun e w' => e = .returned (.int .i64 z) ∧ W = w') := fun g W a b => hz ▸ orC_any g c0 c1 W a b
  clear hc0 hc1 hz
  have hB0 : Below w.heap.size w ((w.alloc (.cells #[.int .i64 g0, .int .i64 g1] 61)).alloc (.cells #[.int .i64 h0, .int .i64 h1] 61)) := ((Below.refl _ w).alloc (Nat.le_refl _) _).alloc (by simp) _
  have x0 : BxN ((w.alloc (.cells #[.int .i64 g0, .int .i64 g1] 61)).alloc (.cells #[.int .i64 h0, .int .i64 h1] 61)) w.heap.size [.int .i64 g0, .int .i64 g1] 61 := (BxN.new w _ _ rfl).alloc _
  have y0 : BxN ((w.alloc (.cells #[.int .i64 g0, .int .i64 g1] 61)).alloc (.cells #[.int .i64 h0, .int .i64 h1] 61)) (w.heap.size + 1) [.int .i64 h0, .int .i64 h1] 61 := BxN.new _ _ _ (by simp)
  go_enter Try.func56, Try.ntmps56
  go_wp2_with fail
  generalize (w.alloc (.cells #[.int .i64 g0, .int .i64 g1] 61)).alloc (.cells #[.int .i64 h0, .int .i64 h1] 61) = W0 at *
  have a0 := x0.cell 0 rfl
  have a1 := x0.cell 1 rfl
  have b0 := y0.cell 0 rfl
  have b1 := y0.cell 1 rfl
  clear x0 y0
  go_region_held3 (fun w' => w'.cell? ⟨w.heap.size, 0, none⟩ = some (.int .i64 g0) ∧ w'.cell? ⟨w.heap.size, 1, none⟩ = some (.int .i64 g1) ∧ w'.cell? ⟨w.heap.size + 1, 0, none⟩ = some (.int .i64 h0) ∧ w'.cell? ⟨w.heap.size + 1, 1, none⟩ = some (.int .i64 h1)) (go_keep) (first | (go_at_call 69; with_reducible refine Calls.mono (C0.out _) ?_; rintro e wn ⟨rfl, rfl⟩) | (go_at_call 69; with_reducible refine Calls.mono (C1.out _) ?_; rintro e wn ⟨rfl, rfl⟩) | (go_at_call 68; refine Calls.mono (OR.out _ _ (by simp [go_sem]) (by simp [go_sem])) ?_; rintro e wn ⟨rfl, rfl⟩))
  go_wp2
  go_ret
  exact ⟨rfl, (hB0.alloc hB0.size _).drew⟩
end Go.Proofs.Ytfkmnmiolnijaaa

/- Whether an id is safe for a node: what both answer; plain facts. -/
namespace Go.Proofs.Ytfkmnmiolnijaaa
open Go.RowKit
namespace CG
open EG TR
/-- Somebody above, from a node on up, holds an id for whom it is next. -/
def owed (s : CuS) (id : Int) : Nat → Nat → Bool
  | 0, _ => false
  | f + 1, k => if k = 0 then false else hasH (sd s (upOf s k)).2.1 ⟨id, (k : Int)⟩ || owed s id f (upOf s k)
noncomputable def safeOk (s : CuS) (nd id : Int) : Bool := goodI s && decide (0 ≤ nd ∧ nd < s.us.length) && decide (0 ≤ id ∧ id < 6)
noncomputable def safeB (s : CuS) (nd id : Int) : Bool := safeOk s nd id && (hasB (sd s nd.toNat).1 id || owed s id 8 nd.toNat)
theorem up_lt {s : CuS} (h : tree s.us = true) {k : Nat} (hk : k < s.us.length) (h0 : 0 < k) : upOf s k < k := by
  have := up_of_tree h hk h0
  unfold upOf; omega
/-- As many steps as there are nodes are enough. -/
theorem owed_more {s : CuS} (h : tree s.us = true) (id : Int) : ∀ (f k : Nat), k < s.us.length → k < f → owed s id (f + 1) k = owed s id f k := by
  intro f
  induction f with
  | zero => intro k _ h0; omega
  | succ f ih =>
    intro k hk hf
    show (if k = 0 then false else hasH (sd s (upOf s k)).2.1 ⟨id, (k : Int)⟩ || owed s id (f + 1) (upOf s k)) = (if k = 0 then false else hasH (sd s (upOf s k)).2.1 ⟨id, (k : Int)⟩ || owed s id f (upOf s k))
    by_cases c : k = 0
    · rw [if_pos c, if_pos c]
    · rw [if_neg c, if_neg c, ih (upOf s k) (by have := up_lt h hk (by omega); omega) (by have := up_lt h hk (by omega); omega)]
theorem owed_add {s : CuS} (h : tree s.us = true) (id : Int) (k : Nat) (hk : k < s.us.length) : ∀ (n f : Nat), k < f → owed s id (f + n) k = owed s id f k
  | 0, f, _ => rfl
  | n + 1, f, hf => by rw [show f + (n + 1) = (f + n) + 1 from rfl, owed_more h id (f + n) k hk (by omega), owed_add h id k hk n f hf]
theorem owed_is {s : CuS} (h : tree s.us = true) (id : Int) {k : Nat} (hk : k < s.us.length) (h0 : 0 < k) : owed s id 8 k = (hasH (sd s (upOf s k)).2.1 ⟨id, (k : Int)⟩ || owed s id 8 (upOf s k)) := by
  have h8 : s.us.length ≤ 8 := ((tree_iff s.us).1 h).1.2
  have hl := up_lt h hk h0
  rw [show owed s id 8 k = (if k = 0 then false else hasH (sd s (upOf s k)).2.1 ⟨id, (k : Int)⟩ || owed s id 7 (upOf s k)) from rfl, if_neg (by omega), owed_more h id 7 (upOf s k) (by omega) (by omega)]
theorem owed_zero (s : CuS) (id : Int) : owed s id 8 0 = false := rfl
theorem told_seen {s : CuS} (h : goodI s = true) {k : Nat} (hk : k < s.us.length) (x : Int) : hasB (sd s k).2.2 x = hasB (sd s k).1 x := by
  have hg := h
  simp only [goodI, Bool.and_eq_true, List.all_eq_true, List.mem_range, decide_eq_true_eq] at hg
  obtain ⟨⟨⟨⟨⟨⟨_, hl⟩, _⟩, hk1⟩, _⟩, _⟩, _⟩ := hg
  have := (hk1 k (by omega)).1
  simp only [rowsI, Bool.and_eq_true] at this
  have hp := (inOrd_iff (rises_lt this.1.1)).1 this.1.2
  unfold hasB
  rw [decide_eq_decide]
  exact hp.mem_iff
theorem good_tree {s : CuS} (h : goodI s = true) : tree s.us = true := by
  simp only [goodI, Bool.and_eq_true] at h
  exact h.1.1.1.1.1.1
theorem good_len {s : CuS} (h : goodI s = true) : s.ks.length = s.us.length := by
  simp only [goodI, Bool.and_eq_true, decide_eq_true_eq] at h
  exact h.1.1.1.1.1.2
end CG
end Go.Proofs.Ytfkmnmiolnijaaa

/- Slips of the program: noteOf, the notes' ends, checkSlip. -/
namespace Go.Proofs.Ytfkmnmiolnijaaa
open Go.RowKit
set_option maxHeartbeats 1600000 in
set_option maxRecDepth 100000 in
theorem giveEnds_any (k f t i : Int) (w : World) : Calls Try.prog 112 #[.agg #[.int .i64 k, .int .i64 f, .int .i64 t, .int .i64 i]] w fun e w' => e = .returned (.tuple #[.int .i64 f, .int .i64 t]) ∧ Below w.heap.size w w' := by
  have hB : ∀ o, Below w.heap.size w (w.alloc o) := fun o => (Below.refl _ w).alloc (Nat.le_refl _) o
  go_enter Try.func112, Try.ntmps112
  go_wp2
  go_quiet (fail)
  all_goals (
    go_wp2
    exact bodyPost_ret (v := .tuple #[.int .i64 f, .int .i64 t]) (by simp [results, Try.results112, go_sem]) rfl ⟨rfl, below_drewN (hB _) _⟩)
set_option maxHeartbeats 1600000 in
set_option maxRecDepth 100000 in
theorem ackEnds_any (k f t i : Int) (w : World) : Calls Try.prog 114 #[.agg #[.int .i64 k, .int .i64 f, .int .i64 t, .int .i64 i]] w fun e w' => e = .returned (.tuple #[.int .i64 t, .int .i64 f]) ∧ Below w.heap.size w w' := by
  have hB : ∀ o, Below w.heap.size w (w.alloc o) := fun o => (Below.refl _ w).alloc (Nat.le_refl _) o
  go_enter Try.func114, Try.ntmps114
  go_wp2
  go_quiet (fail)
  all_goals (
    go_wp2
    exact bodyPost_ret (v := .tuple #[.int .i64 t, .int .i64 f]) (by simp [results, Try.results114, go_sem]) rfl ⟨rfl, below_drewN (hB _) _⟩)
set_option maxHeartbeats 1600000 in
set_option maxRecDepth 100000 in
theorem noteGive_any (f t i : Int) (w : World) : Calls Try.prog 60 #[.agg #[.int .i64 1, .int .i64 f, .int .i64 t, .int .i64 i]] w fun e w' => e = .returned (.iface 98 (.agg #[.int .i64 1, .int .i64 f, .int .i64 t, .int .i64 i])) ∧ Below w.heap.size w w' := by
  have hB : ∀ o, Below w.heap.size w (w.alloc o) := fun o => (Below.refl _ w).alloc (Nat.le_refl _) o
  go_enter Try.func60, Try.ntmps60
  go_wp2
  go_ret
  exact ⟨rfl, hB _⟩
set_option maxHeartbeats 1600000 in
set_option maxRecDepth 100000 in
theorem noteAck_any (f t i : Int) (w : World) : Calls Try.prog 60 #[.agg #[.int .i64 2, .int .i64 f, .int .i64 t, .int .i64 i]] w fun e w' => e = .returned (.iface 99 (.agg #[.int .i64 2, .int .i64 f, .int .i64 t, .int .i64 i])) ∧ Below w.heap.size w w' := by
  have hB : ∀ o, Below w.heap.size w (w.alloc o) := fun o => (Below.refl _ w).alloc (Nat.le_refl _) o
  go_enter Try.func60, Try.ntmps60
  go_wp2
  go_ret
  exact ⟨rfl, hB _⟩
set_option maxHeartbeats 1600000 in
set_option maxRecDepth 100000 in
theorem noteNo_any (k f t i : Int) (h1 : k ≠ 1) (h2 : k ≠ 2) (w : World) : Calls Try.prog 60 #[.agg #[.int .i64 k, .int .i64 f, .int .i64 t, .int .i64 i]] w fun e w' => e = Try.fault ∧ Below w.heap.size w w' := by
  have hB : ∀ o, Below w.heap.size w (w.alloc o) := fun o => (Below.refl _ w).alloc (Nat.le_refl _) o
  have e1 : (k == 1) = false := by simp [h1]
  have e2 : (k == 2) = false := by simp [h2]
  go_enter Try.func60, Try.ntmps60
  go_wp2
  exact ⟨rfl, rfl, hB _⟩
theorem CG.up_at {w : World} {a : Option Addr} {us : List Int} {m : Nat} (h : M4.IntsAt w a us) (hm : m < us.length) : ∃ b off, a = some ⟨b, off, none⟩ ∧ b < w.heap.size ∧ w.cell? ⟨b, off + m, none⟩ = some (.int .i64 (us.getD m 0)) := h.at hm
theorem Try.mtGive (v : Value) (k : Nat) (w : World) : (method (k + 1) 98 v "loop.example/g00315/impl.ends").run Try.prog w = .ok (112, v) w := by kernel_rfl
theorem Try.mtAck (v : Value) (k : Nat) (w : World) : (method (k + 1) 99 v "loop.example/g00315/impl.ends").run Try.prog w = .ok (114, v) w := by kernel_rfl
set_option linter.unusedSimpArgs false in
set_option maxHeartbeats 3200000 in
set_option maxRecDepth 100000 in
theorem checkSlip_any (c : Cu) (x : I4) (w : World) (hc : CuAt w c) (lc : CuLen c) (hn : c.ks.length = c.us.length) :
    Calls Try.prog 47 #[c.v, x.v] w fun e w' => e = Try.out (CG.slipI c.said x) ∧ Below w.heap.size w w' := by
  obtain ⟨us, ks, ls, ns, ua, ka, la, na, uc, kc, lcc, nc⟩ := c
  obtain ⟨hu, hk, -, -⟩ := hc
  obtain ⟨l1, l2, -, -, l5⟩ := lc
  simp only at hu hk hn l1 l2 l5
  have HNL : Hid (ks.length = us.length) := hn
  clear hn
  obtain ⟨kd, fr, to_, id⟩ := x
  obtain ⟨B, hB⟩ : ∃ B, CG.slipI (Cu.said ⟨us, ks, ls, ns, ua, ka, la, na, uc, kc, lcc, nc⟩) ⟨kd, fr, to_, id⟩ = B := ⟨_, rfl⟩
  rw [hB]
  have hB' : (CG.twoOf us.length fr to_ && EG.hasB (KP.sd (ks.map Kp.said) fr.toNat).1 id && (if kd = 1 then decide (us.getD to_.toNat 0 = fr) else if kd = 2 then decide (us.getD fr.toNat 0 = to_) else false)) = B := hB
  clear hB
  have hun : (0 : Int) ≤ (us.length : Int) := by omega
  have TW : Hid (∀ W : World, Calls Try.prog 59 #[.int .i64 (us.length : Int), .int .i64 fr, .int .i64 to_] W fun e w' => e = .returned (.bool (CG.twoOf us.length fr to_)) ∧ W = w') := fun W => by
    have h := areTwoOf_any (us.length : Int) fr to_ W (by omega) (by omega)
    rw [show SP.two (us.length : Int) fr to_ = CG.twoOf us.length fr to_ from by rw [Bool.eq_iff_iff]; simp only [SP.two, CG.twoOf, Bool.and_eq_true, decide_eq_true_eq]; omega] at h
    exact h
  have hB0 : Below w.heap.size w ((w.alloc (.cells #[.slice ua us.length uc, .slice ka ks.length kc, .slice la ls.length lcc, .slice na ns.length nc] 32)).alloc (.cells #[.int .i64 kd, .int .i64 fr, .int .i64 to_, .int .i64 id] 45)) := ((Below.refl _ w).alloc (Nat.le_refl _) _).alloc (by simp) _
  have x0 : BxN ((w.alloc (.cells #[.slice ua us.length uc, .slice ka ks.length kc, .slice la ls.length lcc, .slice na ns.length nc] 32)).alloc (.cells #[.int .i64 kd, .int .i64 fr, .int .i64 to_, .int .i64 id] 45)) w.heap.size [.slice ua us.length uc, .slice ka ks.length kc, .slice la ls.length lcc, .slice na ns.length nc] 32 := (BxN.new w _ _ rfl).alloc _
  have y0 : BxN ((w.alloc (.cells #[.slice ua us.length uc, .slice ka ks.length kc, .slice la ls.length lcc, .slice na ns.length nc] 32)).alloc (.cells #[.int .i64 kd, .int .i64 fr, .int .i64 to_, .int .i64 id] 45)) (w.heap.size + 1) [.int .i64 kd, .int .i64 fr, .int .i64 to_, .int .i64 id] 45 := BxN.new _ _ _ (by simp)
  go_enter Try.func47, Try.ntmps47
  go_wp2_with fail
  generalize ((w.alloc (.cells #[.slice ua us.length uc, .slice ka ks.length kc, .slice la ls.length lcc, .slice na ns.length nc] 32)).alloc (.cells #[.int .i64 kd, .int .i64 fr, .int .i64 to_, .int .i64 id] 45)) = W0 at *
  refine (TW.out W0).mono ?_
  rintro e w1 ⟨rfl, rfl⟩
  clear TW
  by_cases ht : CG.twoOf us.length fr to_ = true
  case neg =>
    replace ht : CG.twoOf us.length fr to_ = false := by simpa using ht
    have hF : Hid (B = false) := by show _ = _; rw [← hB', ht]; rfl
    rw [ht]
    clear hB' x0 y0 hu hk l5
    go_wp2_with fail
    refine (need_no W0).mono ?_
    rintro e w2 ⟨rfl, rfl⟩
    go_wp2
    exact ⟨rfl, by rw [hF.out]; rfl, hB0⟩
  rw [ht] at hB' ⊢
  simp only [CG.twoOf, Bool.and_eq_true, decide_eq_true_eq] at ht
  obtain ⟨⟨⟨f0, f1⟩, ⟨t0, t1⟩⟩, -⟩ := ht
  obtain ⟨i, rfl⟩ : ∃ i : Nat, fr = (i : Int) := ⟨fr.toNat, by omega⟩
  obtain ⟨m, rfl⟩ : ∃ m : Nat, to_ = (m : Int) := ⟨to_.toNat, by omega⟩
  have hi : i < ks.length := by have := HNL.out; omega
  have hiu : i < us.length := by omega
  have hmu : m < us.length := by omega
  rw [Int.toNat_natCast, Int.toNat_natCast, KP.sd_at hi] at hB'
  obtain ⟨b1, off1, rfl, hlt1, c0, c1, c2, hin⟩ := (hk.below hB0).at hi
  have lk := l5 i hi
  have HSN : Hid (∀ W : World, Below W0.heap.size W0 W → Calls Try.prog 32 #[(KP.at_ ks i).v, .int .i64 id] W fun e w' => e = .returned (.bool (EG.hasB (KP.at_ ks i).ss id)) ∧ Below W.heap.size W w') := fun W hW => hasSeen_any (KP.at_ ks i) id W (hin.below hW) lk.1
  have hB2 : (true && EG.hasB (KP.at_ ks i).ss id && (if kd = 1 then decide (us.getD m 0 = (i : Int)) else if kd = 2 then decide (us.getD i 0 = (m : Int)) else false)) = B := hB'
  clear hB' hin lk hk l5
  generalize KP.at_ ks i = p at *
  obtain ⟨ss, hs, ts, sa, ha, ta, sc, hc, tc⟩ := p
  simp only at c0 c1 c2 hB2 HSN
  obtain ⟨bs, hbs⟩ : ∃ b, EG.hasB ss id = b := ⟨_, rfl⟩
  rw [hbs] at HSN hB2
  clear hbs
  have HB : Hid ((bs && (if kd = 1 then decide (us.getD m 0 = (i : Int)) else if kd = 2 then decide (us.getD i 0 = (m : Int)) else false)) = B) := by show _ = _; rw [← hB2]; cases bs <;> rfl
  clear hB2
  have q0 : (0 : Int) ≤ (i : Int) := by omega
  have q1 : (i : Int) < (ks.length : Int) := by omega
  have LD : Hid (∀ W : World, Below W0.heap.size W0 W → W.cell? ⟨w.heap.size, 1, none⟩ = some (.slice (some ⟨b1, off1, none⟩) ks.length kc) ∧ W.cell? ⟨w.heap.size + 1, 1, none⟩ = some (.int .i64 (i : Int)) ∧ W.cell? ⟨w.heap.size + 1, 3, none⟩ = some (.int .i64 id) ∧ W.cell? ⟨b1, off1 + i * 3, none⟩ = some (.slice sa ss.length sc) ∧ W.cell? ⟨b1, off1 + i * 3 + 1, none⟩ = some (.slice ha hs.length hc) ∧ W.cell? ⟨b1, off1 + i * 3 + 2, none⟩ = some (.slice ta ts.length tc)) := fun W h =>
    ⟨(x0.below h x0.lt).cell 1 rfl, (y0.below h y0.lt).cell 1 rfl, (y0.below h y0.lt).cell 3 rfl, (h.cell (p := ⟨_, _, none⟩) hlt1).trans c0, (h.cell (p := ⟨_, _, none⟩) hlt1).trans c1, (h.cell (p := ⟨_, _, none⟩) hlt1).trans c2⟩
  clear c0 c1 c2
  go_wp2_with fail
  refine (need_yes W0).mono ?_
  rintro e w2 ⟨rfl, rfl⟩
  have x0c := x0.cell 1 rfl
  go_wp2_with fail
  cases bs
  case false =>
    have hF : Hid (B = false) := by show _ = _; rw [← HB.out]; rfl
    clear HB
    refine MR.frame fun A hA => ?_
    have hsz : A.tmps.size = 39 := by rw [hA]; rfl
    have e2 : A.eval (.tmp 2) = .pointer (some ⟨w.heap.size, 0, none⟩) := by rw [hA]; rfl
    have f2 := MR.read (t := 2) (by rw [hsz]; decide) e2
    have e3 : A.eval (.tmp 3) = .pointer (some ⟨w.heap.size + 1, 0, none⟩) := by rw [hA]; rfl
    have f3 := MR.read (t := 3) (by rw [hsz]; decide) e3
    have HA : Hid (A = _) := hA
    clear hA
    have hS : (fun W => Below W0.heap.size W0 W) (World.drew _) := (Below.refl _ W0).drew
    refine wp_region_held (S := fun W => Below W0.heap.size W0 W) (by kernel_rfl) ?_
    change wpAnyH _ _ _ _ _ _ _ _ (World.drew _)
    refine MR.takeH (i := 0) (some 15) (.pointer (some ⟨w.heap.size, 1, none⟩)) rfl rfl (by kernel_rfl) (by kernel_rfl) (by kernel_rfl) (fun _ _ _ h => h) hS (MR.free rfl) (fun wq hw => by simp [execOp, MR.ev, MR.size, hsz, e2, f2, e3, f3, go_sem]) ?_
    refine MR.takeH (i := 1) (some 16) (.slice (some ⟨b1, off1, none⟩) ks.length kc) rfl rfl (by kernel_rfl) (by kernel_rfl) (by kernel_rfl) (fun _ _ _ h => h) hS (MR.free rfl) (fun wq hw => by simp [execOp, MR.ev, MR.size, hsz, e2, f2, e3, f3, (LD.out wq hw).1, go_sem]) ?_
    refine MR.takeH (i := 2) (some 17) (.pointer (some ⟨w.heap.size + 1, 1, none⟩)) rfl rfl (by kernel_rfl) (by kernel_rfl) (by kernel_rfl) (fun _ _ _ h => h) hS (MR.free rfl) (fun wq hw => by simp [execOp, MR.ev, MR.size, hsz, e2, f2, e3, f3, go_sem]) ?_
    refine MR.takeH (i := 3) (some 18) (.int .i64 (i : Int)) rfl rfl (by kernel_rfl) (by kernel_rfl) (by kernel_rfl) (fun _ _ _ h => h) hS (MR.free rfl) (fun wq hw => by simp [execOp, MR.ev, MR.size, hsz, e2, f2, e3, f3, (LD.out wq hw).2.1, go_sem]) ?_
    refine MR.takeH (i := 4) (some 19) (.pointer (some ⟨b1, off1 + i * 3, none⟩)) rfl rfl (by kernel_rfl) (by kernel_rfl) (by kernel_rfl) (fun _ _ _ h => h) hS (MR.free rfl) (fun wq hw => by simp [execOp, MR.ev, MR.size, hsz, e2, f2, e3, f3, q0, q1, go_sem]) ?_
    refine MR.takeH (i := 5) (some 20) (.agg #[.slice sa ss.length sc, .slice ha hs.length hc, .slice ta ts.length tc]) rfl rfl (by kernel_rfl) (by kernel_rfl) (by kernel_rfl) (fun _ _ _ h => h) hS (MR.free rfl) (fun wq hw => by simp [execOp, MR.ev, MR.size, hsz, e2, f2, e3, f3, (LD.out wq hw).2.2.2.1, (LD.out wq hw).2.2.2.2.1, (LD.out wq hw).2.2.2.2.2, go_sem]) ?_
    refine MR.takeH (i := 6) (some 21) (.pointer (some ⟨w.heap.size + 1, 3, none⟩)) rfl rfl (by kernel_rfl) (by kernel_rfl) (by kernel_rfl) (fun _ _ _ h => h) hS (MR.free rfl) (fun wq hw => by simp [execOp, MR.ev, MR.size, hsz, e2, f2, e3, f3, go_sem]) ?_
    refine MR.takeH (i := 7) (some 22) (.int .i64 id) rfl rfl (by kernel_rfl) (by kernel_rfl) (by kernel_rfl) (fun _ _ _ h => h) hS (MR.free rfl) (fun wq hw => by simp [execOp, MR.ev, MR.size, hsz, e2, f2, e3, f3, (LD.out wq hw).2.2.1, go_sem]) ?_
    refine MR.callH (i := 8) (some 23) (32) (#[.agg #[.slice sa ss.length sc, .slice ha hs.length hc, .slice ta ts.length tc], .int .i64 id]) (by kernel_rfl) rfl rfl (MR.free rfl) (by simp [execOp, MR.ev, MR.size, hsz, e2, f2, e3, f3, go_sem]) ?_
    refine Calls.mono (HSN.out _ hS) ?_
    rintro e wn ⟨rfl, hbn⟩
    have hS2 : Below W0.heap.size W0 wn := hS.trans (hbn.mono hS.size)
    refine ⟨_, rfl, hS2, ?_⟩
    refine MR.dieH (i := 9) 41 #[.bool false] (by kernel_rfl) rfl (MR.free rfl) (by simp [execOp, MR.ev, MR.size, hsz, go_sem]) ?_
    refine (need_no _).mono ?_
    rintro e wm ⟨rfl, rfl⟩
    exact ⟨_, rfl, (by rw [HA.out]; rfl), by rw [hF.out]; rfl, hB0.trans (hS2.mono hB0.size)⟩
  case true =>
    have HB2 : Hid ((if kd = 1 then decide (us.getD m 0 = (i : Int)) else if kd = 2 then decide (us.getD i 0 = (m : Int)) else false) = B) := by show _ = _; rw [← HB.out]; rfl
    clear HB
    refine MR.frame fun A hA => ?_
    have hsz : A.tmps.size = 39 := by rw [hA]; rfl
    have e2 : A.eval (.tmp 2) = .pointer (some ⟨w.heap.size, 0, none⟩) := by rw [hA]; rfl
    have f2 := MR.read (t := 2) (by rw [hsz]; decide) e2
    have e3 : A.eval (.tmp 3) = .pointer (some ⟨w.heap.size + 1, 0, none⟩) := by rw [hA]; rfl
    have f3 := MR.read (t := 3) (by rw [hsz]; decide) e3
    have HA : Hid (A = _) := hA
    clear hA
    have hS : (fun W => Below W0.heap.size W0 W) (World.drew _) := (Below.refl _ W0).drew
    refine wp_region_held (S := fun W => Below W0.heap.size W0 W) (by kernel_rfl) ?_
    change wpAnyH _ _ _ _ _ _ _ _ (World.drew _)
    refine MR.takeH (i := 0) (some 15) (.pointer (some ⟨w.heap.size, 1, none⟩)) rfl rfl (by kernel_rfl) (by kernel_rfl) (by kernel_rfl) (fun _ _ _ h => h) hS (MR.free rfl) (fun wq hw => by simp [execOp, MR.ev, MR.size, hsz, e2, f2, e3, f3, go_sem]) ?_
    refine MR.takeH (i := 1) (some 16) (.slice (some ⟨b1, off1, none⟩) ks.length kc) rfl rfl (by kernel_rfl) (by kernel_rfl) (by kernel_rfl) (fun _ _ _ h => h) hS (MR.free rfl) (fun wq hw => by simp [execOp, MR.ev, MR.size, hsz, e2, f2, e3, f3, (LD.out wq hw).1, go_sem]) ?_
    refine MR.takeH (i := 2) (some 17) (.pointer (some ⟨w.heap.size + 1, 1, none⟩)) rfl rfl (by kernel_rfl) (by kernel_rfl) (by kernel_rfl) (fun _ _ _ h => h) hS (MR.free rfl) (fun wq hw => by simp [execOp, MR.ev, MR.size, hsz, e2, f2, e3, f3, go_sem]) ?_
    refine MR.takeH (i := 3) (some 18) (.int .i64 (i : Int)) rfl rfl (by kernel_rfl) (by kernel_rfl) (by kernel_rfl) (fun _ _ _ h => h) hS (MR.free rfl) (fun wq hw => by simp [execOp, MR.ev, MR.size, hsz, e2, f2, e3, f3, (LD.out wq hw).2.1, go_sem]) ?_
    refine MR.takeH (i := 4) (some 19) (.pointer (some ⟨b1, off1 + i * 3, none⟩)) rfl rfl (by kernel_rfl) (by kernel_rfl) (by kernel_rfl) (fun _ _ _ h => h) hS (MR.free rfl) (fun wq hw => by simp [execOp, MR.ev, MR.size, hsz, e2, f2, e3, f3, q0, q1, go_sem]) ?_
    refine MR.takeH (i := 5) (some 20) (.agg #[.slice sa ss.length sc, .slice ha hs.length hc, .slice ta ts.length tc]) rfl rfl (by kernel_rfl) (by kernel_rfl) (by kernel_rfl) (fun _ _ _ h => h) hS (MR.free rfl) (fun wq hw => by simp [execOp, MR.ev, MR.size, hsz, e2, f2, e3, f3, (LD.out wq hw).2.2.2.1, (LD.out wq hw).2.2.2.2.1, (LD.out wq hw).2.2.2.2.2, go_sem]) ?_
    refine MR.takeH (i := 6) (some 21) (.pointer (some ⟨w.heap.size + 1, 3, none⟩)) rfl rfl (by kernel_rfl) (by kernel_rfl) (by kernel_rfl) (fun _ _ _ h => h) hS (MR.free rfl) (fun wq hw => by simp [execOp, MR.ev, MR.size, hsz, e2, f2, e3, f3, go_sem]) ?_
    refine MR.takeH (i := 7) (some 22) (.int .i64 id) rfl rfl (by kernel_rfl) (by kernel_rfl) (by kernel_rfl) (fun _ _ _ h => h) hS (MR.free rfl) (fun wq hw => by simp [execOp, MR.ev, MR.size, hsz, e2, f2, e3, f3, (LD.out wq hw).2.2.1, go_sem]) ?_
    refine MR.callH (i := 8) (some 23) (32) (#[.agg #[.slice sa ss.length sc, .slice ha hs.length hc, .slice ta ts.length tc], .int .i64 id]) (by kernel_rfl) rfl rfl (MR.free rfl) (by simp [execOp, MR.ev, MR.size, hsz, e2, f2, e3, f3, go_sem]) ?_
    refine Calls.mono (HSN.out _ hS) ?_
    rintro e wn ⟨rfl, hbn⟩
    have hS2 : Below W0.heap.size W0 wn := hS.trans (hbn.mono hS.size)
    refine ⟨_, rfl, hS2, ?_⟩
    refine MR.callH (i := 9) (some 24) (41) (#[.bool true]) (by kernel_rfl) rfl rfl (MR.free rfl) (by simp [execOp, MR.ev, MR.size, hsz, e2, f2, e3, f3, go_sem]) ?_
    refine (need_yes _).mono ?_
    rintro e wm ⟨rfl, rfl⟩
    refine ⟨_, rfl, hS2, ?_⟩
    refine wpAnyH_done (by kernel_rfl) ?_ _
    rw [HA.out]
    simp only [Act.put, List.setIfInBounds_toArray, List.set_cons_succ, List.set_cons_zero]
    have x2 := x0.below hS2 x0.lt
    have y2 := y0.below hS2 y0.lt
    have hB3 := hB0.trans (hS2.mono hB0.size)
    clear HA hsz e2 f2 e3 f3 hS hbn HSN LD x0c hS2 hB0
    by_cases k1 : kd = 1
    · subst k1
      rw [if_pos rfl] at HB2
      have mG : ∀ (k : Nat) (W : World), (method (k + 1) 98 (.agg #[.int .i64 1, .int .i64 (i : Int), .int .i64 (m : Int), .int .i64 id]) "loop.example/g00315/impl.ends").run Try.prog W = .ok (112, .agg #[.int .i64 1, .int .i64 (i : Int), .int .i64 (m : Int), .int .i64 id]) W := fun k W => Try.mtGive _ k W
      obtain ⟨b2, off2, rfl, hlt2, u0⟩ := CG.up_at (M4.IntsAt.below hu hB3) hmu
      generalize us.getD m 0 = v at *
      have c0 := y2.cell 0 rfl
      have c1 := y2.cell 1 rfl
      have c2 := y2.cell 2 rfl
      have c3 := y2.cell 3 rfl
      have lx := x2.lt
      clear hu y2 y0 x0
      go_wp2_with fail
      refine (noteGive_any _ _ _ _).mono ?_
      rintro e w3 ⟨rfl, hb3⟩
      have u1 := (hb3.cell (p := ⟨_, _, none⟩) hlt2).trans u0
      have hlt3 := Nat.lt_of_lt_of_le hlt2 hb3.size
      have x3 := x2.below hb3 lx
      have hB4 := hB3.trans (hb3.mono hB3.size)
      clear hb3 u0 hlt2 x2 c0 c1 c2 c3
      go_wp2_with fail
      refine (giveEnds_any _ _ _ _ _).mono ?_
      rintro e w4 ⟨rfl, hb4⟩
      have u2 := (hb4.cell (p := ⟨_, _, none⟩) hlt3).trans u1
      have x4 := x3.below hb4 x3.lt
      have d0 := x4.cell 0 rfl
      have hB5 := hB4.trans (hb4.mono hB4.size)
      clear hb4 u1 hlt3 x3 x4
      by_cases hv : v = (i : Int)
      · have hF : Hid (B = true) := by show _ = _; rw [← HB2.out]; exact decide_eq_true hv
        have hvb : (v == (i : Int)) = true := by simp [hv]
        clear HB2 hv
        go_wp2_with fail
        refine (need_yes _).mono ?_
        rintro e wm ⟨rfl, rfl⟩
        go_wp2
        first | go_end0 | refine bodyPost_ret (results_none rfl _ _ _) rfl ?_
        exact ⟨by rw [hF.out]; rfl, hB5⟩
      · have hF : Hid (B = false) := by show _ = _; rw [← HB2.out]; exact decide_eq_false hv
        have hvb : (v == (i : Int)) = false := by simp [hv]
        clear HB2 hv
        go_wp2_with fail
        refine (need_no _).mono ?_
        rintro e wm ⟨rfl, rfl⟩
        go_wp2
        exact ⟨rfl, by rw [hF.out]; rfl, hB5⟩
    · by_cases k2 : kd = 2
      · subst k2
        rw [if_neg (by decide), if_pos rfl] at HB2
        have mG : ∀ (k : Nat) (W : World), (method (k + 1) 99 (.agg #[.int .i64 2, .int .i64 (i : Int), .int .i64 (m : Int), .int .i64 id]) "loop.example/g00315/impl.ends").run Try.prog W = .ok (114, .agg #[.int .i64 2, .int .i64 (i : Int), .int .i64 (m : Int), .int .i64 id]) W := fun k W => Try.mtAck _ k W
        obtain ⟨b2, off2, rfl, hlt2, u0⟩ := CG.up_at (M4.IntsAt.below hu hB3) hiu
        generalize us.getD i 0 = v at *
        have c0 := y2.cell 0 rfl
        have c1 := y2.cell 1 rfl
        have c2 := y2.cell 2 rfl
        have c3 := y2.cell 3 rfl
        have lx := x2.lt
        clear hu y2 y0 x0
        go_wp2_with fail
        refine (noteAck_any _ _ _ _).mono ?_
        rintro e w3 ⟨rfl, hb3⟩
        have u1 := (hb3.cell (p := ⟨_, _, none⟩) hlt2).trans u0
        have hlt3 := Nat.lt_of_lt_of_le hlt2 hb3.size
        have x3 := x2.below hb3 lx
        have hB4 := hB3.trans (hb3.mono hB3.size)
        clear hb3 u0 hlt2 x2 c0 c1 c2 c3
        go_wp2_with fail
        refine (ackEnds_any _ _ _ _ _).mono ?_
        rintro e w4 ⟨rfl, hb4⟩
        have u2 := (hb4.cell (p := ⟨_, _, none⟩) hlt3).trans u1
        have x4 := x3.below hb4 x3.lt
        have d0 := x4.cell 0 rfl
        have hB5 := hB4.trans (hb4.mono hB4.size)
        clear hb4 u1 hlt3 x3 x4
        by_cases hv : v = (m : Int)
        · have hF : Hid (B = true) := by show _ = _; rw [← HB2.out]; exact decide_eq_true hv
          have hvb : (v == (m : Int)) = true := by simp [hv]
          clear HB2 hv
          go_wp2_with fail
          refine (need_yes _).mono ?_
          rintro e wm ⟨rfl, rfl⟩
          go_wp2
          first | go_end0 | refine bodyPost_ret (results_none rfl _ _ _) rfl ?_
          exact ⟨by rw [hF.out]; rfl, hB5⟩
        · have hF : Hid (B = false) := by show _ = _; rw [← HB2.out]; exact decide_eq_false hv
          have hvb : (v == (m : Int)) = false := by simp [hv]
          clear HB2 hv
          go_wp2_with fail
          refine (need_no _).mono ?_
          rintro e wm ⟨rfl, rfl⟩
          go_wp2
          exact ⟨rfl, by rw [hF.out]; rfl, hB5⟩
      · rw [if_neg k1, if_neg k2] at HB2
        have hF : Hid (B = false) := by show _ = _; rw [← HB2.out]
        have c0 := y2.cell 0 rfl
        have c1 := y2.cell 1 rfl
        have c2 := y2.cell 2 rfl
        have c3 := y2.cell 3 rfl
        clear HB2 hu x2 y2 x0 y0
        go_wp2_with fail
        refine (noteNo_any kd _ _ _ k1 k2 _).mono ?_
        rintro e w3 ⟨rfl, hb3⟩
        go_wp2
        exact ⟨rfl, by rw [hF.out]; rfl, hB3.trans (hb3.mono hB3.size)⟩
end Go.Proofs.Ytfkmnmiolnijaaa

/- Keepers of the program: checkRows. -/
namespace Go.Proofs.Ytfkmnmiolnijaaa
open Go.RowKit
namespace CG
theorem up_no {hs : List I2} {j : Nat} (hj : j + 1 < hs.length) (h : lessH (MI2.at_ hs j) (MI2.at_ hs (j + 1)) = false) : upH hs = false := by
  rw [Bool.eq_false_iff]; intro e
  rcases (upH_iff hs).1 e (j + 1) hj with c | c
  · omega
  · rw [Nat.add_sub_cancel, h] at c; cases c
theorem up_yes {hs : List I2} {j : Nat} (hj : hs.length ≤ j + 1) (h : ∀ m, m < j → lessH (MI2.at_ hs m) (MI2.at_ hs (m + 1)) = true) : upH hs = true := by
  refine (upH_iff hs).2 fun m hm => ?_
  cases m with
  | zero => exact .inl rfl
  | succ m => exact .inr (h m (by omega))
theorem up_succ {hs : List I2} {j : Nat} (h : ∀ m, m < j → lessH (MI2.at_ hs m) (MI2.at_ hs (m + 1)) = true) (h1 : lessH (MI2.at_ hs j) (MI2.at_ hs (j + 1)) = true) : ∀ m, m < j + 1 → lessH (MI2.at_ hs m) (MI2.at_ hs (m + 1)) = true := fun m hm => by
  by_cases c : m = j
  · subst c; exact h1
  · exact h m (by omega)
end CG
set_option linter.unusedSimpArgs false in
set_option maxHeartbeats 3200000 in
set_option maxRecDepth 100000 in
theorem checkRows_any (p : Kp) (w : World) (hp : KP.In w 0 p) (hl : p.ss.length ≤ 1048576 ∧ p.hs.length ≤ 1048576 ∧ p.ts.length ≤ 1048576) :
    Calls Try.prog 43 #[p.v] w fun e w' => e = Try.out (CG.rowsI p.said) ∧ Below w.heap.size w w' := by
  obtain ⟨ss, hs, ts, sa, ha, ta, sc, hc, tc⟩ := p
  obtain ⟨hl1, hl2, hl3⟩ := hl
  simp only at hl1 hl2 hl3
  obtain ⟨B, hB⟩ : ∃ B, CG.rowsI (Kp.said ⟨ss, hs, ts, sa, ha, ta, sc, hc, tc⟩) = B := ⟨_, rfl⟩
  rw [hB]
  have hB' : (EG.rises 6 ss && CG.inOrd ts ss && CG.upH hs) = B := hB
  clear hB
  obtain ⟨b1, h1⟩ : ∃ b, EG.rises 6 ss = b := ⟨_, rfl⟩
  obtain ⟨b2, h2⟩ : ∃ b, CG.inOrd ts ss = b := ⟨_, rfl⟩
  rw [h1, h2] at hB'
  have HB : Hid ((b1 && b2 && CG.upH hs) = B) := hB'
  have R1 : Hid (∀ W : World, Below w.heap.size w W → Calls Try.prog 55 #[.slice sa ss.length sc, .int .i64 5] W fun e w' => e = .returned (.bool b1) ∧ W = w') := fun W hW => areRising_any sa sc 6 ss W (by omega) hl1 (M4.IntsAt.below hp.s.at_ hW) b1 h1
  have R2 : Hid (∀ W : World, Below w.heap.size w W → Calls Try.prog 48 #[.slice ta ts.length tc, .slice sa ss.length sc] W fun e w' => e = .returned (.bool b2) ∧ Below W.heap.size W w') := fun W hW => h2 ▸ inSome_any ta sa tc sc ts ss W hl3 hl1 (M4.IntsAt.below hp.t.at_ hW) (M4.IntsAt.below hp.s.at_ hW)
  have HI : Hid (∀ W : World, Below w.heap.size w W → MI2.RowAt W ha hs) := fun W hW => hp.h.at_.below hW
  clear h1 h2 hB' hp hl1 hl3
  have hB0 : Below w.heap.size w (w.alloc (.cells #[.slice sa ss.length sc, .slice ha hs.length hc, .slice ta ts.length tc] 50)) := (Below.refl _ w).alloc (Nat.le_refl _) _
  have x0 : BxN (w.alloc (.cells #[.slice sa ss.length sc, .slice ha hs.length hc, .slice ta ts.length tc] 50)) w.heap.size [.slice sa ss.length sc, .slice ha hs.length hc, .slice ta ts.length tc] 50 := BxN.new w _ _ rfl
  go_enter Try.func43, Try.ntmps43
  go_wp2_with fail
  generalize w.alloc (.cells #[.slice sa ss.length sc, .slice ha hs.length hc, .slice ta ts.length tc] 50) = W0 at *
  refine (R1.out W0 hB0).mono ?_
  rintro e w1 ⟨rfl, rfl⟩
  clear R1
  cases b1
  · have hF : Hid (B = false) := by show _ = _; rw [← HB.out]; rfl
    clear R2 HI HB
    go_wp2_with fail
    refine (need_no W0).mono ?_
    rintro e w2 ⟨rfl, rfl⟩
    go_wp2
    exact ⟨rfl, by rw [hF.out]; rfl, hB0⟩
  have a0 := x0.cell 0 rfl
  have a2 := x0.cell 2 rfl
  go_wp2_with fail
  refine (need_yes W0).mono ?_
  rintro e w2 ⟨rfl, rfl⟩
  go_wp2_with fail
  refine (R2.out W0 hB0).mono ?_
  rintro e w1 ⟨rfl, hb⟩
  have hB1 := hB0.trans (hb.mono hB0.size)
  have x1 := x0.below hb x0.lt
  clear R2 hb x0 a0 a2 hB0
  cases b2
  · have hF : Hid (B = false) := by show _ = _; rw [← HB.out]; rfl
    clear HI HB x1
    go_wp2_with fail
    refine (need_no w1).mono ?_
    rintro e w2 ⟨rfl, rfl⟩
    go_wp2
    exact ⟨rfl, by rw [hF.out]; rfl, hB1⟩
  have HU : Hid (CG.upH hs = B) := HB.out
  clear HB
  go_wp2_with fail
  refine (need_yes w1).mono ?_
  rintro e w2 ⟨rfl, rfl⟩
  have l1 := x1.lt
  go_wp2_with fail
  go_loopw [2] (fun iv wr => ∃ j : Nat, iv = .int .i64 ((j : Int) + 1) ∧ (j = 0 ∨ j + 1 ≤ hs.length) ∧ Hid (∀ m, m < j → CG.lessH (MI2.at_ hs m) (MI2.at_ hs (m + 1)) = true) ∧ Below w1.heap.size w1 wr) (fun iv _ => (hs.length + 1 - intOf iv).toNat)
  case atStart => exact ⟨0, rfl, .inl rfl, show Hid _ from fun m hm => by omega, Below.refl _ _⟩
  case round =>
    obtain ⟨j, rfl, hj, hT, hb⟩ := hrel
    have x2 := x1.below hb l1
    have hB2 := hB1.trans (hb.mono hB1.size)
    by_cases hjl : j + 1 < hs.length
    · obtain ⟨b1, off1, rfl, hlt1, c0, c1⟩ := (HI.out wr hB2).at (j := j) (by omega)
      obtain ⟨b1', off1', he, -, d0, d1⟩ := (HI.out wr hB2).at hjl
      simp only [Option.some.injEq, Addr.mk.injEq] at he
      obtain ⟨rfl, rfl, -⟩ := he
      have HN : Hid (CG.lessH (MI2.at_ hs j) (MI2.at_ hs (j + 1)) = false → B = false) := fun e => by rw [← HU.out]; exact CG.up_no hjl e
      have HY : Hid (CG.lessH (MI2.at_ hs j) (MI2.at_ hs (j + 1)) = true → ∀ m, m < j + 1 → CG.lessH (MI2.at_ hs m) (MI2.at_ hs (m + 1)) = true) := fun e => CG.up_succ hT.out e
      have BI : Hid (∀ W : World, Calls Try.prog 56 #[(MI2.at_ hs j).v, (MI2.at_ hs (j + 1)).v] W fun e w' => e = .returned (.int .i64 (CG.cmpH (MI2.at_ hs j) (MI2.at_ hs (j + 1)))) ∧ Below W.heap.size W w') := fun W => byIdC_any (MI2.at_ hs j) (MI2.at_ hs (j + 1)) W
      rw [← CG.cmpH_lt] at HN HY
      generalize CG.cmpH (MI2.at_ hs j) (MI2.at_ hs (j + 1)) = z at *
      generalize MI2.at_ hs j = x at *
      generalize MI2.at_ hs (j + 1) = y at *
      obtain ⟨xa, xb⟩ := x
      obtain ⟨ya, yb⟩ := y
      have k1 := x2.cell 1 rfl
      clear HI hT HU x2 x1
      have hj1 : decide (j + 1 < hs.length) = true := by simpa using hjl
      go_wp2_with fail
      have q0 : (0 : Int) ≤ (j : Int) := by omega
      have q1 : (j : Int) < (hs.length : Int) := by omega
      have q2 : (0 : Int) ≤ (j : Int) + 1 := by omega
      have q3 : (j : Int) + 1 < (hs.length : Int) := by omega
      have q4 : IntKind.i64.wrap ((j : Int) + 1 - 1) = (j : Int) := by rw [show (j : Int) + 1 - 1 = (j : Int) from by omega, IntKind.wrap_i64]; omega
      have q6 : IntKind.i64.wrap (j : Int) = (j : Int) := by rw [IntKind.wrap_i64]; omega
      have q5 : ((j : Int) + 1).toNat = j + 1 := by omega
      have hS := And.intro k1 (And.intro c0 (And.intro c1 (And.intro d0 d1)))
      have SB : ∀ V V' : World, w.heap.size < V.heap.size → b1 < V.heap.size → Below V.heap.size V V' → (V.cell? ⟨w.heap.size, 1, none⟩ = some (.slice (some ⟨b1, off1, none⟩) hs.length hc) ∧ V.cell? ⟨b1, off1 + j * 2, none⟩ = some (.int .i64 xa) ∧ V.cell? ⟨b1, off1 + j * 2 + 1, none⟩ = some (.int .i64 xb) ∧ V.cell? ⟨b1, off1 + (j + 1) * 2, none⟩ = some (.int .i64 ya) ∧ V.cell? ⟨b1, off1 + (j + 1) * 2 + 1, none⟩ = some (.int .i64 yb)) → (V'.cell? ⟨w.heap.size, 1, none⟩ = some (.slice (some ⟨b1, off1, none⟩) hs.length hc) ∧ V'.cell? ⟨b1, off1 + j * 2, none⟩ = some (.int .i64 xa) ∧ V'.cell? ⟨b1, off1 + j * 2 + 1, none⟩ = some (.int .i64 xb) ∧ V'.cell? ⟨b1, off1 + (j + 1) * 2, none⟩ = some (.int .i64 ya) ∧ V'.cell? ⟨b1, off1 + (j + 1) * 2 + 1, none⟩ = some (.int .i64 yb)) := fun V V' h1 h2 hb ⟨a1, a2, a3, a4, a5⟩ => ⟨(hb.cell (p := ⟨_, _, none⟩) h1).trans a1, (hb.cell (p := ⟨_, _, none⟩) h2).trans a2, (hb.cell (p := ⟨_, _, none⟩) h2).trans a3, (hb.cell (p := ⟨_, _, none⟩) h2).trans a4, (hb.cell (p := ⟨_, _, none⟩) h2).trans a5⟩
      have l2 : w.heap.size < wr.heap.size := Nat.lt_of_lt_of_le l1 hb.size
      by_cases hz : z < 0
      · have hT : Hid _ := HY.out (decide_eq_true hz)
        have hzb : decide (z < 0) = true := decide_eq_true hz
        clear HY HN
        go_region_held3 (fun w' => w'.cell? ⟨w.heap.size, 1, none⟩ = some (.slice (some ⟨b1, off1, none⟩) hs.length hc) ∧ w'.cell? ⟨b1, off1 + j * 2, none⟩ = some (.int .i64 xa) ∧ w'.cell? ⟨b1, off1 + j * 2 + 1, none⟩ = some (.int .i64 xb) ∧ w'.cell? ⟨b1, off1 + (j + 1) * 2, none⟩ = some (.int .i64 ya) ∧ w'.cell? ⟨b1, off1 + (j + 1) * 2 + 1, none⟩ = some (.int .i64 yb)) (first | assumption | go_keep) (first | (go_at_call 56; refine Calls.mono (BI.out _) ?_; rintro e wn ⟨rfl, hbn⟩; have hS2 := SB _ wn (by simpa using l2) (by simpa using hlt1) hbn (by assumption); have hBn := hB2.drew.trans (hbn.mono (by simpa using hB2.size)); have hbn2 := hb.drew.trans (hbn.mono (by simpa using hb.size))) | (go_at_call 41; refine Calls.mono (need_yes _) ?_; rintro e wm ⟨rfl, rfl⟩))
        all_goals (
          go_wp2
          go_roundw
          case rel => exact ⟨j + 1, by go_num, by omega, hT, by assumption⟩
          case measure => simp [intOf]; omega)
      · have hF : Hid _ := HN.out (decide_eq_false hz)
        have hzb : decide (z < 0) = false := decide_eq_false hz
        clear HY HN
        refine MR.frame fun A hA => ?_
        have hsz : A.tmps.size = 34 := by rw [hA]; rfl
        have e1 : A.eval (.tmp 1) = .pointer (some ⟨w.heap.size, 0, none⟩) := by rw [hA]; rfl
        have f1 := MR.read (t := 1) (by rw [hsz]; decide) e1
        have e2 : A.eval (.tmp 2) = .int .i64 ((j : Int) + 1) := by rw [hA]; rfl
        have f2 := MR.read (t := 2) (by rw [hsz]; decide) e2
        have HA : Hid (A = _) := hA
        clear hA
        have hS : (fun w' => w'.cell? ⟨w.heap.size, 1, none⟩ = some (.slice (some ⟨b1, off1, none⟩) hs.length hc) ∧ w'.cell? ⟨b1, off1 + j * 2, none⟩ = some (.int .i64 xa) ∧ w'.cell? ⟨b1, off1 + j * 2 + 1, none⟩ = some (.int .i64 xb) ∧ w'.cell? ⟨b1, off1 + (j + 1) * 2, none⟩ = some (.int .i64 ya) ∧ w'.cell? ⟨b1, off1 + (j + 1) * 2 + 1, none⟩ = some (.int .i64 yb)) (World.drew _) := ⟨k1, c0, c1, d0, d1⟩
        refine wp_region_held (S := fun w' => w'.cell? ⟨w.heap.size, 1, none⟩ = some (.slice (some ⟨b1, off1, none⟩) hs.length hc) ∧ w'.cell? ⟨b1, off1 + j * 2, none⟩ = some (.int .i64 xa) ∧ w'.cell? ⟨b1, off1 + j * 2 + 1, none⟩ = some (.int .i64 xb) ∧ w'.cell? ⟨b1, off1 + (j + 1) * 2, none⟩ = some (.int .i64 ya) ∧ w'.cell? ⟨b1, off1 + (j + 1) * 2 + 1, none⟩ = some (.int .i64 yb)) (by kernel_rfl) ?_
        change wpAnyH _ _ _ _ _ _ _ _ (World.drew _)
        refine MR.takeH (i := 0) (some 20) (.pointer (some ⟨w.heap.size, 1, none⟩)) rfl rfl (by kernel_rfl) (by kernel_rfl) (by kernel_rfl) (fun _ _ _ h => h) hS (MR.free rfl) (fun wq hw => by simp [execOp, MR.ev, MR.size, hsz, e1, f1, e2, f2, go_sem]) ?_
        refine MR.takeH (i := 1) (some 21) (.slice (some ⟨b1, off1, none⟩) hs.length hc) rfl rfl (by kernel_rfl) (by kernel_rfl) (by kernel_rfl) (fun _ _ _ h => h) hS (MR.free rfl) (fun wq hw => by simp [execOp, MR.ev, MR.size, hsz, e1, f1, e2, f2, hw.1, go_sem]) ?_
        refine MR.takeH (i := 2) (some 22) (.int .i64 ((j : Int) + 1)) rfl rfl (by kernel_rfl) (by kernel_rfl) (by kernel_rfl) (fun _ _ _ h => h) hS (MR.free rfl) (fun wq hw => by simp [execOp, MR.ev, MR.size, hsz, e1, f1, e2, f2, go_sem]) ?_
        refine MR.takeH (i := 3) (some 23) (.int .i64 (j : Int)) rfl rfl (by kernel_rfl) (by kernel_rfl) (by kernel_rfl) (fun _ _ _ h => h) hS (MR.free rfl) (fun wq hw => by simp [execOp, MR.ev, MR.size, hsz, e1, f1, e2, f2, q0, q1, q2, q3, q4, q5, q6, go_sem]) ?_
        refine MR.takeH (i := 4) (some 24) (.pointer (some ⟨b1, off1 + j * 2, none⟩)) rfl rfl (by kernel_rfl) (by kernel_rfl) (by kernel_rfl) (fun _ _ _ h => h) hS (MR.free rfl) (fun wq hw => by simp [execOp, MR.ev, MR.size, hsz, e1, f1, e2, f2, q0, q1, q2, q3, q4, q5, q6, go_sem]) ?_
        refine MR.takeH (i := 5) (some 25) (.agg #[.int .i64 xa, .int .i64 xb]) rfl rfl (by kernel_rfl) (by kernel_rfl) (by kernel_rfl) (fun _ _ _ h => h) hS (MR.free rfl) (fun wq hw => by simp [execOp, MR.ev, MR.size, hsz, e1, f1, e2, f2, hw.1, hw.2.1, hw.2.2.1, hw.2.2.2.1, hw.2.2.2.2, go_sem]) ?_
        refine MR.takeH (i := 6) (some 26) (.pointer (some ⟨w.heap.size, 1, none⟩)) rfl rfl (by kernel_rfl) (by kernel_rfl) (by kernel_rfl) (fun _ _ _ h => h) hS (MR.free rfl) (fun wq hw => by simp [execOp, MR.ev, MR.size, hsz, e1, f1, e2, f2, go_sem]) ?_
        refine MR.takeH (i := 7) (some 27) (.slice (some ⟨b1, off1, none⟩) hs.length hc) rfl rfl (by kernel_rfl) (by kernel_rfl) (by kernel_rfl) (fun _ _ _ h => h) hS (MR.free rfl) (fun wq hw => by simp [execOp, MR.ev, MR.size, hsz, e1, f1, e2, f2, hw.1, go_sem]) ?_
        refine MR.takeH (i := 8) (some 28) (.int .i64 ((j : Int) + 1)) rfl rfl (by kernel_rfl) (by kernel_rfl) (by kernel_rfl) (fun _ _ _ h => h) hS (MR.free rfl) (fun wq hw => by simp [execOp, MR.ev, MR.size, hsz, e1, f1, e2, f2, go_sem]) ?_
        refine MR.takeH (i := 9) (some 29) (.pointer (some ⟨b1, off1 + (j + 1) * 2, none⟩)) rfl rfl (by kernel_rfl) (by kernel_rfl) (by kernel_rfl) (fun _ _ _ h => h) hS (MR.free rfl) (fun wq hw => by simp [execOp, MR.ev, MR.size, hsz, e1, f1, e2, f2, q0, q1, q2, q3, q4, q5, q6, go_sem]) ?_
        refine MR.takeH (i := 10) (some 30) (.agg #[.int .i64 ya, .int .i64 yb]) rfl rfl (by kernel_rfl) (by kernel_rfl) (by kernel_rfl) (fun _ _ _ h => h) hS (MR.free rfl) (fun wq hw => by simp [execOp, MR.ev, MR.size, hsz, e1, f1, e2, f2, hw.1, hw.2.1, hw.2.2.1, hw.2.2.2.1, hw.2.2.2.2, go_sem]) ?_
        refine MR.callH (i := 11) (some 31) (56) (#[.agg #[.int .i64 xa, .int .i64 xb], .agg #[.int .i64 ya, .int .i64 yb]]) (by kernel_rfl) rfl rfl (MR.free rfl) (by simp [execOp, MR.ev, MR.size, hsz, e1, f1, e2, f2, go_sem]) ?_
        refine Calls.mono (BI.out _) ?_
        rintro e wn ⟨rfl, hbn⟩
        have hS2 := SB _ wn (by simpa using l2) (by simpa using hlt1) hbn hS
        refine ⟨_, rfl, hS2, ?_⟩
        have hBn := hB2.drew.trans (hbn.mono (by simpa using hB2.size))
        refine MR.takeH (i := 12) (some 32) (.bool false) rfl rfl (by kernel_rfl) (by kernel_rfl) (by kernel_rfl) (fun _ _ _ h => h) hS2 (MR.free rfl) (fun wq hw => by simp [execOp, MR.ev, MR.size, hsz, e1, f1, e2, f2, hzb, go_sem]) ?_
        refine MR.dieH (i := 13) 41 #[.bool false] (by kernel_rfl) rfl (MR.free rfl) (by simp [execOp, MR.ev, MR.size, hsz, go_sem]) ?_
        refine (need_no _).mono ?_
        rintro e wm ⟨rfl, rfl⟩
        exact ⟨_, rfl, (by rw [HA.out]; rfl), by rw [hF.out]; rfl, hBn⟩
    · have hF : Hid (B = true) := by show _ = _; rw [← HU.out]; exact CG.up_yes (j := j) (by omega) hT.out
      have k1 := x2.cell 1 rfl
      have hj1 : decide (j + 1 < hs.length) = false := by simpa using hjl
      clear HI hT HU x2 x1
      go_wp2
      first | go_end0 | refine bodyPost_ret (results_none rfl _ _ _) rfl ?_
      exact ⟨by rw [hF.out]; rfl, hB2⟩
end Go.Proofs.Ytfkmnmiolnijaaa

/- The program's check of a custody, GoodCustody. -/
namespace Go.Proofs.Ytfkmnmiolnijaaa
open Go.RowKit
namespace CG
theorem rg_no {n k : Nat} {f : Nat → Bool} (hk : k < n) (h : f k = false) : (List.range n).all f = false := by
  rw [Bool.eq_false_iff]; intro e; rw [List.all_eq_true.1 e k (List.mem_range.2 hk)] at h; cases h
theorem rg_yes {n : Nat} {f : Nat → Bool} (h : ∀ k, k < n → f k = true) : (List.range n).all f = true := List.all_eq_true.2 fun k hk => h k (List.mem_range.1 hk)
theorem rg_succ {k : Nat} {f : Nat → Bool} (h : ∀ j, j < k → f j = true) (h1 : f k = true) : ∀ j, j < k + 1 → f j = true := fun j hj => by
  by_cases c : j = k
  · subst c; exact h1
  · exact h j (by omega)
theorem all4_no {ls : List I4} {f : I4 → Bool} {k : Nat} (hk : k < ls.length) (h : f (MI4.at_ ls k) = false) : ls.all f = false := by
  rw [Bool.eq_false_iff]; intro e; rw [MI4.at_eq _ _ hk] at h; rw [List.all_eq_true.1 e _ (List.getElem_mem hk)] at h; cases h
theorem all4_yes {ls : List I4} {f : I4 → Bool} (h : ∀ k, k < ls.length → f (MI4.at_ ls k) = true) : ls.all f = true := List.all_eq_true.2 fun x hx => by
  obtain ⟨k, hk, rfl⟩ := List.mem_iff_getElem.1 hx
  rw [← MI4.at_eq _ _ hk]; exact h k hk
end CG
set_option linter.unusedSimpArgs false in
set_option maxHeartbeats 6400000 in
set_option maxRecDepth 100000 in
theorem check_any (c : Cu) (w : World) (hc : CuAt w c) (lc : CuLen c) :
    Calls Try.prog 25 #[c.v] w fun e w' => e = Try.out (CG.goodI c.said) ∧ Below w.heap.size w w' := by
  have CS0 : c.ks.length = c.us.length → Hid (∀ (W : World) (x : I4), Below w.heap.size w W → Calls Try.prog 47 #[c.v, x.v] W fun e w' => e = Try.out (CG.slipI c.said x) ∧ Below W.heap.size W w') := fun hn W x hW => checkSlip_any c x W (hc.below hW) lc hn
  have CB0 : Hid (∀ (W : World) (node child : Nat), node < c.ks.length → child < c.ks.length → Below w.heap.size w W → Calls Try.prog 46 #[c.v, .int .i64 (node : Int), .int .i64 (child : Int)] W fun e w' => e = Try.out (CG.bothI c.said node child) ∧ Below W.heap.size W w') := fun W node child h1 h2 hW => checkBoth_any c node child W (hc.below hW) lc h1 h2
  obtain ⟨us, ks, ls, ns, ua, ka, la, na, uc, kc, lcc, nc⟩ := c
  obtain ⟨hu, hk, hls, hns⟩ := hc
  obtain ⟨l1, l2, l3, l4, l5⟩ := lc
  simp only at hu hk hls hns l1 l2 l3 l4 l5 CS0 CB0
  obtain ⟨S, hS⟩ : ∃ S, Cu.said ⟨us, ks, ls, ns, ua, ka, la, na, uc, kc, lcc, nc⟩ = S := ⟨_, rfl⟩
  have SD : Hid (∀ k, k < ks.length → CG.sd S k = (KP.at_ ks k).said) := fun k hk => by rw [← hS]; exact KP.sd_at hk
  have SU : Hid (S.us = us) := by show _ = _; rw [← hS]; rfl
  obtain ⟨B, hB⟩ : ∃ B, CG.goodI S = B := ⟨_, rfl⟩
  rw [hS] at CS0 CB0 ⊢
  rw [hB]
  have HB : Hid ((TR.tree us && decide (ks.length = us.length) && decide (ls.length ≤ 30) && ((List.range ks.length).all fun k => CG.rowsI (CG.sd S k) && CG.holdsI (TR.kids us k) (CG.sd S k)) && ((List.range us.length).all fun ch => decide (ch = 0) || CG.bothI S (CG.upOf S ch) ch) && (ls.all fun x => CG.slipI S x) && CG.inOrd ns (CG.sd S 0).1) = B) := by
    show _ = _
    rw [← hB, ← hS]
    simp only [CG.goodI, Cu.said, List.length_map]
    rfl
  clear hB hS
  have CT : Hid (∀ W : World, Below w.heap.size w W → Calls Try.prog 42 #[.slice ua us.length uc] W fun e w' => e = .returned (.bool (TR.tree us)) ∧ W = w') := fun W hW => isTree_any ua uc us W l1 (M4.IntsAt.below hu hW)
  have CR : Hid (∀ (W : World) (k : Nat), k < ks.length → Below w.heap.size w W → Calls Try.prog 43 #[(KP.at_ ks k).v] W fun e w' => e = Try.out (CG.rowsI (KP.at_ ks k).said) ∧ Below W.heap.size W w') := fun W k h hW => checkRows_any (KP.at_ ks k) W ((hk.row k h).below hW) (l5 k h)
  have CK : Hid (TR.tree us = true → ∀ (W : World) (k : Nat), Below w.heap.size w W → Calls Try.prog 45 #[.slice ua us.length uc, .int .i64 (k : Int)] W fun e w' => ∃ a1 c1, e = .returned (.slice a1 (TR.kids us k).length c1) ∧ M4.IntsAt w' a1 (TR.kids us k) ∧ Below W.heap.size W w') := fun ht W k hW => (childrenOf_any ua uc us (k : Int) W ((TR.tree_iff us).1 ht).1.2 (M4.IntsAt.below hu hW) _ (TR.kids_is ht (by omega))).mono fun e w' h => by
    obtain ⟨a1, c1, rfl, ho, hb⟩ := h
    refine ⟨a1, c1, rfl, ?_, hb⟩
    rcases ho.2 with ⟨_, h0⟩ | ⟨g', cap, cur, h, _⟩
    · exact .inl (List.length_eq_zero_iff.1 h0)
    · cases h; exact M5.own_ints ho
  have CH : Hid (∀ (W : World) (k : Nat) (a : Option Addr) (ca : Nat) (kd : List Int), k < ks.length → kd.length ≤ 1048576 → M4.IntsAt W a kd → Below w.heap.size w W → Calls Try.prog 44 #[(KP.at_ ks k).v, .slice a kd.length ca] W fun e w' => e = Try.out (CG.holdsI kd (KP.at_ ks k).said) ∧ Below W.heap.size W w') := fun W k a ca kd h hkd hka hW => checkHolds_any (KP.at_ ks k) a ca kd W ((hk.row k h).below hW) ⟨(l5 k h).1, (l5 k h).2.1⟩ hkd hka
  have CI : Hid (∀ (W : World) (k : Nat), k < ks.length → Below w.heap.size w W → Calls Try.prog 48 #[.slice na ns.length nc, .slice (KP.at_ ks k).sa (KP.at_ ks k).ss.length (KP.at_ ks k).sc] W fun e w' => e = .returned (.bool (CG.inOrd ns (KP.at_ ks k).ss)) ∧ Below W.heap.size W w') := fun W k h hW => inSome_any na (KP.at_ ks k).sa nc (KP.at_ ks k).sc ns (KP.at_ ks k).ss W l4 (l5 k h).1 (M4.IntsAt.below hns hW) (M4.IntsAt.below (hk.row k h).s.at_ hW)
  have HK : Hid (∀ W : World, Below w.heap.size w W → KP.RowAt W 0 ka ks) := fun W hW => hk.below hW
  have HU : Hid (∀ W : World, Below w.heap.size w W → M4.IntsAt W ua us) := fun W hW => M4.IntsAt.below hu hW
  have HL : Hid (∀ W : World, Below w.heap.size w W → MI4.RowAt W la ls) := fun W hW => hls.below hW
  clear hu hk hls hns l5
  have hB0 : Below w.heap.size w (w.alloc (.cells #[.slice ua us.length uc, .slice ka ks.length kc, .slice la ls.length lcc, .slice na ns.length nc] 32)) := (Below.refl _ w).alloc (Nat.le_refl _) _
  have x0 : BxN (w.alloc (.cells #[.slice ua us.length uc, .slice ka ks.length kc, .slice la ls.length lcc, .slice na ns.length nc] 32)) w.heap.size [.slice ua us.length uc, .slice ka ks.length kc, .slice la ls.length lcc, .slice na ns.length nc] 32 := BxN.new w _ _ rfl
  go_enter Try.func25, Try.ntmps25
  go_wp2_with fail
  generalize w.alloc (.cells #[.slice ua us.length uc, .slice ka ks.length kc, .slice la ls.length lcc, .slice na ns.length nc] 32) = W0 at *
  refine (CT.out W0 hB0).mono ?_
  rintro e w1 ⟨rfl, rfl⟩
  clear CT
  by_cases ht : TR.tree us = true
  case neg =>
    replace ht : TR.tree us = false := by simpa using ht
    have hF : Hid (B = false) := by show _ = _; rw [← HB.out, ht]; rfl
    rw [ht]
    clear HB x0 CS0 CB0 CR CK CH CI HK HU HL
    go_wp2_with fail
    refine (need_no W0).mono ?_
    rintro e w2 ⟨rfl, rfl⟩
    go_wp2
    exact ⟨rfl, by rw [hF.out]; rfl, hB0⟩
  have CK2 : Hid _ := CK.out ht
  have HT : Hid _ := ht
  have hu8 : us.length ≤ 8 := ((TR.tree_iff us).1 ht).1.2
  have hu1 : 1 ≤ us.length := ((TR.tree_iff us).1 ht).1.1
  rw [ht] at HB ⊢
  clear ht CK
  have a0 := x0.cell 0 rfl
  have a1 := x0.cell 1 rfl
  have a2 := x0.cell 2 rfl
  go_wp2_with fail
  refine (need_yes W0).mono ?_
  rintro e w2 ⟨rfl, rfl⟩
  by_cases hkl : ks.length = us.length
  case neg =>
    have hF : Hid (B = false) := by show _ = _; rw [← HB.out, decide_eq_false hkl]; rfl
    have hq : ((ks.length : Int) == (us.length : Int)) = false := by simp; omega
    have hq2 : (ks.length == us.length) = false := by simp [hkl]
    clear HB x0 CS0 CB0 CR CK2 CH CI HK HU HL hkl
    go_wp2_with fail
    refine (need_no W0).mono ?_
    rintro e w2 ⟨rfl, rfl⟩
    go_wp2
    exact ⟨rfl, by rw [hF.out]; rfl, hB0⟩
  have hq : ((ks.length : Int) == (us.length : Int)) = true := by simp [hkl]
  have hq2 : (ks.length == us.length) = true := by simp [hkl]
  have CS : Hid (∀ (W : World) (x : I4), Below w.heap.size w W → Calls Try.prog 47 #[.agg #[.slice ua us.length uc, .slice ka ks.length kc, .slice la ls.length lcc, .slice na ns.length nc], x.v] W fun e w' => e = Try.out (CG.slipI S x) ∧ Below W.heap.size W w') := (CS0 hkl).out
  have HKL : Hid _ := hkl
  have HB1 : Hid ((decide (ls.length ≤ 30) && ((List.range ks.length).all fun k => CG.rowsI (CG.sd S k) && CG.holdsI (TR.kids us k) (CG.sd S k)) && ((List.range us.length).all fun ch => decide (ch = 0) || CG.bothI S (CG.upOf S ch) ch) && (ls.all fun x => CG.slipI S x) && CG.inOrd ns (CG.sd S 0).1) = B) := by show _ = _; rw [← HB.out, decide_eq_true hkl]; rfl
  clear CS0 hkl HB
  go_wp2_with fail
  refine (need_yes W0).mono ?_
  rintro e w2 ⟨rfl, rfl⟩
  by_cases hl30 : ls.length ≤ 30
  case neg =>
    have hF : Hid (B = false) := by show _ = _; rw [← HB1.out, decide_eq_false hl30]; rfl
    have hq : decide ((ls.length : Int) ≤ 30) = false := by simp; omega
    have hqn : decide (ls.length ≤ 30) = false := by simp; omega
    clear HB1 x0 CS CB0 CR CK2 CH CI HK HU HL
    go_wp2_with fail
    refine (need_no W0).mono ?_
    rintro e w2 ⟨rfl, rfl⟩
    go_wp2
    exact ⟨rfl, by rw [hF.out]; rfl, hB0⟩
  have hq3 : decide ((ls.length : Int) ≤ 30) = true := by simp; omega
  have hq4 : decide (ls.length ≤ 30) = true := by simp; omega
  have HB2 : Hid ((((List.range ks.length).all fun k => CG.rowsI (CG.sd S k) && CG.holdsI (TR.kids us k) (CG.sd S k)) && ((List.range us.length).all fun ch => decide (ch = 0) || CG.bothI S (CG.upOf S ch) ch) && (ls.all fun x => CG.slipI S x) && CG.inOrd ns (CG.sd S 0).1) = B) := by show _ = _; rw [← HB1.out, decide_eq_true hl30]; rfl
  have HL30 : Hid _ := hl30
  clear HB1 hl30
  have lx := x0.lt
  go_wp2_with fail
  refine (need_yes W0).mono ?_
  rintro e w2 ⟨rfl, rfl⟩
  clear hq3 hq4
  go_wp2_with fail
  clear a0 a1 a2
  go_loopw [27] (fun iv wr => ∃ k : Nat, iv = .int .i64 k ∧ k ≤ ks.length ∧ Hid (∀ j, j < k → (CG.rowsI (CG.sd S j) && CG.holdsI (TR.kids us j) (CG.sd S j)) = true) ∧ Below W0.heap.size W0 wr) (fun iv _ => (ks.length - intOf iv).toNat)
  case atStart => exact ⟨0, rfl, by omega, show Hid _ from fun j hj => by omega, Below.refl _ _⟩
  case round =>
    obtain ⟨k, rfl, hk, hT, hb⟩ := hrel
    have hB1 := hB0.trans (hb.mono hB0.size)
    have x1 := x0.below hb lx
    have lx1 := x1.lt
    by_cases hlk : k < ks.length
    · obtain ⟨b1, off1, rfl, hlt1, c0, c1, c2, -⟩ := (HK.out wr hB1).at hlk
      have HN : Hid ((CG.rowsI (KP.at_ ks k).said && CG.holdsI (TR.kids us k) (KP.at_ ks k).said) = false → B = false) := fun e => by
        rw [← HB2.out, CG.rg_no (f := fun k => CG.rowsI (CG.sd S k) && CG.holdsI (TR.kids us k) (CG.sd S k)) hlk (by rw [SD.out k hlk]; exact e)]; rfl
      have HY : Hid ((CG.rowsI (KP.at_ ks k).said && CG.holdsI (TR.kids us k) (KP.at_ ks k).said) = true → ∀ j, j < k + 1 → (CG.rowsI (CG.sd S j) && CG.holdsI (TR.kids us j) (CG.sd S j)) = true) := fun e => CG.rg_succ (f := fun k => CG.rowsI (CG.sd S k) && CG.holdsI (TR.kids us k) (CG.sd S k)) hT.out (by rw [SD.out k hlk]; exact e)
      have R1 : Hid _ := fun W hW => CR.out W k hlk hW
      have R2 : Hid _ := fun W hW => CK2.out W k hW
      have R3 : Hid (∀ (W : World) (a : Option Addr) (ca : Nat), M4.IntsAt W a (TR.kids us k) → Below w.heap.size w W → Calls Try.prog 44 #[(KP.at_ ks k).v, .slice a (TR.kids us k).length ca] W fun e w' => e = Try.out (CG.holdsI (TR.kids us k) (KP.at_ ks k).said) ∧ Below W.heap.size W w') := fun W a ca hka hW => CH.out W k a ca _ hlk (by have := TR.those_len us.length (fun i => decide (0 < i) && decide (us.getD i 0 = (k : Int))); have e : (TR.kids us (k : Int)).length ≤ us.length := this; omega) hka hW
      clear CR CK2 CH CI CS CB0 HB2 hT HK HU HL x0 SD SU
      generalize TR.kids us (k : Int) = kd at *
      generalize KP.at_ ks k = p at *
      obtain ⟨rA, hrA⟩ : ∃ b, CG.rowsI p.said = b := ⟨_, rfl⟩
      obtain ⟨rH, hrH⟩ : ∃ b, CG.holdsI kd p.said = b := ⟨_, rfl⟩
      rw [hrA, hrH] at HN HY
      simp only [hrA] at R1
      simp only [hrH] at R3
      clear hrA hrH
      obtain ⟨ss, hs, ts, sa, ha, ta, sc, hc, tc⟩ := p
      simp only at c0 c1 c2
      have hV : Below w.heap.size w (wr.alloc (.cells #[.slice sa ss.length sc, .slice ha hs.length hc, .slice ta ts.length tc] 50)) := hB1.alloc hB1.size _
      have hV0 : Below W0.heap.size W0 (wr.alloc (.cells #[.slice sa ss.length sc, .slice ha hs.length hc, .slice ta ts.length tc] 50)) := hb.alloc hb.size _
      have x2 := x1.alloc (.cells #[.slice sa ss.length sc, .slice ha hs.length hc, .slice ta ts.length tc] 50)
      have z2 : BxN (wr.alloc (.cells #[.slice sa ss.length sc, .slice ha hs.length hc, .slice ta ts.length tc] 50)) wr.heap.size [.slice sa ss.length sc, .slice ha hs.length hc, .slice ta ts.length tc] 50 := BxN.new wr _ _ rfl
      clear x1
      go_wp2_with fail
      generalize wr.alloc (.cells #[.slice sa ss.length sc, .slice ha hs.length hc, .slice ta ts.length tc] 50) = V at *
      refine (R1.out V hV).mono ?_
      rintro e w3 ⟨he, hb3⟩
      have hV3 := hV.trans (hb3.mono hV.size)
      have hV03 := hV0.trans (hb3.mono hV0.size)
      have x3 := x2.below hb3 x2.lt
      have z3 := z2.below hb3 z2.lt
      clear R1 hb3 hV hV0 x2 z2 c0 c1 c2 hB1 hb
      generalize wr.heap.size = q at *
      cases rA
      case false =>
        obtain rfl : e = Try.fault := he
        have hF : Hid _ := HN.out rfl
        clear HN HY R2 R3 x3 z3
        go_wp2
        exact ⟨rfl, by rw [hF.out]; rfl, hV3⟩
      case true =>
        obtain rfl : e = .returned (.tuple #[]) := he
        have LD : Hid (∀ W : World, Below w3.heap.size w3 W → W.cell? ⟨w.heap.size, 0, none⟩ = some (.slice ua us.length uc) ∧ W.cell? ⟨q, 0, none⟩ = some (.slice sa ss.length sc) ∧ W.cell? ⟨q, 1, none⟩ = some (.slice ha hs.length hc) ∧ W.cell? ⟨q, 2, none⟩ = some (.slice ta ts.length tc)) := fun W h =>
          ⟨(x3.below h x3.lt).cell 0 rfl, (z3.below h z3.lt).cell 0 rfl, (z3.below h z3.lt).cell 1 rfl, (z3.below h z3.lt).cell 2 rfl⟩
        clear x3 z3
        go_wp2_with fail
        cases rH
        case false =>
          have hF : Hid _ := HN.out rfl
          clear HN HY
          refine MR.frame fun A hA => ?_
          have hsz : A.tmps.size = 76 := by rw [hA]; rfl
          have e1 : A.eval (.tmp 1) = .pointer (some ⟨w.heap.size, 0, none⟩) := by rw [hA]; rfl
          have f1 := MR.read (t := 1) (by rw [hsz]; decide) e1
          have e2 : A.eval (.tmp 2) = .int .i64 (k : Int) := by rw [hA]; rfl
          have f2 := MR.read (t := 2) (by rw [hsz]; decide) e2
          have e3 : A.eval (.tmp 3) = .pointer (some ⟨q, 0, none⟩) := by rw [hA]; rfl
          have f3 := MR.read (t := 3) (by rw [hsz]; decide) e3
          have HA : Hid (A = _) := hA
          clear hA
          have hS : (fun W => Below w3.heap.size w3 W) (World.drew _) := (Below.refl _ w3).drew
          refine wp_region_held (S := fun W => Below w3.heap.size w3 W) (by kernel_rfl) ?_
          change wpAnyH _ _ _ _ _ _ _ _ (World.drew _)
          refine MR.takeH (i := 0) (some 34) (.agg #[.slice sa ss.length sc, .slice ha hs.length hc, .slice ta ts.length tc]) rfl rfl (by kernel_rfl) (by kernel_rfl) (by kernel_rfl) (fun _ _ _ h => h) hS (MR.free rfl) (fun wq hw => by simp [execOp, MR.ev, MR.size, hsz, e1, f1, e2, f2, e3, f3, (LD.out wq hw).2.1, (LD.out wq hw).2.2.1, (LD.out wq hw).2.2.2, go_sem]) ?_
          refine MR.takeH (i := 1) (some 35) (.pointer (some ⟨w.heap.size, 0, none⟩)) rfl rfl (by kernel_rfl) (by kernel_rfl) (by kernel_rfl) (fun _ _ _ h => h) hS (MR.free rfl) (fun wq hw => by simp [execOp, MR.ev, MR.size, hsz, e1, f1, e2, f2, e3, f3, go_sem]) ?_
          refine MR.takeH (i := 2) (some 36) (.slice ua us.length uc) rfl rfl (by kernel_rfl) (by kernel_rfl) (by kernel_rfl) (fun _ _ _ h => h) hS (MR.free rfl) (fun wq hw => by simp [execOp, MR.ev, MR.size, hsz, e1, f1, e2, f2, e3, f3, (LD.out wq hw).1, go_sem]) ?_
          refine MR.takeH (i := 3) (some 37) (.int .i64 (k : Int)) rfl rfl (by kernel_rfl) (by kernel_rfl) (by kernel_rfl) (fun _ _ _ h => h) hS (MR.free rfl) (fun wq hw => by simp [execOp, MR.ev, MR.size, hsz, e1, f1, e2, f2, e3, f3, go_sem]) ?_
          refine MR.callH (i := 4) (some 38) (45) (#[.slice ua us.length uc, .int .i64 (k : Int)]) (by kernel_rfl) rfl rfl (MR.free rfl) (by simp [execOp, MR.ev, MR.size, hsz, e1, f1, e2, f2, e3, f3, go_sem]) ?_
          refine Calls.mono (R2.out _ (hV3.trans (hS.mono hV3.size))) ?_
          rintro e wn ⟨a1, c1, rfl, hi, hbn⟩
          have hS2 : Below w3.heap.size w3 wn := hS.trans (hbn.mono hS.size)
          refine ⟨_, rfl, hS2, ?_⟩
          refine MR.dieH (i := 5) 44 (#[.agg #[.slice sa ss.length sc, .slice ha hs.length hc, .slice ta ts.length tc], .slice a1 kd.length c1]) (by kernel_rfl) rfl (MR.free rfl) (by simp [execOp, MR.ev, MR.size, hsz, go_sem]) ?_
          refine Calls.mono (R3.out _ a1 c1 hi (hV3.trans (hS2.mono hV3.size))) ?_
          rintro e wm ⟨rfl, hbm⟩
          exact ⟨_, rfl, (by rw [HA.out]; rfl), by rw [hF.out]; rfl, hV3.trans ((hS2.trans (hbm.mono hS2.size)).mono hV3.size)⟩
        case true =>
          have hT : Hid _ := HY.out rfl
          clear HN HY
          refine MR.frame fun A hA => ?_
          have hsz : A.tmps.size = 76 := by rw [hA]; rfl
          have e1 : A.eval (.tmp 1) = .pointer (some ⟨w.heap.size, 0, none⟩) := by rw [hA]; rfl
          have f1 := MR.read (t := 1) (by rw [hsz]; decide) e1
          have e2 : A.eval (.tmp 2) = .int .i64 (k : Int) := by rw [hA]; rfl
          have f2 := MR.read (t := 2) (by rw [hsz]; decide) e2
          have e3 : A.eval (.tmp 3) = .pointer (some ⟨q, 0, none⟩) := by rw [hA]; rfl
          have f3 := MR.read (t := 3) (by rw [hsz]; decide) e3
          have HA : Hid (A = _) := hA
          clear hA
          have hS : (fun W => Below w3.heap.size w3 W) (World.drew _) := (Below.refl _ w3).drew
          refine wp_region_held (S := fun W => Below w3.heap.size w3 W) (by kernel_rfl) ?_
          change wpAnyH _ _ _ _ _ _ _ _ (World.drew _)
          refine MR.takeH (i := 0) (some 34) (.agg #[.slice sa ss.length sc, .slice ha hs.length hc, .slice ta ts.length tc]) rfl rfl (by kernel_rfl) (by kernel_rfl) (by kernel_rfl) (fun _ _ _ h => h) hS (MR.free rfl) (fun wq hw => by simp [execOp, MR.ev, MR.size, hsz, e1, f1, e2, f2, e3, f3, (LD.out wq hw).2.1, (LD.out wq hw).2.2.1, (LD.out wq hw).2.2.2, go_sem]) ?_
          refine MR.takeH (i := 1) (some 35) (.pointer (some ⟨w.heap.size, 0, none⟩)) rfl rfl (by kernel_rfl) (by kernel_rfl) (by kernel_rfl) (fun _ _ _ h => h) hS (MR.free rfl) (fun wq hw => by simp [execOp, MR.ev, MR.size, hsz, e1, f1, e2, f2, e3, f3, go_sem]) ?_
          refine MR.takeH (i := 2) (some 36) (.slice ua us.length uc) rfl rfl (by kernel_rfl) (by kernel_rfl) (by kernel_rfl) (fun _ _ _ h => h) hS (MR.free rfl) (fun wq hw => by simp [execOp, MR.ev, MR.size, hsz, e1, f1, e2, f2, e3, f3, (LD.out wq hw).1, go_sem]) ?_
          refine MR.takeH (i := 3) (some 37) (.int .i64 (k : Int)) rfl rfl (by kernel_rfl) (by kernel_rfl) (by kernel_rfl) (fun _ _ _ h => h) hS (MR.free rfl) (fun wq hw => by simp [execOp, MR.ev, MR.size, hsz, e1, f1, e2, f2, e3, f3, go_sem]) ?_
          refine MR.callH (i := 4) (some 38) (45) (#[.slice ua us.length uc, .int .i64 (k : Int)]) (by kernel_rfl) rfl rfl (MR.free rfl) (by simp [execOp, MR.ev, MR.size, hsz, e1, f1, e2, f2, e3, f3, go_sem]) ?_
          refine Calls.mono (R2.out _ (hV3.trans (hS.mono hV3.size))) ?_
          rintro e wn ⟨a1, c1, rfl, hi, hbn⟩
          have hS2 : Below w3.heap.size w3 wn := hS.trans (hbn.mono hS.size)
          refine ⟨_, rfl, hS2, ?_⟩
          refine MR.callH (i := 5) (some 39) (44) (#[.agg #[.slice sa ss.length sc, .slice ha hs.length hc, .slice ta ts.length tc], .slice a1 kd.length c1]) (by kernel_rfl) rfl rfl (MR.free rfl) (by simp [execOp, MR.ev, MR.size, hsz, e1, f1, e2, f2, e3, f3, go_sem]) ?_
          refine Calls.mono (R3.out _ a1 c1 hi (hV3.trans (hS2.mono hV3.size))) ?_
          rintro e wm ⟨he, hbm⟩
          obtain rfl : e = .returned (.tuple #[]) := he
          have hS3 : Below w3.heap.size w3 wm := hS2.trans (hbm.mono hS2.size)
          refine ⟨_, rfl, hS3, ?_⟩
          refine wpAnyH_done (by kernel_rfl) ?_ _
          rw [HA.out]
          simp only [Act.put, List.setIfInBounds_toArray, List.set_cons_succ, List.set_cons_zero]
          have hbb := hV03.trans (hS3.mono hV03.size)
          clear HA hsz e1 f1 e2 f2 e3 f3 hS hS2 hS3 R2 R3 LD hbn hi hbm
          go_wp2
          go_roundw
          case rel => exact ⟨k + 1, by go_num, by omega, hT, hbb⟩
          case measure => simp [intOf]; omega
    · obtain rfl : k = ks.length := by omega
      have HB3 : Hid ((((List.range us.length).all fun ch => decide (ch = 0) || CG.bothI S (CG.upOf S ch) ch) && (ls.all fun x => CG.slipI S x) && CG.inOrd ns (CG.sd S 0).1) = B) := by
        show _ = _
        rw [← HB2.out, CG.rg_yes (f := fun k => CG.rowsI (CG.sd S k) && CG.holdsI (TR.kids us k) (CG.sd S k)) hT.out]; rfl
      clear HB2 hT CR CK2 CH x0 hb lx hB0 hq hq2
      go_wp2_with fail
      generalize hWr : wr = W1 at *
      clear hWr
      go_loopw [4] (fun iv wr => ∃ k : Nat, iv = .int .i64 k ∧ 1 ≤ k ∧ k ≤ us.length ∧ Hid (∀ j, j < k → (decide (j = 0) || CG.bothI S (CG.upOf S j) j) = true) ∧ Below W1.heap.size W1 wr) (fun iv _ => (us.length - intOf iv).toNat)
      case atStart => exact ⟨1, rfl, by omega, by omega, show Hid _ from fun j hj => by (have h0 : j = 0 := by omega); subst h0; rfl, Below.refl _ _⟩
      case round =>
        obtain ⟨k, rfl, hk1, hk, hT, hb⟩ := hrel
        have hB2 := hB1.trans (hb.mono hB1.size)
        have x2 := x1.below hb lx1
        have lx2 := x2.lt
        by_cases hlk : k < us.length
        · obtain ⟨b2, off2, rfl, hlt2, e0⟩ := M4.IntsAt.at (HU.out wr hB2) hlk
          obtain ⟨node, hnode⟩ : ∃ node : Nat, us.getD k 0 = node := ⟨(us.getD k 0).toNat, by have := CG.up_of_tree HT.out hlk (by omega); omega⟩
          have hup := CG.up_of_tree HT.out hlk (by omega)
          rw [hnode] at e0 hup
          have hu2 : CG.upOf S k = node := by unfold CG.upOf; rw [SU.out, hnode]; exact Int.toNat_natCast node
          have hnk : node < ks.length := by have := HKL.out; omega
          have hkk : k < ks.length := by have := HKL.out; omega
          have HN : Hid (CG.bothI S node k = false → B = false) := fun e => by
            rw [← HB3.out, CG.rg_no (f := fun ch => decide (ch = 0) || CG.bothI S (CG.upOf S ch) ch) hlk (by simp only [hu2, e, Bool.or_false, decide_eq_false_iff_not]; omega)]; rfl
          have HY : Hid (CG.bothI S node k = true → ∀ j, j < k + 1 → (decide (j = 0) || CG.bothI S (CG.upOf S j) j) = true) := fun e => CG.rg_succ (f := fun ch => decide (ch = 0) || CG.bothI S (CG.upOf S ch) ch) hT.out (by simp only [hu2, e, Bool.or_true])
          have RB : Hid _ := fun W hW => CB0.out W node k hnk hkk hW
          obtain ⟨rB, hrB⟩ : ∃ b, CG.bothI S node k = b := ⟨_, rfl⟩
          rw [hrB] at HN HY
          simp only [hrB] at RB
          have q0 : (0 : Int) ≤ (k : Int) := by omega
          have q1 : (k : Int) < (us.length : Int) := by omega
          have LD : Hid (∀ W : World, Below wr.heap.size wr W → W.cell? ⟨w.heap.size, 0, none⟩ = some (.slice (some ⟨b2, off2, none⟩) us.length uc) ∧ W.cell? ⟨w.heap.size, 1, none⟩ = some (.slice ka ks.length kc) ∧ W.cell? ⟨w.heap.size, 2, none⟩ = some (.slice la ls.length lcc) ∧ W.cell? ⟨w.heap.size, 3, none⟩ = some (.slice na ns.length nc) ∧ W.cell? ⟨b2, off2 + k, none⟩ = some (.int .i64 (node : Int))) := fun W h =>
            ⟨(x2.below h lx2).cell 0 rfl, (x2.below h lx2).cell 1 rfl, (x2.below h lx2).cell 2 rfl, (x2.below h lx2).cell 3 rfl, (h.cell (p := ⟨_, _, none⟩) hlt2).trans e0⟩
          have a0 := x2.cell 0 rfl
          have hdk : decide (k < us.length) = true := by simpa using hlk
          clear hrB hnode hu2 hup hnk hkk CB0 CS CI HK HU HL HB3 hT x1 x2 e0 SD SU HT
          go_wp2_with fail
          cases rB
          case false =>
            have hF : Hid _ := HN.out rfl
            clear HN HY
            refine MR.frame fun A hA => ?_
            have hsz : A.tmps.size = 76 := by rw [hA]; rfl
            have e1 : A.eval (.tmp 1) = .pointer (some ⟨w.heap.size, 0, none⟩) := by rw [hA]; rfl
            have f1 := MR.read (t := 1) (by rw [hsz]; decide) e1
            have e4 : A.eval (.tmp 4) = .int .i64 (k : Int) := by rw [hA]; rfl
            have f4 := MR.read (t := 4) (by rw [hsz]; decide) e4
            have HA : Hid (A = _) := hA
            clear hA
            have hS : (fun W => Below wr.heap.size wr W) (World.drew _) := (Below.refl _ wr).drew
            refine wp_region_held (S := fun W => Below wr.heap.size wr W) (by kernel_rfl) ?_
            change wpAnyH _ _ _ _ _ _ _ _ (World.drew _)
            refine MR.takeH (i := 0) (some 48) (.agg #[.slice (some ⟨b2, off2, none⟩) us.length uc, .slice ka ks.length kc, .slice la ls.length lcc, .slice na ns.length nc]) rfl rfl (by kernel_rfl) (by kernel_rfl) (by kernel_rfl) (fun _ _ _ h => h) hS (MR.free rfl) (fun wq hw => by simp [execOp, MR.ev, MR.size, hsz, e1, f1, e4, f4, (LD.out wq hw).1, (LD.out wq hw).2.1, (LD.out wq hw).2.2.1, (LD.out wq hw).2.2.2.1, go_sem]) ?_
            refine MR.takeH (i := 1) (some 49) (.pointer (some ⟨w.heap.size, 0, none⟩)) rfl rfl (by kernel_rfl) (by kernel_rfl) (by kernel_rfl) (fun _ _ _ h => h) hS (MR.free rfl) (fun wq hw => by simp [execOp, MR.ev, MR.size, hsz, e1, f1, e4, f4, go_sem]) ?_
            refine MR.takeH (i := 2) (some 50) (.slice (some ⟨b2, off2, none⟩) us.length uc) rfl rfl (by kernel_rfl) (by kernel_rfl) (by kernel_rfl) (fun _ _ _ h => h) hS (MR.free rfl) (fun wq hw => by simp [execOp, MR.ev, MR.size, hsz, e1, f1, e4, f4, (LD.out wq hw).1, go_sem]) ?_
            refine MR.takeH (i := 3) (some 51) (.int .i64 (k : Int)) rfl rfl (by kernel_rfl) (by kernel_rfl) (by kernel_rfl) (fun _ _ _ h => h) hS (MR.free rfl) (fun wq hw => by simp [execOp, MR.ev, MR.size, hsz, e1, f1, e4, f4, go_sem]) ?_
            refine MR.takeH (i := 4) (some 52) (.pointer (some ⟨b2, off2 + k, none⟩)) rfl rfl (by kernel_rfl) (by kernel_rfl) (by kernel_rfl) (fun _ _ _ h => h) hS (MR.free rfl) (fun wq hw => by simp [execOp, MR.ev, MR.size, hsz, e1, f1, e4, f4, q0, q1, go_sem]) ?_
            refine MR.takeH (i := 5) (some 53) (.int .i64 (node : Int)) rfl rfl (by kernel_rfl) (by kernel_rfl) (by kernel_rfl) (fun _ _ _ h => h) hS (MR.free rfl) (fun wq hw => by simp [execOp, MR.ev, MR.size, hsz, e1, f1, e4, f4, (LD.out wq hw).2.2.2.2, go_sem]) ?_
            refine MR.takeH (i := 6) (some 54) (.int .i64 (k : Int)) rfl rfl (by kernel_rfl) (by kernel_rfl) (by kernel_rfl) (fun _ _ _ h => h) hS (MR.free rfl) (fun wq hw => by simp [execOp, MR.ev, MR.size, hsz, e1, f1, e4, f4, go_sem]) ?_
            refine MR.dieH (i := 7) 46 (#[.agg #[.slice (some ⟨b2, off2, none⟩) us.length uc, .slice ka ks.length kc, .slice la ls.length lcc, .slice na ns.length nc], .int .i64 (node : Int), .int .i64 (k : Int)]) (by kernel_rfl) rfl (MR.free rfl) (by simp [execOp, MR.ev, MR.size, hsz, go_sem]) ?_
            refine Calls.mono (RB.out _ (hB2.trans (hS.mono hB2.size))) ?_
            rintro e wm ⟨rfl, hbm⟩
            exact ⟨_, rfl, (by rw [HA.out]; rfl), by rw [hF.out]; rfl, hB2.trans ((hS.trans (hbm.mono hS.size)).mono hB2.size)⟩
          case true =>
            have hT : Hid _ := HY.out rfl
            clear HN HY
            refine MR.frame fun A hA => ?_
            have hsz : A.tmps.size = 76 := by rw [hA]; rfl
            have e1 : A.eval (.tmp 1) = .pointer (some ⟨w.heap.size, 0, none⟩) := by rw [hA]; rfl
            have f1 := MR.read (t := 1) (by rw [hsz]; decide) e1
            have e4 : A.eval (.tmp 4) = .int .i64 (k : Int) := by rw [hA]; rfl
            have f4 := MR.read (t := 4) (by rw [hsz]; decide) e4
            have HA : Hid (A = _) := hA
            clear hA
            have hS : (fun W => Below wr.heap.size wr W) (World.drew _) := (Below.refl _ wr).drew
            refine wp_region_held (S := fun W => Below wr.heap.size wr W) (by kernel_rfl) ?_
            change wpAnyH _ _ _ _ _ _ _ _ (World.drew _)
            refine MR.takeH (i := 0) (some 48) (.agg #[.slice (some ⟨b2, off2, none⟩) us.length uc, .slice ka ks.length kc, .slice la ls.length lcc, .slice na ns.length nc]) rfl rfl (by kernel_rfl) (by kernel_rfl) (by kernel_rfl) (fun _ _ _ h => h) hS (MR.free rfl) (fun wq hw => by simp [execOp, MR.ev, MR.size, hsz, e1, f1, e4, f4, (LD.out wq hw).1, (LD.out wq hw).2.1, (LD.out wq hw).2.2.1, (LD.out wq hw).2.2.2.1, go_sem]) ?_
            refine MR.takeH (i := 1) (some 49) (.pointer (some ⟨w.heap.size, 0, none⟩)) rfl rfl (by kernel_rfl) (by kernel_rfl) (by kernel_rfl) (fun _ _ _ h => h) hS (MR.free rfl) (fun wq hw => by simp [execOp, MR.ev, MR.size, hsz, e1, f1, e4, f4, go_sem]) ?_
            refine MR.takeH (i := 2) (some 50) (.slice (some ⟨b2, off2, none⟩) us.length uc) rfl rfl (by kernel_rfl) (by kernel_rfl) (by kernel_rfl) (fun _ _ _ h => h) hS (MR.free rfl) (fun wq hw => by simp [execOp, MR.ev, MR.size, hsz, e1, f1, e4, f4, (LD.out wq hw).1, go_sem]) ?_
            refine MR.takeH (i := 3) (some 51) (.int .i64 (k : Int)) rfl rfl (by kernel_rfl) (by kernel_rfl) (by kernel_rfl) (fun _ _ _ h => h) hS (MR.free rfl) (fun wq hw => by simp [execOp, MR.ev, MR.size, hsz, e1, f1, e4, f4, go_sem]) ?_
            refine MR.takeH (i := 4) (some 52) (.pointer (some ⟨b2, off2 + k, none⟩)) rfl rfl (by kernel_rfl) (by kernel_rfl) (by kernel_rfl) (fun _ _ _ h => h) hS (MR.free rfl) (fun wq hw => by simp [execOp, MR.ev, MR.size, hsz, e1, f1, e4, f4, q0, q1, go_sem]) ?_
            refine MR.takeH (i := 5) (some 53) (.int .i64 (node : Int)) rfl rfl (by kernel_rfl) (by kernel_rfl) (by kernel_rfl) (fun _ _ _ h => h) hS (MR.free rfl) (fun wq hw => by simp [execOp, MR.ev, MR.size, hsz, e1, f1, e4, f4, (LD.out wq hw).2.2.2.2, go_sem]) ?_
            refine MR.takeH (i := 6) (some 54) (.int .i64 (k : Int)) rfl rfl (by kernel_rfl) (by kernel_rfl) (by kernel_rfl) (fun _ _ _ h => h) hS (MR.free rfl) (fun wq hw => by simp [execOp, MR.ev, MR.size, hsz, e1, f1, e4, f4, go_sem]) ?_
            refine MR.callH (i := 7) (some 55) (46) (#[.agg #[.slice (some ⟨b2, off2, none⟩) us.length uc, .slice ka ks.length kc, .slice la ls.length lcc, .slice na ns.length nc], .int .i64 (node : Int), .int .i64 (k : Int)]) (by kernel_rfl) rfl rfl (MR.free rfl) (by simp [execOp, MR.ev, MR.size, hsz, e1, f1, e4, f4, go_sem]) ?_
            refine Calls.mono (RB.out _ (hB2.trans (hS.mono hB2.size))) ?_
            rintro e wm ⟨he, hbm⟩
            obtain rfl : e = .returned (.tuple #[]) := he
            have hS3 : Below wr.heap.size wr wm := hS.trans (hbm.mono hS.size)
            refine ⟨_, rfl, hS3, ?_⟩
            refine wpAnyH_done (by kernel_rfl) ?_ _
            rw [HA.out]
            simp only [Act.put, List.setIfInBounds_toArray, List.set_cons_succ, List.set_cons_zero]
            have hbb := hb.trans (hS3.mono hb.size)
            clear HA hsz e1 f1 e4 f4 hS hS3 RB LD hbm q0 q1 a0 hdk
            go_wp2
            go_roundw
            case rel => exact ⟨k + 1, by go_num, by omega, by omega, hT, hbb⟩
            case measure => simp [intOf]; omega
        · obtain rfl : k = us.length := by omega
          have HB4 : Hid (((ls.all fun x => CG.slipI S x) && CG.inOrd ns (CG.sd S 0).1) = B) := by
            show _ = _
            rw [← HB3.out, CG.rg_yes (f := fun ch => decide (ch = 0) || CG.bothI S (CG.upOf S ch) ch) hT.out]; rfl
          have a0 := x2.cell 0 rfl
          have a2 := x2.cell 2 rfl
          have hdk : decide (us.length < us.length) = false := by simp
          clear HB3 hT CB0 HU HT SU hb lx1 x1
          go_wp2_with fail
          clear a0 a2 hdk hB1 hk1
          generalize hWr : wr = W2 at *
          clear hWr
          go_loopw [59] (fun iv wr => ∃ k : Nat, iv = .int .i64 k ∧ k ≤ ls.length ∧ Hid (∀ j, j < k → CG.slipI S (MI4.at_ ls j) = true) ∧ Below W2.heap.size W2 wr) (fun iv _ => (ls.length - intOf iv).toNat)
          case atStart => exact ⟨0, rfl, by omega, show Hid _ from fun j hj => by omega, Below.refl _ _⟩
          case round =>
            obtain ⟨k, rfl, hk, hT, hb⟩ := hrel
            have hB3 := hB2.trans (hb.mono hB2.size)
            have x3 := x2.below hb lx2
            have lx3 := x3.lt
            by_cases hlk : k < ls.length
            · obtain ⟨b2, off2, rfl, hlt2, c0, c1, c2, c3⟩ := (HL.out wr hB3).at hlk
              have HN : Hid (CG.slipI S (MI4.at_ ls k) = false → B = false) := fun e => by
                rw [← HB4.out, CG.all4_no (f := fun x => CG.slipI S x) hlk e]; rfl
              have HY : Hid (CG.slipI S (MI4.at_ ls k) = true → ∀ j, j < k + 1 → CG.slipI S (MI4.at_ ls j) = true) := fun e => CG.rg_succ (f := fun j => CG.slipI S (MI4.at_ ls j)) hT.out e
              have RS : Hid _ := fun W hW => CS.out W (MI4.at_ ls k) hW
              clear CS CI HK HL HB4 hT x2 SD
              generalize MI4.at_ ls k = x at *
              obtain ⟨rS, hrS⟩ : ∃ b, CG.slipI S x = b := ⟨_, rfl⟩
              rw [hrS] at HN HY
              simp only [hrS] at RS
              clear hrS
              obtain ⟨y0, y1, y2, y3⟩ := x
              have hV : Below w.heap.size w (wr.alloc (.cells #[.int .i64 y0, .int .i64 y1, .int .i64 y2, .int .i64 y3] 45)) := hB3.alloc hB3.size _
              have hV0 : Below W2.heap.size W2 (wr.alloc (.cells #[.int .i64 y0, .int .i64 y1, .int .i64 y2, .int .i64 y3] 45)) := hb.alloc hb.size _
              have x4 := x3.alloc (.cells #[.int .i64 y0, .int .i64 y1, .int .i64 y2, .int .i64 y3] 45)
              have a0 := x4.cell 0 rfl
              have a1 := x4.cell 1 rfl
              have a2 := x4.cell 2 rfl
              have a3 := x4.cell 3 rfl
              clear x3 x4
              go_wp2_with fail
              refine (RS.out _ hV).mono ?_
              rintro e w3 ⟨he, hb3⟩
              have hV3 := hV.trans (hb3.mono hV.size)
              have hV03 := hV0.trans (hb3.mono hV0.size)
              clear RS hb3 hV hV0 c0 c1 c2 c3 a0 a1 a2 a3
              cases rS
              case false =>
                obtain rfl : e = Try.fault := he
                have hF : Hid _ := HN.out rfl
                clear HN HY
                go_wp2
                exact ⟨rfl, by rw [hF.out]; rfl, hV3⟩
              case true =>
                obtain rfl : e = .returned (.tuple #[]) := he
                have hT : Hid _ := HY.out rfl
                clear HN HY
                go_wp2
                go_roundw
                case rel => exact ⟨k + 1, by go_num, by omega, hT, hV03⟩
                case measure => simp [intOf]; omega
            · obtain rfl : k = ls.length := by omega
              have h0 : 0 < ks.length := by have := HKL.out; omega
              have HB5 : Hid (CG.inOrd ns (KP.at_ ks 0).ss = B) := by
                show _ = _
                rw [← HB4.out, CG.all4_yes (f := fun x => CG.slipI S x) hT.out, SD.out 0 h0]; rfl
              obtain ⟨b1, off1, rfl, hlt1, c0, -, -, -⟩ := (HK.out wr hB3).at h0
              rw [Nat.zero_mul, Nat.add_zero] at c0
              have RI : Hid _ := fun W hW => CI.out W 0 h0 hW
              clear HB4 hT CS CI HK HL x2 SD hB2 hb
              generalize KP.at_ ks 0 = p at *
              obtain ⟨ss, hs, ts, sa, ha, ta, sc, hc, tc⟩ := p
              simp only at c0 HB5
              obtain ⟨rI, hrI⟩ : ∃ b, CG.inOrd ns ss = b := ⟨_, rfl⟩
              simp only [hrI] at RI
              rw [hrI] at HB5
              clear hrI
              have q1 : (0 : Int) < (ks.length : Int) := by omega
              have q2 : 0 < ks.length := h0
              have hne : ¬ ks = [] := fun e => by rw [e] at h0; simp at h0
              have LD : Hid (∀ W : World, Below wr.heap.size wr W → W.cell? ⟨w.heap.size, 3, none⟩ = some (.slice na ns.length nc) ∧ W.cell? ⟨w.heap.size, 1, none⟩ = some (.slice (some ⟨b1, off1, none⟩) ks.length kc) ∧ W.cell? ⟨b1, off1, none⟩ = some (.slice sa ss.length sc)) := fun W h =>
                ⟨(x3.below h lx3).cell 3 rfl, (x3.below h lx3).cell 1 rfl, (h.cell (p := ⟨_, _, none⟩) hlt1).trans c0⟩
              clear x3 c0
              have hB4 := hB3
              generalize hWr : wr = W3 at *
              clear hWr hB3
              go_wp2_with fail
              cases rI
              case false =>
                have hF : Hid (B = false) := by show _ = _; rw [← HB5.out]
                clear HB5
                refine MR.frame fun A hA => ?_
                have hsz : A.tmps.size = 76 := by rw [hA]; rfl
                have e1 : A.eval (.tmp 1) = .pointer (some ⟨w.heap.size, 0, none⟩) := by rw [hA]; rfl
                have f1 := MR.read (t := 1) (by rw [hsz]; decide) e1
                have HA : Hid (A = _) := hA
                clear hA
                have hS : (fun W => Below W3.heap.size W3 W) (World.drew _) := (Below.refl _ W3).drew
                refine wp_region_held (S := fun W => Below W3.heap.size W3 W) (by kernel_rfl) ?_
                change wpAnyH _ _ _ _ _ _ _ _ (World.drew _)
                refine MR.takeH (i := 0) (some 67) (.pointer (some ⟨w.heap.size, 3, none⟩)) rfl rfl (by kernel_rfl) (by kernel_rfl) (by kernel_rfl) (fun _ _ _ h => h) hS (MR.free rfl) (fun wq hw => by simp [execOp, MR.ev, MR.size, hsz, e1, f1, go_sem]) ?_
                refine MR.takeH (i := 1) (some 68) (.slice na ns.length nc) rfl rfl (by kernel_rfl) (by kernel_rfl) (by kernel_rfl) (fun _ _ _ h => h) hS (MR.free rfl) (fun wq hw => by simp [execOp, MR.ev, MR.size, hsz, e1, f1, (LD.out wq hw).1, go_sem]) ?_
                refine MR.takeH (i := 2) (some 69) (.pointer (some ⟨w.heap.size, 1, none⟩)) rfl rfl (by kernel_rfl) (by kernel_rfl) (by kernel_rfl) (fun _ _ _ h => h) hS (MR.free rfl) (fun wq hw => by simp [execOp, MR.ev, MR.size, hsz, e1, f1, go_sem]) ?_
                refine MR.takeH (i := 3) (some 70) (.slice (some ⟨b1, off1, none⟩) ks.length kc) rfl rfl (by kernel_rfl) (by kernel_rfl) (by kernel_rfl) (fun _ _ _ h => h) hS (MR.free rfl) (fun wq hw => by simp [execOp, MR.ev, MR.size, hsz, e1, f1, (LD.out wq hw).2.1, go_sem]) ?_
                refine MR.takeH (i := 4) (some 71) (.pointer (some ⟨b1, off1, none⟩)) rfl rfl (by kernel_rfl) (by kernel_rfl) (by kernel_rfl) (fun _ _ _ h => h) hS (MR.free rfl) (fun wq hw => by simp [execOp, MR.ev, MR.size, hsz, e1, f1, q1, hne, go_sem]) ?_
                refine MR.takeH (i := 5) (some 72) (.pointer (some ⟨b1, off1, none⟩)) rfl rfl (by kernel_rfl) (by kernel_rfl) (by kernel_rfl) (fun _ _ _ h => h) hS (MR.free rfl) (fun wq hw => by simp [execOp, MR.ev, MR.size, hsz, e1, f1, go_sem]) ?_
                refine MR.takeH (i := 6) (some 73) (.slice sa ss.length sc) rfl rfl (by kernel_rfl) (by kernel_rfl) (by kernel_rfl) (fun _ _ _ h => h) hS (MR.free rfl) (fun wq hw => by simp [execOp, MR.ev, MR.size, hsz, e1, f1, (LD.out wq hw).2.2, go_sem]) ?_
                refine MR.callH (i := 7) (some 74) (48) (#[.slice na ns.length nc, .slice sa ss.length sc]) (by kernel_rfl) rfl rfl (MR.free rfl) (by simp [execOp, MR.ev, MR.size, hsz, e1, f1, go_sem]) ?_
                refine Calls.mono (RI.out _ (hB4.trans (hS.mono hB4.size))) ?_
                rintro e wn ⟨rfl, hbn⟩
                have hS2 : Below W3.heap.size W3 wn := hS.trans (hbn.mono hS.size)
                refine ⟨_, rfl, hS2, ?_⟩
                refine MR.dieH (i := 8) 41 #[.bool false] (by kernel_rfl) rfl (MR.free rfl) (by simp [execOp, MR.ev, MR.size, hsz, go_sem]) ?_
                refine (need_no _).mono ?_
                rintro e wm ⟨rfl, rfl⟩
                exact ⟨_, rfl, (by rw [HA.out]; rfl), by rw [hF.out]; rfl, hB4.trans (hS2.mono hB4.size)⟩
              case true =>
                have hF : Hid (B = true) := by show _ = _; rw [← HB5.out]
                clear HB5
                refine MR.frame fun A hA => ?_
                have hsz : A.tmps.size = 76 := by rw [hA]; rfl
                have e1 : A.eval (.tmp 1) = .pointer (some ⟨w.heap.size, 0, none⟩) := by rw [hA]; rfl
                have f1 := MR.read (t := 1) (by rw [hsz]; decide) e1
                have HA : Hid (A = _) := hA
                clear hA
                have hS : (fun W => Below W3.heap.size W3 W) (World.drew _) := (Below.refl _ W3).drew
                refine wp_region_held (S := fun W => Below W3.heap.size W3 W) (by kernel_rfl) ?_
                change wpAnyH _ _ _ _ _ _ _ _ (World.drew _)
                refine MR.takeH (i := 0) (some 67) (.pointer (some ⟨w.heap.size, 3, none⟩)) rfl rfl (by kernel_rfl) (by kernel_rfl) (by kernel_rfl) (fun _ _ _ h => h) hS (MR.free rfl) (fun wq hw => by simp [execOp, MR.ev, MR.size, hsz, e1, f1, go_sem]) ?_
                refine MR.takeH (i := 1) (some 68) (.slice na ns.length nc) rfl rfl (by kernel_rfl) (by kernel_rfl) (by kernel_rfl) (fun _ _ _ h => h) hS (MR.free rfl) (fun wq hw => by simp [execOp, MR.ev, MR.size, hsz, e1, f1, (LD.out wq hw).1, go_sem]) ?_
                refine MR.takeH (i := 2) (some 69) (.pointer (some ⟨w.heap.size, 1, none⟩)) rfl rfl (by kernel_rfl) (by kernel_rfl) (by kernel_rfl) (fun _ _ _ h => h) hS (MR.free rfl) (fun wq hw => by simp [execOp, MR.ev, MR.size, hsz, e1, f1, go_sem]) ?_
                refine MR.takeH (i := 3) (some 70) (.slice (some ⟨b1, off1, none⟩) ks.length kc) rfl rfl (by kernel_rfl) (by kernel_rfl) (by kernel_rfl) (fun _ _ _ h => h) hS (MR.free rfl) (fun wq hw => by simp [execOp, MR.ev, MR.size, hsz, e1, f1, (LD.out wq hw).2.1, go_sem]) ?_
                refine MR.takeH (i := 4) (some 71) (.pointer (some ⟨b1, off1, none⟩)) rfl rfl (by kernel_rfl) (by kernel_rfl) (by kernel_rfl) (fun _ _ _ h => h) hS (MR.free rfl) (fun wq hw => by simp [execOp, MR.ev, MR.size, hsz, e1, f1, q1, hne, go_sem]) ?_
                refine MR.takeH (i := 5) (some 72) (.pointer (some ⟨b1, off1, none⟩)) rfl rfl (by kernel_rfl) (by kernel_rfl) (by kernel_rfl) (fun _ _ _ h => h) hS (MR.free rfl) (fun wq hw => by simp [execOp, MR.ev, MR.size, hsz, e1, f1, go_sem]) ?_
                refine MR.takeH (i := 6) (some 73) (.slice sa ss.length sc) rfl rfl (by kernel_rfl) (by kernel_rfl) (by kernel_rfl) (fun _ _ _ h => h) hS (MR.free rfl) (fun wq hw => by simp [execOp, MR.ev, MR.size, hsz, e1, f1, (LD.out wq hw).2.2, go_sem]) ?_
                refine MR.callH (i := 7) (some 74) (48) (#[.slice na ns.length nc, .slice sa ss.length sc]) (by kernel_rfl) rfl rfl (MR.free rfl) (by simp [execOp, MR.ev, MR.size, hsz, e1, f1, go_sem]) ?_
                refine Calls.mono (RI.out _ (hB4.trans (hS.mono hB4.size))) ?_
                rintro e wn ⟨rfl, hbn⟩
                have hS2 : Below W3.heap.size W3 wn := hS.trans (hbn.mono hS.size)
                refine ⟨_, rfl, hS2, ?_⟩
                refine MR.callH (i := 8) (some 75) (41) (#[.bool true]) (by kernel_rfl) rfl rfl (MR.free rfl) (by simp [execOp, MR.ev, MR.size, hsz, e1, f1, go_sem]) ?_
                refine (need_yes _).mono ?_
                rintro e wm ⟨rfl, rfl⟩
                refine ⟨_, rfl, hS2, ?_⟩
                refine wpAnyH_done (by kernel_rfl) ?_ _
                rw [HA.out]
                simp only [Act.put, List.setIfInBounds_toArray, List.set_cons_succ, List.set_cons_zero]
                have hbb := hB4.trans (hS2.mono hB4.size)
                clear HA hsz e1 f1 hS hS2 RI LD hbn
                go_wp2
                first | go_end0 | refine bodyPost_ret (results_none rfl _ _ _) rfl ?_
                exact ⟨by rw [hF.out]; rfl, hbb⟩
end Go.Proofs.Ytfkmnmiolnijaaa

/- The specification's GoodCustody. -/
namespace Go.Proofs.Ytfkmnmiolnijaaa
open Go.RowKit
namespace CG
theorem slS_no {ls : List I4} {f : I4 → Bool} {k : Nat} (hk : k < ls.length) (h : f (MI4.at_ ls k) = false) : ls.all f = false := by
  rw [Bool.eq_false_iff]; intro e; rw [MI4.at_eq _ _ hk] at h; rw [List.all_eq_true.1 e _ (List.getElem_mem hk)] at h; cases h
theorem slS_yes {ls : List I4} {f : I4 → Bool} (h : ∀ k, k < ls.length → f (MI4.at_ ls k) = true) : ls.all f = true := List.all_eq_true.2 fun x hx => by
  obtain ⟨k, hk, rfl⟩ := List.mem_iff_getElem.1 hx
  rw [← MI4.at_eq _ _ hk]; exact h k hk
end CG
set_option linter.unusedSimpArgs false in
set_option maxHeartbeats 6400000 in
set_option maxRecDepth 100000 in
theorem specGoodCu_any (c : Cu) (w : World) (hc : CuAt w c) (lc : CuLen c) :
    Calls Try.prog 6 #[c.v] w fun e w' => e = .returned (.bool (CG.goodS c.said)) ∧ Below w.heap.size w w' := by
  have CK0 : TR.tree c.us = true → c.ks.length = c.us.length → Hid (∀ (W : World) (k : Nat), k < c.ks.length → Below w.heap.size w W → Calls Try.prog 16 #[c.v, .int .i64 (k : Int)] W fun e w' => e = .returned (.bool (CG.keepS c.said k)) ∧ Below W.heap.size W w') := fun ht hn W k hk hW => l16Keeper_any c k W (hc.below hW) lc ht hn hk
  obtain ⟨us, ks, ls, ns, ua, ka, la, na, uc, kc, lcc, nc⟩ := c
  obtain ⟨hu, hkr, hls, hns, hcp⟩ := hc
  obtain ⟨l1, l2, l3, l4, l5⟩ := lc
  simp only at hu hkr hls hns l1 l2 l3 l4 l5 CK0 hcp
  obtain ⟨S, hS⟩ : ∃ S, Cu.said ⟨us, ks, ls, ns, ua, ka, la, na, uc, kc, lcc, nc⟩ = S := ⟨_, rfl⟩
  have SD : Hid (∀ k, k < ks.length → CG.sd S k = (KP.at_ ks k).said) := fun k hk => by rw [← hS]; exact KP.sd_at hk
  have SU : Hid (S.us = us) := by show _ = _; rw [← hS]; rfl
  obtain ⟨B, hB⟩ : ∃ B, CG.goodS S = B := ⟨_, rfl⟩
  rw [hS] at CK0 ⊢
  rw [hB]
  have HB : Hid ((TR.tree us && decide (ks.length = us.length) && decide (ls.length ≤ 30) && ((List.range ks.length).all fun k => CG.keepS S k) && (ls.all fun x => CG.slipS S x) && CG.same (CG.sd S 0).1 ns) = B) := by
    show _ = _
    rw [← hB, ← hS]
    simp only [CG.goodS, Cu.said, List.length_map]
    rfl
  clear hB hS
  have CT : Hid (∀ W : World, Below w.heap.size w W → Calls Try.prog 15 #[.slice ua us.length uc] W fun e w' => e = .returned (.bool (TR.tree us)) ∧ W = w') := fun W hW => l16Tree_any ua uc us W l1 (M4.IntsAt.below hu hW)
  have HS : Hid (∀ (W : World) (j : Nat) (id : Int), j < ks.length → Below w.heap.size w W → Calls Try.prog 18 #[.slice (KP.at_ ks j).sa (KP.at_ ks j).ss.length (KP.at_ ks j).sc, .int .i64 id] W fun e w' => e = .returned (.bool (EG.hasB (CG.sd S j).1 id)) ∧ W = w') := fun W j id h hW => by
    rw [SD.out j h]
    exact l1Has_any (KP.at_ ks j).sa (KP.at_ ks j).sc (KP.at_ ks j).ss id W (l5 j h).1 (M4.IntsAt.below (hkr.row j h).s.at_ hW)
  have CSA : Hid (∀ (W : World) (k : Nat), k < ks.length → Below w.heap.size w W → Calls Try.prog 20 #[.slice (KP.at_ ks k).sa (KP.at_ ks k).ss.length (KP.at_ ks k).sc, .slice na ns.length nc] W fun e w' => e = .returned (.bool (CG.same (KP.at_ ks k).ss ns)) ∧ W = w') := fun W k hk hW => l16Same_any (KP.at_ ks k).sa na (KP.at_ ks k).sc nc (KP.at_ ks k).ss ns W (l5 k hk).1 l4 hcp.2.2.2 (M4.IntsAt.below (hkr.row k hk).s.at_ hW) (M4.IntsAt.below hns hW)
  have HK : Hid (∀ W : World, Below w.heap.size w W → KP.RowAt W 0 ka ks) := fun W hW => hkr.below hW
  have HU : Hid (∀ W : World, Below w.heap.size w W → M4.IntsAt W ua us) := fun W hW => M4.IntsAt.below hu hW
  have HL : Hid (∀ W : World, Below w.heap.size w W → MI4.RowAt W la ls) := fun W hW => hls.below hW
  clear hu hkr hls hns l5 hcp
  have hB0 : Below w.heap.size w (w.alloc (.cells #[.slice ua us.length uc, .slice ka ks.length kc, .slice la ls.length lcc, .slice na ns.length nc] 32)) := (Below.refl _ w).alloc (Nat.le_refl _) _
  have x0 : BxN (w.alloc (.cells #[.slice ua us.length uc, .slice ka ks.length kc, .slice la ls.length lcc, .slice na ns.length nc] 32)) w.heap.size [.slice ua us.length uc, .slice ka ks.length kc, .slice la ls.length lcc, .slice na ns.length nc] 32 := BxN.new w _ _ rfl
  go_enter Try.func6, Try.ntmps6
  go_wp2_with fail
  generalize w.alloc (.cells #[.slice ua us.length uc, .slice ka ks.length kc, .slice la ls.length lcc, .slice na ns.length nc] 32) = W0 at *
  refine (CT.out W0 hB0).mono ?_
  rintro e w1 ⟨rfl, rfl⟩
  clear CT
  have a1 := x0.cell 1 rfl
  have a2 := x0.cell 2 rfl
  have a0 := x0.cell 0 rfl
  by_cases ht : TR.tree us = true
  case neg =>
    replace ht : TR.tree us = false := by simpa using ht
    have hF : Hid (B = false) := by show _ = _; rw [← HB.out, ht]; rfl
    rw [ht]
    clear HB x0 CK0 HS CSA HK HU HL SD SU a0 a1 a2
    go_wp2
    go_ret
    exact ⟨M4.ret_bool hF.out.symm, hB0⟩
  have HT : Hid _ := ht
  have hu1 : 1 ≤ us.length := ((TR.tree_iff us).1 ht).1.1
  have CK1 : Hid (ks.length = us.length → _) := CK0 ht
  rw [ht] at HB ⊢
  clear ht CK0
  by_cases hkl : ks.length = us.length
  case neg =>
    have hF : Hid (B = false) := by show _ = _; rw [← HB.out, decide_eq_false hkl]; rfl
    have hq : ((ks.length : Int) != (us.length : Int)) = true := by simp; omega
    have hq2 : (ks.length != us.length) = true := by simp [hkl]
    clear HB x0 CK1 HS CSA HK HU HL SD SU hkl
    go_wp2
    go_ret
    exact ⟨M4.ret_bool hF.out.symm, hB0⟩
  have CK : Hid (∀ (W : World) (k : Nat), k < ks.length → Below w.heap.size w W → Calls Try.prog 16 #[.agg #[.slice ua us.length uc, .slice ka ks.length kc, .slice la ls.length lcc, .slice na ns.length nc], .int .i64 (k : Int)] W fun e w' => e = .returned (.bool (CG.keepS S k)) ∧ Below W.heap.size W w') := (CK1.out hkl).out
  have hq : ((ks.length : Int) != (us.length : Int)) = false := by simp [hkl]
  have hq2 : (ks.length != us.length) = false := by simp [hkl]
  have HKL : Hid _ := hkl
  have HB1 : Hid ((decide (ls.length ≤ 30) && ((List.range ks.length).all fun k => CG.keepS S k) && (ls.all fun x => CG.slipS S x) && CG.same (CG.sd S 0).1 ns) = B) := by show _ = _; rw [← HB.out, decide_eq_true hkl]; rfl
  clear CK1 hkl HB
  by_cases hl30 : ls.length ≤ 30
  case neg =>
    have hF : Hid (B = false) := by show _ = _; rw [← HB1.out, decide_eq_false hl30]; rfl
    have hq3 : decide ((30 : Int) < (ls.length : Int)) = true := by simp; omega
    have hq4 : decide (30 < ls.length) = true := by simp; omega
    clear HB1 x0 CK HS CSA HK HU HL SD SU hl30
    go_wp2
    go_ret
    exact ⟨M4.ret_bool hF.out.symm, hB0⟩
  have hq3 : decide ((30 : Int) < (ls.length : Int)) = false := by simp; omega
  have hq4 : decide (30 < ls.length) = false := by simp; omega
  have HB2 : Hid ((((List.range ks.length).all fun k => CG.keepS S k) && (ls.all fun x => CG.slipS S x) && CG.same (CG.sd S 0).1 ns) = B) := by show _ = _; rw [← HB1.out, decide_eq_true hl30]; rfl
  have HL30 : Hid _ := hl30
  clear HB1 hl30
  have lx := x0.lt
  go_wp2_with fail
  clear a0 a1 a2 hq hq2 hq3 hq4
  go_loopw [28] (fun iv wr => ∃ k : Nat, iv = .int .i64 k ∧ k ≤ ks.length ∧ Hid (∀ j, j < k → CG.keepS S j = true) ∧ Below W0.heap.size W0 wr) (fun iv _ => (ks.length - intOf iv).toNat)
  case atStart => exact ⟨0, rfl, by omega, show Hid _ from fun j hj => by omega, Below.refl _ _⟩
  case round =>
    obtain ⟨k, rfl, hk, hT, hb⟩ := hrel
    have hB1 := hB0.trans (hb.mono hB0.size)
    have x1 := x0.below hb lx
    have lx1 := x1.lt
    by_cases hlk : k < ks.length
    · have HN : Hid (CG.keepS S k = false → B = false) := fun e => by rw [← HB2.out, CG.rgK_no (f := fun k => CG.keepS S k) hlk e]; rfl
      have HY : Hid (CG.keepS S k = true → ∀ j, j < k + 1 → CG.keepS S j = true) := fun e => CG.rgK_succ (f := fun k => CG.keepS S k) hT.out e
      have R1 : Hid _ := fun W hW => CK.out W k hlk hW
      obtain ⟨r, hr⟩ : ∃ r, CG.keepS S k = r := ⟨_, rfl⟩
      rw [hr] at HN HY
      simp only [hr] at R1
      have a0 := x1.cell 0 rfl
      have a1 := x1.cell 1 rfl
      have a2 := x1.cell 2 rfl
      have a3 := x1.cell 3 rfl
      clear hr CK HS CSA HB2 hT HK HU HL x0 x1 SD SU
      go_wp2_with fail
      refine Calls.mono (R1.out wr hB1) ?_
      rintro e w3 ⟨rfl, hb3⟩
      have hB2 := hB1.trans (hb3.mono hB1.size)
      have hb4 := hb.trans (hb3.mono hb.size)
      clear R1 hb3 a0 a1 a2 a3
      cases r
      case false =>
        have hF : Hid _ := HN.out rfl
        clear HN HY
        go_wp2
        go_ret
        exact ⟨M4.ret_bool hF.out.symm, hB2⟩
      case true =>
        have hT : Hid _ := HY.out rfl
        clear HN HY
        go_wp2
        go_roundw
        case rel => exact ⟨k + 1, by go_num, by omega, hT, hb4⟩
        case measure => simp [intOf]; omega
    · obtain rfl : k = ks.length := by omega
      have HB3 : Hid (((ls.all fun x => CG.slipS S x) && CG.same (CG.sd S 0).1 ns) = B) := by
        show _ = _
        rw [← HB2.out, CG.rgK_yes (f := fun k => CG.keepS S k) hT.out]; rfl
      have a2 := x1.cell 2 rfl
      clear HB2 hT CK hb lx hB0 x0
      go_wp2_with fail
      clear a2
      generalize hWr : wr = W1 at *
      clear hWr
      go_loopw [39] (fun iv wr => ∃ k : Nat, iv = .int .i64 k ∧ k ≤ ls.length ∧ Hid (∀ j, j < k → CG.slipS S (MI4.at_ ls j) = true) ∧ Below W1.heap.size W1 wr) (fun iv _ => (ls.length - intOf iv).toNat)
      case atStart => exact ⟨0, rfl, by omega, show Hid _ from fun j hj => by omega, Below.refl _ _⟩
      case round =>
        obtain ⟨k, rfl, hk, hT, hb⟩ := hrel
        have hB2 := hB1.trans (hb.mono hB1.size)
        have x2 := x1.below hb lx1
        have lx2 := x2.lt
        by_cases hlk : k < ls.length
        · obtain ⟨b2, off2, rfl, hlt2, c0, c1, c2, c3⟩ := (HL.out wr hB2).at hlk
          have HN : Hid (CG.slipS S (MI4.at_ ls k) = false → B = false) := fun e => by
            rw [← HB3.out, CG.slS_no (f := fun x => CG.slipS S x) hlk e]; rfl
          have HY : Hid (CG.slipS S (MI4.at_ ls k) = true → ∀ j, j < k + 1 → CG.slipS S (MI4.at_ ls j) = true) := fun e => CG.rgK_succ (f := fun j => CG.slipS S (MI4.at_ ls j)) hT.out e
          clear CSA HL HB3 hT x1
          generalize MI4.at_ ls k = x at *
          obtain ⟨kd, fr, to_, id⟩ := x
          have hV : Below w.heap.size w (wr.alloc (.cells #[.int .i64 kd, .int .i64 fr, .int .i64 to_, .int .i64 id] 45)) := hB2.alloc hB2.size _
          have hV0 : Below W1.heap.size W1 (wr.alloc (.cells #[.int .i64 kd, .int .i64 fr, .int .i64 to_, .int .i64 id] 45)) := hb.alloc hb.size _
          have x3 := x2.alloc (.cells #[.int .i64 kd, .int .i64 fr, .int .i64 to_, .int .i64 id] 45)
          have y3 : BxN (wr.alloc (.cells #[.int .i64 kd, .int .i64 fr, .int .i64 to_, .int .i64 id] 45)) wr.heap.size [.int .i64 kd, .int .i64 fr, .int .i64 to_, .int .i64 id] 45 := BxN.new wr _ _ rfl
          simp only at c0 c1 c2 c3
          clear x2
          go_wp2_with fail
          generalize wr.alloc (.cells #[.int .i64 kd, .int .i64 fr, .int .i64 to_, .int .i64 id] 45) = V at *
          have a0 := x3.cell 0 rfl
          have a1 := x3.cell 1 rfl
          have s0 := y3.cell 0 rfl
          have s1 := y3.cell 1 rfl
          have s2 := y3.cell 2 rfl
          have s3 := y3.cell 3 rfl
          clear x3 y3 c0 c1 c2 c3 hB2 hb
          generalize wr.heap.size = q at *
          have HSL : Hid ((decide (0 ≤ fr ∧ fr < us.length) && decide (0 ≤ to_ ∧ to_ < us.length) && decide (0 ≤ id ∧ id < 6) && EG.hasB (CG.sd S fr.toNat).1 id && !(decide (kd = 1) && decide (us.getD to_.toNat 0 ≠ fr)) && !(decide (kd = 2) && decide (us.getD fr.toNat 0 ≠ to_)) && decide (1 ≤ kd ∧ kd ≤ 2)) = CG.slipS S ⟨kd, fr, to_, id⟩) := by
            show _ = _
            rw [CG.slipS, SU.out]
          have ID : Hid (∀ W : World, Calls Try.prog 17 #[.int .i64 id] W fun e w' => e = .returned (.bool (decide (0 ≤ id ∧ id < 6))) ∧ W = w') := fun W => l16Id_any id W
          by_cases f0 : 0 ≤ fr
          case neg =>
            have hF : Hid (B = false) := HN.out (by rw [← HSL.out, decide_eq_false (fun h => f0 h.1)]; rfl)
            have f0' : fr < 0 := by omega
            have f0d : decide (fr < 0) = true := decide_eq_true f0'
            clear f0 HSL HN HY HS HK HU SD SU ID HT
            go_wp2
            go_quiet (fail)
            all_goals (
              go_wp2
              go_ret
              exact ⟨M4.ret_bool hF.out.symm, below_drewN hV _⟩)
          obtain ⟨i, rfl⟩ : ∃ i : Nat, fr = (i : Int) := ⟨fr.toNat, by omega⟩
          have g0 : decide ((i : Int) < 0) = false := decide_eq_false (by omega)
          by_cases f1 : i < us.length
          case neg =>
            have hF : Hid (B = false) := HN.out (by rw [← HSL.out, decide_eq_false (fun h => f1 (by omega))]; rfl)
            have f1d : decide ((us.length : Int) ≤ (i : Int)) = true := decide_eq_true (by omega)
            have f1e : decide (us.length ≤ i) = true := decide_eq_true (by omega)
            clear f0 f1 HSL HN HY HS HK HU SD SU ID HT
            go_wp2
            go_quiet (fail)
            all_goals (
              go_wp2
              go_ret
              exact ⟨M4.ret_bool hF.out.symm, below_drewN hV _⟩)
          have g1 : decide ((us.length : Int) ≤ (i : Int)) = false := decide_eq_false (by omega)
          have g1e : decide (us.length ≤ i) = false := decide_eq_false (by omega)
          by_cases t0 : 0 ≤ to_
          case neg =>
            have hF : Hid (B = false) := HN.out (by rw [← HSL.out, decide_eq_true (And.intro f0 (by omega)), decide_eq_false (fun h => t0 h.1)]; rfl)
            have t0' : to_ < 0 := by omega
            have t0d : decide (to_ < 0) = true := decide_eq_true t0'
            clear f0 f1 t0 HSL HN HY HS HK HU SD SU ID HT
            go_wp2
            go_quiet (fail)
            all_goals (
              go_wp2
              go_ret
              exact ⟨M4.ret_bool hF.out.symm, below_drewN hV _⟩)
          obtain ⟨m, rfl⟩ : ∃ m : Nat, to_ = (m : Int) := ⟨to_.toNat, by omega⟩
          have g2 : decide ((m : Int) < 0) = false := decide_eq_false (by omega)
          by_cases t1 : m < us.length
          case neg =>
            have hF : Hid (B = false) := HN.out (by rw [← HSL.out, decide_eq_true (And.intro f0 (by omega)), decide_eq_false (fun h => t1 (by omega))]; rfl)
            have t1d : decide ((us.length : Int) ≤ (m : Int)) = true := decide_eq_true (by omega)
            have t1e : decide (us.length ≤ m) = true := decide_eq_true (by omega)
            clear f0 f1 t0 t1 HSL HN HY HS HK HU SD SU ID HT
            go_wp2
            go_quiet (fail)
            all_goals (
              go_wp2
              go_ret
              exact ⟨M4.ret_bool hF.out.symm, below_drewN hV _⟩)
          have g3 : decide ((us.length : Int) ≤ (m : Int)) = false := decide_eq_false (by omega)
          have g3e : decide (us.length ≤ m) = false := decide_eq_false (by omega)
          have HSL2 : Hid ((decide (0 ≤ id ∧ id < 6) && EG.hasB (CG.sd S i).1 id && !(decide (kd = 1) && decide (us.getD m 0 ≠ (i : Int))) && !(decide (kd = 2) && decide (us.getD i 0 ≠ (m : Int))) && decide (1 ≤ kd ∧ kd ≤ 2)) = CG.slipS S ⟨kd, (i : Int), (m : Int), id⟩) := by
            show _ = _
            rw [← HSL.out, decide_eq_true (And.intro f0 (show (i : Int) < (us.length : Int) by omega)), decide_eq_true (And.intro t0 (show (m : Int) < (us.length : Int) by omega))]
            rfl
          clear HSL f0 t0
          obtain ⟨bi, hbi⟩ : ∃ b, decide (0 ≤ id ∧ id < 6) = b := ⟨_, rfl⟩
          simp only [hbi] at ID
          rw [hbi] at HSL2
          clear hbi
          cases bi
          case false =>
            have hF : Hid (B = false) := HN.out (by rw [← HSL2.out]; rfl)
            clear f1 t1 HSL2 HN HY HS HK HU SD SU HT
            go_wp2
            go_quiet ((go_at_call 17; exact Calls.mono (ID.out _) (by rintro e w' ⟨rfl, rfl⟩; exact ⟨rfl, _, rfl⟩)))
            all_goals (
              go_wp2
              go_ret
              exact ⟨M4.ret_bool hF.out.symm, below_drewN hV _⟩)
          have hik : i < ks.length := by have := HKL.out; omega
          obtain ⟨b1, off1, rfl, hlt1, k0, -, -, -⟩ := (HK.out V hV).at hik
          have RH : Hid _ := fun n => HS.out (V.drewN n) i id hik (below_drewN hV n)
          generalize KP.at_ ks i = p at *
          obtain ⟨ss, hs, ts, sa, ha, ta, sc, hc, tc⟩ := p
          simp only at k0
          obtain ⟨bh, hbh⟩ : ∃ b, EG.hasB (CG.sd S i).1 id = b := ⟨_, rfl⟩
          simp only [hbh] at RH
          rw [hbh] at HSL2
          clear hbh HS HK SD SU
          cases bh
          case false =>
            have hF : Hid (B = false) := HN.out (by rw [← HSL2.out]; rfl)
            clear HSL2 HN HY HU HT
            go_wp2
            go_quiet (first | (go_at_call 17; exact Calls.mono (ID.out _) (by rintro e w' ⟨rfl, rfl⟩; exact ⟨rfl, _, rfl⟩)) | (go_at_call 18; exact Calls.mono (RH.out _) (by rintro e w' ⟨rfl, rfl⟩; exact ⟨rfl, _, rfl⟩)))
            all_goals (
              go_wp2
              go_ret
              exact ⟨M4.ret_bool hF.out.symm, below_drewN hV _⟩)
          have HSL3 : Hid ((!(decide (kd = 1) && decide (us.getD m 0 ≠ (i : Int))) && !(decide (kd = 2) && decide (us.getD i 0 ≠ (m : Int))) && decide (1 ≤ kd ∧ kd ≤ 2)) = CG.slipS S ⟨kd, (i : Int), (m : Int), id⟩) := by
            show _ = _
            rw [← HSL2.out]
            rfl
          clear HSL2
          go_wp2
          go_quiet (first | (go_at_call 17; exact Calls.mono (ID.out _) (by rintro e w' ⟨rfl, rfl⟩; exact ⟨rfl, _, rfl⟩)) | (go_at_call 18; exact Calls.mono (RH.out _) (by rintro e w' ⟨rfl, rfl⟩; exact ⟨rfl, _, rfl⟩)))
          obtain ⟨b3, off3, rfl, hlt3, u0⟩ := M4.IntsAt.at (HU.out V hV) t1
          obtain ⟨b4, off4, he, -, u1⟩ := M4.IntsAt.at (HU.out V hV) f1
          simp only [Option.some.injEq, Addr.mk.injEq] at he
          obtain ⟨rfl, rfl, -⟩ := he
          generalize us.getD m 0 = v at *
          generalize us.getD i 0 = u at *
          have IN : Hid (∀ W : World, Calls Try.prog 19 #[.int .i64 kd, .int .i64 1, .int .i64 2] W fun e w' => e = .returned (.bool (inB kd 1 2)) ∧ W = w') := fun W => l1In_any kd 1 2 W
          by_cases k1 : kd = 1
          · subst k1
            simp only [show inB 1 1 2 = true from rfl] at IN
            by_cases hv : v = (i : Int)
            · have hT : Hid _ := HY.out (by rw [← HSL3.out]; simp [hv])
              have hvb : (v != (i : Int)) = false := by simp [hv]
              clear HN HY HSL3 HU RH ID HT
              go_wp2
              go_quiet ((go_at_call 19; exact Calls.mono (IN.out _) (by rintro e w' ⟨rfl, rfl⟩; exact ⟨rfl, _, rfl⟩)))
              all_goals (
                go_wp2
                go_roundw
                case rel => exact ⟨k + 1, by go_num, by omega, hT, below_drewN hV0 _⟩
                case measure => simp [intOf]; omega)
            · have hF : Hid (B = false) := HN.out (by rw [← HSL3.out]; simp [hv])
              have hvb : (v != (i : Int)) = true := by simp [hv]
              clear HN HY HSL3 HU RH ID HT hv
              go_wp2
              go_quiet ((go_at_call 19; exact Calls.mono (IN.out _) (by rintro e w' ⟨rfl, rfl⟩; exact ⟨rfl, _, rfl⟩)))
              all_goals (
                go_wp2
                go_ret
                exact ⟨M4.ret_bool hF.out.symm, below_drewN (below_drewN hV _) _⟩)
          · by_cases k2 : kd = 2
            · subst k2
              simp only [show inB 2 1 2 = true from rfl] at IN
              by_cases hv : u = (m : Int)
              · have hT : Hid _ := HY.out (by rw [← HSL3.out]; simp [hv])
                have hvb : (u != (m : Int)) = false := by simp [hv]
                clear HN HY HSL3 HU RH ID HT
                go_wp2
                go_quiet ((go_at_call 19; exact Calls.mono (IN.out _) (by rintro e w' ⟨rfl, rfl⟩; exact ⟨rfl, _, rfl⟩)))
                all_goals (
                  go_wp2
                  go_roundw
                  case rel => exact ⟨k + 1, by go_num, by omega, hT, below_drewN hV0 _⟩
                  case measure => simp [intOf]; omega)
              · have hF : Hid (B = false) := HN.out (by rw [← HSL3.out]; simp [hv])
                have hvb : (u != (m : Int)) = true := by simp [hv]
                clear HN HY HSL3 HU RH ID HT hv
                go_wp2
                go_quiet ((go_at_call 19; exact Calls.mono (IN.out _) (by rintro e w' ⟨rfl, rfl⟩; exact ⟨rfl, _, rfl⟩)))
                all_goals (
                  go_wp2
                  go_ret
                  exact ⟨M4.ret_bool hF.out.symm, below_drewN (below_drewN hV _) _⟩)
            · have hin : inB kd 1 2 = false := by simp [inB]; omega
              simp only [hin] at IN
              have hF : Hid (B = false) := HN.out (by rw [← HSL3.out, decide_eq_false (show ¬ (1 ≤ kd ∧ kd ≤ 2) by omega)]; simp)
              have e1 : (kd == 1) = false := by simp [k1]
              have e2 : (kd == 2) = false := by simp [k2]
              clear HN HY HSL3 HU RH ID HT hin
              go_wp2
              go_quiet ((go_at_call 19; exact Calls.mono (IN.out _) (by rintro e w' ⟨rfl, rfl⟩; exact ⟨rfl, _, rfl⟩)))
              all_goals (
                go_wp2
                go_ret
                exact ⟨M4.ret_bool hF.out.symm, below_drewN (below_drewN hV _) _⟩)
        · obtain rfl : k = ls.length := by omega
          have h0 : 0 < ks.length := by have := HKL.out; omega
          have HB4 : Hid (CG.same (KP.at_ ks 0).ss ns = B) := by
            show _ = _
            rw [← HB3.out, CG.slS_yes (f := fun x => CG.slipS S x) hT.out, SD.out 0 h0]; rfl
          obtain ⟨b1, off1, rfl, hlt1, c0, -, -, -⟩ := (HK.out wr hB2).at h0
          rw [Nat.zero_mul, Nat.add_zero] at c0
          have RI : Hid _ := fun m => CSA.out (wr.drewN m) 0 h0 (below_drewN hB2 m)
          clear HB3 hT CSA HS HK HU HL SD SU x1
          generalize KP.at_ ks 0 = p at *
          obtain ⟨ss, hs, ts, sa, ha, ta, sc, hc, tc⟩ := p
          simp only at c0 HB4
          obtain ⟨rI, hrI⟩ : ∃ b, CG.same ss ns = b := ⟨_, rfl⟩
          simp only [hrI] at RI
          rw [hrI] at HB4
          have hF : Hid _ := HB4.out
          clear hrI HB4
          have hne : ¬ ks = [] := fun e => by rw [e] at h0; simp at h0
          have a1 := x2.cell 1 rfl
          have a3 := x2.cell 3 rfl
          clear x2 hb
          go_wp2
          go_quiet ((go_at_call 20; exact Calls.mono (RI.out _) (by rintro e w' ⟨rfl, rfl⟩; exact ⟨rfl, _, rfl⟩)))
          all_goals (
            go_wp2
            go_ret
            exact ⟨M4.ret_bool hF.out, below_drewN hB2 _⟩)
end Go.Proofs.Ytfkmnmiolnijaaa

/- GoodCustody of the program. -/
namespace Go.Proofs.Ytfkmnmiolnijaaa
open Go.RowKit
set_option maxHeartbeats 1600000 in
set_option maxRecDepth 100000 in
theorem implGoodCu_any (c : Cu) (w : World) (hc : CuAt w c) (lc : CuLen c) :
    Calls Try.prog 8 #[c.v] w fun e w' => e = .returned (.bool (CG.goodI c.said)) ∧ Below w.heap.size w w' := by
  have hmf : ∀ (fn : Fn) (first cap : Array Value) (w : World), (Instr.makeFunc fn first cap).run Try.prog w = .ok (.func fn first cap) w := fun _ _ _ _ => rfl
  have WC : Hid (∀ W : World, Below w.heap.size w W → Calls Try.prog 24 #[.func (.func 25) #[c.v] #[]] W fun e w' => e = .returned (.bool (CG.goodI c.said)) ∧ Below W.heap.size W w') := fun W hW => withoutCheck_any c.v (CG.goodI c.said) W (fun V hV => check_any c V (hc.below (hW.trans (hV.mono hW.size))) lc)
  have hB0 : ∀ o, Below w.heap.size w (w.alloc o) := fun o => (Below.refl _ w).alloc (Nat.le_refl _) o
  generalize CG.goodI c.said = B at *
  obtain ⟨us, ks, ls, ns, ua, ka, la, na, uc, kc, lcc, nc⟩ := c
  clear hc lc
  go_enter Try.func8, Try.ntmps8
  go_wp2_with fail
  refine (WC.out _ (hB0 _)).mono ?_
  rintro e w1 ⟨rfl, hb⟩
  clear WC
  go_wp2
  go_ret
  exact ⟨rfl, (hB0 _).trans (hb.mono (hB0 _).size)⟩
end Go.Proofs.Ytfkmnmiolnijaaa

/- SafeFor of the specification. -/
namespace Go.Proofs.Ytfkmnmiolnijaaa
open Go.RowKit
set_option linter.unusedSimpArgs false in
set_option maxHeartbeats 3200000 in
set_option maxRecDepth 100000 in
theorem specSafe_any (c : Cu) (nd id : Int) (w : World) (hc : CuAt w c) (lc : CuLen c) :
    Calls Try.prog 10 #[c.v, .int .i64 nd, .int .i64 id] w fun e w' => e = .returned (.tuple #[.bool (CG.safeB c.said nd id), .bool (CG.safeOk c.said nd id)]) ∧ Below w.heap.size w w' := by
  have GC : Hid (∀ W : World, Below w.heap.size w W → Calls Try.prog 6 #[c.v] W fun e w' => e = .returned (.bool (CG.goodI c.said)) ∧ Below W.heap.size W w') := fun W hW => by rw [← CG.good_same]; exact specGoodCu_any c W (hc.below hW) lc
  have HS : Hid (∀ (W : World) (j : Nat), j < c.ks.length → Below w.heap.size w W → Calls Try.prog 18 #[.slice (KP.at_ c.ks j).ta (KP.at_ c.ks j).ts.length (KP.at_ c.ks j).tc, .int .i64 id] W fun e w' => e = .returned (.bool (EG.hasB (CG.sd c.said j).2.2 id)) ∧ W = w') := fun W j hj hW => by
    rw [show CG.sd c.said j = (KP.at_ c.ks j).said from KP.sd_at hj]
    exact l1Has_any (KP.at_ c.ks j).ta (KP.at_ c.ks j).tc (KP.at_ c.ks j).ts id W (lc.r j hj).2.2 (M4.IntsAt.below (hc.k.row j hj).t.at_ hW)
  have HH : Hid (∀ (W : World) (j : Nat) (n : Int), j < c.ks.length → Below w.heap.size w W → Calls Try.prog 29 #[.slice (KP.at_ c.ks j).ha (KP.at_ c.ks j).hs.length (KP.at_ c.ks j).hc, .agg #[.int .i64 id, .int .i64 n]] W fun e w' => e = .returned (.bool (CG.hasH (CG.sd c.said j).2.1 ⟨id, n⟩)) ∧ Below W.heap.size W w') := fun W j n hj hW => by
    rw [show CG.sd c.said j = (KP.at_ c.ks j).said from KP.sd_at hj]
    exact l16Has_any (KP.at_ c.ks j).ha (KP.at_ c.ks j).hc (KP.at_ c.ks j).hs ⟨id, n⟩ W (lc.r j hj).2.1 ((hc.k.row j hj).h.at_.below hW)
  have HK : Hid (∀ W : World, Below w.heap.size w W → KP.RowAt W 0 c.ka c.ks) := fun W hW => hc.k.below hW
  have HU : Hid (∀ W : World, Below w.heap.size w W → M4.IntsAt W c.ua c.us) := fun W hW => M4.IntsAt.below hc.u hW
  have GL : Hid (CG.goodI c.said = true → c.ks.length = c.us.length) := fun h => by
    have := CG.good_len h
    simpa [Cu.said] using this
  have SU : Hid (c.said.us = c.us) := rfl
  have TS : Hid (CG.goodI c.said = true → ∀ k, k < c.us.length → EG.hasB (CG.sd c.said k).2.2 id = EG.hasB (CG.sd c.said k).1 id) := fun h k hk => CG.told_seen h hk id
  have GT : Hid (CG.goodI c.said = true → TR.tree c.said.us = true) := fun h => CG.good_tree h
  have l1 := lc.u
  have l2 := lc.k
  obtain ⟨V1, hV1⟩ : ∃ V, CG.safeOk c.said nd id = V := ⟨_, rfl⟩
  obtain ⟨V0, hV0⟩ : ∃ V, CG.safeB c.said nd id = V := ⟨_, rfl⟩
  rw [hV1, hV0]
  have H1 : Hid ((CG.goodI c.said && decide (0 ≤ nd ∧ nd < c.us.length) && decide (0 ≤ id ∧ id < 6)) = V1) := hV1
  have H0 : Hid ((V1 && (EG.hasB (CG.sd c.said nd.toNat).1 id || CG.owed c.said id 8 nd.toNat)) = V0) := by show _ = _; rw [← hV0, CG.safeB, hV1]
  clear hV1 hV0 hc lc
  generalize c.said = S at *
  obtain ⟨us, ks, ls, ns, ua, ka, la, na, uc, kc, lcc, nc⟩ := c
  simp only at l1 l2 H1 GL HK HS HU SU TS HH
  have hB0 : Below w.heap.size w (w.alloc (.cells #[.slice ua us.length uc, .slice ka ks.length kc, .slice la ls.length lcc, .slice na ns.length nc] 32)) := (Below.refl _ w).alloc (Nat.le_refl _) _
  have x0 : BxN (w.alloc (.cells #[.slice ua us.length uc, .slice ka ks.length kc, .slice la ls.length lcc, .slice na ns.length nc] 32)) w.heap.size [.slice ua us.length uc, .slice ka ks.length kc, .slice la ls.length lcc, .slice na ns.length nc] 32 := BxN.new w _ _ rfl
  obtain ⟨G, hG⟩ : ∃ G, CG.goodI S = G := ⟨_, rfl⟩
  simp only [hG] at GC
  rw [hG] at TS H1 GL GT
  clear hG
  go_enter Try.func10, Try.ntmps10
  go_wp2_with fail
  generalize w.alloc (.cells #[.slice ua us.length uc, .slice ka ks.length kc, .slice la ls.length lcc, .slice na ns.length nc] 32) = W0 at *
  refine Calls.mono (GC.out W0 hB0) ?_
  rintro e w1 ⟨rfl, hb⟩
  have hB1 := hB0.trans (hb.mono hB0.size)
  have x1 := x0.below hb x0.lt
  clear GC hb x0 hB0
  cases G
  case false =>
    have hF : Hid (V1 = false) := by show _ = _; rw [← H1.out]; rfl
    have hF0 : Hid (V0 = false) := by show _ = _; rw [← H0.out, hF.out]; rfl
    clear H1 H0 TS GL HK HS HU SU GT HH x1
    go_wp2
    exact bodyPost_ret (v := .tuple #[.bool false, .bool false]) (by simp [results, Try.results10, go_sem]) rfl ⟨by rw [hF.out, hF0.out], hB1⟩
  have hkl : Hid (ks.length = us.length) := GL.out rfl
  have HT : Hid (TR.tree S.us = true) := GT.out rfl
  have TS2 : Hid _ := TS.out rfl
  clear TS GL GT
  have a0 := x1.cell 0 rfl
  have a1 := x1.cell 1 rfl
  have II : Hid (∀ W : World, Calls Try.prog 17 #[.int .i64 id] W fun e w' => e = .returned (.bool (decide (0 ≤ id ∧ id < 6))) ∧ W = w') := fun W => l16Id_any id W
  by_cases hn0 : 0 ≤ nd
  case neg =>
    have hF : Hid (V1 = false) := by show _ = _; rw [← H1.out, decide_eq_false (fun h => hn0 h.1)]; rfl
    have hF0 : Hid (V0 = false) := by show _ = _; rw [← H0.out, hF.out]; rfl
    have hq : decide (nd < 0) = true := decide_eq_true (by omega)
    have hq2 : nd < 0 := by omega
    clear H1 H0 TS2 HK HS HU SU HH x1 II hn0
    go_wp2
    exact bodyPost_ret (v := .tuple #[.bool false, .bool false]) (by simp [results, Try.results10, go_sem]) rfl ⟨by rw [hF.out, hF0.out], hB1⟩
  obtain ⟨i, rfl⟩ : ∃ i : Nat, nd = (i : Int) := ⟨nd.toNat, by omega⟩
  rw [Int.toNat_natCast] at H0
  have hq : decide ((i : Int) < 0) = false := decide_eq_false (by omega)
  by_cases hiu : i < us.length
  case neg =>
    have hF : Hid (V1 = false) := by show _ = _; rw [← H1.out, decide_eq_false (fun h => hiu (by omega))]; rfl
    have hF0 : Hid (V0 = false) := by show _ = _; rw [← H0.out, hF.out]; rfl
    have hq3 : decide ((us.length : Int) ≤ (i : Int)) = true := decide_eq_true (by omega)
    have hq4 : decide (us.length ≤ i) = true := decide_eq_true (by omega)
    clear H1 H0 TS2 HK HS HU SU HH x1 II hn0
    go_wp2
    exact bodyPost_ret (v := .tuple #[.bool false, .bool false]) (by simp [results, Try.results10, go_sem]) rfl ⟨by rw [hF.out, hF0.out], hB1⟩
  have hq3 : decide ((us.length : Int) ≤ (i : Int)) = false := decide_eq_false (by omega)
  have hq4 : decide (us.length ≤ i) = false := decide_eq_false (by omega)
  rw [decide_eq_true (show 0 ≤ (i : Int) ∧ (i : Int) < us.length from ⟨hn0, by omega⟩)] at H1
  clear hn0
  by_cases hid : 0 ≤ id ∧ id < 6
  case neg =>
    have hF : Hid (V1 = false) := by show _ = _; rw [← H1.out, decide_eq_false hid]; rfl
    have hF0 : Hid (V0 = false) := by show _ = _; rw [← H0.out, hF.out]; rfl
    rw [decide_eq_false hid] at II
    clear H1 H0 TS2 HK HS HU SU HH x1 hid
    go_wp2_with fail
    refine Calls.mono (II.out w1) ?_
    rintro e w2 ⟨rfl, rfl⟩
    clear II
    go_wp2
    exact bodyPost_ret (v := .tuple #[.bool false, .bool false]) (by simp [results, Try.results10, go_sem]) rfl ⟨by rw [hF.out, hF0.out], hB1⟩
  have hV : Hid (V1 = true) := by show _ = _; rw [← H1.out, decide_eq_true hid]; rfl
  rw [decide_eq_true hid] at II
  have hik : i < ks.length := by have := hkl.out; omega
  have R1 : Hid (∀ W : World, Below w.heap.size w W → Calls Try.prog 18 #[.slice (KP.at_ ks i).ta (KP.at_ ks i).ts.length (KP.at_ ks i).tc, .int .i64 id] W fun e w' => e = .returned (.bool (EG.hasB (CG.sd S i).1 id)) ∧ W = w') := fun W hW => by
    have h := HS.out W i hik hW
    rw [TS2.out i hiu] at h
    exact h
  obtain ⟨b1, off1, rfl, hlt1, c0, c1, c2, -⟩ := (HK.out w1 hB1).at hik
  have H2 : Hid ((EG.hasB (CG.sd S i).1 id || CG.owed S id 8 i) = V0) := by show _ = _; rw [← H0.out, hV.out]; rfl
  obtain ⟨r1, hr1⟩ : ∃ r, EG.hasB (CG.sd S i).1 id = r := ⟨_, rfl⟩
  rw [hr1] at H2
  simp only [hr1] at R1
  clear hr1 HS H1 H0 hid TS2
  generalize hpp : KP.at_ ks i = p at *
  clear hpp
  obtain ⟨ss, hs, ts, sa, ha, ta, sc, hc, tc⟩ := p
  simp only at c0 c1 c2
  go_wp2_with fail
  refine Calls.mono (II.out w1) ?_
  rintro e w2 ⟨rfl, rfl⟩
  clear II
  go_wp2_with fail
  refine Calls.mono (R1.out w1 hB1) ?_
  rintro e w2 ⟨rfl, rfl⟩
  clear R1 a0 a1 c0 c1 c2 hq hq3 hq4
  cases r1
  case true =>
    have hF0 : Hid (V0 = true) := by show _ = _; rw [← H2.out]; rfl
    clear H2 HK HU SU HH x1
    go_wp2
    exact bodyPost_ret (v := .tuple #[.bool true, .bool true]) (by simp [results, Try.results10, go_sem]) rfl ⟨by rw [hV.out, hF0.out], hB1⟩
  have HOW : Hid (CG.owed S id 8 i = V0) := by show _ = _; rw [← H2.out]; rfl
  have lx := x1.lt
  clear H2
  go_wp2_with fail
  go_loopw [8] (fun nv wr => ∃ n : Nat, nv = .int .i64 n ∧ n < us.length ∧ Hid (CG.owed S id 8 n = V0) ∧ Below w1.heap.size w1 wr) (fun nv _ => (intOf nv).toNat)
  case atStart => exact ⟨i, rfl, hiu, HOW, Below.refl _ _⟩
  case round =>
    obtain ⟨n, rfl, hnl, hT, hb⟩ := hrel
    have hB2 := hB1.trans (hb.mono hB1.size)
    have x2 := x1.below hb lx
    have lx2 := x2.lt
    by_cases hn0 : n = 0
    · have hF : Hid (V0 = false) := by show _ = _; rw [← hT.out, hn0]; exact CG.owed_zero S id
      clear hT HT SU HH HK HU x1 x2 HOW
      subst hn0
      rw [show ((0 : Nat) : Int) = 0 from rfl]
      go_wp2
      exact bodyPost_ret (v := .tuple #[.bool false, .bool true]) (by simp [results, Try.results10, go_sem]) rfl ⟨by rw [hV.out, hF.out], hB2⟩
    · have HT2 : Hid (TR.tree us = true) := by have := HT.out; rw [SU.out] at this; exact this
      have hup := CG.up_of_tree HT2.out hnl (by omega)
      obtain ⟨u, hu⟩ : ∃ u : Nat, us.getD n 0 = u := ⟨(us.getD n 0).toNat, by omega⟩
      rw [hu] at hup
      have hun : u < n := by omega
      have hu2 : CG.upOf S n = u := by unfold CG.upOf; rw [SU.out, hu]; exact Int.toNat_natCast u
      have hE : Hid ((CG.hasH (CG.sd S u).2.1 ⟨id, (n : Int)⟩ || CG.owed S id 8 u) = V0) := by
        show _ = _
        rw [← hT.out, CG.owed_is (k := n) HT.out id (by rw [SU.out]; exact hnl) (by omega), hu2]
      have huk : u < ks.length := by have := hkl.out; omega
      obtain ⟨b1', off1', he, hltk, -, c1, -, -⟩ := (HK.out wr hB2).at huk
      simp only [Option.some.injEq, Addr.mk.injEq] at he
      obtain ⟨rfl, rfl, -⟩ := he
      have R1 : Hid _ := fun W hW => HH.out W u (n : Int) huk hW
      obtain ⟨r, hr⟩ : ∃ r, CG.hasH (CG.sd S u).2.1 ⟨id, (n : Int)⟩ = r := ⟨_, rfl⟩
      simp only [hr] at R1
      rw [hr] at hE
      obtain ⟨b2, off2, rfl, hlt2, d0⟩ := M4.IntsAt.at (HU.out wr hB2) hnl
      rw [hu] at d0
      clear hr hT HT SU HH HK HU x1 HOW HT2 hu2 hu
      generalize hpp : KP.at_ ks u = p at *
      clear hpp
      obtain ⟨ss', hs', ts', sa', ha', ta', sc', hc', tc'⟩ := p
      simp only at c1
      have q0 : (0 : Int) ≤ (u : Int) := by omega
      have q1 : (u : Int) < (ks.length : Int) := by omega
      have q2 : (0 : Int) ≤ (n : Int) := by omega
      have q3 : (n : Int) < (us.length : Int) := by omega
      have hnz : decide ((0 : Int) < (n : Int)) = true := decide_eq_true (by omega)
      have hnz2 : decide (0 < n) = true := decide_eq_true (by omega)
      have hnz3 : 0 < n := by omega
      have LD : Hid (∀ W : World, Below wr.heap.size wr W → W.cell? ⟨w.heap.size, 1, none⟩ = some (.slice (some ⟨b1, off1, none⟩) ks.length kc) ∧ W.cell? ⟨w.heap.size, 0, none⟩ = some (.slice (some ⟨b2, off2, none⟩) us.length uc) ∧ W.cell? ⟨b2, off2 + n, none⟩ = some (.int .i64 (u : Int)) ∧ W.cell? ⟨b1, off1 + u * 3 + 1, none⟩ = some (.slice ha' hs'.length hc')) := fun W h =>
        ⟨(x2.below h lx2).cell 1 rfl, (x2.below h lx2).cell 0 rfl, (h.cell (p := ⟨_, _, none⟩) hlt2).trans d0, (h.cell (p := ⟨_, _, none⟩) hltk).trans c1⟩
      clear c1 d0 x2
      go_wp2_with fail
      clear hnz hnz2
      refine MR.frame fun A hA => ?_
      have hsz : A.tmps.size = 58 := by rw [hA]; rfl
      have e2 : A.eval (.tmp 2) = .int .i64 id := by rw [hA]; rfl
      have f2 := MR.read (t := 2) (by rw [hsz]; decide) e2
      have e3 : A.eval (.tmp 3) = .pointer (some ⟨w.heap.size, 0, none⟩) := by rw [hA]; rfl
      have f3 := MR.read (t := 3) (by rw [hsz]; decide) e3
      have e8 : A.eval (.tmp 8) = .int .i64 (n : Int) := by rw [hA]; rfl
      have f8 := MR.read (t := 8) (by rw [hsz]; decide) e8
      have HA : Hid (A = _) := hA
      clear hA
      have hS : (fun W => Below wr.heap.size wr W) (World.drew _) := (Below.refl _ wr).drew
      refine wp_region_held (S := fun W => Below wr.heap.size wr W) (by kernel_rfl) ?_
      change wpAnyH _ _ _ _ _ _ _ _ (World.drew _)
      refine MR.takeH (i := 0) (some 44) (.pointer (some ⟨w.heap.size, 1, none⟩)) rfl rfl (by kernel_rfl) (by kernel_rfl) (by kernel_rfl) (fun _ _ _ h => h) hS (MR.free rfl) (fun wq hw => by simp [execOp, MR.ev, MR.size, hsz, e2, f2, e3, f3, e8, f8, go_sem]) ?_
      refine MR.takeH (i := 1) (some 45) (.slice (some ⟨b1, off1, none⟩) ks.length kc) rfl rfl (by kernel_rfl) (by kernel_rfl) (by kernel_rfl) (fun _ _ _ h => h) hS (MR.free rfl) (fun wq hw => by simp [execOp, MR.ev, MR.size, hsz, e2, f2, e3, f3, e8, f8, (LD.out wq hw).1, go_sem]) ?_
      refine MR.takeH (i := 2) (some 46) (.pointer (some ⟨w.heap.size, 0, none⟩)) rfl rfl (by kernel_rfl) (by kernel_rfl) (by kernel_rfl) (fun _ _ _ h => h) hS (MR.free rfl) (fun wq hw => by simp [execOp, MR.ev, MR.size, hsz, e2, f2, e3, f3, e8, f8, go_sem]) ?_
      refine MR.takeH (i := 3) (some 47) (.slice (some ⟨b2, off2, none⟩) us.length uc) rfl rfl (by kernel_rfl) (by kernel_rfl) (by kernel_rfl) (fun _ _ _ h => h) hS (MR.free rfl) (fun wq hw => by simp [execOp, MR.ev, MR.size, hsz, e2, f2, e3, f3, e8, f8, (LD.out wq hw).2.1, go_sem]) ?_
      refine MR.takeH (i := 4) (some 48) (.int .i64 (n : Int)) rfl rfl (by kernel_rfl) (by kernel_rfl) (by kernel_rfl) (fun _ _ _ h => h) hS (MR.free rfl) (fun wq hw => by simp [execOp, MR.ev, MR.size, hsz, e2, f2, e3, f3, e8, f8, go_sem]) ?_
      refine MR.takeH (i := 5) (some 49) (.pointer (some ⟨b2, off2 + n, none⟩)) rfl rfl (by kernel_rfl) (by kernel_rfl) (by kernel_rfl) (fun _ _ _ h => h) hS (MR.free rfl) (fun wq hw => by simp [execOp, MR.ev, MR.size, hsz, e2, f2, e3, f3, e8, f8, q2, q3, go_sem]) ?_
      refine MR.takeH (i := 6) (some 50) (.int .i64 (u : Int)) rfl rfl (by kernel_rfl) (by kernel_rfl) (by kernel_rfl) (fun _ _ _ h => h) hS (MR.free rfl) (fun wq hw => by simp [execOp, MR.ev, MR.size, hsz, e2, f2, e3, f3, e8, f8, (LD.out wq hw).2.2.1, go_sem]) ?_
      refine MR.takeH (i := 7) (some 51) (.pointer (some ⟨b1, off1 + u * 3, none⟩)) rfl rfl (by kernel_rfl) (by kernel_rfl) (by kernel_rfl) (fun _ _ _ h => h) hS (MR.free rfl) (fun wq hw => by simp [execOp, MR.ev, MR.size, hsz, e2, f2, e3, f3, e8, f8, q0, q1, go_sem]) ?_
      refine MR.takeH (i := 8) (some 52) (.pointer (some ⟨b1, off1 + u * 3 + 1, none⟩)) rfl rfl (by kernel_rfl) (by kernel_rfl) (by kernel_rfl) (fun _ _ _ h => h) hS (MR.free rfl) (fun wq hw => by simp [execOp, MR.ev, MR.size, hsz, e2, f2, e3, f3, e8, f8, go_sem]) ?_
      refine MR.takeH (i := 9) (some 53) (.slice ha' hs'.length hc') rfl rfl (by kernel_rfl) (by kernel_rfl) (by kernel_rfl) (fun _ _ _ h => h) hS (MR.free rfl) (fun wq hw => by simp [execOp, MR.ev, MR.size, hsz, e2, f2, e3, f3, e8, f8, (LD.out wq hw).2.2.2, go_sem]) ?_
      refine MR.takeH (i := 10) (some 54) (.int .i64 id) rfl rfl (by kernel_rfl) (by kernel_rfl) (by kernel_rfl) (fun _ _ _ h => h) hS (MR.free rfl) (fun wq hw => by simp [execOp, MR.ev, MR.size, hsz, e2, f2, e3, f3, e8, f8, go_sem]) ?_
      refine MR.takeH (i := 11) (some 55) (.int .i64 (n : Int)) rfl rfl (by kernel_rfl) (by kernel_rfl) (by kernel_rfl) (fun _ _ _ h => h) hS (MR.free rfl) (fun wq hw => by simp [execOp, MR.ev, MR.size, hsz, e2, f2, e3, f3, e8, f8, go_sem]) ?_
      refine MR.takeH (i := 12) (some 56) (.agg #[.int .i64 id, .int .i64 (n : Int)]) rfl rfl (by kernel_rfl) (by kernel_rfl) (by kernel_rfl) (fun _ _ _ h => h) hS (MR.free rfl) (fun wq hw => by simp [execOp, MR.ev, MR.size, hsz, e2, f2, e3, f3, e8, f8, go_sem]) ?_
      refine MR.callH (i := 13) (some 57) (29) (#[.slice ha' hs'.length hc', .agg #[.int .i64 id, .int .i64 (n : Int)]]) (by kernel_rfl) rfl rfl (MR.free rfl) (by simp [execOp, MR.ev, MR.size, hsz, e2, f2, e3, f3, e8, f8, go_sem]) ?_
      refine Calls.mono (R1.out _ (hB2.trans (hS.mono hB2.size))) ?_
      rintro e wn ⟨rfl, hbn⟩
      have hS2 : Below wr.heap.size wr wn := hS.trans (hbn.mono hS.size)
      refine ⟨_, rfl, hS2, ?_⟩
      refine wpAnyH_done (by kernel_rfl) ?_ _
      rw [HA.out]
      simp only [Act.put, List.setIfInBounds_toArray, List.set_cons_succ, List.set_cons_zero]
      have hbb := hb.trans (hS2.mono hb.size)
      have hBB := hB2.trans (hS2.mono hB2.size)
      obtain ⟨-, a0, d0, -⟩ := LD.out wn hS2
      clear HA hsz e2 f2 e3 f3 e8 f8 hS hS2 hbn R1 LD hb
      cases r
      case true =>
        have hF : Hid (V0 = true) := by show _ = _; rw [← hE.out]; rfl
        clear hE a0 d0
        go_wp2
        exact bodyPost_ret (v := .tuple #[.bool true, .bool true]) (by simp [results, Try.results10, go_sem]) rfl ⟨by rw [hV.out, hF.out], hBB⟩
      case false =>
        have hT : Hid (CG.owed S id 8 u = V0) := by show _ = _; rw [← hE.out]; rfl
        clear hE
        go_wp2
        go_roundw
        case rel => exact ⟨u, rfl, by omega, hT, hbb⟩
        case measure => simp [intOf]; omega
end Go.Proofs.Ytfkmnmiolnijaaa

/- SafeFor of the program. -/
namespace Go.Proofs.Ytfkmnmiolnijaaa
open Go.RowKit
set_option linter.unusedSimpArgs false in
set_option maxHeartbeats 3200000 in
set_option maxRecDepth 100000 in
theorem owedTo_any (c : Cu) (node : Nat) (id : Int) (w : World) (hc : CuAt w c) (lc : CuLen c) (hg : CG.goodI c.said = true) (hn : node < c.us.length) :
    Calls Try.prog 33 #[c.v, .int .i64 (node : Int), .int .i64 id] w fun e w' => e = .returned (.bool (CG.owed c.said id 8 node)) ∧ Below w.heap.size w w' := by
  obtain ⟨us, ks, ls, ns, ua, ka, la, na, uc, kc, lcc, nc⟩ := c
  obtain ⟨hu, hkr, -, -, -⟩ := hc
  obtain ⟨l1, l2, -, -, l5⟩ := lc
  simp only at hu hkr l1 l2 l5 hg hn
  obtain ⟨S, hS⟩ : ∃ S, Cu.said ⟨us, ks, ls, ns, ua, ka, la, na, uc, kc, lcc, nc⟩ = S := ⟨_, rfl⟩
  have SD : Hid (∀ k, k < ks.length → CG.sd S k = (KP.at_ ks k).said) := fun k hk => by rw [← hS]; exact KP.sd_at hk
  have SU : Hid (S.us = us) := by show _ = _; rw [← hS]; rfl
  have hkl : ks.length = us.length := by
    have := CG.good_len hg
    simpa [Cu.said] using this
  rw [hS] at hg ⊢
  clear hS
  have HT : Hid (TR.tree S.us = true) := CG.good_tree hg
  have HKL : Hid (ks.length = us.length) := hkl
  clear hg hkl
  obtain ⟨B, hB⟩ : ∃ B, CG.owed S id 8 node = B := ⟨_, rfl⟩
  rw [hB]
  have HB : Hid (CG.owed S id 8 node = B) := hB
  clear hB
  have HH : Hid (∀ (W : World) (j : Nat) (n : Int), j < ks.length → Below w.heap.size w W → Calls Try.prog 52 #[(KP.at_ ks j).v, .int .i64 id, .int .i64 n] W fun e w' => e = .returned (.bool (CG.hasH (CG.sd S j).2.1 ⟨id, n⟩)) ∧ Below W.heap.size W w') := fun W j n hj hW => by
    rw [SD.out j hj]
    exact holds_any (KP.at_ ks j) id n W ((hkr.row j hj).below hW) (l5 j hj).2.1
  have HK : Hid (∀ W : World, Below w.heap.size w W → KP.RowAt W 0 ka ks) := fun W hW => hkr.below hW
  have HU : Hid (∀ W : World, Below w.heap.size w W → M4.IntsAt W ua us) := fun W hW => M4.IntsAt.below hu hW
  clear hu hkr l5 SD
  have hB0 : Below w.heap.size w (w.alloc (.cells #[.slice ua us.length uc, .slice ka ks.length kc, .slice la ls.length lcc, .slice na ns.length nc] 32)) := (Below.refl _ w).alloc (Nat.le_refl _) _
  have x0 : BxN (w.alloc (.cells #[.slice ua us.length uc, .slice ka ks.length kc, .slice la ls.length lcc, .slice na ns.length nc] 32)) w.heap.size [.slice ua us.length uc, .slice ka ks.length kc, .slice la ls.length lcc, .slice na ns.length nc] 32 := BxN.new w _ _ rfl
  obtain ⟨bu, ou, rfl, hltu, u0⟩ := M4.IntsAt.at (HU.out _ hB0) hn
  obtain ⟨v0, hv0⟩ : ∃ v, us.getD node 0 = v := ⟨_, rfl⟩
  rw [hv0] at u0
  have HV0 : Hid (us.getD node 0 = v0) := hv0
  clear hv0
  go_enter Try.func33, Try.ntmps33
  go_wp2
  generalize w.alloc (.cells #[.slice (some ⟨bu, ou, none⟩) us.length uc, .slice ka ks.length kc, .slice la ls.length lcc, .slice na ns.length nc] 32) = W0 at *
  have lx := x0.lt
  clear u0 hltu
  go_loopw [1, 7] (fun nv uv wr => ∃ n : Nat, nv = .int .i64 n ∧ n < us.length ∧ uv = .int .i64 (us.getD n 0) ∧ Hid (CG.owed S id 8 n = B) ∧ Below W0.heap.size W0 wr) (fun nv _ _ => (intOf nv).toNat)
  case atStart => exact ⟨node, rfl, hn, by rw [HV0.out], HB, Below.refl _ _⟩
  case round =>
    obtain ⟨n, rfl, hnl, rfl, hT, hb⟩ := hrel
    have hB1 := hB0.trans (hb.mono hB0.size)
    have x1 := x0.below hb lx
    have lx1 := x1.lt
    have HT2 : Hid (TR.tree us = true) := by have := HT.out; rw [SU.out] at this; exact this
    by_cases hn0 : n = 0
    · have hF : Hid (B = false) := by show _ = _; rw [← hT.out, hn0]; exact CG.owed_zero S id
      have h1 : us.getD n 0 = -1 := by rw [hn0]; exact CG.up_zero HT2.out
      clear hT HT SU HH HK HU x0 x1 HB HT2
      generalize us.getD n 0 = v at *
      subst h1
      go_wp2
      go_ret
      exact ⟨M4.ret_bool hF.out.symm, hB1⟩
    · have hup := CG.up_of_tree HT2.out hnl (by omega)
      obtain ⟨u, hu⟩ : ∃ u : Nat, us.getD n 0 = u := ⟨(us.getD n 0).toNat, by omega⟩
      rw [hu] at hup
      have hun : u < n := by omega
      have hu2 : CG.upOf S n = u := by unfold CG.upOf; rw [SU.out, hu]; exact Int.toNat_natCast u
      have hE : Hid ((CG.hasH (CG.sd S u).2.1 ⟨id, (n : Int)⟩ || CG.owed S id 8 u) = B) := by
        show _ = _
        rw [← hT.out, CG.owed_is (k := n) HT.out id (by rw [SU.out]; exact hnl) (by omega), hu2]
      have huk : u < ks.length := by have := HKL.out; omega
      obtain ⟨b1, off1, rfl, hlt1, c0, c1, c2, -⟩ := (HK.out wr hB1).at huk
      have R1 : Hid _ := fun W hW => HH.out W u (n : Int) huk hW
      obtain ⟨r, hr⟩ : ∃ r, CG.hasH (CG.sd S u).2.1 ⟨id, (n : Int)⟩ = r := ⟨_, rfl⟩
      simp only [hr] at R1
      rw [hr] at hE
      obtain ⟨b2, off2, he, hlt2, d0⟩ := M4.IntsAt.at (HU.out wr hB1) (k := u) (by omega)
      simp only [Option.some.injEq, Addr.mk.injEq] at he
      obtain ⟨rfl, rfl, -⟩ := he
      clear hr hT HT SU HH HK HU x0 HB HT2 hu2
      generalize KP.at_ ks u = p at *
      obtain ⟨ss, hs, ts, sa, ha, ta, sc, hc, tc⟩ := p
      simp only at c0 c1 c2
      have a1 := x1.cell 1 rfl
      rw [hu]
      have q0 : (0 : Int) ≤ (u : Int) := by omega
      have q1 : (u : Int) < (ks.length : Int) := by omega
      have q3 : (u : Int) < (us.length : Int) := by omega
      clear hu
      go_wp2_with fail
      refine Calls.mono (R1.out wr hB1) ?_
      rintro e w3 ⟨rfl, hb3⟩
      have hB2 := hB1.trans (hb3.mono hB1.size)
      have hb4 := hb.trans (hb3.mono hb.size)
      have x2 := x1.below hb3 lx1
      have e0 := (hb3.cell (p := ⟨_, _, none⟩) hlt2).trans d0
      clear R1 hb3 c0 c1 c2 a1 x1 hb hB1 d0
      cases r
      case true =>
        have hF : Hid (B = true) := by show _ = _; rw [← hE.out]; rfl
        clear hE x2 e0
        go_wp2
        go_ret
        exact ⟨M4.ret_bool hF.out.symm, hB2⟩
      case false =>
        have hT : Hid (CG.owed S id 8 u = B) := by show _ = _; rw [← hE.out]; rfl
        have a0 := x2.cell 0 rfl
        clear hE x2
        go_wp2
        go_quiet (fail)
        all_goals (
          go_wp2
          go_roundw
          case rel => exact ⟨u, rfl, by omega, rfl, hT, below_drewN hb4 _⟩
          case measure => simp [intOf]; omega)
set_option maxHeartbeats 400000 in
set_option maxRecDepth 100000 in
theorem isId_any (n : Int) (w : World) : Calls Try.prog 31 #[.int .i64 n] w fun e w' => e = .returned (.bool (decide (0 ≤ n ∧ n < 6))) ∧ w = w' := by
  have IW : Hid (Calls Try.prog 30 #[.int .i64 n, .int .i64 0, .int .i64 5] w fun e w' => e = .returned (.bool (decide (0 ≤ n ∧ n < 6))) ∧ w = w') := by
    have h := within7_any n 0 5 w
    rw [show decide (0 ≤ n ∧ n ≤ 5) = decide (0 ≤ n ∧ n < 6) from by rw [decide_eq_decide]; omega] at h
    exact h
  generalize decide (0 ≤ n ∧ n < 6) = r at *
  go_enter Try.func31, Try.ntmps31
  go_wp2_with fail
  refine Calls.mono IW.out ?_
  rintro e w1 ⟨rfl, rfl⟩
  clear IW
  go_wp2
  go_ret
  exact ⟨rfl, rfl⟩
set_option linter.unusedSimpArgs false in
set_option maxHeartbeats 3200000 in
set_option maxRecDepth 100000 in
theorem implSafe_any (c : Cu) (nd id : Int) (w : World) (hc : CuAt w c) (lc : CuLen c) :
    Calls Try.prog 11 #[c.v, .int .i64 nd, .int .i64 id] w fun e w' => e = .returned (.tuple #[.bool (CG.safeB c.said nd id), .bool (CG.safeOk c.said nd id)]) ∧ Below w.heap.size w w' := by
  have GC : Hid (∀ W : World, Below w.heap.size w W → Calls Try.prog 8 #[c.v] W fun e w' => e = .returned (.bool (CG.goodI c.said)) ∧ Below W.heap.size W w') := fun W hW => implGoodCu_any c W (hc.below hW) lc
  have HS : Hid (∀ (W : World) (j : Nat), j < c.ks.length → Below w.heap.size w W → Calls Try.prog 32 #[(KP.at_ c.ks j).v, .int .i64 id] W fun e w' => e = .returned (.bool (EG.hasB (CG.sd c.said j).1 id)) ∧ Below W.heap.size W w') := fun W j hj hW => by
    rw [show CG.sd c.said j = (KP.at_ c.ks j).said from KP.sd_at hj]
    exact hasSeen_any (KP.at_ c.ks j) id W ((hc.k.row j hj).below hW) (lc.r j hj).1
  have OW : Hid (CG.goodI c.said = true → ∀ (W : World) (j : Nat), j < c.us.length → Below w.heap.size w W → Calls Try.prog 33 #[c.v, .int .i64 (j : Int), .int .i64 id] W fun e w' => e = .returned (.bool (CG.owed c.said id 8 j)) ∧ Below W.heap.size W w') := fun hg W j hj hW => owedTo_any c j id W (hc.below hW) lc hg hj
  have HK : Hid (∀ W : World, Below w.heap.size w W → KP.RowAt W 0 c.ka c.ks) := fun W hW => hc.k.below hW
  have GL : Hid (CG.goodI c.said = true → c.ks.length = c.us.length) := fun h => by
    have := CG.good_len h
    simpa [Cu.said] using this
  have l1 := lc.u
  obtain ⟨V1, hV1⟩ : ∃ V, CG.safeOk c.said nd id = V := ⟨_, rfl⟩
  obtain ⟨V0, hV0⟩ : ∃ V, CG.safeB c.said nd id = V := ⟨_, rfl⟩
  rw [hV1, hV0]
  have H1 : Hid ((CG.goodI c.said && decide (0 ≤ nd ∧ nd < c.us.length) && decide (0 ≤ id ∧ id < 6)) = V1) := hV1
  have H0 : Hid ((V1 && (EG.hasB (CG.sd c.said nd.toNat).1 id || CG.owed c.said id 8 nd.toNat)) = V0) := by show _ = _; rw [← hV0, CG.safeB, hV1]
  clear hV1 hV0 hc lc
  generalize c.said = S at *
  obtain ⟨us, ks, ls, ns, ua, ka, la, na, uc, kc, lcc, nc⟩ := c
  simp only at l1 H1 GL HK HS OW
  have hB0 : Below w.heap.size w (w.alloc (.cells #[.slice ua us.length uc, .slice ka ks.length kc, .slice la ls.length lcc, .slice na ns.length nc] 32)) := (Below.refl _ w).alloc (Nat.le_refl _) _
  have x0 : BxN (w.alloc (.cells #[.slice ua us.length uc, .slice ka ks.length kc, .slice la ls.length lcc, .slice na ns.length nc] 32)) w.heap.size [.slice ua us.length uc, .slice ka ks.length kc, .slice la ls.length lcc, .slice na ns.length nc] 32 := BxN.new w _ _ rfl
  obtain ⟨G, hG⟩ : ∃ G, CG.goodI S = G := ⟨_, rfl⟩
  simp only [hG] at GC
  rw [hG] at OW H1 GL
  clear hG
  go_enter Try.func11, Try.ntmps11
  go_wp2_with fail
  generalize w.alloc (.cells #[.slice ua us.length uc, .slice ka ks.length kc, .slice la ls.length lcc, .slice na ns.length nc] 32) = W0 at *
  refine Calls.mono (GC.out W0 hB0) ?_
  rintro e w1 ⟨rfl, hb⟩
  have hB1 := hB0.trans (hb.mono hB0.size)
  have x1 := x0.below hb x0.lt
  clear GC hb x0 hB0
  cases G
  case false =>
    have hF : Hid (V1 = false) := by show _ = _; rw [← H1.out]; rfl
    have hF0 : Hid (V0 = false) := by show _ = _; rw [← H0.out, hF.out]; rfl
    clear H1 H0 OW GL HK HS x1
    go_wp2
    exact bodyPost_ret (v := .tuple #[.bool false, .bool false]) (by simp [results, Try.results11, go_sem]) rfl ⟨by rw [hF.out, hF0.out], hB1⟩
  have hkl : Hid (ks.length = us.length) := GL.out rfl
  have OW2 : Hid _ := OW.out rfl
  clear OW GL
  have a0 := x1.cell 0 rfl
  have a1 := x1.cell 1 rfl
  have a2 := x1.cell 2 rfl
  have a3 := x1.cell 3 rfl
  have IW : Hid (∀ W : World, Calls Try.prog 30 #[.int .i64 nd, .int .i64 0, .int .i64 ((us.length : Int) - 1)] W fun e w' => e = .returned (.bool (decide (0 ≤ nd ∧ nd < us.length))) ∧ W = w') := fun W => by
    have h := within7_any nd 0 ((us.length : Int) - 1) W
    rw [show decide (0 ≤ nd ∧ nd ≤ (us.length : Int) - 1) = decide (0 ≤ nd ∧ nd < us.length) from by rw [decide_eq_decide]; omega] at h
    exact h
  have II : Hid (∀ W : World, Calls Try.prog 31 #[.int .i64 id] W fun e w' => e = .returned (.bool (decide (0 ≤ id ∧ id < 6))) ∧ W = w') := fun W => isId_any id W
  by_cases hnd : 0 ≤ nd ∧ nd < us.length
  case neg =>
    have hF : Hid (V1 = false) := by show _ = _; rw [← H1.out, decide_eq_false hnd]; rfl
    have hF0 : Hid (V0 = false) := by show _ = _; rw [← H0.out, hF.out]; rfl
    rw [decide_eq_false hnd] at IW
    clear H1 H0 OW2 HK HS x1 II hnd
    go_wp2_with fail
    refine Calls.mono (IW.out w1) ?_
    rintro e w2 ⟨rfl, rfl⟩
    clear IW
    go_wp2
    exact bodyPost_ret (v := .tuple #[.bool false, .bool false]) (by simp [results, Try.results11, go_sem]) rfl ⟨by rw [hF.out, hF0.out], hB1⟩
  rw [decide_eq_true hnd] at IW H1
  obtain ⟨i, rfl⟩ : ∃ i : Nat, nd = (i : Int) := ⟨nd.toNat, by omega⟩
  rw [Int.toNat_natCast] at H0
  have hiu : i < us.length := by omega
  clear hnd
  by_cases hid : 0 ≤ id ∧ id < 6
  case neg =>
    have hF : Hid (V1 = false) := by show _ = _; rw [← H1.out, decide_eq_false hid]; rfl
    have hF0 : Hid (V0 = false) := by show _ = _; rw [← H0.out, hF.out]; rfl
    rw [decide_eq_false hid] at II
    clear H1 H0 OW2 HK HS x1 hid
    go_wp2_with fail
    refine Calls.mono (IW.out w1) ?_
    rintro e w2 ⟨rfl, rfl⟩
    clear IW
    go_wp2_with fail
    refine Calls.mono (II.out w1) ?_
    rintro e w2 ⟨rfl, rfl⟩
    clear II
    go_wp2
    exact bodyPost_ret (v := .tuple #[.bool false, .bool false]) (by simp [results, Try.results11, go_sem]) rfl ⟨by rw [hF.out, hF0.out], hB1⟩
  have hV : Hid (V1 = true) := by show _ = _; rw [← H1.out, decide_eq_true hid]; rfl
  rw [decide_eq_true hid] at II
  have hik : i < ks.length := by have := hkl.out; omega
  have R1 : Hid _ := fun W hW => HS.out W i hik hW
  have R2 : Hid _ := fun W hW => OW2.out W i hiu hW
  obtain ⟨b1, off1, rfl, hlt1, c0, c1, c2, -⟩ := (HK.out w1 hB1).at hik
  have H2 : Hid ((EG.hasB (CG.sd S i).1 id || CG.owed S id 8 i) = V0) := by show _ = _; rw [← H0.out, hV.out]; rfl
  obtain ⟨r1, hr1⟩ : ∃ r, EG.hasB (CG.sd S i).1 id = r := ⟨_, rfl⟩
  obtain ⟨r2, hr2⟩ : ∃ r, CG.owed S id 8 i = r := ⟨_, rfl⟩
  rw [hr1, hr2] at H2
  simp only [hr1] at R1
  simp only [hr2] at R2
  clear hr1 hr2 HS OW2 HK H1 H0 hid
  generalize KP.at_ ks i = p at *
  obtain ⟨ss, hs, ts, sa, ha, ta, sc, hc, tc⟩ := p
  simp only at c0 c1 c2
  go_wp2_with fail
  refine Calls.mono (IW.out w1) ?_
  rintro e w2 ⟨rfl, rfl⟩
  clear IW
  go_wp2_with fail
  refine Calls.mono (II.out w1) ?_
  rintro e w2 ⟨rfl, rfl⟩
  clear II
  go_wp2_with fail
  refine Calls.mono (R1.out w1 hB1) ?_
  rintro e w2 ⟨rfl, hb⟩
  have hB2 := hB1.trans (hb.mono hB1.size)
  have x2 := x1.below hb x1.lt
  clear R1 hb a0 a1 a2 a3 c0 c1 c2 x1 hB1
  cases r1
  case true =>
    have hF0 : Hid (V0 = true) := by show _ = _; rw [← H2.out]; rfl
    clear H2 R2 x2
    go_wp2
    exact bodyPost_ret (v := .tuple #[.bool true, .bool true]) (by simp [results, Try.results11, go_sem]) rfl ⟨by rw [hV.out, hF0.out], hB2⟩
  case false =>
    have hF0 : Hid (V0 = r2) := by show _ = _; rw [← H2.out]; rfl
    have a0 := x2.cell 0 rfl
    have a1 := x2.cell 1 rfl
    have a2 := x2.cell 2 rfl
    have a3 := x2.cell 3 rfl
    clear H2 x2
    go_wp2_with fail
    refine Calls.mono (R2.out w2 hB2) ?_
    rintro e w3 ⟨rfl, hb⟩
    have hB3 := hB2.trans (hb.mono hB2.size)
    clear R2 hb a0 a1 a2 a3 hB2
    go_wp2
    exact bodyPost_ret (v := .tuple #[.bool r2, .bool true]) (by simp [results, Try.results11, go_sem]) rfl ⟨by rw [hV.out, hF0.out], hB3⟩
end Go.Proofs.Ytfkmnmiolnijaaa

/- The law FnExactSafeFor answers true, whatever the custody. -/
namespace Go.Proofs.Ytfkmnmiolnijaaa
open Go.RowKit
set_option linter.unusedSimpArgs false in
set_option maxHeartbeats 3200000 in
set_option maxRecDepth 100000 in
theorem lawSafe_any (c : Cu) (nd id : Int) (w : World) (hc : CuAt w c) (hp : c.us.length ≤ maxLen ∧ c.ks.length ≤ maxLen ∧ c.ls.length ≤ maxLen ∧ c.ns.length ≤ maxLen) :
    Calls Try.prog 4 #[c.v, .int .i64 nd, .int .i64 id] w fun e w' => e = .returned (.bool true) ∧ Below w.heap.size w w' := by
  have SZ : Hid (∀ W : World, Below w.heap.size w W → Calls Try.prog 5 #[c.v, .int .i64 1048576] W fun e w' => ∃ r : Int, e = .returned (.int .i64 r) ∧ (r < 0 ∨ (0 ≤ r ∧ r ≤ 1048576 ∧ CuLen c)) ∧ Below W.heap.size W w') := fun W h => szCustody_any c W 1048576 (by omega) (by omega) (hc.below h) hp
  have TC : Hid (CuLen c → ∀ W : World, Below w.heap.size w W → Calls Try.prog 7 #[c.v] W fun e w' => ∃ d : Cu, e = .returned d.v ∧ (d.said = c.said ∧ CuLen d ∧ CuAt w' d) ∧ Below W.heap.size W w') := fun lc W h => (toCustody_any c W (hc.below h) lc).mono (by rintro e w' ⟨d, rfl, h1, h2, h3⟩; exact ⟨d, rfl, ⟨h1, lc.of_said h1, h2⟩, h3⟩)
  obtain ⟨S, hS⟩ : ∃ S, c.said = S := ⟨_, rfl⟩
  obtain ⟨G, hG⟩ : ∃ G, CG.safeB S nd id = G := ⟨_, rfl⟩
  obtain ⟨G2, hG2⟩ : ∃ G, CG.safeOk S nd id = G := ⟨_, rfl⟩
  have SG : Hid (∀ (d : Cu) (W : World), d.said = S → CuLen d → CuAt W d → Calls Try.prog 10 #[d.v, .int .i64 nd, .int .i64 id] W fun e w' => e = .returned (.tuple #[.bool G, .bool G2]) ∧ Below W.heap.size W w') := fun d W h1 h2 h3 => by
    have h := specSafe_any d nd id W h3 h2
    rw [h1, hG, hG2] at h
    exact h
  have IG : Hid (∀ (d : Cu) (W : World), d.said = S → CuLen d → CuAt W d → Calls Try.prog 11 #[d.v, .int .i64 nd, .int .i64 id] W fun e w' => e = .returned (.tuple #[.bool G, .bool G2]) ∧ Below W.heap.size W w') := fun d W h1 h2 h3 => by
    have h := implSafe_any d nd id W h3 h2
    rw [h1, hG, hG2] at h
    exact h
  clear hG hG2
  have EQ : Hid (∀ (d d' : Cu) (W : World), d.said = S → d'.said = S → CuLen d → CuLen d' → CuAt W d → CuAt W d' → Calls Try.prog 9 #[d.v, d'.v] W fun e w' => e = .returned (.bool true) ∧ Below W.heap.size W w') := fun d d' W h1 h2 h3 h4 h5 h6 => by
    have h := eqCustody_any d d' W h5 h6 h3 h4
    rw [h1, h2, decide_eq_true rfl] at h
    exact h
  rw [hS] at TC
  clear hS hc hp
  obtain ⟨us, ks, ls, ns, ua, ka, la, na, uc, kc, lcc, nc⟩ := c
  have hB0 : Below w.heap.size w (w.alloc (.cells #[.slice ua us.length uc, .slice ka ks.length kc, .slice la ls.length lcc, .slice na ns.length nc] 26)) := (Below.refl _ w).alloc (Nat.le_refl _) _
  have x0 : BxN (w.alloc (.cells #[.slice ua us.length uc, .slice ka ks.length kc, .slice la ls.length lcc, .slice na ns.length nc] 26)) w.heap.size [.slice ua us.length uc, .slice ka ks.length kc, .slice la ls.length lcc, .slice na ns.length nc] 26 := BxN.new w _ _ rfl
  go_enter Try.func4, Try.ntmps4
  go_wp2_with fail
  generalize w.alloc (.cells #[.slice ua us.length uc, .slice ka ks.length kc, .slice la ls.length lcc, .slice na ns.length nc] 26) = W0 at *
  refine (SZ.out W0 hB0).mono ?_
  rintro e w1 ⟨l0, rfl, hr, hb⟩
  have hB1 := hB0.trans (hb.mono hB0.size)
  have x1 := x0.below hb x0.lt
  clear SZ hb x0 hB0
  by_cases h0 : l0 < 0
  · clear hr TC SG IG EQ x1
    go_wp2
    go_ret
    exact ⟨rfl, hB1⟩
  have lc := (hr.resolve_left (by omega)).2.2
  have TC1 : Hid _ := TC.out lc
  clear hr TC lc
  have a0 := x1.cell 0 rfl
  have a1 := x1.cell 1 rfl
  have a2 := x1.cell 2 rfl
  have a3 := x1.cell 3 rfl
  go_wp2_with fail
  refine Calls.mono (TC1.out w1 hB1) ?_
  rintro e w2 ⟨d1, rfl, ⟨s1, n1, t1⟩, hb⟩
  have hB2 := hB1.trans (hb.mono hB1.size)
  have x2 := x1.below hb x1.lt
  clear hb a0 a1 a2 a3 x1
  have S1 : Hid _ := SG.out d1 w2 s1 n1 t1
  clear s1 n1 t1 SG
  obtain ⟨d1u, d1k, d1l, d1n, d1ua, d1ka, d1la, d1na, d1uc, d1kc, d1lc, d1nc⟩ := d1
  go_wp2_with fail
  refine Calls.mono S1.out ?_
  rintro e w3 ⟨rfl, hb⟩
  have hB3 := hB2.trans (hb.mono hB2.size)
  have x3 := x2.below hb x2.lt
  clear S1 hb x2 hB1 hB2
  have a0 := x3.cell 0 rfl
  have a1 := x3.cell 1 rfl
  have a2 := x3.cell 2 rfl
  have a3 := x3.cell 3 rfl
  go_wp2_with fail
  refine Calls.mono (TC1.out w3 hB3) ?_
  rintro e w4 ⟨d2, rfl, ⟨s2, n2, t2⟩, hb⟩
  have hB4 := hB3.trans (hb.mono hB3.size)
  have x4 := x3.below hb x3.lt
  clear hb a0 a1 a2 a3 x3 hB3
  have IG2 : Hid _ := fun W h => IG.out d2 W s2 n2 (t2.below h)
  have EQ2 : Hid _ := fun d' W h2 h4 h6 h => EQ.out d2 d' W s2 h2 n2 h4 (t2.below h) h6
  clear s2 n2 t2 IG EQ
  obtain ⟨d2u, d2k, d2l, d2n, d2ua, d2ka, d2la, d2na, d2uc, d2kc, d2lc, d2nc⟩ := d2
  have hB5 : Below w.heap.size w (w4.alloc (.cells #[.slice d2ua d2u.length d2uc, .slice d2ka d2k.length d2kc, .slice d2la d2l.length d2lc, .slice d2na d2n.length d2nc] 32)) := hB4.alloc hB4.size _
  have hb5 : Below w4.heap.size w4 (w4.alloc (.cells #[.slice d2ua d2u.length d2uc, .slice d2ka d2k.length d2kc, .slice d2la d2l.length d2lc, .slice d2na d2n.length d2nc] 32)) := (Below.refl _ _).alloc (Nat.le_refl _) _
  have x5 := x4.alloc (.cells #[.slice d2ua d2u.length d2uc, .slice d2ka d2k.length d2kc, .slice d2la d2l.length d2lc, .slice d2na d2n.length d2nc] 32)
  have y5 : BxN (w4.alloc (.cells #[.slice d2ua d2u.length d2uc, .slice d2ka d2k.length d2kc, .slice d2la d2l.length d2lc, .slice d2na d2n.length d2nc] 32)) w4.heap.size [.slice d2ua d2u.length d2uc, .slice d2ka d2k.length d2kc, .slice d2la d2l.length d2lc, .slice d2na d2n.length d2nc] 32 := BxN.new w4 _ _ rfl
  clear x4 hB4
  go_wp2_with fail
  generalize w4.alloc (.cells #[.slice d2ua d2u.length d2uc, .slice d2ka d2k.length d2kc, .slice d2la d2l.length d2lc, .slice d2na d2n.length d2nc] 32) = W5 at *
  refine Calls.mono (IG2.out W5 hb5) ?_
  rintro e w6 ⟨rfl, hb⟩
  have hB6 := hB5.trans (hb.mono hB5.size)
  have hb6 := hb5.trans (hb.mono hb5.size)
  have x6 := x5.below hb x5.lt
  have y6 := y5.below hb y5.lt
  clear hb IG2 x5 y5 hB5 hb5
  have LD : Hid (∀ W : World, Below w6.heap.size w6 W → W.cell? ⟨w4.heap.size, 0, none⟩ = some (.slice d2ua d2u.length d2uc) ∧ W.cell? ⟨w4.heap.size, 1, none⟩ = some (.slice d2ka d2k.length d2kc) ∧ W.cell? ⟨w4.heap.size, 2, none⟩ = some (.slice d2la d2l.length d2lc) ∧ W.cell? ⟨w4.heap.size, 3, none⟩ = some (.slice d2na d2n.length d2nc) ∧
      W.cell? ⟨w.heap.size, 0, none⟩ = some (.slice ua us.length uc) ∧ W.cell? ⟨w.heap.size, 1, none⟩ = some (.slice ka ks.length kc) ∧ W.cell? ⟨w.heap.size, 2, none⟩ = some (.slice la ls.length lcc) ∧ W.cell? ⟨w.heap.size, 3, none⟩ = some (.slice na ns.length nc)) := fun W h =>
    ⟨(y6.below h y6.lt).cell 0 rfl, (y6.below h y6.lt).cell 1 rfl, (y6.below h y6.lt).cell 2 rfl, (y6.below h y6.lt).cell 3 rfl, (x6.below h x6.lt).cell 0 rfl, (x6.below h x6.lt).cell 1 rfl, (x6.below h x6.lt).cell 2 rfl, (x6.below h x6.lt).cell 3 rfl⟩
  have hq6 : w4.heap.size < w6.heap.size := y6.lt
  clear x6 y6
  generalize w4.heap.size = q at *
  cases G <;> cases G2
  all_goals (
    go_wp2_with fail
    refine MR.frame fun A hA => ?_
    have hsz : A.tmps.size = 48 := by rw [hA]; rfl
    have e10 : A.eval (.tmp 10) = .pointer (some ⟨q, 0, none⟩) := by rw [hA]; rfl
    have f10 := MR.read (t := 10) (by rw [hsz]; decide) e10
    have e3 : A.eval (.tmp 3) = .pointer (some ⟨w.heap.size, 0, none⟩) := by rw [hA]; rfl
    have f3 := MR.read (t := 3) (by rw [hsz]; decide) e3
    have HA : Hid (A = _) := hA
    clear hA
    have hS : (fun W => Below w6.heap.size w6 W) (World.drew _) := (Below.refl _ w6).drew
    refine wp_region_held (S := fun W => Below w6.heap.size w6 W) (by kernel_rfl) ?_
    change wpAnyH _ _ _ _ _ _ _ _ (World.drew _)
    refine MR.takeH (i := 0) (some 43) (.agg #[.slice d2ua d2u.length d2uc, .slice d2ka d2k.length d2kc, .slice d2la d2l.length d2lc, .slice d2na d2n.length d2nc]) rfl rfl (by kernel_rfl) (by kernel_rfl) (by kernel_rfl) (fun _ _ _ h => h) hS (MR.free rfl) (fun wq hw => by simp [execOp, MR.ev, MR.size, hsz, e10, f10, e3, f3, (LD.out wq hw).1, (LD.out wq hw).2.1, (LD.out wq hw).2.2.1, (LD.out wq hw).2.2.2.1, go_sem]) ?_
    refine MR.takeH (i := 1) (some 44) (.agg #[.slice ua us.length uc, .slice ka ks.length kc, .slice la ls.length lcc, .slice na ns.length nc]) rfl rfl (by kernel_rfl) (by kernel_rfl) (by kernel_rfl) (fun _ _ _ h => h) hS (MR.free rfl) (fun wq hw => by simp [execOp, MR.ev, MR.size, hsz, e10, f10, e3, f3, (LD.out wq hw).2.2.2.2.1, (LD.out wq hw).2.2.2.2.2.1, (LD.out wq hw).2.2.2.2.2.2.1, (LD.out wq hw).2.2.2.2.2.2.2, go_sem]) ?_
    refine MR.callH (i := 2) (some 45) (7) (#[.agg #[.slice ua us.length uc, .slice ka ks.length kc, .slice la ls.length lcc, .slice na ns.length nc]]) (by kernel_rfl) rfl rfl (MR.free rfl) (by simp [execOp, MR.ev, MR.size, hsz, e10, f10, e3, f3, go_sem]) ?_
    refine Calls.mono (TC1.out _ (hB6.trans (hS.mono hB6.size))) ?_
    rintro e wn ⟨d3, rfl, ⟨s3, n3, t3⟩, hbn⟩
    have hS2 : Below w6.heap.size w6 wn := hS.trans (hbn.mono hS.size)
    refine ⟨_, rfl, hS2, ?_⟩
    have E3 : Hid _ := EQ2.out d3 wn s3 n3 t3 (hb6.trans (hS2.mono (Nat.le_of_lt hq6)))
    clear s3 n3 t3
    obtain ⟨d3u, d3k, d3l, d3n, d3ua, d3ka, d3la, d3na, d3uc, d3kc, d3lc, d3nc⟩ := d3
    refine MR.callH (i := 3) (some 46) (9) (#[.agg #[.slice d2ua d2u.length d2uc, .slice d2ka d2k.length d2kc, .slice d2la d2l.length d2lc, .slice d2na d2n.length d2nc], .agg #[.slice d3ua d3u.length d3uc, .slice d3ka d3k.length d3kc, .slice d3la d3l.length d3lc, .slice d3na d3n.length d3nc]]) (by kernel_rfl) rfl rfl (MR.free rfl) (by simp [execOp, MR.ev, MR.size, hsz, e10, f10, e3, f3, go_sem]) ?_
    refine Calls.mono E3.out ?_
    rintro e wm ⟨rfl, hbm⟩
    have hS3 : Below w6.heap.size w6 wm := hS2.trans (hbm.mono hS2.size)
    refine ⟨_, rfl, hS3, ?_⟩
    refine MR.takeH (i := 4) (some 47) (.bool false) rfl rfl (by kernel_rfl) (by kernel_rfl) (by kernel_rfl) (fun _ _ _ h => h) hS3 (MR.free rfl) (fun wq hw => by simp [execOp, MR.ev, MR.size, hsz, e10, f10, e3, f3, go_sem]) ?_
    refine wpAnyH_done (by kernel_rfl) ?_ _
    rw [HA.out]
    simp only [Act.put, List.setIfInBounds_toArray, List.set_cons_succ, List.set_cons_zero]
    have hbb := hB6.trans (hS3.mono hB6.size)
    clear HA hsz e10 f10 e3 f3 hS hS2 hS3 hbn hbm E3 EQ2 TC1 LD
    go_wp2
    go_ret
    exact ⟨rfl, hbb⟩)
end Go.Proofs.Ytfkmnmiolnijaaa
