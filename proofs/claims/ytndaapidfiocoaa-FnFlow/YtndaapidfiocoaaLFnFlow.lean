import Derived.Test.YtndaapidfiocoaaRows
import Derived.Test.YtndaapidfiocoaaCHasI
import Derived.WalkKit
import Derived.WalkSpells
import Derived.WalkLawsBesides
import Derived.Outline
import Derived.Test.YtndaapidfiocoaaM4
import Derived.Deep.QuietTactic
import Derived.BigQuiet
import Derived.Test.YtndaapidfiocoaaCDrawM
import Derived.Test.YtndaapidfiocoaaMFF
import Derived.Test.YtndaapidfiocoaaCMaxI
import Derived.Test.YtndaapidfiocoaaCMaxFS
import Derived.Test.YtndaapidfiocoaaCMinI
import Derived.Test.YtndaapidfiocoaaCMinS
import Derived.Test.YtndaapidfiocoaaCOnceI
import Derived.Test.YtndaapidfiocoaaCFlow
import Derived.Test.YtndaapidfiocoaaCCutSize
import Derived.Test.YtndaapidfiocoaaCPipes
import Derived.Test.YtndaapidfiocoaaCPipesI
/- The laws' has: whether a number is in a row. -/
namespace Go.Proofs.Ytndaapidfiocoaa
open Go.RowKit
set_option maxHeartbeats 1600000 in
set_option maxRecDepth 100000 in
theorem hasL_any (a : Option Addr) (cap : Nat) (zs : List Int) (x : Int) (w : World) (ho : zs.length ≤ 1048576) (hos : M4.IntsAt w a zs) :
    Calls Try.prog 17 #[.slice a zs.length cap, .int .i64 x] w fun e w' => e = .returned (.bool (EG.hasB zs x)) ∧ w = w' := by
  go_enter Try.func17, Try.ntmps17
  go_wp2
  go_loopw [9] (fun iv wr => ∃ k : Nat, iv = .int .i64 k ∧ k ≤ zs.length ∧ Hid (EG.noUp zs x k) ∧ w = wr) (fun iv _ => (zs.length - intOf iv).toNat)
  case atStart => exact ⟨0, rfl, by omega, show Hid _ from fun j hj => by omega, rfl⟩
  case round =>
    obtain ⟨k, rfl, hk, hT, rfl⟩ := hrel
    by_cases hlk : k < zs.length
    · obtain ⟨b1, off1, rfl, hlt1, hc1⟩ := hos.at hlk
      have HY : Hid _ := fun h => EG.hasB_yes (x := x) hlk h
      have HN : Hid _ := fun h => EG.noUp_succ hT.out (k := k) h
      clear hos hT
      generalize zs.getD k 0 = y at *
      by_cases hxy : y = x
      · have hF : Hid _ := HY.out hxy
        subst hxy
        clear HY HN
        go_wp2
        go_ret
        exact ⟨retB7 hF.out.symm, rfl⟩
      · have hT : Hid _ := HN.out hxy
        clear HY HN
        go_wp2
        go_roundw
        case rel => exact ⟨k + 1, by go_num, by omega, hT, trivial⟩
        case measure => simp [intOf]; omega
    · obtain rfl : k = zs.length := by omega
      have hF : Hid _ := EG.hasB_no hT.out
      clear hos hT
      go_wp2
      go_ret
      exact ⟨retB7 hF.out.symm, rfl⟩
end Go.Proofs.Ytndaapidfiocoaa

/- The laws' sameInts tells whether two slices hold the same numbers. -/
namespace Go.Proofs.Ytndaapidfiocoaa
open Go.RowKit
set_option maxHeartbeats 800000 in
set_option maxRecDepth 100000 in
theorem sameInts_any (a b : Option Addr) (ca cb : Nat) (xs ys : List Int) (w : World) (hx : xs.length ≤ 140737488355328) (hy : ys.length ≤ 140737488355328) (hax : M4.IntsAt w a xs) (hay : M4.IntsAt w b ys) :
    Calls Try.prog 10 #[.slice a xs.length ca, .slice b ys.length cb] w fun e w' => e = .returned (.bool (decide (xs = ys))) ∧ Below w.heap.size w w' := by
  by_cases hl : xs.length = ys.length
  · have hne : ((xs.length : Int) != (ys.length : Int)) = false := by simp [hl]
    have l1 : xs.length ≤ ys.length := by omega
    have HL : Hid (xs.length = ys.length) := hl
    clear hl
    go_enter Try.func10, Try.ntmps10
    go_wp2
    go_loopw [5, 13] (fun _ iv wr => ∃ k : Nat, iv = .int .i64 k ∧ k ≤ xs.length ∧ Hid (xs.take k = ys.take k) ∧ Below w.heap.size w wr) (fun _ iv _ => (xs.length - intOf iv).toNat)
    case atStart => exact ⟨0, rfl, by omega, rfl, Below.refl _ _⟩
    case round =>
      obtain ⟨k, rfl, hk, hT, hb⟩ := hrel
      by_cases hl : k < xs.length
      · have hly : k < ys.length := by omega
        obtain ⟨b1, off1, rfl, hlt1, hc1⟩ := (hax.below hb).at hl
        obtain ⟨b2, off2, rfl, hlt2, hc2⟩ := (hay.below hb).at hly
        clear hax hay
        obtain ⟨x, hx'⟩ : ∃ x, x = xs.getD k 0 := ⟨_, rfl⟩
        obtain ⟨y, hy'⟩ : ∃ y, y = ys.getD k 0 := ⟨_, rfl⟩
        rw [← hx'] at hc1
        rw [← hy'] at hc2
        have HX : Hid (x = xs.getD k 0) := hx'
        have HY : Hid (y = ys.getD k 0) := hy'
        clear hx' hy'
        by_cases hxy : x = y
        · have hT' : Hid (xs.take (k + 1) = ys.take (k + 1)) := by
            show _ = _
            rw [M4.take_snoc xs k hl, M4.take_snoc ys k hly, hT.out, ← HX.out, ← HY.out, hxy]
          subst hxy
          go_wp2
          go_quiet (fail)
          go_wp2
          go_roundw
          case rel => exact ⟨k + 1, by go_num, by omega, hT', below_drewN hb _⟩
          case measure => simp [intOf]; omega
        · have hbe : (x != y) = true := by simp [hxy]
          have hF : Hid (decide (xs = ys) = false) := by
            show _ = _
            simp only [decide_eq_false_iff_not]
            exact M4.take_ne xs ys k (by rw [← HX.out, ← HY.out]; exact hxy)
          clear hxy
          go_wp2
          go_quiet (fail)
          go_wp2
          go_ret
          exact ⟨M4.ret_bool hF.out.symm, below_drewN hb _⟩
      · obtain rfl : k = xs.length := by omega
        have hF : Hid (decide (xs = ys) = true) := by
          show _ = _
          simp only [decide_eq_true_eq]
          exact M4.take_eq xs ys HL.out hT.out
        go_wp2
        go_ret
        exact ⟨M4.ret_bool hF.out.symm, hb⟩
  · have hne : ((xs.length : Int) != (ys.length : Int)) = true := by simp; omega
    have hF : Hid (decide (xs = ys) = false) := by
      show _ = _
      simp only [decide_eq_false_iff_not]
      exact fun e => hl (by rw [e])
    clear hl
    go_enter Try.func10, Try.ntmps10
    go_wp2
    go_ret
    exact ⟨M4.ret_bool hF.out.symm, Below.refl _ _⟩
end Go.Proofs.Ytndaapidfiocoaa

/- The law FnFlow answers true at every argument (laid by tools/gen_lfnflow.py). -/
namespace Go.Proofs.Ytndaapidfiocoaa
open Go.RowKit
namespace FL
/-- The nodes of another side, below x. -/
structure Oth (f t : Int) (x : Nat) (os : List Int) : Prop where
  up : LK.Up os
  lt : ∀ u ∈ os, 0 ≤ u ∧ u < (x : Int)
  hf : f < (x : Int) → f ∈ os
  ht : t ∉ os
theorem Oth.start {f t : Int} (hf : 0 ≤ f) : Oth f t 0 [] := ⟨List.Pairwise.nil, fun _ h => by simp at h, fun h => by simp at h; omega, by simp⟩
theorem Oth.put {f t : Int} {x : Nat} {os : List Int} (h : Oth f t x os) (ht : (x : Int) ≠ t) : Oth f t (x + 1) (os ++ [(x : Int)]) := by
  refine ⟨?_, fun u hu => ?_, fun hf => ?_, fun hu => ?_⟩
  · unfold LK.Up
    rw [List.pairwise_append]
    exact ⟨h.up, by simp, fun a ha b hb => by rw [List.mem_singleton.1 hb]; exact (h.lt a ha).2⟩
  · rcases List.mem_append.1 hu with hu | hu
    · have := h.lt u hu; omega
    · rw [List.mem_singleton.1 hu]; omega
  · by_cases e : f < (x : Int)
    · exact List.mem_append.2 (.inl (h.hf e))
    · exact List.mem_append.2 (.inr (List.mem_singleton.2 (by omega)))
  · rcases List.mem_append.1 hu with hu | hu
    · exact h.ht hu
    · exact ht (List.mem_singleton.1 hu).symm
theorem Oth.skip {f t : Int} {x : Nat} {os : List Int} (h : Oth f t x os) (hf : (x : Int) ≠ f) : Oth f t (x + 1) os :=
  ⟨h.up, fun u hu => by have := h.lt u hu; omega, fun e => h.hf (by omega), h.ht⟩
end FL
theorem EG.hasB_memF {zs : List Int} {x : Int} (h : x ∈ zs) : EG.hasB zs x = true := by rw [EG.hasB, decide_eq_true_eq]; exact h
theorem EG.hasB_notF {zs : List Int} {x : Int} (h : x ∉ zs) : EG.hasB zs x = false := by rw [EG.hasB, decide_eq_false_iff_not]; exact h
set_option maxRecDepth 100000 in
theorem cloneN_any (w : World) : Calls Try.prog 40 #[.slice none 0 0] w fun e w' => e = .returned (.slice none 0 0) ∧ w = w' := by
  have hE : ∀ W, Sem.run Try.prog (binOp BinOp.eql 26 (.slice none 0 0) (.slice none 0 0)) W = .ok (.bool true) W := fun W => rfl
  go_enter Try.func40, Try.ntmps40
  go_wp2
  go_ret
  exact ⟨rfl, rfl⟩
theorem augOwn_any (a b : Option Addr) (ca cb base : Nat) (xs : List I3) (fs : List Int) (f t : Int) (w : World) (hn : xs.length ≤ 1048576) (hm : fs.length ≤ 1048576) (hin : MI3.RowAt w a xs) (ho : w.ownsRow base 3 1 (.slice b fs.length cb) fs.length (M4.iv fs)) :
    Calls Try.prog 15 #[.slice a xs.length ca, .int .i64 f, .int .i64 t, .slice b fs.length cb] w fun e w' => ∃ a1 c1, e = .returned (.tuple #[.slice a1 (FL.agL xs f t fs).length c1, .int .i64 (FL.agN xs f t fs), .bool (FL.agB xs f t fs)]) ∧ w'.ownsRow w.heap.size 3 1 (.slice a1 (FL.agL xs f t fs).length c1) (FL.agL xs f t fs).length (M4.iv (FL.agL xs f t fs)) ∧ Below w.heap.size w w' := by
  rcases ho.2 with ⟨hv, h0⟩ | ⟨g, cap, cur, hv, _⟩
  · simp only [Value.slice.injEq] at hv
    obtain ⟨rfl, -, rfl⟩ := hv
    obtain rfl := List.eq_nil_of_length_eq_zero h0
    refine implAugmentG_any a none ca 0 xs [] f t w hn (by simp) hin (.inl rfl) (fun W _ => ?_)
    refine (cloneN_any W).mono ?_
    rintro e w' ⟨rfl, rfl⟩
    exact ⟨none, 0, rfl, World.ownsRow_nil _ _ _ _, Below.refl _ _⟩
  · simp only [Value.slice.injEq] at hv
    obtain ⟨rfl, -, rfl⟩ := hv
    exact implAugment_any a g ca cb xs fs f t w hn hm hin (M4.IntsAt.of_own ho)
set_option linter.unusedSimpArgs false in
set_option maxHeartbeats 3200000 in
set_option maxRecDepth 100000 in
theorem lawFnFlow_any (a b : Option Addr) (zs ys : List Int) (ca cb : Nat) (w : World) (hz : zs.length ≤ 140737488355328) (hy : ys.length ≤ 140737488355328) (hbz : MC.BytesAt w w.heap.size a zs) (hby : MC.BytesAt w w.heap.size b ys) :
    Calls Try.prog 3 #[.slice a zs.length ca, .slice b ys.length cb] w fun e w' => e = .returned (.bool true) ∧ Below w.heap.size w w' := by
  obtain ⟨i0, hi, hz0, hz1, hz2⟩ := info_parts Try.info3
  by_cases h20 : zs.length + ys.length ≤ 1048576
  · have HBY : Hid (∀ W : World, Below w.heap.size w W → MC.BytesAt W W.heap.size b ys) := fun W h => (hby.only (q := w.heap.size) (MC.Only.of_below h) (Nat.le_refl _) (Nat.le_refl _)).up h.size
    clear hby
    go_enter Try.func3, Try.ntmps3
    go_wp2_with fail
    refine (drawMaxFlow_any a zs ca _ hz hbz).mono ?_
    rintro e w1 ⟨a1, c1, xs, f, t, rfl, hx, hR, B1⟩
    clear hbz
    have MI : Hid (∀ W : World, Below w1.heap.size w1 W → _) := fun W h => implMaxFlow_any a1 c1 xs f t W (by omega) (hR.below h)
    have MS : Hid (∀ W : World, Below w1.heap.size w1 W → _) := fun W h => specMaxFlow_any a1 c1 xs f t W (by omega) (hR.below h)
    have CI : Hid (∀ W : World, Below w1.heap.size w1 W → _) := fun W h => implMinCut_any a1 c1 xs f t W (by omega) (hR.below h)
    have CS : Hid (∀ W : World, Below w1.heap.size w1 W → _) := fun W h => specMinCut_any a1 c1 xs f t W (by omega) (hR.below h)
    have GI : Hid (∀ W : World, Below w1.heap.size w1 W → _) := fun W h => implGoodPipes_any a1 c1 xs W (by omega) (hR.below h) _ rfl
    have GS : Hid (∀ W : World, Below w1.heap.size w1 W → _) := fun W h => specGoodPipes_any a1 c1 xs W (by omega) (hR.below h) _ rfl
    have FI : Hid (∀ W : World, Below w1.heap.size w1 W → ∀ b2 c2, M4.IntsAt W b2 (FL.mxL xs f t) → _) := fun W h b2 c2 h2 => implIsFlow_any a1 b2 c1 c2 xs (FL.mxL xs f t) f t W (by omega) (FL.mxL_len xs f t) (hR.below h) h2
    have FO : Hid (∀ W : World, Below w1.heap.size w1 W → ∀ b2 c2, M4.IntsAt W b2 (FL.mxL xs f t) → _) := fun W h b2 c2 h2 => implFlowOf_any a1 b2 c1 c2 xs (FL.mxL xs f t) f t W (by omega) (FL.mxL_len xs f t) (hR.below h) h2
    have AU : Hid (∀ W : World, Below w1.heap.size w1 W → ∀ base b2 c2, World.ownsRow W base 3 1 (.slice b2 (FL.mxL xs f t).length c2) (FL.mxL xs f t).length (M4.iv (FL.mxL xs f t)) → _) := fun W h base b2 c2 h2 => augOwn_any a1 b2 c1 c2 base xs (FL.mxL xs f t) f t W (by omega) (FL.mxL_len xs f t) (hR.below h) h2
    have CZ : Hid (∀ W : World, Below w1.heap.size w1 W → ∀ b2 c2 (os : List Int), os.length ≤ 1048576 → M4.IntsAt W b2 os → _) := fun W h b2 c2 os ho h2 => implCutSize_any a1 b2 c1 c2 xs os W (by omega) ho (hR.below h) h2
    have FC : Hid (FL.ask xs f t = true → FL.FlC xs f t ∧ FL.Ask xs f t) := fun h => ⟨FL.flC h, FL.ask_is h⟩
    have NO : Hid (FL.ask xs f t = false → FL.mxL xs f t = []) := fun h => by simp [FL.mxL, h]
    have hLl := FL.mxL_len xs f t
    have hCl := FL.mcL_len xs f t
    have B0 : Below w1.heap.size w1 w1 := Below.refl _ _
    clear hR
    have MI1 : Hid _ := MI.out w1 B0
    clear MI
    go_wp2_with fail
    refine Calls.mono MI1.out ?_
    rintro e w2 ⟨a2, c2, rfl, o2, b2⟩
    have MS1 : Hid _ := MS.out w2 b2
    clear MI1 MS
    go_wp2_with fail
    refine Calls.mono MS1.out ?_
    rintro e w3 ⟨a3, c3, rfl, o3, b3⟩
    have b13 : Below w1.heap.size w1 w3 := b2.trans (b3.mono b2.size)
    have CI1 : Hid _ := CI.out w3 b13
    clear MS1 CI
    go_wp2_with fail
    refine Calls.mono CI1.out ?_
    rintro e w4 ⟨a4, c4, rfl, o4, b4⟩
    have b14 : Below w1.heap.size w1 w4 := b13.trans (b4.mono b13.size)
    have CS1 : Hid _ := CS.out w4 b14
    clear CI1 CS
    go_wp2_with fail
    refine Calls.mono CS1.out ?_
    rintro e w5 ⟨a5, c5, rfl, o5, b5⟩
    have b15 : Below w1.heap.size w1 w5 := b14.trans (b5.mono b14.size)
    have q35 : Below w3.heap.size w3 w5 := b4.trans (b5.mono b4.size)
    have q25 : Below w2.heap.size w2 w5 := b3.trans (q35.mono b3.size)
    have HO2 : Hid (World.ownsRow w5 w1.heap.size 3 1 (.slice a2 (FL.mxL xs f t).length c2) (FL.mxL xs f t).length (M4.iv (FL.mxL xs f t))) := M5.own_below o2 q25
    have I3' := M5.own_ints (M5.own_below o3 q35)
    have I4 := M5.own_ints (M5.own_below o4 b5)
    have I5 := M5.own_ints o5
    have S1 : Hid _ := sameInts_any a2 a3 c2 c3 (FL.mxL xs f t) (FL.mxL xs f t) w5 (by omega) (by omega) (M5.own_ints HO2.out) I3'
    have HI4 : Hid (M4.IntsAt w5 a4 (FL.mcL xs f t)) := I4
    have HI5 : Hid (M4.IntsAt w5 a5 (FL.mcL xs f t)) := I5
    clear CS1 o2 o3 o4 o5 I3' I4 I5 b2 b3 b4 b5 b13 b14 q35 q25
    have BW := B1.trans (b15.mono B1.size)
    generalize hNN : FL.mxN xs f t = N at *
    generalize hDD : FL.mcN xs f t = D at *
    have HNN : Hid _ := hNN
    have HDD : Hid _ := hDD
    clear hNN hDD
    go_wp2_with fail
    refine Calls.mono S1.out ?_
    rintro e w6 ⟨rfl, b6⟩
    have b16 : Below w1.heap.size w1 w6 := b15.trans (b6.mono b15.size)
    have S2 : Hid _ := sameInts_any a4 a5 c4 c5 (FL.mcL xs f t) (FL.mcL xs f t) w6 (by omega) (by omega) (HI4.out.below b6) (HI5.out.below b6)
    have HO6 : Hid (World.ownsRow w6 w1.heap.size 3 1 (.slice a2 (FL.mxL xs f t).length c2) (FL.mxL xs f t).length (M4.iv (FL.mxL xs f t))) := M5.own_below HO2.out b6
    have HI6 : Hid (M4.IntsAt w6 a4 (FL.mcL xs f t)) := HI4.out.below b6
    clear S1 b6 b15 HO2 HI4 HI5 BW
    go_wp2_with fail
    refine Calls.mono S2.out ?_
    rintro e w7 ⟨rfl, b7⟩
    have b17 : Below w1.heap.size w1 w7 := b16.trans (b7.mono b16.size)
    have HO7 : Hid (World.ownsRow w7 w1.heap.size 3 1 (.slice a2 (FL.mxL xs f t).length c2) (FL.mxL xs f t).length (M4.iv (FL.mxL xs f t))) := M5.own_below HO6.out b7
    have HI7 : Hid (M4.IntsAt w7 a4 (FL.mcL xs f t)) := HI6.out.below b7
    have GI1 : Hid _ := GI.out w7 b17
    clear S2 b7 b16 HO6 HI6 GI
    go_wp2_with fail
    refine Calls.mono GI1.out ?_
    rintro e w8 ⟨rfl, b8⟩
    have b18 : Below w1.heap.size w1 w8 := b17.trans (b8.mono b17.size)
    have GS1 : Hid _ := GS.out w8 b18
    have HO8 : Hid (World.ownsRow w8 w1.heap.size 3 1 (.slice a2 (FL.mxL xs f t).length c2) (FL.mxL xs f t).length (M4.iv (FL.mxL xs f t))) := M5.own_below HO7.out b8
    have HI8 : Hid (M4.IntsAt w8 a4 (FL.mcL xs f t)) := HI7.out.below b8
    clear GI1 b8 b17 HO7 HI7 GS
    generalize FL.okP xs = gd at *
    go_wp2_with fail
    refine Calls.mono GS1.out ?_
    rintro e w9 ⟨rfl, b9⟩
    have b19 : Below w1.heap.size w1 w9 := b18.trans (b9.mono b18.size)
    have HO9 : Hid (World.ownsRow w9 w1.heap.size 3 1 (.slice a2 (FL.mxL xs f t).length c2) (FL.mxL xs f t).length (M4.iv (FL.mxL xs f t))) := M5.own_below HO8.out b9
    have HI9 : Hid (M4.IntsAt w9 a4 (FL.mcL xs f t)) := HI8.out.below b9
    clear GS1 b9 b18 HO8 HI8
    cases hask : FL.ask xs f t with
    | false =>
      have hE := NO.out hask
      rw [hE]
      have BW := B1.trans (b19.mono B1.size)
      clear NO FC FI FO AU CZ HO9 HI9 hE hLl hCl hask HNN HDD
      go_wp2
      go_ret
      exact ⟨rfl, BW⟩
    | true =>
      obtain ⟨C, A⟩ := FC.out hask
      have hOT := C.oth
      rw [HNN.out] at hOT
      have HOT : Hid _ := hOT
      clear hOT
      have FI1 : Hid _ := FI.out w9 b19 a2 c2 (M5.own_ints HO9.out)
      rw [C.is, C.ask] at FI1
      have HFL : Hid (FL.flR xs f t (FL.mxL xs f t) = N) := C.fl.trans HNN.out
      have HNO : Hid _ := C.no
      have HOK : Hid _ := C.ok
      have HSZ : Hid (FL.szN xs (FL.mcL xs f t) = N) := C.sz.trans HNN.out
      have HIS : Hid _ := C.is
      have HF1 : Hid _ := EG.hasB_memF C.hf
      have HT1 : Hid _ := EG.hasB_notF C.ht
      have hf0 := A.f0
      have hf7 := A.f7
      have hne := A.ne
      have hDN : D = N := HDD.out.symm.trans (C.mc.trans HNN.out)
      clear HNN HDD
      subst hDN
      clear NO FC C A FI hask
      generalize FL.mxL xs f t = L at *
      generalize FL.mcL xs f t = K at *
      go_wp2_with fail
      refine Calls.mono FI1.out ?_
      rintro e w10 ⟨rfl, b10⟩
      have b110 : Below w1.heap.size w1 w10 := b19.trans (b10.mono b19.size)
      have HO10 : Hid (World.ownsRow w10 w1.heap.size 3 1 (.slice a2 L.length c2) L.length (M4.iv L)) := M5.own_below HO9.out b10
      have HI10 : Hid (M4.IntsAt w10 a4 K) := HI9.out.below b10
      have FO1 : Hid _ := FO.out w10 b110 a2 c2 (M5.own_ints HO10.out)
      rw [HFL.out, HIS.out] at FO1
      clear FI1 b10 b19 HO9 HI9 FO HFL HIS
      go_wp2_with fail
      refine Calls.mono FO1.out ?_
      rintro e w11 ⟨rfl, b11⟩
      have b111 : Below w1.heap.size w1 w11 := b110.trans (b11.mono b110.size)
      have HO11 : Hid (World.ownsRow w11 w1.heap.size 3 1 (.slice a2 L.length c2) L.length (M4.iv L)) := M5.own_below HO10.out b11
      have HI11 : Hid (M4.IntsAt w11 a4 K) := HI10.out.below b11
      have AU1 : Hid _ := AU.out w11 b111 _ a2 c2 HO11.out
      rw [HNO.out] at AU1
      generalize FL.agL xs f t L = AL at *
      generalize FL.agN xs f t L = AN at *
      clear FO1 b11 b110 HO10 HI10 AU HNO
      go_wp2_with fail
      refine Calls.mono AU1.out ?_
      rintro e w12 ⟨a12, c12, rfl, -, b12⟩
      have b112 : Below w1.heap.size w1 w12 := b111.trans (b12.mono b111.size)
      have HI12 : Hid (M4.IntsAt w12 a4 K) := HI11.out.below b12
      have CZ1 : Hid _ := CZ.out w12 b112 a4 c4 K hCl HI12.out
      rw [HSZ.out, HOK.out] at CZ1
      clear AU1 b12 b111 HO11 HI11 HSZ HOK
      go_wp2_with fail
      refine Calls.mono CZ1.out ?_
      rintro e w13 ⟨rfl, b13⟩
      have b113 : Below w1.heap.size w1 w13 := b112.trans (b13.mono b112.size)
      have HI13 : Hid (M4.IntsAt w13 a4 K) := HI12.out.below b13
      have H1 : Hid _ := hasL_any a4 c4 K f w13 hCl HI13.out
      have H2 : Hid _ := hasL_any a4 c4 K t w13 hCl HI13.out
      rw [HF1.out] at H1
      rw [HT1.out] at H2
      clear CZ1 b13 b112 HI12 HF1 HT1 HI13
      go_wp2_with fail
      refine Calls.mono H1.out ?_
      rintro e w14 ⟨rfl, rfl⟩
      clear H1
      go_wp2_with fail
      refine Calls.mono H2.out ?_
      rintro e w14 ⟨rfl, rfl⟩
      clear H2
      have BW := B1.trans (b113.mono B1.size)
      have hs1 := B1.size
      have OS : Hid (FL.Oth f t 0 []) := FL.Oth.start hf0
      have CZ2 : Hid (∀ W : World, Below w13.heap.size w13 W → ∀ b2 c2 (os : List Int), os.length ≤ 1048576 → M4.IntsAt W b2 os → _) := fun W h b2 c2 os h1 h2 => CZ.out W (b113.trans (h.mono b113.size)) b2 c2 os h1 h2
      have HB13 : Hid (MC.BytesAt w13 w13.heap.size b ys) := HBY.out _ BW
      clear CZ b113 HBY B1
      go_wp2
      go_loopw [29, 30] (fun v xv wr => ∃ (x : Nat) (os : List Int), xv = .int .i64 x ∧ x ≤ 8 ∧ os.length ≤ x ∧ Hid (FL.Oth f t x os) ∧ Hid (World.ownsRow wr w13.heap.size 3 1 v os.length (M4.iv os)) ∧ Below w13.heap.size w13 wr) (fun _ xv _ => (8 - intOf xv).toNat)
      case atStart => exact ⟨0, [], rfl, by omega, by simp, OS, World.ownsRow_nil _ _ _ _, Below.refl _ _⟩
      case round =>
        clear OS
        obtain ⟨x, os, rfl, hx8, hol, HO, HOW, hb⟩ := hrel
        rename World => W0
        have hbs := hb.size
        by_cases hl8 : x < 8
        · have x8 : (x : Int) < 8 := by omega
          by_cases hxf : (x : Int) = f
          · have hxfb : ((x : Int) == f) = true := by simp [hxf]
            have PT : Hid (FL.Oth f t (x + 1) (os ++ [(x : Int)])) := HO.out.put (by omega)
            clear HO HOT CZ2 HB13 hxf
            go_wp2_with (at_builtin; go_loud (refine wpList_append_own _ rfl _ _ 26 rfl w13.heap.size 3 i0 (.int .i64 0) 1 8 Try.underlying26 hi hz0 hz1 hz2 rfl (by decide) _ _ _ rfl (World.ownsRow.alloc HOW.out _) ⟨W0.heap.size, 0, none⟩ 1 1 [.int .i64 (x : Int)] rfl rfl ?c1 ?c2 ?c3 ?c4 ?c5 ?_))
            all_goals try (first | rfl | omega | exact M2.new1 _ _ _ | exact M2.one1 _ _ | (unfold maxLen; omega) | (simp; omega))
            intro v' wn hown1 hgrow _
            have R1 : Hid (World.ownsRow wn w13.heap.size 3 1 v' (os ++ [(x : Int)]).length (M4.iv (os ++ [(x : Int)]))) := by
              show World.ownsRow _ _ _ _ _ _ _; simpa [M4.iv] using hown1
            have R3 := (hb.alloc hbs _).grown hgrow (by simp; omega) (fun j hj => (HOW.out.lt j hj).1)
            have hl2 : (os ++ [(x : Int)]).length = os.length + 1 := by simp
            clear hown1 hgrow HOW hb
            generalize os ++ [(x : Int)] = os2 at *
            go_wp2
            go_roundw
            case rel => exact ⟨x + 1, os2, by go_num, by omega, by omega, PT, R1, R3⟩
            case measure => simp [intOf]; omega
          · have hxfb : ((x : Int) == f) = false := by simp [hxf]
            have SK : Hid (FL.Oth f t (x + 1) os) := HO.out.skip hxf
            by_cases hxt : (x : Int) = t
            · have hxtb : ((x : Int) != t) = false := by simp [hxt]
              have hxtb1 : ((x : Int) == t) = true := by simp [hxt]
              clear HO HOT CZ2 HB13 hxf hxt
              go_wp2
              go_roundw
              case rel => exact ⟨x + 1, os, by go_num, by omega, by omega, SK, HOW, hb⟩
              case measure => simp [intOf]; omega
            · have hxtb : ((x : Int) != t) = true := by simp [hxt]
              have hxtb1 : ((x : Int) == t) = false := by simp [hxt]
              have PT : Hid (FL.Oth f t (x + 1) (os ++ [(x : Int)])) := HO.out.put hxt
              by_cases hxy : x < ys.length
              · have xyz : (x : Int) < (ys.length : Int) := by omega
                obtain ⟨bb, ob, z, rfl, hlb, cz, z0, z1⟩ := HB13.out.at hxy
                have cz' := (hb.cell (p := ⟨bb, ob + x, none⟩) hlb).trans cz
                clear HO HOT CZ2 HB13 hxf hxt cz
                by_cases hev : z % 2 = 0
                · have hevb : (z % 2 == 0) = true := by simp [hev]
                  go_wp2_with (at_builtin; (refine wpList_append_own _ rfl _ _ 26 rfl w13.heap.size 3 i0 (.int .i64 0) 1 8 Try.underlying26 hi hz0 hz1 hz2 rfl (by decide) _ _ _ rfl (World.ownsRow.alloc HOW.out _) ⟨W0.heap.size, 0, none⟩ 1 1 [.int .i64 (x : Int)] rfl rfl ?d1 ?d2 ?d3 ?d4 ?d5 ?_))
                  all_goals try (first | rfl | omega | exact M2.new1 _ _ _ | exact M2.one1 _ _ | (unfold maxLen; omega) | (simp; omega))
                  intro v' wn hown1 hgrow _
                  have R1 : Hid (World.ownsRow wn w13.heap.size 3 1 v' (os ++ [(x : Int)]).length (M4.iv (os ++ [(x : Int)]))) := by
                    show World.ownsRow _ _ _ _ _ _ _; simpa [M4.iv] using hown1
                  have R3 := (hb.alloc hbs _).grown hgrow (by simp; omega) (fun j hj => (HOW.out.lt j hj).1)
                  have hl2 : (os ++ [(x : Int)]).length = os.length + 1 := by simp
                  clear hown1 hgrow HOW hb
                  generalize os ++ [(x : Int)] = os2 at *
                  go_wp2
                  go_roundw
                  case rel => exact ⟨x + 1, os2, by go_num, by omega, by omega, PT, R1, R3⟩
                  case measure => simp [intOf]; omega
                · have hevb : (z % 2 == 0) = false := by simp; omega
                  go_wp2
                  go_roundw
                  case rel => exact ⟨x + 1, os, by go_num, by omega, by omega, SK, HOW, hb⟩
                  case measure => simp [intOf]; omega
              · have xyz : ¬ (x : Int) < (ys.length : Int) := by omega
                clear HO HOT CZ2 HB13 hxf hxt
                go_wp2
                go_roundw
                case rel => exact ⟨x + 1, os, by go_num, by omega, by omega, SK, HOW, hb⟩
                case measure => simp [intOf]; omega
        · obtain rfl : x = 8 := by omega
          obtain ⟨oa, oc, hv, hIO⟩ := M5.own_view HOW.out
          have O := HO.out
          obtain ⟨k1, k2⟩ := HOT.out os O.up (fun u hu => by have := O.lt u hu; omega) (O.hf (by omega)) O.ht
          have CZ3 : Hid _ := CZ2.out _ hb oa oc os (by omega) hIO
          rw [k1] at CZ3
          rw [hv]
          have BB := BW.trans (hb.mono BW.size)
          clear O k1 CZ2 HOT HO HOW hIO HB13 hv hb BW
          generalize FL.szN xs os = dd at *
          go_wp2_with fail
          refine Calls.mono CZ3.out ?_
          rintro e w15 ⟨rfl, b15⟩
          have BE := BB.trans (b15.mono BB.size)
          clear CZ3 b15 BB
          go_wp2
          go_ret
          exact ⟨by simp [k2], BE⟩
  · go_enter Try.func3, Try.ntmps3
    go_wp2
    go_ret
    exact ⟨rfl, Below.refl _ _⟩
end Go.Proofs.Ytndaapidfiocoaa
