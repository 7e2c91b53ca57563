import Derived.Test.YtdglialjcibbbaaRows
import Derived.Test.YtdglialjcibbbaaCHasI
import Derived.WalkKit
import Derived.WalkSpells
import Derived.WalkLawsBesides
import Derived.Outline
import Derived.Test.YtdglialjcibbbaaM4
import Derived.Deep.QuietTactic
import Derived.BigQuiet
import Derived.Test.YtdglialjcibbbaaCCut
import Derived.Test.YtdglialjcibbbaaCCutS
import Derived.Test.YtdglialjcibbbaaCKrI
import Derived.Test.YtdglialjcibbbaaCPartsI
import Derived.Test.YtdglialjcibbbaaCForestS
import Derived.Test.YtdglialjcibbbaaCPathK
import Derived.Test.YtdglialjcibbbaaCSort
import Derived.Test.YtdglialjcibbbaaCEdgeE
import Derived.Test.YtdglialjcibbbaaMCQ
/- The laws' has: whether a number is in a row. -/
namespace Go.Proofs.Ytdglialjcibbbaa
open Go.RowKit
set_option maxHeartbeats 1600000 in
set_option maxRecDepth 100000 in
theorem hasL_any (a : Option Addr) (cap : Nat) (zs : List Int) (x : Int) (w : World) (ho : zs.length ≤ 1048576) (hos : M4.IntsAt w a zs) :
    Calls Try.prog 10 #[.slice a zs.length cap, .int .i64 x] w fun e w' => e = .returned (.bool (EG.hasB zs x)) ∧ w = w' := by
  go_enter Try.func10, Try.ntmps10
  go_wp2
  go_loopw [9] (fun iv wr => ∃ k : Nat, iv = .int .i64 k ∧ k ≤ zs.length ∧ Hid (EG.noUp zs x k) ∧ w = wr) (fun iv _ => (zs.length - intOf iv).toNat)
  case atStart => exact ⟨0, rfl, by omega, show Hid _ from fun j hj => by omega, rfl⟩
  case round =>
    obtain ⟨k, rfl, hk, hT, rfl⟩ := hrel
    by_cases hlk : k < zs.length
    · obtain ⟨b1, off1, rfl, hlt1, hc1⟩ := hos.at hlk
      have HY : Hid _ := fun h => EG.hasB_yes (x := x) hlk h
      have HN : Hid _ := fun h => EG.noUp_succ hT.out (k := k) h
      clear hos hT
      generalize zs.getD k 0 = y at *
      by_cases hxy : y = x
      · have hF : Hid _ := HY.out hxy
        subst hxy
        clear HY HN
        go_wp2
        go_ret
        exact ⟨retB7 hF.out.symm, rfl⟩
      · have hT : Hid _ := HN.out hxy
        clear HY HN
        go_wp2
        go_roundw
        case rel => exact ⟨k + 1, by go_num, by omega, hT, trivial⟩
        case measure => simp [intOf]; omega
    · obtain rfl : k = zs.length := by omega
      have hF : Hid _ := EG.hasB_no hT.out
      clear hos hT
      go_wp2
      go_ret
      exact ⟨retB7 hF.out.symm, rfl⟩
end Go.Proofs.Ytdglialjcibbbaa

/- The laws' sameInts tells whether two slices hold the same numbers. -/
namespace Go.Proofs.Ytdglialjcibbbaa
open Go.RowKit
set_option maxHeartbeats 800000 in
set_option maxRecDepth 100000 in
theorem sameInts_any (a b : Option Addr) (ca cb : Nat) (xs ys : List Int) (w : World) (hx : xs.length ≤ 140737488355328) (hy : ys.length ≤ 140737488355328) (hax : M4.IntsAt w a xs) (hay : M4.IntsAt w b ys) :
    Calls Try.prog 8 #[.slice a xs.length ca, .slice b ys.length cb] w fun e w' => e = .returned (.bool (decide (xs = ys))) ∧ Below w.heap.size w w' := by
  by_cases hl : xs.length = ys.length
  · have hne : ((xs.length : Int) != (ys.length : Int)) = false := by simp [hl]
    have l1 : xs.length ≤ ys.length := by omega
    have HL : Hid (xs.length = ys.length) := hl
    clear hl
    go_enter Try.func8, Try.ntmps8
    go_wp2
    go_loopw [5, 13] (fun _ iv wr => ∃ k : Nat, iv = .int .i64 k ∧ k ≤ xs.length ∧ Hid (xs.take k = ys.take k) ∧ Below w.heap.size w wr) (fun _ iv _ => (xs.length - intOf iv).toNat)
    case atStart => exact ⟨0, rfl, by omega, rfl, Below.refl _ _⟩
    case round =>
      obtain ⟨k, rfl, hk, hT, hb⟩ := hrel
      by_cases hl : k < xs.length
      · have hly : k < ys.length := by omega
        obtain ⟨b1, off1, rfl, hlt1, hc1⟩ := (hax.below hb).at hl
        obtain ⟨b2, off2, rfl, hlt2, hc2⟩ := (hay.below hb).at hly
        clear hax hay
        obtain ⟨x, hx'⟩ : ∃ x, x = xs.getD k 0 := ⟨_, rfl⟩
        obtain ⟨y, hy'⟩ : ∃ y, y = ys.getD k 0 := ⟨_, rfl⟩
        rw [← hx'] at hc1
        rw [← hy'] at hc2
        have HX : Hid (x = xs.getD k 0) := hx'
        have HY : Hid (y = ys.getD k 0) := hy'
        clear hx' hy'
        by_cases hxy : x = y
        · have hT' : Hid (xs.take (k + 1) = ys.take (k + 1)) := by
            show _ = _
            rw [M4.take_snoc xs k hl, M4.take_snoc ys k hly, hT.out, ← HX.out, ← HY.out, hxy]
          subst hxy
          go_wp2
          go_quiet (fail)
          go_wp2
          go_roundw
          case rel => exact ⟨k + 1, by go_num, by omega, hT', below_drewN hb _⟩
          case measure => simp [intOf]; omega
        · have hbe : (x != y) = true := by simp [hxy]
          have hF : Hid (decide (xs = ys) = false) := by
            show _ = _
            simp only [decide_eq_false_iff_not]
            exact M4.take_ne xs ys k (by rw [← HX.out, ← HY.out]; exact hxy)
          clear hxy
          go_wp2
          go_quiet (fail)
          go_wp2
          go_ret
          exact ⟨M4.ret_bool hF.out.symm, below_drewN hb _⟩
      · obtain rfl : k = xs.length := by omega
        have hF : Hid (decide (xs = ys) = true) := by
          show _ = _
          simp only [decide_eq_true_eq]
          exact M4.take_eq xs ys HL.out hT.out
        go_wp2
        go_ret
        exact ⟨M4.ret_bool hF.out.symm, hb⟩
  · have hne : ((xs.length : Int) != (ys.length : Int)) = true := by simp; omega
    have hF : Hid (decide (xs = ys) = false) := by
      show _ = _
      simp only [decide_eq_false_iff_not]
      exact fun e => hl (by rw [e])
    clear hl
    go_enter Try.func8, Try.ntmps8
    go_wp2
    go_ret
    exact ⟨M4.ret_bool hF.out.symm, Below.refl _ _⟩
end Go.Proofs.Ytdglialjcibbbaa

/- The law FnCuts answers true at every two rows of bytes. -/
namespace Go.Proofs.Ytdglialjcibbbaa
open Go.RowKit
theorem sameI_self (a b : Option Addr) (ca cb : Nat) (xs : List Int) (w : World) (hx : xs.length ≤ 140737488355328) (hax : M4.IntsAt w a xs) (hay : M4.IntsAt w b xs) :
    Calls Try.prog 8 #[.slice a xs.length ca, .slice b xs.length cb] w fun e w' => e = .returned (.bool true) ∧ Below w.heap.size w w' := by
  have := sameInts_any a b ca cb xs xs w hx hx hax hay
  rwa [show decide (xs = xs) = true by simp] at this
set_option linter.unusedSimpArgs false in
set_option maxHeartbeats 6400000 in
set_option maxRecDepth 100000 in
theorem lawFnCuts_any (a a' : Option Addr) (zs ys : List Int) (ca cb : Nat) (w : World) (hz : zs.length ≤ 140737488355328) (hy : ys.length ≤ 140737488355328) (hbz : MC.BytesAt w w.heap.size a zs) (hby : MC.BytesAt w w.heap.size a' ys) :
    Calls Try.prog 3 #[.slice a zs.length ca, .slice a' ys.length cb] w fun e w' => e = .returned (.bool true) ∧ Below w.heap.size w w' := by
  by_cases h20 : zs.length + ys.length ≤ 1048576
  · have HBY : Hid (∀ W : World, Below w.heap.size w W → MC.BytesAt W W.heap.size a' ys) := fun W h => (hby.only (q := w.heap.size) (MC.Only.of_below h) (Nat.le_refl _) (Nat.le_refl _)).up h.size
    clear hby
    go_enter Try.func3, Try.ntmps3
    go_wp2_with fail
    refine Calls.mono (drawCutOf_any a zs ca _ hz hbz) ?_
    rintro e W ⟨a1, c1, xs, a2, c2, os, rfl, hxl, hol, hX, hO, BW0⟩
    have HB0 : Hid _ := BW0
    have P1 : Hid _ := implCut_any a1 a2 c1 c2 xs os W (by omega) (by omega) hX hO
    have P2 : Hid (∀ V : World, Below W.heap.size W V → _) := fun V h => specCut_any a1 a2 c1 c2 xs os V (by omega) (by omega) (hX.below h) (M4.IntsAt.below hO h)
    have P3 : Hid (∀ V : World, Below W.heap.size W V → _) := fun V h => implKruskal_any a1 c1 xs V (by omega) (hX.below h)
    have HX : Hid _ := hX
    have HQ : Hid (EG.cutOk xs os = true → EG.okP xs = true ∧ EG.CQ xs (EG.cutL xs os) (EG.kruL xs)) := fun h => EG.cq_of h
    have hcl := EG.cutL_len xs os
    have hkl := EG.kruL_len xs
    generalize EG.cutL xs os = C at *
    generalize EG.cutOk xs os = G at *
    generalize EG.kruL xs = KL at *
    generalize EG.kruC xs = KC at *
    generalize EG.okP xs = OP at *
    clear hbz BW0 hX hO
    go_wp2_with fail
    refine Calls.mono P1.out ?_
    rintro e w2 ⟨a3, c3, rfl, o3, b3⟩
    have I3 : Hid (M4.IntsAt w2 a3 C) := M5.own_ints o3
    have B3 : Hid _ := b3
    clear P1 o3 b3
    go_wp2_with fail
    refine Calls.mono (P2.out _ B3.out) ?_
    rintro e w3 ⟨a4, c4, rfl, o4, b4⟩
    have I34 : Hid (M4.IntsAt w3 a3 C) := M4.IntsAt.below I3.out b4
    have SI0 : Hid _ := sameI_self a3 a4 c3 c4 C w3 (by omega) I34.out (M5.own_ints o4)
    have B4 : Hid (Below W.heap.size W w3) := B3.out.trans (b4.mono B3.out.size)
    clear P2 o4 b4 B3 I3
    have egg : (G != G) = false := by simp
    go_wp2_with fail
    refine Calls.mono SI0.out ?_
    rintro e w4 ⟨rfl, b5⟩
    have I4 : Hid (M4.IntsAt w4 a3 C) := M4.IntsAt.below I34.out b5
    have B5 : Hid (Below W.heap.size W w4) := B4.out.trans (b5.mono B4.out.size)
    have BW4 : Hid (Below w.heap.size w w4) := HB0.out.trans (B5.out.mono HB0.out.size)
    clear SI0 b5 B4 I34 egg
    cases G with
    | false =>
      have BW : Hid (Below w.heap.size w w4) := BW4.out
      clear P3 HX HQ I4 B5 BW4 HB0 hcl hkl hol
      go_wp2_with fail
      refine Calls.mono (drawPartsOf_any a' ys cb _ hy (HBY.out _ BW.out)) ?_
      rintro e v1 ⟨m1, n1, ms, m2, n2, so, rfl, hms, hso, hM, hSo, d1⟩
      have D1 : Hid (Below w.heap.size w v1) := BW.out.trans (d1.mono BW.out.size)
      have Q1 : Hid _ := implParts_any sortsI m1 m2 n1 n2 ms so v1 (by omega) (by omega) hM hSo
      have Q2 : Hid (∀ V : World, Below v1.heap.size v1 V → _) := fun V h => specParts_any m1 m2 n1 n2 ms so V (by omega) (by omega) (hM.below h) (M4.IntsAt.below hSo h)
      have Q3 : Hid (∀ V : World, Below v1.heap.size v1 V → _) := fun V h => implForest_any sortsI m1 m2 n1 n2 ms so V (by omega) (by omega) (hM.below h) (M4.IntsAt.below hSo h)
      have Q4 : Hid (∀ V : World, Below v1.heap.size v1 V → _) := fun V h => specForest_any m1 m2 n1 n2 ms so V (by omega) (by omega) (hM.below h) (M4.IntsAt.below hSo h)
      have hpl := EG.parL_len ms so
      generalize EG.parL ms so = PL at *
      generalize EG.sok ms so = SK at *
      generalize EG.forB ms so = FB at *
      clear hM hSo d1 BW
      go_wp2_with fail
      refine Calls.mono Q1.out ?_
      rintro e v2 ⟨a5, c5, rfl, o5, b5⟩
      have I5 : Hid (M4.IntsAt v2 a5 PL) := M5.own_ints o5
      have B5 : Hid _ := b5
      clear Q1 o5 b5
      go_wp2_with fail
      refine Calls.mono (Q2.out _ B5.out) ?_
      rintro e v3 ⟨a6, c6, rfl, o6, b6⟩
      have I6 : Hid (M4.IntsAt v3 a6 PL) := M5.own_ints o6
      have I53 : Hid (M4.IntsAt v3 a5 PL) := M4.IntsAt.below I5.out b6
      have B6 : Hid (Below v1.heap.size v1 v3) := B5.out.trans (b6.mono B5.out.size)
      clear Q2 o6 b6 B5 I5
      go_wp2_with fail
      refine Calls.mono (Q3.out _ B6.out) ?_
      rintro e v4 ⟨rfl, b7⟩
      have I6' : Hid (M4.IntsAt v4 a6 PL) := M4.IntsAt.below I6.out b7
      have I5' : Hid (M4.IntsAt v4 a5 PL) := M4.IntsAt.below I53.out b7
      have B7 : Hid (Below v1.heap.size v1 v4) := B6.out.trans (b7.mono B6.out.size)
      clear Q3 b7 B6 I6 I53
      go_wp2_with fail
      refine Calls.mono (Q4.out _ B7.out) ?_
      rintro e v5 ⟨rfl, b8⟩
      have SI : Hid _ := sameI_self a5 a6 c5 c6 PL v5 (by omega) (M4.IntsAt.below I5'.out b8) (M4.IntsAt.below I6'.out b8)
      have B8 : Hid (Below v1.heap.size v1 v5) := B7.out.trans (b8.mono B7.out.size)
      clear Q4 b8 B7 I6' I5'
      have esk : (SK != SK) = false := by simp
      have efb : (FB != FB) = false := by simp
      go_wp2_with fail
      refine Calls.mono SI.out ?_
      rintro e v6 ⟨rfl, b9⟩
      have BV6 : Hid (Below w.heap.size w v6) := D1.out.trans ((B8.out.trans (b9.mono B8.out.size)).mono D1.out.size)
      clear SI b9 B8 D1 hpl
      go_wp2_with fail
      refine Calls.mono (drawPathIn_any a' ys cb _ hy (HBY.out _ BV6.out)) ?_
      rintro e u1 ⟨p1, q1, ps, p2, q2, po, fa, fb, rfl, hps, hpo, hP, hPo, d2⟩
      have D2 : Hid (Below w.heap.size w u1) := BV6.out.trans (d2.mono BV6.out.size)
      have R1 : Hid _ := implPath_any p1 p2 q1 q2 ps po fa fb u1 (by omega) hpo hP hPo
      have R2 : Hid (∀ V : World, Below u1.heap.size u1 V → _) := fun V h => specPath_any p1 p2 q1 q2 ps po fa fb V (by omega) hpo (hP.below h) (M4.IntsAt.below hPo h)
      have hpm := EG.patM_len ps po fa fb
      generalize EG.oL (EG.patM ps po fa fb) = XL at *
      generalize (EG.patM ps po fa fb).isSome = XS at *
      clear hP hPo d2 BV6 HBY
      go_wp2_with fail
      refine Calls.mono R1.out ?_
      rintro e u2 ⟨a7, c7, rfl, o7, b10⟩
      have J5 : Hid (M4.IntsAt u2 a7 XL) := M5.own_ints o7
      have E5 : Hid _ := b10
      clear R1 o7 b10
      go_wp2_with fail
      refine Calls.mono (R2.out _ E5.out) ?_
      rintro e u3 ⟨a8, c8, rfl, o8, b11⟩
      have SI2 : Hid _ := sameI_self a7 a8 c7 c8 XL u3 (by omega) (M4.IntsAt.below J5.out b11) (M5.own_ints o8)
      have E6 : Hid (Below w.heap.size w u3) := D2.out.trans ((E5.out.trans (b11.mono E5.out.size)).mono D2.out.size)
      clear R2 o8 b11 E5 J5 D2
      have exs : (XS == XS) = true := by simp
      go_wp2_with fail
      refine Calls.mono SI2.out ?_
      rintro e u4 ⟨rfl, b12⟩
      have E7 := E6.out.trans (b12.mono E6.out.size)
      clear SI2 b12 E6
      go_wp2
      go_ret
      exact ⟨rfl, E7⟩
    | true =>
      by_cases h0 : C.length = 0
      · have BW : Hid (Below w.heap.size w w4) := BW4.out
        have h0' : decide (0 < (C.length : Int)) = false := decide_eq_false (by omega)
        have h0b : ¬ (0 : Int) < (C.length : Int) := by omega
        have h0c : ((C.length : Int)) = 0 := by omega
        clear P3 HX HQ I4 B5 BW4 HB0 hkl hol
        go_wp2_with fail
        refine Calls.mono (drawPartsOf_any a' ys cb _ hy (HBY.out _ BW.out)) ?_
        rintro e v1 ⟨m1, n1, ms, m2, n2, so, rfl, hms, hso, hM, hSo, d1⟩
        have D1 : Hid (Below w.heap.size w v1) := BW.out.trans (d1.mono BW.out.size)
        have Q1 : Hid _ := implParts_any sortsI m1 m2 n1 n2 ms so v1 (by omega) (by omega) hM hSo
        have Q2 : Hid (∀ V : World, Below v1.heap.size v1 V → _) := fun V h => specParts_any m1 m2 n1 n2 ms so V (by omega) (by omega) (hM.below h) (M4.IntsAt.below hSo h)
        have Q3 : Hid (∀ V : World, Below v1.heap.size v1 V → _) := fun V h => implForest_any sortsI m1 m2 n1 n2 ms so V (by omega) (by omega) (hM.below h) (M4.IntsAt.below hSo h)
        have Q4 : Hid (∀ V : World, Below v1.heap.size v1 V → _) := fun V h => specForest_any m1 m2 n1 n2 ms so V (by omega) (by omega) (hM.below h) (M4.IntsAt.below hSo h)
        have hpl := EG.parL_len ms so
        generalize EG.parL ms so = PL at *
        generalize EG.sok ms so = SK at *
        generalize EG.forB ms so = FB at *
        clear hM hSo d1 BW
        go_wp2_with fail
        refine Calls.mono Q1.out ?_
        rintro e v2 ⟨a5, c5, rfl, o5, b5⟩
        have I5 : Hid (M4.IntsAt v2 a5 PL) := M5.own_ints o5
        have B5 : Hid _ := b5
        clear Q1 o5 b5
        go_wp2_with fail
        refine Calls.mono (Q2.out _ B5.out) ?_
        rintro e v3 ⟨a6, c6, rfl, o6, b6⟩
        have I6 : Hid (M4.IntsAt v3 a6 PL) := M5.own_ints o6
        have I53 : Hid (M4.IntsAt v3 a5 PL) := M4.IntsAt.below I5.out b6
        have B6 : Hid (Below v1.heap.size v1 v3) := B5.out.trans (b6.mono B5.out.size)
        clear Q2 o6 b6 B5 I5
        go_wp2_with fail
        refine Calls.mono (Q3.out _ B6.out) ?_
        rintro e v4 ⟨rfl, b7⟩
        have I6' : Hid (M4.IntsAt v4 a6 PL) := M4.IntsAt.below I6.out b7
        have I5' : Hid (M4.IntsAt v4 a5 PL) := M4.IntsAt.below I53.out b7
        have B7 : Hid (Below v1.heap.size v1 v4) := B6.out.trans (b7.mono B6.out.size)
        clear Q3 b7 B6 I6 I53
        go_wp2_with fail
        refine Calls.mono (Q4.out _ B7.out) ?_
        rintro e v5 ⟨rfl, b8⟩
        have SI : Hid _ := sameI_self a5 a6 c5 c6 PL v5 (by omega) (M4.IntsAt.below I5'.out b8) (M4.IntsAt.below I6'.out b8)
        have B8 : Hid (Below v1.heap.size v1 v5) := B7.out.trans (b8.mono B7.out.size)
        clear Q4 b8 B7 I6' I5'
        have esk : (SK != SK) = false := by simp
        have efb : (FB != FB) = false := by simp
        go_wp2_with fail
        refine Calls.mono SI.out ?_
        rintro e v6 ⟨rfl, b9⟩
        have BV6 : Hid (Below w.heap.size w v6) := D1.out.trans ((B8.out.trans (b9.mono B8.out.size)).mono D1.out.size)
        clear SI b9 B8 D1 hpl
        go_wp2_with fail
        refine Calls.mono (drawPathIn_any a' ys cb _ hy (HBY.out _ BV6.out)) ?_
        rintro e u1 ⟨p1, q1, ps, p2, q2, po, fa, fb, rfl, hps, hpo, hP, hPo, d2⟩
        have D2 : Hid (Below w.heap.size w u1) := BV6.out.trans (d2.mono BV6.out.size)
        have R1 : Hid _ := implPath_any p1 p2 q1 q2 ps po fa fb u1 (by omega) hpo hP hPo
        have R2 : Hid (∀ V : World, Below u1.heap.size u1 V → _) := fun V h => specPath_any p1 p2 q1 q2 ps po fa fb V (by omega) hpo (hP.below h) (M4.IntsAt.below hPo h)
        have hpm := EG.patM_len ps po fa fb
        generalize EG.oL (EG.patM ps po fa fb) = XL at *
        generalize (EG.patM ps po fa fb).isSome = XS at *
        clear hP hPo d2 BV6 HBY
        go_wp2_with fail
        refine Calls.mono R1.out ?_
        rintro e u2 ⟨a7, c7, rfl, o7, b10⟩
        have J5 : Hid (M4.IntsAt u2 a7 XL) := M5.own_ints o7
        have E5 : Hid _ := b10
        clear R1 o7 b10
        go_wp2_with fail
        refine Calls.mono (R2.out _ E5.out) ?_
        rintro e u3 ⟨a8, c8, rfl, o8, b11⟩
        have SI2 : Hid _ := sameI_self a7 a8 c7 c8 XL u3 (by omega) (M4.IntsAt.below J5.out b11) (M5.own_ints o8)
        have E6 : Hid (Below w.heap.size w u3) := D2.out.trans ((E5.out.trans (b11.mono E5.out.size)).mono D2.out.size)
        clear R2 o8 b11 E5 J5 D2
        have exs : (XS == XS) = true := by simp
        go_wp2_with fail
        refine Calls.mono SI2.out ?_
        rintro e u4 ⟨rfl, b12⟩
        have E7 := E6.out.trans (b12.mono E6.out.size)
        clear SI2 b12 E6
        go_wp2
        go_ret
        exact ⟨rfl, E7⟩
      · have h0p : 0 < C.length := by omega
        have h0' : (0 : Int) < (C.length : Int) := by omega
        obtain ⟨hop, hcq⟩ := HQ.out rfl
        subst hop
        have HCQ : Hid _ := hcq
        clear HQ hcq h0
        go_wp2_with fail
        refine Calls.mono (P3.out _ B5.out) ?_
        rintro e w5 ⟨a5, c5, rfl, o5, b6⟩
        have IK : Hid (M4.IntsAt w5 a5 KL) := M5.own_ints o5
        have IC : Hid (M4.IntsAt w5 a3 C) := M4.IntsAt.below I4.out b6
        have XR : Hid (MI3.RowAt w5 a1 xs) := HX.out.below (B5.out.trans (b6.mono B5.out.size))
        have BW5 : Hid (Below w.heap.size w w5) := BW4.out.trans (b6.mono BW4.out.size)
        clear P3 o5 b6 I4 B5 BW4 HX HB0
        obtain ⟨cb0, co0, he0, hcl0, hcc0⟩ := M4.IntsAt.at IC.out h0p
        obtain ⟨n0, hn0, hi0⟩ := HCQ.out.at_ 0 h0p
        subst he0
        obtain ⟨xb, xo, hex, hxlt, -, -, hx2⟩ := XR.out.at hn0
        subst hex
        have hz0 : (MI3.at_ xs (C.getD 0 0).toNat).a2 = (MI3.at_ xs n0).a2 := by rw [hi0]; rfl
        rw [hi0] at hcc0
        rw [Nat.add_zero] at hcc0
        have HZ0 : Hid _ := hz0
        clear hz0 hi0
        generalize hzz : (MI3.at_ xs n0).a2 = z0 at *
        clear hzz
        go_wp2_with fail
        go_loopw [14, 91] (fun lv iv wr => ∃ (k : Nat) (z : Int), lv = .int .i64 z ∧ iv = .int .i64 k ∧ k ≤ C.length ∧ Hid (∀ j, j < k → z ≤ (MI3.at_ xs (C.getD j 0).toNat).a2) ∧ Hid (∃ j, j < C.length ∧ z = (MI3.at_ xs (C.getD j 0).toNat).a2) ∧ w5 = wr) (fun _ iv _ => (C.length - intOf iv).toNat)
        case atStart => exact ⟨0, z0, rfl, rfl, by omega, show Hid _ from fun j hj => by omega, show Hid _ from ⟨0, h0p, HZ0.out.symm⟩, rfl⟩
        case round =>
          clear hcc0 hx2 HZ0 hn0
          obtain ⟨k, z, rfl, rfl, hk, hlo, hex, rfl⟩ := hrel
          by_cases hlk : k < C.length
          · obtain ⟨cbk, cok, hek, hclk, hcck⟩ := M4.IntsAt.at IC.out hlk
            obtain ⟨n, hn, hi⟩ := HCQ.out.at_ k hlk
            obtain ⟨xbk, xok, hexk, hxltk, -, -, hx2k⟩ := XR.out.at hn
            simp only [Option.some.injEq, Addr.mk.injEq] at hek hexk
            obtain ⟨rfl, rfl, -⟩ := hek
            obtain ⟨rfl, rfl, -⟩ := hexk
            have hck : (MI3.at_ xs (C.getD k 0).toNat).a2 = (MI3.at_ xs n).a2 := by rw [hi]; rfl
            rw [hi] at hcck
            have HLT : Hid (∀ v : Int, v ≤ z → v ≤ (MI3.at_ xs n).a2 → ∀ j, j < k + 1 → v ≤ (MI3.at_ xs (C.getD j 0).toNat).a2) := fun v h1 h2 j hj => by
              by_cases e : j = k
              · subst e; rw [hck]; exact h2
              · exact Int.le_trans h1 (hlo.out j (by omega))
            have HEX : Hid (∃ j, j < C.length ∧ (MI3.at_ xs n).a2 = (MI3.at_ xs (C.getD j 0).toNat).a2) := ⟨k, hlk, hck.symm⟩
            clear hi hck hlo
            generalize (MI3.at_ xs n).a2 = x2 at *
            by_cases hlt : x2 < z
            · have R1 : Hid _ := HLT.out x2 (by omega) (Int.le_refl _)
              clear HLT hex
              go_wp2
              go_roundw
              case rel => exact ⟨k + 1, x2, rfl, by go_num, by omega, R1, HEX, trivial⟩
              case measure => simp [intOf]; omega
            · have R1 : Hid _ := HLT.out z (Int.le_refl _) (by omega)
              clear HLT HEX
              go_wp2
              go_roundw
              case rel => exact ⟨k + 1, z, rfl, by go_num, by omega, R1, hex, trivial⟩
              case measure => simp [intOf]; omega
          · obtain rfl : k = C.length := by omega
            have HF : Hid _ := HCQ.out.found z hlo.out hex.out
            clear hlo hex hlk
            go_wp2_with fail
            go_loopw [17, 110] (fun fv iv wr => ∃ (k : Nat) (f : Bool), fv = .bool f ∧ iv = .int .i64 k ∧ k ≤ C.length ∧ Hid (f = false → ∀ j, j < k → ¬ (z = (MI3.at_ xs (C.getD j 0).toNat).a2 ∧ EG.hasB KL (C.getD j 0) = true)) ∧ w5 = wr) (fun _ iv _ => (C.length - intOf iv).toNat)
            case atStart => exact ⟨0, false, rfl, rfl, by omega, show Hid _ from fun _ j hj => by omega, rfl⟩
            case round =>
              obtain ⟨k, f, rfl, rfl, hk, hno, rfl⟩ := hrel
              by_cases hlk : k < C.length
              · obtain ⟨cbk, cok, hek, hclk, hcck⟩ := M4.IntsAt.at IC.out hlk
                obtain ⟨n, hn, hi⟩ := HCQ.out.at_ k hlk
                obtain ⟨xbk, xok, hexk, hxltk, -, -, hx2k⟩ := XR.out.at hn
                simp only [Option.some.injEq, Addr.mk.injEq] at hek hexk
                obtain ⟨rfl, rfl, -⟩ := hek
                obtain ⟨rfl, rfl, -⟩ := hexk
                have hck : (MI3.at_ xs (C.getD k 0).toNat).a2 = (MI3.at_ xs n).a2 := by rw [hi]; rfl
                have HAS : Hid _ := hasL_any a5 c5 KL (n : Int) w5 (by omega) IK.out
                have HST : Hid (∀ f' : Bool, (f' = false → f = false ∧ ¬ (z = (MI3.at_ xs n).a2 ∧ EG.hasB KL (n : Int) = true)) → f' = false → ∀ j, j < k + 1 → ¬ (z = (MI3.at_ xs (C.getD j 0).toNat).a2 ∧ EG.hasB KL (C.getD j 0) = true)) := fun f' h hf j hj => by
                  by_cases e : j = k
                  · subst e; rw [hck, hi]; exact (h hf).2
                  · exact hno.out (h hf).1 j (by omega)
                rw [hi] at hcck
                clear hi hck hno
                generalize (MI3.at_ xs n).a2 = x2 at *
                generalize EG.hasB KL (n : Int) = B at *
                cases f with
                | true =>
                  have R1 : Hid _ := HST.out true (fun h => by cases h)
                  clear HST HAS
                  go_wp2
                  go_roundw
                  case rel => exact ⟨k + 1, true, rfl, by go_num, by omega, R1, trivial⟩
                  case measure => simp [intOf]; omega
                | false =>
                  by_cases hxz : x2 = z
                  · have hxb : (x2 == z) = true := by simp [hxz]
                    have R1 : Hid _ := HST.out B (fun h => ⟨rfl, by rw [h]; simp⟩)
                    clear HST hxz
                    go_wp2_with fail
                    refine Calls.mono HAS.out ?_
                    rintro e w6 ⟨rfl, rfl⟩
                    clear HAS
                    go_wp2
                    go_roundw
                    case rel => exact ⟨k + 1, B, rfl, by go_num, by omega, R1, trivial⟩
                    case measure => simp [intOf]; omega
                  · have hxb : (x2 == z) = false := by simp [hxz]
                    have R1 : Hid _ := HST.out false (fun _ => ⟨rfl, fun h => hxz h.1.symm⟩)
                    clear HST hxz HAS
                    go_wp2
                    go_roundw
                    case rel => exact ⟨k + 1, false, rfl, by go_num, by omega, R1, trivial⟩
                    case measure => simp [intOf]; omega
              · obtain rfl : k = C.length := by omega
                have hf : f = true := by
                  cases f
                  · obtain ⟨j, hj, h1, h2⟩ := HF.out
                    exact absurd ⟨h1, h2⟩ (hno.out rfl j hj)
                  · rfl
                subst hf
                have BW : Hid (Below w.heap.size w w5) := BW5.out
                clear hno HF hlk HCQ IK IC XR BW5 hcl hkl hol h0' hxlt hcl0
                go_wp2_with fail
                refine Calls.mono (drawPartsOf_any a' ys cb _ hy (HBY.out _ BW.out)) ?_
                rintro e v1 ⟨m1, n1, ms, m2, n2, so, rfl, hms, hso, hM, hSo, d1⟩
                have D1 : Hid (Below w.heap.size w v1) := BW.out.trans (d1.mono BW.out.size)
                have Q1 : Hid _ := implParts_any sortsI m1 m2 n1 n2 ms so v1 (by omega) (by omega) hM hSo
                have Q2 : Hid (∀ V : World, Below v1.heap.size v1 V → _) := fun V h => specParts_any m1 m2 n1 n2 ms so V (by omega) (by omega) (hM.below h) (M4.IntsAt.below hSo h)
                have Q3 : Hid (∀ V : World, Below v1.heap.size v1 V → _) := fun V h => implForest_any sortsI m1 m2 n1 n2 ms so V (by omega) (by omega) (hM.below h) (M4.IntsAt.below hSo h)
                have Q4 : Hid (∀ V : World, Below v1.heap.size v1 V → _) := fun V h => specForest_any m1 m2 n1 n2 ms so V (by omega) (by omega) (hM.below h) (M4.IntsAt.below hSo h)
                have hpl := EG.parL_len ms so
                generalize EG.parL ms so = PL at *
                generalize EG.sok ms so = SK at *
                generalize EG.forB ms so = FB at *
                clear hM hSo d1 BW
                go_wp2_with fail
                refine Calls.mono Q1.out ?_
                rintro e v2 ⟨a5, c5, rfl, o5, b5⟩
                have I5 : Hid (M4.IntsAt v2 a5 PL) := M5.own_ints o5
                have B5 : Hid _ := b5
                clear Q1 o5 b5
                go_wp2_with fail
                refine Calls.mono (Q2.out _ B5.out) ?_
                rintro e v3 ⟨a6, c6, rfl, o6, b6⟩
                have I6 : Hid (M4.IntsAt v3 a6 PL) := M5.own_ints o6
                have I53 : Hid (M4.IntsAt v3 a5 PL) := M4.IntsAt.below I5.out b6
                have B6 : Hid (Below v1.heap.size v1 v3) := B5.out.trans (b6.mono B5.out.size)
                clear Q2 o6 b6 B5 I5
                go_wp2_with fail
                refine Calls.mono (Q3.out _ B6.out) ?_
                rintro e v4 ⟨rfl, b7⟩
                have I6' : Hid (M4.IntsAt v4 a6 PL) := M4.IntsAt.below I6.out b7
                have I5' : Hid (M4.IntsAt v4 a5 PL) := M4.IntsAt.below I53.out b7
                have B7 : Hid (Below v1.heap.size v1 v4) := B6.out.trans (b7.mono B6.out.size)
                clear Q3 b7 B6 I6 I53
                go_wp2_with fail
                refine Calls.mono (Q4.out _ B7.out) ?_
                rintro e v5 ⟨rfl, b8⟩
                have SI : Hid _ := sameI_self a5 a6 c5 c6 PL v5 (by omega) (M4.IntsAt.below I5'.out b8) (M4.IntsAt.below I6'.out b8)
                have B8 : Hid (Below v1.heap.size v1 v5) := B7.out.trans (b8.mono B7.out.size)
                clear Q4 b8 B7 I6' I5'
                have esk : (SK != SK) = false := by simp
                have efb : (FB != FB) = false := by simp
                go_wp2_with fail
                refine Calls.mono SI.out ?_
                rintro e v6 ⟨rfl, b9⟩
                have BV6 : Hid (Below w.heap.size w v6) := D1.out.trans ((B8.out.trans (b9.mono B8.out.size)).mono D1.out.size)
                clear SI b9 B8 D1 hpl
                go_wp2_with fail
                refine Calls.mono (drawPathIn_any a' ys cb _ hy (HBY.out _ BV6.out)) ?_
                rintro e u1 ⟨p1, q1, ps, p2, q2, po, fa, fb, rfl, hps, hpo, hP, hPo, d2⟩
                have D2 : Hid (Below w.heap.size w u1) := BV6.out.trans (d2.mono BV6.out.size)
                have R1 : Hid _ := implPath_any p1 p2 q1 q2 ps po fa fb u1 (by omega) hpo hP hPo
                have R2 : Hid (∀ V : World, Below u1.heap.size u1 V → _) := fun V h => specPath_any p1 p2 q1 q2 ps po fa fb V (by omega) hpo (hP.below h) (M4.IntsAt.below hPo h)
                have hpm := EG.patM_len ps po fa fb
                generalize EG.oL (EG.patM ps po fa fb) = XL at *
                generalize (EG.patM ps po fa fb).isSome = XS at *
                clear hP hPo d2 BV6 HBY
                go_wp2_with fail
                refine Calls.mono R1.out ?_
                rintro e u2 ⟨a7, c7, rfl, o7, b10⟩
                have J5 : Hid (M4.IntsAt u2 a7 XL) := M5.own_ints o7
                have E5 : Hid _ := b10
                clear R1 o7 b10
                go_wp2_with fail
                refine Calls.mono (R2.out _ E5.out) ?_
                rintro e u3 ⟨a8, c8, rfl, o8, b11⟩
                have SI2 : Hid _ := sameI_self a7 a8 c7 c8 XL u3 (by omega) (M4.IntsAt.below J5.out b11) (M5.own_ints o8)
                have E6 : Hid (Below w.heap.size w u3) := D2.out.trans ((E5.out.trans (b11.mono E5.out.size)).mono D2.out.size)
                clear R2 o8 b11 E5 J5 D2
                have exs : (XS == XS) = true := by simp
                go_wp2_with fail
                refine Calls.mono SI2.out ?_
                rintro e u4 ⟨rfl, b12⟩
                have E7 := E6.out.trans (b12.mono E6.out.size)
                clear SI2 b12 E6
                go_wp2
                go_ret
                exact ⟨rfl, E7⟩
  · have h21 : (1048576 : Int) < (zs.length : Int) + (ys.length : Int) := by omega
    clear hbz hby
    go_enter Try.func3, Try.ntmps3
    go_wp2
    go_ret
    exact ⟨rfl, Below.refl _ _⟩
end Go.Proofs.Ytdglialjcibbbaa
