/- How late jobs are in an order: latenesses, LatenessOf, LateIn of the program, l12Late, LatenessOf, LateIn of the specification. -/
import Derived.Test.YtgenmljnhlcpcaaRows
import Derived.Test.YtgenmljnhlcpcaaCIsOrder
namespace Go.Proofs.Ytgenmljnhlcpcaa
open Go.RowKit
set_option linter.unusedSimpArgs false in
set_option maxHeartbeats 1600000 in
set_option maxRecDepth 100000 in
theorem latenesses_any (a b : Option Addr) (ca cb : Nat) (xs : List I2) (os : List Int) (w : World) (HO : Hid (JD.Ord xs os)) (hin : MI2.RowAt w a xs) (hos : M4.IntsAt w b os) :
    Calls Try.prog 23 #[.slice a xs.length ca, .slice b os.length cb] w fun e w' => ∃ a1 c1, e = .returned (.slice a1 os.length c1) ∧ w'.ownsRow w.heap.size 3 1 (.slice a1 os.length c1) os.length (M4.iv (JD.lts xs os os.length)) ∧ Below w.heap.size w w' := by
  obtain ⟨i0, hi, hz0, hz1, hz2⟩ := info_parts Try.info3
  have hsm := HO.out.small
  have HXI : Hid (MI2.RowAt w a xs) := hin
  have HOS : Hid (M4.IntsAt w b os) := hos
  have OW0 : Hid (World.ownsRow (w.alloc (.cells #[] 3)) w.heap.size 3 1 (.slice (some ⟨w.heap.size, 0, none⟩) 0 0) 0 (M4.iv (JD.lts xs os 0))) := by
    have := World.ownsRow_lit (base := w.heap.size) (e := 3) (size := 1) w #[] 0 (Nat.le_refl _) (by unfold maxLen; omega) (by simp)
    show World.ownsRow _ _ _ _ _ _ _
    simpa [M4.iv, JD.lts] using this
  clear hin hos
  go_enter Try.func23, Try.ntmps23
  go_wp2
  go_loopw [5, 6, 8, 12] (fun v ev _ iv wr => ∃ (k : Nat) (oa : Option Addr) (oc : Nat) (en : Int), iv = .int .i64 k ∧ k ≤ os.length ∧ v = .slice oa k oc ∧ ev = .int .i64 en ∧ Hid (JD.endK xs os k = en) ∧ Hid (World.ownsRow wr w.heap.size 3 1 (.slice oa k oc) k (M4.iv (JD.lts xs os k))) ∧ Below w.heap.size w wr) (fun _ _ _ iv _ => (os.length - intOf iv).toNat)
  case atStart => exact ⟨0, some ⟨w.heap.size, 0, none⟩, 0, 0, rfl, by omega, rfl, rfl, (show Hid _ from rfl), OW0, (Below.refl _ _).alloc (Nat.le_refl _) _⟩
  case round =>
    clear OW0
    obtain ⟨k, oa, oc, en, rfl, hk, rfl, rfl, HE, HR, hb⟩ := hrel
    have hbs := hb.size
    by_cases hlk : k < os.length
    · obtain ⟨b6, off6, rfl, hlt6, hc6⟩ := (HOS.out.below hb).at hlk
      obtain ⟨z, hz, hzx⟩ : ∃ z : Nat, os.getD k 0 = (z : Int) ∧ z < xs.length := by
        obtain ⟨h0, h1⟩ := HO.out.rng k hlk
        exact ⟨(os.getD k 0).toNat, by omega, by omega⟩
      obtain ⟨b8, off8, rfl, hlt8, hc8, hc9⟩ := (HXI.out.below hb).at hzx
      obtain ⟨j1, j2, j3, j4⟩ := HO.out.jl1 hlk
      obtain ⟨e1, e2⟩ := HO.out.endK_bd k hk
      have ejl : (MI2.at_ xs z).a0 = JD.jl xs os k := by unfold JD.jl; rw [hz, Int.toNat_natCast]
      have ejd : (MI2.at_ xs z).a1 = JD.jd xs os k := by unfold JD.jd; rw [hz, Int.toNat_natCast]
      rw [ejl] at hc8
      rw [ejd] at hc9
      rw [HE.out] at e1 e2
      have HE2 : Hid (JD.endK xs os (k + 1) = en + JD.jl xs os k) := by show _ = _; rw [JD.endK, HE.out]
      have HT : Hid (JD.lts xs os (k + 1) = JD.lts xs os k ++ [en + JD.jl xs os k - JD.jd xs os k]) := by show _ = _; rw [JD.lts_succ, JD.ltK, HE.out]
      rw [hz] at hc6
      clear hz ejl ejd
      generalize JD.jl xs os k = l at *
      generalize JD.jd xs os k = d at *
      have q1 : IntKind.i64.wrap (en + l) = en + l := by rw [IntKind.wrap_i64]; omega
      have q2 : IntKind.i64.wrap (en + l - d) = en + l - d := by rw [IntKind.wrap_i64]; omega
      go_wp2_with (at_builtin; refine wpList_append_own _ rfl _ _ 24 rfl w.heap.size 3 i0 (.int .i64 0) 1 8 Try.underlying24 hi hz0 hz1 hz2 rfl (by decide) _ _ _ rfl (World.ownsRow.alloc HR.out _) ⟨wr.heap.size, 0, none⟩ 1 1 [.int .i64 (en + l - d)] rfl rfl ?c1 ?c2 ?c3 ?c4 ?c5 ?_)
      all_goals try (first | rfl | omega | exact M2.new1 _ _ _ | exact M2.one1 _ _ | (unfold maxLen; omega) | (simp; omega))
      intro v' wn hown1 hgrow _
      have R1 : wn.ownsRow w.heap.size 3 1 v' (k + 1) (M4.iv (JD.lts xs os (k + 1))) := by
        rw [HT.out]; simpa [M4.iv] using hown1
      have R3 := (hb.alloc hbs _).grown hgrow (by simp; omega) (fun j hj => (HR.out.lt j hj).1)
      obtain ⟨a', c', rfl⟩ : ∃ a' c', v' = .slice a' (k + 1) c' := JD.own_slice R1
      have HR1 : Hid _ := R1
      clear hown1 hgrow HR R1
      go_wp2
      go_roundw
      case rel => exact ⟨k + 1, a', c', en + l, by go_num, by omega, rfl, rfl, HE2, HR1, R3⟩
      case measure => simp [intOf]; omega
    · obtain rfl : k = os.length := by omega
      clear HXI HOS HE
      go_wp2
      go_ret
      exact ⟨oa, oc, rfl, HR.out, hb⟩
set_option linter.unusedSimpArgs false in
set_option maxHeartbeats 1600000 in
set_option maxRecDepth 100000 in
theorem l12Late_any (a b : Option Addr) (ca cb : Nat) (xs : List I2) (os : List Int) (w : World) (HO : Hid (JD.Ord xs os)) (hin : MI2.RowAt w a xs) (hos : M4.IntsAt w b os) :
    Calls Try.prog 25 #[.slice a xs.length ca, .slice b os.length cb] w fun e w' => e = .returned (.tuple #[.int .i64 (JD.mxK xs os os.length), .int .i64 (JD.mnK xs os os.length : Int)]) ∧ w = w' := by
  have hsm := HO.out.small
  have HXI : Hid (MI2.RowAt w a xs) := hin
  have HOS : Hid (M4.IntsAt w b os) := hos
  clear hin hos
  go_enter Try.func25, Try.ntmps25
  go_wp2
  go_loopw [6, 7, 8, 10, 11, 14] (fun ev xv nv _ _ iv wr => ∃ (k : Nat) (en mx : Int) (mn : Nat), iv = .int .i64 k ∧ k ≤ os.length ∧ ev = .int .i64 en ∧ xv = .int .i64 mx ∧ nv = .int .i64 (mn : Int) ∧ Hid (JD.endK xs os k = en) ∧ Hid (JD.mxK xs os k = mx) ∧ Hid (JD.mnK xs os k = mn) ∧ w = wr) (fun _ _ _ _ _ iv _ => (os.length - intOf iv).toNat)
  case atStart => exact ⟨0, 0, 0, 0, rfl, by omega, rfl, rfl, rfl, (show Hid _ from rfl), (show Hid _ from rfl), (show Hid _ from rfl), rfl⟩
  case round =>
    obtain ⟨k, en, mx, mn, rfl, hk, rfl, rfl, rfl, HE, HX, HN, rfl⟩ := hrel
    by_cases hlk : k < os.length
    · obtain ⟨b6, off6, rfl, hlt6, hc6⟩ := HOS.out.at hlk
      obtain ⟨z, hz, hzx⟩ : ∃ z : Nat, os.getD k 0 = (z : Int) ∧ z < xs.length := by
        obtain ⟨h0, h1⟩ := HO.out.rng k hlk
        exact ⟨(os.getD k 0).toNat, by omega, by omega⟩
      obtain ⟨b8, off8, rfl, hlt8, hc8, hc9⟩ := HXI.out.at hzx
      obtain ⟨j1, j2, j3, j4⟩ := HO.out.jl1 hlk
      obtain ⟨e1, e2⟩ := HO.out.endK_bd k hk
      have hmn := JD.mnK_le xs os k
      have hmx := JD.mxK_pos xs os k
      rw [HN.out] at hmn
      rw [HX.out] at hmx
      have ejl : (MI2.at_ xs z).a0 = JD.jl xs os k := by unfold JD.jl; rw [hz, Int.toNat_natCast]
      have ejd : (MI2.at_ xs z).a1 = JD.jd xs os k := by unfold JD.jd; rw [hz, Int.toNat_natCast]
      rw [ejl] at hc8
      rw [ejd] at hc9
      rw [HE.out] at e1 e2
      have HE2 : Hid (JD.endK xs os (k + 1) = en + JD.jl xs os k) := by show _ = _; rw [JD.endK, HE.out]
      have HX2 : Hid (JD.mxK xs os (k + 1) = if mx < en + JD.jl xs os k - JD.jd xs os k then en + JD.jl xs os k - JD.jd xs os k else mx) := by show _ = _; rw [JD.mxK, JD.ltK, HE.out, HX.out]
      have HN2 : Hid (JD.mnK xs os (k + 1) = if 0 < en + JD.jl xs os k - JD.jd xs os k then mn + 1 else mn) := by show _ = _; rw [JD.mnK, JD.ltK, HE.out, HN.out]
      rw [hz] at hc6
      clear hz ejl ejd
      generalize JD.jl xs os k = l at *
      generalize JD.jd xs os k = d at *
      have q1 : IntKind.i64.wrap (en + l) = en + l := by rw [IntKind.wrap_i64]; omega
      have q2 : IntKind.i64.wrap (en + l - d) = en + l - d := by rw [IntKind.wrap_i64]; omega
      clear HE HX HN
      by_cases h0 : 0 < en + l - d
      · have r0 : decide (0 < en + l - d) = true := by simp; omega
        replace HN2 : Hid (JD.mnK xs os (k + 1) = mn + 1) := by show _ = _; rw [HN2.out, if_pos h0]
        by_cases h1 : mx < en + l - d
        · have r1 : decide (mx < en + l - d) = true := by simp; omega
          replace HX2 : Hid (JD.mxK xs os (k + 1) = en + l - d) := by show _ = _; rw [HX2.out, if_pos h1]
          go_wp2
          go_roundw
          case rel => exact ⟨k + 1, en + l, en + l - d, mn + 1, by go_num, by omega, rfl, rfl, rfl, HE2, HX2, HN2, trivial⟩
          case measure => simp [intOf]; omega
        · have r1 : decide (mx < en + l - d) = false := by simp; omega
          replace HX2 : Hid (JD.mxK xs os (k + 1) = mx) := by show _ = _; rw [HX2.out, if_neg h1]
          go_wp2
          go_roundw
          case rel => exact ⟨k + 1, en + l, mx, mn + 1, by go_num, by omega, rfl, rfl, rfl, HE2, HX2, HN2, trivial⟩
          case measure => simp [intOf]; omega
      · have r0 : decide (0 < en + l - d) = false := by simp; omega
        replace HN2 : Hid (JD.mnK xs os (k + 1) = mn) := by show _ = _; rw [HN2.out, if_neg h0]
        replace HX2 : Hid (JD.mxK xs os (k + 1) = mx) := by show _ = _; rw [HX2.out, if_neg (by omega)]
        go_wp2
        go_roundw
        case rel => exact ⟨k + 1, en + l, mx, mn, by go_num, by omega, rfl, rfl, rfl, HE2, HX2, HN2, trivial⟩
        case measure => simp [intOf]; omega
    · obtain rfl : k = os.length := by omega
      clear HXI HOS HE
      go_wp2
      go_ret2
      exact ⟨by rw [HX.out, HN.out]; rfl, rfl⟩
set_option linter.unusedSimpArgs false in
set_option maxHeartbeats 1600000 in
set_option maxRecDepth 100000 in
theorem specLatenessOfG_any (a b : Option Addr) (ca cb : Nat) (xs : List I2) (os : List Int) (w : World) (io : Calls Try.prog 24 #[.slice a xs.length ca, .slice b os.length cb] w fun e w' => e = .returned (.bool (JD.isO xs os)) ∧ Below w.heap.size w w') (hin : MI2.RowAt w a xs) (hos : M4.IntsAt w b os) :
    Calls Try.prog 7 #[.slice a xs.length ca, .slice b os.length cb] w fun e w' => e = .returned (.tuple #[.int .i64 (JD.mxA xs os), .bool (JD.isO xs os)]) ∧ Below w.heap.size w w' := by
  have IO : Hid _ := io
  have LL : Hid (JD.isO xs os = true → ∀ w1, Below w.heap.size w w1 → Calls Try.prog 25 #[.slice a xs.length ca, .slice b os.length cb] w1 fun e w' => e = .returned (.tuple #[.int .i64 (JD.mxK xs os os.length), .int .i64 (JD.mnK xs os os.length : Int)]) ∧ w1 = w') := fun h w1 hb => l12Late_any a b ca cb xs os w1 (JD.Ord.of h) (hin.below hb) (hos.below hb)
  have HA : Hid (JD.mxA xs os = if JD.isO xs os = true then JD.mxK xs os os.length else 0) := rfl
  generalize JD.mxA xs os = A at *
  generalize JD.mxK xs os os.length = mx at *
  generalize JD.mnK xs os os.length = mn at *
  generalize JD.isO xs os = q at *
  clear hin hos io
  go_enter Try.func7, Try.ntmps7
  go_wp2_with fail
  refine Calls.mono IO.out ?_
  rintro e w1 ⟨rfl, hb⟩
  clear IO
  cases q with
  | false =>
    have HA2 : Hid (A = 0) := by show _ = _; rw [HA.out]; rfl
    clear HA LL
    go_wp2
    go_ret2
    exact ⟨by rw [HA2.out]; rfl, hb⟩
  | true =>
    have HA2 : Hid (A = mx) := by show _ = _; rw [HA.out]; rfl
    have L2 : Hid _ := LL.out rfl w1 hb
    clear HA LL
    go_wp2_with fail
    refine Calls.mono L2.out ?_
    rintro e w2 ⟨rfl, rfl⟩
    clear L2
    go_wp2
    go_ret2
    exact ⟨by rw [HA2.out]; rfl, hb⟩
theorem specLatenessOf_any (a : Option Addr) (ca g cb : Nat) (xs : List I2) (os : List Int) (w : World) (hn : xs.length ≤ 1048576) (hm : os.length ≤ 1048576) (hcb : os.length ≤ cb) (hcm : cb ≤ maxLen) (hin : MI2.RowAt w a xs) (hos : M4.IntsAt w (some ⟨g, 0, none⟩) os) :
    Calls Try.prog 7 #[.slice a xs.length ca, .slice (some ⟨g, 0, none⟩) os.length cb] w fun e w' => e = .returned (.tuple #[.int .i64 (JD.mxA xs os), .bool (JD.isO xs os)]) ∧ Below w.heap.size w w' :=
  specLatenessOfG_any a (some ⟨g, 0, none⟩) ca cb xs os w (specIsOrder_any a ca g cb xs os w hn hm hcb hcm hin hos) hin hos
set_option linter.unusedSimpArgs false in
set_option maxHeartbeats 1600000 in
set_option maxRecDepth 100000 in
theorem specLateInG_any (a b : Option Addr) (ca cb : Nat) (xs : List I2) (os : List Int) (w : World) (io : Calls Try.prog 24 #[.slice a xs.length ca, .slice b os.length cb] w fun e w' => e = .returned (.bool (JD.isO xs os)) ∧ Below w.heap.size w w') (hin : MI2.RowAt w a xs) (hos : M4.IntsAt w b os) :
    Calls Try.prog 15 #[.slice a xs.length ca, .slice b os.length cb] w fun e w' => e = .returned (.tuple #[.int .i64 (JD.mnA xs os), .bool (JD.isO xs os)]) ∧ Below w.heap.size w w' := by
  have IO : Hid _ := io
  have LL : Hid (JD.isO xs os = true → ∀ w1, Below w.heap.size w w1 → Calls Try.prog 25 #[.slice a xs.length ca, .slice b os.length cb] w1 fun e w' => e = .returned (.tuple #[.int .i64 (JD.mxK xs os os.length), .int .i64 (JD.mnK xs os os.length : Int)]) ∧ w1 = w') := fun h w1 hb => l12Late_any a b ca cb xs os w1 (JD.Ord.of h) (hin.below hb) (hos.below hb)
  have HA : Hid (JD.mnA xs os = if JD.isO xs os = true then (JD.mnK xs os os.length : Int) else 0) := rfl
  generalize JD.mnA xs os = A at *
  generalize JD.mxK xs os os.length = mx at *
  generalize JD.mnK xs os os.length = mn at *
  generalize JD.isO xs os = q at *
  clear hin hos io
  go_enter Try.func15, Try.ntmps15
  go_wp2_with fail
  refine Calls.mono IO.out ?_
  rintro e w1 ⟨rfl, hb⟩
  clear IO
  cases q with
  | false =>
    have HA2 : Hid (A = 0) := by show _ = _; rw [HA.out]; rfl
    clear HA LL
    go_wp2
    go_ret2
    exact ⟨by rw [HA2.out]; rfl, hb⟩
  | true =>
    have HA2 : Hid (A = (mn : Int)) := by show _ = _; rw [HA.out]; rfl
    have L2 : Hid _ := LL.out rfl w1 hb
    clear HA LL
    go_wp2_with fail
    refine Calls.mono L2.out ?_
    rintro e w2 ⟨rfl, rfl⟩
    clear L2
    go_wp2
    go_ret2
    exact ⟨by rw [HA2.out]; rfl, hb⟩
theorem specLateIn_any (a : Option Addr) (ca g cb : Nat) (xs : List I2) (os : List Int) (w : World) (hn : xs.length ≤ 1048576) (hm : os.length ≤ 1048576) (hcb : os.length ≤ cb) (hcm : cb ≤ maxLen) (hin : MI2.RowAt w a xs) (hos : M4.IntsAt w (some ⟨g, 0, none⟩) os) :
    Calls Try.prog 15 #[.slice a xs.length ca, .slice (some ⟨g, 0, none⟩) os.length cb] w fun e w' => e = .returned (.tuple #[.int .i64 (JD.mnA xs os), .bool (JD.isO xs os)]) ∧ Below w.heap.size w w' :=
  specLateInG_any a (some ⟨g, 0, none⟩) ca cb xs os w (specIsOrder_any a ca g cb xs os w hn hm hcb hcm hin hos) hin hos
set_option linter.unusedSimpArgs false in
set_option maxHeartbeats 1600000 in
set_option maxRecDepth 100000 in
theorem implLatenessOfG_any (a b : Option Addr) (ca cb : Nat) (xs : List I2) (os : List Int) (w : World) (hm : os.length ≤ 1048576) (io : Calls Try.prog 12 #[.slice a xs.length ca, .slice b os.length cb] w fun e w' => e = .returned (.bool (JD.isO xs os)) ∧ Below w.heap.size w w') (hin : MI2.RowAt w a xs) (hos : M4.IntsAt w b os) :
    Calls Try.prog 6 #[.slice a xs.length ca, .slice b os.length cb] w fun e w' => e = .returned (.tuple #[.int .i64 (JD.mxA xs os), .bool (JD.isO xs os)]) ∧ Below w.heap.size w w' := by
  have IO : Hid _ := io
  have LL : Hid (JD.isO xs os = true → ∀ w1, Below w.heap.size w w1 → Calls Try.prog 23 #[.slice a xs.length ca, .slice b os.length cb] w1 fun e w' => ∃ a1 c1, e = .returned (.slice a1 os.length c1) ∧ w'.ownsRow w1.heap.size 3 1 (.slice a1 os.length c1) os.length (M4.iv (JD.lts xs os os.length)) ∧ Below w1.heap.size w1 w') := fun h w1 hb => latenesses_any a b ca cb xs os w1 (JD.Ord.of h) (hin.below hb) (hos.below hb)
  have HA : Hid (JD.mxA xs os = if JD.isO xs os = true then JD.mxK xs os os.length else 0) := rfl
  generalize JD.mxA xs os = A at *
  generalize JD.isO xs os = q at *
  clear hin hos io
  go_enter Try.func6, Try.ntmps6
  go_wp2_with fail
  refine Calls.mono IO.out ?_
  rintro e w1 ⟨rfl, hb⟩
  clear IO
  cases q with
  | false =>
    have HA2 : Hid (A = 0) := by show _ = _; rw [HA.out]; rfl
    clear HA LL
    go_wp2
    go_ret2
    exact ⟨by rw [HA2.out]; rfl, hb⟩
  | true =>
    have HA2 : Hid (A = JD.mxK xs os os.length) := by show _ = _; rw [HA.out]; rfl
    have L2 : Hid _ := LL.out rfl w1 hb
    clear HA LL
    go_wp2_with fail
    refine Calls.mono L2.out ?_
    rintro e w2 ⟨a1, c1, rfl, o2, b2⟩
    have hB2 := hb.trans (b2.mono hb.size)
    have HLT : Hid (M4.IntsAt w2 a1 (JD.lts xs os os.length)) := M5.own_ints o2
    clear L2 o2 b2 hb
    go_wp2
    go_loopw [6, 8, 17] (fun xv _ iv wr => ∃ (k : Nat) (mx : Int), iv = .int .i64 k ∧ k ≤ os.length ∧ xv = .int .i64 mx ∧ Hid (JD.mxK xs os k = mx) ∧ w2 = wr) (fun _ _ iv _ => (os.length - intOf iv).toNat)
    case atStart => exact ⟨0, 0, rfl, by omega, rfl, (show Hid _ from rfl), rfl⟩
    case round =>
      obtain ⟨k, mx, rfl, hk, rfl, HX, rfl⟩ := hrel
      by_cases hlk : k < os.length
      · obtain ⟨b6, off6, rfl, hlt6, hc6⟩ := HLT.out.at (k := k) (by rw [JD.lts_len]; exact hlk)
        rw [JD.lts_at xs os hlk] at hc6
        have HX2 : Hid (JD.mxK xs os (k + 1) = if mx < JD.ltK xs os k then JD.ltK xs os k else mx) := by show _ = _; rw [JD.mxK, HX.out]
        clear HX HLT
        generalize JD.ltK xs os k = lt at *
        by_cases h1 : mx < lt
        · replace HX2 : Hid (JD.mxK xs os (k + 1) = lt) := by show _ = _; rw [HX2.out, if_pos h1]
          have r1 : max mx lt = lt := by omega
          go_wp2
          go_roundw
          case rel => exact ⟨k + 1, lt, by go_num, by omega, rfl, HX2, trivial⟩
          case measure => simp [intOf]; omega
        · replace HX2 : Hid (JD.mxK xs os (k + 1) = mx) := by show _ = _; rw [HX2.out, if_neg h1]
          have r1 : max mx lt = mx := by omega
          go_wp2
          go_roundw
          case rel => exact ⟨k + 1, mx, by go_num, by omega, rfl, HX2, trivial⟩
          case measure => simp [intOf]; omega
      · obtain rfl : k = os.length := by omega
        clear HLT
        go_wp2
        go_ret2
        exact ⟨by rw [HA2.out, HX.out]; rfl, hB2⟩
theorem implLatenessOf_any (a : Option Addr) (ca g cb : Nat) (xs : List I2) (os : List Int) (w : World) (hn : xs.length ≤ 1048576) (hm : os.length ≤ 1048576) (hin : MI2.RowAt w a xs) (hos : M4.IntsAt w (some ⟨g, 0, none⟩) os) :
    Calls Try.prog 6 #[.slice a xs.length ca, .slice (some ⟨g, 0, none⟩) os.length cb] w fun e w' => e = .returned (.tuple #[.int .i64 (JD.mxA xs os), .bool (JD.isO xs os)]) ∧ Below w.heap.size w w' :=
  implLatenessOfG_any a (some ⟨g, 0, none⟩) ca cb xs os w hm (implIsOrder_any a ca g cb xs os w hn hm hin hos) hin hos
set_option linter.unusedSimpArgs false in
set_option maxHeartbeats 1600000 in
set_option maxRecDepth 100000 in
theorem implLateInG_any (a b : Option Addr) (ca cb : Nat) (xs : List I2) (os : List Int) (w : World) (hm : os.length ≤ 1048576) (io : Calls Try.prog 12 #[.slice a xs.length ca, .slice b os.length cb] w fun e w' => e = .returned (.bool (JD.isO xs os)) ∧ Below w.heap.size w w') (hin : MI2.RowAt w a xs) (hos : M4.IntsAt w b os) :
    Calls Try.prog 14 #[.slice a xs.length ca, .slice b os.length cb] w fun e w' => e = .returned (.tuple #[.int .i64 (JD.mnA xs os), .bool (JD.isO xs os)]) ∧ Below w.heap.size w w' := by
  have IO : Hid _ := io
  have LL : Hid (JD.isO xs os = true → ∀ w1, Below w.heap.size w w1 → Calls Try.prog 23 #[.slice a xs.length ca, .slice b os.length cb] w1 fun e w' => ∃ a1 c1, e = .returned (.slice a1 os.length c1) ∧ w'.ownsRow w1.heap.size 3 1 (.slice a1 os.length c1) os.length (M4.iv (JD.lts xs os os.length)) ∧ Below w1.heap.size w1 w') := fun h w1 hb => latenesses_any a b ca cb xs os w1 (JD.Ord.of h) (hin.below hb) (hos.below hb)
  have HA : Hid (JD.mnA xs os = if JD.isO xs os = true then (JD.mnK xs os os.length : Int) else 0) := rfl
  generalize JD.mnA xs os = A at *
  generalize JD.isO xs os = q at *
  clear hin hos io
  go_enter Try.func14, Try.ntmps14
  go_wp2_with fail
  refine Calls.mono IO.out ?_
  rintro e w1 ⟨rfl, hb⟩
  clear IO
  cases q with
  | false =>
    have HA2 : Hid (A = 0) := by show _ = _; rw [HA.out]; rfl
    clear HA LL
    go_wp2
    go_ret2
    exact ⟨by rw [HA2.out]; rfl, hb⟩
  | true =>
    have HA2 : Hid (A = (JD.mnK xs os os.length : Int)) := by show _ = _; rw [HA.out]; rfl
    have L2 : Hid _ := LL.out rfl w1 hb
    clear HA LL
    go_wp2_with fail
    refine Calls.mono L2.out ?_
    rintro e w2 ⟨a1, c1, rfl, o2, b2⟩
    have hB2 := hb.trans (b2.mono hb.size)
    have HLT : Hid (M4.IntsAt w2 a1 (JD.lts xs os os.length)) := M5.own_ints o2
    clear L2 o2 b2 hb
    go_wp2
    go_loopw [6, 8, 17] (fun xv _ iv wr => ∃ (k mn : Nat), iv = .int .i64 k ∧ k ≤ os.length ∧ xv = .int .i64 (mn : Int) ∧ Hid (JD.mnK xs os k = mn) ∧ w2 = wr) (fun _ _ iv _ => (os.length - intOf iv).toNat)
    case atStart => exact ⟨0, 0, rfl, by omega, rfl, (show Hid _ from rfl), rfl⟩
    case round =>
      obtain ⟨k, mn, rfl, hk, rfl, HX, rfl⟩ := hrel
      by_cases hlk : k < os.length
      · obtain ⟨b6, off6, rfl, hlt6, hc6⟩ := HLT.out.at (k := k) (by rw [JD.lts_len]; exact hlk)
        rw [JD.lts_at xs os hlk] at hc6
        have HX2 : Hid (JD.mnK xs os (k + 1) = if 0 < JD.ltK xs os k then mn + 1 else mn) := by show _ = _; rw [JD.mnK, HX.out]
        have hmn := JD.mnK_le xs os k
        rw [HX.out] at hmn
        clear HX HLT
        generalize JD.ltK xs os k = lt at *
        by_cases h1 : 0 < lt
        · replace HX2 : Hid (JD.mnK xs os (k + 1) = mn + 1) := by show _ = _; rw [HX2.out, if_pos h1]
          have r1 : decide (0 < lt) = true := by simp; omega
          go_wp2
          go_roundw
          case rel => exact ⟨k + 1, mn + 1, by go_num, by omega, rfl, HX2, trivial⟩
          case measure => simp [intOf]; omega
        · replace HX2 : Hid (JD.mnK xs os (k + 1) = mn) := by show _ = _; rw [HX2.out, if_neg h1]
          have r1 : decide (0 < lt) = false := by simp; omega
          go_wp2
          go_roundw
          case rel => exact ⟨k + 1, mn, by go_num, by omega, rfl, HX2, trivial⟩
          case measure => simp [intOf]; omega
      · obtain rfl : k = os.length := by omega
        clear HLT
        go_wp2
        go_ret2
        exact ⟨by rw [HA2.out, HX.out]; rfl, hB2⟩
theorem implLateIn_any (a : Option Addr) (ca g cb : Nat) (xs : List I2) (os : List Int) (w : World) (hn : xs.length ≤ 1048576) (hm : os.length ≤ 1048576) (hin : MI2.RowAt w a xs) (hos : M4.IntsAt w (some ⟨g, 0, none⟩) os) :
    Calls Try.prog 14 #[.slice a xs.length ca, .slice (some ⟨g, 0, none⟩) os.length cb] w fun e w' => e = .returned (.tuple #[.int .i64 (JD.mnA xs os), .bool (JD.isO xs os)]) ∧ Below w.heap.size w w' :=
  implLateInG_any a (some ⟨g, 0, none⟩) ca cb xs os w hm (implIsOrder_any a ca g cb xs os w hn hm hin hos) hin hos
end Go.Proofs.Ytgenmljnhlcpcaa
