/- The walks of the cursor's number and numbers, and of DrawSdnvList: some numbers, at most 41. -/
import Derived.Test.YtapojeehidhhnaaCAmong
import Derived.Test.YtapojeehidhhnaaCL1Value
import Derived.Test.YtapojeehidhhnaaM5
namespace Go.Proofs.Ytapojeehidhhnaa
open Go.RowKit
theorem Try.info3 : (Try.prog.info? 3).map (fun i => (i.zero, i.size, i.bytes)) = some (some (.int .i64 0), 1, 8) := by kernel_rfl
def eightN : List Int := [-1, 0, 127, 128, 16383, 16384, 1000000000, 1000000001]
theorem eight_at (w : World) : M4.IntsAt (w.alloc (.cells #[.int .i64 (-1), .int .i64 0, .int .i64 127, .int .i64 128, .int .i64 16383, .int .i64 16384, .int .i64 1000000000, .int .i64 1000000001] 3)) (some ⟨w.heap.size, 0, none⟩) eightN := by
  refine .inr ⟨w.heap.size, 0, rfl, by simp, fun j hj => ?_⟩
  rw [Nat.zero_add, World.cell?_alloc_at _ _ _ _ (by rfl)]
  have : j < 8 := hj
  match j, this with
  | 0, _ | 1, _ | 2, _ | 3, _ | 4, _ | 5, _ | 6, _ | 7, _ => rfl
set_option maxHeartbeats 800000 in
set_option maxRecDepth 100000 in
theorem number_any (p : Nat) (a : Option Addr) (zs : List Int) (cap M : Nat) (w : World) (hz : zs.length ≤ 140737488355328) (hM : M ≤ 140737488340000) (hc : MC.Cur w p a zs cap M) :
    Calls Try.prog 22 #[.pointer (some ⟨p, 0, none⟩)] w fun e w' => ∃ z : Int, e = .returned (.int .i64 z) ∧ MC.Cur w' p a zs cap (M + 4) ∧ MC.Only p w w' := by
  go_enter Try.func22, Try.ntmps22
  go_wp2_with fail
  refine (pick_any p a zs cap M _ _ hz (by omega) hc).mono ?_
  rintro e w1 ⟨r, rfl, hr, _, hc1, ho1⟩
  have hlt := hc1.lt
  by_cases h0 : r = 0
  · subst h0
    clear hr
    go_wp2_with fail
    refine (among_any p a zs cap (M + 2) _ eightN 8 _ hz (by omega) (hc1.alloc _) (by decide) (by decide) (eight_at w1) (fun b off e => by simp at e; omega)).mono ?_
    rintro e w2 ⟨z, rfl, _, hc2, ho2⟩
    go_wp2
    go_ret
    exact ⟨z, rfl, hc2, (ho1.alloc _).trans ho2⟩
  · by_cases h1 : r = 1
    · subst h1
      clear hr h0
      go_wp2_with fail
      refine (pick_any p a zs cap (M + 2) _ _ hz (by omega) hc1).mono ?_
      rintro e w2 ⟨z, rfl, _, _, hc2, ho2⟩
      go_wp2
      go_ret
      exact ⟨z, rfl, hc2, ho1.trans ho2⟩
    · have e0 : ((r : Int) == 0) = false := by simp; omega
      have e1 : ((r : Int) == 1) = false := by simp; omega
      clear h0 h1 hr
      go_wp2_with fail
      refine (pick_any p a zs cap (M + 2) _ _ hz (by omega) hc1).mono ?_
      rintro e w2 ⟨z, rfl, _, _, hc2, ho2⟩
      go_wp2
      go_ret
      exact ⟨z, rfl, hc2, ho1.trans ho2⟩
set_option maxHeartbeats 1600000 in
set_option maxRecDepth 100000 in
theorem numbers_any (p : Nat) (a : Option Addr) (zs : List Int) (cap M : Nat) (w : World) (hz : zs.length ≤ 140737488355328) (hM : M ≤ 140737488330000) (hc : MC.Cur w p a zs cap M) :
    Calls Try.prog 13 #[.pointer (some ⟨p, 0, none⟩)] w fun e w' => ∃ av lc l, e = .returned (.slice av (List.length l) lc) ∧ l.length ≤ 41 ∧ w'.ownsRow w.heap.size 3 1 (.slice av l.length lc) l.length (M4.iv l) ∧ MC.Cur w' p a zs cap (M + 400) ∧ MC.Only p w w' := by
  obtain ⟨i0, hi, hz0, hz1, hz2⟩ := info_parts Try.info3
  have hplt := hc.lt
  go_enter Try.func13, Try.ntmps13
  go_wp2_with fail
  refine (pick_any p a zs cap M _ _ hz (by omega) hc).mono ?_
  rintro e w1 ⟨r, rfl, hr, _, hc1, ho1⟩
  have hr6 : r < 6 := by omega
  clear hr hc
  go_wp2_with fail
  refine (one_any p a zs cap (M + 2) _ _ hz (by omega) hc1).mono ?_
  rintro e w2 ⟨b, rfl, hc2, ho2⟩
  have hoA := ho1.trans ho2
  clear ho1 ho2 hc1
  cases b with
  | false =>
    go_wp2_with fail
    go_loopw [3, 4, 5] (fun lv nv kv wr => ∃ (m : Nat) (l : List Int) (M' : Nat), nv = .int .i64 m ∧ l.length + m ≤ 41 ∧ wr.ownsRow w.heap.size 3 1 lv l.length (M4.iv l) ∧ MC.Cur wr p a zs cap M' ∧ M' + 8 * m ≤ M + 400 ∧ MC.Only p w wr) (fun _ nv _ _ => (intOf nv).toNat)
    case atStart => exact ⟨r, [], M + 4, rfl, by simp; omega, World.ownsRow_nil _ _ _ _, hc2, by omega, hoA⟩
    case round =>
      clear hc2 hoA
      obtain ⟨m, l, M', rfl, hm, hown, hcr, hMr, hor⟩ := hrel
      by_cases hm0 : 0 < m
      · go_wp2_with fail
        refine (number_any p a zs cap M' _ hz (by omega) hcr).mono ?_
        rintro e w3 ⟨z, rfl, hc3, ho3⟩
        have hown3 := MC.own_only hown ho3 hplt
        have hor3 := hor.trans ho3
        clear hown ho3 hcr
        go_wp2_with fail
        refine (l1Value_any _ _).mono ?_
        rintro e w' ⟨rfl, rfl⟩
        cases hok : okN z with
        | true =>
          have hownW := hown3
          clear hok hown3
          go_wp2_with (at_builtin; refine wpList_append_own _ rfl _ _ 23 rfl w.heap.size 3 i0 (.int .i64 0) 1 8 Try.underlying23 hi hz0 hz1 hz2 rfl (by decide) _ _ _ rfl (hownW.alloc _) ⟨w3.heap.size, 0, none⟩ 1 1 [.int .i64 z] rfl rfl ?c1 ?c2 ?c3 ?c4 ?c5 ?_)
          case c1 => exact M2.new1 _ _ _
          case c2 => exact M2.one1 _ _
          case c3 => unfold maxLen; omega
          case c4 => omega
          case c5 => have := hor3.size; simp; omega
          intro v' wn hown1 hgrow _
          have R1 : wn.ownsRow w.heap.size 3 1 v' (l ++ [z]).length (M4.iv (l ++ [z])) := by simpa [M4.iv] using hown1
          have R2 := (hc3.alloc _).grown hgrow (fun j hj => by have := (hownW.lt j hj).1; omega)
          have R3 := (hor3.alloc _).grown hgrow (fun j hj => (hownW.lt j hj).1)
          clear hown1 hgrow hownW
          go_wp2
          go_roundw
          case rel => exact ⟨m - 1, l ++ [z], _, by go_num, by simp; omega, R1, R2, by omega, R3⟩
          case measure => simp [intOf]; omega
        | false =>
          clear hok
          go_wp2_with fail
          refine (one_any p a zs cap (M' + 4) _ _ hz (by omega) hc3).mono ?_
          rintro e w4 ⟨b, rfl, hc4, ho4⟩
          have hownW := MC.own_only hown3 ho4 hplt
          have hor4 := hor3.trans ho4
          clear hown3 hor3 hc3 ho4
          cases b with
          | true =>
            go_wp2_with (at_builtin; refine wpList_append_own _ rfl _ _ 23 rfl w.heap.size 3 i0 (.int .i64 0) 1 8 Try.underlying23 hi hz0 hz1 hz2 rfl (by decide) _ _ _ rfl (hownW.alloc _) ⟨w4.heap.size, 0, none⟩ 1 1 [.int .i64 z] rfl rfl ?c1 ?c2 ?c3 ?c4 ?c5 ?_)
            case c1 => exact M2.new1 _ _ _
            case c2 => exact M2.one1 _ _
            case c3 => unfold maxLen; omega
            case c4 => omega
            case c5 => have := hor4.size; simp; omega
            intro v' wn hown1 hgrow _
            have R1 : wn.ownsRow w.heap.size 3 1 v' (l ++ [z]).length (M4.iv (l ++ [z])) := by simpa [M4.iv] using hown1
            have R2 := (hc4.alloc _).grown hgrow (fun j hj => by have := (hownW.lt j hj).1; omega)
            have R3 := (hor4.alloc _).grown hgrow (fun j hj => (hownW.lt j hj).1)
            clear hown1 hgrow hownW
            go_wp2
            go_roundw
            case rel => exact ⟨m - 1, l ++ [z], _, by go_num, by simp; omega, R1, R2, by omega, R3⟩
            case measure => simp [intOf]; omega
          | false =>
            go_wp2_with (at_builtin; refine wpList_append_own _ rfl _ _ 23 rfl w.heap.size 3 i0 (.int .i64 0) 1 8 Try.underlying23 hi hz0 hz1 hz2 rfl (by decide) _ _ _ rfl (hownW.alloc _) ⟨w4.heap.size, 0, none⟩ 1 1 [.int .i64 5] rfl rfl ?c1 ?c2 ?c3 ?c4 ?c5 ?_)
            case c1 => exact M2.new1 _ _ _
            case c2 => exact M2.one1 _ _
            case c3 => unfold maxLen; omega
            case c4 => omega
            case c5 => have := hor4.size; simp; omega
            intro v' wn hown1 hgrow _
            have R1 : wn.ownsRow w.heap.size 3 1 v' (l ++ [5]).length (M4.iv (l ++ [5])) := by simpa [M4.iv] using hown1
            have R2 := (hc4.alloc _).grown hgrow (fun j hj => by have := (hownW.lt j hj).1; omega)
            have R3 := (hor4.alloc _).grown hgrow (fun j hj => (hownW.lt j hj).1)
            clear hown1 hgrow hownW
            go_wp2
            go_roundw
            case rel => exact ⟨m - 1, l ++ [5], _, by go_num, by simp; omega, R1, R2, by omega, R3⟩
            case measure => simp [intOf]; omega
      · obtain rfl : m = 0 := by omega
        obtain ⟨av, lc, hv⟩ := M5.own_view hown
        rw [hv.1] at hown ⊢
        go_wp2
        go_ret
        exact ⟨av, lc, l, rfl, by omega, hown, hcr.more (by omega), hor⟩
  | true =>
    go_wp2_with fail
    refine (pick_any p a zs cap (M + 4) _ _ hz (by omega) hc2).mono ?_
    rintro e w2' ⟨r2, rfl, hr2, _, hc2', ho2'⟩
    have hr22 : r2 < 2 := by omega
    have hoB := hoA.trans ho2'
    clear hr2 hc2 hoA ho2'
    go_wp2_with fail
    go_loopw [3, 4, 5] (fun lv nv kv wr => ∃ (m : Nat) (l : List Int) (M' : Nat), nv = .int .i64 m ∧ l.length + m ≤ 41 ∧ wr.ownsRow w.heap.size 3 1 lv l.length (M4.iv l) ∧ MC.Cur wr p a zs cap M' ∧ M' + 8 * m ≤ M + 400 ∧ MC.Only p w wr) (fun _ nv _ _ => (intOf nv).toNat)
    case atStart => exact ⟨40 + r2, [], M + 6, by go_num, by simp; omega, World.ownsRow_nil _ _ _ _, hc2', by omega, hoB⟩
    case round =>
      clear hc2' hoB
      obtain ⟨m, l, M', rfl, hm, hown, hcr, hMr, hor⟩ := hrel
      by_cases hm0 : 0 < m
      · go_wp2_with fail
        refine (number_any p a zs cap M' _ hz (by omega) hcr).mono ?_
        rintro e w3 ⟨z, rfl, hc3, ho3⟩
        have hown3 := MC.own_only hown ho3 hplt
        have hor3 := hor.trans ho3
        clear hown ho3 hcr
        go_wp2_with fail
        refine (l1Value_any _ _).mono ?_
        rintro e w' ⟨rfl, rfl⟩
        cases hok : okN z with
        | true =>
          have hownW := hown3
          clear hok hown3
          go_wp2_with (at_builtin; refine wpList_append_own _ rfl _ _ 23 rfl w.heap.size 3 i0 (.int .i64 0) 1 8 Try.underlying23 hi hz0 hz1 hz2 rfl (by decide) _ _ _ rfl (hownW.alloc _) ⟨w3.heap.size, 0, none⟩ 1 1 [.int .i64 z] rfl rfl ?c1 ?c2 ?c3 ?c4 ?c5 ?_)
          case c1 => exact M2.new1 _ _ _
          case c2 => exact M2.one1 _ _
          case c3 => unfold maxLen; omega
          case c4 => omega
          case c5 => have := hor3.size; simp; omega
          intro v' wn hown1 hgrow _
          have R1 : wn.ownsRow w.heap.size 3 1 v' (l ++ [z]).length (M4.iv (l ++ [z])) := by simpa [M4.iv] using hown1
          have R2 := (hc3.alloc _).grown hgrow (fun j hj => by have := (hownW.lt j hj).1; omega)
          have R3 := (hor3.alloc _).grown hgrow (fun j hj => (hownW.lt j hj).1)
          clear hown1 hgrow hownW
          go_wp2
          go_roundw
          case rel => exact ⟨m - 1, l ++ [z], _, by go_num, by simp; omega, R1, R2, by omega, R3⟩
          case measure => simp [intOf]; omega
        | false =>
          clear hok
          go_wp2_with fail
          refine (one_any p a zs cap (M' + 4) _ _ hz (by omega) hc3).mono ?_
          rintro e w4 ⟨b, rfl, hc4, ho4⟩
          have hownW := MC.own_only hown3 ho4 hplt
          have hor4 := hor3.trans ho4
          clear hown3 hor3 hc3 ho4
          cases b with
          | true =>
            go_wp2_with (at_builtin; refine wpList_append_own _ rfl _ _ 23 rfl w.heap.size 3 i0 (.int .i64 0) 1 8 Try.underlying23 hi hz0 hz1 hz2 rfl (by decide) _ _ _ rfl (hownW.alloc _) ⟨w4.heap.size, 0, none⟩ 1 1 [.int .i64 z] rfl rfl ?c1 ?c2 ?c3 ?c4 ?c5 ?_)
            case c1 => exact M2.new1 _ _ _
            case c2 => exact M2.one1 _ _
            case c3 => unfold maxLen; omega
            case c4 => omega
            case c5 => have := hor4.size; simp; omega
            intro v' wn hown1 hgrow _
            have R1 : wn.ownsRow w.heap.size 3 1 v' (l ++ [z]).length (M4.iv (l ++ [z])) := by simpa [M4.iv] using hown1
            have R2 := (hc4.alloc _).grown hgrow (fun j hj => by have := (hownW.lt j hj).1; omega)
            have R3 := (hor4.alloc _).grown hgrow (fun j hj => (hownW.lt j hj).1)
            clear hown1 hgrow hownW
            go_wp2
            go_roundw
            case rel => exact ⟨m - 1, l ++ [z], _, by go_num, by simp; omega, R1, R2, by omega, R3⟩
            case measure => simp [intOf]; omega
          | false =>
            go_wp2_with (at_builtin; refine wpList_append_own _ rfl _ _ 23 rfl w.heap.size 3 i0 (.int .i64 0) 1 8 Try.underlying23 hi hz0 hz1 hz2 rfl (by decide) _ _ _ rfl (hownW.alloc _) ⟨w4.heap.size, 0, none⟩ 1 1 [.int .i64 5] rfl rfl ?c1 ?c2 ?c3 ?c4 ?c5 ?_)
            case c1 => exact M2.new1 _ _ _
            case c2 => exact M2.one1 _ _
            case c3 => unfold maxLen; omega
            case c4 => omega
            case c5 => have := hor4.size; simp; omega
            intro v' wn hown1 hgrow _
            have R1 : wn.ownsRow w.heap.size 3 1 v' (l ++ [5]).length (M4.iv (l ++ [5])) := by simpa [M4.iv] using hown1
            have R2 := (hc4.alloc _).grown hgrow (fun j hj => by have := (hownW.lt j hj).1; omega)
            have R3 := (hor4.alloc _).grown hgrow (fun j hj => (hownW.lt j hj).1)
            clear hown1 hgrow hownW
            go_wp2
            go_roundw
            case rel => exact ⟨m - 1, l ++ [5], _, by go_num, by simp; omega, R1, R2, by omega, R3⟩
            case measure => simp [intOf]; omega
      · obtain rfl : m = 0 := by omega
        obtain ⟨av, lc, hv⟩ := M5.own_view hown
        rw [hv.1] at hown ⊢
        go_wp2
        go_ret
        exact ⟨av, lc, l, rfl, by omega, hown, hcr.more (by omega), hor⟩
end Go.Proofs.Ytapojeehidhhnaa
