import Derived.Test.YtjplabldiheggaaRows
import Derived.Test.YtjplabldiheggaaM4
import Derived.WalkKit
import Derived.WalkSpells
import Derived.WalkLawsBesides
import Derived.Outline
import Derived.Deep.QuietTactic
import Derived.BigQuiet
import Derived.Test.YtjplabldiheggaaCPick
import Derived.Test.YtjplabldiheggaaCInfoRc
import Derived.Test.YtjplabldiheggaaM5
import Derived.Test.YtjplabldiheggaaMTr
import Derived.Test.YtjplabldiheggaaMCurNew
import Derived.Test.YtjplabldiheggaaMRA
import Derived.Test.YtjplabldiheggaaMHasB
import Derived.Test.YtjplabldiheggaaCBundleD
import Derived.Test.YtjplabldiheggaaM2
import Derived.Deep.DeepCutAuto
import Derived.Test.YtjplabldiheggaaCPlan
import Derived.Test.YtjplabldiheggaaCSmall6
import Derived.Test.YtjplabldiheggaaCPlanD
import Derived.Deep.RegionHeld3
import Derived.Test.YtjplabldiheggaaMGp
import Derived.Test.YtjplabldiheggaaCRise
import Derived.Test.YtjplabldiheggaaCPutT
import Derived.Laws.AppendOwnNone
import Derived.Test.YtjplabldiheggaaCMemb
import Derived.Test.YtjplabldiheggaaCHasJ
import Derived.Test.YtjplabldiheggaaCFloat
import Derived.Test.YtjplabldiheggaaC6Journey
import Derived.Test.YtjplabldiheggaaCAmong
import Derived.Test.YtjplabldiheggaaMTreR
import Derived.Test.YtjplabldiheggaaMDel
import Derived.Test.YtjplabldiheggaaCReaA
import Derived.Test.YtjplabldiheggaaCReachS
import Derived.Test.YtjplabldiheggaaCTreR
import Derived.Test.YtjplabldiheggaaCTreS
import Derived.Test.YtjplabldiheggaaCDelI
import Derived.Test.YtjplabldiheggaaCDelS
/- The laws' sameInts tells whether two slices hold the same numbers. -/
namespace Go.Proofs.Ytjplabldiheggaa
open Go.RowKit
set_option maxHeartbeats 800000 in
set_option maxRecDepth 100000 in
theorem sameInts_any (a b : Option Addr) (ca cb : Nat) (xs ys : List Int) (w : World) (hx : xs.length ≤ 140737488355328) (hy : ys.length ≤ 140737488355328) (hax : M4.IntsAt w a xs) (hay : M4.IntsAt w b ys) :
    Calls Try.prog 9 #[.slice a xs.length ca, .slice b ys.length cb] w fun e w' => e = .returned (.bool (decide (xs = ys))) ∧ Below w.heap.size w w' := by
  by_cases hl : xs.length = ys.length
  · have hne : ((xs.length : Int) != (ys.length : Int)) = false := by simp [hl]
    have l1 : xs.length ≤ ys.length := by omega
    have HL : Hid (xs.length = ys.length) := hl
    clear hl
    go_enter Try.func9, Try.ntmps9
    go_wp2
    go_loopw [5, 13] (fun _ iv wr => ∃ k : Nat, iv = .int .i64 k ∧ k ≤ xs.length ∧ Hid (xs.take k = ys.take k) ∧ Below w.heap.size w wr) (fun _ iv _ => (xs.length - intOf iv).toNat)
    case atStart => exact ⟨0, rfl, by omega, rfl, Below.refl _ _⟩
    case round =>
      obtain ⟨k, rfl, hk, hT, hb⟩ := hrel
      by_cases hl : k < xs.length
      · have hly : k < ys.length := by omega
        obtain ⟨b1, off1, rfl, hlt1, hc1⟩ := (hax.below hb).at hl
        obtain ⟨b2, off2, rfl, hlt2, hc2⟩ := (hay.below hb).at hly
        clear hax hay
        obtain ⟨x, hx'⟩ : ∃ x, x = xs.getD k 0 := ⟨_, rfl⟩
        obtain ⟨y, hy'⟩ : ∃ y, y = ys.getD k 0 := ⟨_, rfl⟩
        rw [← hx'] at hc1
        rw [← hy'] at hc2
        have HX : Hid (x = xs.getD k 0) := hx'
        have HY : Hid (y = ys.getD k 0) := hy'
        clear hx' hy'
        by_cases hxy : x = y
        · have hT' : Hid (xs.take (k + 1) = ys.take (k + 1)) := by
            show _ = _
            rw [M4.take_snoc xs k hl, M4.take_snoc ys k hly, hT.out, ← HX.out, ← HY.out, hxy]
          subst hxy
          go_wp2
          go_quiet (fail)
          go_wp2
          go_roundw
          case rel => exact ⟨k + 1, by go_num, by omega, hT', below_drewN hb _⟩
          case measure => simp [intOf]; omega
        · have hbe : (x != y) = true := by simp [hxy]
          have hF : Hid (decide (xs = ys) = false) := by
            show _ = _
            simp only [decide_eq_false_iff_not]
            exact M4.take_ne xs ys k (by rw [← HX.out, ← HY.out]; exact hxy)
          clear hxy
          go_wp2
          go_quiet (fail)
          go_wp2
          go_ret
          exact ⟨M4.ret_bool hF.out.symm, below_drewN hb _⟩
      · obtain rfl : k = xs.length := by omega
        have hF : Hid (decide (xs = ys) = true) := by
          show _ = _
          simp only [decide_eq_true_eq]
          exact M4.take_eq xs ys HL.out hT.out
        go_wp2
        go_ret
        exact ⟨M4.ret_bool hF.out.symm, hb⟩
  · have hne : ((xs.length : Int) != (ys.length : Int)) = true := by simp; omega
    have hF : Hid (decide (xs = ys) = false) := by
      show _ = _
      simp only [decide_eq_false_iff_not]
      exact fun e => hl (by rw [e])
    clear hl
    go_enter Try.func9, Try.ntmps9
    go_wp2
    go_ret
    exact ⟨M4.ret_bool hF.out.symm, Below.refl _ _⟩
end Go.Proofs.Ytjplabldiheggaa

/- Members, drawn: the cursor's members. -/
namespace Go.Proofs.Ytjplabldiheggaa
open Go.RowKit
set_option linter.unusedSimpArgs false in
set_option maxHeartbeats 1600000 in
set_option maxRecDepth 100000 in
theorem members_any (p : Nat) (a : Option Addr) (zs : List Int) (cap M : Nat) (w : World) (hz : zs.length ≤ 140737488355328) (hM : M ≤ 140737488340000) (hc : MC.Cur w p a zs cap M) :
    Calls Try.prog 19 #[.pointer (some ⟨p, 0, none⟩)] w fun e w' => ∃ a1 c1 l, e = .returned (.slice a1 (List.length l) c1) ∧ l.length ≤ 7 ∧ w'.ownsRow w.heap.size 3 1 (.slice a1 l.length c1) l.length (M4.iv l) ∧ MC.Cur w' p a zs cap (M + 16) ∧ MC.Only p w w' := by
  obtain ⟨i0, hi, hz0, hz1, hz2⟩ := info_parts Try.info3
  have hplt := hc.lt
  go_enter Try.func19, Try.ntmps19
  go_wp2
  go_loopw [3, 4] (fun v iv wr => ∃ (k : Nat) (l : List Int), iv = .int .i64 k ∧ k ≤ 6 ∧ l.length ≤ k ∧ wr.ownsRow w.heap.size 3 1 v l.length (M4.iv l) ∧ MC.Cur wr p a zs cap (M + 2 * k) ∧ MC.Only p w wr) (fun _ iv _ => (6 - intOf iv).toNat)
  case atStart => exact ⟨0, [], rfl, by omega, by simp, World.ownsRow_nil _ _ _ _, hc, MC.Only.refl _ _⟩
  case round =>
    clear hc
    obtain ⟨k, l, rfl, hk, hl, hown, hcr, hon⟩ := hrel
    have hws := hon.size
    by_cases hkn : k < 6
    · have kn : (k : Int) < 6 := by omega
      go_wp2_with fail
      refine (one_any p a zs cap (M + 2 * k) _ _ hz (by omega) hcr).mono ?_
      rintro e w1 ⟨b, rfl, hc1, ho1⟩
      have hownW := MC.own_only hown ho1 hplt
      have hon1 := hon.trans ho1
      have hs1 := hon1.size
      clear ho1 hown hcr hon
      cases b with
      | false =>
        go_wp2
        go_roundw
        case rel => exact ⟨k + 1, l, by go_num, by omega, by omega, hownW, hc1, hon1⟩
        case measure => simp [intOf]; omega
      | true =>
        go_wp2_with (at_builtin; refine wpList_append_own _ rfl _ _ 26 rfl w.heap.size 3 i0 (.int .i64 0) 1 8 Try.underlying26 hi hz0 hz1 hz2 rfl (by decide) _ _ _ rfl (hownW.alloc _) ⟨w1.heap.size, 0, none⟩ 1 1 [.int .i64 (k : Int)] rfl rfl ?c1 ?c2 ?c3 ?c4 ?c5 ?_)
        case c1 => exact M2.new1 _ _ _
        case c2 => exact M2.one1 _ _
        case c3 => unfold maxLen; omega
        case c4 => omega
        case c5 => simp; omega
        intro v' wn hown1 hgrow _
        have R1 : wn.ownsRow w.heap.size 3 1 v' (l ++ [(k : Int)]).length (M4.iv (l ++ [(k : Int)])) := by simpa [M4.iv] using hown1
        have R2 := (hc1.alloc _).grown hgrow (fun j hj => by have := (hownW.lt j hj).1; omega)
        have R3 := (hon1.alloc _).grown hgrow (fun j hj => (hownW.lt j hj).1)
        have hl2 : (l ++ [(k : Int)]).length ≤ k + 1 := by simp; omega
        clear hown1 hgrow hownW
        generalize l ++ [(k : Int)] = l2 at *
        go_wp2
        go_roundw
        case rel => exact ⟨k + 1, l2, by go_num, by omega, by omega, R1, R2, R3⟩
        case measure => simp [intOf]; omega
    · obtain rfl : k = 6 := by omega
      go_wp2_with fail
      refine (one_any p a zs cap (M + 2 * 6) _ _ hz (by omega) hcr).mono ?_
      rintro e w1 ⟨b, rfl, hc1, ho1⟩
      have hownW := MC.own_only hown ho1 hplt
      have hon1 := hon.trans ho1
      have hs1 := hon1.size
      clear ho1 hown hcr hon
      cases b with
      | false =>
        obtain ⟨av, lc, hv⟩ := M5.own_view hownW
        rw [hv.1] at hownW ⊢
        go_wp2
        go_ret
        exact ⟨av, lc, l, rfl, by omega, hownW, hc1.more (by omega), hon1⟩
      | true =>
        go_wp2_with fail
        refine (pick_any p a zs cap (M + 14) _ _ hz (by omega) (hc1.more (by omega))).mono ?_
        rintro e w2 ⟨r, rfl, -, -, hc2, ho2⟩
        have hown2 := MC.own_only hownW ho2 hplt
        have hon2 := hon1.trans ho2
        have hs2 := hon2.size
        clear ho2 hownW hon1 hc1 hs1
        go_wp2_with (at_builtin; refine wpList_append_own _ rfl _ _ 26 rfl w.heap.size 3 i0 (.int .i64 0) 1 8 Try.underlying26 hi hz0 hz1 hz2 rfl (by decide) _ _ _ rfl (hown2.alloc _) ⟨w2.heap.size, 0, none⟩ 1 1 [.int .i64 (r : Int)] rfl rfl ?d1 ?d2 ?d3 ?d4 ?d5 ?_)
        case d1 => exact M2.new1 _ _ _
        case d2 => exact M2.one1 _ _
        case d3 => unfold maxLen; omega
        case d4 => omega
        case d5 => simp; omega
        intro v' wn hown1 hgrow _
        have R1 : wn.ownsRow w.heap.size 3 1 v' (l ++ [(r : Int)]).length (M4.iv (l ++ [(r : Int)])) := by simpa [M4.iv] using hown1
        have R2 := (hc2.alloc _).grown hgrow (fun j hj => by have := (hown2.lt j hj).1; omega)
        have R3 := (hon2.alloc _).grown hgrow (fun j hj => (hown2.lt j hj).1)
        have hl2 : (l ++ [(r : Int)]).length ≤ 7 := by simp; omega
        clear hown1 hgrow hown2
        generalize l ++ [(r : Int)] = l2 at *
        obtain ⟨av, lc, hv⟩ := M5.own_view R1
        rw [hv.1] at R1 ⊢
        go_wp2
        go_ret
        exact ⟨av, lc, l2, rfl, hl2, R1, R2, R3⟩
end Go.Proofs.Ytjplabldiheggaa

/- thoseOf of the program handed the closure impl.JoinMembers$1. -/
namespace Go.Proofs.Ytjplabldiheggaa
open Go.RowKit
set_option maxHeartbeats 1600000 in
set_option maxRecDepth 100000 in
theorem thoseOfJ_any (c1 c2 : Value) (n : Nat) (P : Nat → Bool) (w : World) (hn8 : n ≤ 1000) (hF : ∀ (i : Nat) (W : World), i < n → Below w.heap.size w W → Calls Try.prog 43 #[.int .i64 (i : Int), c1, c2] W fun e w' => e = .returned (.bool (P i)) ∧ Below W.heap.size W w') (L : List Int) (hL : Hid (TR.those n P = L)) :
    Calls Try.prog 29 #[.int .i64 (n : Int), .func (.func 43) #[] #[c1, c2]] w fun e w' => ∃ a1 c1, e = .returned (.slice a1 L.length c1) ∧ w'.ownsRow w.heap.size 3 1 (.slice a1 L.length c1) L.length (M4.iv L) ∧ Below w.heap.size w w' := by
  have HF : Hid _ := hF
  clear hF
  obtain ⟨i0, hi, hz0, hz1, hz2⟩ := info_parts Try.info3
  go_enter Try.func29, Try.ntmps29
  go_wp2
  go_loopw [5, 8] (fun u iv wr => ∃ k : Nat, iv = .int .i64 k ∧ k ≤ n ∧ Hid (wr.ownsRow w.heap.size 3 1 u (TR.those k P).length (M4.iv (TR.those k P))) ∧ Below w.heap.size w wr) (fun _ iv _ => (n - intOf iv).toNat)
  case atStart => exact ⟨0, rfl, by omega, World.ownsRow_nil _ _ _ _, Below.refl _ _⟩
  case round =>
    obtain ⟨k, rfl, hk, hT, hb⟩ := hrel
    have hbs := hb.size
    by_cases hl : k < n
    · have hfl := TR.those_len k P
      have FK := HF.out k wr hl hb
      have TY := fun h => TR.those_yes (n := k) (P := P) h
      have TN := fun h => TR.those_no (n := k) (P := P) h
      generalize P k = q at *
      have HFK : Hid _ := FK
      have HTY : Hid _ := TY
      have HTN : Hid _ := TN
      clear FK TY TN
      generalize TR.those k P = K at *
      cases q
      · have hE := HTN.out rfl
        clear HTY HTN
        go_wp2_with fail
        refine Calls.mono HFK.out ?_
        rintro e w4 ⟨rfl, hb4⟩
        have HT4 : Hid (w4.ownsRow w.heap.size 3 1 u5 (TR.those (k + 1) P).length (M4.iv (TR.those (k + 1) P))) := by rw [hE]; exact M5.own_below hT.out hb4
        have hb5 := hb.trans (hb4.mono hb.size)
        clear HFK hT hb4 hE
        go_wp2
        go_roundw
        case rel => exact ⟨k + 1, by go_num, by omega, HT4, hb5⟩
        case measure => simp [intOf]; omega
      · have hE := HTY.out rfl
        have HE : Hid _ := hE
        clear HTY HTN hE
        go_wp2_with fail
        refine Calls.mono HFK.out ?_
        rintro e w4 ⟨rfl, hb4⟩
        have HT4 : Hid (w4.ownsRow w.heap.size 3 1 u5 K.length (M4.iv K)) := M5.own_below hT.out hb4
        have hb5 := hb.trans (hb4.mono hb.size)
        have hbs5 := hb5.size
        clear HFK hT hb4
        generalize hkl : K.length = kl at *
        have HKL : Hid _ := hkl
        clear hkl
        go_wp2_with (at_builtin; (refine wpList_append_own _ rfl _ _ 26 rfl w.heap.size 3 i0 (.int .i64 0) 1 8 Try.underlying26 hi hz0 hz1 hz2 rfl (by decide) _ _ _ rfl (World.ownsRow.alloc HT4.out _) ⟨w4.heap.size, 0, none⟩ 1 1 [.int .i64 (k : Int)] rfl rfl ?c1 ?c2 ?c3 ?c4 ?c5 ?_))
        all_goals try (first | rfl | omega | exact M2.new1 _ _ _ | exact M2.one1 _ _ | (unfold maxLen; omega) | (simp; omega))
        intro v' w6 hown1 hgrow _
        have hb6 : Below w.heap.size w w6 := (hb5.alloc hbs5 _).grown hgrow (by simp; omega) (fun j hj => (World.ownsRow.lt HT4.out j hj).1)
        have HT6 : Hid (w6.ownsRow w.heap.size 3 1 v' (TR.those (k + 1) P).length (M4.iv (TR.those (k + 1) P))) := by
          rw [HE.out]; exact TR.own_snoc (by rw [HKL.out]; exact hown1) rfl
        clear hown1 hgrow HT4 HE HKL hb5
        go_wp2
        go_roundw
        case rel => exact ⟨k + 1, by go_num, by omega, HT6, hb6⟩
        case measure => simp [intOf]; omega
    · obtain rfl : n = k := by omega
      have hLL := hL.out
      subst hLL
      obtain ⟨a1, c1, rfl, -⟩ := M5.own_view hT.out
      clear HF hL
      go_wp2
      go_ret
      exact ⟨a1, c1, rfl, hT.out, hb⟩
end Go.Proofs.Ytjplabldiheggaa

/- DrawJoinMembers: two lists of members, drawn. -/
namespace Go.Proofs.Ytjplabldiheggaa
open Go.RowKit
theorem MEM.cap0 {w : World} {B n c : Nat} {a : Option Addr} {zs : List Value} (h : w.ownsRow B 3 1 (.slice a n c) n zs) : a = none → c = 0 := fun e => by
  subst e
  rcases h.2 with ⟨h', _⟩ | ⟨g', c', cur, hv, _⟩
  · cases h'; rfl
  · cases hv
set_option linter.unusedSimpArgs false in
set_option maxHeartbeats 1600000 in
set_option maxRecDepth 100000 in
theorem dJoin_any (a : Option Addr) (zs : List Int) (cap : Nat) (w : World) (hz : zs.length ≤ 140737488355328) (hb : MC.BytesAt w w.heap.size a zs) :
    Calls Try.prog 15 #[.slice a zs.length cap] w fun e w' => ∃ (a1 a2 : Option Addr) (c1 c2 : Nat) (m1 m2 : List Int), e = .returned (.tuple #[.slice a1 m1.length c1, .slice a2 m2.length c2]) ∧ m1.length ≤ 7 ∧ m2.length ≤ 7 ∧ M4.IntsAt w' a1 m1 ∧ M4.IntsAt w' a2 m2 ∧ (a1 = none → c1 = 0) ∧ (a2 = none → c2 = 0) ∧ Below w.heap.size w w' := by
  have hcur := cur_new (T := 49) (cap := cap) hb
  have hnb : Hid (∀ W, MC.Only w.heap.size (w.alloc (.cells #[.slice a zs.length cap, .int .i64 0, .int .u64 0] 49)) W → Below w.heap.size w W) := fun W h => new_below rfl h
  have hsz : (w.alloc (.cells #[.slice a zs.length cap, .int .i64 0, .int .u64 0] 49)).heap.size = w.heap.size + 1 := by simp
  clear hb
  go_enter Try.func15, Try.ntmps15
  go_wp2_with fail
  refine (members_any w.heap.size a zs cap 0 _ hz (by omega) hcur).mono ?_
  rintro e w1 ⟨a1, c1, m1, rfl, hl1, hown1, hc1, ho1⟩
  rw [hsz] at hown1
  clear hcur hsz
  have HO1 : Hid _ := hown1
  clear hown1
  go_wp2_with fail
  refine (members_any w.heap.size a zs cap (0 + 16) _ hz (by omega) hc1).mono ?_
  rintro e w2 ⟨a2, c2, m2, rfl, hl2, hown2, hc2, ho2⟩
  have HO2 : Hid _ := hown2
  have HO3 : Hid _ := RA.own_only HO1.out ho2 (fun e => by have := (World.ownsRow.lt HO1.out _ e).1; omega)
  have hB := hnb.out _ (ho1.trans ho2)
  clear hc1 hc2 ho1 ho2 hnb hown2
  go_wp2
  exact bodyPost_ret (v := .tuple #[.slice a1 m1.length c1, .slice a2 m2.length c2]) (by simp [results, Try.results15, go_sem]) rfl ⟨a1, a2, c1, c2, m1, m2, rfl, hl1, hl2, M5.own_ints HO3.out, M5.own_ints HO2.out, MEM.cap0 HO1.out, MEM.cap0 HO2.out, hB⟩
end Go.Proofs.Ytjplabldiheggaa

/- The laws' has: whether a number is in a row. -/
namespace Go.Proofs.Ytjplabldiheggaa
open Go.RowKit
set_option maxHeartbeats 1600000 in
set_option maxRecDepth 100000 in
theorem hasL_any (a : Option Addr) (cap : Nat) (zs : List Int) (x : Int) (w : World) (ho : zs.length ≤ 1048576) (hos : M4.IntsAt w a zs) :
    Calls Try.prog 11 #[.slice a zs.length cap, .int .i64 x] w fun e w' => e = .returned (.bool (EG.hasB zs x)) ∧ w = w' := by
  go_enter Try.func11, Try.ntmps11
  go_wp2
  go_loopw [9] (fun iv wr => ∃ k : Nat, iv = .int .i64 k ∧ k ≤ zs.length ∧ Hid (EG.noUp zs x k) ∧ w = wr) (fun iv _ => (zs.length - intOf iv).toNat)
  case atStart => exact ⟨0, rfl, by omega, show Hid _ from fun j hj => by omega, rfl⟩
  case round =>
    obtain ⟨k, rfl, hk, hT, rfl⟩ := hrel
    by_cases hlk : k < zs.length
    · obtain ⟨b1, off1, rfl, hlt1, hc1⟩ := hos.at hlk
      have HY : Hid _ := fun h => EG.hasB_yes (x := x) hlk h
      have HN : Hid _ := fun h => EG.noUp_succ hT.out (k := k) h
      clear hos hT
      generalize zs.getD k 0 = y at *
      by_cases hxy : y = x
      · have hF : Hid _ := HY.out hxy
        subst hxy
        clear HY HN
        go_wp2
        go_ret
        exact ⟨retB7 hF.out.symm, rfl⟩
      · have hT : Hid _ := HN.out hxy
        clear HY HN
        go_wp2
        go_roundw
        case rel => exact ⟨k + 1, by go_num, by omega, hT, trivial⟩
        case measure => simp [intOf]; omega
    · obtain rfl : k = zs.length := by omega
      have hF : Hid _ := EG.hasB_no hT.out
      clear hos hT
      go_wp2
      go_ret
      exact ⟨retB7 hF.out.symm, rfl⟩
end Go.Proofs.Ytjplabldiheggaa

/- The cursor's wholeBundle: some bundle that is no piece, with a Payload of at most 61 bytes. -/
namespace Go.Proofs.Ytjplabldiheggaa
open Go.RowKit
theorem Try.infoU8W : (Try.prog.info? 5).map (fun i => (i.zero, i.size, i.bytes)) = some (some (.int .u8 0), 1, 1) := by kernel_rfl
def wholeS : List ByteArray := [⟨#[104, 101, 108, 108, 111]⟩, ⟨#[97, 32, 108, 111, 110, 103, 101, 114, 32, 116, 101, 120, 116, 32, 111, 102, 32, 115, 111, 109, 101, 32, 98, 121, 116, 101, 115]⟩, ⟨#[120]⟩, ⟨#[48, 49, 50, 51, 52, 53, 54, 55, 56, 57]⟩]
theorem whole_at (w : World) : StrsAt (w.alloc (.cells #[.string ⟨#[104, 101, 108, 108, 111]⟩, .string ⟨#[97, 32, 108, 111, 110, 103, 101, 114, 32, 116, 101, 120, 116, 32, 111, 102, 32, 115, 111, 109, 101, 32, 98, 121, 116, 101, 115]⟩, .string ⟨#[120]⟩, .string ⟨#[48, 49, 50, 51, 52, 53, 54, 55, 56, 57]⟩] 9)) w.heap.size 0 wholeS := by
  refine ⟨by simp, fun j hj => ?_⟩
  rw [Nat.zero_add, World.cell?_alloc_at _ _ _ _ (by rfl)]
  have : j < 4 := hj
  match j, this with
  | 0, _ | 1, _ | 2, _ | 3, _ => rfl
theorem whole_size (s : ByteArray) (h : s ∈ wholeS) : s.size ≤ 61 := by
  simp only [wholeS, List.mem_cons, List.not_mem_nil, or_false] at h
  rcases h with rfl | rfl | rfl | rfl <;> decide
theorem zeros_bvW (n : Nat) : (madeCells #[Value.int .u8 0] n).toList = M2.bv (List.replicate n 0) := by
  rw [toList_madeCells_one]; simp [M2.bv]
theorem zeros_sizeW (n : Nat) : (⟨(List.replicate n (0 : UInt8)).toArray⟩ : ByteArray).size = n := by show (List.replicate n (0 : UInt8)).toArray.size = n; simp
set_option linter.unusedSimpArgs false in
set_option maxHeartbeats 3200000 in
set_option maxRecDepth 100000 in
theorem wholeBundle_any (p : Nat) (a : Option Addr) (zs : List Int) (cap M : Nat) (w : World) (hz : zs.length ≤ 140737488355328) (hM : M ≤ 140737488330000) (hc : MC.Cur w p a zs cap M) :
    Calls Try.prog 45 #[.pointer (some ⟨p, 0, none⟩)] w fun e w' => ∃ b : Bd, e = .returned b.v ∧ b.py.size ≤ 61 ∧ b.of = 0 ∧ b.tl = 0 ∧ MC.Cur w' p a zs cap (M + 60) ∧ MC.Only p w w' := by
  obtain ⟨i0, hi, hz0, hz1, hz2⟩ := info_parts Try.infoU8W
  have hplt := hc.lt
  have hbr := BX.Box.new w 25 B1.zero w.heap.size rfl
  have hor := (MC.Only.refl p w).alloc (.cells (BX.cs B1.zero).toArray 25)
  replace hc := hc.alloc (.cells (BX.cs B1.zero).toArray 25)
  simp only [BX.cs, Bd.cs, B1.zero] at hbr hor hc
  go_enter Try.func45, Try.ntmps45
  go_wp2_with fail
  generalize w.alloc (.cells #[.int .i64 0, .int .i64 0, .bool false, .int .i64 0, .int .i64 0, .int .i64 0, .int .i64 0, .int .i64 0, .int .i64 0, .string ⟨#[]⟩] 25) = w0 at *
  obtain ⟨r, hr⟩ : ∃ r, w.heap.size = r := ⟨_, rfl⟩
  rw [hr] at hbr hplt ⊢
  have hrp : r ≠ p := by omega
  change BX.Box w0 r 25 B1.zero at hbr
  refine (bundle_any p a zs cap M _ hz (by omega) hc).mono ?_
  rintro e w1 ⟨b, rfl, hpb, hc1, ho1⟩
  replace hbr := hbr.only ho1 hrp
  replace hor := hor.trans ho1
  clear hc ho1 hpb
  obtain ⟨x0, x1, x2, x3, x4, x5, x6, x7, x8, x9⟩ := b
  have hbq := BX.Box.new w1 25 ⟨x0, x1, x2, x3, x4, x5, x6, x7, x8, x9⟩ w1.heap.size rfl
  have hsw := hor.size
  have hrl := hbr.lt
  have hpl := hc1.lt
  have hc := hc1.alloc (.cells #[.int .i64 x0, .int .i64 x1, .bool x2, .int .i64 x3, .int .i64 x4, .int .i64 x5, .int .i64 x6, .int .i64 x7, .int .i64 x8, .string x9] 25)
  replace hbr := hbr.alloc (.cells #[.int .i64 x0, .int .i64 x1, .bool x2, .int .i64 x3, .int .i64 x4, .int .i64 x5, .int .i64 x6, .int .i64 x7, .int .i64 x8, .string x9] 25)
  replace hor := hor.alloc (.cells #[.int .i64 x0, .int .i64 x1, .bool x2, .int .i64 x3, .int .i64 x4, .int .i64 x5, .int .i64 x6, .int .i64 x7, .int .i64 x8, .string x9] 25)
  simp only [BX.cs, Bd.cs] at hbq
  clear hc1
  go_upto_region 2 with fail
  generalize w1.alloc (.cells #[.int .i64 x0, .int .i64 x1, .bool x2, .int .i64 x3, .int .i64 x4, .int .i64 x5, .int .i64 x6, .int .i64 x7, .int .i64 x8, .string x9] 25) = w2 at *
  obtain ⟨q, hq⟩ : ∃ q, w1.heap.size = q := ⟨_, rfl⟩
  rw [hq] at hbq hrl hpl hsw ⊢
  have hqp : q ≠ p := by omega
  have hpq : p < q := by omega
  have hrq : r ≠ q := by omega
  have hqw : w.heap.size ≤ q := by omega
  clear hq
  have st : BX.Box (w2.setCell ⟨q, 7, none⟩ (.int .i64 0)) q 25 ⟨x0, x1, x2, x3, x4, x5, x6, 0, x8, x9⟩ := hbq.set rfl
  have hc' := BX.cur_set (j := 7) (v := .int .i64 0) hc hpq
  have ho' := BX.only_set (j := 7) (v := .int .i64 0) hor hqw
  have hbr' := hbr.far (g := q) (j := 7) (v := .int .i64 0) hrq
  have kj := hbq.cells 7
  have gj := hbq.free 7
  have hql := hbq.lt
  simp [Bd.cs] at kj
  go_upto_region 3 with fail
  clear kj gj hql hbq hc hor hbr
  have hbq := st
  have hc := hc'
  have hor := ho'
  have hbr := hbr'
  clear st hc' ho' hbr'
  generalize w2.setCell ⟨q, 7, none⟩ (.int .i64 0) = w3 at *
  have st : BX.Box (w3.setCell ⟨q, 8, none⟩ (.int .i64 0)) q 25 ⟨x0, x1, x2, x3, x4, x5, x6, 0, 0, x9⟩ := hbq.set rfl
  have hc' := BX.cur_set (j := 8) (v := .int .i64 0) hc hpq
  have ho' := BX.only_set (j := 8) (v := .int .i64 0) hor hqw
  have hbr' := hbr.far (g := q) (j := 8) (v := .int .i64 0) hrq
  have kj := hbq.cells 8
  have gj := hbq.free 8
  have hql := hbq.lt
  simp [Bd.cs] at kj
  go_upto_region 4 with fail
  clear kj gj hql hbq hc hor hbr
  have hbq := st
  have hc := hc'
  have hor := ho'
  have hbr := hbr'
  clear st hc' ho' hbr'
  generalize w3.setCell ⟨q, 8, none⟩ (.int .i64 0) = w4 at *
  have hs4 := hor.size
  have hq4 := hbq.lt
  have h4 := whole_at w4
  replace hc := hc.alloc (.cells #[.string ⟨#[104, 101, 108, 108, 111]⟩, .string ⟨#[97, 32, 108, 111, 110, 103, 101, 114, 32, 116, 101, 120, 116, 32, 111, 102, 32, 115, 111, 109, 101, 32, 98, 121, 116, 101, 115]⟩, .string ⟨#[120]⟩, .string ⟨#[48, 49, 50, 51, 52, 53, 54, 55, 56, 57]⟩] 9)
  replace hbr := hbr.alloc (.cells #[.string ⟨#[104, 101, 108, 108, 111]⟩, .string ⟨#[97, 32, 108, 111, 110, 103, 101, 114, 32, 116, 101, 120, 116, 32, 111, 102, 32, 115, 111, 109, 101, 32, 98, 121, 116, 101, 115]⟩, .string ⟨#[120]⟩, .string ⟨#[48, 49, 50, 51, 52, 53, 54, 55, 56, 57]⟩] 9)
  replace hbq := hbq.alloc (.cells #[.string ⟨#[104, 101, 108, 108, 111]⟩, .string ⟨#[97, 32, 108, 111, 110, 103, 101, 114, 32, 116, 101, 120, 116, 32, 111, 102, 32, 115, 111, 109, 101, 32, 98, 121, 116, 101, 115]⟩, .string ⟨#[120]⟩, .string ⟨#[48, 49, 50, 51, 52, 53, 54, 55, 56, 57]⟩] 9)
  replace hor := hor.alloc (.cells #[.string ⟨#[104, 101, 108, 108, 111]⟩, .string ⟨#[97, 32, 108, 111, 110, 103, 101, 114, 32, 116, 101, 120, 116, 32, 111, 102, 32, 115, 111, 109, 101, 32, 98, 121, 116, 101, 115]⟩, .string ⟨#[120]⟩, .string ⟨#[48, 49, 50, 51, 52, 53, 54, 55, 56, 57]⟩] 9)
  go_wp2_with fail
  refine (of_any p a zs cap (M + 40) w4.heap.size 0 wholeS 4 _ hz (by omega) hc (by decide) (by decide) h4 (by omega)).mono ?_
  rintro e w5 ⟨s, rfl, hs, hc5, ho5⟩
  replace hs := whole_size s hs
  clear h4
  replace hbr := hbr.only ho5 hrp
  replace hbq := hbq.only ho5 hqp
  replace hor := hor.trans ho5
  clear hc ho5
  have hc := hc5
  clear hc5
  have st : BX.Box (w5.setCell ⟨q, 9, none⟩ (.string s)) q 25 ⟨x0, x1, x2, x3, x4, x5, x6, 0, 0, s⟩ := hbq.set rfl
  have hc' := BX.cur_set (j := 9) (v := .string s) hc hpq
  have ho' := BX.only_set (j := 9) (v := .string s) hor hqw
  have hbr' := hbr.far (g := q) (j := 9) (v := .string s) hrq
  have kj := hbq.cells 9
  have gj := hbq.free 9
  have hql := hbq.lt
  simp [Bd.cs] at kj
  go_wp2_with fail
  clear kj gj hql hbq hc hor hbr
  have hbq := st
  have hc := hc'
  have hor := ho'
  have hbr := hbr'
  clear st hc' ho' hbr'
  generalize w5.setCell ⟨q, 9, none⟩ (.string s) = w6 at *
  refine (one_any p a zs cap (M + 42) _ _ hz (by omega) hc).mono ?_
  rintro e w7 ⟨b7, rfl, hc7, ho7⟩
  replace hbr := hbr.only ho7 hrp
  replace hbq := hbq.only ho7 hqp
  replace hor := hor.trans ho7
  clear hc ho7
  have hc := hc7
  clear hc7
  cases b7
  · have k0 := hbq.cells 0
    have k1 := hbq.cells 1
    have k2 := hbq.cells 2
    have k3 := hbq.cells 3
    have k4 := hbq.cells 4
    have k5 := hbq.cells 5
    have k6 := hbq.cells 6
    have k7 := hbq.cells 7
    have k8 := hbq.cells 8
    have k9 := hbq.cells 9
    simp [Bd.cs, B1.zero] at k0 k1 k2 k3 k4 k5 k6 k7 k8 k9
    have m0 := hbr.cells 0
    have g0 := hbr.free 0
    have m1 := hbr.cells 1
    have g1 := hbr.free 1
    have m2 := hbr.cells 2
    have g2 := hbr.free 2
    have m3 := hbr.cells 3
    have g3 := hbr.free 3
    have m4 := hbr.cells 4
    have g4 := hbr.free 4
    have m5 := hbr.cells 5
    have g5 := hbr.free 5
    have m6 := hbr.cells 6
    have g6 := hbr.free 6
    have m7 := hbr.cells 7
    have g7 := hbr.free 7
    have m8 := hbr.cells 8
    have g8 := hbr.free 8
    have m9 := hbr.cells 9
    have g9 := hbr.free 9
    simp [Bd.cs, B1.zero] at m0 m1 m2 m3 m4 m5 m6 m7 m8 m9
    have hql := hbq.lt
    have hrl2 := hbr.lt
    have hP := hbr.put ⟨x0, x1, x2, x3, x4, x5, x6, 0, 0, s⟩
    have hcE := BX.cur_set (BX.cur_set (BX.cur_set (BX.cur_set (BX.cur_set (BX.cur_set (BX.cur_set (BX.cur_set (BX.cur_set (BX.cur_set (hc) (g := r) (j := 0) (v := .int .i64 x0) hplt) (g := r) (j := 1) (v := .int .i64 x1) hplt) (g := r) (j := 2) (v := .bool x2) hplt) (g := r) (j := 3) (v := .int .i64 x3) hplt) (g := r) (j := 4) (v := .int .i64 x4) hplt) (g := r) (j := 5) (v := .int .i64 x5) hplt) (g := r) (j := 6) (v := .int .i64 x6) hplt) (g := r) (j := 7) (v := .int .i64 0) hplt) (g := r) (j := 8) (v := .int .i64 0) hplt) (g := r) (j := 9) (v := .string s) hplt
    have hoE := BX.only_set (BX.only_set (BX.only_set (BX.only_set (BX.only_set (BX.only_set (BX.only_set (BX.only_set (BX.only_set (BX.only_set (hor) (g := r) (j := 0) (v := .int .i64 x0) (Nat.le_of_eq hr)) (g := r) (j := 1) (v := .int .i64 x1) (Nat.le_of_eq hr)) (g := r) (j := 2) (v := .bool x2) (Nat.le_of_eq hr)) (g := r) (j := 3) (v := .int .i64 x3) (Nat.le_of_eq hr)) (g := r) (j := 4) (v := .int .i64 x4) (Nat.le_of_eq hr)) (g := r) (j := 5) (v := .int .i64 x5) (Nat.le_of_eq hr)) (g := r) (j := 6) (v := .int .i64 x6) (Nat.le_of_eq hr)) (g := r) (j := 7) (v := .int .i64 0) (Nat.le_of_eq hr)) (g := r) (j := 8) (v := .int .i64 0) (Nat.le_of_eq hr)) (g := r) (j := 9) (v := .string s) (Nat.le_of_eq hr)
    go_wp2
    clear k0 m0 g0 k1 m1 g1 k2 m2 g2 k3 m3 g3 k4 m4 g4 k5 m5 g5 k6 m6 g6 k7 m7 g7 k8 m8 g8 k9 m9 g9 hbq hbr hc hor
    have n0 := hP.cells 0
    have n1 := hP.cells 1
    have n2 := hP.cells 2
    have n3 := hP.cells 3
    have n4 := hP.cells 4
    have n5 := hP.cells 5
    have n6 := hP.cells 6
    have n7 := hP.cells 7
    have n8 := hP.cells 8
    have n9 := hP.cells 9
    simp [Bd.cs, B1.zero] at n0 n1 n2 n3 n4 n5 n6 n7 n8 n9
    generalize ((((((((((((((((((((w7).setCell ⟨r, 0, none⟩ (.int .i64 x0))).setCell ⟨r, 1, none⟩ (.int .i64 x1))).setCell ⟨r, 2, none⟩ (.bool x2))).setCell ⟨r, 3, none⟩ (.int .i64 x3))).setCell ⟨r, 4, none⟩ (.int .i64 x4))).setCell ⟨r, 5, none⟩ (.int .i64 x5))).setCell ⟨r, 6, none⟩ (.int .i64 x6))).setCell ⟨r, 7, none⟩ (.int .i64 0))).setCell ⟨r, 8, none⟩ (.int .i64 0))).setCell ⟨r, 9, none⟩ (.string s)) = WE at *
    exact bodyPost_ret (v := .agg #[.int .i64 x0, .int .i64 x1, .bool x2, .int .i64 x3, .int .i64 x4, .int .i64 x5, .int .i64 x6, .int .i64 0, .int .i64 0, .string s]) (by simp [results, Try.results45, go_sem, n0, n1, n2, n3, n4, n5, n6, n7, n8, n9]) rfl ⟨⟨x0, x1, x2, x3, x4, x5, x6, 0, 0, s⟩, rfl, hs, rfl, rfl, hcE.more (by omega), hoE⟩
  · go_wp2_with fail
    refine (pick_any p a zs cap (M + 44) _ _ hz (by omega) hc).mono ?_
    rintro e w8 ⟨y, rfl, hry, hxy, hc8, ho8⟩
    replace hbr := hbr.only ho8 hrp
    replace hbq := hbq.only ho8 hqp
    replace hor := hor.trans ho8
    clear hc ho8
    have hc := hc8
    clear hc8
    have hy2 : y < 2 := by omega
    go_wp2_with (at_make; refine wpList_make_full _ rfl _ _ 22 rfl w8.heap.size 5 i0 (.int .u8 0) 1 Try.underlying22 hi hz0 hz1 .i64 .i64 _ _ (60 + y) rfl rfl (by omega) (by omega) ?_ ?_ ?_ ?_)
    · rw [hz2]; omega
    · unfold maxLen; omega
    · omega
    intro w9 hown hgrow
    have hown' : w9.ownsRow w8.heap.size 5 1 (.slice (some ⟨w8.heap.size, 0, none⟩) (60 + y) (60 + y)) (60 + y) (M2.bv (List.replicate (60 + y) 0)) := by
      have := hown; simpa [zeros_bvW] using this
    have hown2 : w9.ownsRow w8.heap.size 5 1 (.slice (some ⟨w8.heap.size, 0, none⟩) (60 + y) (60 + y)) (List.replicate (60 + y) (0 : UInt8)).length (M2.bv (List.replicate (60 + y) 0)) := by
      rw [List.length_replicate]; exact hown'
    have hcv := M2.conv_own (P := Try.prog) 22 9 5 Try.underlying22 Try.underlying5 Try.underlying9 hown2
    have hzs := zeros_sizeW (60 + y)
    generalize (⟨(List.replicate (60 + y) (0 : UInt8)).toArray⟩ : ByteArray) = zz at *
    have hzz : zz.size ≤ 61 := by omega
    have hB9 : Below w8.heap.size w8 w9 := (Below.refl _ _).grown hgrow (Nat.le_refl _) (fun k hk => by cases hk)
    replace hbq := hbq.below hB9 hbq.lt
    replace hbr := hbr.below hB9 hbr.lt
    replace hc := hc.grown hgrow (fun k hk => by cases hk)
    replace hor := hor.grown hgrow (fun k hk => by cases hk)
    clear hown hown' hown2 hgrow hB9 hzs hi hz0 hz1 hz2
    have st : BX.Box (w9.setCell ⟨q, 9, none⟩ (.string zz)) q 25 ⟨x0, x1, x2, x3, x4, x5, x6, 0, 0, zz⟩ := hbq.set rfl
    have hc' := BX.cur_set (j := 9) (v := .string zz) hc hpq
    have ho' := BX.only_set (j := 9) (v := .string zz) hor hqw
    have hbr' := hbr.far (g := q) (j := 9) (v := .string zz) hrq
    have kj := hbq.cells 9
    have gj := hbq.free 9
    have hql := hbq.lt
    simp [Bd.cs] at kj
    go_upto_region 7 with fail
    clear kj gj hql hbq hc hor hbr
    have hbq := st
    have hc := hc'
    have hor := ho'
    have hbr := hbr'
    clear st hc' ho' hbr'
    clear hcv
    generalize w9.setCell ⟨q, 9, none⟩ (.string zz) = w10 at *
    have k0 := hbq.cells 0
    have k1 := hbq.cells 1
    have k2 := hbq.cells 2
    have k3 := hbq.cells 3
    have k4 := hbq.cells 4
    have k5 := hbq.cells 5
    have k6 := hbq.cells 6
    have k7 := hbq.cells 7
    have k8 := hbq.cells 8
    have k9 := hbq.cells 9
    simp [Bd.cs, B1.zero] at k0 k1 k2 k3 k4 k5 k6 k7 k8 k9
    have m0 := hbr.cells 0
    have g0 := hbr.free 0
    have m1 := hbr.cells 1
    have g1 := hbr.free 1
    have m2 := hbr.cells 2
    have g2 := hbr.free 2
    have m3 := hbr.cells 3
    have g3 := hbr.free 3
    have m4 := hbr.cells 4
    have g4 := hbr.free 4
    have m5 := hbr.cells 5
    have g5 := hbr.free 5
    have m6 := hbr.cells 6
    have g6 := hbr.free 6
    have m7 := hbr.cells 7
    have g7 := hbr.free 7
    have m8 := hbr.cells 8
    have g8 := hbr.free 8
    have m9 := hbr.cells 9
    have g9 := hbr.free 9
    simp [Bd.cs, B1.zero] at m0 m1 m2 m3 m4 m5 m6 m7 m8 m9
    have hql := hbq.lt
    have hrl2 := hbr.lt
    have hP := hbr.put ⟨x0, x1, x2, x3, x4, x5, x6, 0, 0, zz⟩
    have hcE := BX.cur_set (BX.cur_set (BX.cur_set (BX.cur_set (BX.cur_set (BX.cur_set (BX.cur_set (BX.cur_set (BX.cur_set (BX.cur_set (hc) (g := r) (j := 0) (v := .int .i64 x0) hplt) (g := r) (j := 1) (v := .int .i64 x1) hplt) (g := r) (j := 2) (v := .bool x2) hplt) (g := r) (j := 3) (v := .int .i64 x3) hplt) (g := r) (j := 4) (v := .int .i64 x4) hplt) (g := r) (j := 5) (v := .int .i64 x5) hplt) (g := r) (j := 6) (v := .int .i64 x6) hplt) (g := r) (j := 7) (v := .int .i64 0) hplt) (g := r) (j := 8) (v := .int .i64 0) hplt) (g := r) (j := 9) (v := .string zz) hplt
    have hoE := BX.only_set (BX.only_set (BX.only_set (BX.only_set (BX.only_set (BX.only_set (BX.only_set (BX.only_set (BX.only_set (BX.only_set (hor) (g := r) (j := 0) (v := .int .i64 x0) (Nat.le_of_eq hr)) (g := r) (j := 1) (v := .int .i64 x1) (Nat.le_of_eq hr)) (g := r) (j := 2) (v := .bool x2) (Nat.le_of_eq hr)) (g := r) (j := 3) (v := .int .i64 x3) (Nat.le_of_eq hr)) (g := r) (j := 4) (v := .int .i64 x4) (Nat.le_of_eq hr)) (g := r) (j := 5) (v := .int .i64 x5) (Nat.le_of_eq hr)) (g := r) (j := 6) (v := .int .i64 x6) (Nat.le_of_eq hr)) (g := r) (j := 7) (v := .int .i64 0) (Nat.le_of_eq hr)) (g := r) (j := 8) (v := .int .i64 0) (Nat.le_of_eq hr)) (g := r) (j := 9) (v := .string zz) (Nat.le_of_eq hr)
    go_wp2
    clear k0 m0 g0 k1 m1 g1 k2 m2 g2 k3 m3 g3 k4 m4 g4 k5 m5 g5 k6 m6 g6 k7 m7 g7 k8 m8 g8 k9 m9 g9 hbq hbr hc hor
    have n0 := hP.cells 0
    have n1 := hP.cells 1
    have n2 := hP.cells 2
    have n3 := hP.cells 3
    have n4 := hP.cells 4
    have n5 := hP.cells 5
    have n6 := hP.cells 6
    have n7 := hP.cells 7
    have n8 := hP.cells 8
    have n9 := hP.cells 9
    simp [Bd.cs, B1.zero] at n0 n1 n2 n3 n4 n5 n6 n7 n8 n9
    generalize ((((((((((((((((((((w10).setCell ⟨r, 0, none⟩ (.int .i64 x0))).setCell ⟨r, 1, none⟩ (.int .i64 x1))).setCell ⟨r, 2, none⟩ (.bool x2))).setCell ⟨r, 3, none⟩ (.int .i64 x3))).setCell ⟨r, 4, none⟩ (.int .i64 x4))).setCell ⟨r, 5, none⟩ (.int .i64 x5))).setCell ⟨r, 6, none⟩ (.int .i64 x6))).setCell ⟨r, 7, none⟩ (.int .i64 0))).setCell ⟨r, 8, none⟩ (.int .i64 0))).setCell ⟨r, 9, none⟩ (.string zz)) = WE at *
    exact bodyPost_ret (v := .agg #[.int .i64 x0, .int .i64 x1, .bool x2, .int .i64 x3, .int .i64 x4, .int .i64 x5, .int .i64 x6, .int .i64 0, .int .i64 0, .string zz]) (by simp [results, Try.results45, go_sem, n0, n1, n2, n3, n4, n5, n6, n7, n8, n9]) rfl ⟨⟨x0, x1, x2, x3, x4, x5, x6, 0, 0, zz⟩, rfl, hzz, rfl, rfl, hcE.more (by omega), hoE⟩
end Go.Proofs.Ytjplabldiheggaa

/- Whether one can start, the program's isStart. -/
namespace Go.Proofs.Ytjplabldiheggaa
open Go.RowKit
set_option maxHeartbeats 800000 in
set_option maxRecDepth 100000 in
theorem isStartB_any (a : Option Addr) (ca : Nat) (xs : List I5) (f n : Int) (w : World) (hn : xs.length ≤ 1048576) (hin : MI5.RowAt w a xs) :
    Calls Try.prog 35 #[.slice a xs.length ca, .int .i64 f, .int .i64 n] w fun e w' => e = .returned (.bool (PN.okP xs && PN.nodeOk f && PN.whenOk n)) ∧ Below w.heap.size w w' := by
  have GP : Hid (Calls _ _ _ _ _) := implGoodPlan_any a ca xs w hn hin _ rfl
  have NI : Hid (∀ W : World, Calls Try.prog 52 #[.int .i64 f] W fun e w' => e = .returned (.bool (PN.nodeOk f)) ∧ W = w') := fun W => nodeI_any f W
  have WI : Hid (∀ W : World, Calls Try.prog 53 #[.int .i64 n] W fun e w' => e = .returned (.bool (PN.whenOk n)) ∧ W = w') := fun W => whenI_any n W
  clear hin
  generalize PN.nodeOk f = q1 at *
  generalize PN.whenOk n = q2 at *
  generalize PN.okP xs = q0 at *
  go_enter Try.func35, Try.ntmps35
  go_wp2_with fail
  refine Calls.mono GP.out ?_
  rintro e w1 ⟨rfl, hb1⟩
  clear GP
  cases q0 with
  | false =>
    go_wp2
    go_ret
    exact ⟨rfl, hb1⟩
  | true =>
    go_wp2_with fail
    refine (NI.out _).mono ?_
    rintro e w2 ⟨rfl, rfl⟩
    cases q1 with
    | false =>
      go_wp2
      go_ret
      exact ⟨rfl, hb1⟩
    | true =>
      go_wp2_with fail
      refine (WI.out _).mono ?_
      rintro e w2 ⟨rfl, rfl⟩
      go_wp2
      go_ret
      exact ⟨by cases q2 <;> rfl, hb1⟩
end Go.Proofs.Ytjplabldiheggaa

/- A plan and a bundle, drawn: the cursor's planned. -/
namespace Go.Proofs.Ytjplabldiheggaa
open Go.RowKit
theorem PLD.own_lo {w : World} {B B' e sz n : Nat} {v : Value} {xs : List Value} (h : w.ownsRow B e sz v n xs) (hb : B' ≤ B) : w.ownsRow B' e sz v n xs := by
  refine ⟨h.1, ?_⟩
  rcases h.2 with h' | ⟨g', cap, cur, hv, hB, rest⟩
  · exact .inl h'
  · exact .inr ⟨g', cap, cur, hv, by omega, rest⟩
set_option linter.unusedSimpArgs false in
set_option maxHeartbeats 6400000 in
set_option maxRecDepth 100000 in
theorem planned_any (p : Nat) (a : Option Addr) (zs : List Int) (cap M : Nat) (w : World) (hz : zs.length ≤ 140737488355328) (hM : M ≤ 140737488320000) (hc : MC.Cur w p a zs cap M) :
    Calls Try.prog 18 #[.pointer (some ⟨p, 0, none⟩)] w fun e w' => ∃ a1 c1 xs b, e = .returned (.tuple #[.slice a1 (List.length xs) c1, Bd.v b]) ∧ xs.length ≤ 21 ∧ b.py.size ≤ 61 ∧ w'.ownsRow w.heap.size 91 5 (.slice a1 xs.length c1) xs.length (MI5.flat xs) ∧ MC.Cur w' p a zs cap (M + 420) ∧ MC.Only p w w' := by
  have hplt := hc.lt
  have hbr := BX.Box.new w 25 B1.zero w.heap.size rfl
  have hor := (MC.Only.refl p w).alloc (.cells (BX.cs B1.zero).toArray 25)
  replace hc := hc.alloc (.cells (BX.cs B1.zero).toArray 25)
  simp only [BX.cs, Bd.cs, B1.zero] at hbr hor hc
  go_enter Try.func18, Try.ntmps18
  go_wp2_with fail
  generalize w.alloc (.cells #[.int .i64 0, .int .i64 0, .bool false, .int .i64 0, .int .i64 0, .int .i64 0, .int .i64 0, .int .i64 0, .int .i64 0, .string ⟨#[]⟩] 25) = w0 at *
  obtain ⟨r, hr⟩ : ∃ r, w.heap.size = r := ⟨_, rfl⟩
  rw [hr] at hbr hplt ⊢
  have hrp : r ≠ p := by omega
  change BX.Box w0 r 25 B1.zero at hbr
  refine (wholeBundle_any p a zs cap M _ hz (by omega) hc).mono ?_
  rintro e w1 ⟨b, rfl, hpb, -, -, hc1, ho1⟩
  replace hbr := hbr.only ho1 hrp
  replace hor := hor.trans ho1
  clear hc ho1
  obtain ⟨x0, x1, x2, x3, x4, x5, x6, x7, x8, x9⟩ := b
  have hbq := BX.Box.new w1 25 ⟨x0, x1, x2, x3, x4, x5, x6, x7, x8, x9⟩ w1.heap.size rfl
  have hsw := hor.size
  have hrl := hbr.lt
  have hpl := hc1.lt
  have hc := hc1.alloc (.cells #[.int .i64 x0, .int .i64 x1, .bool x2, .int .i64 x3, .int .i64 x4, .int .i64 x5, .int .i64 x6, .int .i64 x7, .int .i64 x8, .string x9] 25)
  replace hbr := hbr.alloc (.cells #[.int .i64 x0, .int .i64 x1, .bool x2, .int .i64 x3, .int .i64 x4, .int .i64 x5, .int .i64 x6, .int .i64 x7, .int .i64 x8, .string x9] 25)
  replace hor := hor.alloc (.cells #[.int .i64 x0, .int .i64 x1, .bool x2, .int .i64 x3, .int .i64 x4, .int .i64 x5, .int .i64 x6, .int .i64 x7, .int .i64 x8, .string x9] 25)
  simp only [BX.cs, Bd.cs] at hbq
  clear hc1
  go_upto_region 2 with fail
  generalize w1.alloc (.cells #[.int .i64 x0, .int .i64 x1, .bool x2, .int .i64 x3, .int .i64 x4, .int .i64 x5, .int .i64 x6, .int .i64 x7, .int .i64 x8, .string x9] 25) = w2 at *
  obtain ⟨q, hq⟩ : ∃ q, w1.heap.size = q := ⟨_, rfl⟩
  rw [hq] at hbq hrl hpl hsw ⊢
  have hqp : q ≠ p := by omega
  have hpq : p < q := by omega
  have hrq : r ≠ q := by omega
  have hqr : q ≠ r := by omega
  have hqw : w.heap.size ≤ q := by omega
  clear hq
  go_wp2_with fail
  refine (pick_any p a zs cap (M + 60) _ _ hz (by omega) hc).mono ?_
  rintro e w3 ⟨r3, rfl, -, -, hc3, ho3⟩
  replace hbr := hbr.only ho3 hrp
  replace hbq := hbq.only ho3 hqp
  replace hor := hor.trans ho3
  clear hc ho3
  have hc := hc3
  clear hc3
  have st : BX.Box (w3.setCell ⟨q, 3, none⟩ (.int .i64 (r3 : Int))) q 25 ⟨x0, x1, x2, (r3 : Int), x4, x5, x6, x7, x8, x9⟩ := hbq.set rfl
  have hc' := BX.cur_set (j := 3) (v := .int .i64 (r3 : Int)) hc hpq
  have ho' := BX.only_set (j := 3) (v := .int .i64 (r3 : Int)) hor hqw
  have hbr' := hbr.far (g := q) (j := 3) (v := .int .i64 (r3 : Int)) hrq
  have kj := hbq.cells 3
  have gj := hbq.free 3
  have hql := hbq.lt
  simp [Bd.cs] at kj
  go_upto_region 3 with fail
  clear kj gj hql hbq hc hor hbr
  have hbq := st
  have hc := hc'
  have hor := ho'
  have hbr := hbr'
  clear st hc' ho' hbr'
  generalize w3.setCell ⟨q, 3, none⟩ (.int .i64 (r3 : Int)) = w4 at *
  go_wp2_with fail
  refine (pick_any p a zs cap (M + 62) _ _ hz (by omega) hc).mono ?_
  rintro e w5 ⟨r6, rfl, -, -, hc5, ho5⟩
  replace hbr := hbr.only ho5 hrp
  replace hbq := hbq.only ho5 hqp
  replace hor := hor.trans ho5
  clear hc ho5
  have hc := hc5
  clear hc5
  have st : BX.Box (w5.setCell ⟨q, 6, none⟩ (.int .i64 (r6 : Int))) q 25 ⟨x0, x1, x2, (r3 : Int), x4, x5, (r6 : Int), x7, x8, x9⟩ := hbq.set rfl
  have hc' := BX.cur_set (j := 6) (v := .int .i64 (r6 : Int)) hc hpq
  have ho' := BX.only_set (j := 6) (v := .int .i64 (r6 : Int)) hor hqw
  have hbr' := hbr.far (g := q) (j := 6) (v := .int .i64 (r6 : Int)) hrq
  have kj := hbq.cells 6
  have gj := hbq.free 6
  have hql := hbq.lt
  simp [Bd.cs] at kj
  go_upto_region 4 with fail
  clear kj gj hql hbq hc hor hbr
  have hbq := st
  have hc := hc'
  have hor := ho'
  have hbr := hbr'
  clear st hc' ho' hbr'
  generalize w5.setCell ⟨q, 6, none⟩ (.int .i64 (r6 : Int)) = w6 at *
  go_wp2_with fail
  refine (one_any p a zs cap (M + 64) _ _ hz (by omega) hc).mono ?_
  rintro e w7 ⟨b7, rfl, hc7, ho7⟩
  replace hbr := hbr.only ho7 hrp
  replace hbq := hbq.only ho7 hqp
  replace hor := hor.trans ho7
  clear hc ho7
  cases b7 with
  | false =>
    have hc := hc7
    have HC : Hid _ := hc.below (Below.refl _ w7).drew
    have HQ : Hid (BX.Box _ _ _ _) := hbq.below (Below.refl _ w7).drew hbq.lt
    have HR : Hid (BX.Box _ _ _ _) := hbr.below (Below.refl _ w7).drew hbr.lt
    have HOR : Hid (MC.Only p w (World.drew w7)) := hor.trans (MC.Only.of_below (Below.refl _ _).drew)
    have k0 := hbq.cells 0
    have k1 := hbq.cells 1
    have k2 := hbq.cells 2
    have k3 := hbq.cells 3
    have k4 := hbq.cells 4
    have k5 := hbq.cells 5
    have k6 := hbq.cells 6
    have k7 := hbq.cells 7
    have k8 := hbq.cells 8
    have k9 := hbq.cells 9
    simp [Bd.cs] at k0 k1 k2 k3 k4 k5 k6 k7 k8 k9
    clear hbq hbr hor hc
    go_wp2
    go_region_held3 (fun w' => w'.cell? ⟨q, 0, none⟩ = some (.int .i64 x0) ∧ w'.cell? ⟨q, 1, none⟩ = some (.int .i64 x1) ∧ w'.cell? ⟨q, 2, none⟩ = some (.bool x2) ∧ w'.cell? ⟨q, 3, none⟩ = some (.int .i64 (r3 : Int)) ∧ w'.cell? ⟨q, 4, none⟩ = some (.int .i64 x4) ∧ w'.cell? ⟨q, 5, none⟩ = some (.int .i64 x5) ∧ w'.cell? ⟨q, 6, none⟩ = some (.int .i64 (r6 : Int)) ∧ w'.cell? ⟨q, 7, none⟩ = some (.int .i64 x7) ∧ w'.cell? ⟨q, 8, none⟩ = some (.int .i64 x8) ∧ w'.cell? ⟨q, 9, none⟩ = some (.string x9)) (first | go_keep | assumption) (first | (go_at_call 49; refine Calls.mono (plan_any p a zs cap (M + 66) _ hz (by omega) HC.out) ?_; rintro e W2 ⟨a1, c1, l, rfl, hl, how, hc3, ho3⟩; have hQ3 := HQ.out.only ho3 hqp; have hR3 := HR.out.only ho3 hrp; have HO3 : Hid (MC.Only p w W2) := HOR.out.trans ho3; have k0 := hQ3.cells 0; have k1 := hQ3.cells 1; have k2 := hQ3.cells 2; have k3 := hQ3.cells 3; have k4 := hQ3.cells 4; have k5 := hQ3.cells 5; have k6 := hQ3.cells 6; have k7 := hQ3.cells 7; have k8 := hQ3.cells 8; have k9 := hQ3.cells 9; simp [Bd.cs] at k0 k1 k2 k3 k4 k5 k6 k7 k8 k9; have m0 := hR3.cells 0; have g0 := hR3.free 0; have m1 := hR3.cells 1; have g1 := hR3.free 1; have m2 := hR3.cells 2; have g2 := hR3.free 2; have m3 := hR3.cells 3; have g3 := hR3.free 3; have m4 := hR3.cells 4; have g4 := hR3.free 4; have m5 := hR3.cells 5; have g5 := hR3.free 5; have m6 := hR3.cells 6; have g6 := hR3.free 6; have m7 := hR3.cells 7; have g7 := hR3.free 7; have m8 := hR3.cells 8; have g8 := hR3.free 8; have m9 := hR3.cells 9; have g9 := hR3.free 9; simp [Bd.cs, B1.zero] at m0 m1 m2 m3 m4 m5 m6 m7 m8 m9; have hql3 := hQ3.lt; have hrl3 := hR3.lt; have HR3 : Hid (BX.Box W2 r 25 B1.zero) := hR3; have HC3 : Hid _ := hc3; have HOW : Hid _ := how; clear hQ3 hR3 hc3 ho3 how))
    have hP := HR3.out.put ⟨x0, x1, x2, (r3 : Int), x4, x5, (r6 : Int), x7, x8, x9⟩
    have n0 := hP.cells 0
    have n1 := hP.cells 1
    have n2 := hP.cells 2
    have n3 := hP.cells 3
    have n4 := hP.cells 4
    have n5 := hP.cells 5
    have n6 := hP.cells 6
    have n7 := hP.cells 7
    have n8 := hP.cells 8
    have n9 := hP.cells 9
    simp [Bd.cs] at n0 n1 n2 n3 n4 n5 n6 n7 n8 n9
    have hcE := BX.cur_set (BX.cur_set (BX.cur_set (BX.cur_set (BX.cur_set (BX.cur_set (BX.cur_set (BX.cur_set (BX.cur_set (BX.cur_set (HC3.out) (g := r) (j := 0) (v := .int .i64 x0) hplt) (g := r) (j := 1) (v := .int .i64 x1) hplt) (g := r) (j := 2) (v := .bool x2) hplt) (g := r) (j := 3) (v := .int .i64 (r3 : Int)) hplt) (g := r) (j := 4) (v := .int .i64 x4) hplt) (g := r) (j := 5) (v := .int .i64 x5) hplt) (g := r) (j := 6) (v := .int .i64 (r6 : Int)) hplt) (g := r) (j := 7) (v := .int .i64 x7) hplt) (g := r) (j := 8) (v := .int .i64 x8) hplt) (g := r) (j := 9) (v := .string x9) hplt
    have hoE := BX.only_set (BX.only_set (BX.only_set (BX.only_set (BX.only_set (BX.only_set (BX.only_set (BX.only_set (BX.only_set (BX.only_set (HO3.out) (g := r) (j := 0) (v := .int .i64 x0) (Nat.le_of_eq hr)) (g := r) (j := 1) (v := .int .i64 x1) (Nat.le_of_eq hr)) (g := r) (j := 2) (v := .bool x2) (Nat.le_of_eq hr)) (g := r) (j := 3) (v := .int .i64 (r3 : Int)) (Nat.le_of_eq hr)) (g := r) (j := 4) (v := .int .i64 x4) (Nat.le_of_eq hr)) (g := r) (j := 5) (v := .int .i64 x5) (Nat.le_of_eq hr)) (g := r) (j := 6) (v := .int .i64 (r6 : Int)) (Nat.le_of_eq hr)) (g := r) (j := 7) (v := .int .i64 x7) (Nat.le_of_eq hr)) (g := r) (j := 8) (v := .int .i64 x8) (Nat.le_of_eq hr)) (g := r) (j := 9) (v := .string x9) (Nat.le_of_eq hr)
    have hrD := HR.out.lt
    have hrow := RA.own_only HOW.out (((((((((((MC.Only.refl r W2).setCell 0 (.int .i64 x0)).setCell 1 (.int .i64 x1)).setCell 2 (.bool x2)).setCell 3 (.int .i64 (r3 : Int))).setCell 4 (.int .i64 x4)).setCell 5 (.int .i64 x5)).setCell 6 (.int .i64 (r6 : Int))).setCell 7 (.int .i64 x7)).setCell 8 (.int .i64 x8)).setCell 9 (.string x9)) (fun e => by have := (World.ownsRow.lt HOW.out _ e).1; omega)
    generalize ((((((((((((((((((((W2).setCell ⟨r, 0, none⟩ (.int .i64 x0))).setCell ⟨r, 1, none⟩ (.int .i64 x1))).setCell ⟨r, 2, none⟩ (.bool x2))).setCell ⟨r, 3, none⟩ (.int .i64 (r3 : Int)))).setCell ⟨r, 4, none⟩ (.int .i64 x4))).setCell ⟨r, 5, none⟩ (.int .i64 x5))).setCell ⟨r, 6, none⟩ (.int .i64 (r6 : Int)))).setCell ⟨r, 7, none⟩ (.int .i64 x7))).setCell ⟨r, 8, none⟩ (.int .i64 x8))).setCell ⟨r, 9, none⟩ (.string x9)) = WE at *
    have hRA := PLD.own_lo hrow (show w.heap.size ≤ _ by omega)
    go_wp2
    exact bodyPost_ret (v := .tuple #[.slice a1 (List.length l) c1, .agg #[.int .i64 x0, .int .i64 x1, .bool x2, .int .i64 (r3 : Int), .int .i64 x4, .int .i64 x5, .int .i64 (r6 : Int), .int .i64 x7, .int .i64 x8, .string x9]]) (by simp [results, Try.results18, go_sem, n0, n1, n2, n3, n4, n5, n6, n7, n8, n9]) rfl ⟨a1, c1, l, ⟨x0, x1, x2, (r3 : Int), x4, x5, (r6 : Int), x7, x8, x9⟩, rfl, hl, hpb, hRA, hcE.more (by omega), hoE⟩
  | true =>
    go_wp2_with fail
    refine (bundle_any p a zs cap (M + 66) _ hz (by omega) hc7).mono ?_
    rintro e w8 ⟨b8, rfl, hpb8, hc8, ho8⟩
    replace hbr := hbr.only ho8 hrp
    replace hbq := hbq.only ho8 hqp
    replace hor := hor.trans ho8
    clear hc7 ho8
    obtain ⟨y0, y1, y2, y3, y4, y5, y6, y7, y8, y9⟩ := b8
    have hpb9 : y9.size ≤ 61 := by have : y9.size ≤ 60 := hpb8; omega
    have k0 := hbq.cells 0
    have g0 := hbq.free 0
    have k1 := hbq.cells 1
    have g1 := hbq.free 1
    have k2 := hbq.cells 2
    have g2 := hbq.free 2
    have k3 := hbq.cells 3
    have g3 := hbq.free 3
    have k4 := hbq.cells 4
    have g4 := hbq.free 4
    have k5 := hbq.cells 5
    have g5 := hbq.free 5
    have k6 := hbq.cells 6
    have g6 := hbq.free 6
    have k7 := hbq.cells 7
    have g7 := hbq.free 7
    have k8 := hbq.cells 8
    have g8 := hbq.free 8
    have k9 := hbq.cells 9
    have g9 := hbq.free 9
    simp [Bd.cs] at k0 k1 k2 k3 k4 k5 k6 k7 k8 k9
    have hql := hbq.lt
    have hQ8 := hbq.put ⟨y0, y1, y2, y3, y4, y5, y6, y7, y8, y9⟩
    have hcQ := BX.cur_set (BX.cur_set (BX.cur_set (BX.cur_set (BX.cur_set (BX.cur_set (BX.cur_set (BX.cur_set (BX.cur_set (BX.cur_set (hc8) (g := q) (j := 0) (v := .int .i64 y0) hpq) (g := q) (j := 1) (v := .int .i64 y1) hpq) (g := q) (j := 2) (v := .bool y2) hpq) (g := q) (j := 3) (v := .int .i64 y3) hpq) (g := q) (j := 4) (v := .int .i64 y4) hpq) (g := q) (j := 5) (v := .int .i64 y5) hpq) (g := q) (j := 6) (v := .int .i64 y6) hpq) (g := q) (j := 7) (v := .int .i64 y7) hpq) (g := q) (j := 8) (v := .int .i64 y8) hpq) (g := q) (j := 9) (v := .string y9) hpq
    have hoQ := BX.only_set (BX.only_set (BX.only_set (BX.only_set (BX.only_set (BX.only_set (BX.only_set (BX.only_set (BX.only_set (BX.only_set (hor) (g := q) (j := 0) (v := .int .i64 y0) hqw) (g := q) (j := 1) (v := .int .i64 y1) hqw) (g := q) (j := 2) (v := .bool y2) hqw) (g := q) (j := 3) (v := .int .i64 y3) hqw) (g := q) (j := 4) (v := .int .i64 y4) hqw) (g := q) (j := 5) (v := .int .i64 y5) hqw) (g := q) (j := 6) (v := .int .i64 y6) hqw) (g := q) (j := 7) (v := .int .i64 y7) hqw) (g := q) (j := 8) (v := .int .i64 y8) hqw) (g := q) (j := 9) (v := .string y9) hqw
    have hrQ := ((((((((((hbr.far (g := q) (j := 0) (v := .int .i64 y0) hrq).far (g := q) (j := 1) (v := .int .i64 y1) hrq).far (g := q) (j := 2) (v := .bool y2) hrq).far (g := q) (j := 3) (v := .int .i64 y3) hrq).far (g := q) (j := 4) (v := .int .i64 y4) hrq).far (g := q) (j := 5) (v := .int .i64 y5) hrq).far (g := q) (j := 6) (v := .int .i64 y6) hrq).far (g := q) (j := 7) (v := .int .i64 y7) hrq).far (g := q) (j := 8) (v := .int .i64 y8) hrq).far (g := q) (j := 9) (v := .string y9) hrq)
    go_upto_region 6 with fail
    clear k0 g0 k1 g1 k2 g2 k3 g3 k4 g4 k5 g5 k6 g6 k7 g7 k8 g8 k9 g9 hql hbq hor hbr hc8
    generalize ((((((((((((((((((((w8).setCell ⟨q, 0, none⟩ (.int .i64 y0))).setCell ⟨q, 1, none⟩ (.int .i64 y1))).setCell ⟨q, 2, none⟩ (.bool y2))).setCell ⟨q, 3, none⟩ (.int .i64 y3))).setCell ⟨q, 4, none⟩ (.int .i64 y4))).setCell ⟨q, 5, none⟩ (.int .i64 y5))).setCell ⟨q, 6, none⟩ (.int .i64 y6))).setCell ⟨q, 7, none⟩ (.int .i64 y7))).setCell ⟨q, 8, none⟩ (.int .i64 y8))).setCell ⟨q, 9, none⟩ (.string y9)) = w9 at *
    have hbq := hQ8
    have hc := hcQ
    have hor := hoQ
    have hbr := hrQ
    clear hQ8 hcQ hoQ hrQ
    have HC : Hid _ := hc.below (Below.refl _ w9).drew
    have HQ : Hid (BX.Box _ _ _ _) := hbq.below (Below.refl _ w9).drew hbq.lt
    have HR : Hid (BX.Box _ _ _ _) := hbr.below (Below.refl _ w9).drew hbr.lt
    have HOR : Hid (MC.Only p w (World.drew w9)) := hor.trans (MC.Only.of_below (Below.refl _ _).drew)
    have k0 := hbq.cells 0
    have k1 := hbq.cells 1
    have k2 := hbq.cells 2
    have k3 := hbq.cells 3
    have k4 := hbq.cells 4
    have k5 := hbq.cells 5
    have k6 := hbq.cells 6
    have k7 := hbq.cells 7
    have k8 := hbq.cells 8
    have k9 := hbq.cells 9
    simp [Bd.cs] at k0 k1 k2 k3 k4 k5 k6 k7 k8 k9
    clear hbq hbr hor hc
    go_wp2
    go_region_held3 (fun w' => w'.cell? ⟨q, 0, none⟩ = some (.int .i64 y0) ∧ w'.cell? ⟨q, 1, none⟩ = some (.int .i64 y1) ∧ w'.cell? ⟨q, 2, none⟩ = some (.bool y2) ∧ w'.cell? ⟨q, 3, none⟩ = some (.int .i64 y3) ∧ w'.cell? ⟨q, 4, none⟩ = some (.int .i64 y4) ∧ w'.cell? ⟨q, 5, none⟩ = some (.int .i64 y5) ∧ w'.cell? ⟨q, 6, none⟩ = some (.int .i64 y6) ∧ w'.cell? ⟨q, 7, none⟩ = some (.int .i64 y7) ∧ w'.cell? ⟨q, 8, none⟩ = some (.int .i64 y8) ∧ w'.cell? ⟨q, 9, none⟩ = some (.string y9)) (first | go_keep | assumption) (first | (go_at_call 49; refine Calls.mono (plan_any p a zs cap (M + 106) _ hz (by omega) HC.out) ?_; rintro e W2 ⟨a1, c1, l, rfl, hl, how, hc3, ho3⟩; have hQ3 := HQ.out.only ho3 hqp; have hR3 := HR.out.only ho3 hrp; have HO3 : Hid (MC.Only p w W2) := HOR.out.trans ho3; have k0 := hQ3.cells 0; have k1 := hQ3.cells 1; have k2 := hQ3.cells 2; have k3 := hQ3.cells 3; have k4 := hQ3.cells 4; have k5 := hQ3.cells 5; have k6 := hQ3.cells 6; have k7 := hQ3.cells 7; have k8 := hQ3.cells 8; have k9 := hQ3.cells 9; simp [Bd.cs] at k0 k1 k2 k3 k4 k5 k6 k7 k8 k9; have m0 := hR3.cells 0; have g0 := hR3.free 0; have m1 := hR3.cells 1; have g1 := hR3.free 1; have m2 := hR3.cells 2; have g2 := hR3.free 2; have m3 := hR3.cells 3; have g3 := hR3.free 3; have m4 := hR3.cells 4; have g4 := hR3.free 4; have m5 := hR3.cells 5; have g5 := hR3.free 5; have m6 := hR3.cells 6; have g6 := hR3.free 6; have m7 := hR3.cells 7; have g7 := hR3.free 7; have m8 := hR3.cells 8; have g8 := hR3.free 8; have m9 := hR3.cells 9; have g9 := hR3.free 9; simp [Bd.cs, B1.zero] at m0 m1 m2 m3 m4 m5 m6 m7 m8 m9; have hql3 := hQ3.lt; have hrl3 := hR3.lt; have HR3 : Hid (BX.Box W2 r 25 B1.zero) := hR3; have HC3 : Hid _ := hc3; have HOW : Hid _ := how; clear hQ3 hR3 hc3 ho3 how))
    have hP := HR3.out.put ⟨y0, y1, y2, y3, y4, y5, y6, y7, y8, y9⟩
    have n0 := hP.cells 0
    have n1 := hP.cells 1
    have n2 := hP.cells 2
    have n3 := hP.cells 3
    have n4 := hP.cells 4
    have n5 := hP.cells 5
    have n6 := hP.cells 6
    have n7 := hP.cells 7
    have n8 := hP.cells 8
    have n9 := hP.cells 9
    simp [Bd.cs] at n0 n1 n2 n3 n4 n5 n6 n7 n8 n9
    have hcE := BX.cur_set (BX.cur_set (BX.cur_set (BX.cur_set (BX.cur_set (BX.cur_set (BX.cur_set (BX.cur_set (BX.cur_set (BX.cur_set (HC3.out) (g := r) (j := 0) (v := .int .i64 y0) hplt) (g := r) (j := 1) (v := .int .i64 y1) hplt) (g := r) (j := 2) (v := .bool y2) hplt) (g := r) (j := 3) (v := .int .i64 y3) hplt) (g := r) (j := 4) (v := .int .i64 y4) hplt) (g := r) (j := 5) (v := .int .i64 y5) hplt) (g := r) (j := 6) (v := .int .i64 y6) hplt) (g := r) (j := 7) (v := .int .i64 y7) hplt) (g := r) (j := 8) (v := .int .i64 y8) hplt) (g := r) (j := 9) (v := .string y9) hplt
    have hoE := BX.only_set (BX.only_set (BX.only_set (BX.only_set (BX.only_set (BX.only_set (BX.only_set (BX.only_set (BX.only_set (BX.only_set (HO3.out) (g := r) (j := 0) (v := .int .i64 y0) (Nat.le_of_eq hr)) (g := r) (j := 1) (v := .int .i64 y1) (Nat.le_of_eq hr)) (g := r) (j := 2) (v := .bool y2) (Nat.le_of_eq hr)) (g := r) (j := 3) (v := .int .i64 y3) (Nat.le_of_eq hr)) (g := r) (j := 4) (v := .int .i64 y4) (Nat.le_of_eq hr)) (g := r) (j := 5) (v := .int .i64 y5) (Nat.le_of_eq hr)) (g := r) (j := 6) (v := .int .i64 y6) (Nat.le_of_eq hr)) (g := r) (j := 7) (v := .int .i64 y7) (Nat.le_of_eq hr)) (g := r) (j := 8) (v := .int .i64 y8) (Nat.le_of_eq hr)) (g := r) (j := 9) (v := .string y9) (Nat.le_of_eq hr)
    have hrD := HR.out.lt
    have hrow := RA.own_only HOW.out (((((((((((MC.Only.refl r W2).setCell 0 (.int .i64 y0)).setCell 1 (.int .i64 y1)).setCell 2 (.bool y2)).setCell 3 (.int .i64 y3)).setCell 4 (.int .i64 y4)).setCell 5 (.int .i64 y5)).setCell 6 (.int .i64 y6)).setCell 7 (.int .i64 y7)).setCell 8 (.int .i64 y8)).setCell 9 (.string y9)) (fun e => by have := (World.ownsRow.lt HOW.out _ e).1; omega)
    generalize ((((((((((((((((((((W2).setCell ⟨r, 0, none⟩ (.int .i64 y0))).setCell ⟨r, 1, none⟩ (.int .i64 y1))).setCell ⟨r, 2, none⟩ (.bool y2))).setCell ⟨r, 3, none⟩ (.int .i64 y3))).setCell ⟨r, 4, none⟩ (.int .i64 y4))).setCell ⟨r, 5, none⟩ (.int .i64 y5))).setCell ⟨r, 6, none⟩ (.int .i64 y6))).setCell ⟨r, 7, none⟩ (.int .i64 y7))).setCell ⟨r, 8, none⟩ (.int .i64 y8))).setCell ⟨r, 9, none⟩ (.string y9)) = WE at *
    have hRA := PLD.own_lo hrow (show w.heap.size ≤ _ by omega)
    go_wp2
    exact bodyPost_ret (v := .tuple #[.slice a1 (List.length l) c1, .agg #[.int .i64 y0, .int .i64 y1, .bool y2, .int .i64 y3, .int .i64 y4, .int .i64 y5, .int .i64 y6, .int .i64 y7, .int .i64 y8, .string y9]]) (by simp [results, Try.results18, go_sem, n0, n1, n2, n3, n4, n5, n6, n7, n8, n9]) rfl ⟨a1, c1, l, ⟨y0, y1, y2, y3, y4, y5, y6, y7, y8, y9⟩, rfl, hl, hpb9, hRA, hcE.more (by omega), hoE⟩
end Go.Proofs.Ytjplabldiheggaa

/- Lists of members joined: JoinMembers of the specification. -/
namespace Go.Proofs.Ytjplabldiheggaa
open Go.RowKit
namespace GP
theorem cells_of {w : World} {b off : Nat} {l : List Int} (h : M4.IntsAt w (some ⟨b, off, none⟩) l) : ∀ j u, (M4.iv l)[j]? = some u → w.cell? ((⟨b, off, none⟩ : Addr).add j) = some u := by
  intro j u hj
  have hjl : j < l.length := by have := (List.getElem?_eq_some_iff.1 hj).1; simpa [M4.iv] using this
  obtain ⟨b1, off1, he, hlt, hc⟩ := M4.IntsAt.at h hjl
  cases he
  rw [EG.add_is, hc]
  rw [M4.iv, List.getElem?_map, List.getElem?_eq_getElem hjl] at hj
  rw [List.getD_eq_getElem?_getD, List.getElem?_eq_getElem hjl]
  simpa using hj
theorem nil_lit (W : World) (B : Nat) (hB : B ≤ W.heap.size) : (W.alloc (.cells #[] 3)).ownsRow B 3 1 (.slice (some ⟨W.heap.size, 0, none⟩) 0 0) ([] : List Int).length (M4.iv []) := by
  have := World.ownsRow_lit (base := B) (e := 3) (size := 1) W #[] 0 hB (by unfold maxLen; omega) (by simp)
  simpa [M4.iv] using this
end GP
set_option linter.unusedSimpArgs false in
set_option maxHeartbeats 1600000 in
set_option maxRecDepth 100000 in
theorem specJoin_any (a b : Option Addr) (ca cb : Nat) (xs zs : List Int) (w : World) (hz : xs.length ≤ 1048576) (hz2 : zs.length ≤ 1048576) (hc0 : a = none → ca = 0) (hin : M4.IntsAt w a xs) (hin2 : M4.IntsAt w b zs) :
    Calls Try.prog 17 #[.slice a xs.length ca, .slice b zs.length cb] w fun e w' => ∃ a1 c1, e = .returned (.tuple #[.slice a1 (GP.joinL xs zs).length c1, .bool (GP.joinOk xs zs)]) ∧ w'.ownsRow w.heap.size 3 1 (.slice a1 (GP.joinL xs zs).length c1) (GP.joinL xs zs).length (M4.iv (GP.joinL xs zs)) ∧ Below w.heap.size w w' := by
  obtain ⟨i0, hi, hz0, hz1, hz2'⟩ := info_parts Try.info3
  have H1 : Hid _ := hin
  have H2 : Hid _ := hin2
  have AM : Hid (∀ W, Below w.heap.size w W → Calls Try.prog 44 #[.slice a xs.length ca, .int .i64 8] W fun e w' => e = .returned (.bool (EG.rises 8 xs)) ∧ Below W.heap.size W w') := fun W h => l1Some_any a ca 8 xs W (by omega) hz (M4.IntsAt.below H1.out h) _ rfl
  have BM : Hid (∀ W, Below w.heap.size w W → Calls Try.prog 44 #[.slice b zs.length cb, .int .i64 8] W fun e w' => e = .returned (.bool (EG.rises 8 zs)) ∧ Below W.heap.size W w') := fun W h => l1Some_any b cb 8 zs W (by omega) hz2 (M4.IntsAt.below H2.out h) _ rfl
  have HJ : Hid (GP.joinOk xs zs = (EG.rises 8 xs && EG.rises 8 zs)) := show GP.joinOk xs zs = _ from rfl
  have hYY : Hid (EG.rises 8 xs = true → EG.rises 8 zs = true → GP.putAll xs zs = GP.joinL xs zs) := fun h1 h2 => by rw [GP.join_put h1 h2, GP.join_yes (by unfold GP.joinOk; rw [h1, h2]; rfl)]
  have hNN : Hid (GP.joinOk xs zs = false → GP.joinL xs zs = []) := fun h => GP.join_no h
  have PU : Hid (EG.rises 8 xs = true → GP.PutUp 8 xs zs xs 0) := fun h => GP.PutUp.start zs ((GP.rises_iff 8 xs).1 h).2 ((GP.rises_iff 8 xs).1 h).1
  have BD : Hid (EG.rises 8 zs = true → ∀ k, k < zs.length → 0 ≤ zs.getD k 0 ∧ zs.getD k 0 < 8) := fun h k hk => by have := (EG.rises_is h) k hk; exact ⟨this.1, this.2.1⟩
  have HXL : Hid (EG.rises 8 xs = true → xs.length ≤ 8) := fun h => GP.rises_len h
  clear hin hin2
  generalize GP.joinL xs zs = L at *
  generalize GP.joinOk xs zs = J at *
  generalize EG.rises 8 xs = q1 at *
  generalize EG.rises 8 zs = q2 at *
  go_enter Try.func17, Try.ntmps17
  go_wp2_with fail
  refine Calls.mono (AM.out _ (Below.refl _ _)) ?_
  rintro e w2 ⟨rfl, hb2⟩
  have HB2 : Hid _ := hb2
  clear AM hb2
  cases q1 with
  | false =>
    have hJ : J = false := HJ.out
    subst hJ
    obtain rfl := hNN.out rfl
    clear BM hYY hNN HJ PU BD HXL H1 H2
    go_wp2
    exact bodyPost_ret (v := .tuple #[.slice none 0 0, .bool false]) (by simp [results, Try.results17, go_sem]) rfl ⟨none, 0, rfl, World.ownsRow_nil _ _ _ _, HB2.out⟩
  | true =>
    go_wp2_with fail
    refine Calls.mono (BM.out _ HB2.out) ?_
    rintro e w3 ⟨rfl, hb3⟩
    have HB3 : Hid (Below w.heap.size w w3) := HB2.out.trans (hb3.mono HB2.out.size)
    clear BM hb3 HB2
    cases q2 with
    | false =>
      have hJ : J = false := HJ.out
      subst hJ
      obtain rfl := hNN.out rfl
      clear hYY hNN HJ PU BD HXL H1 H2
      go_wp2
      exact bodyPost_ret (v := .tuple #[.slice none 0 0, .bool false]) (by simp [results, Try.results17, go_sem]) rfl ⟨none, 0, rfl, World.ownsRow_nil _ _ _ _, HB3.out⟩
    | true =>
      have hJ : J = true := HJ.out
      subst hJ
      have HPU : Hid _ := PU.out (by first | rfl | trivial)
      have HBD : Hid _ := BD.out (by first | rfl | trivial)
      have HPA : Hid _ := hYY.out (by first | rfl | trivial) (by first | rfl | trivial)
      have hxl := HXL.out (by first | rfl | trivial)
      clear hNN HJ PU BD hYY HXL
      have hs3 := HB3.out.size
      have HI3 : Hid _ := M4.IntsAt.below H1.out HB3.out
      have HZ3 : Hid _ := M4.IntsAt.below H2.out HB3.out
      have OW0 : Hid _ := GP.nil_lit w3 w.heap.size hs3
      have HB4 : Hid _ := HB3.out.alloc hs3 (.cells #[] 3)
      have hs4 := HB4.out.size
      clear H1 H2 HB3
      have TAIL : Hid (∀ (v1 : Value) (w5 : World), w5.ownsRow w.heap.size 3 1 v1 xs.length (M4.iv xs) → Below w.heap.size w w5 → M4.IntsAt w5 b zs → True) := fun _ _ _ _ _ => trivial
      clear TAIL
      rcases a with _ | p
      · have hx0 : xs = [] := HI3.out.elim id (fun h => by obtain ⟨_, _, h, _⟩ := h; cases h)
        subst hx0
        obtain rfl := hc0 rfl
        go_wp2_with (at_builtin; refine wpList_append_own_none rfl _ _ 26 rfl w.heap.size 3 i0 1 Try.underlying26 hi _ _ _ rfl OW0.out rfl ?_)
        have OW1 : Hid ((w3.alloc (.cells #[] 3)).ownsRow w.heap.size 3 1 (.slice (some ⟨w3.heap.size, 0, none⟩) 0 0) ([] : List Int).length (M4.iv [])) := OW0.out
        have HZ4 : Hid _ := M4.IntsAt.below HZ3.out ((Below.refl _ w3).alloc (Nat.le_refl _) (.cells #[] 3))
        generalize Value.slice (some ⟨w3.heap.size, 0, none⟩) 0 0 = v1 at *
        generalize w3.alloc (.cells #[] 3) = w4 at *
        clear OW0 HI3 HZ3 hs3
        go_wp2
        go_loopw [6, 22] (fun u iv wr => ∃ (k : Nat) (T : List Int), iv = .int .i64 k ∧ k ≤ zs.length ∧ Hid (GP.PutUp 8 [] zs T k) ∧ Hid (wr.ownsRow w.heap.size 3 1 u T.length (M4.iv T)) ∧ Hid (M4.IntsAt wr b zs) ∧ Below w.heap.size w wr) (fun _ iv _ => (zs.length - intOf iv).toNat)
        case atStart => exact ⟨0, _, rfl, by omega, HPU, OW1, HZ4, HB4.out⟩
        case round =>
          obtain ⟨k, T, rfl, hk, hP, hO, hZ, hb⟩ := hrel
          by_cases hlk : k < zs.length
          · obtain ⟨b1, off1, rfl, hlt1, hc1⟩ := M4.IntsAt.at hZ.out hlk
            have HP2 : Hid _ := hP.out.next hlk (HBD.out k hlk)
            have LP : Hid _ := l7Put_up w.heap.size u6 T (zs.getD k 0) wr (by have := hP.out.len; omega) hP.out.up hb.size hO.out
            have hbs := hb.size
            clear hP hO HPU OW1 HZ4
            generalize zs.getD k 0 = z at *
            generalize GP.putT T z = T' at *
            go_wp2_with fail
            refine Calls.mono LP.out ?_
            rintro e w6 ⟨a1, c1, rfl, ho, hb6⟩
            have HO6 : Hid _ := ho
            have HZ6 : Hid _ := M4.IntsAt.below hZ.out hb6
            have HB6 := hb.trans (hb6.mono hbs)
            clear LP ho hb6 hc1 hZ hb
            go_wp2
            go_roundw
            case rel => exact ⟨k + 1, T', by go_num, by omega, HP2, HO6, HZ6, HB6⟩
            case measure => simp [intOf]; omega
          · obtain rfl : k = zs.length := by omega
            have hT : T = L := by rw [hP.out.end_]; exact HPA.out
            subst hT
            obtain ⟨a1, c1, rfl, -⟩ := M5.own_view hO.out
            clear hZ hP HPA HPU OW1 HZ4 HBD
            go_wp2
            exact bodyPost_ret (v := .tuple #[.slice a1 T.length c1, .bool true]) (by simp [results, Try.results17, go_sem]) rfl ⟨a1, c1, rfl, hO.out, hb⟩
      · go_wp2_with (at_builtin; refine wpList_append_own _ rfl _ _ 26 rfl w.heap.size 3 i0 (.int .i64 0) 1 8 Try.underlying26 hi hz0 hz1 hz2' rfl (by decide) _ _ _ rfl OW0.out p xs.length ca (M4.iv xs) rfl ?h1_0 ?h1_1 ?h1_2 ?h1_3 ?h1_4 ?h1_5 ?_)
        case h1_0 => simp [M4.iv]
        case h1_1 =>
          intro j u hj
          have hjl : j < xs.length := by have := (List.getElem?_eq_some_iff.1 hj).1; simpa [M4.iv] using this
          obtain ⟨b1, off1, he, _⟩ := M4.IntsAt.at HI3.out hjl
          cases he
          exact GP.cells_of (M4.IntsAt.below HI3.out ((Below.refl _ w3).alloc (Nat.le_refl _) (.cells #[] 3))) j u hj
        case h1_2 => exact EG.iv_one _
        case h1_3 => simp; unfold maxLen; omega
        case h1_4 => simp; omega
        case h1_5 => simp; omega
        intro v1 w4 hown1 hgrow1 _
        have OW1 : Hid (w4.ownsRow w.heap.size 3 1 v1 xs.length (M4.iv xs)) := show w4.ownsRow _ _ _ _ _ _ by have h := hown1; simpa [M4.iv] using h
        have hbg : Below w3.heap.size w3 w4 := ((Below.refl _ w3).alloc (Nat.le_refl _) (.cells #[] 3)).grown hgrow1 (by simp) (fun j hj => by cases hj; exact Nat.le_refl _)
        have HZ4 : Hid _ := M4.IntsAt.below HZ3.out hbg
        replace HB4 : Hid (Below w.heap.size w w4) := HB4.out.grown hgrow1 (by simp; omega) (fun j hj => by cases hj; exact hs3)
        clear hs4
        have hs4 := HB4.out.size
        clear OW0 HI3 HZ3 hs3 hown1 hgrow1 hbg
        go_wp2
        go_loopw [6, 22] (fun u iv wr => ∃ (k : Nat) (T : List Int), iv = .int .i64 k ∧ k ≤ zs.length ∧ Hid (GP.PutUp 8 xs zs T k) ∧ Hid (wr.ownsRow w.heap.size 3 1 u T.length (M4.iv T)) ∧ Hid (M4.IntsAt wr b zs) ∧ Below w.heap.size w wr) (fun _ iv _ => (zs.length - intOf iv).toNat)
        case atStart => exact ⟨0, _, rfl, by omega, HPU, OW1, HZ4, HB4.out⟩
        case round =>
          obtain ⟨k, T, rfl, hk, hP, hO, hZ, hb⟩ := hrel
          by_cases hlk : k < zs.length
          · obtain ⟨b1, off1, rfl, hlt1, hc1⟩ := M4.IntsAt.at hZ.out hlk
            have HP2 : Hid _ := hP.out.next hlk (HBD.out k hlk)
            have LP : Hid _ := l7Put_up w.heap.size u6 T (zs.getD k 0) wr (by have := hP.out.len; omega) hP.out.up hb.size hO.out
            have hbs := hb.size
            clear hP hO HPU OW1 HZ4
            generalize zs.getD k 0 = z at *
            generalize GP.putT T z = T' at *
            go_wp2_with fail
            refine Calls.mono LP.out ?_
            rintro e w6 ⟨a1, c1, rfl, ho, hb6⟩
            have HO6 : Hid _ := ho
            have HZ6 : Hid _ := M4.IntsAt.below hZ.out hb6
            have HB6 := hb.trans (hb6.mono hbs)
            clear LP ho hb6 hc1 hZ hb
            go_wp2
            go_roundw
            case rel => exact ⟨k + 1, T', by go_num, by omega, HP2, HO6, HZ6, HB6⟩
            case measure => simp [intOf]; omega
          · obtain rfl : k = zs.length := by omega
            have hT : T = L := by rw [hP.out.end_]; exact HPA.out
            subst hT
            obtain ⟨a1, c1, rfl, -⟩ := M5.own_view hO.out
            clear hZ hP HPA HPU OW1 HZ4 HBD
            go_wp2
            exact bodyPost_ret (v := .tuple #[.slice a1 T.length c1, .bool true]) (by simp [results, Try.results17, go_sem]) rfl ⟨a1, c1, rfl, hO.out, hb⟩
end Go.Proofs.Ytjplabldiheggaa

/- Lists of members joined: JoinMembers of the program. -/
namespace Go.Proofs.Ytjplabldiheggaa
open Go.RowKit
set_option maxHeartbeats 1600000 in
set_option maxRecDepth 100000 in
theorem inEither_any (a b : Option Addr) (ca cb g1 g2 i : Nat) (xs zs : List Int) (w : World) (hz : xs.length ≤ 1048576) (hz2 : zs.length ≤ 1048576) (h1 : w.cell? ⟨g1, 0, none⟩ = some (.slice a xs.length ca)) (h2 : w.cell? ⟨g2, 0, none⟩ = some (.slice b zs.length cb)) (hin : M4.IntsAt w a xs) (hin2 : M4.IntsAt w b zs) :
    Calls Try.prog 43 #[.int .i64 (i : Int), .pointer (some ⟨g1, 0, none⟩), .pointer (some ⟨g2, 0, none⟩)] w fun e w' => e = .returned (.bool (EG.hasB xs i || EG.hasB zs i)) ∧ w = w' := by
  have C1 : Hid _ := containsI_any a ca xs i w hz hin
  have C2 : Hid _ := containsI_any b cb zs i w hz2 hin2
  clear hin hin2
  generalize EG.hasB xs i = q1 at *
  generalize EG.hasB zs i = q2 at *
  generalize xs.length = n1 at *
  generalize zs.length = n2 at *
  go_enter Try.func43, Try.ntmps43
  go_wp2_with fail
  refine Calls.mono C1.out ?_
  rintro e w2 ⟨rfl, rfl⟩
  clear C1
  cases q1 with
  | true =>
    clear C2
    go_wp2
    go_ret
    exact ⟨rfl, rfl⟩
  | false =>
    go_wp2_with fail
    refine Calls.mono C2.out ?_
    rintro e w2 ⟨rfl, rfl⟩
    clear C2
    go_wp2
    go_ret
    exact ⟨rfl, rfl⟩
set_option maxHeartbeats 1600000 in
set_option maxRecDepth 100000 in
theorem implJoin_any (a b : Option Addr) (ca cb : Nat) (xs zs : List Int) (w : World) (hz : xs.length ≤ 1048576) (hz2 : zs.length ≤ 1048576) (hin : M4.IntsAt w a xs) (hin2 : M4.IntsAt w b zs) :
    Calls Try.prog 16 #[.slice a xs.length ca, .slice b zs.length cb] w fun e w' => ∃ a1 c1, e = .returned (.tuple #[.slice a1 (GP.joinL xs zs).length c1, .bool (GP.joinOk xs zs)]) ∧ w'.ownsRow w.heap.size 3 1 (.slice a1 (GP.joinL xs zs).length c1) (GP.joinL xs zs).length (M4.iv (GP.joinL xs zs)) ∧ Below w.heap.size w w' := by
  have H1 : Hid _ := hin
  have H2 : Hid _ := hin2
  have AM : Hid (∀ W, Below w.heap.size w W → Calls Try.prog 21 #[.slice a xs.length ca] W fun e w' => e = .returned (.bool (EG.rises 8 xs)) ∧ W = w') := fun W h => areMembers_any a ca xs W hz (M4.IntsAt.below H1.out h) _ rfl
  have BM : Hid (∀ W, Below w.heap.size w W → Calls Try.prog 21 #[.slice b zs.length cb] W fun e w' => e = .returned (.bool (EG.rises 8 zs)) ∧ W = w') := fun W h => areMembers_any b cb zs W hz2 (M4.IntsAt.below H2.out h) _ rfl
  have HJ : Hid (GP.joinOk xs zs = (EG.rises 8 xs && EG.rises 8 zs)) := show GP.joinOk xs zs = _ from rfl
  have TH : Hid _ := fun (W : World) (hF : _) => thoseOfJ_any (.pointer (some ⟨w.heap.size, 0, none⟩)) (.pointer (some ⟨w.heap.size + 1, 0, none⟩)) 8 (fun i => EG.hasB xs i || EG.hasB zs i) W (by omega) hF _ rfl
  have FIN : Hid (((w.alloc (.cells #[.slice a xs.length ca] 26)).alloc (.cells #[.slice b zs.length cb] 26)).cell? ⟨w.heap.size, 0, none⟩ = some (.slice a xs.length ca) ∧ ((w.alloc (.cells #[.slice a xs.length ca] 26)).alloc (.cells #[.slice b zs.length cb] 26)).cell? ⟨w.heap.size + 1, 0, none⟩ = some (.slice b zs.length cb) ∧ Below w.heap.size w ((w.alloc (.cells #[.slice a xs.length ca] 26)).alloc (.cells #[.slice b zs.length cb] 26))) := by
    refine ⟨?_, ?_, ((Below.refl _ w).alloc (Nat.le_refl _) _).alloc (by simp) _⟩
    · have h1 : (w.alloc (.cells #[.slice a xs.length ca] 26)).cell? ⟨w.heap.size, 0, none⟩ = some (.slice a xs.length ca) := by rw [World.cell?_alloc_new]; rfl
      exact (((Below.refl _ (w.alloc (.cells #[.slice a xs.length ca] 26))).alloc (Nat.le_refl _) (.cells #[.slice b zs.length cb] 26)).cell (p := ⟨w.heap.size, 0, none⟩) (by simp)).trans h1
    · have hs : (w.alloc (.cells #[.slice a xs.length ca] 26)).heap.size = w.heap.size + 1 := by simp
      rw [← hs, World.cell?_alloc_new]; rfl
  have IN : Hid (∀ (i : Nat) (W : World), Below ((w.alloc (.cells #[.slice a xs.length ca] 26)).alloc (.cells #[.slice b zs.length cb] 26)).heap.size ((w.alloc (.cells #[.slice a xs.length ca] 26)).alloc (.cells #[.slice b zs.length cb] 26)) W → Calls Try.prog 43 #[.int .i64 (i : Int), .pointer (some ⟨w.heap.size, 0, none⟩), .pointer (some ⟨w.heap.size + 1, 0, none⟩)] W fun e w' => e = .returned (.bool (EG.hasB xs i || EG.hasB zs i)) ∧ Below W.heap.size W w') := fun i W hb => by
    have hw2 : Below w.heap.size w W := FIN.out.2.2.trans (hb.mono (by simp; omega))
    exact (inEither_any a b ca cb w.heap.size (w.heap.size + 1) i xs zs W hz hz2 ((hb.cell (p := ⟨w.heap.size, 0, none⟩) (by simp; omega)).trans FIN.out.1) ((hb.cell (p := ⟨w.heap.size + 1, 0, none⟩) (by simp)).trans FIN.out.2.1) (M4.IntsAt.below H1.out hw2) (M4.IntsAt.below H2.out hw2)).mono (by rintro e w' ⟨rfl, rfl⟩; exact ⟨rfl, Below.refl _ _⟩)
  have hYY : Hid (GP.joinOk xs zs = true → TR.those 8 (fun i => EG.hasB xs i || EG.hasB zs i) = GP.joinL xs zs) := fun h => (GP.join_yes h).symm
  have hNN : Hid (GP.joinOk xs zs = false → GP.joinL xs zs = []) := fun h => GP.join_no h
  clear hin hin2 H1 H2
  generalize GP.joinL xs zs = L at *
  generalize GP.joinOk xs zs = J at *
  generalize EG.rises 8 xs = q1 at *
  generalize EG.rises 8 zs = q2 at *
  generalize (fun (i : Nat) => EG.hasB xs (i : Int) || EG.hasB zs (i : Int)) = P at *
  generalize xs.length = n1 at *
  generalize zs.length = n2 at *
  go_enter Try.func16, Try.ntmps16
  have HB1 : Hid _ := FIN.out.2.2
  clear FIN
  go_wp2_with fail
  refine Calls.mono (AM.out _ HB1.out) ?_
  rintro e w2 ⟨rfl, rfl⟩
  clear AM
  cases q1 with
  | false =>
    have hJ : J = false := HJ.out
    subst hJ
    obtain rfl := hNN.out rfl
    clear BM TH IN hYY hNN HJ
    go_wp2
    exact bodyPost_ret (v := .tuple #[.slice none 0 0, .bool false]) (by simp [results, Try.results16, go_sem]) rfl ⟨none, 0, rfl, World.ownsRow_nil _ _ _ _, HB1.out⟩
  | true =>
    go_wp2_with fail
    refine Calls.mono (BM.out _ HB1.out) ?_
    rintro e w2 ⟨rfl, rfl⟩
    clear BM
    cases q2 with
    | false =>
      have hJ : J = false := HJ.out
      subst hJ
      obtain rfl := hNN.out rfl
      clear TH IN hYY hNN HJ
      go_wp2
      exact bodyPost_ret (v := .tuple #[.slice none 0 0, .bool false]) (by simp [results, Try.results16, go_sem]) rfl ⟨none, 0, rfl, World.ownsRow_nil _ _ _ _, HB1.out⟩
    | true =>
      have hJ : J = true := HJ.out
      subst hJ
      have hL := hYY.out rfl
      rw [hL] at TH
      clear hYY hNN HJ hL
      go_wp2_with fail
      refine Calls.mono (TH.out _ (fun i W _ hb => IN.out i W hb)) ?_
      rintro e w3 ⟨a1, c3, rfl, ho, hb⟩
      have HO : Hid _ := TR.own_mono ho HB1.out.size
      have HB3 : Hid _ := HB1.out.trans (hb.mono HB1.out.size)
      clear TH IN ho hb
      go_wp2
      exact bodyPost_ret (v := .tuple #[.slice a1 L.length c3, .bool true]) (by simp [results, Try.results16, go_sem]) rfl ⟨a1, c3, rfl, HO.out, HB3.out⟩
end Go.Proofs.Ytjplabldiheggaa

/- Drawn: a plan, a bundle and members: DrawReachAll. -/
namespace Go.Proofs.Ytjplabldiheggaa
open Go.RowKit
theorem PLD.bytes_up {w : World} {a : Option Addr} {zs : List Int} (o : Obj) (h : MC.BytesAt w w.heap.size a zs) : MC.BytesAt (w.alloc o) (w.alloc o).heap.size a zs := by
  have h1 := h.only (q := w.heap.size) (MC.Only.of_below ((Below.refl _ w).alloc (Nat.le_refl _) o)) (Nat.le_refl _) (Nat.le_refl _)
  exact h1.up (by simp)
set_option linter.unusedSimpArgs false in
set_option maxHeartbeats 6400000 in
set_option maxRecDepth 100000 in
theorem dReachAll_any (a : Option Addr) (zs : List Int) (cap : Nat) (w : World) (hz : zs.length ≤ 140737488355328) (hb : MC.BytesAt w w.heap.size a zs) :
    Calls Try.prog 4 #[.slice a zs.length cap] w fun e w' => ∃ (a1 : Option Addr) (c1 : Nat) (xs : List I5) (b : Bd) (am0 : Option Addr) (cm0 : Nat) (ms0 : List Int), e = .returned (.tuple #[.slice a1 xs.length c1, b.v, .slice am0 ms0.length cm0]) ∧ xs.length ≤ 21 ∧ b.py.size ≤ 61 ∧ MI5.RowAt w' a1 xs ∧ ms0.length ≤ 7 ∧ M4.IntsAt w' am0 ms0 ∧  Below w.heap.size w w' := by
  have hbr := BX.Box.new w 25 B1.zero w.heap.size rfl
  have hW0 : Below w.heap.size w (w.alloc (.cells (BX.cs B1.zero).toArray 25)) := (Below.refl _ w).alloc (Nat.le_refl _) _
  have hb0 := PLD.bytes_up (.cells (BX.cs B1.zero).toArray 25) hb
  have hs0 : (w.alloc (.cells (BX.cs B1.zero).toArray 25)).heap.size = w.heap.size + 1 := by simp
  simp only [BX.cs, Bd.cs, B1.zero] at hbr hW0 hb0 hs0
  clear hb
  go_enter Try.func4, Try.ntmps4
  go_wp2_with fail
  generalize w.alloc (.cells #[.int .i64 0, .int .i64 0, .bool false, .int .i64 0, .int .i64 0, .int .i64 0, .int .i64 0, .int .i64 0, .int .i64 0, .string ⟨#[]⟩] 25) = W0 at *
  change BX.Box W0 w.heap.size 25 B1.zero at hbr
  obtain ⟨p, hp⟩ : ∃ p, W0.heap.size = p := ⟨_, rfl⟩
  rw [← hs0, hp]
  have hlt : w.heap.size < p := by omega
  have hcur := cur_new (T := 49) (cap := cap) hb0
  have hcs : (W0.alloc (.cells #[.slice a zs.length cap, .int .i64 0, .int .u64 0] 49)).heap.size = p + 1 := by simp [hp]
  have hnb : Hid (∀ W, MC.Only p (W0.alloc (.cells #[.slice a zs.length cap, .int .i64 0, .int .u64 0] 49)) W → Below W0.heap.size W0 W) := fun W h => new_below hp.symm h
  rw [hp] at hcur hs0
  clear hs0
  replace hbr := hbr.alloc (.cells #[.slice a zs.length cap, .int .i64 0, .int .u64 0] 49)
  refine (planned_any p a zs cap 0 _ hz (by omega) hcur).mono ?_
  rintro e w1 ⟨a1, c1, xs, b, rfl, hxl, hpy, how, hc1, ho1⟩
  clear hcur
  rw [hcs] at how
  have hB1 := hW0.trans ((hnb.out _ ho1).mono hW0.size)
  replace hbr := hbr.only ho1 (by omega)
  obtain ⟨r, hr⟩ : ∃ r, w.heap.size = r := ⟨_, rfl⟩
  have hsw := hB1.size
  have hpl := hc1.lt
  rw [hr] at hbr hlt hB1 hsw
  have hrp : r ≠ p := by omega
  clear hb0 hW0 hnb ho1 hcs
  obtain ⟨x0, x1, x2, x3, x4, x5, x6, x7, x8, x9⟩ := b
  have hbq := BX.Box.new w1 25 ⟨x0, x1, x2, x3, x4, x5, x6, x7, x8, x9⟩ w1.heap.size rfl
  have hc := hc1.alloc (.cells #[.int .i64 x0, .int .i64 x1, .bool x2, .int .i64 x3, .int .i64 x4, .int .i64 x5, .int .i64 x6, .int .i64 x7, .int .i64 x8, .string x9] 25)
  replace hbr := hbr.alloc (.cells #[.int .i64 x0, .int .i64 x1, .bool x2, .int .i64 x3, .int .i64 x4, .int .i64 x5, .int .i64 x6, .int .i64 x7, .int .i64 x8, .string x9] 25)
  replace how := World.ownsRow.alloc how (.cells #[.int .i64 x0, .int .i64 x1, .bool x2, .int .i64 x3, .int .i64 x4, .int .i64 x5, .int .i64 x6, .int .i64 x7, .int .i64 x8, .string x9] 25)
  replace hB1 := hB1.alloc hsw (.cells #[.int .i64 x0, .int .i64 x1, .bool x2, .int .i64 x3, .int .i64 x4, .int .i64 x5, .int .i64 x6, .int .i64 x7, .int .i64 x8, .string x9] 25)
  simp only [BX.cs, Bd.cs] at hbq
  clear hc1
  rw [hr]
  go_upto_region 3 with fail
  generalize w1.alloc (.cells #[.int .i64 x0, .int .i64 x1, .bool x2, .int .i64 x3, .int .i64 x4, .int .i64 x5, .int .i64 x6, .int .i64 x7, .int .i64 x8, .string x9] 25) = w2 at *
  obtain ⟨q, hq⟩ : ∃ q, w1.heap.size = q := ⟨_, rfl⟩
  rw [hq] at hbq hpl hsw ⊢
  have hqp : q ≠ p := by omega
  have hpq : p < q := by omega
  have hrq : r ≠ q := by omega
  have hqr : q ≠ r := by omega
  clear hq
  have HC0 : Hid _ := hc.below (Below.refl _ w2).drew
  have HQ0 : Hid (BX.Box _ _ _ _) := hbq.below (Below.refl _ w2).drew hbq.lt
  have HR0 : Hid (BX.Box _ _ _ _) := hbr.below (Below.refl _ w2).drew hbr.lt
  have HW0 : Hid _ := M5.own_below how (Below.refl _ w2).drew
  have HB0 : Hid (Below r w (World.drew w2)) := hB1.trans ((Below.refl _ w2).drew)
  have k0 := hbq.cells 0
  have k1 := hbq.cells 1
  have k2 := hbq.cells 2
  have k3 := hbq.cells 3
  have k4 := hbq.cells 4
  have k5 := hbq.cells 5
  have k6 := hbq.cells 6
  have k7 := hbq.cells 7
  have k8 := hbq.cells 8
  have k9 := hbq.cells 9
  simp [Bd.cs] at k0 k1 k2 k3 k4 k5 k6 k7 k8 k9
  have hp0 : r < (World.drew w2).heap.size := HR0.out.lt
  clear hbq hbr how hc hB1
  go_wp2
  go_region_held3 (fun w' => w'.cell? ⟨q, 0, none⟩ = some (.int .i64 x0) ∧ w'.cell? ⟨q, 1, none⟩ = some (.int .i64 x1) ∧ w'.cell? ⟨q, 2, none⟩ = some (.bool x2) ∧ w'.cell? ⟨q, 3, none⟩ = some (.int .i64 x3) ∧ w'.cell? ⟨q, 4, none⟩ = some (.int .i64 x4) ∧ w'.cell? ⟨q, 5, none⟩ = some (.int .i64 x5) ∧ w'.cell? ⟨q, 6, none⟩ = some (.int .i64 x6) ∧ w'.cell? ⟨q, 7, none⟩ = some (.int .i64 x7) ∧ w'.cell? ⟨q, 8, none⟩ = some (.int .i64 x8) ∧ w'.cell? ⟨q, 9, none⟩ = some (.string x9)) (first | go_keep | assumption) (first | (go_at_call 19; refine Calls.mono (members_any p a zs cap (0 + 420) _ hz (by omega) HC0.out) ?_; rintro e U1 ⟨am0, cm0, ms0, rfl, hml0, hmo0, hc, ho⟩; have HC1 : Hid _ := hc; have HQ1 : Hid (BX.Box _ _ _ _) := HQ0.out.only ho hqp; have HR1 : Hid (BX.Box _ _ _ _) := HR0.out.only ho hrp; have HW1 : Hid _ := RA.own_only HW0.out ho (fun e => by have := (World.ownsRow.lt HW0.out _ e).1; omega); have HB1 : Hid (Below r w U1) := HB0.out.trans (ho.below (by omega) (by have := HB0.out.size; omega)); have HM0 : Hid _ := hmo0; have HML0 : Hid _ := (World.ownsRow.lt hmo0); clear hmo0; have hQ := HQ1.out; have k0 := hQ.cells 0; have k1 := hQ.cells 1; have k2 := hQ.cells 2; have k3 := hQ.cells 3; have k4 := hQ.cells 4; have k5 := hQ.cells 5; have k6 := hQ.cells 6; have k7 := hQ.cells 7; have k8 := hQ.cells 8; have k9 := hQ.cells 9; simp [Bd.cs] at k0 k1 k2 k3 k4 k5 k6 k7 k8 k9; have hR := HR1.out; have m0_ := hR.cells 0; have g0 := hR.free 0; have m1_ := hR.cells 1; have g1 := hR.free 1; have m2_ := hR.cells 2; have g2 := hR.free 2; have m3_ := hR.cells 3; have g3 := hR.free 3; have m4_ := hR.cells 4; have g4 := hR.free 4; have m5_ := hR.cells 5; have g5 := hR.free 5; have m6_ := hR.cells 6; have g6 := hR.free 6; have m7_ := hR.cells 7; have g7 := hR.free 7; have m8_ := hR.cells 8; have g8 := hR.free 8; have m9_ := hR.cells 9; have g9 := hR.free 9; simp [Bd.cs, B1.zero] at m0_ m1_ m2_ m3_ m4_ m5_ m6_ m7_ m8_ m9_; have hql := hQ.lt; have hrl := hR.lt; clear hQ hR hc ho HC0 HQ0 HR0 HW0 HB0))
  have hP := HR1.out.put ⟨x0, x1, x2, x3, x4, x5, x6, x7, x8, x9⟩
  have z0 := hP.cells 0
  have z1 := hP.cells 1
  have z2 := hP.cells 2
  have z3 := hP.cells 3
  have z4 := hP.cells 4
  have z5 := hP.cells 5
  have z6 := hP.cells 6
  have z7 := hP.cells 7
  have z8 := hP.cells 8
  have z9 := hP.cells 9
  simp [Bd.cs] at z0 z1 z2 z3 z4 z5 z6 z7 z8 z9
  have hrow := RA.own_only HW1.out (((((((((((MC.Only.refl r U1).setCell 0 (.int .i64 x0)).setCell 1 (.int .i64 x1)).setCell 2 (.bool x2)).setCell 3 (.int .i64 x3)).setCell 4 (.int .i64 x4)).setCell 5 (.int .i64 x5)).setCell 6 (.int .i64 x6)).setCell 7 (.int .i64 x7)).setCell 8 (.int .i64 x8)).setCell 9 (.string x9)) (fun e => by have := (World.ownsRow.lt HW1.out _ e).1; omega)
  have hBE := ((((((((((HB1.out.setCell (p := ⟨r, 0, none⟩) (by simp) (.int .i64 x0)).setCell (p := ⟨r, 1, none⟩) (by simp) (.int .i64 x1)).setCell (p := ⟨r, 2, none⟩) (by simp) (.bool x2)).setCell (p := ⟨r, 3, none⟩) (by simp) (.int .i64 x3)).setCell (p := ⟨r, 4, none⟩) (by simp) (.int .i64 x4)).setCell (p := ⟨r, 5, none⟩) (by simp) (.int .i64 x5)).setCell (p := ⟨r, 6, none⟩) (by simp) (.int .i64 x6)).setCell (p := ⟨r, 7, none⟩) (by simp) (.int .i64 x7)).setCell (p := ⟨r, 8, none⟩) (by simp) (.int .i64 x8)).setCell (p := ⟨r, 9, none⟩) (by simp) (.string x9))
  have hM0 := M5.own_ints (RA.own_only HM0.out (((((((((((MC.Only.refl r U1).setCell 0 (.int .i64 x0)).setCell 1 (.int .i64 x1)).setCell 2 (.bool x2)).setCell 3 (.int .i64 x3)).setCell 4 (.int .i64 x4)).setCell 5 (.int .i64 x5)).setCell 6 (.int .i64 x6)).setCell 7 (.int .i64 x7)).setCell 8 (.int .i64 x8)).setCell 9 (.string x9)) (fun e => by have := (World.ownsRow.lt HM0.out _ e).1; have := hp0; omega))
  generalize ((((((((((((((((((((U1).setCell ⟨r, 0, none⟩ (.int .i64 x0))).setCell ⟨r, 1, none⟩ (.int .i64 x1))).setCell ⟨r, 2, none⟩ (.bool x2))).setCell ⟨r, 3, none⟩ (.int .i64 x3))).setCell ⟨r, 4, none⟩ (.int .i64 x4))).setCell ⟨r, 5, none⟩ (.int .i64 x5))).setCell ⟨r, 6, none⟩ (.int .i64 x6))).setCell ⟨r, 7, none⟩ (.int .i64 x7))).setCell ⟨r, 8, none⟩ (.int .i64 x8))).setCell ⟨r, 9, none⟩ (.string x9)) = WE at *
  obtain ⟨aa, cc, he, hRA⟩ := PLD.own_row5 hrow
  cases he
  go_wp2
  exact bodyPost_ret (v := .tuple #[.slice a1 (List.length xs) c1, .agg #[.int .i64 x0, .int .i64 x1, .bool x2, .int .i64 x3, .int .i64 x4, .int .i64 x5, .int .i64 x6, .int .i64 x7, .int .i64 x8, .string x9], .slice am0 (List.length ms0) cm0]) (by simp [results, Try.results4, go_sem, z0, z1, z2, z3, z4, z5, z6, z7, z8, z9]) rfl ⟨a1, c1, xs, ⟨x0, x1, x2, x3, x4, x5, x6, x7, x8, x9⟩, am0, cm0, ms0, rfl, hxl, hpy, hRA, hml0, hM0, hr ▸ hBE⟩
end Go.Proofs.Ytjplabldiheggaa

/- impl.EarliestFrom, in a seat without ArriveBy. -/
namespace Go.Proofs.Ytjplabldiheggaa
open Go.RowKit
namespace PN
def stOk (xs : List I5) (f n : Int) : Bool := okP xs && nodeOk f && whenOk n
theorem stOk_is {xs : List I5} {f n : Int} (h : stOk xs f n = true) : okP xs = true ∧ 0 ≤ f ∧ f ≤ 7 ∧ 0 ≤ n ∧ n ≤ 1000 := by
  unfold stOk at h
  simp only [Bool.and_eq_true] at h
  obtain ⟨⟨h1, h2⟩, h3⟩ := h
  have := node_yes h2
  have := when_yes h3
  exact ⟨h1, by omega, by omega, by omega, by omega⟩
def earF (xs : List I5) (f n : Int) : List Int := if stOk xs f n = true then whL (fin xs (st0 f n)).wh else []
theorem earF_no {xs : List I5} {f n : Int} (h : stOk xs f n = false) : earF xs f n = [] := by simp [earF, h]
theorem earF_yes {xs : List I5} {f n : Int} (h : stOk xs f n = true) : earF xs f n = whL (fin xs (st0 f n)).wh := by simp [earF, h]
theorem tellF_tS {m : FL.Mo} (h : tellB m = true) : tS m = tellN m := by cases m <;> first | rfl | cases h
theorem untoldF_tS {m : FL.Mo} (h : tellB m = false) : tS m = -1 := by cases m <;> first | rfl | cases h
end PN
theorem Try.fieldJF (f : Int) (wf : Nat → Nat) (lf : Nat → Int) (W : World) : (Instr.field 72 (.agg (PN.jc f wf lf).toArray) 1).run Try.prog W = .ok (.agg (PN.fl wf).toArray) W := by kernel_rfl
set_option linter.unusedSimpArgs false in
set_option maxHeartbeats 1600000 in
set_option maxRecDepth 100000 in
theorem implEarF_any (a : Option Addr) (ca : Nat) (xs : List I5) (f n : Int) (w : World) (hn : xs.length ≤ 1048576) (hin : MI5.RowAt w a xs) :
    Calls Try.prog 10 #[.slice a xs.length ca, .int .i64 f, .int .i64 n] w fun e w' => ∃ a1 c1, e = .returned (.tuple #[.slice a1 (PN.earF xs f n).length c1, .bool (PN.stOk xs f n)]) ∧ w'.ownsRow w.heap.size 3 1 (.slice a1 (PN.earF xs f n).length c1) (PN.earF xs f n).length (M4.iv (PN.earF xs f n)) ∧ Below w.heap.size w w' := by
  obtain ⟨i0, hi, hz0, hz1, hz2⟩ := info_parts Try.info3
  have ST : Hid (∀ W : World, MI5.RowAt W a xs → Calls Try.prog 35 #[.slice a xs.length ca, .int .i64 f, .int .i64 n] W fun e w' => e = .returned (.bool (PN.stOk xs f n)) ∧ Below W.heap.size W w') := fun W h => isStartB_any a ca xs f n W hn h
  have HI : Hid (MI5.RowAt w a xs) := hin
  clear hin
  go_enter Try.func10, Try.ntmps10
  go_wp2_with fail
  refine (ST.out _ HI.out).mono ?_
  rintro e w1 ⟨rfl, hb1⟩
  have HI1 : Hid (MI5.RowAt w1 a xs) := HI.out.below hb1
  clear ST HI
  cases hs : PN.stOk xs f n with
  | false =>
    have hF : Hid _ := hs
    have hL : Hid _ := PN.earF_no hs
    clear hs HI1
    go_wp2
    go_ret2
    exact ⟨none, 0, by rw [hL.out, hF.out]; rfl, by rw [hL.out]; exact World.ownsRow_nil _ _ _ _, hb1⟩
  | true =>
    have hF : Hid _ := hs
    have hL : Hid _ := PN.earF_yes hs
    obtain ⟨h0, h1, h2, h3, h4⟩ := PN.stOk_is hs
    have JF : Hid (∀ W : World, MI5.RowAt W a xs → Calls Try.prog 36 #[.slice a xs.length ca, .int .i64 f, .int .i64 n] W fun e w' => e = .returned (.agg (PN.jc f (PN.wb (PN.fin xs (PN.st0 f n))) (PN.lb (PN.fin xs (PN.st0 f n)))).toArray) ∧ Below W.heap.size W w') := fun W hr => journeyFrom_any a ca xs f n W h0 h1 h2 h3 h4 hr
    have OS : Hid (PN.okS (PN.fin xs (PN.st0 f n)).wh) := PN.fin_okS h0 (PN.st0_ok h3 h4)
    clear hs h0 h1 h2 h3 h4
    generalize PN.fin xs (PN.st0 f n) = s at *
    go_wp2_with (at_make; refine wpList_make_full _ rfl _ _ 26 rfl w1.heap.size 3 i0 (.int .i64 0) 1 Try.underlying26 hi hz0 hz1 .i64 .i64 _ _ 8 rfl rfl rfl rfl ?_ ?_ ?_ ?_)
    · rw [hz2]; omega
    · unfold maxLen; omega
    · omega
    intro w2 hown hgrow
    have hb2 : Below w1.heap.size w1 w2 := (Below.refl _ _).grown hgrow (Nat.le_refl _) (fun k hk => by cases hk)
    have HO2 : Hid (w2.ownsRow w1.heap.size 3 1 (.slice (some ⟨w1.heap.size, 0, none⟩) 8 8) 8 (M4.iv (M4.mix (PN.whL s.wh) 0))) := by
      show w2.ownsRow _ _ _ _ _ _
      rw [M4.mix_zero, PN.whL_len, ← M4.made_iv]; exact hown
    have HI2 : Hid (MI5.RowAt w2 a xs) := HI1.out.below hb2
    clear hown hgrow hi hz0 hz1 hz2 HI1
    go_wp2_with fail
    refine (JF.out _ HI2.out).mono ?_
    rintro e w3 ⟨rfl, hb3⟩
    have hB3 : Below w1.heap.size w1 w3 := hb2.trans (hb3.mono hb2.size)
    have HO3 : Hid (w3.ownsRow w1.heap.size 3 1 (.slice (some ⟨w1.heap.size, 0, none⟩) 8 8) 8 (M4.iv (M4.mix (PN.whL s.wh) 0))) := M5.own_below HO2.out hb3
    clear JF HI2 HO2 hb3 hb2
    have FJ := Try.fieldJF f (PN.wb s) (PN.lb s)
    go_wp2
    go_loopw [9, 10, 11, 12, 24] (fun _ _ _ _ iv wr => ∃ k : Nat, iv = .int .i64 k ∧ k ≤ 8 ∧ wr.ownsRow w1.heap.size 3 1 (.slice (some ⟨w1.heap.size, 0, none⟩) 8 8) 8 (M4.iv (M4.mix (PN.whL s.wh) k)) ∧ Below w1.heap.size w1 wr) (fun _ _ _ _ iv _ => (8 - intOf iv).toNat)
    case atStart => exact ⟨0, rfl, by omega, HO3.out, hB3⟩
    case round =>
      clear HO3 hB3
      obtain ⟨k, rfl, hk, hown, hb⟩ := hrel
      have hlen := PN.whL_len s.wh
      by_cases hl : k < 8
      · have kk : (k : Int) < 8 := by omega
        have IX : ∀ W : World, (Instr.index 69 (.agg (PN.fl (PN.wb s)).toArray) (.int .i64 (k : Int))).run Try.prog W = .ok (.float .f64 (s.wh k).b) W := fun W => MA.run_index Try.underlying69 (by go_simp) (by go_simp) hl (PN.fl_get _ hl)
        have TL : Hid (∀ W : World, Calls Try.prog 37 #[.float .f64 (s.wh k).b] W fun e w' => e = .returned (.tuple #[.int .i64 (PN.tellN (s.wh k)), .bool (PN.tellB (s.wh k))]) ∧ W = w') := fun W => tell_any _ W (.inr (OS.out k))
        have hcell : wr.cell? ⟨w1.heap.size, k, none⟩ = some (.int .i64 0) := by
          rw [hown.cellAt k (by omega)]; exact M4.iv_get _ _ _ (M4.mix_get _ k (by omega))
        have hfz := hown.frozenAt k
        have hst := hown.stored k (.int .i64 (PN.tS (s.wh k)))
        have hgd : (PN.whL s.wh).getD k 0 = PN.tS (s.wh k) := by rw [List.getD_eq_getElem?_getD, PN.whL_get _ hl]; rfl
        rw [M4.iv_set, ← hgd, M4.mix_set _ k (by omega), hgd] at hst
        have R1 : Hid _ := hst.1
        have R2 := hb.grown hst.2 hb.size (fun j hj => by simp at hj; omega)
        have hlt := (hown.lt w1.heap.size rfl).2
        have T1 : Hid _ := @PN.tellF_tS (s.wh k)
        have T2 : Hid _ := @PN.untoldF_tS (s.wh k)
        clear hst hown hgd FJ
        generalize s.wh k = m at *
        go_wp2_with fail
        refine (TL.out _).mono ?_
        rintro e w' ⟨rfl, rfl⟩
        clear TL IX
        generalize PN.tellN m = N at *
        cases hB : PN.tellB m with
        | true =>
          have e1 := T1.out hB
          rw [e1] at R1 R2
          clear T1 T2 hB e1
          go_wp2
          go_roundw
          case rel => exact ⟨k + 1, by go_num, by omega, R1.out, R2⟩
          case measure => simp [intOf]; omega
        | false =>
          have e1 := T2.out hB
          rw [e1] at R1 R2
          clear T1 T2 hB e1
          go_wp2
          go_roundw
          case rel => exact ⟨k + 1, by go_num, by omega, R1.out, R2⟩
          case measure => simp [intOf]; omega
      · obtain rfl : k = 8 := by omega
        have h8 : M4.mix (PN.whL s.wh) 8 = PN.whL s.wh := by rw [← hlen]; exact M4.mix_all _
        rw [h8] at hown
        have HO : Hid _ := hown
        clear hown h8 hlen FJ
        go_wp2
        go_ret2
        exact ⟨some ⟨w1.heap.size, 0, none⟩, 8, by rw [hL.out, hF.out, PN.whL_len]; rfl, by rw [hL.out, PN.whL_len]; exact CS6.own_base HO.out hb1.size, hb1.trans (hb.mono hb1.size)⟩
end Go.Proofs.Ytjplabldiheggaa

/- Drawn: a plan, a bundle, members and a time: DrawDeliveredBy. -/
namespace Go.Proofs.Ytjplabldiheggaa
open Go.RowKit
theorem MEM.lit_only {w U : World} {p : Nat} {xs : List Int} {t : TypeId} (h : MC.Only p (w.alloc (.cells (M4.iv xs).toArray t)) U) (hp : p < w.heap.size) : M4.IntsAt U (some ⟨w.heap.size, 0, none⟩) xs := by
  rcases BX.new_ints w xs t with e | ⟨b, off, he, hlt, hc⟩
  · exact .inl e
  · cases he
    exact .inr ⟨_, 0, rfl, Nat.lt_of_lt_of_le hlt h.size, fun j hj => (h.cell (x := ⟨w.heap.size, 0 + j, none⟩) hlt (by simp; omega)).trans (hc j hj)⟩
theorem MEM.lit_drew {w U : World} {p : Nat} {xs : List Int} {t : TypeId} (h : MC.Only p (World.drew (w.alloc (.cells (M4.iv xs).toArray t))) U) (hp : p < w.heap.size) : M4.IntsAt U (some ⟨w.heap.size, 0, none⟩) xs := by
  rcases BX.new_ints w xs t with e | ⟨b, off, he, hlt, hc⟩
  · exact .inl e
  · cases he
    exact .inr ⟨_, 0, rfl, Nat.lt_of_lt_of_le hlt h.size, fun j hj => (h.cell (x := ⟨w.heap.size, 0 + j, none⟩) hlt (by simp; omega)).trans (hc j hj)⟩
set_option linter.unusedSimpArgs false in
set_option maxHeartbeats 6400000 in
set_option maxRecDepth 100000 in
theorem dDeliveredBy_any (a : Option Addr) (zs : List Int) (cap : Nat) (w : World) (hz : zs.length ≤ 140737488355328) (hb : MC.BytesAt w w.heap.size a zs) :
    Calls Try.prog 12 #[.slice a zs.length cap] w fun e w' => ∃ (a1 : Option Addr) (c1 : Nat) (xs : List I5) (b : Bd) (am0 : Option Addr) (cm0 : Nat) (ms0 : List Int) (n : Int), e = .returned (.tuple #[.slice a1 xs.length c1, b.v, .slice am0 ms0.length cm0, .int .i64 n]) ∧ xs.length ≤ 21 ∧ b.py.size ≤ 61 ∧ MI5.RowAt w' a1 xs ∧ ms0.length ≤ 7 ∧ M4.IntsAt w' am0 ms0 ∧  Below w.heap.size w w' := by
  have hbr := BX.Box.new w 25 B1.zero w.heap.size rfl
  have hW0 : Below w.heap.size w (w.alloc (.cells (BX.cs B1.zero).toArray 25)) := (Below.refl _ w).alloc (Nat.le_refl _) _
  have hb0 := PLD.bytes_up (.cells (BX.cs B1.zero).toArray 25) hb
  have hs0 : (w.alloc (.cells (BX.cs B1.zero).toArray 25)).heap.size = w.heap.size + 1 := by simp
  simp only [BX.cs, Bd.cs, B1.zero] at hbr hW0 hb0 hs0
  clear hb
  go_enter Try.func12, Try.ntmps12
  go_wp2_with fail
  generalize w.alloc (.cells #[.int .i64 0, .int .i64 0, .bool false, .int .i64 0, .int .i64 0, .int .i64 0, .int .i64 0, .int .i64 0, .int .i64 0, .string ⟨#[]⟩] 25) = W0 at *
  change BX.Box W0 w.heap.size 25 B1.zero at hbr
  obtain ⟨p, hp⟩ : ∃ p, W0.heap.size = p := ⟨_, rfl⟩
  rw [← hs0, hp]
  have hlt : w.heap.size < p := by omega
  have hcur := cur_new (T := 49) (cap := cap) hb0
  have hcs : (W0.alloc (.cells #[.slice a zs.length cap, .int .i64 0, .int .u64 0] 49)).heap.size = p + 1 := by simp [hp]
  have hnb : Hid (∀ W, MC.Only p (W0.alloc (.cells #[.slice a zs.length cap, .int .i64 0, .int .u64 0] 49)) W → Below W0.heap.size W0 W) := fun W h => new_below hp.symm h
  rw [hp] at hcur hs0
  clear hs0
  replace hbr := hbr.alloc (.cells #[.slice a zs.length cap, .int .i64 0, .int .u64 0] 49)
  refine (planned_any p a zs cap 0 _ hz (by omega) hcur).mono ?_
  rintro e w1 ⟨a1, c1, xs, b, rfl, hxl, hpy, how, hc1, ho1⟩
  clear hcur
  rw [hcs] at how
  have hB1 := hW0.trans ((hnb.out _ ho1).mono hW0.size)
  replace hbr := hbr.only ho1 (by omega)
  obtain ⟨r, hr⟩ : ∃ r, w.heap.size = r := ⟨_, rfl⟩
  have hsw := hB1.size
  have hpl := hc1.lt
  rw [hr] at hbr hlt hB1 hsw
  have hrp : r ≠ p := by omega
  clear hb0 hW0 hnb ho1 hcs
  obtain ⟨x0, x1, x2, x3, x4, x5, x6, x7, x8, x9⟩ := b
  have hbq := BX.Box.new w1 25 ⟨x0, x1, x2, x3, x4, x5, x6, x7, x8, x9⟩ w1.heap.size rfl
  have hc := hc1.alloc (.cells #[.int .i64 x0, .int .i64 x1, .bool x2, .int .i64 x3, .int .i64 x4, .int .i64 x5, .int .i64 x6, .int .i64 x7, .int .i64 x8, .string x9] 25)
  replace hbr := hbr.alloc (.cells #[.int .i64 x0, .int .i64 x1, .bool x2, .int .i64 x3, .int .i64 x4, .int .i64 x5, .int .i64 x6, .int .i64 x7, .int .i64 x8, .string x9] 25)
  replace how := World.ownsRow.alloc how (.cells #[.int .i64 x0, .int .i64 x1, .bool x2, .int .i64 x3, .int .i64 x4, .int .i64 x5, .int .i64 x6, .int .i64 x7, .int .i64 x8, .string x9] 25)
  replace hB1 := hB1.alloc hsw (.cells #[.int .i64 x0, .int .i64 x1, .bool x2, .int .i64 x3, .int .i64 x4, .int .i64 x5, .int .i64 x6, .int .i64 x7, .int .i64 x8, .string x9] 25)
  simp only [BX.cs, Bd.cs] at hbq
  clear hc1
  rw [hr]
  go_upto_region 3 with fail
  generalize w1.alloc (.cells #[.int .i64 x0, .int .i64 x1, .bool x2, .int .i64 x3, .int .i64 x4, .int .i64 x5, .int .i64 x6, .int .i64 x7, .int .i64 x8, .string x9] 25) = w2 at *
  obtain ⟨q, hq⟩ : ∃ q, w1.heap.size = q := ⟨_, rfl⟩
  rw [hq] at hbq hpl hsw ⊢
  have hqp : q ≠ p := by omega
  have hpq : p < q := by omega
  have hrq : r ≠ q := by omega
  have hqr : q ≠ r := by omega
  clear hq
  have HC0 : Hid _ := hc.below (Below.refl _ w2).drew
  have HQ0 : Hid (BX.Box _ _ _ _) := hbq.below (Below.refl _ w2).drew hbq.lt
  have HR0 : Hid (BX.Box _ _ _ _) := hbr.below (Below.refl _ w2).drew hbr.lt
  have HW0 : Hid _ := M5.own_below how (Below.refl _ w2).drew
  have HB0 : Hid (Below r w (World.drew w2)) := hB1.trans ((Below.refl _ w2).drew)
  have k0 := hbq.cells 0
  have k1 := hbq.cells 1
  have k2 := hbq.cells 2
  have k3 := hbq.cells 3
  have k4 := hbq.cells 4
  have k5 := hbq.cells 5
  have k6 := hbq.cells 6
  have k7 := hbq.cells 7
  have k8 := hbq.cells 8
  have k9 := hbq.cells 9
  simp [Bd.cs] at k0 k1 k2 k3 k4 k5 k6 k7 k8 k9
  have hp0 : r < (World.drew w2).heap.size := HR0.out.lt
  have HMP : Hid (p < w2.heap.size) := Nat.lt_trans hpq hbq.lt
  have HC0b : Hid _ := (hc.alloc (.cells #[.int .i64 (-1), .int .i64 0, .int .i64 20, .int .i64 40, .int .i64 80, .int .i64 2000, .int .i64 2001] 3)).below (Below.refl _ (w2.alloc (.cells #[.int .i64 (-1), .int .i64 0, .int .i64 20, .int .i64 40, .int .i64 80, .int .i64 2000, .int .i64 2001] 3))).drew
  have HQ0b : Hid (BX.Box _ _ _ _) := (hbq.alloc (.cells #[.int .i64 (-1), .int .i64 0, .int .i64 20, .int .i64 40, .int .i64 80, .int .i64 2000, .int .i64 2001] 3)).below (Below.refl _ (w2.alloc (.cells #[.int .i64 (-1), .int .i64 0, .int .i64 20, .int .i64 40, .int .i64 80, .int .i64 2000, .int .i64 2001] 3))).drew (hbq.alloc (.cells #[.int .i64 (-1), .int .i64 0, .int .i64 20, .int .i64 40, .int .i64 80, .int .i64 2000, .int .i64 2001] 3)).lt
  have HR0b : Hid (BX.Box _ _ _ _) := (hbr.alloc (.cells #[.int .i64 (-1), .int .i64 0, .int .i64 20, .int .i64 40, .int .i64 80, .int .i64 2000, .int .i64 2001] 3)).below (Below.refl _ (w2.alloc (.cells #[.int .i64 (-1), .int .i64 0, .int .i64 20, .int .i64 40, .int .i64 80, .int .i64 2000, .int .i64 2001] 3))).drew (hbr.alloc (.cells #[.int .i64 (-1), .int .i64 0, .int .i64 20, .int .i64 40, .int .i64 80, .int .i64 2000, .int .i64 2001] 3)).lt
  have HW0b : Hid _ := M5.own_below (World.ownsRow.alloc how (.cells #[.int .i64 (-1), .int .i64 0, .int .i64 20, .int .i64 40, .int .i64 80, .int .i64 2000, .int .i64 2001] 3)) (Below.refl _ (w2.alloc (.cells #[.int .i64 (-1), .int .i64 0, .int .i64 20, .int .i64 40, .int .i64 80, .int .i64 2000, .int .i64 2001] 3))).drew
  have HB0b : Hid (Below r w (World.drew (w2.alloc (.cells #[.int .i64 (-1), .int .i64 0, .int .i64 20, .int .i64 40, .int .i64 80, .int .i64 2000, .int .i64 2001] 3)))) := (hB1.alloc (Nat.le_of_lt hbr.lt) (.cells #[.int .i64 (-1), .int .i64 0, .int .i64 20, .int .i64 40, .int .i64 80, .int .i64 2000, .int .i64 2001] 3)).trans ((Below.refl _ (w2.alloc (.cells #[.int .i64 (-1), .int .i64 0, .int .i64 20, .int .i64 40, .int .i64 80, .int .i64 2000, .int .i64 2001] 3))).drew)
  clear hbq hbr how hc hB1
  go_wp2
  go_region_held3 (fun w' => w'.cell? ⟨q, 0, none⟩ = some (.int .i64 x0) ∧ w'.cell? ⟨q, 1, none⟩ = some (.int .i64 x1) ∧ w'.cell? ⟨q, 2, none⟩ = some (.bool x2) ∧ w'.cell? ⟨q, 3, none⟩ = some (.int .i64 x3) ∧ w'.cell? ⟨q, 4, none⟩ = some (.int .i64 x4) ∧ w'.cell? ⟨q, 5, none⟩ = some (.int .i64 x5) ∧ w'.cell? ⟨q, 6, none⟩ = some (.int .i64 x6) ∧ w'.cell? ⟨q, 7, none⟩ = some (.int .i64 x7) ∧ w'.cell? ⟨q, 8, none⟩ = some (.int .i64 x8) ∧ w'.cell? ⟨q, 9, none⟩ = some (.string x9)) (first | go_keep | assumption) (first | (go_at_call 19; (with_reducible refine Calls.mono (members_any p a zs cap (0 + 420) _ hz (by omega) HC0.out) ?_); rintro e U1 ⟨am0, cm0, ms0, rfl, hml0, hmo0, hc, ho⟩; have HC1 : Hid _ := hc; have HQ1 : Hid (BX.Box _ _ _ _) := HQ0.out.only ho hqp; have HR1 : Hid (BX.Box _ _ _ _) := HR0.out.only ho hrp; have HW1 : Hid _ := RA.own_only HW0.out ho (fun e => by have := (World.ownsRow.lt HW0.out _ e).1; omega); have HB1 : Hid (Below r w U1) := HB0.out.trans (ho.below (by omega) (Nat.le_of_lt HR0.out.lt)); have HM0 : Hid (World.ownsRow U1 ((World.drew w2).heap.size) 3 1 (.slice am0 ms0.length cm0) ms0.length (M4.iv ms0)) := hmo0; have HMB : Hid (∀ j, (Value.slice am0 ms0.length cm0).ownBlock = some j → j ≠ p ∧ j ≠ r) := (fun j e => by have h1 := (World.ownsRow.lt hmo0 j e).1; have h2 := HR0.out.lt; have h22 := HQ0.out.lt; exact ⟨fun h3 => by omega, fun h3 => by omega⟩); have hQ := HQ1.out; have k0 := hQ.cells 0; have k1 := hQ.cells 1; have k2 := hQ.cells 2; have k3 := hQ.cells 3; have k4 := hQ.cells 4; have k5 := hQ.cells 5; have k6 := hQ.cells 6; have k7 := hQ.cells 7; have k8 := hQ.cells 8; have k9 := hQ.cells 9; simp [Bd.cs] at k0 k1 k2 k3 k4 k5 k6 k7 k8 k9; have hR := HR1.out; have m0_ := hR.cells 0; have g0 := hR.free 0; have m1_ := hR.cells 1; have g1 := hR.free 1; have m2_ := hR.cells 2; have g2 := hR.free 2; have m3_ := hR.cells 3; have g3 := hR.free 3; have m4_ := hR.cells 4; have g4 := hR.free 4; have m5_ := hR.cells 5; have g5 := hR.free 5; have m6_ := hR.cells 6; have g6 := hR.free 6; have m7_ := hR.cells 7; have g7 := hR.free 7; have m8_ := hR.cells 8; have g8 := hR.free 8; have m9_ := hR.cells 9; have g9 := hR.free 9; simp [Bd.cs, B1.zero] at m0_ m1_ m2_ m3_ m4_ m5_ m6_ m7_ m8_ m9_; have hql := hQ.lt; have hrl := hR.lt; clear hQ hR hc ho HC0 HQ0 HR0 HW0 HB0 HC0b HQ0b HR0b HW0b HB0b hmo0) | (go_at_call 19; (with_reducible refine Calls.mono (members_any p a zs cap (0 + 420) _ hz (by omega) HC0b.out) ?_); rintro e U1 ⟨am0, cm0, ms0, rfl, hml0, hmo0, hc, ho⟩; have HC1 : Hid _ := hc; have HQ1 : Hid (BX.Box _ _ _ _) := HQ0b.out.only ho hqp; have HR1 : Hid (BX.Box _ _ _ _) := HR0b.out.only ho hrp; have HW1 : Hid _ := RA.own_only HW0b.out ho (fun e => by have := (World.ownsRow.lt HW0b.out _ e).1; omega); have HB1 : Hid (Below r w U1) := HB0b.out.trans (ho.below (by omega) (Nat.le_of_lt HR0b.out.lt)); have HM0 : Hid (World.ownsRow U1 ((World.drew (w2.alloc (.cells #[.int .i64 (-1), .int .i64 0, .int .i64 20, .int .i64 40, .int .i64 80, .int .i64 2000, .int .i64 2001] 3))).heap.size) 3 1 (.slice am0 ms0.length cm0) ms0.length (M4.iv ms0)) := hmo0; have HMB : Hid (∀ j, (Value.slice am0 ms0.length cm0).ownBlock = some j → j ≠ p ∧ j ≠ r) := (fun j e => by have h1 := (World.ownsRow.lt hmo0 j e).1; have h2 := HR0b.out.lt; have h22 := HQ0b.out.lt; exact ⟨fun h3 => by omega, fun h3 => by omega⟩); have HLI : Hid (M4.IntsAt U1 (some ⟨w2.heap.size, 0, none⟩) [-1, 0, 20, 40, 80, 2000, 2001]) := MEM.lit_drew (xs := [-1, 0, 20, 40, 80, 2000, 2001]) (t := 3) ho HMP.out; have hQ := HQ1.out; have k0 := hQ.cells 0; have k1 := hQ.cells 1; have k2 := hQ.cells 2; have k3 := hQ.cells 3; have k4 := hQ.cells 4; have k5 := hQ.cells 5; have k6 := hQ.cells 6; have k7 := hQ.cells 7; have k8 := hQ.cells 8; have k9 := hQ.cells 9; simp [Bd.cs] at k0 k1 k2 k3 k4 k5 k6 k7 k8 k9; have hR := HR1.out; have m0_ := hR.cells 0; have g0 := hR.free 0; have m1_ := hR.cells 1; have g1 := hR.free 1; have m2_ := hR.cells 2; have g2 := hR.free 2; have m3_ := hR.cells 3; have g3 := hR.free 3; have m4_ := hR.cells 4; have g4 := hR.free 4; have m5_ := hR.cells 5; have g5 := hR.free 5; have m6_ := hR.cells 6; have g6 := hR.free 6; have m7_ := hR.cells 7; have g7 := hR.free 7; have m8_ := hR.cells 8; have g8 := hR.free 8; have m9_ := hR.cells 9; have g9 := hR.free 9; simp [Bd.cs, B1.zero] at m0_ m1_ m2_ m3_ m4_ m5_ m6_ m7_ m8_ m9_; have hql := hQ.lt; have hrl := hR.lt; clear hQ hR hc ho HC0 HQ0 HR0 HW0 HB0 HC0b HQ0b HR0b HW0b HB0b hmo0) | (go_at_call 38; have hLI := HLI.out; have hCA := among_any p a zs cap (0 + 420 + 16) (some ⟨w2.heap.size, 0, none⟩) [-1, 0, 20, 40, 80, 2000, 2001] 7 _ hz (by omega) HC1.out (by simp) (by simp) hLI (fun b off e => by have h1 := HMP.out; cases e; omega); simp only [List.length_cons, List.length_nil, Nat.zero_add, Nat.reduceAdd] at hCA; (with_reducible refine Calls.mono hCA ?_); clear hCA; rintro e U2 ⟨n, rfl, -, hc, ho⟩; have HQ2 : Hid (BX.Box _ _ _ _) := HQ1.out.only ho hqp; have HR2 : Hid (BX.Box _ _ _ _) := HR1.out.only ho hrp; have HW2 : Hid _ := RA.own_only HW1.out ho (fun e => by have := (World.ownsRow.lt HW1.out _ e).1; omega); have HB2 : Hid (Below r w U2) := HB1.out.trans (ho.below (by omega) (Nat.le_of_lt HR1.out.lt)); have HM2 : Hid _ := RA.own_only HM0.out ho (fun e => (HMB.out _ e).1 rfl); have hQ := HQ2.out; have k0 := hQ.cells 0; have k1 := hQ.cells 1; have k2 := hQ.cells 2; have k3 := hQ.cells 3; have k4 := hQ.cells 4; have k5 := hQ.cells 5; have k6 := hQ.cells 6; have k7 := hQ.cells 7; have k8 := hQ.cells 8; have k9 := hQ.cells 9; simp [Bd.cs] at k0 k1 k2 k3 k4 k5 k6 k7 k8 k9; have hR := HR2.out; have m0_ := hR.cells 0; have g0 := hR.free 0; have m1_ := hR.cells 1; have g1 := hR.free 1; have m2_ := hR.cells 2; have g2 := hR.free 2; have m3_ := hR.cells 3; have g3 := hR.free 3; have m4_ := hR.cells 4; have g4 := hR.free 4; have m5_ := hR.cells 5; have g5 := hR.free 5; have m6_ := hR.cells 6; have g6 := hR.free 6; have m7_ := hR.cells 7; have g7 := hR.free 7; have m8_ := hR.cells 8; have g8 := hR.free 8; have m9_ := hR.cells 9; have g9 := hR.free 9; simp [Bd.cs, B1.zero] at m0_ m1_ m2_ m3_ m4_ m5_ m6_ m7_ m8_ m9_; have hql := hQ.lt; have hrl := hR.lt; clear hQ hR hLI hc ho HC1 HQ1 HR1 HW1 HB1 HM0) | (go_at_call 38; have hLI : M4.IntsAt (U1.alloc (.cells #[.int .i64 (-1), .int .i64 0, .int .i64 20, .int .i64 40, .int .i64 80, .int .i64 2000, .int .i64 2001] 3)) (some ⟨U1.heap.size, 0, none⟩) [-1, 0, 20, 40, 80, 2000, 2001] := BX.new_ints U1 [-1, 0, 20, 40, 80, 2000, 2001] 3; have hCA := among_any p a zs cap (0 + 420 + 16) (some ⟨U1.heap.size, 0, none⟩) [-1, 0, 20, 40, 80, 2000, 2001] 7 _ hz (by omega) (HC1.out.alloc (.cells #[.int .i64 (-1), .int .i64 0, .int .i64 20, .int .i64 40, .int .i64 80, .int .i64 2000, .int .i64 2001] 3)) (by simp) (by simp) hLI (fun b off e => by have h1 := HMP.out; cases e; omega); simp only [List.length_cons, List.length_nil, Nat.zero_add, Nat.reduceAdd] at hCA; (with_reducible refine Calls.mono hCA ?_); clear hCA; rintro e U2 ⟨n, rfl, -, hc, ho⟩; have HQ2 : Hid (BX.Box _ _ _ _) := (HQ1.out.alloc (.cells #[.int .i64 (-1), .int .i64 0, .int .i64 20, .int .i64 40, .int .i64 80, .int .i64 2000, .int .i64 2001] 3)).only ho hqp; have HR2 : Hid (BX.Box _ _ _ _) := (HR1.out.alloc (.cells #[.int .i64 (-1), .int .i64 0, .int .i64 20, .int .i64 40, .int .i64 80, .int .i64 2000, .int .i64 2001] 3)).only ho hrp; have HW2 : Hid _ := RA.own_only (World.ownsRow.alloc HW1.out (.cells #[.int .i64 (-1), .int .i64 0, .int .i64 20, .int .i64 40, .int .i64 80, .int .i64 2000, .int .i64 2001] 3)) ho (fun e => by have := (World.ownsRow.lt HW1.out _ e).1; omega); have HB2 : Hid (Below r w U2) := (HB1.out.alloc (Nat.le_of_lt HR1.out.lt) (.cells #[.int .i64 (-1), .int .i64 0, .int .i64 20, .int .i64 40, .int .i64 80, .int .i64 2000, .int .i64 2001] 3)).trans (ho.below (by omega) (Nat.le_trans (Nat.le_of_lt HR1.out.lt) (by simp))); have HM2 : Hid _ := RA.own_only (World.ownsRow.alloc HM0.out (.cells #[.int .i64 (-1), .int .i64 0, .int .i64 20, .int .i64 40, .int .i64 80, .int .i64 2000, .int .i64 2001] 3)) ho (fun e => (HMB.out _ e).1 rfl); have hQ := HQ2.out; have k0 := hQ.cells 0; have k1 := hQ.cells 1; have k2 := hQ.cells 2; have k3 := hQ.cells 3; have k4 := hQ.cells 4; have k5 := hQ.cells 5; have k6 := hQ.cells 6; have k7 := hQ.cells 7; have k8 := hQ.cells 8; have k9 := hQ.cells 9; simp [Bd.cs] at k0 k1 k2 k3 k4 k5 k6 k7 k8 k9; have hR := HR2.out; have m0_ := hR.cells 0; have g0 := hR.free 0; have m1_ := hR.cells 1; have g1 := hR.free 1; have m2_ := hR.cells 2; have g2 := hR.free 2; have m3_ := hR.cells 3; have g3 := hR.free 3; have m4_ := hR.cells 4; have g4 := hR.free 4; have m5_ := hR.cells 5; have g5 := hR.free 5; have m6_ := hR.cells 6; have g6 := hR.free 6; have m7_ := hR.cells 7; have g7 := hR.free 7; have m8_ := hR.cells 8; have g8 := hR.free 8; have m9_ := hR.cells 9; have g9 := hR.free 9; simp [Bd.cs, B1.zero] at m0_ m1_ m2_ m3_ m4_ m5_ m6_ m7_ m8_ m9_; have hql := hQ.lt; have hrl := hR.lt; clear hQ hR hLI hc ho HC1 HQ1 HR1 HW1 HB1 HM0))
  all_goals
    have hP := HR2.out.put ⟨x0, x1, x2, x3, x4, x5, x6, x7, x8, x9⟩
    have z0 := hP.cells 0
    have z1 := hP.cells 1
    have z2 := hP.cells 2
    have z3 := hP.cells 3
    have z4 := hP.cells 4
    have z5 := hP.cells 5
    have z6 := hP.cells 6
    have z7 := hP.cells 7
    have z8 := hP.cells 8
    have z9 := hP.cells 9
    simp [Bd.cs] at z0 z1 z2 z3 z4 z5 z6 z7 z8 z9
    have hrow := RA.own_only HW2.out (((((((((((MC.Only.refl r U2).setCell 0 (.int .i64 x0)).setCell 1 (.int .i64 x1)).setCell 2 (.bool x2)).setCell 3 (.int .i64 x3)).setCell 4 (.int .i64 x4)).setCell 5 (.int .i64 x5)).setCell 6 (.int .i64 x6)).setCell 7 (.int .i64 x7)).setCell 8 (.int .i64 x8)).setCell 9 (.string x9)) (fun e => by have := (World.ownsRow.lt HW2.out _ e).1; omega)
    have hBE := ((((((((((HB2.out.setCell (p := ⟨r, 0, none⟩) (by simp) (.int .i64 x0)).setCell (p := ⟨r, 1, none⟩) (by simp) (.int .i64 x1)).setCell (p := ⟨r, 2, none⟩) (by simp) (.bool x2)).setCell (p := ⟨r, 3, none⟩) (by simp) (.int .i64 x3)).setCell (p := ⟨r, 4, none⟩) (by simp) (.int .i64 x4)).setCell (p := ⟨r, 5, none⟩) (by simp) (.int .i64 x5)).setCell (p := ⟨r, 6, none⟩) (by simp) (.int .i64 x6)).setCell (p := ⟨r, 7, none⟩) (by simp) (.int .i64 x7)).setCell (p := ⟨r, 8, none⟩) (by simp) (.int .i64 x8)).setCell (p := ⟨r, 9, none⟩) (by simp) (.string x9))
    have hM0 := M5.own_ints (RA.own_only HM2.out (((((((((((MC.Only.refl r U2).setCell 0 (.int .i64 x0)).setCell 1 (.int .i64 x1)).setCell 2 (.bool x2)).setCell 3 (.int .i64 x3)).setCell 4 (.int .i64 x4)).setCell 5 (.int .i64 x5)).setCell 6 (.int .i64 x6)).setCell 7 (.int .i64 x7)).setCell 8 (.int .i64 x8)).setCell 9 (.string x9)) (fun e => (HMB.out _ e).2 rfl))
    generalize ((((((((((((((((((((U2).setCell ⟨r, 0, none⟩ (.int .i64 x0))).setCell ⟨r, 1, none⟩ (.int .i64 x1))).setCell ⟨r, 2, none⟩ (.bool x2))).setCell ⟨r, 3, none⟩ (.int .i64 x3))).setCell ⟨r, 4, none⟩ (.int .i64 x4))).setCell ⟨r, 5, none⟩ (.int .i64 x5))).setCell ⟨r, 6, none⟩ (.int .i64 x6))).setCell ⟨r, 7, none⟩ (.int .i64 x7))).setCell ⟨r, 8, none⟩ (.int .i64 x8))).setCell ⟨r, 9, none⟩ (.string x9)) = WE at *
    obtain ⟨aa, cc, he, hRA⟩ := PLD.own_row5 hrow
    cases he
    go_wp2
    exact bodyPost_ret (v := .tuple #[.slice a1 (List.length xs) c1, .agg #[.int .i64 x0, .int .i64 x1, .bool x2, .int .i64 x3, .int .i64 x4, .int .i64 x5, .int .i64 x6, .int .i64 x7, .int .i64 x8, .string x9], .slice am0 (List.length ms0) cm0, .int .i64 n]) (by simp [results, Try.results12, go_sem, z0, z1, z2, z3, z4, z5, z6, z7, z8, z9]) rfl ⟨a1, c1, xs, ⟨x0, x1, x2, x3, x4, x5, x6, x7, x8, x9⟩, am0, cm0, ms0, n, rfl, hxl, hpy, hRA, hml0, hM0, hr ▸ hBE⟩
end Go.Proofs.Ytjplabldiheggaa

/- What FnReached asks of who is reached: plain facts. -/
namespace Go.Proofs.Ytjplabldiheggaa
open Go.RowKit
namespace RQ
open PN
/-- A member that is told is there at the earliest time. -/
theorem there_ear {xs : List I5} {b : Bd} {m : Int} (h : there xs b m = true) (hs : stOk xs b.fr b.md = true) : ∃ k : Nat, m = (k : Int) ∧ k < 8 ∧ tellN (routeM xs b.fr b.md m) = (earF xs b.fr b.md).getD k 0 := by
  unfold there at h
  have ha : askOk xs b.fr b.md m = true := by
    cases c : askOk xs b.fr b.md m with
    | true => rfl
    | false => rw [route_no c] at h; cases h
  obtain ⟨_, t0, t1⟩ := ask_is ha
  refine ⟨m.toNat, by omega, by omega, ?_⟩
  rw [route_yes ha] at h ⊢
  rw [earF_yes hs, List.getD_eq_getElem?_getD, whL_get _ (by omega)]
  exact (tellF_tS h).symm
theorem st_of {xs : List I5} {b : Bd} {ms : List Int} (h : reaOk xs b ms = true) : stOk xs b.fr b.md = true := by
  unfold reaOk at h
  rw [Bool.and_eq_true] at h
  have h1 := h.1
  unfold GP.fitsB at h1
  simp only [Bool.and_eq_true] at h1
  unfold stOk
  simp only [Bool.and_eq_true]
  exact ⟨⟨h1.1.1.1.1, h1.1.2⟩, h1.2⟩
/-- What is asked of one that is reached. -/
structure EachQ (xs : List I5) (b : Bd) (ms : List Int) (r : Int × Int × List Int) : Prop where
  nd : ∃ k : Nat, r.1 = (k : Int) ∧ k < 8 ∧ (earF xs b.fr b.md).getD k 0 = r.2.1
  late : r.2.1 ≤ b.md + b.lf
  hops : (r.2.2.length : Int) ≤ b.hp
  of : EG.hasB ms r.1 = true
  tree : ∀ j, j < r.2.2.length → EG.hasB (treL xs b ms) (r.2.2.getD j 0) = true
structure WQ (xs : List I5) (b : Bd) (ms : List Int) : Prop where
  len : (earF xs b.fr b.md).length = 8
  st : stOk xs b.fr b.md = true
  sum : (0 ≤ b.md ∧ b.md ≤ 1000) ∧ (1 ≤ b.lf ∧ b.lf ≤ 1000000)
  up : (reaL xs b ms).Pairwise (fun p q => p.1 < q.1)
  each : ∀ r, r ∈ reaL xs b ms → EachQ xs b ms r
theorem wq_of {xs : List I5} {b : Bd} {ms : List Int} (h : reaOk xs b ms = true) : WQ xs b ms := by
  have hs := st_of h
  have h' := h
  unfold reaOk at h'
  rw [Bool.and_eq_true] at h'
  obtain ⟨_, _, _, _, h6, h7, _⟩ := GP.fits_is h'.1
  refine ⟨by rw [earF_yes hs, whL_len], hs, ⟨h6, h7⟩, ?_, fun r hr => ?_⟩
  · have hp := ((GP.rises_iff 8 ms).1 h'.2).2
    unfold reaL allL
    refine List.Pairwise.filter _ (List.Pairwise.filter _ ?_)
    rw [List.pairwise_map]
    exact List.Pairwise.filter _ hp
  · have hr0 := hr
    unfold reaL at hr
    obtain ⟨h1, h2⟩ := List.mem_filter.1 hr
    obtain ⟨h3, h4⟩ := List.mem_filter.1 h1
    unfold allL at h3
    obtain ⟨m, h5, rfl⟩ := List.mem_map.1 h3
    obtain ⟨hm, ht⟩ := List.mem_filter.1 h5
    obtain ⟨k, e1, e2, e3⟩ := there_ear ht hs
    refine ⟨⟨k, e1, e2, e3.symm⟩, of_decide_eq_true h4, of_decide_eq_true h2, by unfold EG.hasB; exact decide_eq_true hm, fun j hj => ?_⟩
    have hmem : (one xs b m).2.2.getD j 0 ∈ (one xs b m).2.2 := by rw [GP.getD_at hj]; exact List.getElem_mem hj
    generalize (one xs b m).2.2.getD j 0 = z at *
    obtain ⟨z0, z1⟩ := rea_in _ hr0 z hmem
    unfold EG.hasB treL
    refine decide_eq_true ((TR.those_mem _ _ _).2 ⟨z.toNat, by omega, ?_, by omega⟩)
    unfold anyOf
    rw [List.any_eq_true]
    refine ⟨_, hr0, ?_⟩
    rw [show ((z.toNat : Nat) : Int) = z by omega]
    unfold EG.hasB
    exact decide_eq_true hmem
/-- What is asked of who is there by a time. -/
structure DQ (xs : List I5) (b : Bd) (ms : List Int) (n : Int) : Prop where
  len : (earF xs b.fr b.md).length = 8
  st : stOk xs b.fr b.md = true
  each : ∀ j, j < (delL xs b ms n).length → ∃ k : Nat, (delL xs b ms n).getD j 0 = (k : Int) ∧ k < 8 ∧ (earF xs b.fr b.md).getD k 0 ≤ n ∧ EG.hasB ms ((delL xs b ms n).getD j 0) = true
theorem dq_of {xs : List I5} {b : Bd} {ms : List Int} {n : Int} (h : delOk xs b ms n = true) : DQ xs b ms n := by
  unfold delOk at h
  rw [Bool.and_eq_true] at h
  have hq := wq_of h.1
  refine ⟨hq.len, hq.st, fun j hj => ?_⟩
  have hm : (delL xs b ms n).getD j 0 ∈ delL xs b ms n := by rw [GP.getD_at hj]; exact List.getElem_mem hj
  generalize (delL xs b ms n).getD j 0 = z at *
  unfold delL at hm
  obtain ⟨r, h1, rfl⟩ := List.mem_map.1 hm
  obtain ⟨h2, h3⟩ := List.mem_filter.1 h1
  have e := hq.each r h2
  obtain ⟨k, e1, e2, e3⟩ := e.nd
  exact ⟨k, e1, e2, by rw [e3]; exact of_decide_eq_true h3, e.of⟩
/-- What a round of the law asks. -/
structure Rd (ps : List Rq) (i : Nat) (T E ms : List Int) (md lf hp : Int) (ST : Bool) : Prop where
  st : ST = true
  len : E.length = 8
  md0 : 0 ≤ md ∧ md ≤ 1000
  lf0 : 1 ≤ lf ∧ lf ≤ 1000000
  nd : ∃ k : Nat, (at_ ps i).m = (k : Int) ∧ k < 8 ∧ E.getD k 0 = (at_ ps i).t
  late : (at_ ps i).t ≤ md + lf
  hops : ((at_ ps i).os.length : Int) ≤ hp
  of : EG.hasB ms (at_ ps i).m = true
  tree : ∀ j, j < (at_ ps i).os.length → EG.hasB T ((at_ ps i).os.getD j 0) = true
  up : 0 < i → (at_ ps (i - 1)).m < (at_ ps i).m
theorem rd_of {xs : List I5} {b : Bd} {ms : List Int} {ps : List Rq} (hs : ps.map Rq.said = reaA xs b ms) {i : Nat} (hi : i < ps.length) : Rd ps i (treA xs b ms) (earF xs b.fr b.md) ms b.md b.lf b.hp (stOk xs b.fr b.md) := by
  cases hk : reaOk xs b ms with
  | false =>
    rw [rea_no hk] at hs
    have := congrArg List.length hs
    simp at this
    rw [this] at hi
    simp at hi
  | true =>
    have q := wq_of hk
    rw [rea_yes hk] at hs
    have hm : (at_ ps i).said ∈ reaL xs b ms := by rw [← hs]; exact List.mem_map_of_mem (at_mem hi)
    have e := q.each _ hm
    refine ⟨q.st, q.len, q.sum.1, q.sum.2, ?_, e.late, e.hops, e.of, fun j hj => ?_, fun h0 => ?_⟩
    · obtain ⟨k, e1, e2, e3⟩ := e.nd
      exact ⟨k, e1, e2, e3⟩
    · rw [show treA xs b ms = treL xs b ms by unfold treA; rw [if_pos hk]]
      exact e.tree j hj
    · have hp := q.up
      rw [← hs, List.pairwise_map, List.pairwise_iff_getElem] at hp
      have := hp (i - 1) i (by omega) hi (by omega)
      rw [← at_eq (by omega : i - 1 < ps.length), ← at_eq hi] at this
      exact this
theorem said_at {ps qs : List Rq} (h : ps.map Rq.said = qs.map Rq.said) {i : Nat} (hi : i < ps.length) : ps.length = qs.length ∧ (at_ qs i).m = (at_ ps i).m ∧ (at_ qs i).t = (at_ ps i).t ∧ (at_ qs i).os = (at_ ps i).os := by
  have hl : ps.length = qs.length := by simpa using congrArg List.length h
  have e : (at_ ps i).said = (at_ qs i).said := by
    have h2 := congrArg (fun L => L[i]?) h
    simp only [List.getElem?_map] at h2
    rw [List.getElem?_eq_getElem hi, List.getElem?_eq_getElem (by omega), ← at_eq hi, ← at_eq (by omega)] at h2
    simpa using h2
  simp only [Rq.said, Prod.mk.injEq] at e
  exact ⟨hl, e.1.symm, e.2.1.symm, e.2.2.symm⟩
end RQ
end Go.Proofs.Ytjplabldiheggaa

/- The law FnReached answers true, whatever the bytes. -/
namespace Go.Proofs.Ytjplabldiheggaa
open Go.RowKit
namespace RQ
theorem IA.some {w : World} {a : Option Addr} {l : List Int} (h : M4.IntsAt w a l) {j : Nat} (hj : j < l.length) : ∃ b off, a = some ⟨b, off, none⟩ ∧ b < w.heap.size ∧ w.cell? ⟨b, off + j, none⟩ = some (.int .i64 (l.getD j 0)) := by
  rcases h with h | ⟨b, off, rfl, h1, h2⟩
  · rw [h] at hj; simp at hj
  · exact ⟨b, off, rfl, h1, h2 j hj⟩
end RQ
set_option linter.unusedSimpArgs false in
set_option maxHeartbeats 6400000 in
set_option maxRecDepth 100000 in
theorem lawFnReached_any (a a' : Option Addr) (zs ys : List Int) (ca cb : Nat) (w : World) (hz : zs.length ≤ 140737488355328) (hy : ys.length ≤ 140737488355328) (hbz : MC.BytesAt w w.heap.size a zs) (hby : MC.BytesAt w w.heap.size a' ys) :
    Calls Try.prog 3 #[.slice a zs.length ca, .slice a' ys.length cb] w fun e w' => e = .returned (.bool true) ∧ Below w.heap.size w w' := by
  by_cases h20 : zs.length + ys.length ≤ 1048576
  · have HBY : Hid (∀ W : World, Below w.heap.size w W → MC.BytesAt W W.heap.size a' ys) := fun W h => (hby.only (q := w.heap.size) (MC.Only.of_below h) (Nat.le_refl _) (Nat.le_refl _)).up h.size
    clear hby
    go_enter Try.func3, Try.ntmps3
    go_wp2_with fail
    refine (dReachAll_any a zs ca _ hz hbz).mono ?_
    rintro e W ⟨a1, c1, xs, b, am, cm, ms, rfl, hxl, hpy, hR, hml, hM, BW⟩
    clear hbz
    have P1 : Hid (∀ V : World, Below W.heap.size W V → Calls Try.prog 5 #[.slice a1 xs.length c1, b.v, .slice am ms.length cm] V fun e w' => ∃ a1 c1 ps, e = .returned (.tuple #[.slice a1 (List.length ps) c1, .bool (RQ.reaOk xs b ms)]) ∧ RQ.At w' a1 ps ∧ ps.map Rq.said = RQ.reaA xs b ms ∧ Below V.heap.size V w') := fun V h => (reachI_any a1 am c1 cm xs b ms V (by omega) (by omega) (by omega) (hR.below h) (M4.IntsAt.below hM h)).mono (by rintro e w' ⟨a1, c1, ps, rfl, ho, hs, hb⟩; exact ⟨a1, c1, ps, rfl, ho.at, hs, hb⟩)
    have P2 : Hid (∀ V : World, Below W.heap.size W V → Calls Try.prog 6 #[.slice a1 xs.length c1, b.v, .slice am ms.length cm] V fun e w' => ∃ a1 c1 ps, e = .returned (.tuple #[.slice a1 (List.length ps) c1, .bool (RQ.reaOk xs b ms)]) ∧ RQ.At w' a1 ps ∧ ps.map Rq.said = RQ.reaA xs b ms ∧ Below V.heap.size V w') := fun V h => (reachS_any a1 am c1 cm xs b ms V (by omega) (by omega) (by omega) (hR.below h) (M4.IntsAt.below hM h)).mono (by rintro e w' ⟨a1, c1, ps, rfl, ho, hs, hb⟩; exact ⟨a1, c1, ps, rfl, ho.at, hs, hb⟩)
    have P3 : Hid (∀ V : World, Below W.heap.size W V → Calls Try.prog 7 #[.slice a1 xs.length c1, b.v, .slice am ms.length cm] V fun e w' => ∃ a1 c1, e = .returned (.tuple #[.slice a1 (RQ.treA xs b ms).length c1, .bool (RQ.reaOk xs b ms)]) ∧ M4.IntsAt w' a1 (RQ.treA xs b ms) ∧ Below V.heap.size V w') := fun V h => (treI_any a1 am c1 cm xs b ms V (by omega) (by omega) (by omega) (hR.below h) (M4.IntsAt.below hM h)).mono (by rintro e w' ⟨a1, c1, rfl, ho, hb⟩; exact ⟨a1, c1, rfl, M5.own_ints ho, hb⟩)
    have P4 : Hid (∀ V : World, Below W.heap.size W V → Calls Try.prog 8 #[.slice a1 xs.length c1, b.v, .slice am ms.length cm] V fun e w' => ∃ a1 c1, e = .returned (.tuple #[.slice a1 (RQ.treA xs b ms).length c1, .bool (RQ.reaOk xs b ms)]) ∧ M4.IntsAt w' a1 (RQ.treA xs b ms) ∧ Below V.heap.size V w') := fun V h => (treS_any a1 am c1 cm xs b ms V (by omega) (by omega) (by omega) (hR.below h) (M4.IntsAt.below hM h)).mono (by rintro e w' ⟨a1, c1, rfl, ho, hb⟩; exact ⟨a1, c1, rfl, M5.own_ints ho, hb⟩)
    have P5 : Hid (∀ V : World, Below W.heap.size W V → Calls Try.prog 10 #[.slice a1 xs.length c1, .int .i64 b.fr, .int .i64 b.md] V fun e w' => ∃ a1 c1, e = .returned (.tuple #[.slice a1 (PN.earF xs b.fr b.md).length c1, .bool (PN.stOk xs b.fr b.md)]) ∧ M4.IntsAt w' a1 (PN.earF xs b.fr b.md) ∧ Below V.heap.size V w') := fun V h => (implEarF_any a1 c1 xs b.fr b.md V (by omega) (hR.below h)).mono (by rintro e w' ⟨a1, c1, rfl, ho, hb⟩; exact ⟨a1, c1, rfl, M5.own_ints ho, hb⟩)
    have HRd : Hid (∀ (ps : List Rq), ps.map Rq.said = RQ.reaA xs b ms → ∀ i, i < ps.length → RQ.Rd ps i (RQ.treA xs b ms) (PN.earF xs b.fr b.md) ms b.md b.lf b.hp (PN.stOk xs b.fr b.md)) := fun ps hs i hi => RQ.rd_of hs hi
    have HL8 : Hid (∀ (ps : List Rq), ps.map Rq.said = RQ.reaA xs b ms → ps.length ≤ 8 ∧ ∀ i, i < ps.length → (RQ.at_ ps i).os.length ≤ 1048576) := fun ps hs => by
      have h1 := RQ.reaA_len xs b ms
      rw [← hs, List.length_map] at h1
      refine ⟨h1, fun i hi => ?_⟩
      have h2 := RQ.reaA_row xs b ms (RQ.at_ ps i).said (by rw [← hs]; exact List.mem_map_of_mem (RQ.at_mem hi))
      exact h2
    have HTL : Hid ((RQ.treA xs b ms).length ≤ 1048576) := RQ.treA_len xs b ms
    have HMS : Hid (∀ V : World, Below W.heap.size W V → M4.IntsAt V am ms) := fun V h => M4.IntsAt.below hM h
    have BA := BdAt.box W b 25
    have BB := (Below.refl _ W).alloc (Nat.le_refl _) (.cells #[.int .i64 b.fr, .int .i64 b.to, .bool b.gr, .int .i64 b.md, .int .i64 b.no, .int .i64 b.lf, .int .i64 b.hp, .int .i64 b.of, .int .i64 b.tl, .string b.py] 25)
    have hWs := BW.size
    clear hR hM
    generalize RQ.reaOk xs b ms = OK at *
    generalize RQ.reaA xs b ms = L at *
    generalize RQ.treA xs b ms = TL at *
    generalize PN.earF xs b.fr b.md = EL at *
    generalize PN.stOk xs b.fr b.md = ST at *
    obtain ⟨fr, tq, gr, md, no, lf, hp, of, tl, py⟩ := b
    obtain ⟨g0, hg0⟩ : ∃ g, W.heap.size = g := ⟨_, rfl⟩
    clear hg0 g0
    obtain ⟨hlt, c0_, c1_, c2_, c3_, c4_, c5_, c6_, c7_, c8_, c9_⟩ := id BA
    go_wp2_with fail
    refine (P1.out _ BB).mono ?_
    rintro e W2 ⟨a2, c2, ps, rfl, hA2, hs2, hb⟩
    clear hlt c0_ c1_ c2_ c3_ c4_ c5_ c6_ c7_ c8_ c9_
    replace BA := BA.below hb BA.1
    replace BB := BB.trans (hb.mono BB.size)
    have HA2 : Hid (RQ.At W2 a2 ps) := hA2
    clear hA2
    clear hb P1
    obtain ⟨hlt, c0_, c1_, c2_, c3_, c4_, c5_, c6_, c7_, c8_, c9_⟩ := id BA
    go_wp2_with fail
    refine (P2.out _ BB).mono ?_
    rintro e W3 ⟨a3, c3, qs, rfl, hA3, hs3, hb⟩
    clear hlt c0_ c1_ c2_ c3_ c4_ c5_ c6_ c7_ c8_ c9_
    replace BA := BA.below hb BA.1
    replace BB := BB.trans (hb.mono BB.size)
    have HA3 : Hid (RQ.At W3 a3 qs) := hA3
    replace HA2 : Hid (RQ.At W3 a2 ps) := HA2.out.below hb
    clear hA3
    clear hb P2
    obtain ⟨hlt, c0_, c1_, c2_, c3_, c4_, c5_, c6_, c7_, c8_, c9_⟩ := id BA
    go_wp2_with fail
    refine (P3.out _ BB).mono ?_
    rintro e W4 ⟨a4, c4, rfl, hA4, hb⟩
    clear hlt c0_ c1_ c2_ c3_ c4_ c5_ c6_ c7_ c8_ c9_
    replace BA := BA.below hb BA.1
    replace BB := BB.trans (hb.mono BB.size)
    have HA4 : Hid (M4.IntsAt W4 a4 TL) := hA4
    replace HA2 : Hid (RQ.At W4 a2 ps) := HA2.out.below hb
    replace HA3 : Hid (RQ.At W4 a3 qs) := HA3.out.below hb
    clear hA4
    clear hb P3
    obtain ⟨hlt, c0_, c1_, c2_, c3_, c4_, c5_, c6_, c7_, c8_, c9_⟩ := id BA
    go_wp2_with fail
    refine (P4.out _ BB).mono ?_
    rintro e W5 ⟨a5, c5, rfl, hA5, hb⟩
    clear hlt c0_ c1_ c2_ c3_ c4_ c5_ c6_ c7_ c8_ c9_
    replace BA := BA.below hb BA.1
    replace BB := BB.trans (hb.mono BB.size)
    have HA5 : Hid (M4.IntsAt W5 a5 TL) := hA5
    replace HA2 : Hid (RQ.At W5 a2 ps) := HA2.out.below hb
    replace HA3 : Hid (RQ.At W5 a3 qs) := HA3.out.below hb
    replace HA4 : Hid (M4.IntsAt W5 a4 TL) := M4.IntsAt.below HA4.out hb
    clear hA5
    clear hb P4
    have HLN : Hid (ps.length = qs.length) := by
      have h := hs2.trans hs3.symm
      show _ = _
      simpa using congrArg List.length h
    have HSD : Hid (ps.map Rq.said = qs.map Rq.said) := hs2.trans hs3.symm
    have HR : Hid (∀ i, i < ps.length → RQ.Rd ps i TL EL ms md lf hp ST) := HRd.out ps hs2
    have HL : Hid (ps.length ≤ 8 ∧ ∀ i, i < ps.length → (RQ.at_ ps i).os.length ≤ 1048576) := HL8.out ps hs2
    have SI : Hid (Calls Try.prog 9 #[.slice a4 TL.length c4, .slice a5 TL.length c5] W5 fun e w' => e = .returned (.bool true) ∧ Below W5.heap.size W5 w') := by
      have h := sameInts_any a4 a5 c4 c5 TL TL W5 (Nat.le_trans HTL.out (by omega)) (Nat.le_trans HTL.out (by omega)) HA4.out HA5.out
      rwa [show decide (TL = TL) = true by simp] at h
    clear HRd HL8 hs2 hs3 HA5
    obtain ⟨n, hn⟩ : ∃ n, ps.length = n := ⟨_, rfl⟩
    have HN : Hid (ps.length = n) := hn
    have HQ : Hid (qs.length = n) := HLN.out.symm.trans hn
    rw [HQ.out, hn]
    have hn8 : n ≤ 8 := hn ▸ HL.out.1
    have hok : (OK != OK) = false := by simp
    have hnn : ((n : Int) != (n : Int)) = false := by simp
    clear hn HLN
    go_wp2_with fail
    refine Calls.mono SI.out ?_
    rintro e W6 ⟨rfl, hb⟩
    replace BA := BA.below hb BA.1
    replace BB := BB.trans (hb.mono BB.size)
    replace HA2 : Hid (RQ.At W6 a2 ps) := HA2.out.below hb
    replace HA3 : Hid (RQ.At W6 a3 qs) := HA3.out.below hb
    replace HA4 : Hid (M4.IntsAt W6 a4 TL) := M4.IntsAt.below HA4.out hb
    clear hb SI
    obtain ⟨hlt, c0_, c1_, c2_, c3_, c4_, c5_, c6_, c7_, c8_, c9_⟩ := id BA
    go_wp2_with fail
    refine (P5.out _ BB).mono ?_
    rintro e W7 ⟨a7, c7, rfl, hA7, hb⟩
    clear hlt c0_ c1_ c2_ c3_ c4_ c5_ c6_ c7_ c8_ c9_
    replace BA := BA.below hb BA.1
    replace BB := BB.trans (hb.mono BB.size)
    have HA7 : Hid (M4.IntsAt W7 a7 EL) := hA7
    replace HA2 : Hid (RQ.At W7 a2 ps) := HA2.out.below hb
    replace HA3 : Hid (RQ.At W7 a3 qs) := HA3.out.below hb
    replace HA4 : Hid (M4.IntsAt W7 a4 TL) := M4.IntsAt.below HA4.out hb
    clear hA7
    clear hb P5
    have HM7 : Hid (M4.IntsAt W7 am ms) := HMS.out _ BB
    have hBV := BW.trans (BB.mono BW.size)
    have HBA : Hid (BdAt W7 W.heap.size ⟨fr, tq, gr, md, no, lf, hp, of, tl, py⟩) := BA
    have hg7 : W.heap.size < W7.heap.size := BA.1
    clear HMS BA hWs BW BB
    generalize W.heap.size = g0 at *
    obtain ⟨el, hel⟩ : ∃ e, EL.length = e := ⟨_, rfl⟩
    have HEL : Hid (EL.length = el) := hel
    rw [hel]
    clear hel
    go_wp2
    go_loopw [112] (fun iv wr => ∃ i : Nat, iv = .int .i64 i ∧ i ≤ n ∧ Below W7.heap.size W7 wr) (fun iv _ => (n - intOf iv).toNat)
    case atStart => exact ⟨0, rfl, by omega, Below.refl _ _⟩
    case round =>
      obtain ⟨i, rfl, hi, hbr⟩ := hrel
      by_cases hin : i < n
      · have kn : (i : Int) < (n : Int) := by omega
        have hR := HR.out i (by rw [HN.out]; exact hin)
        obtain ⟨-, e1, e2, e3⟩ := RQ.said_at HSD.out (by rw [HN.out]; exact hin : i < ps.length)
        obtain ⟨b1, o1, rfl, hl1, d0, d1, d2, -, hio⟩ := (HA2.out.below hbr).at (by rw [HN.out]; exact hin : i < ps.length)
        obtain ⟨b2, o2, rfl, hl2, f0, f1, f2, -, hiq⟩ := (HA3.out.below hbr).at (by rw [HQ.out]; exact hin : i < qs.length)
        rw [e1] at f0
        rw [e2] at f1
        rw [e3] at f2 hiq
        have hol := HL.out.2 i (by rw [HN.out]; exact hin)
        obtain ⟨k, hk1, hk8, hk2⟩ := hR.nd
        have hEl := hR.len
        have kel : (k : Int) < (el : Int) := by rw [← HEL.out, hEl]; omega
        have kk0 : (0 : Int) ≤ (k : Int) := by omega
        have hdl : decide (md + lf < (RQ.at_ ps i).t) = false := decide_eq_false (by have := hR.late; omega)
        have hwl : IntKind.i64.wrap (md + lf) = md + lf := by have := hR.md0; have := hR.lf0; rw [IntKind.wrap_i64]; omega
        have hdh : decide (hp < ((RQ.at_ ps i).os.length : Int)) = false := decide_eq_false (by have := hR.hops; omega)
        obtain ⟨b7, o7, rfl, hl7, hE⟩ := RQ.IA.some (M4.IntsAt.below HA7.out hbr) (j := k) (by rw [hEl]; exact hk8)
        obtain ⟨hgl, -, -, -, q3, -, q5, q6, -, -, -⟩ := HBA.out.below hbr hg7
        have hlate := hR.late
        have hhops := hR.hops
        have hmd := hR.md0
        have hlf := hR.lf0
        have hst := hR.st
        rw [hk2] at hE
        rw [hk1] at d0 f0
        have HV : Hid (∀ V : World, Below W7.heap.size W7 V → Calls Try.prog 11 #[.slice am ms.length cm, .int .i64 (k : Int)] V fun e w' => e = .returned (.bool true) ∧ V = w') := fun V h => by
          have h2 := hasL_any am cm ms (k : Int) V (by omega) (M4.IntsAt.below HM7.out h)
          have h3 := hR.of
          rw [hk1] at h3
          rwa [h3] at h2
        have hup := hR.up
        have HTr : Hid (∀ j, j < (RQ.at_ ps i).os.length → EG.hasB TL ((RQ.at_ ps i).os.getD j 0) = true) := hR.tree
        rw [hk1] at hup
        generalize (RQ.at_ ps i).t = tm at *
        generalize (RQ.at_ qs i).a = ao2 at *
        generalize (RQ.at_ qs i).c = co2 at *
        have SV : Hid (∀ V : World, Below wr.heap.size wr V → Calls Try.prog 9 #[.slice (RQ.at_ ps i).a (RQ.at_ ps i).os.length (RQ.at_ ps i).c, .slice ao2 (RQ.at_ ps i).os.length co2] V fun e w' => e = .returned (.bool true) ∧ Below V.heap.size V w') := fun V hV => by
          have h := sameInts_any (RQ.at_ ps i).a ao2 (RQ.at_ ps i).c co2 (RQ.at_ ps i).os (RQ.at_ ps i).os V (by omega) (by omega) (M4.IntsAt.below hio hV) (M4.IntsAt.below hiq hV)
          rwa [show decide ((RQ.at_ ps i).os = (RQ.at_ ps i).os) = true by simp] at h
        have HIO : Hid (M4.IntsAt wr (RQ.at_ ps i).a (RQ.at_ ps i).os) := hio
        have HPR : Hid (0 < i → ∃ z : Int, z < (k : Int) ∧ ∀ V : World, Below wr.heap.size wr V → V.cell? ⟨b1, o1 + (i - 1) * 3, none⟩ = some (.int .i64 z)) := fun h0 => by
          obtain ⟨b1', o1', h1, h2, h3, -⟩ := (HA2.out.below hbr).at (by rw [HN.out]; omega : i - 1 < ps.length)
          simp only [Option.some.injEq, Addr.mk.injEq, and_true] at h1
          obtain ⟨rfl, rfl⟩ := h1
          exact ⟨_, hup h0, fun V hV => (hV.cell (p := ⟨b1, _, none⟩) h2).trans h3⟩
        generalize (RQ.at_ ps i).os = os at *
        generalize (RQ.at_ ps i).a = ao at *
        generalize (RQ.at_ ps i).c = co at *
        obtain ⟨ol, hol2⟩ : ∃ ol, os.length = ol := ⟨_, rfl⟩
        have HOL : Hid (os.length = ol) := hol2
        rw [hol2] at d2 f2 SV HTr hol hhops hdh
        subst hst
        have hBG := hBV.trans (hbr.mono hBV.size)
        clear hR e1 e2 e3 hk1 hk2 hio hiq hol2 hup hEl
        have hBX := (Below.refl _ wr).alloc (Nat.le_refl _) (.cells #[.int .i64 (k : Int), .int .i64 tm, .slice ao ol co] 37)
        have x0 : _ = _ := RQ.new3 wr (.int .i64 (k : Int)) (.int .i64 tm) (.slice ao ol co) 37 wr.heap.size rfl 0 _ rfl
        have x1 : _ = _ := RQ.new3 wr (.int .i64 (k : Int)) (.int .i64 tm) (.slice ao ol co) 37 wr.heap.size rfl 1 _ rfl
        have x2 : _ = _ := RQ.new3 wr (.int .i64 (k : Int)) (.int .i64 tm) (.slice ao ol co) 37 wr.heap.size rfl 2 _ rfl
        have gx' : wr.heap.size < (wr.alloc (.cells #[.int .i64 (k : Int), .int .i64 tm, .slice ao ol co] 37)).heap.size := by simp
        go_wp2_with fail
        have lU1 := Nat.lt_of_lt_of_le hl1 hBX.size
        have lU2 := Nat.lt_of_lt_of_le hl2 hBX.size
        have lU7 := Nat.lt_of_lt_of_le hl7 hBX.size
        have lUg := Nat.lt_of_lt_of_le hgl hBX.size
        replace f0 := (hBX.cell (p := ⟨b2, _, none⟩) hl2).trans f0
        replace f1 := (hBX.cell (p := ⟨b2, _, none⟩) hl2).trans f1
        replace f2 := (hBX.cell (p := ⟨b2, _, none⟩) hl2).trans f2
        replace hE := (hBX.cell (p := ⟨b7, _, none⟩) hl7).trans hE
        replace q3 := (hBX.cell (p := ⟨g0, _, none⟩) hgl).trans q3
        replace q5 := (hBX.cell (p := ⟨g0, _, none⟩) hgl).trans q5
        replace q6 := (hBX.cell (p := ⟨g0, _, none⟩) hgl).trans q6
        replace HPR : Hid (0 < i → ∃ z : Int, z < (k : Int) ∧ (wr.alloc (.cells #[.int .i64 (k : Int), .int .i64 tm, .slice ao ol co] 37)).cell? ⟨b1, o1 + (i - 1) * 3, none⟩ = some (.int .i64 z)) := fun h0 => by
          obtain ⟨z, h1, h2⟩ := HPR.out h0
          exact ⟨z, h1, h2 _ hBX⟩
        have HBU := hBX
        clear d0 d1 d2 hl1 hl2 hl7 hgl hBX HA2 HA3 HA7 HBA HR
        generalize wr.alloc (.cells #[.int .i64 (k : Int), .int .i64 tm, .slice ao ol co] 37) = U at *
        have SU : Hid (∀ V : World, Below U.heap.size U V → Calls Try.prog 9 #[.slice ao ol co, .slice ao2 ol co2] V fun e w' => e = .returned (.bool true) ∧ Below V.heap.size V w') := fun V hV => SV.out V (HBU.trans (hV.mono HBU.size))
        have hkk : ((k : Int) != (k : Int)) = false := by simp
        have htt : (tm != tm) = false := by simp
        have HBN : Hid (Below W7.heap.size W7 U) := hbr.trans (HBU.mono hbr.size)
        replace HIO : Hid (M4.IntsAt U ao os) := M4.IntsAt.below HIO.out HBU
        clear SV HBU
        generalize wr.heap.size = gx at *
        have ki0 : (0 : Int) ≤ (i : Int) := by omega
        by_cases h0 : 0 < i
        · have hd0 : decide (0 < i) = true := by simp [h0]
          have hd0' : decide ((0 : Int) < (i : Int)) = true := by simp; omega
          obtain ⟨z, hz1, hpr⟩ := HPR.out h0
          have hdz : decide ((k : Int) ≤ z) = false := decide_eq_false (by omega)
          obtain ⟨j, hj⟩ : ∃ j, i - 1 = j := ⟨_, rfl⟩
          have hw1 : IntKind.i64.wrap ((i : Int) - 1) = (j : Int) := by rw [IntKind.wrap_i64]; omega
          have kj0 : (0 : Int) ≤ (j : Int) := by omega
          have kjn : (j : Int) < (n : Int) := by omega
          rw [hj] at hpr
          clear hj HPR hz1
          have SUS : Hid (∀ V : World, Below U.heap.size U V ∧ V.cell? ⟨gx, 0, none⟩ = some (.int .i64 (k : Int)) ∧ V.cell? ⟨gx, 1, none⟩ = some (.int .i64 tm) ∧ V.cell? ⟨gx, 2, none⟩ = some (.slice ao ol co) ∧ V.cell? ⟨b2, o2 + i * 3, none⟩ = some (.int .i64 (k : Int)) ∧ V.cell? ⟨b2, o2 + i * 3 + 1, none⟩ = some (.int .i64 tm) ∧ V.cell? ⟨b2, o2 + i * 3 + 2, none⟩ = some (.slice ao2 ol co2) ∧ V.cell? ⟨b1, o1 + j * 3, none⟩ = some (.int .i64 z) → Calls _ _ _ V fun e w' => e = .returned (.bool true) ∧ Below U.heap.size U w' ∧ w'.cell? ⟨gx, 0, none⟩ = some (.int .i64 (k : Int)) ∧ w'.cell? ⟨gx, 1, none⟩ = some (.int .i64 tm) ∧ w'.cell? ⟨gx, 2, none⟩ = some (.slice ao ol co) ∧ w'.cell? ⟨b2, o2 + i * 3, none⟩ = some (.int .i64 (k : Int)) ∧ w'.cell? ⟨b2, o2 + i * 3 + 1, none⟩ = some (.int .i64 tm) ∧ w'.cell? ⟨b2, o2 + i * 3 + 2, none⟩ = some (.slice ao2 ol co2) ∧ w'.cell? ⟨b1, o1 + j * 3, none⟩ = some (.int .i64 z)) := fun V h => by
            obtain ⟨hV, p0_, p1_, p2_, p3_, p4_, p5_, p6_⟩ := h
            refine (SU.out V hV).mono ?_
            rintro e w' ⟨rfl, hb⟩
            exact ⟨rfl, hV.trans (hb.mono hV.size), (hb.cell (p := ⟨gx, 0, none⟩) (Nat.lt_of_lt_of_le gx' hV.size)).trans p0_, (hb.cell (p := ⟨gx, 1, none⟩) (Nat.lt_of_lt_of_le gx' hV.size)).trans p1_, (hb.cell (p := ⟨gx, 2, none⟩) (Nat.lt_of_lt_of_le gx' hV.size)).trans p2_, (hb.cell (p := ⟨b2, o2 + i * 3, none⟩) (Nat.lt_of_lt_of_le lU2 hV.size)).trans p3_, (hb.cell (p := ⟨b2, o2 + i * 3 + 1, none⟩) (Nat.lt_of_lt_of_le lU2 hV.size)).trans p4_, (hb.cell (p := ⟨b2, o2 + i * 3 + 2, none⟩) (Nat.lt_of_lt_of_le lU2 hV.size)).trans p5_, (hb.cell (p := ⟨b1, o1 + j * 3, none⟩) (Nat.lt_of_lt_of_le lU1 hV.size)).trans p6_⟩
          have hSd : Below U.heap.size U U.drew ∧ U.drew.cell? ⟨gx, 0, none⟩ = some (.int .i64 (k : Int)) ∧ U.drew.cell? ⟨gx, 1, none⟩ = some (.int .i64 tm) ∧ U.drew.cell? ⟨gx, 2, none⟩ = some (.slice ao ol co) ∧ U.drew.cell? ⟨b2, o2 + i * 3, none⟩ = some (.int .i64 (k : Int)) ∧ U.drew.cell? ⟨b2, o2 + i * 3 + 1, none⟩ = some (.int .i64 tm) ∧ U.drew.cell? ⟨b2, o2 + i * 3 + 2, none⟩ = some (.slice ao2 ol co2) ∧ U.drew.cell? ⟨b1, o1 + j * 3, none⟩ = some (.int .i64 z) := ⟨(Below.refl _ U).drew, ((Below.refl _ U).drew.cell (p := ⟨gx, 0, none⟩) gx').trans x0, ((Below.refl _ U).drew.cell (p := ⟨gx, 1, none⟩) gx').trans x1, ((Below.refl _ U).drew.cell (p := ⟨gx, 2, none⟩) gx').trans x2, ((Below.refl _ U).drew.cell (p := ⟨b2, o2 + i * 3, none⟩) lU2).trans f0, ((Below.refl _ U).drew.cell (p := ⟨b2, o2 + i * 3 + 1, none⟩) lU2).trans f1, ((Below.refl _ U).drew.cell (p := ⟨b2, o2 + i * 3 + 2, none⟩) lU2).trans f2, ((Below.refl _ U).drew.cell (p := ⟨b1, o1 + j * 3, none⟩) lU1).trans hpr⟩
          go_region_held3 (fun w' => Below U.heap.size U w' ∧ w'.cell? ⟨gx, 0, none⟩ = some (.int .i64 (k : Int)) ∧ w'.cell? ⟨gx, 1, none⟩ = some (.int .i64 tm) ∧ w'.cell? ⟨gx, 2, none⟩ = some (.slice ao ol co) ∧ w'.cell? ⟨b2, o2 + i * 3, none⟩ = some (.int .i64 (k : Int)) ∧ w'.cell? ⟨b2, o2 + i * 3 + 1, none⟩ = some (.int .i64 tm) ∧ w'.cell? ⟨b2, o2 + i * 3 + 2, none⟩ = some (.slice ao2 ol co2) ∧ w'.cell? ⟨b1, o1 + j * 3, none⟩ = some (.int .i64 z)) (first | assumption | (show _ ∧ _; assumption)) (first | (go_at_call 9; refine Calls.mono (SUS.out _ (by assumption)) ?_; (rintro e wq ⟨rfl, hSq⟩)))
          obtain ⟨hUq, y0, y1, y2, -, -, -, -⟩ := hSq
          have lqx := Nat.lt_of_lt_of_le gx' hUq.size
          have lq7 := Nat.lt_of_lt_of_le lU7 hUq.size
          have lqg := Nat.lt_of_lt_of_le lUg hUq.size
          have hEq := (hUq.cell (p := ⟨b7, _, none⟩) lU7).trans hE
          have qq3 := (hUq.cell (p := ⟨g0, _, none⟩) lUg).trans q3
          have qq5 := (hUq.cell (p := ⟨g0, _, none⟩) lUg).trans q5
          have qq6 := (hUq.cell (p := ⟨g0, _, none⟩) lUg).trans q6
          have HBq : Hid (Below W7.heap.size W7 wq) := HBN.out.trans (hUq.mono HBN.out.size)
          have HIq : Hid (M4.IntsAt wq ao os) := M4.IntsAt.below HIO.out hUq
          have HVq : Hid (∀ V : World, Below wq.heap.size wq V → Calls Try.prog 11 #[.slice am ms.length cm, .int .i64 (k : Int)] V fun e w' => e = .returned (.bool true) ∧ Below V.heap.size V w') := fun V h => (HV.out V (HBq.out.trans (h.mono HBq.out.size))).mono (by rintro e w' ⟨rfl, rfl⟩; exact ⟨rfl, Below.refl _ _⟩)
          clear hUq gx' lU1 lU2 lU7 lUg hE q3 q5 q6 x0 x1 x2 f0 f1 f2 SU SUS hSd HBN HIO
          clear hpr
          go_wp2
          have HVS : Hid (∀ V : World, Below wq.heap.size wq V ∧ V.cell? ⟨gx, 0, none⟩ = some (.int .i64 (k : Int)) ∧ V.cell? ⟨gx, 1, none⟩ = some (.int .i64 tm) ∧ V.cell? ⟨gx, 2, none⟩ = some (.slice ao ol co) ∧ V.cell? ⟨b7, o7 + k, none⟩ = some (.int .i64 tm) ∧ V.cell? ⟨g0, 3, none⟩ = some (.int .i64 md) ∧ V.cell? ⟨g0, 5, none⟩ = some (.int .i64 lf) ∧ V.cell? ⟨g0, 6, none⟩ = some (.int .i64 hp) → Calls _ _ _ V fun e w' => e = .returned (.bool true) ∧ Below wq.heap.size wq w' ∧ w'.cell? ⟨gx, 0, none⟩ = some (.int .i64 (k : Int)) ∧ w'.cell? ⟨gx, 1, none⟩ = some (.int .i64 tm) ∧ w'.cell? ⟨gx, 2, none⟩ = some (.slice ao ol co) ∧ w'.cell? ⟨b7, o7 + k, none⟩ = some (.int .i64 tm) ∧ w'.cell? ⟨g0, 3, none⟩ = some (.int .i64 md) ∧ w'.cell? ⟨g0, 5, none⟩ = some (.int .i64 lf) ∧ w'.cell? ⟨g0, 6, none⟩ = some (.int .i64 hp)) := fun V h => by
            obtain ⟨hV, p0_, p1_, p2_, p3_, p4_, p5_, p6_⟩ := h
            refine (HVq.out V hV).mono ?_
            rintro e w' ⟨rfl, hb⟩
            exact ⟨rfl, hV.trans (hb.mono hV.size), (hb.cell (p := ⟨gx, 0, none⟩) (Nat.lt_of_lt_of_le lqx hV.size)).trans p0_, (hb.cell (p := ⟨gx, 1, none⟩) (Nat.lt_of_lt_of_le lqx hV.size)).trans p1_, (hb.cell (p := ⟨gx, 2, none⟩) (Nat.lt_of_lt_of_le lqx hV.size)).trans p2_, (hb.cell (p := ⟨b7, o7 + k, none⟩) (Nat.lt_of_lt_of_le lq7 hV.size)).trans p3_, (hb.cell (p := ⟨g0, 3, none⟩) (Nat.lt_of_lt_of_le lqg hV.size)).trans p4_, (hb.cell (p := ⟨g0, 5, none⟩) (Nat.lt_of_lt_of_le lqg hV.size)).trans p5_, (hb.cell (p := ⟨g0, 6, none⟩) (Nat.lt_of_lt_of_le lqg hV.size)).trans p6_⟩
          have hSd : Below wq.heap.size wq wq.drew ∧ wq.drew.cell? ⟨gx, 0, none⟩ = some (.int .i64 (k : Int)) ∧ wq.drew.cell? ⟨gx, 1, none⟩ = some (.int .i64 tm) ∧ wq.drew.cell? ⟨gx, 2, none⟩ = some (.slice ao ol co) ∧ wq.drew.cell? ⟨b7, o7 + k, none⟩ = some (.int .i64 tm) ∧ wq.drew.cell? ⟨g0, 3, none⟩ = some (.int .i64 md) ∧ wq.drew.cell? ⟨g0, 5, none⟩ = some (.int .i64 lf) ∧ wq.drew.cell? ⟨g0, 6, none⟩ = some (.int .i64 hp) := ⟨(Below.refl _ wq).drew, ((Below.refl _ wq).drew.cell (p := ⟨gx, 0, none⟩) lqx).trans y0, ((Below.refl _ wq).drew.cell (p := ⟨gx, 1, none⟩) lqx).trans y1, ((Below.refl _ wq).drew.cell (p := ⟨gx, 2, none⟩) lqx).trans y2, ((Below.refl _ wq).drew.cell (p := ⟨b7, o7 + k, none⟩) lq7).trans hEq, ((Below.refl _ wq).drew.cell (p := ⟨g0, 3, none⟩) lqg).trans qq3, ((Below.refl _ wq).drew.cell (p := ⟨g0, 5, none⟩) lqg).trans qq5, ((Below.refl _ wq).drew.cell (p := ⟨g0, 6, none⟩) lqg).trans qq6⟩
          go_region_held3 (fun w' => Below wq.heap.size wq w' ∧ w'.cell? ⟨gx, 0, none⟩ = some (.int .i64 (k : Int)) ∧ w'.cell? ⟨gx, 1, none⟩ = some (.int .i64 tm) ∧ w'.cell? ⟨gx, 2, none⟩ = some (.slice ao ol co) ∧ w'.cell? ⟨b7, o7 + k, none⟩ = some (.int .i64 tm) ∧ w'.cell? ⟨g0, 3, none⟩ = some (.int .i64 md) ∧ w'.cell? ⟨g0, 5, none⟩ = some (.int .i64 lf) ∧ w'.cell? ⟨g0, 6, none⟩ = some (.int .i64 hp)) (first | assumption | (show _ ∧ _; assumption)) (first | (go_at_call 11; refine Calls.mono (HVS.out _ (by assumption)) ?_; (rintro e wz ⟨rfl, hSz⟩)))
          obtain ⟨hqz, -, -, z2, -, -, -, -⟩ := hSz
          have HBz : Hid (Below W7.heap.size W7 wz) := HBq.out.trans (hqz.mono HBq.out.size)
          have HIz : Hid (M4.IntsAt wz ao os) := M4.IntsAt.below HIq.out hqz
          have HTz : Hid (M4.IntsAt wz a4 TL) := M4.IntsAt.below HA4.out HBz.out
          clear hqz HBq HIq HVq HVS hSd HV y0 y1 y2 hEq qq3 qq5 qq6 lqx lq7 lqg hlate hhops hmd hlf
          go_wp2
          clear z2
          go_loopw [201] (fun jv wv => ∃ j : Nat, jv = .int .i64 j ∧ j ≤ ol ∧ wz = wv) (fun jv _ => (ol - intOf jv).toNat)
          case atStart => exact ⟨0, rfl, by omega, rfl⟩
          case round =>
            obtain ⟨j2, rfl, hj2, rfl⟩ := hrel
            by_cases hjl : j2 < ol
            · have kj : (j2 : Int) < (ol : Int) := by omega
              obtain ⟨b9, o9, rfl, hl9, hc9⟩ := RQ.IA.some HIz.out (j := j2) (by rw [HOL.out]; exact hjl)
              have HH : Hid (Calls Try.prog 11 #[.slice a4 TL.length c4, .int .i64 (os.getD j2 0)] wz fun e w' => e = .returned (.bool true) ∧ wz = w') := by
                have h := hasL_any a4 c4 TL (os.getD j2 0) wz HTL.out HTz.out
                rwa [HTr.out j2 hjl] at h
              generalize os.getD j2 0 = zj at *
              clear HIz HTr HOL HTz HTL
              go_wp2_with fail
              refine Calls.mono HH.out ?_
              rintro e w9 ⟨rfl, rfl⟩
              clear HH hc9
              go_wp2
              go_roundw
              case rel => exact ⟨j2 + 1, by go_num, by omega, trivial⟩
              case measure => simp [intOf]; omega
            · obtain rfl : j2 = ol := by omega
              have HBz' := HBz.out
              clear HIz HTr HOL HTz HTL
              go_wp2
              go_roundw
              case rel => exact ⟨i + 1, by go_num, by omega, HBz'⟩
              case measure => simp [intOf]; omega
        · have hd0 : decide (0 < i) = false := by simp; omega
          have hd0' : decide ((0 : Int) < (i : Int)) = false := by simp; omega
          clear HPR
          have SUS : Hid (∀ V : World, Below U.heap.size U V ∧ V.cell? ⟨gx, 0, none⟩ = some (.int .i64 (k : Int)) ∧ V.cell? ⟨gx, 1, none⟩ = some (.int .i64 tm) ∧ V.cell? ⟨gx, 2, none⟩ = some (.slice ao ol co) ∧ V.cell? ⟨b2, o2 + i * 3, none⟩ = some (.int .i64 (k : Int)) ∧ V.cell? ⟨b2, o2 + i * 3 + 1, none⟩ = some (.int .i64 tm) ∧ V.cell? ⟨b2, o2 + i * 3 + 2, none⟩ = some (.slice ao2 ol co2) → Calls _ _ _ V fun e w' => e = .returned (.bool true) ∧ Below U.heap.size U w' ∧ w'.cell? ⟨gx, 0, none⟩ = some (.int .i64 (k : Int)) ∧ w'.cell? ⟨gx, 1, none⟩ = some (.int .i64 tm) ∧ w'.cell? ⟨gx, 2, none⟩ = some (.slice ao ol co) ∧ w'.cell? ⟨b2, o2 + i * 3, none⟩ = some (.int .i64 (k : Int)) ∧ w'.cell? ⟨b2, o2 + i * 3 + 1, none⟩ = some (.int .i64 tm) ∧ w'.cell? ⟨b2, o2 + i * 3 + 2, none⟩ = some (.slice ao2 ol co2)) := fun V h => by
            obtain ⟨hV, p0_, p1_, p2_, p3_, p4_, p5_⟩ := h
            refine (SU.out V hV).mono ?_
            rintro e w' ⟨rfl, hb⟩
            exact ⟨rfl, hV.trans (hb.mono hV.size), (hb.cell (p := ⟨gx, 0, none⟩) (Nat.lt_of_lt_of_le gx' hV.size)).trans p0_, (hb.cell (p := ⟨gx, 1, none⟩) (Nat.lt_of_lt_of_le gx' hV.size)).trans p1_, (hb.cell (p := ⟨gx, 2, none⟩) (Nat.lt_of_lt_of_le gx' hV.size)).trans p2_, (hb.cell (p := ⟨b2, o2 + i * 3, none⟩) (Nat.lt_of_lt_of_le lU2 hV.size)).trans p3_, (hb.cell (p := ⟨b2, o2 + i * 3 + 1, none⟩) (Nat.lt_of_lt_of_le lU2 hV.size)).trans p4_, (hb.cell (p := ⟨b2, o2 + i * 3 + 2, none⟩) (Nat.lt_of_lt_of_le lU2 hV.size)).trans p5_⟩
          have hSd : Below U.heap.size U U.drew ∧ U.drew.cell? ⟨gx, 0, none⟩ = some (.int .i64 (k : Int)) ∧ U.drew.cell? ⟨gx, 1, none⟩ = some (.int .i64 tm) ∧ U.drew.cell? ⟨gx, 2, none⟩ = some (.slice ao ol co) ∧ U.drew.cell? ⟨b2, o2 + i * 3, none⟩ = some (.int .i64 (k : Int)) ∧ U.drew.cell? ⟨b2, o2 + i * 3 + 1, none⟩ = some (.int .i64 tm) ∧ U.drew.cell? ⟨b2, o2 + i * 3 + 2, none⟩ = some (.slice ao2 ol co2) := ⟨(Below.refl _ U).drew, ((Below.refl _ U).drew.cell (p := ⟨gx, 0, none⟩) gx').trans x0, ((Below.refl _ U).drew.cell (p := ⟨gx, 1, none⟩) gx').trans x1, ((Below.refl _ U).drew.cell (p := ⟨gx, 2, none⟩) gx').trans x2, ((Below.refl _ U).drew.cell (p := ⟨b2, o2 + i * 3, none⟩) lU2).trans f0, ((Below.refl _ U).drew.cell (p := ⟨b2, o2 + i * 3 + 1, none⟩) lU2).trans f1, ((Below.refl _ U).drew.cell (p := ⟨b2, o2 + i * 3 + 2, none⟩) lU2).trans f2⟩
          refine MR.frame fun A hA => ?_
          have hsz : A.tmps.size = 304 := by rw [hA]; rfl
          have e8 : A.eval (.tmp 8) = .slice (some ⟨b1, o1, none⟩) n c2 := by rw [hA]; rfl
          have f8 := MR.read (t := 8) (by rw [hsz]; decide) e8
          have e10 : A.eval (.tmp 10) = .slice (some ⟨b2, o2, none⟩) n c3 := by rw [hA]; rfl
          have f10 := MR.read (t := 10) (by rw [hsz]; decide) e10
          have e18 : A.eval (.tmp 18) = .int .i64 (i : Int) := by rw [hA]; rfl
          have f18 := MR.read (t := 18) (by rw [hsz]; decide) e18
          have e19 : A.eval (.tmp 19) = .pointer (some ⟨gx, 0, none⟩) := by rw [hA]; rfl
          have f19 := MR.read (t := 19) (by rw [hsz]; decide) e19
          have HA : Hid (A = _) := hA
          clear hA
          have hS : (fun w' => Below U.heap.size U w' ∧ w'.cell? ⟨gx, 0, none⟩ = some (.int .i64 (k : Int)) ∧ w'.cell? ⟨gx, 1, none⟩ = some (.int .i64 tm) ∧ w'.cell? ⟨gx, 2, none⟩ = some (.slice ao ol co) ∧ w'.cell? ⟨b2, o2 + i * 3, none⟩ = some (.int .i64 (k : Int)) ∧ w'.cell? ⟨b2, o2 + i * 3 + 1, none⟩ = some (.int .i64 tm) ∧ w'.cell? ⟨b2, o2 + i * 3 + 2, none⟩ = some (.slice ao2 ol co2)) (World.drew _) := hSd
          refine wp_region_held (S := fun w' => Below U.heap.size U w' ∧ w'.cell? ⟨gx, 0, none⟩ = some (.int .i64 (k : Int)) ∧ w'.cell? ⟨gx, 1, none⟩ = some (.int .i64 tm) ∧ w'.cell? ⟨gx, 2, none⟩ = some (.slice ao ol co) ∧ w'.cell? ⟨b2, o2 + i * 3, none⟩ = some (.int .i64 (k : Int)) ∧ w'.cell? ⟨b2, o2 + i * 3 + 1, none⟩ = some (.int .i64 tm) ∧ w'.cell? ⟨b2, o2 + i * 3 + 2, none⟩ = some (.slice ao2 ol co2)) (by kernel_rfl) ?_
          change wpAnyH _ _ _ _ _ _ _ _ (World.drew _)
          refine MR.takeH (i := 0) (some 117) (.pointer (some ⟨gx, 0, none⟩)) rfl rfl (by kernel_rfl) (by kernel_rfl) (by kernel_rfl) (fun _ _ _ h => h) hS (MR.free rfl) (fun wq hw => by simp [execOp, MR.ev, MR.size, hsz, e8, f8, e10, f10, e18, f18, e19, f19, Try.underlying37, go_sem]) ?_
          refine MR.takeH (i := 1) (some 118) (.int .i64 (k : Int)) rfl rfl (by kernel_rfl) (by kernel_rfl) (by kernel_rfl) (fun _ _ _ h => h) hS (MR.free rfl) (fun wq hw => by simp [execOp, MR.ev, MR.size, hsz, e8, f8, e10, f10, e18, f18, e19, f19, hw, go_sem]) ?_
          refine MR.takeH (i := 2) (some 119) (.slice (some ⟨b2, o2, none⟩) n c3) rfl rfl (by kernel_rfl) (by kernel_rfl) (by kernel_rfl) (fun _ _ _ h => h) hS (MR.free rfl) (fun wq hw => by simp [execOp, MR.ev, MR.size, hsz, e8, f8, e10, f10, e18, f18, e19, f19, go_sem]) ?_
          refine MR.takeH (i := 3) (some 120) (.int .i64 (i : Int)) rfl rfl (by kernel_rfl) (by kernel_rfl) (by kernel_rfl) (fun _ _ _ h => h) hS (MR.free rfl) (fun wq hw => by simp [execOp, MR.ev, MR.size, hsz, e8, f8, e10, f10, e18, f18, e19, f19, go_sem]) ?_
          refine MR.takeH (i := 4) (some 121) (.pointer (some ⟨b2, o2 + i * 3, none⟩)) rfl rfl (by kernel_rfl) (by kernel_rfl) (by kernel_rfl) (fun _ _ _ h => h) hS (MR.free rfl) (fun wq hw => by simp [execOp, MR.ev, MR.size, hsz, e8, f8, e10, f10, e18, f18, e19, f19, Try.underlying29, ki0, kn, go_sem]) ?_
          refine MR.takeH (i := 5) (some 122) (.pointer (some ⟨b2, o2 + i * 3, none⟩)) rfl rfl (by kernel_rfl) (by kernel_rfl) (by kernel_rfl) (fun _ _ _ h => h) hS (MR.free rfl) (fun wq hw => by simp [execOp, MR.ev, MR.size, hsz, e8, f8, e10, f10, e18, f18, e19, f19, Try.underlying37, go_sem]) ?_
          refine MR.takeH (i := 6) (some 123) (.int .i64 (k : Int)) rfl rfl (by kernel_rfl) (by kernel_rfl) (by kernel_rfl) (fun _ _ _ h => h) hS (MR.free rfl) (fun wq hw => by simp [execOp, MR.ev, MR.size, hsz, e8, f8, e10, f10, e18, f18, e19, f19, hw, go_sem]) ?_
          refine MR.takeH (i := 7) (some 124) (.bool false) rfl rfl (by kernel_rfl) (by kernel_rfl) (by kernel_rfl) (fun _ _ _ h => h) hS (MR.free rfl) (fun wq hw => by simp [execOp, MR.ev, MR.size, hsz, e8, f8, e10, f10, e18, f18, e19, f19, hkk, go_sem]) ?_
          refine MR.takeH (i := 8) (some 125) (.bool false) rfl rfl (by kernel_rfl) (by kernel_rfl) (by kernel_rfl) (fun _ _ _ h => h) hS (MR.free rfl) (fun wq hw => by simp [execOp, MR.ev, MR.size, hsz, e8, f8, e10, f10, e18, f18, e19, f19, go_sem]) ?_
          refine MR.takeH (i := 9) (some 126) (.pointer (some ⟨gx, 1, none⟩)) rfl rfl (by kernel_rfl) (by kernel_rfl) (by kernel_rfl) (fun _ _ _ h => h) hS (MR.want (d := 125) rfl rfl (by simp [MR.size, hsz]) (by simp [MR.ev, MR.size, hsz, e8, f8, e10, f10, e18, f18, e19, f19])) (fun wq hw => by simp [execOp, MR.ev, MR.size, hsz, e8, f8, e10, f10, e18, f18, e19, f19, Try.underlying37, go_sem]) ?_
          refine MR.takeH (i := 10) (some 127) (.int .i64 tm) rfl rfl (by kernel_rfl) (by kernel_rfl) (by kernel_rfl) (fun _ _ _ h => h) hS (MR.want (d := 125) rfl rfl (by simp [MR.size, hsz]) (by simp [MR.ev, MR.size, hsz, e8, f8, e10, f10, e18, f18, e19, f19])) (fun wq hw => by simp [execOp, MR.ev, MR.size, hsz, e8, f8, e10, f10, e18, f18, e19, f19, hw, go_sem]) ?_
          refine MR.takeH (i := 11) (some 128) (.slice (some ⟨b2, o2, none⟩) n c3) rfl rfl (by kernel_rfl) (by kernel_rfl) (by kernel_rfl) (fun _ _ _ h => h) hS (MR.want (d := 125) rfl rfl (by simp [MR.size, hsz]) (by simp [MR.ev, MR.size, hsz, e8, f8, e10, f10, e18, f18, e19, f19])) (fun wq hw => by simp [execOp, MR.ev, MR.size, hsz, e8, f8, e10, f10, e18, f18, e19, f19, go_sem]) ?_
          refine MR.takeH (i := 12) (some 129) (.int .i64 (i : Int)) rfl rfl (by kernel_rfl) (by kernel_rfl) (by kernel_rfl) (fun _ _ _ h => h) hS (MR.want (d := 125) rfl rfl (by simp [MR.size, hsz]) (by simp [MR.ev, MR.size, hsz, e8, f8, e10, f10, e18, f18, e19, f19])) (fun wq hw => by simp [execOp, MR.ev, MR.size, hsz, e8, f8, e10, f10, e18, f18, e19, f19, go_sem]) ?_
          refine MR.takeH (i := 13) (some 130) (.pointer (some ⟨b2, o2 + i * 3, none⟩)) rfl rfl (by kernel_rfl) (by kernel_rfl) (by kernel_rfl) (fun _ _ _ h => h) hS (MR.want (d := 125) rfl rfl (by simp [MR.size, hsz]) (by simp [MR.ev, MR.size, hsz, e8, f8, e10, f10, e18, f18, e19, f19])) (fun wq hw => by simp [execOp, MR.ev, MR.size, hsz, e8, f8, e10, f10, e18, f18, e19, f19, Try.underlying29, ki0, kn, go_sem]) ?_
          refine MR.takeH (i := 14) (some 131) (.pointer (some ⟨b2, o2 + i * 3 + 1, none⟩)) rfl rfl (by kernel_rfl) (by kernel_rfl) (by kernel_rfl) (fun _ _ _ h => h) hS (MR.want (d := 125) rfl rfl (by simp [MR.size, hsz]) (by simp [MR.ev, MR.size, hsz, e8, f8, e10, f10, e18, f18, e19, f19])) (fun wq hw => by simp [execOp, MR.ev, MR.size, hsz, e8, f8, e10, f10, e18, f18, e19, f19, Try.underlying37, go_sem]) ?_
          refine MR.takeH (i := 15) (some 132) (.int .i64 tm) rfl rfl (by kernel_rfl) (by kernel_rfl) (by kernel_rfl) (fun _ _ _ h => h) hS (MR.want (d := 125) rfl rfl (by simp [MR.size, hsz]) (by simp [MR.ev, MR.size, hsz, e8, f8, e10, f10, e18, f18, e19, f19])) (fun wq hw => by simp [execOp, MR.ev, MR.size, hsz, e8, f8, e10, f10, e18, f18, e19, f19, hw, go_sem]) ?_
          refine MR.takeH (i := 16) (some 133) (.bool false) rfl rfl (by kernel_rfl) (by kernel_rfl) (by kernel_rfl) (fun _ _ _ h => h) hS (MR.want (d := 125) rfl rfl (by simp [MR.size, hsz]) (by simp [MR.ev, MR.size, hsz, e8, f8, e10, f10, e18, f18, e19, f19])) (fun wq hw => by simp [execOp, MR.ev, MR.size, hsz, e8, f8, e10, f10, e18, f18, e19, f19, htt, go_sem]) ?_
          refine MR.takeH (i := 17) (some 134) (.bool false) rfl rfl (by kernel_rfl) (by kernel_rfl) (by kernel_rfl) (fun _ _ _ h => h) hS (MR.free rfl) (fun wq hw => by simp [execOp, MR.ev, MR.size, hsz, e8, f8, e10, f10, e18, f18, e19, f19, go_sem]) ?_
          refine MR.takeH (i := 18) (some 135) (.bool false) rfl rfl (by kernel_rfl) (by kernel_rfl) (by kernel_rfl) (fun _ _ _ h => h) hS (MR.free rfl) (fun wq hw => by simp [execOp, MR.ev, MR.size, hsz, e8, f8, e10, f10, e18, f18, e19, f19, go_sem]) ?_
          refine MR.takeH (i := 19) (some 136) (.pointer (some ⟨gx, 2, none⟩)) rfl rfl (by kernel_rfl) (by kernel_rfl) (by kernel_rfl) (fun _ _ _ h => h) hS (MR.want (d := 135) rfl rfl (by simp [MR.size, hsz]) (by simp [MR.ev, MR.size, hsz, e8, f8, e10, f10, e18, f18, e19, f19])) (fun wq hw => by simp [execOp, MR.ev, MR.size, hsz, e8, f8, e10, f10, e18, f18, e19, f19, Try.underlying37, go_sem]) ?_
          refine MR.takeH (i := 20) (some 137) (.slice ao ol co) rfl rfl (by kernel_rfl) (by kernel_rfl) (by kernel_rfl) (fun _ _ _ h => h) hS (MR.want (d := 135) rfl rfl (by simp [MR.size, hsz]) (by simp [MR.ev, MR.size, hsz, e8, f8, e10, f10, e18, f18, e19, f19])) (fun wq hw => by simp [execOp, MR.ev, MR.size, hsz, e8, f8, e10, f10, e18, f18, e19, f19, hw, go_sem]) ?_
          refine MR.takeH (i := 21) (some 138) (.slice (some ⟨b2, o2, none⟩) n c3) rfl rfl (by kernel_rfl) (by kernel_rfl) (by kernel_rfl) (fun _ _ _ h => h) hS (MR.want (d := 135) rfl rfl (by simp [MR.size, hsz]) (by simp [MR.ev, MR.size, hsz, e8, f8, e10, f10, e18, f18, e19, f19])) (fun wq hw => by simp [execOp, MR.ev, MR.size, hsz, e8, f8, e10, f10, e18, f18, e19, f19, go_sem]) ?_
          refine MR.takeH (i := 22) (some 139) (.int .i64 (i : Int)) rfl rfl (by kernel_rfl) (by kernel_rfl) (by kernel_rfl) (fun _ _ _ h => h) hS (MR.want (d := 135) rfl rfl (by simp [MR.size, hsz]) (by simp [MR.ev, MR.size, hsz, e8, f8, e10, f10, e18, f18, e19, f19])) (fun wq hw => by simp [execOp, MR.ev, MR.size, hsz, e8, f8, e10, f10, e18, f18, e19, f19, go_sem]) ?_
          refine MR.takeH (i := 23) (some 140) (.pointer (some ⟨b2, o2 + i * 3, none⟩)) rfl rfl (by kernel_rfl) (by kernel_rfl) (by kernel_rfl) (fun _ _ _ h => h) hS (MR.want (d := 135) rfl rfl (by simp [MR.size, hsz]) (by simp [MR.ev, MR.size, hsz, e8, f8, e10, f10, e18, f18, e19, f19])) (fun wq hw => by simp [execOp, MR.ev, MR.size, hsz, e8, f8, e10, f10, e18, f18, e19, f19, Try.underlying29, ki0, kn, go_sem]) ?_
          refine MR.takeH (i := 24) (some 141) (.pointer (some ⟨b2, o2 + i * 3 + 2, none⟩)) rfl rfl (by kernel_rfl) (by kernel_rfl) (by kernel_rfl) (fun _ _ _ h => h) hS (MR.want (d := 135) rfl rfl (by simp [MR.size, hsz]) (by simp [MR.ev, MR.size, hsz, e8, f8, e10, f10, e18, f18, e19, f19])) (fun wq hw => by simp [execOp, MR.ev, MR.size, hsz, e8, f8, e10, f10, e18, f18, e19, f19, Try.underlying37, go_sem]) ?_
          refine MR.takeH (i := 25) (some 142) (.slice ao2 ol co2) rfl rfl (by kernel_rfl) (by kernel_rfl) (by kernel_rfl) (fun _ _ _ h => h) hS (MR.want (d := 135) rfl rfl (by simp [MR.size, hsz]) (by simp [MR.ev, MR.size, hsz, e8, f8, e10, f10, e18, f18, e19, f19])) (fun wq hw => by simp [execOp, MR.ev, MR.size, hsz, e8, f8, e10, f10, e18, f18, e19, f19, hw, go_sem]) ?_
          refine MR.callH (i := 26) (some 143) (9) (#[.slice ao ol co, .slice ao2 ol co2]) (by kernel_rfl) rfl rfl (MR.want (d := 135) rfl rfl (by simp [MR.size, hsz]) (by simp [MR.ev, MR.size, hsz, e8, f8, e10, f10, e18, f18, e19, f19])) (by simp [execOp, MR.ev, MR.size, hsz, e8, f8, e10, f10, e18, f18, e19, f19, go_sem]) ?_
          refine Calls.mono (SUS.out _ hS) ?_
          rintro e wq ⟨rfl, hSq⟩
          refine ⟨_, rfl, hSq, ?_⟩
          refine MR.takeH (i := 27) (some 144) (.bool false) rfl rfl (by kernel_rfl) (by kernel_rfl) (by kernel_rfl) (fun _ _ _ h => h) hSq (MR.want (d := 135) rfl rfl (by simp [MR.size, hsz]) (by simp [MR.ev, MR.size, hsz, e8, f8, e10, f10, e18, f18, e19, f19])) (fun wq hw => by simp [execOp, MR.ev, MR.size, hsz, e8, f8, e10, f10, e18, f18, e19, f19, go_sem]) ?_
          refine MR.takeH (i := 28) (some 145) (.bool false) rfl rfl (by kernel_rfl) (by kernel_rfl) (by kernel_rfl) (fun _ _ _ h => h) hSq (MR.free rfl) (fun wq hw => by simp [execOp, MR.ev, MR.size, hsz, e8, f8, e10, f10, e18, f18, e19, f19, go_sem]) ?_
          refine MR.takeH (i := 29) (some 146) (.bool false) rfl rfl (by kernel_rfl) (by kernel_rfl) (by kernel_rfl) (fun _ _ _ h => h) hSq (MR.free rfl) (fun wq hw => by simp [execOp, MR.ev, MR.size, hsz, e8, f8, e10, f10, e18, f18, e19, f19, go_sem]) ?_
          refine MR.takeH (i := 30) (some 147) (.int .i64 (i : Int)) rfl rfl (by kernel_rfl) (by kernel_rfl) (by kernel_rfl) (fun _ _ _ h => h) hSq (MR.want (d := 146) rfl rfl (by simp [MR.size, hsz]) (by simp [MR.ev, MR.size, hsz, e8, f8, e10, f10, e18, f18, e19, f19])) (fun wq hw => by simp [execOp, MR.ev, MR.size, hsz, e8, f8, e10, f10, e18, f18, e19, f19, go_sem]) ?_
          refine MR.takeH (i := 31) (some 148) (.bool false) rfl rfl (by kernel_rfl) (by kernel_rfl) (by kernel_rfl) (fun _ _ _ h => h) hSq (MR.want (d := 146) rfl rfl (by simp [MR.size, hsz]) (by simp [MR.ev, MR.size, hsz, e8, f8, e10, f10, e18, f18, e19, f19])) (fun wq hw => by simp [execOp, MR.ev, MR.size, hsz, e8, f8, e10, f10, e18, f18, e19, f19, hd0, hd0', go_sem]) ?_
          refine MR.takeH (i := 32) (some 149) (.bool false) rfl rfl (by kernel_rfl) (by kernel_rfl) (by kernel_rfl) (fun _ _ _ h => h) hSq (MR.want (d := 146) rfl rfl (by simp [MR.size, hsz]) (by simp [MR.ev, MR.size, hsz, e8, f8, e10, f10, e18, f18, e19, f19])) (fun wq hw => by simp [execOp, MR.ev, MR.size, hsz, e8, f8, e10, f10, e18, f18, e19, f19, go_sem]) ?_
          refine MR.skipH (i := 33) (some 150) rfl rfl (by kernel_rfl) (by kernel_rfl) (by kernel_rfl) (fun _ _ _ h => h) hSq (MR.unwant (d := 149) (b' := false) rfl rfl (by simp [MR.size, hsz]) (by simp [MR.ev, MR.size, hsz, e8, f8, e10, f10, e18, f18, e19, f19]) (by decide)) ?_
          refine MR.skipH (i := 34) (some 151) rfl rfl (by kernel_rfl) (by kernel_rfl) (by kernel_rfl) (fun _ _ _ h => h) hSq (MR.unwant (d := 149) (b' := false) rfl rfl (by simp [MR.size, hsz]) (by simp [MR.ev, MR.size, hsz, e8, f8, e10, f10, e18, f18, e19, f19]) (by decide)) ?_
          refine MR.skipH (i := 35) (some 152) rfl rfl (by kernel_rfl) (by kernel_rfl) (by kernel_rfl) (fun _ _ _ h => h) hSq (MR.unwant (d := 149) (b' := false) rfl rfl (by simp [MR.size, hsz]) (by simp [MR.ev, MR.size, hsz, e8, f8, e10, f10, e18, f18, e19, f19]) (by decide)) ?_
          refine MR.skipH (i := 36) (some 153) rfl rfl (by kernel_rfl) (by kernel_rfl) (by kernel_rfl) (fun _ _ _ h => h) hSq (MR.unwant (d := 149) (b' := false) rfl rfl (by simp [MR.size, hsz]) (by simp [MR.ev, MR.size, hsz, e8, f8, e10, f10, e18, f18, e19, f19]) (by decide)) ?_
          refine MR.skipH (i := 37) (some 154) rfl rfl (by kernel_rfl) (by kernel_rfl) (by kernel_rfl) (fun _ _ _ h => h) hSq (MR.unwant (d := 149) (b' := false) rfl rfl (by simp [MR.size, hsz]) (by simp [MR.ev, MR.size, hsz, e8, f8, e10, f10, e18, f18, e19, f19]) (by decide)) ?_
          refine MR.skipH (i := 38) (some 155) rfl rfl (by kernel_rfl) (by kernel_rfl) (by kernel_rfl) (fun _ _ _ h => h) hSq (MR.unwant (d := 149) (b' := false) rfl rfl (by simp [MR.size, hsz]) (by simp [MR.ev, MR.size, hsz, e8, f8, e10, f10, e18, f18, e19, f19]) (by decide)) ?_
          refine MR.skipH (i := 39) (some 156) rfl rfl (by kernel_rfl) (by kernel_rfl) (by kernel_rfl) (fun _ _ _ h => h) hSq (MR.unwant (d := 149) (b' := false) rfl rfl (by simp [MR.size, hsz]) (by simp [MR.ev, MR.size, hsz, e8, f8, e10, f10, e18, f18, e19, f19]) (by decide)) ?_
          refine MR.skipH (i := 40) (some 157) rfl rfl (by kernel_rfl) (by kernel_rfl) (by kernel_rfl) (fun _ _ _ h => h) hSq (MR.unwant (d := 149) (b' := false) rfl rfl (by simp [MR.size, hsz]) (by simp [MR.ev, MR.size, hsz, e8, f8, e10, f10, e18, f18, e19, f19]) (by decide)) ?_
          refine MR.skipH (i := 41) (some 158) rfl rfl (by kernel_rfl) (by kernel_rfl) (by kernel_rfl) (fun _ _ _ h => h) hSq (MR.unwant (d := 149) (b' := false) rfl rfl (by simp [MR.size, hsz]) (by simp [MR.ev, MR.size, hsz, e8, f8, e10, f10, e18, f18, e19, f19]) (by decide)) ?_
          refine MR.takeH (i := 42) (some 159) (.bool false) rfl rfl (by kernel_rfl) (by kernel_rfl) (by kernel_rfl) (fun _ _ _ h => h) hSq (MR.want (d := 146) rfl rfl (by simp [MR.size, hsz]) (by simp [MR.ev, MR.size, hsz, e8, f8, e10, f10, e18, f18, e19, f19])) (fun wq hw => by simp [execOp, MR.ev, MR.size, hsz, e8, f8, e10, f10, e18, f18, e19, f19, go_sem]) ?_
          refine MR.takeH (i := 43) (some 160) (.bool false) rfl rfl (by kernel_rfl) (by kernel_rfl) (by kernel_rfl) (fun _ _ _ h => h) hSq (MR.free rfl) (fun wq hw => by simp [execOp, MR.ev, MR.size, hsz, e8, f8, e10, f10, e18, f18, e19, f19, go_sem]) ?_
          refine wpAnyH_done (by kernel_rfl) ?_ _
          rw [HA.out]
          simp only [Act.put, List.setIfInBounds_toArray, List.set_cons_succ, List.set_cons_zero]
          clear HA hsz hS e8 f8 e10 f10 e18 f18 e19 f19
          obtain ⟨hUq, y0, y1, y2, -, -, -⟩ := hSq
          have lqx := Nat.lt_of_lt_of_le gx' hUq.size
          have lq7 := Nat.lt_of_lt_of_le lU7 hUq.size
          have lqg := Nat.lt_of_lt_of_le lUg hUq.size
          have hEq := (hUq.cell (p := ⟨b7, _, none⟩) lU7).trans hE
          have qq3 := (hUq.cell (p := ⟨g0, _, none⟩) lUg).trans q3
          have qq5 := (hUq.cell (p := ⟨g0, _, none⟩) lUg).trans q5
          have qq6 := (hUq.cell (p := ⟨g0, _, none⟩) lUg).trans q6
          have HBq : Hid (Below W7.heap.size W7 wq) := HBN.out.trans (hUq.mono HBN.out.size)
          have HIq : Hid (M4.IntsAt wq ao os) := M4.IntsAt.below HIO.out hUq
          have HVq : Hid (∀ V : World, Below wq.heap.size wq V → Calls Try.prog 11 #[.slice am ms.length cm, .int .i64 (k : Int)] V fun e w' => e = .returned (.bool true) ∧ Below V.heap.size V w') := fun V h => (HV.out V (HBq.out.trans (h.mono HBq.out.size))).mono (by rintro e w' ⟨rfl, rfl⟩; exact ⟨rfl, Below.refl _ _⟩)
          clear hUq gx' lU1 lU2 lU7 lUg hE q3 q5 q6 x0 x1 x2 f0 f1 f2 SU SUS hSd HBN HIO
          go_wp2
          have HVS : Hid (∀ V : World, Below wq.heap.size wq V ∧ V.cell? ⟨gx, 0, none⟩ = some (.int .i64 (k : Int)) ∧ V.cell? ⟨gx, 1, none⟩ = some (.int .i64 tm) ∧ V.cell? ⟨gx, 2, none⟩ = some (.slice ao ol co) ∧ V.cell? ⟨b7, o7 + k, none⟩ = some (.int .i64 tm) ∧ V.cell? ⟨g0, 3, none⟩ = some (.int .i64 md) ∧ V.cell? ⟨g0, 5, none⟩ = some (.int .i64 lf) ∧ V.cell? ⟨g0, 6, none⟩ = some (.int .i64 hp) → Calls _ _ _ V fun e w' => e = .returned (.bool true) ∧ Below wq.heap.size wq w' ∧ w'.cell? ⟨gx, 0, none⟩ = some (.int .i64 (k : Int)) ∧ w'.cell? ⟨gx, 1, none⟩ = some (.int .i64 tm) ∧ w'.cell? ⟨gx, 2, none⟩ = some (.slice ao ol co) ∧ w'.cell? ⟨b7, o7 + k, none⟩ = some (.int .i64 tm) ∧ w'.cell? ⟨g0, 3, none⟩ = some (.int .i64 md) ∧ w'.cell? ⟨g0, 5, none⟩ = some (.int .i64 lf) ∧ w'.cell? ⟨g0, 6, none⟩ = some (.int .i64 hp)) := fun V h => by
            obtain ⟨hV, p0_, p1_, p2_, p3_, p4_, p5_, p6_⟩ := h
            refine (HVq.out V hV).mono ?_
            rintro e w' ⟨rfl, hb⟩
            exact ⟨rfl, hV.trans (hb.mono hV.size), (hb.cell (p := ⟨gx, 0, none⟩) (Nat.lt_of_lt_of_le lqx hV.size)).trans p0_, (hb.cell (p := ⟨gx, 1, none⟩) (Nat.lt_of_lt_of_le lqx hV.size)).trans p1_, (hb.cell (p := ⟨gx, 2, none⟩) (Nat.lt_of_lt_of_le lqx hV.size)).trans p2_, (hb.cell (p := ⟨b7, o7 + k, none⟩) (Nat.lt_of_lt_of_le lq7 hV.size)).trans p3_, (hb.cell (p := ⟨g0, 3, none⟩) (Nat.lt_of_lt_of_le lqg hV.size)).trans p4_, (hb.cell (p := ⟨g0, 5, none⟩) (Nat.lt_of_lt_of_le lqg hV.size)).trans p5_, (hb.cell (p := ⟨g0, 6, none⟩) (Nat.lt_of_lt_of_le lqg hV.size)).trans p6_⟩
          have hSd : Below wq.heap.size wq wq.drew ∧ wq.drew.cell? ⟨gx, 0, none⟩ = some (.int .i64 (k : Int)) ∧ wq.drew.cell? ⟨gx, 1, none⟩ = some (.int .i64 tm) ∧ wq.drew.cell? ⟨gx, 2, none⟩ = some (.slice ao ol co) ∧ wq.drew.cell? ⟨b7, o7 + k, none⟩ = some (.int .i64 tm) ∧ wq.drew.cell? ⟨g0, 3, none⟩ = some (.int .i64 md) ∧ wq.drew.cell? ⟨g0, 5, none⟩ = some (.int .i64 lf) ∧ wq.drew.cell? ⟨g0, 6, none⟩ = some (.int .i64 hp) := ⟨(Below.refl _ wq).drew, ((Below.refl _ wq).drew.cell (p := ⟨gx, 0, none⟩) lqx).trans y0, ((Below.refl _ wq).drew.cell (p := ⟨gx, 1, none⟩) lqx).trans y1, ((Below.refl _ wq).drew.cell (p := ⟨gx, 2, none⟩) lqx).trans y2, ((Below.refl _ wq).drew.cell (p := ⟨b7, o7 + k, none⟩) lq7).trans hEq, ((Below.refl _ wq).drew.cell (p := ⟨g0, 3, none⟩) lqg).trans qq3, ((Below.refl _ wq).drew.cell (p := ⟨g0, 5, none⟩) lqg).trans qq5, ((Below.refl _ wq).drew.cell (p := ⟨g0, 6, none⟩) lqg).trans qq6⟩
          go_region_held3 (fun w' => Below wq.heap.size wq w' ∧ w'.cell? ⟨gx, 0, none⟩ = some (.int .i64 (k : Int)) ∧ w'.cell? ⟨gx, 1, none⟩ = some (.int .i64 tm) ∧ w'.cell? ⟨gx, 2, none⟩ = some (.slice ao ol co) ∧ w'.cell? ⟨b7, o7 + k, none⟩ = some (.int .i64 tm) ∧ w'.cell? ⟨g0, 3, none⟩ = some (.int .i64 md) ∧ w'.cell? ⟨g0, 5, none⟩ = some (.int .i64 lf) ∧ w'.cell? ⟨g0, 6, none⟩ = some (.int .i64 hp)) (first | assumption | (show _ ∧ _; assumption)) (first | (go_at_call 11; refine Calls.mono (HVS.out _ (by assumption)) ?_; (rintro e wz ⟨rfl, hSz⟩)))
          obtain ⟨hqz, -, -, z2, -, -, -, -⟩ := hSz
          have HBz : Hid (Below W7.heap.size W7 wz) := HBq.out.trans (hqz.mono HBq.out.size)
          have HIz : Hid (M4.IntsAt wz ao os) := M4.IntsAt.below HIq.out hqz
          have HTz : Hid (M4.IntsAt wz a4 TL) := M4.IntsAt.below HA4.out HBz.out
          clear hqz HBq HIq HVq HVS hSd HV y0 y1 y2 hEq qq3 qq5 qq6 lqx lq7 lqg hlate hhops hmd hlf
          go_wp2
          clear z2
          go_loopw [201] (fun jv wv => ∃ j : Nat, jv = .int .i64 j ∧ j ≤ ol ∧ wz = wv) (fun jv _ => (ol - intOf jv).toNat)
          case atStart => exact ⟨0, rfl, by omega, rfl⟩
          case round =>
            obtain ⟨j2, rfl, hj2, rfl⟩ := hrel
            by_cases hjl : j2 < ol
            · have kj : (j2 : Int) < (ol : Int) := by omega
              obtain ⟨b9, o9, rfl, hl9, hc9⟩ := RQ.IA.some HIz.out (j := j2) (by rw [HOL.out]; exact hjl)
              have HH : Hid (Calls Try.prog 11 #[.slice a4 TL.length c4, .int .i64 (os.getD j2 0)] wz fun e w' => e = .returned (.bool true) ∧ wz = w') := by
                have h := hasL_any a4 c4 TL (os.getD j2 0) wz HTL.out HTz.out
                rwa [HTr.out j2 hjl] at h
              generalize os.getD j2 0 = zj at *
              clear HIz HTr HOL HTz HTL
              go_wp2_with fail
              refine Calls.mono HH.out ?_
              rintro e w9 ⟨rfl, rfl⟩
              clear HH hc9
              go_wp2
              go_roundw
              case rel => exact ⟨j2 + 1, by go_num, by omega, trivial⟩
              case measure => simp [intOf]; omega
            · obtain rfl : j2 = ol := by omega
              have HBz' := HBz.out
              clear HIz HTr HOL HTz HTL
              go_wp2
              go_roundw
              case rel => exact ⟨i + 1, by go_num, by omega, HBz'⟩
              case measure => simp [intOf]; omega
      · obtain rfl : i = n := by omega
        have hB2 := hBV.trans (hbr.mono hBV.size)
        clear HSD HR HL HN HQ hok hnn HA7 HA2 HA3 HA4 HM7 hBV HBA HEL HTL hn8 hbr
        go_wp2_with fail
        refine (dDeliveredBy_any a' ys cb _ hy (HBY.out _ hB2)).mono ?_
        rintro e V1 ⟨f1, d1, xs2, b2, fm, dm, ms2, n2, rfl, hxl2, hpy2, hR2, hml2, hM2, BV1⟩
        have Q1 : Hid (∀ V : World, Below V1.heap.size V1 V → Calls Try.prog 13 #[.slice f1 xs2.length d1, b2.v, .slice fm ms2.length dm, .int .i64 n2] V fun e w' => ∃ a1 c1, e = .returned (.tuple #[.slice a1 (RQ.delA xs2 b2 ms2 n2).length c1, .bool (RQ.delOk xs2 b2 ms2 n2)]) ∧ M4.IntsAt w' a1 (RQ.delA xs2 b2 ms2 n2) ∧ Below V.heap.size V w') := fun V h => (delI_any f1 fm d1 dm xs2 b2 ms2 n2 V (by omega) (by omega) (by omega) (hR2.below h) (M4.IntsAt.below hM2 h)).mono (by rintro e w' ⟨a1, c1, rfl, ho, hb⟩; exact ⟨a1, c1, rfl, M5.own_ints ho, hb⟩)
        have Q2 : Hid (∀ V : World, Below V1.heap.size V1 V → Calls Try.prog 14 #[.slice f1 xs2.length d1, b2.v, .slice fm ms2.length dm, .int .i64 n2] V fun e w' => ∃ a1 c1, e = .returned (.tuple #[.slice a1 (RQ.delA xs2 b2 ms2 n2).length c1, .bool (RQ.delOk xs2 b2 ms2 n2)]) ∧ M4.IntsAt w' a1 (RQ.delA xs2 b2 ms2 n2) ∧ Below V.heap.size V w') := fun V h => (delS_any f1 fm d1 dm xs2 b2 ms2 n2 V (by omega) (by omega) (by omega) (hR2.below h) (M4.IntsAt.below hM2 h)).mono (by rintro e w' ⟨a1, c1, rfl, ho, hb⟩; exact ⟨a1, c1, rfl, M5.own_ints ho, hb⟩)
        have Q3 : Hid (∀ V : World, Below V1.heap.size V1 V → Calls Try.prog 10 #[.slice f1 xs2.length d1, .int .i64 b2.fr, .int .i64 b2.md] V fun e w' => ∃ a1 c1, e = .returned (.tuple #[.slice a1 (PN.earF xs2 b2.fr b2.md).length c1, .bool (PN.stOk xs2 b2.fr b2.md)]) ∧ M4.IntsAt w' a1 (PN.earF xs2 b2.fr b2.md) ∧ Below V.heap.size V w') := fun V h => (implEarF_any f1 d1 xs2 b2.fr b2.md V (by omega) (hR2.below h)).mono (by rintro e w' ⟨a1, c1, rfl, ho, hb⟩; exact ⟨a1, c1, rfl, M5.own_ints ho, hb⟩)
        have HD : Hid (RQ.delOk xs2 b2 ms2 n2 = true → PN.stOk xs2 b2.fr b2.md = true ∧ (PN.earF xs2 b2.fr b2.md).length = 8 ∧ ∀ j, j < (RQ.delA xs2 b2 ms2 n2).length → ∃ k : Nat, (RQ.delA xs2 b2 ms2 n2).getD j 0 = (k : Int) ∧ k < 8 ∧ (PN.earF xs2 b2.fr b2.md).getD k 0 ≤ n2 ∧ EG.hasB ms2 ((RQ.delA xs2 b2 ms2 n2).getD j 0) = true) := fun h => by
          have q := RQ.dq_of h
          rw [RQ.del_yes h]
          exact ⟨q.st, q.len, q.each⟩
        have HDL : Hid ((RQ.delA xs2 b2 ms2 n2).length ≤ 1048576) := RQ.delA_len xs2 b2 ms2 n2
        have HM2 : Hid (∀ V : World, Below V1.heap.size V1 V → M4.IntsAt V fm ms2) := fun V h => M4.IntsAt.below hM2 h
        have BA := BdAt.box V1 b2 25
        have BB := (Below.refl _ V1).alloc (Nat.le_refl _) (.cells #[.int .i64 b2.fr, .int .i64 b2.to, .bool b2.gr, .int .i64 b2.md, .int .i64 b2.no, .int .i64 b2.lf, .int .i64 b2.hp, .int .i64 b2.of, .int .i64 b2.tl, .string b2.py] 25)
        have hB3 := hB2.trans (BV1.mono hB2.size)
        have hWs := hB3.size
        clear hR2 hM2 hB2 BV1
        generalize RQ.delOk xs2 b2 ms2 n2 = OK2 at *
        generalize RQ.delA xs2 b2 ms2 n2 = DL at *
        generalize PN.earF xs2 b2.fr b2.md = EL2 at *
        generalize PN.stOk xs2 b2.fr b2.md = ST2 at *
        obtain ⟨fr2, to2, gr2, md2, no2, lf2, hp2, of2, tl2, py2⟩ := b2
        obtain ⟨hlt, c0_, c1_, c2_, c3_, c4_, c5_, c6_, c7_, c8_, c9_⟩ := id BA
        go_wp2_with fail
        refine (Q1.out _ BB).mono ?_
        rintro e V2 ⟨j1, k1, rfl, hJ1, hb⟩
        clear hlt c0_ c1_ c2_ c3_ c4_ c5_ c6_ c7_ c8_ c9_
        replace BA := BA.below hb BA.1
        replace BB := BB.trans (hb.mono BB.size)
        have HJ1 : Hid (M4.IntsAt V2 j1 DL) := hJ1
        clear hJ1
        clear hb Q1
        obtain ⟨hlt, c0_, c1_, c2_, c3_, c4_, c5_, c6_, c7_, c8_, c9_⟩ := id BA
        go_wp2_with fail
        refine (Q2.out _ BB).mono ?_
        rintro e V3 ⟨j2, k2, rfl, hJ2, hb⟩
        clear hlt c0_ c1_ c2_ c3_ c4_ c5_ c6_ c7_ c8_ c9_
        replace BA := BA.below hb BA.1
        replace BB := BB.trans (hb.mono BB.size)
        have HJ2 : Hid (M4.IntsAt V3 j2 DL) := hJ2
        replace HJ1 : Hid (M4.IntsAt V3 j1 DL) := M4.IntsAt.below HJ1.out hb
        clear hJ2
        clear hb Q2
        have hB4 := hB3.trans (BB.mono hB3.size)
        have DJ : Hid (Calls _ _ _ _ _) := dJoin_any a' ys cb V3 hy (HBY.out _ hB4)
        clear HBY
        go_wp2_with fail
        refine Calls.mono DJ.out ?_
        rintro e V4 ⟨g1, g2, e1, e2, m1, m2, rfl, hm1, hm2, hG1, hG2, hz1, -, hb⟩
        have U1 : Hid (∀ V : World, Below V4.heap.size V4 V → Calls Try.prog 16 #[.slice g1 m1.length e1, .slice g2 m2.length e2] V fun e w' => ∃ a1 c1, e = .returned (.tuple #[.slice a1 (GP.joinL m1 m2).length c1, .bool (GP.joinOk m1 m2)]) ∧ M4.IntsAt w' a1 (GP.joinL m1 m2) ∧ Below V.heap.size V w') := fun V h => (implJoin_any g1 g2 e1 e2 m1 m2 V (by omega) (by omega) (M4.IntsAt.below hG1 h) (M4.IntsAt.below hG2 h)).mono (by rintro e w' ⟨a1, c1, rfl, ho, hb⟩; exact ⟨a1, c1, rfl, M5.own_ints ho, hb⟩)
        have U2 : Hid (∀ V : World, Below V4.heap.size V4 V → Calls Try.prog 17 #[.slice g1 m1.length e1, .slice g2 m2.length e2] V fun e w' => ∃ a1 c1, e = .returned (.tuple #[.slice a1 (GP.joinL m1 m2).length c1, .bool (GP.joinOk m1 m2)]) ∧ M4.IntsAt w' a1 (GP.joinL m1 m2) ∧ Below V.heap.size V w') := fun V h => (specJoin_any g1 g2 e1 e2 m1 m2 V (by omega) (by omega) hz1 (M4.IntsAt.below hG1 h) (M4.IntsAt.below hG2 h)).mono (by rintro e w' ⟨a1, c1, rfl, ho, hb⟩; exact ⟨a1, c1, rfl, M5.own_ints ho, hb⟩)
        have HJL : Hid ((GP.joinL m1 m2).length ≤ 1048576) := GP.joinL_len m1 m2
        replace BA := BA.below hb BA.1
        replace BB := BB.trans (hb.mono BB.size)
        replace HJ1 : Hid (M4.IntsAt V4 j1 DL) := M4.IntsAt.below HJ1.out hb
        replace HJ2 : Hid (M4.IntsAt V4 j2 DL) := M4.IntsAt.below HJ2.out hb
        clear DJ hG1 hG2 hz1 hb hB4
        generalize GP.joinL m1 m2 = JL at *
        generalize GP.joinOk m1 m2 = JO at *
        go_wp2_with fail
        refine (U1.out _ (Below.refl _ _)).mono ?_
        rintro e V5 ⟨r1, s1, rfl, hr1, hb⟩
        have HX1 : Hid (M4.IntsAt V5 r1 JL) := hr1
        have hB5 := hb
        replace BA := BA.below hb BA.1
        replace BB := BB.trans (hb.mono BB.size)
        replace HJ1 : Hid (M4.IntsAt V5 j1 DL) := M4.IntsAt.below HJ1.out hb
        replace HJ2 : Hid (M4.IntsAt V5 j2 DL) := M4.IntsAt.below HJ2.out hb
        clear hr1 hb U1
        go_wp2_with fail
        refine (U2.out _ hB5).mono ?_
        rintro e V6 ⟨r2, s2, rfl, hr2, hb⟩
        have HX2 : Hid (M4.IntsAt V6 r2 JL) := hr2
        replace HX1 : Hid (M4.IntsAt V6 r1 JL) := M4.IntsAt.below HX1.out hb
        replace BA := BA.below hb BA.1
        replace BB := BB.trans (hb.mono BB.size)
        replace HJ1 : Hid (M4.IntsAt V6 j1 DL) := M4.IntsAt.below HJ1.out hb
        replace HJ2 : Hid (M4.IntsAt V6 j2 DL) := M4.IntsAt.below HJ2.out hb
        clear hr2 hb U2 hB5
        have SD : Hid (∀ V : World, Below V6.heap.size V6 V → Calls Try.prog 9 #[.slice j1 DL.length k1, .slice j2 DL.length k2] V fun e w' => e = .returned (.bool true) ∧ Below V.heap.size V w') := fun V hV => by
          have h := sameInts_any j1 j2 k1 k2 DL DL V (Nat.le_trans HDL.out (by omega)) (Nat.le_trans HDL.out (by omega)) (M4.IntsAt.below HJ1.out hV) (M4.IntsAt.below HJ2.out hV)
          rwa [show decide (DL = DL) = true by simp] at h
        have SJ : Hid (∀ V : World, Below V6.heap.size V6 V → Calls Try.prog 9 #[.slice r1 JL.length s1, .slice r2 JL.length s2] V fun e w' => e = .returned (.bool true) ∧ Below V.heap.size V w') := fun V hV => by
          have h := sameInts_any r1 r2 s1 s2 JL JL V (Nat.le_trans HJL.out (by omega)) (Nat.le_trans HJL.out (by omega)) (M4.IntsAt.below HX1.out hV) (M4.IntsAt.below HX2.out hV)
          rwa [show decide (JL = JL) = true by simp] at h
        have HJ6 : Hid (∀ V : World, Below V6.heap.size V6 V → M4.IntsAt V j1 DL) := fun V h => M4.IntsAt.below HJ1.out h
        have ho2 : (OK2 != OK2) = false := by simp
        have hj2 : (JO != JO) = false := by simp
        clear HJ1 HJ2 HX1 HX2 HJL
        go_wp2_with fail
        refine (SD.out _ (Below.refl _ _)).mono ?_
        rintro e V7 ⟨rfl, hb7⟩
        go_wp2_with fail
        refine (SJ.out _ hb7).mono ?_
        rintro e V8 ⟨rfl, hb8'⟩
        have hb8 := hb7.trans (hb8'.mono hb7.size)
        replace BA := BA.below hb8 BA.1
        replace BB := BB.trans (hb8.mono BB.size)
        have HJ8 : Hid (∀ V : World, Below V8.heap.size V8 V → M4.IntsAt V j1 DL) := fun V h => HJ6.out V (hb8.trans (h.mono hb8.size))
        have hB8 := hB3.trans (BB.mono hB3.size)
        clear SD SJ HJ6 hb7 hb8 hb8' hB3 hWs
        cases OK2 with
        | false =>
          clear BA BB HJ8 HD HDL HM2 Q3
          go_wp2
          go_ret
          exact ⟨rfl, hB8⟩
        | true =>
          obtain ⟨hst2, he8, HE⟩ := HD.out (by first | rfl | trivial)
          have HE2 : Hid _ := HE
          subst hst2
          rw [he8] at Q3
          have HE8 : Hid (EL2.length = 8) := he8
          have HMS : Hid (∀ V : World, Below V8.heap.size V8 V → M4.IntsAt V fm ms2) := fun V h => HM2.out V (BB.trans (h.mono BB.size))
          clear HD HE he8 HM2
          obtain ⟨hlt, c0_, c1_, c2_, c3_, c4_, c5_, c6_, c7_, c8_, c9_⟩ := id BA
          clear c1_ c2_ c4_ c5_ c6_ c7_ c8_ c9_
          go_wp2_with fail
          refine (Q3.out _ BB).mono ?_
          rintro e V9 ⟨p1, o1, rfl, hp1, hb⟩
          have HP1 : Hid (M4.IntsAt V9 p1 EL2) := hp1
          have HJ9 : Hid (M4.IntsAt V9 j1 DL) := HJ8.out _ hb
          have HM9 : Hid (M4.IntsAt V9 fm ms2) := HMS.out _ hb
          have hB9 := hB8.trans (hb.mono hB8.size)
          clear hlt c0_ c3_ hp1 hb HJ8 HMS BA BB Q3 hB8
          obtain ⟨dl, hdl⟩ : ∃ d, DL.length = d := ⟨_, rfl⟩
          have HDN : Hid (DL.length = dl) := hdl
          have hdm : dl ≤ 1048576 := by rw [← hdl]; exact HDL.out
          rw [hdl]
          clear hdl
          go_wp2
          go_loopw [283] (fun jv wv => ∃ j : Nat, jv = .int .i64 j ∧ j ≤ dl ∧ V9 = wv) (fun jv _ => (dl - intOf jv).toNat)
          case atStart => exact ⟨0, rfl, by omega, rfl⟩
          case round =>
            obtain ⟨j, rfl, hj, rfl⟩ := hrel
            by_cases hjl : j < dl
            · have kj : (j : Int) < (dl : Int) := by omega
              obtain ⟨q1, z1, rfl, hl1, hc1⟩ := RQ.IA.some HJ9.out (j := j) (by rw [HDN.out]; exact hjl)
              obtain ⟨k, hk1, hk8, hkn, hkh⟩ := HE2.out j (by rw [HDN.out]; exact hjl)
              rw [hk1] at hc1 hkh
              obtain ⟨q2, z2, rfl, hl2, hc2⟩ := RQ.IA.some HP1.out (j := k) (by rw [HE8.out]; exact hk8)
              have HH : Hid (Calls Try.prog 11 #[.slice fm ms2.length dm, .int .i64 (k : Int)] V9 fun e w' => e = .returned (.bool true) ∧ V9 = w') := by
                have h := hasL_any fm dm ms2 (k : Int) V9 (by omega) HM9.out
                rwa [hkh] at h
              have hdn : decide (n2 < EL2.getD k 0) = false := decide_eq_false (by omega)
              have kz : (k : Int) < 8 := by omega
              generalize EL2.getD k 0 = zk at *
              clear HE2 HJ9 HP1 HM9 HE8 HDN hk1 hkh HDL
              go_wp2_with fail
              refine Calls.mono HH.out ?_
              rintro e w9 ⟨rfl, rfl⟩
              clear HH hc1 hc2
              go_wp2
              go_roundw
              case rel => exact ⟨j + 1, by go_num, by omega, trivial⟩
              case measure => simp [intOf]; omega
            · obtain rfl : j = dl := by omega
              clear HE2 HJ9 HP1 HM9 HE8 HDN HDL
              go_wp2
              go_ret
              exact ⟨rfl, hB9⟩
  · go_enter Try.func3, Try.ntmps3
    go_wp2
    go_ret
    exact ⟨rfl, Below.refl _ _⟩
end Go.Proofs.Ytjplabldiheggaa
