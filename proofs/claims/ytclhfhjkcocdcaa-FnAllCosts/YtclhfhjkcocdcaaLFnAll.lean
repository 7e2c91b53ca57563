/- The law FnAllCosts answers true at every argument. -/
import Derived.Test.YtclhfhjkcocdcaaRows
import Derived.Test.YtclhfhjkcocdcaaCRdA
import Derived.Test.YtclhfhjkcocdcaaCRdX
import Derived.Test.YtclhfhjkcocdcaaCRdSW
import Derived.Test.YtclhfhjkcocdcaaCSameL
import Derived.Test.YtclhfhjkcocdcaaMRT
import Derived.WalkKit
import Derived.WalkSpells
import Derived.WalkLawsBesides
import Derived.Outline
import Derived.Deep.QuietTactic
import Derived.BigQuiet
namespace Go.Proofs.Ytclhfhjkcocdcaa
open Go.RowKit
set_option linter.unusedSimpArgs false in
set_option maxHeartbeats 12800000 in
set_option maxRecDepth 100000 in
theorem lawFnAll_any (a a' : Option Addr) (zs ys : List Int) (ca cb : Nat) (w : World) (hz : zs.length ≤ 140737488355328) (hy : ys.length ≤ 140737488355328) (hbz : MC.BytesAt w w.heap.size a zs) (hby : MC.BytesAt w w.heap.size a' ys) :
    Calls Try.prog 3 #[.slice a zs.length ca, .slice a' ys.length cb] w fun e w' => e = .returned (.bool true) ∧ Below w.heap.size w w' := by
  by_cases h20 : zs.length + ys.length ≤ 1048576
  · have HBY : Hid (∀ W : World, Below w.heap.size w W → MC.BytesAt W W.heap.size a' ys) := fun W h => (hby.only (q := w.heap.size) (MC.Only.of_below h) (Nat.le_refl _) (Nat.le_refl _)).up h.size
    clear hby
    go_enter Try.func3, Try.ntmps3
    go_wp2_with fail
    refine (drawAllCosts_any a zs ca _ hz hbz).mono ?_
    rintro e W ⟨a1, c1, xs, rfl, hx21, hR, BW⟩
    clear hbz
    obtain ⟨AL, hAL⟩ : ∃ AL, RD.alL xs = AL := ⟨_, rfl⟩
    obtain ⟨fi, hfi⟩ : ∃ fi, RD.fine xs = fi := ⟨_, rfl⟩
    obtain ⟨p, hp⟩ : ∃ p, RD.okP xs = p := ⟨_, rfl⟩
    obtain ⟨q, hq⟩ : ∃ q, RD.calm xs = q := ⟨_, rfl⟩
    have HX : Hid (MI3.RowAt W a1 xs) := hR
    have P1 : Hid _ := implAll_any a1 c1 xs W (by omega) hR AL hAL fi hfi
    have P2 : Hid (∀ V : World, Below W.heap.size W V → _) := fun V h => specAll_any a1 c1 xs V (by omega) (hR.below h) AL hAL fi hfi
    have P3 : Hid (∀ V : World, Below W.heap.size W V → _) := fun V h => hasGainI_any a1 c1 xs V (by omega) (hR.below h) p hp q (fun _ => hq)
    have P4 : Hid (∀ V : World, Below W.heap.size W V → _) := fun V h => hasGainS_any a1 c1 xs V (by omega) (hR.below h) p hp q (fun _ => hq)
    have P5 : Hid (∀ V : World, Below W.heap.size W V → _) := fun V h => implGoodRoads_any a1 c1 xs V (by omega) (hR.below h) p hp
    have CF : Hid (∀ (f : Int) (V : World), Below W.heap.size W V → ∀ (L : List Int), RD.cfL xs f = L → RD.may xs f = true → _) := fun f V h L hL hR' => implFrom_any a1 c1 xs f V (by omega) (hR.below h) L hL true hR'
    have hal : AL.length ≤ 1048576 := by rw [← hAL]; exact RD.alL_len xs
    have hat : NE.tot AL ≤ 1048576 := by rw [← hAL]; exact RD.alL_tot xs
    have FQ : Hid (fi = (p && q)) := by rw [← hfi, ← hp, ← hq]; rfl
    have AY : Hid (fi = true → RD.AQ xs AL (RD.frm xs)) := fun h => RD.aq_of (hfi.trans h) (by rw [← hAL, RD.alL_yes (hfi.trans h)]; rfl)
    have AN : Hid (fi = false → AL = []) := fun h => by rw [← hAL, RD.alL_no (hfi.trans h)]
    generalize RD.frm xs = C at *
    clear hR hAL hfi hp hq
    generalize hall : AL.length = al at *
    have HALL : Hid _ := hall
    clear hall
    go_wp2_with fail
    refine Calls.mono P1.out ?_
    rintro e w2 ⟨a2, c2, AA, CC, rfl, o2, b2⟩
    have P2a : Hid _ := P2.out w2 b2
    have O2 : Hid (NE.RowsAt w2 a2 AL) := o2.rows
    clear P1 P2 o2
    go_wp2_with fail
    refine Calls.mono P2a.out ?_
    rintro e w3 ⟨a3, c3, rfl, o3, b3⟩
    have b13 : Below W.heap.size W w3 := b2.trans (b3.mono b2.size)
    have R2 : Hid _ := O2.out.below b3
    have O3 : Hid (NE.RowsAt w3 a3 AL) := o3
    have P3a : Hid _ := P3.out w3 b13
    clear P2a P3 b2 O2 o3 b3
    go_wp2_with fail
    refine Calls.mono P3a.out ?_
    rintro e w4 ⟨rfl, b4⟩
    have b14 : Below W.heap.size W w4 := b13.trans (b4.mono b13.size)
    have R2b : Hid _ := R2.out.below b4
    have R3 : Hid _ := O3.out.below b4
    have P4a : Hid _ := P4.out w4 b14
    clear P3a P4 b13 R2 O3 b4
    go_wp2_with fail
    refine Calls.mono P4a.out ?_
    rintro e w5 ⟨rfl, b5⟩
    have b15 : Below W.heap.size W w5 := b14.trans (b5.mono b14.size)
    have H2 : Hid (NE.RowsAt w5 a2 AL) := R2b.out.below b5
    have H3 : Hid (NE.RowsAt w5 a3 AL) := R3.out.below b5
    have S0 : Hid _ := sameLists_any a2 a3 c2 c3 AL w5 (by rw [HALL.out]; exact hal) hat H2.out H3.out
    rw [HALL.out] at S0
    clear P4a b14 R2b R3 b5 H3
    cases fi with
    | false =>
      obtain rfl : AL = [] := AN.out rfl
      obtain rfl : al = 0 := HALL.out.symm
      clear AY AN H2 CF HX
      cases p with
      | false =>
        rw [Bool.false_and]
        clear FQ
        go_wp2_with fail
        refine Calls.mono S0.out ?_
        rintro e w6 ⟨rfl, b6⟩
        have b16 : Below W.heap.size W w6 := b15.trans (b6.mono b15.size)
        have P5a : Hid _ := P5.out w6 b16
        clear S0 b6 b15 P5
        go_wp2_with fail
        refine Calls.mono P5a.out ?_
        rintro e WB_ ⟨rfl, b7⟩
        have bB : Below w.heap.size w WB_ := BW.trans ((b16.trans (b7.mono b16.size)).mono BW.size)
        clear P5a b7 b16 BW
        have DW : Hid _ := drawWay_any a' ys cb WB_ hy (HBY.out WB_ bB)
        clear HBY
        go_wp2_with fail
        refine Calls.mono DW.out ?_
        rintro e w30 ⟨m1, n1, ms, f, t, rfl, hm21, hM, b30⟩
        have bC : Below w.heap.size w w30 := bB.trans (b30.mono bB.size)
        clear DW b30 bB
        obtain ⟨R, hR⟩ : ∃ R, RD.wbO ms f t = R := ⟨_, rfl⟩
        have K1 : Hid _ := implWay_any m1 n1 ms f t w30 (by omega) hM R hR
        have K2 : Hid (∀ V : World, Below w30.heap.size w30 V → _) := fun V h => specWay_any m1 n1 ms f t V (by omega) (hM.below h) R hR
        have K3 : Hid (∀ (c : RD.Cs) (V : World), Below w30.heap.size w30 V → RD.cfL ms f = RD.li c → RD.may ms f = true → _) := fun c V h h1 h2 => implFrom_any m1 n1 ms f V (by omega) (hM.below h) (RD.li c) h1 true h2
        have HWQ : Hid (∀ way, R = some way → ∃ c, RD.WQ ms f t way c) := fun way h => ⟨_, RD.wq_of (hR.trans h)⟩
        have hgl : (R.getD []).length ≤ 8 := by have := RD.wbL_len8 ms f t; rwa [RD.wbL, hR] at this
        have HMM : Hid _ := hM
        clear hR hM
        go_wp2_with fail
        refine Calls.mono K1.out ?_
        rintro e w31 ⟨a31, c31, rfl, o31, b31⟩
        have K2a : Hid _ := K2.out w31 b31
        have O31 : Hid _ := o31
        clear K1 K2 o31
        generalize hgd : R.getD [] = gd at *
        go_wp2_with fail
        refine Calls.mono K2a.out ?_
        rintro e w32 ⟨a32, c32, rfl, o32, b32⟩
        have b132 : Below w30.heap.size w30 w32 := b31.trans (b32.mono b31.size)
        have I31 : Hid (M4.IntsAt w32 a31 gd) := M4.IntsAt.below (M5.own_ints O31.out) b32
        have S1 : Hid _ := sameInts_any a31 a32 c31 c32 gd gd w32 (by omega) (by omega) I31.out (M5.own_ints o32)
        rw [decide_eq_true rfl] at S1
        clear K2a O31 o32 b31 b32
        cases R with
        | none =>
          obtain rfl : gd = [] := hgd.symm
          clear HWQ K3 I31 HMM hgd
          rw [show (none : Option (List Int)).isSome = false from rfl]
          go_wp2_with fail
          refine Calls.mono S1.out ?_
          rintro e w33 ⟨rfl, b33⟩
          clear S1
          have b133 := b132.trans (b33.mono b132.size)
          go_wp2
          go_ret
          exact ⟨rfl, bC.trans (b133.mono bC.size)⟩
        | some way =>
          obtain rfl : way = gd := hgd
          obtain ⟨c, hq⟩ := HWQ.out way rfl
          have HQ : Hid (RD.WQ ms f t way c) := hq
          obtain ⟨tn, htn⟩ := Int.eq_ofNat_of_zero_le hq.t0
          have ht8 : tn < 8 := by have := hq.t1; omega
          have tt8 : (tn : Int) < 8 := by omega
          have K3a : Hid (∀ V : World, Below w30.heap.size w30 V → _) := fun V h => K3.out c V h hq.cf.1 hq.cf.2
          have HPT : Hid (RD.Pth ms way f t (c tn)) := by have := hq.pt; rwa [htn, show ((tn : Int)).toNat = tn from by omega, ← htn] at this
          have HTN : Hid _ := htn
          subst htn
          clear hq HWQ K3 HTN
          rw [RD.li_len] at K3a
          rw [show (some way).isSome = true from rfl]
          generalize hwl : way.length = wl at *
          have HWL : Hid _ := hwl
          clear hwl
          go_wp2_with fail
          refine Calls.mono S1.out ?_
          rintro e w33 ⟨rfl, b33⟩
          have b133 := b132.trans (b33.mono b132.size)
          have I33 : Hid (M4.IntsAt w33 a31 way) := M4.IntsAt.below I31.out b33
          have K4 : Hid _ := K3a.out w33 b133
          clear S1 b33 b132 I31 K3a
          go_wp2_with fail
          refine Calls.mono K4.out ?_
          rintro e w34 ⟨a34, c34, rfl, o34, b34⟩
          have b134 := b133.trans (b34.mono b133.size)
          have BE : Below w.heap.size w w34 := bC.trans (b134.mono bC.size)
          have I34 : Hid (M4.IntsAt w34 a31 way) := M4.IntsAt.below I33.out b34
          have M34 : Hid (MI3.RowAt w34 m1 ms) := HMM.out.below b134
          have C34 : Hid (M4.IntsAt w34 a34 (RD.li c)) := M5.own_ints o34
          clear K4 o34 b34 b133 b134 I33 HMM bC
          go_wp2
          go_loopw [30, 31, 266] (fun nv av iv wr => ∃ (k : Nat) (x s : Int), iv = .int .i64 k ∧ nv = .int .i64 s ∧ av = .int .i64 x ∧ k ≤ wl ∧ -(100 * k) ≤ s ∧ s ≤ 100 * k ∧ Hid (RD.Pth ms (way.drop k) x (tn : Int) (c tn - s)) ∧ w34 = wr) (fun _ _ iv _ => (wl - intOf iv).toNat)
          case atStart => exact ⟨0, f, 0, rfl, rfl, rfl, by omega, by omega, by omega, by rw [List.drop_zero, Int.sub_zero]; exact HPT, rfl⟩
          case round =>
            clear HPT
            obtain ⟨k, x, s, rfl, rfl, rfl, hk, hs1, hs2, hP, rfl⟩ := hrel
            by_cases hlk : k < wl
            · obtain ⟨j, hj, hjk, hjx, hP2⟩ := RD.Pth.step (by rw [HWL.out]; exact hlk) hP.out
              obtain ⟨b1, off1, hab1, hlt1, y0⟩ := M4.IntsAt.at I34.out (k := k) (by rw [HWL.out]; exact hlk)
              rw [hjk] at y0
              obtain ⟨b2, off2, hab2, hlt2, c0, c1', c2'⟩ := M34.out.at hj
              have G := HQ.out.gd j hj
              have HP3 : Hid _ := hP2
              have hji : (j : Int) < (ms.length : Int) := by omega
              clear hP hP2 hjk
              generalize MI3.at_ ms j = xx at *
              obtain ⟨x0, x1, x2⟩ := xx
              have l2 := G.c0
              have u2 := G.c1
              simp only at l2 u2 hjx
              subst hjx
              subst hab1 hab2
              clear G HQ M34 I34 C34
              go_wp2
              go_roundw
              case rel => exact ⟨k + 1, x1, s + x2, by go_num, rfl, rfl, by omega, by omega, by omega, by rw [show c tn - (s + x2) = c tn - s - x2 from by omega]; exact HP3, trivial⟩
              case measure => simp [intOf]; omega
            · obtain rfl : k = wl := by omega
              have hP' := hP.out
              rw [← HWL.out] at hP'
              obtain ⟨e1, e2⟩ := RD.Pth.end hP'
              obtain rfl : s = c tn := by omega
              subst e1
              obtain ⟨b1, off1, hab1, hlt1, y0⟩ := M4.IntsAt.at C34.out (k := tn) (by rw [RD.li_len]; exact ht8)
              rw [RD.li_get c ht8] at y0
              subst hab1
              clear hP hP' HQ M34 I34 C34 e2 hs1 hs2
              generalize c tn = zc at *
              go_wp2
              go_ret
              exact ⟨rfl, BE⟩
      | true =>
        obtain rfl : q = false := by have := FQ.out; simpa using this.symm
        rw [Bool.not_false, Bool.and_true]
        clear FQ
        go_wp2_with fail
        refine Calls.mono S0.out ?_
        rintro e w6 ⟨rfl, b6⟩
        have b16 : Below W.heap.size W w6 := b15.trans (b6.mono b15.size)
        have P5a : Hid _ := P5.out w6 b16
        clear S0 b6 b15 P5
        go_wp2_with fail
        refine Calls.mono P5a.out ?_
        rintro e WB_ ⟨rfl, b7⟩
        have bB : Below w.heap.size w WB_ := BW.trans ((b16.trans (b7.mono b16.size)).mono BW.size)
        clear P5a b7 b16 BW
        have DW : Hid _ := drawWay_any a' ys cb WB_ hy (HBY.out WB_ bB)
        clear HBY
        go_wp2_with fail
        refine Calls.mono DW.out ?_
        rintro e w30 ⟨m1, n1, ms, f, t, rfl, hm21, hM, b30⟩
        have bC : Below w.heap.size w w30 := bB.trans (b30.mono bB.size)
        clear DW b30 bB
        obtain ⟨R, hR⟩ : ∃ R, RD.wbO ms f t = R := ⟨_, rfl⟩
        have K1 : Hid _ := implWay_any m1 n1 ms f t w30 (by omega) hM R hR
        have K2 : Hid (∀ V : World, Below w30.heap.size w30 V → _) := fun V h => specWay_any m1 n1 ms f t V (by omega) (hM.below h) R hR
        have K3 : Hid (∀ (c : RD.Cs) (V : World), Below w30.heap.size w30 V → RD.cfL ms f = RD.li c → RD.may ms f = true → _) := fun c V h h1 h2 => implFrom_any m1 n1 ms f V (by omega) (hM.below h) (RD.li c) h1 true h2
        have HWQ : Hid (∀ way, R = some way → ∃ c, RD.WQ ms f t way c) := fun way h => ⟨_, RD.wq_of (hR.trans h)⟩
        have hgl : (R.getD []).length ≤ 8 := by have := RD.wbL_len8 ms f t; rwa [RD.wbL, hR] at this
        have HMM : Hid _ := hM
        clear hR hM
        go_wp2_with fail
        refine Calls.mono K1.out ?_
        rintro e w31 ⟨a31, c31, rfl, o31, b31⟩
        have K2a : Hid _ := K2.out w31 b31
        have O31 : Hid _ := o31
        clear K1 K2 o31
        generalize hgd : R.getD [] = gd at *
        go_wp2_with fail
        refine Calls.mono K2a.out ?_
        rintro e w32 ⟨a32, c32, rfl, o32, b32⟩
        have b132 : Below w30.heap.size w30 w32 := b31.trans (b32.mono b31.size)
        have I31 : Hid (M4.IntsAt w32 a31 gd) := M4.IntsAt.below (M5.own_ints O31.out) b32
        have S1 : Hid _ := sameInts_any a31 a32 c31 c32 gd gd w32 (by omega) (by omega) I31.out (M5.own_ints o32)
        rw [decide_eq_true rfl] at S1
        clear K2a O31 o32 b31 b32
        cases R with
        | none =>
          obtain rfl : gd = [] := hgd.symm
          clear HWQ K3 I31 HMM hgd
          rw [show (none : Option (List Int)).isSome = false from rfl]
          go_wp2_with fail
          refine Calls.mono S1.out ?_
          rintro e w33 ⟨rfl, b33⟩
          clear S1
          have b133 := b132.trans (b33.mono b132.size)
          go_wp2
          go_ret
          exact ⟨rfl, bC.trans (b133.mono bC.size)⟩
        | some way =>
          obtain rfl : way = gd := hgd
          obtain ⟨c, hq⟩ := HWQ.out way rfl
          have HQ : Hid (RD.WQ ms f t way c) := hq
          obtain ⟨tn, htn⟩ := Int.eq_ofNat_of_zero_le hq.t0
          have ht8 : tn < 8 := by have := hq.t1; omega
          have tt8 : (tn : Int) < 8 := by omega
          have K3a : Hid (∀ V : World, Below w30.heap.size w30 V → _) := fun V h => K3.out c V h hq.cf.1 hq.cf.2
          have HPT : Hid (RD.Pth ms way f t (c tn)) := by have := hq.pt; rwa [htn, show ((tn : Int)).toNat = tn from by omega, ← htn] at this
          have HTN : Hid _ := htn
          subst htn
          clear hq HWQ K3 HTN
          rw [RD.li_len] at K3a
          rw [show (some way).isSome = true from rfl]
          generalize hwl : way.length = wl at *
          have HWL : Hid _ := hwl
          clear hwl
          go_wp2_with fail
          refine Calls.mono S1.out ?_
          rintro e w33 ⟨rfl, b33⟩
          have b133 := b132.trans (b33.mono b132.size)
          have I33 : Hid (M4.IntsAt w33 a31 way) := M4.IntsAt.below I31.out b33
          have K4 : Hid _ := K3a.out w33 b133
          clear S1 b33 b132 I31 K3a
          go_wp2_with fail
          refine Calls.mono K4.out ?_
          rintro e w34 ⟨a34, c34, rfl, o34, b34⟩
          have b134 := b133.trans (b34.mono b133.size)
          have BE : Below w.heap.size w w34 := bC.trans (b134.mono bC.size)
          have I34 : Hid (M4.IntsAt w34 a31 way) := M4.IntsAt.below I33.out b34
          have M34 : Hid (MI3.RowAt w34 m1 ms) := HMM.out.below b134
          have C34 : Hid (M4.IntsAt w34 a34 (RD.li c)) := M5.own_ints o34
          clear K4 o34 b34 b133 b134 I33 HMM bC
          go_wp2
          go_loopw [30, 31, 266] (fun nv av iv wr => ∃ (k : Nat) (x s : Int), iv = .int .i64 k ∧ nv = .int .i64 s ∧ av = .int .i64 x ∧ k ≤ wl ∧ -(100 * k) ≤ s ∧ s ≤ 100 * k ∧ Hid (RD.Pth ms (way.drop k) x (tn : Int) (c tn - s)) ∧ w34 = wr) (fun _ _ iv _ => (wl - intOf iv).toNat)
          case atStart => exact ⟨0, f, 0, rfl, rfl, rfl, by omega, by omega, by omega, by rw [List.drop_zero, Int.sub_zero]; exact HPT, rfl⟩
          case round =>
            clear HPT
            obtain ⟨k, x, s, rfl, rfl, rfl, hk, hs1, hs2, hP, rfl⟩ := hrel
            by_cases hlk : k < wl
            · obtain ⟨j, hj, hjk, hjx, hP2⟩ := RD.Pth.step (by rw [HWL.out]; exact hlk) hP.out
              obtain ⟨b1, off1, hab1, hlt1, y0⟩ := M4.IntsAt.at I34.out (k := k) (by rw [HWL.out]; exact hlk)
              rw [hjk] at y0
              obtain ⟨b2, off2, hab2, hlt2, c0, c1', c2'⟩ := M34.out.at hj
              have G := HQ.out.gd j hj
              have HP3 : Hid _ := hP2
              have hji : (j : Int) < (ms.length : Int) := by omega
              clear hP hP2 hjk
              generalize MI3.at_ ms j = xx at *
              obtain ⟨x0, x1, x2⟩ := xx
              have l2 := G.c0
              have u2 := G.c1
              simp only at l2 u2 hjx
              subst hjx
              subst hab1 hab2
              clear G HQ M34 I34 C34
              go_wp2
              go_roundw
              case rel => exact ⟨k + 1, x1, s + x2, by go_num, rfl, rfl, by omega, by omega, by omega, by rw [show c tn - (s + x2) = c tn - s - x2 from by omega]; exact HP3, trivial⟩
              case measure => simp [intOf]; omega
            · obtain rfl : k = wl := by omega
              have hP' := hP.out
              rw [← HWL.out] at hP'
              obtain ⟨e1, e2⟩ := RD.Pth.end hP'
              obtain rfl : s = c tn := by omega
              subst e1
              obtain ⟨b1, off1, hab1, hlt1, y0⟩ := M4.IntsAt.at C34.out (k := tn) (by rw [RD.li_len]; exact ht8)
              rw [RD.li_get c ht8] at y0
              subst hab1
              clear hP hP' HQ M34 I34 C34 e2 hs1 hs2
              generalize c tn = zc at *
              go_wp2
              go_ret
              exact ⟨rfl, BE⟩
    | true =>
      have Q := AY.out rfl
      have HQ : Hid (RD.AQ xs AL C) := Q
      obtain rfl : al = 8 := by rw [← HALL.out, Q.ln]
      obtain ⟨rfl, rfl⟩ : p = true ∧ q = true := by
        have h := FQ.out.symm
        rwa [Bool.and_eq_true] at h
      clear AY AN FQ
      rw [Bool.not_true, Bool.and_false]
      go_wp2_with fail
      refine Calls.mono S0.out ?_
      rintro e w6 ⟨rfl, b6⟩
      have b16 : Below W.heap.size W w6 := b15.trans (b6.mono b15.size)
      have H26 : Hid (NE.RowsAt w6 a2 AL) := H2.out.below b6
      have P5a : Hid _ := P5.out w6 b16
      clear S0 b6 b15 P5 H2
      go_wp2_with fail
      refine Calls.mono P5a.out ?_
      rintro e w7 ⟨rfl, b7⟩
      have b17 : Below W.heap.size W w7 := b16.trans (b7.mono b16.size)
      have BV : Below w.heap.size w w7 := BW.trans (b17.mono BW.size)
      have HX7 : Hid (MI3.RowAt w7 a1 xs) := HX.out.below b17
      have h27 := H26.out.below b7
      obtain ⟨b2, off2, _, _, ha2, hlt2, -, -, -⟩ := h27.at (j := 0) (by rw [Q.ln]; omega)
      subst ha2
      have HROW : Hid (∀ a, a < 8 → ∃ bj oj cj, bj < w7.heap.size ∧ w7.cell? ⟨b2, off2 + a, none⟩ = some (.slice (some ⟨bj, oj, none⟩) 8 cj) ∧ ∀ v, v < 8 → w7.cell? ⟨bj, oj + v, none⟩ = some (.int .i64 (C a v))) := fun a ha => by
        obtain ⟨b, off, aj, cj, he, -, hc, -, hi⟩ := h27.at (j := a) (by rw [Q.ln]; exact ha)
        simp only [Option.some.injEq, Addr.mk.injEq, and_true] at he
        obtain ⟨rfl, rfl⟩ := he
        rw [show NE.rw_ AL a = RD.li (C a) from Q.rw_ a ha] at hc hi
        rw [RD.li_len] at hc
        obtain ⟨bj, oj, rfl, hlt, -⟩ := M4.IntsAt.at hi (k := 0) (by rw [RD.li_len]; omega)
        refine ⟨bj, oj, cj, hlt, hc, fun v hv => ?_⟩
        obtain ⟨bj', oj', he, _, h⟩ := M4.IntsAt.at hi (k := v) (by rw [RD.li_len]; exact hv)
        simp only [Option.some.injEq, Addr.mk.injEq, and_true] at he
        obtain ⟨rfl, rfl⟩ := he
        rw [RD.li_get _ hv] at h
        exact h
      have HINT : Hid (∀ (a : Nat) (V : World) (bj oj : Nat), bj < w7.heap.size → (∀ v, v < 8 → w7.cell? ⟨bj, oj + v, none⟩ = some (.int .i64 (C a v))) → Below w7.heap.size w7 V → M4.IntsAt V (some ⟨bj, oj, none⟩) (RD.li (C a))) := fun a V bj oj hlt hc hb => .inr ⟨bj, oj, rfl, Nat.lt_of_lt_of_le hlt hb.size, fun j hj => by
        have hj8 : j < 8 := by rwa [RD.li_len] at hj
        rw [RD.li_get _ hj8]
        exact (hb.cell (p := ⟨bj, oj + j, none⟩) hlt).trans (hc j hj8)⟩
      clear Q h27 H26 P5a HX b7 b16 BW
      go_wp2
      go_loopw [99] (fun iv wr => ∃ k : Nat, iv = .int .i64 k ∧ k ≤ 8 ∧ Below w7.heap.size w7 wr) (fun iv _ => (8 - intOf iv).toNat)
      case atStart => exact ⟨0, rfl, by omega, Below.refl _ _⟩
      case round =>
        obtain ⟨k, rfl, hk, hb⟩ := hrel
        by_cases hl : k < 8
        · have kk : (k : Int) < 8 := by omega
          obtain ⟨hcf1, hcf2⟩ := HQ.out.cf k hl
          have CF1 : Hid _ := CF.out (k : Int) wr (b17.trans (hb.mono b17.size)) (RD.li (C k)) hcf1 hcf2
          rw [RD.li_len] at CF1
          clear hcf1 hcf2
          go_wp2_with fail
          refine Calls.mono CF1.out ?_
          rintro e w8 ⟨a8, c8, rfl, o8, b8⟩
          have hb8 : Below w7.heap.size w7 w8 := hb.trans (b8.mono hb.size)
          obtain ⟨bk, ok, ck, hbk, hck, hvk⟩ := HROW.out k hl
          have d0 := (hb8.cell (p := ⟨b2, off2 + k, none⟩) hlt2).trans hck
          have hl28 := Nat.lt_of_lt_of_le hlt2 hb8.size
          have S2 : Hid _ := sameInts_any a8 (some ⟨bk, ok, none⟩) c8 ck (RD.li (C k)) (RD.li (C k)) w8 (by rw [RD.li_len]; omega) (by rw [RD.li_len]; omega) (M5.own_ints o8) (HINT.out k w8 bk ok hbk hvk hb8)
          rw [decide_eq_true rfl, RD.li_len] at S2
          have HVK : Hid _ := hvk
          clear CF1 o8 b8 hb hvk
          go_wp2_with fail
          refine Calls.mono S2.out ?_
          rintro e w9 ⟨rfl, b9⟩
          have hb9 : Below w7.heap.size w7 w9 := hb8.trans (b9.mono hb8.size)
          have d1 := (hb9.cell (p := ⟨b2, off2 + k, none⟩) hlt2).trans hck
          have hl29 := Nat.lt_of_lt_of_le hlt2 hb9.size
          have hbk9 := Nat.lt_of_lt_of_le hbk hb9.size
          have d2 := (hb9.cell (p := ⟨bk, ok + k, none⟩) hbk).trans (HVK.out k hl)
          rw [HQ.out.self k] at d2
          clear S2 b9 hb8 d0 hl28
          go_wp2
          clear d1 d2 hl29 hbk9
          go_loopw [131] (fun iv wr => ∃ j : Nat, iv = .int .i64 j ∧ j ≤ xs.length ∧ Below w7.heap.size w7 wr) (fun iv _ => (xs.length - intOf iv).toNat)
          case atStart => exact ⟨0, rfl, by omega, hb9⟩
          case round =>
            clear hb9
            obtain ⟨j, rfl, hj, hb⟩ := hrel
            by_cases hlj : j < xs.length
            · obtain ⟨b1, off1, hab1, hlt1, c0, c1', c2'⟩ := (HX7.out.below hb).at hlj
              have G := HQ.out.gd j hlj
              have hfe := HQ.out.fe k j hlj
              have hbA : ∀ o, Below w7.heap.size w7 (wr.alloc o) := fun o => hb.alloc hb.size o
              generalize MI3.at_ xs j = x at *
              obtain ⟨x0, x1, x2⟩ := x
              obtain ⟨i, hi⟩ := Int.eq_ofNat_of_zero_le G.f0
              obtain ⟨t, ht⟩ := Int.eq_ofNat_of_zero_le G.t0
              have hi7 := G.f1
              have ht7 := G.t1
              have l2 := G.c0
              have u2 := G.c1
              simp only at hi ht hi7 ht7 l2 u2
              subst hi ht
              simp only [show ((i : Int)).toNat = i from by omega, show ((t : Int)).toNat = t from by omega] at hfe
              have hi8 : i < 8 := by omega
              have ht8 : t < 8 := by omega
              have ii8 : (i : Int) < 8 := by omega
              have tt8 : (t : Int) < 8 := by omega
              have HBA : Hid (Below w7.heap.size w7 (wr.alloc (.cells #[.int .i64 (i : Int), .int .i64 (t : Int), .int .i64 x2] 37))) := hbA _
              have E0 : Hid ((wr.alloc (.cells #[.int .i64 (i : Int), .int .i64 (t : Int), .int .i64 x2] 37)).cell? ⟨b2, off2 + k, none⟩ = some (.slice (some ⟨bk, ok, none⟩) 8 ck)) := (HBA.out.cell (p := ⟨b2, off2 + k, none⟩) hlt2).trans hck
              have E1 : Hid ((wr.alloc (.cells #[.int .i64 (i : Int), .int .i64 (t : Int), .int .i64 x2] 37)).cell? ⟨bk, ok + i, none⟩ = some (.int .i64 (C k i))) := (HBA.out.cell (p := ⟨bk, ok + i, none⟩) hbk).trans (HVK.out i hi8)
              have E2 : Hid ((wr.alloc (.cells #[.int .i64 (i : Int), .int .i64 (t : Int), .int .i64 x2] 37)).cell? ⟨bk, ok + t, none⟩ = some (.int .i64 (C k t))) := (HBA.out.cell (p := ⟨bk, ok + t, none⟩) hbk).trans (HVK.out t ht8)
              have Q0 : Hid ((wr.alloc (.cells #[.int .i64 (i : Int), .int .i64 (t : Int), .int .i64 x2] 37)).cell? ⟨wr.heap.size, 0, none⟩ = some (.int .i64 (i : Int))) := by show _ = _; simp
              have Q1 : Hid ((wr.alloc (.cells #[.int .i64 (i : Int), .int .i64 (t : Int), .int .i64 x2] 37)).cell? ⟨wr.heap.size, 1, none⟩ = some (.int .i64 (t : Int))) := by show _ = _; simp
              have Q2 : Hid ((wr.alloc (.cells #[.int .i64 (i : Int), .int .i64 (t : Int), .int .i64 x2] 37)).cell? ⟨wr.heap.size, 2, none⟩ = some (.int .i64 x2)) := by show _ = _; simp
              have hzb := HQ.out.bd k i
              clear HX7 HQ HROW HINT CF G hbA hb HVK HBY HALL
              generalize C k i = zi at *
              generalize C k t = zt at *
              subst hab1
              go_wp2_with fail
              clear c0 c1' c2' hlt1
              generalize (wr.alloc (.cells #[.int .i64 (i : Int), .int .i64 (t : Int), .int .i64 x2] 37)) = W1 at *
              generalize wr.heap.size = qb at *
              have g0 := E0.out
              have g1 := E1.out
              have g2 := E2.out
              have q0 := Q0.out
              have q1 := Q1.out
              have q2 := Q2.out
              clear E0 E1 E2 Q0 Q1 Q2
              unfold RD.far at *
              by_cases e1 : zi < 1000000000
              · have t1 : decide (zi < 1000000000) = true := decide_eq_true e1
                have hz2 := hfe e1
                have l3 : -700 ≤ zi := by omega
                have u3 : zi ≤ 700 := by omega
                have t2 : decide (zi + x2 < zt) = false := decide_eq_false (by omega)
                clear hfe hzb hz2
                go_quiet (fail)
                have HB2 : Hid _ := below_drewN HBA.out nq
                clear HBA g0 g1 g2 q0 q1 q2
                generalize W1.drewN nq = W9 at *
                go_wp2
                go_roundw
                case rel => exact ⟨j + 1, by go_num, by omega, HB2.out⟩
                case measure => simp [intOf]; omega
              · have t1 : decide (zi < 1000000000) = false := decide_eq_false e1
                clear hfe hzb
                go_quiet (fail)
                have HB2 : Hid _ := below_drewN HBA.out nq
                clear HBA g0 g1 g2 q0 q1 q2
                generalize W1.drewN nq = W9 at *
                go_wp2
                go_roundw
                case rel => exact ⟨j + 1, by go_num, by omega, HB2.out⟩
                case measure => simp [intOf]; omega
            · obtain rfl : j = xs.length := by omega
              go_wp2
              go_loopw [169] (fun iv wr => ∃ m : Nat, iv = .int .i64 m ∧ m ≤ 8 ∧ Below w7.heap.size w7 wr) (fun iv _ => (8 - intOf iv).toNat)
              case atStart => exact ⟨0, rfl, by omega, hb⟩
              case round =>
                clear hb
                obtain ⟨m, rfl, hm, hb⟩ := hrel
                by_cases hlm : m < 8
                · have mm : (m : Int) < 8 := by omega
                  obtain ⟨bm, om, cm, hbm, hcm, hvm⟩ := HROW.out m hlm
                  have HVM : Hid _ := hvm
                  clear hvm
                  go_wp2
                  go_loopw [174] (fun iv wr => ∃ d : Nat, iv = .int .i64 d ∧ d ≤ 8 ∧ Below w7.heap.size w7 wr) (fun iv _ => (8 - intOf iv).toNat)
                  case atStart => exact ⟨0, rfl, by omega, hb⟩
                  case round =>
                    clear hb
                    obtain ⟨d, rfl, hd, hb⟩ := hrel
                    by_cases hld : d < 8
                    · have dd : (d : Int) < 8 := by omega
                      have g0 := (hb.cell (p := ⟨b2, off2 + k, none⟩) hlt2).trans hck
                      have g1 := (hb.cell (p := ⟨b2, off2 + m, none⟩) hlt2).trans hcm
                      have g2 := (hb.cell (p := ⟨bk, ok + m, none⟩) hbk).trans (HVK.out m hlm)
                      have g3 := (hb.cell (p := ⟨bk, ok + d, none⟩) hbk).trans (HVK.out d hld)
                      have g4 := (hb.cell (p := ⟨bm, om + d, none⟩) hbm).trans (HVM.out d hld)
                      have htr := HQ.out.tr k m d
                      have h1 := HQ.out.bd k m
                      have h2 := HQ.out.bd m d
                      have HB : Hid _ := hb
                      clear HX7 HQ HROW HINT CF HVK HVM HBY HALL hb
                      generalize C k m = y1 at *
                      generalize C m d = y2 at *
                      generalize C k d = y3 at *
                      unfold RD.far at *
                      by_cases e1 : y1 < 1000000000
                      · have t1 : decide (y1 < 1000000000) = true := decide_eq_true e1
                        by_cases e2 : y2 < 1000000000
                        · have t2 : decide (y2 < 1000000000) = true := decide_eq_true e2
                          have h3 := htr e1 e2
                          have l1 : -700 ≤ y1 := by omega
                          have u1 : y1 ≤ 700 := by omega
                          have l2 : -700 ≤ y2 := by omega
                          have u2 : y2 ≤ 700 := by omega
                          have t3 : decide (y1 + y2 < y3) = false := decide_eq_false (by omega)
                          clear htr h1 h2 h3
                          go_wp2_with fail
                          go_quiet (fail)
                          have HB2 : Hid _ := below_drewN HB.out nq
                          clear HB g0 g1 g2 g3 g4
                          generalize wr.drewN nq = W9 at *
                          go_wp2
                          go_roundw
                          case rel => exact ⟨d + 1, by go_num, by omega, HB2.out⟩
                          case measure => simp [intOf]; omega
                        · have t2 : decide (y2 < 1000000000) = false := decide_eq_false e2
                          clear htr h1 h2
                          go_wp2_with fail
                          go_quiet (fail)
                          have HB2 : Hid _ := below_drewN HB.out nq
                          clear HB g0 g1 g2 g3 g4
                          generalize wr.drewN nq = W9 at *
                          go_wp2
                          go_roundw
                          case rel => exact ⟨d + 1, by go_num, by omega, HB2.out⟩
                          case measure => simp [intOf]; omega
                      · have t1 : decide (y1 < 1000000000) = false := decide_eq_false e1
                        clear htr h1 h2
                        go_wp2_with fail
                        go_quiet (fail)
                        have HB2 : Hid _ := below_drewN HB.out nq
                        clear HB g0 g1 g2 g3 g4
                        generalize wr.drewN nq = W9 at *
                        go_wp2
                        go_roundw
                        case rel => exact ⟨d + 1, by go_num, by omega, HB2.out⟩
                        case measure => simp [intOf]; omega
                    · obtain rfl : d = 8 := by omega
                      go_wp2
                      go_roundw
                      case rel => exact ⟨m + 1, by go_num, by omega, hb⟩
                      case measure => simp [intOf]; omega
                · obtain rfl : m = 8 := by omega
                  go_wp2
                  go_roundw
                  case rel => exact ⟨k + 1, by go_num, by omega, hb⟩
                  case measure => simp [intOf]; omega
        · obtain rfl : k = 8 := by omega
          obtain ⟨WB_, hWB⟩ : ∃ WB_, WB_ = wr := ⟨_, rfl⟩
          subst hWB
          have bB : Below w.heap.size w WB_ := BV.trans (hb.mono BV.size)
          clear hb HX7 HQ HROW HINT CF HALL b17 BV
          have DW : Hid _ := drawWay_any a' ys cb WB_ hy (HBY.out WB_ bB)
          clear HBY
          go_wp2_with fail
          refine Calls.mono DW.out ?_
          rintro e w30 ⟨m1, n1, ms, f, t, rfl, hm21, hM, b30⟩
          have bC : Below w.heap.size w w30 := bB.trans (b30.mono bB.size)
          clear DW b30 bB
          obtain ⟨R, hR⟩ : ∃ R, RD.wbO ms f t = R := ⟨_, rfl⟩
          have K1 : Hid _ := implWay_any m1 n1 ms f t w30 (by omega) hM R hR
          have K2 : Hid (∀ V : World, Below w30.heap.size w30 V → _) := fun V h => specWay_any m1 n1 ms f t V (by omega) (hM.below h) R hR
          have K3 : Hid (∀ (c : RD.Cs) (V : World), Below w30.heap.size w30 V → RD.cfL ms f = RD.li c → RD.may ms f = true → _) := fun c V h h1 h2 => implFrom_any m1 n1 ms f V (by omega) (hM.below h) (RD.li c) h1 true h2
          have HWQ : Hid (∀ way, R = some way → ∃ c, RD.WQ ms f t way c) := fun way h => ⟨_, RD.wq_of (hR.trans h)⟩
          have hgl : (R.getD []).length ≤ 8 := by have := RD.wbL_len8 ms f t; rwa [RD.wbL, hR] at this
          have HMM : Hid _ := hM
          clear hR hM
          go_wp2_with fail
          refine Calls.mono K1.out ?_
          rintro e w31 ⟨a31, c31, rfl, o31, b31⟩
          have K2a : Hid _ := K2.out w31 b31
          have O31 : Hid _ := o31
          clear K1 K2 o31
          generalize hgd : R.getD [] = gd at *
          go_wp2_with fail
          refine Calls.mono K2a.out ?_
          rintro e w32 ⟨a32, c32, rfl, o32, b32⟩
          have b132 : Below w30.heap.size w30 w32 := b31.trans (b32.mono b31.size)
          have I31 : Hid (M4.IntsAt w32 a31 gd) := M4.IntsAt.below (M5.own_ints O31.out) b32
          have S1 : Hid _ := sameInts_any a31 a32 c31 c32 gd gd w32 (by omega) (by omega) I31.out (M5.own_ints o32)
          rw [decide_eq_true rfl] at S1
          clear K2a O31 o32 b31 b32
          cases R with
          | none =>
            obtain rfl : gd = [] := hgd.symm
            clear HWQ K3 I31 HMM hgd
            rw [show (none : Option (List Int)).isSome = false from rfl]
            go_wp2_with fail
            refine Calls.mono S1.out ?_
            rintro e w33 ⟨rfl, b33⟩
            clear S1
            have b133 := b132.trans (b33.mono b132.size)
            go_wp2
            go_ret
            exact ⟨rfl, bC.trans (b133.mono bC.size)⟩
          | some way =>
            obtain rfl : way = gd := hgd
            obtain ⟨c, hq⟩ := HWQ.out way rfl
            have HQ : Hid (RD.WQ ms f t way c) := hq
            obtain ⟨tn, htn⟩ := Int.eq_ofNat_of_zero_le hq.t0
            have ht8 : tn < 8 := by have := hq.t1; omega
            have tt8 : (tn : Int) < 8 := by omega
            have K3a : Hid (∀ V : World, Below w30.heap.size w30 V → _) := fun V h => K3.out c V h hq.cf.1 hq.cf.2
            have HPT : Hid (RD.Pth ms way f t (c tn)) := by have := hq.pt; rwa [htn, show ((tn : Int)).toNat = tn from by omega, ← htn] at this
            have HTN : Hid _ := htn
            subst htn
            clear hq HWQ K3 HTN
            rw [RD.li_len] at K3a
            rw [show (some way).isSome = true from rfl]
            generalize hwl : way.length = wl at *
            have HWL : Hid _ := hwl
            clear hwl
            go_wp2_with fail
            refine Calls.mono S1.out ?_
            rintro e w33 ⟨rfl, b33⟩
            have b133 := b132.trans (b33.mono b132.size)
            have I33 : Hid (M4.IntsAt w33 a31 way) := M4.IntsAt.below I31.out b33
            have K4 : Hid _ := K3a.out w33 b133
            clear S1 b33 b132 I31 K3a
            go_wp2_with fail
            refine Calls.mono K4.out ?_
            rintro e w34 ⟨a34, c34, rfl, o34, b34⟩
            have b134 := b133.trans (b34.mono b133.size)
            have BE : Below w.heap.size w w34 := bC.trans (b134.mono bC.size)
            have I34 : Hid (M4.IntsAt w34 a31 way) := M4.IntsAt.below I33.out b34
            have M34 : Hid (MI3.RowAt w34 m1 ms) := HMM.out.below b134
            have C34 : Hid (M4.IntsAt w34 a34 (RD.li c)) := M5.own_ints o34
            clear K4 o34 b34 b133 b134 I33 HMM bC
            go_wp2
            go_loopw [30, 31, 266] (fun nv av iv wr => ∃ (k : Nat) (x s : Int), iv = .int .i64 k ∧ nv = .int .i64 s ∧ av = .int .i64 x ∧ k ≤ wl ∧ -(100 * k) ≤ s ∧ s ≤ 100 * k ∧ Hid (RD.Pth ms (way.drop k) x (tn : Int) (c tn - s)) ∧ w34 = wr) (fun _ _ iv _ => (wl - intOf iv).toNat)
            case atStart => exact ⟨0, f, 0, rfl, rfl, rfl, by omega, by omega, by omega, by rw [List.drop_zero, Int.sub_zero]; exact HPT, rfl⟩
            case round =>
              clear HPT
              obtain ⟨k, x, s, rfl, rfl, rfl, hk, hs1, hs2, hP, rfl⟩ := hrel
              by_cases hlk : k < wl
              · obtain ⟨j, hj, hjk, hjx, hP2⟩ := RD.Pth.step (by rw [HWL.out]; exact hlk) hP.out
                obtain ⟨b1, off1, hab1, hlt1, y0⟩ := M4.IntsAt.at I34.out (k := k) (by rw [HWL.out]; exact hlk)
                rw [hjk] at y0
                obtain ⟨b2, off2, hab2, hlt2, c0, c1', c2'⟩ := M34.out.at hj
                have G := HQ.out.gd j hj
                have HP3 : Hid _ := hP2
                have hji : (j : Int) < (ms.length : Int) := by omega
                clear hP hP2 hjk
                generalize MI3.at_ ms j = xx at *
                obtain ⟨x0, x1, x2⟩ := xx
                have l2 := G.c0
                have u2 := G.c1
                simp only at l2 u2 hjx
                subst hjx
                subst hab1 hab2
                clear G HQ M34 I34 C34
                go_wp2
                go_roundw
                case rel => exact ⟨k + 1, x1, s + x2, by go_num, rfl, rfl, by omega, by omega, by omega, by rw [show c tn - (s + x2) = c tn - s - x2 from by omega]; exact HP3, trivial⟩
                case measure => simp [intOf]; omega
              · obtain rfl : k = wl := by omega
                have hP' := hP.out
                rw [← HWL.out] at hP'
                obtain ⟨e1, e2⟩ := RD.Pth.end hP'
                obtain rfl : s = c tn := by omega
                subst e1
                obtain ⟨b1, off1, hab1, hlt1, y0⟩ := M4.IntsAt.at C34.out (k := tn) (by rw [RD.li_len]; exact ht8)
                rw [RD.li_get c ht8] at y0
                subst hab1
                clear hP hP' HQ M34 I34 C34 e2 hs1 hs2
                generalize c tn = zc at *
                go_wp2
                go_ret
                exact ⟨rfl, BE⟩
  · go_enter Try.func3, Try.ntmps3
    go_wp2
    go_ret
    exact ⟨rfl, Below.refl _ _⟩
end Go.Proofs.Ytclhfhjkcocdcaa
