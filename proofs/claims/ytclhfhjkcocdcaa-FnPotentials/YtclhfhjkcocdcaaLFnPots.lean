/- The law FnPotentials answers true at every argument. -/
import Derived.Test.YtclhfhjkcocdcaaRows
import Derived.Test.YtclhfhjkcocdcaaCRoadD
import Derived.Test.YtclhfhjkcocdcaaCRed
import Derived.Test.YtclhfhjkcocdcaaCRd5
import Derived.Test.YtclhfhjkcocdcaaCRdS3
import Derived.Test.YtclhfhjkcocdcaaCSameInts
import Derived.Test.YtclhfhjkcocdcaaCNumOf
import Derived.Test.YtclhfhjkcocdcaaMRQ
import Derived.WalkKit
import Derived.WalkSpells
import Derived.WalkLawsBesides
import Derived.Outline
import Derived.Deep.QuietTactic
import Derived.BigQuiet
namespace Go.Proofs.Ytclhfhjkcocdcaa
open Go.RowKit
set_option linter.unusedSimpArgs false in
set_option maxHeartbeats 12800000 in
set_option maxRecDepth 100000 in
theorem lawFnPots_any (a a' : Option Addr) (zs ys : List Int) (ca cb : Nat) (w : World) (hz : zs.length ≤ 140737488355328) (hy : ys.length ≤ 140737488355328) (hbz : MC.BytesAt w w.heap.size a zs) (hby : MC.BytesAt w w.heap.size a' ys) :
    Calls Try.prog 4 #[.slice a zs.length ca, .slice a' ys.length cb] w fun e w' => e = .returned (.bool true) ∧ Below w.heap.size w w' := by
  by_cases h20 : zs.length + ys.length ≤ 1048576
  · have HBY : Hid (∀ W : World, Below w.heap.size w W → MC.BytesAt W w.heap.size a' ys) := fun W h => hby.only (q := w.heap.size) (MC.Only.of_below h) (Nat.le_refl _) (Nat.le_refl _)
    clear hby
    go_enter Try.func4, Try.ntmps4
    go_wp2_with fail
    refine (drawReduced_any a zs ca _ hz hbz).mono ?_
    rintro e W ⟨a1, c1, xs, rfl, hx21, hR, BW⟩
    clear hbz
    obtain ⟨RL, hRL⟩ : ∃ RL, RD.rrL xs = RL := ⟨_, rfl⟩
    obtain ⟨PL, hPL⟩ : ∃ PL, RD.poL xs = PL := ⟨_, rfl⟩
    obtain ⟨fi, hfi⟩ : ∃ fi, RD.fine xs = fi := ⟨_, rfl⟩
    have HX : Hid (MI3.RowAt W a1 xs) := hR
    have P1 : Hid _ := implRed_any a1 c1 xs W (by omega) hR RL hRL fi hfi
    have P2 : Hid (∀ V : World, Below W.heap.size W V → _) := fun V h => specRed_any a1 c1 xs V (by omega) (hR.below h) RL hRL fi hfi
    have P3 : Hid (∀ V : World, Below W.heap.size W V → _) := fun V h => implPots_any a1 c1 xs V (by omega) (hR.below h) PL hPL fi hfi
    have P4 : Hid (∀ V : World, Below W.heap.size W V → _) := fun V h => specPots_any a1 c1 xs V (by omega) (hR.below h) PL hPL fi hfi
    have hrl : RL.length ≤ 1048576 := by rw [← hRL]; exact RD.rrL_len xs (by omega)
    have hpl : PL.length ≤ 1048576 := by rw [← hPL]; exact RD.poL_len xs
    have CF : Hid (∀ (f : Int) (V : World), Below W.heap.size W V → ∀ (L : List Int) (R : Bool), RD.cfL xs f = L → RD.may xs f = R → _) := fun f V h L R hL hR' => implFrom_any a1 c1 xs f V (by omega) (hR.below h) L hL R hR'
    have CR : Hid (∀ (f : Int) (b2 : Option Addr) (c2 : Nat) (V : World), MI3.RowAt V b2 RL → ∀ (L : List Int) (R : Bool), RD.cfL RL f = L → RD.may RL f = R → _) := fun f b2 c2 V h L R hL hR' => implFrom_any b2 c2 RL f V hrl h L hL R hR'
    have GR : Hid (∀ (b2 : Option Addr) (c2 : Nat) (V : World), MI3.RowAt V b2 RL → ∀ R : Bool, RD.okP RL = R → _) := fun b2 c2 V h R hR' => implGoodRoads_any b2 c2 RL V hrl h R hR'
    have PN : Hid (fi = false → RL = [] ∧ PL = []) := fun h => ⟨by rw [← hRL, RD.rrL_no (hfi.trans h)], by rw [← hPL, RD.poL_no (hfi.trans h)]⟩
    have PY : Hid (fi = true → RD.PQ xs RL PL (RD.pot xs)) := fun h => by rw [← hRL, ← hPL]; exact RD.pq_of (hfi.trans h)
    generalize RD.pot xs = pp at *
    clear hR hRL hPL hfi
    go_wp2_with fail
    refine Calls.mono P1.out ?_
    rintro e w2 ⟨a2, c2, rfl, o2, b2⟩
    have P2a : Hid _ := P2.out w2 b2
    clear P1 P2
    generalize hrll : RL.length = rl at *
    generalize hpll : PL.length = pl at *
    have HRLL : Hid _ := hrll
    have HPLL : Hid _ := hpll
    clear hrll hpll
    have O2 : Hid _ := o2
    clear o2
    go_wp2_with fail
    refine Calls.mono P2a.out ?_
    rintro e w3 ⟨a3, c3, rfl, o3, b3⟩
    have b13 : Below W.heap.size W w3 := b2.trans (b3.mono b2.size)
    have R2 : Hid _ := (RD.own_roads O2.out).below b3
    have O3 : Hid _ := o3
    have P3a : Hid _ := P3.out w3 b13
    clear P2a P3 b2 O2 o3 b3
    go_wp2_with fail
    refine Calls.mono P3a.out ?_
    rintro e w4 ⟨a4, c4, rfl, o4, b4⟩
    have b14 : Below W.heap.size W w4 := b13.trans (b4.mono b13.size)
    have R2b : Hid _ := R2.out.below b4
    have R3 : Hid _ := (RD.own_roads O3.out).below b4
    have O4 : Hid _ := o4
    have P4a : Hid _ := P4.out w4 b14
    clear P3a P4 b13 R2 O3 b4 o4
    go_wp2_with fail
    refine Calls.mono P4a.out ?_
    rintro e w5 ⟨a5, c5, rfl, o5, b5⟩
    have b15 : Below W.heap.size W w5 := b14.trans (b5.mono b14.size)
    have H2 : Hid _ := R2b.out.below b5
    have H3 : Hid _ := R3.out.below b5
    have I4 : Hid (M4.IntsAt w5 a4 PL) := M4.IntsAt.below (M5.own_ints O4.out) b5
    have S1 : Hid _ := sameInts_any a4 a5 c4 c5 PL PL w5 (by have := HPLL.out; omega) (by have := HPLL.out; omega) I4.out (M5.own_ints o5)
    rw [HPLL.out, decide_eq_true rfl] at S1
    clear P4a b14 R2b R3 O4 o5 b5
    cases fi with
    | false =>
      obtain ⟨e1, e2⟩ := PN.out rfl
      obtain rfl : rl = 0 := by rw [← HRLL.out, e1]; rfl
      obtain rfl : pl = 0 := by rw [← HPLL.out, e2]; rfl
      clear CR GR CF H2 H3 I4 HX e1 e2 PN PY
      go_wp2_with fail
      refine Calls.mono S1.out ?_
      rintro e w6 ⟨rfl, b6⟩
      clear S1
      go_wp2
      refine wp_loop_rounds 1 ?_
      rw [rounds_succ]
      go_wp2
      go_ret
      exact ⟨rfl, BW.trans ((b15.trans (b6.mono b15.size)).mono BW.size)⟩
    | true =>
      have Q := PY.out rfl
      have HQ : Hid (RD.PQ xs RL PL pp) := Q
      obtain rfl : pl = 8 := by rw [← HPLL.out, Q.pl, RD.li_len]
      obtain rfl : rl = xs.length := by rw [← HRLL.out, Q.ln]
      have hPC : ∀ j, j < 8 → ∃ b off, a4 = some ⟨b, off, none⟩ ∧ b < w5.heap.size ∧ w5.cell? ⟨b, off + j, none⟩ = some (.int .i64 (pp j)) := fun j hj => by
        obtain ⟨b, off, e, hlt, hc⟩ := M4.IntsAt.at I4.out (k := j) (by rw [HPLL.out]; exact hj)
        rw [Q.pl, RD.li_get pp hj] at hc
        exact ⟨b, off, e, hlt, hc⟩
      obtain ⟨b4, off4, ha4, hlt4, -⟩ := hPC 0 (by omega)
      subst ha4
      have HP5 : Hid (∀ j, j < 8 → w5.cell? ⟨b4, off4 + j, none⟩ = some (.int .i64 (pp j))) := fun j hj => by
        obtain ⟨b, off, e, _, hc⟩ := hPC j hj
        simp only [Option.some.injEq, Addr.mk.injEq, and_true] at e
        obtain ⟨rfl, rfl⟩ := e
        exact hc
      clear Q hPC I4 PN PY
      go_wp2_with fail
      refine Calls.mono S1.out ?_
      rintro e w6 ⟨rfl, b6⟩
      have b16 : Below W.heap.size W w6 := b15.trans (b6.mono b15.size)
      have HX6 : Hid (MI3.RowAt w6 a1 xs) := HX.out.below b16
      have H26 : Hid (MI3.RowAt w6 a2 RL) := H2.out.below b6
      have H36 : Hid (MI3.RowAt w6 a3 RL) := H3.out.below b6
      have HP6 : Hid (∀ j, j < 8 → w6.cell? ⟨b4, off4 + j, none⟩ = some (.int .i64 (pp j))) := fun j hj => (b6.cell (p := ⟨b4, off4 + j, none⟩) hlt4).trans (HP5.out j hj)
      have hl46 : b4 < w6.heap.size := Nat.lt_of_lt_of_le hlt4 b6.size
      clear S1 HX H2 H3 HP5 hlt4 b6 b15
      go_wp2
      go_loopw [79] (fun iv wr => ∃ k : Nat, iv = .int .i64 k ∧ k ≤ xs.length ∧ Below w6.heap.size w6 wr) (fun iv _ => (xs.length - intOf iv).toNat)
      case atStart => exact ⟨0, rfl, by omega, Below.refl _ _⟩
      case round =>
        obtain ⟨k, rfl, hk, hb⟩ := hrel
        by_cases hl : k < xs.length
        · obtain ⟨b1, off1, hab1, hlt1, c0, c1', c2'⟩ := (HX6.out.below hb).at hl
          obtain ⟨b2, off2, hab2, hlt2, d0, d1, d2⟩ := (H26.out.below hb).at (j := k) (by rw [HRLL.out]; exact hl)
          obtain ⟨b3, off3, hab3, hlt3, e0, e1, e2⟩ := (H36.out.below hb).at (j := k) (by rw [HRLL.out]; exact hl)
          have G := HQ.out.gd k hl
          obtain ⟨hr1, hr2⟩ := HQ.out.rl k hl
          rw [hr1] at d0 d1 d2 e0 e1 e2
          clear hr1
          generalize MI3.at_ xs k = x at *
          obtain ⟨x0, x1, x2⟩ := x
          obtain ⟨i, hi⟩ := Int.eq_ofNat_of_zero_le G.f0
          obtain ⟨t, ht⟩ := Int.eq_ofNat_of_zero_le G.t0
          have hi7 := G.f1
          have ht7 := G.t1
          have l2 := G.c0
          have u2 := G.c1
          simp only at hi ht hi7 ht7 l2 u2
          subst hi ht
          simp only [show ((i : Int)).toNat = i from by omega, show ((t : Int)).toNat = t from by omega] at d0 d1 d2 e0 e1 e2 hr2
          have hi8 : i < 8 := by omega
          have ht8 : t < 8 := by omega
          have ii8 : (i : Int) < 8 := by omega
          have tt8 : (t : Int) < 8 := by omega
          obtain ⟨li, ui⟩ := HQ.out.pb i
          obtain ⟨lt, ut⟩ := HQ.out.pb t
          have pi := (hb.cell (p := ⟨b4, off4 + i, none⟩) hl46).trans (HP6.out i hi8)
          have pt := (hb.cell (p := ⟨b4, off4 + t, none⟩) hl46).trans (HP6.out t ht8)
          have hl4r := Nat.lt_of_lt_of_le hl46 hb.size
          generalize pp i = zi at *
          generalize pp t = zt at *
          have hneg : decide (x2 + zi - zt < 0) = false := decide_eq_false (by omega)
          have hkx : (k : Int) < (xs.length : Int) := by omega
          have HB : Hid _ := hb
          subst hab1 hab2 hab3
          clear HX6 H26 H36 HP6 HQ CF CR GR G hb HRLL HPLL HBY
          go_wp2_with fail
          go_quiet (fail)
          have HB2 : Hid _ := below_drewN HB.out nq
          clear HB c0 c1' c2' d0 d1 d2 e0 e1 e2 pi pt
          generalize wr.drewN nq = W9 at *
          go_wp2
          go_roundw
          case rel => exact ⟨k + 1, by go_num, by omega, HB2.out⟩
          case measure => simp [intOf]; omega
        · obtain rfl : k = xs.length := by omega
          obtain ⟨w7, hw7⟩ : ∃ w7, w7 = wr := ⟨_, rfl⟩
          subst hw7
          have b17 : Below W.heap.size W w7 := b16.trans (hb.mono b16.size)
          have H27 : Hid (MI3.RowAt w7 a2 RL) := H26.out.below hb
          have HP7 : Hid (∀ j, j < 8 → w7.cell? ⟨b4, off4 + j, none⟩ = some (.int .i64 (pp j))) := fun j hj => (hb.cell (p := ⟨b4, off4 + j, none⟩) hl46).trans (HP6.out j hj)
          have hl47 : b4 < w7.heap.size := Nat.lt_of_lt_of_le hl46 hb.size
          clear HX6 H26 H36 HP6 hb hl46 b16
          go_wp2
          go_loopw [138] (fun iv wr => ∃ k : Nat, iv = .int .i64 k ∧ k ≤ 8 ∧ w7 = wr) (fun iv _ => (8 - intOf iv).toNat)
          case atStart => exact ⟨0, rfl, by omega, rfl⟩
          case round =>
            obtain ⟨k, rfl, hk, rfl⟩ := hrel
            by_cases hl : k < 8
            · have pk := HP7.out k hl
              have hpk := (HQ.out.pb k).2
              have kk : (k : Int) < 8 := by omega
              generalize pp k = zk at *
              clear HP7 HQ CF CR GR H27 HBY HRLL HPLL
              go_wp2
              go_roundw
              case rel => exact ⟨k + 1, by go_num, by omega, trivial⟩
              case measure => simp [intOf]; omega
            · obtain rfl : k = 8 := by omega
              have BV : Below w.heap.size w w7 := BW.trans (b17.mono BW.size)
              go_wp2_with fail
              refine (numberOf_any a' ys cb w.heap.size _ hy (HBY.out w7 BV)).mono ?_
              rintro e w' ⟨n, rfl, -, rfl⟩
              have hfn : n % 8 < 8 := Nat.mod_lt _ (by omega)
              have e8 : (n : Int) % 8 = ((n % 8 : Nat) : Int) := by omega
              obtain ⟨f, q1, q2, q3, q4, q5⟩ := HQ.out.fr (n % 8) hfn
              generalize n % 8 = fn at *
              have CF1 : Hid _ := CF.out (fn : Int) w7 b17 (RD.li f) true q2 q1
              have HPB : Hid (∀ v, -700 ≤ pp v ∧ pp v ≤ 0) := HQ.out.pb
              have ff8 : (fn : Int) < 8 := by omega
              rw [RD.li_len] at CF1
              clear CF HBY q1 q2 HQ HRLL HPLL
              cases hok : RD.okP RL with
              | false =>
                rw [hok] at q4
                have CR1 : Hid (∀ V : World, MI3.RowAt V a2 RL → _) := fun V h => CR.out (fn : Int) a2 c2 V h [] false (RD.cfL_no q4) q4
                have GR1 : Hid (∀ V : World, MI3.RowAt V a2 RL → _) := fun V h => GR.out a2 c2 V h false hok
                clear CR GR q4 q5 hok q3 HPB
                go_wp2_with fail
                simp only [e8]
                refine Calls.mono CF1.out ?_
                rintro e w8 ⟨a8, c8, rfl, -, b8⟩
                have H28 : Hid _ := H27.out.below b8
                clear CF1 H27 HP7
                go_wp2_with fail
                refine (CR1.out _ H28.out).mono ?_
                rintro e w9 ⟨a9, c9, rfl, -, b9⟩
                have H29 : Hid _ := H28.out.below b9
                clear CR1 H28
                simp only [List.length_nil]
                go_wp2_with fail
                refine (GR1.out _ H29.out).mono ?_
                rintro e w10 ⟨rfl, b10⟩
                clear GR1 H29
                go_wp2
                go_ret
                have b110 := (b17.trans (b8.mono b17.size)).trans ((b9.trans (b10.mono b9.size)).mono (b17.trans (b8.mono b17.size)).size)
                exact ⟨rfl, BW.trans (b110.mono BW.size)⟩
              | true =>
                rw [hok] at q4
                have CR1 : Hid (∀ V : World, MI3.RowAt V a2 RL → _) := fun V h => CR.out (fn : Int) a2 c2 V h (RD.li (fun v => if f v = RD.far then RD.far else f v + pp fn - pp v)) true (q5 hok) q4
                rw [RD.li_len] at CR1
                have HF : Hid _ := q3
                clear CR GR q4 q5 hok q3
                go_wp2_with fail
                simp only [e8]
                refine Calls.mono CF1.out ?_
                rintro e w8 ⟨a8, c8, rfl, o8, b8⟩
                have H28 : Hid _ := H27.out.below b8
                have I8 : Hid (M4.IntsAt w8 a8 (RD.li f)) := M5.own_ints o8
                clear CF1 H27 o8
                go_wp2_with fail
                refine (CR1.out _ H28.out).mono ?_
                rintro e w9 ⟨a9, c9, rfl, o9, b9⟩
                have I9 : Hid (M4.IntsAt w9 a9 (RD.li (fun v => if f v = RD.far then RD.far else f v + pp fn - pp v))) := M5.own_ints o9
                have I89 : Hid (M4.IntsAt w9 a8 (RD.li f)) := M4.IntsAt.below I8.out b9
                have b79 : Below w7.heap.size w7 w9 := b8.trans (b9.mono b8.size)
                have BE : Below w.heap.size w w9 := BV.trans (b79.mono BV.size)
                have HP9 : Hid (∀ j, j < 8 → w9.cell? ⟨b4, off4 + j, none⟩ = some (.int .i64 (pp j))) := fun j hj => (b79.cell (p := ⟨b4, off4 + j, none⟩) hl47).trans (HP7.out j hj)
                have hl49 : b4 < w9.heap.size := Nat.lt_of_lt_of_le hl47 b79.size
                clear CR1 H28 o9 I8 HP7 hl47 b79 b8 b9 b17 BW BV
                go_wp2
                go_loopw [169] (fun iv wr => ∃ k : Nat, iv = .int .i64 k ∧ k ≤ 8 ∧ Below w9.heap.size w9 wr) (fun iv _ => (8 - intOf iv).toNat)
                case atStart => exact ⟨0, rfl, by omega, Below.refl _ _⟩
                case round =>
                  obtain ⟨k, rfl, hk, hb⟩ := hrel
                  by_cases hl : k < 8
                  · have kk : (k : Int) < 8 := by omega
                    obtain ⟨b1, off1, hab1, hlt1, y0⟩ := M4.IntsAt.at (M4.IntsAt.below I89.out hb) (k := k) (by rw [RD.li_len]; exact hl)
                    obtain ⟨b2, off2, hab2, hlt2, y1⟩ := M4.IntsAt.at (M4.IntsAt.below I9.out hb) (k := k) (by rw [RD.li_len]; exact hl)
                    rw [RD.li_get _ hl] at y0 y1
                    have pf := (hb.cell (p := ⟨b4, off4 + fn, none⟩) hl49).trans (HP9.out fn hfn)
                    have pk := (hb.cell (p := ⟨b4, off4 + k, none⟩) hl49).trans (HP9.out k hl)
                    have hl4r := Nat.lt_of_lt_of_le hl49 hb.size
                    have hfk := HF.out k
                    obtain ⟨l1, u1⟩ := HPB.out fn
                    obtain ⟨l2, u2⟩ := HPB.out k
                    have HB : Hid _ := hb
                    clear HF HPB HP9 I89 I9 hb
                    subst hab1 hab2
                    generalize f k = y at *
                    generalize pp fn = zf at *
                    generalize pp k = zk at *
                    unfold RD.far at *
                    by_cases e1 : y = 1000000000
                    · rw [if_pos e1] at y1
                      subst e1
                      clear hfk
                      go_wp2_with fail
                      go_quiet (fail)
                      have HB2 : Hid _ := below_drewN HB.out nq
                      clear HB y0 y1 pf pk
                      generalize wr.drewN nq = W9 at *
                      go_wp2
                      go_roundw
                      case rel => exact ⟨k + 1, by go_num, by omega, HB2.out⟩
                      case measure => simp [intOf]; omega
                    · rw [if_neg e1] at y1
                      have hy2 : -700 ≤ y ∧ y ≤ 700 := by omega
                      obtain ⟨l3, u3'⟩ := hy2
                      have t1 : (y == 1000000000) = false := by simpa using e1
                      have t2 : (y + zf - zk == 1000000000) = false := by simp; omega
                      have t3 : decide (y < 1000000000) = true := decide_eq_true (by omega)
                      clear hfk
                      go_wp2_with fail
                      go_quiet (fail)
                      have HB2 : Hid _ := below_drewN HB.out nq
                      clear HB y0 y1 pf pk
                      generalize wr.drewN nq = W9 at *
                      go_wp2
                      go_roundw
                      case rel => exact ⟨k + 1, by go_num, by omega, HB2.out⟩
                      case measure => simp [intOf]; omega
                  · obtain rfl : k = 8 := by omega
                    clear HF HPB HP9 I89 I9
                    go_wp2
                    go_ret
                    exact ⟨rfl, BE.trans (hb.mono BE.size)⟩
  · go_enter Try.func4, Try.ntmps4
    go_wp2
    go_ret
    exact ⟨rfl, Below.refl _ _⟩
end Go.Proofs.Ytclhfhjkcocdcaa
