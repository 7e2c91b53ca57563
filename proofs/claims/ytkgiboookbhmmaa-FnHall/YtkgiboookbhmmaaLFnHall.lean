/- The law FnHall answers true at every argument. -/
import Derived.Test.YtkgiboookbhmmaaRows
import Derived.Test.YtkgiboookbhmmaaCDrawQ2
import Derived.Test.YtkgiboookbhmmaaCDrawC
import Derived.Test.YtkgiboookbhmmaaCPairMO
import Derived.Test.YtkgiboookbhmmaaMPX
import Derived.Test.YtkgiboookbhmmaaMPO
import Derived.Test.YtkgiboookbhmmaaCSameInts
import Derived.Test.YtkgiboookbhmmaaCPairMI
import Derived.Test.YtkgiboookbhmmaaCPairAll
import Derived.Test.YtkgiboookbhmmaaCPairShI
import Derived.Test.YtkgiboookbhmmaaCPairShS
import Derived.Test.YtkgiboookbhmmaaCPairCv
import Derived.Test.YtkgiboookbhmmaaCHasL
import Derived.WalkKit
import Derived.WalkSpells
import Derived.WalkLawsBesides
import Derived.Outline
namespace Go.Proofs.Ytkgiboookbhmmaa
open Go.RowKit
namespace PG
/-- The pairs among the first. -/
def prsTo (m : List Int) (k : Nat) : Nat := prs (m.take k)
theorem prsTo_succ (m : List Int) (k : Nat) (hk : k < m.length) : prsTo m (k + 1) = prsTo m k + (if 0 ≤ m.getD k 0 then 1 else 0) := by
  unfold prsTo prs
  rw [List.take_add_one, List.getElem?_eq_getElem hk, List.countP_append, List.getD_eq_getElem?_getD, List.getElem?_eq_getElem hk]
  simp [List.countP_cons]
theorem prsTo_le (m : List Int) (k : Nat) : prsTo m k ≤ k := by
  unfold prsTo prs
  refine Nat.le_trans (List.countP_le_length) ?_
  rw [List.length_take]; omega
theorem prsTo_all (m : List Int) : prsTo m m.length = prs m := by unfold prsTo; rw [List.take_length]
end PG
set_option linter.unusedSimpArgs false in
set_option maxHeartbeats 12800000 in
set_option maxRecDepth 100000 in
theorem lawFnHall_any (a a' : Option Addr) (zs ys : List Int) (ca cb : Nat) (w : World) (hz : zs.length ≤ 140737488355328) (hy : ys.length ≤ 140737488355328) (hbz : MC.BytesAt w w.heap.size a zs) (hby : MC.BytesAt w w.heap.size a' ys) :
    Calls Try.prog 4 #[.slice a zs.length ca, .slice a' ys.length cb] w fun e w' => e = .returned (.bool true) ∧ Below w.heap.size w w' := by
  obtain ⟨i0, hi0, hz00, hz01, hz02⟩ := info_parts Try.info3
  by_cases h20 : zs.length + ys.length ≤ 1048576
  · have HBY : Hid (∀ W : World, Below w.heap.size w W → MC.BytesAt W W.heap.size a' ys) := fun W h => (hby.only (q := w.heap.size) (MC.Only.of_below h) (Nat.le_refl _) (Nat.le_refl _)).up h.size
    clear hby
    go_enter Try.func4, Try.ntmps4
    go_wp2_with fail
    refine (drawImp_any a zs ca _ hz hbz).mono ?_
    rintro e w1 ⟨l, r, a1, c1, ws, a2, c2, m, rfl, ⟨h9, -, -, -⟩, ht, hml, ⟨b, hbl, hE⟩, hT, B1⟩
    have hm9 : m.length ≤ 9 := by omega
    clear hbz hml
    go_wp2_with fail
    have B0 : Below w1.heap.size w1 (w1.alloc (Obj.cells #[.int .i64 l, .int .i64 r, .slice a1 ws.length c1] 25)) := (Below.refl _ w1).alloc (Nat.le_refl _) _
    have hRW : NR.RowsAt (w1.alloc (Obj.cells #[.int .i64 l, .int .i64 r, .slice a1 ws.length c1] 25)) a1 ws := by
      obtain ⟨az, cz, hvz, hR⟩ := hE.view
      simp only [Value.slice.injEq] at hvz
      obtain ⟨rfl, -, -⟩ := hvz
      exact NR.RowsAt.below hR B0
    have hTW := M5.own_below hT B0
    have hbx := heap_alloc_new w1 (Obj.cells #[.int .i64 l, .int .i64 r, .slice a1 ws.length c1] 25)
    have hlt : w1.heap.size < (w1.alloc (Obj.cells #[.int .i64 l, .int .i64 r, .slice a1 ws.length c1] 25)).heap.size := by simp
    have BW : Below w.heap.size w (w1.alloc (Obj.cells #[.int .i64 l, .int .i64 r, .slice a1 ws.length c1] 25)) := B1.trans (B0.mono B1.size)
    have hcap : m.length ≤ c2 := by
      rcases hT.2 with ⟨hv, h0⟩ | ⟨g, cap, cur, hv, _, _, hge, _⟩
      · omega
      · simp only [Value.slice.injEq] at hv
        rw [hv.2.2]; exact hge
    clear B0 B1 hE hbl hT
    generalize w1.alloc (Obj.cells #[.int .i64 l, .int .i64 r, .slice a1 ws.length c1] 25) = W at *
    generalize w1.heap.size = q at *
    have BX : Hid (∀ V : World, Below W.heap.size W V → V.cell? ⟨q, 0, none⟩ = some (.int .i64 l) ∧ V.cell? ⟨q, 1, none⟩ = some (.int .i64 r) ∧ V.cell? ⟨q, 2, none⟩ = some (.slice a1 ws.length c1)) := fun V h => by
      have hV := (h.block q hlt).trans hbx
      exact ⟨PG.cellA hV (i := 0) rfl, PG.cellA hV (i := 1) rfl, PG.cellA hV (i := 2) rfl⟩
    have HM : Hid (∀ V : World, Below W.heap.size W V → M4.IntsAt V a2 m) := fun V h => M5.own_ints (M5.own_below hTW h)
    have PI : Hid (∀ V : World, Below W.heap.size W V → _) := fun V h => impOwn_any l r a1 a2 c1 c2 _ ws m V (by omega) (by omega) (by omega) (NR.RowsAt.below hRW h) (M5.own_below hTW h) _ rfl
    have PS_ : Hid (∀ V : World, Below W.heap.size W V → _) := fun V h => specImp_any l r a1 a2 c1 c2 ws m V (by omega) (by omega) (by omega) hcap (NR.RowsAt.below hRW h) (M5.own_ints (M5.own_below hTW h)) _ rfl
    have II : Hid (∀ V : World, Below W.heap.size W V → _) := fun V h => implIsMatch_any l r a1 a2 c1 c2 ws m V (by omega) (by omega) (by omega) hcap (NR.RowsAt.below hRW h) (M5.own_ints (M5.own_below hTW h))
    have IS : Hid (∀ V : World, Below W.heap.size W V → _) := fun V h => specIsMatch_any l r a1 a2 c1 c2 ws m V (by omega) (by omega) (by omega) hcap (NR.RowsAt.below hRW h) (M5.own_ints (M5.own_below hTW h))
    have IX : Hid (∀ V : World, Below W.heap.size W V → ∀ x b3 c3, x.length ≤ c3 → x.length ≤ 100 → M4.IntsAt V b3 x → _) := fun V h x b3 c3 h1 h3 h2 => implIsMatch_any l r a1 b3 c1 c3 ws x V (by omega) (by omega) (by omega) h1 (NR.RowsAt.below hRW h) h2
    have HW : Hid _ := hRW
    clear hRW hbx hTW hcap
    have P1 : Hid _ := PI.out W (Below.refl _ _)
    clear PI
    refine Calls.mono P1.out ?_
    rintro e w3 ⟨a3, c3, rfl, o3, b3⟩
    have P2 : Hid _ := PS_.out w3 b3
    obtain ⟨x0, x1, x2⟩ := BX.out w3 b3
    clear P1 PS_
    go_wp2_with fail
    clear x0 x1 x2
    refine Calls.mono P2.out ?_
    rintro e w4 ⟨a4, c4, rfl, o4, b4⟩
    have b14 : Below W.heap.size W w4 := b3.trans (b4.mono b3.size)
    have P3 : Hid _ := II.out w4 b14
    obtain ⟨x0, x1, x2⟩ := BX.out w4 b14
    have O3 : Hid _ := M5.own_below o3 b4
    have O4 : Hid _ := o4
    clear P2 II o3 o4
    go_wp2_with fail
    clear x0 x1 x2
    refine Calls.mono P3.out ?_
    rintro e w5 ⟨rfl, b5⟩
    have b15 : Below W.heap.size W w5 := b14.trans (b5.mono b14.size)
    have P4 : Hid _ := IS.out w5 b15
    obtain ⟨x0, x1, x2⟩ := BX.out w5 b15
    have O3' : Hid _ := M5.own_below O3.out b5
    have O4' : Hid _ := M5.own_below O4.out b5
    clear P3 IS O3 O4 b3 b4 b5 b14
    go_wp2_with fail
    clear x0 x1 x2
    refine Calls.mono P4.out ?_
    rintro e w6 ⟨rfl, b6⟩
    have b16 : Below W.heap.size W w6 := b15.trans (b6.mono b15.size)
    have O3 : Hid _ := M5.own_below O3'.out b6
    have O4 : Hid _ := M5.own_below O4'.out b6
    clear P4 O3' O4' b6 b15
    have hx9 : ((PG.impL l r ws m).getD []).length ≤ 9 := by
      cases c : PG.impL l r ws m with
      | none => simp
      | some x => have := (PG.impL_one c).2.2.1; simp; omega
    have S1 : Hid _ := sameInts_any a3 a4 c3 c4 ((PG.impL l r ws m).getD []) ((PG.impL l r ws m).getD []) w6 (by omega) (by omega) (M5.own_ints O3.out) (M5.own_ints O4.out)
    have IO : Hid (∀ x, PG.impL l r ws m = some x → _) := fun x h => PG.impL_one h
    clear O4
    generalize hI : PG.impL l r ws m = oi at *
    have HI : Hid _ := hI
    clear hI
    generalize PG.imB l r ws m = ib at *
    generalize PG.okB l r ws m = ob at *
    go_wp2_with fail
    refine Calls.mono S1.out ?_
    rintro e w7 ⟨rfl, b7⟩
    have b17 : Below W.heap.size W w7 := b16.trans (b7.mono b16.size)
    have O3' : Hid _ := M5.own_below O3.out b7
    clear S1 O3 b7 b16
    go_wp2
    go_loopw [15, 100] (fun pv iv wr => ∃ k : Nat, iv = .int .i64 k ∧ k ≤ m.length ∧ pv = .int .i64 (PG.prsTo m k : Nat) ∧ Below w7.heap.size w7 wr) (fun _ iv _ => (m.length - intOf iv).toNat)
    case atStart => exact ⟨0, rfl, by omega, rfl, Below.refl _ _⟩
    case round =>
      obtain ⟨k, rfl, hk, rfl, hb⟩ := hrel
      by_cases hlk : k < m.length
      · obtain ⟨b2, off2, rfl, hlt2, d0⟩ := M4.IntsAt.at (HM.out _ (b17.trans (hb.mono b17.size))) (k := k) hlk
        have HS : Hid _ := PG.prsTo_succ m k hlk
        have hsl := PG.prsTo_le m k
        generalize m.getD k 0 = y at *
        by_cases hy : 0 ≤ y
        · go_wp2
          go_roundw
          case rel => exact ⟨k + 1, by go_num, by omega, by rw [HS.out, if_pos hy]; go_num, hb⟩
          case measure => simp [intOf]; omega
        · go_wp2
          go_roundw
          case rel => exact ⟨k + 1, by go_num, by omega, by rw [HS.out, if_neg hy]; rfl, hb⟩
          case measure => simp [intOf]; omega
      · obtain rfl : k = m.length := by omega
        rw [PG.prsTo_all m]
        have b18 : Below W.heap.size W wr := b17.trans (hb.mono b17.size)
        have O3 : Hid _ := M5.own_below O3'.out hb
        clear O3' hb b17
        cases oi with
        | none =>
          obtain ⟨WS_, hWS_⟩ : ∃ WS_, WS_ = wr := ⟨_, rfl⟩
          subst hWS_
          have bS : Below W.heap.size W WS_ := b18
          clear b18 O3 IX IO HI
          obtain ⟨x0, x1, x2⟩ := BX.out _ bS
          have Q1 : Hid _ := implSh_any l r a1 c1 ws WS_ (by omega) (by omega) (NR.RowsAt.below HW.out bS) _ rfl
          have Q2 : Hid (∀ X : World, Below W.heap.size W X → _) := fun X h => specSh_any l r a1 c1 ws X (by omega) (by omega) (NR.RowsAt.below HW.out h) _ rfl
          have HSM : Hid (PG.good l r ws = true → PG.shL l r ws ≠ [] → _) := fun h h2 => PG.short_more h h2
          have HSG : Hid (PG.shL l r ws ≠ [] → PG.good l r ws = true) := fun h => by
            cases c : PG.good l r ws with
            | true => rfl
            | false => exact absurd (by rw [PG.shL, c]; rfl) h
          have HSR : Hid (∀ x ∈ PG.shL l r ws, ∃ i : Nat, i < ws.length ∧ x = (i : Int)) := fun x hx => by
            cases c : PG.good l r ws with
            | true =>
              rw [← PG.shL_yes c] at hx
              obtain ⟨i, hi, -, rfl⟩ := (PG.those_mem _ _ _).1 hx
              have := (PG.good_is c).1
              exact ⟨i, by omega, rfl⟩
            | false => rw [PG.shL, c] at hx; simp at hx
          have hshl := PG.shL_le l r ws
          go_wp2_with fail
          clear x0 x1 x2
          refine Calls.mono Q1.out ?_
          rintro e w20 ⟨a20, c20, rfl, o20, b20⟩
          have bS2 : Below W.heap.size W w20 := bS.trans (b20.mono bS.size)
          obtain ⟨x0, x1, x2⟩ := BX.out _ bS2
          have Q2a : Hid _ := Q2.out w20 bS2
          clear Q1 Q2 b20 bS
          go_wp2_with fail
          clear x0 x1 x2
          refine Calls.mono Q2a.out ?_
          rintro e w21 ⟨a21, c21, rfl, o21, b21⟩
          have bS3 : Below W.heap.size W w21 := bS2.trans (b21.mono bS2.size)
          have O20 : Hid _ := M5.own_ints (M5.own_below o20 b21)
          have S2 : Hid _ := sameInts_any a20 a21 c20 c21 (PG.shL l r ws) (PG.shL l r ws) w21 (by omega) (by omega) O20.out (M5.own_ints o21)
          clear Q2a b21 bS2 o20 o21
          generalize PG.shL l r ws = SL at *
          generalize hsh : decide (0 < SL.length) = sh at *
          have HSH : Hid _ := hsh
          clear hsh
          cases sh with
          | false =>
            clear HSM HSG HSR HSH
            go_wp2_with fail
            refine Calls.mono S2.out ?_
            rintro e WC ⟨rfl, b22⟩
            have bC : Below W.heap.size W WC := bS3.trans (b22.mono bS3.size)
            clear S2 b22 bS3 O20
            have DC : Hid _ := drawIsCover_any a' ys cb WC hy (HBY.out WC (BW.trans (bC.mono BW.size)))
            clear HM HW BX HBY
            go_wp2_with fail
            refine Calls.mono DC.out ?_
            rintro e w30 ⟨l2, r2, d1, e1, ws2, d2, e2, ls, d3, e3, rs, rfl, h92, ht2, hls, hrs, ⟨bb, -, hE2⟩, hLS, hRS, bD⟩
            obtain ⟨h92, -, -, -⟩ := h92
            have BC : Below w.heap.size w w30 := (BW.trans (bC.mono BW.size)).trans (bD.mono (BW.trans (bC.mono BW.size)).size)
            clear DC bD bC BW
            have A0 : Below w30.heap.size w30 (w30.alloc (Obj.cells #[.int .i64 l2, .int .i64 r2, .slice d1 ws2.length e1] 25)) := (Below.refl _ w30).alloc (Nat.le_refl _) _
            have hRW2 : NR.RowsAt (w30.alloc (Obj.cells #[.int .i64 l2, .int .i64 r2, .slice d1 ws2.length e1] 25)) d1 ws2 := by
              obtain ⟨az, cz, hvz, hR⟩ := hE2.view
              simp only [Value.slice.injEq] at hvz
              obtain ⟨rfl, -, -⟩ := hvz
              exact NR.RowsAt.below hR A0
            have hbx2 := heap_alloc_new w30 (Obj.cells #[.int .i64 l2, .int .i64 r2, .slice d1 ws2.length e1] 25)
            have hlt2 : w30.heap.size < (w30.alloc (Obj.cells #[.int .i64 l2, .int .i64 r2, .slice d1 ws2.length e1] 25)).heap.size := by simp
            have hLS2 := hLS.below A0
            have hRS2 := hRS.below A0
            have BV : Below w.heap.size w (w30.alloc (Obj.cells #[.int .i64 l2, .int .i64 r2, .slice d1 ws2.length e1] 25)) := BC.trans (A0.mono BC.size)
            clear A0 BC hE2 hLS hRS
            go_wp2_with fail
            generalize w30.alloc (Obj.cells #[.int .i64 l2, .int .i64 r2, .slice d1 ws2.length e1] 25) = V at *
            generalize w30.heap.size = q2 at *
            have BX2 : Hid (∀ X : World, Below V.heap.size V X → X.cell? ⟨q2, 0, none⟩ = some (.int .i64 l2) ∧ X.cell? ⟨q2, 1, none⟩ = some (.int .i64 r2) ∧ X.cell? ⟨q2, 2, none⟩ = some (.slice d1 ws2.length e1)) := fun X h => by
              have hX := (h.block q2 hlt2).trans hbx2
              exact ⟨PG.cellA hX (i := 0) rfl, PG.cellA hX (i := 1) rfl, PG.cellA hX (i := 2) rfl⟩
            have K1 : Hid _ := implIsCover_any l2 r2 d1 d2 d3 e1 e2 e3 ws2 ls rs V (by omega) (by omega) (by omega) (by omega) hRW2 hLS2 hRS2
            have K2 : Hid (∀ X : World, Below V.heap.size V X → _) := fun X h => specIsCover_any l2 r2 d1 d2 d3 e1 e2 e3 ws2 ls rs X (by omega) (by omega) (by omega) (by omega) (hRW2.below h) (hLS2.below h) (hRS2.below h)
            have K3 : Hid (∀ X : World, Below V.heap.size V X → _) := fun X h => implAll_any l2 r2 d1 e1 ws2 X (by omega) (by omega) (hRW2.below h) _ _ rfl rfl
            have KC : Hid (PG.icB l2 r2 ws2 ls rs = true → _) := fun h => PG.all_cover h
            have hal := PG.allL_le l2 r2 ws2
            clear hRW2 hLS2 hRS2 hbx2
            refine Calls.mono K1.out ?_
            rintro e w31 ⟨rfl, b31⟩
            obtain ⟨x0, x1, x2⟩ := BX2.out w31 b31
            have K2a : Hid _ := K2.out w31 b31
            clear K1 K2
            generalize PG.ocB l2 r2 ws2 ls rs = oc at *
            generalize hic : PG.icB l2 r2 ws2 ls rs = ic at *
            clear hic
            go_wp2_with fail
            clear x0 x1 x2
            refine Calls.mono K2a.out ?_
            rintro e w32 ⟨rfl, b32⟩
            have b132 : Below V.heap.size V w32 := b31.trans (b32.mono b31.size)
            clear K2a b31 b32
            cases oc with
            | false =>
              clear K3 KC BX2
              go_wp2
              go_ret
              exact ⟨rfl, BV.trans (b132.mono BV.size)⟩
            | true =>
              cases ic with
              | false =>
                clear K3 KC BX2
                go_wp2
                go_ret
                exact ⟨rfl, BV.trans (b132.mono BV.size)⟩
              | true =>
                obtain ⟨hgd, hpr⟩ := KC.out rfl
                obtain ⟨x0, x1, x2⟩ := BX2.out w32 b132
                have K3a : Hid _ := K3.out w32 b132
                rw [hgd] at K3a
                have HPR : Hid (PG.prs (PG.allL l2 r2 ws2) ≤ ls.length + rs.length) := hpr
                have HPA : Hid _ := PG.prsTo_all (PG.allL l2 r2 ws2)
                have HPS : Hid _ := fun k hk => PG.prsTo_succ (PG.allL l2 r2 ws2) k hk
                have HPL : Hid _ := fun k => PG.prsTo_le (PG.allL l2 r2 ws2) k
                clear KC K3 BX2 hpr hgd
                generalize PG.allL l2 r2 ws2 = AL at *
                go_wp2_with fail
                clear x0 x1 x2
                refine Calls.mono K3a.out ?_
                rintro e w33 ⟨a33, c33, rfl, o33, b33⟩
                have BE : Below w.heap.size w w33 := BV.trans ((b132.trans (b33.mono b132.size)).mono BV.size)
                have HAL : Hid (M4.IntsAt w33 a33 AL) := M5.own_ints o33
                clear K3a o33 b33 b132 BV
                go_wp2
                go_loopw [41, 239] (fun pv iv wr => ∃ k : Nat, iv = .int .i64 k ∧ k ≤ AL.length ∧ pv = .int .i64 (PG.prsTo AL k : Nat) ∧ w33 = wr) (fun _ iv _ => (AL.length - intOf iv).toNat)
                case atStart => exact ⟨0, rfl, by omega, rfl, rfl⟩
                case round =>
                  obtain ⟨k, rfl, hk, rfl, rfl⟩ := hrel
                  by_cases hlk : k < AL.length
                  · obtain ⟨b2, off2, rfl, hlt9, d0⟩ := M4.IntsAt.at HAL.out (k := k) hlk
                    have HS : Hid _ := HPS.out k hlk
                    have hsl := HPL.out k
                    clear HPS HPL HPA HPR HAL
                    generalize AL.getD k 0 = y at *
                    generalize PG.prsTo AL k = pk at *
                    by_cases hy : 0 ≤ y
                    · go_wp2
                      go_roundw
                      case rel => exact ⟨k + 1, by go_num, by omega, by rw [HS.out, if_pos hy]; go_num, trivial⟩
                      case measure => simp [intOf]; omega
                    · go_wp2
                      go_roundw
                      case rel => exact ⟨k + 1, by go_num, by omega, by rw [HS.out, if_neg hy]; rfl, trivial⟩
                      case measure => simp [intOf]; omega
                  · obtain rfl : k = AL.length := by omega
                    rw [HPA.out]
                    have hpr := HPR.out
                    clear HPS HPL HPA HPR HAL
                    generalize PG.prs AL = pr at *
                    have hpi : (pr : Int) ≤ (ls.length : Int) + (rs.length : Int) := by omega
                    go_wp2
                    go_ret
                    exact ⟨rfl, BE⟩
          | true =>
            have hne : SL ≠ [] := by
              have := of_decide_eq_true HSH.out
              intro e; rw [e] at this; simp at this
            have HM1 : Hid _ := HSM.out (HSG.out hne) hne
            clear HSM HSG HSH hne
            go_wp2_with fail
            refine Calls.mono S2.out ?_
            rintro e w22 ⟨rfl, b22⟩
            have bS4 : Below W.heap.size W w22 := bS3.trans (b22.mono bS3.size)
            have O22 : Hid (M4.IntsAt w22 a20 SL) := M4.IntsAt.below O20.out b22
            clear S2 b22 bS3 O20
            go_wp2
            go_loopw [27, 171] (fun v iv wr => ∃ (k : Nat) (us : List Int), iv = .int .i64 k ∧ k ≤ SL.length ∧ us.length ≤ 200 * k ∧ Hid (us.Nodup ∧ ∀ x ∈ us, ∃ i : Nat, (i : Int) ∈ SL ∧ x ∈ NR.rw_ ws i) ∧ wr.ownsRow w22.heap.size 3 1 v us.length (M4.iv us) ∧ Below w22.heap.size w22 wr) (fun _ iv _ => (SL.length - intOf iv).toNat)
            case atStart => exact ⟨0, [], rfl, by omega, by simp, ⟨List.nodup_nil, fun x hx => (nomatch hx)⟩, World.ownsRow_nil _ _ _ _, Below.refl _ _⟩
            case round =>
              obtain ⟨k, us, rfl, hk, hus, hU, hown, hb⟩ := hrel
              by_cases hlk : k < SL.length
              · obtain ⟨b2, off2, hab2, hlt2, d0⟩ := M4.IntsAt.at (M4.IntsAt.below O22.out hb) (k := k) hlk
                have hmem : SL.getD k 0 ∈ SL := by rw [List.getD_eq_getElem?_getD, List.getElem?_eq_getElem hlk]; exact List.getElem_mem hlk
                obtain ⟨i, hil, hix⟩ := HSR.out _ hmem
                rw [hix] at d0 hmem
                have HMEM : Hid ((i : Int) ∈ SL) := hmem
                have bS5 : Below W.heap.size W wr := bS4.trans (hb.mono bS4.size)
                obtain ⟨x0, x1, x2⟩ := BX.out _ bS5
                obtain ⟨b3, off3, a31, c31, ha1, hlt3, e30, hrl, hri⟩ := (NR.RowsAt.below HW.out bS4).at hil
                have e3 := (hb.cell (p := ⟨b3, off3 + i, none⟩) hlt3).trans e30
                have hlt4 := Nat.lt_of_lt_of_le hlt3 hb.size
                have hrt := NR.tot_row ws hil
                have HRI : Hid (M4.IntsAt w22 a31 (NR.rw_ ws i)) := hri
                have hii : (i : Int) < (ws.length : Int) := by omega
                have HRM : Hid (∀ j, j < (NR.rw_ ws i).length → (NR.rw_ ws i).getD j 0 ∈ NR.rw_ ws i) := fun j hj => by rw [List.getD_eq_getElem?_getD, List.getElem?_eq_getElem hj]; exact List.getElem_mem hj
                have hql : q < wr.heap.size := Nat.lt_of_lt_of_le hlt bS5.size
                have HOW : Hid _ := hown
                have HBW : Hid _ := hb
                clear hown hb hri hmem hix e30 bS5
                generalize hrw : NR.rw_ ws i = RI at *
                have HRW : Hid _ := hrw
                clear hrw
                subst hab2 ha1
                go_wp2_with fail
                clear x0 x1 x2 e3 d0
                go_loopw [27, 181] (fun v iv wr => ∃ (j : Nat) (us2 : List Int), iv = .int .i64 j ∧ j ≤ RI.length ∧ us2.length ≤ 200 * k + j ∧ Hid (us2.Nodup ∧ ∀ x ∈ us2, (∃ i : Nat, (i : Int) ∈ SL ∧ x ∈ NR.rw_ ws i) ∨ x ∈ RI) ∧ wr.ownsRow w22.heap.size 3 1 v us2.length (M4.iv us2) ∧ Below w22.heap.size w22 wr) (fun _ iv _ => (RI.length - intOf iv).toNat)
                case atStart => exact ⟨0, us, rfl, by omega, by omega, ⟨hU.out.1, fun x hx => .inl (hU.out.2 x hx)⟩, HOW.out, HBW.out⟩
                case round =>
                  clear HOW HBW hU
                  obtain ⟨j, us2, rfl, hj, hus2, hU2, hown, hb⟩ := hrel
                  have hbs := hb.size
                  by_cases hlj : j < RI.length
                  · obtain ⟨b5, off5, hab5, hlt5, d5⟩ := M4.IntsAt.at (M4.IntsAt.below HRI.out hb) (k := j) hlj
                    have hmy := HRM.out j hlj
                    obtain ⟨av, cv, hv, hvi⟩ := M5.own_view hown
                    subst hv
                    generalize RI.getD j 0 = y at *
                    have LH : Hid _ := hasL_any av cv us2 y wr (by omega) hvi
                    have HO : Hid _ := hown
                    have HB : Hid _ := hb
                    have HY : Hid (EG.hasB us2 y = false → y ∉ us2) := fun h => by simpa [EG.hasB] using h
                    have HMY : Hid _ := hmy
                    generalize EG.hasB us2 y = hs at *
                    clear hown hb hvi hmy
                    subst hab5
                    generalize hul : us2.length = ul at *
                    have HUL : Hid _ := hul
                    clear hul
                    go_wp2_with fail
                    refine Calls.mono LH.out ?_
                    rintro e w40 ⟨rfl, rfl⟩
                    clear LH
                    cases hs with
                    | true =>
                      clear HY HMY
                      go_wp2
                      go_roundw
                      case rel => exact ⟨j + 1, us2, by go_num, by omega, by have := HUL.out; omega, hU2, by rw [HUL.out]; exact HO.out, HB.out⟩
                      case measure => simp [intOf]; omega
                    | false =>
                      have HU3 : Hid ((us2 ++ [y]).Nodup ∧ ∀ x ∈ us2 ++ [y], (∃ i : Nat, (i : Int) ∈ SL ∧ x ∈ NR.rw_ ws i) ∨ x ∈ RI) := by
                        refine ⟨?_, fun x hx => ?_⟩
                        · rw [List.nodup_append]
                          exact ⟨hU2.out.1, by simp, fun z hz u hu e => by
                            simp at hu
                            rw [e, hu] at hz
                            exact HY.out rfl hz⟩
                        · rcases List.mem_append.1 hx with hx | hx
                          · exact hU2.out.2 x hx
                          · simp at hx; rw [hx]; exact .inr HMY.out
                      clear HY HMY d5 hlt5
                      go_wp2_with (at_builtin; refine wpList_append_own _ rfl _ _ 27 rfl w22.heap.size 3 i0 (.int .i64 0) 1 8 Try.underlying27 hi0 hz00 hz01 hz02 rfl (by decide) _ _ _ rfl (World.ownsRow.alloc HO.out _) ⟨wr.heap.size, 0, none⟩ 1 1 [.int .i64 y] rfl rfl ?c11 ?c12 ?c13 ?c14 ?c15 ?_)
                      case c11 => exact M2.new1 _ _ _
                      case c12 => exact M2.one1 _ _
                      case c13 => unfold maxLen; omega
                      case c14 => omega
                      case c15 => simp; omega
                      intro v' w41 hown1 hgrow _
                      have RR := M5.growI (zs := us2) (by rw [HUL.out]; exact HO.out) HB.out hbs (by rw [HUL.out]; exact hown1) hgrow
                      have R1 : Hid _ := RR.1
                      have R2 : Hid _ := RR.2
                      have hl2 : (us2 ++ [y]).length ≤ 200 * k + (j + 1) := by rw [List.length_append, HUL.out]; simp; omega
                      clear hown1 hgrow RR HO HB
                      generalize us2 ++ [y] = us3 at *
                      go_wp2
                      go_roundw
                      case rel => exact ⟨j + 1, us3, by go_num, by omega, hl2, HU3, R1.out, R2.out⟩
                      case measure => simp [intOf]; omega
                  · obtain rfl : j = RI.length := by omega
                    have HU3 : Hid (us2.Nodup ∧ ∀ x ∈ us2, ∃ i : Nat, (i : Int) ∈ SL ∧ x ∈ NR.rw_ ws i) := ⟨hU2.out.1, fun x hx => by
                      rcases hU2.out.2 x hx with h | h
                      · exact h
                      · exact ⟨i, HMEM.out, by rw [HRW.out]; exact h⟩⟩
                    have HO : Hid _ := hown
                    clear hown hU2
                    go_wp2
                    go_roundw
                    case rel => exact ⟨k + 1, us2, by go_num, by omega, by omega, HU3, HO.out, hb⟩
                    case measure => simp [intOf]; omega
              · obtain rfl : k = SL.length := by omega
                have hlen := HM1.out us hU.out.1 hU.out.2
                obtain ⟨av, cv, hv, -⟩ := M5.own_view hown
                subst hv
                obtain ⟨WC, hWC⟩ : ∃ WC, WC = wr := ⟨_, rfl⟩
                subst hWC
                have bC : Below W.heap.size W WC := bS4.trans (hb.mono bS4.size)
                have hli : (us.length : Int) < (SL.length : Int) := by omega
                clear hown hU hb bS4 HM1 HSR O22
                have DC : Hid _ := drawIsCover_any a' ys cb WC hy (HBY.out WC (BW.trans (bC.mono BW.size)))
                clear HM HW BX HBY
                go_wp2_with fail
                refine Calls.mono DC.out ?_
                rintro e w30 ⟨l2, r2, d1, e1, ws2, d2, e2, ls, d3, e3, rs, rfl, h92, ht2, hls, hrs, ⟨bb, -, hE2⟩, hLS, hRS, bD⟩
                obtain ⟨h92, -, -, -⟩ := h92
                have BC : Below w.heap.size w w30 := (BW.trans (bC.mono BW.size)).trans (bD.mono (BW.trans (bC.mono BW.size)).size)
                clear DC bD bC BW
                have A0 : Below w30.heap.size w30 (w30.alloc (Obj.cells #[.int .i64 l2, .int .i64 r2, .slice d1 ws2.length e1] 25)) := (Below.refl _ w30).alloc (Nat.le_refl _) _
                have hRW2 : NR.RowsAt (w30.alloc (Obj.cells #[.int .i64 l2, .int .i64 r2, .slice d1 ws2.length e1] 25)) d1 ws2 := by
                  obtain ⟨az, cz, hvz, hR⟩ := hE2.view
                  simp only [Value.slice.injEq] at hvz
                  obtain ⟨rfl, -, -⟩ := hvz
                  exact NR.RowsAt.below hR A0
                have hbx2 := heap_alloc_new w30 (Obj.cells #[.int .i64 l2, .int .i64 r2, .slice d1 ws2.length e1] 25)
                have hlt2 : w30.heap.size < (w30.alloc (Obj.cells #[.int .i64 l2, .int .i64 r2, .slice d1 ws2.length e1] 25)).heap.size := by simp
                have hLS2 := hLS.below A0
                have hRS2 := hRS.below A0
                have BV : Below w.heap.size w (w30.alloc (Obj.cells #[.int .i64 l2, .int .i64 r2, .slice d1 ws2.length e1] 25)) := BC.trans (A0.mono BC.size)
                clear A0 BC hE2 hLS hRS
                go_wp2_with fail
                generalize w30.alloc (Obj.cells #[.int .i64 l2, .int .i64 r2, .slice d1 ws2.length e1] 25) = V at *
                generalize w30.heap.size = q2 at *
                have BX2 : Hid (∀ X : World, Below V.heap.size V X → X.cell? ⟨q2, 0, none⟩ = some (.int .i64 l2) ∧ X.cell? ⟨q2, 1, none⟩ = some (.int .i64 r2) ∧ X.cell? ⟨q2, 2, none⟩ = some (.slice d1 ws2.length e1)) := fun X h => by
                  have hX := (h.block q2 hlt2).trans hbx2
                  exact ⟨PG.cellA hX (i := 0) rfl, PG.cellA hX (i := 1) rfl, PG.cellA hX (i := 2) rfl⟩
                have K1 : Hid _ := implIsCover_any l2 r2 d1 d2 d3 e1 e2 e3 ws2 ls rs V (by omega) (by omega) (by omega) (by omega) hRW2 hLS2 hRS2
                have K2 : Hid (∀ X : World, Below V.heap.size V X → _) := fun X h => specIsCover_any l2 r2 d1 d2 d3 e1 e2 e3 ws2 ls rs X (by omega) (by omega) (by omega) (by omega) (hRW2.below h) (hLS2.below h) (hRS2.below h)
                have K3 : Hid (∀ X : World, Below V.heap.size V X → _) := fun X h => implAll_any l2 r2 d1 e1 ws2 X (by omega) (by omega) (hRW2.below h) _ _ rfl rfl
                have KC : Hid (PG.icB l2 r2 ws2 ls rs = true → _) := fun h => PG.all_cover h
                have hal := PG.allL_le l2 r2 ws2
                clear hRW2 hLS2 hRS2 hbx2
                refine Calls.mono K1.out ?_
                rintro e w31 ⟨rfl, b31⟩
                obtain ⟨x0, x1, x2⟩ := BX2.out w31 b31
                have K2a : Hid _ := K2.out w31 b31
                clear K1 K2
                generalize PG.ocB l2 r2 ws2 ls rs = oc at *
                generalize hic : PG.icB l2 r2 ws2 ls rs = ic at *
                clear hic
                go_wp2_with fail
                clear x0 x1 x2
                refine Calls.mono K2a.out ?_
                rintro e w32 ⟨rfl, b32⟩
                have b132 : Below V.heap.size V w32 := b31.trans (b32.mono b31.size)
                clear K2a b31 b32
                cases oc with
                | false =>
                  clear K3 KC BX2
                  go_wp2
                  go_ret
                  exact ⟨rfl, BV.trans (b132.mono BV.size)⟩
                | true =>
                  cases ic with
                  | false =>
                    clear K3 KC BX2
                    go_wp2
                    go_ret
                    exact ⟨rfl, BV.trans (b132.mono BV.size)⟩
                  | true =>
                    obtain ⟨hgd, hpr⟩ := KC.out rfl
                    obtain ⟨x0, x1, x2⟩ := BX2.out w32 b132
                    have K3a : Hid _ := K3.out w32 b132
                    rw [hgd] at K3a
                    have HPR : Hid (PG.prs (PG.allL l2 r2 ws2) ≤ ls.length + rs.length) := hpr
                    have HPA : Hid _ := PG.prsTo_all (PG.allL l2 r2 ws2)
                    have HPS : Hid _ := fun k hk => PG.prsTo_succ (PG.allL l2 r2 ws2) k hk
                    have HPL : Hid _ := fun k => PG.prsTo_le (PG.allL l2 r2 ws2) k
                    clear KC K3 BX2 hpr hgd
                    generalize PG.allL l2 r2 ws2 = AL at *
                    go_wp2_with fail
                    clear x0 x1 x2
                    refine Calls.mono K3a.out ?_
                    rintro e w33 ⟨a33, c33, rfl, o33, b33⟩
                    have BE : Below w.heap.size w w33 := BV.trans ((b132.trans (b33.mono b132.size)).mono BV.size)
                    have HAL : Hid (M4.IntsAt w33 a33 AL) := M5.own_ints o33
                    clear K3a o33 b33 b132 BV
                    go_wp2
                    go_loopw [41, 239] (fun pv iv wr => ∃ k : Nat, iv = .int .i64 k ∧ k ≤ AL.length ∧ pv = .int .i64 (PG.prsTo AL k : Nat) ∧ w33 = wr) (fun _ iv _ => (AL.length - intOf iv).toNat)
                    case atStart => exact ⟨0, rfl, by omega, rfl, rfl⟩
                    case round =>
                      obtain ⟨k, rfl, hk, rfl, rfl⟩ := hrel
                      by_cases hlk : k < AL.length
                      · obtain ⟨b2, off2, rfl, hlt9, d0⟩ := M4.IntsAt.at HAL.out (k := k) hlk
                        have HS : Hid _ := HPS.out k hlk
                        have hsl := HPL.out k
                        clear HPS HPL HPA HPR HAL
                        generalize AL.getD k 0 = y at *
                        generalize PG.prsTo AL k = pk at *
                        by_cases hy : 0 ≤ y
                        · go_wp2
                          go_roundw
                          case rel => exact ⟨k + 1, by go_num, by omega, by rw [HS.out, if_pos hy]; go_num, trivial⟩
                          case measure => simp [intOf]; omega
                        · go_wp2
                          go_roundw
                          case rel => exact ⟨k + 1, by go_num, by omega, by rw [HS.out, if_neg hy]; rfl, trivial⟩
                          case measure => simp [intOf]; omega
                      · obtain rfl : k = AL.length := by omega
                        rw [HPA.out]
                        have hpr := HPR.out
                        clear HPS HPL HPA HPR HAL
                        generalize PG.prs AL = pr at *
                        have hpi : (pr : Int) ≤ (ls.length : Int) + (rs.length : Int) := by omega
                        go_wp2
                        go_ret
                        exact ⟨rfl, BE⟩
        | some x =>
          obtain ⟨hx1, hx2, hxl, hxp, hxk⟩ := IO.out x rfl
          have hO3 : World.ownsRow wr W.heap.size 3 1 (.slice a3 x.length c3) x.length (M4.iv x) := O3.out
          have hc3 : x.length ≤ c3 := by
            rcases hO3.2 with ⟨hv, h0⟩ | ⟨g, cap, cur, hv, _, _, hge, _⟩
            · omega
            · simp only [Value.slice.injEq] at hv
              rw [hv.2.2]; exact hge
          have O3I : Hid (M4.IntsAt wr a3 x) := M5.own_ints hO3
          have IX1 : Hid _ := IX.out wr b18 x a3 c3 hc3 (by omega) O3I.out
          rw [hx1, hx2] at IX1
          have HXP : Hid (PG.prs x = PG.prs m + 1) := hxp
          have HXK : Hid _ := hxk
          have HXL : Hid (x.length = m.length) := hxl
          have hx9b : x.length ≤ 9 := by omega
          have HMI : Hid _ := HM.out wr b18
          have HS1 : Hid _ := fun k hk => PG.prsTo_succ x k hk
          have HS2 : Hid _ := fun k => PG.prsTo_le x k
          have HS3 : Hid _ := PG.prsTo_all x
          have hpm := PG.prsTo_le m m.length
          rw [PG.prsTo_all m] at hpm
          obtain ⟨W8, hW8⟩ : ∃ W8, W8 = wr := ⟨_, rfl⟩
          subst hW8
          clear IO HI IX O3 hO3 hc3 hx1 hx2 hxp hxk hxl
          generalize PG.prs m = pm at *
          rw [show (some x).getD [] = x from rfl, show (some x).isSome = true from rfl]
          go_wp2
          go_loopw [18, 112] (fun pv iv wr => ∃ k : Nat, iv = .int .i64 k ∧ k ≤ x.length ∧ pv = .int .i64 (PG.prsTo x k : Nat) ∧ W8 = wr) (fun _ iv _ => (x.length - intOf iv).toNat)
          case atStart => exact ⟨0, rfl, by omega, rfl, rfl⟩
          case round =>
            obtain ⟨k, rfl, hk, rfl, rfl⟩ := hrel
            by_cases hlk : k < x.length
            · obtain ⟨b2, off2, hab2, hlt2, d0⟩ := M4.IntsAt.at O3I.out (k := k) hlk
              obtain ⟨b3, off3, hab3, hlt3, d1⟩ := M4.IntsAt.at HMI.out (k := k) (by have := HXL.out; omega)
              have hxz := HXK.out k (by have := HXL.out; omega)
              have HS : Hid _ := HS1.out k hlk
              have hsl := HS2.out k
              have hkm : (k : Int) < (m.length : Int) := by have := HXL.out; omega
              clear HS1 HS2 HS3 HXP HXK IX1 O3I HMI HM HXL
              generalize m.getD k 0 = z at *
              generalize x.getD k 0 = y at *
              generalize PG.prsTo x k = pk at *
              subst hab2 hab3
              by_cases hy : 0 ≤ y
              · by_cases hz : 0 ≤ z
                · go_wp2
                  go_roundw
                  case rel => exact ⟨k + 1, by go_num, by omega, by rw [HS.out, if_pos hy]; go_num, trivial⟩
                  case measure => simp [intOf]; omega
                · go_wp2
                  go_roundw
                  case rel => exact ⟨k + 1, by go_num, by omega, by rw [HS.out, if_pos hy]; go_num, trivial⟩
                  case measure => simp [intOf]; omega
              · have hz : ¬ 0 ≤ z := fun h => hy (hxz h)
                go_wp2
                go_roundw
                case rel => exact ⟨k + 1, by go_num, by omega, by rw [HS.out, if_neg hy]; rfl, trivial⟩
                case measure => simp [intOf]; omega
            · obtain rfl : k = x.length := by omega
              rw [HS3.out, HXP.out]
              obtain ⟨x0, x1, x2⟩ := BX.out _ b18
              clear HS1 HS2 HS3 HXP HXK O3I HMI
              have hpi : (((pm + 1 : Nat) : Int) != (pm : Int) + 1) = false := by simp
              go_wp2_with fail
              clear x0 x1 x2
              refine Calls.mono IX1.out ?_
              rintro e WS_ ⟨rfl, b19⟩
              have bS : Below W.heap.size W WS_ := b18.trans (b19.mono b18.size)
              clear b18 b19 IX1
              obtain ⟨x0, x1, x2⟩ := BX.out _ bS
              have Q1 : Hid _ := implSh_any l r a1 c1 ws WS_ (by omega) (by omega) (NR.RowsAt.below HW.out bS) _ rfl
              have Q2 : Hid (∀ X : World, Below W.heap.size W X → _) := fun X h => specSh_any l r a1 c1 ws X (by omega) (by omega) (NR.RowsAt.below HW.out h) _ rfl
              have HSM : Hid (PG.good l r ws = true → PG.shL l r ws ≠ [] → _) := fun h h2 => PG.short_more h h2
              have HSG : Hid (PG.shL l r ws ≠ [] → PG.good l r ws = true) := fun h => by
                cases c : PG.good l r ws with
                | true => rfl
                | false => exact absurd (by rw [PG.shL, c]; rfl) h
              have HSR : Hid (∀ x ∈ PG.shL l r ws, ∃ i : Nat, i < ws.length ∧ x = (i : Int)) := fun x hx => by
                cases c : PG.good l r ws with
                | true =>
                  rw [← PG.shL_yes c] at hx
                  obtain ⟨i, hi, -, rfl⟩ := (PG.those_mem _ _ _).1 hx
                  have := (PG.good_is c).1
                  exact ⟨i, by omega, rfl⟩
                | false => rw [PG.shL, c] at hx; simp at hx
              have hshl := PG.shL_le l r ws
              go_wp2_with fail
              clear x0 x1 x2
              refine Calls.mono Q1.out ?_
              rintro e w20 ⟨a20, c20, rfl, o20, b20⟩
              have bS2 : Below W.heap.size W w20 := bS.trans (b20.mono bS.size)
              obtain ⟨x0, x1, x2⟩ := BX.out _ bS2
              have Q2a : Hid _ := Q2.out w20 bS2
              clear Q1 Q2 b20 bS
              go_wp2_with fail
              clear x0 x1 x2
              refine Calls.mono Q2a.out ?_
              rintro e w21 ⟨a21, c21, rfl, o21, b21⟩
              have bS3 : Below W.heap.size W w21 := bS2.trans (b21.mono bS2.size)
              have O20 : Hid _ := M5.own_ints (M5.own_below o20 b21)
              have S2 : Hid _ := sameInts_any a20 a21 c20 c21 (PG.shL l r ws) (PG.shL l r ws) w21 (by omega) (by omega) O20.out (M5.own_ints o21)
              clear Q2a b21 bS2 o20 o21
              generalize PG.shL l r ws = SL at *
              generalize hsh : decide (0 < SL.length) = sh at *
              have HSH : Hid _ := hsh
              clear hsh
              cases sh with
              | false =>
                clear HSM HSG HSR HSH
                go_wp2_with fail
                refine Calls.mono S2.out ?_
                rintro e WC ⟨rfl, b22⟩
                have bC : Below W.heap.size W WC := bS3.trans (b22.mono bS3.size)
                clear S2 b22 bS3 O20
                have DC : Hid _ := drawIsCover_any a' ys cb WC hy (HBY.out WC (BW.trans (bC.mono BW.size)))
                clear HM HW BX HBY
                go_wp2_with fail
                refine Calls.mono DC.out ?_
                rintro e w30 ⟨l2, r2, d1, e1, ws2, d2, e2, ls, d3, e3, rs, rfl, h92, ht2, hls, hrs, ⟨bb, -, hE2⟩, hLS, hRS, bD⟩
                obtain ⟨h92, -, -, -⟩ := h92
                have BC : Below w.heap.size w w30 := (BW.trans (bC.mono BW.size)).trans (bD.mono (BW.trans (bC.mono BW.size)).size)
                clear DC bD bC BW
                have A0 : Below w30.heap.size w30 (w30.alloc (Obj.cells #[.int .i64 l2, .int .i64 r2, .slice d1 ws2.length e1] 25)) := (Below.refl _ w30).alloc (Nat.le_refl _) _
                have hRW2 : NR.RowsAt (w30.alloc (Obj.cells #[.int .i64 l2, .int .i64 r2, .slice d1 ws2.length e1] 25)) d1 ws2 := by
                  obtain ⟨az, cz, hvz, hR⟩ := hE2.view
                  simp only [Value.slice.injEq] at hvz
                  obtain ⟨rfl, -, -⟩ := hvz
                  exact NR.RowsAt.below hR A0
                have hbx2 := heap_alloc_new w30 (Obj.cells #[.int .i64 l2, .int .i64 r2, .slice d1 ws2.length e1] 25)
                have hlt2 : w30.heap.size < (w30.alloc (Obj.cells #[.int .i64 l2, .int .i64 r2, .slice d1 ws2.length e1] 25)).heap.size := by simp
                have hLS2 := hLS.below A0
                have hRS2 := hRS.below A0
                have BV : Below w.heap.size w (w30.alloc (Obj.cells #[.int .i64 l2, .int .i64 r2, .slice d1 ws2.length e1] 25)) := BC.trans (A0.mono BC.size)
                clear A0 BC hE2 hLS hRS
                go_wp2_with fail
                generalize w30.alloc (Obj.cells #[.int .i64 l2, .int .i64 r2, .slice d1 ws2.length e1] 25) = V at *
                generalize w30.heap.size = q2 at *
                have BX2 : Hid (∀ X : World, Below V.heap.size V X → X.cell? ⟨q2, 0, none⟩ = some (.int .i64 l2) ∧ X.cell? ⟨q2, 1, none⟩ = some (.int .i64 r2) ∧ X.cell? ⟨q2, 2, none⟩ = some (.slice d1 ws2.length e1)) := fun X h => by
                  have hX := (h.block q2 hlt2).trans hbx2
                  exact ⟨PG.cellA hX (i := 0) rfl, PG.cellA hX (i := 1) rfl, PG.cellA hX (i := 2) rfl⟩
                have K1 : Hid _ := implIsCover_any l2 r2 d1 d2 d3 e1 e2 e3 ws2 ls rs V (by omega) (by omega) (by omega) (by omega) hRW2 hLS2 hRS2
                have K2 : Hid (∀ X : World, Below V.heap.size V X → _) := fun X h => specIsCover_any l2 r2 d1 d2 d3 e1 e2 e3 ws2 ls rs X (by omega) (by omega) (by omega) (by omega) (hRW2.below h) (hLS2.below h) (hRS2.below h)
                have K3 : Hid (∀ X : World, Below V.heap.size V X → _) := fun X h => implAll_any l2 r2 d1 e1 ws2 X (by omega) (by omega) (hRW2.below h) _ _ rfl rfl
                have KC : Hid (PG.icB l2 r2 ws2 ls rs = true → _) := fun h => PG.all_cover h
                have hal := PG.allL_le l2 r2 ws2
                clear hRW2 hLS2 hRS2 hbx2
                refine Calls.mono K1.out ?_
                rintro e w31 ⟨rfl, b31⟩
                obtain ⟨x0, x1, x2⟩ := BX2.out w31 b31
                have K2a : Hid _ := K2.out w31 b31
                clear K1 K2
                generalize PG.ocB l2 r2 ws2 ls rs = oc at *
                generalize hic : PG.icB l2 r2 ws2 ls rs = ic at *
                clear hic
                go_wp2_with fail
                clear x0 x1 x2
                refine Calls.mono K2a.out ?_
                rintro e w32 ⟨rfl, b32⟩
                have b132 : Below V.heap.size V w32 := b31.trans (b32.mono b31.size)
                clear K2a b31 b32
                cases oc with
                | false =>
                  clear K3 KC BX2
                  go_wp2
                  go_ret
                  exact ⟨rfl, BV.trans (b132.mono BV.size)⟩
                | true =>
                  cases ic with
                  | false =>
                    clear K3 KC BX2
                    go_wp2
                    go_ret
                    exact ⟨rfl, BV.trans (b132.mono BV.size)⟩
                  | true =>
                    obtain ⟨hgd, hpr⟩ := KC.out rfl
                    obtain ⟨x0, x1, x2⟩ := BX2.out w32 b132
                    have K3a : Hid _ := K3.out w32 b132
                    rw [hgd] at K3a
                    have HPR : Hid (PG.prs (PG.allL l2 r2 ws2) ≤ ls.length + rs.length) := hpr
                    have HPA : Hid _ := PG.prsTo_all (PG.allL l2 r2 ws2)
                    have HPS : Hid _ := fun k hk => PG.prsTo_succ (PG.allL l2 r2 ws2) k hk
                    have HPL : Hid _ := fun k => PG.prsTo_le (PG.allL l2 r2 ws2) k
                    clear KC K3 BX2 hpr hgd
                    generalize PG.allL l2 r2 ws2 = AL at *
                    go_wp2_with fail
                    clear x0 x1 x2
                    refine Calls.mono K3a.out ?_
                    rintro e w33 ⟨a33, c33, rfl, o33, b33⟩
                    have BE : Below w.heap.size w w33 := BV.trans ((b132.trans (b33.mono b132.size)).mono BV.size)
                    have HAL : Hid (M4.IntsAt w33 a33 AL) := M5.own_ints o33
                    clear K3a o33 b33 b132 BV
                    go_wp2
                    go_loopw [41, 239] (fun pv iv wr => ∃ k : Nat, iv = .int .i64 k ∧ k ≤ AL.length ∧ pv = .int .i64 (PG.prsTo AL k : Nat) ∧ w33 = wr) (fun _ iv _ => (AL.length - intOf iv).toNat)
                    case atStart => exact ⟨0, rfl, by omega, rfl, rfl⟩
                    case round =>
                      obtain ⟨k, rfl, hk, rfl, rfl⟩ := hrel
                      by_cases hlk : k < AL.length
                      · obtain ⟨b2, off2, rfl, hlt9, d0⟩ := M4.IntsAt.at HAL.out (k := k) hlk
                        have HS : Hid _ := HPS.out k hlk
                        have hsl := HPL.out k
                        clear HPS HPL HPA HPR HAL
                        generalize AL.getD k 0 = y at *
                        generalize PG.prsTo AL k = pk at *
                        by_cases hy : 0 ≤ y
                        · go_wp2
                          go_roundw
                          case rel => exact ⟨k + 1, by go_num, by omega, by rw [HS.out, if_pos hy]; go_num, trivial⟩
                          case measure => simp [intOf]; omega
                        · go_wp2
                          go_roundw
                          case rel => exact ⟨k + 1, by go_num, by omega, by rw [HS.out, if_neg hy]; rfl, trivial⟩
                          case measure => simp [intOf]; omega
                      · obtain rfl : k = AL.length := by omega
                        rw [HPA.out]
                        have hpr := HPR.out
                        clear HPS HPL HPA HPR HAL
                        generalize PG.prs AL = pr at *
                        have hpi : (pr : Int) ≤ (ls.length : Int) + (rs.length : Int) := by omega
                        go_wp2
                        go_ret
                        exact ⟨rfl, BE⟩
              | true =>
                have hne : SL ≠ [] := by
                  have := of_decide_eq_true HSH.out
                  intro e; rw [e] at this; simp at this
                have HM1 : Hid _ := HSM.out (HSG.out hne) hne
                clear HSM HSG HSH hne
                go_wp2_with fail
                refine Calls.mono S2.out ?_
                rintro e w22 ⟨rfl, b22⟩
                have bS4 : Below W.heap.size W w22 := bS3.trans (b22.mono bS3.size)
                have O22 : Hid (M4.IntsAt w22 a20 SL) := M4.IntsAt.below O20.out b22
                clear S2 b22 bS3 O20
                go_wp2
                go_loopw [27, 171] (fun v iv wr => ∃ (k : Nat) (us : List Int), iv = .int .i64 k ∧ k ≤ SL.length ∧ us.length ≤ 200 * k ∧ Hid (us.Nodup ∧ ∀ x ∈ us, ∃ i : Nat, (i : Int) ∈ SL ∧ x ∈ NR.rw_ ws i) ∧ wr.ownsRow w22.heap.size 3 1 v us.length (M4.iv us) ∧ Below w22.heap.size w22 wr) (fun _ iv _ => (SL.length - intOf iv).toNat)
                case atStart => exact ⟨0, [], rfl, by omega, by simp, ⟨List.nodup_nil, fun x hx => (nomatch hx)⟩, World.ownsRow_nil _ _ _ _, Below.refl _ _⟩
                case round =>
                  obtain ⟨k, us, rfl, hk, hus, hU, hown, hb⟩ := hrel
                  by_cases hlk : k < SL.length
                  · obtain ⟨b2, off2, hab2, hlt2, d0⟩ := M4.IntsAt.at (M4.IntsAt.below O22.out hb) (k := k) hlk
                    have hmem : SL.getD k 0 ∈ SL := by rw [List.getD_eq_getElem?_getD, List.getElem?_eq_getElem hlk]; exact List.getElem_mem hlk
                    obtain ⟨i, hil, hix⟩ := HSR.out _ hmem
                    rw [hix] at d0 hmem
                    have HMEM : Hid ((i : Int) ∈ SL) := hmem
                    have bS5 : Below W.heap.size W wr := bS4.trans (hb.mono bS4.size)
                    obtain ⟨x0, x1, x2⟩ := BX.out _ bS5
                    obtain ⟨b3, off3, a31, c31, ha1, hlt3, e30, hrl, hri⟩ := (NR.RowsAt.below HW.out bS4).at hil
                    have e3 := (hb.cell (p := ⟨b3, off3 + i, none⟩) hlt3).trans e30
                    have hlt4 := Nat.lt_of_lt_of_le hlt3 hb.size
                    have hrt := NR.tot_row ws hil
                    have HRI : Hid (M4.IntsAt w22 a31 (NR.rw_ ws i)) := hri
                    have hii : (i : Int) < (ws.length : Int) := by omega
                    have HRM : Hid (∀ j, j < (NR.rw_ ws i).length → (NR.rw_ ws i).getD j 0 ∈ NR.rw_ ws i) := fun j hj => by rw [List.getD_eq_getElem?_getD, List.getElem?_eq_getElem hj]; exact List.getElem_mem hj
                    have hql : q < wr.heap.size := Nat.lt_of_lt_of_le hlt bS5.size
                    have HOW : Hid _ := hown
                    have HBW : Hid _ := hb
                    clear hown hb hri hmem hix e30 bS5
                    generalize hrw : NR.rw_ ws i = RI at *
                    have HRW : Hid _ := hrw
                    clear hrw
                    subst hab2 ha1
                    go_wp2_with fail
                    clear x0 x1 x2 e3 d0
                    go_loopw [27, 181] (fun v iv wr => ∃ (j : Nat) (us2 : List Int), iv = .int .i64 j ∧ j ≤ RI.length ∧ us2.length ≤ 200 * k + j ∧ Hid (us2.Nodup ∧ ∀ x ∈ us2, (∃ i : Nat, (i : Int) ∈ SL ∧ x ∈ NR.rw_ ws i) ∨ x ∈ RI) ∧ wr.ownsRow w22.heap.size 3 1 v us2.length (M4.iv us2) ∧ Below w22.heap.size w22 wr) (fun _ iv _ => (RI.length - intOf iv).toNat)
                    case atStart => exact ⟨0, us, rfl, by omega, by omega, ⟨hU.out.1, fun x hx => .inl (hU.out.2 x hx)⟩, HOW.out, HBW.out⟩
                    case round =>
                      clear HOW HBW hU
                      obtain ⟨j, us2, rfl, hj, hus2, hU2, hown, hb⟩ := hrel
                      have hbs := hb.size
                      by_cases hlj : j < RI.length
                      · obtain ⟨b5, off5, hab5, hlt5, d5⟩ := M4.IntsAt.at (M4.IntsAt.below HRI.out hb) (k := j) hlj
                        have hmy := HRM.out j hlj
                        obtain ⟨av, cv, hv, hvi⟩ := M5.own_view hown
                        subst hv
                        generalize RI.getD j 0 = y at *
                        have LH : Hid _ := hasL_any av cv us2 y wr (by omega) hvi
                        have HO : Hid _ := hown
                        have HB : Hid _ := hb
                        have HY : Hid (EG.hasB us2 y = false → y ∉ us2) := fun h => by simpa [EG.hasB] using h
                        have HMY : Hid _ := hmy
                        generalize EG.hasB us2 y = hs at *
                        clear hown hb hvi hmy
                        subst hab5
                        generalize hul : us2.length = ul at *
                        have HUL : Hid _ := hul
                        clear hul
                        go_wp2_with fail
                        refine Calls.mono LH.out ?_
                        rintro e w40 ⟨rfl, rfl⟩
                        clear LH
                        cases hs with
                        | true =>
                          clear HY HMY
                          go_wp2
                          go_roundw
                          case rel => exact ⟨j + 1, us2, by go_num, by omega, by have := HUL.out; omega, hU2, by rw [HUL.out]; exact HO.out, HB.out⟩
                          case measure => simp [intOf]; omega
                        | false =>
                          have HU3 : Hid ((us2 ++ [y]).Nodup ∧ ∀ x ∈ us2 ++ [y], (∃ i : Nat, (i : Int) ∈ SL ∧ x ∈ NR.rw_ ws i) ∨ x ∈ RI) := by
                            refine ⟨?_, fun x hx => ?_⟩
                            · rw [List.nodup_append]
                              exact ⟨hU2.out.1, by simp, fun z hz u hu e => by
                                simp at hu
                                rw [e, hu] at hz
                                exact HY.out rfl hz⟩
                            · rcases List.mem_append.1 hx with hx | hx
                              · exact hU2.out.2 x hx
                              · simp at hx; rw [hx]; exact .inr HMY.out
                          clear HY HMY d5 hlt5
                          go_wp2_with (at_builtin; refine wpList_append_own _ rfl _ _ 27 rfl w22.heap.size 3 i0 (.int .i64 0) 1 8 Try.underlying27 hi0 hz00 hz01 hz02 rfl (by decide) _ _ _ rfl (World.ownsRow.alloc HO.out _) ⟨wr.heap.size, 0, none⟩ 1 1 [.int .i64 y] rfl rfl ?c21 ?c22 ?c23 ?c24 ?c25 ?_)
                          case c21 => exact M2.new1 _ _ _
                          case c22 => exact M2.one1 _ _
                          case c23 => unfold maxLen; omega
                          case c24 => omega
                          case c25 => simp; omega
                          intro v' w41 hown1 hgrow _
                          have RR := M5.growI (zs := us2) (by rw [HUL.out]; exact HO.out) HB.out hbs (by rw [HUL.out]; exact hown1) hgrow
                          have R1 : Hid _ := RR.1
                          have R2 : Hid _ := RR.2
                          have hl2 : (us2 ++ [y]).length ≤ 200 * k + (j + 1) := by rw [List.length_append, HUL.out]; simp; omega
                          clear hown1 hgrow RR HO HB
                          generalize us2 ++ [y] = us3 at *
                          go_wp2
                          go_roundw
                          case rel => exact ⟨j + 1, us3, by go_num, by omega, hl2, HU3, R1.out, R2.out⟩
                          case measure => simp [intOf]; omega
                      · obtain rfl : j = RI.length := by omega
                        have HU3 : Hid (us2.Nodup ∧ ∀ x ∈ us2, ∃ i : Nat, (i : Int) ∈ SL ∧ x ∈ NR.rw_ ws i) := ⟨hU2.out.1, fun x hx => by
                          rcases hU2.out.2 x hx with h | h
                          · exact h
                          · exact ⟨i, HMEM.out, by rw [HRW.out]; exact h⟩⟩
                        have HO : Hid _ := hown
                        clear hown hU2
                        go_wp2
                        go_roundw
                        case rel => exact ⟨k + 1, us2, by go_num, by omega, by omega, HU3, HO.out, hb⟩
                        case measure => simp [intOf]; omega
                  · obtain rfl : k = SL.length := by omega
                    have hlen := HM1.out us hU.out.1 hU.out.2
                    obtain ⟨av, cv, hv, -⟩ := M5.own_view hown
                    subst hv
                    obtain ⟨WC, hWC⟩ : ∃ WC, WC = wr := ⟨_, rfl⟩
                    subst hWC
                    have bC : Below W.heap.size W WC := bS4.trans (hb.mono bS4.size)
                    have hli : (us.length : Int) < (SL.length : Int) := by omega
                    clear hown hU hb bS4 HM1 HSR O22
                    have DC : Hid _ := drawIsCover_any a' ys cb WC hy (HBY.out WC (BW.trans (bC.mono BW.size)))
                    clear HM HW BX HBY
                    go_wp2_with fail
                    refine Calls.mono DC.out ?_
                    rintro e w30 ⟨l2, r2, d1, e1, ws2, d2, e2, ls, d3, e3, rs, rfl, h92, ht2, hls, hrs, ⟨bb, -, hE2⟩, hLS, hRS, bD⟩
                    obtain ⟨h92, -, -, -⟩ := h92
                    have BC : Below w.heap.size w w30 := (BW.trans (bC.mono BW.size)).trans (bD.mono (BW.trans (bC.mono BW.size)).size)
                    clear DC bD bC BW
                    have A0 : Below w30.heap.size w30 (w30.alloc (Obj.cells #[.int .i64 l2, .int .i64 r2, .slice d1 ws2.length e1] 25)) := (Below.refl _ w30).alloc (Nat.le_refl _) _
                    have hRW2 : NR.RowsAt (w30.alloc (Obj.cells #[.int .i64 l2, .int .i64 r2, .slice d1 ws2.length e1] 25)) d1 ws2 := by
                      obtain ⟨az, cz, hvz, hR⟩ := hE2.view
                      simp only [Value.slice.injEq] at hvz
                      obtain ⟨rfl, -, -⟩ := hvz
                      exact NR.RowsAt.below hR A0
                    have hbx2 := heap_alloc_new w30 (Obj.cells #[.int .i64 l2, .int .i64 r2, .slice d1 ws2.length e1] 25)
                    have hlt2 : w30.heap.size < (w30.alloc (Obj.cells #[.int .i64 l2, .int .i64 r2, .slice d1 ws2.length e1] 25)).heap.size := by simp
                    have hLS2 := hLS.below A0
                    have hRS2 := hRS.below A0
                    have BV : Below w.heap.size w (w30.alloc (Obj.cells #[.int .i64 l2, .int .i64 r2, .slice d1 ws2.length e1] 25)) := BC.trans (A0.mono BC.size)
                    clear A0 BC hE2 hLS hRS
                    go_wp2_with fail
                    generalize w30.alloc (Obj.cells #[.int .i64 l2, .int .i64 r2, .slice d1 ws2.length e1] 25) = V at *
                    generalize w30.heap.size = q2 at *
                    have BX2 : Hid (∀ X : World, Below V.heap.size V X → X.cell? ⟨q2, 0, none⟩ = some (.int .i64 l2) ∧ X.cell? ⟨q2, 1, none⟩ = some (.int .i64 r2) ∧ X.cell? ⟨q2, 2, none⟩ = some (.slice d1 ws2.length e1)) := fun X h => by
                      have hX := (h.block q2 hlt2).trans hbx2
                      exact ⟨PG.cellA hX (i := 0) rfl, PG.cellA hX (i := 1) rfl, PG.cellA hX (i := 2) rfl⟩
                    have K1 : Hid _ := implIsCover_any l2 r2 d1 d2 d3 e1 e2 e3 ws2 ls rs V (by omega) (by omega) (by omega) (by omega) hRW2 hLS2 hRS2
                    have K2 : Hid (∀ X : World, Below V.heap.size V X → _) := fun X h => specIsCover_any l2 r2 d1 d2 d3 e1 e2 e3 ws2 ls rs X (by omega) (by omega) (by omega) (by omega) (hRW2.below h) (hLS2.below h) (hRS2.below h)
                    have K3 : Hid (∀ X : World, Below V.heap.size V X → _) := fun X h => implAll_any l2 r2 d1 e1 ws2 X (by omega) (by omega) (hRW2.below h) _ _ rfl rfl
                    have KC : Hid (PG.icB l2 r2 ws2 ls rs = true → _) := fun h => PG.all_cover h
                    have hal := PG.allL_le l2 r2 ws2
                    clear hRW2 hLS2 hRS2 hbx2
                    refine Calls.mono K1.out ?_
                    rintro e w31 ⟨rfl, b31⟩
                    obtain ⟨x0, x1, x2⟩ := BX2.out w31 b31
                    have K2a : Hid _ := K2.out w31 b31
                    clear K1 K2
                    generalize PG.ocB l2 r2 ws2 ls rs = oc at *
                    generalize hic : PG.icB l2 r2 ws2 ls rs = ic at *
                    clear hic
                    go_wp2_with fail
                    clear x0 x1 x2
                    refine Calls.mono K2a.out ?_
                    rintro e w32 ⟨rfl, b32⟩
                    have b132 : Below V.heap.size V w32 := b31.trans (b32.mono b31.size)
                    clear K2a b31 b32
                    cases oc with
                    | false =>
                      clear K3 KC BX2
                      go_wp2
                      go_ret
                      exact ⟨rfl, BV.trans (b132.mono BV.size)⟩
                    | true =>
                      cases ic with
                      | false =>
                        clear K3 KC BX2
                        go_wp2
                        go_ret
                        exact ⟨rfl, BV.trans (b132.mono BV.size)⟩
                      | true =>
                        obtain ⟨hgd, hpr⟩ := KC.out rfl
                        obtain ⟨x0, x1, x2⟩ := BX2.out w32 b132
                        have K3a : Hid _ := K3.out w32 b132
                        rw [hgd] at K3a
                        have HPR : Hid (PG.prs (PG.allL l2 r2 ws2) ≤ ls.length + rs.length) := hpr
                        have HPA : Hid _ := PG.prsTo_all (PG.allL l2 r2 ws2)
                        have HPS : Hid _ := fun k hk => PG.prsTo_succ (PG.allL l2 r2 ws2) k hk
                        have HPL : Hid _ := fun k => PG.prsTo_le (PG.allL l2 r2 ws2) k
                        clear KC K3 BX2 hpr hgd
                        generalize PG.allL l2 r2 ws2 = AL at *
                        go_wp2_with fail
                        clear x0 x1 x2
                        refine Calls.mono K3a.out ?_
                        rintro e w33 ⟨a33, c33, rfl, o33, b33⟩
                        have BE : Below w.heap.size w w33 := BV.trans ((b132.trans (b33.mono b132.size)).mono BV.size)
                        have HAL : Hid (M4.IntsAt w33 a33 AL) := M5.own_ints o33
                        clear K3a o33 b33 b132 BV
                        go_wp2
                        go_loopw [41, 239] (fun pv iv wr => ∃ k : Nat, iv = .int .i64 k ∧ k ≤ AL.length ∧ pv = .int .i64 (PG.prsTo AL k : Nat) ∧ w33 = wr) (fun _ iv _ => (AL.length - intOf iv).toNat)
                        case atStart => exact ⟨0, rfl, by omega, rfl, rfl⟩
                        case round =>
                          obtain ⟨k, rfl, hk, rfl, rfl⟩ := hrel
                          by_cases hlk : k < AL.length
                          · obtain ⟨b2, off2, rfl, hlt9, d0⟩ := M4.IntsAt.at HAL.out (k := k) hlk
                            have HS : Hid _ := HPS.out k hlk
                            have hsl := HPL.out k
                            clear HPS HPL HPA HPR HAL
                            generalize AL.getD k 0 = y at *
                            generalize PG.prsTo AL k = pk at *
                            by_cases hy : 0 ≤ y
                            · go_wp2
                              go_roundw
                              case rel => exact ⟨k + 1, by go_num, by omega, by rw [HS.out, if_pos hy]; go_num, trivial⟩
                              case measure => simp [intOf]; omega
                            · go_wp2
                              go_roundw
                              case rel => exact ⟨k + 1, by go_num, by omega, by rw [HS.out, if_neg hy]; rfl, trivial⟩
                              case measure => simp [intOf]; omega
                          · obtain rfl : k = AL.length := by omega
                            rw [HPA.out]
                            have hpr := HPR.out
                            clear HPS HPL HPA HPR HAL
                            generalize PG.prs AL = pr at *
                            have hpi : (pr : Int) ≤ (ls.length : Int) + (rs.length : Int) := by omega
                            go_wp2
                            go_ret
                            exact ⟨rfl, BE⟩
  · go_enter Try.func4, Try.ntmps4
    go_wp2
    go_ret
    exact ⟨rfl, Below.refl _ _⟩
end Go.Proofs.Ytkgiboookbhmmaa
