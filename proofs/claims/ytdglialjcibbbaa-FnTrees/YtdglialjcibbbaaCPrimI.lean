/- Prim of the program. -/
import Derived.Test.YtdglialjcibbbaaRows
import Derived.Test.YtdglialjcibbbaaMPQ
import Derived.WalkKit
import Derived.WalkSpells
import Derived.WalkLawsBesides
import Derived.Outline
import Derived.Maps.AppendAt
namespace Go.Proofs.Ytdglialjcibbbaa
open Go.RowKit
set_option maxHeartbeats 800000 in
set_option maxRecDepth 100000 in
theorem endBeside_any (b : Option Addr) (cb : Nat) (rs : List Int) (x y : Nat) (z : Int) (w : World) (hz : rs.length ≤ 1048576) (hos : M4.IntsAt w b rs) (R : Nat) (hR : Hid ((if EG.hasB rs (x : Int) = true then y else x) = R)) :
    Calls Try.prog 53 #[.agg #[.int .i64 (x : Int), .int .i64 (y : Int), .int .i64 z], .slice b rs.length cb] w fun e w' => e = .returned (.int .i64 (R : Int)) ∧ Below w.heap.size w w' := by
  have hbA : Below w.heap.size w (w.alloc (.cells #[.int .i64 (x : Int), .int .i64 (y : Int), .int .i64 z] 33)) := (Below.refl _ w).alloc (Nat.le_refl _) _
  have CT : Hid _ := containsI_any b cb rs (x : Int) (w.alloc (.cells #[.int .i64 (x : Int), .int .i64 (y : Int), .int .i64 z] 33)) hz (hos.below hbA)
  have HB : Hid _ := hbA
  clear hbA hos
  go_enter Try.func53, Try.ntmps53
  go_wp2_with fail
  refine Calls.mono CT.out ?_
  rintro e w2 ⟨rfl, rfl⟩
  clear CT
  cases hq : EG.hasB rs (x : Int) with
  | true =>
    have HR : Hid (y = R) := by show _ = _; rw [← hR.out, if_pos hq]
    clear hq hR
    go_wp2
    go_ret
    exact ⟨by rw [← HR.out]; rfl, HB.out⟩
  | false =>
    have HR : Hid (x = R) := by show _ = _; rw [← hR.out, if_neg (by simp [hq])]
    clear hq hR
    go_wp2
    go_ret
    exact ⟨by rw [← HR.out]; rfl, HB.out⟩
set_option linter.unusedSimpArgs false in
set_option maxHeartbeats 3200000 in
set_option maxRecDepth 100000 in
theorem implPrim_any (a : Option Addr) (ca : Nat) (xs : List I3) (w : World) (hn0 : xs.length ≤ 1048576) (hin : MI3.RowAt w a xs) :
    Calls Try.prog 21 #[.slice a xs.length ca] w fun e w' => ∃ a1 c1, e = .returned (.tuple #[.slice a1 (EG.primL xs).length c1, .int .i64 (EG.primC xs), .bool (EG.okP xs)]) ∧ w'.ownsRow w.heap.size 3 1 (.slice a1 (EG.primL xs).length c1) (EG.primL xs).length (M4.iv (EG.primL xs)) ∧ Below w.heap.size w w' := by
  obtain ⟨i0, hi, hz0, hz1, hz2⟩ := info_parts Try.info3
  have GP : Hid _ := implGoodEdges_any a ca xs w hn0 hin _ rfl
  have HI : Hid (MI3.RowAt w a xs) := hin
  clear hin
  go_enter Try.func21, Try.ntmps21
  go_wp2_with fail
  refine Calls.mono GP.out ?_
  rintro e w1 ⟨rfl, hb1⟩
  clear GP
  cases hg : EG.okP xs with
  | false =>
    have hC : Hid (EG.primL xs = []) := by show _ = _; simp [EG.primL, hg]
    have hD : Hid (EG.primC xs = 0) := by show _ = _; simp [EG.primC, hg]
    have HK : Hid _ := hg
    clear hg HI
    go_wp2
    go_ret3
    exact ⟨none, 0, by rw [hC.out, hD.out, HK.out]; rfl, by rw [hC.out]; exact World.ownsRow_nil _ _ _ _, hb1⟩
  | true =>
    have HG : Hid _ := hg
    have hlen := ((EG.okP_iff xs).1 hg).1
    have hC : Hid (EG.primL xs = (EG.tks (EG.outer xs 8).2).mergeSort (fun x y => decide (x ≤ y))) := by show _ = _; simp [EG.primL, hg]
    have hD : Hid (EG.primC xs = EG.sumUp xs (EG.primL xs) (EG.primL xs).length) := by show _ = _; simp [EG.primC, hg]
    have RT0 : Hid (EG.RT w1.heap.size ((w1.alloc (.cells #[] 3)).alloc (.cells #[] 3)) (.slice (some ⟨w1.heap.size, 0, none⟩) 0 0) (.slice (some ⟨w1.heap.size + 1, 0, none⟩) 0 0) [] []) := by
      show EG.RT _ _ _ _ _ _
      have h1 := EG.own_emp w1 w1.heap.size (Nat.le_refl _)
      have h2 := EG.own_emp (w1.alloc (.cells #[] 3)) w1.heap.size (by simp)
      have e1 : (w1.alloc (.cells #[] 3)).heap.size = w1.heap.size + 1 := by simp
      rw [e1] at h2
      exact ⟨h1.alloc _, h2, by simp [Value.ownBlock], by simp, by simp⟩
    clear hg
    go_wp2
    go_loopw [5, 6, 15] (fun rv tv iv wr => ∃ (s : Nat) (rs : List Int), iv = .int .i64 s ∧ s ≤ 8 ∧ Hid (EG.RT w1.heap.size wr rv tv rs (EG.tks (EG.outer xs s).2)) ∧ Hid (EG.Rep rs (EG.outer xs s).1) ∧ Hid (EG.OInv xs (EG.outer xs s).1 (EG.outer xs s).2) ∧ Below w1.heap.size w1 wr) (fun _ _ iv _ => (8 - intOf iv).toNat)
    case atStart => exact ⟨0, [], rfl, by omega, RT0, show Hid _ from ⟨fun n _ => rfl, Nat.zero_le _⟩, show Hid _ from EG.OInv.start xs, ((Below.refl _ _).alloc (Nat.le_refl _) _).alloc (by simp) _⟩
    case round =>
      obtain ⟨s, rs, rfl, hs, hRT, hRep, hOI, hb⟩ := hrel
      clear RT0
      have hbs := hb.size
      by_cases hls : s < 8
      · obtain ⟨ra, rc, rfl, hRA⟩ := M5.own_view hRT.out.a
        have CT := containsI_any ra rc rs (s : Int) wr (by have := hRep.out.len; omega) hRA
        rw [hRep.out.is s hls] at CT
        have HCT : Hid _ := CT
        clear CT hRA
        cases hq : (EG.outer xs s).1 s with
        | true =>
          have HSK : Hid _ := EG.outer_skip hq
          rw [hq] at HCT
          clear hq
          go_wp2_with fail
          refine Calls.mono HCT.out ?_
          rintro e w2 ⟨rfl, rfl⟩
          clear HCT
          go_wp2
          go_roundw
          case rel => exact ⟨s + 1, rs, by go_num, by omega, by rw [HSK.out]; exact hRT, by rw [HSK.out]; exact hRep, by rw [HSK.out]; exact hOI, hb⟩
          case measure => simp [intOf]; omega
        | false =>
          rw [hq] at HCT
          have HQ : Hid _ := hq
          clear hq
          have hrl := hRep.out.len
          go_wp2_with fail
          refine Calls.mono HCT.out ?_
          rintro e w2 ⟨rfl, rfl⟩
          clear HCT
          go_wp2_with (at_builtin; go_loud (refine wpList_append_own_at _ rfl _ _ 24 rfl w1.heap.size 3 i0 (.int .i64 0) 1 8 Try.underlying24 hi hz0 hz1 hz2 rfl (by decide) _ _ _ rfl (hRT.out.a.alloc _) ⟨wr.heap.size, 0, none⟩ 1 1 [.int .i64 (s : Int)] rfl rfl ?p1 ?p2 ?p3 ?p4 ?p5 ?_))
          all_goals try (first | rfl | omega | exact M2.new1 _ _ _ | exact M2.one1 _ _ | (unfold maxLen; omega) | (simp; omega))
          intro u' w3 hown1 hgrow hnil hloc
          have R3 := hRT.out.appA (by exact hown1) hgrow (fun e => hnil e) hloc
          have B3 : Below w1.heap.size w1 w3 := (hb.alloc hbs _).grown hgrow (by simp; omega) (fun j hj => (hRT.out.a.lt j hj).1)
          have GW := EG.Grow.start hOI.out HQ.out
          have RP3 := hRep.out.single hls HQ.out
          generalize rs ++ [(s : Int)] = rs3 at *
          have HR3 : Hid _ := R3
          have HGW : Hid _ := GW
          have HRP : Hid _ := RP3
          clear R3 GW RP3 hown1 hgrow hnil hloc hRT hRep hOI hb hbs
          obtain ⟨ra3, rc3, rfl, hRA3⟩ := M5.own_view HR3.out.a
          have CO : Hid _ := cutOf_any a ra3 ca rc3 xs rs3 w3 hlen (by have := HRP.out.len; omega) (HI.out.below (hb1.trans (B3.mono hb1.size))) hRA3
          clear hRA3
          go_wp2_with fail
          refine Calls.mono CO.out ?_
          rintro e w4 ⟨oa, oc, rfl, oo, hb4⟩
          have B4 : Below w1.heap.size w1 w4 := B3.trans (hb4.mono B3.size)
          have HR4 : Hid _ := HR3.out.below hb4
          have HOI : Hid (M4.IntsAt w4 oa (EG.cutUp xs rs3 xs.length)) := M5.own_ints oo
          clear CO oo hb4 B3 HR3
          have HCU : Hid ((EG.cutUp xs rs3 xs.length).length ≤ 24) := by show _ ≤ _; have := EG.cutUp_len xs rs3 xs.length; omega
          go_wp2
          go_loopw [5, 6, 8] (fun rv tv ov wr => ∃ (f : Nat) (M : Nat → Bool) (T : List Nat) (rs : List Int) (oa : Option Addr) (oc : Nat), Hid (EG.RT w1.heap.size wr rv tv rs (EG.tks T)) ∧ Hid (EG.Grow xs s f M T) ∧ Hid (EG.Rep rs (EG.uni (EG.outer xs s).1 M)) ∧ ov = .slice oa (EG.cutUp xs rs xs.length).length oc ∧ Hid (M4.IntsAt wr oa (EG.cutUp xs rs xs.length)) ∧ Below w1.heap.size w1 wr) (fun rv _ _ _ => 16 - EG.lenV rv)
          case atStart => exact ⟨8, EG.single s, (EG.outer xs s).2, rs3, oa, oc, HR4, HGW, HRP, rfl, HOI, B4⟩
          case round =>
            obtain ⟨f, M, T, rs, oa, oc, hRT, hGW, hRP, rfl, hOA, hb⟩ := hrel
            clear HR4 HGW HRP HOI B4 HCU
            have hbs := hb.size
            have hrl := hRP.out.len
            have htl := hGW.out.iv.tl hlen
            have hcl := EG.cutUp_len xs rs xs.length
            have HIN : Hid (MI3.RowAt _ a xs) := HI.out.below (hb1.trans (hb.mono hb1.size))
            by_cases h0 : 0 < (EG.cutUp xs rs xs.length).length
            · have h0' : decide (0 < (EG.cutUp xs rs xs.length).length) = true := by simp; exact h0
              have HMC : Hid _ := EG.min_cut xs rs _ (fun k hk => hRP.out.cut HG.out hk) xs.length (Nat.le_refl _)
              have hCI : Hid _ := EG.cut_in xs rs
              rw [hGW.out.iv.best_eq] at HMC
              generalize hcu : EG.cutUp xs rs xs.length = cu at *
              clear hcu
              go_wp2_with fail
              refine Calls.mono (byCost_any a ca xs.length _) ?_
              rintro e w5 ⟨rfl, rfl⟩
              have hbA : Below wr.heap.size wr (wr.alloc (.cells #[.slice a xs.length ca] 23)) := (Below.refl _ _).alloc (Nat.le_refl _) _
              have MF : Hid _ := minFunc_any a oa ca oc wr.heap.size xs cu (wr.alloc (.cells #[.slice a xs.length ca] 23)) hlen (by omega) h0 hCI.out (by rw [World.cell?_alloc_new]; rfl) (HIN.out.below hbA) (hOA.out.below hbA)
              have HBA : Hid _ := hbA
              clear hbA hOA hCI h0
              go_wp2_with fail
              refine Calls.mono MF.out ?_
              rintro e w6 ⟨m, rfl, hfold, hml, hb6⟩
              have B6 := HBA.out.trans (hb6.mono HBA.out.size)
              have HBE : Hid (EG.bestUp xs M xs.length = some m) := HMC.out.symm.trans hfold
              have HR6 : Hid _ := hRT.out.below B6
              have B6' : Below w1.heap.size w1 w6 := hb.trans (B6.mono hb.size)
              have hs6 := B6'.size
              clear MF hb6 hfold HMC HBA B6 hRT hb HIN
              go_wp2_with (at_builtin; go_loud (refine wpList_append_own_at _ rfl _ _ 24 rfl w1.heap.size 3 i0 (.int .i64 0) 1 8 Try.underlying24 hi hz0 hz1 hz2 rfl (by decide) _ _ _ rfl (HR6.out.b.alloc _) ⟨w6.heap.size, 0, none⟩ 1 1 [.int .i64 (m : Int)] rfl rfl ?q1 ?q2 ?q3 ?q4 ?q5 ?_))
              all_goals try (first | rfl | omega | exact M2.new1 _ _ _ | exact M2.one1 _ _ | (unfold maxLen; omega) | (simp; omega))
              intro v' w7 hown1 hgrow hnil hloc
              have R7 := HR6.out.appB (by exact hown1) hgrow (fun e => hnil e) hloc
              have B7 : Below w1.heap.size w1 w7 := (B6'.alloc hs6 _).grown hgrow (by simp; omega) (fun j hj => (HR6.out.b.lt j hj).1)
              rw [← EG.tks_app] at R7
              have HR7 : Hid _ := R7
              have hs7 := B7.size
              clear R7 hown1 hgrow hnil hloc HR6 B6' hs6
              obtain ⟨ra7, rc7, rfl, hRA7⟩ := M5.own_view HR7.out.a
              have HIN7 := HI.out.below (hb1.trans (B7.mono hb1.size))
              obtain ⟨b2, off2, hab, hlt2, c0, c1, c2⟩ := HIN7.at hml
              have G := EG.okP_good HG.out hml
              obtain ⟨x, hx⟩ := Int.eq_ofNat_of_zero_le G.f0
              obtain ⟨y, hy⟩ := Int.eq_ofNat_of_zero_le G.t0
              have hx8 : x < 8 := by have := G.f1; omega
              have hen : EG.en xs m = (x, y) := by unfold EG.en; rw [hx, hy]; rfl
              obtain ⟨gf, hGr⟩ := hGW.out.step HG.out HBE.out
              obtain ⟨hv8, hRep2⟩ := hGW.out.rep HG.out HBE.out hRP.out
              have hne : (if EG.hasB rs (x : Int) = true then y else x) = EG.newEnd xs (EG.uni (EG.outer xs s).1 M) m := by
                unfold EG.newEnd
                rw [hen, hRP.out.is x hx8]
              generalize EG.newEnd xs (EG.uni (EG.outer xs s).1 M) m = nv at *
              have EB : Hid _ := endBeside_any ra7 rc7 rs x y (MI3.at_ xs m).a2 w7 (by omega) hRA7 nv hne
              rw [hx] at c0
              rw [hy] at c1
              have HGr : Hid _ := hGr
              have HRep2 : Hid _ := hRep2
              subst hab
              clear HIN7 G hx hy hen hGr hRep2 hne hRA7 hGW hRP HBE
              generalize (MI3.at_ xs m).a2 = zc at *
              go_wp2_with fail
              refine Calls.mono EB.out ?_
              rintro e w8 ⟨rfl, hb8⟩
              have B8 : Below w1.heap.size w1 w8 := B7.trans (hb8.mono B7.size)
              have HR8 : Hid _ := HR7.out.below hb8
              have hs8 := B8.size
              clear EB hb8 HR7 B7 c0 c1 c2 hs7
              go_wp2_with (at_builtin; go_loud (refine wpList_append_own_at _ rfl _ _ 24 rfl w1.heap.size 3 i0 (.int .i64 0) 1 8 Try.underlying24 hi hz0 hz1 hz2 rfl (by decide) _ _ _ rfl (HR8.out.a.alloc _) ⟨w8.heap.size, 0, none⟩ 1 1 [.int .i64 (nv : Int)] rfl rfl ?r1 ?r2 ?r3 ?r4 ?r5 ?_))
              all_goals try (first | rfl | omega | exact M2.new1 _ _ _ | exact M2.one1 _ _ | (unfold maxLen; omega) | (simp; omega))
              intro u9 w9 hown1 hgrow hnil hloc
              have R9 := HR8.out.appA (by exact hown1) hgrow (fun e => hnil e) hloc
              have B9 : Below w1.heap.size w1 w9 := (B8.alloc hs8 _).grown hgrow (by simp; omega) (fun j hj => (HR8.out.a.lt j hj).1)
              have HLN : Hid (rs.length < (rs ++ [(nv : Int)]).length) := by show _ < _; simp
              generalize rs ++ [(nv : Int)] = rs9 at *
              have HR9 : Hid _ := R9
              clear R9 hown1 hgrow hnil hloc HR8 B8 hs8
              obtain ⟨ra9, rc9, rfl, hRA9⟩ := M5.own_view HR9.out.a
              have hrl9 := HRep2.out.len
              have CO : Hid _ := cutOf_any _ ra9 ca rc9 xs rs9 w9 hlen (by omega) (HI.out.below (hb1.trans (B9.mono hb1.size))) hRA9
              clear hRA9
              go_wp2_with fail
              refine Calls.mono CO.out ?_
              rintro e w10 ⟨oa2, oc2, rfl, oo, hb10⟩
              have B10 : Below w1.heap.size w1 w10 := B9.trans (hb10.mono B9.size)
              have HR10 : Hid _ := HR9.out.below hb10
              have HOI2 : Hid (M4.IntsAt w10 oa2 (EG.cutUp xs rs9 xs.length)) := M5.own_ints oo
              clear CO oo hb10 B9 HR9
              go_wp2
              go_roundw
              case rel => exact ⟨gf, _, _, rs9, oa2, oc2, HR10, HGr, HRep2, rfl, HOI2, B10⟩
              case measure => simp only [EG.lenV] at *; have := HLN.out; omega
            · have h0' : decide (0 < (EG.cutUp xs rs xs.length).length) = false := decide_eq_false h0
              have HBN : Hid (EG.bestUp xs M xs.length = none) := by
                show _ = _
                rw [← hGW.out.iv.best_eq]; exact EG.cut_none hRP.out HG.out (Nat.eq_zero_of_not_pos h0)
              have HOT : Hid _ := EG.outer_take HQ.out hGW.out.rn HBN.out
              have HFI : Hid _ := hGW.out.iv.finish HBN.out
              clear hOA HBN hGW HIN HQ
              generalize EG.cutUp xs rs xs.length = cu at *
              go_wp2
              go_roundw
              case rel => exact ⟨s + 1, rs, by go_num, by omega, by rw [HOT.out]; exact hRT, by rw [HOT.out]; exact hRP, by rw [HOT.out]; exact HFI, hb⟩
              case measure => simp [intOf]; omega
      · obtain rfl : s = 8 := by omega
        have htl := hOI.out.tl hlen
        obtain ⟨g, cap, rfl⟩ : ∃ g cap, _ = Value.slice (some ⟨g, 0, none⟩) (EG.tks (EG.outer xs 8).2).length cap := by
          rcases hRT.out.b.2 with ⟨h, _⟩ | ⟨g, cap, cur, h, _⟩
          · exact absurd h hRT.out.nb
          · exact ⟨g, cap, h⟩
        have SR : Hid _ := sortsI w1.heap.size g cap _ _ hRT.out.b (by omega)
        have HIR : Hid _ := hOI.out.inR (List.mergeSort_perm (EG.tks (EG.outer xs 8).2) fun x y => decide (x ≤ y))
        have hml : ((EG.tks (EG.outer xs 8).2).mergeSort fun x y => decide (x ≤ y)).length = (EG.tks (EG.outer xs 8).2).length := List.length_mergeSort _
        have HML : Hid _ := hml
        have hgb := (hRT.out.b.lt g rfl).1
        clear hml hOI hRT hRep
        rw [← hC.out] at SR HIR HML
        generalize EG.tks (EG.outer xs 8).2 = ts at *
        generalize hPL : EG.primL xs = pl at *
        have HPL : Hid _ := hPL
        clear hPL hC
        go_wp2_with fail
        refine Calls.mono SR.out ?_
        rintro e w2 ⟨rfl, ho2, hg2⟩
        have B2 : Below w1.heap.size w1 w2 := hb.grown hg2 hbs (fun j hj => by cases hj; exact hgb)
        have BW : Below w.heap.size w w2 := hb1.trans (B2.mono hb1.size)
        rw [← HML.out] at ho2
        have CC : Hid _ := costOf_any a (some ⟨g, 0, none⟩) ca cap xs pl w2 HG.out (by rw [HML.out]; omega) HIR.out (HI.out.below BW) (M4.IntsAt.of_own ho2)
        have HO2 : Hid _ := ho2
        rw [HML.out] at CC
        clear SR ho2 hg2 HIR hb
        go_wp2_with fail
        refine Calls.mono CC.out ?_
        rintro e w3 ⟨rfl, hb3⟩
        have HO3 : Hid _ := M5.own_below HO2.out hb3
        have B3 := BW.trans (hb3.mono BW.size)
        clear CC HO2 hb3
        go_wp2
        go_ret3
        refine ⟨some ⟨g, 0, none⟩, cap, ?_, by rw [HPL.out]; exact EG.own_base HO3.out hb1.size, B3⟩
        rw [HPL.out, hD.out, HG.out, HML.out]; rfl
end Go.Proofs.Ytdglialjcibbbaa
