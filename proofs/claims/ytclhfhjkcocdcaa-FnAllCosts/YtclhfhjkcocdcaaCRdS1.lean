/- Costs lowered road by road: l11Relax of the specification. -/
import Derived.Test.YtclhfhjkcocdcaaRows
import Derived.Test.YtclhfhjkcocdcaaMRJ
import Derived.Test.YtclhfhjkcocdcaaMInfo
import Derived.WalkKit
import Derived.WalkSpells
import Derived.WalkLawsBesides
import Derived.Outline
import Derived.Deep.QuietTactic
import Derived.BigQuiet
import Derived.Deep.RegionHeld3
namespace Go.Proofs.Ytclhfhjkcocdcaa
open Go.RowKit
set_option linter.unusedSimpArgs false in
set_option maxHeartbeats 3200000 in
set_option maxRecDepth 100000 in
theorem relax_any (c : RD.Cs) (a b : Option Addr) (cap cb : Nat) (xs : List I3) (w : World) (hn : xs.length ≤ 20) (hg : RD.Gd xs) (hc : RD.Bd 0 c) (hin : MI3.RowAt w a xs) (hos : M4.IntsAt w b (RD.li c)) (F : RD.Cs) (B : Bool) (hF : Hid (RD.relax xs 9 c = (F, B))) :
    Calls Try.prog 40 #[.slice a xs.length cap, .slice b 8 cb] w fun e w' => ∃ a1 c1, e = .returned (.tuple #[.slice a1 8 c1, .bool B]) ∧ w'.ownsRow w.heap.size 3 1 (.slice a1 8 c1) 8 (M4.iv (RD.li F)) ∧ Below w.heap.size w w' := by
  obtain ⟨i0, hi, hz0, hz1, hz2⟩ := info_parts Try.info3
  have HI : Hid (MI3.RowAt w a xs) := hin
  have HG : Hid (∀ k, k < xs.length → RD.Good (MI3.at_ xs k)) := fun k hk => by rw [MI3.at_eq xs k hk]; exact hg _ (List.getElem_mem hk)
  have HC : Hid _ := hc
  have HGG : Hid _ := hg
  obtain ⟨b5, off5, rfl, hlt5, hb5⟩ : ∃ b5 off5, b = some ⟨b5, off5, none⟩ ∧ b5 < w.heap.size ∧ ∀ j, j < 8 → w.cell? ⟨b5, off5 + j, none⟩ = some (.int .i64 (c j)) := by
    obtain ⟨b5, off5, rfl, hlt, _⟩ := hos.at (k := 0) (by rw [RD.li_len]; omega)
    refine ⟨b5, off5, rfl, hlt, fun j hj => ?_⟩
    obtain ⟨b6, off6, he, _, h⟩ := hos.at (k := j) (by rw [RD.li_len]; exact hj)
    simp only [Option.some.injEq, Addr.mk.injEq, and_true] at he
    obtain ⟨rfl, rfl⟩ := he
    rw [RD.li_get c hj] at h; exact h
  have HS : Hid (∀ j u, (M4.iv (RD.li c))[j]? = some u → (w.alloc (.cells #[] 3)).cell? (Addr.add ⟨b5, off5, none⟩ j) = some u) := fun j u hu => by
    rw [RD.iv_li] at hu
    have hj : j < 8 := by
      have := (List.getElem?_eq_some_iff.1 hu).1
      rwa [RD.il_len] at this
    rw [RD.il_get c hj] at hu
    cases hu
    have : Addr.add ⟨b5, off5, none⟩ j = ⟨b5, off5 + j, none⟩ := by simp [Addr.add_mid]
    rw [this, World.cell?_alloc_lt _ _ _ hlt5]; exact hb5 j hj
  have OWN0 : Hid ((w.alloc (.cells #[] 3)).ownsRow w.heap.size 3 1 (.slice (some ⟨w.heap.size, 0, none⟩) 0 0) 0 []) := by
    have := World.ownsRow_lit (base := w.heap.size) (e := 3) (size := 1) w #[] 0 (by simp) (by unfold maxLen; omega) (by simp)
    simpa [Hid] using this
  have hb0 : Below w.heap.size w (w.alloc (.cells #[] 3)) := (Below.refl _ w).alloc (Nat.le_refl _) _
  have H1 : Hid (∀ u ∈ M4.iv (RD.li c), u.oneCell' = true) := by rw [RD.iv_li]; exact RD.il_one c
  have HL8 : Hid ((M4.iv (RD.li c)).length = 8 * 1) := by show _ = _; rw [RD.iv_li, RD.il_len]
  clear hin hos hg hc hb5
  go_enter Try.func40, Try.ntmps40
  go_wp2_with (at_builtin; refine wpList_append_own _ rfl _ _ 32 rfl w.heap.size 3 i0 (.int .i64 0) 1 8 Try.underlying32 hi hz0 hz1 hz2 rfl (by decide) _ _ _ rfl OWN0.out ⟨b5, off5, none⟩ 8 cb (M4.iv (RD.li c)) rfl HL8.out HS.out H1.out ?c3 ?c4 ?c5 ?_)
  case c3 => unfold maxLen; omega
  case c4 => omega
  case c5 => simp
  intro v1 w1 hown1 hgrow1 _
  have HB1 : Hid (Below w.heap.size w w1) := hb0.grown hgrow1 (by simp) (fun j hj => by simp [Value.ownBlock] at hj; omega)
  obtain ⟨g, cg, rfl⟩ : ∃ g cg, v1 = .slice (some ⟨g, 0, none⟩) 8 cg := by
    rcases hown1.2 with ⟨_, h⟩ | ⟨g, cg, cur, h, _⟩
    · omega
    · exact ⟨g, cg, h⟩
  have HO1 : Hid (w1.ownsRow w.heap.size 3 1 (.slice (some ⟨g, 0, none⟩) 8 cg) 8 (M4.iv (RD.li c))) := hown1
  clear hown1 hgrow1 OWN0 HS H1 HL8 hi hz0 hz1 hz2 hb0 hlt5
  go_wp2_with fail
  go_loopw [7] (fun iv wr => ∃ (k : Nat) (d : RD.Cs), iv = .int .i64 k ∧ k ≤ 9 ∧ Hid (RD.Bd (2000 * k) d) ∧ Hid (RD.relax xs (9 - k) d = (F, B)) ∧ wr.ownsRow w.heap.size 3 1 (.slice (some ⟨g, 0, none⟩) 8 cg) 8 (M4.iv (RD.li d)) ∧ Below w.heap.size w wr) (fun iv _ => (9 - intOf iv).toNat)
  case atStart => exact ⟨0, c, rfl, by omega, HC.out, hF, HO1.out, HB1.out⟩
  case round =>
    clear HB1 HO1 HC hF
    obtain ⟨k, d, rfl, hk, hD, hF, hown, hb⟩ := hrel
    by_cases hl : k < 9
    · have kk : (k : Int) ≤ 8 := by omega
      have HR : Hid (RD.relax xs (9 - k) d = if RD.chg xs d then RD.relax xs (9 - (k + 1)) (RD.pas xs d) else (RD.pas xs d, false)) := by
        show _ = _
        rw [show 9 - k = (9 - (k + 1)) + 1 from by omega]; rfl
      rw [hF.out] at HR
      have HO1 : Hid _ := hown
      have HB1 : Hid _ := hb
      clear hF hown hb
      rename_i W0
      go_wp2_with fail
      go_loopw [20, 8] (fun iv cv wi => ∃ (j : Nat) (e : RD.Cs) (q : Bool), iv = .int .i64 j ∧ cv = .bool q ∧ j ≤ xs.length ∧ Hid (RD.Bd (2000 * k + 100 * j) e) ∧ Hid (RD.pasN xs d j = e) ∧ Hid (RD.chgN xs d j = q) ∧ wi.ownsRow w.heap.size 3 1 (.slice (some ⟨g, 0, none⟩) 8 cg) 8 (M4.iv (RD.li e)) ∧ Below w.heap.size w wi) (fun iv _ _ => (xs.length - intOf iv).toNat)
      case atStart => exact ⟨0, d, false, rfl, rfl, by omega, by simpa using hD, rfl, rfl, HO1.out, HB1.out⟩
      case round =>
        clear HO1 HB1 hD
        obtain ⟨j, e, q, rfl, rfl, hj, hE, hP, hQ, hown, hb⟩ := hrel
        by_cases hlj : j < xs.length
        · obtain ⟨b1, off, rfl, hlt, c0, c1, c2⟩ := (HI.out.below hb).at hlj
          have G := HG.out j hlj
          have HP : Hid (RD.pasN xs d (j + 1) = RD.rel e (MI3.at_ xs j)) := by show _ = _; rw [RD.pasN_succ hlj, hP.out]
          have HQ : Hid (RD.chgN xs d (j + 1) = (q || RD.low e (MI3.at_ xs j))) := by show _ = _; rw [RD.chgN_succ hlj, hP.out, hQ.out]
          have HE : Hid (RD.Bd (2000 * k + 100 * ((j + 1 : Nat) : Int)) (RD.rel e (MI3.at_ xs j))) := (RD.rel_bd hE.out G).mono (by omega)
          have HL : Hid (RD.low e (MI3.at_ xs j) = (decide (e (MI3.at_ xs j).a0.toNat < 1000000000) && decide (e (MI3.at_ xs j).a0.toNat + (MI3.at_ xs j).a2 < e (MI3.at_ xs j).a1.toNat))) := rfl
          have HY : Hid _ := @RD.rel_yes e (MI3.at_ xs j)
          have HN : Hid _ := @RD.rel_no e (MI3.at_ xs j)
          have SM := hE.out.sm (by omega)
          clear hE hP hQ
          generalize RD.rel e (MI3.at_ xs j) = e2 at *
          generalize RD.low e (MI3.at_ xs j) = lw at *
          generalize MI3.at_ xs j = x at *
          obtain ⟨x0, x1, x2⟩ := x
          obtain ⟨i, hi⟩ := Int.eq_ofNat_of_zero_le G.f0
          obtain ⟨t, ht⟩ := Int.eq_ofNat_of_zero_le G.t0
          have hi7 := G.f1
          have ht7 := G.t1
          have hne := G.ne
          have l2 := G.c0
          have u2 := G.c1
          simp only at hi ht hi7 ht7 hne l2 u2
          subst hi ht
          simp only [show ((i : Int)).toNat = i from by omega, show ((t : Int)).toNat = t from by omega] at HL HY
          have hi8 : i < 8 := by omega
          have ht8 : t < 8 := by omega
          have hit : i ≠ t := by omega
          have ii8 : (i : Int) < 8 := by omega
          have tt8 : (t : Int) < 8 := by omega
          have lz := SM.lo i
          have uz := SM.hi i
          have lt := SM.lo t
          have ut := SM.hi t
          have hgl := (hown.lt g rfl).2
          have hgb := (hown.lt g rfl).1
          have ci : wr.cell? ⟨g, i, none⟩ = some (.int .i64 (e i)) := by
            rw [hown.cellAt i (by omega), RD.iv_li, RD.il_get e hi8]
          have ct : wr.cell? ⟨g, t, none⟩ = some (.int .i64 (e t)) := by
            rw [hown.cellAt t (by omega), RD.iv_li, RD.il_get e ht8]
          have zt := hown.frozenAt t
          have HOA : Hid (World.ownsRow (wr.alloc (.cells #[.int .i64 (i : Int), .int .i64 (t : Int), .int .i64 x2] 37)) w.heap.size 3 1 (.slice (some ⟨g, 0, none⟩) 8 cg) 8 (M4.iv (RD.li e))) := hown.alloc _
          have HBA : Hid (Below w.heap.size w (wr.alloc (.cells #[.int .i64 (i : Int), .int .i64 (t : Int), .int .i64 x2] 37))) := hb.alloc hb.size _
          have HPT : Hid (∀ z : Int, M4.iv ((RD.li e).set t z) = M4.iv (RD.li (RD.put e t z))) := fun z => by rw [RD.li_set]
          have a0 : (wr.alloc (.cells #[.int .i64 (i : Int), .int .i64 (t : Int), .int .i64 x2] 37)).cell? ⟨g, i, none⟩ = some (.int .i64 (e i)) := by rw [World.cell?_alloc_lt _ _ _ hgl]; exact ci
          have a1 : (wr.alloc (.cells #[.int .i64 (i : Int), .int .i64 (t : Int), .int .i64 x2] 37)).cell? ⟨g, t, none⟩ = some (.int .i64 (e t)) := by rw [World.cell?_alloc_lt _ _ _ hgl]; exact ct
          clear hown hb G SM ci ct HG HI HGG
          generalize e t = zt2 at *
          generalize e i = z at *
          obtain ⟨p1, h1⟩ : ∃ p, decide (z < 1000000000) = p := ⟨_, rfl⟩
          obtain ⟨p2, h2⟩ : ∃ p, decide (z + x2 < zt2) = p := ⟨_, rfl⟩
          rw [h1, h2] at HL
          have hq0 : (wr.alloc (.cells #[.int .i64 (i : Int), .int .i64 (t : Int), .int .i64 x2] 37)).cell? ⟨wr.heap.size, 0, none⟩ = some (.int .i64 (i : Int)) := by simp
          have hq1 : (wr.alloc (.cells #[.int .i64 (i : Int), .int .i64 (t : Int), .int .i64 x2] 37)).cell? ⟨wr.heap.size, 1, none⟩ = some (.int .i64 (t : Int)) := by simp
          have hq2 : (wr.alloc (.cells #[.int .i64 (i : Int), .int .i64 (t : Int), .int .i64 x2] 37)).cell? ⟨wr.heap.size, 2, none⟩ = some (.int .i64 x2) := by simp
          have hqs : wr.heap.size < (wr.alloc (.cells #[.int .i64 (i : Int), .int .i64 (t : Int), .int .i64 x2] 37)).heap.size := by simp
          have hgs : g < (wr.alloc (.cells #[.int .i64 (i : Int), .int .i64 (t : Int), .int .i64 x2] 37)).heap.size := by simp; omega
          have hfz : (wr.alloc (.cells #[.int .i64 (i : Int), .int .i64 (t : Int), .int .i64 x2] 37)).frozen? ⟨g, t, none⟩ = false := HOA.out.frozenAt t
          have hqg : wr.heap.size ≠ g := by omega
          have hqg' : g ≠ wr.heap.size := by omega
          have Q0 : Hid _ := hq0
          have Q1 : Hid _ := hq1
          have Q2 : Hid _ := hq2
          have QS : Hid _ := hqs
          have A0 : Hid _ := a0
          have A1 : Hid _ := a1
          have HGS : Hid _ := hgs
          have FZ : Hid _ := hfz
          clear hq0 hq1 hq2 hqs a0 a1 zt hgs hfz
          go_wp2_with fail
          clear c0 c1 c2 hlt
          generalize (wr.alloc (.cells #[.int .i64 (i : Int), .int .i64 (t : Int), .int .i64 x2] 37)) = W1 at *
          generalize wr.heap.size = qb at *
          have hq0 := Q0.out
          have hq1 := Q1.out
          have hq2 := Q2.out
          have hqs := QS.out
          have a0 := A0.out
          have a1 := A1.out
          have hgs := HGS.out
          have hfz := FZ.out
          clear Q0 Q1 Q2 QS A0 A1 HGS FZ
          cases p1 with
          | false =>
            have HLF : Hid (lw = false) := HL.out
            have HE0 : Hid _ := HN.out HLF.out
            clear HY HN HL
            go_quiet (fail)
            have HO2 : Hid _ := M5.own_below HOA.out (below_drewN (Below.refl _ _) nq)
            have HB2 : Hid _ := below_drewN HBA.out nq
            clear HOA HBA hq0 hq1 hq2 a0 a1 hfz
            generalize W1.drewN nq = W2 at *
            go_wp2
            go_roundw
            case rel => exact ⟨j + 1, e2, q, by go_num, rfl, by omega, HE, HP, by rw [HQ.out, HLF.out, Bool.or_false]; rfl, by rw [HE0.out]; exact HO2.out, HB2.out⟩
            case measure => simp [intOf]; omega
          | true =>
            cases p2 with
            | false =>
              have HLF : Hid (lw = false) := HL.out
              have HE0 : Hid _ := HN.out HLF.out
              clear HY HN HL
              go_quiet (fail)
              have HO2 : Hid _ := M5.own_below HOA.out (below_drewN (Below.refl _ _) nq)
              have HB2 : Hid _ := below_drewN HBA.out nq
              clear HOA HBA hq0 hq1 hq2 a0 a1 hfz
              generalize W1.drewN nq = W2 at *
              go_wp2
              go_roundw
              case rel => exact ⟨j + 1, e2, q, by go_num, rfl, by omega, HE, HP, by rw [HQ.out, HLF.out, Bool.or_false]; rfl, by rw [HE0.out]; exact HO2.out, HB2.out⟩
              case measure => simp [intOf]; omega
            | true =>
              have HLF : Hid (lw = true) := HL.out
              have HE0 : Hid _ := HY.out HLF.out
              clear HY HN HL
              go_quiet (fail)
              have HO2 : Hid _ := M5.own_below HOA.out (below_drewN (Below.refl _ _) nq)
              have HB2 : Hid _ := below_drewN HBA.out nq
              clear HOA HBA
              have hbD := below_drewN (Below.refl W1.heap.size W1) nq
              have k0 := (hbD.cell (p := ⟨qb, 0, none⟩) hqs).trans hq0
              have k1 := (hbD.cell (p := ⟨qb, 1, none⟩) hqs).trans hq1
              have k2 := (hbD.cell (p := ⟨qb, 2, none⟩) hqs).trans hq2
              have k3 := (hbD.cell (p := ⟨g, i, none⟩) hgs).trans a0
              have k4 := (hbD.cell (p := ⟨g, t, none⟩) hgs).trans a1
              have k5 := (hbD.frozen (p := ⟨g, t, none⟩) hgs).trans hfz
              have k6 := Nat.lt_of_lt_of_le hgs hbD.size
              clear hq0 hq1 hq2 a0 a1 hfz hbD hqs hgs
              generalize W1.drewN nq = W2 at *
              have KS : ∀ v : Value, (W2.setCell ⟨g, t, none⟩ v).drew.cell? ⟨g, i, none⟩ = some (.int .i64 z) := fun v => by
                refine (World.cell?_setCells_out g [v] t W2 ⟨g, i, none⟩ (fun _ _ => ?_)).trans k3
                simp only [List.length_singleton]; omega
              have hst := World.ownsRow.stored HO2.out t (.int .i64 (z + x2))
              rw [M4.iv_set, HPT.out] at hst
              have HO3 : Hid _ := hst.1
              have HB3 : Hid _ := HB2.out.grown hst.2 HB2.out.size (fun j hj => by simp [Value.ownBlock] at hj; omega)
              clear hst HO2 HB2
              go_wp2_with fail
              go_region_held3 (fun w' => w'.cell? ⟨qb, 0, none⟩ = some (.int .i64 (i : Int)) ∧ w'.cell? ⟨qb, 1, none⟩ = some (.int .i64 (t : Int)) ∧ w'.cell? ⟨qb, 2, none⟩ = some (.int .i64 x2) ∧ w'.cell? ⟨g, i, none⟩ = some (.int .i64 z)) (first | assumption | exact KS _ | go_keep) (fail)
              have HO4 : Hid _ := M5.own_below HO3.out (below_drewN (Below.refl _ _) 1)
              have HB4 : Hid _ := below_drewN HB3.out 1
              clear HO3 HB3 k0 k1 k2 k3 k4 k5 k6 KS
              go_wp2
              go_roundw
              case rel => exact ⟨j + 1, e2, true, by go_num, rfl, by omega, HE, HP, by rw [HQ.out, HLF.out, Bool.or_true]; rfl, by rw [HE0.out]; exact HO4.out, HB4.out⟩
              case measure => simp [intOf]; omega
        · obtain rfl : j = xs.length := by omega
          have hPA : Hid (RD.pas xs d = e) := by show _ = _; rw [← RD.pasN_all, hP.out]
          have hCA : Hid (RD.chg xs d = q) := by show _ = _; rw [← RD.chgN_all, hQ.out]
          have HE2 : Hid (RD.Bd (2000 * ((k + 1 : Nat) : Int)) e) := hE.out.mono (by omega)
          have HO2 : Hid _ := hown
          have HB2 : Hid _ := hb
          have HRR : Hid ((F, B) = if q then RD.relax xs (9 - (k + 1)) e else (e, false)) := by
            show _ = _
            rw [← hPA.out, ← hCA.out]; exact HR.out
          clear hown hb hE hP hQ hPA hCA HR
          cases q with
          | false =>
            obtain ⟨rfl, rfl⟩ : F = e ∧ B = false := by
              have := HRR.out
              simp only [Bool.false_eq_true, if_false, Prod.mk.injEq] at this
              exact this
            clear HRR
            go_wp2
            go_ret2
            exact ⟨_, _, rfl, HO2.out, HB2.out⟩
          | true =>
            have HS2 : Hid (RD.relax xs (9 - (k + 1)) e = (F, B)) := by
              have := HRR.out
              simp only [if_true] at this
              exact this.symm
            clear HRR
            go_wp2
            go_roundw
            case rel => exact ⟨k + 1, e, by go_num, by omega, HE2, HS2, HO2.out, HB2.out⟩
            case measure => simp [intOf]; omega
    · obtain rfl : k = 9 := by omega
      obtain ⟨rfl, rfl⟩ : F = d ∧ B = true := by
        have := hF.out
        simp only [RD.relax, Nat.sub_self, Prod.mk.injEq] at this
        exact ⟨this.1.symm, this.2.symm⟩
      have HO2 : Hid _ := hown
      clear hown hF hD HI HG HGG
      go_wp2
      go_ret2
      exact ⟨_, _, rfl, HO2.out, hb⟩
end Go.Proofs.Ytclhfhjkcocdcaa
