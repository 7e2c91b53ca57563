/- WayBetween of the program. -/
import Derived.Test.YtclhfhjkcocdcaaRows
import Derived.Test.YtclhfhjkcocdcaaCRdW
import Derived.WalkKit
import Derived.WalkSpells
import Derived.WalkLawsBesides
import Derived.Outline
namespace Go.Proofs.Ytclhfhjkcocdcaa
open Go.RowKit
namespace RD
theorem wbO_no1 {xs : List I3} {f t : Int} (h : fine xs = false) : wbO xs f t = none := by rw [wbO, h]; rfl
theorem wbO_no2 {xs : List I3} {f t : Int} (h : nodeOk f = false) : wbO xs f t = none := by rw [wbO, h, Bool.and_false]; rfl
theorem wbO_no3 {xs : List I3} {f t : Int} (h : nodeOk t = false) : wbO xs f t = none := by rw [wbO, h, Bool.and_false]; rfl
theorem wbO_far {xs : List I3} {f t : Int} (h : frm xs f.toNat t.toNat = far) : wbO xs f t = none := by
  unfold wbO
  rw [if_pos h]
  split <;> rfl
theorem wbO_yes {xs : List I3} {f t : Int} (h1 : fine xs = true) (h2 : nodeOk f = true) (h3 : nodeOk t = true) (h : frm xs f.toNat t.toNat ≠ far) : wbO xs f t = wy xs (frm xs f.toNat) f 8 t [] [t] := by
  rw [wbO, h1, h2, h3]
  show (if _ then none else _) = _
  rw [if_neg h]
end RD
set_option linter.unusedSimpArgs false in
set_option maxHeartbeats 3200000 in
set_option maxRecDepth 100000 in
theorem implWay_any (a : Option Addr) (cap : Nat) (xs : List I3) (f t : Int) (w : World) (hn : xs.length ≤ 1048576) (hin : MI3.RowAt w a xs) (R : Option (List Int)) (hR : Hid (RD.wbO xs f t = R)) :
    Calls Try.prog 15 #[.slice a xs.length cap, .int .i64 f, .int .i64 t] w fun e w' => ∃ a1 c1, e = .returned (.tuple #[.slice a1 (R.getD []).length c1, .bool R.isSome]) ∧ w'.ownsRow w.heap.size 3 1 (.slice a1 (R.getD []).length c1) (R.getD []).length (M4.iv (R.getD [])) ∧ Below w.heap.size w w' := by
  have CA : Hid _ := calmI_any a cap xs w hn hin _ rfl
  have NF : Hid _ := fun W => nodeRI_any f W
  have NT : Hid _ := fun W => nodeRI_any t W
  have H1 : Hid (RD.fine xs = false → R = none) := fun h => by rw [← hR.out, RD.wbO_no1 h]
  have H2 : Hid (RD.nodeOk f = false → R = none) := fun h => by rw [← hR.out, RD.wbO_no2 h]
  have H3 : Hid (RD.nodeOk t = false → R = none) := fun h => by rw [← hR.out, RD.wbO_no3 h]
  have HT : Hid (RD.fine xs = true → RD.nodeOk f = true → RD.nodeOk t = true → ∃ fn tn : Nat, f = (fn : Int) ∧ t = (tn : Int) ∧ fn < 8 ∧ tn < 8 ∧ RD.Sm (RD.frm xs fn) ∧ (RD.frm xs fn tn = RD.far → R = none) ∧ (∀ W : World, MI3.RowAt W a xs → Calls Try.prog 25 #[.slice a xs.length cap, .int .i64 (fn : Int)] W fun e w' => e = .returned (.agg (RD.il (RD.frm xs fn)).toArray) ∧ Below W.heap.size W w') ∧ (RD.frm xs fn tn ≠ RD.far → ∀ W : World, MI3.RowAt W a xs → Calls Try.prog 35 #[.agg (RD.il (RD.frm xs fn)).toArray, .slice a xs.length cap, .int .i64 (fn : Int), .int .i64 (tn : Int)] W fun e w' => ∃ a1 c1, e = .returned (.tuple #[.slice a1 (R.getD []).length c1, .bool R.isSome]) ∧ w'.ownsRow W.heap.size 3 1 (.slice a1 (R.getD []).length c1) (R.getD []).length (M4.iv (R.getD [])) ∧ Below W.heap.size W w')) := fun h1 h2 h3 => by
    have k2 := RD.node_yes h2
    have k3 := RD.node_yes h3
    obtain ⟨fn, hf⟩ := Int.eq_ofNat_of_zero_le k2.1
    obtain ⟨tn, ht⟩ := Int.eq_ofNat_of_zero_le k3.1
    have h4 := RD.fine_is h1
    have hf8 : fn < 8 := by omega
    have ht8 : tn < 8 := by omega
    have ef : f.toNat = fn := by omega
    have et : t.toNat = tn := by omega
    have hsm : RD.Sm (RD.frm xs fn) := RD.Bd.sm (B := 700) (fun v => RD.frm_bd h4.1 fn v) (by omega)
    refine ⟨fn, tn, hf, ht, hf8, ht8, hsm, fun e => ?_, fun W hr => costsFrom_any a cap xs fn W hn (RD.okP_Gd h4.1) hf8 hr _ (RD.frms h4.1 h4.2 fn).1, fun e W hr => ?_⟩
    · rw [← hR.out, RD.wbO_far (by rw [ef, et]; exact e)]
    · refine wayBack_any _ a cap xs fn tn W hn (RD.okP_Gd h4.1) hsm hr (by omega) (by omega) (by rw [show ((tn : Int)).toNat = tn from by omega]; exact e) R ?_
      show _ = _
      rw [← hR.out, RD.wbO_yes h1 h2 h3 (by rw [ef, et]; exact e), ef, hf, ht]
  have HI : Hid _ := hin
  clear hR hin
  generalize RD.fine xs = p at *
  generalize RD.nodeOk f = q at *
  generalize RD.nodeOk t = r at *
  cases p with
  | false =>
    obtain rfl : R = none := H1.out rfl
    clear H1 H2 H3 HT HI NF NT
    go_enter Try.func15, Try.ntmps15
    go_wp2_with fail
    refine Calls.mono CA.out ?_
    rintro e w2 ⟨rfl, hb2⟩
    clear CA
    go_wp2
    go_ret2
    exact ⟨none, 0, rfl, World.ownsRow_nil _ _ _ _, hb2⟩
  | true =>
    cases q with
    | false =>
      obtain rfl : R = none := H2.out rfl
      clear H1 H2 H3 HT HI NT
      go_enter Try.func15, Try.ntmps15
      go_wp2_with fail
      refine Calls.mono CA.out ?_
      rintro e w2 ⟨rfl, hb2⟩
      clear CA
      go_wp2_with fail
      refine (NF.out _).mono ?_
      rintro e w3 ⟨rfl, rfl⟩
      clear NF
      go_wp2
      go_ret2
      exact ⟨none, 0, rfl, World.ownsRow_nil _ _ _ _, hb2⟩
    | true =>
      cases r with
      | false =>
        obtain rfl : R = none := H3.out rfl
        clear H1 H2 H3 HT HI
        go_enter Try.func15, Try.ntmps15
        go_wp2_with fail
        refine Calls.mono CA.out ?_
        rintro e w2 ⟨rfl, hb2⟩
        clear CA
        go_wp2_with fail
        refine (NF.out _).mono ?_
        rintro e w3 ⟨rfl, rfl⟩
        clear NF
        go_wp2_with fail
        refine (NT.out _).mono ?_
        rintro e w3 ⟨rfl, rfl⟩
        clear NT
        go_wp2
        go_ret2
        exact ⟨none, 0, rfl, World.ownsRow_nil _ _ _ _, hb2⟩
      | true =>
        obtain ⟨fn, tn, rfl, rfl, hf8, ht8, hsm, HFA, CF, WBK⟩ := HT.out rfl rfl rfl
        have CF1 : Hid _ := CF
        have WB1 : Hid _ := WBK
        have HFA1 : Hid _ := HFA
        have lz := hsm.lo tn
        have uz := hsm.hi tn
        have tt8 : (tn : Int) < 8 := by omega
        clear H1 H2 H3 HT CF WBK HFA hsm
        generalize hF : RD.frm xs fn = F at *
        clear hF
        go_enter Try.func15, Try.ntmps15
        go_wp2_with fail
        refine Calls.mono CA.out ?_
        rintro e w2 ⟨rfl, hb2⟩
        clear CA
        go_wp2_with fail
        refine (NF.out _).mono ?_
        rintro e w3 ⟨rfl, rfl⟩
        clear NF
        go_wp2_with fail
        refine (NT.out _).mono ?_
        rintro e w3 ⟨rfl, rfl⟩
        clear NT
        go_wp2_with fail
        refine (CF1.out _ (HI.out.below hb2)).mono ?_
        rintro e w3 ⟨rfl, hb3⟩
        have HB3 : Hid _ := hb2.trans (hb3.mono hb2.size)
        have HZ : Hid (MA.Rg (w3.alloc (.cells (RD.il RD.zero).toArray 47)) w3.heap.size 0 (RD.il RD.zero)) := MA.Rg.new _ _ _
        have HP : Hid (MA.Rg ((w3.alloc (.cells (RD.il RD.zero).toArray 47)).setCells w3.heap.size 0 (RD.il F)) w3.heap.size 0 (RD.il F)) := (MA.Rg.new w3 (RD.il RD.zero) 47).put (by rw [RD.il_len, RD.il_len])
        have HB4 : Hid (Below w.heap.size w ((w3.alloc (.cells (RD.il RD.zero).toArray 47)).setCells w3.heap.size 0 (RD.il F))) := MA.below_cells HB3.out.size _ _ _ (HB3.out.alloc HB3.out.size _)
        have HCT : Hid (World.cell? ((w3.alloc (.cells (RD.il RD.zero).toArray 47)).setCells w3.heap.size 0 (RD.il F)) ⟨w3.heap.size, tn, none⟩ = some (.int .i64 (F tn))) := (RD.rg_at HP.out ht8).1
        clear hb2 hb3 CF1 HB3
        by_cases hz : F tn = 1000000000
        · obtain rfl : R = none := HFA1.out hz
          rw [hz] at HCT
          clear HFA1 WB1 HI
          go_wp2_with (first
            | (refine MA.alloc_z rfl 47 rfl _ _ Try.infoNC ?_; simp only [MA.sz_alloc])
            | (refine MA.store_m rfl 47 _ _ rfl rfl rfl (vs := RD.il F) (cs := RD.il RD.zero) ?_ Try.sizeNC (RD.il_len _) (RD.il_len _) (RD.il_one _) ?_; exact HZ.out; clear HZ; generalize World.setCells _ _ _ _ = W4 at *; have hct := HCT.out; clear HCT))
          go_ret2
          exact ⟨none, 0, rfl, World.ownsRow_nil _ _ _ _, HB4.out⟩
        · have hz' : (F tn == 1000000000) = false := by simpa using hz
          have WB2 : Hid _ := WB1.out hz
          have HP2 : Hid _ := HP
          clear HFA1 WB1
          go_wp2_with (first
            | (refine MA.alloc_z rfl 47 rfl _ _ Try.infoNC ?_; simp only [MA.sz_alloc])
            | (refine MA.store_m rfl 47 _ _ rfl rfl rfl (vs := RD.il F) (cs := RD.il RD.zero) ?_ Try.sizeNC (RD.il_len _) (RD.il_len _) (RD.il_one _) ?_; exact HZ.out; clear HZ; generalize World.setCells _ _ _ _ = W4 at *; have hct := HCT.out; clear HCT)
            | (refine MA.load_m rfl 47 _ rfl rfl (cs := RD.il F) ?_ Try.underlying47 rfl Try.sizeNC (RD.il_len _) ?_; exact HP2.out; clear HP2))
          refine (WB2.out _ (HI.out.below HB4.out)).mono ?_
          rintro e w5 ⟨a1, c1, rfl, ho5, hb5⟩
          have HO5 : Hid _ := RD.own_base ho5 HB4.out.size
          have HB5 : Hid _ := HB4.out.trans (hb5.mono HB4.out.size)
          clear ho5 hb5 WB2 HP HB4 hct HI
          generalize hl2 : (R.getD []).length = ll at *
          have HL2 : Hid _ := hl2
          clear hl2
          go_wp2
          go_ret2
          exact ⟨a1, c1, by rw [HL2.out]; rfl, by rw [HL2.out]; exact HO5.out, HB5.out⟩
end Go.Proofs.Ytclhfhjkcocdcaa
