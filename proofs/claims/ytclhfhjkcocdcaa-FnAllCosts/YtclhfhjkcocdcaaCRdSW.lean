/- WayBetween of the specification. -/
import Derived.Test.YtclhfhjkcocdcaaRows
import Derived.Test.YtclhfhjkcocdcaaCRdS3
import Derived.Test.YtclhfhjkcocdcaaMRW
import Derived.Test.YtclhfhjkcocdcaaMNR
import Derived.Test.YtclhfhjkcocdcaaCRdX
import Derived.Maps.AppendAt
import Derived.Laws.AppendOwnNone
import Derived.WalkKit
import Derived.WalkSpells
import Derived.WalkLawsBesides
import Derived.Outline
import Derived.Deep.QuietTactic
import Derived.BigQuiet
namespace Go.Proofs.Ytclhfhjkcocdcaa
open Go.RowKit
namespace RD
/-- The first that was found among j roads, and its number as the specification has it. -/
def fd (xs : List I3) (c : Cs) (at_ : Int) (ns : List Int) (j : Nat) : Option Nat := (List.range j).find? (hit xs c at_ ns)
def fdV : Option Nat → Int
  | none => -1
  | some k => k
theorem fd_zero (xs : List I3) (c : Cs) (at_ : Int) (ns : List Int) : fd xs c at_ ns 0 = none := rfl
theorem fd_all (xs : List I3) (c : Cs) (at_ : Int) (ns : List Int) : fd xs c at_ ns xs.length = bk xs c at_ ns := rfl
theorem fd_some {xs : List I3} {c : Cs} {at_ : Int} {ns : List Int} {j k : Nat} (h : fd xs c at_ ns j = some k) : fd xs c at_ ns (j + 1) = some k := by
  unfold fd at *; rw [List.range_succ, List.find?_append, h]; rfl
theorem fd_none {xs : List I3} {c : Cs} {at_ : Int} {ns : List Int} {j : Nat} (h : fd xs c at_ ns j = none) : fd xs c at_ ns (j + 1) = if hit xs c at_ ns j then some j else none := by
  unfold fd at *; rw [List.range_succ, List.find?_append, h, Option.none_or]
  simp [List.find?_cons]
  split <;> simp_all
/-- The way and those seen, in two rows of the call's own. -/
structure WS (w W : World) (B : Nat) (ov sv : Value) (way sn : List Int) : Prop where
  o : W.ownsRow B 3 1 ov way.length (M4.iv way)
  s : W.ownsRow B 3 1 sv sn.length (M4.iv sn)
  ne : ∀ g, ov.ownBlock = some g → sv.ownBlock ≠ some g
  sz : B ≤ W.heap.size
  bl : Below B w W
theorem WS.kept {w W W' : World} {B : Nat} {ov sv : Value} {way sn : List Int} (h : WS w W B ov sv way sn) (hb : Below W.heap.size W W') : WS w W' B ov sv way sn :=
  ⟨M5.own_below h.o hb, M5.own_below h.s hb, h.ne, Nat.le_trans h.sz hb.size, h.bl.trans (hb.mono h.sz)⟩
theorem iv_cons (k : Int) (l : List Int) : M4.iv (k :: l) = [.int .i64 k] ++ M4.iv l := rfl
theorem iv_one (l : List Int) : ∀ u ∈ M4.iv l, u.oneCell' = true := by
  intro u hu; simp only [M4.iv, List.mem_map] at hu; obtain ⟨z, _, rfl⟩ := hu; rfl
end RD
set_option linter.unusedSimpArgs false in
set_option maxHeartbeats 3200000 in
set_option maxRecDepth 100000 in
theorem specWayLoop_any (c : RD.Cs) (a : Option Addr) (cap : Nat) (xs : List I3) (fn tn : Nat) (w : World) (hn : xs.length ≤ 20) (hg : RD.Gd xs) (hcb : RD.Bd 700 c) (hin : MI3.RowAt w a xs) (hf8 : fn < 8) (ht8 : tn < 8)
    (FA : Calls Try.prog 26 #[.slice a xs.length cap] w fun e w' => e = .returned (.bool true) ∧ Below w.heap.size w w')
    (CF : ∀ W : World, MI3.RowAt W a xs → Calls Try.prog 27 #[.slice a xs.length cap, .int .i64 (fn : Int)] W fun e w' => ∃ a1 c1, e = .returned (.slice a1 8 c1) ∧ w'.ownsRow W.heap.size 3 1 (.slice a1 8 c1) 8 (M4.iv (RD.li c)) ∧ Below W.heap.size W w')
    (R : Option (List Int)) (hR : Hid ((if c tn = RD.far then none else RD.wy xs c (fn : Int) 8 (tn : Int) [] [(tn : Int)]) = R)) :
    Calls Try.prog 16 #[.slice a xs.length cap, .int .i64 (fn : Int), .int .i64 (tn : Int)] w fun e w' => ∃ a1 c1, e = .returned (.tuple #[.slice a1 (R.getD []).length c1, .bool R.isSome]) ∧ w'.ownsRow w.heap.size 3 1 (.slice a1 (R.getD []).length c1) (R.getD []).length (M4.iv (R.getD [])) ∧ Below w.heap.size w w' := by
  obtain ⟨i0, hi, hz0, hz1, hz2⟩ := info_parts Try.info3
  have NF : Hid (∀ W : World, Calls Try.prog 36 #[.int .i64 (fn : Int)] W fun e w' => e = .returned (.bool true) ∧ W = w') := fun W => by
    have := nodeRS_any (fn : Int) W
    rwa [show RD.nodeOk (fn : Int) = true from by simp only [RD.nodeOk, decide_eq_true_eq]; omega] at this
  have NT : Hid (∀ W : World, Calls Try.prog 36 #[.int .i64 (tn : Int)] W fun e w' => e = .returned (.bool true) ∧ W = w') := fun W => by
    have := nodeRS_any (tn : Int) W
    rwa [show RD.nodeOk (tn : Int) = true from by simp only [RD.nodeOk, decide_eq_true_eq]; omega] at this
  have FA1 : Hid (Calls _ _ _ _ _) := FA
  have CF1 : Hid _ := CF
  have HI : Hid (MI3.RowAt w a xs) := hin
  have SM : Hid (RD.Sm c) := hcb.sm (by omega)
  have HG : Hid (∀ k, k < xs.length → RD.Good (MI3.at_ xs k)) := fun k hk => by rw [MI3.at_eq xs k hk]; exact hg _ (List.getElem_mem hk)
  have HST : Hid _ := fun (at_ : Int) (way ns : List Int) (h : RD.On xs c (fn : Int) R at_ way ns) (hf : at_ ≠ (fn : Int)) (k : Nat) (hb : RD.bk xs c at_ ns = some k) => RD.On.step hg h hf hb
  have HHS : Hid _ := fun (at_ : Int) (ns : List Int) (k : Nat) (h : c at_.toNat ≠ RD.far) => RD.hit_spec (xs := xs) (c := c) (B := 700) (by unfold RD.far; omega) hcb (at_ := at_) (ns := ns) (k := k) h
  have tt8 : (tn : Int) < 8 := by omega
  have lz := SM.out.lo tn
  have uz := SM.out.hi tn
  clear FA CF hin hg hcb
  go_enter Try.func16, Try.ntmps16
  go_wp2_with fail
  refine Calls.mono FA1.out ?_
  rintro e w2 ⟨rfl, hb2⟩
  clear FA1
  go_wp2_with fail
  refine (NF.out _).mono ?_
  rintro e w3 ⟨rfl, rfl⟩
  go_wp2_with fail
  refine (NT.out _).mono ?_
  rintro e w3 ⟨rfl, rfl⟩
  clear NF NT
  go_wp2_with fail
  refine (CF1.out _ (HI.out.below hb2)).mono ?_
  rintro e w3 ⟨a8, c8, rfl, ho3, hb3⟩
  have HB3 : Hid (Below w.heap.size w w3) := hb2.trans (hb3.mono hb2.size)
  obtain ⟨g8, rfl⟩ : ∃ g8, a8 = some ⟨g8, 0, none⟩ := by
    rcases ho3.2 with ⟨_, h⟩ | ⟨g, cg, cur, h, _⟩
    · omega
    · simp only [Value.slice.injEq] at h; exact ⟨g, h.1⟩
  have HG8 : Hid (g8 < w3.heap.size) := (ho3.lt g8 rfl).2
  have HC8 : Hid (∀ j, j < 8 → w3.cell? ⟨g8, j, none⟩ = some (.int .i64 (c j))) := fun j hj => by rw [ho3.cellAt j (by omega), RD.iv_li, RD.il_get c hj]
  have HI3 : Hid _ := HI.out.below HB3.out
  have ctn := HC8.out tn ht8
  have hg8 := HG8.out
  clear hb2 hb3 CF1 ho3 HI
  by_cases hz : c tn = 1000000000
  · obtain rfl : R = none := by rw [← hR.out, if_pos (show c tn = RD.far from hz)]
    rw [hz] at ctn
    clear HST HHS HG HI3 HC8 SM hR
    go_wp2
    go_ret2
    exact ⟨none, 0, rfl, World.ownsRow_nil _ _ _ _, HB3.out⟩
  · have hz' : (c tn == 1000000000) = false := by simpa using hz
    have HON : Hid (RD.On xs c (fn : Int) R (tn : Int) [] [(tn : Int)]) := by
      have e := hR.out
      rw [if_neg (show ¬ c tn = RD.far from hz)] at e
      rw [← e]
      exact RD.on_start (by omega) (by omega) (by rw [show ((tn : Int)).toNat = tn from by omega]; exact hz)
    have HWS : Hid (RD.WS w3 (w3.alloc (.cells #[.int .i64 (tn : Int)] 3)) w3.heap.size (.slice none 0 0) (.slice (some ⟨w3.heap.size, 0, none⟩) 1 1) [] [(tn : Int)]) := by
      have o2 := World.ownsRow_lit (base := w3.heap.size) (e := 3) (size := 1) w3 #[.int .i64 (tn : Int)] 1 (by omega) (by unfold maxLen; omega) (by simp)
      exact ⟨World.ownsRow_nil _ _ _ _, by simpa [M4.iv] using o2, (fun g hg => nomatch hg), by simp, (Below.refl _ w3).alloc (Nat.le_refl _) _⟩
    clear hR
    generalize c tn = ztn at *
    go_wp2_with fail
    clear ctn hz hz' lz uz
    go_loopw [9, 10, 11] (fun ov sv av wr => ∃ (way ns sn : List Int) (an : Nat), av = .int .i64 (an : Int) ∧ Hid (RD.On xs c (fn : Int) R (an : Int) way ns) ∧ Hid (sn.length = ns.length ∧ ∀ x, EG.hasB sn x = EG.hasB ns x) ∧ Hid (RD.WS w3 wr w3.heap.size ov sv way sn)) (fun _ sv _ _ => 9 - RD.slen sv)
    case atStart => exact ⟨[], [(tn : Int)], [(tn : Int)], tn, rfl, HON, ⟨rfl, fun _ => rfl⟩, HWS⟩
    case round =>
      clear HON HWS
      obtain ⟨way, ns, sn, an, rfl, hON, hSN, hWS⟩ := hrel
      have hle := hON.out.le
      have hlen := hON.out.len
      have HLEN : Hid (way.length ≤ 7 ∧ sn.length ≤ 8 ∧ sn.length = ns.length) := by have := hSN.out.1; exact ⟨by omega, by omega, this⟩
      have ha8 : an < 8 := by have := hON.out.hi; omega
      have aa8 : (an : Int) < 8 := by omega
      clear hlen hle
      by_cases hf : an = fn
      · subst hf
        have HRR : Hid (R = some way) := hON.out.end
        obtain ⟨ao, co, hv, hvi⟩ := M5.own_view hWS.out.o
        subst hv
        have HO : Hid _ := RD.own_base hWS.out.o HB3.out.size
        have HB : Hid _ := HB3.out.trans (hWS.out.bl.mono HB3.out.size)
        clear HST HHS HG HI3 HC8 SM hON hSN hWS hvi HLEN
        generalize hwl2 : way.length = wl at *
        have HWL : Hid _ := hwl2
        clear hwl2
        go_wp2
        go_ret2
        obtain rfl : R = some way := HRR.out
        exact ⟨ao, co, by rw [show (some way).getD [] = way from rfl, HWL.out]; rfl, by rw [show (some way).getD [] = way from rfl, HWL.out]; exact HO.out, HB.out⟩
      · have hf' : ((an : Int) == (fn : Int)) = false := by simp; omega
        have hf2 : ((an : Int) != (fn : Int)) = true := by simp; omega
        have hfi : (an : Int) ≠ (fn : Int) := by omega
        have HFI : Hid _ := hfi
        have HHS1 : Hid _ := fun (k : Nat) => HHS.out (an : Int) ns k hON.out.nf
        have HFZ : Hid _ := RD.fd_zero xs c (an : Int) ns
        have HFL : Hid _ := RD.fd_all xs c (an : Int) ns
        have HFS : Hid _ := fun (j k : Nat) => @RD.fd_some xs c (an : Int) ns j k
        have HFN : Hid _ := fun (j : Nat) => @RD.fd_none xs c (an : Int) ns j
        simp only [show ((an : Int)).toNat = an from by omega] at HHS1
        generalize RD.hit xs c (an : Int) ns = ht at *
        generalize hfd : RD.fd xs c (an : Int) ns = fd at *
        clear hfi hfd
        obtain ⟨W0, hW0⟩ : ∃ W0, W0 = wr := ⟨_, rfl⟩
        subst hW0
        have HIW : Hid _ := HI3.out.below hWS.out.bl
        have HSI : Hid _ := M5.own_view hWS.out.s
        have HCW : Hid (∀ j, j < 8 → W0.cell? ⟨g8, j, none⟩ = some (.int .i64 (c j))) := fun j hj => (hWS.out.bl.cell (p := ⟨g8, j, none⟩) HG8.out).trans (HC8.out j hj)
        have HGW : Hid (g8 < W0.heap.size) := Nat.lt_of_lt_of_le HG8.out hWS.out.bl.size
        obtain ⟨asn, csn, hsv, hsi⟩ := M5.own_view hWS.out.s
        subst hsv
        have HSI2 : Hid (M4.IntsAt W0 asn sn) := hsi
        clear hsi HSI
        have HLH : Hid (∀ (y : Int) (W : World), M4.IntsAt W asn sn → Calls Try.prog 37 #[.slice asn sn.length csn, .int .i64 y] W fun e w' => e = .returned (.bool (EG.hasB sn y)) ∧ W = w') := fun y W h => l1Has_any asn csn sn y W (by have := HLEN.out; omega) h
        generalize hsnl : sn.length = snl at *
        have HSNL : Hid _ := hsnl
        clear hsnl
        go_wp2_with fail
        go_loopw [44, 12] (fun iv bv wr => ∃ j : Nat, iv = .int .i64 j ∧ bv = .int .i64 (RD.fdV (fd j)) ∧ j ≤ xs.length ∧ Below W0.heap.size W0 wr) (fun iv _ _ => (xs.length - intOf iv).toNat)
        case atStart => exact ⟨0, rfl, by rw [HFZ.out]; rfl, by omega, Below.refl _ _⟩
        case round =>
          clear HFZ
          obtain ⟨j, rfl, rfl, hj, hb⟩ := hrel
          by_cases hl : j < xs.length
          · obtain ⟨b1, off, hab, hlt, c0, c1, c2⟩ := (HIW.out.below hb).at hl
            have G := HG.out j hl
            have HH := HHS1.out j
            have HHN : Hid _ := HFN.out j
            have HHP : Hid _ := HFS.out j
            rw [← hSN.out.2 (MI3.at_ xs j).a0] at HH
            generalize ht j = hj1 at *
            generalize MI3.at_ xs j = x at *
            obtain ⟨x0, x1, x2⟩ := x
            obtain ⟨i, hi'⟩ := Int.eq_ofNat_of_zero_le G.f0
            have hi7 := G.f1
            have l2 := G.c0
            have u2 := G.c1
            simp only at hi' hi7 l2 u2
            subst hi'
            simp only [show ((i : Int)).toNat = i from by omega] at HH
            have hi8 : i < 8 := by omega
            have ii8 : (i : Int) < 8 := by omega
            have lz := SM.out.lo i
            have uz := SM.out.hi i
            have cu0 := (hb.cell (p := ⟨g8, i, none⟩) HGW.out).trans (HCW.out i hi8)
            have ca0 := (hb.cell (p := ⟨g8, an, none⟩) HGW.out).trans (HCW.out an ha8)
            have hgw : g8 < wr.heap.size := Nat.lt_of_lt_of_le HGW.out hb.size
            have HH1 : Hid _ := HH
            have HBA : Hid (Below W0.heap.size W0 (wr.alloc (.cells #[.int .i64 (i : Int), .int .i64 x1, .int .i64 x2] 37))) := hb.alloc hb.size _
            have Q0 : Hid ((wr.alloc (.cells #[.int .i64 (i : Int), .int .i64 x1, .int .i64 x2] 37)).cell? ⟨wr.heap.size, 0, none⟩ = some (.int .i64 (i : Int))) := by show _ = _; simp
            have Q1 : Hid ((wr.alloc (.cells #[.int .i64 (i : Int), .int .i64 x1, .int .i64 x2] 37)).cell? ⟨wr.heap.size, 1, none⟩ = some (.int .i64 x1)) := by show _ = _; simp
            have Q2 : Hid ((wr.alloc (.cells #[.int .i64 (i : Int), .int .i64 x1, .int .i64 x2] 37)).cell? ⟨wr.heap.size, 2, none⟩ = some (.int .i64 x2)) := by show _ = _; simp
            have CU : Hid ((wr.alloc (.cells #[.int .i64 (i : Int), .int .i64 x1, .int .i64 x2] 37)).cell? ⟨g8, i, none⟩ = some (.int .i64 (c i))) := by show _ = _; rw [World.cell?_alloc_lt _ _ _ hgw]; exact cu0
            have CA : Hid ((wr.alloc (.cells #[.int .i64 (i : Int), .int .i64 x1, .int .i64 x2] 37)).cell? ⟨g8, an, none⟩ = some (.int .i64 (c an))) := by show _ = _; rw [World.cell?_alloc_lt _ _ _ hgw]; exact ca0
            have LH : Hid (∀ m : Nat, Calls Try.prog 37 #[.slice asn snl csn, .int .i64 (i : Int)] ((wr.alloc (.cells #[.int .i64 (i : Int), .int .i64 x1, .int .i64 x2] 37)).drewN m) fun e w' => e = .returned (.bool (EG.hasB sn (i : Int))) ∧ ((wr.alloc (.cells #[.int .i64 (i : Int), .int .i64 x1, .int .i64 x2] 37)).drewN m) = w') := fun m => HLH.out (i : Int) _ (HSI2.out.below (below_drewN HBA.out m))
            clear hb HH cu0 ca0 hgw HHS1 HFN HFS G hON hSN hWS HST HHS HI3 HC8 HIW HCW HSI2
            subst hab
            go_wp2_with fail
            clear c0 c1 c2 hlt
            generalize (wr.alloc (.cells #[.int .i64 (i : Int), .int .i64 x1, .int .i64 x2] 37)) = W1 at *
            generalize wr.heap.size = q at *
            have hq0 := Q0.out
            have hq1 := Q1.out
            have hq2 := Q2.out
            have cu := CU.out
            have ca := CA.out
            clear Q0 Q1 Q2 CU CA
            generalize EG.hasB sn (i : Int) = hs at *
            generalize c i = zu at *
            generalize c an = za at *
            cases hfd : fd j with
            | some k0 =>
              have HFD : Hid (fd (j + 1) = some k0) := HHP.out k0 hfd
              clear hfd HHN HHP HH1
              rw [show RD.fdV (some k0) = (k0 : Int) from rfl]
              have hk0 : decide ((k0 : Int) < 0) = false := decide_eq_false (by omega)
              go_quiet (fail)
              have HB2 : Hid _ := below_drewN HBA.out nq
              clear HBA hq0 hq1 hq2 cu ca LH
              generalize W1.drewN nq = W5 at *
              go_wp2
              go_roundw
              case rel => exact ⟨j + 1, by go_num, by rw [HFD.out]; rfl, by omega, HB2.out⟩
              case measure => simp [intOf]; omega
            | none =>
              have HFD0 : Hid (fd (j + 1) = if hj1 then some j else none) := HHN.out hfd
              clear hfd HHN HHP
              rw [show RD.fdV none = -1 from rfl]
              by_cases e1 : x1 = (an : Int)
              · subst e1
                by_cases e2 : zu < 1000000000
                · have e2' : decide (zu < 1000000000) = true := decide_eq_true e2
                  by_cases e3 : zu + x2 = za
                  · have e3' : (zu + x2 == za) = true := by simpa using e3
                    cases hs with
                    | false =>
                      have HFD : Hid (fd (j + 1) = some j) := by
                        have h := HH1.out
                        rw [decide_eq_true rfl, decide_eq_true (show zu < RD.far from e2), decide_eq_true e3] at h
                        show _ = _
                        rw [HFD0.out, h]; rfl
                      clear HFD0 HH1
                      go_quiet ((go_at_call 37; exact (LH.out _).mono (by rintro e w' ⟨rfl, rfl⟩; exact ⟨rfl, _, rfl⟩)))
                      have HB2 : Hid _ := below_drewN HBA.out nq
                      clear HBA hq0 hq1 hq2 cu ca LH
                      generalize W1.drewN nq = W5 at *
                      go_wp2
                      go_roundw
                      case rel => exact ⟨j + 1, by go_num, by rw [HFD.out]; rfl, by omega, HB2.out⟩
                      case measure => simp [intOf]; omega
                    | true =>
                      have HFD : Hid (fd (j + 1) = none) := by
                        have h := HH1.out
                        rw [Bool.not_true, Bool.and_false] at h
                        show _ = _
                        rw [HFD0.out, h]; rfl
                      clear HFD0 HH1
                      go_quiet ((go_at_call 37; exact (LH.out _).mono (by rintro e w' ⟨rfl, rfl⟩; exact ⟨rfl, _, rfl⟩)))
                      have HB2 : Hid _ := below_drewN HBA.out nq
                      clear HBA hq0 hq1 hq2 cu ca LH
                      generalize W1.drewN nq = W5 at *
                      go_wp2
                      go_roundw
                      case rel => exact ⟨j + 1, by go_num, by rw [HFD.out]; rfl, by omega, HB2.out⟩
                      case measure => simp [intOf]; omega
                  · have e3' : (zu + x2 == za) = false := by simpa using e3
                    have HFD : Hid (fd (j + 1) = none) := by
                      have h := HH1.out
                      rw [decide_eq_false e3, Bool.and_false, Bool.false_and] at h
                      show _ = _
                      rw [HFD0.out, h]; rfl
                    clear HFD0 HH1
                    go_quiet (fail)
                    have HB2 : Hid _ := below_drewN HBA.out nq
                    clear HBA hq0 hq1 hq2 cu ca LH
                    generalize W1.drewN nq = W5 at *
                    go_wp2
                    go_roundw
                    case rel => exact ⟨j + 1, by go_num, by rw [HFD.out]; rfl, by omega, HB2.out⟩
                    case measure => simp [intOf]; omega
                · have e2' : decide (zu < 1000000000) = false := decide_eq_false e2
                  have HFD : Hid (fd (j + 1) = none) := by
                    have h := HH1.out
                    rw [decide_eq_false (show ¬ zu < RD.far from e2), Bool.and_false, Bool.false_and, Bool.false_and] at h
                    show _ = _
                    rw [HFD0.out, h]; rfl
                  clear HFD0 HH1
                  go_quiet (fail)
                  have HB2 : Hid _ := below_drewN HBA.out nq
                  clear HBA hq0 hq1 hq2 cu ca LH
                  generalize W1.drewN nq = W5 at *
                  go_wp2
                  go_roundw
                  case rel => exact ⟨j + 1, by go_num, by rw [HFD.out]; rfl, by omega, HB2.out⟩
                  case measure => simp [intOf]; omega
              · have e1' : (x1 == (an : Int)) = false := by simpa using e1
                have HFD : Hid (fd (j + 1) = none) := by
                  have h := HH1.out
                  rw [decide_eq_false e1, Bool.false_and, Bool.false_and, Bool.false_and] at h
                  show _ = _
                  rw [HFD0.out, h]; rfl
                clear HFD0 HH1
                go_quiet (fail)
                have HB2 : Hid _ := below_drewN HBA.out nq
                clear HBA hq0 hq1 hq2 cu ca LH
                generalize W1.drewN nq = W5 at *
                go_wp2
                go_roundw
                case rel => exact ⟨j + 1, by go_num, by rw [HFD.out]; rfl, by omega, HB2.out⟩
                case measure => simp [intOf]; omega
          · obtain rfl : j = xs.length := by omega
            rw [HFL.out]
            clear HFS HFN HFL HHS1 HHS HIW HCW HSI2 HLH HC8 HG
            cases hbk : RD.bk xs c (an : Int) ns with
            | none =>
              have HRN : Hid (R = none) := hON.out.stop HFI.out hbk
              have HB : Hid _ := HB3.out.trans ((hWS.out.bl.trans (hb.mono hWS.out.sz)).mono HB3.out.size)
              clear hbk hON hSN hWS HST HI3 hb
              rw [show RD.fdV none = -1 from rfl]
              go_wp2
              go_ret2
              obtain rfl : R = none := HRN.out
              exact ⟨none, 0, rfl, World.ownsRow_nil _ _ _ _, HB.out⟩
            | some k =>
              have HON2 : Hid _ := HST.out (an : Int) way ns hON.out HFI.out k hbk
              have hkx : k < xs.length := (RD.bk_is hbk).1
              have hkxi : (k : Int) < (xs.length : Int) := by omega
              have hk0 : decide ((k : Int) < 0) = false := decide_eq_false (by omega)
              have hWS2 := hWS.out.kept hb
              obtain ⟨hwl7, hsn8, hsnn⟩ := HLEN.out
              have HSNN : Hid _ := hsnn
              clear hbk hON hWS hb HST HLEN hsnn
              rw [show RD.fdV (some k) = (k : Int) from rfl]
              have OL := World.ownsRow_lit (base := w3.heap.size) (e := 3) (size := 1) wr #[.int .i64 (k : Int)] 1 hWS2.sz (by unfold maxLen; omega) (by simp)
              have OL1 : Hid ((wr.alloc (.cells #[.int .i64 (k : Int)] 3)).ownsRow w3.heap.size 3 1 (.slice (some ⟨wr.heap.size, 0, none⟩) 1 1) 1 [.int .i64 (k : Int)]) := by simpa [Hid] using OL
              clear OL
              have hkA := hWS2.kept ((Below.refl _ wr).alloc (Nat.le_refl _) (.cells #[.int .i64 (k : Int)] 3))
              have HWA : Hid _ := hkA
              have HSB : Hid (∀ g, (Value.slice asn snl csn).ownBlock = some g → g < wr.heap.size) := fun g hg => by
                have := hWS2.s; rw [HSNL.out] at this; exact (this.lt g hg).2
              have hsa : (wr.alloc (.cells #[.int .i64 (k : Int)] 3)).heap.size = wr.heap.size + 1 := by simp
              have HSA : Hid _ := hsa
              clear hsa
              rcases hWS2.o.2 with ⟨hov, hw0⟩ | ⟨go, co, cur, hov, -⟩
              · subst hov
                obtain rfl : way = [] := List.eq_nil_of_length_eq_zero hw0
                clear hw0 hWS2 hkA
                have HW4 : Hid (RD.WS w3 (wr.alloc (.cells #[.int .i64 (k : Int)] 3)) w3.heap.size (.slice (some ⟨wr.heap.size, 0, none⟩) 1 1) (.slice asn snl csn) [(k : Int)] sn) :=
                  ⟨by simpa [M4.iv] using OL1.out, HWA.out.s, fun g hg e => by
                    have := HSB.out g e
                    simp only [Value.ownBlock, Option.some.injEq] at hg
                    omega, HWA.out.sz, HWA.out.bl⟩
                clear HWA HSB
                obtain ⟨b1, off, hab, hlt, c0, -, -⟩ := (HI3.out.below HW4.out.bl).at hkx
                have HX0 : Hid _ := HON2.out.lo
                obtain ⟨i, hi0⟩ := Int.eq_ofNat_of_zero_le HON2.out.lo
                rw [hi0] at c0 HON2
                subst hab
                have HO4 : Hid _ := HW4.out.s
                rw [HSNL.out] at HO4
                go_wp2_with (first | (at_builtin; refine wpList_append_own_none _ rfl _ _ 32 rfl w3.heap.size 3 i0 1 Try.underlying32 hi _ _ _ rfl OL1.out rfl ?_) | (at_builtin; refine wpList_append_own_at _ rfl _ _ 32 rfl w3.heap.size 3 i0 (.int .i64 0) 1 8 Try.underlying32 hi hz0 hz1 hz2 rfl (by decide) _ _ _ rfl (World.ownsRow.alloc HO4.out _) ⟨wr.heap.size + 1, 0, none⟩ 1 1 [.int .i64 (i : Int)] rfl rfl ?z11 ?z12 ?z13 ?z14 ?z15 ?_))
                case z11 => have := M2.new1 (wr.alloc (.cells #[.int .i64 (k : Int)] 3)) (.int .i64 (i : Int)) 3; rw [HSA.out] at this; exact this
                case z12 => exact M2.one1 _ _
                case z13 => unfold maxLen; omega
                case z14 => omega
                case z15 => have := HW4.out.sz; have := HSA.out; simp; omega
                intro v6 W6 hown6 hgrow6 _ hloc6
                have HW6 : Hid (RD.WS w3 W6 w3.heap.size (Value.slice (some ⟨wr.heap.size, 0, none⟩) 1 1) v6 [(k : Int)] (sn ++ [(i : Int)])) := by
                  have hsz6 := hgrow6.size
                  have hsa4 := HSA.out
                  have hsa6 : ((wr.alloc (.cells #[.int .i64 (k : Int)] 3)).alloc (.cells #[.int .i64 (i : Int)] 3)).heap.size = (wr.alloc (.cells #[.int .i64 (k : Int)] 3)).heap.size + 1 := by simp
                  refine ⟨(HW4.out.o.alloc _).kept hgrow6 ?_, ?_, fun g hg e => ?_, by have := HW4.out.sz; omega, (HW4.out.bl.alloc HW4.out.sz _).grown hgrow6 (by have := HW4.out.sz; omega) (fun j hj => (World.ownsRow.lt HO4.out j hj).1)⟩
                  · exact .inr (fun e => HW4.out.ne _ rfl e.symm)
                  · have e1 : M4.iv (sn ++ [(i : Int)]) = M4.iv sn ++ [.int .i64 (i : Int)] := by simp [M4.iv]
                    rw [e1, List.length_append, HSNL.out]; exact hown6
                  · have h1 := (HW4.out.o.lt g hg).2
                    rcases hloc6 with h2 | h2
                    · rw [h2] at e; exact HW4.out.ne g hg e
                    · rw [h2] at e; simp only [Option.some.injEq] at e; omega
                clear hown6 hgrow6 hloc6 HW4 HO4 c0 hlt OL1
                obtain ⟨a6, c6, hv6, -⟩ := M5.own_view HW6.out.s
                subst hv6
                have HSN2 : Hid ((sn ++ [(i : Int)]).length = ((i : Int) :: ns).length ∧ ∀ x, EG.hasB (sn ++ [(i : Int)]) x = EG.hasB ((i : Int) :: ns) x) := by
                  have h1 := hSN.out.2
                  refine ⟨by simp only [List.length_append, List.length_cons, List.length_nil]; have := hSN.out.1; have := HSNL.out; omega, fun x => ?_⟩
                  have h2 := h1 x
                  simp only [EG.hasB, decide_eq_decide] at h2 ⊢
                  rw [List.mem_append, List.mem_singleton, List.mem_cons, h2, Or.comm]
                have HLS : Hid ((sn ++ [(i : Int)]).length = snl + 1) := by show _ = _; rw [List.length_append, HSNL.out]; rfl
                generalize hs6 : (sn ++ [(i : Int)]).length = s6 at *
                have HS6 : Hid _ := hs6
                clear hs6
                go_wp2
                go_roundw
                case rel => exact ⟨_, _, sn ++ [(i : Int)], i, rfl, HON2, by rw [HS6.out]; exact HSN2, HW6⟩
                case measure => have := HLS.out; have := HS6.out; simp only [RD.slen]; omega
              · subst hov
                have HSRC : Hid (∀ j u, (M4.iv way)[j]? = some u → (wr.alloc (.cells #[.int .i64 (k : Int)] 3)).cell? (Addr.add ⟨go, 0, none⟩ j) = some u) := fun j u hu => by
                  have hj : j < way.length := by have := (List.getElem?_eq_some_iff.1 hu).1; simpa [M4.iv] using this
                  rw [Addr.add_lit, Nat.zero_add, hkA.o.cellAt j (by omega)]; exact hu
                have HL8 : Hid ((M4.iv way).length = way.length * 1) := by show _ = _; simp [M4.iv]
                have H1 : Hid _ := RD.iv_one way
                clear hWS2 hkA
                go_wp2_with (at_builtin; refine wpList_append_own_at _ rfl _ _ 32 rfl w3.heap.size 3 i0 (.int .i64 0) 1 8 Try.underlying32 hi hz0 hz1 hz2 rfl (by decide) _ _ _ rfl OL1.out ⟨go, 0, none⟩ way.length co (M4.iv way) rfl HL8.out HSRC.out H1.out ?y3 ?y4 ?y5 ?_)
                case y3 => unfold maxLen; omega
                case y4 => omega
                case y5 => exact HWA.out.sz
                intro v4 W4 hown4 hgrow4 _ hloc4
                have HW4 : Hid (RD.WS w3 W4 w3.heap.size v4 (.slice asn snl csn) ((k : Int) :: way) sn) := by
                  have hsz4 := hgrow4.size
                  have hsa := HSA.out
                  refine ⟨by rw [RD.iv_cons, List.length_cons, Nat.add_comm]; exact hown4, HWA.out.s.kept hgrow4 (.inr (fun e => by
                    have := HSB.out wr.heap.size e
                    omega)), fun g hg e => ?_, Nat.le_trans HWA.out.sz hgrow4.size, HWA.out.bl.grown hgrow4 HWA.out.sz (fun j hj => by have := (OL1.out.lt j hj).1; omega)⟩
                  have h1 := HSB.out g e
                  rcases hloc4 with h2 | h2
                  · rw [h2] at hg; simp only [Value.ownBlock, Option.some.injEq] at hg; omega
                  · rw [h2] at hg; simp only [Option.some.injEq] at hg; omega
                clear HWA OL1 HSB HSRC HL8 H1 hown4 hgrow4 hloc4
                obtain ⟨b1, off, hab, hlt, c0, -, -⟩ := (HI3.out.below HW4.out.bl).at hkx
                have HX0 : Hid _ := HON2.out.lo
                obtain ⟨i, hi0⟩ := Int.eq_ofNat_of_zero_le HON2.out.lo
                rw [hi0] at c0 HON2
                subst hab
                have HO4 : Hid _ := HW4.out.s
                rw [HSNL.out] at HO4
                go_wp2_with (at_builtin; refine wpList_append_own_at _ rfl _ _ 32 rfl w3.heap.size 3 i0 (.int .i64 0) 1 8 Try.underlying32 hi hz0 hz1 hz2 rfl (by decide) _ _ _ rfl (World.ownsRow.alloc HO4.out _) ⟨W4.heap.size, 0, none⟩ 1 1 [.int .i64 (i : Int)] rfl rfl ?z21 ?z22 ?z23 ?z24 ?z25 ?_)
                case z21 => exact M2.new1 _ _ _
                case z22 => exact M2.one1 _ _
                case z23 => unfold maxLen; omega
                case z24 => omega
                case z25 => have := HW4.out.sz; have := HSA.out; simp; omega
                intro v6 W6 hown6 hgrow6 _ hloc6
                have HW6 : Hid (RD.WS w3 W6 w3.heap.size v4 v6 ((k : Int) :: way) (sn ++ [(i : Int)])) := by
                  have hsz6 := hgrow6.size
                  have hsa4 := HSA.out
                  have hsa6 : (W4.alloc (.cells #[.int .i64 (i : Int)] 3)).heap.size = W4.heap.size + 1 := by simp
                  refine ⟨(HW4.out.o.alloc _).kept hgrow6 ?_, ?_, fun g hg e => ?_, by have := HW4.out.sz; omega, (HW4.out.bl.alloc HW4.out.sz _).grown hgrow6 (by have := HW4.out.sz; omega) (fun j hj => (World.ownsRow.lt HO4.out j hj).1)⟩
                  · cases hv : v4.ownBlock with
                    | none => exact .inl rfl
                    | some g => exact .inr (fun e => HW4.out.ne g hv e.symm)
                  · have e1 : M4.iv (sn ++ [(i : Int)]) = M4.iv sn ++ [.int .i64 (i : Int)] := by simp [M4.iv]
                    rw [e1, List.length_append, HSNL.out]; exact hown6
                  · have h1 := (HW4.out.o.lt g hg).2
                    rcases hloc6 with h2 | h2
                    · rw [h2] at e; exact HW4.out.ne g hg e
                    · rw [h2] at e; simp only [Option.some.injEq] at e; omega
                clear hown6 hgrow6 hloc6 HW4 HO4 c0 hlt
                obtain ⟨a6, c6, hv6, -⟩ := M5.own_view HW6.out.s
                subst hv6
                have HSN2 : Hid ((sn ++ [(i : Int)]).length = ((i : Int) :: ns).length ∧ ∀ x, EG.hasB (sn ++ [(i : Int)]) x = EG.hasB ((i : Int) :: ns) x) := by
                  have h1 := hSN.out.2
                  refine ⟨by simp only [List.length_append, List.length_cons, List.length_nil]; have := hSN.out.1; have := HSNL.out; omega, fun x => ?_⟩
                  have h2 := h1 x
                  simp only [EG.hasB, decide_eq_decide] at h2 ⊢
                  rw [List.mem_append, List.mem_singleton, List.mem_cons, h2, Or.comm]
                have HLS : Hid ((sn ++ [(i : Int)]).length = snl + 1) := by show _ = _; rw [List.length_append, HSNL.out]; rfl
                generalize hs6 : (sn ++ [(i : Int)]).length = s6 at *
                have HS6 : Hid _ := hs6
                clear hs6
                go_wp2
                go_roundw
                case rel => exact ⟨_, _, sn ++ [(i : Int)], i, rfl, HON2, by rw [HS6.out]; exact HSN2, HW6⟩
                case measure => have := HLS.out; have := HS6.out; simp only [RD.slen]; omega
set_option linter.unusedSimpArgs false in
set_option maxHeartbeats 3200000 in
set_option maxRecDepth 100000 in
theorem specWay_any (a : Option Addr) (cap : Nat) (xs : List I3) (f t : Int) (w : World) (hn : xs.length ≤ 1048576) (hin : MI3.RowAt w a xs) (R : Option (List Int)) (hR : Hid (RD.wbO xs f t = R)) :
    Calls Try.prog 16 #[.slice a xs.length cap, .int .i64 f, .int .i64 t] w fun e w' => ∃ a1 c1, e = .returned (.tuple #[.slice a1 (R.getD []).length c1, .bool R.isSome]) ∧ w'.ownsRow w.heap.size 3 1 (.slice a1 (R.getD []).length c1) (R.getD []).length (M4.iv (R.getD [])) ∧ Below w.heap.size w w' := by
  by_cases h1 : RD.fine xs = true
  · by_cases h2 : RD.nodeOk f = true
    · by_cases h3 : RD.nodeOk t = true
      · have k2 := RD.node_yes h2
        have k3 := RD.node_yes h3
        obtain ⟨fn, hf⟩ := Int.eq_ofNat_of_zero_le k2.1
        obtain ⟨tn, ht⟩ := Int.eq_ofNat_of_zero_le k3.1
        have h4 := RD.fine_is h1
        subst hf ht
        refine specWayLoop_any (RD.frm xs fn) a cap xs fn tn w (RD.okP_len h4.1) (RD.okP_Gd h4.1) (fun v => RD.frm_bd h4.1 fn v) hin (by omega) (by omega) (fineS_any a cap xs w hn hin true h1) (fun W hr => fromS_any a cap xs fn W (RD.okP_len h4.1) (RD.okP_Gd h4.1) (by omega) hr _ (RD.frms h4.1 h4.2 fn).2) R ?_
        show _ = _
        rw [← hR.out, RD.wbO, h1, h2, h3]
        simp only [show ((fn : Int)).toNat = fn from by omega, show ((tn : Int)).toNat = tn from by omega]
        rfl
      · have h3' : RD.nodeOk t = false := by simpa using h3
        have hR0 : R = none := by rw [← hR.out, RD.wbO_no3 h3']
        subst hR0
        have CA : Hid _ := fineS_any a cap xs w hn hin true h1
        have NF : Hid _ := fun W => nodeRS_any f W
        have NT : Hid _ := fun W => nodeRS_any t W
        rw [h2] at NF
        rw [h3'] at NT
        clear hR hin h1 h2 h3 h3'
        go_enter Try.func16, Try.ntmps16
        go_wp2_with fail
        refine Calls.mono CA.out ?_
        rintro e w2 ⟨rfl, hb2⟩
        clear CA
        go_wp2_with fail
        refine (NF.out _).mono ?_
        rintro e w3 ⟨rfl, rfl⟩
        clear NF
        go_wp2_with fail
        refine (NT.out _).mono ?_
        rintro e w3 ⟨rfl, rfl⟩
        clear NT
        go_wp2
        go_ret2
        exact ⟨none, 0, rfl, World.ownsRow_nil _ _ _ _, hb2⟩
    · have h2' : RD.nodeOk f = false := by simpa using h2
      have hR0 : R = none := by rw [← hR.out, RD.wbO_no2 h2']
      subst hR0
      have CA : Hid _ := fineS_any a cap xs w hn hin true h1
      have NF : Hid _ := fun W => nodeRS_any f W
      rw [h2'] at NF
      clear hR hin h1 h2 h2'
      go_enter Try.func16, Try.ntmps16
      go_wp2_with fail
      refine Calls.mono CA.out ?_
      rintro e w2 ⟨rfl, hb2⟩
      clear CA
      go_wp2_with fail
      refine (NF.out _).mono ?_
      rintro e w3 ⟨rfl, rfl⟩
      clear NF
      go_wp2
      go_ret2
      exact ⟨none, 0, rfl, World.ownsRow_nil _ _ _ _, hb2⟩
  · have h1' : RD.fine xs = false := by simpa using h1
    have hR0 : R = none := by rw [← hR.out, RD.wbO_no1 h1']
    subst hR0
    have CA : Hid _ := fineS_any a cap xs w hn hin false h1'
    clear hR hin h1 h1'
    go_enter Try.func16, Try.ntmps16
    go_wp2_with fail
    refine Calls.mono CA.out ?_
    rintro e w2 ⟨rfl, hb2⟩
    clear CA
    go_wp2
    go_ret2
    exact ⟨none, 0, rfl, World.ownsRow_nil _ _ _ _, hb2⟩
end Go.Proofs.Ytclhfhjkcocdcaa
