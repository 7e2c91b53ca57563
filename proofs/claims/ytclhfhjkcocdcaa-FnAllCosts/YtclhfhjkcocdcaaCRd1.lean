/- What it costs by a road, the least of several, the costs into a node: over, leastOf, costsInto of the program. -/
import Derived.Test.YtclhfhjkcocdcaaRows
import Derived.Test.YtclhfhjkcocdcaaMRI
import Derived.Test.YtclhfhjkcocdcaaMRetB
import Derived.Test.YtclhfhjkcocdcaaM5
import Derived.Test.YtclhfhjkcocdcaaMInfo
import Derived.WalkKit
import Derived.WalkSpells
import Derived.WalkLawsBesides
import Derived.Outline
import Derived.Deep.QuietTactic
import Derived.BigQuiet
namespace Go.Proofs.Ytclhfhjkcocdcaa
open Go.RowKit
theorem Try.infoNC : (Try.prog.info? 47).map (fun i => (i.zero, i.size)) = some (some (.agg (RD.il RD.zero).toArray), 8) := by kernel_rfl
theorem Try.sizeNC : (Try.prog.info? 47).map (·.size) = some 8 := by kernel_rfl
set_option linter.unusedSimpArgs false in
set_option maxHeartbeats 1600000 in
set_option maxRecDepth 100000 in
theorem over_any (c : RD.Cs) (r : I3) (w : World) (hr : RD.Good r) (hc : RD.Sm c) :
    Calls Try.prog 49 #[.agg (RD.il c).toArray, r.v] w fun e w' => e = .returned (.int .i64 (RD.ov c r)) ∧ Below w.heap.size w w' := by
  have HF : Hid _ := @RD.ov_far c r
  have HA : Hid _ := @RD.ov_add c r
  obtain ⟨x0, x1, x2⟩ := r
  obtain ⟨i, hi⟩ := Int.eq_ofNat_of_zero_le hr.f0
  have hi7 := hr.f1
  have l2 := hr.c0
  have u2 := hr.c1
  simp only at hi hi7 l2 u2
  subst hi
  have hi8 : i < 8 := by omega
  have ii8 : (i : Int) < 8 := by omega
  have lz := hc.lo i
  have uz := hc.hi i
  simp only [show ((i : Int)).toNat = i from by omega] at HF HA
  have hJ := (MA.Rg.new w (RD.il c) 47).alloc (.cells #[.int .i64 (i : Int), .int .i64 x1, .int .i64 x2] 37)
  have hcell := (RD.rg_at hJ hi8).1
  have hB0 : Below w.heap.size w ((w.alloc (.cells (RD.il c).toArray 47)).alloc (.cells #[.int .i64 (i : Int), .int .i64 x1, .int .i64 x2] 37)) := ((Below.refl _ w).alloc (Nat.le_refl _) _).alloc (by simp) _
  have HB : Hid _ := hB0
  clear hB0 hJ hr hc
  obtain ⟨R, hR⟩ : ∃ R, RD.ov c ⟨(i : Int), x1, x2⟩ = R := ⟨_, rfl⟩
  rw [hR] at HF HA ⊢
  generalize c i = z at *
  generalize RD.il c = cs at *
  clear hR
  by_cases hz : z = 1000000000
  · have HE : Hid _ := HF.out hz
    subst hz
    clear HF HA
    go_enter Try.func49, Try.ntmps49
    go_wp2
    go_ret
    exact ⟨retI7 HE.out.symm, HB.out⟩
  · have HE : Hid _ := HA.out hz
    have hz' : ((z : Int) == 1000000000) = false := by simpa using hz
    clear HF HA
    go_enter Try.func49, Try.ntmps49
    go_wp2
    go_quiet (fail)
    go_wp2
    go_ret
    exact ⟨retI7 HE.out.symm, below_drewN HB.out nq⟩
set_option linter.unusedSimpArgs false in
set_option maxHeartbeats 1600000 in
set_option maxRecDepth 100000 in
theorem leastOf_any (m : Int) (b : Option Addr) (cb : Nat) (os : List Int) (w : World) (ho : os.length ≤ 1048576) (hos : M4.IntsAt w b os) (R : Int) (hR : Hid (RD.lst m os = R)) :
    Calls Try.prog 53 #[.int .i64 m, .slice b os.length cb] w fun e w' => e = .returned (.int .i64 R) ∧ w = w' := by
  have HI : Hid (M4.IntsAt w b os) := hos
  clear hos
  go_enter Try.func53, Try.ntmps53
  go_wp2
  go_loopw [5, 11] (fun v iv wr => ∃ k : Nat, iv = .int .i64 k ∧ k ≤ os.length ∧ (∃ s : Int, v = .int .i64 s ∧ Hid (RD.lstN m os k = s)) ∧ w = wr) (fun _ iv _ => (os.length - intOf iv).toNat)
  case atStart => exact ⟨0, rfl, by omega, ⟨m, rfl, rfl⟩, rfl⟩
  case round =>
    obtain ⟨k, rfl, hk, ⟨s, rfl, hs⟩, rfl⟩ := hrel
    by_cases hlk : k < os.length
    · obtain ⟨b1, off1, rfl, hlt1, hc1⟩ := M4.IntsAt.at HI.out hlk
      have HE : Hid (RD.lstN m os (k + 1) = if os.getD k 0 < s then os.getD k 0 else s) := by
        show _ = _
        rw [RD.lstN_succ _ _ _ hlk, hs.out]
        split <;> omega
      generalize os.getD k 0 = o at *
      clear hs HI hR
      go_wp2
      go_roundw
      case rel => exact ⟨k + 1, by go_num, by omega, ⟨_, rfl, HE⟩, trivial⟩
      case measure => simp [intOf]; omega
    · obtain rfl : k = os.length := by omega
      have hF : Hid (s = R) := by show s = R; rw [← hs.out, RD.lstN_all, hR.out]
      clear hs HI hR
      go_wp2
      go_ret
      exact ⟨retI7 hF.out, rfl⟩
set_option linter.unusedSimpArgs false in
set_option maxHeartbeats 1600000 in
set_option maxRecDepth 100000 in
theorem costsInto_any (c : RD.Cs) (a : Option Addr) (cap : Nat) (xs : List I3) (v : Nat) (w : World) (hn : xs.length ≤ 1048576) (hg : RD.Gd xs) (hc : RD.Sm c) (hin : MI3.RowAt w a xs) (L : List Int) (hL : Hid (RD.into xs c v = L)) :
    Calls Try.prog 54 #[.agg (RD.il c).toArray, .slice a xs.length cap, .int .i64 (v : Int)] w fun e w' => ∃ a1 c1, e = .returned (.slice a1 L.length c1) ∧ w'.ownsRow w.heap.size 3 1 (.slice a1 L.length c1) L.length (M4.iv L) ∧ Below w.heap.size w w' := by
  obtain ⟨i0, hi, hz0, hz1, hz2⟩ := info_parts Try.info3
  have HI : Hid (MI3.RowAt w a xs) := hin
  have OV : Hid (∀ (k : Nat), k < xs.length → ∀ W : World, Calls Try.prog 49 #[.agg (RD.il c).toArray, (MI3.at_ xs k).v] W fun e w' => e = .returned (.int .i64 (RD.ov c (MI3.at_ xs k))) ∧ Below W.heap.size W w') := fun k hk W => over_any c _ W (by rw [MI3.at_eq xs k hk]; exact hg _ (List.getElem_mem hk)) hc
  have HY : Hid _ := fun (k : Nat) => @RD.intoN_yes xs c v k
  have HN : Hid _ := fun (k : Nat) => @RD.intoN_no xs c v k
  have HLn : Hid _ := fun (k : Nat) => RD.intoN_len xs c v k
  have HZ : Hid _ := RD.intoN_zero xs c v
  have HL : Hid (RD.intoN xs c v xs.length = L) := by show _ = _; rw [RD.intoN_all]; exact hL.out
  have hb0 : Below w.heap.size w (w.alloc (.cells (RD.il c).toArray 47)) := (Below.refl _ w).alloc (Nat.le_refl _) _
  have hsz : (w.alloc (.cells (RD.il c).toArray 47)).heap.size = w.heap.size + 1 := by simp
  have HJ0 : Hid (MA.Rg (w.alloc (.cells (RD.il c).toArray 47)) w.heap.size 0 (RD.il c)) := MA.Rg.new w (RD.il c) 47
  have HI0 : Hid (MI3.RowAt (w.alloc (.cells (RD.il c).toArray 47)) a xs) := HI.out.below hb0
  have HB0 : Hid _ := hb0
  have HSZ : Hid _ := hsz
  clear hin hL hg hc hb0 hsz HI
  generalize RD.intoN xs c v = f at *
  generalize hcs : RD.il c = cs at *
  have hcl : cs.length = 8 := by rw [← hcs]; exact RD.il_len c
  clear hcs
  go_enter Try.func54, Try.ntmps54
  go_wp2
  generalize w.alloc (.cells cs.toArray 47) = W0 at *
  have OWN0 : Hid ((W0.alloc (.cells #[] 3)).ownsRow (w.heap.size + 1) 3 1 (.slice (some ⟨w.heap.size + 1, 0, none⟩) 0 0) ([] : List Int).length (M4.iv [])) := by
    have := World.ownsRow_lit (base := W0.heap.size) (e := 3) (size := 1) W0 #[] 0 (by simp) (by unfold maxLen; omega) (by simp)
    rw [HSZ.out] at this
    simpa [M4.iv, Hid] using this
  have HB1 : Hid (Below (w.heap.size + 1) W0 (W0.alloc (.cells #[] 3))) := (Below.refl _ W0).alloc (Nat.le_of_eq HSZ.out.symm) _
  go_loopw [7, 13] (fun vv iv wr => ∃ k : Nat, iv = .int .i64 k ∧ k ≤ xs.length ∧ (∃ s : List Int, Hid (f k = s) ∧ wr.ownsRow (w.heap.size + 1) 3 1 vv s.length (M4.iv s)) ∧ Below (w.heap.size + 1) W0 wr) (fun _ iv _ => (xs.length - intOf iv).toNat)
  case atStart => exact ⟨0, rfl, by omega, ⟨[], HZ, OWN0.out⟩, HB1.out⟩
  case round =>
    clear OWN0 HB1 HZ
    obtain ⟨k, rfl, hk, ⟨s, hs, hown⟩, hb⟩ := hrel
    have hsl : s.length ≤ k := by rw [← hs.out]; exact HLn.out k
    have hbs : w.heap.size + 1 ≤ wr.heap.size := by have := hb.size; have := HSZ.out; omega
    by_cases hlk : k < xs.length
    · obtain ⟨b1, off, rfl, hlt, c0, c1, c2⟩ := (HI0.out.below (hb.mono (Nat.le_of_eq HSZ.out))).at hlk
      have OV1 : Hid _ := OV.out k hlk
      have HY1 : Hid _ := HY.out k hlk
      have HN1 : Hid _ := HN.out k hlk
      rw [hs.out] at HY1 HN1
      generalize RD.ov c (MI3.at_ xs k) = z at *
      generalize MI3.at_ xs k = x at *
      obtain ⟨x0, x1, x2⟩ := x
      have HB : Hid (Below (w.heap.size + 1) W0 (wr.alloc (.cells #[.int .i64 x0, .int .i64 x1, .int .i64 x2] 37))) := hb.alloc hbs _
      have HO : Hid (World.ownsRow (wr.alloc (.cells #[.int .i64 x0, .int .i64 x1, .int .i64 x2] 37)) (w.heap.size + 1) 3 1 _ s.length (M4.iv s)) := hown.alloc _
      have HJ : Hid (MA.Rg (wr.alloc (.cells #[.int .i64 x0, .int .i64 x1, .int .i64 x2] 37)) w.heap.size 0 cs) := (HJ0.out.below hb (by omega)).alloc _
      have HS1 : Hid (w.heap.size + 1 ≤ (wr.alloc (.cells #[.int .i64 x0, .int .i64 x1, .int .i64 x2] 37)).heap.size) := by show _ ≤ _; simp; omega
      clear hown hb HY HN OV HI0 hs HL HLn HJ0
      by_cases hx : x1 = (v : Int)
      · have HE : Hid _ := HY1.out hx
        clear HY1 HN1
        subst hx
        go_wp2_with (refine MA.load_m rfl 47 _ rfl rfl (cs := cs) ?_ Try.underlying47 rfl Try.sizeNC hcl ?_; exact HJ.out; clear HJ)
        refine (OV1.out _).mono ?_
        rintro e w2 ⟨rfl, hb2⟩
        have HB2 : Hid _ := HB.out.trans (hb2.mono HS1.out)
        have HO2 : Hid _ := M5.own_below HO.out hb2
        have hs2 : w.heap.size + 1 ≤ w2.heap.size := Nat.le_trans HS1.out hb2.size
        clear hb2 HB HO c0 c1 c2 hlt OV1 HS1
        go_wp2_with (at_builtin; go_loud (refine wpList_append_own _ rfl _ _ 32 rfl (w.heap.size + 1) 3 i0 (.int .i64 0) 1 8 Try.underlying32 hi hz0 hz1 hz2 rfl (by decide) _ _ _ rfl (World.ownsRow.alloc HO2.out _) ⟨w2.heap.size, 0, none⟩ 1 1 [.int .i64 z] rfl rfl ?c1 ?c2 ?c3 ?c4 ?c5 ?_))
        all_goals try (first | rfl | omega | exact M2.new1 _ _ _ | exact M2.one1 _ _ | (unfold maxLen; omega) | (simp; omega))
        intro v' w3 hown1 hgrow _
        have R := M5.growI HO2.out HB2.out hs2 (by exact hown1) hgrow
        have R1 := R.1
        have R2 := R.2
        clear hown1 hgrow R HO2 HB2
        go_wp2
        go_roundw
        case rel => exact ⟨k + 1, by go_num, by omega, ⟨s ++ [z], HE, R1⟩, R2⟩
        case measure => simp [intOf]; omega
      · have HE : Hid _ := HN1.out hx
        have hx' : (x1 == (v : Int)) = false := by simpa using hx
        clear HY1 HN1 OV1
        go_wp2
        go_roundw
        case rel => exact ⟨k + 1, by go_num, by omega, ⟨s, HE, HO.out⟩, HB.out⟩
        case measure => simp [intOf]; omega
    · obtain rfl : k = xs.length := by omega
      have hE : s = L := by rw [← hs.out, ← HL.out]
      subst hE
      have HBW : Hid _ := HB0.out.trans (hb.mono (Nat.le_succ _))
      clear hs HI0 HL HLn HY HN OV HJ0 hb HB0
      obtain ⟨a3, c3, hv, hiv⟩ := M5.own_view hown
      rw [hv] at hown ⊢
      have HO : Hid _ := hown
      clear hown hv hiv
      generalize hsll : s.length = sl at *
      have HSL : Hid _ := hsll
      clear hsll
      go_wp2
      go_ret
      exact ⟨a3, c3, by rw [HSL.out]; rfl, by rw [HSL.out]; exact RD.own_base HO.out (Nat.le_succ _), HBW.out⟩
end Go.Proofs.Ytclhfhjkcocdcaa
