import Derived.Test.YtndaapidfiocoaaRows
import Derived.Test.YtndaapidfiocoaaMFO
import Derived.Test.YtndaapidfiocoaaM5
import Derived.Test.YtndaapidfiocoaaCHasI
import Derived.WalkKit
import Derived.WalkSpells
import Derived.WalkLawsBesides
import Derived.Outline
import Derived.Test.YtndaapidfiocoaaMLK
import Derived.Test.YtndaapidfiocoaaMInfo
import Derived.Test.YtndaapidfiocoaaCWith7
import Derived.Deep.QuietTactic
import Derived.BigQuiet
import Derived.Test.YtndaapidfiocoaaCPipes
/- What the pipes of a cut bear: l8Cut of the specification. -/
namespace Go.Proofs.Ytndaapidfiocoaa
open Go.RowKit
namespace FL
theorem capUp_yes {xs : List I3} {zs : List Int} {k : Nat} (h0 : EG.hasB zs (MI3.at_ xs k).a0 = true) (h1 : EG.hasB zs (MI3.at_ xs k).a1 = false) : capUp xs zs (k + 1) = capUp xs zs k + (MI3.at_ xs k).a2 := by
  rw [capUp, if_pos ⟨h0, h1⟩]
theorem capUp_no {xs : List I3} {zs : List Int} {k : Nat} (h : EG.hasB zs (MI3.at_ xs k).a0 = false ∨ EG.hasB zs (MI3.at_ xs k).a1 = true) : capUp xs zs (k + 1) = capUp xs zs k := by
  rw [capUp, if_neg, Int.add_zero]
  rintro ⟨h0, h1⟩
  rcases h with h | h
  · rw [show hasN zs (MI3.at_ xs k).a0 = EG.hasB zs (MI3.at_ xs k).a0 from rfl, h] at h0; cases h0
  · rw [show hasN zs (MI3.at_ xs k).a1 = EG.hasB zs (MI3.at_ xs k).a1 from rfl, h] at h1; cases h1
end FL
set_option linter.unusedSimpArgs false in
set_option maxHeartbeats 1600000 in
set_option maxRecDepth 100000 in
theorem l8Cut_any (a b : Option Addr) (cap cb : Nat) (xs : List I3) (zs : List Int) (w : World) (hg : FL.okP xs = true) (hz : zs.length ≤ 1048576) (hin : MI3.RowAt w a xs) (hos : M4.IntsAt w b zs) (R : Int) (hR : Hid (FL.capUp xs zs xs.length = R)) :
    Calls Try.prog 35 #[.slice a xs.length cap, .slice b zs.length cb] w fun e w' => e = .returned (.int .i64 R) ∧ Below w.heap.size w w' := by
  have hn : xs.length ≤ 20 := ((FL.okP_iff xs).1 hg).1
  have HW : Hid _ := fun k hk => FL.capUp_within (zs := zs) hg k hk
  have HG : Hid _ := fun k hk => FL.okP_good hg (k := k) hk
  have HI : Hid (MI3.RowAt w a xs) := hin
  have HS : Hid (M4.IntsAt w b zs) := hos
  clear hin hos hg
  go_enter Try.func35, Try.ntmps35
  go_wp2
  go_loopw [5, 10] (fun v iv wr => ∃ k : Nat, iv = .int .i64 k ∧ k ≤ xs.length ∧ (∃ s : Int, v = .int .i64 s ∧ Hid (FL.capUp xs zs k = s)) ∧ Below w.heap.size w wr) (fun _ iv _ => (xs.length - intOf iv).toNat)
  case atStart => exact ⟨0, rfl, by omega, ⟨0, rfl, rfl⟩, Below.refl _ _⟩
  case round =>
    obtain ⟨k, rfl, hk, ⟨s, rfl, hs⟩, hb⟩ := hrel
    by_cases hlk : k < xs.length
    · obtain ⟨b1, off, rfl, hlt, c0, c1, c2⟩ := (HI.out.below hb).at hlk
      have w1 := HW.out k hk
      have g := HG.out k hlk
      have HY : Hid _ := fun h0 h1 => FL.capUp_yes (xs := xs) (zs := zs) (k := k) h0 h1
      have HN : Hid _ := fun h => FL.capUp_no (xs := xs) (zs := zs) (k := k) h
      rw [hs.out] at w1 HY HN
      generalize MI3.at_ xs k = x at *
      obtain ⟨x0, x1, x2⟩ := x
      have hc0 : 0 ≤ x2 := g.c0
      have hc1 : x2 ≤ 100 := g.c1
      have hb' : ∀ o, Below w.heap.size w (wr.alloc o) := fun o => hb.alloc hb.size o
      have HB : Hid _ := hb'
      clear hb'
      have HCA : Hid (∀ y : Int, Calls Try.prog 55 #[.slice b zs.length cb, .int .i64 y] (wr.alloc (.cells #[.int .i64 x0, .int .i64 x1, .int .i64 x2] 56)) fun e w' => e = .returned (.bool (EG.hasB zs y)) ∧ (wr.alloc (.cells #[.int .i64 x0, .int .i64 x1, .int .i64 x2] 56)) = w') := fun y => l1Has_any b cb zs y _ hz (M4.IntsAt.below HS.out (HB.out _))
      clear g hs HW HG HI HS hR
      have H0 : Hid _ := HCA.out x0
      have H1 : Hid _ := HCA.out x1
      clear HCA
      simp only at HY HN
      generalize EG.hasB zs x0 = p at *
      generalize EG.hasB zs x1 = q at *
      go_wp2_with fail
      refine Calls.mono H0.out ?_
      rintro e w2 ⟨rfl, rfl⟩
      clear H0
      cases p with
      | false =>
        have HE : Hid _ := HN.out (.inl rfl)
        clear HY HN H1
        go_wp2
        go_roundw
        case rel => exact ⟨k + 1, by go_num, by omega, ⟨_, rfl, HE⟩, HB.out _⟩
        case measure => simp [intOf]; omega
      | true =>
        go_wp2_with fail
        refine Calls.mono H1.out ?_
        rintro e w2 ⟨rfl, rfl⟩
        clear H1
        cases q with
        | true =>
          have HE : Hid _ := HN.out (.inr rfl)
          clear HY HN
          go_wp2
          go_roundw
          case rel => exact ⟨k + 1, by go_num, by omega, ⟨_, rfl, HE⟩, HB.out _⟩
          case measure => simp [intOf]; omega
        | false =>
          have HE : Hid _ := HY.out (by trivial) (by trivial)
          clear HY HN
          go_wp2
          go_roundw
          case rel => exact ⟨k + 1, by go_num, by omega, ⟨_, by go_num, HE⟩, HB.out _⟩
          case measure => simp [intOf]; omega
    · obtain rfl : k = xs.length := by omega
      have hF : Hid (s = R) := by show s = R; rw [← hs.out, ← hR.out]
      clear hs HW HG HI HS hR
      go_wp2
      go_ret
      exact ⟨retI7 hF.out, hb⟩
end Go.Proofs.Ytndaapidfiocoaa

/- The pipes that lead out of some nodes, and what they bear: pipesOutOf, capsOutOf of the program. -/
namespace Go.Proofs.Ytndaapidfiocoaa
open Go.RowKit
set_option linter.unusedSimpArgs false in
set_option maxHeartbeats 1600000 in
set_option maxRecDepth 100000 in
theorem pipesOutOf_any (a b : Option Addr) (cap cb : Nat) (xs : List I3) (zs : List Int) (w : World) (hn : xs.length ≤ 1048576) (hz : zs.length ≤ 1048576) (hin : MI3.RowAt w a xs) (hos : M4.IntsAt w b zs) (L : List Int) (hL : Hid (FL.outK xs zs xs.length = L)) :
    Calls Try.prog 53 #[.slice a xs.length cap, .slice b zs.length cb] w fun e w' => ∃ a1 c1, e = .returned (.slice a1 L.length c1) ∧ w'.ownsRow w.heap.size 3 1 (.slice a1 L.length c1) L.length (M4.iv L) ∧ Below w.heap.size w w' := by
  obtain ⟨i0, hi, hz0, hz1, hz2⟩ := info_parts Try.info3
  have HI : Hid (MI3.RowAt w a xs) := hin
  have HS : Hid (M4.IntsAt w b zs) := hos
  have own0 : (w.alloc (.cells #[] 3)).ownsRow w.heap.size 3 1 (.slice (some ⟨w.heap.size, 0, none⟩) 0 0) ([] : List Int).length (M4.iv []) := by
    have := World.ownsRow_lit (base := w.heap.size) (e := 3) (size := 1) w #[] 0 (by simp) (by unfold maxLen; omega) (by simp)
    simpa [M4.iv] using this
  have OWN0 : Hid ((w.alloc (.cells #[] 3)).ownsRow w.heap.size 3 1 (.slice (some ⟨w.heap.size, 0, none⟩) 0 0) 0 (M4.iv [])) := own0
  have hb0a : Below w.heap.size w (w.alloc (.cells #[] 3)) := (Below.refl _ w).alloc (Nat.le_refl _) _
  clear hin hos own0
  go_enter Try.func53, Try.ntmps53
  go_wp2
  go_loopw [5, 11] (fun v iv wr => ∃ k : Nat, iv = .int .i64 k ∧ k ≤ xs.length ∧ (∃ s : List Int, Hid (FL.outK xs zs k = s) ∧ wr.ownsRow w.heap.size 3 1 v s.length (M4.iv s)) ∧ Below w.heap.size w wr) (fun _ iv _ => (xs.length - intOf iv).toNat)
  case atStart => exact ⟨0, rfl, by omega, ⟨[], rfl, OWN0.out⟩, hb0a⟩
  case round =>
    clear OWN0 hb0a
    obtain ⟨k, rfl, hk, ⟨s, hs, hown⟩, hb⟩ := hrel
    have hsl : s.length ≤ k := by rw [← hs.out]; exact FL.outK_len xs zs k
    have hbs := hb.size
    by_cases hlk : k < xs.length
    · obtain ⟨b1, off, rfl, hlt, c0, c1, c2⟩ := (HI.out.below hb).at hlk
      have HY : Hid _ := fun h0 h1 => FL.outK_yes (xs := xs) (zs := zs) (k := k) h0 h1
      have HN : Hid _ := fun h => FL.outK_no (xs := xs) (zs := zs) (k := k) h
      rw [hs.out] at HY HN
      generalize MI3.at_ xs k = x at *
      obtain ⟨x0, x1, x2⟩ := x
      have hb' : Below w.heap.size w (wr.alloc (.cells #[.int .i64 x0, .int .i64 x1, .int .i64 x2] 56)) := hb.alloc hb.size _
      have HB : Hid (Below w.heap.size w (wr.alloc (.cells #[.int .i64 x0, .int .i64 x1, .int .i64 x2] 56))) := hb'
      have HO : Hid (World.ownsRow (wr.alloc (.cells #[.int .i64 x0, .int .i64 x1, .int .i64 x2] 56)) w.heap.size 3 1 _ s.length (M4.iv s)) := hown.alloc _
      clear hb' hown hb
      have HCA : Hid (∀ y : Int, Calls Try.prog 65 #[.slice b zs.length cb, .int .i64 y] (wr.alloc (.cells #[.int .i64 x0, .int .i64 x1, .int .i64 x2] 56)) fun e w' => e = .returned (.bool (EG.hasB zs y)) ∧ (wr.alloc (.cells #[.int .i64 x0, .int .i64 x1, .int .i64 x2] 56)) = w') := fun y => containsI_any b cb zs y _ hz (M4.IntsAt.below HS.out HB.out)
      clear hs HI HS hL
      have H0 : Hid _ := HCA.out x0
      have H1 : Hid _ := HCA.out x1
      clear HCA
      simp only [show FL.hasN = EG.hasB from rfl] at HY HN
      generalize EG.hasB zs x0 = p at *
      generalize EG.hasB zs x1 = q at *
      go_wp2_with fail
      refine Calls.mono H0.out ?_
      rintro e w2 ⟨rfl, rfl⟩
      clear H0
      cases p with
      | false =>
        have HE : Hid _ := HN.out (.inl rfl)
        clear HY HN H1
        go_wp2
        go_roundw
        case rel => exact ⟨k + 1, by go_num, by omega, ⟨s, HE, HO.out⟩, HB.out⟩
        case measure => simp [intOf]; omega
      | true =>
        go_wp2_with fail
        refine Calls.mono H1.out ?_
        rintro e w2 ⟨rfl, rfl⟩
        clear H1
        cases q with
        | true =>
          have HE : Hid _ := HN.out (.inr rfl)
          clear HY HN
          go_wp2
          go_roundw
          case rel => exact ⟨k + 1, by go_num, by omega, ⟨s, HE, HO.out⟩, HB.out⟩
          case measure => simp [intOf]; omega
        | false =>
          have HE : Hid _ := HY.out (by trivial) (by trivial)
          clear HY HN c0 c1 c2
          have hbs2 := HB.out.size
          generalize wr.alloc (.cells #[.int .i64 x0, .int .i64 x1, .int .i64 x2] 56) = W1 at *
          go_wp2_with (at_builtin; go_loud (refine wpList_append_own _ rfl _ _ 26 rfl w.heap.size 3 i0 (.int .i64 0) 1 8 Try.underlying26 hi hz0 hz1 hz2 rfl (by decide) _ _ _ rfl (World.ownsRow.alloc HO.out _) ⟨W1.heap.size, 0, none⟩ 1 1 [.int .i64 (k : Int)] rfl rfl ?c1 ?c2 ?c3 ?c4 ?c5 ?_))
          all_goals try (first | rfl | omega | exact M2.new1 _ _ _ | exact M2.one1 _ _ | (unfold maxLen; omega) | (simp; omega))
          intro v' w3 hown1 hgrow _
          have R := M5.growI HO.out HB.out hbs2 (by exact hown1) hgrow
          have R1 := R.1
          have R2 := R.2
          clear hown1 hgrow R HO
          go_wp2
          go_roundw
          case rel => exact ⟨k + 1, by go_num, by omega, ⟨s ++ [(k : Int)], HE, R1⟩, R2⟩
          case measure => simp [intOf]; omega
    · obtain rfl : k = xs.length := by omega
      have hE : s = L := by rw [← hs.out, ← hL.out]
      subst hE
      clear hs HI HS hL
      obtain ⟨a3, c3, hv, hiv⟩ := M5.own_view hown
      rw [hv] at hown ⊢
      have HO : Hid _ := hown
      clear hown hv hiv
      generalize hsll : s.length = sl at *
      have HSL : Hid _ := hsll
      clear hsll
      go_wp2
      go_ret
      exact ⟨a3, c3, by rw [HSL.out]; rfl, by rw [HSL.out]; exact HO.out, hb⟩
set_option linter.unusedSimpArgs false in
set_option maxHeartbeats 1600000 in
set_option maxRecDepth 100000 in
theorem capsOutOf_any (a b : Option Addr) (cap cb : Nat) (xs : List I3) (zs : List Int) (w : World) (hg : FL.okP xs = true) (hz : zs.length ≤ 1048576) (hin : MI3.RowAt w a xs) (hos : M4.IntsAt w b zs) (R : Int) (hR : Hid (FL.capUp xs zs xs.length = R)) :
    Calls Try.prog 33 #[.slice a xs.length cap, .slice b zs.length cb] w fun e w' => e = .returned (.int .i64 R) ∧ Below w.heap.size w w' := by
  have hn : xs.length ≤ 20 := ((FL.okP_iff xs).1 hg).1
  have PO : Hid _ := pipesOutOf_any a b cap cb xs zs w (by omega) hz hin hos _ rfl
  have hlen := FL.outK_len xs zs xs.length
  have HN : Hid (FL.nums xs (FL.outK xs zs xs.length)) := FL.outK_nums xs zs
  have HR : Hid (FL.sumL xs (FL.outK xs zs xs.length) (FL.outK xs zs xs.length).length = R) := by show _ = R; rw [FL.sum_outK]; exact hR.out
  have HW : Hid _ := fun k hk => FL.sumL_within (l := FL.outK xs zs xs.length) hg HN.out k hk
  have HI : Hid (MI3.RowAt w a xs) := hin
  generalize FL.outK xs zs xs.length = L at *
  clear hin hos hg hR
  go_enter Try.func33, Try.ntmps33
  go_wp2_with fail
  refine Calls.mono PO.out ?_
  rintro e w1 ⟨a1, c1, rfl, ho, hb1⟩
  clear PO
  have HS : Hid (M4.IntsAt w1 a1 L) := M5.own_ints ho
  clear ho
  go_wp2
  go_loopw [5, 12] (fun v iv wr => ∃ k : Nat, iv = .int .i64 k ∧ k ≤ L.length ∧ (∃ s : Int, v = .int .i64 s ∧ Hid (FL.sumL xs L k = s)) ∧ w1 = wr) (fun _ iv _ => (L.length - intOf iv).toNat)
  case atStart => exact ⟨0, rfl, by omega, ⟨0, rfl, rfl⟩, rfl⟩
  case round =>
    obtain ⟨k, rfl, hk, ⟨s, rfl, hs⟩, rfl⟩ := hrel
    by_cases hlk : k < L.length
    · obtain ⟨j, hj, hjx⟩ := HN.out k hlk
      obtain ⟨b2, off2, rfl, hlt2, d0⟩ := M4.IntsAt.at HS.out hlk
      rw [hj] at d0
      obtain ⟨b1, off, rfl, hlt, c0, c1, c2⟩ := (HI.out.below hb1).at hjx
      have w1' := HW.out k hk
      have w2' := HW.out (k + 1) (by omega)
      have HE : Hid (FL.sumL xs L (k + 1) = s + (MI3.at_ xs j).a2) := by
        show _ = _; rw [FL.sumL, hs.out, hj, show ((j : Nat) : Int).toNat = j from by omega]
      rw [HE.out] at w2'
      rw [hs.out] at w1'
      generalize MI3.at_ xs j = x at *
      obtain ⟨x0, x1, x2⟩ := x
      have hjj : (j : Int) < xs.length := by omega
      simp only at w2'
      clear hs HW HI HS HN HR hj
      go_wp2
      go_roundw
      case rel => exact ⟨k + 1, by go_num, by omega, ⟨_, by go_num, HE⟩, trivial⟩
      case measure => simp [intOf]; omega
    · obtain rfl : k = L.length := by omega
      have hF : Hid (s = R) := by show s = R; rw [← hs.out, ← HR.out]
      clear hs HW HI HS HN HR
      go_wp2
      go_ret
      exact ⟨retI7 hF.out, hb1⟩
end Go.Proofs.Ytndaapidfiocoaa

/- Numbers that rise: areRising, areEdges (the program's), l1Some (the specification's). -/
namespace Go.Proofs.Ytndaapidfiocoaa
open Go.RowKit
namespace EG
theorem ints_at2 {w : World} {a : Option Addr} {zs : List Int} (h : M4.IntsAt w a zs) {k : Nat} (hk : k + 1 < zs.length) : ∃ b off, a = some ⟨b, off, none⟩ ∧ b < w.heap.size ∧ w.cell? ⟨b, off + k, none⟩ = some (.int .i64 (zs.getD k 0)) ∧ w.cell? ⟨b, off + (k + 1), none⟩ = some (.int .i64 (zs.getD (k + 1) 0)) := by
  rcases h with rfl | ⟨b, off, rfl, hlt, hc⟩
  · simp at hk
  · exact ⟨b, off, rfl, hlt, hc k (by omega), hc (k + 1) hk⟩
end EG
set_option maxHeartbeats 1600000 in
set_option maxRecDepth 100000 in
theorem areRising_any (b : Option Addr) (cb : Nat) (n : Nat) (os : List Int) (w : World) (_hn : n ≤ 1048576) (ho : os.length ≤ 1048576) (hos : M4.IntsAt w b os) (R : Bool) (hR : Hid (EG.rises n os = R)) :
    Calls Try.prog 42 #[.slice b os.length cb, .int .i64 ((n : Int) - 1)] w fun e w' => e = .returned (.bool R) ∧ w = w' := by
  go_enter Try.func42, Try.ntmps42
  go_wp2
  go_loopw [9] (fun iv wr => ∃ k : Nat, iv = .int .i64 k ∧ k ≤ os.length ∧ Hid (EG.riseUp n os k) ∧ w = wr) (fun iv _ => (os.length - intOf iv).toNat)
  case atStart => exact ⟨0, rfl, by omega, show Hid _ from fun i hi => by omega, rfl⟩
  case round =>
    obtain ⟨k, rfl, hk, hT, rfl⟩ := hrel
    by_cases hlk : k < os.length
    · have HN : Hid _ := fun h => EG.rises_no (n := n) hlk h
      have HY : Hid _ := fun h => EG.riseUp_succ hT.out (k := k) h
      cases k with
      | zero =>
        obtain ⟨b1, off1, rfl, hlt1, hc1⟩ := hos.at hlk
        clear hos hT
        rw [Nat.add_zero] at hc1
        generalize os.getD 0 0 = o at *
        rw [show ((0 : Nat) : Int) = 0 from rfl]
        by_cases h0 : 0 ≤ o ∧ o < n
        · have hT : Hid _ := HY.out ⟨h0.1, h0.2, fun h => by omega⟩
          have h1 : decide (0 ≤ o ∧ o ≤ (n : Int) - 1) = true := by simp; omega
          clear HN HY hR h0
          go_wp2_with (go_at_call 56; refine (within7_any _ _ _ _).mono ?_; rintro e w2 ⟨rfl, rfl⟩; rw [h1])
          go_roundw
          case rel => exact ⟨1, by go_num, by omega, hT, trivial⟩
          case measure => simp [intOf]; omega
        · have hF : Hid (R = false) := by show R = false; rw [← hR.out]; exact HN.out (by omega)
          have h1 : decide (0 ≤ o ∧ o ≤ (n : Int) - 1) = false := by simp; omega
          clear HN HY hR h0
          go_wp2_with (go_at_call 56; refine (within7_any _ _ _ _).mono ?_; rintro e w2 ⟨rfl, rfl⟩; rw [h1])
          go_ret
          exact ⟨retB7 hF.out.symm, rfl⟩
      | succ k =>
        obtain ⟨b1, off1, rfl, hlt1, hc0, hc1⟩ := EG.ints_at2 hos hlk
        clear hos hT
        rw [Nat.add_sub_cancel] at HN HY
        generalize os.getD k 0 = p at *
        generalize os.getD (k + 1) 0 = o at *
        rw [show ((k + 1 : Nat) : Int) = (k : Int) + 1 from rfl]
        by_cases h0 : 0 ≤ o ∧ o < n
        · have h1 : decide (0 ≤ o ∧ o ≤ (n : Int) - 1) = true := by simp; omega
          by_cases hpo : o ≤ p
          · have hF : Hid (R = false) := by show R = false; rw [← hR.out]; exact HN.out (fun h => by have := h.2.2 (by omega); omega)
            have h2 : decide (o ≤ p) = true := by simp [hpo]
            clear HN HY hR h0 hpo
            go_wp2_with (go_at_call 56; refine (within7_any _ _ _ _).mono ?_; rintro e w2 ⟨rfl, rfl⟩; rw [h1])
            go_ret
            exact ⟨retB7 hF.out.symm, rfl⟩
          · have hT : Hid _ := HY.out ⟨h0.1, h0.2, fun h => by omega⟩
            have h2 : decide (o ≤ p) = false := by simp; omega
            clear HN HY hR h0 hpo
            go_wp2_with (go_at_call 56; refine (within7_any _ _ _ _).mono ?_; rintro e w2 ⟨rfl, rfl⟩; rw [h1])
            go_roundw
            case rel => exact ⟨k + 2, by go_num, by omega, hT, trivial⟩
            case measure => simp [intOf]; omega
        · have hF : Hid (R = false) := by show R = false; rw [← hR.out]; exact HN.out (by omega)
          have h1 : decide (0 ≤ o ∧ o ≤ (n : Int) - 1) = false := by simp; omega
          clear HN HY hR h0
          go_wp2_with (go_at_call 56; refine (within7_any _ _ _ _).mono ?_; rintro e w2 ⟨rfl, rfl⟩; rw [h1])
          go_ret
          exact ⟨retB7 hF.out.symm, rfl⟩
    · obtain rfl : k = os.length := by omega
      have hF : Hid (R = true) := by show R = true; rw [← hR.out]; exact EG.rises_yes hT.out
      clear hos hT hR
      go_wp2
      go_ret
      exact ⟨retB7 hF.out.symm, rfl⟩
set_option maxHeartbeats 1600000 in
set_option maxRecDepth 100000 in
theorem l1Some_any (b : Option Addr) (cb : Nat) (n : Nat) (os : List Int) (w : World) (_hn : n ≤ 1048576) (ho : os.length ≤ 1048576) (hos : M4.IntsAt w b os) (R : Bool) (hR : Hid (EG.rises n os = R)) :
    Calls Try.prog 47 #[.slice b os.length cb, .int .i64 n] w fun e w' => e = .returned (.bool R) ∧ Below w.heap.size w w' := by
  go_enter Try.func47, Try.ntmps47
  go_wp2
  go_loopw [9] (fun iv wr => ∃ k : Nat, iv = .int .i64 k ∧ k ≤ os.length ∧ Hid (EG.riseUp n os k) ∧ Below w.heap.size w wr) (fun iv _ => (os.length - intOf iv).toNat)
  case atStart => exact ⟨0, rfl, by omega, show Hid _ from fun i hi => by omega, Below.refl _ _⟩
  case round =>
    obtain ⟨k, rfl, hk, hT, hb⟩ := hrel
    replace hos := hos.below hb
    by_cases hlk : k < os.length
    · have HN : Hid _ := fun h => EG.rises_no (n := n) hlk h
      have HY : Hid _ := fun h => EG.riseUp_succ hT.out (k := k) h
      cases k with
      | zero =>
        obtain ⟨b1, off1, rfl, hlt1, hc1⟩ := hos.at hlk
        clear hos hT
        rw [Nat.add_zero] at hc1
        generalize os.getD 0 0 = o at *
        rw [show ((0 : Nat) : Int) = 0 from rfl]
        by_cases h0 : 0 ≤ o
        · obtain ⟨j, rfl⟩ := Int.eq_ofNat_of_zero_le h0
          have h1 : decide ((j : Int) < 0) = false := by simp
          by_cases h3 : j < n
          · have hT : Hid _ := HY.out ⟨h0, by omega, fun h => by omega⟩
            have h2 : decide (n ≤ j) = false := by simp; omega
            clear HN HY hR h0
            go_wp2
            go_roundw
            case rel => exact ⟨1, by go_num, by omega, hT, hb⟩
            case measure => simp [intOf]; omega
          · have hF : Hid (R = false) := by show R = false; rw [← hR.out]; exact HN.out (by omega)
            have h2 : decide (n ≤ j) = true := by simp; omega
            clear HN HY hR h0
            go_wp2
            go_ret
            exact ⟨retB7 hF.out.symm, hb⟩
        · have hF : Hid (R = false) := by show R = false; rw [← hR.out]; exact HN.out (by omega)
          have h1 : decide (o < 0) = true := by simp; omega
          clear HN HY hR h0
          go_wp2
          go_ret
          exact ⟨retB7 hF.out.symm, hb⟩
      | succ k =>
        obtain ⟨b1, off1, rfl, hlt1, hc0, hc1⟩ := EG.ints_at2 hos hlk
        clear hos hT
        rw [Nat.add_sub_cancel] at HN HY
        generalize os.getD k 0 = p at *
        generalize os.getD (k + 1) 0 = o at *
        rw [show ((k + 1 : Nat) : Int) = (k : Int) + 1 from rfl]
        by_cases h0 : 0 ≤ o
        · obtain ⟨j, rfl⟩ := Int.eq_ofNat_of_zero_le h0
          have h1 : decide ((j : Int) < 0) = false := by simp
          by_cases h3 : j < n
          · have h2 : decide (n ≤ j) = false := by simp; omega
            by_cases hpo : (j : Int) ≤ p
            · have hF : Hid (R = false) := by show R = false; rw [← hR.out]; exact HN.out (fun h => by have := h.2.2 (by omega); omega)
              have h4 : decide ((j : Int) ≤ p) = true := by simp [hpo]
              clear HN HY hR h0 hpo
              go_wp2
              go_ret
              exact ⟨retB7 hF.out.symm, hb⟩
            · have hT : Hid _ := HY.out ⟨h0, by omega, fun h => by omega⟩
              have h4 : decide ((j : Int) ≤ p) = false := by simp; omega
              clear HN HY hR h0 hpo
              go_wp2
              go_roundw
              case rel => exact ⟨k + 2, by go_num, by omega, hT, hb⟩
              case measure => simp [intOf]; omega
          · have hF : Hid (R = false) := by show R = false; rw [← hR.out]; exact HN.out (by omega)
            have h2 : decide (n ≤ j) = true := by simp; omega
            clear HN HY hR h0
            go_wp2
            go_ret
            exact ⟨retB7 hF.out.symm, hb⟩
        · have hF : Hid (R = false) := by show R = false; rw [← hR.out]; exact HN.out (by omega)
          have h1 : decide (o < 0) = true := by simp; omega
          clear HN HY hR h0
          go_wp2
          go_ret
          exact ⟨retB7 hF.out.symm, hb⟩
    · obtain rfl : k = os.length := by omega
      have hF : Hid (R = true) := by show R = true; rw [← hR.out]; exact EG.rises_yes hT.out
      clear hos hT hR
      go_wp2
      go_ret
      exact ⟨retB7 hF.out.symm, hb⟩
end Go.Proofs.Ytndaapidfiocoaa

/- CutSize of the program and of the specification. -/
namespace Go.Proofs.Ytndaapidfiocoaa
open Go.RowKit
namespace FL
noncomputable def szOk (xs : List I3) (zs : List Int) : Bool := okP xs && EG.rises 8 zs
noncomputable def szN (xs : List I3) (zs : List Int) : Int := if szOk xs zs = true then capUp xs zs xs.length else 0
end FL
set_option linter.unusedSimpArgs false in
set_option maxHeartbeats 1600000 in
set_option maxRecDepth 100000 in
theorem implCutSize_any (a b : Option Addr) (cap cb : Nat) (xs : List I3) (zs : List Int) (w : World) (hn0 : xs.length ≤ 1048576) (hz : zs.length ≤ 1048576) (hin : MI3.RowAt w a xs) (hos : M4.IntsAt w b zs) :
    Calls Try.prog 16 #[.slice a xs.length cap, .slice b zs.length cb] w fun e w' => e = .returned (.tuple #[.int .i64 (FL.szN xs zs), .bool (FL.szOk xs zs)]) ∧ Below w.heap.size w w' := by
  have GP : Hid _ := implGoodPipes_any a cap xs w hn0 hin _ rfl
  have SP : Hid (∀ W : World, M4.IntsAt W b zs → Calls Try.prog 42 #[.slice b zs.length cb, .int .i64 7] W fun e w' => e = .returned (.bool (EG.rises 8 zs)) ∧ W = w') := fun W h => areRising_any b cb 8 zs W (by omega) hz h _ rfl
  have HI : Hid (MI3.RowAt w a xs) := hin
  have HS : Hid (M4.IntsAt w b zs) := hos
  clear hin hos
  obtain ⟨ok, hok⟩ : ∃ ok, FL.szOk xs zs = ok := ⟨_, rfl⟩
  obtain ⟨N, hN⟩ : ∃ N, FL.szN xs zs = N := ⟨_, rfl⟩
  rw [hok, hN]
  have HK : Hid _ := hok
  have HN : Hid _ := hN
  clear hok hN
  go_enter Try.func16, Try.ntmps16
  go_wp2_with fail
  refine Calls.mono GP.out ?_
  rintro e w0 ⟨rfl, hb0⟩
  clear GP
  cases hg : FL.okP xs with
  | false =>
    have hF : Hid (ok = false) := by show _ = _; rw [← HK.out]; simp [FL.szOk, hg]
    have hF2 : Hid (N = 0) := by show _ = _; rw [← HN.out]; simp [FL.szN, FL.szOk, hg]
    clear hg HK HN SP HI HS
    go_wp2
    go_ret2
    exact ⟨by rw [hF.out, hF2.out]; rfl, hb0⟩
  | true =>
    go_wp2_with fail
    refine (SP.out _ (M4.IntsAt.below HS.out hb0)).mono ?_
    rintro e w1 ⟨rfl, hb1⟩
    subst hb1
    have hB1 := hb0
    clear SP
    cases hr : EG.rises 8 zs with
    | false =>
      have hF : Hid (ok = false) := by show _ = _; rw [← HK.out]; simp [FL.szOk, hg, hr]
      have hF2 : Hid (N = 0) := by show _ = _; rw [← HN.out]; simp [FL.szN, FL.szOk, hg, hr]
      clear hg hr HK HN HI HS
      go_wp2
      go_ret2
      exact ⟨by rw [hF.out, hF2.out]; rfl, hB1⟩
    | true =>
      have hF : Hid (ok = true) := by show _ = _; rw [← HK.out]; simp [FL.szOk, hg, hr]
      have hF2 : Hid (FL.capUp xs zs xs.length = N) := by show _ = _; rw [← HN.out]; simp [FL.szN, FL.szOk, hg, hr]
      have CP : Hid _ := capsOutOf_any a b cap cb xs zs _ hg hz (HI.out.below hB1) (M4.IntsAt.below HS.out hB1) N hF2
      clear hg hr HK HN HI HS hF2
      go_wp2_with fail
      refine Calls.mono CP.out ?_
      rintro e w2 ⟨rfl, hb2⟩
      clear CP
      go_wp2
      go_ret2
      exact ⟨by rw [hF.out]; rfl, hB1.trans (hb2.mono hB1.size)⟩
set_option linter.unusedSimpArgs false in
set_option maxHeartbeats 1600000 in
set_option maxRecDepth 100000 in
theorem specCutSize_any (a b : Option Addr) (cap cb : Nat) (xs : List I3) (zs : List Int) (w : World) (hn0 : xs.length ≤ 1048576) (hz : zs.length ≤ 1048576) (hin : MI3.RowAt w a xs) (hos : M4.IntsAt w b zs) :
    Calls Try.prog 23 #[.slice a xs.length cap, .slice b zs.length cb] w fun e w' => e = .returned (.tuple #[.int .i64 (FL.szN xs zs), .bool (FL.szOk xs zs)]) ∧ Below w.heap.size w w' := by
  have GP : Hid _ := specGoodPipes_any a cap xs w hn0 hin _ rfl
  have SP : Hid (∀ W : World, M4.IntsAt W b zs → Calls Try.prog 47 #[.slice b zs.length cb, .int .i64 8] W fun e w' => e = .returned (.bool (EG.rises 8 zs)) ∧ Below W.heap.size W w') := fun W h => l1Some_any b cb 8 zs W (by omega) hz h _ rfl
  have HI : Hid (MI3.RowAt w a xs) := hin
  have HS : Hid (M4.IntsAt w b zs) := hos
  clear hin hos
  obtain ⟨ok, hok⟩ : ∃ ok, FL.szOk xs zs = ok := ⟨_, rfl⟩
  obtain ⟨N, hN⟩ : ∃ N, FL.szN xs zs = N := ⟨_, rfl⟩
  rw [hok, hN]
  have HK : Hid _ := hok
  have HN : Hid _ := hN
  clear hok hN
  go_enter Try.func23, Try.ntmps23
  go_wp2_with fail
  refine Calls.mono GP.out ?_
  rintro e w0 ⟨rfl, hb0⟩
  clear GP
  cases hg : FL.okP xs with
  | false =>
    have hF : Hid (ok = false) := by show _ = _; rw [← HK.out]; simp [FL.szOk, hg]
    have hF2 : Hid (N = 0) := by show _ = _; rw [← HN.out]; simp [FL.szN, FL.szOk, hg]
    clear hg HK HN SP HI HS
    go_wp2
    go_ret2
    exact ⟨by rw [hF.out, hF2.out]; rfl, hb0⟩
  | true =>
    go_wp2_with fail
    refine (SP.out _ (M4.IntsAt.below HS.out hb0)).mono ?_
    rintro e w1 ⟨rfl, hb1⟩
    have hB1 := hb0.trans (hb1.mono hb0.size)
    clear hb0 hb1
    clear SP
    cases hr : EG.rises 8 zs with
    | false =>
      have hF : Hid (ok = false) := by show _ = _; rw [← HK.out]; simp [FL.szOk, hg, hr]
      have hF2 : Hid (N = 0) := by show _ = _; rw [← HN.out]; simp [FL.szN, FL.szOk, hg, hr]
      clear hg hr HK HN HI HS
      go_wp2
      go_ret2
      exact ⟨by rw [hF.out, hF2.out]; rfl, hB1⟩
    | true =>
      have hF : Hid (ok = true) := by show _ = _; rw [← HK.out]; simp [FL.szOk, hg, hr]
      have hF2 : Hid (FL.capUp xs zs xs.length = N) := by show _ = _; rw [← HN.out]; simp [FL.szN, FL.szOk, hg, hr]
      have CP : Hid _ := l8Cut_any a b cap cb xs zs _ hg hz (HI.out.below hB1) (M4.IntsAt.below HS.out hB1) N hF2
      clear hg hr HK HN HI HS hF2
      go_wp2_with fail
      refine Calls.mono CP.out ?_
      rintro e w2 ⟨rfl, hb2⟩
      clear CP
      go_wp2
      go_ret2
      exact ⟨by rw [hF.out]; rfl, hB1.trans (hb2.mono hB1.size)⟩
end Go.Proofs.Ytndaapidfiocoaa
