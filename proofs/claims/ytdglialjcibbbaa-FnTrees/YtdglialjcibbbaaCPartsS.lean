/- l7Parts of the specification. -/
import Derived.Test.YtdglialjcibbbaaRows
import Derived.Test.YtdglialjcibbbaaMIR
import Derived.Test.YtdglialjcibbbaaM5
import Derived.Test.YtdglialjcibbbaaMInfo
import Derived.WalkKit
import Derived.WalkSpells
import Derived.WalkLawsBesides
import Derived.Outline
import Derived.Deep.QuietTactic
import Derived.BigQuiet
namespace Go.Proofs.Ytdglialjcibbbaa
open Go.RowKit
set_option linter.unusedSimpArgs false in
set_option maxHeartbeats 1600000 in
set_option maxRecDepth 100000 in
theorem l7Parts_any (a b : Option Addr) (ca cb : Nat) (xs : List I3) (os : List Int) (w : World) (hg : EG.okP xs = true) (ho : os.length ≤ 1048576) (hR : EG.InR xs os) (hin : MI3.RowAt w a xs) (hos : M4.IntsAt w b os) :
    Calls Try.prog 39 #[.slice a xs.length ca, .slice b os.length cb] w fun e w' => ∃ g c1, e = .returned (.slice (some ⟨g, 0, none⟩) 8 c1) ∧ w'.ownsRow w.heap.size 3 1 (.slice (some ⟨g, 0, none⟩) 8 c1) 8 (M4.iv (EG.prL (EG.prt xs os os.length))) ∧ Below w.heap.size w w' := by
  obtain ⟨i0, hi, hz0, hz1, hz2⟩ := info_parts Try.info3
  have HI : Hid (MI3.RowAt w a xs) := hin
  have HS : Hid (M4.IntsAt w b os) := hos
  have HG : Hid _ := hg
  have hlen := ((EG.okP_iff xs).1 hg).1
  clear hin hos hg
  go_enter Try.func39, Try.ntmps39
  go_wp2
  go_loopw [5, 6] (fun v iv wr => ∃ k : Nat, iv = .int .i64 k ∧ k ≤ 8 ∧ wr.ownsRow w.heap.size 3 1 v (EG.prU (fun n => n) k).length (M4.iv (EG.prU (fun n => n) k)) ∧ Below w.heap.size w wr) (fun _ iv _ => (8 - intOf iv).toNat)
  case atStart => exact ⟨0, rfl, by omega, World.ownsRow_nil _ _ _ _, Below.refl _ _⟩
  case round =>
    obtain ⟨k, rfl, hk, hown, hb⟩ := hrel
    have hbs := hb.size
    have hln := EG.prU_len (fun n => n) k
    by_cases hlk : k < 8
    · have hl0 : (EG.prU (fun n => n) k).length ≤ 8 := by omega
      have HSU : Hid _ := EG.prU_succ (fun n => n) k
      clear hln HI HS HG hR
      go_wp2_with (at_builtin; go_loud (refine wpList_append_own _ rfl _ _ 24 rfl w.heap.size 3 i0 (.int .i64 0) 1 8 Try.underlying24 hi hz0 hz1 hz2 rfl (by decide) _ _ _ rfl (World.ownsRow.alloc hown _) ⟨wr.heap.size, 0, none⟩ 1 1 [.int .i64 (k : Int)] rfl rfl ?c1 ?c2 ?c3 ?c4 ?c5 ?_))
      all_goals try (first | rfl | omega | exact M2.new1 _ _ _ | exact M2.one1 _ _ | (unfold maxLen; omega) | (simp; omega))
      intro v' w3 hown1 hgrow _
      have R := M5.growI hown hb hbs (by exact hown1) hgrow
      have R1 := R.1
      have R2 := R.2
      rw [← HSU.out] at R1
      clear hown1 hgrow hown R HSU
      go_wp2
      go_roundw
      case rel => exact ⟨k + 1, by go_num, by omega, R1, R2⟩
      case measure => simp [intOf]; omega
    · obtain rfl : k = 8 := by omega
      rcases hown.2 with ⟨_, h0⟩ | ⟨g, cap, cur, rfl, hrest⟩
      · rw [EG.prU_len] at h0; omega
      have hown1 : wr.ownsRow w.heap.size 3 1 (.slice (some ⟨g, 0, none⟩) 8 cap) 8 (M4.iv (EG.prL (EG.prt xs os 0))) := by
        have : wr.ownsRow w.heap.size 3 1 (.slice (some ⟨g, 0, none⟩) (EG.prU (fun n => n) 8).length cap) (EG.prU (fun n => n) 8).length (M4.iv (EG.prU (fun n => n) 8)) := ⟨hown.1, .inr ⟨g, cap, cur, rfl, hrest⟩⟩
        rw [EG.prU_len] at this; exact this
      have hlg := (hown1.lt g rfl)
      have HO1 : Hid _ := hown1
      rw [EG.prU_len]
      clear hown1 hown hrest hln
      go_wp2
      go_loopw [23] (fun iv wr => ∃ k : Nat, iv = .int .i64 k ∧ k ≤ os.length ∧ Hid (wr.ownsRow w.heap.size 3 1 (.slice (some ⟨g, 0, none⟩) 8 cap) 8 (M4.iv (EG.prL (EG.prt xs os k)))) ∧ Below w.heap.size w wr) (fun iv _ => (os.length - intOf iv).toNat)
      case atStart => exact ⟨0, rfl, by omega, HO1, hb⟩
      case round =>
        clear HO1 hb hbs hlg
        rename_i wr0
        obtain ⟨k, rfl, hk, hT, hb2⟩ := hrel
        by_cases hlk2 : k < os.length
        · obtain ⟨b1, off1, rfl, hlt1, hc1⟩ := M4.IntsAt.at (HS.out.below hb2) hlk2
          obtain ⟨h0, h1⟩ := hR.is k hlk2
          obtain ⟨i, hi1⟩ := Int.eq_ofNat_of_zero_le h0
          have hil : i < xs.length := by omega
          obtain ⟨b2, off2, rfl, hlt2, c0, c1, c2⟩ := (HI.out.below hb2).at hil
          have G := EG.okP_good HG.out hil
          have eo : EG.ofN xs (os.getD k 0) = MI3.at_ xs i := by rw [hi1]; rfl
          obtain ⟨x, hx⟩ := Int.eq_ofNat_of_zero_le G.f0
          obtain ⟨y, hy⟩ := Int.eq_ofNat_of_zero_le G.t0
          have hx8 : x < 8 := by have := G.f1; omega
          have hy8 : y < 8 := by have := G.t1; omega
          have e1 : EG.prt xs os (k + 1) = EG.mrg (EG.prt xs os k) x y := by
            show EG.mrg _ _ _ = _; rw [eo, hx, hy]; rfl
          have HE : Hid (∀ W : World, W.ownsRow w.heap.size 3 1 (.slice (some ⟨g, 0, none⟩) 8 cap) 8 (M4.iv (EG.prL (EG.tun (EG.prt xs os k) x y 8))) → W.ownsRow w.heap.size 3 1 (.slice (some ⟨g, 0, none⟩) 8 cap) 8 (M4.iv (EG.prL (EG.prt xs os (k + 1))))) := fun W h => by rw [e1, ← EG.tun_all]; exact h
          have p0 := World.ownsRow.cellAt hT.out x (by omega)
          rw [M4.iv_get _ x (EG.prt xs os k x : Int) (EG.prL_get _ hx8)] at p0
          have p1 := World.ownsRow.cellAt hT.out y (by omega)
          rw [M4.iv_get _ y (EG.prt xs os k y : Int) (EG.prL_get _ hy8)] at p1
          have hlg := World.ownsRow.lt hT.out g rfl
          have hfl : ∀ j, j < 8 → EG.prt xs os k j < 8 := fun j hj => EG.prt_lt8 hk hj
          have hfx := hfl x hx8
          have hfy := hfl y hy8
          rw [hi1] at hc1
          rw [hx] at c0
          rw [hy] at c1
          clear e1 eo hx hy G hi1 h0 h1
          generalize EG.prt xs os k = f at *
          by_cases hsw : f y < f x
          · obtain ⟨lo, hlo⟩ : ∃ lo, f y = lo := ⟨_, rfl⟩
            obtain ⟨hi2, hhi⟩ : ∃ hi2, f x = hi2 := ⟨_, rfl⟩
            have HLO : Hid (min (f x) (f y) = lo) := by show _ = _; omega
            have HHI : Hid (max (f x) (f y) = hi2) := by show _ = _; omega
            rw [hhi] at p0 hfx
            rw [hlo] at p1 hfy
            have hsw' : decide (lo < hi2) = true := by simp; omega
            clear hlo hhi hsw hfl
            go_wp2
            go_loopw [51] (fun iv wr2 => ∃ j : Nat, iv = .int .i64 j ∧ j ≤ 8 ∧ Hid (wr2.ownsRow w.heap.size 3 1 (.slice (some ⟨g, 0, none⟩) 8 cap) 8 (M4.iv (EG.prL (EG.tun f x y j)))) ∧ Below w.heap.size w wr2) (fun iv _ => (8 - intOf iv).toNat)
            case atStart => exact ⟨0, rfl, by omega, (by show World.ownsRow _ _ _ _ _ _ _; rw [EG.tun_zero]; exact hT.out), hb2⟩
            case round =>
              obtain ⟨j, rfl, hj, hU, hb3⟩ := hrel
              clear hT hb2
              by_cases hlj : j < 8
              · have hcj := World.ownsRow.cellAt hU.out j (by omega)
                have etj : EG.tun f x y j j = f j := by simp [EG.tun]
                rw [M4.iv_get _ j (f j : Int) (by rw [EG.prL_get _ hlj, etj])] at hcj
                have hfz := World.ownsRow.frozenAt hU.out j
                have hlg3 := (World.ownsRow.lt hU.out g rfl)
                by_cases hfj : f j = hi2
                · have st := World.ownsRow.stored hU.out j (.int .i64 (lo : Int))
                  have e1 : (fun n => if n = j then lo else EG.tun f x y j n) = EG.tun f x y (j + 1) := by
                    have := EG.tun_put f x y j (by rw [hfj]; exact HHI.out.symm)
                    rw [HLO.out] at this; exact this
                  have st1 := st.1
                  rw [M4.iv_set, EG.prL_set _ _ hlj, e1] at st1
                  have HU1 : Hid _ := st1
                  have hb4 := hb3.grown st.2 hb3.size (fun k hk => by simp at hk; omega)
                  have HB4 : Hid _ := hb4
                  have hq : ((f j : Int) == (hi2 : Int)) = true := by rw [hfj]; simp
                  clear st st1 e1 hU hb3 hb4 hfj etj
                  generalize f j = v at *
                  go_wp2
                  go_roundw
                  case rel => exact ⟨j + 1, by go_num, by omega, HU1, HB4.out⟩
                  case measure => simp [intOf]; omega
                · have e1 := EG.tun_keep f x y j (by rw [HHI.out]; exact hfj)
                  have hU' := hU.out
                  rw [e1] at hU'
                  have HU1 : Hid _ := hU'
                  have hq : ((f j : Int) == (hi2 : Int)) = false := by rw [beq_eq_false_iff_ne]; omega
                  clear e1 hU hU' hfj etj
                  generalize f j = v at *
                  go_wp2
                  go_roundw
                  case rel => exact ⟨j + 1, by go_num, by omega, HU1, hb3⟩
                  case measure => simp [intOf]; omega
              · obtain rfl : j = 8 := by omega
                have HE2 : Hid _ := HE.out _ hU.out
                clear hU HE
                go_wp2
                go_roundw
                case rel => exact ⟨k + 1, by go_num, by omega, HE2, hb3⟩
                case measure => simp [intOf]; omega
          · obtain ⟨lo, hlo⟩ : ∃ lo, f x = lo := ⟨_, rfl⟩
            obtain ⟨hi2, hhi⟩ : ∃ hi2, f y = hi2 := ⟨_, rfl⟩
            have HLO : Hid (min (f x) (f y) = lo) := by show _ = _; omega
            have HHI : Hid (max (f x) (f y) = hi2) := by show _ = _; omega
            rw [hlo] at p0 hfx
            rw [hhi] at p1 hfy
            have hsw' : decide (hi2 < lo) = false := by simp; omega
            clear hlo hhi hsw hfl
            go_wp2
            go_loopw [51] (fun iv wr2 => ∃ j : Nat, iv = .int .i64 j ∧ j ≤ 8 ∧ Hid (wr2.ownsRow w.heap.size 3 1 (.slice (some ⟨g, 0, none⟩) 8 cap) 8 (M4.iv (EG.prL (EG.tun f x y j)))) ∧ Below w.heap.size w wr2) (fun iv _ => (8 - intOf iv).toNat)
            case atStart => exact ⟨0, rfl, by omega, (by show World.ownsRow _ _ _ _ _ _ _; rw [EG.tun_zero]; exact hT.out), hb2⟩
            case round =>
              obtain ⟨j, rfl, hj, hU, hb3⟩ := hrel
              clear hT hb2
              by_cases hlj : j < 8
              · have hcj := World.ownsRow.cellAt hU.out j (by omega)
                have etj : EG.tun f x y j j = f j := by simp [EG.tun]
                rw [M4.iv_get _ j (f j : Int) (by rw [EG.prL_get _ hlj, etj])] at hcj
                have hfz := World.ownsRow.frozenAt hU.out j
                have hlg3 := (World.ownsRow.lt hU.out g rfl)
                by_cases hfj : f j = hi2
                · have st := World.ownsRow.stored hU.out j (.int .i64 (lo : Int))
                  have e1 : (fun n => if n = j then lo else EG.tun f x y j n) = EG.tun f x y (j + 1) := by
                    have := EG.tun_put f x y j (by rw [hfj]; exact HHI.out.symm)
                    rw [HLO.out] at this; exact this
                  have st1 := st.1
                  rw [M4.iv_set, EG.prL_set _ _ hlj, e1] at st1
                  have HU1 : Hid _ := st1
                  have hb4 := hb3.grown st.2 hb3.size (fun k hk => by simp at hk; omega)
                  have HB4 : Hid _ := hb4
                  have hq : ((f j : Int) == (hi2 : Int)) = true := by rw [hfj]; simp
                  clear st st1 e1 hU hb3 hb4 hfj etj
                  generalize f j = v at *
                  go_wp2
                  go_roundw
                  case rel => exact ⟨j + 1, by go_num, by omega, HU1, HB4.out⟩
                  case measure => simp [intOf]; omega
                · have e1 := EG.tun_keep f x y j (by rw [HHI.out]; exact hfj)
                  have hU' := hU.out
                  rw [e1] at hU'
                  have HU1 : Hid _ := hU'
                  have hq : ((f j : Int) == (hi2 : Int)) = false := by rw [beq_eq_false_iff_ne]; omega
                  clear e1 hU hU' hfj etj
                  generalize f j = v at *
                  go_wp2
                  go_roundw
                  case rel => exact ⟨j + 1, by go_num, by omega, HU1, hb3⟩
                  case measure => simp [intOf]; omega
              · obtain rfl : j = 8 := by omega
                have HE2 : Hid _ := HE.out _ hU.out
                clear hU HE
                go_wp2
                go_roundw
                case rel => exact ⟨k + 1, by go_num, by omega, HE2, hb3⟩
                case measure => simp [intOf]; omega
        · obtain rfl : k = os.length := by omega
          clear HI HS HG hR
          go_wp2
          go_ret
          exact ⟨g, cap, rfl, hT.out, hb2⟩
end Go.Proofs.Ytdglialjcibbbaa
