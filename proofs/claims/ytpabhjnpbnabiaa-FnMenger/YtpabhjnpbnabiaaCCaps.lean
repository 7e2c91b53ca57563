/- What the pipes of a cut bear: l8Cut of the specification. -/
import Derived.Test.YtpabhjnpbnabiaaRows
import Derived.Test.YtpabhjnpbnabiaaMFO
import Derived.Test.YtpabhjnpbnabiaaM5
import Derived.Test.YtpabhjnpbnabiaaCHasI
import Derived.WalkKit
import Derived.WalkSpells
import Derived.WalkLawsBesides
import Derived.Outline
namespace Go.Proofs.Ytpabhjnpbnabiaa
open Go.RowKit
namespace FL
theorem capUp_yes {xs : List I3} {zs : List Int} {k : Nat} (h0 : EG.hasB zs (MI3.at_ xs k).a0 = true) (h1 : EG.hasB zs (MI3.at_ xs k).a1 = false) : capUp xs zs (k + 1) = capUp xs zs k + (MI3.at_ xs k).a2 := by
  rw [capUp, if_pos ⟨h0, h1⟩]
theorem capUp_no {xs : List I3} {zs : List Int} {k : Nat} (h : EG.hasB zs (MI3.at_ xs k).a0 = false ∨ EG.hasB zs (MI3.at_ xs k).a1 = true) : capUp xs zs (k + 1) = capUp xs zs k := by
  rw [capUp, if_neg, Int.add_zero]
  rintro ⟨h0, h1⟩
  rcases h with h | h
  · rw [show hasN zs (MI3.at_ xs k).a0 = EG.hasB zs (MI3.at_ xs k).a0 from rfl, h] at h0; cases h0
  · rw [show hasN zs (MI3.at_ xs k).a1 = EG.hasB zs (MI3.at_ xs k).a1 from rfl, h] at h1; cases h1
end FL
set_option linter.unusedSimpArgs false in
set_option maxHeartbeats 1600000 in
set_option maxRecDepth 100000 in
theorem l8Cut_any (a b : Option Addr) (cap cb : Nat) (xs : List I3) (zs : List Int) (w : World) (hg : FL.okP xs = true) (hz : zs.length ≤ 1048576) (hin : MI3.RowAt w a xs) (hos : M4.IntsAt w b zs) (R : Int) (hR : Hid (FL.capUp xs zs xs.length = R)) :
    Calls Try.prog 56 #[.slice a xs.length cap, .slice b zs.length cb] w fun e w' => e = .returned (.int .i64 R) ∧ Below w.heap.size w w' := by
  have hn : xs.length ≤ 20 := ((FL.okP_iff xs).1 hg).1
  have HW : Hid _ := fun k hk => FL.capUp_within (zs := zs) hg k hk
  have HG : Hid _ := fun k hk => FL.okP_good hg (k := k) hk
  have HI : Hid (MI3.RowAt w a xs) := hin
  have HS : Hid (M4.IntsAt w b zs) := hos
  clear hin hos hg
  go_enter Try.func56, Try.ntmps56
  go_wp2
  go_loopw [5, 10] (fun v iv wr => ∃ k : Nat, iv = .int .i64 k ∧ k ≤ xs.length ∧ (∃ s : Int, v = .int .i64 s ∧ Hid (FL.capUp xs zs k = s)) ∧ Below w.heap.size w wr) (fun _ iv _ => (xs.length - intOf iv).toNat)
  case atStart => exact ⟨0, rfl, by omega, ⟨0, rfl, rfl⟩, Below.refl _ _⟩
  case round =>
    obtain ⟨k, rfl, hk, ⟨s, rfl, hs⟩, hb⟩ := hrel
    by_cases hlk : k < xs.length
    · obtain ⟨b1, off, rfl, hlt, c0, c1, c2⟩ := (HI.out.below hb).at hlk
      have w1 := HW.out k hk
      have g := HG.out k hlk
      have HY : Hid _ := fun h0 h1 => FL.capUp_yes (xs := xs) (zs := zs) (k := k) h0 h1
      have HN : Hid _ := fun h => FL.capUp_no (xs := xs) (zs := zs) (k := k) h
      rw [hs.out] at w1 HY HN
      generalize MI3.at_ xs k = x at *
      obtain ⟨x0, x1, x2⟩ := x
      have hc0 : 0 ≤ x2 := g.c0
      have hc1 : x2 ≤ 100 := g.c1
      have hb' : ∀ o, Below w.heap.size w (wr.alloc o) := fun o => hb.alloc hb.size o
      have HB : Hid _ := hb'
      clear hb'
      have HCA : Hid (∀ y : Int, Calls Try.prog 32 #[.slice b zs.length cb, .int .i64 y] (wr.alloc (.cells #[.int .i64 x0, .int .i64 x1, .int .i64 x2] 68)) fun e w' => e = .returned (.bool (EG.hasB zs y)) ∧ (wr.alloc (.cells #[.int .i64 x0, .int .i64 x1, .int .i64 x2] 68)) = w') := fun y => l1Has_any b cb zs y _ hz (M4.IntsAt.below HS.out (HB.out _))
      clear g hs HW HG HI HS hR
      have H0 : Hid _ := HCA.out x0
      have H1 : Hid _ := HCA.out x1
      clear HCA
      simp only at HY HN
      generalize EG.hasB zs x0 = p at *
      generalize EG.hasB zs x1 = q at *
      go_wp2_with fail
      refine Calls.mono H0.out ?_
      rintro e w2 ⟨rfl, rfl⟩
      clear H0
      cases p with
      | false =>
        have HE : Hid _ := HN.out (.inl rfl)
        clear HY HN H1
        go_wp2
        go_roundw
        case rel => exact ⟨k + 1, by go_num, by omega, ⟨_, rfl, HE⟩, HB.out _⟩
        case measure => simp [intOf]; omega
      | true =>
        go_wp2_with fail
        refine Calls.mono H1.out ?_
        rintro e w2 ⟨rfl, rfl⟩
        clear H1
        cases q with
        | true =>
          have HE : Hid _ := HN.out (.inr rfl)
          clear HY HN
          go_wp2
          go_roundw
          case rel => exact ⟨k + 1, by go_num, by omega, ⟨_, rfl, HE⟩, HB.out _⟩
          case measure => simp [intOf]; omega
        | false =>
          have HE : Hid _ := HY.out (by trivial) (by trivial)
          clear HY HN
          go_wp2
          go_roundw
          case rel => exact ⟨k + 1, by go_num, by omega, ⟨_, by go_num, HE⟩, HB.out _⟩
          case measure => simp [intOf]; omega
    · obtain rfl : k = xs.length := by omega
      have hF : Hid (s = R) := by show s = R; rw [← hs.out, ← hR.out]
      clear hs HW HG HI HS hR
      go_wp2
      go_ret
      exact ⟨retI7 hF.out, hb⟩
end Go.Proofs.Ytpabhjnpbnabiaa
