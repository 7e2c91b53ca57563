/- What goes out of a node: l8Out of the specification. -/
import Derived.Test.YtpabhjnpbnabiaaRows
import Derived.Test.YtpabhjnpbnabiaaMFO
import Derived.Test.YtpabhjnpbnabiaaM5
import Derived.Test.YtpabhjnpbnabiaaMRetB
import Derived.WalkKit
import Derived.WalkSpells
import Derived.WalkLawsBesides
import Derived.Outline
import Derived.Test.YtpabhjnpbnabiaaMSG
namespace Go.Proofs.Ytpabhjnpbnabiaa
open Go.RowKit
set_option linter.unusedSimpArgs false in
set_option maxHeartbeats 1600000 in
set_option maxRecDepth 100000 in
theorem l8Out_any (a b : Option Addr) (cap cb : Nat) (xs : List I3) (fs : List Int) (n : Int) (w : World) (hg : FL.okP xs = true) (hl : fs.length = xs.length) (hf : FL.fitUp xs fs xs.length) (hin : MI3.RowAt w a xs) (hos : M4.IntsAt w b fs) (R : Int) (hR : Hid (FL.outUp xs fs n xs.length = R)) :
    Calls Try.prog 26 #[.slice a xs.length cap, .slice b fs.length cb, .int .i64 n] w fun e w' => e = .returned (.int .i64 R) ∧ Below w.heap.size w w' := by
  have hn : xs.length ≤ 20 := ((FL.okP_iff xs).1 hg).1
  have HW : Hid _ := fun k hk => FL.outUp_within (n := n) hg hf k hk
  have HG : Hid _ := fun k hk => FL.okP_good hg (k := k) hk
  have HF : Hid _ := fun k hk => hf k hk
  have HI : Hid (MI3.RowAt w a xs) := hin
  have HS : Hid (M4.IntsAt w b fs) := hos
  clear hin hos hf hg
  rw [hl]
  have HL : Hid _ := hl
  clear hl
  go_enter Try.func26, Try.ntmps26
  go_wp2
  go_loopw [7, 12] (fun v iv wr => ∃ k : Nat, iv = .int .i64 k ∧ k ≤ xs.length ∧ (∃ s : Int, v = .int .i64 s ∧ Hid (FL.outUp xs fs n k = s)) ∧ Below w.heap.size w wr) (fun _ iv _ => (xs.length - intOf iv).toNat)
  case atStart => exact ⟨0, rfl, by omega, ⟨0, rfl, rfl⟩, Below.refl _ _⟩
  case round =>
    obtain ⟨k, rfl, hk, ⟨s, rfl, hs⟩, hb⟩ := hrel
    by_cases hlk : k < xs.length
    · obtain ⟨b1, off, rfl, hlt, c0, c1, c2⟩ := (HI.out.below hb).at hlk
      obtain ⟨b2, off2, rfl, hlt2, d0⟩ := M4.IntsAt.at (M4.IntsAt.below HS.out hb) (k := k) (by rw [HL.out]; exact hlk)
      have w1 := HW.out k hk
      have w2 := HW.out (k + 1) hlk
      have g := HG.out k hlk
      have f := HF.out k hlk
      rw [FL.outUp] at w2
      have HE : Hid (FL.outUp xs fs n (k + 1) = FL.outUp xs fs n k + FL.sg (MI3.at_ xs k) n (fs.getD k 0)) := rfl
      rw [hs.out] at w1 w2 HE
      generalize MI3.at_ xs k = x at *
      generalize fs.getD k 0 = y at *
      obtain ⟨x0, x1, x2⟩ := x
      have hne : x0 ≠ x1 := g.ne
      have hc1 : x2 ≤ 100 := g.c1
      have hb' : ∀ o, Below w.heap.size w (wr.alloc o) := fun o => hb.alloc hb.size o
      have HB : Hid _ := hb'
      clear hb' g hs HW HG HF HI HS hR
      simp only at f
      have d1 : ∀ o, (wr.alloc o).cell? ⟨b2, off2 + k, none⟩ = some (.int .i64 y) := fun o => by rw [World.cell?_alloc_lt _ _ _ hlt2]; exact d0
      by_cases hx : x0 = n
      · rw [FL.sg_from hx] at HE w2
        subst hx
        have hne' : x1 ≠ x0 := fun e => hne e.symm
        go_wp2
        go_roundw
        case rel => exact ⟨k + 1, by go_num, by omega, ⟨_, by go_num, HE⟩, HB.out _⟩
        case measure => simp [intOf]; omega
      · by_cases hy : x1 = n
        · rw [FL.sg_to hx hy] at HE w2
          subst hy
          go_wp2
          go_roundw
          case rel => exact ⟨k + 1, by go_num, by omega, ⟨_, by go_num, HE⟩, HB.out _⟩
          case measure => simp [intOf]; omega
        · rw [FL.sg_no hx hy, Int.add_zero] at HE
          have hx' : n ≠ x0 := fun e => hx e.symm
          have hy' : n ≠ x1 := fun e => hy e.symm
          go_wp2
          go_roundw
          case rel => exact ⟨k + 1, by go_num, by omega, ⟨_, rfl, HE⟩, HB.out _⟩
          case measure => simp [intOf]; omega
    · obtain rfl : k = xs.length := by omega
      have hF : Hid (s = R) := by show s = R; rw [← hs.out, ← hR.out]
      clear hs HW HG HF HI HS hR HL
      go_wp2
      go_ret
      exact ⟨retI7 hF.out, hb⟩
end Go.Proofs.Ytpabhjnpbnabiaa
