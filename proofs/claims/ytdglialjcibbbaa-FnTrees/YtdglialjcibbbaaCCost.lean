/- What edges cost together. -/
import Derived.Test.YtdglialjcibbbaaRows
import Derived.Test.YtdglialjcibbbaaMIR
import Derived.Test.YtdglialjcibbbaaM5
import Derived.WalkKit
import Derived.WalkSpells
import Derived.WalkLawsBesides
import Derived.Outline
namespace Go.Proofs.Ytdglialjcibbbaa
open Go.RowKit
namespace EG
def sumUp (xs : List I3) (os : List Int) : Nat → Int
  | 0 => 0
  | k + 1 => sumUp xs os k + (ofN xs (os.getD k 0)).a2
theorem sum_bound {xs : List I3} {os : List Int} (hg : okP xs = true) (hR : InR xs os) : ∀ k, k ≤ os.length → 0 ≤ sumUp xs os k ∧ sumUp xs os k ≤ 1000 * k
  | 0, _ => by simp [sumUp]
  | k + 1, hk => by
    have ih := sum_bound hg hR k (by omega)
    have h := hR.is k (by omega)
    have G := okP_good hg (k := (os.getD k 0).toNat) (by omega)
    have := G.c0; have := G.c1
    show 0 ≤ sumUp xs os k + (MI3.at_ xs (os.getD k 0).toNat).a2 ∧ sumUp xs os k + (MI3.at_ xs (os.getD k 0).toNat).a2 ≤ 1000 * ((k + 1 : Nat) : Int)
    omega
end EG
set_option linter.unusedSimpArgs false in
set_option maxHeartbeats 1600000 in
set_option maxRecDepth 100000 in
theorem costOf_any (a b : Option Addr) (ca cb : Nat) (xs : List I3) (os : List Int) (w : World) (hg : EG.okP xs = true) (ho : os.length ≤ 1000) (hR : EG.InR xs os) (hin : MI3.RowAt w a xs) (hos : M4.IntsAt w b os) :
    Calls Try.prog 35 #[.slice a xs.length ca, .slice b os.length cb] w fun e w' => e = .returned (.int .i64 (EG.sumUp xs os os.length)) ∧ Below w.heap.size w w' := by
  have HI : Hid (MI3.RowAt w a xs) := hin
  have HS : Hid (M4.IntsAt w b os) := hos
  have HG : Hid _ := hg
  have hlen := ((EG.okP_iff xs).1 hg).1
  clear hin hos hg
  go_enter Try.func35, Try.ntmps35
  go_wp2
  go_loopw [5, 10] (fun sv iv wr => ∃ k : Nat, sv = .int .i64 (EG.sumUp xs os k) ∧ iv = .int .i64 k ∧ k ≤ os.length ∧ Below w.heap.size w wr) (fun _ iv _ => (os.length - intOf iv).toNat)
  case atStart => exact ⟨0, rfl, rfl, by omega, Below.refl _ _⟩
  case round =>
    obtain ⟨k, rfl, rfl, hk, hb⟩ := hrel
    by_cases hlk : k < os.length
    · obtain ⟨b1, off1, hbb, hlt1, hc1⟩ := M4.IntsAt.at (HS.out.below hb) hlk
      obtain ⟨h0, h1⟩ := hR.is k hlk
      obtain ⟨i, hio⟩ := Int.eq_ofNat_of_zero_le h0
      have hil : i < xs.length := by omega
      obtain ⟨b2, off2, hab, hlt2, _, _, c2⟩ := (HI.out.below hb).at hil
      have G := EG.okP_good HG.out hil
      have g0 := G.c0
      have g1 := G.c1
      have hb0 := EG.sum_bound HG.out hR k hk
      have HE : Hid (EG.sumUp xs os (k + 1) = EG.sumUp xs os k + (MI3.at_ xs i).a2) := by show EG.sumUp xs os k + (EG.ofN xs (os.getD k 0)).a2 = _; rw [hio]; rfl
      rw [hio] at hc1
      clear h0 h1 G hio HI HS HG hR
      subst hbb
      subst hab
      generalize (MI3.at_ xs i).a2 = z at *
      generalize EG.sumUp xs os k = sm at *
      go_wp2
      go_roundw
      case rel => exact ⟨k + 1, by rw [HE.out], by go_num, by omega, hb⟩
      case measure => simp [intOf]; omega
    · obtain rfl : k = os.length := by omega
      clear HI HS HG hR
      go_wp2
      go_ret
      exact ⟨rfl, hb⟩
set_option linter.unusedSimpArgs false in
set_option maxHeartbeats 1600000 in
set_option maxRecDepth 100000 in
theorem l7Cost_any (a b : Option Addr) (ca cb : Nat) (xs : List I3) (os : List Int) (w : World) (hg : EG.okP xs = true) (ho : os.length ≤ 1000) (hR : EG.InR xs os) (hin : MI3.RowAt w a xs) (hos : M4.IntsAt w b os) :
    Calls Try.prog 49 #[.slice a xs.length ca, .slice b os.length cb] w fun e w' => e = .returned (.int .i64 (EG.sumUp xs os os.length)) ∧ Below w.heap.size w w' := by
  have HI : Hid (MI3.RowAt w a xs) := hin
  have HS : Hid (M4.IntsAt w b os) := hos
  have HG : Hid _ := hg
  have hlen := ((EG.okP_iff xs).1 hg).1
  clear hin hos hg
  go_enter Try.func49, Try.ntmps49
  go_wp2
  go_loopw [5, 10] (fun sv iv wr => ∃ k : Nat, sv = .int .i64 (EG.sumUp xs os k) ∧ iv = .int .i64 k ∧ k ≤ os.length ∧ Below w.heap.size w wr) (fun _ iv _ => (os.length - intOf iv).toNat)
  case atStart => exact ⟨0, rfl, rfl, by omega, Below.refl _ _⟩
  case round =>
    obtain ⟨k, rfl, rfl, hk, hb⟩ := hrel
    by_cases hlk : k < os.length
    · obtain ⟨b1, off1, hbb, hlt1, hc1⟩ := M4.IntsAt.at (HS.out.below hb) hlk
      obtain ⟨h0, h1⟩ := hR.is k hlk
      obtain ⟨i, hio⟩ := Int.eq_ofNat_of_zero_le h0
      have hil : i < xs.length := by omega
      obtain ⟨b2, off2, hab, hlt2, _, _, c2⟩ := (HI.out.below hb).at hil
      have G := EG.okP_good HG.out hil
      have g0 := G.c0
      have g1 := G.c1
      have hb0 := EG.sum_bound HG.out hR k hk
      have HE : Hid (EG.sumUp xs os (k + 1) = EG.sumUp xs os k + (MI3.at_ xs i).a2) := by show EG.sumUp xs os k + (EG.ofN xs (os.getD k 0)).a2 = _; rw [hio]; rfl
      rw [hio] at hc1
      clear h0 h1 G hio HI HS HG hR
      subst hbb
      subst hab
      generalize (MI3.at_ xs i).a2 = z at *
      generalize EG.sumUp xs os k = sm at *
      go_wp2
      go_roundw
      case rel => exact ⟨k + 1, by rw [HE.out], by go_num, by omega, hb⟩
      case measure => simp [intOf]; omega
    · obtain rfl : k = os.length := by omega
      clear HI HS HG hR
      go_wp2
      go_ret
      exact ⟨rfl, hb⟩
end Go.Proofs.Ytdglialjcibbbaa
