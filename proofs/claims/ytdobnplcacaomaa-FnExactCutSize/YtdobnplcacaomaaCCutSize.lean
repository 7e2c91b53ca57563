/- CutSize of the program and of the specification. -/
import Derived.Test.YtdobnplcacaomaaRows
import Derived.Test.YtdobnplcacaomaaCOutOf
import Derived.Test.YtdobnplcacaomaaCPipes
import Derived.Test.YtdobnplcacaomaaCRise
import Derived.WalkKit
import Derived.WalkSpells
import Derived.WalkLawsBesides
import Derived.Outline
namespace Go.Proofs.Ytdobnplcacaomaa
open Go.RowKit
namespace FL
noncomputable def szOk (xs : List I3) (zs : List Int) : Bool := okP xs && EG.rises 8 zs
noncomputable def szN (xs : List I3) (zs : List Int) : Int := if szOk xs zs = true then capUp xs zs xs.length else 0
end FL
set_option linter.unusedSimpArgs false in
set_option maxHeartbeats 1600000 in
set_option maxRecDepth 100000 in
theorem implCutSize_any (a b : Option Addr) (cap cb : Nat) (xs : List I3) (zs : List Int) (w : World) (hn0 : xs.length ≤ 1048576) (hz : zs.length ≤ 1048576) (hin : MI3.RowAt w a xs) (hos : M4.IntsAt w b zs) :
    Calls Try.prog 20 #[.slice a xs.length cap, .slice b zs.length cb] w fun e w' => e = .returned (.tuple #[.int .i64 (FL.szN xs zs), .bool (FL.szOk xs zs)]) ∧ Below w.heap.size w w' := by
  have GP : Hid _ := implGoodPipes_any a cap xs w hn0 hin _ rfl
  have SP : Hid (∀ W : World, M4.IntsAt W b zs → Calls Try.prog 49 #[.slice b zs.length cb, .int .i64 7] W fun e w' => e = .returned (.bool (EG.rises 8 zs)) ∧ W = w') := fun W h => areRising_any b cb 8 zs W (by omega) hz h _ rfl
  have HI : Hid (MI3.RowAt w a xs) := hin
  have HS : Hid (M4.IntsAt w b zs) := hos
  clear hin hos
  obtain ⟨ok, hok⟩ : ∃ ok, FL.szOk xs zs = ok := ⟨_, rfl⟩
  obtain ⟨N, hN⟩ : ∃ N, FL.szN xs zs = N := ⟨_, rfl⟩
  rw [hok, hN]
  have HK : Hid _ := hok
  have HN : Hid _ := hN
  clear hok hN
  go_enter Try.func20, Try.ntmps20
  go_wp2_with fail
  refine Calls.mono GP.out ?_
  rintro e w0 ⟨rfl, hb0⟩
  clear GP
  cases hg : FL.okP xs with
  | false =>
    have hF : Hid (ok = false) := by show _ = _; rw [← HK.out]; simp [FL.szOk, hg]
    have hF2 : Hid (N = 0) := by show _ = _; rw [← HN.out]; simp [FL.szN, FL.szOk, hg]
    clear hg HK HN SP HI HS
    go_wp2
    go_ret2
    exact ⟨by rw [hF.out, hF2.out]; rfl, hb0⟩
  | true =>
    go_wp2_with fail
    refine (SP.out _ (M4.IntsAt.below HS.out hb0)).mono ?_
    rintro e w1 ⟨rfl, hb1⟩
    subst hb1
    have hB1 := hb0
    clear SP
    cases hr : EG.rises 8 zs with
    | false =>
      have hF : Hid (ok = false) := by show _ = _; rw [← HK.out]; simp [FL.szOk, hg, hr]
      have hF2 : Hid (N = 0) := by show _ = _; rw [← HN.out]; simp [FL.szN, FL.szOk, hg, hr]
      clear hg hr HK HN HI HS
      go_wp2
      go_ret2
      exact ⟨by rw [hF.out, hF2.out]; rfl, hB1⟩
    | true =>
      have hF : Hid (ok = true) := by show _ = _; rw [← HK.out]; simp [FL.szOk, hg, hr]
      have hF2 : Hid (FL.capUp xs zs xs.length = N) := by show _ = _; rw [← HN.out]; simp [FL.szN, FL.szOk, hg, hr]
      have CP : Hid _ := capsOutOf_any a b cap cb xs zs _ hg hz (HI.out.below hB1) (M4.IntsAt.below HS.out hB1) N hF2
      clear hg hr HK HN HI HS hF2
      go_wp2_with fail
      refine Calls.mono CP.out ?_
      rintro e w2 ⟨rfl, hb2⟩
      clear CP
      go_wp2
      go_ret2
      exact ⟨by rw [hF.out]; rfl, hB1.trans (hb2.mono hB1.size)⟩
set_option linter.unusedSimpArgs false in
set_option maxHeartbeats 1600000 in
set_option maxRecDepth 100000 in
theorem specCutSize_any (a b : Option Addr) (cap cb : Nat) (xs : List I3) (zs : List Int) (w : World) (hn0 : xs.length ≤ 1048576) (hz : zs.length ≤ 1048576) (hin : MI3.RowAt w a xs) (hos : M4.IntsAt w b zs) :
    Calls Try.prog 18 #[.slice a xs.length cap, .slice b zs.length cb] w fun e w' => e = .returned (.tuple #[.int .i64 (FL.szN xs zs), .bool (FL.szOk xs zs)]) ∧ Below w.heap.size w w' := by
  have GP : Hid _ := specGoodPipes_any a cap xs w hn0 hin _ rfl
  have SP : Hid (∀ W : World, M4.IntsAt W b zs → Calls Try.prog 47 #[.slice b zs.length cb, .int .i64 8] W fun e w' => e = .returned (.bool (EG.rises 8 zs)) ∧ Below W.heap.size W w') := fun W h => l1Some_any b cb 8 zs W (by omega) hz h _ rfl
  have HI : Hid (MI3.RowAt w a xs) := hin
  have HS : Hid (M4.IntsAt w b zs) := hos
  clear hin hos
  obtain ⟨ok, hok⟩ : ∃ ok, FL.szOk xs zs = ok := ⟨_, rfl⟩
  obtain ⟨N, hN⟩ : ∃ N, FL.szN xs zs = N := ⟨_, rfl⟩
  rw [hok, hN]
  have HK : Hid _ := hok
  have HN : Hid _ := hN
  clear hok hN
  go_enter Try.func18, Try.ntmps18
  go_wp2_with fail
  refine Calls.mono GP.out ?_
  rintro e w0 ⟨rfl, hb0⟩
  clear GP
  cases hg : FL.okP xs with
  | false =>
    have hF : Hid (ok = false) := by show _ = _; rw [← HK.out]; simp [FL.szOk, hg]
    have hF2 : Hid (N = 0) := by show _ = _; rw [← HN.out]; simp [FL.szN, FL.szOk, hg]
    clear hg HK HN SP HI HS
    go_wp2
    go_ret2
    exact ⟨by rw [hF.out, hF2.out]; rfl, hb0⟩
  | true =>
    go_wp2_with fail
    refine (SP.out _ (M4.IntsAt.below HS.out hb0)).mono ?_
    rintro e w1 ⟨rfl, hb1⟩
    have hB1 := hb0.trans (hb1.mono hb0.size)
    clear hb0 hb1
    clear SP
    cases hr : EG.rises 8 zs with
    | false =>
      have hF : Hid (ok = false) := by show _ = _; rw [← HK.out]; simp [FL.szOk, hg, hr]
      have hF2 : Hid (N = 0) := by show _ = _; rw [← HN.out]; simp [FL.szN, FL.szOk, hg, hr]
      clear hg hr HK HN HI HS
      go_wp2
      go_ret2
      exact ⟨by rw [hF.out, hF2.out]; rfl, hB1⟩
    | true =>
      have hF : Hid (ok = true) := by show _ = _; rw [← HK.out]; simp [FL.szOk, hg, hr]
      have hF2 : Hid (FL.capUp xs zs xs.length = N) := by show _ = _; rw [← HN.out]; simp [FL.szN, FL.szOk, hg, hr]
      have CP : Hid _ := l8Cut_any a b cap cb xs zs _ hg hz (HI.out.below hB1) (M4.IntsAt.below HS.out hB1) N hF2
      clear hg hr HK HN HI HS hF2
      go_wp2_with fail
      refine Calls.mono CP.out ?_
      rintro e w2 ⟨rfl, hb2⟩
      clear CP
      go_wp2
      go_ret2
      exact ⟨by rw [hF.out]; rfl, hB1.trans (hb2.mono hB1.size)⟩
end Go.Proofs.Ytdobnplcacaomaa
