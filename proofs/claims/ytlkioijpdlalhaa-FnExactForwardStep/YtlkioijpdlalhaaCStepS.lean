/- ForwardStep, the specification's. -/
import Derived.Test.YtlkioijpdlalhaaRows
import Derived.Test.YtlkioijpdlalhaaMStep
import Derived.Test.YtlkioijpdlalhaaMOne
import Derived.Test.YtlkioijpdlalhaaCFits
import Derived.Test.YtlkioijpdlalhaaCRouteS
import Derived.Test.YtlkioijpdlalhaaCArrO
import Derived.WalkKit
import Derived.WalkSpells
import Derived.WalkLawsBesides
import Derived.Outline
namespace Go.Proofs.Ytlkioijpdlalhaa
open Go.RowKit
set_option linter.unusedSimpArgs false in
set_option maxHeartbeats 1600000 in
set_option maxRecDepth 100000 in
theorem stepS_any (a : Option Addr) (cap : Nat) (xs : List I5) (b : Bd) (f n t : Int) (w : World) (hn : xs.length ≤ 1048576) (hs : b.py.size ≤ 1048576) (hin : MI5.RowAt w a xs) :
    Calls Try.prog 7 #[.slice a xs.length cap, b.v, .int .i64 f, .int .i64 n, .int .i64 t] w fun e w' => e = .returned (.tuple #[.int .i64 (GP.stepK xs b f n t), .int .i64 (GP.stepT xs b f n t), .bool (GP.stepOk xs b f n t)]) ∧ Below w.heap.size w w' := by
  have P1 : Hid (∀ W : World, Below w.heap.size w W → Calls Try.prog 18 #[.slice a xs.length cap, b.v] W fun e w' => e = .returned (.bool (GP.fitsB xs b)) ∧ Below W.heap.size W w') := fun W h => fitsS_any a cap xs b W hn hs (hin.below h)
  have P2 : Hid (∀ W : World, Below w.heap.size w W → Calls Try.prog 19 #[.slice a xs.length cap, .int .i64 f, .int .i64 n, .int .i64 t] W fun e w' => ∃ a1 c1, e = .returned (.tuple #[.slice a1 (PN.routeL xs f n t).length c1, .int .i64 (PN.tellN (PN.routeM xs f n t)), .bool (PN.tellB (PN.routeM xs f n t))]) ∧ w'.ownsRow W.heap.size 3 1 (.slice a1 (PN.routeL xs f n t).length c1) (PN.routeL xs f n t).length (M4.iv (PN.routeL xs f n t)) ∧ Below W.heap.size W w') := fun W h => specRoute_any a cap xs f n t W hn (hin.below h)
  have P3 : Hid (PN.tellB (PN.routeM xs f n t) = true → PN.routeL xs f n t ≠ [] → ∃ i : Nat, (PN.routeL xs f n t).getD 0 0 = (i : Int) ∧ i < xs.length ∧ (∀ W : World, Calls Try.prog 20 #[(MI5.at_ xs i).v, .int .i64 n] W fun e w' => e = .returned (.int .i64 (PN.ov (PN.ofN xs ((PN.routeL xs f n t).getD 0 0)) n)) ∧ Below W.heap.size W w')) := fun h1 h2 => by
    obtain ⟨q1, q2, ⟨q3, q4⟩, q5, q6, q7⟩ := GP.first_of h1 h2
    obtain ⟨hok, f0, f1, n0, n1⟩ := PN.start_is q1
    obtain ⟨i, hi⟩ := Int.eq_ofNat_of_zero_le q3
    have hil : i < xs.length := by omega
    refine ⟨i, hi, hil, fun W => ?_⟩
    rw [hi]
    exact l6Over_any _ n W (PN.okP_good hok hil) n0 (by omega)
  have HROW : Hid (MI5.RowAt w a xs) := hin
  have P4 : Hid (GP.fitsB xs b = true → (0 ≤ b.md ∧ b.md ≤ 1000) ∧ (1 ≤ b.lf ∧ b.lf ≤ 1000000)) := fun h => by
    obtain ⟨_, _, _, _, h1, h2, _⟩ := GP.fits_is h
    exact ⟨h1, h2⟩
  have HS : Hid (GP.stepOk xs b f n t = (GP.fitsB xs b && PN.tellB (PN.routeM xs f n t) && decide (PN.routeL xs f n t ≠ []) && decide (PN.ov (PN.ofN xs ((PN.routeL xs f n t).getD 0 0)) n ≤ b.md + b.lf))) := show GP.stepOk xs b f n t = _ from rfl
  have NO : Hid (GP.stepOk xs b f n t = false → GP.stepK xs b f n t = 0 ∧ GP.stepT xs b f n t = 0) := fun h => GP.step_no h
  have YES : Hid (GP.stepOk xs b f n t = true → GP.stepK xs b f n t = (PN.routeL xs f n t).getD 0 0 ∧ GP.stepT xs b f n t = PN.ov (PN.ofN xs ((PN.routeL xs f n t).getD 0 0)) n) := fun h => GP.step_yes h
  have hA := BdAt.box w b 31
  have hB := (Below.refl _ w).alloc (Nat.le_refl _) (.cells #[.int .i64 b.fr, .int .i64 b.to, .bool b.gr, .int .i64 b.md, .int .i64 b.no, .int .i64 b.lf, .int .i64 b.hp, .int .i64 b.of, .int .i64 b.tl, .string b.py] 31)
  clear hin
  generalize GP.stepOk xs b f n t = R at *
  generalize GP.stepK xs b f n t = RK at *
  generalize GP.stepT xs b f n t = RT at *
  generalize PN.ov (PN.ofN xs ((PN.routeL xs f n t).getD 0 0)) n = u at *
  generalize GP.fitsB xs b = q1 at *
  generalize PN.tellB (PN.routeM xs f n t) = T at *
  generalize PN.tellN (PN.routeM xs f n t) = N at *
  generalize PN.routeL xs f n t = L at *
  obtain ⟨fr, to, gr, md, no, lf, hp, of, tl, py⟩ := b
  obtain ⟨hlt, c0, c1, c2, c3, c4, c5, c6, c7, c8, c9⟩ := id hA
  go_enter Try.func7, Try.ntmps7
  go_wp2_with fail
  refine (P1.out _ hB).mono ?_
  rintro e w1 ⟨rfl, hb1⟩
  clear c0 c1 c2 c3 c4 c5 c6 c7 c8 c9 hlt P1
  have hA1 := hA.below hb1 hA.1
  have hB1 := hB.trans (hb1.mono hB.size)
  clear hb1 hA hB
  cases q1 with
  | false =>
    have hR : R = false := HS.out
    obtain ⟨rfl, rfl⟩ := NO.out hR
    subst hR
    clear P2 P3 P4 HS NO YES hA1 HROW
    go_wp2
    go_ret3
    exact ⟨rfl, hB1⟩
  | true =>
    go_wp2_with fail
    refine (P2.out _ hB1).mono ?_
    rintro e w2 ⟨a2, c2, rfl, ho, hb2⟩
    have HO : Hid _ := ho
    clear P2 ho
    have hA2 := hA1.below hb2 hA1.1
    have hB2 := hB1.trans (hb2.mono hB1.size)
    clear hb2 hA1 hB1
    cases T with
    | false =>
      have hR : R = false := HS.out
      obtain ⟨rfl, rfl⟩ := NO.out hR
      subst hR
      clear P3 P4 HS NO YES hA2 HO HROW
      go_wp2
      go_ret3
      exact ⟨rfl, hB2⟩
    | true =>
      by_cases hL : L = []
      · subst hL
        have hR : R = false := HS.out
        obtain ⟨rfl, rfl⟩ := NO.out hR
        subst hR
        clear P3 P4 HS NO YES hA2 HO HROW
        go_wp2
        go_ret3
        exact ⟨rfl, hB2⟩
      · have hl0 : 0 < L.length := List.length_pos_iff.2 hL
        obtain ⟨i, hki, hil, hov⟩ := P3.out (by first | rfl | trivial) hL
        have P3' : Hid _ := hov
        obtain ⟨⟨hm0, hm1⟩, hf0, hf1⟩ := P4.out (by first | rfl | trivial)
        have HS' : Hid (R = decide (u ≤ md + lf)) := by show R = _; rw [HS.out]; simp [hL]
        obtain ⟨b4, off4, rfl, hlt4, e0, e1, e2, e3, e4⟩ := (HROW.out.below hB2).at hil
        clear P3 P4 HS hL HROW hov
        obtain ⟨g, c, hsl, hcap⟩ : ∃ g c, Value.slice a2 L.length c2 = .slice (some ⟨g, 0, none⟩) L.length c ∧ L.length ≤ c ∧ c ≤ maxLen := by
          rcases HO.out.2 with ⟨h1, h2⟩ | ⟨g, c, cur, hv, _, _, h1, h2, _⟩
          · exact absurd h2 (by omega)
          · exact ⟨g, c, hv, h1, h2⟩
        cases hsl
        obtain ⟨hi1, hc1, hg1⟩ := GP.ints_one (M5.own_ints HO.out) hl0
        have HI1 : Hid _ := hi1
        have HC1 : Hid _ := hc1
        clear HO hi1 hc1
        rw [hki] at HC1 YES
        clear HI1 hki
        generalize hln : L.length = ln at *
        clear hln
        have h0 : (ln == 0) = false := by simp; omega
        obtain ⟨hlt, c0, c1, c2_, c3, c4, c5, c6, c7, c8, c9⟩ := id hA2
        clear c0 c1 c2_ c4 c6 c7 c8 c9
        have hc1 := HC1.out
        generalize hcc : MI5.at_ xs i = cc at *
        clear hcc
        obtain ⟨x0, x1, x2, x3, x4⟩ := cc
        clear c3 c5 hlt
        go_wp2_with fail
        refine (P3'.out _).mono ?_
        rintro e w3 ⟨rfl, hb3⟩
        clear P3' e0 e1 e2 e3 e4
        have hc4 : w3.cell? ⟨g, 0, none⟩ = some (.int .i64 (i : Int)) := (hb3.cell (p := ⟨g, 0, none⟩) hg1).trans HC1.out
        have hg4 := Nat.lt_of_lt_of_le hg1 hb3.size
        have hA3 := hA2.below hb3 hA2.1
        have hB3 := hB2.trans (hb3.mono hB2.size)
        clear hb3 hA2 hB2 HC1 hc1 hg1
        obtain ⟨hlt, c0, c1, c2_, c3, c4, c5, c6, c7, c8, c9⟩ := id hA3
        clear c0 c1 c2_ c4 c6 c7 c8 c9 hA3
        by_cases hu : u ≤ md + lf
        · have hR : R = true := by rw [HS'.out]; simp [hu]
          obtain ⟨hk, hT⟩ := YES.out hR
          have hd : decide (md + lf < u) = false := by simp; omega
          subst hR
          subst hT
          subst hk
          clear NO YES HS'
          go_wp2
          go_ret3
          exact ⟨rfl, hB3⟩
        · have hR : R = false := by rw [HS'.out]; simp; omega
          have hd : decide (md + lf < u) = true := by simp; omega
          obtain ⟨rfl, rfl⟩ := NO.out hR
          subst hR
          clear NO YES HS'
          go_wp2
          go_ret3
          exact ⟨rfl, hB3⟩
end Go.Proofs.Ytlkioijpdlalhaa
