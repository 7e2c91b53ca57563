/- ForwardStep, the program's. -/
import Derived.Test.YtlkioijpdlalhaaRows
import Derived.Test.YtlkioijpdlalhaaMStep
import Derived.Test.YtlkioijpdlalhaaMOne
import Derived.Test.YtlkioijpdlalhaaCFits
import Derived.Test.YtlkioijpdlalhaaCRouteI
import Derived.Test.YtlkioijpdlalhaaCArrI
import Derived.WalkKit
import Derived.WalkSpells
import Derived.WalkLawsBesides
import Derived.Outline
namespace Go.Proofs.Ytlkioijpdlalhaa
open Go.RowKit
set_option linter.unusedSimpArgs false in
set_option maxHeartbeats 1600000 in
set_option maxRecDepth 100000 in
theorem stepI_any (a : Option Addr) (cap : Nat) (xs : List I5) (b : Bd) (f n t : Int) (w : World) (hn : xs.length ≤ 1048576) (hs : b.py.size ≤ 1048576) (hin : MI5.RowAt w a xs) :
    Calls Try.prog 10 #[.slice a xs.length cap, b.v, .int .i64 f, .int .i64 n, .int .i64 t] w fun e w' => e = .returned (.tuple #[.int .i64 (GP.stepK xs b f n t), .int .i64 (GP.stepT xs b f n t), .bool (GP.stepOk xs b f n t)]) ∧ Below w.heap.size w w' := by
  have P1 : Hid (∀ W : World, Below w.heap.size w W → Calls Try.prog 22 #[.slice a xs.length cap, b.v] W fun e w' => e = .returned (.bool (GP.fitsB xs b)) ∧ Below W.heap.size W w') := fun W h => fitsI_any a cap xs b W hn hs (hin.below h)
  have P2 : Hid (∀ W : World, Below w.heap.size w W → Calls Try.prog 23 #[.slice a xs.length cap, .int .i64 f, .int .i64 n, .int .i64 t] W fun e w' => ∃ a1 c1, e = .returned (.tuple #[.slice a1 (PN.routeL xs f n t).length c1, .int .i64 (PN.tellN (PN.routeM xs f n t)), .bool (PN.tellB (PN.routeM xs f n t))]) ∧ w'.ownsRow W.heap.size 3 1 (.slice a1 (PN.routeL xs f n t).length c1) (PN.routeL xs f n t).length (M4.iv (PN.routeL xs f n t)) ∧ Below W.heap.size W w') := fun W h => implRoute_any a cap xs f n t W hn (hin.below h)
  have P3 : Hid (PN.tellB (PN.routeM xs f n t) = true → PN.routeL xs f n t ≠ [] → ∀ (W : World) (g c : Nat), Below w.heap.size w W → M4.IntsAt W (some ⟨g, 0, none⟩) [(PN.routeL xs f n t).getD 0 0] → Calls Try.prog 24 #[.slice a xs.length cap, .int .i64 f, .int .i64 n, .slice (some ⟨g, 0, none⟩) 1 c] W fun e w' => e = .returned (.tuple #[.int .i64 (PN.ov (PN.ofN xs ((PN.routeL xs f n t).getD 0 0)) n), .bool true]) ∧ Below W.heap.size W w') := fun h1 h2 W g c hb hi => by
    have h := implArrive_any a (some ⟨g, 0, none⟩) cap c xs f n [(PN.routeL xs f n t).getD 0 0] W hn (by simp) (hin.below hb) hi
    rw [(GP.first_of h1 h2).2.2.2.2.2] at h
    exact h
  have P4 : Hid (GP.fitsB xs b = true → ∀ W : World, Calls Try.prog 25 #[b.v] W fun e w' => e = .returned (.int .i64 (b.md + b.lf)) ∧ Below W.heap.size W w') := fun h W => by
    obtain ⟨_, _, _, _, h1, h2, _⟩ := GP.fits_is h
    exact lastTime_any b W h1 h2
  have HS : Hid (GP.stepOk xs b f n t = (GP.fitsB xs b && PN.tellB (PN.routeM xs f n t) && decide (PN.routeL xs f n t ≠ []) && decide (PN.ov (PN.ofN xs ((PN.routeL xs f n t).getD 0 0)) n ≤ b.md + b.lf))) := show GP.stepOk xs b f n t = _ from rfl
  have NO : Hid (GP.stepOk xs b f n t = false → GP.stepK xs b f n t = 0 ∧ GP.stepT xs b f n t = 0) := fun h => GP.step_no h
  have YES : Hid (GP.stepOk xs b f n t = true → GP.stepK xs b f n t = (PN.routeL xs f n t).getD 0 0 ∧ GP.stepT xs b f n t = PN.ov (PN.ofN xs ((PN.routeL xs f n t).getD 0 0)) n) := fun h => GP.step_yes h
  have hA := BdAt.box w b 31
  have hB := (Below.refl _ w).alloc (Nat.le_refl _) (.cells #[.int .i64 b.fr, .int .i64 b.to, .bool b.gr, .int .i64 b.md, .int .i64 b.no, .int .i64 b.lf, .int .i64 b.hp, .int .i64 b.of, .int .i64 b.tl, .string b.py] 31)
  clear hin
  generalize GP.stepOk xs b f n t = R at *
  generalize GP.stepK xs b f n t = RK at *
  generalize GP.stepT xs b f n t = RT at *
  generalize PN.ov (PN.ofN xs ((PN.routeL xs f n t).getD 0 0)) n = u at *
  generalize GP.fitsB xs b = q1 at *
  generalize PN.tellB (PN.routeM xs f n t) = T at *
  generalize PN.tellN (PN.routeM xs f n t) = N at *
  generalize PN.routeL xs f n t = L at *
  generalize hml : b.md + b.lf = ml at *
  generalize xs.length = m at *
  obtain ⟨fr, to, gr, md, no, lf, hp, of, tl, py⟩ := b
  obtain ⟨hlt, c0, c1, c2, c3, c4, c5, c6, c7, c8, c9⟩ := id hA
  clear hml
  go_enter Try.func10, Try.ntmps10
  go_wp2_with fail
  refine (P1.out _ hB).mono ?_
  rintro e w1 ⟨rfl, hb1⟩
  clear c0 c1 c2 c3 c4 c5 c6 c7 c8 c9 hlt P1
  have hA1 := hA.below hb1 hA.1
  have hB1 := hB.trans (hb1.mono hB.size)
  clear hb1 hA hB
  cases q1 with
  | false =>
    have hR : R = false := HS.out
    obtain ⟨rfl, rfl⟩ := NO.out hR
    subst hR
    clear P2 P3 P4 HS NO YES hA1
    go_wp2
    go_ret3
    exact ⟨rfl, hB1⟩
  | true =>
    go_wp2_with fail
    refine (P2.out _ hB1).mono ?_
    rintro e w2 ⟨a2, c2, rfl, ho, hb2⟩
    have HO : Hid _ := ho
    clear P2 ho
    have hA2 := hA1.below hb2 hA1.1
    have hB2 := hB1.trans (hb2.mono hB1.size)
    clear hb2 hA1 hB1
    cases T with
    | false =>
      have hR : R = false := HS.out
      obtain ⟨rfl, rfl⟩ := NO.out hR
      subst hR
      clear P3 P4 HS NO YES hA2 HO
      go_wp2
      go_ret3
      exact ⟨rfl, hB2⟩
    | true =>
      by_cases hL : L = []
      · subst hL
        have hR : R = false := HS.out
        obtain ⟨rfl, rfl⟩ := NO.out hR
        subst hR
        clear P3 P4 HS NO YES hA2 HO
        go_wp2
        go_ret3
        exact ⟨rfl, hB2⟩
      · have hl0 : 0 < L.length := List.length_pos_iff.2 hL
        have P3' : Hid _ := P3.out (by first | rfl | trivial) hL
        have P4' : Hid _ := P4.out (by first | rfl | trivial)
        have HS' : Hid (R = decide (u ≤ ml)) := by show R = _; rw [HS.out]; simp [hL]
        clear P3 P4 HS hL
        obtain ⟨g, c, hsl, hcap⟩ : ∃ g c, Value.slice a2 L.length c2 = .slice (some ⟨g, 0, none⟩) L.length c ∧ L.length ≤ c ∧ c ≤ maxLen := by
          rcases HO.out.2 with ⟨h1, h2⟩ | ⟨g, c, cur, hv, _, _, h1, h2, _⟩
          · exact absurd h2 (by omega)
          · exact ⟨g, c, hv, h1, h2⟩
        cases hsl
        obtain ⟨hi1, hc1, hg1⟩ := GP.ints_one (M5.own_ints HO.out) hl0
        have HI1 : Hid _ := hi1
        have HC1 : Hid _ := hc1
        clear HO hi1 hc1
        generalize L.getD 0 0 = k at *
        generalize hln : L.length = ln at *
        clear hln
        have h1c : 1 ≤ c2 := by omega
        have h0 : (ln == 0) = false := by simp; omega
        obtain ⟨hlt, c0, c1, c2_, c3, c4, c5, c6, c7, c8, c9⟩ := id hA2
        clear c0 c1 c2_ c3 c4 c5 c6 c7 c8 c9 hlt
        go_wp2_with fail
        refine (P3'.out _ g _ hB2 HI1.out).mono ?_
        rintro e w3 ⟨rfl, hb3⟩
        clear P3' HI1
        have HC3 : Hid (w3.cell? ⟨g, 0, none⟩ = some (.int .i64 k)) := (hb3.cell (p := ⟨g, 0, none⟩) hg1).trans HC1.out
        have hg3 := Nat.lt_of_lt_of_le hg1 hb3.size
        have hA3 := hA2.below hb3 hA2.1
        have hB3 := hB2.trans (hb3.mono hB2.size)
        clear hb3 hA2 hB2 HC1 hg1
        obtain ⟨hlt, c0, c1, c2_, c3, c4, c5, c6, c7, c8, c9⟩ := id hA3
        go_wp2_with fail
        refine (P4'.out _).mono ?_
        rintro e w4 ⟨rfl, hb4⟩
        clear c0 c1 c2_ c3 c4 c5 c6 c7 c8 c9 hlt P4'
        have hc4 : w4.cell? ⟨g, 0, none⟩ = some (.int .i64 k) := (hb4.cell (p := ⟨g, 0, none⟩) hg3).trans HC3.out
        have hg4 := Nat.lt_of_lt_of_le hg3 hb4.size
        have hB4 := hB3.trans (hb4.mono hB3.size)
        clear hb4 hA3 hB3 HC3
        by_cases hu : u ≤ ml
        · have hR : R = true := by rw [HS'.out]; simp [hu]
          obtain ⟨hk, hT⟩ := YES.out hR
          have hd : decide (ml < u) = false := by simp; omega
          subst hR
          subst hk hT
          clear NO YES HS'
          go_wp2
          go_ret3
          exact ⟨rfl, hB4⟩
        · have hR : R = false := by rw [HS'.out]; simp; omega
          have hd : decide (ml < u) = true := by simp; omega
          obtain ⟨rfl, rfl⟩ := NO.out hR
          subst hR
          clear NO YES HS'
          go_wp2
          go_ret3
          exact ⟨rfl, hB4⟩
end Go.Proofs.Ytlkioijpdlalhaa
