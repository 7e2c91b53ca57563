import Derived.Test.YtickoajkppgdaaaRows
import Derived.Test.YtickoajkppgdaaaMStep
import Derived.Test.YtickoajkppgdaaaMOne
import Derived.Test.YtickoajkppgdaaaCFits
import Derived.Test.YtickoajkppgdaaaCRouteI
import Derived.Test.YtickoajkppgdaaaCArrI
import Derived.WalkKit
import Derived.WalkSpells
import Derived.WalkLawsBesides
import Derived.Outline
import Derived.Test.YtickoajkppgdaaaMFol
import Derived.Test.YtickoajkppgdaaaMInfo
import Derived.Test.YtickoajkppgdaaaMRou
import Derived.Test.YtickoajkppgdaaaMTr
import Derived.Test.YtickoajkppgdaaaMRA
import Derived.Test.YtickoajkppgdaaaMRO
import Derived.Test.YtickoajkppgdaaaMRH
import Derived.Deep.RegionHeld3
/- ForwardStep, the program's. -/
namespace Go.Proofs.Ytickoajkppgdaaa
open Go.RowKit
set_option linter.unusedSimpArgs false in
set_option maxHeartbeats 1600000 in
set_option maxRecDepth 100000 in
theorem stepI_any (a : Option Addr) (cap : Nat) (xs : List I5) (b : Bd) (f n t : Int) (w : World) (hn : xs.length ≤ 1048576) (hs : b.py.size ≤ 1048576) (hin : MI5.RowAt w a xs) :
    Calls Try.prog 11 #[.slice a xs.length cap, b.v, .int .i64 f, .int .i64 n, .int .i64 t] w fun e w' => e = .returned (.tuple #[.int .i64 (GP.stepK xs b f n t), .int .i64 (GP.stepT xs b f n t), .bool (GP.stepOk xs b f n t)]) ∧ Below w.heap.size w w' := by
  have P1 : Hid (∀ W : World, Below w.heap.size w W → Calls Try.prog 15 #[.slice a xs.length cap, b.v] W fun e w' => e = .returned (.bool (GP.fitsB xs b)) ∧ Below W.heap.size W w') := fun W h => fitsI_any a cap xs b W hn hs (hin.below h)
  have P2 : Hid (∀ W : World, Below w.heap.size w W → Calls Try.prog 8 #[.slice a xs.length cap, .int .i64 f, .int .i64 n, .int .i64 t] W fun e w' => ∃ a1 c1, e = .returned (.tuple #[.slice a1 (PN.routeL xs f n t).length c1, .int .i64 (PN.tellN (PN.routeM xs f n t)), .bool (PN.tellB (PN.routeM xs f n t))]) ∧ w'.ownsRow W.heap.size 3 1 (.slice a1 (PN.routeL xs f n t).length c1) (PN.routeL xs f n t).length (M4.iv (PN.routeL xs f n t)) ∧ Below W.heap.size W w') := fun W h => implRoute_any a cap xs f n t W hn (hin.below h)
  have P3 : Hid (PN.tellB (PN.routeM xs f n t) = true → PN.routeL xs f n t ≠ [] → ∀ (W : World) (g c : Nat), Below w.heap.size w W → M4.IntsAt W (some ⟨g, 0, none⟩) [(PN.routeL xs f n t).getD 0 0] → Calls Try.prog 9 #[.slice a xs.length cap, .int .i64 f, .int .i64 n, .slice (some ⟨g, 0, none⟩) 1 c] W fun e w' => e = .returned (.tuple #[.int .i64 (PN.ov (PN.ofN xs ((PN.routeL xs f n t).getD 0 0)) n), .bool true]) ∧ Below W.heap.size W w') := fun h1 h2 W g c hb hi => by
    have h := implArrive_any a (some ⟨g, 0, none⟩) cap c xs f n [(PN.routeL xs f n t).getD 0 0] W hn (by simp) (hin.below hb) hi
    rw [(GP.first_of h1 h2).2.2.2.2.2] at h
    exact h
  have P4 : Hid (GP.fitsB xs b = true → ∀ W : World, Calls Try.prog 26 #[b.v] W fun e w' => e = .returned (.int .i64 (b.md + b.lf)) ∧ Below W.heap.size W w') := fun h W => by
    obtain ⟨_, _, _, _, h1, h2, _⟩ := GP.fits_is h
    exact lastTime_any b W h1 h2
  have HS : Hid (GP.stepOk xs b f n t = (GP.fitsB xs b && PN.tellB (PN.routeM xs f n t) && decide (PN.routeL xs f n t ≠ []) && decide (PN.ov (PN.ofN xs ((PN.routeL xs f n t).getD 0 0)) n ≤ b.md + b.lf))) := show GP.stepOk xs b f n t = _ from rfl
  have NO : Hid (GP.stepOk xs b f n t = false → GP.stepK xs b f n t = 0 ∧ GP.stepT xs b f n t = 0) := fun h => GP.step_no h
  have YES : Hid (GP.stepOk xs b f n t = true → GP.stepK xs b f n t = (PN.routeL xs f n t).getD 0 0 ∧ GP.stepT xs b f n t = PN.ov (PN.ofN xs ((PN.routeL xs f n t).getD 0 0)) n) := fun h => GP.step_yes h
  have hA := BdAt.box w b 25
  have hB := (Below.refl _ w).alloc (Nat.le_refl _) (.cells #[.int .i64 b.fr, .int .i64 b.to, .bool b.gr, .int .i64 b.md, .int .i64 b.no, .int .i64 b.lf, .int .i64 b.hp, .int .i64 b.of, .int .i64 b.tl, .string b.py] 25)
  clear hin
  generalize GP.stepOk xs b f n t = R at *
  generalize GP.stepK xs b f n t = RK at *
  generalize GP.stepT xs b f n t = RT at *
  generalize PN.ov (PN.ofN xs ((PN.routeL xs f n t).getD 0 0)) n = u at *
  generalize GP.fitsB xs b = q1 at *
  generalize PN.tellB (PN.routeM xs f n t) = T at *
  generalize PN.tellN (PN.routeM xs f n t) = N at *
  generalize PN.routeL xs f n t = L at *
  generalize hml : b.md + b.lf = ml at *
  generalize xs.length = m at *
  obtain ⟨fr, to, gr, md, no, lf, hp, of, tl, py⟩ := b
  obtain ⟨hlt, c0, c1, c2, c3, c4, c5, c6, c7, c8, c9⟩ := id hA
  clear hml
  go_enter Try.func11, Try.ntmps11
  go_wp2_with fail
  refine (P1.out _ hB).mono ?_
  rintro e w1 ⟨rfl, hb1⟩
  clear c0 c1 c2 c3 c4 c5 c6 c7 c8 c9 hlt P1
  have hA1 := hA.below hb1 hA.1
  have hB1 := hB.trans (hb1.mono hB.size)
  clear hb1 hA hB
  cases q1 with
  | false =>
    have hR : R = false := HS.out
    obtain ⟨rfl, rfl⟩ := NO.out hR
    subst hR
    clear P2 P3 P4 HS NO YES hA1
    go_wp2
    go_ret3
    exact ⟨rfl, hB1⟩
  | true =>
    go_wp2_with fail
    refine (P2.out _ hB1).mono ?_
    rintro e w2 ⟨a2, c2, rfl, ho, hb2⟩
    have HO : Hid _ := ho
    clear P2 ho
    have hA2 := hA1.below hb2 hA1.1
    have hB2 := hB1.trans (hb2.mono hB1.size)
    clear hb2 hA1 hB1
    cases T with
    | false =>
      have hR : R = false := HS.out
      obtain ⟨rfl, rfl⟩ := NO.out hR
      subst hR
      clear P3 P4 HS NO YES hA2 HO
      go_wp2
      go_ret3
      exact ⟨rfl, hB2⟩
    | true =>
      by_cases hL : L = []
      · subst hL
        have hR : R = false := HS.out
        obtain ⟨rfl, rfl⟩ := NO.out hR
        subst hR
        clear P3 P4 HS NO YES hA2 HO
        go_wp2
        go_ret3
        exact ⟨rfl, hB2⟩
      · have hl0 : 0 < L.length := List.length_pos_iff.2 hL
        have P3' : Hid _ := P3.out (by first | rfl | trivial) hL
        have P4' : Hid _ := P4.out (by first | rfl | trivial)
        have HS' : Hid (R = decide (u ≤ ml)) := by show R = _; rw [HS.out]; simp [hL]
        clear P3 P4 HS hL
        obtain ⟨g, c, hsl, hcap⟩ : ∃ g c, Value.slice a2 L.length c2 = .slice (some ⟨g, 0, none⟩) L.length c ∧ L.length ≤ c ∧ c ≤ maxLen := by
          rcases HO.out.2 with ⟨h1, h2⟩ | ⟨g, c, cur, hv, _, _, h1, h2, _⟩
          · exact absurd h2 (by omega)
          · exact ⟨g, c, hv, h1, h2⟩
        cases hsl
        obtain ⟨hi1, hc1, hg1⟩ := GP.ints_one (M5.own_ints HO.out) hl0
        have HI1 : Hid _ := hi1
        have HC1 : Hid _ := hc1
        clear HO hi1 hc1
        generalize L.getD 0 0 = k at *
        generalize hln : L.length = ln at *
        clear hln
        have h1c : 1 ≤ c2 := by omega
        have h0 : (ln == 0) = false := by simp; omega
        obtain ⟨hlt, c0, c1, c2_, c3, c4, c5, c6, c7, c8, c9⟩ := id hA2
        clear c0 c1 c2_ c3 c4 c5 c6 c7 c8 c9 hlt
        go_wp2_with fail
        refine (P3'.out _ g _ hB2 HI1.out).mono ?_
        rintro e w3 ⟨rfl, hb3⟩
        clear P3' HI1
        have HC3 : Hid (w3.cell? ⟨g, 0, none⟩ = some (.int .i64 k)) := (hb3.cell (p := ⟨g, 0, none⟩) hg1).trans HC1.out
        have hg3 := Nat.lt_of_lt_of_le hg1 hb3.size
        have hA3 := hA2.below hb3 hA2.1
        have hB3 := hB2.trans (hb3.mono hB2.size)
        clear hb3 hA2 hB2 HC1 hg1
        obtain ⟨hlt, c0, c1, c2_, c3, c4, c5, c6, c7, c8, c9⟩ := id hA3
        go_wp2_with fail
        refine (P4'.out _).mono ?_
        rintro e w4 ⟨rfl, hb4⟩
        clear c0 c1 c2_ c3 c4 c5 c6 c7 c8 c9 hlt P4'
        have hc4 : w4.cell? ⟨g, 0, none⟩ = some (.int .i64 k) := (hb4.cell (p := ⟨g, 0, none⟩) hg3).trans HC3.out
        have hg4 := Nat.lt_of_lt_of_le hg3 hb4.size
        have hB4 := hB3.trans (hb4.mono hB3.size)
        clear hb4 hA3 hB3 HC3
        by_cases hu : u ≤ ml
        · have hR : R = true := by rw [HS'.out]; simp [hu]
          obtain ⟨hk, hT⟩ := YES.out hR
          have hd : decide (ml < u) = false := by simp; omega
          subst hR
          subst hk hT
          clear NO YES HS'
          go_wp2
          go_ret3
          exact ⟨rfl, hB4⟩
        · have hR : R = false := by rw [HS'.out]; simp; omega
          have hd : decide (ml < u) = true := by simp; omega
          obtain ⟨rfl, rfl⟩ := NO.out hR
          subst hR
          clear NO YES HS'
          go_wp2
          go_ret3
          exact ⟨rfl, hB4⟩
end Go.Proofs.Ytickoajkppgdaaa

/- FollowPlan, the program's. -/
namespace Go.Proofs.Ytickoajkppgdaaa
open Go.RowKit
set_option linter.unusedSimpArgs false in
set_option maxHeartbeats 3200000 in
set_option maxRecDepth 100000 in
theorem folI_any (a : Option Addr) (cap : Nat) (xs : List I5) (b : Bd) (t : Int) (w : World) (hn : xs.length ≤ 1048576) (hs : b.py.size ≤ 1048576) (hin : MI5.RowAt w a xs) :
    Calls Try.prog 5 #[.slice a xs.length cap, b.v, .int .i64 t] w fun e w' => ∃ a1 c1, e = .returned (.tuple #[.slice a1 (GP.folL (GP.folA xs b t)).length c1, .int .i64 (GP.folN (GP.folA xs b t)), .bool (GP.folA xs b t).isSome]) ∧ w'.ownsRow w.heap.size 3 1 (.slice a1 (GP.folL (GP.folA xs b t)).length c1) (GP.folL (GP.folA xs b t)).length (M4.iv (GP.folL (GP.folA xs b t))) ∧ Below w.heap.size w w' := by
  obtain ⟨i0, hi, hz0, hz1, hz2⟩ := info_parts Try.info3
  have P1 : Hid (∀ W : World, Below w.heap.size w W → Calls Try.prog 15 #[.slice a xs.length cap, b.v] W fun e w' => e = .returned (.bool (GP.fitsB xs b)) ∧ Below W.heap.size W w') := fun W h => fitsI_any a cap xs b W hn hs (hin.below h)
  have P3 : Hid (∀ (v n : Int) (W : World), Below w.heap.size w W → Calls Try.prog 11 #[.slice a xs.length cap, b.v, .int .i64 v, .int .i64 n, .int .i64 t] W fun e w' => e = .returned (.tuple #[.int .i64 (GP.stepK xs b v n t), .int .i64 (GP.stepT xs b v n t), .bool (GP.stepOk xs b v n t)]) ∧ Below W.heap.size W w') := fun v n W h => stepI_any a cap xs b v n t W hn hs (hin.below h)
  have HROW : Hid (MI5.RowAt w a xs) := hin
  obtain ⟨AR, hA⟩ : ∃ AR, GP.folA xs b t = AR := ⟨_, rfl⟩
  have N1 : Hid (GP.fitsB xs b = false → AR = none) := fun h => by rw [← hA]; exact GP.folA_no h
  have Y1 : Hid (GP.fitsB xs b = true → GP.fol xs b t 21 [] b.fr b.md = AR) := fun h => by rw [← hA]; exact GP.folA_yes h
  rw [hA]
  obtain ⟨L, hL⟩ : ∃ L, GP.folL AR = L := ⟨_, rfl⟩
  obtain ⟨N, hN⟩ : ∃ N, GP.folN AR = N := ⟨_, rfl⟩
  obtain ⟨T, hT⟩ : ∃ T, AR.isSome = T := ⟨_, rfl⟩
  rw [hL, hN, hT]
  have NO : Hid (AR = none → L = [] ∧ N = 0 ∧ T = false) := fun h => by subst h; exact ⟨hL.symm, hN.symm, hT.symm⟩
  have YES : Hid (∀ os n, some (os, n) = AR → L = os ∧ N = n ∧ T = true) := fun os n h => by subst h; exact ⟨hL.symm, hN.symm, hT.symm⟩
  clear hin hA hL hN hT
  have GE : Hid (∀ (f : Nat) (os : List Int) (v n : Int), v = t → GP.fol xs b t (f + 1) os v n = AR → some (os, n) = AR) := fun f os v n hv h => by subst hv; rw [← h, GP.fol_end]
  have GS : Hid (∀ (f : Nat) (os : List Int) (v n : Int), v ≠ t → GP.stepOk xs b v n t = false → GP.fol xs b t (f + 1) os v n = AR → AR = none) := fun f os v n hv h1 h => by rw [← h, GP.fol_stop hv h1]
  have GF : Hid (∀ (os : List Int) (v n : Int), v ≠ t → GP.fol xs b t 1 os v n = AR → AR = none) := fun os v n hv h => by rw [← h, GP.fol_full hv]
  have GN : Hid (∀ (f : Nat) (os : List Int) (v n : Int), v ≠ t → GP.stepOk xs b v n t = true → GP.fol xs b t (f + 1) os v n = AR → ∃ i : Nat, GP.stepK xs b v n t = (i : Int) ∧ i < xs.length ∧ GP.fol xs b t f (os ++ [(i : Int)]) (MI5.at_ xs i).a1 (GP.stepT xs b v n t) = AR) := fun f os v n hv h1 h => by
    obtain ⟨i, h2, h3⟩ := GP.step_in h1
    refine ⟨i, h2, h3, ?_⟩
    rw [GP.fol_step hv h1, h2] at h
    exact h
  have BA := BdAt.box w b 25
  have BB := (Below.refl _ w).alloc (Nat.le_refl _) (.cells #[.int .i64 b.fr, .int .i64 b.to, .bool b.gr, .int .i64 b.md, .int .i64 b.no, .int .i64 b.lf, .int .i64 b.hp, .int .i64 b.of, .int .i64 b.tl, .string b.py] 25)
  generalize GP.fol xs b t = FO at *
  generalize hst : (fun v n => GP.stepOk xs b v n t) = SO at *
  have e1 : ∀ v n, GP.stepOk xs b v n t = SO v n := fun v n => by rw [← hst]
  clear hst
  simp only [e1] at P3 GS GN
  clear e1
  generalize hst : (fun v n => GP.stepT xs b v n t) = ST at *
  have e1 : ∀ v n, GP.stepT xs b v n t = ST v n := fun v n => by rw [← hst]
  clear hst
  simp only [e1] at P3 GS GN
  clear e1
  generalize hst : (fun v n => GP.stepK xs b v n t) = SK at *
  have e1 : ∀ v n, GP.stepK xs b v n t = SK v n := fun v n => by rw [← hst]
  clear hst
  simp only [e1] at P3 GS GN
  clear e1
  generalize GP.fitsB xs b = q1 at *
  obtain ⟨fr, to, gr, md, no, lf, hp, of, tl, py⟩ := b
  obtain ⟨hlt, c0, c1, c2, c3, c4, c5, c6, c7, c8, c9⟩ := id BA
  go_enter Try.func5, Try.ntmps5
  go_wp2_with fail
  refine (P1.out _ BB).mono ?_
  rintro e w1 ⟨rfl, hb1⟩
  clear c0 c1 c2 c3 c4 c5 c6 c7 c8 c9 hlt P1
  have BA1 := BA.below hb1 BA.1
  have BB1 := BB.trans (hb1.mono BB.size)
  clear hb1 BA BB
  cases q1 with
  | false =>
    obtain ⟨rfl, rfl, rfl⟩ := NO.out (N1.out rfl)
    clear P3 HROW N1 Y1 NO YES GE GS GF GN BA1
    go_wp2
    go_ret3
    exact ⟨none, 0, rfl, World.ownsRow_nil _ _ _ _, BB1⟩
  | true =>
    have HST : Hid _ := Y1.out (by first | rfl | trivial)
    clear Y1 N1
    obtain ⟨hlt, c0, c1, c2, c3, c4, c5, c6, c7, c8, c9⟩ := id BA1
    clear c1 c2 c4 c5 c6 c7 c8 c9 hlt
    go_wp2
    go_region_held3 (fun w' => w'.cell? ⟨w.heap.size, 0, none⟩ = some (.int .i64 fr) ∧ w'.cell? ⟨w.heap.size, 3, none⟩ = some (.int .i64 md)) (go_keep) (fail)
    have OW0 : Hid (((w1.alloc (.cells #[] 3)).drew).ownsRow w1.heap.size 3 1 (.slice (some ⟨w1.heap.size, 0, none⟩) 0 0) ([] : List Int).length (M4.iv [])) := PN.own_lit0 w1 w1.heap.size (Nat.le_refl _)
    have HB0 : Hid (Below w1.heap.size w1 ((w1.alloc (.cells #[] 3)).drew)) := ((Below.refl _ w1).alloc (Nat.le_refl _) _).drew
    generalize Value.slice (some ⟨w1.heap.size, 0, none⟩) 0 0 = v0 at *
    generalize (w1.alloc (.cells #[] 3)).drew = W1 at *
    go_wp2
    go_loopw [9, 10, 11, 12, 13, 14] (fun u vv nn _ _ _ wr => ∃ (os : List Int) (v n : Int), vv = .int .i64 v ∧ nn = .int .i64 n ∧ os.length ≤ 20 ∧ Hid (FO (21 - os.length) os v n = AR) ∧ Hid (wr.ownsRow w1.heap.size 3 1 u os.length (M4.iv os)) ∧ Below w1.heap.size w1 wr) (fun u _ _ _ _ _ _ => 21 - PN.lenV u)
    case atStart => exact ⟨[], fr, md, rfl, rfl, by simp, HST, OW0, HB0.out⟩
    case round =>
      obtain ⟨os, v, n, rfl, rfl, hol, hF, hO, hb⟩ := hrel
      have hbs := hb.size
      have BA2 := BA1.below hb BA1.1
      have BB2 := BB1.trans (hb.mono BB1.size)
      obtain ⟨a2, ca2, rfl, -⟩ := M5.own_view hO.out
      obtain ⟨f, hf⟩ : ∃ f, 21 - os.length = f + 1 := ⟨20 - os.length, by omega⟩
      rw [hf] at hF
      have HFF : Hid (21 - os.length = f + 1) := hf
      clear hf HST
      by_cases hv : v = t
      · obtain ⟨rfl, rfl, rfl⟩ := YES.out _ _ (GE.out f os v n hv hF.out)
        subst hv
        have HO1 := TR.own_mono hO.out BB1.size
        clear P3 HROW NO YES GE GS GF GN BA1 BA2 hF hO HFF
        go_wp2
        go_ret3
        exact ⟨a2, ca2, rfl, HO1, BB2⟩
      · have hne : (v != t) = true := by simp [hv]
        have GS1 : Hid _ := fun h => GS.out f os v n hv h hF.out
        have GN1 : Hid _ := fun h => GN.out f os v n hv h hF.out
        have GF1 : Hid (os.length = 20 → AR = none) := fun h => GF.out os v n hv (by obtain rfl : f = 0 := (by have := HFF.out; omega); exact hF.out)
        have P3' : Hid (Calls _ _ _ _ _) := P3.out v n _ BB2
        clear P3 GS GN GF GE hF
        generalize SO v n = q at *
        generalize SK v n = kk at *
        generalize ST v n = tt at *
        generalize hoo : os.length = ol at *
        have HOL : Hid (os.length = ol) := hoo
        clear hoo
        obtain ⟨hlt, c0, c1, c2, c3, c4, c5, c6, c7, c8, c9⟩ := id BA2
        go_wp2_with fail
        refine Calls.mono P3'.out ?_
        rintro e w2 ⟨rfl, hb2⟩
        clear c0 c1 c2 c3 c4 c5 c6 c7 c8 c9 hlt P3' BA2
        have hb3 := hb.trans (hb2.mono hbs)
        have hbs3 := hb3.size
        have BB3 := BB2.trans (hb2.mono BB2.size)
        have HO2 : Hid _ := M5.own_below hO.out hb2
        clear hb hb2 hO BB2 hbs
        cases q with
        | false =>
          obtain ⟨rfl, rfl, rfl⟩ := NO.out (GS1.out rfl)
          clear HROW NO YES GS1 GN1 GF1 HO2 BA1 BB1 HOL HFF
          go_wp2
          go_ret3
          exact ⟨none, 0, rfl, World.ownsRow_nil _ _ _ _, BB3⟩
        | true =>
          by_cases h20 : ol = 20
          · obtain ⟨rfl, rfl, rfl⟩ := NO.out (GF1.out h20)
            subst h20
            clear HROW NO YES GS1 GN1 GF1 HO2 BA1 BB1 HOL HFF
            go_wp2
            go_ret3
            exact ⟨none, 0, rfl, World.ownsRow_nil _ _ _ _, BB3⟩
          · have h20b : (ol == 20) = false := by simp; omega
            obtain ⟨i, rfl, hil, hFN⟩ := GN1.out (by first | rfl | trivial)
            have HFN : Hid _ := hFN
            clear hFN GS1 GN1 GF1
            obtain ⟨b4, off4, rfl, hlt4, -, e1, -⟩ := HROW.out.at hil
            have hzl := hil
            obtain ⟨zc, hzc0⟩ : ∃ z, (MI5.at_ xs i).a1 = z := ⟨_, rfl⟩
            rw [hzc0] at e1 HFN
            clear hzc0
            have HO2d : Hid ((World.drew w2).ownsRow w1.heap.size 3 1 (.slice a2 ol ca2) ol (M4.iv os)) := HO2.out
            have ii0 : (0 : Int) ≤ (i : Int) := by omega
            have ii1 : (i : Int) < (xs.length : Int) := by omega
            have hS0 : (fun w' => w'.cell? ⟨b4, off4 + i * 5 + 1, none⟩ = some (.int .i64 zc)) (World.drew w2) := ((BB3.drew).cell (p := ⟨b4, off4 + i * 5 + 1, none⟩) hlt4).trans e1
            have hS1 : (fun w' => w'.cell? ⟨b4, off4 + i * 5 + 1, none⟩ = some (.int .i64 zc)) ((World.drew w2).alloc (.cells #[.int .i64 (i : Int)] 3)) := (((BB3.drew).alloc BB3.size _).cell (p := ⟨b4, off4 + i * 5 + 1, none⟩) hlt4).trans e1
            go_wp2
            refine MR.frame fun A hA => ?_
            have hsz : A.tmps.size = 56 := by rw [hA]; rfl
            have e0 : A.eval (.tmp 0) = .slice (some ⟨b4, off4, none⟩) xs.length cap := by rw [hA]; rfl
            have f0 := MR.read (t := 0) (by rw [hsz]; decide) e0
            have e9 : A.eval (.tmp 9) = .slice a2 ol ca2 := by rw [hA]; rfl
            have f9 := MR.read (t := 9) (by rw [hsz]; decide) e9
            have e12 : A.eval (.tmp 12) = .int .i64 (i : Int) := by rw [hA]; rfl
            have f12 := MR.read (t := 12) (by rw [hsz]; decide) e12
            have e13 : A.eval (.tmp 13) = .int .i64 tt := by rw [hA]; rfl
            have f13 := MR.read (t := 13) (by rw [hsz]; decide) e13
            have HA : Hid (A = _) := hA
            clear hA
            have hS : (fun w' => w'.cell? ⟨b4, off4 + i * 5 + 1, none⟩ = some (.int .i64 zc)) (World.drew _) := hS0
            refine wp_region_held (S := fun w' => w'.cell? ⟨b4, off4 + i * 5 + 1, none⟩ = some (.int .i64 zc)) (by kernel_rfl) ?_
            change wpAnyH _ _ _ _ _ _ _ _ (World.drew _)
            refine MR.takeH (i := 0) (some 44) (.slice a2 ol ca2) rfl rfl (by kernel_rfl) (by kernel_rfl) (by kernel_rfl) (fun _ _ _ h => h) hS (MR.free rfl) (fun wq hw => by simp [execOp, MR.ev, MR.size, hsz, e0, f0, e9, f9, e12, f12, e13, f13, go_sem]) ?_
            refine MR.takeH (i := 1) (some 45) (.int .i64 (i : Int)) rfl rfl (by kernel_rfl) (by kernel_rfl) (by kernel_rfl) (fun _ _ _ h => h) hS (MR.free rfl) (fun wq hw => by simp [execOp, MR.ev, MR.size, hsz, e0, f0, e9, f9, e12, f12, e13, f13, go_sem]) ?_
            refine MR.takeH (i := 4) (some 48) (.slice (some ⟨b4, off4, none⟩) xs.length cap) rfl rfl (by kernel_rfl) (by kernel_rfl) (by kernel_rfl) (fun _ _ _ h => h) hS (MR.free rfl) (fun wq hw => by simp [execOp, MR.ev, MR.size, hsz, e0, f0, e9, f9, e12, f12, e13, f13, go_sem]) ?_
            refine MR.takeH (i := 5) (some 49) (.int .i64 (i : Int)) rfl rfl (by kernel_rfl) (by kernel_rfl) (by kernel_rfl) (fun _ _ _ h => h) hS (MR.free rfl) (fun wq hw => by simp [execOp, MR.ev, MR.size, hsz, e0, f0, e9, f9, e12, f12, e13, f13, go_sem]) ?_
            refine MR.takeH (i := 6) (some 50) (.pointer (some ⟨b4, off4 + i * 5, none⟩)) rfl rfl (by kernel_rfl) (by kernel_rfl) (by kernel_rfl) (fun _ _ _ h => h) hS (MR.free rfl) (fun wq hw => by simp [execOp, MR.ev, MR.size, hsz, e0, f0, e9, f9, e12, f12, e13, f13, Try.underlying23, ii0, ii1, go_sem]) ?_
            refine MR.takeH (i := 7) (some 51) (.pointer (some ⟨b4, off4 + i * 5 + 1, none⟩)) rfl rfl (by kernel_rfl) (by kernel_rfl) (by kernel_rfl) (fun _ _ _ h => h) hS (MR.free rfl) (fun wq hw => by simp [execOp, MR.ev, MR.size, hsz, e0, f0, e9, f9, e12, f12, e13, f13, Try.underlying40, go_sem]) ?_
            refine MR.takeH (i := 8) (some 52) (.int .i64 zc) rfl rfl (by kernel_rfl) (by kernel_rfl) (by kernel_rfl) (fun _ _ _ h => h) hS (MR.free rfl) (fun wq hw => by simp [execOp, MR.ev, MR.size, hsz, e0, f0, e9, f9, e12, f12, e13, f13, hw, go_sem]) ?_
            refine MR.takeH (i := 9) (some 53) (.int .i64 tt) rfl rfl (by kernel_rfl) (by kernel_rfl) (by kernel_rfl) (fun _ _ _ h => h) hS (MR.free rfl) (fun wq hw => by simp [execOp, MR.ev, MR.size, hsz, e0, f0, e9, f9, e12, f12, e13, f13, go_sem]) ?_
            refine MR.nowH (w' := (World.drew w2).alloc (.cells #[.int .i64 (i : Int)] 3)) (i := 2) (some 46) (.slice (some ⟨w2.heap.size, 0, none⟩) 1 1) (by kernel_rfl) rfl rfl (MR.free rfl) (by simp [execOp, MR.ev, MR.size, hsz, e0, f0, e9, f9, e12, f12, e13, f13, go_sem]) ⟨hS1, ?_⟩
            obtain ⟨v5, w5, hrun5, hown5, hgrow5, _⟩ := run_append_own (P := Try.prog) (w := (World.drew w2).alloc (.cells #[.int .i64 (i : Int)] 3)) w1.heap.size 28 28 3 i0 (.int .i64 0) 1 8 Try.underlying28 hi hz0 hz1 hz2 rfl (by decide) (.slice a2 ol ca2) ol (M4.iv os) (World.ownsRow.alloc HO2d.out _) ⟨w2.heap.size, 0, none⟩ 1 1 [.int .i64 (i : Int)] rfl (M2.new1 _ _ _) (M2.one1 _ _) (by unfold maxLen; omega) (by omega) (by simp; omega)
            have hb6 : Below w1.heap.size w1 w5 := ((hb3.drew).alloc hbs3 _).grown hgrow5 (by simp; omega) (fun j hj => (World.ownsRow.lt HO2d.out j hj).1)
            have BB6 := BB1.trans (hb6.mono BB1.size)
            have hS5 : (fun w' => w'.cell? ⟨b4, off4 + i * 5 + 1, none⟩ = some (.int .i64 zc)) w5 := (BB6.cell (p := ⟨b4, off4 + i * 5 + 1, none⟩) hlt4).trans e1
            refine MR.nowH (w' := w5) (i := 3) (some 47) v5 (by kernel_rfl) rfl rfl (MR.free rfl) (RA.app_run rfl (by simp [MR.ev, MR.size, hsz, e0, f0, e9, f9, e12, f12, e13, f13]) (by simp [MR.ev, MR.size, hsz, e0, f0, e9, f9, e12, f12, e13, f13]) hrun5) ⟨hS5, ?_⟩
            refine MR.takeH (i := 10) (some 9) (v5) rfl rfl (by kernel_rfl) (by kernel_rfl) (by kernel_rfl) (fun _ _ _ h => h) hS5 (MR.free rfl) (fun wq hw => by simp [execOp, MR.ev, MR.size, hsz, e0, f0, e9, f9, e12, f12, e13, f13, go_sem]) ?_
            refine MR.takeH (i := 11) (some 10) (.int .i64 zc) rfl rfl (by kernel_rfl) (by kernel_rfl) (by kernel_rfl) (fun _ _ _ h => h) hS5 (MR.free rfl) (fun wq hw => by simp [execOp, MR.ev, MR.size, hsz, e0, f0, e9, f9, e12, f12, e13, f13, go_sem]) ?_
            refine MR.takeH (i := 12) (some 11) (.int .i64 tt) rfl rfl (by kernel_rfl) (by kernel_rfl) (by kernel_rfl) (fun _ _ _ h => h) hS5 (MR.free rfl) (fun wq hw => by simp [execOp, MR.ev, MR.size, hsz, e0, f0, e9, f9, e12, f12, e13, f13, go_sem]) ?_
            refine wpAnyH_done (by kernel_rfl) ?_ _
            have HT6 : Hid (w5.ownsRow w1.heap.size 3 1 v5 (os ++ [(i : Int)]).length (M4.iv (os ++ [(i : Int)]))) := TR.own_snoc (by rw [HOL.out]; exact hown5) rfl
            rw [HA.out]
            simp only [Act.put, List.setIfInBounds_toArray, List.set_cons_succ, List.set_cons_zero]
            clear HA hsz e0 f0 e9 f9 e12 f12 e13 f13 hS hS5 hrun5
            clear HO2d hS0 hS1 e1 hlt4 hgrow5 hown5 HROW BB3
            obtain ⟨a6, c6, rfl, -⟩ := M5.own_view HT6.out
            have hll : (os ++ [(i : Int)]).length = ol + 1 := by rw [List.length_append, HOL.out]; rfl
            have HLL : Hid _ := hll
            have hf2 : 21 - (os ++ [(i : Int)]).length = f := by rw [hll]; have := HFF.out; omega
            have HFF2 : Hid (FO (21 - (os ++ [(i : Int)]).length) (os ++ [(i : Int)]) zc tt = AR) := by rw [hf2]; exact HFN.out
            have HL2 : Hid ((os ++ [(i : Int)]).length ≤ 20) := by show _ ≤ _; rw [hll]; omega
            clear HO2 hb3 HFF HFN hll hf2 BB1
            generalize hzz : (os ++ [(i : Int)]) = zz at *
            clear hzz
            go_wp2
            go_roundw
            case rel => exact ⟨zz, zc, tt, rfl, rfl, HL2.out, HFF2, HT6, hb6⟩
            case measure => have := HLL.out; simp [PN.lenV]; omega
end Go.Proofs.Ytickoajkppgdaaa
