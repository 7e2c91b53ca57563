/- The law FnLatest answers true at every argument (laid by tools/gen_lfnlatest.py). -/
import Derived.Test.YtlkjlechojgnbaaRows
import Derived.Test.YtlkjlechojgnbaaCPlanE
import Derived.Test.YtlkjlechojgnbaaCDrawU
import Derived.Test.YtlkjlechojgnbaaMLQ
import Derived.Test.YtlkjlechojgnbaaCLatestK
import Derived.Test.YtlkjlechojgnbaaCLatestS
import Derived.Test.YtlkjlechojgnbaaCEarliest
import Derived.Test.YtlkjlechojgnbaaCOpen
import Derived.Test.YtlkjlechojgnbaaCUses
import Derived.Test.YtlkjlechojgnbaaCSameInts
import Derived.WalkKit
import Derived.WalkSpells
import Derived.WalkLawsBesides
import Derived.Outline
namespace Go.Proofs.Ytlkjlechojgnbaa
open Go.RowKit
set_option linter.unusedSimpArgs false in
set_option maxHeartbeats 6400000 in
set_option maxRecDepth 100000 in
theorem lawFnLatest_any (a a' : Option Addr) (zs ys : List Int) (ca cb : Nat) (w : World) (hz : zs.length ≤ 140737488355328) (hy : ys.length ≤ 140737488355328) (hbz : MC.BytesAt w w.heap.size a zs) (hby : MC.BytesAt w w.heap.size a' ys) :
    Calls Try.prog 4 #[.slice a zs.length ca, .slice a' ys.length cb] w fun e w' => e = .returned (.bool true) ∧ Below w.heap.size w w' := by
  by_cases h20 : zs.length + ys.length ≤ 1048576
  · have HBY : Hid (∀ W : World, Below w.heap.size w W → MC.BytesAt W W.heap.size a' ys) := fun W h => (hby.only (q := w.heap.size) (MC.Only.of_below h) (Nat.le_refl _) (Nat.le_refl _)).up h.size
    clear hby
    go_enter Try.func4, Try.ntmps4
    go_wp2_with fail
    refine (drawLatest_any a zs ca _ hz hbz).mono ?_
    rintro e W ⟨a1, c1, xs, f, t, b, rfl, hf, ht, hb, hxl, hR, BW⟩
    clear hbz
    obtain ⟨tn, rfl⟩ := Int.eq_ofNat_of_zero_le ht.1
    have P1 : Hid _ := implLatest_any a1 c1 xs f tn b W (by omega) hR
    have P2 : Hid (∀ V : World, Below W.heap.size W V → _) := fun V h => specLatest_any a1 c1 xs f tn b V (by omega) (hR.below h)
    have P3 : Hid (∀ (n : Int) (V : World), Below W.heap.size W V → ∀ E : List Int, PN.earL xs f n = E → E.length = 8 → PN.startOk xs f n = true → Calls Try.prog 6 #[.slice a1 xs.length c1, .int .i64 f, .int .i64 n] V fun e w' => ∃ a1 c1, e = .returned (.tuple #[.slice a1 8 c1, .bool true]) ∧ M4.IntsAt w' a1 E ∧ Below V.heap.size V w') := fun n V h E hE h8 hs => by
      refine Calls.mono (implEarliest_any a1 c1 xs f n V (by omega) (hR.below h)) ?_
      rintro e w' ⟨a9, c9, rfl, ho, hb⟩
      rw [hE] at ho
      refine ⟨a9, c9, by rw [hE, h8, hs], M5.own_ints ho, hb⟩
    have HQ : Hid (∀ m, PN.latR xs f tn b = some m → PN.LQ xs f tn b m) := fun m h => PN.lq_of h
    obtain ⟨LR, hLR⟩ : ∃ LR, PN.latR xs f tn b = LR := ⟨_, rfl⟩
    rw [hLR] at P1 P2 HQ
    clear hR hLR
    cases LR with
    | none =>
      simp only [Option.getD_none, Option.isSome_none] at P1 P2
      go_wp2_with fail
      refine Calls.mono P1.out ?_
      rintro e w2 ⟨rfl, b2⟩
      go_wp2_with fail
      refine Calls.mono (P2.out w2 b2) ?_
      rintro e w3 ⟨rfl, b3⟩
      have b13 : Below W.heap.size W w3 := b2.trans (b3.mono b2.size)
      have BV : Below w.heap.size w w3 := BW.trans (b13.mono BW.size)
      clear P1 P2 P3 HQ
      go_wp2_with fail
      refine (drawOpenAt_any a' ys cb _ hy (HBY.out w3 BV)).mono ?_
      rintro e v1 ⟨a5, c5, ms, n, rfl, hn, hml, hM, d1⟩
      have Q1 : Hid _ := implOpen_any a5 c5 ms n v1 (by omega) hM
      have Q2 : Hid (∀ V : World, Below v1.heap.size v1 V → _) := fun V h => specOpen_any a5 c5 ms n V (by omega) (hM.below h)
      have hol := PN.openL_len ms n (by omega)
      obtain ⟨OL, hOL⟩ : ∃ OL, PN.openL ms n = OL := ⟨_, rfl⟩
      obtain ⟨OO, hOO⟩ : ∃ OO, PN.openOk ms n = OO := ⟨_, rfl⟩
      rw [hOL, hOO] at Q1 Q2
      rw [hOL] at hol
      clear hM hOL hOO
      go_wp2_with fail
      refine Calls.mono Q1.out ?_
      rintro e v2 ⟨a6, c6, rfl, o6, d2⟩
      have I6 : Hid (M4.IntsAt v2 a6 OL) := M5.own_ints o6
      clear Q1 o6
      go_wp2_with fail
      refine Calls.mono (Q2.out v2 d2) ?_
      rintro e v3 ⟨a7, c7, rfl, o7, d3⟩
      have I7 : Hid (M4.IntsAt v3 a7 OL) := M5.own_ints o7
      have I63 : Hid (M4.IntsAt v3 a6 OL) := M4.IntsAt.below I6.out d3
      have z1 := BV.size
      have z2 := d1.size
      have z3 := d2.size
      have z4 := d3.size
      have B3 : Below w.heap.size w v3 := ((BV.trans (d1.mono z1)).trans (d2.mono (by omega))).trans (d3.mono (by omega))
      clear Q2 o7 I6 d1 d2 d3 BV
      go_wp2_with fail
      refine (drawUses_any a' ys cb _ hy (HBY.out v3 B3)).mono ?_
      rintro e v4 ⟨a8, c8, us, a9, c9, os, rfl, hul, hol2, hU, hO, d4⟩
      have S1 : Hid _ := implUses_any a8 a9 c8 c9 us os v4 (by omega) (by omega) hU hO
      have S2 : Hid (∀ V : World, Below v4.heap.size v4 V → _) := fun V h => specUses_any a8 a9 c8 c9 us os V (by omega) (by omega) (hU.below h) (hO.below h)
      obtain ⟨UR, hUR⟩ : ∃ UR, PN.usesR us os = UR := ⟨_, rfl⟩
      obtain ⟨UO, hUO⟩ : ∃ UO, PN.usesOk us os = UO := ⟨_, rfl⟩
      rw [hUR, hUO] at S1 S2
      have I4 : Hid (∀ V : World, Below v4.heap.size v4 V → M4.IntsAt V a6 OL ∧ M4.IntsAt V a7 OL) := fun V h => ⟨(M4.IntsAt.below I63.out d4).below h, (M4.IntsAt.below I7.out d4).below h⟩
      have z5 := d4.size
      have B4 : Below w.heap.size w v4 := B3.trans (d4.mono (by omega))
      clear hU hO hUR hUO I63 I7 d4 B3 HBY
      go_wp2_with fail
      refine Calls.mono S1.out ?_
      rintro e v5 ⟨rfl, d5⟩
      clear S1
      go_wp2_with fail
      refine Calls.mono (S2.out v5 d5) ?_
      rintro e v6 ⟨rfl, d6⟩
      have z6 := d5.size
      have z7 := d6.size
      have d46 : Below v4.heap.size v4 v6 := d5.trans (d6.mono z6)
      obtain ⟨J6, J7⟩ := I4.out v6 d46
      have SA : Hid _ := sameInts_any a6 a7 c6 c7 OL OL v6 (by omega) (by omega) J6 J7
      rw [decide_eq_true rfl] at SA
      have B6 : Below w.heap.size w v6 := B4.trans (d46.mono (by omega))
      have u1 : (OO == OO) = true := by simp
      have u2 : (UO == UO) = true := by simp
      have u3 : (UR == UR) = true := by simp
      clear S2 I4 J6 J7 d5 d6 d46 B4
      go_wp2_with fail
      refine Calls.mono SA.out ?_
      rintro e v7 ⟨rfl, d7⟩
      go_wp2
      go_ret
      exact ⟨by simp, B6.trans (d7.mono (by omega))⟩
    | some m =>
      simp only [Option.getD_some, Option.isSome_some] at P1 P2
      obtain ⟨m0, m1, t0, t1, ⟨n1, n2, n3, n4⟩, hlate⟩ := HQ.out m rfl
      rw [Int.toNat_natCast] at n3 n4 hlate
      have ht8 : tn < 8 := by omega
      have HL : Hid _ := hlate
      obtain ⟨E, hE⟩ : ∃ E, PN.earL xs f m = E := ⟨_, rfl⟩
      rw [hE] at n2 n3 n4
      have HE : Hid _ := hE
      have HS : Hid _ := n1
      clear hlate hE n1
      go_wp2_with fail
      refine Calls.mono P1.out ?_
      rintro e w2 ⟨rfl, b2⟩
      go_wp2_with fail
      refine Calls.mono (P2.out w2 b2) ?_
      rintro e w3 ⟨rfl, b3⟩
      have b13 : Below W.heap.size W w3 := b2.trans (b3.mono b2.size)
      go_wp2_with fail
      refine Calls.mono (P3.out m w3 b13 E HE.out n2 HS.out) ?_
      rintro e w4 ⟨a4, c4, rfl, hI4, b4⟩
      have b14 : Below W.heap.size W w4 := b13.trans (b4.mono b13.size)
      obtain ⟨g4, of4, rfl, hlt4, hc4⟩ := M4.IntsAt.at hI4 (k := tn) (by omega)
      generalize E.getD tn 0 = x4 at *
      have k1 : decide (x4 < 0) = false := decide_eq_false (by omega)
      have k2 : decide (b < x4) = false := decide_eq_false (by omega)
      clear hI4
      by_cases hm : m < 1000
      · obtain ⟨l1, l2, l3⟩ := HL.out hm
        obtain ⟨E', hE'⟩ : ∃ E', PN.earL xs f (m + 1) = E' := ⟨_, rfl⟩
        rw [hE'] at l2 l3
        have km : decide (m < 1000) = true := decide_eq_true hm
        have HE' : Hid _ := hE'
        have HS' : Hid _ := l1
        clear hE' l1 HL
        go_wp2_with fail
        refine Calls.mono (P3.out (m + 1) w4 b14 E' HE'.out l2 HS'.out) ?_
        rintro e w5 ⟨a5, c5, rfl, hI5, b5⟩
        have b15 : Below W.heap.size W w5 := b14.trans (b5.mono b14.size)
        obtain ⟨g5, of5, rfl, hlt5, hc5⟩ := M4.IntsAt.at hI5 (k := tn) (by omega)
        generalize E'.getD tn 0 = x5 at *
        clear hI5
        by_cases hx5 : x5 < 0
        · have j1 : decide (0 ≤ x5) = false := decide_eq_false (by omega)
          have BV : Below w.heap.size w w5 := BW.trans (b15.mono BW.size)
          clear P1 P2 P3 HQ
          go_wp2_with fail
          refine (drawOpenAt_any a' ys cb _ hy (HBY.out w5 BV)).mono ?_
          rintro e v1 ⟨a5, c5, ms, n, rfl, hn, hml, hM, d1⟩
          have Q1 : Hid _ := implOpen_any a5 c5 ms n v1 (by omega) hM
          have Q2 : Hid (∀ V : World, Below v1.heap.size v1 V → _) := fun V h => specOpen_any a5 c5 ms n V (by omega) (hM.below h)
          have hol := PN.openL_len ms n (by omega)
          obtain ⟨OL, hOL⟩ : ∃ OL, PN.openL ms n = OL := ⟨_, rfl⟩
          obtain ⟨OO, hOO⟩ : ∃ OO, PN.openOk ms n = OO := ⟨_, rfl⟩
          rw [hOL, hOO] at Q1 Q2
          rw [hOL] at hol
          clear hM hOL hOO
          go_wp2_with fail
          refine Calls.mono Q1.out ?_
          rintro e v2 ⟨a6, c6, rfl, o6, d2⟩
          have I6 : Hid (M4.IntsAt v2 a6 OL) := M5.own_ints o6
          clear Q1 o6
          go_wp2_with fail
          refine Calls.mono (Q2.out v2 d2) ?_
          rintro e v3 ⟨a7, c7, rfl, o7, d3⟩
          have I7 : Hid (M4.IntsAt v3 a7 OL) := M5.own_ints o7
          have I63 : Hid (M4.IntsAt v3 a6 OL) := M4.IntsAt.below I6.out d3
          have z1 := BV.size
          have z2 := d1.size
          have z3 := d2.size
          have z4 := d3.size
          have B3 : Below w.heap.size w v3 := ((BV.trans (d1.mono z1)).trans (d2.mono (by omega))).trans (d3.mono (by omega))
          clear Q2 o7 I6 d1 d2 d3 BV
          go_wp2_with fail
          refine (drawUses_any a' ys cb _ hy (HBY.out v3 B3)).mono ?_
          rintro e v4 ⟨a8, c8, us, a9, c9, os, rfl, hul, hol2, hU, hO, d4⟩
          have S1 : Hid _ := implUses_any a8 a9 c8 c9 us os v4 (by omega) (by omega) hU hO
          have S2 : Hid (∀ V : World, Below v4.heap.size v4 V → _) := fun V h => specUses_any a8 a9 c8 c9 us os V (by omega) (by omega) (hU.below h) (hO.below h)
          obtain ⟨UR, hUR⟩ : ∃ UR, PN.usesR us os = UR := ⟨_, rfl⟩
          obtain ⟨UO, hUO⟩ : ∃ UO, PN.usesOk us os = UO := ⟨_, rfl⟩
          rw [hUR, hUO] at S1 S2
          have I4 : Hid (∀ V : World, Below v4.heap.size v4 V → M4.IntsAt V a6 OL ∧ M4.IntsAt V a7 OL) := fun V h => ⟨(M4.IntsAt.below I63.out d4).below h, (M4.IntsAt.below I7.out d4).below h⟩
          have z5 := d4.size
          have B4 : Below w.heap.size w v4 := B3.trans (d4.mono (by omega))
          clear hU hO hUR hUO I63 I7 d4 B3 HBY
          go_wp2_with fail
          refine Calls.mono S1.out ?_
          rintro e v5 ⟨rfl, d5⟩
          clear S1
          go_wp2_with fail
          refine Calls.mono (S2.out v5 d5) ?_
          rintro e v6 ⟨rfl, d6⟩
          have z6 := d5.size
          have z7 := d6.size
          have d46 : Below v4.heap.size v4 v6 := d5.trans (d6.mono z6)
          obtain ⟨J6, J7⟩ := I4.out v6 d46
          have SA : Hid _ := sameInts_any a6 a7 c6 c7 OL OL v6 (by omega) (by omega) J6 J7
          rw [decide_eq_true rfl] at SA
          have B6 : Below w.heap.size w v6 := B4.trans (d46.mono (by omega))
          have u1 : (OO == OO) = true := by simp
          have u2 : (UO == UO) = true := by simp
          have u3 : (UR == UR) = true := by simp
          clear S2 I4 J6 J7 d5 d6 d46 B4
          go_wp2_with fail
          refine Calls.mono SA.out ?_
          rintro e v7 ⟨rfl, d7⟩
          go_wp2
          go_ret
          exact ⟨by simp, B6.trans (d7.mono (by omega))⟩
        · have j1 : decide (0 ≤ x5) = true := decide_eq_true (by omega)
          have j2 : decide (x5 ≤ b) = false := decide_eq_false (by omega)
          have BV : Below w.heap.size w w5 := BW.trans (b15.mono BW.size)
          clear P1 P2 P3 HQ
          go_wp2_with fail
          refine (drawOpenAt_any a' ys cb _ hy (HBY.out w5 BV)).mono ?_
          rintro e v1 ⟨a5, c5, ms, n, rfl, hn, hml, hM, d1⟩
          have Q1 : Hid _ := implOpen_any a5 c5 ms n v1 (by omega) hM
          have Q2 : Hid (∀ V : World, Below v1.heap.size v1 V → _) := fun V h => specOpen_any a5 c5 ms n V (by omega) (hM.below h)
          have hol := PN.openL_len ms n (by omega)
          obtain ⟨OL, hOL⟩ : ∃ OL, PN.openL ms n = OL := ⟨_, rfl⟩
          obtain ⟨OO, hOO⟩ : ∃ OO, PN.openOk ms n = OO := ⟨_, rfl⟩
          rw [hOL, hOO] at Q1 Q2
          rw [hOL] at hol
          clear hM hOL hOO
          go_wp2_with fail
          refine Calls.mono Q1.out ?_
          rintro e v2 ⟨a6, c6, rfl, o6, d2⟩
          have I6 : Hid (M4.IntsAt v2 a6 OL) := M5.own_ints o6
          clear Q1 o6
          go_wp2_with fail
          refine Calls.mono (Q2.out v2 d2) ?_
          rintro e v3 ⟨a7, c7, rfl, o7, d3⟩
          have I7 : Hid (M4.IntsAt v3 a7 OL) := M5.own_ints o7
          have I63 : Hid (M4.IntsAt v3 a6 OL) := M4.IntsAt.below I6.out d3
          have z1 := BV.size
          have z2 := d1.size
          have z3 := d2.size
          have z4 := d3.size
          have B3 : Below w.heap.size w v3 := ((BV.trans (d1.mono z1)).trans (d2.mono (by omega))).trans (d3.mono (by omega))
          clear Q2 o7 I6 d1 d2 d3 BV
          go_wp2_with fail
          refine (drawUses_any a' ys cb _ hy (HBY.out v3 B3)).mono ?_
          rintro e v4 ⟨a8, c8, us, a9, c9, os, rfl, hul, hol2, hU, hO, d4⟩
          have S1 : Hid _ := implUses_any a8 a9 c8 c9 us os v4 (by omega) (by omega) hU hO
          have S2 : Hid (∀ V : World, Below v4.heap.size v4 V → _) := fun V h => specUses_any a8 a9 c8 c9 us os V (by omega) (by omega) (hU.below h) (hO.below h)
          obtain ⟨UR, hUR⟩ : ∃ UR, PN.usesR us os = UR := ⟨_, rfl⟩
          obtain ⟨UO, hUO⟩ : ∃ UO, PN.usesOk us os = UO := ⟨_, rfl⟩
          rw [hUR, hUO] at S1 S2
          have I4 : Hid (∀ V : World, Below v4.heap.size v4 V → M4.IntsAt V a6 OL ∧ M4.IntsAt V a7 OL) := fun V h => ⟨(M4.IntsAt.below I63.out d4).below h, (M4.IntsAt.below I7.out d4).below h⟩
          have z5 := d4.size
          have B4 : Below w.heap.size w v4 := B3.trans (d4.mono (by omega))
          clear hU hO hUR hUO I63 I7 d4 B3 HBY
          go_wp2_with fail
          refine Calls.mono S1.out ?_
          rintro e v5 ⟨rfl, d5⟩
          clear S1
          go_wp2_with fail
          refine Calls.mono (S2.out v5 d5) ?_
          rintro e v6 ⟨rfl, d6⟩
          have z6 := d5.size
          have z7 := d6.size
          have d46 : Below v4.heap.size v4 v6 := d5.trans (d6.mono z6)
          obtain ⟨J6, J7⟩ := I4.out v6 d46
          have SA : Hid _ := sameInts_any a6 a7 c6 c7 OL OL v6 (by omega) (by omega) J6 J7
          rw [decide_eq_true rfl] at SA
          have B6 : Below w.heap.size w v6 := B4.trans (d46.mono (by omega))
          have u1 : (OO == OO) = true := by simp
          have u2 : (UO == UO) = true := by simp
          have u3 : (UR == UR) = true := by simp
          clear S2 I4 J6 J7 d5 d6 d46 B4
          go_wp2_with fail
          refine Calls.mono SA.out ?_
          rintro e v7 ⟨rfl, d7⟩
          go_wp2
          go_ret
          exact ⟨by simp, B6.trans (d7.mono (by omega))⟩
      · have km : decide (m < 1000) = false := decide_eq_false hm
        clear HL
        have BV : Below w.heap.size w w4 := BW.trans (b14.mono BW.size)
        clear P1 P2 P3 HQ
        go_wp2_with fail
        refine (drawOpenAt_any a' ys cb _ hy (HBY.out w4 BV)).mono ?_
        rintro e v1 ⟨a5, c5, ms, n, rfl, hn, hml, hM, d1⟩
        have Q1 : Hid _ := implOpen_any a5 c5 ms n v1 (by omega) hM
        have Q2 : Hid (∀ V : World, Below v1.heap.size v1 V → _) := fun V h => specOpen_any a5 c5 ms n V (by omega) (hM.below h)
        have hol := PN.openL_len ms n (by omega)
        obtain ⟨OL, hOL⟩ : ∃ OL, PN.openL ms n = OL := ⟨_, rfl⟩
        obtain ⟨OO, hOO⟩ : ∃ OO, PN.openOk ms n = OO := ⟨_, rfl⟩
        rw [hOL, hOO] at Q1 Q2
        rw [hOL] at hol
        clear hM hOL hOO
        go_wp2_with fail
        refine Calls.mono Q1.out ?_
        rintro e v2 ⟨a6, c6, rfl, o6, d2⟩
        have I6 : Hid (M4.IntsAt v2 a6 OL) := M5.own_ints o6
        clear Q1 o6
        go_wp2_with fail
        refine Calls.mono (Q2.out v2 d2) ?_
        rintro e v3 ⟨a7, c7, rfl, o7, d3⟩
        have I7 : Hid (M4.IntsAt v3 a7 OL) := M5.own_ints o7
        have I63 : Hid (M4.IntsAt v3 a6 OL) := M4.IntsAt.below I6.out d3
        have z1 := BV.size
        have z2 := d1.size
        have z3 := d2.size
        have z4 := d3.size
        have B3 : Below w.heap.size w v3 := ((BV.trans (d1.mono z1)).trans (d2.mono (by omega))).trans (d3.mono (by omega))
        clear Q2 o7 I6 d1 d2 d3 BV
        go_wp2_with fail
        refine (drawUses_any a' ys cb _ hy (HBY.out v3 B3)).mono ?_
        rintro e v4 ⟨a8, c8, us, a9, c9, os, rfl, hul, hol2, hU, hO, d4⟩
        have S1 : Hid _ := implUses_any a8 a9 c8 c9 us os v4 (by omega) (by omega) hU hO
        have S2 : Hid (∀ V : World, Below v4.heap.size v4 V → _) := fun V h => specUses_any a8 a9 c8 c9 us os V (by omega) (by omega) (hU.below h) (hO.below h)
        obtain ⟨UR, hUR⟩ : ∃ UR, PN.usesR us os = UR := ⟨_, rfl⟩
        obtain ⟨UO, hUO⟩ : ∃ UO, PN.usesOk us os = UO := ⟨_, rfl⟩
        rw [hUR, hUO] at S1 S2
        have I4 : Hid (∀ V : World, Below v4.heap.size v4 V → M4.IntsAt V a6 OL ∧ M4.IntsAt V a7 OL) := fun V h => ⟨(M4.IntsAt.below I63.out d4).below h, (M4.IntsAt.below I7.out d4).below h⟩
        have z5 := d4.size
        have B4 : Below w.heap.size w v4 := B3.trans (d4.mono (by omega))
        clear hU hO hUR hUO I63 I7 d4 B3 HBY
        go_wp2_with fail
        refine Calls.mono S1.out ?_
        rintro e v5 ⟨rfl, d5⟩
        clear S1
        go_wp2_with fail
        refine Calls.mono (S2.out v5 d5) ?_
        rintro e v6 ⟨rfl, d6⟩
        have z6 := d5.size
        have z7 := d6.size
        have d46 : Below v4.heap.size v4 v6 := d5.trans (d6.mono z6)
        obtain ⟨J6, J7⟩ := I4.out v6 d46
        have SA : Hid _ := sameInts_any a6 a7 c6 c7 OL OL v6 (by omega) (by omega) J6 J7
        rw [decide_eq_true rfl] at SA
        have B6 : Below w.heap.size w v6 := B4.trans (d46.mono (by omega))
        have u1 : (OO == OO) = true := by simp
        have u2 : (UO == UO) = true := by simp
        have u3 : (UR == UR) = true := by simp
        clear S2 I4 J6 J7 d5 d6 d46 B4
        go_wp2_with fail
        refine Calls.mono SA.out ?_
        rintro e v7 ⟨rfl, d7⟩
        go_wp2
        go_ret
        exact ⟨by simp, B6.trans (d7.mono (by omega))⟩
  · go_enter Try.func4, Try.ntmps4
    go_wp2
    go_ret
    exact ⟨rfl, Below.refl _ _⟩
end Go.Proofs.Ytlkjlechojgnbaa
