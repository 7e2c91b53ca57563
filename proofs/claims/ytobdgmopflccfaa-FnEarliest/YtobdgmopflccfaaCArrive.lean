/- ArriveBy, the specification's and the program's. -/
import Derived.Test.YtobdgmopflccfaaRows
import Derived.Test.YtobdgmopflccfaaMPA
import Derived.Test.YtobdgmopflccfaaC6RowS
import Derived.Test.YtobdgmopflccfaaCSmall6
import Derived.WalkKit
import Derived.WalkSpells
import Derived.WalkLawsBesides
import Derived.Outline
import Derived.Deep.RegionHeld3
namespace Go.Proofs.Ytobdgmopflccfaa
open Go.RowKit
/-- What l6Over tells. -/
def PN.ov (c : I5) (n : Int) : Int := if c.a3 ≤ n then -1 else max n c.a2 + c.a4
set_option maxHeartbeats 800000 in
set_option maxRecDepth 100000 in
theorem l6Over_any (c : I5) (n : Int) (w : World) (hc : PN.Good c) (h0 : 0 ≤ n) (h1 : n ≤ 1048576) :
    Calls Try.prog 42 #[c.v, .int .i64 n] w fun e w' => e = .returned (.int .i64 (PN.ov c n)) ∧ Below w.heap.size w w' := by
  have hB : ∀ o, Below w.heap.size w (w.alloc o) := fun o => (Below.refl _ w).alloc (Nat.le_refl _) o
  obtain ⟨f0, f1, t0, t1, ne, e0, e1, s0, s1, d0, d1⟩ := hc
  obtain ⟨r, hr⟩ : ∃ r, PN.ov c n = r := ⟨_, rfl⟩
  rw [hr]
  obtain ⟨x0, x1, x2, x3, x4⟩ := c
  simp only [PN.ov] at *
  by_cases hl : x3 ≤ n
  · rw [if_pos hl] at hr
    subst hr
    go_enter Try.func42, Try.ntmps42
    go_wp2
    go_ret
    exact ⟨rfl, hB _⟩
  · rw [if_neg hl] at hr
    by_cases h2 : n < x2
    · obtain rfl : r = x2 + x4 := by omega
      clear hr
      go_enter Try.func42, Try.ntmps42
      go_wp2
      go_ret
      exact ⟨rfl, hB _⟩
    · obtain rfl : r = n + x4 := by omega
      clear hr
      go_enter Try.func42, Try.ntmps42
      go_wp2
      go_ret
      exact ⟨rfl, hB _⟩
set_option maxHeartbeats 800000 in
set_option maxRecDepth 100000 in
theorem isStart_any (a : Option Addr) (ca : Nat) (xs : List I5) (f n : Int) (w : World) (hn : xs.length ≤ 1048576) (hin : MI5.RowAt w a xs) :
    Calls Try.prog 27 #[.slice a xs.length ca, .int .i64 f, .int .i64 n] w fun e w' => e = .returned (.bool (PN.startOk xs f n)) ∧ Below w.heap.size w w' := by
  have GP : Hid (∀ W : World, MI5.RowAt W a xs → Calls Try.prog 9 #[.slice a xs.length ca] W fun e w' => e = .returned (.bool (PN.okP xs)) ∧ Below W.heap.size W w') := fun W h => implGoodPlan_any a ca xs W hn h _ rfl
  have HI : Hid (MI5.RowAt w a xs) := hin
  have NI : Hid (∀ W : World, Calls Try.prog 35 #[.int .i64 f] W fun e w' => e = .returned (.bool (decide (0 ≤ f ∧ f ≤ 7))) ∧ W = w') := fun W => nodeI_any f W
  have WI : Hid (∀ W : World, Calls Try.prog 46 #[.int .i64 n] W fun e w' => e = .returned (.bool (decide (0 ≤ n ∧ n ≤ 1000))) ∧ W = w') := fun W => whenI_any n W
  clear hin
  obtain ⟨R, hR⟩ : ∃ R, PN.startOk xs f n = R := ⟨_, rfl⟩
  rw [hR]
  simp only [PN.startOk] at hR
  generalize decide (0 ≤ f ∧ f ≤ 7) = q1 at *
  generalize decide (0 ≤ n ∧ n ≤ 1000) = q2 at *
  generalize PN.okP xs = q0 at *
  have HR : Hid _ := hR
  clear hR
  go_enter Try.func27, Try.ntmps27
  go_wp2_with fail
  refine (GP.out _ HI.out).mono ?_
  rintro e w1 ⟨rfl, hb1⟩
  clear GP HI
  cases q0 with
  | false =>
    obtain rfl : R = false := by rw [← HR.out]; rfl
    go_wp2
    go_ret
    exact ⟨rfl, hb1⟩
  | true =>
    go_wp2_with fail
    refine (NI.out _).mono ?_
    rintro e w' ⟨rfl, rfl⟩
    cases q1 with
    | false =>
      obtain rfl : R = false := by rw [← HR.out]; rfl
      go_wp2
      go_ret
      exact ⟨rfl, hb1⟩
    | true =>
      go_wp2_with fail
      refine (WI.out _).mono ?_
      rintro e w' ⟨rfl, rfl⟩
      obtain rfl : R = q2 := by rw [← HR.out]; rfl
      go_wp2
      go_ret
      exact ⟨rfl, hb1⟩
theorem PN.ov_no {c : I5} {n : Int} (h : c.a3 ≤ n) : PN.ov c n = -1 ∧ PN.arr c (.fin n) = .inf := by simp [PN.ov, PN.arr, h]
theorem PN.ov_yes {c : I5} {n : Int} (h : ¬ c.a3 ≤ n) : PN.arr c (.fin n) = .fin (PN.ov c n) := by simp [PN.ov, PN.arr, h]
set_option linter.unusedSimpArgs false in
set_option maxHeartbeats 1600000 in
set_option maxRecDepth 100000 in
theorem specArrive_any (a b : Option Addr) (ca cb : Nat) (xs : List I5) (f n : Int) (os : List Int) (w : World) (hn : xs.length ≤ 1048576) (ho : os.length ≤ 1048576) (hin : MI5.RowAt w a xs) (hos : M4.IntsAt w b os) :
    Calls Try.prog 14 #[.slice a xs.length ca, .int .i64 f, .int .i64 n, .slice b os.length cb] w fun e w' => e = .returned (.tuple #[.int .i64 (PN.tellN (PN.arrM xs f n os)), .bool (PN.tellB (PN.arrM xs f n os))]) ∧ Below w.heap.size w w' := by
  have GP : Hid (∀ W : World, MI5.RowAt W a xs → Calls Try.prog 10 #[.slice a xs.length ca] W fun e w' => e = .returned (.bool (PN.okP xs)) ∧ Below W.heap.size W w') := fun W h => specGoodPlan_any a ca xs W hn h _ rfl
  have RW : Hid (∀ W : World, MI5.RowAt W a xs → M4.IntsAt W b os → Calls Try.prog 41 #[.slice a xs.length ca, .slice b os.length cb] W fun e w' => e = .returned (.bool (PN.rowB xs os)) ∧ Below W.heap.size W w') := fun W h1 h2 => l6Row_any a b ca cb xs os W hn ho h1 h2 _ rfl
  have NI : Hid (∀ W : World, Calls Try.prog 30 #[.int .i64 f] W fun e w' => e = .returned (.bool (decide (0 ≤ f ∧ f ≤ 7))) ∧ W = w') := fun W => nodeS_any f W
  have WI : Hid (∀ W : World, Calls Try.prog 31 #[.int .i64 n] W fun e w' => e = .returned (.bool (decide (0 ≤ n ∧ n ≤ 1000))) ∧ W = w') := fun W => whenS_any n W
  have HI : Hid (MI5.RowAt w a xs) := hin
  have HO : Hid (M4.IntsAt w b os) := hos
  clear hin hos
  obtain ⟨N, hN⟩ : ∃ N, PN.tellN (PN.arrM xs f n os) = N := ⟨_, rfl⟩
  obtain ⟨T, hT⟩ : ∃ T, PN.tellB (PN.arrM xs f n os) = T := ⟨_, rfl⟩
  have NO : Hid (PN.wayOk xs f n os = false → N = 0 ∧ T = false) := fun h => by rw [← hN, ← hT, PN.arrM_no h]; exact ⟨rfl, rfl⟩
  have YES : Hid (PN.wayOk xs f n os = true → N = PN.tellN (PN.mo xs os n os.length) ∧ T = PN.tellB (PN.mo xs os n os.length)) := fun h => by rw [← hN, ← hT, PN.arrM_yes h]; exact ⟨rfl, rfl⟩
  rw [hN, hT]
  clear hN hT
  obtain ⟨q1, h1⟩ : ∃ q, decide (0 ≤ f ∧ f ≤ 7) = q := ⟨_, rfl⟩
  obtain ⟨q2, h2⟩ : ∃ q, decide (0 ≤ n ∧ n ≤ 1000) = q := ⟨_, rfl⟩
  obtain ⟨q0, h0⟩ : ∃ q, PN.okP xs = q := ⟨_, rfl⟩
  obtain ⟨q3, h3⟩ : ∃ q, PN.rowB xs os = q := ⟨_, rfl⟩
  have hS : PN.startOk xs f n = (q0 && q1 && q2) := by rw [← h0, ← h1, ← h2]; rfl
  have hW : PN.wayOk xs f n os = (q0 && q1 && q2 && q3 && PN.headOk xs f os) := by rw [← h3, ← hS]; rfl
  rw [h0] at GP
  rw [h1] at NI
  rw [h2] at WI
  rw [h3] at RW
  have HW : Hid _ := hW
  have H0 : Hid _ := h0
  have H2 : Hid _ := h2
  have H3 : Hid _ := h3
  clear h0 h1 h2 h3 hS hW
  go_enter Try.func14, Try.ntmps14
  go_wp2_with fail
  refine (GP.out _ HI.out).mono ?_
  rintro e w1 ⟨rfl, hb1⟩
  have HI1 : Hid (MI5.RowAt w1 a xs) := HI.out.below hb1
  have HO1 : Hid (M4.IntsAt w1 b os) := M4.IntsAt.below HO.out hb1
  clear GP HI HO
  cases q0 with
  | false =>
    obtain ⟨rfl, rfl⟩ := NO.out (by rw [HW.out]; rfl)
    clear NO YES RW NI WI HW H0 H2 H3 HI1 HO1
    go_wp2
    go_ret2
    exact ⟨rfl, hb1⟩
  | true =>
    go_wp2_with fail
    refine (NI.out _).mono ?_
    rintro e w' ⟨rfl, rfl⟩
    clear NI
    cases q1 with
    | false =>
      obtain ⟨rfl, rfl⟩ := NO.out (by rw [HW.out]; rfl)
      clear NO YES RW WI HW H0 H2 H3 HI1 HO1
      go_wp2
      go_ret2
      exact ⟨rfl, hb1⟩
    | true =>
      go_wp2_with fail
      refine (WI.out _).mono ?_
      rintro e w' ⟨rfl, rfl⟩
      clear WI
      cases q2 with
      | false =>
        obtain ⟨rfl, rfl⟩ := NO.out (by rw [HW.out]; rfl)
        clear NO YES RW HW H0 H2 H3 HI1 HO1
        go_wp2
        go_ret2
        exact ⟨rfl, hb1⟩
      | true =>
        go_wp2_with fail
        refine (RW.out _ HI1.out HO1.out).mono ?_
        rintro e w2 ⟨rfl, hb2⟩
        have hB2 := hb1.trans (hb2.mono hb1.size)
        have HI2 : Hid (MI5.RowAt w2 a xs) := HI1.out.below hb2
        have HO2 : Hid (M4.IntsAt w2 b os) := M4.IntsAt.below HO1.out hb2
        clear RW HI1 HO1 hb2
        cases q3 with
        | false =>
          obtain ⟨rfl, rfl⟩ := NO.out (by rw [HW.out]; rfl)
          clear NO YES HW H0 H2 H3 HI2 HO2
          go_wp2
          go_ret2
          exact ⟨rfl, hB2⟩
        | true =>
          obtain ⟨hIU, hCU, hl20⟩ := PN.rowB_is H3.out
          have hn01 : 0 ≤ n ∧ n ≤ 1000 := of_decide_eq_true H2.out
          have IU : Hid _ := hIU
          have GC : Hid (∀ k, k < os.length → PN.Good (PN.ofN xs (os.getD k 0))) := fun k hk => PN.good_of_in H0.out hIU hk
          have OT : Hid (∀ k, k ≤ os.length → PN.okT (PN.mo xs os n k)) := fun k hk => PN.mo_okT H0.out hIU hn01.1 hn01.2 k hk
          obtain ⟨hn0, hn1⟩ := hn01
          clear hIU hCU H0 H2 H3
          by_cases h0 : os.length = 0
          · obtain rfl : os = [] := List.eq_nil_of_length_eq_zero h0
            obtain ⟨rfl, rfl⟩ := YES.out (by rw [HW.out]; rfl)
            clear NO YES HW HI2 HO2 GC OT IU h0
            go_wp2
            refine wp_loop_rounds 1 ?_
            rw [rounds_succ]
            go_wp2
            go_ret2
            exact ⟨rfl, hB2⟩
          · have hpos : 0 < os.length := by omega
            obtain ⟨b1, off1, hb1', hlt1, hc1⟩ := M4.IntsAt.at HO2.out hpos
            obtain ⟨hp0, hp1⟩ := IU.out 0 hpos
            obtain ⟨j, hj⟩ := Int.eq_ofNat_of_zero_le hp0
            have hjl : j < xs.length := by omega
            obtain ⟨b2, off2, ha2, hlt2, d0, -⟩ := HI2.out.at hjl
            rw [hj, Nat.add_zero] at hc1
            have eo : PN.ofN xs (os.getD 0 0) = MI5.at_ xs j := by rw [hj]; rfl
            have hH : PN.headOk xs f os = decide ((MI5.at_ xs j).a0 = f) := by
              unfold PN.headOk
              have : os.isEmpty = false := by cases os; simp at hpos; rfl
              rw [this, eo, Bool.false_or]
            rw [hH] at HW
            clear hp0 hp1 hj eo hH
            generalize (MI5.at_ xs j).a0 = y at *
            by_cases hy : y = f
            · have hne : (y != f) = false := by simp [hy]
              have HY : Hid _ := YES.out (by rw [HW.out]; simp [hy])
              clear NO YES HW hy h0
              subst hb1' ha2
              go_wp2
              go_loopw [2, 11, 49] (fun tv _ iv wr => ∃ (k : Nat) (t : Int), tv = .int .i64 t ∧ iv = .int .i64 k ∧ k ≤ os.length ∧ 0 ≤ t ∧ t ≤ 1048576 ∧ Hid (PN.mo xs os n k = .fin t) ∧ Below w2.heap.size w2 wr) (fun _ _ iv _ => (os.length - intOf iv).toNat)
              case atStart => exact ⟨0, n, rfl, rfl, by omega, by omega, by omega, rfl, Below.refl _ _⟩
              case round =>
                clear hc1 d0
                obtain ⟨k, t, rfl, rfl, hk, ht0, ht1, hM, hb⟩ := hrel
                by_cases hlk : k < os.length
                · obtain ⟨b3, off3, hb3, hlt3, hc3⟩ := M4.IntsAt.at (M4.IntsAt.below HO2.out hb) hlk
                  obtain ⟨hp0, hp1⟩ := IU.out k hlk
                  obtain ⟨i, hi⟩ := Int.eq_ofNat_of_zero_le hp0
                  have hil : i < xs.length := by omega
                  obtain ⟨b4, off4, ha4, hlt4, e0, e1, e2, e3, e4⟩ := (HI2.out.below hb).at hil
                  rw [hi] at hc3
                  have eo : PN.ofN xs (os.getD k 0) = MI5.at_ xs i := by rw [hi]; rfl
                  have G := GC.out k hlk
                  have M1 : Hid (PN.mo xs os n (k + 1) = PN.arr (MI5.at_ xs i) (.fin t)) := by show PN.arr _ (PN.mo xs os n k) = _; rw [hM.out, eo]
                  have OK1 := OT.out (k + 1) hlk
                  rw [M1.out] at OK1
                  rw [eo] at G
                  clear HO2 HI2 IU GC OT hp0 hp1 hi eo hM
                  generalize MI5.at_ xs i = c at *
                  have OV : Hid (∀ W : World, Calls Try.prog 42 #[c.v, .int .i64 t] W fun e w' => e = .returned (.int .i64 (PN.ov c t)) ∧ Below W.heap.size W w') := fun W => l6Over_any c t W G ht0 ht1
                  have V1 : Hid _ := fun h => PN.ov_no (c := c) (n := t) h
                  have V2 : Hid _ := fun h => PN.ov_yes (c := c) (n := t) h
                  obtain ⟨x0, x1, x2, x3, x4⟩ := c
                  simp only [Option.some.injEq, Addr.mk.injEq, and_true] at hb3 ha4
                  obtain ⟨rfl, rfl⟩ := hb3
                  obtain ⟨rfl, rfl⟩ := ha4
                  clear G
                  go_wp2_with fail
                  refine (OV.out _).mono ?_
                  rintro e w3 ⟨rfl, hb3⟩
                  have hB3 := hb.trans (hb3.mono hb.size)
                  clear hb3 hb e0 e1 e2 e3 e4 hc3 OV
                  by_cases hx : x3 ≤ t
                  · obtain ⟨v1, v2⟩ := V1.out hx
                    rw [v2] at M1
                    rw [v1]
                    have hinf : PN.mo xs os n os.length = .inf := by
                      have := PN.mo_inf M1.out (os.length - (k + 1))
                      rw [show k + 1 + (os.length - (k + 1)) = os.length from by omega] at this; exact this
                    obtain ⟨rfl, rfl⟩ : N = 0 ∧ T = false := by rw [HY.out.1, HY.out.2, hinf]; exact ⟨rfl, rfl⟩
                    clear V1 V2 v1 v2 M1 HY hinf OK1
                    go_wp2
                    go_ret2
                    exact ⟨rfl, hB2.trans (hB3.mono hB2.size)⟩
                  · have v1 := V2.out (by omega)
                    rw [v1] at M1 OK1
                    generalize PN.ov _ t = r at *
                    obtain ⟨r0, r1⟩ : 0 ≤ r ∧ r ≤ 1048576 := OK1
                    clear V1 V2 v1 HY
                    go_wp2
                    go_roundw
                    case rel => exact ⟨k + 1, r, rfl, by go_num, by omega, r0, r1, M1, hB3⟩
                    case measure => simp [intOf]; omega
                · obtain rfl : k = os.length := by omega
                  obtain ⟨rfl, rfl⟩ : N = t ∧ T = true := by rw [HY.out.1, HY.out.2, hM.out]; exact ⟨rfl, rfl⟩
                  clear HY HI2 HO2 IU GC OT hM
                  go_wp2
                  go_ret2
                  exact ⟨rfl, hB2.trans (hb.mono hB2.size)⟩
            · have hne : (y != f) = true := by simp [hy]
              obtain ⟨rfl, rfl⟩ := NO.out (by rw [HW.out]; simp [hy])
              clear NO YES HW hy h0 HI2 HO2 IU GC OT
              subst hb1' ha2
              go_wp2
              go_ret2
              exact ⟨rfl, hB2⟩
theorem cells5 {w2 : World} {b off i : Nat} {x0 x1 x2 x3 x4 : Int} {W : World} (hb : Below W.heap.size W w2) (hl : b < W.heap.size) (c0 : W.cell? ⟨b, off + i * 5, none⟩ = some (.int .i64 x0)) (c1 : W.cell? ⟨b, off + i * 5 + 1, none⟩ = some (.int .i64 x1)) (c2 : W.cell? ⟨b, off + i * 5 + 2, none⟩ = some (.int .i64 x2)) (c3 : W.cell? ⟨b, off + i * 5 + 3, none⟩ = some (.int .i64 x3)) (c4 : W.cell? ⟨b, off + i * 5 + 4, none⟩ = some (.int .i64 x4)) :
    w2.cell? ⟨b, off + i * 5, none⟩ = some (.int .i64 x0) ∧ w2.cell? ⟨b, off + i * 5 + 1, none⟩ = some (.int .i64 x1) ∧ w2.cell? ⟨b, off + i * 5 + 2, none⟩ = some (.int .i64 x2) ∧ w2.cell? ⟨b, off + i * 5 + 3, none⟩ = some (.int .i64 x3) ∧ w2.cell? ⟨b, off + i * 5 + 4, none⟩ = some (.int .i64 x4) :=
  ⟨(hb.cell (p := ⟨b, _, none⟩) hl).trans c0, (hb.cell (p := ⟨b, _, none⟩) hl).trans c1, (hb.cell (p := ⟨b, _, none⟩) hl).trans c2, (hb.cell (p := ⟨b, _, none⟩) hl).trans c3, (hb.cell (p := ⟨b, _, none⟩) hl).trans c4⟩
set_option linter.unusedSimpArgs false in
set_option maxHeartbeats 3200000 in
set_option maxRecDepth 100000 in
theorem implArrive_any (a b : Option Addr) (ca cb : Nat) (xs : List I5) (f n : Int) (os : List Int) (w : World) (hn : xs.length ≤ 1048576) (ho : os.length ≤ 1048576) (hin : MI5.RowAt w a xs) (hos : M4.IntsAt w b os) :
    Calls Try.prog 12 #[.slice a xs.length ca, .int .i64 f, .int .i64 n, .slice b os.length cb] w fun e w' => e = .returned (.tuple #[.int .i64 (PN.tellN (PN.arrM xs f n os)), .bool (PN.tellB (PN.arrM xs f n os))]) ∧ Below w.heap.size w w' := by
  have ST : Hid (∀ W : World, MI5.RowAt W a xs → Calls Try.prog 27 #[.slice a xs.length ca, .int .i64 f, .int .i64 n] W fun e w' => e = .returned (.bool (PN.startOk xs f n)) ∧ Below W.heap.size W w') := fun W h => isStart_any a ca xs f n W hn h
  have AP : Hid (∀ W : World, M4.IntsAt W b os → Calls Try.prog 37 #[.slice a xs.length ca, .slice b os.length cb] W fun e w' => e = .returned (.bool (decide (os.length ≤ 20) && PN.inP xs.length os)) ∧ Below W.heap.size W w') := fun W h2 => areOfPlan_any a b ca cb xs.length os W hn ho h2 _ rfl
  have HI : Hid (MI5.RowAt w a xs) := hin
  have HO : Hid (M4.IntsAt w b os) := hos
  clear hin hos
  obtain ⟨N, hN⟩ : ∃ N, PN.tellN (PN.arrM xs f n os) = N := ⟨_, rfl⟩
  obtain ⟨T, hT⟩ : ∃ T, PN.tellB (PN.arrM xs f n os) = T := ⟨_, rfl⟩
  have NO : Hid (PN.wayOk xs f n os = false → N = 0 ∧ T = false) := fun h => by rw [← hN, ← hT, PN.arrM_no h]; exact ⟨rfl, rfl⟩
  have YES : Hid (PN.wayOk xs f n os = true → N = PN.tellN (PN.mo xs os n os.length) ∧ T = PN.tellB (PN.mo xs os n os.length)) := fun h => by rw [← hN, ← hT, PN.arrM_yes h]; exact ⟨rfl, rfl⟩
  rw [hN, hT]
  clear hN hT
  go_enter Try.func12, Try.ntmps12
  go_wp2_with fail
  refine (ST.out _ HI.out).mono ?_
  rintro e w1 ⟨rfl, hb1⟩
  have HI1 : Hid (MI5.RowAt w1 a xs) := HI.out.below hb1
  have HO1 : Hid (M4.IntsAt w1 b os) := M4.IntsAt.below HO.out hb1
  clear ST HI HO
  cases hs : PN.startOk xs f n with
  | false =>
    obtain ⟨rfl, rfl⟩ := NO.out (by simp [PN.wayOk, hs])
    clear NO YES AP HI1 HO1 hs
    go_wp2
    go_ret2
    exact ⟨rfl, hb1⟩
  | true =>
    go_wp2_with fail
    refine (AP.out _ HO1.out).mono ?_
    rintro e w2 ⟨rfl, hb2⟩
    have hB2 := hb1.trans (hb2.mono hb1.size)
    have HI2 : Hid (MI5.RowAt w2 a xs) := HI1.out.below hb2
    have HO2 : Hid (M4.IntsAt w2 b os) := M4.IntsAt.below HO1.out hb2
    clear AP HI1 HO1 hb2
    cases hap : (decide (os.length ≤ 20) && PN.inP xs.length os) with
    | false =>
      obtain ⟨rfl, rfl⟩ := NO.out (by
        have : PN.rowB xs os = false := by
          rw [Bool.and_eq_false_iff] at hap
          unfold PN.rowB
          rcases hap with h | h
          · rw [h]; simp
          · rw [h]; simp
        simp [PN.wayOk, this])
      clear NO YES HI2 HO2 hs hap
      go_wp2
      go_ret2
      exact ⟨rfl, hB2⟩
    | true =>
      obtain ⟨hl20, hI⟩ : os.length ≤ 20 ∧ PN.inP xs.length os = true := by simpa using hap
      obtain ⟨hok, -, -, hn0, hn1⟩ := PN.start_is hs
      have IU : Hid _ := (PN.inP_iff _ _).1 hI
      have GC : Hid (∀ k, k < os.length → PN.Good (PN.ofN xs (os.getD k 0))) := fun k hk => PN.good_of_in hok IU.out hk
      have OT : Hid (∀ k, k ≤ os.length → PN.okT (PN.mo xs os n k)) := fun k hk => PN.mo_okT hok IU.out hn0 hn1 k hk
      have GO : Hid (PN.goUp xs f os os.length → PN.wayOk xs f n os = true) := fun h => PN.way_go hs hI hl20 h
      have GN : Hid (∀ k, k < os.length → (PN.ofN xs (os.getD k 0)).a0 ≠ PN.nodeAt xs f os k → PN.wayOk xs f n os = false) := fun k hk h => PN.way_no hk h
      clear hap hI hok hs
      go_wp2_with fail
      go_loopw [10, 11, 13, 30] (fun nv mv _ iv wr => ∃ (k : Nat) (y : Int) (m : Nat), nv = .int .i64 y ∧ mv = .float .f64 m ∧ iv = .int .i64 k ∧ k ≤ os.length ∧ Hid (PN.nodeAt xs f os k = y) ∧ Hid ((PN.mo xs os n k).b = m) ∧ Hid (PN.goUp xs f os k) ∧ Below w2.heap.size w2 wr) (fun _ _ _ iv _ => (os.length - intOf iv).toNat)
      case atStart => exact ⟨0, f, _, rfl, rfl, rfl, by omega, rfl, rfl, show Hid _ from fun i hi => by omega, Below.refl _ _⟩
      case round =>
        obtain ⟨k, y, m, rfl, rfl, rfl, hk, hY, hM, hG, hb⟩ := hrel
        by_cases hlk : k < os.length
        · obtain ⟨b3, off3, hb3, hlt3, hc3⟩ := M4.IntsAt.at (M4.IntsAt.below HO2.out hb) hlk
          obtain ⟨hp0, hp1⟩ := IU.out k hlk
          obtain ⟨i, hi⟩ := Int.eq_ofNat_of_zero_le hp0
          have hil : i < xs.length := by omega
          obtain ⟨b4, off4, ha4, hlt4, e0, e1, e2, e3, e4⟩ := (HI2.out.below hb).at hil
          rw [hi] at hc3
          have eo : PN.ofN xs (os.getD k 0) = MI5.at_ xs i := by rw [hi]; rfl
          have G := GC.out k hlk
          have M1 : Hid ((PN.mo xs os n (k + 1)).b = (PN.arr (MI5.at_ xs i) (PN.mo xs os n k)).b) := by show (PN.arr _ (PN.mo xs os n k)).b = _; rw [eo]
          have Y1 : Hid (PN.nodeAt xs f os (k + 1) = (MI5.at_ xs i).a1) := by show (PN.ofN xs _).a1 = _; rw [eo]
          have NG : Hid ((MI5.at_ xs i).a0 ≠ y → PN.wayOk xs f n os = false) := fun h => GN.out k hlk (by rw [eo, hY.out]; exact h)
          have YG : Hid ((MI5.at_ xs i).a0 = y → PN.goUp xs f os (k + 1)) := fun h => PN.goUp_succ hG.out (by rw [eo, hY.out]; exact h)
          have OK0 := OT.out k hk
          rw [eo] at G
          have AR : Hid (∀ W : World, Calls Try.prog 38 #[(MI5.at_ xs i).v, .float .f64 m] W fun e w' => e = .returned (.float .f64 (PN.arr (MI5.at_ xs i) (PN.mo xs os n k)).b) ∧ Below W.heap.size W w') := fun W => by rw [← hM.out]; exact arrival_any _ _ W G OK0
          generalize (PN.arr (MI5.at_ xs i) (PN.mo xs os n k)).b = m' at *
          clear hp0 hp1 hi eo hM G OK0 hG hY
          generalize MI5.at_ xs i = c at *
          obtain ⟨x0, x1, x2, x3, x4⟩ := c
          simp only at Y1 NG YG
          subst hb3 ha4
          by_cases hx : x0 = y
          · have hne : (x0 != y) = false := by simp [hx]
            have hG1 : Hid _ := YG.out hx
            clear NG YG hx HO2 HI2 IU GC OT GN
            go_wp2_with fail
            go_region_held3 (fun w' => w'.cell? ⟨b4, off4 + i * 5, none⟩ = some (.int .i64 x0) ∧ w'.cell? ⟨b4, off4 + i * 5 + 1, none⟩ = some (.int .i64 x1) ∧ w'.cell? ⟨b4, off4 + i * 5 + 2, none⟩ = some (.int .i64 x2) ∧ w'.cell? ⟨b4, off4 + i * 5 + 3, none⟩ = some (.int .i64 x3) ∧ w'.cell? ⟨b4, off4 + i * 5 + 4, none⟩ = some (.int .i64 x4)) (first | assumption | go_keep) (first | (go_at_call 38; refine Calls.mono (AR.out _) ?_; rintro e w3 ⟨rfl, hb3⟩; obtain ⟨p0, p1, p2, p3, p4⟩ := cells5 hb3 (by simpa using hlt4) (by simpa using e0) (by simpa using e1) (by simpa using e2) (by simpa using e3) (by simpa using e4)))
            have hB3 : Below w2.heap.size w2 w3 := hb.drew.trans (hb3.mono (by have := hb.size; simpa using this))
            clear p0 p1 p2 p3 p4 e0 e1 e2 e3 e4 hb3 AR hb
            go_wp2
            go_roundw
            case rel => exact ⟨k + 1, x1, m', rfl, rfl, by go_num, by omega, Y1, M1, hG1, hB3⟩
            case measure => simp [intOf]; omega
          · have hne : (x0 != y) = true := by simp [hx]
            obtain ⟨rfl, rfl⟩ := NO.out (NG.out hx)
            clear NG YG hx HO2 HI2 IU GC OT GN GO NO YES AR M1 Y1
            go_wp2
            go_ret2
            exact ⟨rfl, hB2.trans (hb.mono hB2.size)⟩
        · obtain rfl : k = os.length := by omega
          obtain ⟨hN, hT⟩ := YES.out (GO.out hG.out)
          have TL : Hid (∀ W : World, Calls Try.prog 29 #[.float .f64 m] W fun e w' => e = .returned (.tuple #[.int .i64 (PN.tellN (PN.mo xs os n os.length)), .bool (PN.tellB (PN.mo xs os n os.length))]) ∧ W = w') := fun W => by rw [← hM.out]; exact tell_any _ W (.inr (OT.out _ (Nat.le_refl _)))
          clear HO2 HI2 IU GC OT GN GO NO YES hY hM hG
          rw [← hN, ← hT] at TL
          clear hN hT
          go_wp2_with fail
          refine (TL.out _).mono ?_
          rintro e w' ⟨rfl, rfl⟩
          clear TL
          go_wp2
          go_ret2
          exact ⟨rfl, hB2.trans (hb.mono hB2.size)⟩
end Go.Proofs.Ytobdgmopflccfaa
