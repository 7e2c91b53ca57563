/- LatestFor, the specification's. -/
import Derived.Test.YtobdgmopflccfaaRows
import Derived.Test.YtobdgmopflccfaaC6Search
import Derived.Test.YtobdgmopflccfaaM6L
import Derived.WalkKit
import Derived.WalkSpells
import Derived.WalkLawsBesides
import Derived.Outline
namespace Go.Proofs.Ytobdgmopflccfaa
open Go.RowKit
namespace PN
def askL (xs : List I5) (f t b : Int) : Bool := okP xs && decide (0 ≤ f ∧ f ≤ 7) && decide (0 ≤ t ∧ t ≤ 7) && decide (0 ≤ b ∧ b ≤ 2000)
noncomputable def latR (xs : List I5) (f t b : Int) : Option Int := if askL xs f t b = true then latA xs t.toNat b f.toNat else none
theorem latR_no {xs : List I5} {f t b : Int} (h : askL xs f t b = false) : latR xs f t b = none := by simp [latR, h]
theorem latR_yes {xs : List I5} {f t b : Int} (h : askL xs f t b = true) : latR xs f t b = latA xs t.toNat b f.toNat := by simp [latR, h]
theorem askL_is {xs : List I5} {f t b : Int} (h : askL xs f t b = true) : okP xs = true ∧ 0 ≤ f ∧ f ≤ 7 ∧ 0 ≤ t ∧ t ≤ 7 ∧ 0 ≤ b ∧ b ≤ 2000 := by
  simp only [askL, Bool.and_eq_true, decide_eq_true_eq] at h
  exact ⟨h.1.1.1, h.1.1.2.1, h.1.1.2.2, h.1.2.1, h.1.2.2, h.2.1, h.2.2⟩
end PN
set_option maxHeartbeats 400000 in
set_option maxRecDepth 100000 in
theorem l1In6_any (n : Int) (w : World) : Calls Try.prog 34 #[.int .i64 n, .int .i64 0, .int .i64 2000] w fun e w' => e = .returned (.bool (decide (0 ≤ n ∧ n ≤ 2000))) ∧ w = w' := by
  by_cases h1 : 0 ≤ n
  · go_enter Try.func34, Try.ntmps34
    go_wp2
    go_ret
    exact ⟨retB6 (by simp [h1]), rfl⟩
  · go_enter Try.func34, Try.ntmps34
    go_wp2
    go_ret
    exact ⟨retB6 (by rw [decide_eq_false (by omega : ¬ 0 ≤ n)]; rfl), rfl⟩
set_option linter.unusedSimpArgs false in
set_option maxHeartbeats 3200000 in
set_option maxRecDepth 100000 in
theorem specLatest_any (a : Option Addr) (ca : Nat) (xs : List I5) (f t b : Int) (w : World) (hn : xs.length ≤ 1048576) (hin : MI5.RowAt w a xs) :
    Calls Try.prog 17 #[.slice a xs.length ca, .int .i64 f, .int .i64 t, .int .i64 b] w fun e w' => e = .returned (.tuple #[.int .i64 ((PN.latR xs f t b).getD 0), .bool (PN.latR xs f t b).isSome]) ∧ Below w.heap.size w w' := by
  have GP : Hid (∀ W : World, MI5.RowAt W a xs → Calls Try.prog 10 #[.slice a xs.length ca] W fun e w' => e = .returned (.bool (PN.okP xs)) ∧ Below W.heap.size W w') := fun W h => specGoodPlan_any a ca xs W hn h _ rfl
  have NI : Hid (∀ W : World, Calls Try.prog 30 #[.int .i64 f] W fun e w' => e = .returned (.bool (decide (0 ≤ f ∧ f ≤ 7))) ∧ W = w') := fun W => nodeS_any f W
  have NT : Hid (∀ W : World, Calls Try.prog 30 #[.int .i64 t] W fun e w' => e = .returned (.bool (decide (0 ≤ t ∧ t ≤ 7))) ∧ W = w') := fun W => nodeS_any t W
  have BI : Hid (∀ W : World, Calls Try.prog 34 #[.int .i64 b, .int .i64 0, .int .i64 2000] W fun e w' => e = .returned (.bool (decide (0 ≤ b ∧ b ≤ 2000))) ∧ W = w') := fun W => l1In6_any b W
  have HI : Hid (MI5.RowAt w a xs) := hin
  clear hin
  obtain ⟨A, hA⟩ : ∃ A, PN.latR xs f t b = A := ⟨_, rfl⟩
  have NO : Hid (PN.askL xs f t b = false → A = none) := fun h => by rw [← hA, PN.latR_no h]
  have YES : Hid (PN.askL xs f t b = true → A = PN.latA xs t.toNat b f.toNat) := fun h => by rw [← hA, PN.latR_yes h]
  rw [hA]
  clear hA
  obtain ⟨q1, h1⟩ : ∃ q, decide (0 ≤ f ∧ f ≤ 7) = q := ⟨_, rfl⟩
  obtain ⟨q2, h2⟩ : ∃ q, decide (0 ≤ t ∧ t ≤ 7) = q := ⟨_, rfl⟩
  obtain ⟨q3, h3⟩ : ∃ q, decide (0 ≤ b ∧ b ≤ 2000) = q := ⟨_, rfl⟩
  obtain ⟨q0, h0⟩ : ∃ q, PN.okP xs = q := ⟨_, rfl⟩
  have hS : PN.askL xs f t b = (q0 && q1 && q2 && q3) := by rw [← h0, ← h1, ← h2, ← h3]; rfl
  rw [h0] at GP
  rw [h1] at NI
  rw [h2] at NT
  rw [h3] at BI
  have HS : Hid _ := hS
  clear h0 h1 h2 h3 hS
  go_enter Try.func17, Try.ntmps17
  go_wp2_with fail
  refine (GP.out _ HI.out).mono ?_
  rintro e w1 ⟨rfl, hb1⟩
  have HI1 : Hid (MI5.RowAt w1 a xs) := HI.out.below hb1
  clear GP HI
  cases q0 with
  | false =>
    obtain rfl := NO.out HS.out
    clear NO YES NI NT BI HS HI1
    go_wp2
    go_ret2
    exact ⟨rfl, hb1⟩
  | true =>
    go_wp2_with fail
    refine (NI.out _).mono ?_
    rintro e w' ⟨rfl, rfl⟩
    clear NI
    cases q1 with
    | false =>
      obtain rfl := NO.out HS.out
      clear NO YES NT BI HS HI1
      go_wp2
      go_ret2
      exact ⟨rfl, hb1⟩
    | true =>
      go_wp2_with fail
      refine (NT.out _).mono ?_
      rintro e w' ⟨rfl, rfl⟩
      clear NT
      cases q2 with
      | false =>
        obtain rfl := NO.out HS.out
        clear NO YES BI HS HI1
        go_wp2
        go_ret2
        exact ⟨rfl, hb1⟩
      | true =>
        go_wp2_with fail
        refine (BI.out _).mono ?_
        rintro e w' ⟨rfl, rfl⟩
        clear BI
        cases q3 with
        | false =>
          obtain rfl := NO.out HS.out
          clear NO YES HS HI1
          go_wp2
          go_ret2
          exact ⟨rfl, hb1⟩
        | true =>
          have hask : PN.askL xs f t b = true := HS.out
          obtain ⟨hok, hf0, hf1, ht0, ht1, hbb0, hbb1⟩ := PN.askL_is hask
          have HY : Hid (A = PN.latA xs t.toNat b f.toNat) := YES.out hask
          have CS : Hid (∀ (n : Int) (W : World), 0 ≤ n → n ≤ 1000 → MI5.RowAt W a xs → Calls Try.prog 32 #[.slice a xs.length ca, .int .i64 f, .int .i64 n] W fun e w' => ∃ g1 g2 c1 c2, e = .returned (.tuple #[.slice (some ⟨g1, 0, none⟩) 8 c1, .slice (some ⟨g2, 0, none⟩) 8 c2]) ∧ PN.SR W.heap.size W w' g1 g2 c1 c2 (PN.fin xs (PN.st0 f n))) := fun n W h0 h1 hr => l6Search_any a ca xs f n W hok hf0 hf1 h0 h1 hr
          have FI : Hid (∀ n : Int, 0 ≤ n → n ≤ 1000 → ((∃ y, (PN.fin xs (PN.st0 f n)).wh t.toNat = .fin y ∧ y ≤ b) ↔ PN.Rf xs t.toNat b f.toNat n)) := fun n h0 h1 => PN.front_iff hok h0 h1
          have OS : Hid (∀ n : Int, 0 ≤ n → n ≤ 1000 → PN.okS (PN.fin xs (PN.st0 f n)).wh) := fun n h0 h1 => PN.fin_okS hok (PN.st0_ok h0 h1)
          clear NO YES HS hask hok
          obtain ⟨tn, rfl⟩ := Int.eq_ofNat_of_zero_le ht0
          have ht8 : tn < 8 := by omega
          have tt8 : (tn : Int) < 8 := by omega
          rw [show ((tn : Int)).toNat = tn from rfl] at HY FI
          go_wp2
          go_loopw [10] (fun iv wr => ∃ i : Int, iv = .int .i64 i ∧ -1 ≤ i ∧ i ≤ 1000 ∧ Hid (∀ n, i < n → n ≤ 1000 → ¬ PN.Rf xs tn b f.toNat n) ∧ Below w1.heap.size w1 wr) (fun iv _ => (intOf iv + 1).toNat)
          case atStart => exact ⟨1000, rfl, by omega, by omega, show Hid _ from fun n h1 h2 => by omega, Below.refl _ _⟩
          case round =>
            obtain ⟨i, rfl, hi0, hi1, hT, hb⟩ := hrel
            by_cases hi : 0 ≤ i
            · have ok := OS.out i hi hi1 tn
              have fi := FI.out i hi hi1
              have CSi : Hid _ := CS.out i wr hi hi1 (HI1.out.below hb)
              go_wp2_with fail
              refine (CS.out i wr hi hi1 (HI1.out.below hb)).mono ?_
              rintro e w2 ⟨g1, g2, c1, c2, rfl, hR⟩
              have hci := hR.cellA ht8
              have l1 := hR.l1
              have hB2 : Below w1.heap.size w1 w2 := hb.trans (hR.bl.mono hb.size)
              have FIi : Hid _ := fi
              clear hR CSi fi CS FI OS
              cases hm : (PN.fin xs (PN.st0 f i)).wh tn with
              | ago => rw [hm] at ok; exact absurd ok id
              | inf =>
                rw [hm] at hci
                have hno : ¬ PN.Rf xs tn b f.toNat i := fun h => by obtain ⟨y, hy, _⟩ := FIi.out.2 h; rw [hm] at hy; cases hy
                have hT' : Hid (∀ n, i - 1 < n → n ≤ 1000 → ¬ PN.Rf xs tn b f.toNat n) := fun n h1 h2 => by
                  by_cases e : n = i
                  · subst e; exact hno
                  · exact hT.out n (by omega) h2
                simp only [PN.tS] at hci
                clear FIi hm ok hno hT
                go_wp2
                go_roundw
                case rel => exact ⟨i - 1, rfl, by omega, by omega, hT', hB2⟩
                case measure => simp [intOf]; omega
              | fin y =>
                rw [hm] at hci ok
                obtain ⟨y0, y1⟩ : 0 ≤ y ∧ y ≤ 1048576 := ok
                simp only [PN.tS] at hci
                by_cases hyb : y ≤ b
                · have hyes : PN.Rf xs tn b f.toNat i := FIi.out.1 ⟨y, hm, hyb⟩
                  obtain rfl : A = some i := by rw [HY.out]; exact PN.latA_some ⟨hi, hi1, hyes, hT.out⟩
                  clear FIi hm hyes hT HY
                  go_wp2
                  go_ret2
                  exact ⟨rfl, hb1.trans (hB2.mono hb1.size)⟩
                · have hno : ¬ PN.Rf xs tn b f.toNat i := fun h => by
                    obtain ⟨y', hy, hle⟩ := FIi.out.2 h
                    rw [hm] at hy
                    simp only [FL.Mo.fin.injEq] at hy
                    omega
                  have hT' : Hid (∀ n, i - 1 < n → n ≤ 1000 → ¬ PN.Rf xs tn b f.toNat n) := fun n h1 h2 => by
                    by_cases e : n = i
                    · subst e; exact hno
                    · exact hT.out n (by omega) h2
                  clear FIi hm hno hT
                  go_wp2
                  go_roundw
                  case rel => exact ⟨i - 1, rfl, by omega, by omega, hT', hB2⟩
                  case measure => simp [intOf]; omega
            · obtain rfl : A = none := by rw [HY.out]; exact PN.latA_none fun n h1 h2 => hT.out n (by omega) h2
              clear HY hT CS FI OS
              go_wp2
              go_ret2
              exact ⟨rfl, hb1.trans (hb.mono hb1.size)⟩
end Go.Proofs.Ytobdgmopflccfaa
