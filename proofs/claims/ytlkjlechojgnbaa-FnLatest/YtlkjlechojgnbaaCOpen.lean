/- OpenAt, the specification's and the program's, at any plan and time. -/
import Derived.Test.YtlkjlechojgnbaaRows
import Derived.Test.YtlkjlechojgnbaaM5
import Derived.Test.YtlkjlechojgnbaaCSmall6
import Derived.Test.YtlkjlechojgnbaaMInfo
import Derived.WalkKit
import Derived.WalkSpells
import Derived.WalkLawsBesides
import Derived.Outline
namespace Go.Proofs.Ytlkjlechojgnbaa
open Go.RowKit
namespace PN
/-- Whether a contact is open at a time. -/
def openC (at_ : Int) (c : I5) : Bool := decide (c.a2 ≤ at_ ∧ at_ < c.a3)
/-- The numbers of the first k contacts that are open. -/
def openUp (xs : List I5) (at_ : Int) : Nat → List Int
  | 0 => []
  | k + 1 => openUp xs at_ k ++ (if openC at_ (MI5.at_ xs k) = true then [(k : Int)] else [])
theorem openUp_len (xs : List I5) (at_ : Int) (k : Nat) : (openUp xs at_ k).length ≤ k := by
  induction k with
  | zero => simp [openUp]
  | succ k ih => rw [openUp]; split <;> simp <;> omega
def openOk (xs : List I5) (at_ : Int) : Bool := okP xs && whenOk at_
def openL (xs : List I5) (at_ : Int) : List Int := if openOk xs at_ = true then openUp xs at_ xs.length else []
theorem openL_len (xs : List I5) (at_ : Int) (h : xs.length ≤ 1048576) : (openL xs at_).length ≤ 1048576 := by
  unfold openL; split
  · have := openUp_len xs at_ xs.length; omega
  · simp
theorem openUp_yes {xs : List I5} {at_ : Int} {k : Nat} (h : openC at_ (MI5.at_ xs k) = true) : openUp xs at_ (k + 1) = openUp xs at_ k ++ [(k : Int)] := by rw [openUp, if_pos h]
theorem openUp_no {xs : List I5} {at_ : Int} {k : Nat} (h : openC at_ (MI5.at_ xs k) = false) : openUp xs at_ (k + 1) = openUp xs at_ k := by rw [openUp, if_neg (by simp [h])]; simp
end PN
set_option linter.unusedSimpArgs false in
set_option maxHeartbeats 1600000 in
set_option maxRecDepth 100000 in
theorem specOpen_any (a : Option Addr) (cap : Nat) (xs : List I5) (n : Int) (w : World) (hn : xs.length ≤ 1048576) (hin : MI5.RowAt w a xs) :
    Calls Try.prog 20 #[.slice a xs.length cap, .int .i64 n] w fun e w' => ∃ a1 c1, e = .returned (.tuple #[.slice a1 (PN.openL xs n).length c1, .bool (PN.openOk xs n)]) ∧ w'.ownsRow w.heap.size 3 1 (.slice a1 (PN.openL xs n).length c1) (PN.openL xs n).length (M4.iv (PN.openL xs n)) ∧ Below w.heap.size w w' := by
  obtain ⟨i0, hi, hz0, hz1, hz2⟩ := info_parts Try.info3
  have GP : Hid (∀ W : World, MI5.RowAt W a xs → Calls Try.prog 10 #[.slice a xs.length cap] W fun e w' => e = .returned (.bool (PN.okP xs)) ∧ Below W.heap.size W w') := fun W h => specGoodPlan_any a cap xs W hn h _ rfl
  have HI : Hid (MI5.RowAt w a xs) := hin
  clear hin
  go_enter Try.func20, Try.ntmps20
  go_wp2_with fail
  refine (GP.out _ HI.out).mono ?_
  rintro e w1 ⟨rfl, hb1⟩
  have HI1 : Hid (MI5.RowAt w1 a xs) := HI.out.below hb1
  clear GP HI
  obtain ⟨ok, hok⟩ : ∃ ok, PN.openOk xs n = ok := ⟨_, rfl⟩
  cases hg : PN.okP xs with
  | false =>
    obtain rfl : ok = false := by rw [← hok]; simp [PN.openOk, hg]
    have hC : Hid (PN.openL xs n = []) := by show _ = _; simp [PN.openL, hok]
    have HG : Hid _ := hok
    clear hg hok
    go_wp2
    go_ret2
    exact ⟨none, 0, by rw [hC.out, HG.out]; rfl, by rw [hC.out]; exact World.ownsRow_nil _ _ _ _, hb1⟩
  | true =>
    have hlen : xs.length ≤ 20 := ((PN.okP_iff xs).1 hg).1
    have GC : Hid (∀ k, k < xs.length → PN.Good (MI5.at_ xs k)) := fun k hk => PN.okP_good hg hk
    go_wp2_with fail
    refine (whenS_any n _).mono ?_
    rintro e w' ⟨rfl, rfl⟩
    cases hwn : PN.whenOk n with
    | false =>
      obtain rfl : ok = false := by rw [← hok]; simp [PN.openOk, hwn]
      have hC : Hid (PN.openL xs n = []) := by show _ = _; simp [PN.openL, hok]
      have HG : Hid _ := hok
      clear hg hok hwn GC
      go_wp2
      go_ret2
      exact ⟨none, 0, by rw [hC.out, HG.out]; rfl, by rw [hC.out]; exact World.ownsRow_nil _ _ _ _, hb1⟩
    | true =>
      obtain rfl : ok = true := by rw [← hok]; simp [PN.openOk, hwn, hg]
      have hC : Hid (PN.openL xs n = PN.openUp xs n xs.length) := by show _ = _; simp [PN.openL, hok]
      have HG : Hid _ := hok
      obtain ⟨n0, n1⟩ := PN.when_yes hwn
      clear hg hok hwn
      go_wp2
      go_loopw [6, 7, 19] (fun v _ iv wr => ∃ k : Nat, iv = .int .i64 k ∧ k ≤ xs.length ∧ wr.ownsRow w1.heap.size 3 1 v (PN.openUp xs n k).length (M4.iv (PN.openUp xs n k)) ∧ Below w1.heap.size w1 wr) (fun _ _ iv _ => (xs.length - intOf iv).toNat)
      case atStart => exact ⟨0, rfl, by omega, World.ownsRow_nil _ _ _ _, Below.refl _ _⟩
      case round =>
        obtain ⟨k, rfl, hk, hown, hb⟩ := hrel
        have hbs := hb.size
        have hln := PN.openUp_len xs n k
        by_cases hl : k < xs.length
        · obtain ⟨b, off, rfl, hlt, c0, c1, c2, c3, c4⟩ := (HI1.out.below hb).at hl
          have G := GC.out k hl
          obtain ⟨q, hq⟩ : ∃ q, PN.openC n (MI5.at_ xs k) = q := ⟨_, rfl⟩
          have EY : Hid _ := fun h => PN.openUp_yes (xs := xs) (at_ := n) (k := k) h
          have EN : Hid _ := fun h => PN.openUp_no (xs := xs) (at_ := n) (k := k) h
          generalize MI5.at_ xs k = x at *
          obtain ⟨x0, x1, x2, x3, x4⟩ := x
          have e0 := G.e0
          have e1 := G.e1
          have s0 := G.s0
          simp only at e0 e1 s0
          clear G GC
          have hownA := hown.alloc (.cells #[.int .i64 x0, .int .i64 x1, .int .i64 x2, .int .i64 x3, .int .i64 x4] 32)
          have hbA : Below w1.heap.size w1 (wr.alloc (.cells #[.int .i64 x0, .int .i64 x1, .int .i64 x2, .int .i64 x3, .int .i64 x4] 32)) := hb.alloc hbs _
          have HOA : Hid _ := hownA
          have HBA : Hid _ := hbA
          clear hownA hbA
          cases q with
          | false =>
            have e := EN.out hq
            have HOA' := HOA.out
            rw [← e] at HOA'
            have hq' : n < x2 ∨ x3 ≤ n := by simp only [PN.openC, decide_eq_false_iff_not] at hq; omega
            have HO' : Hid _ := HOA'
            clear e EN EY HOA HOA' hq hown
            rcases hq' with hq' | hq'
            · go_wp2
              go_roundw
              case rel => exact ⟨k + 1, by go_num, by omega, HO'.out, HBA.out⟩
              case measure => simp [intOf]; omega
            · by_cases hq2 : x2 ≤ n
              · go_wp2
                go_roundw
                case rel => exact ⟨k + 1, by go_num, by omega, HO'.out, HBA.out⟩
                case measure => simp [intOf]; omega
              · go_wp2
                go_roundw
                case rel => exact ⟨k + 1, by go_num, by omega, HO'.out, HBA.out⟩
                case measure => simp [intOf]; omega
          | true =>
            have HE : Hid _ := EY.out hq
            obtain ⟨hq1, hq2⟩ : x2 ≤ n ∧ n < x3 := by simpa only [PN.openC, decide_eq_true_eq] using hq
            clear EN EY hq
            go_wp2_with (at_builtin; go_loud (refine wpList_append_own _ rfl _ _ 26 rfl w1.heap.size 3 i0 (.int .i64 0) 1 8 Try.underlying26 hi hz0 hz1 hz2 rfl (by decide) _ _ _ rfl (World.ownsRow.alloc HOA.out _) ⟨wr.heap.size + 1, 0, none⟩ 1 1 [.int .i64 (k : Int)] rfl rfl ?c1 ?c2 ?c3 ?c4 ?c5 ?_))
            all_goals try (first | rfl | omega | exact M2.new1 _ _ _ | exact M2.one1 _ _ | (unfold maxLen; omega) | (simp; omega))
            intro v' w3 hown1 hgrow _
            have R := M5.growI HOA.out HBA.out (by simp; omega) (by exact hown1) hgrow
            have R1 := R.1
            have R2 := R.2
            rw [← HE.out] at R1
            clear hown1 hgrow hown R HE hln HOA HBA
            go_wp2
            go_roundw
            case rel => exact ⟨k + 1, by go_num, by omega, R1, R2⟩
            case measure => simp [intOf]; omega
        · obtain rfl : k = xs.length := by omega
          obtain ⟨a3, c3, hv, _⟩ := M5.own_view hown
          rw [hv] at hown ⊢
          have HO : Hid _ := hown
          clear hln hv hown
          go_wp2
          go_ret2
          have HO' := HO.out
          rw [← hC.out] at HO'
          exact ⟨a3, c3, by rw [hC.out, HG.out]; rfl, CS6.own_base HO' hb1.size, hb1.trans (hb.mono hb1.size)⟩
set_option linter.unusedSimpArgs false in
set_option maxHeartbeats 1600000 in
set_option maxRecDepth 100000 in
theorem implOpen_any (a : Option Addr) (cap : Nat) (xs : List I5) (n : Int) (w : World) (hn : xs.length ≤ 1048576) (hin : MI5.RowAt w a xs) :
    Calls Try.prog 19 #[.slice a xs.length cap, .int .i64 n] w fun e w' => ∃ a1 c1, e = .returned (.tuple #[.slice a1 (PN.openL xs n).length c1, .bool (PN.openOk xs n)]) ∧ w'.ownsRow w.heap.size 3 1 (.slice a1 (PN.openL xs n).length c1) (PN.openL xs n).length (M4.iv (PN.openL xs n)) ∧ Below w.heap.size w w' := by
  obtain ⟨i0, hi, hz0, hz1, hz2⟩ := info_parts Try.info3
  have GP : Hid (∀ W : World, MI5.RowAt W a xs → Calls Try.prog 9 #[.slice a xs.length cap] W fun e w' => e = .returned (.bool (PN.okP xs)) ∧ Below W.heap.size W w') := fun W h => implGoodPlan_any a cap xs W hn h _ rfl
  have HI : Hid (MI5.RowAt w a xs) := hin
  clear hin
  go_enter Try.func19, Try.ntmps19
  go_wp2_with fail
  refine (GP.out _ HI.out).mono ?_
  rintro e w1 ⟨rfl, hb1⟩
  have HI1 : Hid (MI5.RowAt w1 a xs) := HI.out.below hb1
  clear GP HI
  obtain ⟨ok, hok⟩ : ∃ ok, PN.openOk xs n = ok := ⟨_, rfl⟩
  cases hg : PN.okP xs with
  | false =>
    obtain rfl : ok = false := by rw [← hok]; simp [PN.openOk, hg]
    have hC : Hid (PN.openL xs n = []) := by show _ = _; simp [PN.openL, hok]
    have HG : Hid _ := hok
    clear hg hok
    go_wp2
    go_ret2
    exact ⟨none, 0, by rw [hC.out, HG.out]; rfl, by rw [hC.out]; exact World.ownsRow_nil _ _ _ _, hb1⟩
  | true =>
    have hlen : xs.length ≤ 20 := ((PN.okP_iff xs).1 hg).1
    have GC : Hid (∀ k, k < xs.length → PN.Good (MI5.at_ xs k)) := fun k hk => PN.okP_good hg hk
    go_wp2_with fail
    refine (whenI_any n _).mono ?_
    rintro e w' ⟨rfl, rfl⟩
    cases hwn : PN.whenOk n with
    | false =>
      obtain rfl : ok = false := by rw [← hok]; simp [PN.openOk, hwn]
      have hC : Hid (PN.openL xs n = []) := by show _ = _; simp [PN.openL, hok]
      have HG : Hid _ := hok
      clear hg hok hwn GC
      go_wp2
      go_ret2
      exact ⟨none, 0, by rw [hC.out, HG.out]; rfl, by rw [hC.out]; exact World.ownsRow_nil _ _ _ _, hb1⟩
    | true =>
      obtain rfl : ok = true := by rw [← hok]; simp [PN.openOk, hwn, hg]
      have hC : Hid (PN.openL xs n = PN.openUp xs n xs.length) := by show _ = _; simp [PN.openL, hok]
      have HG : Hid _ := hok
      obtain ⟨n0, n1⟩ := PN.when_yes hwn
      clear hg hok hwn
      have own0 : (w1.alloc (.cells #[] 3)).ownsRow w1.heap.size 3 1 (.slice (some ⟨w1.heap.size, 0, none⟩) 0 0) (PN.openUp xs n 0).length (M4.iv (PN.openUp xs n 0)) := by
        have := World.ownsRow_lit (base := w1.heap.size) (e := 3) (size := 1) w1 #[] 0 (by simp) (by unfold maxLen; omega) (by simp)
        simpa [PN.openUp, M4.iv] using this
      have OWN0 : Hid _ := own0
      clear own0
      have hb0 : Below w1.heap.size w1 (w1.alloc (.cells #[] 3)) := (Below.refl _ w1).alloc (Nat.le_refl _) _
      go_wp2
      go_loopw [6, 7, 20] (fun v _ iv wr => ∃ k : Nat, iv = .int .i64 k ∧ k ≤ xs.length ∧ wr.ownsRow w1.heap.size 3 1 v (PN.openUp xs n k).length (M4.iv (PN.openUp xs n k)) ∧ Below w1.heap.size w1 wr) (fun _ _ iv _ => (xs.length - intOf iv).toNat)
      case atStart => exact ⟨0, rfl, by omega, OWN0.out, hb0⟩
      case round =>
        obtain ⟨k, rfl, hk, hown, hb⟩ := hrel
        have hbs := hb.size
        have hln := PN.openUp_len xs n k
        by_cases hl : k < xs.length
        · obtain ⟨b, off, rfl, hlt, c0, c1, c2, c3, c4⟩ := (HI1.out.below hb).at hl
          have G := GC.out k hl
          obtain ⟨q, hq⟩ : ∃ q, PN.openC n (MI5.at_ xs k) = q := ⟨_, rfl⟩
          have EY : Hid _ := fun h => PN.openUp_yes (xs := xs) (at_ := n) (k := k) h
          have EN : Hid _ := fun h => PN.openUp_no (xs := xs) (at_ := n) (k := k) h
          generalize MI5.at_ xs k = x at *
          obtain ⟨x0, x1, x2, x3, x4⟩ := x
          have e0 := G.e0
          have e1 := G.e1
          have s0 := G.s0
          simp only at e0 e1 s0
          clear G GC
          have hownA := hown.alloc (.cells #[.int .i64 x0, .int .i64 x1, .int .i64 x2, .int .i64 x3, .int .i64 x4] 32)
          have hbA : Below w1.heap.size w1 (wr.alloc (.cells #[.int .i64 x0, .int .i64 x1, .int .i64 x2, .int .i64 x3, .int .i64 x4] 32)) := hb.alloc hbs _
          have HOA : Hid _ := hownA
          have HBA : Hid _ := hbA
          clear hownA hbA
          cases q with
          | false =>
            have e := EN.out hq
            have HOA' := HOA.out
            rw [← e] at HOA'
            have hq' : n < x2 ∨ x3 ≤ n := by simp only [PN.openC, decide_eq_false_iff_not] at hq; omega
            have HO' : Hid _ := HOA'
            clear e EN EY HOA HOA' hq hown
            have hq2 : decide (x2 ≤ n ∧ n ≤ x3 - 1) = false := by simp only [decide_eq_false_iff_not]; omega
            clear hq'
            go_wp2_with fail
            refine (within_any _ _ _ _).mono ?_
            rintro e w' ⟨rfl, rfl⟩
            rw [hq2]
            go_wp2
            go_roundw
            case rel => exact ⟨k + 1, by go_num, by omega, HO'.out, HBA.out⟩
            case measure => simp [intOf]; omega
          | true =>
            have HE : Hid _ := EY.out hq
            obtain ⟨hq1, hq2⟩ : x2 ≤ n ∧ n < x3 := by simpa only [PN.openC, decide_eq_true_eq] using hq
            have hq3 : decide (x2 ≤ n ∧ n ≤ x3 - 1) = true := by simp only [decide_eq_true_eq]; omega
            clear EN EY hq
            go_wp2_with fail
            refine (within_any _ _ _ _).mono ?_
            rintro e w' ⟨rfl, rfl⟩
            rw [hq3]
            go_wp2_with (at_builtin; go_loud (refine wpList_append_own _ rfl _ _ 26 rfl w1.heap.size 3 i0 (.int .i64 0) 1 8 Try.underlying26 hi hz0 hz1 hz2 rfl (by decide) _ _ _ rfl (World.ownsRow.alloc HOA.out _) ⟨wr.heap.size + 1, 0, none⟩ 1 1 [.int .i64 (k : Int)] rfl rfl ?c1 ?c2 ?c3 ?c4 ?c5 ?_))
            case c1 =>
              intro j u hj
              match j, hj with
              | 0, hj => simp at hj; subst hj; simp [Addr.add]
            all_goals try (first | rfl | omega | exact M2.one1 _ _ | (unfold maxLen; omega) | (simp; omega))
            intro v' w3 hown1 hgrow _
            have R := M5.growI HOA.out HBA.out (by simp; omega) (by exact hown1) hgrow
            have R1 := R.1
            have R2 := R.2
            rw [← HE.out] at R1
            clear hown1 hgrow hown R HE hln HOA HBA
            go_wp2
            go_roundw
            case rel => exact ⟨k + 1, by go_num, by omega, R1, R2⟩
            case measure => simp [intOf]; omega
        · obtain rfl : k = xs.length := by omega
          obtain ⟨a3, c3, hv, _⟩ := M5.own_view hown
          rw [hv] at hown ⊢
          have HO : Hid _ := hown
          clear hln hv hown
          go_wp2
          go_ret2
          have HO' := HO.out
          rw [← hC.out] at HO'
          exact ⟨a3, c3, by rw [hC.out, HG.out]; rfl, CS6.own_base HO' hb1.size, hb1.trans (hb.mono hb1.size)⟩
end Go.Proofs.Ytlkjlechojgnbaa
