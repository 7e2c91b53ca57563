/- UsesOf, the specification's and the program's. -/
import Derived.Test.YtlkjlechojgnbaaRows
import Derived.Test.YtlkjlechojgnbaaC6RowS
import Derived.WalkKit
import Derived.WalkSpells
import Derived.WalkLawsBesides
import Derived.Outline
namespace Go.Proofs.Ytlkjlechojgnbaa
open Go.RowKit
namespace PN
def usesOk (xs : List I5) (os : List Int) : Bool := okP xs && decide (os.length ≤ 20) && inP xs.length os
noncomputable def usesR (xs : List I5) (os : List Int) : Bool := usesOk xs os && chain xs os
theorem uses_noP {xs : List I5} {os : List Int} (h : okP xs = false) : usesOk xs os = false ∧ usesR xs os = false := by simp [usesR, usesOk, h]
theorem uses_noL {xs : List I5} {os : List Int} (h : 20 < os.length) : usesOk xs os = false ∧ usesR xs os = false := by
  have : decide (os.length ≤ 20) = false := by simp; omega
  simp [usesR, usesOk, this]
theorem uses_noI {xs : List I5} {os : List Int} (h : inP xs.length os = false) : usesOk xs os = false ∧ usesR xs os = false := by simp [usesR, usesOk, h]
theorem uses_yes {xs : List I5} {os : List Int} (h1 : okP xs = true) (h2 : os.length ≤ 20) (h3 : inP xs.length os = true) : usesOk xs os = true ∧ usesR xs os = chain xs os := by simp [usesR, usesOk, h1, h2, h3]
theorem rowB_yes {xs : List I5} {os : List Int} (h2 : os.length ≤ 20) (h3 : inP xs.length os = true) : rowB xs os = chain xs os := by simp [rowB, h2, h3]
end PN
set_option maxHeartbeats 1600000 in
set_option maxRecDepth 100000 in
theorem specUses_any (a b : Option Addr) (ca cb : Nat) (xs : List I5) (os : List Int) (w : World) (hn : xs.length ≤ 1048576) (ho : os.length ≤ 1048576) (hin : MI5.RowAt w a xs) (hos : M4.IntsAt w b os) :
    Calls Try.prog 23 #[.slice a xs.length ca, .slice b os.length cb] w fun e w' => e = .returned (.tuple #[.bool (PN.usesR xs os), .bool (PN.usesOk xs os)]) ∧ Below w.heap.size w w' := by
  have GP : Hid (∀ W : World, MI5.RowAt W a xs → Calls Try.prog 10 #[.slice a xs.length ca] W fun e w' => e = .returned (.bool (PN.okP xs)) ∧ Below W.heap.size W w') := fun W h => specGoodPlan_any a ca xs W hn h _ rfl
  have HI : Hid (MI5.RowAt w a xs) := hin
  have HO : Hid (M4.IntsAt w b os) := hos
  have RW : Hid (∀ W : World, MI5.RowAt W a xs → M4.IntsAt W b os → Calls Try.prog 41 #[.slice a xs.length ca, .slice b os.length cb] W fun e w' => e = .returned (.bool (PN.rowB xs os)) ∧ Below W.heap.size W w') := fun W h1 h2 => l6Row_any a b ca cb xs os W hn ho h1 h2 _ rfl
  clear hin hos
  obtain ⟨U, hU⟩ : ∃ U, PN.usesOk xs os = U := ⟨_, rfl⟩
  obtain ⟨V, hV⟩ : ∃ V, PN.usesR xs os = V := ⟨_, rfl⟩
  rw [hU, hV]
  have HU : Hid _ := hU
  have HV : Hid _ := hV
  clear hU hV
  go_enter Try.func23, Try.ntmps23
  go_wp2_with fail
  refine (GP.out _ HI.out).mono ?_
  rintro e w1 ⟨rfl, hb1⟩
  have HI1 : Hid (MI5.RowAt w1 a xs) := HI.out.below hb1
  have HO1 : Hid (M4.IntsAt w1 b os) := M4.IntsAt.below HO.out hb1
  clear GP HI HO
  cases hg : PN.okP xs with
  | false =>
    obtain ⟨rfl, rfl⟩ : U = false ∧ V = false := by rw [← HU.out, ← HV.out]; exact PN.uses_noP hg
    clear hg HU HV RW
    go_wp2
    go_ret2
    exact ⟨rfl, hb1⟩
  | true =>
    by_cases hl : os.length ≤ 20
    · have HN : Hid (PN.inP xs.length os = false → U = false ∧ V = false) := fun h => by rw [← HU.out, ← HV.out]; exact PN.uses_noI h
      have HY : Hid (PN.inP xs.length os = true → U = true ∧ V = PN.rowB xs os) := fun h => by rw [← HU.out, ← HV.out, PN.rowB_yes hl h]; exact PN.uses_yes hg hl h
      clear hg HU HV
      go_wp2_with fail
      go_loopw [18] (fun iv wr => ∃ k : Nat, iv = .int .i64 k ∧ k ≤ os.length ∧ Hid (PN.inUp xs.length os k) ∧ Below w1.heap.size w1 wr) (fun iv _ => (os.length - intOf iv).toNat)
      case atStart => exact ⟨0, rfl, by omega, show Hid _ from fun i hi => by omega, Below.refl _ _⟩
      case round =>
        obtain ⟨k, rfl, hk, hT, hb⟩ := hrel
        by_cases hlk : k < os.length
        · obtain ⟨b1, off1, rfl, hlt1, hc1⟩ := (M4.IntsAt.below HO1.out hb).at hlk
          have IY : Hid _ := fun h => PN.inUp_succ hT.out (k := k) h
          have IN : Hid _ := fun h => PN.inP_no (n := xs.length) hlk h
          clear hT HI1 HO1 RW
          generalize os.getD k 0 = o at *
          by_cases h1 : 0 ≤ o
          · obtain ⟨j, rfl⟩ := Int.eq_ofNat_of_zero_le h1
            by_cases h2 : j < xs.length
            · have hT : Hid _ := IY.out ⟨h1, by omega⟩
              have h2' : decide (xs.length ≤ j) = false := by simp; omega
              clear IY IN HN HY
              go_wp2
              go_roundw
              case rel => exact ⟨k + 1, by go_num, by omega, hT, hb⟩
              case measure => simp [intOf]; omega
            · obtain ⟨rfl, rfl⟩ := HN.out (IN.out (by omega))
              have h2' : decide (xs.length ≤ j) = true := by simp; omega
              clear IY IN HN HY
              go_wp2
              go_ret2
              exact ⟨rfl, hb1.trans (hb.mono hb1.size)⟩
          · obtain ⟨rfl, rfl⟩ := HN.out (IN.out (by omega))
            clear IY IN HN HY
            go_wp2
            go_ret2
            exact ⟨rfl, hb1.trans (hb.mono hb1.size)⟩
        · obtain rfl : k = os.length := by omega
          obtain ⟨rfl, rfl⟩ := HY.out ((PN.inP_iff _ _).2 hT.out)
          clear hT HN HY
          go_wp2_with fail
          refine (RW.out _ (HI1.out.below hb) (M4.IntsAt.below HO1.out hb)).mono ?_
          rintro e w2 ⟨rfl, hb2⟩
          have hB2 := (hb1.trans (hb.mono hb1.size)).trans (hb2.mono (Nat.le_trans hb1.size hb.size))
          clear RW HI1 HO1
          go_wp2
          go_ret2
          exact ⟨rfl, hB2⟩
    · obtain ⟨rfl, rfl⟩ : U = false ∧ V = false := by rw [← HU.out, ← HV.out]; exact PN.uses_noL (by omega)
      clear hg HU HV RW
      go_wp2
      go_ret2
      exact ⟨rfl, hb1⟩
set_option maxHeartbeats 1600000 in
set_option maxRecDepth 100000 in
theorem implUses_any (a b : Option Addr) (ca cb : Nat) (xs : List I5) (os : List Int) (w : World) (hn : xs.length ≤ 1048576) (ho : os.length ≤ 1048576) (hin : MI5.RowAt w a xs) (hos : M4.IntsAt w b os) :
    Calls Try.prog 22 #[.slice a xs.length ca, .slice b os.length cb] w fun e w' => e = .returned (.tuple #[.bool (PN.usesR xs os), .bool (PN.usesOk xs os)]) ∧ Below w.heap.size w w' := by
  have GP : Hid (∀ W : World, MI5.RowAt W a xs → Calls Try.prog 9 #[.slice a xs.length ca] W fun e w' => e = .returned (.bool (PN.okP xs)) ∧ Below W.heap.size W w') := fun W h => implGoodPlan_any a ca xs W hn h _ rfl
  have HI : Hid (MI5.RowAt w a xs) := hin
  have HO : Hid (M4.IntsAt w b os) := hos
  have AP : Hid (∀ W : World, M4.IntsAt W b os → Calls Try.prog 37 #[.slice a xs.length ca, .slice b os.length cb] W fun e w' => e = .returned (.bool (decide (os.length ≤ 20) && PN.inP xs.length os)) ∧ Below W.heap.size W w') := fun W h2 => areOfPlan_any a b ca cb xs.length os W hn ho h2 _ rfl
  clear hin hos
  obtain ⟨U, hU⟩ : ∃ U, PN.usesOk xs os = U := ⟨_, rfl⟩
  obtain ⟨V, hV⟩ : ∃ V, PN.usesR xs os = V := ⟨_, rfl⟩
  rw [hU, hV]
  have HU : Hid _ := hU
  have HV : Hid _ := hV
  clear hU hV
  go_enter Try.func22, Try.ntmps22
  go_wp2_with fail
  refine (GP.out _ HI.out).mono ?_
  rintro e w1 ⟨rfl, hb1⟩
  have HI1 : Hid (MI5.RowAt w1 a xs) := HI.out.below hb1
  have HO1 : Hid (M4.IntsAt w1 b os) := M4.IntsAt.below HO.out hb1
  clear GP HI HO
  cases hg : PN.okP xs with
  | false =>
    obtain ⟨rfl, rfl⟩ : U = false ∧ V = false := by rw [← HU.out, ← HV.out]; exact PN.uses_noP hg
    clear hg HU HV AP
    go_wp2
    go_ret2
    exact ⟨rfl, hb1⟩
  | true =>
    go_wp2_with fail
    refine (AP.out _ HO1.out).mono ?_
    rintro e w2 ⟨rfl, hb2⟩
    have hB2 := hb1.trans (hb2.mono hb1.size)
    have HI2 : Hid (MI5.RowAt w2 a xs) := HI1.out.below hb2
    have HO2 : Hid (M4.IntsAt w2 b os) := M4.IntsAt.below HO1.out hb2
    clear AP HI1 HO1 hb2
    cases hap : (decide (os.length ≤ 20) && PN.inP xs.length os) with
    | false =>
      obtain ⟨rfl, rfl⟩ : U = false ∧ V = false := by
        rw [← HU.out, ← HV.out]
        rw [Bool.and_eq_false_iff] at hap
        rcases hap with h | h
        · exact PN.uses_noL (by simpa using h)
        · exact PN.uses_noI h
      clear hg HU HV hap
      go_wp2
      go_ret2
      exact ⟨rfl, hB2⟩
    | true =>
      obtain ⟨hl, hI⟩ : os.length ≤ 20 ∧ PN.inP xs.length os = true := by simpa using hap
      obtain ⟨rfl, hV⟩ : U = true ∧ V = PN.chain xs os := by rw [← HU.out, ← HV.out]; exact PN.uses_yes hg hl hI
      have HN : Hid _ := (PN.inP_iff _ _).1 hI
      clear hg HU HV hap hI
      have HV : Hid (PN.chain xs os = V) := hV.symm
      clear hV
      go_wp2
      go_loopw [6] (fun iv wr => ∃ k : Nat, iv = .int .i64 ((k : Int) + 1) ∧ k ≤ os.length ∧ Hid (PN.chUp xs os (k + 1)) ∧ Below w2.heap.size w2 wr) (fun iv _ => (os.length + 1 - intOf iv).toNat)
      case atStart => exact ⟨0, rfl, by omega, show Hid _ from fun i hi => by omega, Below.refl _ _⟩
      case round =>
        obtain ⟨k, rfl, hk, hT, hb⟩ := hrel
        by_cases hlk : k + 1 < os.length
        · obtain ⟨b1, off1, rfl, hlt1, hc0, hc1⟩ := PN.ints_at2 (M4.IntsAt.below HO2.out hb) hlk
          obtain ⟨hp0, hp1⟩ := HN.out k (by omega)
          obtain ⟨hq0, hq1⟩ := HN.out (k + 1) hlk
          obtain ⟨i, hi⟩ := Int.eq_ofNat_of_zero_le hp0
          obtain ⟨j, hj⟩ := Int.eq_ofNat_of_zero_le hq0
          have hil : i < xs.length := by omega
          have hjl : j < xs.length := by omega
          obtain ⟨b2, off2, rfl, hlt2, d1, d0⟩ := PN.row_at2 (HI2.out.below hb) hil hjl
          rw [hj] at hc1
          rw [hi] at hc0
          have e1 : PN.ofN xs (os.getD k 0) = MI5.at_ xs i := by rw [hi]; rfl
          have e2 : PN.ofN xs (os.getD (k + 1) 0) = MI5.at_ xs j := by rw [hj]; rfl
          have CY : Hid ((MI5.at_ xs i).a1 = (MI5.at_ xs j).a0 → PN.chUp xs os (k + 2)) := fun h => PN.chUp_succ hT.out (by rw [e1, e2]; exact h)
          have CN : Hid ((MI5.at_ xs i).a1 ≠ (MI5.at_ xs j).a0 → PN.chain xs os = false) := fun h => PN.chain_no hlk (by rw [e1, e2]; exact h)
          clear HO2 HI2 hT HN e1 e2 hp0 hp1 hi hq0 hq1 hj
          generalize (MI5.at_ xs i).a1 = y at *
          generalize (MI5.at_ xs j).a0 = x at *
          by_cases hyx : y = x
          · have hT' : Hid (PN.chUp xs os (k + 2)) := CY.out hyx
            have hne : (y != x) = false := by simp [hyx]
            clear CY CN HV hyx
            go_wp2
            go_quiet (fail)
            go_wp2
            go_roundw
            case rel => exact ⟨k + 1, by go_num, by omega, hT', below_drewN hb _⟩
            case measure => simp [intOf]; omega
          · obtain rfl : V = false := by rw [← HV.out]; exact CN.out hyx
            have hne : (y != x) = true := by simp [hyx]
            clear CY CN HV hyx
            go_wp2
            go_quiet (fail)
            go_wp2
            go_ret2
            exact ⟨rfl, hB2.trans ((below_drewN hb _).mono hB2.size)⟩
        · obtain rfl : V = true := by rw [← HV.out]; exact PN.chain_yes fun i hi => hT.out i (by omega)
          have hlt : ¬ ((k : Int) + 1 < (os.length : Int)) := by omega
          clear HV HN hT HI2 HO2
          go_wp2
          go_ret2
          exact ⟨rfl, hB2.trans (hb.mono hB2.size)⟩
end Go.Proofs.Ytlkjlechojgnbaa
