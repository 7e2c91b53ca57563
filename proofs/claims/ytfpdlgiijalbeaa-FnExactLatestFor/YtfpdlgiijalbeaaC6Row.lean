/- Rows of contacts: l6Row (the specification's), areOfPlan (the program's). -/
import Derived.Test.YtfpdlgiijalbeaaRows
import Derived.Test.YtfpdlgiijalbeaaM5
import Derived.Test.YtfpdlgiijalbeaaCWithin
import Derived.WalkKit
import Derived.WalkSpells
import Derived.WalkLawsBesides
import Derived.Outline
import Derived.Deep.QuietTactic
import Derived.BigQuiet
namespace Go.Proofs.Ytfpdlgiijalbeaa
open Go.RowKit
namespace PN
/-- The first k numbers are of a plan of n contacts. -/
def inUp (n : Nat) (os : List Int) (k : Nat) : Prop := ∀ i, i < k → 0 ≤ os.getD i 0 ∧ os.getD i 0 < n
def inP (n : Nat) (os : List Int) : Bool := os.all fun o => decide (0 ≤ o ∧ o < n)
theorem inP_iff (n : Nat) (os : List Int) : inP n os = true ↔ inUp n os os.length := by
  unfold inP inUp
  rw [List.all_eq_true]
  constructor
  · intro h i hi
    have := h _ (List.getElem_mem hi)
    rw [decide_eq_true_eq] at this
    rw [List.getD_eq_getElem?_getD, List.getElem?_eq_getElem hi]; exact this
  · intro h x hx
    obtain ⟨i, hi, rfl⟩ := List.mem_iff_getElem.1 hx
    have := h i hi
    rw [List.getD_eq_getElem?_getD, List.getElem?_eq_getElem hi] at this
    rw [decide_eq_true_eq]; exact this
theorem inUp_succ {n : Nat} {os : List Int} {k : Nat} (h : inUp n os k) (h1 : 0 ≤ os.getD k 0 ∧ os.getD k 0 < n) : inUp n os (k + 1) := by
  intro i hi
  by_cases e : i = k
  · subst e; exact h1
  · exact h i (by omega)
theorem inP_no {n : Nat} {os : List Int} {k : Nat} (hk : k < os.length) (h : ¬ (0 ≤ os.getD k 0 ∧ os.getD k 0 < n)) : inP n os = false := by
  rw [Bool.eq_false_iff]; intro e; exact h ((inP_iff n os).1 e k hk)
/-- The contact that a number names. -/
def ofN (xs : List I5) (o : Int) : I5 := MI5.at_ xs o.toNat
/-- The first k lead on. -/
def chUp (xs : List I5) (os : List Int) (k : Nat) : Prop := ∀ i, i + 1 < k → (ofN xs (os.getD i 0)).a1 = (ofN xs (os.getD (i + 1) 0)).a0
open Classical in
noncomputable def chain (xs : List I5) (os : List Int) : Bool := decide (chUp xs os os.length)
theorem chUp_succ {xs : List I5} {os : List Int} {k : Nat} (h : chUp xs os (k + 1)) (h1 : (ofN xs (os.getD k 0)).a1 = (ofN xs (os.getD (k + 1) 0)).a0) : chUp xs os (k + 2) := by
  intro i hi
  by_cases e : i = k
  · subst e; exact h1
  · exact h i (by omega)
theorem chain_no {xs : List I5} {os : List Int} {k : Nat} (hk : k + 1 < os.length) (h : (ofN xs (os.getD k 0)).a1 ≠ (ofN xs (os.getD (k + 1) 0)).a0) : chain xs os = false := by
  simp only [chain, decide_eq_false_iff_not]; intro e; exact h (e k hk)
theorem chain_yes {xs : List I5} {os : List Int} (h : chUp xs os os.length) : chain xs os = true := by simpa only [chain, decide_eq_true_eq] using h
theorem chain_is {xs : List I5} {os : List Int} (h : chain xs os = true) : chUp xs os os.length := by simpa only [chain, decide_eq_true_eq] using h
theorem ints_at2 {w : World} {a : Option Addr} {zs : List Int} (h : M4.IntsAt w a zs) {k : Nat} (hk : k + 1 < zs.length) : ∃ b off, a = some ⟨b, off, none⟩ ∧ b < w.heap.size ∧ w.cell? ⟨b, off + k, none⟩ = some (.int .i64 (zs.getD k 0)) ∧ w.cell? ⟨b, off + (k + 1), none⟩ = some (.int .i64 (zs.getD (k + 1) 0)) := by
  rcases h with rfl | ⟨b, off, rfl, hlt, hc⟩
  · simp at hk
  · exact ⟨b, off, rfl, hlt, hc k (by omega), hc (k + 1) hk⟩
theorem row_at2 {w : World} {a : Option Addr} {xs : List I5} (h : MI5.RowAt w a xs) {i j : Nat} (hi : i < xs.length) (hj : j < xs.length) : ∃ b off, a = some ⟨b, off, none⟩ ∧ b < w.heap.size ∧ w.cell? ⟨b, off + i * 5 + 1, none⟩ = some (.int .i64 (MI5.at_ xs i).a1) ∧ w.cell? ⟨b, off + j * 5, none⟩ = some (.int .i64 (MI5.at_ xs j).a0) := by
  rcases h.is with rfl | ⟨b, off, rfl, hlt, hc⟩
  · simp at hi
  · exact ⟨b, off, rfl, hlt, (hc i hi).2.1, (hc j hj).1⟩
/-- What l6Row tells. -/
noncomputable def rowB (xs : List I5) (os : List Int) : Bool := inP xs.length os && chain xs os && decide (os.length ≤ 20)
end PN
set_option maxHeartbeats 1600000 in
set_option maxRecDepth 100000 in
theorem areOfPlan_any (a b : Option Addr) (ca cb : Nat) (n : Nat) (os : List Int) (w : World) (hn : n ≤ 1048576) (ho : os.length ≤ 1048576) (hos : M4.IntsAt w b os) (R : Bool) (hR : Hid ((decide (os.length ≤ 20) && PN.inP n os) = R)) :
    Calls Try.prog 38 #[.slice a n ca, .slice b os.length cb] w fun e w' => e = .returned (.bool R) ∧ Below w.heap.size w w' := by
  by_cases hl : os.length ≤ 20
  · go_enter Try.func38, Try.ntmps38
    go_wp2
    go_loopw [12] (fun iv wr => ∃ k : Nat, iv = .int .i64 k ∧ k ≤ os.length ∧ Hid (PN.inUp n os k) ∧ Below w.heap.size w wr) (fun iv _ => (os.length - intOf iv).toNat)
    case atStart => exact ⟨0, rfl, by omega, show Hid _ from fun i hi => by omega, Below.refl _ _⟩
    case round =>
      obtain ⟨k, rfl, hk, hT, hb⟩ := hrel
      by_cases hlk : k < os.length
      · obtain ⟨b1, off1, rfl, hlt1, hc1⟩ := (hos.below hb).at hlk
        have HY : Hid _ := fun h => PN.inUp_succ hT.out (k := k) h
        have HN : Hid _ := fun h => PN.inP_no (n := n) hlk h
        clear hos hT
        generalize os.getD k 0 = o at *
        by_cases h0 : 0 ≤ o ∧ o < n
        · have hT : Hid _ := HY.out h0
          have h1 : decide (0 ≤ o ∧ o ≤ (n : Int) - 1) = true := by simp only [decide_eq_true_eq]; omega
          clear HN HY hR h0
          go_wp2_with fail
          refine (within_any _ _ _ _).mono ?_
          rintro e w' ⟨rfl, rfl⟩
          rw [h1]
          go_wp2
          go_roundw
          case rel => exact ⟨k + 1, by go_num, by omega, hT, hb⟩
          case measure => simp [intOf]; omega
        · have hF : Hid (R = false) := by rw [← hR.out, HN.out h0]; simp [Hid]
          have h1 : decide (0 ≤ o ∧ o ≤ (n : Int) - 1) = false := by simp only [decide_eq_false_iff_not]; omega
          clear HN HY hR h0
          go_wp2_with fail
          refine (within_any _ _ _ _).mono ?_
          rintro e w' ⟨rfl, rfl⟩
          rw [h1]
          go_wp2
          go_ret
          exact ⟨retB6 hF.out.symm, hb⟩
      · obtain rfl : k = os.length := by omega
        have hF : Hid (R = true) := by rw [← hR.out, (PN.inP_iff n os).2 hT.out]; simp [Hid, hl]
        clear hos hT hR
        go_wp2
        go_ret
        exact ⟨retB6 hF.out.symm, hb⟩
  · have hF : Hid (R = false) := by rw [← hR.out]; simp [Hid, hl]
    clear hos hR
    go_enter Try.func38, Try.ntmps38
    go_wp2
    go_ret
    exact ⟨retB6 hF.out.symm, Below.refl _ _⟩
end Go.Proofs.Ytfpdlgiijalbeaa
