import Derived.Test.YtickoajkppgdaaaRows
import Derived.Test.YtickoajkppgdaaaM5
import Derived.Test.YtickoajkppgdaaaMRetB
import Derived.WalkKit
import Derived.WalkSpells
import Derived.WalkLawsBesides
import Derived.Outline
import Derived.Test.YtickoajkppgdaaaCWithin
import Derived.Deep.QuietTactic
import Derived.BigQuiet
import Derived.Test.YtickoajkppgdaaaCFloat
import Derived.Test.YtickoajkppgdaaaMSta
/- Numbers of a row of so many: areNumbersOf of the program. -/
namespace Go.Proofs.Ytickoajkppgdaaa
open Go.RowKit
namespace PN
/-- The first k numbers are of a plan of n contacts. -/
def inUp (n : Nat) (os : List Int) (k : Nat) : Prop := ∀ i, i < k → 0 ≤ os.getD i 0 ∧ os.getD i 0 < n
def inP (n : Nat) (os : List Int) : Bool := os.all fun o => decide (0 ≤ o ∧ o < n)
theorem inP_iff (n : Nat) (os : List Int) : inP n os = true ↔ inUp n os os.length := by
  unfold inP inUp
  rw [List.all_eq_true]
  constructor
  · intro h i hi
    have := h _ (List.getElem_mem hi)
    rw [decide_eq_true_eq] at this
    rw [List.getD_eq_getElem?_getD, List.getElem?_eq_getElem hi]; exact this
  · intro h x hx
    obtain ⟨i, hi, rfl⟩ := List.mem_iff_getElem.1 hx
    have := h i hi
    rw [List.getD_eq_getElem?_getD, List.getElem?_eq_getElem hi] at this
    rw [decide_eq_true_eq]; exact this
theorem inUp_succ {n : Nat} {os : List Int} {k : Nat} (h : inUp n os k) (h1 : 0 ≤ os.getD k 0 ∧ os.getD k 0 < n) : inUp n os (k + 1) := by
  intro i hi
  by_cases e : i = k
  · subst e; exact h1
  · exact h i (by omega)
theorem inP_no {n : Nat} {os : List Int} {k : Nat} (hk : k < os.length) (h : ¬ (0 ≤ os.getD k 0 ∧ os.getD k 0 < n)) : inP n os = false := by
  rw [Bool.eq_false_iff]; intro e; exact h ((inP_iff n os).1 e k hk)
end PN
set_option maxHeartbeats 400000 in
set_option maxRecDepth 100000 in
theorem within9_any (n lo hi : Int) (w : World) : Calls Try.prog 40 #[.int .i64 n, .int .i64 lo, .int .i64 hi] w fun e w' => e = .returned (.bool (decide (lo ≤ n ∧ n ≤ hi))) ∧ w = w' := by
  by_cases h1 : lo ≤ n
  · go_enter Try.func40, Try.ntmps40
    go_wp2
    go_ret
    exact ⟨retB7 (by simp [h1]), rfl⟩
  · go_enter Try.func40, Try.ntmps40
    go_wp2
    go_ret
    exact ⟨retB7 (by rw [decide_eq_false (by omega : ¬ lo ≤ n)]; rfl), rfl⟩
set_option maxHeartbeats 1600000 in
set_option maxRecDepth 100000 in
theorem areNumbersOf_any (b : Option Addr) (cb : Nat) (n : Nat) (os : List Int) (w : World) (hn : n ≤ 1048576) (ho : os.length ≤ 1048576) (hos : M4.IntsAt w b os) (R : Bool) (hR : Hid (PN.inP n os = R)) :
    Calls Try.prog 45 #[.slice b os.length cb, .int .i64 (n : Int)] w fun e w' => e = .returned (.bool R) ∧ w = w' := by
  go_enter Try.func45, Try.ntmps45
  go_wp2
  go_loopw [9] (fun iv wr => ∃ k : Nat, iv = .int .i64 k ∧ k ≤ os.length ∧ Hid (PN.inUp n os k) ∧ w = wr) (fun iv _ => (os.length - intOf iv).toNat)
  case atStart => exact ⟨0, rfl, by omega, show Hid _ from fun i hi => by omega, rfl⟩
  case round =>
    obtain ⟨k, rfl, hk, hT, rfl⟩ := hrel
    by_cases hlk : k < os.length
    · obtain ⟨b1, off1, rfl, hlt1, hc1⟩ := hos.at hlk
      have HY : Hid _ := fun h => PN.inUp_succ hT.out (k := k) h
      have HN : Hid _ := fun h => PN.inP_no (n := n) hlk h
      clear hos hT
      generalize os.getD k 0 = o at *
      by_cases h0 : 0 ≤ o ∧ o < n
      · have hT : Hid _ := HY.out h0
        have h1 : decide (0 ≤ o ∧ o ≤ (n : Int) - 1) = true := by simp only [decide_eq_true_eq]; omega
        clear HN HY hR h0
        go_wp2_with fail
        refine (within9_any _ _ _ _).mono ?_
        rintro e w' ⟨rfl, rfl⟩
        rw [h1]
        go_wp2
        go_roundw
        case rel => exact ⟨k + 1, by go_num, by omega, hT, trivial⟩
        case measure => simp [intOf]; omega
      · have hF : Hid (R = false) := by rw [← hR.out, HN.out h0]; simp [Hid]
        have h1 : decide (0 ≤ o ∧ o ≤ (n : Int) - 1) = false := by simp only [decide_eq_false_iff_not]; omega
        clear HN HY hR h0
        go_wp2_with fail
        refine (within9_any _ _ _ _).mono ?_
        rintro e w' ⟨rfl, rfl⟩
        rw [h1]
        go_wp2
        go_ret
        exact ⟨retB7 hF.out.symm, rfl⟩
    · obtain rfl : k = os.length := by omega
      have hF : Hid (R = true) := by rw [← hR.out]; exact (PN.inP_iff n os).2 hT.out
      clear hos hT hR
      go_wp2
      go_ret
      exact ⟨retB7 hF.out.symm, rfl⟩
end Go.Proofs.Ytickoajkppgdaaa

/- Rows of contacts: l6Row (the specification's), areOfPlan (the program's). -/
namespace Go.Proofs.Ytickoajkppgdaaa
open Go.RowKit
namespace PN
/-- The contact that a number names. -/
def ofN (xs : List I5) (o : Int) : I5 := MI5.at_ xs o.toNat
/-- The first k lead on. -/
def chUp (xs : List I5) (os : List Int) (k : Nat) : Prop := ∀ i, i + 1 < k → (ofN xs (os.getD i 0)).a1 = (ofN xs (os.getD (i + 1) 0)).a0
open Classical in
noncomputable def chain (xs : List I5) (os : List Int) : Bool := decide (chUp xs os os.length)
theorem chUp_succ {xs : List I5} {os : List Int} {k : Nat} (h : chUp xs os (k + 1)) (h1 : (ofN xs (os.getD k 0)).a1 = (ofN xs (os.getD (k + 1) 0)).a0) : chUp xs os (k + 2) := by
  intro i hi
  by_cases e : i = k
  · subst e; exact h1
  · exact h i (by omega)
theorem chain_no {xs : List I5} {os : List Int} {k : Nat} (hk : k + 1 < os.length) (h : (ofN xs (os.getD k 0)).a1 ≠ (ofN xs (os.getD (k + 1) 0)).a0) : chain xs os = false := by
  simp only [chain, decide_eq_false_iff_not]; intro e; exact h (e k hk)
theorem chain_yes {xs : List I5} {os : List Int} (h : chUp xs os os.length) : chain xs os = true := by simpa only [chain, decide_eq_true_eq] using h
theorem chain_is {xs : List I5} {os : List Int} (h : chain xs os = true) : chUp xs os os.length := by simpa only [chain, decide_eq_true_eq] using h
theorem ints_at2 {w : World} {a : Option Addr} {zs : List Int} (h : M4.IntsAt w a zs) {k : Nat} (hk : k + 1 < zs.length) : ∃ b off, a = some ⟨b, off, none⟩ ∧ b < w.heap.size ∧ w.cell? ⟨b, off + k, none⟩ = some (.int .i64 (zs.getD k 0)) ∧ w.cell? ⟨b, off + (k + 1), none⟩ = some (.int .i64 (zs.getD (k + 1) 0)) := by
  rcases h with rfl | ⟨b, off, rfl, hlt, hc⟩
  · simp at hk
  · exact ⟨b, off, rfl, hlt, hc k (by omega), hc (k + 1) hk⟩
theorem row_at2 {w : World} {a : Option Addr} {xs : List I5} (h : MI5.RowAt w a xs) {i j : Nat} (hi : i < xs.length) (hj : j < xs.length) : ∃ b off, a = some ⟨b, off, none⟩ ∧ b < w.heap.size ∧ w.cell? ⟨b, off + i * 5 + 1, none⟩ = some (.int .i64 (MI5.at_ xs i).a1) ∧ w.cell? ⟨b, off + j * 5, none⟩ = some (.int .i64 (MI5.at_ xs j).a0) := by
  rcases h.is with rfl | ⟨b, off, rfl, hlt, hc⟩
  · simp at hi
  · exact ⟨b, off, rfl, hlt, (hc i hi).2.1, (hc j hj).1⟩
/-- What l6Row tells. -/
noncomputable def rowB (xs : List I5) (os : List Int) : Bool := inP xs.length os && chain xs os && decide (os.length ≤ 20)
end PN
set_option maxHeartbeats 1600000 in
set_option maxRecDepth 100000 in
theorem areOfPlan_any (a b : Option Addr) (ca cb : Nat) (n : Nat) (os : List Int) (w : World) (hn : n ≤ 1048576) (ho : os.length ≤ 1048576) (hos : M4.IntsAt w b os) (R : Bool) (hR : Hid ((decide (os.length ≤ 20) && PN.inP n os) = R)) :
    Calls Try.prog 23 #[.slice a n ca, .slice b os.length cb] w fun e w' => e = .returned (.bool R) ∧ Below w.heap.size w w' := by
  have NU : Hid _ := areNumbersOf_any b cb n os w hn ho hos _ rfl
  generalize PN.inP n os = q at *
  clear hos
  by_cases hl : os.length ≤ 20
  · have hF : Hid (q = R) := by show _ = _; rw [← hR.out]; simp [hl]
    clear hR
    go_enter Try.func23, Try.ntmps23
    go_wp2_with fail
    refine Calls.mono NU.out ?_
    rintro e w' ⟨rfl, rfl⟩
    clear NU
    go_wp2
    go_ret
    exact ⟨retB6 hF.out, Below.refl _ _⟩
  · have hF : Hid (R = false) := by rw [← hR.out]; simp [Hid, hl]
    clear hR NU
    go_enter Try.func23, Try.ntmps23
    go_wp2
    go_ret
    exact ⟨retB6 hF.out.symm, Below.refl _ _⟩
end Go.Proofs.Ytickoajkppgdaaa

/- Going along a row of contacts: plain facts. -/
namespace Go.Proofs.Ytickoajkppgdaaa
open Go.RowKit
namespace PN
open FL
/-- When one is there behind the first k contacts of a row. -/
def mo (xs : List I5) (os : List Int) (n : Int) : Nat → Mo
  | 0 => .fin n
  | k + 1 => arr (ofN xs (os.getD k 0)) (mo xs os n k)
theorem good_of_in {xs : List I5} {os : List Int} (h : okP xs = true) (hi : inUp xs.length os os.length) {k : Nat} (hk : k < os.length) : Good (ofN xs (os.getD k 0)) := by
  have := hi k hk
  exact okP_good h (by omega)
theorem mo_okT {xs : List I5} {os : List Int} {n : Int} (h : okP xs = true) (hi : inUp xs.length os os.length) (h0 : 0 ≤ n) (h1 : n ≤ 1000) (k : Nat) (hk : k ≤ os.length) : okT (mo xs os n k) := by
  induction k with
  | zero => simp only [mo, okT]; omega
  | succ k ih => exact arr_okT (good_of_in h hi (by omega)) (ih (by omega))
theorem mo_inf {xs : List I5} {os : List Int} {n : Int} {k : Nat} (h : mo xs os n k = .inf) (d : Nat) : mo xs os n (k + d) = .inf := by
  induction d with
  | zero => exact h
  | succ d ih => show arr _ (mo xs os n (k + d)) = _; rw [ih]; rfl
def headOk (xs : List I5) (f : Int) (os : List Int) : Bool := os.isEmpty || decide ((ofN xs (os.getD 0 0)).a0 = f)
noncomputable def wayOk (xs : List I5) (f n : Int) (os : List Int) : Bool := startOk xs f n && rowB xs os && headOk xs f os
noncomputable def arrM (xs : List I5) (f n : Int) (os : List Int) : Mo := if wayOk xs f n os = true then mo xs os n os.length else .inf
theorem arrM_no {xs : List I5} {f n : Int} {os : List Int} (h : wayOk xs f n os = false) : arrM xs f n os = .inf := by simp [arrM, h]
theorem arrM_yes {xs : List I5} {f n : Int} {os : List Int} (h : wayOk xs f n os = true) : arrM xs f n os = mo xs os n os.length := by simp [arrM, h]
theorem rowB_is {xs : List I5} {os : List Int} (h : rowB xs os = true) : inUp xs.length os os.length ∧ chUp xs os os.length ∧ os.length ≤ 20 := by
  simp only [rowB, Bool.and_eq_true, decide_eq_true_eq] at h
  exact ⟨(inP_iff _ _).1 h.1.1, chain_is h.1.2, h.2⟩
/-- The node where one is behind the first k contacts. -/
def nodeAt (xs : List I5) (f : Int) (os : List Int) : Nat → Int
  | 0 => f
  | k + 1 => (ofN xs (os.getD k 0)).a1
/-- The first k contacts lead on from a node. -/
def goUp (xs : List I5) (f : Int) (os : List Int) (k : Nat) : Prop := ∀ i, i < k → (ofN xs (os.getD i 0)).a0 = nodeAt xs f os i
theorem goUp_iff {xs : List I5} {f : Int} {os : List Int} : goUp xs f os os.length ↔ (headOk xs f os = true ∧ chUp xs os os.length) := by
  constructor
  · intro h
    refine ⟨?_, fun i hi => (h (i + 1) hi).symm⟩
    unfold headOk
    cases os with
    | nil => rfl
    | cons o os =>
      simp only [Bool.or_eq_true, decide_eq_true_eq]
      exact .inr (h 0 (by simp))
  · rintro ⟨h1, h2⟩ i hi
    cases i with
    | zero =>
      unfold headOk at h1
      cases os with
      | nil => simp at hi
      | cons o os => show (ofN xs _).a0 = f; simpa using h1
    | succ i => exact (h2 i hi).symm
theorem goUp_succ {xs : List I5} {f : Int} {os : List Int} {k : Nat} (h : goUp xs f os k) (h1 : (ofN xs (os.getD k 0)).a0 = nodeAt xs f os k) : goUp xs f os (k + 1) := by
  intro i hi
  by_cases e : i = k
  · subst e; exact h1
  · exact h i (by omega)
theorem way_go {xs : List I5} {f n : Int} {os : List Int} (h1 : startOk xs f n = true) (h2 : inP xs.length os = true) (h3 : os.length ≤ 20) (h4 : goUp xs f os os.length) : wayOk xs f n os = true := by
  obtain ⟨a, b⟩ := goUp_iff.1 h4
  simp [wayOk, h1, rowB, h2, h3, a, chain_yes b]
theorem way_no {xs : List I5} {f n : Int} {os : List Int} {k : Nat} (hk : k < os.length) (h : (ofN xs (os.getD k 0)).a0 ≠ nodeAt xs f os k) : wayOk xs f n os = false := by
  rw [Bool.eq_false_iff]
  intro e
  simp only [wayOk, Bool.and_eq_true] at e
  exact h (goUp_iff.2 ⟨e.2, (rowB_is e.1.2).2.1⟩ k hk)
end PN
end Go.Proofs.Ytickoajkppgdaaa
