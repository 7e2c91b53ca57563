/- Rows of contacts: l6Row (the specification's), areOfPlan (the program's). -/
import Derived.Test.YtlkioijpdlalhaaRows
import Derived.Test.YtlkioijpdlalhaaM5
import Derived.Test.YtlkioijpdlalhaaCWithin
import Derived.Test.YtlkioijpdlalhaaCNums
import Derived.WalkKit
import Derived.WalkSpells
import Derived.WalkLawsBesides
import Derived.Outline
import Derived.Deep.QuietTactic
import Derived.BigQuiet
namespace Go.Proofs.Ytlkioijpdlalhaa
open Go.RowKit
namespace PN
/-- The contact that a number names. -/
def ofN (xs : List I5) (o : Int) : I5 := MI5.at_ xs o.toNat
/-- The first k lead on. -/
def chUp (xs : List I5) (os : List Int) (k : Nat) : Prop := ∀ i, i + 1 < k → (ofN xs (os.getD i 0)).a1 = (ofN xs (os.getD (i + 1) 0)).a0
open Classical in
noncomputable def chain (xs : List I5) (os : List Int) : Bool := decide (chUp xs os os.length)
theorem chUp_succ {xs : List I5} {os : List Int} {k : Nat} (h : chUp xs os (k + 1)) (h1 : (ofN xs (os.getD k 0)).a1 = (ofN xs (os.getD (k + 1) 0)).a0) : chUp xs os (k + 2) := by
  intro i hi
  by_cases e : i = k
  · subst e; exact h1
  · exact h i (by omega)
theorem chain_no {xs : List I5} {os : List Int} {k : Nat} (hk : k + 1 < os.length) (h : (ofN xs (os.getD k 0)).a1 ≠ (ofN xs (os.getD (k + 1) 0)).a0) : chain xs os = false := by
  simp only [chain, decide_eq_false_iff_not]; intro e; exact h (e k hk)
theorem chain_yes {xs : List I5} {os : List Int} (h : chUp xs os os.length) : chain xs os = true := by simpa only [chain, decide_eq_true_eq] using h
theorem chain_is {xs : List I5} {os : List Int} (h : chain xs os = true) : chUp xs os os.length := by simpa only [chain, decide_eq_true_eq] using h
theorem ints_at2 {w : World} {a : Option Addr} {zs : List Int} (h : M4.IntsAt w a zs) {k : Nat} (hk : k + 1 < zs.length) : ∃ b off, a = some ⟨b, off, none⟩ ∧ b < w.heap.size ∧ w.cell? ⟨b, off + k, none⟩ = some (.int .i64 (zs.getD k 0)) ∧ w.cell? ⟨b, off + (k + 1), none⟩ = some (.int .i64 (zs.getD (k + 1) 0)) := by
  rcases h with rfl | ⟨b, off, rfl, hlt, hc⟩
  · simp at hk
  · exact ⟨b, off, rfl, hlt, hc k (by omega), hc (k + 1) hk⟩
theorem row_at2 {w : World} {a : Option Addr} {xs : List I5} (h : MI5.RowAt w a xs) {i j : Nat} (hi : i < xs.length) (hj : j < xs.length) : ∃ b off, a = some ⟨b, off, none⟩ ∧ b < w.heap.size ∧ w.cell? ⟨b, off + i * 5 + 1, none⟩ = some (.int .i64 (MI5.at_ xs i).a1) ∧ w.cell? ⟨b, off + j * 5, none⟩ = some (.int .i64 (MI5.at_ xs j).a0) := by
  rcases h.is with rfl | ⟨b, off, rfl, hlt, hc⟩
  · simp at hi
  · exact ⟨b, off, rfl, hlt, (hc i hi).2.1, (hc j hj).1⟩
/-- What l6Row tells. -/
noncomputable def rowB (xs : List I5) (os : List Int) : Bool := inP xs.length os && chain xs os && decide (os.length ≤ 20)
end PN
set_option maxHeartbeats 1600000 in
set_option maxRecDepth 100000 in
theorem areOfPlan_any (a b : Option Addr) (ca cb : Nat) (n : Nat) (os : List Int) (w : World) (hn : n ≤ 1048576) (ho : os.length ≤ 1048576) (hos : M4.IntsAt w b os) (R : Bool) (hR : Hid ((decide (os.length ≤ 20) && PN.inP n os) = R)) :
    Calls Try.prog 40 #[.slice a n ca, .slice b os.length cb] w fun e w' => e = .returned (.bool R) ∧ Below w.heap.size w w' := by
  have NU : Hid _ := areNumbersOf_any b cb n os w hn ho hos _ rfl
  generalize PN.inP n os = q at *
  clear hos
  by_cases hl : os.length ≤ 20
  · have hF : Hid (q = R) := by show _ = _; rw [← hR.out]; simp [hl]
    clear hR
    go_enter Try.func40, Try.ntmps40
    go_wp2_with fail
    refine Calls.mono NU.out ?_
    rintro e w' ⟨rfl, rfl⟩
    clear NU
    go_wp2
    go_ret
    exact ⟨retB6 hF.out, Below.refl _ _⟩
  · have hF : Hid (R = false) := by rw [← hR.out]; simp [Hid, hl]
    clear hR NU
    go_enter Try.func40, Try.ntmps40
    go_wp2
    go_ret
    exact ⟨retB6 hF.out.symm, Below.refl _ _⟩
end Go.Proofs.Ytlkioijpdlalhaa
