/- The program's order of jobs by how long they are. -/
import Derived.Test.YtlebalaniccepaaRows
import Derived.Test.YtlebalaniccepaaCJob1
namespace Go.Proofs.Ytlebalaniccepaa
open Go.RowKit
set_option maxHeartbeats 800000 in
set_option maxRecDepth 100000 in
theorem rankLong_any (a : Option Addr) (ca c : Nat) (xs : List I2) (j : Nat) (w : World) (hj : j < xs.length) (_hl : xs.length ≤ 10) (hc : w.cell? ⟨c, 0, none⟩ = some (.slice a xs.length ca)) (hin : MI2.RowAt w a xs) :
    Calls Try.prog 75 #[.int .i64 (j : Int), .pointer (some ⟨c, 0, none⟩)] w fun e w' => e = .returned (.int .i64 (MI2.at_ xs j).a0) ∧ w = w' := by
  obtain ⟨b2, off2, rfl, hlt2, c2, _⟩ := hin.at hj
  clear hin
  generalize (MI2.at_ xs j).a0 = x at *
  go_enter Try.func75, Try.ntmps75
  go_wp2
  go_ret
  exact ⟨rfl, rfl⟩
set_option maxHeartbeats 800000 in
set_option maxRecDepth 100000 in
theorem orderLong_any (a : Option Addr) (ca n : Nat) (w : World) : Calls Try.prog 56 #[.slice a n ca] w fun e w' => e = .returned (.agg #[.func (.func 75) #[] #[.pointer (some ⟨w.heap.size, 0, none⟩)]]) ∧ w'.cell? ⟨w.heap.size, 0, none⟩ = some (.slice a n ca) ∧ w.heap.size < w'.heap.size ∧ Below w.heap.size w w' := by
  have SF : ∀ (W : World) (ad : Addr) (F : Nat) (cs : Array Value) (m : Mode), (store ad (.func (.func F) #[] cs) m).run Try.prog W = stored Try.prog W ad (.func (.func F) #[] cs) m := fun W ad F cs m => run_store _ W ad _ m rfl
  have FIN : Hid (∀ o2 : Obj, ((w.alloc (.cells #[.slice a n ca] 27)).alloc o2).cell? ⟨w.heap.size, 0, none⟩ = some (.slice a n ca) ∧ w.heap.size < ((w.alloc (.cells #[.slice a n ca] 27)).alloc o2).heap.size ∧ Below w.heap.size w ((w.alloc (.cells #[.slice a n ca] 27)).alloc o2)) := fun o2 => by
    refine ⟨?_, by simp; omega, ((Below.refl _ w).alloc (Nat.le_refl _) _).alloc (by simp) _⟩
    have h1 : (w.alloc (.cells #[.slice a n ca] 27)).cell? ⟨w.heap.size, 0, none⟩ = some (.slice a n ca) := by rw [World.cell?_alloc_new]; rfl
    exact (((Below.refl _ (w.alloc (.cells #[.slice a n ca] 27))).alloc (Nat.le_refl _) o2).cell (p := ⟨w.heap.size, 0, none⟩) (by simp)).trans h1
  go_enter Try.func56, Try.ntmps56
  go_wp2
  exact bodyPost_ret (v := .agg #[.func (.func 75) #[] #[.pointer (some ⟨w.heap.size, 0, none⟩)]]) (by simp [results, Try.results56, go_sem]) rfl ⟨rfl, FIN.out _⟩
end Go.Proofs.Ytlebalaniccepaa
