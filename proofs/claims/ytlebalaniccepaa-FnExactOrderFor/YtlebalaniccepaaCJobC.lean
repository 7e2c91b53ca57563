/- The program's order of jobs by whether they are chosen. -/
import Derived.Test.YtlebalaniccepaaRows
import Derived.Test.YtlebalaniccepaaCJob1
import Derived.Test.YtlebalaniccepaaCHasI
namespace Go.Proofs.Ytlebalaniccepaa
open Go.RowKit
set_option maxHeartbeats 800000 in
set_option maxRecDepth 100000 in
theorem rankChoice_any (a : Option Addr) (ca c : Nat) (zs : List Int) (z : Int) (w : World) (hl : zs.length ≤ 1048576) (hc : w.cell? ⟨c, 0, none⟩ = some (.slice a zs.length ca)) (hin : M4.IntsAt w a zs) :
    Calls Try.prog 64 #[.int .i64 z, .pointer (some ⟨c, 0, none⟩)] w fun e w' => e = .returned (.int .i64 (if EG.hasB zs z = true then 0 else 1)) ∧ w = w' := by
  have CT : Hid _ := containsI_any a ca zs z w hl hin
  clear hin
  generalize EG.hasB zs z = q at *
  go_enter Try.func64, Try.ntmps64
  go_wp2_with fail
  refine Calls.mono CT.out ?_
  rintro e w1 ⟨rfl, rfl⟩
  clear CT
  cases q
  · go_wp2
    go_ret
    exact ⟨rfl, rfl⟩
  · go_wp2
    go_ret
    exact ⟨rfl, rfl⟩
set_option maxHeartbeats 800000 in
set_option maxRecDepth 100000 in
theorem orderChoice_any (a : Option Addr) (ca n : Nat) (w : World) : Calls Try.prog 40 #[.slice a n ca] w fun e w' => e = .returned (.agg #[.func (.func 64) #[] #[.pointer (some ⟨w.heap.size, 0, none⟩)]]) ∧ w'.cell? ⟨w.heap.size, 0, none⟩ = some (.slice a n ca) ∧ w.heap.size < w'.heap.size ∧ Below w.heap.size w w' := by
  have SF : ∀ (W : World) (ad : Addr) (F : Nat) (cs : Array Value) (m : Mode), (store ad (.func (.func F) #[] cs) m).run Try.prog W = stored Try.prog W ad (.func (.func F) #[] cs) m := fun W ad F cs m => run_store _ W ad _ m rfl
  have FIN : Hid (∀ o2 : Obj, ((w.alloc (.cells #[.slice a n ca] 24)).alloc o2).cell? ⟨w.heap.size, 0, none⟩ = some (.slice a n ca) ∧ w.heap.size < ((w.alloc (.cells #[.slice a n ca] 24)).alloc o2).heap.size ∧ Below w.heap.size w ((w.alloc (.cells #[.slice a n ca] 24)).alloc o2)) := fun o2 => by
    refine ⟨?_, by simp; omega, ((Below.refl _ w).alloc (Nat.le_refl _) _).alloc (by simp) _⟩
    have h1 : (w.alloc (.cells #[.slice a n ca] 24)).cell? ⟨w.heap.size, 0, none⟩ = some (.slice a n ca) := by rw [World.cell?_alloc_new]; rfl
    exact (((Below.refl _ (w.alloc (.cells #[.slice a n ca] 24))).alloc (Nat.le_refl _) o2).cell (p := ⟨w.heap.size, 0, none⟩) (by simp)).trans h1
  go_enter Try.func40, Try.ntmps40
  go_wp2
  exact bodyPost_ret (v := .agg #[.func (.func 64) #[] #[.pointer (some ⟨w.heap.size, 0, none⟩)]]) (by simp [results, Try.results40, go_sem]) rfl ⟨rfl, FIN.out _⟩
end Go.Proofs.Ytlebalaniccepaa
