/- need panics where it is told so; isWithoutFault tells whether what it does has panicked: the custody's check. -/
import Derived.Test.YtfkmnmiolnijaaaRows
import Derived.Test.YtfkmnmiolnijaaaM5
import Derived.Test.YtfkmnmiolnijaaaMCur
import Derived.Test.YtfkmnmiolnijaaaMBxN
import Derived.Recover
import Derived.WalkKit
import Derived.WalkSpells
import Derived.WalkLawsBesides
import Derived.Outline
namespace Go.Proofs.Ytfkmnmiolnijaaa
open Go.RowKit
/-- The ending of what gives up by a fault. -/
abbrev Try.fault : Ending := .panicked [{ v := .iface 81 (.agg #[]), recovered := false }]
/-- A check's ending: it comes to its end, or gives up. -/
def Try.out (b : Bool) : Ending := if b then .returned (.tuple #[]) else Try.fault
set_option maxHeartbeats 1600000 in
set_option maxRecDepth 100000 in
theorem need_yes (w : World) : Calls Try.prog 41 #[.bool true] w fun e w' => e = .returned (.tuple #[]) ∧ w = w' := by
  go_enter Try.func41, Try.ntmps41
  go_wp2
  first | go_end0 | refine bodyPost_ret (results_none rfl _ _ _) rfl ?_
  exact ⟨rfl, rfl⟩
set_option maxHeartbeats 1600000 in
set_option maxRecDepth 100000 in
theorem need_no (w : World) : Calls Try.prog 41 #[.bool false] w fun e w' => e = Try.fault ∧ w = w' := by
  go_enter Try.func41, Try.ntmps41
  go_wp2
  exact ⟨rfl, rfl, rfl⟩
set_option maxHeartbeats 1600000 in
set_option maxRecDepth 100000 in
theorem catch_fault (p : Addr) (x : Bool) (u : TypeId) (pv : Value) (older : List PanicEntry) (w : World) (hc : w.cell? p = some (.bool x)) (hz : w.frozen? p = false) :
    CallsD Try.prog 40 #[.pointer (some p)] (.panicking ({ v := .iface u pv, recovered := false } :: older)) w fun e u' w' =>
      e = .returned (.tuple #[]) ∧ u' = .panicking ({ v := .iface u pv, recovered := true } :: older) ∧ w' = w.setCell p (.bool false) := by
  refine callsD_of_wpS Try.func40 rfl fun c₀ cs hu => ?_
  apply wpS_seq
  apply wpS_region
  simp [wpOpsS, go_sem, recoverD, hu, Try.ntmps40, Exit.thenS]
  refine wpS_cond (t := true) (by simp [Act.eval, Array.replicate]) ?_
  simp only [if_true]
  apply wpS_region
  simp [wpOpsS, go_sem, hc, hz, bodyPostS, results, Try.results40]
set_option maxHeartbeats 1600000 in
set_option maxRecDepth 100000 in
theorem catch_none (p : Addr) (w : World) :
    CallsD Try.prog 40 #[.pointer (some p)] .returning w fun e u' w' => e = .returned (.tuple #[]) ∧ u' = .returning ∧ w' = w := by
  refine callsD_of_wpS Try.func40 rfl fun c₀ cs hu => ?_
  apply wpS_seq
  apply wpS_region
  simp [wpOpsS, go_sem, recoverD, hu, Try.ntmps40, Exit.thenS]
  refine wpS_cond (t := false) (by simp [Act.eval, Array.replicate]) ?_
  simp only [Bool.false_eq_true, if_false]
  refine wpS_of_wp (wp_skip ?_)
  cases c₀
  simp_all [bodyPostS, results, Try.results40]
set_option maxHeartbeats 1600000 in
set_option maxRecDepth 100000 in
theorem withoutCheck_any (cv : Value) (B : Bool) (w : World) (hK : ∀ W : World, Below w.heap.size w W → Calls Try.prog 25 #[cv] W fun e w' => e = Try.out B ∧ Below W.heap.size W w') :
    Calls Try.prog 24 #[.func (.func 25) #[cv] #[]] w fun e w' => e = .returned (.bool B) ∧ Below w.heap.size w w' := by
  have hmf : ∀ (fn : Fn) (first cap : Array Value) (w : World), (Instr.makeFunc fn first cap).run Try.prog w = .ok (.func fn first cap) w := fun _ _ _ _ => rfl
  have HK : Hid _ := hK
  have hB0 : Below w.heap.size w (w.alloc (.cells #[.bool false] 4)) := (Below.refl _ w).alloc (Nat.le_refl _) _
  have x0 : BxN (w.alloc (.cells #[.bool false] 4)) w.heap.size [.bool false] 4 := BxN.new w _ _ rfl
  clear hK
  go_enter_defers Try.func24, Try.ntmps24
  go_wp2_with fail
  generalize w.alloc (.cells #[.bool false] 4) = W0 at *
  refine (HK.out W0 hB0).mono ?_
  rintro e w1 ⟨rfl, hb⟩
  have hB1 := hB0.trans (hb.mono hB0.size)
  have x1 := x0.below hb x0.lt
  have c1 := x1.cell 0 rfl
  have f1 := x1.free 0
  clear HK hb hB0 x0
  cases B
  · unfold Try.out
    simp only [Bool.false_eq_true, if_false]
    go_wp2
    refine leaves_cons (f := 40) (args := #[.pointer (some ⟨w.heap.size, 0, none⟩)]) (by simp) (by simp [go_sem]) ?_
    refine (catch_fault ⟨w.heap.size, 0, none⟩ false _ _ [] _ c1 f1).mono ?_
    rintro e u' w'' ⟨rfl, rfl, rfl⟩
    have on := (MC.Only.refl w.heap.size w1).setCell 0 (.bool false)
    have hB2 := hB1.trans (on.below (B := w.heap.size) (Nat.le_refl _) hB1.size)
    have c2 := (x1.set 0 (.bool false)).cell 0 rfl
    simp [Leaves, settle, results, Try.results24, go_sem, c2, hB2]
  · unfold Try.out
    simp only [if_true]
    go_wp2
    refine leaves_cons (f := 40) (args := #[.pointer (some ⟨w.heap.size, 0, none⟩)]) (by simp) (by simp [go_sem]) ?_
    refine (catch_none ⟨w.heap.size, 0, none⟩ _).mono ?_
    rintro e u' w'' ⟨rfl, rfl, rfl⟩
    have on := (MC.Only.refl w.heap.size w1).setCell 0 (.bool true)
    have hB2 := hB1.trans (on.below (B := w.heap.size) (Nat.le_refl _) hB1.size)
    have c2 := (x1.set 0 (.bool true)).cell 0 rfl
    simp [Leaves, settle, results, Try.results24, go_sem, c2, hB2]
end Go.Proofs.Ytfkmnmiolnijaaa
