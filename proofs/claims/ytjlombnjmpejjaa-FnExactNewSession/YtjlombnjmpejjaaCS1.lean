/- Talks: how many segments, links, a new talk. -/
import Derived.Test.YtjlombnjmpejjaaRows
import Derived.Test.YtjlombnjmpejjaaMS
import Derived.Conc.SmallLaws
import Derived.WalkKit
import Derived.WalkSpells
import Derived.WalkLawsBesides
import Derived.Outline
namespace Go.Proofs.Ytjlombnjmpejjaa
open Go.RowKit
set_option maxRecDepth 100000 in
theorem many_any (k : Nat) (b : ByteArray) (w : World) (hs : b.size ≤ 1048576) (hc : w.cell? ⟨k, 0, none⟩ = some (.string b)) :
    Calls Try.prog 118 #[.pointer (some ⟨k, 0, none⟩)] w fun e w' => e = .returned (.int .i64 (SE.many b : Int)) ∧ w = w' := by
  go_enter Try.func118, Try.ntmps118
  go_wp2
  go_ret
  refine ⟨?_, rfl⟩
  unfold SE.many
  go_num
theorem Try.mkA (w : World) : (Instr.makeChan 127 (.int .i64 30)).run Try.prog w = .ok (.chan (some w.heap.size)) (w.alloc (.chan 30 #[] false 0 0 false)) := by
  have h : (Try.prog.info? 141).map (·.bytes) = some 16 := by kernel_rfl
  obtain ⟨i, hi, hb⟩ := Option.map_eq_some_iff.1 h
  simpa using Go.Conc.run_makeChan (P := Try.prog) (w := w) Try.underlying127 hi .i64 30 (by omega) (by rw [hb]; omega)
theorem Try.mkB (w : World) : (Instr.makeChan 129 (.int .i64 30)).run Try.prog w = .ok (.chan (some w.heap.size)) (w.alloc (.chan 30 #[] false 0 0 false)) := by
  have h : (Try.prog.info? 125).map (·.bytes) = some 5 := by kernel_rfl
  obtain ⟨i, hi, hb⟩ := Option.map_eq_some_iff.1 h
  simpa using Go.Conc.run_makeChan (P := Try.prog) (w := w) Try.underlying129 hi .i64 30 (by omega) (by rw [hb]; omega)
theorem newLinkA_any (w : World) : Calls Try.prog 91 #[] w fun e w' => e = .returned (.chan (some w.heap.size)) ∧ w.alloc (.chan 30 #[] false 0 0 false) = w' := by
  have hmc := Try.mkA
  go_enter Try.func91, Try.ntmps91
  go_wp2
  go_ret
  exact ⟨rfl, rfl⟩
theorem newLinkB_any (w : World) : Calls Try.prog 92 #[] w fun e w' => e = .returned (.chan (some w.heap.size)) ∧ w.alloc (.chan 30 #[] false 0 0 false) = w' := by
  have hmc := Try.mkB
  go_enter Try.func92, Try.ntmps92
  go_wp2
  go_ret
  exact ⟨rfl, rfl⟩
set_option maxHeartbeats 800000 in
set_option maxRecDepth 100000 in
theorem newTalk_no (b : ByteArray) (w : World) (hs : b.size ≤ 1048576) (h : SE.okB b = false) :
    Calls Try.prog 59 #[.string b] w fun e w' => e = .returned (.tuple #[.pointer none, .bool false]) ∧ w = w' := by
  rcases SE.okB_no h with h1 | h1
  · have h2 : decide (1 ≤ (b.size : Int)) = false := decide_eq_false (by omega)
    have h3 : (b.size : Int) < 1 := by omega
    clear h h1
    go_enter Try.func59, Try.ntmps59
    go_wp2
    go_ret2
    exact ⟨rfl, rfl⟩
  · have h2 : decide ((b.size : Int) ≤ 40) = false := decide_eq_false (by omega)
    have h3 : (1 : Int) ≤ (b.size : Int) := by omega
    have h4 : 40 < (b.size : Int) := by omega
    clear h h1
    go_enter Try.func59, Try.ntmps59
    go_wp2
    go_ret2
    exact ⟨rfl, rfl⟩
set_option maxHeartbeats 800000 in
set_option maxRecDepth 100000 in
theorem newTalk_yes (b : ByteArray) (w : World) (h : SE.okB b = true) :
    Calls Try.prog 59 #[.string b] w fun e w' => e = .returned (.tuple #[.pointer (some ⟨w.heap.size + 1 + 1, 0, none⟩), .bool true]) ∧ ((w.alloc (.chan 30 #[] false 0 0 false)).alloc (.chan 30 #[] false 0 0 false)).alloc (.cells (SE.tk b (fun _ => false) (fun _ => false) w.heap.size (w.heap.size + 1)).toArray 131) = w' := by
  obtain ⟨h1, h2⟩ := SE.okB_is h
  have h1' : (1 : Int) ≤ (b.size : Int) := by omega
  have h2' : (b.size : Int) ≤ 40 := by omega
  have NA := Try.mkA
  have NB := Try.mkB
  clear h h1 h2
  go_enter Try.func59, Try.ntmps59
  go_wp2
  go_ret2
  exact ⟨rfl, rfl⟩
end Go.Proofs.Ytjlombnjmpejjaa
