/- The law FnExactNumberItem answers true at every number. -/
import Derived.Test.YtpcmbilhildkgabRows
import Derived.Test.YtpcmbilhildkgabCEqItem
import Derived.Test.YtpcmbilhildkgabCNumberItem
import Derived.WalkKit
import Derived.WalkSpells
import Derived.WalkLawsBesides
import Derived.Outline
namespace Go.Proofs.Ytpcmbilhildkgab
open Go.RowKit
set_option maxHeartbeats 800000 in
set_option maxRecDepth 100000 in
theorem lawNumberItem_any (n : Int) (w : World) : Calls Try.prog 5 #[.int .i64 n] w fun e w' => e = .returned (.bool true) ∧ Below w.heap.size w w' := by
  go_enter Try.func5, Try.ntmps5
  go_wp2_with fail
  refine (specNumberItem_any n _).mono ?_
  rintro e w1 ⟨rfl, hb1⟩
  obtain ⟨x, hx⟩ : ∃ x, numIt n = x := ⟨_, rfl⟩
  obtain ⟨b, hb⟩ : ∃ b, okN n = b := ⟨_, rfl⟩
  rw [hx, hb]
  have HX : Hid (numIt n = x ∧ okN n = b) := ⟨hx, hb⟩
  clear hx hb
  obtain ⟨k, m, s, c⟩ := x
  go_wp2_with fail
  refine (implNumberItem_any n _).mono ?_
  rintro e w2 ⟨rfl, hb2⟩
  rw [HX.out.1, HX.out.2]
  have hsz := hb2.size
  simp only [World.alloc, Array.size_push] at hsz
  have q : ∀ j, w2.cell? ⟨w1.heap.size, j, none⟩ = (w1.alloc (.cells #[.int .i64 k, .int .i64 m, .string s, .int .i64 c] 34)).cell? ⟨w1.heap.size, j, none⟩ := fun j => hb2.cell (by simp)
  have hB2 : Below w.heap.size w w2 := (hb1.alloc hb1.size _).trans (hb2.mono (by have := hb1.size; simp; omega))
  have hl : w1.heap.size < w2.heap.size := by omega
  have q0 := q 0
  have q1 := q 1
  have q2 := q 2
  have q3 := q 3
  simp at q0 q1 q2 q3
  clear q hsz hb2
  go_wp2_with fail
  refine (eqItem_any ⟨k, m, s, c⟩ ⟨k, m, s, c⟩ _).mono ?_
  rintro e w3 ⟨rfl, hb3⟩
  rw [M8.same_self]
  have hB3 : Below w.heap.size w w3 := (hB2.alloc hB2.size _).trans (hb3.mono (by have := hB2.size; simp; omega))
  clear hb3 q0 q1 q2 q3
  go_wp2
  go_ret
  exact ⟨rfl, hB3⟩
end Go.Proofs.Ytpcmbilhildkgab
