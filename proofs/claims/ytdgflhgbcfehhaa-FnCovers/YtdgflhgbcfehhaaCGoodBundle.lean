/- GoodBundle, the specification's and the program's, at any bundle. -/
import Derived.Test.YtdgflhgbcfehhaaRows
import Derived.Test.YtdgflhgbcfehhaaMB1
import Derived.WalkKit
import Derived.WalkSpells
import Derived.WalkLawsBesides
import Derived.Outline
namespace Go.Proofs.Ytdgflhgbcfehhaa
open Go.RowKit
theorem retB {a b : Bool} (h : a = b) : Ending.returned (.bool a) = .returned (.bool b) := by rw [h]
set_option maxHeartbeats 1600000 in
set_option maxRecDepth 100000 in
theorem specGoodBundle_any (b : Bd) (w : World) (hs : b.py.size ≤ 1048576) (R : Bool) (hR : Hid (B1.good b = R)) :
    Calls Try.prog 36 #[b.v] w fun e w' => e = .returned (.bool R) ∧ Below w.heap.size w w' := by
  obtain ⟨fr, to, gr, md, no, lf, hp, of, tl, py⟩ := b
  simp only at hs
  have hB : ∀ o, Below w.heap.size w (w.alloc o) := fun o => (Below.refl _ w).alloc (Nat.le_refl _) o
  go_enter Try.func36, Try.ntmps36
  go_wp2
  all_goals go_ret
  all_goals refine ⟨retB ?_, hB _⟩
  all_goals (rw [← hR.out]; unfold B1.good; rw [B1.placed_spec]; simp only [B1.head, inB]; clear hR hB)
  all_goals (rw [Bool.eq_iff_iff]; simp only [Bool.and_eq_true, Bool.or_eq_true, Bool.not_eq_true', Bool.not_eq_false', decide_eq_true_eq, decide_eq_false_iff_not, Bool.false_eq_true, beq_iff_eq, false_iff, true_iff] at *; first | omega | (unfold wrap64; omega))
set_option maxHeartbeats 400000 in
set_option maxRecDepth 100000 in
theorem parcelOf_any (b : Bd) (w : World) : Calls Try.prog 30 #[b.v] w fun e w' => e = .returned b.parcel ∧ Below w.heap.size w w' := by
  obtain ⟨fr, to, gr, md, no, lf, hp, of, tl, py⟩ := b
  go_enter Try.func30, Try.ntmps30
  go_wp2
  exact bodyPost_ret (v := Bd.v ⟨fr, to, gr, md, no, lf, hp, of, tl, py⟩) (by simp [results, Try.results30, go_sem]) rfl ⟨rfl, (((Below.refl _ w).alloc (Nat.le_refl _) _).alloc (by simp) _).alloc (by simp; omega) _⟩
set_option maxHeartbeats 1600000 in
set_option maxRecDepth 100000 in
theorem isGoodHead_any (b : Bd) (w : World) (R : Bool) (hR : Hid (B1.head b = R)) :
    Calls Try.prog 58 #[b.head] w fun e w' => e = .returned (.bool R) ∧ Below w.heap.size w w' := by
  obtain ⟨fr, to, gr, md, no, lf, hp, of, tl, py⟩ := b
  have hB : ∀ o, Below w.heap.size w (w.alloc o) := fun o => (Below.refl _ w).alloc (Nat.le_refl _) o
  go_enter Try.func58, Try.ntmps58
  go_wp2
  all_goals go_ret
  all_goals refine ⟨retB ?_, hB _⟩
  all_goals (rw [← hR.out]; simp only [B1.head, inB]; clear hR hB)
  all_goals (rw [Bool.eq_iff_iff]; simp only [Bool.and_eq_true, decide_eq_true_eq, Bool.false_eq_true, false_iff] at *; omega)
set_option maxHeartbeats 1600000 in
set_option maxRecDepth 100000 in
theorem isWellPlaced_any (b : Bd) (w : World) (hs : b.py.size ≤ 1048576) (R : Bool) (hR : Hid (B1.placed b = R)) :
    Calls Try.prog 59 #[b.parcel] w fun e w' => e = .returned (.bool R) ∧ Below w.heap.size w w' := by
  obtain ⟨fr, to, gr, md, no, lf, hp, of, tl, py⟩ := b
  simp only at hs
  have hB : ∀ o, Below w.heap.size w (w.alloc o) := fun o => (Below.refl _ w).alloc (Nat.le_refl _) o
  go_enter Try.func59, Try.ntmps59
  go_wp2
  all_goals go_ret
  all_goals refine ⟨retB ?_, hB _⟩
  all_goals (rw [← hR.out]; simp only [B1.placed, inB]; clear hR hB)
  all_goals (rw [Bool.eq_iff_iff]; simp only [B1.nil_iff, B1.empty_iff, Bool.and_eq_true, Bool.not_eq_true', decide_eq_true_eq, decide_eq_false_iff_not, Bool.false_eq_true, beq_iff_eq, beq_eq_false_iff_ne, ne_eq, false_iff] at *)
  all_goals (split <;> simp only [Bool.and_eq_true, decide_eq_true_eq] <;> omega)
set_option maxHeartbeats 1600000 in
set_option maxRecDepth 100000 in
theorem isGood_any (b : Bd) (w : World) (hs : b.py.size ≤ 1048576) (R : Bool) (hR : Hid (B1.good b = R)) :
    Calls Try.prog 31 #[b.parcel] w fun e w' => e = .returned (.bool R) ∧ Below w.heap.size w w' := by
  have IH : Hid (∀ W : World, Calls Try.prog 58 #[b.head] W fun e w' => e = .returned (.bool (B1.head b)) ∧ Below W.heap.size W w') := fun W => isGoodHead_any b W _ rfl
  have IP : Hid (∀ W : World, Calls Try.prog 59 #[b.parcel] W fun e w' => e = .returned (.bool (B1.placed b)) ∧ Below W.heap.size W w') := fun W => isWellPlaced_any b W hs _ rfl
  have hR1 := hR.out
  unfold B1.good at hR1
  generalize B1.head b = x at *
  generalize B1.placed b = y at *
  obtain ⟨fr, to, gr, md, no, lf, hp, of, tl, py⟩ := b
  simp only at hs IH IP hR1
  have HR : Hid _ := hR1
  clear hR hR1
  have hB : Below w.heap.size w (w.alloc (.cells #[.int .i64 fr, .int .i64 to, .bool gr, .int .i64 md, .int .i64 no, .int .i64 lf, .int .i64 hp, .int .i64 of, .int .i64 tl, .string py] 62)) := (Below.refl _ w).alloc (Nat.le_refl _) _
  go_enter Try.func31, Try.ntmps31
  go_wp2_with fail
  refine (IH.out _).mono ?_
  rintro e w2 ⟨rfl, hb2⟩
  have hsz := hb2.size
  simp only [World.alloc, Array.size_push] at hsz
  have q : ∀ j, w2.cell? ⟨w.heap.size, j, none⟩ = (w.alloc (.cells #[.int .i64 fr, .int .i64 to, .bool gr, .int .i64 md, .int .i64 no, .int .i64 lf, .int .i64 hp, .int .i64 of, .int .i64 tl, .string py] 62)).cell? ⟨w.heap.size, j, none⟩ := fun j => hb2.cell (by simp)
  have hB2 : Below w.heap.size w w2 := hB.trans (hb2.mono (by simp))
  have q0 := q 0
  have q1 := q 1
  have q2 := q 2
  have q3 := q 3
  have q4 := q 4
  have q5 := q 5
  have q6 := q 6
  have q7 := q 7
  have q8 := q 8
  have q9 := q 9
  simp at q0 q1 q2 q3 q4 q5 q6 q7 q8 q9
  have hlt : w.heap.size < w2.heap.size := by omega
  clear q IH hb2 hB hsz
  cases x with
  | false =>
    have hF : Hid (false = R) := by rw [← HR.out]; rfl
    clear HR IP q0 q1 q2 q3 q4 q5 q6 q7 q8
    go_wp2
    go_ret
    exact ⟨retB hF.out, hB2⟩
  | true =>
    by_cases h60 : py.size ≤ 60
    · have hT : Hid (y = R) := by rw [← HR.out]; simp [Hid, h60]
      clear HR
      go_wp2_with fail
      refine (IP.out _).mono ?_
      rintro e w3 ⟨rfl, hb3⟩
      have hB3 : Below w.heap.size w w3 := hB2.trans (hb3.mono hB2.size)
      clear IP hb3 hB2 q0 q1 q2 q3 q4 q5 q6 q7 q8 q9
      go_wp2
      go_ret
      exact ⟨retB hT.out, hB3⟩
    · have hF : Hid (false = R) := by rw [← HR.out]; simp [Hid, h60]
      clear HR IP q0 q1 q2 q3 q4 q5 q6 q7 q8
      go_wp2
      go_ret
      exact ⟨retB hF.out, hB2⟩
end Go.Proofs.Ytdgflhgbcfehhaa
