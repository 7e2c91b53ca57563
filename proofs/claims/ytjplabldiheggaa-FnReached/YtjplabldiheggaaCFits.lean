import Derived.Test.YtjplabldiheggaaRows
import Derived.Test.YtjplabldiheggaaMB1
import Derived.WalkKit
import Derived.WalkSpells
import Derived.WalkLawsBesides
import Derived.Outline
import Derived.Test.YtjplabldiheggaaMFit
import Derived.Test.YtjplabldiheggaaCPlan
import Derived.Test.YtjplabldiheggaaCSmall6
/- GoodBundle, the specification's and the program's, at any bundle. -/
namespace Go.Proofs.Ytjplabldiheggaa
open Go.RowKit
theorem retB {a b : Bool} (h : a = b) : Ending.returned (.bool a) = .returned (.bool b) := by rw [h]
set_option maxHeartbeats 1600000 in
set_option maxRecDepth 100000 in
theorem specGoodBundle_any (b : Bd) (w : World) (hs : b.py.size ≤ 1048576) (R : Bool) (hR : Hid (B1.good b = R)) :
    Calls Try.prog 71 #[b.v] w fun e w' => e = .returned (.bool R) ∧ Below w.heap.size w w' := by
  obtain ⟨fr, to, gr, md, no, lf, hp, of, tl, py⟩ := b
  simp only at hs
  have hB : ∀ o, Below w.heap.size w (w.alloc o) := fun o => (Below.refl _ w).alloc (Nat.le_refl _) o
  go_enter Try.func71, Try.ntmps71
  go_wp2
  all_goals go_ret
  all_goals refine ⟨retB ?_, hB _⟩
  all_goals (rw [← hR.out]; unfold B1.good; rw [B1.placed_spec]; simp only [B1.head, inB]; clear hR hB)
  all_goals (rw [Bool.eq_iff_iff]; simp only [Bool.and_eq_true, Bool.or_eq_true, Bool.not_eq_true', Bool.not_eq_false', decide_eq_true_eq, decide_eq_false_iff_not, Bool.false_eq_true, beq_iff_eq, false_iff, true_iff] at *; first | omega | (unfold wrap64; omega))
set_option maxHeartbeats 400000 in
set_option maxRecDepth 100000 in
theorem parcelOf_any (b : Bd) (w : World) : Calls Try.prog 67 #[b.v] w fun e w' => e = .returned b.parcel ∧ Below w.heap.size w w' := by
  obtain ⟨fr, to, gr, md, no, lf, hp, of, tl, py⟩ := b
  go_enter Try.func67, Try.ntmps67
  go_wp2
  exact bodyPost_ret (v := Bd.v ⟨fr, to, gr, md, no, lf, hp, of, tl, py⟩) (by simp [results, Try.results67, go_sem]) rfl ⟨rfl, (((Below.refl _ w).alloc (Nat.le_refl _) _).alloc (by simp) _).alloc (by simp; omega) _⟩
set_option maxHeartbeats 1600000 in
set_option maxRecDepth 100000 in
theorem isGoodHead_any (b : Bd) (w : World) (R : Bool) (hR : Hid (B1.head b = R)) :
    Calls Try.prog 77 #[b.head] w fun e w' => e = .returned (.bool R) ∧ Below w.heap.size w w' := by
  obtain ⟨fr, to, gr, md, no, lf, hp, of, tl, py⟩ := b
  have hB : ∀ o, Below w.heap.size w (w.alloc o) := fun o => (Below.refl _ w).alloc (Nat.le_refl _) o
  go_enter Try.func77, Try.ntmps77
  go_wp2
  all_goals go_ret
  all_goals refine ⟨retB ?_, hB _⟩
  all_goals (rw [← hR.out]; simp only [B1.head, inB]; clear hR hB)
  all_goals (rw [Bool.eq_iff_iff]; simp only [Bool.and_eq_true, decide_eq_true_eq, Bool.false_eq_true, false_iff] at *; omega)
set_option maxHeartbeats 1600000 in
set_option maxRecDepth 100000 in
theorem isWellPlaced_any (b : Bd) (w : World) (hs : b.py.size ≤ 1048576) (R : Bool) (hR : Hid (B1.placed b = R)) :
    Calls Try.prog 78 #[b.parcel] w fun e w' => e = .returned (.bool R) ∧ Below w.heap.size w w' := by
  obtain ⟨fr, to, gr, md, no, lf, hp, of, tl, py⟩ := b
  simp only at hs
  have hB : ∀ o, Below w.heap.size w (w.alloc o) := fun o => (Below.refl _ w).alloc (Nat.le_refl _) o
  go_enter Try.func78, Try.ntmps78
  go_wp2
  all_goals go_ret
  all_goals refine ⟨retB ?_, hB _⟩
  all_goals (rw [← hR.out]; simp only [B1.placed, inB]; clear hR hB)
  all_goals (rw [Bool.eq_iff_iff]; simp only [B1.nil_iff, B1.empty_iff, Bool.and_eq_true, Bool.not_eq_true', decide_eq_true_eq, decide_eq_false_iff_not, Bool.false_eq_true, beq_iff_eq, beq_eq_false_iff_ne, ne_eq, false_iff] at *)
  all_goals (split <;> simp only [Bool.and_eq_true, decide_eq_true_eq] <;> omega)
set_option maxHeartbeats 1600000 in
set_option maxRecDepth 100000 in
theorem isGood_any (b : Bd) (w : World) (hs : b.py.size ≤ 1048576) (R : Bool) (hR : Hid (B1.good b = R)) :
    Calls Try.prog 68 #[b.parcel] w fun e w' => e = .returned (.bool R) ∧ Below w.heap.size w w' := by
  have IH : Hid (∀ W : World, Calls Try.prog 77 #[b.head] W fun e w' => e = .returned (.bool (B1.head b)) ∧ Below W.heap.size W w') := fun W => isGoodHead_any b W _ rfl
  have IP : Hid (∀ W : World, Calls Try.prog 78 #[b.parcel] W fun e w' => e = .returned (.bool (B1.placed b)) ∧ Below W.heap.size W w') := fun W => isWellPlaced_any b W hs _ rfl
  have hR1 := hR.out
  unfold B1.good at hR1
  generalize B1.head b = x at *
  generalize B1.placed b = y at *
  obtain ⟨fr, to, gr, md, no, lf, hp, of, tl, py⟩ := b
  simp only at hs IH IP hR1
  have HR : Hid _ := hR1
  clear hR hR1
  have hB : Below w.heap.size w (w.alloc (.cells #[.int .i64 fr, .int .i64 to, .bool gr, .int .i64 md, .int .i64 no, .int .i64 lf, .int .i64 hp, .int .i64 of, .int .i64 tl, .string py] 100)) := (Below.refl _ w).alloc (Nat.le_refl _) _
  go_enter Try.func68, Try.ntmps68
  go_wp2_with fail
  refine (IH.out _).mono ?_
  rintro e w2 ⟨rfl, hb2⟩
  have hsz := hb2.size
  simp only [World.alloc, Array.size_push] at hsz
  have q : ∀ j, w2.cell? ⟨w.heap.size, j, none⟩ = (w.alloc (.cells #[.int .i64 fr, .int .i64 to, .bool gr, .int .i64 md, .int .i64 no, .int .i64 lf, .int .i64 hp, .int .i64 of, .int .i64 tl, .string py] 100)).cell? ⟨w.heap.size, j, none⟩ := fun j => hb2.cell (by simp)
  have hB2 : Below w.heap.size w w2 := hB.trans (hb2.mono (by simp))
  have q0 := q 0
  have q1 := q 1
  have q2 := q 2
  have q3 := q 3
  have q4 := q 4
  have q5 := q 5
  have q6 := q 6
  have q7 := q 7
  have q8 := q 8
  have q9 := q 9
  simp at q0 q1 q2 q3 q4 q5 q6 q7 q8 q9
  have hlt : w.heap.size < w2.heap.size := by omega
  clear q IH hb2 hB hsz
  cases x with
  | false =>
    have hF : Hid (false = R) := by rw [← HR.out]; rfl
    clear HR IP q0 q1 q2 q3 q4 q5 q6 q7 q8
    go_wp2
    go_ret
    exact ⟨retB hF.out, hB2⟩
  | true =>
    by_cases h60 : py.size ≤ 60
    · have hT : Hid (y = R) := by rw [← HR.out]; simp [Hid, h60]
      clear HR
      go_wp2_with fail
      refine (IP.out _).mono ?_
      rintro e w3 ⟨rfl, hb3⟩
      have hB3 : Below w.heap.size w w3 := hB2.trans (hb3.mono hB2.size)
      clear IP hb3 hB2 q0 q1 q2 q3 q4 q5 q6 q7 q8 q9
      go_wp2
      go_ret
      exact ⟨retB hT.out, hB3⟩
    · have hF : Hid (false = R) := by rw [← HR.out]; simp [Hid, h60]
      clear HR IP q0 q1 q2 q3 q4 q5 q6 q7 q8
      go_wp2
      go_ret
      exact ⟨retB hF.out, hB2⟩
end Go.Proofs.Ytjplabldiheggaa

/- The program's GoodBundle at any bundle. -/
namespace Go.Proofs.Ytjplabldiheggaa
open Go.RowKit
set_option maxHeartbeats 400000 in
set_option maxRecDepth 100000 in
theorem implGoodBundle_any (b : Bd) (w : World) (hs : b.py.size ≤ 1048576) (R : Bool) (hR : Hid (B1.good b = R)) :
    Calls Try.prog 51 #[b.v] w fun e w' => e = .returned (.bool R) ∧ Below w.heap.size w w' := by
  have IG : Hid _ := fun W => isGood_any b W hs R hR
  have PO : Hid _ := fun W => parcelOf_any b W
  obtain ⟨fr, to, gr, md, no, lf, hp, of, tl, py⟩ := b
  clear hR hs
  go_enter Try.func51, Try.ntmps51
  go_wp2_with fail
  refine Calls.mono (PO.out _) ?_
  rintro e w1 ⟨rfl, hb1⟩
  have hB1 : Below w.heap.size w w1 := ((Below.refl _ w).alloc (Nat.le_refl _) _).trans (hb1.mono (by simp))
  clear PO hb1
  go_wp2_with fail
  refine Calls.mono (IG.out _) ?_
  rintro e w2 ⟨rfl, hb2⟩
  have hB2 := hB1.trans (hb2.mono hB1.size)
  clear IG hb2 hB1
  go_wp2
  go_ret
  exact ⟨rfl, hB2⟩
end Go.Proofs.Ytjplabldiheggaa

/- Whether a bundle fits a plan: fits of the program, l17Fits of the specification; and until when it may be there. -/
namespace Go.Proofs.Ytjplabldiheggaa
open Go.RowKit
set_option linter.unusedSimpArgs false in
set_option maxHeartbeats 1600000 in
set_option maxRecDepth 100000 in
theorem fitsI_any (a : Option Addr) (cap : Nat) (xs : List I5) (b : Bd) (w : World) (hn : xs.length ≤ 1048576) (hs : b.py.size ≤ 1048576) (hin : MI5.RowAt w a xs) :
    Calls Try.prog 20 #[.slice a xs.length cap, b.v] w fun e w' => e = .returned (.bool (GP.fitsB xs b)) ∧ Below w.heap.size w w' := by
  have P1 : Hid (∀ W : World, Below w.heap.size w W → Calls Try.prog 50 #[.slice a xs.length cap] W fun e w' => e = .returned (.bool (PN.okP xs)) ∧ Below W.heap.size W w') := fun W h => implGoodPlan_any a cap xs W hn (hin.below h) _ rfl
  have P2 : Hid (∀ W : World, Calls Try.prog 51 #[b.v] W fun e w' => e = .returned (.bool (B1.good b)) ∧ Below W.heap.size W w') := fun W => implGoodBundle_any b W hs _ rfl
  have P4 : Hid (∀ W : World, Calls Try.prog 52 #[.int .i64 b.fr] W fun e w' => e = .returned (.bool (PN.nodeOk b.fr)) ∧ W = w') := fun W => nodeI_any b.fr W
  have P5 : Hid (∀ W : World, Calls Try.prog 53 #[.int .i64 b.md] W fun e w' => e = .returned (.bool (PN.whenOk b.md)) ∧ W = w') := fun W => whenI_any b.md W
  have HR : Hid (GP.fitsB xs b = (PN.okP xs && B1.good b && (b.tl == 0) && PN.nodeOk b.fr && PN.whenOk b.md)) := by show GP.fitsB xs b = _; unfold GP.fitsB; rw [show decide (b.tl = 0) = (b.tl == 0) by rw [Bool.eq_iff_iff]; simp]
  have hA := BdAt.box w b 25
  have hB := (Below.refl _ w).alloc (Nat.le_refl _) (.cells #[.int .i64 b.fr, .int .i64 b.to, .bool b.gr, .int .i64 b.md, .int .i64 b.no, .int .i64 b.lf, .int .i64 b.hp, .int .i64 b.of, .int .i64 b.tl, .string b.py] 25)
  clear hin
  generalize GP.fitsB xs b = R at *
  generalize PN.okP xs = q1 at *
  generalize B1.good b = q2 at *
  generalize hq3 : (b.tl == 0) = q3 at *
  generalize PN.nodeOk b.fr = q4 at *
  generalize PN.whenOk b.md = q5 at *
  obtain ⟨fr, to, gr, md, no, lf, hp, of, tl, py⟩ := b
  have HQ3 : Hid ((tl == 0) = q3) := hq3
  clear hq3
  go_enter Try.func20, Try.ntmps20
  go_wp2_with fail
  refine (P1.out _ hB).mono ?_
  rintro e w1 ⟨rfl, hb1⟩
  have hA1 := hA.below hb1 hA.1
  have hB1 := hB.trans (hb1.mono hB.size)
  clear P1 hb1 hA hB
  cases q1 with
  | false =>
    have hR : R = false := HR.out
    subst hR
    clear P2 P4 P5 HR HQ3 hA1
    go_wp2
    go_ret
    exact ⟨rfl, hB1⟩
  | true =>
    obtain ⟨hlt, c0, c1, c2, c3, c4, c5, c6, c7, c8, c9⟩ := id hA1
    go_wp2_with fail
    refine (P2.out _).mono ?_
    rintro e w2 ⟨rfl, hb2⟩
    clear c0 c1 c2 c3 c4 c5 c6 c7 c8 c9 hlt P2
    have hA2 := hA1.below hb2 hA1.1
    have hB2 := hB1.trans (hb2.mono hB1.size)
    clear hb2 hA1 hB1
    cases q2 with
    | false =>
      have hR : R = false := HR.out
      subst hR
      clear P4 P5 HR HQ3 hA2
      go_wp2
      go_ret
      exact ⟨rfl, hB2⟩
    | true =>
      obtain ⟨hlt, c0, c1, c2, c3, c4, c5, c6, c7, c8, c9⟩ := id hA2
      clear c1 c2 c4 c5 c6 c7 c9 hA2
      have hq3 := HQ3.out
      cases q3 with
      | false =>
        have hR : R = false := HR.out
        subst hR
        clear P4 P5 HR HQ3
        go_wp2
        go_ret
        exact ⟨rfl, hB2⟩
      | true =>
        clear HQ3
        go_wp2_with fail
        refine (P4.out _).mono ?_
        rintro e w' ⟨rfl, rfl⟩
        clear P4 c0 c8
        cases q4 with
        | false =>
          have hR : R = false := HR.out
          subst hR
          clear P5 HR c3
          go_wp2
          go_ret
          exact ⟨rfl, hB2⟩
        | true =>
          have hR : R = q5 := HR.out
          subst hR
          clear HR
          go_wp2_with fail
          refine (P5.out _).mono ?_
          rintro e w' ⟨rfl, rfl⟩
          clear P5 c3
          go_wp2
          go_ret
          exact ⟨rfl, hB2⟩
set_option linter.unusedSimpArgs false in
set_option maxHeartbeats 1600000 in
set_option maxRecDepth 100000 in
theorem fitsS_any (a : Option Addr) (cap : Nat) (xs : List I5) (b : Bd) (w : World) (hn : xs.length ≤ 1048576) (hs : b.py.size ≤ 1048576) (hin : MI5.RowAt w a xs) :
    Calls Try.prog 56 #[.slice a xs.length cap, b.v] w fun e w' => e = .returned (.bool (GP.fitsB xs b)) ∧ Below w.heap.size w w' := by
  have P1 : Hid (∀ W : World, Below w.heap.size w W → Calls Try.prog 70 #[.slice a xs.length cap] W fun e w' => e = .returned (.bool (PN.okP xs)) ∧ Below W.heap.size W w') := fun W h => specGoodPlan_any a cap xs W hn (hin.below h) _ rfl
  have P2 : Hid (∀ W : World, Calls Try.prog 71 #[b.v] W fun e w' => e = .returned (.bool (B1.good b)) ∧ Below W.heap.size W w') := fun W => specGoodBundle_any b W hs _ rfl
  have P4 : Hid (∀ W : World, Calls Try.prog 72 #[.int .i64 b.fr] W fun e w' => e = .returned (.bool (PN.nodeOk b.fr)) ∧ W = w') := fun W => nodeS_any b.fr W
  have P5 : Hid (∀ W : World, Calls Try.prog 73 #[.int .i64 b.md] W fun e w' => e = .returned (.bool (PN.whenOk b.md)) ∧ W = w') := fun W => whenS_any b.md W
  have HR : Hid (GP.fitsB xs b = (PN.okP xs && B1.good b && (b.tl == 0) && PN.nodeOk b.fr && PN.whenOk b.md)) := by show GP.fitsB xs b = _; unfold GP.fitsB; rw [show decide (b.tl = 0) = (b.tl == 0) by rw [Bool.eq_iff_iff]; simp]
  have hA := BdAt.box w b 25
  have hB := (Below.refl _ w).alloc (Nat.le_refl _) (.cells #[.int .i64 b.fr, .int .i64 b.to, .bool b.gr, .int .i64 b.md, .int .i64 b.no, .int .i64 b.lf, .int .i64 b.hp, .int .i64 b.of, .int .i64 b.tl, .string b.py] 25)
  clear hin
  generalize GP.fitsB xs b = R at *
  generalize PN.okP xs = q1 at *
  generalize B1.good b = q2 at *
  generalize hq3 : (b.tl == 0) = q3 at *
  generalize PN.nodeOk b.fr = q4 at *
  generalize PN.whenOk b.md = q5 at *
  obtain ⟨fr, to, gr, md, no, lf, hp, of, tl, py⟩ := b
  have HQ3 : Hid ((tl == 0) = q3) := hq3
  clear hq3
  go_enter Try.func56, Try.ntmps56
  go_wp2_with fail
  refine (P1.out _ hB).mono ?_
  rintro e w1 ⟨rfl, hb1⟩
  have hA1 := hA.below hb1 hA.1
  have hB1 := hB.trans (hb1.mono hB.size)
  clear P1 hb1 hA hB
  cases q1 with
  | false =>
    have hR : R = false := HR.out
    subst hR
    clear P2 P4 P5 HR HQ3 hA1
    go_wp2
    go_ret
    exact ⟨rfl, hB1⟩
  | true =>
    obtain ⟨hlt, c0, c1, c2, c3, c4, c5, c6, c7, c8, c9⟩ := id hA1
    go_wp2_with fail
    refine (P2.out _).mono ?_
    rintro e w2 ⟨rfl, hb2⟩
    clear c0 c1 c2 c3 c4 c5 c6 c7 c8 c9 hlt P2
    have hA2 := hA1.below hb2 hA1.1
    have hB2 := hB1.trans (hb2.mono hB1.size)
    clear hb2 hA1 hB1
    cases q2 with
    | false =>
      have hR : R = false := HR.out
      subst hR
      clear P4 P5 HR HQ3 hA2
      go_wp2
      go_ret
      exact ⟨rfl, hB2⟩
    | true =>
      obtain ⟨hlt, c0, c1, c2, c3, c4, c5, c6, c7, c8, c9⟩ := id hA2
      clear c1 c2 c4 c5 c6 c7 c9 hA2
      have hq3 := HQ3.out
      cases q3 with
      | false =>
        have hR : R = false := HR.out
        subst hR
        clear P4 P5 HR HQ3
        go_wp2
        go_ret
        exact ⟨rfl, hB2⟩
      | true =>
        clear HQ3
        go_wp2_with fail
        refine (P4.out _).mono ?_
        rintro e w' ⟨rfl, rfl⟩
        clear P4 c0 c8
        cases q4 with
        | false =>
          have hR : R = false := HR.out
          subst hR
          clear P5 HR c3
          go_wp2
          go_ret
          exact ⟨rfl, hB2⟩
        | true =>
          have hR : R = q5 := HR.out
          subst hR
          clear HR
          go_wp2_with fail
          refine (P5.out _).mono ?_
          rintro e w' ⟨rfl, rfl⟩
          clear P5 c3
          go_wp2
          go_ret
          exact ⟨rfl, hB2⟩
set_option maxHeartbeats 800000 in
set_option maxRecDepth 100000 in
theorem lastTime_any (b : Bd) (w : World) (h1 : 0 ≤ b.md ∧ b.md ≤ 1000) (h2 : 1 ≤ b.lf ∧ b.lf ≤ 1000000) :
    Calls Try.prog 25 #[b.v] w fun e w' => e = .returned (.int .i64 (b.md + b.lf)) ∧ Below w.heap.size w w' := by
  have hB := (Below.refl _ w).alloc (Nat.le_refl _) (.cells #[.int .i64 b.fr, .int .i64 b.to, .bool b.gr, .int .i64 b.md, .int .i64 b.no, .int .i64 b.lf, .int .i64 b.hp, .int .i64 b.of, .int .i64 b.tl, .string b.py] 25)
  obtain ⟨fr, to, gr, md, no, lf, hp, of, tl, py⟩ := b
  simp only at h1 h2
  go_enter Try.func25, Try.ntmps25
  go_wp2
  go_ret
  exact ⟨rfl, hB⟩
end Go.Proofs.Ytjplabldiheggaa
