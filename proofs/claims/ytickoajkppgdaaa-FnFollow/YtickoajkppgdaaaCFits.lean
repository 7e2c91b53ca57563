import Derived.Test.YtickoajkppgdaaaRows
import Derived.Test.YtickoajkppgdaaaCGoodBundle
import Derived.WalkKit
import Derived.WalkSpells
import Derived.WalkLawsBesides
import Derived.Outline
import Derived.Test.YtickoajkppgdaaaMFit
import Derived.Test.YtickoajkppgdaaaCPlan
import Derived.Test.YtickoajkppgdaaaCSmall6
/- The program's GoodBundle at any bundle. -/
namespace Go.Proofs.Ytickoajkppgdaaa
open Go.RowKit
set_option maxHeartbeats 400000 in
set_option maxRecDepth 100000 in
theorem implGoodBundle_any (b : Bd) (w : World) (hs : b.py.size ≤ 1048576) (R : Bool) (hR : Hid (B1.good b = R)) :
    Calls Try.prog 35 #[b.v] w fun e w' => e = .returned (.bool R) ∧ Below w.heap.size w w' := by
  have IG : Hid _ := fun W => isGood_any b W hs R hR
  have PO : Hid _ := fun W => parcelOf_any b W
  obtain ⟨fr, to, gr, md, no, lf, hp, of, tl, py⟩ := b
  clear hR hs
  go_enter Try.func35, Try.ntmps35
  go_wp2_with fail
  refine Calls.mono (PO.out _) ?_
  rintro e w1 ⟨rfl, hb1⟩
  have hB1 : Below w.heap.size w w1 := ((Below.refl _ w).alloc (Nat.le_refl _) _).trans (hb1.mono (by simp))
  clear PO hb1
  go_wp2_with fail
  refine Calls.mono (IG.out _) ?_
  rintro e w2 ⟨rfl, hb2⟩
  have hB2 := hB1.trans (hb2.mono hB1.size)
  clear IG hb2 hB1
  go_wp2
  go_ret
  exact ⟨rfl, hB2⟩
end Go.Proofs.Ytickoajkppgdaaa

/- Whether a bundle fits a plan: fits of the program, l17Fits of the specification; and until when it may be there. -/
namespace Go.Proofs.Ytickoajkppgdaaa
open Go.RowKit
set_option linter.unusedSimpArgs false in
set_option maxHeartbeats 1600000 in
set_option maxRecDepth 100000 in
theorem fitsI_any (a : Option Addr) (cap : Nat) (xs : List I5) (b : Bd) (w : World) (hn : xs.length ≤ 1048576) (hs : b.py.size ≤ 1048576) (hin : MI5.RowAt w a xs) :
    Calls Try.prog 15 #[.slice a xs.length cap, b.v] w fun e w' => e = .returned (.bool (GP.fitsB xs b)) ∧ Below w.heap.size w w' := by
  have P1 : Hid (∀ W : World, Below w.heap.size w W → Calls Try.prog 34 #[.slice a xs.length cap] W fun e w' => e = .returned (.bool (PN.okP xs)) ∧ Below W.heap.size W w') := fun W h => implGoodPlan_any a cap xs W hn (hin.below h) _ rfl
  have P2 : Hid (∀ W : World, Calls Try.prog 35 #[b.v] W fun e w' => e = .returned (.bool (B1.good b)) ∧ Below W.heap.size W w') := fun W => implGoodBundle_any b W hs _ rfl
  have P4 : Hid (∀ W : World, Calls Try.prog 19 #[.int .i64 b.fr] W fun e w' => e = .returned (.bool (PN.nodeOk b.fr)) ∧ W = w') := fun W => nodeI_any b.fr W
  have P5 : Hid (∀ W : World, Calls Try.prog 36 #[.int .i64 b.md] W fun e w' => e = .returned (.bool (PN.whenOk b.md)) ∧ W = w') := fun W => whenI_any b.md W
  have HR : Hid (GP.fitsB xs b = (PN.okP xs && B1.good b && (b.tl == 0) && PN.nodeOk b.fr && PN.whenOk b.md)) := by show GP.fitsB xs b = _; unfold GP.fitsB; rw [show decide (b.tl = 0) = (b.tl == 0) by rw [Bool.eq_iff_iff]; simp]
  have hA := BdAt.box w b 25
  have hB := (Below.refl _ w).alloc (Nat.le_refl _) (.cells #[.int .i64 b.fr, .int .i64 b.to, .bool b.gr, .int .i64 b.md, .int .i64 b.no, .int .i64 b.lf, .int .i64 b.hp, .int .i64 b.of, .int .i64 b.tl, .string b.py] 25)
  clear hin
  generalize GP.fitsB xs b = R at *
  generalize PN.okP xs = q1 at *
  generalize B1.good b = q2 at *
  generalize hq3 : (b.tl == 0) = q3 at *
  generalize PN.nodeOk b.fr = q4 at *
  generalize PN.whenOk b.md = q5 at *
  obtain ⟨fr, to, gr, md, no, lf, hp, of, tl, py⟩ := b
  have HQ3 : Hid ((tl == 0) = q3) := hq3
  clear hq3
  go_enter Try.func15, Try.ntmps15
  go_wp2_with fail
  refine (P1.out _ hB).mono ?_
  rintro e w1 ⟨rfl, hb1⟩
  have hA1 := hA.below hb1 hA.1
  have hB1 := hB.trans (hb1.mono hB.size)
  clear P1 hb1 hA hB
  cases q1 with
  | false =>
    have hR : R = false := HR.out
    subst hR
    clear P2 P4 P5 HR HQ3 hA1
    go_wp2
    go_ret
    exact ⟨rfl, hB1⟩
  | true =>
    obtain ⟨hlt, c0, c1, c2, c3, c4, c5, c6, c7, c8, c9⟩ := id hA1
    go_wp2_with fail
    refine (P2.out _).mono ?_
    rintro e w2 ⟨rfl, hb2⟩
    clear c0 c1 c2 c3 c4 c5 c6 c7 c8 c9 hlt P2
    have hA2 := hA1.below hb2 hA1.1
    have hB2 := hB1.trans (hb2.mono hB1.size)
    clear hb2 hA1 hB1
    cases q2 with
    | false =>
      have hR : R = false := HR.out
      subst hR
      clear P4 P5 HR HQ3 hA2
      go_wp2
      go_ret
      exact ⟨rfl, hB2⟩
    | true =>
      obtain ⟨hlt, c0, c1, c2, c3, c4, c5, c6, c7, c8, c9⟩ := id hA2
      clear c1 c2 c4 c5 c6 c7 c9 hA2
      have hq3 := HQ3.out
      cases q3 with
      | false =>
        have hR : R = false := HR.out
        subst hR
        clear P4 P5 HR HQ3
        go_wp2
        go_ret
        exact ⟨rfl, hB2⟩
      | true =>
        clear HQ3
        go_wp2_with fail
        refine (P4.out _).mono ?_
        rintro e w' ⟨rfl, rfl⟩
        clear P4 c0 c8
        cases q4 with
        | false =>
          have hR : R = false := HR.out
          subst hR
          clear P5 HR c3
          go_wp2
          go_ret
          exact ⟨rfl, hB2⟩
        | true =>
          have hR : R = q5 := HR.out
          subst hR
          clear HR
          go_wp2_with fail
          refine (P5.out _).mono ?_
          rintro e w' ⟨rfl, rfl⟩
          clear P5 c3
          go_wp2
          go_ret
          exact ⟨rfl, hB2⟩
set_option linter.unusedSimpArgs false in
set_option maxHeartbeats 1600000 in
set_option maxRecDepth 100000 in
theorem fitsS_any (a : Option Addr) (cap : Nat) (xs : List I5) (b : Bd) (w : World) (hn : xs.length ≤ 1048576) (hs : b.py.size ≤ 1048576) (hin : MI5.RowAt w a xs) :
    Calls Try.prog 16 #[.slice a xs.length cap, b.v] w fun e w' => e = .returned (.bool (GP.fitsB xs b)) ∧ Below w.heap.size w w' := by
  have P1 : Hid (∀ W : World, Below w.heap.size w W → Calls Try.prog 37 #[.slice a xs.length cap] W fun e w' => e = .returned (.bool (PN.okP xs)) ∧ Below W.heap.size W w') := fun W h => specGoodPlan_any a cap xs W hn (hin.below h) _ rfl
  have P2 : Hid (∀ W : World, Calls Try.prog 38 #[b.v] W fun e w' => e = .returned (.bool (B1.good b)) ∧ Below W.heap.size W w') := fun W => specGoodBundle_any b W hs _ rfl
  have P4 : Hid (∀ W : World, Calls Try.prog 17 #[.int .i64 b.fr] W fun e w' => e = .returned (.bool (PN.nodeOk b.fr)) ∧ W = w') := fun W => nodeS_any b.fr W
  have P5 : Hid (∀ W : World, Calls Try.prog 39 #[.int .i64 b.md] W fun e w' => e = .returned (.bool (PN.whenOk b.md)) ∧ W = w') := fun W => whenS_any b.md W
  have HR : Hid (GP.fitsB xs b = (PN.okP xs && B1.good b && (b.tl == 0) && PN.nodeOk b.fr && PN.whenOk b.md)) := by show GP.fitsB xs b = _; unfold GP.fitsB; rw [show decide (b.tl = 0) = (b.tl == 0) by rw [Bool.eq_iff_iff]; simp]
  have hA := BdAt.box w b 25
  have hB := (Below.refl _ w).alloc (Nat.le_refl _) (.cells #[.int .i64 b.fr, .int .i64 b.to, .bool b.gr, .int .i64 b.md, .int .i64 b.no, .int .i64 b.lf, .int .i64 b.hp, .int .i64 b.of, .int .i64 b.tl, .string b.py] 25)
  clear hin
  generalize GP.fitsB xs b = R at *
  generalize PN.okP xs = q1 at *
  generalize B1.good b = q2 at *
  generalize hq3 : (b.tl == 0) = q3 at *
  generalize PN.nodeOk b.fr = q4 at *
  generalize PN.whenOk b.md = q5 at *
  obtain ⟨fr, to, gr, md, no, lf, hp, of, tl, py⟩ := b
  have HQ3 : Hid ((tl == 0) = q3) := hq3
  clear hq3
  go_enter Try.func16, Try.ntmps16
  go_wp2_with fail
  refine (P1.out _ hB).mono ?_
  rintro e w1 ⟨rfl, hb1⟩
  have hA1 := hA.below hb1 hA.1
  have hB1 := hB.trans (hb1.mono hB.size)
  clear P1 hb1 hA hB
  cases q1 with
  | false =>
    have hR : R = false := HR.out
    subst hR
    clear P2 P4 P5 HR HQ3 hA1
    go_wp2
    go_ret
    exact ⟨rfl, hB1⟩
  | true =>
    obtain ⟨hlt, c0, c1, c2, c3, c4, c5, c6, c7, c8, c9⟩ := id hA1
    go_wp2_with fail
    refine (P2.out _).mono ?_
    rintro e w2 ⟨rfl, hb2⟩
    clear c0 c1 c2 c3 c4 c5 c6 c7 c8 c9 hlt P2
    have hA2 := hA1.below hb2 hA1.1
    have hB2 := hB1.trans (hb2.mono hB1.size)
    clear hb2 hA1 hB1
    cases q2 with
    | false =>
      have hR : R = false := HR.out
      subst hR
      clear P4 P5 HR HQ3 hA2
      go_wp2
      go_ret
      exact ⟨rfl, hB2⟩
    | true =>
      obtain ⟨hlt, c0, c1, c2, c3, c4, c5, c6, c7, c8, c9⟩ := id hA2
      clear c1 c2 c4 c5 c6 c7 c9 hA2
      have hq3 := HQ3.out
      cases q3 with
      | false =>
        have hR : R = false := HR.out
        subst hR
        clear P4 P5 HR HQ3
        go_wp2
        go_ret
        exact ⟨rfl, hB2⟩
      | true =>
        clear HQ3
        go_wp2_with fail
        refine (P4.out _).mono ?_
        rintro e w' ⟨rfl, rfl⟩
        clear P4 c0 c8
        cases q4 with
        | false =>
          have hR : R = false := HR.out
          subst hR
          clear P5 HR c3
          go_wp2
          go_ret
          exact ⟨rfl, hB2⟩
        | true =>
          have hR : R = q5 := HR.out
          subst hR
          clear HR
          go_wp2_with fail
          refine (P5.out _).mono ?_
          rintro e w' ⟨rfl, rfl⟩
          clear P5 c3
          go_wp2
          go_ret
          exact ⟨rfl, hB2⟩
set_option maxHeartbeats 800000 in
set_option maxRecDepth 100000 in
theorem lastTime_any (b : Bd) (w : World) (h1 : 0 ≤ b.md ∧ b.md ≤ 1000) (h2 : 1 ≤ b.lf ∧ b.lf ≤ 1000000) :
    Calls Try.prog 26 #[b.v] w fun e w' => e = .returned (.int .i64 (b.md + b.lf)) ∧ Below w.heap.size w w' := by
  have hB := (Below.refl _ w).alloc (Nat.le_refl _) (.cells #[.int .i64 b.fr, .int .i64 b.to, .bool b.gr, .int .i64 b.md, .int .i64 b.no, .int .i64 b.lf, .int .i64 b.hp, .int .i64 b.of, .int .i64 b.tl, .string b.py] 25)
  obtain ⟨fr, to, gr, md, no, lf, hp, of, tl, py⟩ := b
  simp only at h1 h2
  go_enter Try.func26, Try.ntmps26
  go_wp2
  go_ret
  exact ⟨rfl, hB⟩
end Go.Proofs.Ytickoajkppgdaaa
