/- IsOver, the specification's and the program's, at any bundle and time. -/
import Derived.Test.YtcpfbgogfhlmjaaDoorRows
import Derived.Test.YtcpfbgogfhlmjaaDoorCGoodBundle
import Derived.WalkKit
import Derived.WalkSpells
import Derived.WalkLawsBesides
import Derived.Outline
namespace Go.Proofs.YtcpfbgogfhlmjaaDoor
open Go.RowKit
theorem ret_bb {a b c d : Bool} (h1 : a = c) (h2 : b = d) : Ending.returned (.tuple #[.bool a, .bool b]) = .returned (.tuple #[.bool c, .bool d]) := by rw [h1, h2]
theorem over_bad {b : Bd} {n : Int} (h : B1.good b = false) : B1.overOk b n = false ∧ B1.over b n = false := by
  have : B1.overOk b n = false := by simp [B1.overOk, h]
  exact ⟨this, by simp [B1.over, this]⟩
theorem over_out {b : Bd} {n : Int} (h : ¬ (0 ≤ n ∧ n ≤ 2000000)) : B1.overOk b n = false ∧ B1.over b n = false := by
  have : B1.overOk b n = false := by simp [B1.overOk, B1.inB_no h]
  exact ⟨this, by simp [B1.over, this]⟩
theorem over_in {b : Bd} {n : Int} (h : B1.good b = true) (hn : 0 ≤ n ∧ n ≤ 2000000) : B1.overOk b n = true ∧ B1.over b n = decide (b.md + b.lf < n) := by
  have : B1.overOk b n = true := by simp [B1.overOk, h, B1.inB_yes hn]
  exact ⟨this, by simp [B1.over, this]⟩
set_option maxHeartbeats 800000 in
set_option maxRecDepth 100000 in
theorem specIsOver_any (b : Bd) (n : Int) (w : World) (hs : b.py.size ≤ 1048576) :
    Calls Tryd.prog 15 #[b.v, .int .i64 n] w fun e w' => e = .returned (.tuple #[.bool (B1.over b n), .bool (B1.overOk b n)]) ∧ Below w.heap.size w w' := by
  have SG : Hid (∀ W : World, Calls Tryd.prog 29 #[b.v] W fun e w' => e = .returned (.bool (B1.good b)) ∧ Below W.heap.size W w') := fun W => specGoodBundle_any b W hs _ rfl
  have hA : BdAt _ _ b := BdAt.box w b 24
  have hB : Below w.heap.size w _ := (Below.refl _ w).alloc (Nat.le_refl _) (.cells #[.int .i64 b.fr, .int .i64 b.to, .bool b.gr, .int .i64 b.md, .int .i64 b.no, .int .i64 b.lf, .int .i64 b.hp, .int .i64 b.of, .int .i64 b.tl, .string b.py] 24)
  have HO : Hid (∀ h : B1.good b = false, B1.overOk b n = false ∧ B1.over b n = false) := fun h => over_bad h
  have HU : Hid (∀ h : ¬ (0 ≤ n ∧ n ≤ 2000000), B1.overOk b n = false ∧ B1.over b n = false) := fun h => over_out h
  have HI : Hid (∀ (h : B1.good b = true) (hn : 0 ≤ n ∧ n ≤ 2000000), B1.overOk b n = true ∧ B1.over b n = decide (b.md + b.lf < n)) := fun h hn => over_in h hn
  have HG : Hid (∀ h : B1.good b = true, 0 ≤ b.md ∧ b.md ≤ 1000000 ∧ 1 ≤ b.lf ∧ b.lf ≤ 1000000) := fun h => by have := B1.good_is h; omega
  generalize B1.good b = G at *
  generalize B1.over b n = O1 at *
  generalize B1.overOk b n = O2 at *
  obtain ⟨fr, to, gr, md, no, lf, hp, of, tl, py⟩ := b
  simp only at HI HG
  clear hs
  go_enter Tryd.func15, Tryd.ntmps15
  go_wp2_with fail
  refine (SG.out _).mono ?_
  rintro e w1 ⟨rfl, hb1⟩
  have hA1 := hA.below hb1 hA.1
  have hB1 := hB.trans (hb1.mono hB.size)
  clear SG hb1 hA hB
  cases G with
  | false =>
    obtain ⟨h1, h2⟩ := HO.out rfl
    have HR : Hid (false = O1 ∧ false = O2) := ⟨h2.symm, h1.symm⟩
    clear HO HU HI HG h1 h2 hA1
    go_wp2
    go_ret2
    exact ⟨ret_bb HR.out.1 HR.out.2, hB1⟩
  | true =>
    obtain ⟨hlt, q0, q1, q2, q3, q4, q5, q6, q7, q8, q9⟩ := hA1
    clear q0 q1 q2 q4 q6 q7 q8 q9
    obtain ⟨g1, g2, g3, g4⟩ := HG.out rfl
    by_cases hn : 0 ≤ n ∧ n ≤ 2000000
    · obtain ⟨h1, h2⟩ := HI.out rfl hn
      have HR : Hid (decide (md + lf < n) = O1 ∧ true = O2) := ⟨h2.symm, h1.symm⟩
      obtain ⟨n1, n2⟩ := hn
      clear HO HU HI HG h1 h2
      go_wp2
      go_ret2
      exact ⟨ret_bb HR.out.1 HR.out.2, hB1⟩
    · obtain ⟨h1, h2⟩ := HU.out hn
      have HR : Hid (false = O1 ∧ false = O2) := ⟨h2.symm, h1.symm⟩
      clear HO HU HI HG h1 h2
      by_cases n1 : 0 ≤ n
      · have n2 : 2000000 < n := by omega
        have n3 : decide (n ≤ 2000000) = false := by simp; omega
        clear hn
        go_wp2
        go_ret2
        exact ⟨ret_bb HR.out.1 HR.out.2, hB1⟩
      · have n2 : n < 0 := by omega
        clear hn n1
        go_wp2
        go_ret2
        exact ⟨ret_bb HR.out.1 HR.out.2, hB1⟩
set_option maxHeartbeats 800000 in
set_option maxRecDepth 100000 in
theorem isOver_any (b : Bd) (n : Int) (w : World) (h1 : 0 ≤ b.md ∧ b.md ≤ 1000000) (h2 : 1 ≤ b.lf ∧ b.lf ≤ 1000000) (R : Bool) (hR : Hid (decide (b.md + b.lf < n) = R)) :
    Calls Tryd.prog 42 #[b.head, .int .i64 n] w fun e w' => e = .returned (.bool R) ∧ Below w.heap.size w w' := by
  obtain ⟨fr, to, gr, md, no, lf, hp, of, tl, py⟩ := b
  simp only at h1 h2 hR
  obtain ⟨g1, g2⟩ := h1
  obtain ⟨g3, g4⟩ := h2
  go_enter Tryd.func42, Tryd.ntmps42
  go_wp2
  go_ret
  exact ⟨retB hR.out, (Below.refl _ w).alloc (Nat.le_refl _) _⟩
set_option maxHeartbeats 800000 in
set_option maxRecDepth 100000 in
theorem implIsOver_any (b : Bd) (n : Int) (w : World) (hs : b.py.size ≤ 1048576) :
    Calls Tryd.prog 14 #[b.v, .int .i64 n] w fun e w' => e = .returned (.tuple #[.bool (B1.over b n), .bool (B1.overOk b n)]) ∧ Below w.heap.size w w' := by
  have IG : Hid (∀ W : World, Calls Tryd.prog 25 #[b.v] W fun e w' => e = .returned (.bool (B1.good b)) ∧ Below W.heap.size W w') := fun W => isGood_any b W hs _ rfl
  have PO : Hid _ := fun W => parcelOf_any b W
  have IO : Hid (∀ (W : World) (_ : 0 ≤ b.md ∧ b.md ≤ 1000000) (_ : 1 ≤ b.lf ∧ b.lf ≤ 1000000), Calls Tryd.prog 42 #[b.head, .int .i64 n] W fun e w' => e = .returned (.bool (decide (b.md + b.lf < n))) ∧ Below W.heap.size W w') := fun W h1 h2 => isOver_any b n W h1 h2 _ rfl
  have BX : Hid (∀ W : World, BdAt (W.alloc (.cells #[.int .i64 b.fr, .int .i64 b.to, .bool b.gr, .int .i64 b.md, .int .i64 b.no, .int .i64 b.lf, .int .i64 b.hp, .int .i64 b.of, .int .i64 b.tl, .string b.py] 45)) W.heap.size b) := fun W => BdAt.box W b 45
  have HO : Hid (∀ h : B1.good b = false, B1.overOk b n = false ∧ B1.over b n = false) := fun h => over_bad h
  have HU : Hid (∀ h : ¬ (0 ≤ n ∧ n ≤ 2000000), B1.overOk b n = false ∧ B1.over b n = false) := fun h => over_out h
  have HI : Hid (∀ (h : B1.good b = true) (hn : 0 ≤ n ∧ n ≤ 2000000), B1.overOk b n = true ∧ B1.over b n = decide (b.md + b.lf < n)) := fun h hn => over_in h hn
  have HG : Hid (∀ h : B1.good b = true, 0 ≤ b.md ∧ b.md ≤ 1000000 ∧ 1 ≤ b.lf ∧ b.lf ≤ 1000000) := fun h => by have := B1.good_is h; omega
  generalize B1.good b = G at *
  generalize B1.over b n = O1 at *
  generalize B1.overOk b n = O2 at *
  obtain ⟨fr, to, gr, md, no, lf, hp, of, tl, py⟩ := b
  simp only at HI HG IO BX
  clear hs
  go_enter Tryd.func14, Tryd.ntmps14
  go_wp2_with fail
  refine Calls.mono (PO.out _) ?_
  rintro e w1 ⟨rfl, hb1⟩
  have hB1 : Below w.heap.size w w1 := ((Below.refl _ w).alloc (Nat.le_refl _) _).trans (hb1.mono (by simp))
  have hA1 := BX.out w1
  have hB1a : Below w.heap.size w _ := hB1.alloc hB1.size (.cells #[.int .i64 fr, .int .i64 to, .bool gr, .int .i64 md, .int .i64 no, .int .i64 lf, .int .i64 hp, .int .i64 of, .int .i64 tl, .string py] 45)
  clear PO hb1 BX
  go_wp2_with fail
  refine Calls.mono (IG.out _) ?_
  rintro e w2 ⟨rfl, hb2⟩
  have hB2 := hB1a.trans (hb2.mono hB1a.size)
  have hA2 := hA1.below hb2 hA1.1
  clear IG hb2 hB1a hA1 hB1
  cases G with
  | false =>
    obtain ⟨h1, h2⟩ := HO.out rfl
    have HR : Hid (false = O1 ∧ false = O2) := ⟨h2.symm, h1.symm⟩
    clear HO HU HI HG h1 h2 hA2 IO
    go_wp2
    go_ret2
    exact ⟨ret_bb HR.out.1 HR.out.2, hB2⟩
  | true =>
    obtain ⟨hlt, q0, q1, q2, q3, q4, q5, q6, q7, q8, q9⟩ := hA2
    clear q7 q8 q9
    obtain ⟨g1, g2, g3, g4⟩ := HG.out rfl
    by_cases hn : 0 ≤ n ∧ n ≤ 2000000
    · obtain ⟨h1, h2⟩ := HI.out rfl hn
      have HR : Hid (decide (md + lf < n) = O1 ∧ true = O2) := ⟨h2.symm, h1.symm⟩
      obtain ⟨n1, n2⟩ := hn
      clear HO HU HI HG h1 h2
      go_wp2_with (first | (go_at_call 42; fail) | (go_at_call 41; go_in))
      refine Calls.mono (IO.out _ ⟨g1, g2⟩ ⟨g3, g4⟩) ?_
      rintro e w3 ⟨rfl, hb3⟩
      have hB3 := hB2.trans (hb3.mono hB2.size)
      clear IO hb3 hB2 q0 q1 q2 q3 q4 q5 q6
      generalize decide (md + lf < n) = R3 at *
      go_wp2
      go_ret2
      exact ⟨ret_bb HR.out.1 HR.out.2, hB3⟩
    · obtain ⟨h1, h2⟩ := HU.out hn
      have HR : Hid (false = O1 ∧ false = O2) := ⟨h2.symm, h1.symm⟩
      clear HO HU HI HG h1 h2 IO q0 q1 q2 q3 q4 q5 q6
      by_cases n1 : 0 ≤ n
      · have n2 : 2000000 < n := by omega
        have n3 : decide (n ≤ 2000000) = false := by simp; omega
        clear hn
        go_wp2
        go_ret2
        exact ⟨ret_bb HR.out.1 HR.out.2, hB2⟩
      · have n2 : n < 0 := by omega
        clear hn n1
        go_wp2
        go_ret2
        exact ⟨ret_bb HR.out.1 HR.out.2, hB2⟩
end Go.Proofs.YtcpfbgogfhlmjaaDoor
