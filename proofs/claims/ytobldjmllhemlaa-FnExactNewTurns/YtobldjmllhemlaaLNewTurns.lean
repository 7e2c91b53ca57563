/- The law FnExactNewTurns answers true at every argument. -/
import Derived.Test.YtobldjmllhemlaaRows
import Derived.Test.YtobldjmllhemlaaCTq1
import Derived.Test.YtobldjmllhemlaaCTq2
import Derived.WalkKit
import Derived.WalkSpells
import Derived.WalkLawsBesides
import Derived.Outline
namespace Go.Proofs.Ytobldjmllhemlaa
open Go.RowKit
theorem TQ.many_le (p u : Int) : TQ.many p u ≤ 6 := by
  unfold TQ.many
  split
  · rename_i h
    have := of_decide_eq_true h
    omega
  · omega
set_option maxHeartbeats 1600000 in
set_option maxRecDepth 100000 in
theorem lawNewTurns_any (p u : Int) (w : World) : Calls Try.prog 3 #[.int .i64 p, .int .i64 u] w fun e w' => e = .returned (.bool true) ∧ Below w.heap.size w w' := by
  have SG : Hid (∀ W : World, Calls Try.prog 4 #[.int .i64 p, .int .i64 u] W fun e w' => ∃ v, e = .returned (.tuple #[.agg #[.int .i64 (TQ.qu p u), v, .int .i64 0], .bool (TQ.ok p u)]) ∧ TQ.New w' W.heap.size 36 v (TQ.many p u) 0 1 ∧ Below W.heap.size W w') := fun W => newTurnsS_any p u W
  have IG : Hid (∀ W : World, Calls Try.prog 5 #[.int .i64 p, .int .i64 u] W fun e w' => ∃ v, e = .returned (.tuple #[.agg #[.int .i64 (TQ.qu p u), v, .int .i64 0], .bool (TQ.ok p u)]) ∧ TQ.New w' W.heap.size 36 v (TQ.many p u) 0 1 ∧ Below W.heap.size W w') := fun W => newTurnsI_any p u W
  have hn := TQ.many_le p u
  generalize TQ.ok p u = q at *
  generalize TQ.qu p u = x at *
  generalize TQ.many p u = n at *
  go_enter Try.func3, Try.ntmps3
  go_wp2_with fail
  refine Calls.mono (SG.out _) ?_
  rintro e w1 ⟨v1, rfl, hv1, hb1⟩
  obtain ⟨a1, rfl⟩ := hv1.form
  go_wp2_with fail
  refine Calls.mono (IG.out _) ?_
  rintro e w2 ⟨v2, rfl, hv2, hb2⟩
  obtain ⟨a2, rfl⟩ := hv2.form
  have j1 : w2.cell? ⟨w1.heap.size, 0, none⟩ = _ := hb2.cell (by simp)
  have j2 : w2.cell? ⟨w1.heap.size, 1, none⟩ = _ := hb2.cell (by simp)
  have j3 : w2.cell? ⟨w1.heap.size, 2, none⟩ = _ := hb2.cell (by simp)
  have hs2 := hb2.size
  simp at j1 j2 j3 hs2
  have hl2 : w1.heap.size < w2.heap.size := by omega
  have z0 := hv1.zat
  have hW2 : Below w1.heap.size w1 w2 := ((Below.refl w1.heap.size w1).alloc (Nat.le_refl _) _).trans (hb2.mono (by simp))
  have hB2 : Below w.heap.size w w2 := (hb1.alloc hb1.size _).trans (hb2.mono (by have := hb1.size; simp; omega))
  have hsw := hB2.size
  have hw1 := hb1.size
  have hv2' := hv2.base (base' := w1.heap.size + 1) (by simp)
  clear hv1 hb1 hb2 hv2
  go_wp2_with fail
  have hA : Below w2.heap.size w2 (w2.alloc (.cells #[.int .i64 x, .slice a2 n n, .int .i64 0] 24)) := (Below.refl _ w2).alloc (Nat.le_refl _) _
  refine (eqTurns_zero x (.slice a2 n n) (.slice a1 n n) n _ hn (hv2'.zat.below hA (Nat.le_refl _)) ((z0.below hW2 (Nat.le_refl _)).below hA (Nat.le_refl _))).mono ?_
  rintro e w3 ⟨rfl, hb3⟩
  have m1 : w3.cell? ⟨w1.heap.size, 0, none⟩ = _ := (hb3.cell (by simp; omega)).trans ((hA.cell (p := ⟨w1.heap.size, 0, none⟩) hl2).trans j1)
  have m2 : w3.cell? ⟨w1.heap.size, 1, none⟩ = _ := (hb3.cell (by simp; omega)).trans ((hA.cell (p := ⟨w1.heap.size, 1, none⟩) hl2).trans j2)
  have m3 : w3.cell? ⟨w1.heap.size, 2, none⟩ = _ := (hb3.cell (by simp; omega)).trans ((hA.cell (p := ⟨w1.heap.size, 2, none⟩) hl2).trans j3)
  have n1 : w3.cell? ⟨w2.heap.size, 0, none⟩ = _ := hb3.cell (by simp)
  have n2 : w3.cell? ⟨w2.heap.size, 1, none⟩ = _ := hb3.cell (by simp)
  have n3 : w3.cell? ⟨w2.heap.size, 2, none⟩ = _ := hb3.cell (by simp)
  simp at n1 n2 n3
  have hs3 := hb3.size
  simp at hs3
  have hB3 : Below w.heap.size w w3 := (hB2.alloc hB2.size _).trans (hb3.mono (by simp; omega))
  have hW3 : Below w1.heap.size w1 w3 := (hW2.alloc (by omega) _).trans (hb3.mono (by simp; omega))
  have hv3 := (hv2'.alloc (.cells #[.int .i64 x, .slice a2 n n, .int .i64 0] 24)).below hb3
  have hlt2 : ∀ g m c, (.slice a2 n n : Value) = .slice (some ⟨g, 0, none⟩) m c → w1.heap.size + 1 ≤ g ∧ g < w2.heap.size := fun g m c e => hv2'.lt e
  clear hb3 hA j1 j2 j3 hv2' hB2 hsw hW2
  have hl3 : w1.heap.size < w3.heap.size := by omega
  have hl4 : w2.heap.size < w3.heap.size := by omega
  cases q
  all_goals
    go_wp2_with fail
    refine (markTurns_new x (w1.heap.size + 1) (.slice a2 n n) n w3 hn (by omega) hv3).mono ?_
    rintro e w4 ⟨rfl, hv4, hb4, ho4⟩
    have hk : w4.heap[w2.heap.size]? = w3.heap[w2.heap.size]? := ho4.block _ hl4 fun m c e => by have := (hlt2 _ _ _ e).2; omega
    have p1 : w4.cell? ⟨w2.heap.size, 0, none⟩ = _ := (World.cell?_of_block (w := w3) hk).trans n1
    have p2 : w4.cell? ⟨w2.heap.size, 1, none⟩ = _ := (World.cell?_of_block (w := w3) hk).trans n2
    have p3 : w4.cell? ⟨w2.heap.size, 2, none⟩ = _ := (World.cell?_of_block (w := w3) hk).trans n3
    have q1 : w4.cell? ⟨w1.heap.size, 0, none⟩ = _ := (hb4.cell (by simp)).trans m1
    have q2 : w4.cell? ⟨w1.heap.size, 1, none⟩ = _ := (hb4.cell (by simp)).trans m2
    have q3 : w4.cell? ⟨w1.heap.size, 2, none⟩ = _ := (hb4.cell (by simp)).trans m3
    have hs4 := hb4.size
    have hW4 : Below w1.heap.size w1 w4 := hW3.trans (hb4.mono (by omega))
    have hB4 : Below w.heap.size w w4 := hB3.trans (hb4.mono (by omega))
    have hl5 : w1.heap.size < w4.heap.size := by omega
    have hl6 : w2.heap.size < w4.heap.size := by omega
    clear hb4 ho4 hk m1 m2 m3 n1 n2 n3 hv3 hW3 hB3 hl3 hl4
    go_wp2_with fail
    refine (heldTurns_new x (w1.heap.size + 1) (.slice a2 n n) n w4 hn hv4).mono ?_
    rintro e w5 ⟨rfl, hb5⟩
    have m1 : w5.cell? ⟨w2.heap.size, 0, none⟩ = _ := (hb5.cell hl6).trans p1
    have m2 : w5.cell? ⟨w2.heap.size, 1, none⟩ = _ := (hb5.cell hl6).trans p2
    have m3 : w5.cell? ⟨w2.heap.size, 2, none⟩ = _ := (hb5.cell hl6).trans p3
    have n1 : w5.cell? ⟨w1.heap.size, 0, none⟩ = _ := (hb5.cell hl5).trans q1
    have n2 : w5.cell? ⟨w1.heap.size, 1, none⟩ = _ := (hb5.cell hl5).trans q2
    have n3 : w5.cell? ⟨w1.heap.size, 2, none⟩ = _ := (hb5.cell hl5).trans q3
    have hs5 := hb5.size
    have hv5 := hv4.below hb5
    have hW5 : Below w1.heap.size w1 w5 := hW4.trans (hb5.mono (by omega))
    have hB5 : Below w.heap.size w w5 := hB4.trans (hb5.mono (by omega))
    have hl7 : w1.heap.size < w5.heap.size := by omega
    have hl8 : w2.heap.size < w5.heap.size := by omega
    clear hb5 p1 p2 p3 q1 q2 q3 hv4 hW4 hB4 hl5 hl6
    go_wp2_with fail
    refine Calls.mono (IG.out _) ?_
    rintro e w6 ⟨v3, rfl, hv6, hb6⟩
    obtain ⟨a3, rfl⟩ := hv6.form
    have p1 : w6.cell? ⟨w2.heap.size, 0, none⟩ = _ := (hb6.cell hl8).trans m1
    have p2 : w6.cell? ⟨w2.heap.size, 1, none⟩ = _ := (hb6.cell hl8).trans m2
    have p3 : w6.cell? ⟨w2.heap.size, 2, none⟩ = _ := (hb6.cell hl8).trans m3
    have q1 : w6.cell? ⟨w1.heap.size, 0, none⟩ = _ := (hb6.cell hl7).trans n1
    have q2 : w6.cell? ⟨w1.heap.size, 1, none⟩ = _ := (hb6.cell hl7).trans n2
    have q3 : w6.cell? ⟨w1.heap.size, 2, none⟩ = _ := (hb6.cell hl7).trans n3
    have hs6 := hb6.size
    have hv5' := hv5.below hb6
    have hW6 : Below w1.heap.size w1 w6 := hW5.trans (hb6.mono (by omega))
    have hB6 : Below w.heap.size w w6 := hB5.trans (hb6.mono (by omega))
    have hl5 : w1.heap.size < w6.heap.size := by omega
    have hl6 : w2.heap.size < w6.heap.size := by omega
    clear hb6 m1 m2 m3 n1 n2 n3 hv5 hW5 hB5 hl7 hl8
    go_wp2_with fail
    have hA : Below w6.heap.size w6 (w6.alloc (.cells #[.int .i64 x, .slice a3 n n, .int .i64 0] 24)) := (Below.refl _ w6).alloc (Nat.le_refl _) _
    refine (eqTurns_zero x (.slice a3 n n) (.slice a1 n n) n _ hn (hv6.zat.below hA (Nat.le_refl _)) ((z0.below hW6 (Nat.le_refl _)).below hA (Nat.le_refl _))).mono ?_
    rintro e w7 ⟨rfl, hb7⟩
    have m1 : w7.cell? ⟨w2.heap.size, 0, none⟩ = _ := (hb7.cell (by simp; omega)).trans ((hA.cell (p := ⟨w2.heap.size, 0, none⟩) hl6).trans p1)
    have m2 : w7.cell? ⟨w2.heap.size, 1, none⟩ = _ := (hb7.cell (by simp; omega)).trans ((hA.cell (p := ⟨w2.heap.size, 1, none⟩) hl6).trans p2)
    have m3 : w7.cell? ⟨w2.heap.size, 2, none⟩ = _ := (hb7.cell (by simp; omega)).trans ((hA.cell (p := ⟨w2.heap.size, 2, none⟩) hl6).trans p3)
    have hv7 := (hv5'.alloc (.cells #[.int .i64 x, .slice a3 n n, .int .i64 0] 24)).below hb7
    have hs7 := hb7.size
    simp at hs7
    have hB7 : Below w.heap.size w w7 := (hB6.alloc (by omega) _).trans (hb7.mono (by simp; omega))
    have hl7 : w2.heap.size < w7.heap.size := by omega
    clear hb7 hA p1 p2 p3 q1 q2 q3 hv5' hW6 hB6 hl5 hl6 hv6
    go_wp2_with fail
    refine (heldTurns_new x (w1.heap.size + 1) (.slice a2 n n) n w7 hn hv7).mono ?_
    rintro e w8 ⟨rfl, hb8⟩
    have hB8 : Below w.heap.size w w8 := hB7.trans (hb8.mono (by omega))
    clear hb8 m1 m2 m3 hv7
    go_wp2
    go_ret
    exact ⟨rfl, hB8⟩
end Go.Proofs.Ytobldjmllhemlaa
