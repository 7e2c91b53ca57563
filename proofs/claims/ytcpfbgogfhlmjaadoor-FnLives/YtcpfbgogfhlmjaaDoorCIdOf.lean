/- IdOf, the specification's and the program's, at any bundle. -/
import Derived.Test.YtcpfbgogfhlmjaaDoorRows
import Derived.Test.YtcpfbgogfhlmjaaDoorCGoodBundle
import Derived.Test.YtcpfbgogfhlmjaaDoorCIdI
import Derived.Test.YtcpfbgogfhlmjaaDoorCIdBase
import Derived.WalkKit
import Derived.WalkSpells
import Derived.WalkLawsBesides
import Derived.Outline
namespace Go.Proofs.YtcpfbgogfhlmjaaDoor
open Go.RowKit
set_option maxHeartbeats 800000 in
set_option maxRecDepth 100000 in
theorem specIdOf_any (b : Bd) (w : World) (hs : b.py.size ≤ 1048576) :
    Calls Tryd.prog 22 #[b.v] w fun e w' => e = .returned (.tuple #[.string (idR b), .bool (B1.good b)]) ∧ Below w.heap.size w w' := by
  have SG : Hid (∀ W : World, Calls Tryd.prog 29 #[b.v] W fun e w' => e = .returned (.bool (B1.good b)) ∧ Below W.heap.size W w') := fun W => specGoodBundle_any b W hs _ rfl
  have LI : Hid (∀ (_ : B1.good b = true) (W : World), Calls Tryd.prog 45 #[b.v] W fun e w' => e = .returned (.string (idR b)) ∧ Below W.heap.size W w') := fun h W => l3Id_good h W
  have HN : Hid (B1.good b = false → ⟨#[]⟩ = idR b) := fun h => idR_no h
  have hA : BdAt _ _ b := BdAt.box w b 24
  have hB : Below w.heap.size w _ := (Below.refl _ w).alloc (Nat.le_refl _) (.cells #[.int .i64 b.fr, .int .i64 b.to, .bool b.gr, .int .i64 b.md, .int .i64 b.no, .int .i64 b.lf, .int .i64 b.hp, .int .i64 b.of, .int .i64 b.tl, .string b.py] 24)
  generalize B1.good b = G at *
  generalize idR b = X at *
  obtain ⟨fr, to, gr, md, no, lf, hp, of, tl, py⟩ := b
  clear hs
  go_enter Tryd.func22, Tryd.ntmps22
  go_wp2_with fail
  refine (SG.out _).mono ?_
  rintro e w1 ⟨rfl, hb1⟩
  have hA1 := hA.below hb1 hA.1
  have hB1 := hB.trans (hb1.mono hB.size)
  clear SG hb1 hA hB
  cases G with
  | false =>
    have HR : Hid _ := HN.out rfl
    clear HN LI hA1
    go_wp2
    go_ret2
    exact ⟨ret_sbB HR.out rfl, hB1⟩
  | true =>
    obtain ⟨hlt, q0, q1, q2, q3, q4, q5, q6, q7, q8, q9⟩ := hA1
    clear HN
    go_wp2_with fail
    refine Calls.mono (LI.out (by trivial) _) ?_
    rintro e w2 ⟨rfl, hb2⟩
    have hB2 := hB1.trans (hb2.mono hB1.size)
    clear LI hb2 hB1 q0 q1 q2 q3 q4 q5 q6 q7 q8 q9
    go_wp2
    go_ret2
    exact ⟨rfl, hB2⟩
set_option maxHeartbeats 800000 in
set_option maxRecDepth 100000 in
theorem implIdOf_any (b : Bd) (w : World) (hs : b.py.size ≤ 1048576) (hT : PTab w) :
    Calls Tryd.prog 21 #[b.v] w fun e w' => e = .returned (.tuple #[.string (idR b), .bool (B1.good b)]) ∧ Below w.heap.size w w' := by
  have IG : Hid (∀ W : World, Calls Tryd.prog 25 #[b.v] W fun e w' => e = .returned (.bool (B1.good b)) ∧ Below W.heap.size W w') := fun W => isGood_any b W hs _ rfl
  have PO : Hid _ := fun W => parcelOf_any b W
  have LI : Hid (∀ (_ : B1.good b = true) (W : World) (_ : PTab W), Calls Tryd.prog 44 #[b.head] W fun e w' => e = .returned (.string (idR b)) ∧ Below W.heap.size W w') := fun h W hT => implId_good h W hT
  have HN : Hid (B1.good b = false → ⟨#[]⟩ = idR b) := fun h => idR_no h
  have BX : Hid (∀ W : World, BdAt (W.alloc (.cells #[.int .i64 b.fr, .int .i64 b.to, .bool b.gr, .int .i64 b.md, .int .i64 b.no, .int .i64 b.lf, .int .i64 b.hp, .int .i64 b.of, .int .i64 b.tl, .string b.py] 45)) W.heap.size b) := fun W => BdAt.box W b 45
  have HT : Hid (∀ W : World, Below w.heap.size w W → PTab W) := fun W hb => hT.below hb (Nat.le_refl _)
  generalize B1.good b = G at *
  generalize idR b = X at *
  obtain ⟨fr, to, gr, md, no, lf, hp, of, tl, py⟩ := b
  simp only at BX
  clear hs hT
  go_enter Tryd.func21, Tryd.ntmps21
  go_wp2_with fail
  refine Calls.mono (PO.out _) ?_
  rintro e w1 ⟨rfl, hb1⟩
  have hB1 : Below w.heap.size w w1 := ((Below.refl _ w).alloc (Nat.le_refl _) _).trans (hb1.mono (by simp))
  have hA1 := BX.out w1
  have hB1a : Below w.heap.size w _ := hB1.alloc hB1.size (.cells #[.int .i64 fr, .int .i64 to, .bool gr, .int .i64 md, .int .i64 no, .int .i64 lf, .int .i64 hp, .int .i64 of, .int .i64 tl, .string py] 45)
  clear PO hb1 BX
  go_wp2_with fail
  refine Calls.mono (IG.out _) ?_
  rintro e w2 ⟨rfl, hb2⟩
  have hB2 := hB1a.trans (hb2.mono hB1a.size)
  have hA2 := hA1.below hb2 hA1.1
  clear IG hb2 hB1a hA1 hB1
  cases G with
  | false =>
    have HR : Hid _ := HN.out rfl
    clear HN LI hA2 HT
    go_wp2
    go_ret2
    exact ⟨ret_sbB HR.out rfl, hB2⟩
  | true =>
    obtain ⟨hlt, q0, q1, q2, q3, q4, q5, q6, q7, q8, q9⟩ := hA2
    have hT2 := HT.out _ hB2
    clear HN q7 q8 q9 HT
    go_wp2_with fail
    refine Calls.mono (LI.out (by trivial) _ hT2) ?_
    rintro e w3 ⟨rfl, hb3⟩
    have hB3 := hB2.trans (hb3.mono hB2.size)
    clear LI hb3 hB2 q0 q1 q2 q3 q4 q5 q6 hT2
    go_wp2
    go_ret2
    exact ⟨rfl, hB3⟩
end Go.Proofs.YtcpfbgogfhlmjaaDoor
