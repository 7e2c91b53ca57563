/- SameBundle, the specification's, at any two bundles. -/
import Derived.Test.YtfppjpheklpplaaDoorRows
import Derived.Test.YtfppjpheklpplaaDoorCIdBase
import Derived.WalkKit
import Derived.WalkSpells
import Derived.WalkLawsBesides
import Derived.Outline
import Derived.Deep.QuietTactic
import Derived.BigQuiet
import Derived.Deep.RegionHeld3
namespace Go.Proofs.YtfppjpheklpplaaDoor
open Go.RowKit
def idS (f m n : Nat) : ByteArray := ⟨(idOf f m n).toArray⟩
theorem l3Id_ids (f m n : Nat) (t : Int) (g : Bool) (l h o s : Int) (p : ByteArray) (w : World) (hf : f ≤ 1000000) (hm : m ≤ 1000000) (hn : n ≤ 1000000) :
    Calls Tryd.prog 9 #[.agg #[.int .i64 (f : Int), .int .i64 t, .bool g, .int .i64 (m : Int), .int .i64 (n : Int), .int .i64 l, .int .i64 h, .int .i64 o, .int .i64 s, .string p]] w fun e w' => e = .returned (.string (idS f m n)) ∧ Below w.heap.size w w' := l3Id_any f m n t g l h o s p w hf hm hn
/-- What SameBundle answers. -/
def sameOk (a b : Bd) : Bool := B1.good a && B1.good b
def sameB (a b : Bd) : Bool := sameOk a b && ((idR a).toList == (idR b).toList)
theorem ret_bbS {a b c d : Bool} (h1 : a = c) (h2 : b = d) : Ending.returned (.tuple #[.bool a, .bool b]) = .returned (.tuple #[.bool c, .bool d]) := by rw [h1, h2]
theorem same_no {a b : Bd} (h : B1.good a = false ∨ B1.good b = false) : false = sameB a b ∧ false = sameOk a b := by
  have : sameOk a b = false := by rcases h with h | h <;> simp [sameOk, h]
  exact ⟨by simp [sameB, this], this.symm⟩
theorem same_yes {a b : Bd} (h : B1.good a = true) (h' : B1.good b = true) : ((idR a).toList == (idR b).toList) = sameB a b ∧ true = sameOk a b := by
  have : sameOk a b = true := by simp [sameOk, h, h']
  exact ⟨by simp [sameB, this], this.symm⟩
theorem same_keep {fa ma na : Nat} {ta : Int} {ga : Bool} {la ha oa sa : Int} {pa : ByteArray} {fb mb nb : Nat} {tb : Int} {gb : Bool} {lb hb ob sb : Int} {pb : ByteArray} {w W w2 : World} (hb2 : Below W.heap.size W w2) (hS : Below w.heap.size w W ∧ w.heap.size + 1 < W.heap.size ∧ W.cell? ⟨w.heap.size, 0, none⟩ = some (.int .i64 (fa : Int)) ∧ W.cell? ⟨w.heap.size, 1, none⟩ = some (.int .i64 ta) ∧ W.cell? ⟨w.heap.size, 2, none⟩ = some (.bool ga) ∧ W.cell? ⟨w.heap.size, 3, none⟩ = some (.int .i64 (ma : Int)) ∧ W.cell? ⟨w.heap.size, 4, none⟩ = some (.int .i64 (na : Int)) ∧ W.cell? ⟨w.heap.size, 5, none⟩ = some (.int .i64 la) ∧ W.cell? ⟨w.heap.size, 6, none⟩ = some (.int .i64 ha) ∧ W.cell? ⟨w.heap.size, 7, none⟩ = some (.int .i64 oa) ∧ W.cell? ⟨w.heap.size, 8, none⟩ = some (.int .i64 sa) ∧ W.cell? ⟨w.heap.size, 9, none⟩ = some (.string pa) ∧ W.cell? ⟨w.heap.size + 1, 0, none⟩ = some (.int .i64 (fb : Int)) ∧ W.cell? ⟨w.heap.size + 1, 1, none⟩ = some (.int .i64 tb) ∧ W.cell? ⟨w.heap.size + 1, 2, none⟩ = some (.bool gb) ∧ W.cell? ⟨w.heap.size + 1, 3, none⟩ = some (.int .i64 (mb : Int)) ∧ W.cell? ⟨w.heap.size + 1, 4, none⟩ = some (.int .i64 (nb : Int)) ∧ W.cell? ⟨w.heap.size + 1, 5, none⟩ = some (.int .i64 lb) ∧ W.cell? ⟨w.heap.size + 1, 6, none⟩ = some (.int .i64 hb) ∧ W.cell? ⟨w.heap.size + 1, 7, none⟩ = some (.int .i64 ob) ∧ W.cell? ⟨w.heap.size + 1, 8, none⟩ = some (.int .i64 sb) ∧ W.cell? ⟨w.heap.size + 1, 9, none⟩ = some (.string pb)) : Below w.heap.size w w2 ∧ w.heap.size + 1 < w2.heap.size ∧ w2.cell? ⟨w.heap.size, 0, none⟩ = some (.int .i64 (fa : Int)) ∧ w2.cell? ⟨w.heap.size, 1, none⟩ = some (.int .i64 ta) ∧ w2.cell? ⟨w.heap.size, 2, none⟩ = some (.bool ga) ∧ w2.cell? ⟨w.heap.size, 3, none⟩ = some (.int .i64 (ma : Int)) ∧ w2.cell? ⟨w.heap.size, 4, none⟩ = some (.int .i64 (na : Int)) ∧ w2.cell? ⟨w.heap.size, 5, none⟩ = some (.int .i64 la) ∧ w2.cell? ⟨w.heap.size, 6, none⟩ = some (.int .i64 ha) ∧ w2.cell? ⟨w.heap.size, 7, none⟩ = some (.int .i64 oa) ∧ w2.cell? ⟨w.heap.size, 8, none⟩ = some (.int .i64 sa) ∧ w2.cell? ⟨w.heap.size, 9, none⟩ = some (.string pa) ∧ w2.cell? ⟨w.heap.size + 1, 0, none⟩ = some (.int .i64 (fb : Int)) ∧ w2.cell? ⟨w.heap.size + 1, 1, none⟩ = some (.int .i64 tb) ∧ w2.cell? ⟨w.heap.size + 1, 2, none⟩ = some (.bool gb) ∧ w2.cell? ⟨w.heap.size + 1, 3, none⟩ = some (.int .i64 (mb : Int)) ∧ w2.cell? ⟨w.heap.size + 1, 4, none⟩ = some (.int .i64 (nb : Int)) ∧ w2.cell? ⟨w.heap.size + 1, 5, none⟩ = some (.int .i64 lb) ∧ w2.cell? ⟨w.heap.size + 1, 6, none⟩ = some (.int .i64 hb) ∧ w2.cell? ⟨w.heap.size + 1, 7, none⟩ = some (.int .i64 ob) ∧ w2.cell? ⟨w.heap.size + 1, 8, none⟩ = some (.int .i64 sb) ∧ w2.cell? ⟨w.heap.size + 1, 9, none⟩ = some (.string pb) := by
  obtain ⟨hB, hlt, p0, p1, p2, p3, p4, p5, p6, p7, p8, p9, p10, p11, p12, p13, p14, p15, p16, p17, p18, p19⟩ := hS
  have h1 : w.heap.size < W.heap.size := by omega
  exact ⟨hB.trans (hb2.mono hB.size), Nat.lt_of_lt_of_le hlt hb2.size, (hb2.cell (p := ⟨_, 0, none⟩) h1).trans p0, (hb2.cell (p := ⟨_, 1, none⟩) h1).trans p1, (hb2.cell (p := ⟨_, 2, none⟩) h1).trans p2, (hb2.cell (p := ⟨_, 3, none⟩) h1).trans p3, (hb2.cell (p := ⟨_, 4, none⟩) h1).trans p4, (hb2.cell (p := ⟨_, 5, none⟩) h1).trans p5, (hb2.cell (p := ⟨_, 6, none⟩) h1).trans p6, (hb2.cell (p := ⟨_, 7, none⟩) h1).trans p7, (hb2.cell (p := ⟨_, 8, none⟩) h1).trans p8, (hb2.cell (p := ⟨_, 9, none⟩) h1).trans p9, (hb2.cell (p := ⟨_, 0, none⟩) hlt).trans p10, (hb2.cell (p := ⟨_, 1, none⟩) hlt).trans p11, (hb2.cell (p := ⟨_, 2, none⟩) hlt).trans p12, (hb2.cell (p := ⟨_, 3, none⟩) hlt).trans p13, (hb2.cell (p := ⟨_, 4, none⟩) hlt).trans p14, (hb2.cell (p := ⟨_, 5, none⟩) hlt).trans p15, (hb2.cell (p := ⟨_, 6, none⟩) hlt).trans p16, (hb2.cell (p := ⟨_, 7, none⟩) hlt).trans p17, (hb2.cell (p := ⟨_, 8, none⟩) hlt).trans p18, (hb2.cell (p := ⟨_, 9, none⟩) hlt).trans p19⟩
set_option maxHeartbeats 3200000 in
set_option maxRecDepth 100000 in
theorem specSame_good (fa ma na : Nat) (ta : Int) (ga : Bool) (la ha oa sa : Int) (pa : ByteArray) (fb mb nb : Nat) (tb : Int) (gb : Bool) (lb hb ob sb : Int) (pb : ByteArray) (w : World) (b1 : fa ≤ 1000000) (b2 : ma ≤ 1000000) (b3 : na ≤ 1000000) (b4 : fb ≤ 1000000) (b5 : mb ≤ 1000000) (b6 : nb ≤ 1000000)
    (SA : Hid (∀ W : World, Calls Tryd.prog 8 #[Bd.v ⟨(fa : Int), ta, ga, (ma : Int), (na : Int), la, ha, oa, sa, pa⟩] W fun e w' => e = .returned (.bool true) ∧ Below W.heap.size W w'))
    (SB : Hid (∀ W : World, Calls Tryd.prog 8 #[Bd.v ⟨(fb : Int), tb, gb, (mb : Int), (nb : Int), lb, hb, ob, sb, pb⟩] W fun e w' => e = .returned (.bool true) ∧ Below W.heap.size W w')) :
    Calls Tryd.prog 5 #[Bd.v ⟨(fa : Int), ta, ga, (ma : Int), (na : Int), la, ha, oa, sa, pa⟩, Bd.v ⟨(fb : Int), tb, gb, (mb : Int), (nb : Int), lb, hb, ob, sb, pb⟩] w fun e w' => e = .returned (.tuple #[.bool ((idS fa ma na).toList == (idS fb mb nb).toList), .bool true]) ∧ Below w.heap.size w w' := by
  have hA0 : BdAt _ _ ⟨(fa : Int), ta, ga, (ma : Int), (na : Int), la, ha, oa, sa, pa⟩ := BdAt.box w ⟨(fa : Int), ta, ga, (ma : Int), (na : Int), la, ha, oa, sa, pa⟩ 27
  have hx : Below (w.alloc (.cells #[.int .i64 (fa : Int), .int .i64 ta, .bool ga, .int .i64 (ma : Int), .int .i64 (na : Int), .int .i64 la, .int .i64 ha, .int .i64 oa, .int .i64 sa, .string pa] 27)).heap.size _ _ := (Below.refl _ (w.alloc (.cells #[.int .i64 (fa : Int), .int .i64 ta, .bool ga, .int .i64 (ma : Int), .int .i64 (na : Int), .int .i64 la, .int .i64 ha, .int .i64 oa, .int .i64 sa, .string pa] 27))).alloc (Nat.le_refl _) (.cells #[.int .i64 (fb : Int), .int .i64 tb, .bool gb, .int .i64 (mb : Int), .int .i64 (nb : Int), .int .i64 lb, .int .i64 hb, .int .i64 ob, .int .i64 sb, .string pb] 27)
  have hA := hA0.below hx hA0.1
  have hC : BdAt _ _ ⟨(fb : Int), tb, gb, (mb : Int), (nb : Int), lb, hb, ob, sb, pb⟩ := BdAt.box (w.alloc (.cells #[.int .i64 (fa : Int), .int .i64 ta, .bool ga, .int .i64 (ma : Int), .int .i64 (na : Int), .int .i64 la, .int .i64 ha, .int .i64 oa, .int .i64 sa, .string pa] 27)) ⟨(fb : Int), tb, gb, (mb : Int), (nb : Int), lb, hb, ob, sb, pb⟩ 27
  have hB : Below w.heap.size w _ := ((Below.refl _ w).alloc (Nat.le_refl _) (.cells #[.int .i64 (fa : Int), .int .i64 ta, .bool ga, .int .i64 (ma : Int), .int .i64 (na : Int), .int .i64 la, .int .i64 ha, .int .i64 oa, .int .i64 sa, .string pa] 27)).alloc (by simp) (.cells #[.int .i64 (fb : Int), .int .i64 tb, .bool gb, .int .i64 (mb : Int), .int .i64 (nb : Int), .int .i64 lb, .int .i64 hb, .int .i64 ob, .int .i64 sb, .string pb] 27)
  have hks : (w.alloc (.cells #[.int .i64 (fa : Int), .int .i64 ta, .bool ga, .int .i64 (ma : Int), .int .i64 (na : Int), .int .i64 la, .int .i64 ha, .int .i64 oa, .int .i64 sa, .string pa] 27)).heap.size = w.heap.size + 1 := by simp
  rw [hks] at hC
  clear hx hA0 hks
  go_enter Tryd.func5, Tryd.ntmps5
  go_wp2_with fail
  refine Calls.mono (SA.out _) ?_
  rintro e w1 ⟨rfl, hb1⟩
  have hA1 := hA.below hb1 hA.1
  have hC1 := hC.below hb1 hC.1
  have hB1 := hB.trans (hb1.mono hB.size)
  clear SA hb1 hA hB hC
  obtain ⟨hlt, p0, p1, p2, p3, p4, p5, p6, p7, p8, p9⟩ := id hA1
  obtain ⟨hlt2, q0, q1, q2, q3, q4, q5, q6, q7, q8, q9⟩ := id hC1
  go_wp2_with fail
  refine Calls.mono (SB.out _) ?_
  rintro e w2 ⟨rfl, hb2⟩
  have hA2 := hA1.below hb2 hA1.1
  have hC2 := hC1.below hb2 hC1.1
  have hB2 := hB1.trans (hb2.mono hB1.size)
  clear SB hb2 hA1 hC1 hB1 hlt hlt2 p0 q0 p1 q1 p2 q2 p3 q3 p4 q4 p5 q5 p6 q6 p7 q7 p8 q8 p9 q9
  obtain ⟨hlt, p0, p1, p2, p3, p4, p5, p6, p7, p8, p9⟩ := hA2
  obtain ⟨hlt2, q0, q1, q2, q3, q4, q5, q6, q7, q8, q9⟩ := hC2
  have hSd : Below w.heap.size w w2.drew ∧ w.heap.size + 1 < w2.drew.heap.size ∧ w2.drew.cell? ⟨w.heap.size, 0, none⟩ = some (.int .i64 (fa : Int)) ∧ w2.drew.cell? ⟨w.heap.size, 1, none⟩ = some (.int .i64 ta) ∧ w2.drew.cell? ⟨w.heap.size, 2, none⟩ = some (.bool ga) ∧ w2.drew.cell? ⟨w.heap.size, 3, none⟩ = some (.int .i64 (ma : Int)) ∧ w2.drew.cell? ⟨w.heap.size, 4, none⟩ = some (.int .i64 (na : Int)) ∧ w2.drew.cell? ⟨w.heap.size, 5, none⟩ = some (.int .i64 la) ∧ w2.drew.cell? ⟨w.heap.size, 6, none⟩ = some (.int .i64 ha) ∧ w2.drew.cell? ⟨w.heap.size, 7, none⟩ = some (.int .i64 oa) ∧ w2.drew.cell? ⟨w.heap.size, 8, none⟩ = some (.int .i64 sa) ∧ w2.drew.cell? ⟨w.heap.size, 9, none⟩ = some (.string pa) ∧ w2.drew.cell? ⟨w.heap.size + 1, 0, none⟩ = some (.int .i64 (fb : Int)) ∧ w2.drew.cell? ⟨w.heap.size + 1, 1, none⟩ = some (.int .i64 tb) ∧ w2.drew.cell? ⟨w.heap.size + 1, 2, none⟩ = some (.bool gb) ∧ w2.drew.cell? ⟨w.heap.size + 1, 3, none⟩ = some (.int .i64 (mb : Int)) ∧ w2.drew.cell? ⟨w.heap.size + 1, 4, none⟩ = some (.int .i64 (nb : Int)) ∧ w2.drew.cell? ⟨w.heap.size + 1, 5, none⟩ = some (.int .i64 lb) ∧ w2.drew.cell? ⟨w.heap.size + 1, 6, none⟩ = some (.int .i64 hb) ∧ w2.drew.cell? ⟨w.heap.size + 1, 7, none⟩ = some (.int .i64 ob) ∧ w2.drew.cell? ⟨w.heap.size + 1, 8, none⟩ = some (.int .i64 sb) ∧ w2.drew.cell? ⟨w.heap.size + 1, 9, none⟩ = some (.string pb) := ⟨hB2.drew, hlt2, p0, p1, p2, p3, p4, p5, p6, p7, p8, p9, q0, q1, q2, q3, q4, q5, q6, q7, q8, q9⟩
  go_wp2
  clear hB2 hlt hlt2 p0 q0 p1 q1 p2 q2 p3 q3 p4 q4 p5 q5 p6 q6 p7 q7 p8 q8 p9 q9
  go_region_held3 (fun w' => Below w.heap.size w w' ∧ w.heap.size + 1 < w'.heap.size ∧ w'.cell? ⟨w.heap.size, 0, none⟩ = some (.int .i64 (fa : Int)) ∧ w'.cell? ⟨w.heap.size, 1, none⟩ = some (.int .i64 ta) ∧ w'.cell? ⟨w.heap.size, 2, none⟩ = some (.bool ga) ∧ w'.cell? ⟨w.heap.size, 3, none⟩ = some (.int .i64 (ma : Int)) ∧ w'.cell? ⟨w.heap.size, 4, none⟩ = some (.int .i64 (na : Int)) ∧ w'.cell? ⟨w.heap.size, 5, none⟩ = some (.int .i64 la) ∧ w'.cell? ⟨w.heap.size, 6, none⟩ = some (.int .i64 ha) ∧ w'.cell? ⟨w.heap.size, 7, none⟩ = some (.int .i64 oa) ∧ w'.cell? ⟨w.heap.size, 8, none⟩ = some (.int .i64 sa) ∧ w'.cell? ⟨w.heap.size, 9, none⟩ = some (.string pa) ∧ w'.cell? ⟨w.heap.size + 1, 0, none⟩ = some (.int .i64 (fb : Int)) ∧ w'.cell? ⟨w.heap.size + 1, 1, none⟩ = some (.int .i64 tb) ∧ w'.cell? ⟨w.heap.size + 1, 2, none⟩ = some (.bool gb) ∧ w'.cell? ⟨w.heap.size + 1, 3, none⟩ = some (.int .i64 (mb : Int)) ∧ w'.cell? ⟨w.heap.size + 1, 4, none⟩ = some (.int .i64 (nb : Int)) ∧ w'.cell? ⟨w.heap.size + 1, 5, none⟩ = some (.int .i64 lb) ∧ w'.cell? ⟨w.heap.size + 1, 6, none⟩ = some (.int .i64 hb) ∧ w'.cell? ⟨w.heap.size + 1, 7, none⟩ = some (.int .i64 ob) ∧ w'.cell? ⟨w.heap.size + 1, 8, none⟩ = some (.int .i64 sb) ∧ w'.cell? ⟨w.heap.size + 1, 9, none⟩ = some (.string pb)) (first | assumption | (show _ ∧ _; assumption)) (first | (go_at_call 9; refine Calls.mono (l3Id_ids _ _ _ _ _ _ _ _ _ _ _ (by omega) (by omega) (by omega)) ?_; (rintro e w3 ⟨rfl, hb3⟩); (have hS3 := same_keep hb3 (by assumption)); clear hb3))
  have hB3 := hS3.1
  clear hS3 hSd
  go_wp2
  go_ret2
  exact ⟨rfl, hB3⟩
theorem idS_R {b : Bd} (h : B1.good b = true) : idS b.fr.toNat b.md.toNat b.no.toNat = idR b := idR_yes h
set_option maxHeartbeats 800000 in
set_option maxRecDepth 100000 in
theorem specSame_any (a b : Bd) (w : World) (hs : a.py.size ≤ 1048576) (hs' : b.py.size ≤ 1048576) :
    Calls Tryd.prog 5 #[a.v, b.v] w fun e w' => e = .returned (.tuple #[.bool (sameB a b), .bool (sameOk a b)]) ∧ Below w.heap.size w w' := by
  have SA : Hid (∀ W : World, Calls Tryd.prog 8 #[a.v] W fun e w' => e = .returned (.bool (B1.good a)) ∧ Below W.heap.size W w') := fun W => specGoodBundle_any a W hs _ rfl
  have SB : Hid (∀ W : World, Calls Tryd.prog 8 #[b.v] W fun e w' => e = .returned (.bool (B1.good b)) ∧ Below W.heap.size W w') := fun W => specGoodBundle_any b W hs' _ rfl
  by_cases hga : B1.good a = true
  · rw [hga] at SA
    by_cases hgb : B1.good b = true
    · rw [hgb] at SB
      obtain ⟨e1, e2⟩ := same_yes hga hgb
      rw [← e1, ← e2, ← idS_R hga, ← idS_R hgb]
      obtain ⟨x1, x2, x3, x4, x5⟩ := B1.good_is hga
      obtain ⟨y1, y2, y3, y4, y5⟩ := B1.good_is hgb
      obtain ⟨fa, ta, ga, ma, na, la, ha, oa, sa, pa⟩ := a
      obtain ⟨fb, tb, gb, mb, nb, lb, hb, ob, sb, pb⟩ := b
      simp only at x1 x3 x4 y1 y3 y4
      obtain ⟨fa, rfl⟩ := Int.eq_ofNat_of_zero_le x1.1
      obtain ⟨ma, rfl⟩ := Int.eq_ofNat_of_zero_le x3.1
      obtain ⟨na, rfl⟩ := Int.eq_ofNat_of_zero_le x4.1
      obtain ⟨fb, rfl⟩ := Int.eq_ofNat_of_zero_le y1.1
      obtain ⟨mb, rfl⟩ := Int.eq_ofNat_of_zero_le y3.1
      obtain ⟨nb, rfl⟩ := Int.eq_ofNat_of_zero_le y4.1
      exact specSame_good fa ma na ta ga la ha oa sa pa fb mb nb tb gb lb hb ob sb pb w (by omega) (by omega) (by omega) (by omega) (by omega) (by omega) SA SB
    · have hgf : B1.good b = false := by simpa using hgb
      rw [hgf] at SB
      have HR : Hid _ := same_no (a := a) (b := b) (.inr hgf)
      have hC : BdAt _ _ b := BdAt.box (w.alloc (.cells #[.int .i64 a.fr, .int .i64 a.to, .bool a.gr, .int .i64 a.md, .int .i64 a.no, .int .i64 a.lf, .int .i64 a.hp, .int .i64 a.of, .int .i64 a.tl, .string a.py] 27)) b 27
      have hB : Below w.heap.size w _ := ((Below.refl _ w).alloc (Nat.le_refl _) (.cells #[.int .i64 a.fr, .int .i64 a.to, .bool a.gr, .int .i64 a.md, .int .i64 a.no, .int .i64 a.lf, .int .i64 a.hp, .int .i64 a.of, .int .i64 a.tl, .string a.py] 27)).alloc (by simp) (.cells #[.int .i64 b.fr, .int .i64 b.to, .bool b.gr, .int .i64 b.md, .int .i64 b.no, .int .i64 b.lf, .int .i64 b.hp, .int .i64 b.of, .int .i64 b.tl, .string b.py] 27)
      have hks : (w.alloc (.cells #[.int .i64 a.fr, .int .i64 a.to, .bool a.gr, .int .i64 a.md, .int .i64 a.no, .int .i64 a.lf, .int .i64 a.hp, .int .i64 a.of, .int .i64 a.tl, .string a.py] 27)).heap.size = w.heap.size + 1 := by simp
      rw [hks] at hC
      generalize sameB a b = R1 at *
      generalize sameOk a b = R2 at *
      clear hga hgb hgf hs hs' hks
      obtain ⟨fa, ta, ga, ma, na, la, ha, oa, sa, pa⟩ := a
      obtain ⟨fb, tb, gb, mb, nb, lb, hb, ob, sb, pb⟩ := b
      go_enter Tryd.func5, Tryd.ntmps5
      go_wp2_with fail
      refine Calls.mono (SA.out _) ?_
      rintro e w1 ⟨rfl, hb1⟩
      have hC1 := hC.below hb1 hC.1
      have hB1 := hB.trans (hb1.mono hB.size)
      clear SA hb1 hB hC
      obtain ⟨hlt2, q0, q1, q2, q3, q4, q5, q6, q7, q8, q9⟩ := hC1
      go_wp2_with fail
      refine Calls.mono (SB.out _) ?_
      rintro e w2 ⟨rfl, hb2⟩
      have hB2 := hB1.trans (hb2.mono hB1.size)
      clear SB hb2 hB1 q0 q1 q2 q3 q4 q5 q6 q7 q8 q9
      go_wp2
      go_ret2
      exact ⟨ret_bbS HR.out.1 HR.out.2, hB2⟩
  · have hgf : B1.good a = false := by simpa using hga
    rw [hgf] at SA
    have HR : Hid _ := same_no (a := a) (b := b) (.inl hgf)
    have hB : Below w.heap.size w _ := ((Below.refl _ w).alloc (Nat.le_refl _) (.cells #[.int .i64 a.fr, .int .i64 a.to, .bool a.gr, .int .i64 a.md, .int .i64 a.no, .int .i64 a.lf, .int .i64 a.hp, .int .i64 a.of, .int .i64 a.tl, .string a.py] 27)).alloc (by simp) (.cells #[.int .i64 b.fr, .int .i64 b.to, .bool b.gr, .int .i64 b.md, .int .i64 b.no, .int .i64 b.lf, .int .i64 b.hp, .int .i64 b.of, .int .i64 b.tl, .string b.py] 27)
    generalize sameB a b = R1 at *
    generalize sameOk a b = R2 at *
    clear hga hgf hs hs' SB
    obtain ⟨fa, ta, ga, ma, na, la, ha, oa, sa, pa⟩ := a
    obtain ⟨fb, tb, gb, mb, nb, lb, hb, ob, sb, pb⟩ := b
    go_enter Tryd.func5, Tryd.ntmps5
    go_wp2_with fail
    refine Calls.mono (SA.out _) ?_
    rintro e w1 ⟨rfl, hb1⟩
    have hB1 := hB.trans (hb1.mono hB.size)
    clear SA hb1 hB
    go_wp2
    go_ret2
    exact ⟨ret_bbS HR.out.1 HR.out.2, hB1⟩
end Go.Proofs.YtfppjpheklpplaaDoor
