/- NewTurns, the program's and the specification's. -/
import Derived.Test.YtobldjmllhemlaaRows
import Derived.Test.YtobldjmllhemlaaMTQ
import Derived.Test.YtobldjmllhemlaaCWith7
import Derived.Test.YtobldjmllhemlaaCL1In
import Derived.WalkKit
import Derived.WalkSpells
import Derived.WalkLawsBesides
import Derived.Outline
namespace Go.Proofs.Ytobldjmllhemlaa
open Go.RowKit
theorem Try.infoQueue : (Try.prog.info? 36).map (fun i => (i.zero, i.size, i.bytes)) = some (some (.agg #[.slice none 0 0, .int .i64 0, .int .i64 0]), 3, 40) := by kernel_rfl
namespace TQ
def ok (p u : Int) : Bool := decide ((1 ≤ p ∧ p ≤ 50) ∧ 1 ≤ u ∧ u ≤ 6)
def qu (p u : Int) : Int := if ok p u then p else 0
def many (p u : Int) : Nat := if ok p u then u.toNat else 0
end TQ
set_option maxHeartbeats 1600000 in
set_option maxRecDepth 100000 in
theorem newTurnsI_any (p u : Int) (w : World) :
    Calls Try.prog 5 #[.int .i64 p, .int .i64 u] w fun e w' => ∃ v, e = .returned (.tuple #[.agg #[.int .i64 (TQ.qu p u), v, .int .i64 0], .bool (TQ.ok p u)]) ∧ TQ.New w' w.heap.size 36 v (TQ.many p u) 0 1 ∧ Below w.heap.size w w' := by
  obtain ⟨i0, hi, hz0, hz1, hz2⟩ := info_parts Try.infoQueue
  have IW : Hid (∀ (n lo hi : Int) (W : World), Calls Try.prog 10 #[.int .i64 n, .int .i64 lo, .int .i64 hi] W fun e w' => e = .returned (.bool (decide (lo ≤ n ∧ n ≤ hi))) ∧ W = w') := fun n lo hi W => within7_any n lo hi W
  by_cases h1 : 1 ≤ p ∧ p ≤ 50
  · have e1 : decide (1 ≤ p ∧ p ≤ 50) = true := decide_eq_true h1
    by_cases h2 : 1 ≤ u ∧ u ≤ 6
    · have e2 : decide (1 ≤ u ∧ u ≤ 6) = true := decide_eq_true h2
      obtain ⟨n, rfl⟩ : ∃ n : Nat, u = n := ⟨u.toNat, by omega⟩
      have ho : TQ.ok p n = true := decide_eq_true ⟨h1, h2⟩
      have hq : TQ.qu p n = p := by rw [TQ.qu, ho]; rfl
      have hm : TQ.many p n = n := by rw [TQ.many, ho]; rfl
      rw [ho, hq, hm]
      clear ho hq hm h1
      go_enter Try.func5, Try.ntmps5
      go_wp2_with fail
      refine (IW.out _ _ _ _).mono ?_
      rintro e w1 ⟨rfl, rfl⟩
      rw [e1]
      go_wp2_with fail
      refine (IW.out _ _ _ _).mono ?_
      rintro e w1 ⟨rfl, rfl⟩
      rw [e2]
      go_wp2_with (at_make; refine wpList_make_full _ rfl _ _ 22 rfl (w.heap.size + 1) 36 i0 (.agg #[.slice none 0 0, .int .i64 0, .int .i64 0]) 3 Try.underlying22 hi hz0 hz1 .i64 .i64 _ _ n rfl rfl rfl rfl ?_ ?_ ?_ ?_)
      · rw [hz2]; omega
      · unfold maxLen; omega
      · simp
      intro w1 hown hgrow
      have hown' : w1.ownsRow (w.heap.size + 1) 36 3 (.slice (some ⟨w.heap.size + 1, 0, none⟩) n n) n (TQ.flat (TQ.mkN 1 n 0)) := by
        rw [TQ.mkN_zero, ← TQ.made_zs n (by omega)]; exact hown
      have hb1 : Below w.heap.size w w1 := ((Below.refl _ _).alloc (Nat.le_refl _) _).grown hgrow (by simp) (fun k hk => by cases hk)
      have hx : Below (w.heap.size + 1) (w.alloc (.cells #[.int .i64 0, .slice none 0 0, .int .i64 0] 24)) w1 := (Below.refl _ _).grown hgrow (by simp) (fun k hk => by cases hk)
      have k0 : w1.cell? ⟨w.heap.size, 0, none⟩ = _ := hx.cell (by simp)
      have k1 : w1.cell? ⟨w.heap.size, 1, none⟩ = _ := hx.cell (by simp)
      have k2 : w1.cell? ⟨w.heap.size, 2, none⟩ = _ := hx.cell (by simp)
      have f0 : w1.frozen? ⟨w.heap.size, 0, none⟩ = false := (hx.frozen (p := ⟨w.heap.size, 0, none⟩) (by simp)).trans (TQ.free_new _ _ _ _)
      have f1 : w1.frozen? ⟨w.heap.size, 1, none⟩ = false := (hx.frozen (p := ⟨w.heap.size, 1, none⟩) (by simp)).trans (TQ.free_new _ _ _ _)
      have f2 : w1.frozen? ⟨w.heap.size, 2, none⟩ = false := (hx.frozen (p := ⟨w.heap.size, 2, none⟩) (by simp)).trans (TQ.free_new _ _ _ _)
      simp at k0 k1 k2
      have hsz := hx.size
      have hl : w.heap.size < w1.heap.size := by simp at hsz; omega
      have HO : Hid _ := hown'
      have HB : Hid _ := hb1
      clear hown hi hz0 hz1 hz2 e1 e2 IW hgrow hx hsz hown' hb1
      go_wp2
      have r0 := (World.cell?_setCell_other ((w1.setCell ⟨w.heap.size, 0, none⟩ (.int .i64 p)).setCell ⟨w.heap.size, 1, none⟩ (.slice (some ⟨w.heap.size + 1, 0, none⟩) n n)) ⟨w.heap.size, 2, none⟩ ⟨w.heap.size, 0, none⟩ (.int .i64 0) (by simp)).trans ((World.cell?_setCell_other (w1.setCell ⟨w.heap.size, 0, none⟩ (.int .i64 p)) ⟨w.heap.size, 1, none⟩ ⟨w.heap.size, 0, none⟩ (.slice (some ⟨w.heap.size + 1, 0, none⟩) n n) (by simp)).trans (World.cell?_setCell_same w1 ⟨w.heap.size, 0, none⟩ (.int .i64 p) k0))
      have r1 := (World.cell?_setCell_other ((w1.setCell ⟨w.heap.size, 0, none⟩ (.int .i64 p)).setCell ⟨w.heap.size, 1, none⟩ (.slice (some ⟨w.heap.size + 1, 0, none⟩) n n)) ⟨w.heap.size, 2, none⟩ ⟨w.heap.size, 1, none⟩ (.int .i64 0) (by simp)).trans (World.cell?_setCell_same (w1.setCell ⟨w.heap.size, 0, none⟩ (.int .i64 p)) ⟨w.heap.size, 1, none⟩ (.slice (some ⟨w.heap.size + 1, 0, none⟩) n n) ((World.cell?_setCell_other w1 _ _ _ (by simp)).trans k1))
      have r2 := World.cell?_setCell_same ((w1.setCell ⟨w.heap.size, 0, none⟩ (.int .i64 p)).setCell ⟨w.heap.size, 1, none⟩ (.slice (some ⟨w.heap.size + 1, 0, none⟩) n n)) ⟨w.heap.size, 2, none⟩ (.int .i64 0) ((World.cell?_setCell_other (w1.setCell ⟨w.heap.size, 0, none⟩ (.int .i64 p)) _ _ _ (by simp)).trans ((World.cell?_setCell_other w1 _ _ _ (by simp)).trans k2))
      have HB3 := ((HB.out.setCell (p := ⟨w.heap.size, 0, none⟩) (Nat.le_refl _) (.int .i64 p)).setCell (p := ⟨w.heap.size, 1, none⟩) (Nat.le_refl _) (.slice (some ⟨w.heap.size + 1, 0, none⟩) n n)).setCell (p := ⟨w.heap.size, 2, none⟩) (Nat.le_refl _) (.int .i64 0)
      have HO3 := MC.own_only HO.out ((((MC.Only.refl w.heap.size w1).setCell 0 (.int .i64 p)).setCell 1 (.slice (some ⟨w.heap.size + 1, 0, none⟩) n n)).setCell 2 (.int .i64 0)) (by omega)
      clear HO HB k0 k1 k2 f0 f1 f2
      generalize ((w1.setCell ⟨w.heap.size, 0, none⟩ (.int .i64 p)).setCell ⟨w.heap.size, 1, none⟩ (.slice (some ⟨w.heap.size + 1, 0, none⟩) n n)).setCell ⟨w.heap.size, 2, none⟩ (.int .i64 0) = W3 at *
      refine bodyPost_ret (v := .tuple #[.agg #[.int .i64 p, .slice (some ⟨w.heap.size + 1, 0, none⟩) n n, .int .i64 0], .bool true]) (by simp [results, Try.results5, go_sem, r0, r1, r2]) rfl ⟨_, rfl, ⟨.inr ⟨_, rfl, ?_⟩⟩, ?_⟩
      · exact TQ.own_base HO3 (by omega)
      · exact HB3
    · have e2 : decide (1 ≤ u ∧ u ≤ 6) = false := decide_eq_false h2
      have ho : TQ.ok p u = false := decide_eq_false fun h => h2 h.2
      have hq : TQ.qu p u = 0 := by rw [TQ.qu, ho]; rfl
      have hm : TQ.many p u = 0 := by rw [TQ.many, ho]; rfl
      rw [ho, hq, hm]
      clear ho hq hm h1 hi hz0 hz1 hz2 h2
      go_enter Try.func5, Try.ntmps5
      go_wp2_with fail
      refine (IW.out _ _ _ _).mono ?_
      rintro e w1 ⟨rfl, rfl⟩
      rw [e1]
      go_wp2_with fail
      refine (IW.out _ _ _ _).mono ?_
      rintro e w1 ⟨rfl, rfl⟩
      rw [e2]
      go_wp2
      exact bodyPost_ret (v := .tuple #[.agg #[.int .i64 0, .slice none 0 0, .int .i64 0], .bool false]) (by simp [results, Try.results5, go_sem]) rfl ⟨.slice none 0 0, rfl, ⟨.inl ⟨rfl, rfl⟩⟩, (Below.refl _ _).alloc (Nat.le_refl _) _⟩
  · have e1 : decide (1 ≤ p ∧ p ≤ 50) = false := decide_eq_false h1
    have ho : TQ.ok p u = false := decide_eq_false fun h => h1 h.1
    have hq : TQ.qu p u = 0 := by rw [TQ.qu, ho]; rfl
    have hm : TQ.many p u = 0 := by rw [TQ.many, ho]; rfl
    rw [ho, hq, hm]
    clear ho hq hm h1 hi hz0 hz1 hz2
    go_enter Try.func5, Try.ntmps5
    go_wp2_with fail
    refine (IW.out _ _ _ _).mono ?_
    rintro e w1 ⟨rfl, rfl⟩
    rw [e1]
    go_wp2
    exact bodyPost_ret (v := .tuple #[.agg #[.int .i64 0, .slice none 0 0, .int .i64 0], .bool false]) (by simp [results, Try.results5, go_sem]) rfl ⟨.slice none 0 0, rfl, ⟨.inl ⟨rfl, rfl⟩⟩, (Below.refl _ _).alloc (Nat.le_refl _) _⟩
set_option maxHeartbeats 1600000 in
set_option maxRecDepth 100000 in
theorem newTurnsS_any (p u : Int) (w : World) :
    Calls Try.prog 4 #[.int .i64 p, .int .i64 u] w fun e w' => ∃ v, e = .returned (.tuple #[.agg #[.int .i64 (TQ.qu p u), v, .int .i64 0], .bool (TQ.ok p u)]) ∧ TQ.New w' w.heap.size 36 v (TQ.many p u) 0 1 ∧ Below w.heap.size w w' := by
  obtain ⟨i0, hi, hz0, hz1, hz2⟩ := info_parts Try.infoQueue
  have IW : Hid (∀ (n lo hi : Int) (W : World), Calls Try.prog 9 #[.int .i64 n, .int .i64 lo, .int .i64 hi] W fun e w' => e = .returned (.bool (decide (lo ≤ n ∧ n ≤ hi))) ∧ W = w') := fun n lo hi W => l1In_any n lo hi W
  by_cases h1 : 1 ≤ p ∧ p ≤ 50
  · have e1 : decide (1 ≤ p ∧ p ≤ 50) = true := decide_eq_true h1
    by_cases h2 : 1 ≤ u ∧ u ≤ 6
    · have e2 : decide (1 ≤ u ∧ u ≤ 6) = true := decide_eq_true h2
      obtain ⟨n, rfl⟩ : ∃ n : Nat, u = n := ⟨u.toNat, by omega⟩
      have ho : TQ.ok p n = true := decide_eq_true ⟨h1, h2⟩
      have hq : TQ.qu p n = p := by rw [TQ.qu, ho]; rfl
      have hm : TQ.many p n = n := by rw [TQ.many, ho]; rfl
      rw [ho, hq, hm]
      clear ho hq hm h1
      go_enter Try.func4, Try.ntmps4
      go_wp2_with fail
      refine (IW.out _ _ _ _).mono ?_
      rintro e w1 ⟨rfl, rfl⟩
      rw [e1]
      go_wp2_with fail
      refine (IW.out _ _ _ _).mono ?_
      rintro e w1 ⟨rfl, rfl⟩
      rw [e2]
      go_wp2_with (at_make; refine wpList_make_full _ rfl _ _ 22 rfl (w.heap.size + 1) 36 i0 (.agg #[.slice none 0 0, .int .i64 0, .int .i64 0]) 3 Try.underlying22 hi hz0 hz1 .i64 .i64 _ _ n rfl rfl rfl rfl ?_ ?_ ?_ ?_)
      · rw [hz2]; omega
      · unfold maxLen; omega
      · simp
      intro w1 hown hgrow
      have hown' : w1.ownsRow (w.heap.size + 1) 36 3 (.slice (some ⟨w.heap.size + 1, 0, none⟩) n n) n (TQ.flat (TQ.mkN 1 n 0)) := by
        rw [TQ.mkN_zero, ← TQ.made_zs n (by omega)]; exact hown
      have hb1 : Below w.heap.size w w1 := ((Below.refl _ _).alloc (Nat.le_refl _) _).grown hgrow (by simp) (fun k hk => by cases hk)
      have hx : Below (w.heap.size + 1) (w.alloc (.cells #[.int .i64 0, .slice none 0 0, .int .i64 0] 24)) w1 := (Below.refl _ _).grown hgrow (by simp) (fun k hk => by cases hk)
      have k0 : w1.cell? ⟨w.heap.size, 0, none⟩ = _ := hx.cell (by simp)
      have k1 : w1.cell? ⟨w.heap.size, 1, none⟩ = _ := hx.cell (by simp)
      have k2 : w1.cell? ⟨w.heap.size, 2, none⟩ = _ := hx.cell (by simp)
      have f0 : w1.frozen? ⟨w.heap.size, 0, none⟩ = false := (hx.frozen (p := ⟨w.heap.size, 0, none⟩) (by simp)).trans (TQ.free_new _ _ _ _)
      have f1 : w1.frozen? ⟨w.heap.size, 1, none⟩ = false := (hx.frozen (p := ⟨w.heap.size, 1, none⟩) (by simp)).trans (TQ.free_new _ _ _ _)
      have f2 : w1.frozen? ⟨w.heap.size, 2, none⟩ = false := (hx.frozen (p := ⟨w.heap.size, 2, none⟩) (by simp)).trans (TQ.free_new _ _ _ _)
      simp at k0 k1 k2
      have hsz := hx.size
      have hl : w.heap.size < w1.heap.size := by simp at hsz; omega
      have HO : Hid _ := hown'
      have HB : Hid _ := hb1
      clear hown hi hz0 hz1 hz2 e1 e2 IW hgrow hx hsz hown' hb1
      go_wp2
      have r0 := (World.cell?_setCell_other ((w1.setCell ⟨w.heap.size, 0, none⟩ (.int .i64 p)).setCell ⟨w.heap.size, 1, none⟩ (.slice (some ⟨w.heap.size + 1, 0, none⟩) n n)) ⟨w.heap.size, 2, none⟩ ⟨w.heap.size, 0, none⟩ (.int .i64 0) (by simp)).trans ((World.cell?_setCell_other (w1.setCell ⟨w.heap.size, 0, none⟩ (.int .i64 p)) ⟨w.heap.size, 1, none⟩ ⟨w.heap.size, 0, none⟩ (.slice (some ⟨w.heap.size + 1, 0, none⟩) n n) (by simp)).trans (World.cell?_setCell_same w1 ⟨w.heap.size, 0, none⟩ (.int .i64 p) k0))
      have r1 := (World.cell?_setCell_other ((w1.setCell ⟨w.heap.size, 0, none⟩ (.int .i64 p)).setCell ⟨w.heap.size, 1, none⟩ (.slice (some ⟨w.heap.size + 1, 0, none⟩) n n)) ⟨w.heap.size, 2, none⟩ ⟨w.heap.size, 1, none⟩ (.int .i64 0) (by simp)).trans (World.cell?_setCell_same (w1.setCell ⟨w.heap.size, 0, none⟩ (.int .i64 p)) ⟨w.heap.size, 1, none⟩ (.slice (some ⟨w.heap.size + 1, 0, none⟩) n n) ((World.cell?_setCell_other w1 _ _ _ (by simp)).trans k1))
      have r2 := World.cell?_setCell_same ((w1.setCell ⟨w.heap.size, 0, none⟩ (.int .i64 p)).setCell ⟨w.heap.size, 1, none⟩ (.slice (some ⟨w.heap.size + 1, 0, none⟩) n n)) ⟨w.heap.size, 2, none⟩ (.int .i64 0) ((World.cell?_setCell_other (w1.setCell ⟨w.heap.size, 0, none⟩ (.int .i64 p)) _ _ _ (by simp)).trans ((World.cell?_setCell_other w1 _ _ _ (by simp)).trans k2))
      have HB3 := ((HB.out.setCell (p := ⟨w.heap.size, 0, none⟩) (Nat.le_refl _) (.int .i64 p)).setCell (p := ⟨w.heap.size, 1, none⟩) (Nat.le_refl _) (.slice (some ⟨w.heap.size + 1, 0, none⟩) n n)).setCell (p := ⟨w.heap.size, 2, none⟩) (Nat.le_refl _) (.int .i64 0)
      have HO3 := MC.own_only HO.out ((((MC.Only.refl w.heap.size w1).setCell 0 (.int .i64 p)).setCell 1 (.slice (some ⟨w.heap.size + 1, 0, none⟩) n n)).setCell 2 (.int .i64 0)) (by omega)
      clear HO HB k0 k1 k2 f0 f1 f2
      generalize ((w1.setCell ⟨w.heap.size, 0, none⟩ (.int .i64 p)).setCell ⟨w.heap.size, 1, none⟩ (.slice (some ⟨w.heap.size + 1, 0, none⟩) n n)).setCell ⟨w.heap.size, 2, none⟩ (.int .i64 0) = W3 at *
      refine bodyPost_ret (v := .tuple #[.agg #[.int .i64 p, .slice (some ⟨w.heap.size + 1, 0, none⟩) n n, .int .i64 0], .bool true]) (by simp [results, Try.results4, go_sem, r0, r1, r2]) rfl ⟨_, rfl, ⟨.inr ⟨_, rfl, ?_⟩⟩, ?_⟩
      · exact TQ.own_base HO3 (by omega)
      · exact HB3
    · have e2 : decide (1 ≤ u ∧ u ≤ 6) = false := decide_eq_false h2
      have ho : TQ.ok p u = false := decide_eq_false fun h => h2 h.2
      have hq : TQ.qu p u = 0 := by rw [TQ.qu, ho]; rfl
      have hm : TQ.many p u = 0 := by rw [TQ.many, ho]; rfl
      rw [ho, hq, hm]
      clear ho hq hm h1 hi hz0 hz1 hz2 h2
      go_enter Try.func4, Try.ntmps4
      go_wp2_with fail
      refine (IW.out _ _ _ _).mono ?_
      rintro e w1 ⟨rfl, rfl⟩
      rw [e1]
      go_wp2_with fail
      refine (IW.out _ _ _ _).mono ?_
      rintro e w1 ⟨rfl, rfl⟩
      rw [e2]
      go_wp2
      exact bodyPost_ret (v := .tuple #[.agg #[.int .i64 0, .slice none 0 0, .int .i64 0], .bool false]) (by simp [results, Try.results4, go_sem]) rfl ⟨.slice none 0 0, rfl, ⟨.inl ⟨rfl, rfl⟩⟩, (Below.refl _ _).alloc (Nat.le_refl _) _⟩
  · have e1 : decide (1 ≤ p ∧ p ≤ 50) = false := decide_eq_false h1
    have ho : TQ.ok p u = false := decide_eq_false fun h => h1 h.1
    have hq : TQ.qu p u = 0 := by rw [TQ.qu, ho]; rfl
    have hm : TQ.many p u = 0 := by rw [TQ.many, ho]; rfl
    rw [ho, hq, hm]
    clear ho hq hm h1 hi hz0 hz1 hz2
    go_enter Try.func4, Try.ntmps4
    go_wp2_with fail
    refine (IW.out _ _ _ _).mono ?_
    rintro e w1 ⟨rfl, rfl⟩
    rw [e1]
    go_wp2
    exact bodyPost_ret (v := .tuple #[.agg #[.int .i64 0, .slice none 0 0, .int .i64 0], .bool false]) (by simp [results, Try.results4, go_sem]) rfl ⟨.slice none 0 0, rfl, ⟨.inl ⟨rfl, rfl⟩⟩, (Below.refl _ _).alloc (Nat.le_refl _) _⟩
end Go.Proofs.Ytobldjmllhemlaa
