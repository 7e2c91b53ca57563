/- NewBucket, the program's and the specification's. -/
import Derived.Test.YteedppngiknjlaaDoorRows
import Derived.Test.YteedppngiknjlaaDoorCBk0
import Derived.WalkKit
import Derived.WalkSpells
import Derived.WalkLawsBesides
import Derived.Outline
namespace Go.Proofs.YteedppngiknjlaaDoor
open Go.RowKit
set_option maxHeartbeats 800000 in
set_option maxRecDepth 100000 in
theorem newBS_any (p u : Int) (w : World) :
    Calls Tryd.prog 27 #[.int .i64 p, .int .i64 u] w fun e w' => e = .returned (.tuple #[(BK.newB p u).v, .bool (BK.okS p u)]) ∧ Below w.heap.size w w' := by
  have SZ : Hid (∀ W : World, Calls Tryd.prog 39 #[.int .i64 p, .int .i64 u] W fun e w' => e = .returned (.bool (BK.okS p u)) ∧ W = w') := fun W => sizesS_any p u W
  have HN : Hid (∀ h : BK.okS p u = false, (⟨0, 0, 0, 0⟩ : Bk) = BK.newB p u) := fun h => by simp [BK.newB, h, BK.zB]
  have HY : Hid (∀ h : BK.okS p u = true, (⟨p, u, 0, 0⟩ : Bk) = BK.newB p u) := fun h => by simp [BK.newB, h]
  generalize BK.okS p u = q at *
  generalize BK.newB p u = x at *
  cases q
  · have HR : Hid _ := HN.out rfl
    clear HN HY
    go_enter Tryd.func27, Tryd.ntmps27
    go_wp2_with fail
    refine (SZ.out _).mono ?_
    rintro e w1 ⟨rfl, rfl⟩
    go_wp2
    exact bodyPost_ret (v := .tuple #[.agg #[.int .i64 0, .int .i64 0, .int .i64 0, .int .i64 0], .bool false]) (by simp [results, Tryd.results27, go_sem]) rfl ⟨retBB13 HR.out rfl, (Below.refl _ _).alloc (Nat.le_refl _) _⟩
  · have HR : Hid _ := HY.out rfl
    clear HN HY
    go_enter Tryd.func27, Tryd.ntmps27
    go_wp2_with fail
    refine (SZ.out _).mono ?_
    rintro e w1 ⟨rfl, rfl⟩
    go_wp2
    exact bodyPost_ret (v := .tuple #[.agg #[.int .i64 p, .int .i64 u, .int .i64 0, .int .i64 0], .bool true]) (by simp [results, Tryd.results27, go_sem]) rfl ⟨retBB13 HR.out rfl, (Below.refl _ _).alloc (Nat.le_refl _) _⟩
set_option maxHeartbeats 800000 in
set_option maxRecDepth 100000 in
theorem newBI_any (p u : Int) (w : World) :
    Calls Tryd.prog 10 #[.int .i64 p, .int .i64 u] w fun e w' => e = .returned (.tuple #[(BK.newB p u).v, .bool (BK.okS p u)]) ∧ Below w.heap.size w w' := by
  have SZ : Hid (∀ W : World, Calls Tryd.prog 28 #[.int .i64 p, .int .i64 u] W fun e w' => e = .returned (.bool (BK.okS p u)) ∧ W = w') := fun W => sizesI_any p u W
  have HN : Hid (∀ h : BK.okS p u = false, (⟨0, 0, 0, 0⟩ : Bk) = BK.newB p u) := fun h => by simp [BK.newB, h, BK.zB]
  have HY : Hid (∀ h : BK.okS p u = true, (⟨p, u, 0, 0⟩ : Bk) = BK.newB p u) := fun h => by simp [BK.newB, h]
  generalize BK.okS p u = q at *
  generalize BK.newB p u = x at *
  cases q
  · have HR : Hid _ := HN.out rfl
    clear HN HY
    go_enter Tryd.func10, Tryd.ntmps10
    go_wp2_with fail
    refine (SZ.out _).mono ?_
    rintro e w1 ⟨rfl, rfl⟩
    go_wp2
    exact bodyPost_ret (v := .tuple #[.agg #[.int .i64 0, .int .i64 0, .int .i64 0, .int .i64 0], .bool false]) (by simp [results, Tryd.results10, go_sem]) rfl ⟨retBB13 HR.out rfl, (Below.refl _ _).alloc (Nat.le_refl _) _⟩
  · have HR : Hid _ := HY.out rfl
    clear HN HY
    go_enter Tryd.func10, Tryd.ntmps10
    go_wp2_with fail
    refine (SZ.out _).mono ?_
    rintro e w1 ⟨rfl, rfl⟩
    go_wp2
    exact bodyPost_ret (v := .tuple #[.agg #[.int .i64 p, .int .i64 u, .int .i64 0, .int .i64 0], .bool true]) (by simp [results, Tryd.results10, go_sem]) rfl ⟨retBB13 HR.out rfl, (Below.refl _ _).alloc (Nat.le_refl _) _⟩
end Go.Proofs.YteedppngiknjlaaDoor
