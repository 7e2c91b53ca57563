/- NumberItem, the program's and the specification's. -/
import Derived.Test.YtdkhjnpdphnigaaRows
import Derived.Test.YtdkhjnpdphnigaaM8
import Derived.Test.YtdkhjnpdphnigaaCIsNumber
import Derived.Test.YtdkhjnpdphnigaaCL1Value
import Derived.WalkKit
import Derived.WalkSpells
import Derived.WalkLawsBesides
import Derived.Outline
namespace Go.Proofs.Ytdkhjnpdphnigaa
open Go.RowKit
def numIt (n : Int) : It := if okN n = true then ⟨1, n, ⟨#[]⟩, 0⟩ else ⟨0, 0, ⟨#[]⟩, 0⟩
theorem numIt_yes {n : Int} (h : okN n = true) : numIt n = ⟨1, n, ⟨#[]⟩, 0⟩ := if_pos h
theorem numIt_no {n : Int} (h : okN n = false) : numIt n = ⟨0, 0, ⟨#[]⟩, 0⟩ := if_neg (by simp [h])
theorem ret_ib {x y : It} {a b : Bool} (h : x = y) (h' : a = b) : Ending.returned (.tuple #[x.v, .bool a]) = .returned (.tuple #[y.v, .bool b]) := by rw [h, h']
set_option maxHeartbeats 800000 in
set_option maxRecDepth 100000 in
theorem implNumberItem_any (n : Int) (w : World) : Calls Try.prog 21 #[.int .i64 n] w fun e w' => e = .returned (.tuple #[(numIt n).v, .bool (okN n)]) ∧ Below w.heap.size w w' := by
  cases hb : okN n
  · have HB := numIt_no hb
    have HH : Hid (okN n = false ∧ numIt n = _) := ⟨hb, HB⟩
    clear HB
    go_enter Try.func21, Try.ntmps21
    go_wp2_with fail
    refine (isNumber_any n _).mono ?_
    rintro e w1 ⟨rfl, rfl⟩
    clear hb
    rw [HH.out.1]
    go_wp2
    exact bodyPost_ret (v := .tuple #[.agg #[.int .i64 0, .int .i64 0, .string ⟨#[]⟩, .int .i64 0], .bool false]) (by simp [results, Try.results21, go_sem]) rfl ⟨ret_ib HH.out.2.symm rfl, (Below.refl _ _).alloc (Nat.le_refl _) _⟩
  · have HB := numIt_yes hb
    have HH : Hid (okN n = true ∧ numIt n = _) := ⟨hb, HB⟩
    clear HB
    go_enter Try.func21, Try.ntmps21
    go_wp2_with fail
    refine (isNumber_any n _).mono ?_
    rintro e w1 ⟨rfl, rfl⟩
    clear hb
    rw [HH.out.1]
    go_wp2
    exact bodyPost_ret (v := .tuple #[.agg #[.int .i64 1, .int .i64 n, .string ⟨#[]⟩, .int .i64 0], .bool true]) (by simp [results, Try.results21, go_sem]) rfl ⟨ret_ib HH.out.2.symm rfl, (Below.refl _ _).alloc (Nat.le_refl _) _⟩
set_option maxHeartbeats 800000 in
set_option maxRecDepth 100000 in
theorem specNumberItem_any (n : Int) (w : World) : Calls Try.prog 22 #[.int .i64 n] w fun e w' => e = .returned (.tuple #[(numIt n).v, .bool (okN n)]) ∧ Below w.heap.size w w' := by
  cases hb : okN n
  · have HB := numIt_no hb
    have HH : Hid (okN n = false ∧ numIt n = _) := ⟨hb, HB⟩
    clear HB
    go_enter Try.func22, Try.ntmps22
    go_wp2_with fail
    refine (l1Value_any n _).mono ?_
    rintro e w1 ⟨rfl, rfl⟩
    clear hb
    rw [HH.out.1]
    go_wp2
    exact bodyPost_ret (v := .tuple #[.agg #[.int .i64 0, .int .i64 0, .string ⟨#[]⟩, .int .i64 0], .bool false]) (by simp [results, Try.results22, go_sem]) rfl ⟨ret_ib HH.out.2.symm rfl, (Below.refl _ _).alloc (Nat.le_refl _) _⟩
  · have HB := numIt_yes hb
    have HH : Hid (okN n = true ∧ numIt n = _) := ⟨hb, HB⟩
    clear HB
    go_enter Try.func22, Try.ntmps22
    go_wp2_with fail
    refine (l1Value_any n _).mono ?_
    rintro e w1 ⟨rfl, rfl⟩
    clear hb
    rw [HH.out.1]
    go_wp2
    exact bodyPost_ret (v := .tuple #[.agg #[.int .i64 1, .int .i64 n, .string ⟨#[]⟩, .int .i64 0], .bool true]) (by simp [results, Try.results22, go_sem]) rfl ⟨ret_ib HH.out.2.symm rfl, (Below.refl _ _).alloc (Nat.le_refl _) _⟩
end Go.Proofs.Ytdkhjnpdphnigaa
