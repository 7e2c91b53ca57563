/- The walks of impl.crcHalf, impl.crcByte and the specification's l1Crc: the sum goes on by a half byte, by a byte. The table is a hypothesis on memory. -/
import Derived.Test.YtkpkahhhmoaafabDoorRows
import Derived.Test.YtkpkahhhmoaafabDoorM6
import Derived.Test.YtkpkahhhmoaafabDoorOkN
import Derived.WalkKit
import Derived.WalkSpells
import Derived.WalkLawsBesides
import Derived.Outline
import Derived.OpenShut
namespace Go.Proofs.YtkpkahhhmoaafabDoor
open Go.RowKit
/-- The table lies in memory. -/
def Tab (w : World) : Prop := 0 < w.heap.size ∧ ∀ i, i < 16 → w.cell? ⟨0, i, none⟩ = some (.int .i64 ((M6.T.getD i 0 : Nat) : Int))
theorem Tab.below {w w' : World} (h : Tab w) (hb : Below w.heap.size w w') : Tab w' :=
  ⟨Nat.lt_of_lt_of_le h.1 hb.size, fun i hi => (hb.cell (p := ⟨0, i, none⟩) h.1).trans (h.2 i hi)⟩
theorem and16 (x : Nat) (h : x < 65536) : bits .and .i64 ((x : Int) * 16) 65535 = ((x * 16 % 65536 : Nat) : Int) := by
  rw [show ((x : Int) * 16) = ((x * 16 : Nat) : Int) from by omega, show (65535 : Int) = ((65535 : Nat) : Int) from rfl, M1.i64_and_nat _ _ (by omega) (by omega)]
  have := Nat.and_two_pow_sub_one_eq_mod (x * 16) 16
  rw [show (2 : Nat) ^ 16 = 65536 from rfl, show (65536 : Nat) - 1 = 65535 from rfl] at this
  rw [this]
theorem xor12 (x h : Nat) (hx : x < 65536) (hh : h < 16) : bits .xor .i64 ((x : Int) / 4096) (h : Int) = ((x / 4096 ^^^ h : Nat) : Int) := by
  rw [show ((x : Int) / 4096) = ((x / 4096 : Nat) : Int) from by omega, M1.i64_xor_nat _ _ (by omega) (by omega)]
theorem xorT (a b : Nat) (ha : a < 65536) (hb : b < 65536) : bits .xor .i64 (a : Int) (b : Int) = ((a ^^^ b : Nat) : Int) := M1.i64_xor_nat _ _ (by omega) (by omega)
theorem ret_int {a b : Int} (h : a = b) : Ending.returned (.int .i64 a) = .returned (.int .i64 b) := by rw [h]
set_option maxHeartbeats 800000 in
set_option maxRecDepth 100000 in
theorem crcHalf_any (x h : Nat) (w : World) (hx : x < 65536) (hh : h < 16) (ht : Tab w) :
    Calls Tryd.prog 70 #[.int .i64 (x : Int), .int .i64 (h : Int)] w fun e w' => e = .returned (.int .i64 ((M6.half x h : Nat) : Int)) ∧ w = w' := by
  have h1 := and16 x hx
  have h2 := xor12 x h hx hh
  have hi : x / 4096 ^^^ h < 16 := Nat.xor_lt_two_pow (n := 4) (by omega) (by omega)
  have hc := ht.2 _ hi
  have hT := M6.T_lt (x / 4096 ^^^ h)
  have hF : Hid (M6.half x h = (x * 16 % 65536) ^^^ M6.T.getD (x / 4096 ^^^ h) 0) := rfl
  generalize M6.half x h = r at *
  generalize x / 4096 ^^^ h = i at *
  generalize M6.T.getD i 0 = t at *
  have hm : x * 16 % 65536 < 65536 := by omega
  generalize x * 16 % 65536 = y at *
  have h3 := xorT y t hm hT
  clear ht
  go_enter Tryd.func70, Tryd.ntmps70
  go_wp2
  go_ret
  exact ⟨ret_int (by rw [hF.out]), rfl⟩
set_option maxHeartbeats 800000 in
set_option maxRecDepth 100000 in
theorem crcByte_any (x b : Nat) (w : World) (hx : x < 65536) (hb : b < 256) (ht : Tab w) :
    Calls Tryd.prog 57 #[.int .i64 (x : Int), .int .u8 (b : Int)] w fun e w' => e = .returned (.int .i64 ((M6.add x b : Nat) : Int)) ∧ w = w' := by
  have hF : Hid (M6.half (M6.half x (b / 16)) (b % 16) = M6.add x b) := (M6.eight_eq x b hx hb).symm
  have hl := M6.half_lt x (b / 16)
  go_enter Tryd.func57, Tryd.ntmps57
  go_wp2_with fail
  rw [show ((b : Int) / 16) = ((b / 16 : Nat) : Int) from by omega]
  refine (crcHalf_any x (b / 16) _ hx (by omega) ht).mono ?_
  rintro e w' ⟨rfl, rfl⟩
  go_wp2_with fail
  rw [show ((b : Int) % 16) = ((b % 16 : Nat) : Int) from by omega]
  refine (crcHalf_any (M6.half x (b / 16)) (b % 16) _ hl (by omega) ht).mono ?_
  rintro e w' ⟨rfl, rfl⟩
  go_wp2
  go_ret
  exact ⟨ret_int (by rw [hF.out]), rfl⟩
theorem xor8 (x b : Nat) (hx : x < 65536) (hb : b < 256) : bits .xor .i64 (x : Int) ((b : Int) * 256) = ((x ^^^ (b * 256) : Nat) : Int) := by
  rw [show ((b : Int) * 256) = ((b * 256 : Nat) : Int) from by omega, M1.i64_xor_nat _ _ (by omega) (by omega)]
theorem xorP (x : Nat) (hx : x < 65536) : bits .xor .i64 ((x : Int) * 2) 69665 = ((x * 2 ^^^ 69665 : Nat) : Int) := by
  rw [show ((x : Int) * 2) = ((x * 2 : Nat) : Int) from by omega, show (69665 : Int) = ((69665 : Nat) : Int) from rfl, M1.i64_xor_nat _ _ (by omega) (by omega)]
set_option maxHeartbeats 800000 in
set_option maxRecDepth 100000 in
theorem l1Crc_any (x b : Nat) (w : World) (hx : x < 65536) (hb : b < 256) :
    Calls Tryd.prog 64 #[.int .i64 (x : Int), .int .u8 (b : Int)] w fun e w' => e = .returned (.int .i64 ((M6.add x b : Nat) : Int)) ∧ w = w' := by
  have h1 := xor8 x b hx hb
  have hy : x ^^^ (b * 256) < 65536 := Nat.xor_lt_two_pow (n := 16) hx (by omega)
  have hF : Hid (M6.stk (x ^^^ (b * 256)) 8 = M6.add x b) := rfl
  generalize M6.add x b = r at *
  generalize x ^^^ (b * 256) = y at *
  go_enter Tryd.func64, Tryd.ntmps64
  go_wp2
  go_loop [0, 5] (fun cv kv => ∃ k z : Nat, kv = .int .i64 k ∧ k ≤ 8 ∧ cv = .int .i64 (z : Int) ∧ z < 65536 ∧ Hid (M6.stk y k = z)) (fun _ kv => (8 - intOf kv).toNat)
  case atStart => exact ⟨0, y, rfl, by omega, rfl, hy, rfl⟩
  case round =>
    clear h1
    obtain ⟨k, z, rfl, hk, rfl, hz, HZ⟩ := hrel
    by_cases hl : k < 8
    · have hlt := M6.st_lt z hz
      by_cases hc : 65535 < z * 2
      · have hS' : Hid (M6.stk y (k + 1) = M6.st z) := by show _ = _; rw [M6.stk, HZ.out]
        have h2 : bits .xor .i64 ((z : Int) * 2) 69665 = ((M6.st z : Nat) : Int) := by rw [M6.st, if_pos hc]; exact xorP z hz
        generalize M6.st z = v at *
        clear HZ hF
        go_wp2
        go_round
        case rel => exact ⟨k + 1, v, by go_num, by omega, rfl, hlt, hS'⟩
        case measure => simp [intOf]; omega
      · have hS' : Hid (M6.stk y (k + 1) = z * 2) := by show _ = _; rw [M6.stk, HZ.out, M6.st, if_neg hc]
        clear HZ hF hlt
        go_wp2
        go_round
        case rel => exact ⟨k + 1, z * 2, by go_num, by omega, by go_num, by omega, hS'⟩
        case measure => simp [intOf]; omega
    · obtain rfl : k = 8 := by omega
      have hR : Hid (z = r) := by show _ = _; rw [← HZ.out, hF.out]
      clear HZ hF
      go_wp2
      go_ret
      exact ⟨ret_int (by rw [hR.out]), rfl⟩
/-- What CrcAdd answers. -/
def addF (n : Int) (b : Nat) : Nat := if 0 ≤ n ∧ n ≤ 65535 then M6.add n.toNat b else 0
theorem ret_ib {a c : Int} {b d : Bool} (h1 : a = c) (h2 : b = d) : Ending.returned (.tuple #[.int .i64 a, .bool b]) = .returned (.tuple #[.int .i64 c, .bool d]) := by rw [h1, h2]
end Go.Proofs.YtkpkahhhmoaafabDoor
