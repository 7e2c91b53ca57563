import Derived.Test.YtcpfbgogfhlmjaaDoorM1
import Derived.Test.YtcpfbgogfhlmjaaDoorRows
import Derived.Test.YtcpfbgogfhlmjaaDoorOkN
import Derived.WalkKit
import Derived.WalkSpells
import Derived.WalkLawsBesides
import Derived.Outline
import Derived.OpenShut
import Derived.Test.YtcpfbgogfhlmjaaDoorM3
import Derived.Test.YtcpfbgogfhlmjaaDoorM2
import Derived.Lib.ConvBytes
/- Plain facts on sums over bytes (chapter 1): the table's two turns for a byte come to the same as the eight steps of the polynomial. No program is named here. -/
namespace Go.Proofs.YtcpfbgogfhlmjaaDoor
namespace M6
/-- The table's sixteen rows. -/
def T : List Nat := [0, 4129, 8258, 12387, 16516, 20645, 24774, 28903, 33032, 37161, 41290, 45419, 49548, 53677, 57806, 61935]
/-- One step of the polynomial. -/
def st (x : Nat) : Nat := if 65535 < x * 2 then (x * 2) ^^^ 69665 else x * 2
/-- Four steps by the table. -/
def F4 (y : Nat) : Nat := (y * 16 % 65536) ^^^ T.getD (y / 4096) 0
theorem xor_mul (a b k : Nat) : (a ^^^ b) * 2 ^ k = (a * 2 ^ k) ^^^ (b * 2 ^ k) := by
  rw [← Nat.shiftLeft_eq, ← Nat.shiftLeft_eq, ← Nat.shiftLeft_eq, Nat.shiftLeft_xor_distrib]
theorem xor_div (a b k : Nat) : (a ^^^ b) / 2 ^ k = (a / 2 ^ k) ^^^ (b / 2 ^ k) := by
  rw [← Nat.shiftRight_eq_div_pow, ← Nat.shiftRight_eq_div_pow, ← Nat.shiftRight_eq_div_pow, Nat.shiftRight_xor_distrib]
theorem xor_mod (a b k : Nat) : (a ^^^ b) % 2 ^ k = (a % 2 ^ k) ^^^ (b % 2 ^ k) := Nat.xor_mod_two_pow
theorem st_lt (x : Nat) (hx : x < 65536) : st x < 65536 := by
  unfold st
  split
  · have h1 : x * 2 / 2 ^ 16 = 1 := by omega
    have h2 : (x * 2 ^^^ 69665) / 2 ^ 16 = 0 := by rw [xor_div, h1]; decide
    omega
  · omega
theorem split (x k : Nat) : x = (x / 2 ^ k * 2 ^ k) ^^^ (x % 2 ^ k) := by
  have hp : 0 < 2 ^ k := Nat.pow_pos (by decide)
  have hd : ((x / 2 ^ k * 2 ^ k) ^^^ (x % 2 ^ k)) / 2 ^ k = x / 2 ^ k := by
    rw [xor_div, Nat.mul_div_cancel _ hp, Nat.div_eq_of_lt (Nat.mod_lt _ hp), Nat.xor_zero]
  have hm : ((x / 2 ^ k * 2 ^ k) ^^^ (x % 2 ^ k)) % 2 ^ k = x % 2 ^ k := by
    rw [xor_mod, Nat.mul_mod_left, Nat.mod_mod, Nat.zero_xor]
  have h1 := Nat.div_add_mod x (2 ^ k)
  have h2 := Nat.div_add_mod ((x / 2 ^ k * 2 ^ k) ^^^ (x % 2 ^ k)) (2 ^ k)
  rw [hd, hm] at h2
  exact h1.symm.trans h2
theorem st_form (x : Nat) (hx : x < 65536) : st x = (x * 2 % 65536) ^^^ (x / 32768 * 4129) := by
  have hl := st_lt x hx
  by_cases h : 65535 < x * 2
  · have e : st x = (x * 2) ^^^ 69665 := by unfold st; rw [if_pos h]
    have e1 : x / 32768 = 1 := by omega
    rw [← Nat.mod_eq_of_lt hl, e, show (65536 : Nat) = 2 ^ 16 from rfl, xor_mod, e1]
  · have e : st x = x * 2 := by unfold st; rw [if_neg h]
    have e1 : x / 32768 = 0 := by omega
    have e2 : x * 2 % 65536 = x * 2 := by omega
    rw [e, e1, e2, Nat.zero_mul, Nat.xor_zero]
theorem bit_mul (p q : Nat) (hp : p < 2) (hq : q < 2) : (p ^^^ q) * 4129 = (p * 4129) ^^^ (q * 4129) :=
  (by decide : ∀ p < 2, ∀ q < 2, (p ^^^ q) * 4129 = (p * 4129) ^^^ (q * 4129)) p hp q hq
theorem st_xor (x y : Nat) (hx : x < 65536) (hy : y < 65536) : st (x ^^^ y) = st x ^^^ st y := by
  have hxy : x ^^^ y < 65536 := Nat.xor_lt_two_pow (n := 16) hx hy
  rw [st_form _ hxy, st_form _ hx, st_form _ hy]
  have e1 : (x ^^^ y) * 2 % 65536 = (x * 2 % 65536) ^^^ (y * 2 % 65536) := by
    rw [show (x ^^^ y) * 2 = (x ^^^ y) * 2 ^ 1 from rfl, xor_mul, show (65536 : Nat) = 2 ^ 16 from rfl, xor_mod]
  have e2 : (x ^^^ y) / 32768 = (x / 32768) ^^^ (y / 32768) := by
    rw [show (32768 : Nat) = 2 ^ 15 from rfl, xor_div]
  rw [e1, e2, bit_mul _ _ (by omega) (by omega)]
  ac_rfl
def st4 (x : Nat) : Nat := st (st (st (st x)))
theorem st4_xor (x y : Nat) (hx : x < 65536) (hy : y < 65536) : st4 (x ^^^ y) = st4 x ^^^ st4 y := by
  unfold st4
  rw [st_xor _ _ hx hy, st_xor _ _ (st_lt _ hx) (st_lt _ hy), st_xor _ _ (st_lt _ (st_lt _ hx)) (st_lt _ (st_lt _ hy)), st_xor _ _ (st_lt _ (st_lt _ (st_lt _ hx))) (st_lt _ (st_lt _ (st_lt _ hy)))]
theorem st_low (x : Nat) (h : x < 32768) : st x = x * 2 := by unfold st; rw [if_neg (by omega)]
theorem st4_low (l : Nat) (h : l < 4096) : st4 l = l * 16 := by
  unfold st4
  rw [st_low l (by omega), st_low (l * 2) (by omega), st_low (l * 2 * 2) (by omega), st_low (l * 2 * 2 * 2) (by omega)]
  omega
theorem st4_high (h : Nat) (hh : h < 16) : st4 (h * 4096) = T.getD h 0 := (by decide +kernel : ∀ h < 16, st4 (h * 4096) = T.getD h 0) h hh
theorem four (x : Nat) (hx : x < 65536) : st (st (st (st x))) = F4 x := by
  show st4 x = F4 x
  have e := split x 12
  have h1 : st4 x = st4 (x / 2 ^ 12 * 2 ^ 12) ^^^ st4 (x % 2 ^ 12) := by
    rw [← st4_xor _ _ (by omega) (by omega), ← e]
  rw [h1, st4_low (x % 2 ^ 12) (by omega), show x / 2 ^ 12 * 2 ^ 12 = (x / 4096) * 4096 from rfl, st4_high _ (by omega)]
  unfold F4
  have e2 : x % 2 ^ 12 * 16 = x * 16 % 65536 := by omega
  rw [e2, Nat.xor_comm]
theorem T_lt : ∀ i, T.getD i 0 < 65536 := by
  intro i
  by_cases h : i < 16
  · exact (by decide +kernel : ∀ i < 16, T.getD i 0 < 65536) i h
  · have : T.length ≤ i := by simp [T]; omega
    rw [List.getD_eq_getElem?_getD, List.getElem?_eq_none this]; decide
theorem F4_lt (y : Nat) : F4 y < 65536 := by
  unfold F4; exact Nat.xor_lt_two_pow (n := 16) (Nat.mod_lt _ (by decide)) (T_lt _)
/-- The table's turn at a half byte: what impl.crcHalf reckons. -/
def half (x h : Nat) : Nat := (x * 16 % 65536) ^^^ T.getD ((x / 4096) ^^^ h) 0
theorem half_eq (x h : Nat) : half x h = F4 (x ^^^ (h * 4096)) := by
  unfold half F4
  have e1 : (x ^^^ (h * 4096)) * 16 % 65536 = x * 16 % 65536 := by
    rw [show (16 : Nat) = 2 ^ 4 from rfl, xor_mul, show (65536 : Nat) = 2 ^ 16 from rfl, xor_mod]
    have : h * 4096 * 2 ^ 4 % 2 ^ 16 = 0 := by omega
    rw [this, Nat.xor_zero]
  have e2 : (x ^^^ (h * 4096)) / 4096 = (x / 4096) ^^^ h := by
    rw [show (4096 : Nat) = 2 ^ 12 from rfl, xor_div]
    rw [Nat.mul_div_cancel _ (by decide)]
  rw [e1, e2]
theorem half_lt (x h : Nat) : half x h < 65536 := by rw [half_eq]; exact F4_lt _
theorem F4_low (y l : Nat) (hl : l < 16) : F4 (y ^^^ (l * 256)) = F4 y ^^^ (l * 4096) := by
  unfold F4
  have e1 : (y ^^^ (l * 256)) * 16 % 65536 = (y * 16 % 65536) ^^^ (l * 4096) := by
    rw [show (16 : Nat) = 2 ^ 4 from rfl, xor_mul, show (65536 : Nat) = 2 ^ 16 from rfl, xor_mod]
    have : l * 256 * 2 ^ 4 % 2 ^ 16 = l * 4096 := by omega
    rw [this]
  have e2 : (y ^^^ (l * 256)) / 4096 = y / 4096 := by
    rw [show (4096 : Nat) = 2 ^ 12 from rfl, xor_div]
    have : l * 256 / 2 ^ 12 = 0 := by omega
    rw [this, Nat.xor_zero]
  rw [e1, e2, Nat.xor_assoc, Nat.xor_comm (l * 4096), ← Nat.xor_assoc]
/-- A byte's eight steps. -/
def eight (x : Nat) : Nat := st (st (st (st (st (st (st (st x)))))))
theorem byte_split (b : Nat) : b * 256 = (b / 16 * 4096) ^^^ (b % 16 * 256) := by
  have e1 : b / 2 ^ 4 * 2 ^ 4 * 2 ^ 8 = b / 16 * 4096 := by omega
  have e2 : b % 2 ^ 4 * 2 ^ 8 = b % 16 * 256 := by rw [show (2 : Nat) ^ 4 = 16 from rfl, show (2 : Nat) ^ 8 = 256 from rfl]
  have e := split b 4
  have h := xor_mul (b / 2 ^ 4 * 2 ^ 4) (b % 2 ^ 4) 8
  rw [← e, e1, e2] at h
  exact h
theorem eight_eq (x b : Nat) (hx : x < 65536) (hb : b < 256) : eight (x ^^^ (b * 256)) = half (half x (b / 16)) (b % 16) := by
  have hlt : x ^^^ (b * 256) < 65536 := Nat.xor_lt_two_pow (n := 16) hx (by omega)
  unfold eight
  rw [four _ hlt, four _ (F4_lt _), byte_split b, ← Nat.xor_assoc, F4_low _ _ (by omega), half_eq, half_eq]
/-- The sum goes on by one byte. -/
def add (x b : Nat) : Nat := eight (x ^^^ (b * 256))
theorem add_lt (x b : Nat) (hx : x < 65536) (hb : b < 256) : add x b < 65536 := by unfold add; rw [eight_eq x b hx hb]; exact half_lt _ _
/-- The k-th step. -/
def stk (x : Nat) : Nat → Nat
  | 0 => x
  | k + 1 => st (stk x k)
theorem stk_lt (x : Nat) (hx : x < 65536) (k : Nat) : stk x k < 65536 := by
  induction k with
  | zero => exact hx
  | succ k ih => exact st_lt _ ih
theorem stk_eight (x : Nat) : stk x 8 = eight x := rfl
end M6
end Go.Proofs.YtcpfbgogfhlmjaaDoor

/- The walks of impl.crcHalf, impl.crcByte and the specification's l1Crc: the sum goes on by a half byte, by a byte. The table is a hypothesis on memory. -/
namespace Go.Proofs.YtcpfbgogfhlmjaaDoor
open Go.RowKit
/-- The table lies in memory. -/
def Tab (w : World) : Prop := 0 < w.heap.size ∧ ∀ i, i < 16 → w.cell? ⟨0, i, none⟩ = some (.int .i64 ((M6.T.getD i 0 : Nat) : Int))
theorem Tab.below {w w' : World} (h : Tab w) (hb : Below w.heap.size w w') : Tab w' :=
  ⟨Nat.lt_of_lt_of_le h.1 hb.size, fun i hi => (hb.cell (p := ⟨0, i, none⟩) h.1).trans (h.2 i hi)⟩
theorem and16 (x : Nat) (h : x < 65536) : bits .and .i64 ((x : Int) * 16) 65535 = ((x * 16 % 65536 : Nat) : Int) := by
  rw [show ((x : Int) * 16) = ((x * 16 : Nat) : Int) from by omega, show (65535 : Int) = ((65535 : Nat) : Int) from rfl, M1.i64_and_nat _ _ (by omega) (by omega)]
  have := Nat.and_two_pow_sub_one_eq_mod (x * 16) 16
  rw [show (2 : Nat) ^ 16 = 65536 from rfl, show (65536 : Nat) - 1 = 65535 from rfl] at this
  rw [this]
theorem xor12 (x h : Nat) (hx : x < 65536) (hh : h < 16) : bits .xor .i64 ((x : Int) / 4096) (h : Int) = ((x / 4096 ^^^ h : Nat) : Int) := by
  rw [show ((x : Int) / 4096) = ((x / 4096 : Nat) : Int) from by omega, M1.i64_xor_nat _ _ (by omega) (by omega)]
theorem xorT (a b : Nat) (ha : a < 65536) (hb : b < 65536) : bits .xor .i64 (a : Int) (b : Int) = ((a ^^^ b : Nat) : Int) := M1.i64_xor_nat _ _ (by omega) (by omega)
theorem ret_int {a b : Int} (h : a = b) : Ending.returned (.int .i64 a) = .returned (.int .i64 b) := by rw [h]
set_option maxHeartbeats 800000 in
set_option maxRecDepth 100000 in
theorem crcHalf_any (x h : Nat) (w : World) (hx : x < 65536) (hh : h < 16) (ht : Tab w) :
    Calls Tryd.prog 82 #[.int .i64 (x : Int), .int .i64 (h : Int)] w fun e w' => e = .returned (.int .i64 ((M6.half x h : Nat) : Int)) ∧ w = w' := by
  have h1 := and16 x hx
  have h2 := xor12 x h hx hh
  have hi : x / 4096 ^^^ h < 16 := Nat.xor_lt_two_pow (n := 4) (by omega) (by omega)
  have hc := ht.2 _ hi
  have hT := M6.T_lt (x / 4096 ^^^ h)
  have hF : Hid (M6.half x h = (x * 16 % 65536) ^^^ M6.T.getD (x / 4096 ^^^ h) 0) := rfl
  generalize M6.half x h = r at *
  generalize x / 4096 ^^^ h = i at *
  generalize M6.T.getD i 0 = t at *
  have hm : x * 16 % 65536 < 65536 := by omega
  generalize x * 16 % 65536 = y at *
  have h3 := xorT y t hm hT
  clear ht
  go_enter Tryd.func82, Tryd.ntmps82
  go_wp2
  go_ret
  exact ⟨ret_int (by rw [hF.out]), rfl⟩
set_option maxHeartbeats 800000 in
set_option maxRecDepth 100000 in
theorem crcByte_any (x b : Nat) (w : World) (hx : x < 65536) (hb : b < 256) (ht : Tab w) :
    Calls Tryd.prog 68 #[.int .i64 (x : Int), .int .u8 (b : Int)] w fun e w' => e = .returned (.int .i64 ((M6.add x b : Nat) : Int)) ∧ w = w' := by
  have hF : Hid (M6.half (M6.half x (b / 16)) (b % 16) = M6.add x b) := (M6.eight_eq x b hx hb).symm
  have hl := M6.half_lt x (b / 16)
  go_enter Tryd.func68, Tryd.ntmps68
  go_wp2_with fail
  rw [show ((b : Int) / 16) = ((b / 16 : Nat) : Int) from by omega]
  refine (crcHalf_any x (b / 16) _ hx (by omega) ht).mono ?_
  rintro e w' ⟨rfl, rfl⟩
  go_wp2_with fail
  rw [show ((b : Int) % 16) = ((b % 16 : Nat) : Int) from by omega]
  refine (crcHalf_any (M6.half x (b / 16)) (b % 16) _ hl (by omega) ht).mono ?_
  rintro e w' ⟨rfl, rfl⟩
  go_wp2
  go_ret
  exact ⟨ret_int (by rw [hF.out]), rfl⟩
theorem xor8 (x b : Nat) (hx : x < 65536) (hb : b < 256) : bits .xor .i64 (x : Int) ((b : Int) * 256) = ((x ^^^ (b * 256) : Nat) : Int) := by
  rw [show ((b : Int) * 256) = ((b * 256 : Nat) : Int) from by omega, M1.i64_xor_nat _ _ (by omega) (by omega)]
theorem xorP (x : Nat) (hx : x < 65536) : bits .xor .i64 ((x : Int) * 2) 69665 = ((x * 2 ^^^ 69665 : Nat) : Int) := by
  rw [show ((x : Int) * 2) = ((x * 2 : Nat) : Int) from by omega, show (69665 : Int) = ((69665 : Nat) : Int) from rfl, M1.i64_xor_nat _ _ (by omega) (by omega)]
set_option maxHeartbeats 800000 in
set_option maxRecDepth 100000 in
theorem l1Crc_any (x b : Nat) (w : World) (hx : x < 65536) (hb : b < 256) :
    Calls Tryd.prog 83 #[.int .i64 (x : Int), .int .u8 (b : Int)] w fun e w' => e = .returned (.int .i64 ((M6.add x b : Nat) : Int)) ∧ w = w' := by
  have h1 := xor8 x b hx hb
  have hy : x ^^^ (b * 256) < 65536 := Nat.xor_lt_two_pow (n := 16) hx (by omega)
  have hF : Hid (M6.stk (x ^^^ (b * 256)) 8 = M6.add x b) := rfl
  generalize M6.add x b = r at *
  generalize x ^^^ (b * 256) = y at *
  go_enter Tryd.func83, Tryd.ntmps83
  go_wp2
  go_loop [0, 5] (fun cv kv => ∃ k z : Nat, kv = .int .i64 k ∧ k ≤ 8 ∧ cv = .int .i64 (z : Int) ∧ z < 65536 ∧ Hid (M6.stk y k = z)) (fun _ kv => (8 - intOf kv).toNat)
  case atStart => exact ⟨0, y, rfl, by omega, rfl, hy, rfl⟩
  case round =>
    clear h1
    obtain ⟨k, z, rfl, hk, rfl, hz, HZ⟩ := hrel
    by_cases hl : k < 8
    · have hlt := M6.st_lt z hz
      by_cases hc : 65535 < z * 2
      · have hS' : Hid (M6.stk y (k + 1) = M6.st z) := by show _ = _; rw [M6.stk, HZ.out]
        have h2 : bits .xor .i64 ((z : Int) * 2) 69665 = ((M6.st z : Nat) : Int) := by rw [M6.st, if_pos hc]; exact xorP z hz
        generalize M6.st z = v at *
        clear HZ hF
        go_wp2
        go_round
        case rel => exact ⟨k + 1, v, by go_num, by omega, rfl, hlt, hS'⟩
        case measure => simp [intOf]; omega
      · have hS' : Hid (M6.stk y (k + 1) = z * 2) := by show _ = _; rw [M6.stk, HZ.out, M6.st, if_neg hc]
        clear HZ hF hlt
        go_wp2
        go_round
        case rel => exact ⟨k + 1, z * 2, by go_num, by omega, by go_num, by omega, hS'⟩
        case measure => simp [intOf]; omega
    · obtain rfl : k = 8 := by omega
      have hR : Hid (z = r) := by show _ = _; rw [← HZ.out, hF.out]
      clear HZ hF
      go_wp2
      go_ret
      exact ⟨ret_int (by rw [hR.out]), rfl⟩
/-- What CrcAdd answers. -/
def addF (n : Int) (b : Nat) : Nat := if 0 ≤ n ∧ n ≤ 65535 then M6.add n.toNat b else 0
theorem ret_ib {a c : Int} {b d : Bool} (h1 : a = c) (h2 : b = d) : Ending.returned (.tuple #[.int .i64 a, .bool b]) = .returned (.tuple #[.int .i64 c, .bool d]) := by rw [h1, h2]
end Go.Proofs.YtcpfbgogfhlmjaaDoor

/- The walks of impl.crcOver, the specification's l1CrcOf, both CrcOf: the sum over a text. -/
namespace Go.Proofs.YtcpfbgogfhlmjaaDoor
open Go.RowKit
/-- The sum over the first k bytes. -/
def cs (s : ByteArray) : Nat → Nat
  | 0 => 65535
  | k + 1 => M6.add (cs s k) (M3.gb s k)
theorem cs_lt (s : ByteArray) (k : Nat) : cs s k < 65536 := by
  induction k with
  | zero => simp [cs]
  | succ k ih => exact M6.add_lt _ _ ih (M3.gb_lt s k)
/-- The sum over a text. -/
def crcT (s : ByteArray) : Nat := cs s s.size
theorem crcT_lt (s : ByteArray) : crcT s < 65536 := cs_lt s _
set_option maxHeartbeats 800000 in
set_option maxRecDepth 100000 in
theorem crcOver_any (s : ByteArray) (w : World) (hs : s.size ≤ maxLen) (ht : Tab w) :
    Calls Tryd.prog 51 #[.string s] w fun e w' => e = .returned (.int .i64 ((crcT s : Nat) : Int)) ∧ w = w' := by
  unfold maxLen at hs
  have hF : Hid (cs s s.size = crcT s) := rfl
  generalize crcT s = r at *
  go_enter Tryd.func51, Tryd.ntmps51
  go_wp2
  go_loop [3, 4] (fun cv kv => ∃ k z : Nat, kv = .int .i64 k ∧ k ≤ s.size ∧ cv = .int .i64 (z : Int) ∧ z < 65536 ∧ Hid (cs s k = z)) (fun _ kv => (s.size - intOf kv).toNat)
  case atStart => exact ⟨0, 65535, rfl, by omega, rfl, by omega, rfl⟩
  case round =>
    obtain ⟨k, z, rfl, hk, rfl, hz, HZ⟩ := hrel
    by_cases hl : k < s.size
    · have hg := M3.gb_eq s k hl
      have hlt := M3.gb_lt s k
      have hS : Hid (cs s (k + 1) = M6.add z (M3.gb s k)) := by show _ = _; rw [cs, HZ.out]
      generalize M3.gb s k = c at *
      have hz' := M6.add_lt z c hz hlt
      clear HZ hF
      go_wp2_with (go_at_call 68; refine (crcByte_any z c _ hz hlt ht).mono ?_; rintro e w' ⟨rfl, rfl⟩)
      go_round
      case rel => exact ⟨k + 1, M6.add z c, by go_num, by omega, rfl, hz', hS⟩
      case measure => simp [intOf]; omega
    · obtain rfl : k = s.size := by omega
      have hR : Hid (z = r) := by show _ = _; rw [← HZ.out, hF.out]
      clear HZ hF
      go_wp2
      go_ret
      exact ⟨ret_int (by rw [hR.out]), rfl⟩
set_option maxHeartbeats 800000 in
set_option maxRecDepth 100000 in
theorem l1CrcOf_any (s : ByteArray) (w : World) (hs : s.size ≤ maxLen) :
    Calls Tryd.prog 69 #[.string s] w fun e w' => e = .returned (.int .i64 ((crcT s : Nat) : Int)) ∧ w = w' := by
  unfold maxLen at hs
  have hF : Hid (cs s s.size = crcT s) := rfl
  generalize crcT s = r at *
  go_enter Tryd.func69, Tryd.ntmps69
  go_wp2
  go_loop [3, 4] (fun cv kv => ∃ k z : Nat, kv = .int .i64 k ∧ k ≤ s.size ∧ cv = .int .i64 (z : Int) ∧ z < 65536 ∧ Hid (cs s k = z)) (fun _ kv => (s.size - intOf kv).toNat)
  case atStart => exact ⟨0, 65535, rfl, by omega, rfl, by omega, rfl⟩
  case round =>
    obtain ⟨k, z, rfl, hk, rfl, hz, HZ⟩ := hrel
    by_cases hl : k < s.size
    · have hg := M3.gb_eq s k hl
      have hlt := M3.gb_lt s k
      have hS : Hid (cs s (k + 1) = M6.add z (M3.gb s k)) := by show _ = _; rw [cs, HZ.out]
      generalize M3.gb s k = c at *
      have hz' := M6.add_lt z c hz hlt
      clear HZ hF
      go_wp2_with (go_at_call 83; refine (l1Crc_any z c _ hz hlt).mono ?_; rintro e w' ⟨rfl, rfl⟩)
      go_round
      case rel => exact ⟨k + 1, M6.add z c, by go_num, by omega, rfl, hz', hS⟩
      case measure => simp [intOf]; omega
    · obtain rfl : k = s.size := by omega
      have hR : Hid (z = r) := by show _ = _; rw [← HZ.out, hF.out]
      clear HZ hF
      go_wp2
      go_ret
      exact ⟨ret_int (by rw [hR.out]), rfl⟩
/-- What CrcOf answers. -/
def crcF (s : ByteArray) : Nat := if s.size ≤ 400 then crcT s else 0
theorem crcF_yes {s : ByteArray} (h : s.size ≤ 400) : crcT s = crcF s := by simp [crcF, h]
theorem crcF_no {s : ByteArray} (h : ¬ s.size ≤ 400) : 0 = crcF s := by simp [crcF, h]
end Go.Proofs.YtcpfbgogfhlmjaaDoor

/- The walks of the specification's l1With and of both WithCrc. -/
namespace Go.Proofs.YtcpfbgogfhlmjaaDoor
open Go.RowKit
theorem ret_strW {a b : ByteArray} (h : a = b) : Ending.returned (.string a) = .returned (.string b) := by rw [h]
theorem ret_sbW {s t : ByteArray} {a b : Bool} (h1 : s = t) (h2 : a = b) : Ending.returned (.tuple #[.string s, .bool a]) = .returned (.tuple #[.string t, .bool b]) := by rw [h1, h2]
/-- A text with its sum behind it. -/
def withS (s : ByteArray) : ByteArray := s ++ ⟨#[UInt8.ofNat (crcT s / 256), UInt8.ofNat (crcT s % 256)]⟩
set_option maxHeartbeats 400000 in
set_option maxRecDepth 100000 in
theorem l1With_any (s : ByteArray) (w : World) (hs : s.size ≤ 1048576) :
    Calls Tryd.prog 52 #[.string s] w fun e w' => e = .returned (.string (withS s)) ∧ Below w.heap.size w w' := by
  have hF : Hid (withS s = s ++ ⟨#[UInt8.ofNat (crcT s / 256), UInt8.ofNat (crcT s % 256)]⟩) := rfl
  have hc := crcT_lt s
  have hcv := M2.conv2 (P := Tryd.prog) 22 9 5 Tryd.underlying22 Tryd.underlying5 Tryd.underlying9
  have hC : Hid (∀ w, Calls Tryd.prog 69 #[.string s] w fun e w' => e = .returned (.int .i64 ((crcT s : Nat) : Int)) ∧ w = w') := fun w => l1CrcOf_any s w (by unfold maxLen; omega)
  generalize withS s = r at *
  generalize crcT s = z at *
  go_enter Tryd.func52, Tryd.ntmps52
  go_wp2_with (go_at_call 69; refine (hC.out _).mono ?_; rintro e w' ⟨rfl, rfl⟩)
  go_ret
  exact ⟨ret_strW hF.out.symm, (Below.refl _ _).alloc (Nat.le_refl _) _⟩
/-- What WithCrc answers. -/
def wF (s : ByteArray) : ByteArray := if s.size ≤ 398 then withS s else ⟨#[]⟩
theorem wF_yes {s : ByteArray} (h : s.size ≤ 398) : withS s = wF s := by simp [wF, h]
theorem wF_no {s : ByteArray} (h : ¬ s.size ≤ 398) : ⟨#[]⟩ = wF s := by simp [wF, h]
set_option maxHeartbeats 400000 in
set_option maxRecDepth 100000 in
theorem implWith_any (s : ByteArray) (w : World) (hs0 : s.size ≤ maxLen) (ht : Tab w) :
    Calls Tryd.prog 28 #[.string s] w fun e w' => e = .returned (.tuple #[.string (wF s), .bool (decide (s.size ≤ 398))]) ∧ Below w.heap.size w w' := by
  have hs := hs0
  unfold maxLen at hs
  by_cases h : s.size ≤ 398
  · have hF : Hid (s ++ ⟨#[UInt8.ofNat (crcT s / 256), UInt8.ofNat (crcT s % 256)]⟩ = wF s) := wF_yes h
    have hc := crcT_lt s
    have hcv := M2.conv2 (P := Tryd.prog) 22 9 5 Tryd.underlying22 Tryd.underlying5 Tryd.underlying9
    have hC : Hid (∀ w, Tab w → Calls Tryd.prog 51 #[.string s] w fun e w' => e = .returned (.int .i64 ((crcT s : Nat) : Int)) ∧ w = w') := fun w ht => crcOver_any s w hs0 ht
    generalize wF s = r at *
    generalize crcT s = z at *
    go_enter Tryd.func28, Tryd.ntmps28
    go_wp2_with (go_at_call 51; refine (hC.out _ ht).mono ?_; rintro e w' ⟨rfl, rfl⟩)
    go_ret2
    exact ⟨ret_sbW hF.out (by simp [h]), (Below.refl _ _).alloc (Nat.le_refl _) _⟩
  · have hF : Hid (⟨#[]⟩ = wF s) := wF_no h
    go_enter Tryd.func28, Tryd.ntmps28
    go_wp2
    go_ret2
    exact ⟨ret_sbW hF.out (by simp; omega), Below.refl _ _⟩
end Go.Proofs.YtcpfbgogfhlmjaaDoor
