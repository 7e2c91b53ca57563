/- Floats that are whole numbers, and the infinities: plain facts, over whatever program. -/
import Derived.Laws.FloatArith
import Derived.Laws.BitsAllLaws
namespace Go.Proofs.Ytjplabldiheggaa
namespace FL
open Ieee
theorem signed_eq (s : Bool) (m up : Nat) : signed s m up = signed s m 0 * (2 ^ up : Nat) := by
  unfold signed
  cases s <;> simp [Nat.shiftLeft_eq]
  rw [Int.neg_mul]
/-- A datum that is a whole number, with a sign. -/
def RepS (d : Datum) (s : Bool) (n : Int) : Prop := ∃ (m j : Nat), d = .number s m (-(j : Int)) ∧ signed s m 0 = n * (2 ^ j : Nat)
abbrev Rep (d : Datum) (n : Int) : Prop := RepS d (decide (n < 0)) n
theorem scale {s : Bool} {m j k : Nat} {n : Int} (h : signed s m 0 = n * (2 ^ j : Nat)) (hk : j ≤ k) : signed s m (k - j) = n * (2 ^ k : Nat) := by
  rw [signed_eq, h, Int.mul_assoc]
  congr 1
  rw [← Int.natCast_mul, ← Nat.pow_add]
  congr 2; omega
theorem cmp_scale (a b : Int) (k : Nat) (hk : 0 < k) : compare (a * (k : Int)) (b * (k : Int)) = compare a b := by
  have hk' : (0 : Int) < k := by omega
  simp only [compare, compareOfLessAndEq]
  by_cases h1 : a < b
  · rw [if_pos h1, if_pos (Int.mul_lt_mul_of_pos_right h1 hk')]
  · by_cases h2 : a = b
    · subst h2; simp
    · have h3 : b < a := by omega
      have h4 := Int.mul_lt_mul_of_pos_right h3 hk'
      rw [if_neg h1, if_neg h2, if_neg (by omega), if_neg (by omega)]
theorem base_sub (i j : Nat) : (-(i : Int) - min (-(i : Int)) (-(j : Int))).toNat = max i j - i ∧ (-(j : Int) - min (-(i : Int)) (-(j : Int))).toNat = max i j - j := by
  constructor <;> omega
theorem rep_order {d e : Datum} {s t : Bool} {a b : Int} (hd : RepS d s a) (he : RepS e t b) : d.order e = some (compare a b) := by
  obtain ⟨m, i, rfl, h1⟩ := hd
  obtain ⟨n, j, rfl, h2⟩ := he
  simp only [Datum.order]
  rw [(base_sub i j).1, (base_sub i j).2, scale h1 (Nat.le_max_left ..), scale h2 (Nat.le_max_right ..)]
  rw [cmp_scale _ _ _ (Nat.two_pow_pos _)]
theorem rep_sum {d e : Datum} {s t : Bool} {a b : Int} (hd : RepS d s a) (he : RepS e t b) (hst : a + b = 0 → (s && t) = false) : ∃ j : Nat, d.sum e = some (.number (decide (a + b < 0)) ((a + b).natAbs * 2 ^ j) (-(j : Int))) := by
  obtain ⟨m, i, rfl, h1⟩ := hd
  obtain ⟨n, j, rfl, h2⟩ := he
  refine ⟨max i j, ?_⟩
  simp only [Datum.sum]
  rw [(base_sub i j).1, (base_sub i j).2, scale h1 (Nat.le_max_left ..), scale h2 (Nat.le_max_right ..)]
  rw [← Int.add_mul]
  have hp : (0 : Int) < (2 ^ max i j : Nat) := by have := Nat.two_pow_pos (max i j); omega
  generalize hK : 2 ^ max i j = K at *
  have e3 : min (-(i : Int)) (-(j : Int)) = -((max i j : Nat) : Int) := by omega
  rw [e3]
  congr 2
  · by_cases h0 : a + b = 0
    · rw [h0, hst h0]; simp
    · have : (a + b) * (K : Int) ≠ 0 := Int.mul_ne_zero h0 (by omega)
      rw [if_neg this]
      rw [decide_eq_decide]
      constructor
      · intro h
        refine Classical.byContradiction fun hc => ?_
        have : 0 ≤ (a + b) * (K : Int) := Int.mul_nonneg (by omega) (by omega)
        omega
      · intro h
        exact Int.mul_neg_of_neg_of_pos h hp
  · rw [Int.natAbs_mul]; simp
theorem rep_opp {d : Datum} {s : Bool} {a : Int} (hd : RepS d s a) : RepS d.opposite (!s) (-a) := by
  obtain ⟨m, i, rfl, h1⟩ := hd
  refine ⟨m, i, rfl, ?_⟩
  rw [Int.neg_mul, ← h1]
  simp only [signed]
  cases s <;> simp
theorem cut_pow (neg : Bool) (k d : Nat) : Toward.even.cut neg (k * 2 ^ d) d = k := by
  unfold Toward.cut
  by_cases hk : k = 0
  · subst hk
    simp only [Nat.zero_mul, Nat.zero_div, Nat.zero_mod]
    simp
  · have hl : (k * 2 ^ d).log2 = k.log2 + d := by
      rw [Nat.log2_eq_iff (by have := Nat.two_pow_pos d; exact Nat.mul_ne_zero hk (by omega))]
      have h1 := Nat.log2_self_le hk
      have h2 := @Nat.lt_log2_self k
      rw [Nat.pow_add, show k.log2 + d + 1 = (k.log2 + 1) + d from by omega, Nat.pow_add (m := k.log2 + 1)]
      exact ⟨Nat.mul_le_mul_right _ h1, Nat.mul_lt_mul_of_pos_right h2 (Nat.two_pow_pos _)⟩
    rw [hl, show min d (k.log2 + d + 2) = d from by omega, Nat.one_shiftLeft]
    dsimp only
    rw [Nat.mul_div_cancel _ (Nat.two_pow_pos _), Nat.mul_mod_left]
    have := Nat.two_pow_pos d
    simp
theorem cut_zero_pow (neg : Bool) (k d : Nat) : Toward.zero.cut neg (k * 2 ^ d) d = k := by
  unfold Toward.cut
  by_cases hk : k = 0
  · subst hk; simp
  · have hl : (k * 2 ^ d).log2 = k.log2 + d := by
      rw [Nat.log2_eq_iff (by have := Nat.two_pow_pos d; exact Nat.mul_ne_zero hk (by omega))]
      have h1 := Nat.log2_self_le hk
      have h2 := @Nat.lt_log2_self k
      rw [Nat.pow_add, show k.log2 + d + 1 = (k.log2 + 1) + d from by omega, Nat.pow_add (m := k.log2 + 1)]
      exact ⟨Nat.mul_le_mul_right _ h1, Nat.mul_lt_mul_of_pos_right h2 (Nat.two_pow_pos _)⟩
    rw [hl, show min d (k.log2 + d + 2) = d from by omega, Nat.one_shiftLeft]
    dsimp only
    rw [Nat.mul_div_cancel _ (Nat.two_pow_pos _)]
    simp
theorem log_mul (k d : Nat) (hk : k ≠ 0) : (k * 2 ^ d).log2 = k.log2 + d := by
  rw [Nat.log2_eq_iff (by have := Nat.two_pow_pos d; exact Nat.mul_ne_zero hk (by omega))]
  have h1 := Nat.log2_self_le hk
  have h2 := @Nat.lt_log2_self k
  rw [Nat.pow_add, show k.log2 + d + 1 = (k.log2 + 1) + d from by omega, Nat.pow_add (m := k.log2 + 1)]
  exact ⟨Nat.mul_le_mul_right _ h1, Nat.mul_lt_mul_of_pos_right h2 (Nat.two_pow_pos _)⟩
theorem log_lt {k : Nat} (hk : k ≠ 0) (h : k < 2 ^ 52) : k.log2 < 52 := (Nat.log2_lt hk).2 h
/-- The rung of a whole number. -/
def rung (k : Nat) : Nat := (1022 + k.log2) * 2 ^ 52 + k * 2 ^ (52 - k.log2)
theorem rung_bounds {k : Nat} (hk : k ≠ 0) (h : k < 2 ^ 52) : 2 ^ 52 ≤ k * 2 ^ (52 - k.log2) ∧ k * 2 ^ (52 - k.log2) < 2 ^ 53 := by
  have hl := log_lt hk h
  have h1 := Nat.log2_self_le hk
  have h2 := @Nat.lt_log2_self k
  constructor
  · have := Nat.mul_le_mul_right (2 ^ (52 - k.log2)) h1
    rw [← Nat.pow_add, show k.log2 + (52 - k.log2) = 52 from by omega] at this
    exact this
  · have := Nat.mul_lt_mul_of_pos_right h2 (Nat.two_pow_pos (52 - k.log2))
    rw [← Nat.pow_add, show k.log2 + 1 + (52 - k.log2) = 53 from by omega] at this
    exact this
theorem near (neg : Bool) (k j : Nat) (hk : k ≠ 0) (h : k < 2 ^ 52) : double.nearest neg (k * 2 ^ j) (-(j : Int)) = double.word neg (rung k) := by
  have hl := log_lt hk h
  have hb := rung_bounds hk h
  unfold Format.nearest
  rw [if_neg (by have := Nat.two_pow_pos j; exact Nat.mul_ne_zero hk (by omega)), log_mul k j hk]
  have e1 : max (-(j : Int) + ((k.log2 + j : Nat) : Int) - (double.fractionBits : Int)) double.leastPlace = (k.log2 : Int) - 52 := by
    have a1 : (double.fractionBits : Int) = 52 := rfl
    have a2 : double.leastPlace = -1074 := by decide
    rw [a1, a2]; omega
  simp only [e1]
  have e2 : Toward.even.cut neg ((k * 2 ^ j) <<< (-(j : Int) - ((k.log2 : Int) - 52)).toNat) (((k.log2 : Int) - 52) - -(j : Int)).toNat = k * 2 ^ (52 - k.log2) := by
    by_cases hj : j ≤ 52 - k.log2
    · rw [show (((k.log2 : Int) - 52) - -(j : Int)).toNat = 0 from by omega, show (-(j : Int) - ((k.log2 : Int) - 52)).toNat = 52 - k.log2 - j from by omega, Nat.shiftLeft_eq, Nat.mul_assoc, ← Nat.pow_add, show j + (52 - k.log2 - j) = 52 - k.log2 from by omega]
      have := cut_pow neg (k * 2 ^ (52 - k.log2)) 0
      simpa using this
    · rw [show (((k.log2 : Int) - 52) - -(j : Int)).toNat = j - (52 - k.log2) from by omega, show (-(j : Int) - ((k.log2 : Int) - 52)).toNat = 0 from by omega, Nat.shiftLeft_zero]
      have := cut_pow neg (k * 2 ^ (52 - k.log2)) (j - (52 - k.log2))
      rw [Nat.mul_assoc, ← Nat.pow_add, show 52 - k.log2 + (j - (52 - k.log2)) = j from by omega] at this
      exact this
  rw [e2]
  have e3 : ((k.log2 : Int) - 52 - double.leastPlace).toNat = 1022 + k.log2 := by
    have a2 : double.leastPlace = -1074 := by decide
    rw [a2]; omega
  rw [e3]
  have e4 : double.infRung = 2047 * 2 ^ 52 := by decide
  have e5 : double.binade = 2 ^ 52 := rfl
  rw [e4, e5]
  congr 1
  unfold rung
  rw [Nat.min_eq_left]
  have h1 : (1022 + k.log2) * 2 ^ 52 ≤ 1073 * 2 ^ 52 := Nat.mul_le_mul_right _ (by omega)
  exact Nat.le_trans (Nat.add_le_add h1 (Nat.le_of_lt hb.2)) (by decide)
theorem near_zero (neg : Bool) (p : Int) : double.nearest neg 0 p = double.word neg 0 := by unfold Format.nearest; simp
theorem sw : double.signWeight = 2 ^ 63 := by decide
theorem read_word (neg : Bool) (k : Nat) (hk : k ≠ 0) (h : k < 2 ^ 52) : double.read (double.word neg (rung k)) = .number neg (k * 2 ^ (52 - k.log2)) (-((52 - k.log2 : Nat) : Int)) := by
  have hl := log_lt hk h
  have hb := rung_bounds hk h
  have e4 : double.infRung = 2047 * 2 ^ 52 := by decide
  have e5 : double.binade = 2 ^ 52 := rfl
  have hlow : 1022 * 2 ^ 52 ≤ (1022 + k.log2) * 2 ^ 52 := Nat.mul_le_mul_right _ (by omega)
  have hup : (1022 + k.log2) * 2 ^ 52 ≤ 1073 * 2 ^ 52 := Nat.mul_le_mul_right _ (by omega)
  obtain ⟨r, hr⟩ : ∃ r, k * 2 ^ (52 - k.log2) = 2 ^ 52 + r := ⟨_, (Nat.add_sub_cancel' hb.1).symm⟩
  have hrl : r < 2 ^ 52 := by omega
  have hR : rung k = (1023 + k.log2) * 2 ^ 52 + r := by unfold rung; rw [hr]; omega
  have hlt : rung k < 2 ^ 63 := by rw [hR]; omega
  have hdiv : rung k / 2 ^ 52 = 1023 + k.log2 := by rw [hR, Nat.add_comm, Nat.add_mul_div_right _ _ (by decide), Nat.div_eq_of_lt hrl, Nat.zero_add]
  have hmod : rung k % 2 ^ 52 = r := by rw [hR, Nat.add_comm, Nat.add_mul_mod_self_right, Nat.mod_eq_of_lt hrl]
  have w1 : (double.word neg (rung k) / double.signWeight % 2 == 1) = neg := by
    rw [sw]; unfold Format.word; rw [sw]
    cases neg
    · simp only [Bool.false_eq_true, if_false]; rw [Nat.div_eq_of_lt hlt]; rfl
    · simp only [if_true]; rw [Nat.add_comm, Nat.add_div_right _ (by decide), Nat.div_eq_of_lt hlt]; rfl
  have w2 : double.word neg (rung k) % double.signWeight = rung k := by
    rw [sw]; unfold Format.word; rw [sw]
    cases neg
    · simp only [Bool.false_eq_true, if_false]; exact Nat.mod_eq_of_lt hlt
    · simp only [if_true]; rw [Nat.add_mod_left, Nat.mod_eq_of_lt hlt]
  unfold Format.read
  simp only [w1, w2, e4, e5]
  rw [if_neg (by rw [hR]; omega), if_pos (by rw [hR]; omega), hdiv, hmod, hr]
  congr 1
  have a2 : double.leastPlace = -1074 := by decide
  rw [a2]; omega
theorem read_zero (neg : Bool) : double.read (double.word neg 0) = .number neg 0 (-1074) := by cases neg <;> decide
/-- The bits of a whole number. -/
abbrev bits (n : Int) : Nat := floatOfInt .f64 n
theorem bits_is (n : Int) : bits n = double.nearest (decide (n < 0)) n.natAbs 0 := rfl
theorem rep_bits (n : Int) (h : n.natAbs < 2 ^ 52) : Rep (double.read (bits n)) n := by
  rw [bits_is]
  by_cases h0 : n = 0
  · subst h0
    refine ⟨0, 1074, ?_, ?_⟩
    · show double.read (double.nearest (decide ((0 : Int) < 0)) 0 0) = _
      rw [near_zero, read_zero]; rfl
    · rw [Int.zero_mul]; rfl
  · have hk : n.natAbs ≠ 0 := by omega
    have := near (decide (n < 0)) n.natAbs 0 hk h
    simp only [Nat.pow_zero, Nat.mul_one] at this
    rw [show (-((0 : Nat) : Int)) = 0 from rfl] at this
    rw [this, read_word _ _ hk h]
    refine ⟨_, _, rfl, ?_⟩
    rw [signed]
    by_cases hn : n < 0
    · simp only [hn, decide_true, if_true, Nat.shiftLeft_zero, Int.natCast_mul]
      rw [← Int.neg_mul]; congr 1; omega
    · simp only [hn, decide_false, Bool.false_eq_true, if_false, Nat.shiftLeft_zero, Int.natCast_mul]
      congr 1; omega
theorem write_bits (n : Int) (j : Nat) (h : n.natAbs < 2 ^ 52) : double.write (.number (decide (n < 0)) (n.natAbs * 2 ^ j) (-(j : Int))) = bits n := by
  rw [bits_is]
  show double.nearest _ _ _ = _
  by_cases h0 : n = 0
  · subst h0; simp [near_zero]
  · have hk : n.natAbs ≠ 0 := by omega
    rw [near _ _ _ hk h]
    have := near (decide (n < 0)) n.natAbs 0 hk h
    simp only [Nat.pow_zero, Nat.mul_one] at this
    rw [show (-((0 : Nat) : Int)) = 0 from rfl] at this
    exact this.symm
theorem add_bits (a b : Int) (ha : a.natAbs < 2 ^ 51) (hb : b.natAbs < 2 ^ 51) : floatBits .add .f64 (bits a) (bits b) = some (bits (a + b)) := by
  show ((double.read (bits a)).sum (double.read (bits b))).map double.write = _
  obtain ⟨j, e⟩ := rep_sum (rep_bits a (by omega)) (rep_bits b (by omega)) (fun h => by simp; omega)
  rw [e, Option.map_some, write_bits _ _ (by omega)]
theorem sub_bits (a b : Int) (ha : a.natAbs < 2 ^ 51) (hb : b.natAbs < 2 ^ 51) : floatBits .sub .f64 (bits a) (bits b) = some (bits (a - b)) := by
  show ((double.read (bits a)).sum (double.read (bits b)).opposite).map double.write = _
  obtain ⟨j, e⟩ := rep_sum (rep_bits a (by omega)) (rep_opp (rep_bits b (by omega))) (fun h => by simp; omega)
  rw [e, Option.map_some, ← Int.sub_eq_add_neg, write_bits _ _ (by omega)]
theorem toInt_bits (a : Int) (ha : a.natAbs < 2 ^ 51) : (FloatKind.f64.decode (bits a)).toInt .zero = some a := by
  show (double.read (bits a)).toInt .zero = _
  obtain ⟨m, j, e, h1⟩ := rep_bits a (by omega)
  rw [e]
  have hm : m = a.natAbs * 2 ^ j := by
    have := congrArg Int.natAbs h1
    rw [Int.natAbs_mul, Int.natAbs_natCast] at this
    rw [← this]
    simp only [signed]
    split <;> simp
  simp only [Datum.toInt, Datum.integral]
  rw [show (-(j : Int)).toNat = 0 from by omega, show (- -(j : Int)).toNat = j from by omega, Nat.shiftLeft_zero, hm, cut_zero_pow]
  simp only [signed, Nat.shiftLeft_zero]
  by_cases hn : a < 0
  · simp [hn]; omega
  · simp [hn]; omega
theorem int_bits (a : Int) (ha : a.natAbs < 2 ^ 51) : floatToIntVal .f64 (bits a) .i64 = some a := by
  have h := toInt_bits a ha
  unfold floatToIntVal
  rw [h]
  dsimp only
  have h2 : IntKind.i64.min ≤ a ∧ a ≤ IntKind.i64.max := by
    have e1 : IntKind.i64.min = -9223372036854775808 := by decide
    have e2 : IntKind.i64.max = 9223372036854775807 := by decide
    rw [e1, e2]; omega
  rw [if_pos h2]
/-- A time: a whole number, never, or long ago. -/
inductive Mo where
  | fin (n : Int)
  | inf
  | ago
  deriving DecidableEq
def Mo.b : Mo → Nat
  | .fin n => bits n
  | .inf => 0x7FF0000000000000
  | .ago => 0xFFF0000000000000
abbrev Mo.v (m : Mo) : Value := .float .f64 m.b
def Mo.ok : Mo → Prop
  | .fin n => n.natAbs < 2 ^ 51
  | _ => True
def Mo.cmp : Mo → Mo → Ordering
  | .fin a, .fin b => compare a b
  | .fin _, .inf => .lt
  | .fin _, .ago => .gt
  | .inf, .inf => .eq
  | .inf, _ => .gt
  | .ago, .ago => .eq
  | .ago, _ => .lt
theorem read_inf : double.read 0x7FF0000000000000 = .infinity false := by decide
theorem read_ago : double.read 0xFFF0000000000000 = .infinity true := by decide
theorem order_is (x y : Mo) (hx : x.ok) (hy : y.ok) : FloatKind.f64.format.order x.b y.b = some (x.cmp y) := by
  show (double.read x.b).order (double.read y.b) = _
  cases x with
  | fin a =>
    have ra := rep_bits a (by simp only [Mo.ok] at hx; omega)
    cases y with
    | fin b => exact rep_order ra (rep_bits b (by simp only [Mo.ok] at hy; omega))
    | inf =>
      obtain ⟨m, i, e, _⟩ := ra
      show (double.read (bits a)).order (double.read 0x7FF0000000000000) = _
      rw [e, read_inf]; rfl
    | ago =>
      obtain ⟨m, i, e, _⟩ := ra
      show (double.read (bits a)).order (double.read 0xFFF0000000000000) = _
      rw [e, read_ago]; rfl
  | inf =>
    cases y with
    | fin b =>
      obtain ⟨m, i, e, _⟩ := rep_bits b (by simp only [Mo.ok] at hy; omega)
      show (double.read 0x7FF0000000000000).order (double.read (bits b)) = _
      rw [e, read_inf]; rfl
    | inf => decide
    | ago => decide
  | ago =>
    cases y with
    | fin b =>
      obtain ⟨m, i, e, _⟩ := rep_bits b (by simp only [Mo.ok] at hy; omega)
      show (double.read 0xFFF0000000000000).order (double.read (bits b)) = _
      rw [e, read_ago]; rfl
    | inf => decide
    | ago => decide
def Mo.maxM (a b : Mo) : Mo := if a.cmp b = .lt then b else a
def Mo.minM (a b : Mo) : Mo := if a.cmp b = .gt then b else a
theorem cmp_eq {a b : Mo} (h : a.cmp b = .eq) : a = b := by
  cases a <;> cases b <;> simp only [Mo.cmp] at h <;> first | rfl | (cases h; done) | skip
  rename_i m n
  have : m = n := by
    simp only [compare, compareOfLessAndEq] at h
    split at h
    · cases h
    · split at h
      · assumption
      · cases h
  rw [this]
theorem max_run {P : Program} (ts : Array TypeId) (t : TypeId) (w : World) (a b : Mo) (ha : a.ok) (hb : b.ok) : (Builtin.max_ ts t #[.float .f64 a.b, .float .f64 b.b]).run P w = .ok (.float .f64 (a.maxM b).b) w := by
  have h := order_is a b ha hb
  simp only [Builtin.max_, List.foldlM, Builtin.max2, h, Mo.maxM]
  cases hc : a.cmp b with
  | lt => simp
  | gt => simp
  | eq =>
    obtain rfl := cmp_eq hc
    simp
theorem min_run {P : Program} (ts : Array TypeId) (t : TypeId) (w : World) (a b : Mo) (ha : a.ok) (hb : b.ok) : (Builtin.min_ ts t #[.float .f64 a.b, .float .f64 b.b]).run P w = .ok (.float .f64 (a.minM b).b) w := by
  have h := order_is a b ha hb
  simp only [Builtin.min_, List.foldlM, Builtin.min2, h, Mo.minM]
  cases hc : a.cmp b with
  | lt => simp
  | gt => simp
  | eq =>
    obtain rfl := cmp_eq hc
    simp
theorem add_run {P : Program} (t : TypeId) (w : World) (a b : Int) (ha : a.natAbs < 2 ^ 51) (hb : b.natAbs < 2 ^ 51) : (binOp .add t (.float .f64 (bits a)) (.float .f64 (bits b))).run P w = .ok (.float .f64 (bits (a + b))) w :=
  run_float_arith w .add t .f64 _ _ _ (add_bits a b ha hb)
theorem sub_run {P : Program} (t : TypeId) (w : World) (a b : Int) (ha : a.natAbs < 2 ^ 51) (hb : b.natAbs < 2 ^ 51) : (binOp .sub t (.float .f64 (bits a)) (.float .f64 (bits b))).run P w = .ok (.float .f64 (bits (a - b))) w :=
  run_float_arith w .sub t .f64 _ _ _ (sub_bits a b ha hb)
theorem sub_ago {P : Program} (t : TypeId) (w : World) (b : Int) (hb : b.natAbs < 2 ^ 51) : (binOp .sub t (.float .f64 Mo.ago.b) (.float .f64 (bits b))).run P w = .ok (.float .f64 Mo.ago.b) w := by
  refine run_float_arith w .sub t .f64 _ _ _ ?_
  show ((double.read 0xFFF0000000000000).sum (double.read (bits b)).opposite).map double.write = _
  obtain ⟨m, i, e, _⟩ := rep_bits b (by omega)
  rw [e, read_ago]
  rfl
/-- The bits of a whole number that is not negative have no sign. -/
theorem bits_lt (n : Int) (h0 : 0 ≤ n) (h : n.natAbs < 2 ^ 52) : bits n < 9223372036854775808 := by
  rw [bits_is]
  have e : decide (n < 0) = false := by simp; omega
  rw [e]
  by_cases hn : n = 0
  · subst hn; decide
  · have hk : n.natAbs ≠ 0 := by omega
    have := near false n.natAbs 0 hk h
    simp only [Nat.pow_zero, Nat.mul_one] at this
    rw [show (-((0 : Nat) : Int)) = 0 from rfl] at this
    rw [this]
    show rung n.natAbs < _
    have hl := log_lt hk h
    have hb := rung_bounds hk h
    unfold rung
    have h1 : (1022 + n.natAbs.log2) * 2 ^ 52 ≤ 1073 * 2 ^ 52 := Nat.mul_le_mul_right _ (by omega)
    exact Nat.lt_of_le_of_lt (Nat.add_le_add h1 (Nat.le_of_lt hb.2)) (by decide)
theorem cmp_cases (a b : Int) : (a < b ∧ compare a b = .lt) ∨ (a = b ∧ compare a b = .eq) ∨ (b < a ∧ compare a b = .gt) := by
  simp only [compare, compareOfLessAndEq]
  by_cases h1 : a < b
  · exact .inl ⟨h1, if_pos h1⟩
  · by_cases h2 : a = b
    · exact .inr (.inl ⟨h2, by rw [if_neg h1, if_pos h2]⟩)
    · exact .inr (.inr ⟨by omega, by rw [if_neg h1, if_neg h2]⟩)
theorem cmp_lt {a b : Int} (h : a < b) : (Mo.fin a).cmp (.fin b) = .lt := by
  show compare a b = _
  rcases cmp_cases a b with ⟨_, e⟩ | ⟨h1, e⟩ | ⟨h1, e⟩
  · exact e
  · omega
  · omega
theorem cmp_gt {a b : Int} (h : b < a) : (Mo.fin a).cmp (.fin b) = .gt := by
  show compare a b = _
  rcases cmp_cases a b with ⟨h1, e⟩ | ⟨h1, e⟩ | ⟨h1, e⟩
  · omega
  · omega
  · exact e
theorem cmp_same (a : Int) : (Mo.fin a).cmp (.fin a) = .eq := by
  show compare a a = _
  rcases cmp_cases a a with ⟨h1, e⟩ | ⟨h1, e⟩ | ⟨h1, e⟩
  · omega
  · exact e
  · omega
theorem max_fin (a b : Int) : (Mo.fin a).maxM (.fin b) = .fin (max a b) := by
  unfold Mo.maxM
  by_cases h : a < b
  · rw [if_pos (cmp_lt h)]; congr 1; omega
  · rw [if_neg]
    · congr 1; omega
    · by_cases e : a = b
      · subst e; rw [cmp_same]; simp
      · rw [cmp_gt (by omega)]; simp
theorem min_fin (a b : Int) : (Mo.fin a).minM (.fin b) = .fin (min a b) := by
  unfold Mo.minM
  by_cases h : b < a
  · rw [if_pos (cmp_gt h)]; congr 1; omega
  · rw [if_neg]
    · congr 1; omega
    · by_cases e : a = b
      · subst e; rw [cmp_same]; simp
      · rw [cmp_lt (by omega)]; simp
theorem read_most : double.read 0x7FEFFFFFFFFFFFFF = .number false 9007199254740991 971 := by decide
def up971 (e : Nat) : Nat := 2 ^ e
theorem up_add (e j : Nat) : 2 ^ (e + j) = up971 e * 2 ^ j := by unfold up971; rw [Nat.pow_add]
theorem up_pos (e : Nat) : 0 < up971 e := Nat.two_pow_pos _
theorem most_fin (n : Int) (h : n.natAbs < 2 ^ 51) : FloatKind.f64.format.order (bits n) 9218868437227405311 = some .lt := by
  show (double.read (bits n)).order (double.read 0x7FEFFFFFFFFFFFFF) = _
  obtain ⟨m, j, e, h1⟩ := rep_bits n (by omega)
  rw [e, read_most]
  simp only [Datum.order]
  have e1 : min (-(j : Int)) 971 = -(j : Int) := by omega
  rw [e1, show (-(j : Int) - -(j : Int)).toNat = 0 from by omega, show ((971 : Int) - -(j : Int)).toNat = 971 + j from by omega, h1]
  have e2 : signed false 9007199254740991 (971 + j) = ((9007199254740991 * up971 971 : Nat) : Int) * ((2 ^ j : Nat) : Int) := by
    simp only [signed, Bool.false_eq_true, if_false, Nat.shiftLeft_eq]
    rw [← Int.natCast_mul, Nat.mul_assoc, up_add]
  rw [e2, cmp_scale _ _ _ (Nat.two_pow_pos _)]
  have h0 : 0 < up971 971 := up_pos _
  generalize up971 971 = K at *
  have h2 : (2 ^ 51 : Nat) ≤ 9007199254740991 * K := by omega
  simp only [compare, compareOfLessAndEq]
  rw [if_pos (by omega)]
theorem and_not (b : Nat) (h : b < 18446744073709551616) : Go.bits .andNot .u64 (b : Int) 9223372036854775808 = ((b % 9223372036854775808 : Nat) : Int) := by
  have := u64_andNot_nat b 9223372036854775808 h (by decide)
  rw [show (9223372036854775808 : Int) = ((9223372036854775808 : Nat) : Int) from rfl, this]
  congr 1
  exact Nat.and_two_pow_sub_one_eq_mod b 63
end FL
end Go.Proofs.Ytjplabldiheggaa
