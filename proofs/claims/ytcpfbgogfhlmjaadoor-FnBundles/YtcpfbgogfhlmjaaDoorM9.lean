/- More on rows of bytes that the call owns, and on the bytes of a number, the highest first: plain facts, no program is named here. -/
import Derived.Test.YtcpfbgogfhlmjaaDoorM8
import Derived.Below
import Derived.WalkKit
namespace Go.Proofs.YtcpfbgogfhlmjaaDoor
namespace M9
open Go.RowKit
theorem newN (W : World) (cs : List Value) (e : TypeId) : ∀ (j : Nat) (u : Value), cs[j]? = some u → (W.alloc (.cells cs.toArray e)).cell? ((⟨W.heap.size, 0, none⟩ : Addr).add j) = some u := by
  intro j u hj
  have hadd : (⟨W.heap.size, 0, none⟩ : Addr).add j = ⟨W.heap.size, j, none⟩ := by unfold Addr.add; split <;> simp_all
  rw [hadd, World.cell?_alloc_at _ _ _ _ (by rfl)]
  simpa using hj
theorem oneN (zs : List Int) (k : IntKind) : ∀ u : Value, u ∈ zs.map (Value.int k) → u.oneCell' = true := by
  intro u hu; simp at hu; obtain ⟨z, _, rfl⟩ := hu; rfl
/-- What more bytes do to a row that the call owns. -/
theorem grow {e base : Nat} {w wr w1 : World} {u v' : Value} {o : Obj} {bs l : List UInt8} {vs : List Value} {m : Nat} (hvs : vs = M2.bv l) (hm : m = l.length) (hown : wr.ownsRow base e 1 u bs.length (M2.bv bs)) (hb : Below base w wr) (hB : base ≤ wr.heap.size)
    (hown1 : w1.ownsRow base e 1 v' (bs.length + m) (M2.bv bs ++ vs)) (hgrow : (wr.alloc o).grownBy w1 u.ownBlock) :
    w1.ownsRow base e 1 v' (bs ++ l).length (M2.bv (bs ++ l)) ∧ Below base w w1 := by
  refine ⟨?_, (hb.alloc hB o).grown hgrow (by simp; omega) (fun j hj => (hown.lt j hj).1)⟩
  subst hvs hm
  have e1 : M2.bv bs ++ M2.bv l = M2.bv (bs ++ l) := by simp [M2.bv]
  rw [e1] at hown1; simpa using hown1
/-- The k lowest bytes of a number, the highest first. -/
def low (n : Nat) : Nat → List UInt8
  | 0 => []
  | k + 1 => UInt8.ofNat (n / 256 ^ k) :: low n k
theorem low_len (n k : Nat) : (low n k).length = k := by induction k with | zero => rfl | succ k ih => simp [low, ih]
def part (n many j : Nat) : List UInt8 := List.replicate (many - j) 0 ++ low n j
theorem part_len (n many j : Nat) (h : j ≤ many) : (part n many j).length = many := by simp [part, low_len]; omega
theorem part_zero (n many : Nat) : part n many 0 = List.replicate many 0 := by simp [part, low]
theorem part_all (n many : Nat) : part n many many = low n many := by simp [part]
theorem part_set (n many j : Nat) (h : j < many) : (part n many j).set (many - 1 - j) (UInt8.ofNat (n / 256 ^ j)) = part n many (j + 1) := by
  have e : many - j = (many - 1 - j) + 1 := by omega
  have e2 : many - (j + 1) = many - 1 - j := by omega
  unfold part
  rw [e, e2, List.replicate_succ', List.append_assoc, List.set_append]
  simp [low]
theorem made_bv (n : Nat) : (madeCells #[Value.int .u8 0] n).toList = M2.bv (List.replicate n 0) := by
  rw [toList_madeCells_one]; simp [M2.bv]
theorem bv_set (l : List UInt8) (k q : Nat) : (M2.bv l).set k (.int .u8 ((q % 256 : Nat) : Int)) = M2.bv (l.set k (UInt8.ofNat q)) := by
  simp [M2.bv, List.map_set]
theorem bv_some (l : List UInt8) (k : Nat) (h : k < l.length) : ∃ z : Int, (M2.bv l)[k]? = some (.int .u8 z) := ⟨_, M2.bv_get l k h⟩
theorem div_next (n j : Nat) : n / 256 ^ j / 256 = n / 256 ^ (j + 1) := by rw [Nat.div_div_eq_div_mul, Nat.pow_succ]
theorem str_app (a b : List UInt8) : (⟨a.toArray⟩ : ByteArray) ++ ⟨b.toArray⟩ = ⟨(a ++ b).toArray⟩ := by
  apply ByteArray.ext; simp
/-- A head in the specification's words. -/
theorem hb1 (m n : Nat) (h : n < 24) : low (32 * m + n) 1 = M7.hb m n := by simp [low, M7.hb, h]
theorem hb2 (m n : Nat) (h1 : ¬ n < 24) (h : n < 256) : low (32 * m + 24) 1 ++ low n 1 = M7.hb m n := by simp [low, M7.hb, h, h1]
theorem hb3 (m n : Nat) (h1 : ¬ n < 24) (h2 : ¬ n < 256) (h : n < 65536) : low (32 * m + 25) 1 ++ low n 2 = M7.hb m n := by simp [low, M7.hb, h, h1, h2]
theorem hb4 (m n : Nat) (h1 : ¬ n < 24) (h2 : ¬ n < 256) (h : ¬ n < 65536) : low (32 * m + 26) 1 ++ low n 4 = M7.hb m n := by simp [low, M7.hb, h, h1, h2]
theorem ret_str {s t : ByteArray} (h : s = t) : Ending.returned (.string s) = .returned (.string t) := by rw [h]
end M9
end Go.Proofs.YtcpfbgogfhlmjaaDoor
