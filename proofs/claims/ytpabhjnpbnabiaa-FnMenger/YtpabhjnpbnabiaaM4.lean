import Derived.Test.YtpabhjnpbnabiaaM1
import Derived.WalkKit
import Derived.Laws.BytesArg
import Derived.Laws.OwnMore
/- Facts on the model's operations that chapter 1's walks meet, over whatever program. -/
namespace Go.Proofs.Ytpabhjnpbnabiaa
namespace M2
open Go.RowKit
/-- 'string([]byte{x})': the one byte that was just laid. -/
theorem conv1 {P : Program} (src dst e : TypeId) (hs : P.underlying src = some (.slice e)) (he : P.underlying e = some (.int .u8)) (hd : P.underlying dst = some .string) (W : World) (z : Int) :
    (convert src dst (.slice (some ⟨W.heap.size, 0, none⟩) 1 1)).run P (W.alloc (.cells #[.int .u8 z] e)) = .ok (.string ⟨#[UInt8.ofNat z.toNat]⟩) (W.alloc (.cells #[.int .u8 z] e)) := by
  have := run_convert_bytes_arg (P := P) (W.alloc (.cells #[.int .u8 z] e)) src e hs he W.heap.size 0 1 1 [z] rfl (fun i hi => by
    obtain rfl : i = 0 := by omega
    rw [World.cell?_alloc_at _ _ _ _ (by rfl)]; rfl) dst hd
  exact this
/-- 'string([]byte{x, y})'. -/
theorem conv2 {P : Program} (src dst e : TypeId) (hs : P.underlying src = some (.slice e)) (he : P.underlying e = some (.int .u8)) (hd : P.underlying dst = some .string) (W : World) (x y : Int) :
    (convert src dst (.slice (some ⟨W.heap.size, 0, none⟩) 2 2)).run P (W.alloc (.cells #[.int .u8 x, .int .u8 y] e)) = .ok (.string ⟨#[UInt8.ofNat x.toNat, UInt8.ofNat y.toNat]⟩) (W.alloc (.cells #[.int .u8 x, .int .u8 y] e)) := by
  have := run_convert_bytes_arg (P := P) (W.alloc (.cells #[.int .u8 x, .int .u8 y] e)) src e hs he W.heap.size 0 2 2 [x, y] rfl (fun i hi => by
    have hi' : i = 0 ∨ i = 1 := by omega
    rcases hi' with rfl | rfl <;> (rw [World.cell?_alloc_at _ _ _ _ (by rfl)]; rfl)) dst hd
  exact this
/-- Bytes as cells. -/
def bv (l : List UInt8) : List Value := l.map fun b => .int .u8 b.toNat
theorem bv_snoc (l : List UInt8) (q : Nat) (h : q < 256) : bv l ++ [.int .u8 (q : Int)] = bv (l ++ [UInt8.ofNat q]) := by
  simp [bv]; omega
/-- What one byte more does to a row that the call owns. -/
theorem grow1 {e base q : Nat} {w wr w1 : World} {u v' : Value} {o : Obj} {bs : List UInt8} (hq : q < 256) (hown : wr.ownsRow base e 1 u bs.length (bv bs)) (hb : Below base w wr) (hB : base ≤ wr.heap.size)
    (hown1 : w1.ownsRow base e 1 v' (bs.length + 1) (bv bs ++ [.int .u8 (q : Int)])) (hgrow : (wr.alloc o).grownBy w1 u.ownBlock) :
    w1.ownsRow base e 1 v' (bs ++ [UInt8.ofNat q]).length (bv (bs ++ [UInt8.ofNat q])) ∧ Below base w w1 := by
  refine ⟨?_, (hb.alloc hB o).grown hgrow (by simp; omega) (fun j hj => (hown.lt j hj).1)⟩
  rw [bv_snoc bs q hq] at hown1
  simpa using hown1
/-- The one cell that was just laid, as an append's law asks for it. -/
theorem new1 (W : World) (x : Value) (e : TypeId) : ∀ (j : Nat) (u : Value), [x][j]? = some u → (W.alloc (.cells #[x] e)).cell? ((⟨W.heap.size, 0, none⟩ : Addr).add j) = some u := by
  intro j u hj
  match j, hj with
  | 0, hj => simp at hj; subst hj; simp [Addr.add]
theorem one1 (k : IntKind) (z : Int) : ∀ u : Value, u ∈ [Value.int k z] → u.oneCell' = true := by
  intro u hu; simp at hu; subst hu; rfl
theorem bv_get (bs : List UInt8) (i : Nat) (h : i < bs.length) : (bv bs)[i]? = some (.int .u8 ((bs.map fun b => (b.toNat : Int)).getD i 0)) := by
  simp [bv, List.getElem?_eq_getElem h]
/-- 'string(b)' of a row of bytes that the call owns. -/
theorem conv_own {P : Program} (src dst e : TypeId) (hs : P.underlying src = some (.slice e)) (he : P.underlying e = some (.int .u8)) (hd : P.underlying dst = some .string)
    {W : World} {base : Nat} {v : Value} {bs : List UInt8} (hown : W.ownsRow base e 1 v bs.length (bv bs)) :
    (convert src dst v).run P W = .ok (.string ⟨bs.toArray⟩) W := by
  rcases hown.2 with ⟨rfl, h0⟩ | ⟨g, cap, cur, rfl, hb, hg, hc1, hc2, hc3, hc4⟩
  · obtain rfl : bs = [] := List.eq_nil_of_length_eq_zero h0
    exact run_convert_bytes_nil (P := P) W src e hs he 0 0 dst hd
  · have := run_convert_bytes_arg (P := P) W src e hs he g 0 bs.length cap (bs.map fun b => (b.toNat : Int)) (by simp) (fun i hi => by
      have h := hown.cells (g := g) rfl i _ (bv_get bs i hi)
      have hadd : (⟨g, 0, none⟩ : Addr).add i = ⟨g, i, none⟩ := by unfold Addr.add; split <;> simp_all
      rw [hadd] at h; rw [Nat.zero_add]; exact h) dst hd
    rw [this]
    congr 2
    apply ByteArray.ext
    have h : (bs.map fun b => (b.toNat : Int)).map (fun n => UInt8.ofNat n.toNat) = bs := by
      rw [List.map_map]; exact (List.map_congr_left (fun b _ => by simp)).trans (List.map_id bs)
    show ((bs.map fun b => (b.toNat : Int)).map (fun n => UInt8.ofNat n.toNat)).toArray = _
    rw [h]
end M2
end Go.Proofs.Ytpabhjnpbnabiaa

/- Facts on rows of numbers in memory, over whatever program: a slice of numbers that is read, and a copy of one that is being filled. -/
namespace Go.Proofs.Ytpabhjnpbnabiaa
namespace M4
open Go.RowKit
/-- The numbers zs lie at a slice's address (nothing is said of an empty slice's). -/
def IntsAt (w : World) (a : Option Addr) (zs : List Int) : Prop := zs = [] ∨ ∃ b off, a = some ⟨b, off, none⟩ ∧ b < w.heap.size ∧ ∀ j, j < zs.length → w.cell? ⟨b, off + j, none⟩ = some (.int .i64 (zs.getD j 0))
theorem IntsAt.below {w w' : World} {a : Option Addr} {zs : List Int} (h : IntsAt w a zs) (hb : Below w.heap.size w w') : IntsAt w' a zs := by
  rcases h with rfl | ⟨b, off, rfl, hlt, hc⟩
  · exact .inl rfl
  · exact .inr ⟨b, off, rfl, Nat.lt_of_lt_of_le hlt hb.size, fun j hj => (hb.cell (p := ⟨b, off + j, none⟩) hlt).trans (hc j hj)⟩
theorem IntsAt.at {w : World} {a : Option Addr} {zs : List Int} (h : IntsAt w a zs) {k : Nat} (hk : k < zs.length) : ∃ b off, a = some ⟨b, off, none⟩ ∧ b < w.heap.size ∧ w.cell? ⟨b, off + k, none⟩ = some (.int .i64 (zs.getD k 0)) := by
  rcases h with rfl | ⟨b, off, rfl, hlt, hc⟩
  · simp at hk
  · exact ⟨b, off, rfl, hlt, hc k hk⟩
def iv (l : List Int) : List Value := l.map (Value.int .i64)
/-- A row of numbers that the call owns. -/
theorem IntsAt.of_own {w : World} {base e g n cap : Nat} {zs : List Int} (h : w.ownsRow base e 1 (.slice (some ⟨g, 0, none⟩) n cap) n (iv zs)) : IntsAt w (some ⟨g, 0, none⟩) zs := by
  have hlen : zs.length = n := by have := h.1; simpa [iv] using this
  refine .inr ⟨g, 0, rfl, (h.lt g rfl).2, fun j hj => ?_⟩
  rw [Nat.zero_add, h.cellAt j (by omega)]
  simp [iv, List.getElem?_eq_getElem hj]
/-- The first k of zs, then noughts. -/
def mix (zs : List Int) (k : Nat) : List Int := zs.take k ++ List.replicate (zs.length - k) 0
theorem mix_zero (zs : List Int) : mix zs 0 = List.replicate zs.length 0 := by simp [mix]
theorem mix_all (zs : List Int) : mix zs zs.length = zs := by simp [mix]
theorem mix_len (zs : List Int) (k : Nat) (h : k ≤ zs.length) : (mix zs k).length = zs.length := by simp [mix]; omega
theorem mix_get (zs : List Int) (k : Nat) (h : k < zs.length) : (mix zs k)[k]? = some 0 := by
  unfold mix
  have e : k = (zs.take k).length := by simp; omega
  rw [List.getElem?_append_right (by omega)]
  rw [← e, Nat.sub_self]
  have : zs.length - k = (zs.length - k - 1) + 1 := by omega
  rw [this, List.replicate_succ]; rfl
theorem mix_set (zs : List Int) (k : Nat) (h : k < zs.length) : (mix zs k).set k (zs.getD k 0) = mix zs (k + 1) := by
  apply List.ext_getElem?
  intro j
  unfold mix
  rw [List.getElem?_set]
  by_cases hj : k = j
  · subst hj
    have hl : k < (zs.take k ++ List.replicate (zs.length - k) 0).length := by simp; omega
    rw [if_pos rfl, if_pos hl, List.getElem?_append_left (by simp; omega), List.getElem?_take, if_pos (by omega), List.getElem?_eq_getElem h, List.getD_eq_getElem?_getD, List.getElem?_eq_getElem h]; rfl
  · rw [if_neg hj]
    by_cases hjk : j < k
    · rw [List.getElem?_append_left (by simp; omega), List.getElem?_append_left (by simp; omega), List.getElem?_take, List.getElem?_take, if_pos hjk, if_pos (by omega)]
    · rw [List.getElem?_append_right (by simp; omega), List.getElem?_append_right (by simp; omega)]
      simp only [List.getElem?_replicate, List.length_take]
      by_cases hl : j < zs.length
      · rw [if_pos (by omega), if_pos (by omega)]
      · rw [if_neg (by omega), if_neg (by omega)]
theorem iv_set (l : List Int) (k : Nat) (z : Int) : (iv l).set k (.int .i64 z) = iv (l.set k z) := by simp [iv, List.map_set]
theorem iv_get (l : List Int) (k : Nat) (z : Int) (h : l[k]? = some z) : (iv l)[k]? = some (.int .i64 z) := by simp [iv, h]
theorem made_iv (n : Nat) : (madeCells #[Value.int .i64 0] n).toList = iv (List.replicate n 0) := by
  rw [toList_madeCells_one]; simp [iv]
theorem take_snoc (xs : List Int) (k : Nat) (h : k < xs.length) : xs.take (k + 1) = xs.take k ++ [xs.getD k 0] := by
  rw [List.take_succ_eq_append_getElem h]; simp [List.getD_eq_getElem?_getD, List.getElem?_eq_getElem h]
theorem take_ne (xs ys : List Int) (k : Nat) (h : xs.getD k 0 ≠ ys.getD k 0) : xs ≠ ys := fun e => h (by rw [e])
theorem take_eq (xs ys : List Int) (h : xs.length = ys.length) (e : xs.take xs.length = ys.take xs.length) : xs = ys := by
  rw [List.take_length] at e; rw [e, h, List.take_length]
theorem ret_bool {a b : Bool} (h : a = b) : Ending.returned (.bool a) = .returned (.bool b) := by rw [h]
end M4
end Go.Proofs.Ytpabhjnpbnabiaa
