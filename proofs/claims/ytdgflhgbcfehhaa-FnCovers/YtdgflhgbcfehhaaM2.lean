/- Facts on the model's operations that chapter 1's walks meet, over whatever program. -/
import Derived.Test.YtdgflhgbcfehhaaM1
import Derived.WalkKit
import Derived.Laws.BytesArg
namespace Go.Proofs.Ytdgflhgbcfehhaa
namespace M2
open Go.RowKit
/-- 'string([]byte{x})': the one byte that was just laid. -/
theorem conv1 {P : Program} (src dst e : TypeId) (hs : P.underlying src = some (.slice e)) (he : P.underlying e = some (.int .u8)) (hd : P.underlying dst = some .string) (W : World) (z : Int) :
    (convert src dst (.slice (some ⟨W.heap.size, 0, none⟩) 1 1)).run P (W.alloc (.cells #[.int .u8 z] e)) = .ok (.string ⟨#[UInt8.ofNat z.toNat]⟩) (W.alloc (.cells #[.int .u8 z] e)) := by
  have := run_convert_bytes_arg (P := P) (W.alloc (.cells #[.int .u8 z] e)) src e hs he W.heap.size 0 1 1 [z] rfl (fun i hi => by
    obtain rfl : i = 0 := by omega
    rw [World.cell?_alloc_at _ _ _ _ (by rfl)]; rfl) dst hd
  exact this
/-- 'string([]byte{x, y})'. -/
theorem conv2 {P : Program} (src dst e : TypeId) (hs : P.underlying src = some (.slice e)) (he : P.underlying e = some (.int .u8)) (hd : P.underlying dst = some .string) (W : World) (x y : Int) :
    (convert src dst (.slice (some ⟨W.heap.size, 0, none⟩) 2 2)).run P (W.alloc (.cells #[.int .u8 x, .int .u8 y] e)) = .ok (.string ⟨#[UInt8.ofNat x.toNat, UInt8.ofNat y.toNat]⟩) (W.alloc (.cells #[.int .u8 x, .int .u8 y] e)) := by
  have := run_convert_bytes_arg (P := P) (W.alloc (.cells #[.int .u8 x, .int .u8 y] e)) src e hs he W.heap.size 0 2 2 [x, y] rfl (fun i hi => by
    have hi' : i = 0 ∨ i = 1 := by omega
    rcases hi' with rfl | rfl <;> (rw [World.cell?_alloc_at _ _ _ _ (by rfl)]; rfl)) dst hd
  exact this
/-- Bytes as cells. -/
def bv (l : List UInt8) : List Value := l.map fun b => .int .u8 b.toNat
theorem bv_snoc (l : List UInt8) (q : Nat) (h : q < 256) : bv l ++ [.int .u8 (q : Int)] = bv (l ++ [UInt8.ofNat q]) := by
  simp [bv]; omega
/-- What one byte more does to a row that the call owns. -/
theorem grow1 {e base q : Nat} {w wr w1 : World} {u v' : Value} {o : Obj} {bs : List UInt8} (hq : q < 256) (hown : wr.ownsRow base e 1 u bs.length (bv bs)) (hb : Below base w wr) (hB : base ≤ wr.heap.size)
    (hown1 : w1.ownsRow base e 1 v' (bs.length + 1) (bv bs ++ [.int .u8 (q : Int)])) (hgrow : (wr.alloc o).grownBy w1 u.ownBlock) :
    w1.ownsRow base e 1 v' (bs ++ [UInt8.ofNat q]).length (bv (bs ++ [UInt8.ofNat q])) ∧ Below base w w1 := by
  refine ⟨?_, (hb.alloc hB o).grown hgrow (by simp; omega) (fun j hj => (hown.lt j hj).1)⟩
  rw [bv_snoc bs q hq] at hown1
  simpa using hown1
/-- The one cell that was just laid, as an append's law asks for it. -/
theorem new1 (W : World) (x : Value) (e : TypeId) : ∀ (j : Nat) (u : Value), [x][j]? = some u → (W.alloc (.cells #[x] e)).cell? ((⟨W.heap.size, 0, none⟩ : Addr).add j) = some u := by
  intro j u hj
  match j, hj with
  | 0, hj => simp at hj; subst hj; simp [Addr.add]
theorem one1 (k : IntKind) (z : Int) : ∀ u : Value, u ∈ [Value.int k z] → u.oneCell' = true := by
  intro u hu; simp at hu; subst hu; rfl
theorem bv_get (bs : List UInt8) (i : Nat) (h : i < bs.length) : (bv bs)[i]? = some (.int .u8 ((bs.map fun b => (b.toNat : Int)).getD i 0)) := by
  simp [bv, List.getElem?_eq_getElem h]
/-- 'string(b)' of a row of bytes that the call owns. -/
theorem conv_own {P : Program} (src dst e : TypeId) (hs : P.underlying src = some (.slice e)) (he : P.underlying e = some (.int .u8)) (hd : P.underlying dst = some .string)
    {W : World} {base : Nat} {v : Value} {bs : List UInt8} (hown : W.ownsRow base e 1 v bs.length (bv bs)) :
    (convert src dst v).run P W = .ok (.string ⟨bs.toArray⟩) W := by
  rcases hown.2 with ⟨rfl, h0⟩ | ⟨g, cap, cur, rfl, hb, hg, hc1, hc2, hc3, hc4⟩
  · obtain rfl : bs = [] := List.eq_nil_of_length_eq_zero h0
    exact run_convert_bytes_nil (P := P) W src e hs he 0 0 dst hd
  · have := run_convert_bytes_arg (P := P) W src e hs he g 0 bs.length cap (bs.map fun b => (b.toNat : Int)) (by simp) (fun i hi => by
      have h := hown.cells (g := g) rfl i _ (bv_get bs i hi)
      have hadd : (⟨g, 0, none⟩ : Addr).add i = ⟨g, i, none⟩ := by unfold Addr.add; split <;> simp_all
      rw [hadd] at h; rw [Nat.zero_add]; exact h) dst hd
    rw [this]
    congr 2
    apply ByteArray.ext
    have h : (bs.map fun b => (b.toNat : Int)).map (fun n => UInt8.ofNat n.toNat) = bs := by
      rw [List.map_map]; exact (List.map_congr_left (fun b _ => by simp)).trans (List.map_id bs)
    show ((bs.map fun b => (b.toNat : Int)).map (fun n => UInt8.ofNat n.toNat)).toArray = _
    rw [h]
end M2
end Go.Proofs.Ytdgflhgbcfehhaa
