/- The drawing cursor of the specification (l1Cur) as it lies in memory: what a draw keeps. Over whatever program. -/
import Derived.Test.YtdgflhgbcfehhaaM4
import Derived.WalkSmall
import Derived.Deep.QuietTactic
import Derived.BigQuiet
namespace Go.Proofs.Ytdgflhgbcfehhaa
namespace MC
open Go.RowKit
/-- All blocks but one are as they were. -/
structure Only (p : Nat) (w w' : World) : Prop where
  os : w'.os = w.os
  tape : w'.tape = w.tape
  output : w'.output = w.output
  size : w.heap.size ≤ w'.heap.size
  block : ∀ k, k < w.heap.size → k ≠ p → w'.heap[k]? = w.heap[k]?
theorem Only.refl (p : Nat) (w : World) : Only p w w := ⟨rfl, rfl, rfl, Nat.le_refl _, fun _ _ _ => rfl⟩
theorem Only.trans {p : Nat} {a b c : World} (h : Only p a b) (k : Only p b c) : Only p a c :=
  ⟨k.os.trans h.os, k.tape.trans h.tape, k.output.trans h.output, Nat.le_trans h.size k.size, fun j hj hp => (k.block j (Nat.lt_of_lt_of_le hj h.size) hp).trans (h.block j hj hp)⟩
theorem Only.below {p B : Nat} {w w' : World} (h : Only p w w') (hp : B ≤ p) (hB : B ≤ w.heap.size) : Below B w w' :=
  ⟨h.os, h.tape, h.output, h.size, fun k hk => h.block k (Nat.lt_of_lt_of_le hk hB) (by omega)⟩
theorem Only.of_below {p : Nat} {w w' : World} (h : Below w.heap.size w w') : Only p w w' := ⟨h.os, h.tape, h.output, h.size, fun k hk _ => h.block k hk⟩
theorem Only.drewN {p : Nat} {a w : World} (h : Only p a w) (n : Nat) : Only p a (w.drewN n) := h.trans ⟨rfl, rfl, rfl, Nat.le_refl _, fun _ _ _ => rfl⟩
theorem Only.setCell {p : Nat} {a w : World} (h : Only p a w) (j : Nat) (v : Value) : Only p a (w.setCell ⟨p, j, none⟩ v) :=
  h.trans (by
    have := (Below.refl 0 w).setCell (p := ⟨p, j, none⟩) (Nat.zero_le _) v
    exact ⟨this.os, this.tape, this.output, this.size, fun k _ hp => Below.heap_setCell w ⟨p, j, none⟩ v k hp⟩)
theorem Only.cell {p : Nat} {w w' : World} (h : Only p w w') {x : Addr} (hx : x.block < w.heap.size) (hp : x.block ≠ p) : w'.cell? x = w.cell? x := World.cell?_of_block (w := w) (h.block x.block hx hp)
/-- The bytes zs lie at a slice's address, in a block below p. -/
def BytesAt (w : World) (p : Nat) (a : Option Addr) (zs : List Int) : Prop := (∀ z ∈ zs, 0 ≤ z ∧ z ≤ 255) ∧ (zs = [] ∨ ∃ b off, a = some ⟨b, off, none⟩ ∧ b < p ∧ ∀ j, j < zs.length → w.cell? ⟨b, off + j, none⟩ = some (.int .u8 (zs.getD j 0)))
theorem BytesAt.at {w : World} {p : Nat} {a : Option Addr} {zs : List Int} (h : BytesAt w p a zs) {k : Nat} (hk : k < zs.length) : ∃ b off z, a = some ⟨b, off, none⟩ ∧ b < p ∧ w.cell? ⟨b, off + k, none⟩ = some (.int .u8 z) ∧ 0 ≤ z ∧ z ≤ 255 := by
  rcases h with ⟨hz, rfl | ⟨b, off, rfl, hlt, hc⟩⟩
  · simp at hk
  · refine ⟨b, off, _, rfl, hlt, hc k hk, ?_⟩
    apply hz
    rw [List.getD_eq_getElem?_getD, List.getElem?_eq_getElem hk]; exact List.getElem_mem hk
/-- The cursor at block p: its bytes, how far it is at most, its seed. -/
structure Cur (w : World) (p : Nat) (a : Option Addr) (zs : List Int) (cap M : Nat) : Prop where
  lt : p < w.heap.size
  code : w.cell? ⟨p, 0, none⟩ = some (.slice a zs.length cap)
  place : ∃ k : Nat, w.cell? ⟨p, 1, none⟩ = some (.int .i64 (k : Int)) ∧ k ≤ M
  seed : ∃ k : Nat, w.cell? ⟨p, 2, none⟩ = some (.int .u64 (k : Int)) ∧ k < 18446744073709551616
  free1 : w.frozen? ⟨p, 1, none⟩ = false
  free2 : w.frozen? ⟨p, 2, none⟩ = false
  bytes : BytesAt w p a zs
theorem BytesAt.only {w w' : World} {p q : Nat} {a : Option Addr} {zs : List Int} (h : BytesAt w p a zs) (ho : Only q w w') (hp : p ≤ q) (hq : p ≤ w.heap.size) : BytesAt w' p a zs := by
  refine ⟨h.1, ?_⟩
  rcases h.2 with rfl | ⟨b, off, rfl, hlt, hc⟩
  · exact .inl rfl
  · exact .inr ⟨b, off, rfl, hlt, fun j hj => (ho.cell (x := ⟨b, off + j, none⟩) (by show b < _; omega) (by show b ≠ _; omega)).trans (hc j hj)⟩
/-- What leaves the cursor's block alone leaves the cursor. -/
theorem Cur.below {w w' : World} {p cap M : Nat} {a : Option Addr} {zs : List Int} (h : Cur w p a zs cap M) (hb : Below w.heap.size w w') : Cur w' p a zs cap M := by
  obtain ⟨h1, h2, ⟨k, h3, h3'⟩, ⟨s, h4, h4'⟩, h5, h6, h7⟩ := h
  have hc : ∀ j, w'.cell? ⟨p, j, none⟩ = w.cell? ⟨p, j, none⟩ := fun j => hb.cell (p := ⟨p, j, none⟩) h1
  have hf : ∀ j, w'.frozen? ⟨p, j, none⟩ = w.frozen? ⟨p, j, none⟩ := fun j => hb.frozen (p := ⟨p, j, none⟩) h1
  refine ⟨Nat.lt_of_lt_of_le h1 hb.size, (hc 0).trans h2, ⟨k, (hc 1).trans h3, h3'⟩, ⟨s, (hc 2).trans h4, h4'⟩, (hf 1).trans h5, (hf 2).trans h6, ?_⟩
  exact h7.only (q := w.heap.size) (Only.of_below hb) (Nat.le_of_lt h1) (Nat.le_of_lt h1)
theorem Cur.more {w : World} {p cap M M' : Nat} {a : Option Addr} {zs : List Int} (h : Cur w p a zs cap M) (hM : M ≤ M') : Cur w p a zs cap M' := by
  obtain ⟨h1, h2, ⟨k, h3, h3'⟩, h4, h5, h6, h7⟩ := h
  exact ⟨h1, h2, ⟨k, h3, Nat.le_trans h3' hM⟩, h4, h5, h6, h7⟩
/-- One draw: the place goes on by one, the seed turns. -/
theorem Cur.step {w : World} {p cap M n1 n2 k : Nat} {s : Int} {a : Option Addr} {zs : List Int} (h : Cur w p a zs cap M) (hk : k ≤ M + 1) (h0 : 0 ≤ s) (hs : s < 18446744073709551616) :
    Cur ((((w.drewN n1).setCell ⟨p, 1, none⟩ (.int .i64 (k : Int))).setCell ⟨p, 2, none⟩ (.int .u64 s)).drewN n2) p a zs cap (M + 1) := by
  obtain ⟨h1, h2, ⟨k0, h3, h3'⟩, ⟨s0, h4, h4'⟩, h5, h6, h7⟩ := h
  have ho : Only p w ((((w.drewN n1).setCell ⟨p, 1, none⟩ (.int .i64 (k : Int))).setCell ⟨p, 2, none⟩ (.int .u64 s)).drewN n2) := ((((Only.refl p w).drewN n1).setCell 1 _).setCell 2 _).drewN n2
  obtain ⟨sn, rfl⟩ := Int.eq_ofNat_of_zero_le h0
  refine ⟨Nat.lt_of_lt_of_le h1 ho.size, ?_, ⟨k, ?_, hk⟩, ⟨sn, ?_, by omega⟩, ?_, ?_, h7.only ho (Nat.le_refl _) (Nat.le_of_lt h1)⟩
  · show (((w.drewN n1).setCell ⟨p, 1, none⟩ _).setCell ⟨p, 2, none⟩ _).cell? _ = _
    rw [World.cell?_setCell_other _ _ _ _ (by simp), World.cell?_setCell_other _ _ _ _ (by simp)]; exact h2
  · show (((w.drewN n1).setCell ⟨p, 1, none⟩ _).setCell ⟨p, 2, none⟩ _).cell? _ = _
    rw [World.cell?_setCell_other _ _ _ _ (by simp)]
    exact World.cell?_setCell_same _ _ _ (show (w.drewN n1).cell? ⟨p, 1, none⟩ = some _ from h3)
  · show (((w.drewN n1).setCell ⟨p, 1, none⟩ _).setCell ⟨p, 2, none⟩ _).cell? _ = _
    refine World.cell?_setCell_same _ _ _ (u := .int .u64 (s0 : Int)) ?_
    rw [World.cell?_setCell_other _ _ _ _ (by simp)]; exact h4
  · show (((w.drewN n1).setCell ⟨p, 1, none⟩ _).setCell ⟨p, 2, none⟩ _).frozen? _ = _
    rw [World.frozen?_setCell, World.frozen?_setCell]; exact h5
  · show (((w.drewN n1).setCell ⟨p, 1, none⟩ _).setCell ⟨p, 2, none⟩ _).frozen? _ = _
    rw [World.frozen?_setCell, World.frozen?_setCell]; exact h6
/-- A row above the cursor stays where the cursor alone turns. -/
theorem own_only {w w' : World} {p base e size n : Nat} {v : Value} {xs : List Value} (h : w.ownsRow base e size v n xs) (ho : Only p w w') (hp : p < base) : w'.ownsRow base e size v n xs := by
  refine ⟨h.1, ?_⟩
  rcases h.2 with hn | ⟨g, cap, cur, rfl, hbg, hgg, rest⟩
  · exact .inl hn
  · refine .inr ⟨g, cap, cur, rfl, hbg, ?_, rest⟩
    rw [ho.block g (Array.getElem?_eq_some_iff.1 hgg).1 (by omega)]
    exact hgg
/-- What grows above the cursor leaves the cursor. -/
theorem Cur.same {w w' : World} {p cap M : Nat} {a : Option Addr} {zs : List Int} (h : Cur w p a zs cap M) (hs : w.heap.size ≤ w'.heap.size) (hb : ∀ k, k ≤ p → w'.heap[k]? = w.heap[k]?) : Cur w' p a zs cap M := by
  obtain ⟨h1, h2, ⟨k, h3, h3'⟩, ⟨s, h4, h4'⟩, h5, h6, h7⟩ := h
  have hc : ∀ j, w'.cell? ⟨p, j, none⟩ = w.cell? ⟨p, j, none⟩ := fun j => World.cell?_of_block (w := w) (hb p (Nat.le_refl _))
  have hf : ∀ j, w'.frozen? ⟨p, j, none⟩ = w.frozen? ⟨p, j, none⟩ := fun j => World.frozen?_of_block (w := w) (hb p (Nat.le_refl _))
  refine ⟨Nat.lt_of_lt_of_le h1 hs, (hc 0).trans h2, ⟨k, (hc 1).trans h3, h3'⟩, ⟨s, (hc 2).trans h4, h4'⟩, (hf 1).trans h5, (hf 2).trans h6, h7.1, ?_⟩
  rcases h7.2 with rfl | ⟨b, off, rfl, hlt, hcz⟩
  · exact .inl rfl
  · exact .inr ⟨b, off, rfl, hlt, fun j hj => (World.cell?_of_block (w := w) (hb b (by omega))).trans (hcz j hj)⟩
theorem Cur.grown {w w' : World} {p cap M : Nat} {a : Option Addr} {zs : List Int} {row : Option Nat} (h : Cur w p a zs cap M) (hg : w.grownBy w' row) (hr : ∀ k, row = some k → p < k) : Cur w' p a zs cap M :=
  h.same hg.size (fun k hk => hg.block k (Nat.lt_of_le_of_lt hk h.lt) (fun e => by have := hr k e.symm; omega))
theorem Cur.alloc {w : World} {p cap M : Nat} {a : Option Addr} {zs : List Int} (h : Cur w p a zs cap M) (o : Obj) : Cur (w.alloc o) p a zs cap M :=
  h.below ((Below.refl _ _).alloc (Nat.le_refl _) o)
theorem Only.alloc {p : Nat} {a w : World} (h : Only p a w) (o : Obj) : Only p a (w.alloc o) := h.trans (Only.of_below ((Below.refl _ _).alloc (Nat.le_refl _) o))
/-- Below everything that was there, but for the cursor; what grows is new. -/
theorem Only.grown {p : Nat} {a w w' : World} {row : Option Nat} (h : Only p a w) (hg : w.grownBy w' row) (hr : ∀ k, row = some k → a.heap.size ≤ k) : Only p a w' :=
  ⟨hg.os.trans h.os, hg.tape.trans h.tape, hg.output.trans h.output, Nat.le_trans h.size hg.size, fun k hk hp =>
    (hg.block k (Nat.lt_of_lt_of_le hk h.size) (fun e => by have := hr k e.symm; omega)).trans (h.block k hk hp)⟩
theorem Only.ints {p : Nat} {w w' : World} {a : Option Addr} {zs : List Int} (ho : Only p w w') (h : M4.IntsAt w a zs) (hp : ∀ b off, a = some ⟨b, off, none⟩ → b ≠ p) : M4.IntsAt w' a zs := by
  rcases h with rfl | ⟨b, off, rfl, hlt, hc⟩
  · exact .inl rfl
  · exact .inr ⟨b, off, rfl, Nat.lt_of_lt_of_le hlt ho.size, fun j hj => (ho.cell (x := ⟨b, off + j, none⟩) hlt (hp b off rfl)).trans (hc j hj)⟩
theorem and255 (n : Nat) (h : n < 18446744073709551616) : bits .and .u64 (n : Int) 255 = ((n % 256 : Nat) : Int) := by
  rw [show (255 : Int) = ((255 : Nat) : Int) from rfl, u64_and_nat n 255 h (by omega), nat_mask8]
theorem emod_le (x n : Int) (h0 : 0 ≤ x) (hn : 0 < n) : x % n ≤ x := by
  obtain ⟨a, rfl⟩ := Int.eq_ofNat_of_zero_le h0
  obtain ⟨b, rfl⟩ := Int.eq_ofNat_of_zero_le (Int.le_of_lt hn)
  have := Nat.mod_le a b
  rw [← Int.natCast_emod]; omega
theorem shr40 (v : Int) (h0 : 0 ≤ v) (h1 : v < 18446744073709551616) : ∃ r : Nat, r ≤ 255 ∧ bits .and .u64 (v / 1099511627776) 255 = (r : Int) := by
  obtain ⟨n, rfl⟩ := Int.eq_ofNat_of_zero_le h0
  refine ⟨n / 1099511627776 % 256, by omega, ?_⟩
  rw [show ((n : Int) / 1099511627776) = ((n / 1099511627776 : Nat) : Int) from by omega, and255 _ (by omega)]
end MC
end Go.Proofs.Ytdgflhgbcfehhaa
