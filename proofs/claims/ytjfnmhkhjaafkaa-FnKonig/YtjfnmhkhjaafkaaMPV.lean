/- A pairing's value, and frames: plain facts. -/
import Derived.Test.YtjfnmhkhjaafkaaMNR
import Derived.Test.YtjfnmhkhjaafkaaMCur
import Derived.Test.YtjfnmhkhjaafkaaM5
namespace Go.Proofs.Ytjfnmhkhjaafkaa
open Go.RowKit
namespace PG
/-- A pairing's three cells. -/
abbrev pv (l r : Int) (v : Value) : Value := .agg #[.int .i64 l, .int .i64 r, v]
/-- All blocks below one and from another on are as they were. -/
structure Mid (lo hi : Nat) (w w' : World) : Prop where
  os : w'.os = w.os
  tape : w'.tape = w.tape
  output : w'.output = w.output
  size : w.heap.size ≤ w'.heap.size
  block : ∀ k, k < w.heap.size → (k < lo ∨ hi ≤ k) → w'.heap[k]? = w.heap[k]?
theorem Mid.refl (lo hi : Nat) (w : World) : Mid lo hi w w := ⟨rfl, rfl, rfl, Nat.le_refl _, fun _ _ _ => rfl⟩
theorem Mid.trans {lo hi : Nat} {a b c : World} (h : Mid lo hi a b) (k : Mid lo hi b c) : Mid lo hi a c :=
  ⟨k.os.trans h.os, k.tape.trans h.tape, k.output.trans h.output, Nat.le_trans h.size k.size, fun j hj hd => (k.block j (Nat.lt_of_lt_of_le hj h.size) hd).trans (h.block j hj hd)⟩
theorem Mid.of_only {lo hi g : Nat} {w w' : World} (h : MC.Only g w w') (h1 : lo ≤ g) (h2 : g < hi) : Mid lo hi w w' := ⟨h.os, h.tape, h.output, h.size, fun k hk hd => h.block k hk (by omega)⟩
theorem Mid.below {lo hi B : Nat} {w w' : World} (h : Mid lo hi w w') (hB : B ≤ lo) (hw : B ≤ w.heap.size) : Below B w w' := ⟨h.os, h.tape, h.output, h.size, fun k hk => h.block k (by omega) (.inl (by omega))⟩
theorem Mid.own {lo hi base e sz n : Nat} {w w' : World} {v : Value} {xs : List Value} (ho : w.ownsRow base e sz v n xs) (h : Mid lo hi w w') (hb : hi ≤ base) : w'.ownsRow base e sz v n xs := by
  refine ⟨ho.1, ?_⟩
  rcases ho.2 with h' | ⟨g, cap', cur, rfl, hB, hg, rest⟩
  · exact .inl h'
  · exact .inr ⟨g, cap', cur, rfl, hB, (h.block g (Array.getElem?_eq_some_iff.1 hg).1 (.inr (by omega))).trans hg, rest⟩
theorem own_mono {w : World} {B B' e sz n : Nat} {v : Value} {xs : List Value} (h : w.ownsRow B e sz v n xs) (hb : B' ≤ B) : w.ownsRow B' e sz v n xs := by
  refine ⟨h.1, ?_⟩
  rcases h.2 with h' | ⟨g', cap, cur, hv, hB, rest⟩
  · exact .inl h'
  · exact .inr ⟨g', cap, cur, hv, by omega, rest⟩
theorem Own_mono {T : TypeId} {w : World} {B B' : Nat} {v : Value} {ws : List (List Int)} {A : Nat → Option Addr} {C : Nat → Nat} (h : NR.Own T w B v ws A C) (hb : B' ≤ B) : NR.Own T w B' v ws A C :=
  ⟨own_mono h.out hb, fun j hj => (h.row j hj).mono hb, h.far⟩
theorem keep2 {W w1 w2 : World} {p q : Nat} {v0 v1 v2 u0 u1 u2 : Value} (hp : p < W.heap.size) (hq : q < W.heap.size) (h : Below W.heap.size W w1 ∧ w1.cell? ⟨p, 0, none⟩ = some v0 ∧ w1.cell? ⟨p, 1, none⟩ = some v1 ∧ w1.cell? ⟨p, 2, none⟩ = some v2 ∧ w1.cell? ⟨q, 0, none⟩ = some u0 ∧ w1.cell? ⟨q, 1, none⟩ = some u1 ∧ w1.cell? ⟨q, 2, none⟩ = some u2) (hb : Below w1.heap.size w1 w2) :
    Below W.heap.size W w2 ∧ w2.cell? ⟨p, 0, none⟩ = some v0 ∧ w2.cell? ⟨p, 1, none⟩ = some v1 ∧ w2.cell? ⟨p, 2, none⟩ = some v2 ∧ w2.cell? ⟨q, 0, none⟩ = some u0 ∧ w2.cell? ⟨q, 1, none⟩ = some u1 ∧ w2.cell? ⟨q, 2, none⟩ = some u2 := by
  obtain ⟨h0, a0, a1, a2, b0, b1, b2⟩ := h
  have s := h0.size
  have c : ∀ k i v, k < W.heap.size → w1.cell? ⟨k, i, none⟩ = some v → w2.cell? ⟨k, i, none⟩ = some v := fun k i v hk e => (hb.cell (p := ⟨k, i, none⟩) (Nat.lt_of_lt_of_le hk s)).trans e
  exact ⟨h0.trans (hb.mono s), c _ _ _ hp a0, c _ _ _ hp a1, c _ _ _ hp a2, c _ _ _ hq b0, c _ _ _ hq b1, c _ _ _ hq b2⟩
end PG
end Go.Proofs.Ytjfnmhkhjaafkaa
