/- Who goes with whom: the search's memory, and its steps: plain facts. -/
import Derived.Test.YtjfnmhkhjaafkaaMPH
import Derived.Test.YtjfnmhkhjaafkaaMPV
namespace Go.Proofs.Ytjfnmhkhjaafkaa
open Go.RowKit
namespace PG
open NR (rw_)
/-- Who has it, as a number; -1 for nobody. -/
def ownI (m : List Int) (r : Int) : Int := match own m r with | none => -1 | some o => (o : Int)
theorem ownI_none {m : List Int} {r : Int} (h : own m r = none) : ownI m r = -1 := by rw [ownI, h]
theorem ownI_some {m : List Int} {r : Int} {o : Nat} (h : own m r = some o) : ownI m r = o := by rw [ownI, h]
theorem ownI_here {m : List Int} {r : Int} {k : Nat} (hk : k < m.length) (h : m.getD k 0 = r) (h0 : ∀ j, j < k → m.getD j 0 ≠ r) : ownI m r = k := ownI_some (own_some.2 ⟨hk, h, h0⟩)
theorem ownI_not {m : List Int} {r : Int} (h : ∀ j, j < m.length → m.getD j 0 ≠ r) : ownI m r = -1 := ownI_none (own_none.2 h)
/-- A row of truth values. -/
def bv (A : Nat → Bool) (R : Nat) : List Value := (List.range R).map fun j => .bool (A j)
theorem bv_len (A : Nat → Bool) (R : Nat) : (bv A R).length = R := by simp [bv]
theorem bv_get (A : Nat → Bool) {R j : Nat} (h : j < R) : (bv A R)[j]? = some (.bool (A j)) := by simp [bv, h]
theorem bv_set (A : Nat → Bool) {R j : Nat} (_h : j < R) : (bv A R).set j (.bool true) = bv (mk A j) R := by
  apply List.ext_getElem (by simp [bv])
  intro i h1 h2
  rw [List.getElem_set]
  have hi : i < R := by simpa [bv] using h2
  by_cases e : j = i
  · subst e; simp [bv, mk]
  · rw [if_neg e]; simp only [bv, List.getElem_map, List.getElem_range, mk]; rw [if_neg (fun x => e x.symm)]
theorem bv_no (R : Nat) : bv No R = List.replicate R (.bool false) := by
  apply List.ext_getElem (by simp [bv])
  intro i h1 h2
  simp [bv]
/-- All blocks but two are as they were. -/
structure But (g h : Nat) (w w' : World) : Prop where
  os : w'.os = w.os
  tape : w'.tape = w.tape
  output : w'.output = w.output
  size : w.heap.size ≤ w'.heap.size
  block : ∀ k, k < w.heap.size → k ≠ g → k ≠ h → w'.heap[k]? = w.heap[k]?
theorem But.refl (g h : Nat) (w : World) : But g h w w := ⟨rfl, rfl, rfl, Nat.le_refl _, fun _ _ _ _ => rfl⟩
theorem But.trans {g h : Nat} {a b c : World} (x : But g h a b) (y : But g h b c) : But g h a c :=
  ⟨y.os.trans x.os, y.tape.trans x.tape, y.output.trans x.output, Nat.le_trans x.size y.size, fun k hk h1 h2 => (y.block k (Nat.lt_of_lt_of_le hk x.size) h1 h2).trans (x.block k hk h1 h2)⟩
theorem But.of_below {g h : Nat} {w w' : World} (x : Below w.heap.size w w') : But g h w w' := ⟨x.os, x.tape, x.output, x.size, fun k hk _ _ => x.block k hk⟩
theorem But.only1 {g h : Nat} {w w' : World} (x : MC.Only g w w') : But g h w w' := ⟨x.os, x.tape, x.output, x.size, fun k hk h1 _ => x.block k hk h1⟩
theorem But.only2 {g h : Nat} {w w' : World} (x : MC.Only h w w') : But g h w w' := ⟨x.os, x.tape, x.output, x.size, fun k hk _ h2 => x.block k hk h2⟩
theorem But.below {g h B : Nat} {w w' : World} (x : But g h w w') (hg : B ≤ g) (hh : B ≤ h) (hB : B ≤ w.heap.size) : Below B w w' := ⟨x.os, x.tape, x.output, x.size, fun k hk => x.block k (by omega) (by omega) (by omega)⟩
theorem But.cell {g h : Nat} {w w' : World} (x : But g h w w') {p : Addr} (hp : p.block < w.heap.size) (h1 : p.block ≠ g) (h2 : p.block ≠ h) : w'.cell? p = w.cell? p := World.cell?_of_block (w := w) (x.block p.block hp h1 h2)
/-- The specification's search in memory: a match and who was asked, each in a block of its own. -/
structure Sp (B gm cm ga n R : Nat) (w : World) (s : St) : Prop where
  m : w.ownsRow B 3 1 (.slice (some ⟨gm, 0, none⟩) n cm) n (M4.iv s.1)
  a : w.ownsRow B 4 1 (.slice (some ⟨ga, 0, none⟩) R R) R (bv s.2 R)
  ne : gm ≠ ga
theorem Sp.below {B gm cm ga n R : Nat} {w w' : World} {s : St} (h : Sp B gm cm ga n R w s) (hb : Below w.heap.size w w') : Sp B gm cm ga n R w' s := ⟨M5.own_below h.m hb, M5.own_below h.a hb, h.ne⟩
theorem Sp.len {B gm cm ga n R : Nat} {w : World} {s : St} (h : Sp B gm cm ga n R w s) : s.1.length = n := by have := h.m.1; simpa [M4.iv] using this
theorem Sp.lt {B gm cm ga n R : Nat} {w : World} {s : St} (h : Sp B gm cm ga n R w s) : B ≤ gm ∧ gm < w.heap.size ∧ B ≤ ga ∧ ga < w.heap.size := by
  have h1 := h.m.lt gm rfl
  have h2 := h.a.lt ga rfl
  omega
theorem Sp.ints {B gm cm ga n R : Nat} {w : World} {s : St} (h : Sp B gm cm ga n R w s) : M4.IntsAt w (some ⟨gm, 0, none⟩) s.1 := M5.own_ints h.m
theorem Sp.asked {B gm cm ga n R j : Nat} {w : World} {s : St} (h : Sp B gm cm ga n R w s) (hj : j < R) : w.cell? ⟨ga, j, none⟩ = some (.bool (s.2 j)) := by rw [h.a.cellAt j (by omega), bv_get _ hj]
theorem Sp.mark {B gm cm ga n R j : Nat} {w : World} {s : St} (h : Sp B gm cm ga n R w s) (hj : j < R) : Sp B gm cm ga n R (w.setCell ⟨ga, j, none⟩ (.bool true)) (s.1, PG.mk s.2 j) := by
  refine ⟨NR.own_only h.m ((MC.Only.refl ga w).setCell j _) (fun e => h.ne (by simpa [Value.ownBlock] using e)), ?_, h.ne⟩
  have := (h.a.stored j (.bool true)).1
  rw [bv_set _ hj] at this
  exact this
theorem Sp.put {B gm cm ga n R j : Nat} {w : World} {s : St} (h : Sp B gm cm ga n R w s) (x : Int) : Sp B gm cm ga n R (w.setCell ⟨gm, j, none⟩ (.int .i64 x)) (s.1.set j x, s.2) := by
  refine ⟨?_, NR.own_only h.a ((MC.Only.refl gm w).setCell j _) (fun e => h.ne (by simpa [Value.ownBlock] using e.symm)), h.ne⟩
  have := (h.m.stored j (.int .i64 x)).1
  rw [M4.iv_set] at this
  exact this
/-- How many have none, out of memory. -/
def isNo : Option Value → Bool
  | some (.int .i64 z) => decide (z = -1)
  | _ => false
def mv : Value → World → Nat
  | .slice (some a) n _, w => (List.range n).countP fun j => isNo (w.cell? ⟨a.block, a.off + j, none⟩)
  | _, _ => 0
theorem mv_is {w : World} {B g n c : Nat} {m : List Int} (h : w.ownsRow B 3 1 (.slice (some ⟨g, 0, none⟩) n c) n (M4.iv m)) : mv (.slice (some ⟨g, 0, none⟩) n c) w = fr m := by
  have hl : m.length = n := by have := h.1; simpa [M4.iv] using this
  unfold mv fr
  rw [hl]
  refine List.countP_congr (fun j hj => ?_)
  have hj := List.mem_range.1 hj
  have c0 := h.cellAt j (by omega)
  rw [M4.iv_get m j (m.getD j 0) (by rw [List.getD_eq_getElem?_getD, List.getElem?_eq_getElem (by omega)]; rfl)] at c0
  simp only [Nat.zero_add]
  rw [c0]
  simp [isNo]
theorem drop_cons {rs : List Int} {k : Nat} (hk : k < rs.length) : rs.drop k = rs.getD k 0 :: rs.drop (k + 1) := by
  rw [List.drop_eq_getElem_cons hk, List.getD_eq_getElem?_getD, List.getElem?_eq_getElem hk]; rfl
theorem step_skip {rec : Nat → St → Bool × St} {left k : Nat} {rs : List Int} {s : St} {j : Nat} (hk : k < rs.length) (hr : rs.getD k 0 = (j : Int)) (h : s.2 j = true) : first (lets rec) left (rs.drop k) s = first (lets rec) left (rs.drop (k + 1)) s := by
  have : lets rec (rs.getD k 0) s = (false, s) := by unfold lets; rw [hr, Int.toNat_natCast, if_pos h]
  rw [drop_cons hk, first, this]; rfl
theorem step_free {rec : Nat → St → Bool × St} {left k : Nat} {rs : List Int} {s : St} {j : Nat} (hk : k < rs.length) (hr : rs.getD k 0 = (j : Int)) (h : s.2 j = false) (ho : own s.1 (j : Int) = none) : first (lets rec) left (rs.drop k) s = (true, (s.1.set left (j : Int), mk s.2 j)) := by
  have : lets rec (rs.getD k 0) s = (true, (s.1, mk s.2 j)) := by unfold lets; rw [hr, Int.toNat_natCast, if_neg (by simp [h]), ho]
  rw [drop_cons hk, first, this, hr]; rfl
theorem step_rec {rec : Nat → St → Bool × St} {left k o : Nat} {rs : List Int} {s : St} {j : Nat} (hk : k < rs.length) (hr : rs.getD k 0 = (j : Int)) (h : s.2 j = false) (ho : own s.1 (j : Int) = some o) : first (lets rec) left (rs.drop k) s = if (rec o (s.1, mk s.2 j)).1 = true then (true, ((rec o (s.1, mk s.2 j)).2.1.set left (j : Int), (rec o (s.1, mk s.2 j)).2.2)) else first (lets rec) left (rs.drop (k + 1)) (rec o (s.1, mk s.2 j)).2 := by
  have : lets rec (rs.getD k 0) s = rec o (s.1, mk s.2 j) := by unfold lets; rw [hr, Int.toNat_natCast, if_neg (by simp [h]), ho]
  rw [drop_cons hk, first, this, hr]
end PG
end Go.Proofs.Ytjfnmhkhjaafkaa
