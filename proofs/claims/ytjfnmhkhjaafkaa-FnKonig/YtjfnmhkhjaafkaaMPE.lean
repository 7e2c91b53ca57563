/- Who goes with whom: the program's search in memory: plain facts. -/
import Derived.Test.YtjfnmhkhjaafkaaMPF
import Derived.Lib.SmallJoins
namespace Go.Proofs.Ytjfnmhkhjaafkaa
open Go.RowKit
namespace PG
open NR (rw_)
/-- A search's ten cells. -/
def sc (v u : Value) (A : Nat → Bool) : List Value := v :: u :: bv A 8
theorem sc_len (v u : Value) (A : Nat → Bool) : (sc v u A).length = 10 := by simp [sc, bv_len]
theorem sc_at (v u : Value) (A : Nat → Bool) {j : Nat} (h : j < 8) : (sc v u A)[2 + j]? = some (.bool (A j)) := by
  rw [Nat.add_comm, sc, List.getElem?_cons_succ, List.getElem?_cons_succ, bv_get _ h]
theorem sc_set (v u : Value) (A : Nat → Bool) {j : Nat} (h : j < 8) : (sc v u A).set (2 + j) (.bool true) = sc v u (PG.mk A j) := by
  rw [Nat.add_comm, sc, List.set_cons_succ, List.set_cons_succ, bv_set _ h]; rfl
/-- The program's search: its struct at gs, its match at gm. -/
structure Im (T : TypeId) (B gs gm cm n : Nat) (v : Value) (w : World) (s : St) : Prop where
  obj : w.heap[gs]? = some (.cells (sc v (.slice (some ⟨gm, 0, none⟩) n cm) s.2).toArray T (0, 0))
  m : w.ownsRow B 3 1 (.slice (some ⟨gm, 0, none⟩) n cm) n (M4.iv s.1)
  ne : gs ≠ gm
  le : B ≤ gs
theorem Im.below {T : TypeId} {B gs gm cm n : Nat} {v : Value} {w w' : World} {s : St} (h : Im T B gs gm cm n v w s) (hb : Below w.heap.size w w') : Im T B gs gm cm n v w' s :=
  ⟨(hb.block gs (Array.getElem?_eq_some_iff.1 h.obj).1).trans h.obj, M5.own_below h.m hb, h.ne, h.le⟩
theorem Im.len {T : TypeId} {B gs gm cm n : Nat} {v : Value} {w : World} {s : St} (h : Im T B gs gm cm n v w s) : s.1.length = n := by have := h.m.1; simpa [M4.iv] using this
theorem Im.lt {T : TypeId} {B gs gm cm n : Nat} {v : Value} {w : World} {s : St} (h : Im T B gs gm cm n v w s) : B ≤ gm ∧ gm < w.heap.size ∧ B ≤ gs ∧ gs < w.heap.size := by
  have h1 := h.m.lt gm rfl
  have h2 := (Array.getElem?_eq_some_iff.1 h.obj).1
  have := h.le
  omega
theorem cell_of {w : World} {g i : Nat} {cs : List Value} {T : TypeId} {u : Value} (h : w.heap[g]? = some (.cells cs.toArray T (0, 0))) (hu : cs[i]? = some u) : w.cell? ⟨g, i, none⟩ = some u := by
  unfold World.cell?
  rw [h]
  simpa using hu
theorem Im.want {T : TypeId} {B gs gm cm n : Nat} {v : Value} {w : World} {s : St} (h : Im T B gs gm cm n v w s) : w.cell? ⟨gs, 0, none⟩ = some v := cell_of h.obj rfl
theorem Im.match_ {T : TypeId} {B gs gm cm n : Nat} {v : Value} {w : World} {s : St} (h : Im T B gs gm cm n v w s) : w.cell? ⟨gs, 1, none⟩ = some (.slice (some ⟨gm, 0, none⟩) n cm) := cell_of h.obj rfl
theorem Im.asked {T : TypeId} {B gs gm cm n j : Nat} {v : Value} {w : World} {s : St} (h : Im T B gs gm cm n v w s) (hj : j < 8) : w.cell? ⟨gs, 2 + j, none⟩ = some (.bool (s.2 j)) := cell_of h.obj (sc_at _ _ _ hj)
theorem Im.free {T : TypeId} {B gs gm cm n : Nat} {v : Value} {w : World} {s : St} (h : Im T B gs gm cm n v w s) (j : Nat) : w.frozen? ⟨gs, j, none⟩ = false := by simp [World.frozen?, h.obj]
theorem Im.ints {T : TypeId} {B gs gm cm n : Nat} {v : Value} {w : World} {s : St} (h : Im T B gs gm cm n v w s) : M4.IntsAt w (some ⟨gm, 0, none⟩) s.1 := M5.own_ints h.m
theorem Im.mark {T : TypeId} {B gs gm cm n j : Nat} {v : Value} {w : World} {s : St} (h : Im T B gs gm cm n v w s) (hj : j < 8) : Im T B gs gm cm n v (w.setCell ⟨gs, 2 + j, none⟩ (.bool true)) (s.1, PG.mk s.2 j) := by
  refine ⟨?_, NR.own_only h.m ((MC.Only.refl gs w).setCell (2 + j) _) (fun e => h.ne (by simpa [Value.ownBlock] using e.symm)), h.ne, h.le⟩
  rw [Go.Joins.block_setCell h.obj]
  rw [List.setIfInBounds_toArray, sc_set _ _ _ hj]
theorem Im.put {T : TypeId} {B gs gm cm n j : Nat} {v : Value} {w : World} {s : St} (h : Im T B gs gm cm n v w s) (x : Int) : Im T B gs gm cm n v (w.setCell ⟨gm, j, none⟩ (.int .i64 x)) (s.1.set j x, s.2) := by
  refine ⟨((MC.Only.refl gm w).setCell j (.int .i64 x)).block gs (Array.getElem?_eq_some_iff.1 h.obj).1 h.ne |>.trans h.obj, ?_, h.ne, h.le⟩
  have := (h.m.stored j (.int .i64 x)).1
  rw [M4.iv_set] at this
  exact this
theorem Im.congr {T : TypeId} {B gs gm cm n : Nat} {v : Value} {w : World} {m : List Int} {A A' : Nat → Bool} (h : Im T B gs gm cm n v w (m, A)) (he : ∀ j, j < 8 → A j = A' j) : Im T B gs gm cm n v w (m, A') := by
  refine ⟨?_, h.m, h.ne, h.le⟩
  have e : bv A 8 = bv A' 8 := List.map_congr_left (fun j hj => by rw [he j (List.mem_range.1 hj)])
  have := h.obj
  simp only [sc] at this ⊢
  rw [this, e]
def off (A : Nat → Bool) (k : Nat) : Nat → Bool := fun i => if i < k then false else A i
theorem sc_off (v u : Value) (A : Nat → Bool) {j : Nat} (_h : j < 8) : (sc v u (off A j)).set (2 + j) (.bool false) = sc v u (off A (j + 1)) := by
  rw [Nat.add_comm, sc, List.set_cons_succ, List.set_cons_succ, sc]
  congr 2
  apply List.ext_getElem (by simp [bv])
  intro i h1 h2
  rw [List.getElem_set]
  have hi : i < 8 := by simpa [bv] using h2
  simp only [bv, List.getElem_map, List.getElem_range, off]
  by_cases e : j = i
  · subst e; simp
  · rw [if_neg e]
    by_cases c : i < j
    · rw [if_pos c, if_pos (by omega)]
    · rw [if_neg c, if_neg (by omega)]
theorem Im.off1 {T : TypeId} {B gs gm cm n j : Nat} {v : Value} {w : World} {m : List Int} {A : Nat → Bool} (h : Im T B gs gm cm n v w (m, PG.off A j)) (hj : j < 8) : Im T B gs gm cm n v (w.setCell ⟨gs, 2 + j, none⟩ (.bool false)) (m, PG.off A (j + 1)) := by
  refine ⟨?_, NR.own_only h.m ((MC.Only.refl gs w).setCell (2 + j) _) (fun e => h.ne (by simpa [Value.ownBlock] using e.symm)), h.ne, h.le⟩
  rw [Go.Joins.block_setCell h.obj]
  rw [List.setIfInBounds_toArray, sc_off _ _ _ hj]
/-- All eight are wiped. -/
theorem Im.wipe {T : TypeId} {B gs gm cm n : Nat} {v : Value} {w : World} {m : List Int} {A : Nat → Bool} (h : Im T B gs gm cm n v w (m, A)) :
    Im T B gs gm cm n v ((((((((w.setCell ⟨gs, 2, none⟩ (.bool false)).setCell ⟨gs, 3, none⟩ (.bool false)).setCell ⟨gs, 4, none⟩ (.bool false)).setCell ⟨gs, 5, none⟩ (.bool false)).setCell ⟨gs, 6, none⟩ (.bool false)).setCell ⟨gs, 7, none⟩ (.bool false)).setCell ⟨gs, 8, none⟩ (.bool false)).setCell ⟨gs, 9, none⟩ (.bool false)) (m, No) ∧
    MC.Only gs w ((((((((w.setCell ⟨gs, 2, none⟩ (.bool false)).setCell ⟨gs, 3, none⟩ (.bool false)).setCell ⟨gs, 4, none⟩ (.bool false)).setCell ⟨gs, 5, none⟩ (.bool false)).setCell ⟨gs, 6, none⟩ (.bool false)).setCell ⟨gs, 7, none⟩ (.bool false)).setCell ⟨gs, 8, none⟩ (.bool false)).setCell ⟨gs, 9, none⟩ (.bool false)) := by
  have h0 : Im T B gs gm cm n v w (m, PG.off A 0) := h.congr (fun j _ => by simp [PG.off])
  have h8 := (((((((h0.off1 (by omega)).off1 (by omega)).off1 (by omega)).off1 (by omega)).off1 (by omega)).off1 (by omega)).off1 (by omega)).off1 (by omega)
  exact ⟨h8.congr (fun j hj => by simp [PG.off, hj]), ((((((((MC.Only.refl gs w).setCell 2 _).setCell 3 _).setCell 4 _).setCell 5 _).setCell 6 _).setCell 7 _).setCell 8 _).setCell 9 _⟩
theorem Im.base {T : TypeId} {B B' gs gm cm n : Nat} {v : Value} {w : World} {s : St} (h : Im T B gs gm cm n v w s) (hb : B' ≤ B) : Im T B' gs gm cm n v w s := ⟨h.obj, own_mono h.m hb, h.ne, Nat.le_trans hb h.le⟩
theorem lets_yes {rec : Nat → St → Bool × St} {j : Nat} {s : St} (h : s.2 j = true) : lets rec (j : Int) s = (false, s) := by unfold lets; rw [Int.toNat_natCast, if_pos h]
theorem lets_free {rec : Nat → St → Bool × St} {j : Nat} {s : St} (h : s.2 j = false) (ho : own s.1 (j : Int) = none) : lets rec (j : Int) s = (true, (s.1, mk s.2 j)) := by unfold lets; rw [Int.toNat_natCast, if_neg (by simp [h]), ho]
theorem lets_rec {rec : Nat → St → Bool × St} {j o : Nat} {s : St} (h : s.2 j = false) (ho : own s.1 (j : Int) = some o) : lets rec (j : Int) s = rec o (s.1, mk s.2 j) := by unfold lets; rw [Int.toNat_natCast, if_neg (by simp [h]), ho]
theorem first_yes {g : Int → St → Bool × St} {left k : Nat} {rs : List Int} {s : St} (hk : k < rs.length) (h : (g (rs.getD k 0) s).1 = true) : first g left (rs.drop k) s = (true, ((g (rs.getD k 0) s).2.1.set left (rs.getD k 0), (g (rs.getD k 0) s).2.2)) := by
  rw [drop_cons hk, first, if_pos h]
theorem first_no {g : Int → St → Bool × St} {left k : Nat} {rs : List Int} {s : St} (hk : k < rs.length) (h : (g (rs.getD k 0) s).1 = false) : first g left (rs.drop k) s = first g left (rs.drop (k + 1)) (g (rs.getD k 0) s).2 := by
  rw [drop_cons hk, first, if_neg (by rw [h]; decide)]
end PG
end Go.Proofs.Ytjfnmhkhjaafkaa
