/- A pile that is drawn: its row, its box, beside the cursor. -/
import Derived.Test.YtdgflhgbcfehhaaMPD
import Derived.Test.YtdgflhgbcfehhaaMPC
import Derived.Test.YtdgflhgbcfehhaaMCB
import Derived.Test.YtdgflhgbcfehhaaMBX
import Derived.WalkKit
import Derived.OwnWalk
import Derived.Laws.OwnMore
import Derived.Laws.AppendOwnNone
import Derived.Maps.AppendAt
namespace Go.Proofs.Ytdgflhgbcfehhaa
namespace PY
open Go.RowKit
open MP PL
theorem ansS_mem {xs : List Bd} {b x : Bd} (h : x ∈ (PD.ansS xs b).1) : x ∈ xs ∨ x = b := by
  unfold PD.ansS at h
  split at h
  · cases h
  · split at h
    · split at h
      · simp only [PD.put, List.mem_append, List.mem_cons] at h
        rcases h with h | h | h
        · exact .inl (List.mem_of_mem_take h)
        · exact .inr h
        · exact .inl (List.mem_of_mem_drop h)
      · cases h
    · split at h
      · cases h
      · exact .inl h
theorem good_len {xs : List Bd} (h : good xs = true) : xs.length ≤ 60 := by
  simp only [good, Bool.and_eq_true, decide_eq_true_eq] at h; exact h.2
theorem ansS_good {xs : List Bd} {b : Bd} (h : (PD.ansS xs b).2 = true) : good (PD.ansS xs b).1 = true := by
  unfold PD.ansS at h ⊢
  split
  · rename_i h0; rw [if_pos h0] at h; cases h
  · rename_i h0; rw [if_neg h0] at h
    split
    · rename_i h1; rw [if_pos h1] at h
      split
      · rename_i h2; exact h2
      · rename_i h2; rw [if_neg h2] at h; cases h
    · rename_i h1; rw [if_neg h1] at h
      split
      · rename_i h2; rw [if_pos h2] at h; cases h
      · simp at h0; exact h0.1
theorem flat_set {x' : Bd} {f : Nat} {v : Value} (hf : f < 10) : ∀ (xs : List Bd) (k : Nat), k < xs.length → x'.cs = (at_ xs k).cs.set f v → (flat xs).set (k * 10 + f) v = flat (xs.set k x') := by
  intro xs
  induction xs with
  | nil => intro k h; simp at h
  | cons x xs ih =>
    intro k h e
    have hx : x.cs.length = 10 := rfl
    cases k with
    | zero =>
      have e' : x'.cs = x.cs.set f v := e
      show (flat (x :: xs)).set (0 * 10 + f) v = flat (x' :: xs)
      simp only [flat, List.flatMap_cons, Nat.zero_mul, Nat.zero_add]
      rw [List.set_append_left _ _ (by rw [hx]; exact hf), e']
    | succ k =>
      have e' : x'.cs = (at_ xs k).cs.set f v := e
      have := ih k (by simpa using h) e'
      show (flat (x :: xs)).set ((k + 1) * 10 + f) v = flat (x :: xs.set k x')
      simp only [flat, List.flatMap_cons] at this ⊢
      rw [List.set_append_right _ _ (by rw [hx]; omega), hx, show (k + 1) * 10 + f - 10 = k * 10 + f by omega, this]
theorem own_set {w : World} {base e sz n q j : Nat} {v u : Value} {ys : List Value} (h : w.ownsRow base e sz v n ys) (hq : v.ownBlock ≠ some q) : (w.setCell ⟨q, j, none⟩ u).ownsRow base e sz v n ys :=
  h.kept (row := some q) ⟨rfl, rfl, rfl, by simp, fun k _ hk => Below.heap_setCell w ⟨q, j, none⟩ u k (fun e => hk (by rw [e]))⟩ (.inr hq)
theorem rg_only {w w' : World} {p k o : Nat} {cs : List Value} (h : MA.Rg w k o cs) (ho : MC.Only p w w') (hk : k ≠ p) : MA.Rg w' k o cs := by
  obtain ⟨h0, h1, h2⟩ := h
  have e := ho.block k h0 hk
  refine ⟨Nat.lt_of_lt_of_le h0 ho.size, fun j v hv => (World.cell?_of_block (a := ⟨k, o + j, none⟩) e).trans (h1 j v hv), fun j hj => ?_⟩
  obtain ⟨q1, q2⟩ := h2 j hj
  exact ⟨by rw [World.cell?_of_block (a := ⟨k, o + j, none⟩) e]; exact q1, by rw [World.frozen?_of_block (a := ⟨k, o + j, none⟩) e]; exact q2⟩
/-- A row of the call's own is appended to another. -/
theorem wp_app2 {P : Program} {w : World} {ops : Array Oper} {rest : List Oper} {o : Oper} {a : Act} {Q : Exit → Act → World → Prop} (hgd : o.guard = none) (s x : Operand) (t : TypeId)
    (ho : o.op = .call { callee := .builtin .append, args := #[s, x], argTypes := #[t, t] })
    (base : Nat) (e : TypeId) (i : TypeInfo) (z : Value) (size bytes : Nat) (ht : P.underlying t = some (.slice e)) (hi : P.info? e = some i) (hz : i.zero = some z)
    (hsize : i.size = size) (hby : i.bytes = bytes) (hzs : z.cells.size = size) (hsz : 0 < size)
    (v : Value) (n : Nat) (xs : List Value) (hs : a.eval s = v) (hown : w.ownsRow base e size v n xs)
    (base' : Nat) (u : Value) (m : Nat) (ys : List Value) (hx : a.eval x = u) (hsrc : w.ownsRow base' e size u m ys) (h1 : ∀ u ∈ ys, u.oneCell' = true)
    (h63 : n + m ≤ maxLen) (hbytes : (n + m) * bytes ≤ 140737488355328) (hbase : base ≤ w.heap.size)
    (h : ∀ v' w', w'.ownsRow base e size v' (n + m) (xs ++ ys) → w.grownBy w' v.ownBlock → (v'.ownBlock = v.ownBlock ∨ v'.ownBlock = some w.heap.size) → wpList P ops Q rest (a.put o.dst v') w') :
    wpList P ops Q (o :: rest) a w := by
  have hl := hsrc.1
  rcases hsrc.2 with ⟨rfl, rfl⟩ | ⟨g, cap, cur, rfl, hb, hg, hc1, hc2, hc3, hc4⟩
  · rw [Nat.zero_mul] at hl
    obtain rfl := List.eq_nil_of_length_eq_zero hl
    refine wpList_append_own_none hgd s x t ho base e i size ht hi v n xs hs hown hx (h v w (by simpa using hown) ⟨rfl, rfl, rfl, Nat.le_refl _, fun k _ _ => rfl⟩ (.inl rfl))
  · exact wpList_append_own_at _ hgd s x t ho base e i z size bytes ht hi hz hsize hby hzs hsz v n xs hs hown ⟨g, 0, none⟩ m cap ys hx hl (hsrc.cells rfl) h1 h63 hbytes hbase (fun v' w' a b _ c => h v' w' a b c)
/-- Where the drawn pile is: its box q, its row, the row of all pieces, the results' box r. -/
structure PS (w W : World) (p : Nat) (a : Option Addr) (zs : List Int) (cap M r q : Nat) (A : Value) (L : List Bd) (u : Value) (xs : List Bd) : Prop where
  cur : MC.Cur W p a zs cap M
  only : MC.Only p w W
  pl : p < w.heap.size
  all : W.ownsRow w.heap.size 24 10 A L.length (flat L)
  res : MA.Rg W r 0 [.slice none 0 0]
  box : MA.Rg W q 0 [u]
  row : W.ownsRow w.heap.size 24 10 u xs.length (flat xs)
  hr : w.heap.size ≤ r
  hq : w.heap.size ≤ q
  rq : r ≠ q
  uq : u.ownBlock ≠ some q
  ur : u.ownBlock ≠ some r
  Aq : A.ownBlock ≠ some q
  Ar : A.ownBlock ≠ some r
  ne : u.ownBlock = none ∨ u.ownBlock ≠ A.ownBlock
variable {w W W' : World} {p : Nat} {a : Option Addr} {zs : List Int} {cap M r q : Nat} {A : Value} {L : List Bd} {u : Value} {xs : List Bd}
theorem PS.kept (h : PS w W p a zs cap M r q A L u xs) (hb : Below W.heap.size W W') : PS w W' p a zs cap M r q A L u xs :=
  ⟨h.cur.below hb, h.only.trans (MC.Only.of_below hb), h.pl, own_below h.all hb, h.res.below hb h.res.lt, h.box.below hb h.box.lt, own_below h.row hb, h.hr, h.hq, h.rq, h.uq, h.ur, h.Aq, h.Ar, h.ne⟩
theorem PS.drawn {M' : Nat} (h : PS w W p a zs cap M r q A L u xs) (hc : MC.Cur W' p a zs cap M') (ho : MC.Only p W W') : PS w W' p a zs cap M' r q A L u xs :=
  ⟨hc, h.only.trans ho, h.pl, MC.own_only h.all ho h.pl, rg_only h.res ho (by have := h.pl; have := h.hr; omega), rg_only h.box ho (by have := h.pl; have := h.hq; omega), MC.own_only h.row ho h.pl, h.hr, h.hq, h.rq, h.uq, h.ur, h.Aq, h.Ar, h.ne⟩
theorem PS.more {M' : Nat} (h : PS w W p a zs cap M r q A L u xs) (hm : M ≤ M') : PS w W p a zs cap M' r q A L u xs := ⟨h.cur.more hm, h.only, h.pl, h.all, h.res, h.box, h.row, h.hr, h.hq, h.rq, h.uq, h.ur, h.Aq, h.Ar, h.ne⟩
/-- Another row comes into the box. -/
theorem PS.put {u' : Value} {ys : List Bd} {B : Nat} (h : PS w W p a zs cap M r q A L u xs) (hr : W.ownsRow B 24 10 u' ys.length (flat ys)) (hB : w.heap.size ≤ B) (hrB : r < B) (hqB : q < B) (hAB : ∀ j, A.ownBlock = some j → j < B) :
    PS w (W.setCell ⟨q, 0, none⟩ u') p a zs cap M r q A L u' ys := by
  have hlt := hr.lt
  have uq : u'.ownBlock ≠ some q := fun e => by have := (hlt _ e).1; omega
  have ur : u'.ownBlock ≠ some r := fun e => by have := (hlt _ e).1; omega
  refine ⟨BX.cur_set h.cur (by have := h.pl; have := h.hq; omega), BX.only_set h.only h.hq, h.pl, own_set h.all h.Aq, CB.off1 h.res h.rq _, h.box.put1 (j := 0) (by simp) u', CB.own_mono (own_set hr uq) hB, h.hr, h.hq, h.rq, uq, ur, h.Aq, h.Ar, ?_⟩
  cases e : u'.ownBlock with
  | none => exact .inl rfl
  | some j => exact .inr (fun e2 => by have := (hlt _ e).1; have := hAB j e2.symm; omega)
/-- One field of one piece is set. -/
theorem PS.sets {g n c k f : Nat} {x' : Bd} {v : Value} (h : PS w W p a zs cap M r q A L (.slice (some ⟨g, 0, none⟩) n c) xs) (hn : n = xs.length) (hk : k < xs.length) (hf : f < 10) (e : x'.cs = (at_ xs k).cs.set f v) :
    PS w (W.setCell ⟨g, k * 10 + f, none⟩ v) p a zs cap M r q A L (.slice (some ⟨g, 0, none⟩) n c) (xs.set k x') := by
  subst hn
  have h1 := (h.row.lt g rfl).1
  have gq : g ≠ q := fun e => h.uq (by rw [e]; rfl)
  have gr : g ≠ r := fun e => h.ur (by rw [e]; rfl)
  have gA : A.ownBlock ≠ some g := fun e => by
    rcases h.ne with e2 | e2
    · cases e2
    · exact e2 e.symm
  have hst := (h.row.stored (k * 10 + f) v).1
  rw [flat_set hf xs k hk e] at hst
  refine ⟨BX.cur_set h.cur (by have := h.pl; omega), BX.only_set h.only h1, h.pl, own_set h.all gA, CB.off1 h.res (Ne.symm gr) _, CB.off1 h.box (Ne.symm gq) _, ?_, h.hr, h.hq, h.rq, h.uq, h.ur, h.Aq, h.Ar, h.ne⟩
  rw [List.length_set]
  exact hst
theorem PS.kind (h : PS w W p a zs cap M r q A L u xs) : (u = .slice none 0 0 ∧ xs = []) ∨ ∃ g c, u = .slice (some ⟨g, 0, none⟩) xs.length c ∧ xs.length ≤ c ∧ g < W.heap.size ∧ BsAt W (some ⟨g, 0, none⟩) xs := by
  rcases h.row.2 with ⟨e, h0⟩ | ⟨g, cap, cur, e, hb, hg, hc1, hc2, hc3, hc4⟩
  · exact .inl ⟨e, List.eq_nil_of_length_eq_zero h0⟩
  · have := h.row
    rw [e] at this
    exact .inr ⟨g, cap, e, hc1, (this.lt g rfl).2, BsAt.of_own this⟩
theorem set_mem {xs : List Bd} {k : Nat} {x' x : Bd} (h : x ∈ xs.set k x') : x ∈ xs ∨ x = x' := by
  rcases List.mem_or_eq_of_mem_set h with h | h
  · exact .inl h
  · exact .inr h
theorem small {xs : List Bd} (h : ∀ x ∈ xs, x.py.size ≤ 61) : ∀ k, k < xs.length → (at_ xs k).py.size ≤ 1048576 := fun k hk => by
  have := h (at_ xs k) (by rw [at_eq xs k hk]; exact List.getElem_mem hk)
  omega
end PY
end Go.Proofs.Ytdgflhgbcfehhaa
