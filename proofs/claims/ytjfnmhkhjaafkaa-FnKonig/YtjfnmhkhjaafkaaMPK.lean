/- Who goes with whom: what is reached, in memory: plain facts. -/
import Derived.Test.YtjfnmhkhjaafkaaMPF
import Derived.Test.YtjfnmhkhjaafkaaCHasS
namespace Go.Proofs.Ytjfnmhkhjaafkaa
open Go.RowKit
namespace PG
open NR (rw_)
theorem own_grown {W W' : World} {base e sz n : Nat} {v : Value} {xs : List Value} {r : Option Nat} (h : W.ownsRow base e sz v n xs) (hg : W.grownBy W' r) (hne : ∀ g, v.ownBlock = some g → r ≠ some g) : W'.ownsRow base e sz v n xs := by
  refine ⟨h.1, ?_⟩
  rcases h.2 with h' | ⟨g, cap, cur, rfl, h2, h3, h4⟩
  · exact .inl h'
  · refine .inr ⟨g, cap, cur, rfl, h2, ?_, h4⟩
    rw [hg.block g (Array.getElem?_eq_some_iff.1 h3).1 (fun e => hne g rfl e.symm)]; exact h3
/-- Two rows side by side. -/
structure RT (base : Nat) (W : World) (u v : Value) (s : Rs) : Prop where
  a : W.ownsRow base 3 1 u s.1.length (M4.iv s.1)
  b : W.ownsRow base 3 1 v s.2.length (M4.iv s.2)
  ne : ∀ g, u.ownBlock = some g → v.ownBlock ≠ some g
theorem RT.below {base : Nat} {W W' : World} {u v : Value} {s : Rs} (h : RT base W u v s) (hb : Below W.heap.size W W') : RT base W' u v s := ⟨M5.own_below h.a hb, M5.own_below h.b hb, h.ne⟩
theorem own_ne_new {base : Nat} {W : World} {v : Value} {n : Nat} {L : List Value} (h : W.ownsRow base 3 1 v n L) {k : Nat} (hk : W.heap.size ≤ k) : v.ownBlock ≠ some k := fun e => by have := (h.lt k e).2; omega
theorem RT.appA {base : Nat} {W w1 : World} {u v u' : Value} {s : Rs} {o : Obj} {z : Int} (h : RT base W u v s) (hown : w1.ownsRow base 3 1 u' (s.1.length + 1) (M4.iv s.1 ++ [.int .i64 z])) (hgrow : (W.alloc o).grownBy w1 u.ownBlock) (loc : u'.ownBlock = u.ownBlock ∨ u'.ownBlock = some (W.heap.size + 1)) : RT base w1 u' v (s.1 ++ [z], s.2) := by
  refine ⟨by simpa [M4.iv] using hown, own_grown (h.b.alloc o) hgrow (fun g hg e => h.ne g e hg), ?_⟩
  rcases loc with l | l
  · rw [l]; exact h.ne
  · rw [l]; intro g hg; simp only [Option.some.injEq] at hg; exact own_ne_new h.b (by omega)
theorem RT.appB {base : Nat} {W w1 : World} {u v v' : Value} {s : Rs} {o : Obj} {z : Int} (h : RT base W u v s) (hown : w1.ownsRow base 3 1 v' (s.2.length + 1) (M4.iv s.2 ++ [.int .i64 z])) (hgrow : (W.alloc o).grownBy w1 v.ownBlock) (loc : v'.ownBlock = v.ownBlock ∨ v'.ownBlock = some (W.heap.size + 1)) : RT base w1 u v' (s.1, s.2 ++ [z]) := by
  refine ⟨own_grown (h.a.alloc o) hgrow (fun g hg e => h.ne g hg e), by simpa [M4.iv] using hown, ?_⟩
  rcases loc with l | l
  · rw [l]; exact h.ne
  · rw [l]; intro g hg e; simp only [Option.some.injEq] at e; subst e; exact own_ne_new h.a (by omega) hg
theorem rin_step {m : List Int} {rs : List Int} {j : Nat} {s : Rs} (hj : j < rs.length) : rin m (rs.drop j) s = rin m (rs.drop (j + 1)) (rin1 m (rs.getD j 0) s) := by
  rw [drop_cons hj, rin]
theorem rin1_in {m : List Int} {r : Int} {s : Rs} (h : EG.hasB s.2 r = true) : rin1 m r s = s := by
  simp only [EG.hasB, decide_eq_true_eq] at h
  rw [rin1, if_pos h]
theorem rin1_none {m : List Int} {r : Int} {s : Rs} (h : EG.hasB s.2 r = false) (ho : own m r = none) : rin1 m r s = (s.1, s.2 ++ [r]) := by
  simp only [EG.hasB, decide_eq_false_iff_not] at h
  rw [rin1, if_neg h, ho]
theorem rin1_old {m : List Int} {r : Int} {s : Rs} {o : Nat} (h : EG.hasB s.2 r = false) (ho : own m r = some o) (h2 : EG.hasB s.1 o = true) : rin1 m r s = (s.1, s.2 ++ [r]) := by
  simp only [EG.hasB, decide_eq_false_iff_not, decide_eq_true_eq] at h h2
  rw [rin1, if_neg h, ho]
  simp only
  rw [if_pos h2]
theorem rin1_new {m : List Int} {r : Int} {s : Rs} {o : Nat} (h : EG.hasB s.2 r = false) (ho : own m r = some o) (h2 : EG.hasB s.1 o = false) : rin1 m r s = (s.1 ++ [(o : Int)], s.2 ++ [r]) := by
  simp only [EG.hasB, decide_eq_false_iff_not] at h h2
  rw [rin1, if_neg h, ho]
  simp only
  rw [if_neg h2]
theorem rout_go {ws : List (List Int)} {m : List Int} {f k : Nat} {s : Rs} (hk : k < s.1.length) : rout ws m (f + 1) k s = rout ws m f (k + 1) (rin m (rw_ ws (s.1.getD k 0).toNat) s) := by
  rw [rout, if_pos hk]
theorem rout_stop {ws : List (List Int)} {m : List Int} {f k : Nat} {s : Rs} (hk : ¬ k < s.1.length) : rout ws m f k s = s := by
  cases f with
  | zero => rfl
  | succ f => rw [rout, if_neg hk]
theorem Rch.len1 {ws : List (List Int)} {m : List Int} {s : Rs} (h : Rch ws m s) : s.1.length ≤ m.length := nodup_len h.nd h.lt
theorem Rch.len2 {ws : List (List Int)} {m : List Int} {s : Rs} (h : Rch ws m s) : s.2.length ≤ 8 := nodup_len h.nd2 h.lt2
/-- Those numbers, rising, for whom it is so. -/
def those (n : Nat) (P : Nat → Bool) : List Int := ((List.range n).filter P).map fun (i : Nat) => (i : Int)
theorem those_succ (n : Nat) (P : Nat → Bool) : those (n + 1) P = if P n = true then those n P ++ [(n : Int)] else those n P := by
  unfold those
  rw [List.range_succ, List.filter_append, List.map_append]
  by_cases c : P n = true
  · rw [if_pos c, List.filter_cons, if_pos c]; rfl
  · rw [if_neg c, List.filter_cons, if_neg c]; exact List.append_nil _
theorem those_yes {n : Nat} {P : Nat → Bool} (h : P n = true) : those (n + 1) P = those n P ++ [(n : Int)] := by rw [those_succ, if_pos h]
theorem those_no {n : Nat} {P : Nat → Bool} (h : P n = false) : those (n + 1) P = those n P := by rw [those_succ, h]; rfl
theorem those_len (n : Nat) (P : Nat → Bool) : (those n P).length ≤ n := by
  unfold those
  have := List.length_filter_le P (List.range n)
  simpa using this
theorem those_congr {n : Nat} {P Q : Nat → Bool} (h : ∀ i, i < n → P i = Q i) : those n P = those n Q := by
  unfold those
  rw [List.filter_congr (fun i hi => h i (List.mem_range.1 hi))]
theorem those_mem (n : Nat) (P : Nat → Bool) (x : Int) : x ∈ those n P ↔ ∃ i : Nat, i < n ∧ P i = true ∧ x = i := by
  simp only [those, List.mem_map, List.mem_filter, List.mem_range]
  constructor
  · rintro ⟨i, ⟨h1, h2⟩, rfl⟩; exact ⟨i, h1, h2, rfl⟩
  · rintro ⟨i, h1, h2, rfl⟩; exact ⟨i, ⟨h1, h2⟩, rfl⟩
theorem those_lt (n : Nat) (P : Nat → Bool) : (those n P).Pairwise (· < ·) := by
  unfold those
  refine List.Pairwise.map _ (R := (· < ·)) (fun a b h => by omega) (List.Pairwise.filter _ List.pairwise_lt_range)
def Ok8 (m : List Int) : Prop := ∀ j, j < m.length → m.getD j 0 = -1 ∨ (0 ≤ m.getD j 0 ∧ m.getD j 0 < 8)
theorem Ok8.set {m : List Int} (h : Ok8 m) (i : Nat) {x : Int} (hx : 0 ≤ x ∧ x < 8) : Ok8 (m.set i x) := fun j hj => by
  rw [List.length_set] at hj
  by_cases hi : i < m.length
  · rw [getD_set _ _ _ _ hi]
    split
    · exact .inr hx
    · exact h j hj
  · rw [List.set_eq_of_length_le (by omega)]; exact h j hj
theorem lets_ok8 {rec : Nat → St → Bool × St} (h : ∀ o s, Ok8 s.1 → Ok8 (rec o s).2.1) (r : Int) (s : St) (hs : Ok8 s.1) : Ok8 (lets rec r s).2.1 := by
  unfold lets
  split
  · exact hs
  · split
    · exact hs
    · exact h _ _ hs
theorem first_ok8 {g : Int → St → Bool × St} (h : ∀ r s, Ok8 s.1 → Ok8 (g r s).2.1) (left : Nat) : ∀ (rs : List Int) (s : St), (∀ r ∈ rs, 0 ≤ r ∧ r < 8) → Ok8 s.1 → Ok8 (first g left rs s).2.1
  | [], s, _, hs => hs
  | r :: rs, s, hrs, hs => by
    rw [first]; split
    · exact (h r s hs).set left (hrs r (by simp))
    · exact first_ok8 h left rs _ (fun x hx => hrs x (by simp [hx])) (h r s hs)
theorem tr_ok8 {ws : List (List Int)} (G : Gd ws) : ∀ (f left : Nat) (s : St), Ok8 s.1 → Ok8 (tr ws f left s).2.1
  | 0, _, _, hs => hs
  | f + 1, left, s, hs => first_ok8 (fun r s h => lets_ok8 (tr_ok8 G f) r s h) left (rw_ ws left) s (fun r hr => G left r hr) hs
theorem imp_ok8 {ws : List (List Int)} (G : Gd ws) {m : List Int} (hm : Ok8 m) : ∀ (n : Nat) (m' : List Int), imp ws m n = some m' → Ok8 m'
  | 0, m', h => by simp [imp] at h
  | n + 1, m', h => by
    rw [imp] at h
    split at h
    · split at h
      · simp only [Option.some.injEq] at h
        subst h; exact tr_ok8 G 9 _ _ hm
      · exact imp_ok8 G hm n m' h
    · exact imp_ok8 G hm n m' h
theorem all_ok8 {ws : List (List Int)} (G : Gd ws) : ∀ (f : Nat) (m : List Int), Ok8 m → Ok8 (all ws f m)
  | 0, m, h => h
  | f + 1, m, h => by
    cases c : imp ws m m.length with
    | none => rw [all_none f c]; exact h
    | some m' => rw [all_some f c]; exact all_ok8 G f m' (imp_ok8 G h _ m' c)
theorem mAll_ok8 {ws : List (List Int)} (G : Gd ws) (n : Nat) : Ok8 (mAll ws n) := all_ok8 G 9 _ (fun j hj => .inl (none_at n j (by simpa [none_] using hj)))
theorem own_snoc {w : World} {B n : Nat} {v : Value} {l : List Int} {z : Int} (h : w.ownsRow B 3 1 v (l.length + 1) (M4.iv l ++ [.int .i64 z])) (hn : (l ++ [z]).length = n) : w.ownsRow B 3 1 v n (M4.iv (l ++ [z])) := by
  subst hn
  simpa [M4.iv] using h
end PG
end Go.Proofs.Ytjfnmhkhjaafkaa
