/- Prim: what the two rows hold (facts, and rows side by side). -/
import Derived.Test.YtdglialjcibbbaaRows
import Derived.Test.YtdglialjcibbbaaCMin
import Derived.Test.YtdglialjcibbbaaCCost
import Derived.Test.YtdglialjcibbbaaCSort
import Derived.WalkKit
import Derived.WalkSpells
import Derived.WalkLawsBesides
import Derived.Outline
import Derived.Maps.AppendAt
namespace Go.Proofs.Ytdglialjcibbbaa
open Go.RowKit
namespace EG
/-- Two rows that the call owns side by side. -/
structure RT (base : Nat) (W : World) (u v : Value) (rs ts : List Int) : Prop where
  a : W.ownsRow base 3 1 u rs.length (M4.iv rs)
  b : W.ownsRow base 3 1 v ts.length (M4.iv ts)
  ne : u.ownBlock ≠ v.ownBlock
  na : u ≠ .slice none 0 0
  nb : v ≠ .slice none 0 0
theorem RT.below {base : Nat} {W W' : World} {u v : Value} {rs ts : List Int} (h : RT base W u v rs ts) (hb : Below W.heap.size W W') : RT base W' u v rs ts := ⟨M5.own_below h.a hb, M5.own_below h.b hb, h.ne, h.na, h.nb⟩
theorem own_ne_new {base : Nat} {W : World} {v : Value} {n : Nat} {L : List Value} (h : W.ownsRow base 3 1 v n L) {k : Nat} (hk : W.heap.size ≤ k) : v.ownBlock ≠ some k := fun e => by have := (h.lt k e).2; omega
theorem RT.appA {base : Nat} {W w1 : World} {u v u' : Value} {rs ts : List Int} {o : Obj} {z : Int} (h : RT base W u v rs ts) (hown : w1.ownsRow base 3 1 u' (rs.length + 1) (M4.iv rs ++ [.int .i64 z])) (hgrow : (W.alloc o).grownBy w1 u.ownBlock) (hnil : u' ≠ .slice none 0 0) (loc : u'.ownBlock = u.ownBlock ∨ u'.ownBlock = some (W.heap.size + 1)) : RT base w1 u' v (rs ++ [z]) ts := by
  refine ⟨by simpa [M4.iv] using hown, (h.b.alloc o).kept hgrow (.inr h.ne.symm), ?_, hnil, h.nb⟩
  rcases loc with l | l
  · rw [l]; exact h.ne
  · rw [l]; exact (own_ne_new h.b (by omega)).symm
theorem RT.appB {base : Nat} {W w1 : World} {u v v' : Value} {rs ts : List Int} {o : Obj} {z : Int} (h : RT base W u v rs ts) (hown : w1.ownsRow base 3 1 v' (ts.length + 1) (M4.iv ts ++ [.int .i64 z])) (hgrow : (W.alloc o).grownBy w1 v.ownBlock) (hnil : v' ≠ .slice none 0 0) (loc : v'.ownBlock = v.ownBlock ∨ v'.ownBlock = some (W.heap.size + 1)) : RT base w1 u v' rs (ts ++ [z]) := by
  refine ⟨(h.a.alloc o).kept hgrow (.inr h.ne), by simpa [M4.iv] using hown, ?_, h.na, hnil⟩
  rcases loc with l | l
  · rw [l]; exact h.ne
  · rw [l]; exact own_ne_new h.a (by omega)
theorem own_emp (w : World) (base : Nat) (h : base ≤ w.heap.size) : (w.alloc (.cells #[] 3)).ownsRow base 3 1 (.slice (some ⟨w.heap.size, 0, none⟩) 0 0) ([] : List Int).length (M4.iv []) := by
  have := World.ownsRow_lit (base := base) (e := 3) (size := 1) w #[] 0 h (by unfold maxLen; omega) (by simp)
  simpa [M4.iv] using this
/-- The row holds just those nodes. -/
structure Rep (rs : List Int) (R : Nat → Bool) : Prop where
  is : ∀ n : Nat, n < 8 → hasB rs (n : Int) = R n
  le : rs.length ≤ cnt R 8
theorem Rep.len {rs : List Int} {R : Nat → Bool} (h : Rep rs R) : rs.length ≤ 8 := Nat.le_trans h.le (cnt_le R 8)
theorem Rep.snoc {rs : List Int} {R R' : Nat → Bool} (h : Rep rs R) {v : Nat} (hv : v < 8) (h0 : R v = false) (hR : ∀ n, n < 8 → R' n = (R n || decide (n = v))) (hm : ∀ n, R n = true → R' n = true) : Rep (rs ++ [(v : Int)]) R' := by
  refine ⟨fun n hn => ?_, ?_⟩
  · rw [hR n hn, ← h.is n hn]
    by_cases e : n = v
    · subst e; simp [hasB]
    · have : ¬ ((n : Int) = (v : Int)) := by omega
      simp [hasB, e, this]
  · have := cnt_lt hm h0 (by rw [hR v hv]; simp) 8 hv
    have := h.le
    simp; omega
theorem Rep.cut {xs : List I3} {rs : List Int} {R : Nat → Bool} (h : Rep rs R) (hg : okP xs = true) {k : Nat} (hk : k < xs.length) : cutB rs (MI3.at_ xs k) = crs xs R k := by
  have G := okP_good hg hk
  obtain ⟨x, hx⟩ := Int.eq_ofNat_of_zero_le G.f0
  obtain ⟨y, hy⟩ := Int.eq_ofNat_of_zero_le G.t0
  have := G.f1; have := G.t1
  have h1 := h.is x (by omega)
  have h2 := h.is y (by omega)
  unfold cutB crs en
  rw [hx, hy, h1, h2]; rfl
def lenV : Value → Nat
  | .slice _ n _ => n
  | _ => 0
theorem own_len {base : Nat} {W : World} {v : Value} {n : Nat} {L : List Value} (h : W.ownsRow base 3 1 v n L) : lenV v = n := by
  rcases h.2 with ⟨rfl, h'⟩ | ⟨g, cap, cur, rfl, _⟩
  · exact h'.symm
  · rfl
/-- What Prim takes, rising. -/
def primL (xs : List I3) : List Int := if okP xs = true then (tks (outer xs 8).2).mergeSort (fun x y => decide (x ≤ y)) else []
def primC (xs : List I3) : Int := if okP xs = true then sumUp xs (primL xs) (primL xs).length else 0
theorem run_len (xs : List I3) : ∀ (f : Nat) (M : Nat → Bool) (T : List Nat), (run xs f M T).2.length ≤ T.length + f
  | 0, _, _ => Nat.le_refl _
  | f + 1, M, T => by
    cases hb : bestUp xs M xs.length with
    | none => rw [run_none hb]; simp
    | some k => rw [run_some hb]; have := run_len xs f (add xs M k) (T ++ [k]); simp at this; omega
theorem outer_len (xs : List I3) : ∀ s, (outer xs s).2.length ≤ 8 * s
  | 0 => Nat.le_refl _
  | s + 1 => by
    have ih := outer_len xs s
    rw [outer]; split
    · omega
    · have := run_len xs 8 (single s) (outer xs s).2; show (run xs 8 (single s) (outer xs s).2).2.length ≤ _; omega
theorem primL_len (xs : List I3) : (primL xs).length ≤ 1048576 := by
  unfold primL; split
  · rw [List.length_mergeSort]; have := outer_len xs 8; simp [tks]; omega
  · simp
theorem outer_skip {xs : List I3} {s : Nat} (h : (outer xs s).1 s = true) : outer xs (s + 1) = outer xs s := by rw [outer, if_pos h]
theorem outer_take {xs : List I3} {s f : Nat} {M : Nat → Bool} {T : List Nat} (h : (outer xs s).1 s = false) (hr : run xs f M T = run xs 8 (single s) (outer xs s).2) (hb : bestUp xs M xs.length = none) : outer xs (s + 1) = (uni (outer xs s).1 M, T) := by
  rw [outer, if_neg (by simp [h]), ← hr, run_none hb]
/-- While a part of start s grows. -/
structure Grow (xs : List I3) (s f : Nat) (M : Nat → Bool) (T : List Nat) : Prop where
  rn : run xs f M T = run xs 8 (single s) (outer xs s).2
  fu : 8 ≤ f + cnt M 8
  iv : PInv xs (outer xs s).1 M T
theorem Grow.step {xs : List I3} {s f k : Nat} {M : Nat → Bool} {T : List Nat} (h : Grow xs s f M T) (hg : okP xs = true) (hb : bestUp xs M xs.length = some k) : ∃ f', Grow xs s f' (add xs M k) (T ++ [k]) := by
  obtain ⟨hk, hc⟩ := best_is _ _ hb
  have G := okP_good hg hk
  have hx8 : (en xs k).1 < 8 := by have := G.f0; have := G.f1; show (MI3.at_ xs k).a0.toNat < 8; omega
  have hy8 : (en xs k).2 < 8 := by have := G.t0; have := G.t1; show (MI3.at_ xs k).a1.toNat < 8; omega
  have hm : ∀ i, M i = true → add xs M k i = true := fun i hi => by simp [add, hi]
  have hlt : cnt M 8 < cnt (add xs M k) 8 := by
    cases h1 : M (en xs k).1 with
    | false => exact cnt_lt hm h1 (by simp [add]) 8 hx8
    | true =>
      have h2 : M (en xs k).2 = false := by rw [crs, h1] at hc; simpa using hc
      exact cnt_lt hm h2 (by simp [add]) 8 hy8
  have := h.fu
  have := cnt_le (add xs M k) 8
  obtain ⟨f', rfl⟩ : ∃ f', f = f' + 1 := ⟨f - 1, by omega⟩
  refine ⟨f', ?_, by omega, h.iv.step hb⟩
  rw [← h.rn, run_some hb]
/-- The end that is new. -/
def newEnd (xs : List I3) (R : Nat → Bool) (k : Nat) : Nat := if R (en xs k).1 = true then (en xs k).2 else (en xs k).1
theorem Grow.rep {xs : List I3} {s f k : Nat} {M : Nat → Bool} {T : List Nat} {rs : List Int} (h : Grow xs s f M T) (hg : okP xs = true) (hb : bestUp xs M xs.length = some k) (hr : Rep rs (uni (outer xs s).1 M)) : newEnd xs (uni (outer xs s).1 M) k < 8 ∧ Rep (rs ++ [(newEnd xs (uni (outer xs s).1 M) k : Int)]) (uni (outer xs s).1 (add xs M k)) := by
  obtain ⟨hk, hc⟩ := best_is _ _ hb
  have G := okP_good hg hk
  have hx8 : (en xs k).1 < 8 := by have := G.f0; have := G.f1; show (MI3.at_ xs k).a0.toNat < 8; omega
  have hy8 : (en xs k).2 < 8 := by have := G.t0; have := G.t1; show (MI3.at_ xs k).a1.toNat < 8; omega
  rw [← h.iv.crs_eq hk] at hc
  have hv8 : newEnd xs (uni (outer xs s).1 M) k < 8 := by unfold newEnd; split <;> assumption
  have key : uni (outer xs s).1 M (newEnd xs (uni (outer xs s).1 M) k) = false ∧ ∀ n, uni (outer xs s).1 (add xs M k) n = (uni (outer xs s).1 M n || decide (n = newEnd xs (uni (outer xs s).1 M) k)) := by
    unfold newEnd
    cases h1 : uni (outer xs s).1 M (en xs k).1 with
    | true =>
      have h2 : uni (outer xs s).1 M (en xs k).2 = false := by rw [crs, h1] at hc; simpa using hc
      refine ⟨by simpa using h2, fun n => ?_⟩
      simp only [if_true]
      by_cases e1 : n = (en xs k).1
      · rw [e1, h1]
        simp only [uni, Bool.or_eq_true] at h1
        simp [uni, add]
      · simp only [uni, add, e1, decide_false, Bool.false_or]
        cases (outer xs s).1 n <;> cases M n <;> simp
    | false =>
      refine ⟨by simpa using h1, fun n => ?_⟩
      have h2 : uni (outer xs s).1 M (en xs k).2 = true := by rw [crs, h1] at hc; simpa using hc
      simp only [Bool.false_eq_true, if_false]
      by_cases e2 : n = (en xs k).2
      · rw [e2, h2]
        simp [uni, add]
      · simp only [uni, add, e2, decide_false, Bool.or_false]
        cases (outer xs s).1 n <;> cases M n <;> simp
  refine ⟨hv8, hr.snoc hv8 key.1 (fun n _ => key.2 n) (fun n hn => by rw [key.2 n, hn]; rfl)⟩
theorem Grow.start {xs : List I3} {s : Nat} (h : OInv xs (outer xs s).1 (outer xs s).2) (hs : (outer xs s).1 s = false) : Grow xs s 8 (single s) (outer xs s).2 := ⟨rfl, by omega, h.begin hs⟩
theorem Rep.single {xs : List I3} {s : Nat} {rs : List Int} (h : Rep rs (outer xs s).1) (hs8 : s < 8) (hs : (outer xs s).1 s = false) : Rep (rs ++ [(s : Int)]) (uni (outer xs s).1 (EG.single s)) :=
  h.snoc hs8 hs (fun n _ => rfl) (fun n hn => by simp [uni, hn])
theorem cut_none {xs : List I3} {rs : List Int} {R : Nat → Bool} (h : Rep rs R) (hg : okP xs = true) (h0 : (cutUp xs rs xs.length).length = 0) : bestUp xs R xs.length = none := by
  rw [← min_cut xs rs R (fun k hk => h.cut hg hk) xs.length (Nat.le_refl _), List.eq_nil_of_length_eq_zero h0]; rfl
theorem cut_in (xs : List I3) (rs : List Int) : InR xs (cutUp xs rs xs.length) := by
  have : ∀ n, ∀ x, x ∈ cutUp xs rs n → 0 ≤ x ∧ x < n := by
    intro n
    induction n with
    | zero => intro x hx; cases hx
    | succ n ih =>
      intro x hx
      rw [cutUp] at hx
      rcases List.mem_append.1 hx with h | h
      · have := ih x h; omega
      · split at h
        · rw [List.mem_singleton.1 h]; omega
        · cases h
  exact ⟨fun k hk => this xs.length _ (by rw [List.getD_eq_getElem?_getD, List.getElem?_eq_getElem hk]; exact List.getElem_mem hk)⟩
theorem OInv.inR {xs : List I3} {D : Nat → Bool} {T : List Nat} (h : OInv xs D T) {os : List Int} (hp : os.Perm (tks T)) : InR xs os := ⟨fun k hk => by
  have hm : os.getD k 0 ∈ tks T := hp.mem_iff.1 (by rw [List.getD_eq_getElem?_getD, List.getElem?_eq_getElem hk]; exact List.getElem_mem hk)
  obtain ⟨j, hj, e⟩ := List.mem_map.1 hm
  have := (h.tk j hj).1
  rw [← e]; omega⟩
theorem OInv.tl {xs : List I3} {D : Nat → Bool} {T : List Nat} (h : OInv xs D T) (hl : xs.length ≤ 24) : (tks T).length ≤ 24 := tks_len h.nd (fun k hk => (h.tk k hk).1) hl
theorem PInv.tl {xs : List I3} {D M : Nat → Bool} {T : List Nat} (h : PInv xs D M T) (hl : xs.length ≤ 24) : (tks T).length ≤ 24 := tks_len h.nd (fun k hk => (h.tk k hk).1) hl
end EG
end Go.Proofs.Ytdglialjcibbbaa
