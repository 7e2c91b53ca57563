/- Trees grown node by node (Prim): plain facts. -/
import Derived.Test.YtdglialjcibbbaaMPM
import Derived.Test.YtdglialjcibbbaaCInOrder
import Derived.Test.YtdglialjcibbbaaMPS
namespace Go.Proofs.Ytdglialjcibbbaa
namespace EG
def cost (xs : List I3) (k : Nat) : Int := (MI3.at_ xs k).a2
/-- Whether an edge leads out. -/
def crs (xs : List I3) (M : Nat → Bool) (k : Nat) : Bool := M (en xs k).1 != M (en xs k).2
def betr (xs : List I3) (k : Nat) : Option Nat → Bool
  | none => true
  | some b => decide (cost xs k < cost xs b)
/-- The first cheapest of the first k edges that leads out. -/
def bestUp (xs : List I3) (M : Nat → Bool) : Nat → Option Nat
  | 0 => none
  | k + 1 => if crs xs M k = true ∧ betr xs k (bestUp xs M k) = true then some k else bestUp xs M k
theorem best_is {xs : List I3} {M : Nat → Bool} : ∀ n k, bestUp xs M n = some k → k < n ∧ crs xs M k = true
  | 0, k, h => by cases h
  | n + 1, k, h => by
    rw [bestUp] at h
    split at h
    · rename_i hc; simp at h; subst h; exact ⟨by omega, hc.1⟩
    · have := best_is n k h; exact ⟨by omega, this.2⟩
theorem best_none {xs : List I3} {M : Nat → Bool} : ∀ n, bestUp xs M n = none → ∀ k, k < n → crs xs M k = false
  | 0, _, k, hk => by omega
  | n + 1, h, k, hk => by
    rw [bestUp] at h
    split at h
    · cases h
    · rename_i hc
      by_cases e : k = n
      · subst e
        rw [h] at hc
        cases hcr : crs xs M k with
        | false => rfl
        | true => exact absurd ⟨hcr, rfl⟩ hc
      · exact best_none n h k (by omega)
theorem best_congr {xs : List I3} {M M' : Nat → Bool} : ∀ n, (∀ k, k < n → crs xs M k = crs xs M' k) → bestUp xs M n = bestUp xs M' n
  | 0, _ => rfl
  | n + 1, h => by
    rw [bestUp, bestUp, best_congr n (fun k hk => h k (by omega)), h n (by omega)]
def add (xs : List I3) (M : Nat → Bool) (k : Nat) : Nat → Bool := fun n => decide (n = (en xs k).1) || decide (n = (en xs k).2) || M n
/-- How many of the first n. -/
def cnt (M : Nat → Bool) : Nat → Nat
  | 0 => 0
  | n + 1 => cnt M n + (if M n = true then 1 else 0)
theorem cnt_le (M : Nat → Bool) : ∀ n, cnt M n ≤ n
  | 0 => Nat.le_refl _
  | n + 1 => by have := cnt_le M n; rw [cnt]; split <;> omega
theorem cnt_mono {M M' : Nat → Bool} (h : ∀ i, M i = true → M' i = true) : ∀ n, cnt M n ≤ cnt M' n
  | 0 => Nat.le_refl _
  | n + 1 => by
    have := cnt_mono h n
    rw [cnt, cnt]
    by_cases hm : M n = true
    · rw [if_pos hm, if_pos (h n hm)]; omega
    · rw [if_neg hm]; split <;> omega
theorem cnt_lt {M M' : Nat → Bool} (h : ∀ i, M i = true → M' i = true) {v : Nat} (h0 : M v = false) (h1 : M' v = true) : ∀ n, v < n → cnt M n < cnt M' n
  | 0, hv => by omega
  | n + 1, hv => by
    rw [cnt, cnt]
    by_cases e : v = n
    · subst e
      have := cnt_mono h v
      rw [if_neg (by simp [h0]), if_pos h1]; omega
    · have := cnt_lt h h0 h1 n (by omega)
      by_cases hm : M n = true
      · rw [if_pos hm, if_pos (h n hm)]; omega
      · rw [if_neg hm]; split <;> omega
/-- Growing a part. -/
def run (xs : List I3) : Nat → (Nat → Bool) → List Nat → (Nat → Bool) × List Nat
  | 0, M, T => (M, T)
  | f + 1, M, T => match bestUp xs M xs.length with
    | none => (M, T)
    | some k => run xs f (add xs M k) (T ++ [k])
theorem run_none {xs : List I3} {M : Nat → Bool} {T : List Nat} (h : bestUp xs M xs.length = none) (f : Nat) : run xs f M T = (M, T) := by
  cases f with
  | zero => rfl
  | succ f => rw [run, h]
theorem run_some {xs : List I3} {M : Nat → Bool} {T : List Nat} {k : Nat} (h : bestUp xs M xs.length = some k) (f : Nat) : run xs (f + 1) M T = run xs f (add xs M k) (T ++ [k]) := by rw [run, h]
def single (s : Nat) : Nat → Bool := fun n => decide (n = s)
def uni (D M : Nat → Bool) : Nat → Bool := fun n => D n || M n
/-- The first s nodes as starts. -/
def outer (xs : List I3) : Nat → (Nat → Bool) × List Nat
  | 0 => (fun _ => false, [])
  | s + 1 => if (outer xs s).1 s = true then outer xs s else (uni (outer xs s).1 (run xs 8 (single s) (outer xs s).2).1, (run xs 8 (single s) (outer xs s).2).2)
/-- What holds between parts. -/
structure OInv (xs : List I3) (D : Nat → Bool) (T : List Nat) : Prop where
  cl : ∀ k, k < xs.length → D (en xs k).1 = D (en xs k).2
  tk : ∀ k, k ∈ T → k < xs.length ∧ D (en xs k).1 = true ∧ D (en xs k).2 = true
  nd : T.Nodup
/-- What holds while a part grows. -/
structure PInv (xs : List I3) (D M : Nat → Bool) (T : List Nat) : Prop where
  cl : ∀ k, k < xs.length → D (en xs k).1 = D (en xs k).2
  dj : ∀ n, D n = true → M n = false
  tk : ∀ k, k ∈ T → k < xs.length ∧ uni D M (en xs k).1 = true ∧ uni D M (en xs k).2 = true
  nd : T.Nodup
theorem OInv.start (xs : List I3) : OInv xs (fun _ => false) [] := ⟨fun _ _ => rfl, fun k hk => (by cases hk), List.nodup_nil⟩
theorem OInv.begin {xs : List I3} {D : Nat → Bool} {T : List Nat} (h : OInv xs D T) {s : Nat} (hs : D s = false) : PInv xs D (single s) T :=
  ⟨h.cl, fun n hn => (by
    unfold single
    rw [decide_eq_false_iff_not]; intro e; subst e; rw [hs] at hn; cases hn),
   fun k hk => by have := h.tk k hk; exact ⟨this.1, by simp [uni, this.2.1], by simp [uni, this.2.2]⟩, h.nd⟩
theorem PInv.crs_eq {xs : List I3} {D M : Nat → Bool} {T : List Nat} (h : PInv xs D M T) {k : Nat} (hk : k < xs.length) : crs xs (uni D M) k = crs xs M k := by
  have h1 := h.cl k hk
  unfold crs uni
  cases hd : D (en xs k).1 with
  | true =>
    rw [hd] at h1
    rw [← h1, h.dj _ hd, h.dj _ h1.symm]; rfl
  | false => rw [hd] at h1; rw [← h1]; rfl
theorem PInv.best_eq {xs : List I3} {D M : Nat → Bool} {T : List Nat} (h : PInv xs D M T) : bestUp xs (uni D M) xs.length = bestUp xs M xs.length := best_congr _ fun _ hk => h.crs_eq hk
theorem PInv.new {xs : List I3} {D M : Nat → Bool} {T : List Nat} (h : PInv xs D M T) {k : Nat} (hb : bestUp xs M xs.length = some k) : k ∉ T := by
  obtain ⟨hk, hc⟩ := best_is _ _ hb
  intro hm
  have := h.tk k hm
  rw [← h.crs_eq hk, crs, this.2.1, this.2.2] at hc
  cases hc
theorem PInv.step {xs : List I3} {D M : Nat → Bool} {T : List Nat} (h : PInv xs D M T) {k : Nat} (hb : bestUp xs M xs.length = some k) : PInv xs D (add xs M k) (T ++ [k]) := by
  obtain ⟨hk, hc⟩ := best_is _ _ hb
  have hcl := h.cl k hk
  have hda : D (en xs k).1 = false := by
    cases hd : D (en xs k).1 with
    | false => rfl
    | true =>
      have h1 := h.dj _ hd
      rw [hd] at hcl
      have h2 := h.dj _ hcl.symm
      rw [crs, h1, h2] at hc; cases hc
  have hdb : D (en xs k).2 = false := by rw [← hcl]; exact hda
  refine ⟨h.cl, fun n hn => ?_, fun j hj => ?_, ?_⟩
  · have h1 : n ≠ (en xs k).1 := fun e => by rw [e, hda] at hn; cases hn
    have h2 : n ≠ (en xs k).2 := fun e => by rw [e, hdb] at hn; cases hn
    simp [add, h1, h2, h.dj n hn]
  · rcases List.mem_append.1 hj with hj | hj
    · have := h.tk j hj
      refine ⟨this.1, ?_, ?_⟩
      · have h1 := this.2.1
        simp only [uni, add, Bool.or_eq_true] at h1 ⊢
        rcases h1 with h1 | h1
        · exact .inl h1
        · exact .inr (.inr h1)
      · have h1 := this.2.2
        simp only [uni, add, Bool.or_eq_true] at h1 ⊢
        rcases h1 with h1 | h1
        · exact .inl h1
        · exact .inr (.inr h1)
    · rw [List.mem_singleton.1 hj]
      exact ⟨hk, by simp [uni, add], by simp [uni, add]⟩
  · exact List.nodup_append.2 ⟨h.nd, by simp, fun a ha b hb' => by simp at hb'; subst hb'; exact fun e => h.new hb (e ▸ ha)⟩
theorem PInv.finish {xs : List I3} {D M : Nat → Bool} {T : List Nat} (h : PInv xs D M T) (hb : bestUp xs M xs.length = none) : OInv xs (uni D M) T := by
  refine ⟨fun k hk => ?_, h.tk, h.nd⟩
  have h1 := h.cl k hk
  have h2 := best_none _ hb k hk
  have h3 : M (en xs k).1 = M (en xs k).2 := by rw [crs, bne_eq_false_iff_eq] at h2; exact h2
  simp only [uni, h1, h3]
theorem run_inv {xs : List I3} {D : Nat → Bool} : ∀ (f : Nat) (M : Nat → Bool) (T : List Nat), PInv xs D M T → PInv xs D (run xs f M T).1 (run xs f M T).2
  | 0, M, T, h => h
  | f + 1, M, T, h => by
    cases hb : bestUp xs M xs.length with
    | none => rw [run_none hb]; exact h
    | some k => rw [run_some hb]; exact run_inv f _ _ (h.step hb)
/-- The edges taken, rising. -/
def tks (T : List Nat) : List Int := T.map fun k : Nat => (k : Int)
theorem tks_app (T : List Nat) (k : Nat) : tks (T ++ [k]) = tks T ++ [(k : Int)] := by simp [tks]
theorem tks_len {xs : List I3} {T : List Nat} (hn : T.Nodup) (h : ∀ k, k ∈ T → k < xs.length) (hl : xs.length ≤ 24) : (tks T).length ≤ 24 := by
  have := pigeon xs.length T hn h
  simp [tks]; omega
/-- A rising row of the edges that were taken. -/
structure Srt (os : List Int) (T : List Nat) : Prop where
  pm : os.Perm (tks T)
  so : os.Pairwise (· ≤ ·)
theorem Srt.nil : Srt [] [] := ⟨List.Perm.refl _, List.Pairwise.nil⟩
theorem Srt.put {os : List Int} {T : List Nat} (h : Srt os T) (k : Nat) : Srt (putS os (k : Int)) (T ++ [k]) :=
  ⟨by rw [tks_app]; exact (putS_perm os k).trans (h.pm.append_right _), putS_sorted _ _ h.so⟩
theorem Srt.is {os : List Int} {T : List Nat} (h : Srt os T) : (tks T).mergeSort (fun x y => decide (x ≤ y)) = os := sort_unique h.pm.symm h.so
theorem Srt.len {os : List Int} {T : List Nat} (h : Srt os T) : os.length = (tks T).length := h.pm.length_eq
end EG
end Go.Proofs.Ytdglialjcibbbaa
