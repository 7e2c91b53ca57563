/- What edges link: plain facts, over whatever program. -/
import Derived.Test.YtdglialjcibbbaaMPT
namespace Go.Proofs.Ytdglialjcibbbaa
namespace EG
/-- Two that the edges of S link: whatever is alike at both ends of each of them is alike at both. -/
def Cn (en : Nat → Nat × Nat) (S : Nat → Prop) (a b : Nat) : Prop := ∀ f : Nat → Nat, (∀ k, S k → f (en k).1 = f (en k).2) → f a = f b
theorem Cn.rfl' {en : Nat → Nat × Nat} {S : Nat → Prop} (a : Nat) : Cn en S a a := fun _ _ => rfl
theorem Cn.symm {en : Nat → Nat × Nat} {S : Nat → Prop} {a b : Nat} (h : Cn en S a b) : Cn en S b a := fun f hf => (h f hf).symm
theorem Cn.trans {en : Nat → Nat × Nat} {S : Nat → Prop} {a b c : Nat} (h : Cn en S a b) (h' : Cn en S b c) : Cn en S a c := fun f hf => (h f hf).trans (h' f hf)
theorem Cn.edge {en : Nat → Nat × Nat} {S : Nat → Prop} {k : Nat} (h : S k) : Cn en S (en k).1 (en k).2 := fun _ hf => hf k h
theorem Cn.mono {en : Nat → Nat × Nat} {S T : Nat → Prop} (hs : ∀ k, S k → T k) {a b : Nat} (h : Cn en S a b) : Cn en T a b := fun f hf => h f fun k hk => hf k (hs k hk)
/-- The parts by a row of edges. -/
def pt (en : Nat → Nat × Nat) (ks : List Nat) : Nat → Nat := ks.foldl (fun p k => mrg p (en k).1 (en k).2) fun n => n
theorem pt_nil (en : Nat → Nat × Nat) : pt en [] = fun n => n := rfl
theorem pt_app (en : Nat → Nat × Nat) (ks : List Nat) (k : Nat) : pt en (ks ++ [k]) = mrg (pt en ks) (en k).1 (en k).2 := by simp [pt, List.foldl_append]
theorem mrg_ends (p : Nat → Nat) (x y : Nat) : mrg p x y x = mrg p x y y := by unfold mrg; split <;> split <;> omega
theorem mrg_same {p : Nat → Nat} {x y a b : Nat} (h : p a = p b) : mrg p x y a = mrg p x y b := by unfold mrg; rw [h]
theorem mrg_le' (p : Nat → Nat) (x y n : Nat) : mrg p x y n ≤ p n := by unfold mrg; split <;> omega
theorem rev_ind {P : List Nat → Prop} (h0 : P []) (h1 : ∀ ks k, P ks → P (ks ++ [k])) (ks : List Nat) : P ks := by
  have : ∀ l : List Nat, P l.reverse := by
    intro l
    induction l with
    | nil => exact h0
    | cons a l ih => rw [List.reverse_cons]; exact h1 _ _ ih
  have := this ks.reverse
  rwa [List.reverse_reverse] at this
theorem pt_le (en : Nat → Nat × Nat) (ks : List Nat) : ∀ n, pt en ks n ≤ n := by
  refine rev_ind (P := fun ks => ∀ n, pt en ks n ≤ n) (fun n => Nat.le_refl _) (fun ks k ih n => ?_) ks
  rw [pt_app]; exact Nat.le_trans (mrg_le' _ _ _ _) (ih n)
theorem pt_edge (en : Nat → Nat × Nat) (ks : List Nat) : ∀ k, k ∈ ks → pt en ks (en k).1 = pt en ks (en k).2 := by
  refine rev_ind (P := fun ks => ∀ k, k ∈ ks → pt en ks (en k).1 = pt en ks (en k).2) (fun k hk => by cases hk) (fun ks j ih k hk => ?_) ks
  rw [pt_app]
  rcases List.mem_append.1 hk with h | h
  · exact mrg_same (ih k h)
  · rw [List.mem_singleton.1 h]; exact mrg_ends _ _ _
theorem pt_cn (en : Nat → Nat × Nat) (ks : List Nat) : ∀ n, Cn en (· ∈ ks) n (pt en ks n) := by
  refine rev_ind (P := fun ks => ∀ n, Cn en (· ∈ ks) n (pt en ks n)) (fun n => Cn.rfl' _) (fun ks j ih n f hf => ?_) ks
  have hf' : ∀ k, k ∈ ks → f (en k).1 = f (en k).2 := fun k hk => hf k (List.mem_append_left _ hk)
  have e : f (en j).1 = f (en j).2 := hf j (by simp)
  have h1 := ih (en j).1 f hf'
  have h2 := ih (en j).2 f hf'
  have h3 := ih n f hf'
  rw [pt_app]
  unfold mrg
  split
  · rename_i hc
    rw [hc] at h3
    by_cases c : pt en ks (en j).1 ≤ pt en ks (en j).2
    · rw [Nat.max_eq_right c] at h3; rw [Nat.min_eq_left c, h3, ← h2, ← e, h1]
    · rw [Nat.max_eq_left (by omega)] at h3; rw [Nat.min_eq_right (by omega), h3, ← h1, e, h2]
  · exact h3
theorem pt_iff (en : Nat → Nat × Nat) (ks : List Nat) (a b : Nat) : pt en ks a = pt en ks b ↔ Cn en (· ∈ ks) a b :=
  ⟨fun h => (pt_cn en ks a).trans (h ▸ (pt_cn en ks b).symm), fun h => h _ (pt_edge en ks)⟩
theorem pt_idem (en : Nat → Nat × Nat) (ks : List Nat) (a : Nat) : pt en ks (pt en ks a) = pt en ks a := ((pt_iff en ks _ _).2 (pt_cn en ks a)).symm
/-- The order of the edges does not matter. -/
theorem pt_set (en : Nat → Nat × Nat) {ks js : List Nat} (h : ∀ k, k ∈ ks ↔ k ∈ js) : pt en ks = pt en js := by
  funext a
  have h1 : pt en ks a ≤ pt en js a := by
    have := (pt_cn en js a).mono (T := (· ∈ ks)) fun k hk => (h k).2 hk
    rw [(pt_iff en ks _ _).2 this]; exact pt_le en ks _
  have h2 : pt en js a ≤ pt en ks a := by
    have := (pt_cn en ks a).mono (T := (· ∈ js)) fun k hk => (h k).1 hk
    rw [(pt_iff en js _ _).2 this]; exact pt_le en js _
  omega
theorem pt_lt {en : Nat → Nat × Nat} {ks : List Nat} {n : Nat} (h : n < 8) : pt en ks n < 8 := Nat.lt_of_le_of_lt (pt_le en ks n) h
/-- The ends of an edge. -/
def en (xs : List I3) (k : Nat) : Nat × Nat := ((MI3.at_ xs k).a0.toNat, (MI3.at_ xs k).a1.toNat)
def nat (os : List Int) : List Nat := os.map Int.toNat
theorem nat_take (os : List Int) (k : Nat) (h : k < os.length) : nat (os.take (k + 1)) = nat (os.take k) ++ [(os.getD k 0).toNat] := by
  unfold nat
  rw [List.take_succ_eq_append_getElem h, List.map_append, List.getD_eq_getElem?_getD, List.getElem?_eq_getElem h]; rfl
theorem prt_is (xs : List I3) (os : List Int) (k : Nat) (h : k ≤ os.length) : prt xs os k = pt (en xs) (nat (os.take k)) := by
  induction k with
  | zero => rfl
  | succ k ih => rw [nat_take os k (by omega), pt_app, ← ih (by omega)]; rfl
end EG
end Go.Proofs.Ytdglialjcibbbaa
