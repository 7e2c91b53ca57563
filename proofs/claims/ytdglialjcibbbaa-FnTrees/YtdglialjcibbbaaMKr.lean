/- Kruskal as plain facts: the edges taken of a row that is gone through from the front; cheapest first. -/
import Derived.Test.YtdglialjcibbbaaMPR
import Derived.Test.YtdglialjcibbbaaMIR
import Derived.Test.YtdglialjcibbbaaMSym
import Derived.Test.YtdglialjcibbbaaCCost
namespace Go.Proofs.Ytdglialjcibbbaa
open Go.RowKit
namespace EG
/-- One edge: taken where its ends are not linked. -/
def krS (xs : List I3) (T : List Nat) (k : Nat) : List Nat := if pt (en xs) T (en xs k).1 = pt (en xs) T (en xs k).2 then T else T ++ [k]
/-- The edges taken. -/
def krT (xs : List I3) (ks : List Nat) : List Nat := ks.foldl (krS xs) []
theorem kr_snoc (xs : List I3) (ks : List Nat) (k : Nat) : krT xs (ks ++ [k]) = krS xs (krT xs ks) k := by simp [krT, List.foldl_append]
theorem kr_sub (xs : List I3) : ∀ ks, ∀ k, k ∈ krT xs ks → k ∈ ks := fun ks => rev_ind (P := fun ks => ∀ k, k ∈ krT xs ks → k ∈ ks) (fun k h => by simp [krT] at h) (fun ks j ih k h => by
  rw [kr_snoc] at h
  unfold krS at h
  split at h
  · exact List.mem_append.2 (.inl (ih k h))
  · rcases List.mem_append.1 h with h | h
    · exact List.mem_append.2 (.inl (ih k h))
    · exact List.mem_append.2 (.inr h)) ks
theorem kr_nodup (xs : List I3) : ∀ ks : List Nat, ks.Nodup → (krT xs ks).Nodup := fun ks => rev_ind (P := fun ks => ks.Nodup → (krT xs ks).Nodup) (fun _ => by simp [krT]) (fun ks j ih h => by
  rw [List.nodup_append] at h
  rw [kr_snoc]; unfold krS; split
  · exact ih h.1
  · rw [List.nodup_append]
    refine ⟨ih h.1, by simp, fun a ha b hb e => ?_⟩
    exact h.2.2 a (kr_sub xs ks a ha) b hb e) ks
theorem mrg_eq {p : Nat → Nat} {x y : Nat} (h : p x = p y) : mrg p x y = p := by
  funext n; unfold mrg; split <;> omega
theorem kr_parts (xs : List I3) (T : List Nat) (k : Nat) : mrg (pt (en xs) T) (en xs k).1 (en xs k).2 = pt (en xs) (krS xs T k) := by
  unfold krS; split
  · rename_i h; exact mrg_eq h
  · rw [pt_app]
/-- What an edge costs, as a plain number. -/
def cst (xs : List I3) (k : Nat) : Nat := (cost xs k).toNat
theorem cost_pos {xs : List I3} (h : okP xs = true) (k : Nat) : 0 ≤ cost xs k ∧ cost xs k ≤ 1000 := by
  by_cases hk : k < xs.length
  · have G := okP_good h hk; exact ⟨G.c0, G.c1⟩
  · simp [cost, MI3.at_, List.getElem?_eq_none (Nat.le_of_not_lt hk), I3.zero]
theorem cst_lt {xs : List I3} (h : okP xs = true) (k : Nat) : cst xs k < 1001 := by have := cost_pos h k; unfold cst; omega
theorem cst_is {xs : List I3} (h : okP xs = true) (k : Nat) : cost xs k = (cst xs k : Int) := by have := cost_pos h k; unfold cst; omega
/-- All edges, cheapest first. -/
def krO (xs : List I3) : List Nat := MSym.byCost (cst xs) xs.length 1001
theorem up_nodup {c : Nat → Nat} {l : List Nat} (h : l.Pairwise (MSym.Lex c)) : l.Nodup := h.imp (fun {a b} hl e => by subst e; exact MSym.Lex.irr c a hl)
theorem byCost_nodup (c : Nat → Nat) (n m : Nat) : (MSym.byCost c n m).Nodup := up_nodup (MSym.byCost_up c n m)
/-- The edges that the specification has met. -/
def mt (xs : List I3) (q k : Nat) : List Nat := MSym.byCost (cst xs) xs.length q ++ (List.range k).filter (fun x => decide (cst xs x = q))
theorem mt_zero (xs : List I3) (q : Nat) : mt xs q 0 = MSym.byCost (cst xs) xs.length q := by simp [mt]
theorem mt_all (xs : List I3) (q : Nat) : mt xs q xs.length = mt xs (q + 1) 0 := by rw [mt_zero]; rfl
theorem mt_end (xs : List I3) : mt xs 1001 0 = krO xs := mt_zero xs 1001
theorem mt_yes {xs : List I3} {q k : Nat} (h : cst xs k = q) : mt xs q (k + 1) = mt xs q k ++ [k] := by
  unfold mt; rw [List.range_succ, List.filter_append, ← List.append_assoc]; simp [h]
theorem mt_no {xs : List I3} {q k : Nat} (h : cst xs k ≠ q) : mt xs q (k + 1) = mt xs q k := by
  unfold mt; rw [List.range_succ, List.filter_append]; simp [h]
theorem mt_lt {xs : List I3} {q k : Nat} (hk : k ≤ xs.length) : ∀ x, x ∈ mt xs q k → x < xs.length := by
  intro x hx
  rcases List.mem_append.1 hx with h | h
  · exact ((MSym.byCost_mem _ _ _ _).1 h).1
  · have := List.mem_range.1 (List.mem_filter.1 h).1; omega
theorem mt_new {xs : List I3} {q k : Nat} : k ∉ mt xs q k ∨ cst xs k ≠ q := by
  by_cases h : cst xs k = q
  · refine .inl (fun hx => ?_)
    rcases List.mem_append.1 hx with h1 | h1
    · have := ((MSym.byCost_mem _ _ _ _).1 h1).2; omega
    · have := List.mem_range.1 (List.mem_filter.1 h1).1; omega
  · exact .inr h
theorem mt_nodup (xs : List I3) (q k : Nat) : (mt xs q k).Nodup := by
  unfold mt
  rw [List.nodup_append]
  refine ⟨byCost_nodup _ _ _, List.nodup_range.filter _, fun a ha b hb e => ?_⟩
  subst e
  have h1 := ((MSym.byCost_mem _ _ _ _).1 ha).2
  have h2 := (List.mem_filter.1 hb).2
  simp only [decide_eq_true_eq] at h2
  omega
/-- What is taken of some edges. -/
structure KT (xs : List I3) (T : List Nat) : Prop where
  nd : T.Nodup
  lt : ∀ k, k ∈ T → k < xs.length
theorem KT.of {xs : List I3} {ks : List Nat} (h1 : ks.Nodup) (h2 : ∀ k, k ∈ ks → k < xs.length) : KT xs (krT xs ks) := ⟨kr_nodup xs ks h1, fun k hk => h2 k (kr_sub xs ks k hk)⟩
theorem KT.len {xs : List I3} {T : List Nat} (h : KT xs T) (hl : xs.length ≤ 24) : (tks T).length ≤ 24 := tks_len h.nd h.lt hl
theorem KT.inR {xs : List I3} {T : List Nat} (h : KT xs T) {os : List Int} (hp : os.Perm (tks T)) : InR xs os := ⟨fun k hk => by
  have hm : os.getD k 0 ∈ os := by rw [List.getD_eq_getElem?_getD, List.getElem?_eq_getElem hk]; exact List.getElem_mem hk
  have := hp.mem_iff.1 hm
  obtain ⟨j, hj, e⟩ := List.mem_map.1 this
  have := h.lt j hj
  rw [← e]; omega⟩
theorem Srt.parts {xs : List I3} {os : List Int} {T : List Nat} (h : Srt os T) : prt xs os os.length = pt (en xs) T := by
  rw [prt_is xs os os.length (Nat.le_refl _), List.take_length]
  refine pt_set (en xs) (fun k => ?_)
  unfold nat
  rw [List.mem_map]
  constructor
  · rintro ⟨x, hx, rfl⟩
    obtain ⟨j, hj, e⟩ := List.mem_map.1 (h.pm.mem_iff.1 hx)
    rw [← e]; simpa using hj
  · intro hk
    exact ⟨(k : Int), h.pm.mem_iff.2 (List.mem_map.2 ⟨k, hk, rfl⟩), by simp⟩
theorem Srt.notin {os : List Int} {T : List Nat} (h : Srt os T) {k : Nat} (hk : k ∉ T) : (k : Int) ∉ os := fun hx => by
  obtain ⟨j, hj, e⟩ := List.mem_map.1 (h.pm.mem_iff.1 hx)
  have : j = k := by exact Int.ofNat.inj e
  exact hk (this ▸ hj)
noncomputable def kruL (xs : List I3) : List Int := if okP xs = true then (tks (krT xs (krO xs))).mergeSort (fun x y => decide (x ≤ y)) else []
noncomputable def kruC (xs : List I3) : Int := if okP xs = true then sumUp xs (kruL xs) (kruL xs).length else 0
theorem krO_kt (xs : List I3) : KT xs (krT xs (krO xs)) := KT.of (byCost_nodup _ _ _) (fun _ hk => ((MSym.byCost_mem _ _ _ _).1 hk).1)
theorem take_kt (xs : List I3) (i : Nat) : KT xs (krT xs ((krO xs).take i)) := KT.of ((byCost_nodup (cst xs) xs.length 1001).sublist (List.take_sublist i _)) (fun _ hk => ((MSym.byCost_mem _ _ _ _).1 (List.mem_of_mem_take hk)).1)
theorem kruL_len (xs : List I3) : (kruL xs).length ≤ 1048576 := by
  unfold kruL; split
  · rename_i h
    rw [List.length_mergeSort]
    have := (krO_kt xs).len ((okP_iff xs).1 h).1
    omega
  · simp
theorem krO_len {xs : List I3} (h : okP xs = true) : (krO xs).length = xs.length := by
  have p : (krO xs).Perm (List.range xs.length) := by
    refine (List.perm_ext_iff_of_nodup (byCost_nodup (cst xs) xs.length 1001) List.nodup_range).2 (fun a => ?_)
    rw [MSym.byCost_mem, List.mem_range]
    exact ⟨fun k => k.1, fun k => ⟨k, cst_lt h a⟩⟩
  rw [p.length_eq, List.length_range]
end EG
end Go.Proofs.Ytdglialjcibbbaa
