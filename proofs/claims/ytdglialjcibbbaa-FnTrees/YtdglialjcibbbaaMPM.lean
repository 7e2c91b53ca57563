/- Parts in a map: what lies there, key by key. -/
import Derived.Test.YtdglialjcibbbaaRows
import Derived.Test.YtdglialjcibbbaaMCN
import Derived.WalkKit
import Derived.WalkSpells
import Derived.WalkLawsBesides
import Derived.Deep.QuietTactic
import Derived.BigQuiet
import Derived.Maps.OwnOps
import Derived.Maps.Views
import Derived.Maps.RangeWalk
namespace Go.Proofs.Ytdglialjcibbbaa
open Go.RowKit Go.Maps
namespace EG
/-- No number twice, each below n: n at most. -/
theorem pigeon : ∀ (n : Nat) (l : List Nat), l.Nodup → (∀ x, x ∈ l → x < n) → l.length ≤ n
  | 0, l, _, h => by
    cases l with
    | nil => simp
    | cons a l => exact absurd (h a (by simp)) (by omega)
  | n + 1, l, hd, h => by
    by_cases hm : n ∈ l
    · have := pigeon n (l.erase n) (hd.erase n) (fun x hx => by
        have h1 := h x (List.mem_of_mem_erase hx)
        have h2 : x ≠ n := ((List.Nodup.mem_erase_iff hd).1 hx).1
        omega)
      rw [List.length_erase_of_mem hm] at this
      omega
    · have := pigeon n l hd (fun x hx => by
        have h1 := h x hx
        have h2 : x ≠ n := fun e => hm (e ▸ hx)
        omega)
      omega
end EG
theorem keyed3 : Keyed Try.prog 3 := int_keyed Try.underlying3
theorem zero3 (w : World) : (zeroValue 3).run Try.prog w = .ok (.int .i64 0) w := by kernel_rfl
theorem under53 : Try.prog.underlying 52 = some (.map 3 3) := by kernel_rfl
def litNat : Lit → Nat
  | .int _ x => x.toNat
  | _ => 0
theorem wfN {i : Nat} (h : i ≤ 1000000) : (Lit.int .i64 (i : Int)).wf = true := WalkArith.wf_i64 (by omega)
/-- A map whose keys are below 8 holds 8 at most. -/
theorem tight8 {w : World} {b n : Nat} {D : DataW Unit} (h : w.ownsMap Try.prog 3 (plainElem Try.prog 3) b n D) (hk : ∀ kl, has D kl = true → ∃ i : Nat, i < 8 ∧ kl = .int .i64 (i : Int)) : w.ownsMap Try.prog 3 (plainElem Try.prog 3) b 8 D := by
  obtain ⟨es, hD, hpw, hkl⟩ := h.entries keyed3
  have hin : ∀ p, p ∈ es → ∃ i : Nat, i < 8 ∧ p.1 = .int .i64 (i : Int) := fun p hp => hk p.1 (by
    rw [hD, has_eq, List.any_eq_true]
    refine ⟨p, hp, ?_⟩
    exact WideAt.sameKey_self (hkl p hp))
  have hlen : es.length ≤ 8 := by
    have := EG.pigeon 8 (es.map fun p => litNat p.1) (by
      refine List.pairwise_map.2 (hpw.imp_of_mem fun {p q} hp hq hne e => hne ?_)
      obtain ⟨i, _, hi⟩ := hin p hp
      obtain ⟨j, _, hj⟩ := hin q hq
      rw [hi, hj] at e ⊢
      simp only [litNat] at e
      have : i = j := by omega
      rw [this]) (by
      intro x hx
      obtain ⟨p, hp, rfl⟩ := List.mem_map.1 hx
      obtain ⟨i, hi, he⟩ := hin p hp
      rw [he]; simp only [litNat]; omega)
    simpa using this
  obtain ⟨es', clock, hb, F, hs, hD'⟩ := h
  refine ⟨es', clock, hb, F, ?_, hD'⟩
  rw [hD] at hD'
  have e1 : es.length = es'.size := by
    have := congrArg Maps.size hD'
    simp only [size_eq, length_sorted] at this
    simpa using this
  omega
/-- The first n nodes' parts lie in the map. -/
structure PMn (w : World) (b n : Nat) (f : Nat → Nat) : Prop where
  is : ∃ D : DataW Unit, w.ownsMap Try.prog 3 (plainElem Try.prog 3) b 8 D ∧ IsMap D ∧ (∀ i, i < n → ∀ z, D.atKey (.int .i64 ((i : Nat) : Int)) z = .lit (.int .i64 ((f i : Nat) : Int))) ∧ (∀ kl, has D kl = true → ∃ i : Nat, i < n ∧ kl = .int .i64 (i : Int))
theorem PMn.lt {w : World} {b n : Nat} {f : Nat → Nat} (h : PMn w b n f) : b < w.heap.size := by obtain ⟨D, h1, _⟩ := h.is; exact h1.lt
theorem PMn.keep {w w' : World} {b n : Nat} {f : Nat → Nat} (h : PMn w b n f) (hb : w'.heap[b]? = w.heap[b]?) : PMn w' b n f := by
  obtain ⟨D, ⟨es, clock, h1, h2⟩, h3⟩ := h.is
  exact ⟨D, ⟨es, clock, hb.trans h1, h2⟩, h3⟩
theorem PMn.below {w w' : World} {b n : Nat} {f : Nat → Nat} (h : PMn w b n f) (hb : Below w.heap.size w w') : PMn w' b n f := h.keep (hb.block b h.lt)
theorem PMn.drewN {w : World} {b n : Nat} {f : Nat → Nat} (h : PMn w b n f) (m : Nat) : PMn (w.drewN m) b n f := h.below (below_drewN (Below.refl _ _) m)
theorem PMn.made (w : World) (f : Nat → Nat) : PMn (w.alloc (.map #[] 0)) w.heap.size 0 f :=
  ⟨.map [], (World.ownsMap_made w _ _ _).mono (by omega), isMap_empty, fun i hi => by omega, fun kl h => by simp [has_eq] at h⟩
theorem PMn.look {w : World} {b n : Nat} {f : Nat → Nat} (h : PMn w b n f) {i : Nat} (hi : i < n) (h8 : n ≤ 8) : (Instr.lookup 52 (.map (some b)) (.int .i64 (i : Int)) false).run Try.prog w = .ok (.int .i64 (f i : Int)) w := by
  obtain ⟨D, h1, h2, h3, h4⟩ := h.is
  obtain ⟨c, hrun, hat, _⟩ := h1.lookup_int keyed3 under53 Try.underlying3 (zero3 _) (keyOf_int_mk Try.underlying3 (wfN (i := i) (by omega)))
  rw [h3 i hi] at hat
  have : c = (f i : Int) := by simpa using hat.symm
  rw [hrun, this]
theorem PMn.put {w : World} {b n : Nat} {f : Nat → Nat} (h : PMn w b n f) {i v : Nat} (hi : i ≤ n) (h8 : i < 8) (hn : n ≤ 8) (hv : v ≤ 1000) : ∃ w', (Instr.mapUpdate 52 (.map (some b)) (.int .i64 (i : Int)) (.int .i64 (v : Int))).run Try.prog w = .ok () w' ∧
    PMn w' b (max n (i + 1)) (fun j => if j = i then v else f j) ∧ w.grownBy w' (some b) := by
  obtain ⟨D, h1, h2, h3, h4⟩ := h.is
  have hkl : WideAt.IsKeyLit (.int .i64 (i : Int)) := by trivial
  obtain ⟨w', hrun, ho, hg⟩ := h1.update keyed3 under53 (by unfold maxLen; omega) (keyOf_int_mk Try.underlying3 (wfN (i := i) (by omega))) (plainElem_int Try.underlying3 (wfN (i := v) (by omega)))
  have hk : ∀ kl, has (D.put (.int .i64 (i : Int)) (.lit (.int .i64 (v : Int)))) kl = true → ∃ j : Nat, j < max n (i + 1) ∧ kl = .int .i64 (j : Int) := by
    intro kl hh
    by_cases e : kl = .int .i64 (i : Int)
    · exact ⟨i, by omega, e⟩
    · rw [has_put_other e] at hh
      obtain ⟨j, hj, e'⟩ := h4 kl hh
      exact ⟨j, by omega, e'⟩
  refine ⟨w', hrun, ⟨_, tight8 ho (fun kl hh => ?_), h2.put _ _, fun j hj z => ?_, hk⟩, hg⟩
  · obtain ⟨j, hj, e⟩ := hk kl hh; exact ⟨j, by omega, e⟩
  · by_cases e : j = i
    · subst e; rw [if_pos rfl]; exact atKey_put_same h2 hkl _ _
    · rw [if_neg e, atKey_put_other (by simp; omega)]
      exact h3 j (by omega) z
end Go.Proofs.Ytdglialjcibbbaa
