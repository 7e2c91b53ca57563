/- Who is reached, in time and near enough: plain facts; one reach more in memory. -/
import Derived.Test.YtjplabldiheggaaMRe
import Derived.Test.YtjplabldiheggaaMFit
import Derived.Test.YtjplabldiheggaaMRou
import Derived.Test.YtjplabldiheggaaMGp
import Derived.Laws.AppendOwn
namespace Go.Proofs.Ytjplabldiheggaa
open Go.RowKit
namespace RQ
open PN
theorem new3 (W : World) (x y z : Value) (e : TypeId) (n : Nat) (hn : W.heap.size = n) : ∀ (j : Nat) (u : Value), [x, y, z][j]? = some u → (W.alloc (.cells #[x, y, z] e)).cell? ((⟨n, 0, none⟩ : Addr).add j) = some u := by
  subst hn
  intro j u hj
  have hl : j < 3 := by have := (List.getElem?_eq_some_iff.1 hj).1; simpa using this
  have ha : (⟨W.heap.size, 0, none⟩ : Addr).add j = ⟨W.heap.size, j, none⟩ := by unfold Addr.add; split <;> simp_all
  rw [ha, World.cell?_alloc_new]
  simpa using hj
theorem one3 (p : Rq) : ∀ u ∈ p.cs, u.oneCell' = true := by intro u hu; simp at hu; rcases hu with rfl | rfl | rfl <;> rfl
theorem only_grown {w w' : World} {v : Value} {g : Nat} (hg : w.grownBy w' v.ownBlock) (h : ∀ k, v.ownBlock = some k → k = g) : MC.Only g w w' := by
  refine ⟨hg.os, hg.tape, hg.output, hg.size, fun k hk hne => hg.block k hk (fun e => hne (h k e.symm))⟩
/-- One reach more behind the last, its row in a block of its own that is younger. -/
theorem Own.snoc {T : TypeId} (hT : T ≠ 3) {w w' : World} {B X : Nat} {v v' : Value} {ps : List Rq} {q : Rq} (h : Own T w B v ps) (hq : NR.In w X q.a q.os) (hBX : B ≤ X) (hold : ∀ p, p ∈ ps → p.os ≠ [] → ∀ g, p.a = some ⟨g, 0, none⟩ → g < X) (hg : w.grownBy w' v.ownBlock) (ho : w'.ownsRow B T 3 v' (ps.length + 1) (flat ps ++ q.cs)) : Own T w' B v' (ps ++ [q]) := by
  have hr : Rows w B (ps ++ [q]) := h.rows.snoc (hq.mono hBX) (fun p hp h1 h2 e => by
    obtain ⟨g, hg⟩ := (h.rows.row p hp).some h1
    have h3 := hold p hp h1 g hg
    rw [← e, hg] at hq
    have := (hq.lt h2).1
    omega)
  refine ⟨by rw [flat_app, List.length_append]; exact ho, ?_⟩
  rcases h.out.2 with ⟨rfl, h0⟩ | ⟨g, cap, cur, rfl, rest⟩
  · refine ⟨fun p hp => ?_, hr.far⟩
    by_cases e : p.os = []
    · rw [e]; exact .nil _ _ _
    · obtain ⟨k, hk⟩ := (hr.row p hp).some e
      exact (hr.row p hp).only (p := k + 1) (only_grown hg (fun k h => by cases h)) (fun e => by rw [hk] at e; simp at e)
  · exact hr.only hT h.out (only_grown hg (fun k h => by simp only [Value.ownBlock, Option.some.injEq] at h; exact h.symm))
theorem Own.only2 {T : TypeId} {w w' : World} {B p : Nat} {v : Value} {ps : List Rq} (h : Own T w B v ps) (ho : MC.Only p w w') (hp : p < B) : Own T w' B v ps := by
  refine ⟨NR.own_only h.out ho (fun e => by have := (h.out.lt _ e).1; omega), fun q hq => ?_, h.rows.far⟩
  by_cases e : q.os = []
  · rw [e]; exact .nil _ _ _
  · refine (h.rows.row q hq).only ho (fun ea => ?_)
    have r := h.rows.row q hq
    rw [ea] at r
    have := (r.lt e).1; omega
/-- Whoever the rows' blocks are, they are there by now. -/
theorem Rows.lt {w : World} {B : Nat} {ps : List Rq} (h : Rows w B ps) : ∀ p, p ∈ ps → p.os ≠ [] → ∀ g, p.a = some ⟨g, 0, none⟩ → g < w.heap.size := fun p hp h1 g hg => by
  have := h.row p hp
  rw [hg] at this
  exact (this.lt h1).2
/-- What RouteTo tells of a member. -/
def one (xs : List I5) (b : Bd) (m : Int) : Int × Int × List Int := (m, tellN (routeM xs b.fr b.md m), routeL xs b.fr b.md m)
def there (xs : List I5) (b : Bd) (m : Int) : Bool := tellB (routeM xs b.fr b.md m)
def allL (xs : List I5) (b : Bd) (ms : List Int) : List (Int × Int × List Int) := (ms.filter (there xs b)).map (one xs b)
def inTime (n : Int) (r : Int × Int × List Int) : Bool := decide (r.2.1 ≤ n)
def near (n : Int) (r : Int × Int × List Int) : Bool := decide ((r.2.2.length : Int) ≤ n)
def reaL (xs : List I5) (b : Bd) (ms : List Int) : List (Int × Int × List Int) := ((allL xs b ms).filter (inTime (b.md + b.lf))).filter (near b.hp)
noncomputable def reaOk (xs : List I5) (b : Bd) (ms : List Int) : Bool := GP.fitsB xs b && EG.rises 8 ms
noncomputable def reaA (xs : List I5) (b : Bd) (ms : List Int) : List (Int × Int × List Int) := if reaOk xs b ms = true then reaL xs b ms else []
theorem allL_yes {xs : List I5} {b : Bd} {ms : List Int} {k : Nat} (hk : k < ms.length) (h : there xs b (ms.getD k 0) = true) : allL xs b (ms.take (k + 1)) = allL xs b (ms.take k) ++ [one xs b (ms.getD k 0)] := by
  unfold allL; rw [M4.take_snoc _ _ hk, List.filter_append, List.filter_cons, if_pos h, List.map_append]; rfl
theorem allL_no {xs : List I5} {b : Bd} {ms : List Int} {k : Nat} (hk : k < ms.length) (h : there xs b (ms.getD k 0) = false) : allL xs b (ms.take (k + 1)) = allL xs b (ms.take k) := by
  unfold allL; rw [M4.take_snoc _ _ hk, List.filter_append, List.filter_cons, h]; simp
def okOne (xs : List I5) (b : Bd) (m : Int) : Bool := there xs b m && inTime (b.md + b.lf) (one xs b m) && near b.hp (one xs b m)
theorem reaL_yes {xs : List I5} {b : Bd} {ms : List Int} {k : Nat} (hk : k < ms.length) (h : okOne xs b (ms.getD k 0) = true) : reaL xs b (ms.take (k + 1)) = reaL xs b (ms.take k) ++ [one xs b (ms.getD k 0)] := by
  simp only [okOne, Bool.and_eq_true] at h
  unfold reaL; rw [allL_yes hk h.1.1, List.filter_append, List.filter_append, List.filter_cons, if_pos h.1.2, List.filter_nil, List.filter_cons, if_pos h.2]; rfl
theorem reaL_no {xs : List I5} {b : Bd} {ms : List Int} {k : Nat} (hk : k < ms.length) (h : okOne xs b (ms.getD k 0) = false) : reaL xs b (ms.take (k + 1)) = reaL xs b (ms.take k) := by
  cases h1 : there xs b (ms.getD k 0) with
  | false => unfold reaL; rw [allL_no hk h1]
  | true =>
    unfold okOne at h
    rw [h1, Bool.true_and] at h
    unfold reaL; rw [allL_yes hk h1]
    generalize one xs b (ms.getD k 0) = r at *
    rw [List.filter_append, List.filter_append, List.filter_cons]
    cases h2 : inTime (b.md + b.lf) r with
    | false => simp
    | true =>
      rw [h2, Bool.true_and] at h
      simp [h]
theorem allL_len (xs : List I5) (b : Bd) (ms : List Int) : (allL xs b ms).length ≤ ms.length := by unfold allL; rw [List.length_map]; exact List.length_filter_le _ _
theorem reaL_len (xs : List I5) (b : Bd) (ms : List Int) : (reaL xs b ms).length ≤ ms.length := by
  unfold reaL
  exact Nat.le_trans (List.length_filter_le _ _) (Nat.le_trans (List.length_filter_le _ _) (allL_len xs b ms))
theorem said_filter (f : Int × Int × List Int → Bool) : ∀ ps : List Rq, (ps.filter (fun p => f p.said)).map Rq.said = (ps.map Rq.said).filter f := fun ps => by rw [List.filter_map]; rfl
theorem rea_no {xs : List I5} {b : Bd} {ms : List Int} (h : reaOk xs b ms = false) : reaA xs b ms = [] := by unfold reaA; rw [h]; rfl
theorem rea_yes {xs : List I5} {b : Bd} {ms : List Int} (h : reaOk xs b ms = true) : reaA xs b ms = reaL xs b ms := by unfold reaA; rw [if_pos h]
theorem reaA_len (xs : List I5) (b : Bd) (ms : List Int) : (reaA xs b ms).length ≤ 8 := by
  unfold reaA
  split
  · next h =>
    unfold reaOk at h
    rw [Bool.and_eq_true] at h
    exact Nat.le_trans (reaL_len xs b ms) (GP.rises_len h.2)
  · simp
theorem reaA_row (xs : List I5) (b : Bd) (ms : List Int) : ∀ r, r ∈ reaA xs b ms → r.2.2.length ≤ 1048576 := by
  unfold reaA
  split
  · intro r hr
    have h1 := (List.mem_filter.1 (List.mem_filter.1 hr).1).1
    obtain ⟨m, _, rfl⟩ := List.mem_map.1 h1
    exact PN.routeL_len _ _ _ _
  · intro r hr; simp at hr
end RQ
end Go.Proofs.Ytjplabldiheggaa
