/- A found row of pipes, from its end on: plain facts. -/
import Derived.Test.YtpabhjnpbnabiaaMFW
import Derived.WalkKit
namespace Go.Proofs.Ytpabhjnpbnabiaa
namespace FL
open Go.RowKit
theorem own_base {w : World} {base base' e sz n : Nat} {v : Value} {xs : List Value} (h : w.ownsRow base e sz v n xs) (hb : base' ≤ base) : w.ownsRow base' e sz v n xs := by
  refine ⟨h.1, ?_⟩
  rcases h.2 with h' | ⟨g, cap, cur, h1, h2, h3⟩
  · exact .inl h'
  · exact .inr ⟨g, cap, cur, h1, by omega, h3⟩
structure Back (xs : List I3) (fs : List Int) (s : St) (m k p : Nat) : Prop where
  hk : k < xs.length
  hp : p < 8
  by_ : s.by_.getD m 0 = (k : Int)
  is : s.by_.getD p 0 ≠ -1
  L : s.L m = s.L p ++ [stp xs fs (p : Int) k]
  lt : (s.L p).length < (s.L m).length
  ne : p ≠ m
  way : ((MI3.at_ xs k).a0 = (p : Int) ∧ (MI3.at_ xs k).a1 = (m : Int) ∧ bk (MI3.at_ xs k) (p : Int) = false) ∨ ((MI3.at_ xs k).a0 = (m : Int) ∧ (MI3.at_ xs k).a1 = (p : Int) ∧ bk (MI3.at_ xs k) (p : Int) = true)
theorem Tree.back {xs : List I3} {fs : List Int} {f : Int} {s : St} (hok : okP xs = true) (h : Tree xs fs f s) {m : Nat} (hm : m < 8) (hr : s.by_.getD m 0 ≠ -1) (hf : (m : Int) ≠ f) : ∃ k p : Nat, Back xs fs s m k p := by
  obtain ⟨k, p, hk, hp, hb, hp2, hnx, h0, hL⟩ := h.via m hm hr hf
  have G := okP_good hok hk
  have hw := nx_within G h0
  refine ⟨k, p, hk, hp, hb, hp2, hL, by rw [hL]; simp, fun e => hw.2.2 (by rw [hnx, e]), ?_⟩
  rcases rm_pos h0 with ⟨a, _, b, d⟩ | ⟨_, b, _, c, d⟩
  · left; exact ⟨a, by rw [← hnx, b], d⟩
  · right; exact ⟨by rw [← hnx, c], b, d⟩
/-- Behind a place of the row: what follows it. -/
theorem putR_at {more : Int} {fs : List Int} {l l1 l2 : List Stp} {x : Stp} (hl : ∀ y ∈ l, y.k < fs.length) (hn : (l.map Stp.k).Nodup) (e : l = l1 ++ (x :: l2)) : (putR more fs l2).getD x.k 0 = fs.getD x.k 0 := by
  have h2 : ∀ y ∈ l2, y.k < fs.length := fun y hy => hl y (by rw [e]; simp [hy])
  rw [putR_is _ _ _ h2, putL_not _ _ h2]
  rw [e] at hn
  simp only [List.map_append, List.map_cons, List.nodup_append, List.nodup_cons] at hn
  exact hn.2.1.1
theorem augN_is {xs : List I3} {fs : List Int} {f t : Int} (h : reach xs fs f t = true) : augN xs fs f t = mostOf (rowL xs fs f t) := by unfold augN; rw [if_pos h]
theorem augL_is {xs : List I3} {fs : List Int} {f t : Int} (R : Row xs fs f t) (hl : fs.length = xs.length) (h : reach xs fs f t = true) : augL xs fs f t = putR (mostOf (rowL xs fs f t)) fs (rowL xs fs f t) := by
  unfold augL; rw [if_pos h, putR_is _ _ _ (fun x hx => by rw [hl]; exact (R.rooms x hx).1)]
/-- A measure of the way back. -/
def ml (s : St) (v : Value) : Nat := (s.L (intOf v).toNat).length
theorem ml_lt {s : St} {p n : Nat} (h : (s.L p).length < (s.L n).length) : ml s (.int .i64 (p : Int)) < ml s (.int .i64 (n : Int)) := by
  unfold ml; simpa [intOf] using h
/-- What AugmentOnce answers, before it is asked whether it may be. -/
def ansL (xs : List I3) (fs : List Int) (f t : Int) : List Int := if reach xs fs f t = true then augL xs fs f t else []
/-- What is known where a row leads there. -/
structure Aug (fs : List Int) (S : St) (tn : Nat) (N : Int) (LL : List Int) : Prop where
  n : lst (S.L tn) = N
  pos : 0 < N
  up : N ≤ 100
  l : putR N fs (S.L tn) = LL
  k : ∀ x ∈ S.L tn, x.k < fs.length
  one : ((S.L tn).map Stp.k).Nodup
  len : LL.length = fs.length
structure Case (fs : List Int) (S : St) (tn : Nat) (N : Int) (LL : List Int) : Prop where
  no : S.by_.getD tn 0 = -1 → N = 0 ∧ LL = []
  yes : S.by_.getD tn 0 ≠ -1 → Aug fs S tn N LL
theorem case_of {xs : List I3} {fs : List Int} {f : Int} {tn : Nat} (A : Ask xs f (tn : Int)) (hl : fs.length = xs.length) (hfit : fitUp xs fs xs.length) : Case fs (srch xs fs f) tn (augN xs fs f (tn : Int)) (ansL xs fs f (tn : Int)) := by
  have hre : reach xs fs f (tn : Int) = !decide ((srch xs fs f).by_.getD tn 0 = -1) := by unfold reach; rw [Int.toNat_natCast]
  have hrl : rowL xs fs f (tn : Int) = (srch xs fs f).L tn := by unfold rowL; rw [Int.toNat_natCast]
  constructor
  · intro h
    rw [decide_eq_true h] at hre
    have hr : reach xs fs f (tn : Int) = false := hre
    unfold augN ansL; rw [hr]; exact ⟨rfl, rfl⟩
  · intro h
    rw [decide_eq_false h] at hre
    have hr : reach xs fs f (tn : Int) = true := hre
    have R := row_of A hfit hr
    have e : ansL xs fs f (tn : Int) = augL xs fs f (tn : Int) := by unfold ansL; rw [if_pos hr]
    rw [e, augN_is hr, augL_is R hl hr, hrl]
    have R1 := R.most; have R2 := R.pos; have R3 := R.up; have R4 := R.rooms; have R5 := R.one
    rw [hrl] at R1 R2 R3 R4 R5
    exact ⟨R1, R2, R3, rfl, fun x hx => by rw [hl]; exact (R4 x hx).1, R5, putR_len _ _ _⟩
end FL
end Go.Proofs.Ytpabhjnpbnabiaa
