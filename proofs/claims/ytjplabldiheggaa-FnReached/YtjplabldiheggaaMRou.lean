/- RouteTo's answers: plain facts. -/
import Derived.Test.YtjplabldiheggaaM6R
import Derived.Test.YtjplabldiheggaaMSta
import Derived.Test.YtjplabldiheggaaM5
namespace Go.Proofs.Ytjplabldiheggaa
open Go.RowKit
namespace PN
/-- Whether RouteTo is asked of nodes and a time. -/
def askOk (xs : List I5) (f n t : Int) : Bool := startOk xs f n && decide (0 ≤ t ∧ t ≤ 7)
/-- When one is there. -/
def routeM (xs : List I5) (f n t : Int) : FL.Mo := if askOk xs f n t = true then (fin xs (st0 f n)).wh t.toNat else .inf
def routeL (xs : List I5) (f n t : Int) : List Int := if tellB (routeM xs f n t) = true then way xs (fin xs (st0 f n)).la f.toNat 8 t.toNat else []
theorem routeL_len (xs : List I5) (f n t : Int) : (routeL xs f n t).length ≤ 1048576 := by
  unfold routeL; split
  · have := way_len xs (fin xs (st0 f n)).la f.toNat 8 t.toNat; omega
  · simp
theorem route_no {xs : List I5} {f n t : Int} (h : askOk xs f n t = false) : routeM xs f n t = .inf := by simp [routeM, h]
theorem route_yes {xs : List I5} {f n t : Int} (h : askOk xs f n t = true) : routeM xs f n t = (fin xs (st0 f n)).wh t.toNat := by simp [routeM, h]
theorem routeL_no {xs : List I5} {f n t : Int} (h : tellB (routeM xs f n t) = false) : routeL xs f n t = [] := by simp [routeL, h]
theorem routeL_yes {xs : List I5} {f n t : Int} (h : tellB (routeM xs f n t) = true) : routeL xs f n t = way xs (fin xs (st0 f n)).la f.toNat 8 t.toNat := by simp [routeL, h]
theorem ask_is {xs : List I5} {f n t : Int} (h : askOk xs f n t = true) : startOk xs f n = true ∧ 0 ≤ t ∧ t ≤ 7 := by
  simp only [askOk, Bool.and_eq_true, decide_eq_true_eq] at h
  exact ⟨h.1, h.2.1, h.2.2⟩
/-- On the way back: a node that was reached, what is still to come, and what is there. -/
structure Back (xs : List I5) (f : Nat) (s : St) (L : List Int) (v : Nat) (acc : List Int) : Prop where
  lt : v < 8
  at_ : ∃ p, s.wh v = .fin p
  go : ∃ rk m, Via xs f s rk ∧ rk v ≤ m ∧ m + acc.length = 8 ∧ L = way xs s.la f m v ++ acc
theorem Back.end_ {xs : List I5} {f : Nat} {s : St} {L acc : List Int} (h : Back xs f s L f acc) : L = acc := by
  obtain ⟨rk, m, _, _, _, e⟩ := h.go
  rw [e, way_end]; rfl
theorem Back.next {xs : List I5} (hok : okP xs = true) {f : Nat} {s : St} {L acc : List Int} {v : Nat} (h : Back xs f s L v acc) (hv : v ≠ f) : ∃ k, s.la v = some k ∧ k < xs.length ∧ acc.length < 8 ∧ Back xs f s L (MI5.at_ xs k).a0.toNat ((k : Int) :: acc) := by
  obtain ⟨rk, m, hV, hr, hm, e⟩ := h.go
  obtain ⟨p, hp⟩ := h.at_
  obtain ⟨k, h1, h2, h3, h4⟩ := hV.via v hv p hp
  have g := okP_good hok h2
  cases m with
  | zero => omega
  | succ m =>
    refine ⟨k, h1, h2, by omega, by have := g.f0; have := g.f1; omega, h3, rk, m, hV, by omega, by simp; omega, ?_⟩
    rw [e, way_step hv h1]; simp
theorem Back.start {xs : List I5} {f : Nat} {s : St} {rk : Nat → Nat} (hV : Via xs f s rk) {v : Nat} (hv : v < 8) {p : Int} (hp : s.wh v = .fin p) : Back xs f s (way xs s.la f 8 v) v [] :=
  ⟨hv, ⟨p, hp⟩, rk, 8, hV, Nat.le_trans (hV.top v p hp) (cnt_le _), rfl, by simp⟩
def lenV : Value → Nat
  | .slice _ l _ => l
  | _ => 0
theorem own_len {W : World} {base e sz n : Nat} {v : Value} {L : List Value} (h : W.ownsRow base e sz v n L) : lenV v = n := by
  rcases h.2 with ⟨rfl, h0⟩ | ⟨g, cap, cur, rfl, _⟩
  · exact h0.symm
  · rfl
theorem own_lit0 (W : World) (base : Nat) (hb : base ≤ W.heap.size) : (W.alloc (.cells #[] 3)).ownsRow base 3 1 (.slice (some ⟨W.heap.size, 0, none⟩) ([] : List Int).length 0) ([] : List Int).length (M4.iv ([] : List Int).reverse) := by
  have := World.ownsRow_lit (base := base) (e := 3) (size := 1) W #[] 0 hb (by unfold maxLen; omega) (by simp)
  simpa [M4.iv] using this
theorem own_lit1 (W : World) (base : Nat) (z : Int) (hb : base ≤ W.heap.size) : (W.alloc (.cells #[.int .i64 z] 3)).ownsRow base 3 1 (.slice (some ⟨W.heap.size, 0, none⟩) 1 1) 1 [.int .i64 z] := by
  have := World.ownsRow_lit (base := base) (e := 3) (size := 1) W #[.int .i64 z] 1 hb (by unfold maxLen; omega) (by simp)
  simpa using this
end PN
end Go.Proofs.Ytjplabldiheggaa
