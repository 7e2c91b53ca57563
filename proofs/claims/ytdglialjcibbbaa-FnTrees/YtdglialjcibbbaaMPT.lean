/- Parts of edges: plain facts. -/
import Derived.Test.YtdglialjcibbbaaMEG
namespace Go.Proofs.Ytdglialjcibbbaa
namespace EG
open Go.RowKit
/-- The edge that a number names. -/
def ofN (xs : List I3) (o : Int) : I3 := MI3.at_ xs o.toNat
/-- Two parts become one: the lesser number stands for both. -/
def mrg (p : Nat → Nat) (x y : Nat) : Nat → Nat := fun n => if p n = max (p x) (p y) then min (p x) (p y) else p n
/-- The parts by the first k of some. -/
def prt (xs : List I3) (os : List Int) : Nat → Nat → Nat
  | 0 => fun n => n
  | k + 1 => mrg (prt xs os k) (ofN xs (os.getD k 0)).a0.toNat (ofN xs (os.getD k 0)).a1.toNat
theorem mrg_le {p : Nat → Nat} {x y : Nat} (hx : x < 8) (hy : y < 8) (h : ∀ n, n < 8 → p n < 8) : ∀ n, n < 8 → mrg p x y n < 8 := by
  intro n hn
  have := h x hx
  have := h y hy
  have := h n hn
  unfold mrg; split <;> omega
theorem good_some {xs : List I3} (h : okP xs = true) {os : List Int} (hr : riseUp xs.length os os.length) {k : Nat} (hk : k < os.length) : Good (ofN xs (os.getD k 0)) ∧ (os.getD k 0).toNat < xs.length := by
  have := hr k hk
  exact ⟨okP_good h (by omega), by omega⟩
theorem prt_lt {xs : List I3} {os : List Int} (h : ∀ k, k < os.length → Good (ofN xs (os.getD k 0))) : ∀ k, k ≤ os.length → ∀ n, n < 8 → prt xs os k n < 8 := by
  intro k
  induction k with
  | zero => exact fun _ n hn => hn
  | succ k ih =>
    intro hk
    have g := h k (by omega)
    exact mrg_le (by have := g.f0; have := g.f1; omega) (by have := g.t0; have := g.t1; omega) (ih (by omega))
/-- Parts in a row. -/
def prL (f : Nat → Nat) : List Int := (List.range 8).map fun i => (f i : Int)
theorem prL_len (f : Nat → Nat) : (prL f).length = 8 := by simp [prL]
theorem prL_get (f : Nat → Nat) {i : Nat} (h : i < 8) : (prL f)[i]? = some (f i : Int) := by simp [prL, h]
theorem prL_id (k : Nat) : ((List.range (k + 1)).map fun (i : Nat) => (i : Int)) = ((List.range k).map fun (i : Nat) => (i : Int)) ++ [(k : Int)] := by simp [List.range_succ]
/-- The first j places are turned. -/
def tun (p : Nat → Nat) (x y j : Nat) : Nat → Nat := fun n => if n < j then mrg p x y n else p n
theorem tun_zero (p : Nat → Nat) (x y : Nat) : tun p x y 0 = p := by funext n; simp [tun]
theorem tun_all (p : Nat → Nat) (x y : Nat) : prL (tun p x y 8) = prL (mrg p x y) := by
  unfold prL
  refine List.map_congr_left fun n hn => ?_
  have : n < 8 := by simpa using hn
  simp [tun, this]
theorem prL_set (f : Nat → Nat) {i : Nat} (v : Nat) (h : i < 8) : (prL f).set i (v : Int) = prL fun n => if n = i then v else f n := by
  refine List.ext_getElem? fun j => ?_
  rw [List.getElem?_set]
  by_cases hj : j < 8
  · rw [prL_get _ hj, prL_get _ hj]
    by_cases e : i = j
    · subst e; rw [if_pos rfl, if_pos (by rw [prL_len]; exact h)]; simp
    · rw [if_neg e]; simp [Ne.symm e]
  · rw [List.getElem?_eq_none (by rw [prL_len]; omega), List.getElem?_eq_none (by rw [prL_len]; omega), if_neg (by omega)]
theorem tun_put (p : Nat → Nat) (x y j : Nat) (h : p j = max (p x) (p y)) : (fun n => if n = j then min (p x) (p y) else tun p x y j n) = tun p x y (j + 1) := by
  funext n
  simp only [tun]
  by_cases e : n = j
  · subst e; rw [if_pos rfl, if_pos (by omega)]; simp [mrg, h]
  · rw [if_neg e]
    by_cases c : n < j
    · rw [if_pos c, if_pos (by omega)]
    · rw [if_neg c, if_neg (by omega)]
theorem tun_keep (p : Nat → Nat) (x y j : Nat) (h : p j ≠ max (p x) (p y)) : tun p x y j = tun p x y (j + 1) := by
  funext n
  simp only [tun]
  by_cases e : n = j
  · subst e; rw [if_neg (by omega), if_pos (by omega)]; simp [mrg, h]
  · by_cases c : n < j
    · rw [if_pos c, if_pos (by omega)]
    · rw [if_neg c, if_neg (by omega)]
end EG
end Go.Proofs.Ytdglialjcibbbaa
