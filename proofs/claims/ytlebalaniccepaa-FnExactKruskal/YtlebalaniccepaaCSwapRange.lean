/- Two blocks of a row of numbers change places (the stable sort's swapRange). -/
import Derived.Test.YtlebalaniccepaaRows
import Derived.Test.YtlebalaniccepaaMSym
import Derived.WalkKit
import Derived.WalkSpells
import Derived.WalkLawsBesides
import Derived.Outline
import Derived.Sort.WalkB12
import Derived.Sort.WalkC
import Derived.BigRegion
namespace Go.Proofs.Ytlebalaniccepaa
open Go.RowKit
namespace MSym
def ar (f : Nat → Nat) (n : Nat) : Array Nat := Array.ofFn (fun k : Fin n => f k)
def nv (x : Nat) : Value := .int .i64 x
theorem ar_size (f : Nat → Nat) (n : Nat) : (ar f n).size = n := by simp [ar]
theorem ar_at (f : Nat → Nat) {n k : Nat} (h : k < n) : (ar f n)[k]! = f k := by
  simp [ar, h]
theorem ar_swp (f : Nat → Nat) {n i j : Nat} (hi : i < n) (hj : j < n) :
    Sort.swp (ar f n) i j = ar (swp f i j) n := by
  have hs : ∀ (k : Nat), (ar f n)[k]? = if k < n then some (f k) else none := by
    intro k; simp [ar, Array.getElem?_ofFn]
  have hs2 : ∀ (k : Nat), (ar (swp f i j) n)[k]? = if k < n then some (swp f i j k) else none := by
    intro k; simp [ar, Array.getElem?_ofFn]
  apply Array.ext_getElem?
  intro k
  rw [hs2, Sort.swp, ar_at f hi, ar_at f hj, Array.getElem?_setIfInBounds, Array.getElem?_setIfInBounds, hs]
  simp only [Array.size_setIfInBounds, ar_size, swp]
  by_cases e1 : j = k
  · subst e1
    by_cases e2 : j = i
    · subst e2; simp [hj]
    · simp [hj, e2]
  · by_cases e2 : i = k
    · subst e2; simp [e1, hi]
    · simp [e1, e2, Ne.symm e1, Ne.symm e2]
end MSym
open MSym
set_option linter.unusedSimpArgs false in
set_option maxHeartbeats 1600000 in
set_option maxRecDepth 1000000 in
theorem swapRange_any (blk off cap N a b m : Nat) (f : Nat → Nat) (fv : Value) (w : World) (hH : Sort.Holds nv w blk off (ar f N)) (hd : a + m ≤ b) (hb : b + m ≤ N) (hN : N ≤ 1000) :
    Calls Try.prog 100 #[.slice (some ⟨blk, off, none⟩) N cap, .int .i64 a, .int .i64 b, .int .i64 m, fv] w fun e w' => e = .returned (.tuple #[]) ∧ ∃ q, w' = (Sort.putRow nv w blk off (ar (swr f a b m) N)).drewN q := by
  have HH : Hid (Sort.Holds nv w blk off (ar f N)) := hH
  have HST : Hid (w = (Sort.putRow nv w blk off (ar (swr f a b 0) N)).drewN 0) := by
    show _ = _
    rw [swr_zero]; exact (Sort.putRow_self nv w blk off _ hH).symm
  clear hH
  go_enter Try.func100, Try.ntmps100
  go_wp2
  go_loopw [10] (fun iv wr => ∃ i q : Nat, iv = .int .i64 i ∧ i ≤ m ∧ wr = (Sort.putRow nv w blk off (ar (swr f a b i) N)).drewN q) (fun iv _ => (m - intOf iv).toNat)
  case atStart => exact ⟨0, 0, rfl, by omega, HST.out⟩
  case round =>
    obtain ⟨i, q, rfl, hi, hwr⟩ := hrel
    clear HST
    by_cases hlt : i < m
    · have hHj := Sort.holds_putRow nv w blk off (ar f N) (ar (swr f a b i) N) HH.out (by simp [ar_size])
      obtain ⟨cj, fj⟩ := hHj (a + i) (by rw [ar_size]; omega)
      obtain ⟨cp, fp⟩ := hHj (b + i) (by rw [ar_size]; omega)
      rw [ar_at _ (by omega)] at cj cp
      obtain ⟨x, hx⟩ : ∃ x, swr f a b i (a + i) = x := ⟨_, rfl⟩
      obtain ⟨y, hy⟩ : ∃ y, swr f a b i (b + i) = y := ⟨_, rfl⟩
      rw [hx] at cj
      rw [hy] at cp
      have cj' : wr.cell? ⟨blk, off + (a + i), none⟩ = some (.int .i64 (x : Int)) := by rw [hwr]; exact cj
      have cp' : wr.cell? ⟨blk, off + (b + i), none⟩ = some (.int .i64 (y : Int)) := by rw [hwr]; exact cp
      have fj' : wr.frozen? ⟨blk, off + (a + i), none⟩ = false := by rw [hwr]; exact fj
      have fp' : wr.frozen? ⟨blk, off + (b + i), none⟩ = false := by rw [hwr]; exact fp
      have HX : Hid (swr f a b i (a + i) = x) := hx
      have HY : Hid (swr f a b i (b + i) = y) := hy
      have HW : Hid _ := hwr
      clear cj cp fj fp hHj hx hy hwr HH
      obtain ⟨p, hp⟩ : ∃ p, p = a + i := ⟨_, rfl⟩
      obtain ⟨r, hr⟩ : ∃ r, r = b + i := ⟨_, rfl⟩
      rw [← hp] at cj' fj'
      rw [← hr] at cp' fp'
      have ep : ((a : Int) + (i : Int)).toNat = p := by omega
      have er : ((b : Int) + (i : Int)).toNat = r := by omega
      have bp : (a : Int) + (i : Int) < (N : Int) := by omega
      have br : (b : Int) + (i : Int) < (N : Int) := by omega
      have p0 : (0 : Int) ≤ (a : Int) + (i : Int) := by omega
      have r0 : (0 : Int) ≤ (b : Int) + (i : Int) := by omega
      have wp : IntKind.i64.wrap ((a : Int) + (i : Int)) = (a : Int) + (i : Int) := by rw [IntKind.wrap_i64]; omega
      have wr_ : IntKind.i64.wrap ((b : Int) + (i : Int)) = (b : Int) + (i : Int) := by rw [IntKind.wrap_i64]; omega
      have hlz : (i : Int) < (m : Int) := by omega
      have HP : Hid (p = a + i) := hp
      have HR : Hid (r = b + i) := hr
      clear hp hr
      go_wp2_with fail
      go_region
      all_goals go_wp2
      all_goals go_roundw
      case rel =>
        refine ⟨i + 1, q + 1, by go_num, by omega, ?_⟩
        have e := swap_worldC nv w blk off (ar (swr f a b i) N) q (a + i) (b + i) (by rw [ar_size]; omega) (by rw [ar_size]; omega)
        rw [ar_at _ (by omega), ar_at _ (by omega), HX.out, HY.out, ar_swp _ (by omega) (by omega), swr_step (n := m) hd hlt] at e
        rw [← e, HW.out, HP.out, HR.out]
        rfl
      case measure => simp [intOf]; omega
    · have hlz : ¬ (i : Int) < (m : Int) := by omega
      have e : i = m := by omega
      subst e
      go_wp2
      go_end0
      exact ⟨rfl, q, rfl⟩
end Go.Proofs.Ytlebalaniccepaa
