/- The laws' markBundleS and markPile write into one row alone. -/
import Derived.Test.YtjekofjhplhemaaRows
import Derived.Test.YtjekofjhplhemaaCMarkText
import Derived.Test.YtjekofjhplhemaaMA2
import Derived.Test.YtjekofjhplhemaaMCur
import Derived.WalkKit
import Derived.WalkSpells
import Derived.WalkLawsBesides
import Derived.Outline
namespace Go.Proofs.Ytjekofjhplhemaa
open Go.RowKit
theorem put9 {wr : World} {g n i : Nat} {cs : List Value} (h : MA.Rg wr g 0 cs) (hl : cs.length = n * 10) (hi : i < n) (v0 v1 v2 v3 v4 v5 v6 v7 v8 : Value) : ∃ cs', cs'.length = n * 10 ∧ MA.Rg (((((((((wr.setCell ⟨g, i * 10, none⟩ (v0)).setCell ⟨g, i * 10 + 1, none⟩ (v1)).setCell ⟨g, i * 10 + 2, none⟩ (v2)).setCell ⟨g, i * 10 + 3, none⟩ (v3)).setCell ⟨g, i * 10 + 4, none⟩ (v4)).setCell ⟨g, i * 10 + 5, none⟩ (v5)).setCell ⟨g, i * 10 + 6, none⟩ (v6)).setCell ⟨g, i * 10 + 7, none⟩ (v7)).setCell ⟨g, i * 10 + 8, none⟩ (v8)) g 0 cs' := by
  have p0 := h.put1 (j := i * 10) (by omega) v0
  have p1 := p0.put1 (j := i * 10 + 1) (by simp; omega) v1
  have p2 := p1.put1 (j := i * 10 + 2) (by simp; omega) v2
  have p3 := p2.put1 (j := i * 10 + 3) (by simp; omega) v3
  have p4 := p3.put1 (j := i * 10 + 4) (by simp; omega) v4
  have p5 := p4.put1 (j := i * 10 + 5) (by simp; omega) v5
  have p6 := p5.put1 (j := i * 10 + 6) (by simp; omega) v6
  have p7 := p6.put1 (j := i * 10 + 7) (by simp; omega) v7
  have p8 := p7.put1 (j := i * 10 + 8) (by simp; omega) v8
  simp only [Nat.zero_add] at p8
  exact ⟨_, by simp [hl], p8⟩
theorem some_rg {w : World} {g j : Nat} {cs : List Value} (h : MA.Rg w g 0 cs) (hj : j < cs.length) : ∃ y, w.cell? ⟨g, j, none⟩ = some y := ⟨cs[j], by have := h.cell (List.getElem?_eq_getElem hj); rwa [Nat.zero_add] at this⟩
theorem free_rg {w : World} {g j : Nat} {cs : List Value} (h : MA.Rg w g 0 cs) (hj : j < cs.length) : w.frozen? ⟨g, j, none⟩ = false := by have := h.free hj; rwa [Nat.zero_add] at this
set_option linter.unusedSimpArgs false in
set_option maxHeartbeats 1600000 in
set_option maxRecDepth 100000 in
theorem markBundleS_only (g n k : Nat) (cs : List Value) (w : World) (hz : n ≤ 1048576) (hk : k ≤ 1000000) (hc : cs.length = n * 10) (hin : n = 0 ∨ MA.Rg w g 0 cs) :
    Calls Try.prog 55 #[.slice (some ⟨g, 0, none⟩) n n, .int .i64 (k : Int)] w fun e w' => e = .returned (.int .i64 ((k + 10 * n : Nat) : Int)) ∧ MC.Only g w w' := by
  go_enter Try.func55, Try.ntmps55
  go_wp2
  go_loopw [1, 5] (fun kv iv wr => ∃ i : Nat, kv = .int .i64 ((k + 10 * i : Nat) : Int) ∧ iv = .int .i64 i ∧ i ≤ n ∧ (∃ cs, cs.length = n * 10 ∧ (n = 0 ∨ MA.Rg wr g 0 cs)) ∧ MC.Only g w wr) (fun _ iv _ => (n - intOf iv).toNat)
  case atStart => exact ⟨0, by simp, rfl, by omega, ⟨cs, hc, hin⟩, MC.Only.refl _ _⟩
  case round =>
    clear hc hin
    obtain ⟨i, rfl, rfl, hi, ⟨cs, hc, hin⟩, hO⟩ := hrel
    by_cases hl : i < n
    · have hR : MA.Rg wr g 0 cs := by rcases hin with h | h; omega; exact h
      clear hin
      obtain ⟨y0, c0⟩ := some_rg hR (j := i * 10) (by omega)
      have f0 := free_rg hR (j := i * 10) (by omega)
      obtain ⟨y1, c1⟩ := some_rg hR (j := i * 10 + 1) (by omega)
      have f1 := free_rg hR (j := i * 10 + 1) (by omega)
      obtain ⟨y2, c2⟩ := some_rg hR (j := i * 10 + 2) (by omega)
      have f2 := free_rg hR (j := i * 10 + 2) (by omega)
      obtain ⟨y3, c3⟩ := some_rg hR (j := i * 10 + 3) (by omega)
      have f3 := free_rg hR (j := i * 10 + 3) (by omega)
      obtain ⟨y4, c4⟩ := some_rg hR (j := i * 10 + 4) (by omega)
      have f4 := free_rg hR (j := i * 10 + 4) (by omega)
      obtain ⟨y5, c5⟩ := some_rg hR (j := i * 10 + 5) (by omega)
      have f5 := free_rg hR (j := i * 10 + 5) (by omega)
      obtain ⟨y6, c6⟩ := some_rg hR (j := i * 10 + 6) (by omega)
      have f6 := free_rg hR (j := i * 10 + 6) (by omega)
      obtain ⟨y7, c7⟩ := some_rg hR (j := i * 10 + 7) (by omega)
      have f7 := free_rg hR (j := i * 10 + 7) (by omega)
      obtain ⟨y8, c8⟩ := some_rg hR (j := i * 10 + 8) (by omega)
      have f8 := free_rg hR (j := i * 10 + 8) (by omega)
      obtain ⟨y9, c9⟩ := some_rg hR (j := i * 10 + 9) (by omega)
      have f9 := free_rg hR (j := i * 10 + 9) (by omega)
      have HR : Hid _ := hR
      have MT : Hid _ := fun (x : Int) W (hx : x = ((k + 10 * i + 9 : Nat) : Int)) => markText_int x (k + 10 * i + 9) W hx (by omega)
      have hi0 : (0 : Int) ≤ (i : Int) := by omega
      have hin : (i : Int) < (n : Int) := by omega
      clear hR
      go_wp2_with fail
      generalize hW9 : World.setCell _ ⟨g, i * 10 + 8, none⟩ _ = W9
      obtain ⟨cs', hc', hR'⟩ : ∃ cs', cs'.length = n * 10 ∧ MA.Rg W9 g 0 cs' := by rw [← hW9]; exact put9 HR.out hc hl _ _ _ _ _ _ _ _ _
      have hO9 : MC.Only g w W9 := by rw [← hW9]; exact (((((((((hO.setCell _ _).setCell _ _).setCell _ _).setCell _ _).setCell _ _).setCell _ _).setCell _ _).setCell _ _).setCell _ _)
      clear hW9 HR c0 f0 c1 f1 c2 f2 c3 f3 c4 f4 c5 f5 c6 f6 c7 f7 c8 f8 c9 f9 hO hc
      refine Calls.mono (MT.out _ _ (by omega)) ?_
      rintro e w2 ⟨rfl, hb2⟩
      have hR2 := hR'.below hb2 hR'.lt
      have hO2 := hO9.trans (MC.Only.of_below hb2)
      obtain ⟨y, c⟩ := some_rg hR2 (j := i * 10 + 9) (by omega)
      have f := free_rg hR2 (j := i * 10 + 9) (by omega)
      have hR3 := hR2.put1 (j := i * 10 + 9) (by omega) (.string (M18.mt (k + 10 * i + 9)))
      rw [Nat.zero_add] at hR3
      have HR3 : Hid _ := hR3
      have HO3 : Hid _ := hO2.setCell (i * 10 + 9) (.string (M18.mt (k + 10 * i + 9)))
      clear hR' hR2 hR3 hO2 hO9 hb2 MT
      generalize M18.mt (k + 10 * i + 9) = tx at *
      go_wp2
      go_roundw
      case rel => exact ⟨i + 1, by go_num, by go_num, by omega, ⟨_, by simp [hc'], .inr HR3.out⟩, HO3.out⟩
      case measure => simp [intOf]; omega
    · obtain rfl : i = n := by omega
      clear hin
      go_wp2
      go_ret
      exact ⟨rfl, hO⟩
set_option linter.unusedSimpArgs false in
set_option maxHeartbeats 400000 in
set_option maxRecDepth 100000 in
theorem markPile_only (g n k : Nat) (cs : List Value) (w : World) (hz : n ≤ 1048576) (hk : k ≤ 1000000) (hc : cs.length = n * 10) (hin : MA.Rg w g 0 cs) :
    Calls Try.prog 16 #[.agg #[.slice (some ⟨g, 0, none⟩) n n], .int .i64 (k : Int)] w fun e w' => e = .returned (.int .i64 ((k + 10 * n : Nat) : Int)) ∧ MC.Only g w w' := by
  have MB : Hid _ := fun W h => markBundleS_only g n k cs W hz hk hc (.inr h)
  have hB : Below w.heap.size w (w.alloc (.cells #[.slice (some ⟨g, 0, none⟩) n n] 31)) := (Below.refl _ w).alloc (Nat.le_refl _) _
  have HI : Hid (MA.Rg (w.alloc (.cells #[.slice (some ⟨g, 0, none⟩) n n] 31)) g 0 cs) := hin.below hB hin.lt
  go_enter Try.func16, Try.ntmps16
  go_wp2_with fail
  refine (MB.out _ HI.out).mono ?_
  rintro e w2 ⟨rfl, hO⟩
  have hO2 := (MC.Only.of_below (p := g) hB).trans hO
  clear MB HI hO hB
  go_wp2
  go_ret
  exact ⟨rfl, hO2⟩
end Go.Proofs.Ytjekofjhplhemaa
