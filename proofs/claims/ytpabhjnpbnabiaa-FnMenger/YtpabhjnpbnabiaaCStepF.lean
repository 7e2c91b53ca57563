/- The step that a pipe lets one at a node go: stepFrom of the program. -/
import Derived.Test.YtpabhjnpbnabiaaRows
import Derived.Test.YtpabhjnpbnabiaaCRowA
import Derived.WalkKit
import Derived.WalkSpells
import Derived.WalkLawsBesides
import Derived.Outline
import Derived.Deep.RegionHeld3
namespace Go.Proofs.Ytpabhjnpbnabiaa
open Go.RowKit
namespace FL
def sv (c : I3) (v n : Int) (k : Nat) : Stp := if c.a0 = n then ⟨k, false, c.a1, c.a2 - v⟩ else if c.a1 = n then ⟨k, true, c.a0, v⟩ else ⟨0, false, 0, 0⟩
theorem sv_is {xs : List I3} {fs : List Int} {n : Int} {k : Nat} (h : 0 < rm (MI3.at_ xs k) (fs.getD k 0) n) : sv (MI3.at_ xs k) (fs.getD k 0) n k = stp xs fs n k := by
  unfold sv stp
  rcases rm_pos h with ⟨a, b, c, d⟩ | ⟨a, a', b, c, d⟩
  · rw [if_pos a, b, c, d]
  · rw [if_neg a, if_pos a', b, c, d]
end FL
set_option linter.unusedSimpArgs false in
set_option maxHeartbeats 3200000 in
set_option maxRecDepth 100000 in
theorem stepFrom_any (c : I3) (v n : Int) (k : Nat) (w : World) (hg : FL.Good c) (hv0 : 0 ≤ v) (hv1 : v ≤ 100) :
    Calls Try.prog 82 #[c.v, .int .i64 n, .int .i64 (k : Int), .int .i64 v] w fun e w' => e = .returned (.tuple #[(FL.sv c v n k).v, .bool (decide (0 < FL.rm c v n))]) ∧ Below w.heap.size w w' := by
  obtain ⟨x0, x1, x2⟩ := c
  have hc0 : 0 ≤ x2 := hg.c0
  have hc1 : x2 ≤ 100 := hg.c1
  have hne : x0 ≠ x1 := hg.ne
  clear hg
  have HB : Hid (Below w.heap.size w ((w.alloc (.cells #[.int .i64 x0, .int .i64 x1, .int .i64 x2] 68)).alloc (.cells #[.int .i64 0, .bool false, .int .i64 0, .int .i64 0] 111))) := ((Below.refl _ w).alloc (Nat.le_refl _) _).alloc (by simp) _
  have hwr : IntKind.i64.wrap (x2 - v) = x2 - v := by rw [IntKind.wrap_i64]; omega
  by_cases h0 : x0 = n
  · have hF : Hid (FL.sv ⟨x0, x1, x2⟩ v n k = ⟨k, false, x1, x2 - v⟩) := by show _ = _; simp only [FL.sv]; rw [if_pos h0]
    have hF2 : Hid (decide (0 < FL.rm ⟨x0, x1, x2⟩ v n) = decide (v < x2)) := by
      show _ = _; simp only [FL.rm]; rw [if_pos h0]; rw [Bool.eq_iff_iff]; simp only [decide_eq_true_eq]; omega
    rw [hF.out, hF2.out]
    clear hF hF2
    subst h0
    go_enter Try.func82, Try.ntmps82
    go_wp2_with fail
    go_region_held3 (fun w' => w'.cell? ⟨w.heap.size, 0, none⟩ = some (.int .i64 x0) ∧ w'.cell? ⟨w.heap.size, 1, none⟩ = some (.int .i64 x1) ∧ w'.cell? ⟨w.heap.size, 2, none⟩ = some (.int .i64 x2)) (first | assumption | go_keep) (fail)
    have HB2 : Hid (Below w.heap.size w ((w.alloc (.cells #[.int .i64 x0, .int .i64 x1, .int .i64 x2] 68)).alloc (.cells #[.int .i64 (k : Int), .bool false, .int .i64 x1, .int .i64 (x2 - v)] 111)).drew) := (((Below.refl _ w).alloc (Nat.le_refl _) _).alloc (by simp) _).drew
    go_wp2
    exact bodyPost_ret (v := .tuple #[.agg #[.int .i64 (k : Int), .bool false, .int .i64 x1, .int .i64 (x2 - v)], .bool (decide (v < x2))]) (by simp [results, Try.results82, go_sem]) rfl ⟨rfl, HB2.out⟩
  · by_cases h1 : x1 = n
    · have hF : Hid (FL.sv ⟨x0, x1, x2⟩ v n k = ⟨k, true, x0, v⟩) := by show _ = _; simp only [FL.sv]; rw [if_neg h0, if_pos h1]
      have hF2 : Hid (decide (0 < FL.rm ⟨x0, x1, x2⟩ v n) = decide (0 < v)) := by
        show _ = _; simp only [FL.rm]; rw [if_neg h0, if_pos h1]
      rw [hF.out, hF2.out]
      clear hF hF2
      subst h1
      have HB2 : Hid (Below w.heap.size w ((w.alloc (.cells #[.int .i64 x0, .int .i64 x1, .int .i64 x2] 68)).alloc (.cells #[.int .i64 (k : Int), .bool true, .int .i64 x0, .int .i64 v] 111))) := ((Below.refl _ w).alloc (Nat.le_refl _) _).alloc (by simp) _
      have h0' : x1 ≠ x0 := fun e => h0 e.symm
      go_enter Try.func82, Try.ntmps82
      go_wp2
      exact bodyPost_ret (v := .tuple #[.agg #[.int .i64 (k : Int), .bool true, .int .i64 x0, .int .i64 v], .bool (decide (0 < v))]) (by simp [results, Try.results82, go_sem]) rfl ⟨rfl, HB2.out⟩
    · have hF : Hid (FL.sv ⟨x0, x1, x2⟩ v n k = ⟨0, false, 0, 0⟩) := by show _ = _; simp only [FL.sv]; rw [if_neg h0, if_neg h1]
      have hF2 : Hid (decide (0 < FL.rm ⟨x0, x1, x2⟩ v n) = false) := by
        show _ = _; simp only [FL.rm]; rw [if_neg h0, if_neg h1]; rfl
      rw [hF.out, hF2.out]
      clear hF hF2
      have h0' : n ≠ x0 := fun e => h0 e.symm
      have h1' : n ≠ x1 := fun e => h1 e.symm
      go_enter Try.func82, Try.ntmps82
      go_wp2
      exact bodyPost_ret (v := .tuple #[.agg #[.int .i64 0, .bool false, .int .i64 0, .int .i64 0], .bool false]) (by simp [results, Try.results82, go_sem]) rfl ⟨rfl, HB.out⟩
end Go.Proofs.Ytpabhjnpbnabiaa
