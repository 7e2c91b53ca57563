/- Marks in rows of roads: markRoadS, heldRoadS. -/
import Derived.Test.YtmgbckdomdoncabRows
import Derived.Test.YtmgbckdomdoncabMRM
import Derived.WalkKit
import Derived.WalkSpells
import Derived.WalkLawsBesides
import Derived.Outline
namespace Go.Proofs.Ytmgbckdomdoncab
open Go.RowKit
set_option maxHeartbeats 1600000 in
set_option maxRecDepth 100000 in
theorem markRoadS_own (base : Nat) (v : Value) (xs : List I3) (k : Int) (w : World) (hz : xs.length ≤ 1048576) (hk0 : 0 ≤ k) (hk : k ≤ 1073741824) (hbase : base ≤ w.heap.size) (hown : w.ownsRow base 36 3 v xs.length (MI3.flat xs)) :
    Calls Try.prog 9 #[v, .int .i64 k] w fun e w' => e = .returned (.int .i64 (k + 3 * xs.length)) ∧ w'.ownsRow base 36 3 v xs.length (MI3.flat (RD.mks k xs.length)) ∧ Below base w w' := by
  rcases hown.2 with ⟨rfl, h0⟩ | ⟨g, cap, cur, rfl, hg, hrest⟩
  · obtain rfl : xs = [] := List.eq_nil_of_length_eq_zero h0
    go_enter Try.func9, Try.ntmps9
    go_wp2
    refine wp_loop_rounds 1 ?_
    rw [rounds_succ]
    go_wp2
    go_ret
    exact ⟨by simp, World.ownsRow_nil _ _ _ _, Below.refl _ _⟩
  · clear hrest
    go_enter Try.func9, Try.ntmps9
    go_wp2
    go_loopw [1, 5] (fun kv iv wr => ∃ i : Nat, kv = .int .i64 (k + 3 * i) ∧ iv = .int .i64 i ∧ i ≤ xs.length ∧ wr.ownsRow base 36 3 (.slice (some ⟨g, 0, none⟩) xs.length cap) xs.length (MI3.flat (RD.mkN xs k i)) ∧ Below base w wr) (fun _ iv _ => (xs.length - intOf iv).toNat)
    case atStart => exact ⟨0, by simp, rfl, by omega, by rw [RD.mkN_zero]; exact hown, Below.refl _ _⟩
    case round =>
      clear hown
      obtain ⟨i, rfl, rfl, hi, hown, hb⟩ := hrel
      have hbs : base ≤ wr.heap.size := Nat.le_trans hbase hb.size
      by_cases hl : i < xs.length
      · have hlen := hown.1
        obtain ⟨y0, q0⟩ : ∃ y, wr.cell? ⟨g, i * 3, none⟩ = some y := MI3.some_at hown _ (by omega)
        obtain ⟨y1, q1⟩ : ∃ y, wr.cell? ⟨g, i * 3 + 1, none⟩ = some y := MI3.some_at hown _ (by omega)
        obtain ⟨y2, q2⟩ : ∃ y, wr.cell? ⟨g, i * 3 + 2, none⟩ = some y := MI3.some_at hown _ (by omega)
        have z0 := hown.frozenAt (i * 3)
        have z1 := hown.frozenAt (i * 3 + 1)
        have z2 := hown.frozenAt (i * 3 + 2)
        have s0 := World.ownsRow.stored hown (i * 3) (.int .i64 (k + 3 * i))
        have s1 := s0.1.stored (i * 3 + 1) (.int .i64 (k + 3 * i + 1))
        have s2 := s1.1.stored (i * 3 + 2) (.int .i64 (k + 3 * i + 1 + 1))
        have R1 := s2.1
        rw [RD.mkN_set xs k i hl] at R1
        have R2 := ((hb.grown s0.2 hbs (fun j hj => by simp at hj; omega)).grown s1.2 (Nat.le_trans hbs s0.2.size) (fun j hj => by simp at hj; omega)).grown s2.2 (Nat.le_trans (Nat.le_trans hbs s0.2.size) s1.2.size) (fun j hj => by simp at hj; omega)
        have HR1 : Hid _ := R1
        have HR2 : Hid _ := R2
        clear s0 s1 s2 hown hb hlen R1 R2
        go_wp2
        go_roundw
        case rel => exact ⟨i + 1, by go_num, by go_num, by omega, HR1.out, HR2.out⟩
        case measure => simp [intOf]; omega
      · obtain rfl : i = xs.length := by omega
        rw [RD.mkN_all] at hown
        have HO : Hid _ := hown
        clear hown
        go_wp2
        go_ret
        exact ⟨rfl, HO.out, hb⟩
set_option maxHeartbeats 1600000 in
set_option maxRecDepth 100000 in
theorem heldRoadS_any (a : Option Addr) (cap : Nat) (n : Nat) (k : Int) (w : World) (hz : n ≤ 1048576) (hk0 : 0 ≤ k) (hk : k ≤ 1073741824) (hin : MI3.RowAt w a (RD.mks k n)) :
    Calls Try.prog 10 #[.slice a n cap, .int .i64 k] w fun e w' => e = .returned (.int .i64 (k + 3 * n)) ∧ w = w' := by
  have HI : Hid _ := hin
  clear hin
  go_enter Try.func10, Try.ntmps10
  go_wp2
  go_loopw [1, 5] (fun kv iv wr => ∃ i : Nat, kv = .int .i64 (k + 3 * i) ∧ iv = .int .i64 i ∧ i ≤ n ∧ w = wr) (fun _ iv _ => (n - intOf iv).toNat)
  case atStart => exact ⟨0, by simp, rfl, by omega, rfl⟩
  case round =>
    obtain ⟨i, rfl, rfl, hi, rfl⟩ := hrel
    by_cases hl : i < n
    · obtain ⟨b, off, rfl, hlt, c0, c1, c2⟩ := HI.out.at (j := i) (by rw [RD.mks_len]; exact hl)
      rw [RD.mks_at k n hl] at c0 c1 c2
      simp only [RD.mk1] at c0 c1 c2
      clear HI
      go_wp2
      go_roundw
      case rel => exact ⟨i + 1, by go_num, by go_num, by omega, trivial⟩
      case measure => simp [intOf]; omega
    · obtain rfl : i = n := by omega
      clear HI
      go_wp2
      go_ret
      exact ⟨rfl, rfl⟩
end Go.Proofs.Ytmgbckdomdoncab
