/- The laws' markIntS writes the marks k, k + 1, .. into a row of numbers that the caller owns; heldIntS tells that a row of numbers still holds these marks. -/
import Derived.Test.YtpdmbobcbehilaaRows
import Derived.Test.YtpdmbobcbehilaaM5
import Derived.WalkKit
import Derived.WalkSpells
import Derived.WalkLawsBesides
import Derived.Outline
namespace Go.Proofs.Ytpdmbobcbehilaa
open Go.RowKit
set_option maxHeartbeats 800000 in
set_option maxRecDepth 100000 in
theorem markIntS_e (te : TypeId) (base : Nat) (v : Value) (zs : List Int) (k : Int) (w : World) (hz : zs.length ≤ 1048576) (hk0 : 0 ≤ k) (hk : k ≤ 1073741824) (hbase : base ≤ w.heap.size) (hown : w.ownsRow base te 1 v zs.length (M4.iv zs)) :
    Calls Try.prog 17 #[v, .int .i64 k] w fun e w' => e = .returned (.int .i64 (k + zs.length)) ∧ w'.ownsRow base te 1 v zs.length (M4.iv (M5.marks k zs.length)) ∧ Below base w w' := by
  rcases hown.2 with ⟨rfl, h0⟩ | ⟨g, cap, cur, rfl, hg, hrest⟩
  · obtain rfl : zs = [] := List.eq_nil_of_length_eq_zero h0
    go_enter Try.func17, Try.ntmps17
    go_wp2
    refine wp_loop_rounds 1 ?_
    rw [rounds_succ]
    go_wp2
    go_ret
    exact ⟨by simp, World.ownsRow_nil _ _ _ _, Below.refl _ _⟩
  · clear hrest
    go_enter Try.func17, Try.ntmps17
    go_wp2
    go_loopw [1, 5] (fun kv iv wr => ∃ i : Nat, kv = .int .i64 (k + i) ∧ iv = .int .i64 i ∧ i ≤ zs.length ∧ wr.ownsRow base te 1 (.slice (some ⟨g, 0, none⟩) zs.length cap) zs.length (M4.iv (M5.mk zs k i)) ∧ Below base w wr) (fun _ iv _ => (zs.length - intOf iv).toNat)
    case atStart => exact ⟨0, by simp, rfl, by omega, by rw [M5.mk_zero]; exact hown, Below.refl _ _⟩
    case round =>
      clear hown
      obtain ⟨i, rfl, rfl, hi, hown, hb⟩ := hrel
      by_cases hl : i < zs.length
      · have hcell : ∃ u, wr.cell? ⟨g, i, none⟩ = some u := by
          rw [hown.cellAt i (by omega)]
          have hlen : i < (M4.iv (M5.mk zs k i)).length := by simp [M4.iv, M5.mk_len zs k i hi]; exact hl
          exact ⟨_, List.getElem?_eq_getElem hlen⟩
        obtain ⟨u, hcell⟩ := hcell
        have hfz := hown.frozenAt i
        have hst := hown.stored i (.int .i64 (k + i))
        rw [M4.iv_set, M5.mk_set zs k i hl] at hst
        have R1 := hst.1
        have R2 := hb.grown hst.2 (Nat.le_trans hbase hb.size) (fun j hj => by simp at hj; omega)
        clear hst hown
        go_wp2
        go_roundw
        case rel => exact ⟨i + 1, by go_num, by go_num, by omega, R1, R2⟩
        case measure => simp [intOf]; omega
      · obtain rfl : i = zs.length := by omega
        rw [M5.mk_all] at hown
        go_wp2
        go_ret
        exact ⟨rfl, hown, hb⟩
theorem markIntS_any (base : Nat) (v : Value) (zs : List Int) (k : Int) (w : World) (hz : zs.length ≤ 1048576) (hk0 : 0 ≤ k) (hk : k ≤ 1073741824) (hbase : base ≤ w.heap.size) (hown : w.ownsRow base 3 1 v zs.length (M4.iv zs)) :
    Calls Try.prog 17 #[v, .int .i64 k] w fun e w' => e = .returned (.int .i64 (k + zs.length)) ∧ w'.ownsRow base 3 1 v zs.length (M4.iv (M5.marks k zs.length)) ∧ Below base w w' := markIntS_e 3 base v zs k w hz hk0 hk hbase hown
set_option maxHeartbeats 800000 in
set_option maxRecDepth 100000 in
theorem heldIntS_any (a : Option Addr) (cap : Nat) (n : Nat) (k : Int) (w : World) (hz : n ≤ 1048576) (hk0 : 0 ≤ k) (hk : k ≤ 1073741824) (hin : M4.IntsAt w a (M5.marks k n)) :
    Calls Try.prog 22 #[.slice a n cap, .int .i64 k] w fun e w' => e = .returned (.int .i64 (k + n)) ∧ w = w' := by
  go_enter Try.func22, Try.ntmps22
  go_wp2
  go_loop [1, 5] (fun kv iv => ∃ i : Nat, kv = .int .i64 (k + i) ∧ iv = .int .i64 i ∧ i ≤ n) (fun _ iv => (n - intOf iv).toNat)
  case atStart => exact ⟨0, by simp, rfl, by omega⟩
  case round =>
    obtain ⟨i, rfl, rfl, hi⟩ := hrel
    by_cases hl : i < n
    · obtain ⟨b, off, rfl, hlt, hc⟩ := hin.at (k := i) (by rw [M5.marks_len]; exact hl)
      rw [M5.marks_get k n i hl] at hc
      clear hin
      go_wp2
      go_round
      case rel => exact ⟨i + 1, by go_num, by go_num, by omega⟩
      case measure => simp [intOf]; omega
    · obtain rfl : i = n := by omega
      go_wp2
      go_ret
      exact ⟨rfl, rfl⟩
end Go.Proofs.Ytpdmbobcbehilaa
