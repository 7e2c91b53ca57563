/- slices.Reverse of a row of numbers that the caller owns. -/
import Derived.Test.YtickoajkppgdaaaRows
import Derived.Test.YtickoajkppgdaaaM5
import Derived.Test.YtickoajkppgdaaaMCur
import Derived.WalkKit
import Derived.WalkSpells
import Derived.WalkLawsBesides
import Derived.Outline
namespace Go.Proofs.Ytickoajkppgdaaa
open Go.RowKit
namespace RV
/-- The first i and the last i are turned. -/
def rv (zs : List Int) (i : Nat) : List Int := (List.range zs.length).map fun p => if p < i ∨ zs.length - i ≤ p then zs.getD (zs.length - 1 - p) 0 else zs.getD p 0
theorem rv_len (zs : List Int) (i : Nat) : (rv zs i).length = zs.length := by simp [rv]
theorem rv_get (zs : List Int) (i : Nat) {p : Nat} (h : p < zs.length) : (rv zs i)[p]? = some (if p < i ∨ zs.length - i ≤ p then zs.getD (zs.length - 1 - p) 0 else zs.getD p 0) := by simp [rv, h]
theorem getD_get (zs : List Int) {p : Nat} (h : p < zs.length) : zs[p]? = some (zs.getD p 0) := by simp [List.getD_eq_getElem?_getD, List.getElem?_eq_getElem h]
theorem rv_zero (zs : List Int) : rv zs 0 = zs := by
  refine List.ext_getElem? fun p => ?_
  by_cases h : p < zs.length
  · rw [rv_get zs 0 h, if_neg (by omega), getD_get zs h]
  · rw [List.getElem?_eq_none (by rw [rv_len]; omega), List.getElem?_eq_none (by omega)]
theorem rv_all (zs : List Int) {i : Nat} (h : zs.length ≤ 2 * i + 1) : rv zs i = zs.reverse := by
  refine List.ext_getElem? fun p => ?_
  by_cases hp : p < zs.length
  · rw [rv_get zs i hp, List.getElem?_reverse hp, getD_get zs (by omega)]
    split
    · rfl
    · have : zs.length - 1 - p = p := by omega
      rw [this]
  · rw [List.getElem?_eq_none (by rw [rv_len]; omega), List.getElem?_eq_none (by simp; omega)]
theorem rv_step (zs : List Int) {i : Nat} (h : 2 * i + 1 < zs.length) : ((rv zs i).set i (zs.getD (zs.length - 1 - i) 0)).set (zs.length - 1 - i) (zs.getD i 0) = rv zs (i + 1) := by
  refine List.ext_getElem? fun p => ?_
  by_cases hp : p < zs.length
  · rw [rv_get zs (i + 1) hp, List.getElem?_set]
    by_cases e1 : zs.length - 1 - i = p
    · rw [if_pos e1, if_pos (by rw [List.length_set, rv_len]; omega), if_pos (.inr (by omega))]
      congr 2; omega
    · rw [if_neg e1, List.getElem?_set]
      by_cases e2 : i = p
      · rw [if_pos e2, if_pos (by rw [rv_len]; omega), if_pos (.inl (by omega))]
        congr 2; omega
      · rw [if_neg e2, rv_get zs i hp]
        congr 1
        by_cases c : p < i ∨ zs.length - i ≤ p
        · rw [if_pos c, if_pos (by omega)]
        · rw [if_neg c, if_neg (by omega)]
  · rw [List.getElem?_eq_none (by rw [List.length_set, List.length_set, rv_len]; omega), List.getElem?_eq_none (by rw [rv_len]; omega)]
end RV
set_option maxHeartbeats 1600000 in
set_option maxRecDepth 100000 in
theorem reverse_any (base g cap : Nat) (zs : List Int) (w : World) (hz : zs.length ≤ 1048576) (hB : base ≤ w.heap.size) (hown : w.ownsRow base 3 1 (.slice (some ⟨g, 0, none⟩) zs.length cap) zs.length (M4.iv zs)) :
    Calls Try.prog 44 #[.slice (some ⟨g, 0, none⟩) zs.length cap] w fun e w' => e = .returned (.tuple #[]) ∧ w'.ownsRow base 3 1 (.slice (some ⟨g, 0, none⟩) zs.length cap) zs.length (M4.iv zs.reverse) ∧ Below base w w' := by
  go_enter Try.func44, Try.ntmps44
  go_wp2
  go_loopw [2, 3] (fun iv jv wr => ∃ i : Nat, iv = .int .i64 i ∧ jv = .int .i64 ((zs.length : Int) - 1 - i) ∧ 2 * i ≤ zs.length + 1 ∧ wr.ownsRow base 3 1 (.slice (some ⟨g, 0, none⟩) zs.length cap) zs.length (M4.iv (RV.rv zs i)) ∧ Below base w wr) (fun iv _ _ => (zs.length - intOf iv).toNat)
  case atStart => exact ⟨0, rfl, by simp, by omega, by rw [RV.rv_zero]; exact hown, Below.refl _ _⟩
  case round =>
    clear hown
    obtain ⟨i, rfl, rfl, hi, hown, hb⟩ := hrel
    by_cases hl : 2 * i + 1 < zs.length
    · obtain ⟨j, hj⟩ : ∃ j, j = zs.length - 1 - i := ⟨_, rfl⟩
      have ej : (zs.length : Int) - 1 - i = (j : Int) := by omega
      rw [ej]
      have hjl : j < zs.length := by omega
      have hij : (i : Int) < (j : Int) := by omega
      have ci : wr.cell? ⟨g, i, none⟩ = some (.int .i64 (zs.getD i 0)) := by rw [hown.cellAt i (by omega)]; exact M4.iv_get _ _ _ (by rw [RV.rv_get zs i (by omega), if_neg (by omega)])
      have cj : wr.cell? ⟨g, j, none⟩ = some (.int .i64 (zs.getD j 0)) := by rw [hown.cellAt j (by omega)]; exact M4.iv_get _ _ _ (by rw [RV.rv_get zs i (by omega), if_neg (by omega)])
      have zi := hown.frozenAt i
      have zj := hown.frozenAt j
      have s1 := hown.stored i (.int .i64 (zs.getD j 0))
      have s2 := s1.1.stored j (.int .i64 (zs.getD i 0))
      have hst := RV.rv_step zs hl
      rw [← hj] at hst
      rw [M4.iv_set, M4.iv_set, hst] at s2
      have R1 : Hid _ := s2.1
      have R2 : Hid (Below base w ((wr.setCell ⟨g, i, none⟩ (.int .i64 (zs.getD j 0))).setCell ⟨g, j, none⟩ (.int .i64 (zs.getD i 0)))) := (hb.grown s1.2 (Nat.le_trans hB hb.size) (fun k hk => by have := hown.lt g rfl; simp at hk; omega)).grown s2.2 (Nat.le_trans (Nat.le_trans hB hb.size) s1.2.size) (fun k hk => by have := hown.lt g rfl; simp at hk; omega)
      have lg := hown.lt g rfl
      have ii0 : (0 : Int) ≤ (i : Int) := by omega
      have ii1 : (i : Int) < (zs.length : Int) := by omega
      have jj0 : (0 : Int) ≤ (j : Int) := by omega
      have jj1 : (j : Int) < (zs.length : Int) := by omega
      have HJ : Hid (j + 1 + i = zs.length) := by show _ = _; omega
      clear s1 s2 hst hown hb hj ej
      generalize zs.getD i 0 = x at *
      generalize zs.getD j 0 = y at *
      go_wp2
      go_region
      go_wp2
      go_roundw
      case rel => exact ⟨i + 1, by go_num, by have := HJ.out; congr 1; omega, by have := HJ.out; omega, M5.own_below R1.out ((Below.refl _ _).drew), R2.out.drew⟩
      case measure => simp [intOf]; omega
    · have hnot : ¬ ((i : Int) < (zs.length : Int) - 1 - i) := by omega
      rw [RV.rv_all zs (by omega)] at hown
      go_wp2
      go_end0
      exact ⟨rfl, hown, hb⟩
end Go.Proofs.Ytickoajkppgdaaa
