/- The specification's pieces: of one bundle, ahead, agreeing. -/
import Derived.Test.YtdgflhgbcfehhaaRows
import Derived.Test.YtdgflhgbcfehhaaCGoodBundle
import Derived.Test.YtdgflhgbcfehhaaMPL
import Derived.Test.YtdgflhgbcfehhaaMRH
import Derived.WalkKit
import Derived.WalkSpells
import Derived.WalkLawsBesides
import Derived.Outline
import Derived.Deep.QuietTactic
import Derived.BigQuiet
import Derived.WalkSmall
namespace Go.Proofs.Ytdgflhgbcfehhaa
open Go.RowKit
theorem retBs {a b : Bool} (h : a = b) : Ending.returned (.bool a) = .returned (.bool b) := by rw [h]
set_option linter.unusedSimpArgs false in
set_option maxHeartbeats 1600000 in
set_option maxRecDepth 100000 in
theorem l4Same_any (a b : Bd) (w : World) (R : Bool) (hR : Hid (PL.one a b = R)) :
    Calls Try.prog 52 #[a.v, b.v] w fun e w' => e = .returned (.bool R) ∧ Below w.heap.size w w' := by
  obtain ⟨afr, ato, agr, amd, ano, alf, ahp, aof, atl, apy⟩ := a
  obtain ⟨bfr, bto, bgr, bmd, bno, blf, bhp, bof, btl, bpy⟩ := b
  have hB : ∀ o o', Below w.heap.size w ((w.alloc o).alloc o') := fun o o' => ((Below.refl _ w).alloc (Nat.le_refl _) o).alloc (by simp) o'
  go_enter Try.func52, Try.ntmps52
  go_wp2
  all_goals go_ret
  all_goals refine ⟨retBs ?_, hB _ _⟩
  all_goals (rw [← hR.out]; clear hR hB; simp only [PL.one]; rw [Bool.eq_iff_iff]; simp_all)
set_option linter.unusedSimpArgs false in
set_option maxHeartbeats 1600000 in
set_option maxRecDepth 100000 in
theorem l4Before_any (a b : Bd) (w : World) (ha : a.py.size ≤ 1048576) (hb : b.py.size ≤ 1048576) (R : Bool) (hR : Hid (PL.ahead a b = R)) :
    Calls Try.prog 51 #[a.v, b.v] w fun e w' => e = .returned (.bool R) ∧ Below w.heap.size w w' := by
  obtain ⟨afr, ato, agr, amd, ano, alf, ahp, aof, atl, apy⟩ := a
  obtain ⟨bfr, bto, bgr, bmd, bno, blf, bhp, bof, btl, bpy⟩ := b
  simp only at ha hb
  have hB : ∀ o o', Below w.heap.size w ((w.alloc o).alloc o') := fun o o' => ((Below.refl _ w).alloc (Nat.le_refl _) o).alloc (by simp) o'
  go_enter Try.func51, Try.ntmps51
  go_wp2
  all_goals go_ret
  all_goals refine ⟨retBs ?_, hB _ _⟩
  all_goals (rw [← hR.out]; clear hR hB; simp only [PL.ahead]; rw [Bool.eq_iff_iff]; simp only [Bool.or_eq_true, Bool.and_eq_true, Bool.not_eq_true', decide_eq_true_eq, decide_eq_false_iff_not, bne_iff_ne, ne_eq, beq_iff_eq, bne_eq_false_iff_eq, Bool.false_eq_true, false_iff, true_iff, beq_eq_false_iff_ne] at *; omega)
set_option linter.unusedSimpArgs false in
set_option maxHeartbeats 1600000 in
set_option maxRecDepth 100000 in
theorem l4Agrees_any (a b : Bd) (w : World) (ha : PL.pg a = true) (hb : PL.pg b = true) (R : Bool) (hR : Hid (PL.agr a b = R)) :
    Calls Try.prog 53 #[a.v, b.v] w fun e w' => e = .returned (.bool R) ∧ Below w.heap.size w w' := by
  obtain ⟨_, a1, a2, a3, a4, a5⟩ := PL.pg_is ha
  obtain ⟨_, b1, b2, b3, b4, b5⟩ := PL.pg_is hb
  have HA : Hid (∀ i, PL.agrAt a b i = (!(decide (0 ≤ a.of + (i : Int) - b.of) && decide (a.of + (i : Int) - b.of < b.py.size)) || decide (M3.gb a.py i = M3.gb b.py (a.of + (i : Int) - b.of).toNat))) := fun i => rfl
  have HR : Hid (PL.upto (PL.agrAt a b) a.py.size = R) := hR
  generalize PL.agrAt a b = q at *
  obtain ⟨afr, ato, agr, amd, ano, alf, ahp, aof, atl, apy⟩ := a
  obtain ⟨bfr, bto, bgr, bmd, bno, blf, bhp, bof, btl, bpy⟩ := b
  simp only at a1 a2 a3 a4 a5 b1 b2 b3 b4 b5 HA HR
  clear hR ha hb
  have hB0 : Below w.heap.size w ((w.alloc (.cells #[.int .i64 afr, .int .i64 ato, .bool agr, .int .i64 amd, .int .i64 ano, .int .i64 alf, .int .i64 ahp, .int .i64 aof, .int .i64 atl, .string apy] 24)).alloc (.cells #[.int .i64 bfr, .int .i64 bto, .bool bgr, .int .i64 bmd, .int .i64 bno, .int .i64 blf, .int .i64 bhp, .int .i64 bof, .int .i64 btl, .string bpy] 24)) := ((Below.refl _ w).alloc (Nat.le_refl _) _).alloc (by simp) _
  go_enter Try.func53, Try.ntmps53
  go_wp2
  go_loopw [5] (fun iv wr => ∃ k : Nat, iv = .int .i64 k ∧ k ≤ apy.size ∧ Hid (PL.upto q k = true) ∧ wr.cell? ⟨w.heap.size, 7, none⟩ = some (.int .i64 aof) ∧ wr.cell? ⟨w.heap.size, 9, none⟩ = some (.string apy) ∧ wr.cell? ⟨w.heap.size + 1, 7, none⟩ = some (.int .i64 bof) ∧ wr.cell? ⟨w.heap.size + 1, 9, none⟩ = some (.string bpy) ∧ Below w.heap.size w wr) (fun iv _ => (apy.size - intOf iv).toNat)
  case atStart => exact ⟨0, rfl, by omega, PL.upto_zero _, by simp, by simp, by simp, by simp, hB0⟩
  case round =>
    clear hB0
    obtain ⟨k, rfl, hk, hU, c0, c1, c2, c3, hb⟩ := hrel
    by_cases hl : k < apy.size
    · have hq := HA.out k
      have HQ : Hid _ := hq
      have hk0 : (0 : Int) ≤ (k : Int) := by omega
      have hkn : (k : Int) < (apy.size : Int) := by omega
      clear hq
      by_cases h0 : 0 ≤ aof + (k : Int) - bof
      · by_cases h1 : aof + (k : Int) - bof < (bpy.size : Int)
        · obtain ⟨z, hz⟩ := Int.eq_ofNat_of_zero_le h0
          have hzb : z < bpy.size := by omega
          have hgk : apy[k].toNat = M3.gb apy k := M3.gb_eq apy k hl
          have hgz : bpy[z].toNat = M3.gb bpy z := M3.gb_eq bpy z hzb
          by_cases he : M3.gb apy k = M3.gb bpy z
          · have hU' : Hid (PL.upto q (k + 1) = true) := PL.upto_succ hU.out (by rw [HQ.out, hz, he]; simp)
            have hne : ((M3.gb apy k : Int) != (M3.gb bpy z : Int)) = false := by simp [he]
            have HE : Hid _ := he
            clear hU HQ HR he HA
            generalize M3.gb apy k = ga at *
            generalize M3.gb bpy z = gz at *
            clear HE
            go_wp2
            go_quiet (fail)
            go_wp2
            go_roundw
            case rel => exact ⟨k + 1, by go_num, by omega, hU', by simpa using c0, by simpa using c1, by simpa using c2, by simpa using c3, below_drewN hb nq⟩
            case measure => simp [intOf]; omega
          · have hF : Hid (false = R) := by rw [← HR.out]; exact (PL.upto_no hl (by rw [HQ.out, hz]; simp [he]; omega)).symm
            have hne : ((M3.gb apy k : Int) != (M3.gb bpy z : Int)) = true := by simp; omega
            have HE : Hid _ := he
            clear hU HQ HR he HA
            generalize M3.gb apy k = ga at *
            generalize M3.gb bpy z = gz at *
            clear HE
            go_wp2
            go_quiet (fail)
            go_wp2
            go_ret
            exact ⟨retBs hF.out, below_drewN hb nq⟩
        · have hU' : Hid (PL.upto q (k + 1) = true) := PL.upto_succ hU.out (by rw [HQ.out]; simp [h1])
          obtain ⟨z, hz⟩ := Int.eq_ofNat_of_zero_le h0
          rw [hz] at h0 h1
          have h2 : ¬ z < bpy.size := by omega
          clear hU HQ HR HA
          go_wp2
          go_quiet (fail)
          go_wp2
          go_roundw
          case rel => exact ⟨k + 1, by go_num, by omega, hU', by simpa using c0, by simpa using c1, by simpa using c2, by simpa using c3, below_drewN hb nq⟩
          case measure => simp [intOf]; omega
      · have hU' : Hid (PL.upto q (k + 1) = true) := PL.upto_succ hU.out (by rw [HQ.out, decide_eq_false h0]; rfl)
        obtain ⟨d, hd⟩ : ∃ d, aof + (k : Int) - bof = d := ⟨_, rfl⟩
        rw [hd] at h0
        have hdec : decide (0 ≤ d) = false := decide_eq_false h0
        have hdec2 : (0 ≤ d) = False := eq_false h0
        clear h0
        clear hU HQ HR HA
        go_wp2
        go_quiet (fail)
        go_wp2
        go_roundw
        case rel => exact ⟨k + 1, by go_num, by omega, hU', by simpa using c0, by simpa using c1, by simpa using c2, by simpa using c3, below_drewN hb nq⟩
        case measure => simp [intOf]; omega
    · obtain rfl : k = apy.size := by omega
      have hT : Hid (true = R) := by rw [← HR.out]; exact hU.out.symm
      clear HR hU
      go_wp2
      go_ret
      exact ⟨retBs hT.out, hb⟩
end Go.Proofs.Ytdgflhgbcfehhaa
