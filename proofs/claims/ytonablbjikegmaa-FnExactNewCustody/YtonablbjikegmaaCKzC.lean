/- Laws over custodies that are new: eqKeeperS, eqCustody, markCustody, heldCustody. -/
import Derived.Test.YtonablbjikegmaaRows
import Derived.Test.YtonablbjikegmaaCKz
import Derived.WalkKit
import Derived.WalkSpells
import Derived.WalkLawsBesides
import Derived.Outline
import Derived.Deep.RegionWith
namespace Go.Proofs.Ytonablbjikegmaa
open Go.RowKit
set_option maxHeartbeats 1600000 in
set_option maxRecDepth 100000 in
theorem eqKeeperS_zero (g h n : Nat) (w : World) (hn : n ≤ 8) (hz : CU.KZ w g n) (hy : CU.KZ w h n) : Calls Try.prog 19 #[.slice (some ⟨g, 0, none⟩) n n, .slice (some ⟨h, 0, none⟩) n n] w fun e w' => e = .returned (.bool true) ∧ Below w.heap.size w w' := by
  go_enter Try.func19, Try.ntmps19
  go_wp2
  go_loopw [5] (fun iv wr => ∃ i : Nat, iv = .int .i64 i ∧ i ≤ n ∧ Below w.heap.size w wr) (fun iv _ => (n - intOf iv).toNat)
  case atStart => exact ⟨0, rfl, by omega, Below.refl _ _⟩
  case round =>
    obtain ⟨i, rfl, hi, hb⟩ := hrel
    have hz2 := hz.below hb
    have hy2 := hy.below hb
    have hlt := hz2.lt
    have hlt2 := hy2.lt
    have hbs := hb.size
    clear hz hy
    by_cases hl : i < n
    · obtain ⟨c1, c2, c3⟩ := hz2.get hl
      obtain ⟨d1, d2, d3⟩ := hy2.get hl
      clear hz2 hy2
      have EQ : Hid _ := fun W : World => eqKeeper_zero W
      go_wp2
      go_region_with (go_at_call 29; refine Calls.mono (EQ.out _) ?_; rintro e w1 ⟨rfl, hb1⟩)
      all_goals (
        have hB : Below w.heap.size w w1 := hb.drew.trans (hb1.mono (by have := hb.size; simpa using this))
        clear hb1 hb c1 c2 c3 d1 d2 d3 EQ
        go_wp2
        go_roundw
        case rel => exact ⟨i + 1, by go_num, by omega, hB⟩
        case measure => simp [intOf]; omega)
    · obtain rfl : i = n := by omega
      clear hz2 hy2
      go_wp2
      go_ret
      exact ⟨rfl, hb⟩
set_option maxHeartbeats 1600000 in
set_option maxRecDepth 100000 in
theorem eqCustody_new (gu cu gk hu du hk b1 b2 : Nat) (L : List Int) (w : World) (hn : L.length ≤ 8) (h1 : CU.Nw w b1 gu cu gk L) (h2 : CU.Nw w b2 hu du hk L) :
    Calls Try.prog 8 #[CU.val gu cu gk L.length, CU.val hu du hk L.length] w fun e w' => e = .returned (.bool true) ∧ Below w.heap.size w w' := by
  have EI : Hid (∀ W : World, Below w.heap.size w W → Calls Try.prog 9 #[.slice (some ⟨gu, 0, none⟩) L.length cu, .slice (some ⟨hu, 0, none⟩) L.length du] W fun e w' => e = .returned (.bool true) ∧ Below W.heap.size W w') := fun W hb => (eqIntS_any _ _ _ _ L L W (by omega) (by omega) (h1.below hb).ints (h2.below hb).ints).mono (by rintro e w' ⟨rfl, hb⟩; exact ⟨by simp, hb⟩)
  have EK : Hid (∀ W : World, Below w.heap.size w W → Calls Try.prog 19 #[.slice (some ⟨gk, 0, none⟩) L.length L.length, .slice (some ⟨hk, 0, none⟩) L.length L.length] W fun e w' => e = .returned (.bool true) ∧ Below W.heap.size W w') := fun W hb => eqKeeperS_zero _ _ _ W hn (h1.below hb).kz (h2.below hb).kz
  clear h1 h2
  unfold CU.val
  have hA : Below w.heap.size w ((w.alloc (.cells #[.slice (some ⟨gu, 0, none⟩) L.length cu, .slice (some ⟨gk, 0, none⟩) L.length L.length, .slice none 0 0, .slice none 0 0] 26)).alloc (.cells #[.slice (some ⟨hu, 0, none⟩) L.length du, .slice (some ⟨hk, 0, none⟩) L.length L.length, .slice none 0 0, .slice none 0 0] 26)) := ((Below.refl _ w).alloc (Nat.le_refl _) _).alloc (by simp) _
  go_enter Try.func8, Try.ntmps8
  go_wp2_with fail
  refine Calls.mono (EI.out _ hA) ?_
  rintro e w2 ⟨rfl, hb2⟩
  have a1 : w2.cell? ⟨w.heap.size, 1, none⟩ = _ := hb2.cell (by simp; omega)
  have a2 : w2.cell? ⟨w.heap.size, 2, none⟩ = _ := hb2.cell (by simp; omega)
  have a3 : w2.cell? ⟨w.heap.size, 3, none⟩ = _ := hb2.cell (by simp; omega)
  have b1 : w2.cell? ⟨w.heap.size + 1, 1, none⟩ = _ := hb2.cell (by simp)
  have b2 : w2.cell? ⟨w.heap.size + 1, 2, none⟩ = _ := hb2.cell (by simp)
  have b3 : w2.cell? ⟨w.heap.size + 1, 3, none⟩ = _ := hb2.cell (by simp)
  simp at a1 a2 a3 b1 b2 b3
  have hs2 := hb2.size
  simp at hs2
  have hB2 : Below w.heap.size w w2 := hA.trans (hb2.mono (by simp; omega))
  have hl1 : w.heap.size < w2.heap.size := by omega
  have hl2 : w.heap.size + 1 < w2.heap.size := by omega
  clear hA hb2 EI
  go_wp2_with fail
  refine Calls.mono (EK.out _ hB2) ?_
  rintro e w3 ⟨rfl, hb3⟩
  have c2 : w3.cell? ⟨w.heap.size, 2, none⟩ = _ := (hb3.cell hl1).trans a2
  have c3 : w3.cell? ⟨w.heap.size, 3, none⟩ = _ := (hb3.cell hl1).trans a3
  have d2 : w3.cell? ⟨w.heap.size + 1, 2, none⟩ = _ := (hb3.cell hl2).trans b2
  have d3 : w3.cell? ⟨w.heap.size + 1, 3, none⟩ = _ := (hb3.cell hl2).trans b3
  have hs3 := hb3.size
  have hB3 : Below w.heap.size w w3 := hB2.trans (hb3.mono (by omega))
  have hl3 : w.heap.size < w3.heap.size := by omega
  have hl4 : w.heap.size + 1 < w3.heap.size := by omega
  clear EK hb3 a1 a2 a3 b1 b2 b3 hB2
  go_wp2_with (first | (go_at_call 9; refine (eqIntS_nil _).mono ?_; rintro e w2 ⟨rfl, rfl⟩) | (go_at_call 20; refine (eqSlipS_nil _).mono ?_; rintro e w2 ⟨rfl, rfl⟩))
  go_ret
  exact ⟨rfl, hB3⟩
set_option maxHeartbeats 800000 in
set_option maxRecDepth 100000 in
theorem markIntS_both (base g cap : Nat) (zs : List Int) (k : Int) (w : World) (hz : zs.length ≤ 1048576) (hk0 : 0 ≤ k) (hk : k ≤ 1073741824) (hown : w.ownsRow base 3 1 (.slice (some ⟨g, 0, none⟩) zs.length cap) zs.length (M4.iv zs)) :
    Calls Try.prog 10 #[.slice (some ⟨g, 0, none⟩) zs.length cap, .int .i64 k] w fun e w' => e = .returned (.int .i64 (k + zs.length)) ∧ w'.ownsRow base 3 1 (.slice (some ⟨g, 0, none⟩) zs.length cap) zs.length (M4.iv (M5.marks k zs.length)) ∧ MC.Only g w w' := by
  go_enter Try.func10, Try.ntmps10
  go_wp2
  go_loopw [1, 5] (fun kv iv wr => ∃ i : Nat, kv = .int .i64 (k + i) ∧ iv = .int .i64 i ∧ i ≤ zs.length ∧ wr.ownsRow base 3 1 (.slice (some ⟨g, 0, none⟩) zs.length cap) zs.length (M4.iv (M5.mk zs k i)) ∧ MC.Only g w wr) (fun _ iv _ => (zs.length - intOf iv).toNat)
  case atStart => exact ⟨0, by simp, rfl, by omega, by rw [M5.mk_zero]; exact hown, MC.Only.refl _ _⟩
  case round =>
    clear hown
    obtain ⟨i, rfl, rfl, hi, hown, hO⟩ := hrel
    by_cases hl : i < zs.length
    · have hcell : ∃ u, wr.cell? ⟨g, i, none⟩ = some u := by
        rw [hown.cellAt i (by omega)]
        have hlen : i < (M4.iv (M5.mk zs k i)).length := by simp [M4.iv, M5.mk_len zs k i hi]; exact hl
        exact ⟨_, List.getElem?_eq_getElem hlen⟩
      obtain ⟨u, hcell⟩ := hcell
      have hfz := hown.frozenAt i
      have hst := hown.stored i (.int .i64 (k + i))
      rw [M4.iv_set, M5.mk_set zs k i hl] at hst
      have R1 := hst.1
      have R2 := hO.setCell i (.int .i64 (k + i))
      clear hst hown hO
      go_wp2
      go_roundw
      case rel => exact ⟨i + 1, by go_num, by go_num, by omega, R1, R2⟩
      case measure => simp [intOf]; omega
    · obtain rfl : i = zs.length := by omega
      rw [M5.mk_all] at hown
      go_wp2
      go_ret
      exact ⟨rfl, hown, hO⟩
set_option maxHeartbeats 1600000 in
set_option maxRecDepth 100000 in
theorem markCustody_new (base gu cu gk : Nat) (L : List Int) (w : World) (hn : L.length ≤ 8) (h1 : CU.Nw w base gu cu gk L) :
    Calls Try.prog 11 #[CU.val gu cu gk L.length, .int .i64 1] w fun e w' => e = .returned (.int .i64 (1 + L.length)) ∧ CU.Nw w' base gu cu gk (M5.marks 1 L.length) ∧ MC.Only gu w w' := by
  have hlt := h1.lt
  have hA : Below w.heap.size w (w.alloc (.cells #[.slice (some ⟨gu, 0, none⟩) L.length cu, .slice (some ⟨gk, 0, none⟩) L.length L.length, .slice none 0 0, .slice none 0 0] 26)) := (Below.refl _ w).alloc (Nat.le_refl _) _
  have MI : Hid _ := markIntS_both base gu cu L 1 _ (by omega) (by omega) (by omega) (h1.below hA).own
  have hkz := (h1.below hA).kz
  have hle := h1.le
  have hne := h1.ne
  clear h1
  unfold CU.val
  go_enter Try.func11, Try.ntmps11
  go_wp2_with fail
  refine Calls.mono MI.out ?_
  rintro e w2 ⟨rfl, ho, hO⟩
  have a1 : w2.cell? ⟨w.heap.size, 1, none⟩ = _ := hO.cell (by simp) (by simp; omega)
  have a2 : w2.cell? ⟨w.heap.size, 2, none⟩ = _ := hO.cell (by simp) (by simp; omega)
  have a3 : w2.cell? ⟨w.heap.size, 3, none⟩ = _ := hO.cell (by simp) (by simp; omega)
  simp at a1 a2 a3
  have hs2 := hO.size
  simp at hs2
  have hl2 : w.heap.size < w2.heap.size := by omega
  have hk2 := hkz.only hO (fun c => hne c.symm)
  have hO2 : MC.Only gu w w2 := (MC.Only.of_below hA).trans hO
  have MK : Hid _ := fun k => markKeeperS_zero gk L.length k w2 hn hk2
  have FN : Hid (CU.Nw w2 base gu cu gk (M5.marks 1 L.length)) := by
    have hm : (M5.marks 1 L.length).length = L.length := by simp [M5.marks]
    refine ⟨by rw [hm]; exact ho, by rw [hm]; exact hk2, hle, hne⟩
  clear MI hA ho hO hk2 hkz
  go_wp2_with (first | (go_at_call 21; refine Calls.mono (MK.out _) ?_; rintro e w3 ⟨rfl, rfl⟩) | (go_at_call 10; refine (markIntS_nil _ _).mono ?_; rintro e w3 ⟨rfl, rfl⟩) | (go_at_call 22; refine (markSlipS_nil _ _).mono ?_; rintro e w3 ⟨rfl, rfl⟩))
  go_ret
  exact ⟨rfl, FN.out, hO2⟩
set_option maxHeartbeats 1600000 in
set_option maxRecDepth 100000 in
theorem heldCustody_new (base gu cu gk n : Nat) (w : World) (hn : n ≤ 8) (h1 : CU.Nw w base gu cu gk (M5.marks 1 n)) :
    Calls Try.prog 12 #[CU.val gu cu gk n, .int .i64 1] w fun e w' => e = .returned (.int .i64 (1 + n)) ∧ Below w.heap.size w w' := by
  have hm : (M5.marks 1 n).length = n := by simp [M5.marks]
  have hA : Below w.heap.size w (w.alloc (.cells #[.slice (some ⟨gu, 0, none⟩) n cu, .slice (some ⟨gk, 0, none⟩) n n, .slice none 0 0, .slice none 0 0] 26)) := (Below.refl _ w).alloc (Nat.le_refl _) _
  have hin : M4.IntsAt (w.alloc (.cells #[.slice (some ⟨gu, 0, none⟩) n cu, .slice (some ⟨gk, 0, none⟩) n n, .slice none 0 0, .slice none 0 0] 26)) (some ⟨gu, 0, none⟩) (M5.marks 1 n) := (h1.below hA).ints
  have hn1 : n ≤ 1048576 := by omega
  have MI : Hid _ := heldIntS_any (some ⟨gu, 0, none⟩) cu n (1 : Int) _ hn1 (by decide) (by decide) hin
  clear hin
  have hkz : CU.KZ (w.alloc (.cells #[.slice (some ⟨gu, 0, none⟩) n cu, .slice (some ⟨gk, 0, none⟩) n n, .slice none 0 0, .slice none 0 0] 26)) gk n := by
    have := (h1.below hA).kz
    rw [hm] at this
    exact this
  have MK : Hid _ := fun k (hk : 0 ≤ k) => heldKeeperS_zero gk n k _ hn hk hkz
  clear hkz
  have hk0 : decide ((1 : Int) + (n : Int) < 0) = false := by simp; omega
  clear h1
  unfold CU.val
  go_enter Try.func12, Try.ntmps12
  go_wp2_with fail
  refine Calls.mono MI.out ?_
  rintro e w3 ⟨rfl, rfl⟩
  clear MI
  go_wp2_with fail
  refine Calls.mono (MK.out _ (by omega)) ?_
  rintro e w3 ⟨rfl, rfl⟩
  clear MK
  go_wp2_with (first | (go_at_call 15; refine (heldIntS_nil _ _).mono ?_; rintro e w3 ⟨rfl, rfl⟩) | (go_at_call 24; refine (heldSlipS_nil _ _).mono ?_; rintro e w3 ⟨rfl, rfl⟩))
  go_ret
  exact ⟨rfl, hA⟩
set_option maxHeartbeats 800000 in
set_option maxRecDepth 100000 in
theorem eqKeeperS_nil (w : World) : Calls Try.prog 19 #[.slice none 0 0, .slice none 0 0] w fun e w' => e = .returned (.bool true) ∧ w = w' := by
  go_enter Try.func19, Try.ntmps19
  go_wp2
  refine wp_loop_rounds 1 ?_
  rw [rounds_succ]
  go_wp2
  go_ret
  exact ⟨rfl, rfl⟩
set_option maxHeartbeats 800000 in
set_option maxRecDepth 100000 in
theorem markKeeperS_nil (k : Int) (w : World) : Calls Try.prog 21 #[.slice none 0 0, .int .i64 k] w fun e w' => e = .returned (.int .i64 k) ∧ w = w' := by
  go_enter Try.func21, Try.ntmps21
  go_wp2
  refine wp_loop_rounds 1 ?_
  rw [rounds_succ]
  go_wp2
  go_ret
  exact ⟨rfl, rfl⟩
set_option maxHeartbeats 800000 in
set_option maxRecDepth 100000 in
theorem heldKeeperS_nil (k : Int) (w : World) : Calls Try.prog 23 #[.slice none 0 0, .int .i64 k] w fun e w' => e = .returned (.int .i64 k) ∧ w = w' := by
  go_enter Try.func23, Try.ntmps23
  go_wp2
  refine wp_loop_rounds 1 ?_
  rw [rounds_succ]
  go_wp2
  go_ret
  exact ⟨rfl, rfl⟩
set_option maxHeartbeats 1600000 in
set_option maxRecDepth 100000 in
theorem eqCustody_nil (w : World) : Calls Try.prog 8 #[.agg #[.slice none 0 0, .slice none 0 0, .slice none 0 0, .slice none 0 0], .agg #[.slice none 0 0, .slice none 0 0, .slice none 0 0, .slice none 0 0]] w fun e w' => e = .returned (.bool true) ∧ Below w.heap.size w w' := by
  have hA : Below w.heap.size w ((w.alloc (.cells #[.slice none 0 0, .slice none 0 0, .slice none 0 0, .slice none 0 0] 26)).alloc (.cells #[.slice none 0 0, .slice none 0 0, .slice none 0 0, .slice none 0 0] 26)) := ((Below.refl _ w).alloc (Nat.le_refl _) _).alloc (by simp) _
  go_enter Try.func8, Try.ntmps8
  go_wp2_with (first | (go_at_call 9; refine (eqIntS_nil _).mono ?_; rintro e w3 ⟨rfl, rfl⟩) | (go_at_call 19; refine (eqKeeperS_nil _).mono ?_; rintro e w3 ⟨rfl, rfl⟩) | (go_at_call 20; refine (eqSlipS_nil _).mono ?_; rintro e w3 ⟨rfl, rfl⟩))
  go_ret
  exact ⟨rfl, hA⟩
set_option maxHeartbeats 1600000 in
set_option maxRecDepth 100000 in
theorem markCustody_nil (w : World) : Calls Try.prog 11 #[.agg #[.slice none 0 0, .slice none 0 0, .slice none 0 0, .slice none 0 0], .int .i64 1] w fun e w' => e = .returned (.int .i64 1) ∧ Below w.heap.size w w' := by
  have hA : Below w.heap.size w (w.alloc (.cells #[.slice none 0 0, .slice none 0 0, .slice none 0 0, .slice none 0 0] 26)) := (Below.refl _ w).alloc (Nat.le_refl _) _
  go_enter Try.func11, Try.ntmps11
  go_wp2_with (first | (go_at_call 10; refine (markIntS_nil _ _).mono ?_; rintro e w3 ⟨rfl, rfl⟩) | (go_at_call 21; refine (markKeeperS_nil _ _).mono ?_; rintro e w3 ⟨rfl, rfl⟩) | (go_at_call 22; refine (markSlipS_nil _ _).mono ?_; rintro e w3 ⟨rfl, rfl⟩))
  go_ret
  exact ⟨rfl, hA⟩
set_option maxHeartbeats 1600000 in
set_option maxRecDepth 100000 in
theorem heldCustody_nil (w : World) : Calls Try.prog 12 #[.agg #[.slice none 0 0, .slice none 0 0, .slice none 0 0, .slice none 0 0], .int .i64 1] w fun e w' => e = .returned (.int .i64 1) ∧ Below w.heap.size w w' := by
  have hA : Below w.heap.size w (w.alloc (.cells #[.slice none 0 0, .slice none 0 0, .slice none 0 0, .slice none 0 0] 26)) := (Below.refl _ w).alloc (Nat.le_refl _) _
  go_enter Try.func12, Try.ntmps12
  go_wp2_with (first | (go_at_call 15; refine (heldIntS_nil _ _).mono ?_; rintro e w3 ⟨rfl, rfl⟩) | (go_at_call 23; refine (heldKeeperS_nil _ _).mono ?_; rintro e w3 ⟨rfl, rfl⟩) | (go_at_call 24; refine (heldSlipS_nil _ _).mono ?_; rintro e w3 ⟨rfl, rfl⟩))
  go_ret
  exact ⟨rfl, hA⟩
end Go.Proofs.Ytonablbjikegmaa
