/- spec.GoodSpray. -/
import Derived.Test.YtgajfpohlemahaaRows
import Derived.Test.YtgajfpohlemahaaMSprG
import Derived.Test.YtgajfpohlemahaaCL1In
import Derived.WalkKit
import Derived.WalkSpells
import Derived.WalkLawsBesides
import Derived.Outline
namespace Go.Proofs.Ytgajfpohlemahaa
open Go.RowKit
set_option maxHeartbeats 1600000 in
set_option maxRecDepth 100000 in
theorem specGoodSpray_any (a : Option Addr) (cap : Nat) (zs : List Int) (t : Int) (th : Bool) (w : World) (hz : M4.IntsAt w a zs) (hl : zs.length ≤ 1048576) :
    Calls Try.prog 15 #[.agg #[.slice a zs.length cap, .int .i64 t, .bool th]] w fun e w' => e = .returned (.bool (SP.good zs t)) ∧ Below w.heap.size w w' := by
  have IW : Hid (∀ (n lo hi : Int) (W : World), Calls Try.prog 30 #[.int .i64 n, .int .i64 lo, .int .i64 hi] W fun e w' => e = .returned (.bool (decide (lo ≤ n ∧ n ≤ hi))) ∧ W = w') := fun n lo hi W => l1In_any n lo hi W
  have BX : Below w.heap.size w (w.alloc (.cells #[.slice a zs.length cap, .int .i64 t, .bool th] 28)) := (Below.refl _ _).alloc (Nat.le_refl _) _
  by_cases h1 : 2 ≤ zs.length ∧ zs.length ≤ 8
  · have e1 : decide (2 ≤ (zs.length : Int) ∧ (zs.length : Int) ≤ 8) = true := decide_eq_true (by omega)
    by_cases h2 : 0 ≤ t ∧ t < zs.length
    · obtain ⟨g, off, rfl, hg, hcl⟩ : ∃ b off, a = some ⟨b, off, none⟩ ∧ b < w.heap.size ∧ ∀ j, j < zs.length → w.cell? ⟨b, off + j, none⟩ = some (.int .i64 (zs.getD j 0)) := by
        rcases hz with h | h
        · rw [h] at h1; simp at h1
        · exact h
      clear hz
      obtain ⟨n, rfl⟩ : ∃ n : Nat, t = n := ⟨t.toNat, by omega⟩
      have hcn := hcl n (by omega)
      have hn : n < zs.length := by omega
      by_cases h3 : zs.getD n 0 = 0
      · rw [h3] at hcn
        have HE : Hid ((∀ j : Nat, j < zs.length → 0 ≤ zs.getD j 0 ∧ zs.getD j 0 ≤ 64) → SP.good zs n = decide (1 ≤ SP.sm zs zs.length ∧ SP.sm zs zs.length ≤ 64)) := fun h => SP.good_end h1 h2 (by simpa using h3) h
        have HBD : Hid (∀ k : Nat, k < zs.length → ¬ (0 ≤ zs.getD k 0 ∧ zs.getD k 0 ≤ 64) → SP.good zs n = false) := fun k hk h => SP.good_bad hk h
        have HC : Hid _ := hcl
        clear h2 hcl h3
        generalize hgd : SP.good zs n = G at *
        clear hgd
        generalize zs.length = m at *
        go_enter Try.func15, Try.ntmps15
        go_wp2_with fail
        refine (IW.out _ _ _ _).mono ?_
        rintro e w1 ⟨rfl, rfl⟩
        rw [e1]
        have hcn' := (BX.cell (p := ⟨g, off + n, none⟩) hg).trans hcn
        have d1 : decide ((n : Int) < 0) = false := decide_eq_false (by omega)
        have d2 : decide (m ≤ n) = false := decide_eq_false (by omega)
        go_wp2
        clear hcn hcn' d1 d2
        go_loopw [3, 36] (fun nv iv wr => ∃ k : Nat, nv = .int .i64 (SP.sm zs k) ∧ iv = .int .i64 k ∧ k ≤ m ∧ Hid (∀ j : Nat, j < k → 0 ≤ zs.getD j 0 ∧ zs.getD j 0 ≤ 64) ∧ wr = w.alloc (.cells #[.slice (some ⟨g, off, none⟩) m cap, .int .i64 n, .bool th] 28)) (fun _ iv _ => (m - (intOf iv).toNat))
        case atStart => exact ⟨0, rfl, rfl, by omega, fun j hj => by omega, rfl⟩
        case round =>
          obtain ⟨k, rfl, rfl, hk, HK, rfl⟩ := hrel
          have hsm := SP.sm_le HK.out
          by_cases hkl : k < m
          · have hc := (BX.cell (p := ⟨g, off + k, none⟩) hg).trans (HC.out k hkl)
            have HB1 : Hid (¬ (0 ≤ zs.getD k 0 ∧ zs.getD k 0 ≤ 64) → G = false) := HBD.out k hkl
            have HK1 : Hid (0 ≤ zs.getD k 0 ∧ zs.getD k 0 ≤ 64 → ∀ j : Nat, j < k + 1 → 0 ≤ zs.getD j 0 ∧ zs.getD j 0 ≤ 64) := fun h j hj => by
              by_cases e : j = k
              · subst e; exact h
              · exact HK.out j (by omega)
            have HS : Hid (SP.sm zs (k + 1) = SP.sm zs k + zs.getD k 0) := rfl
            clear HK
            generalize SP.sm zs k = sk at *
            generalize hzk : zs.getD k 0 = z at *
            clear hzk
            by_cases hin : 0 ≤ z ∧ z ≤ 64
            · have e4 : decide (0 ≤ z ∧ z ≤ 64) = true := decide_eq_true hin
              go_wp2_with fail
              refine (IW.out _ _ _ _).mono ?_
              rintro e w1 ⟨rfl, rfl⟩
              rw [e4]
              go_wp2
              go_roundw
              case rel => exact ⟨k + 1, by rw [HS.out], by go_num, by omega, HK1.out hin, trivial⟩
              case measure => simp [intOf]; omega
            · have e4 : decide (0 ≤ z ∧ z ≤ 64) = false := decide_eq_false hin
              go_wp2_with fail
              refine (IW.out _ _ _ _).mono ?_
              rintro e w1 ⟨rfl, rfl⟩
              rw [e4]
              go_wp2
              go_ret
              exact ⟨M4.ret_bool (HB1.out hin).symm, BX⟩
          · have hkm : k = m := by omega
            rw [hkm] at HK hsm ⊢
            have hG := HE.out HK.out
            have HG : Hid _ := hG
            clear hG HK HE HBD HC hkm hkl hk
            generalize SP.sm zs m = S at *
            go_wp2_with fail
            refine (IW.out _ _ _ _).mono ?_
            rintro e w1 ⟨rfl, rfl⟩
            go_wp2
            go_ret
            exact ⟨M4.ret_bool (by rw [HG.out]; simp), BX⟩
      · have hg0 : SP.good zs n = false := decide_eq_false fun h => h3 (by have := h.2.2.1; simpa using this)
        rw [hg0]
        clear hg0 h2 hcl
        generalize zs.getD n 0 = z at *
        generalize zs.length = m at *
        go_enter Try.func15, Try.ntmps15
        go_wp2_with fail
        refine (IW.out _ _ _ _).mono ?_
        rintro e w1 ⟨rfl, rfl⟩
        rw [e1]
        have hcn' := (BX.cell (p := ⟨g, off + n, none⟩) hg).trans hcn
        have e5 : (z == 0) = false := by simp [h3]
        have d1 : decide ((n : Int) < 0) = false := decide_eq_false (by omega)
        have d2 : decide (m ≤ n) = false := decide_eq_false (by omega)
        go_wp2
        go_ret
        exact ⟨rfl, BX⟩
    · have hg0 : SP.good zs t = false := decide_eq_false fun h => h2 h.2.1
      rw [hg0]
      clear hg0 hz
      generalize zs.length = m at *
      by_cases h0 : t < 0
      · go_enter Try.func15, Try.ntmps15
        go_wp2_with fail
        refine (IW.out _ _ _ _).mono ?_
        rintro e w1 ⟨rfl, rfl⟩
        rw [e1]
        go_wp2
        go_ret
        exact ⟨rfl, BX⟩
      · have h4 : (m : Int) ≤ t := by omega
        go_enter Try.func15, Try.ntmps15
        go_wp2_with fail
        refine (IW.out _ _ _ _).mono ?_
        rintro e w1 ⟨rfl, rfl⟩
        rw [e1]
        go_wp2
        go_ret
        exact ⟨rfl, BX⟩
  · have e1 : decide (2 ≤ (zs.length : Int) ∧ (zs.length : Int) ≤ 8) = false := decide_eq_false (by omega)
    have hg0 : SP.good zs t = false := decide_eq_false fun h => h1 h.1
    rw [hg0]
    clear hg0 hz h1
    generalize zs.length = m at *
    go_enter Try.func15, Try.ntmps15
    go_wp2_with fail
    refine (IW.out _ _ _ _).mono ?_
    rintro e w1 ⟨rfl, rfl⟩
    rw [e1]
    go_wp2
    go_ret
    exact ⟨rfl, BX⟩
end Go.Proofs.Ytgajfpohlemahaa
