/- The stable sort's merge where the left part is one. -/
import Derived.Test.YtlebalaniccepaaRows
import Derived.Test.YtlebalaniccepaaCInsSort
namespace Go.Proofs.Ytlebalaniccepaa
open Go.RowKit
open MSym
set_option linter.unusedSimpArgs false in
set_option maxHeartbeats 3200000 in
set_option maxRecDepth 1000000 in
theorem symA_any (blk off cap N a b g : Nat) (cb : Array Value) (c : Nat → Nat) (cf : Nat → Nat → Int) (f : Nat → Nat) (w : World) (hH : Sort.Holds nv w blk off (ar f N)) (eg : ∀ args w, (callFunc g args).run Try.prog w = .ok (.enter g args) w) (hC : Cmps w blk off N g cb cf) (hcf : ∀ x y, cf x y < 0 ↔ c x < c y) (hv : ∀ k, k < N → f k < N) (hU : Up (Lex c) f (a + 1) b) (hX : Cross (· < ·) f a (a + 1) b) (hab : a + 1 < b) (hb : b ≤ N) (hN : N ≤ 1000) :
    Calls Try.prog 97 #[.slice (some ⟨blk, off, none⟩) N cap, .int .i64 a, .int .i64 ((a + 1 : Nat) : Int), .int .i64 b, .func (.func g) #[] cb] w fun e w' => e = .returned (.tuple #[]) ∧ ∃ h, Lay w w' blk off h N ∧ Up (Lex c) h a b ∧ From h f a b := by
  have HH : Hid (Sort.Holds nv w blk off (ar f N)) := hH
  have HST : Hid (Lay w w blk off f N) := Lay.self hH
  have HC : Aside _ := hC
  have HV : Aside _ := hv
  have HU : Aside _ := hU
  have HX : Aside _ := hX
  have HCF : Aside _ := hcf
  clear hH hC hv hX hcf hU
  generalize hm : a + 1 = m at *
  have HM : Hid (a + 1 = m) := hm
  have hma : IntKind.i64.wrap ((m : Int) - (a : Int)) = 1 := by rw [IntKind.wrap_i64]; omega
  clear hm
  go_enter Try.func97, Try.ntmps97
  go_wp2
  go_loopw [10, 11, 12] (fun iv jv _ wr => ∃ (i j : Nat), iv = .int .i64 i ∧ jv = .int .i64 j ∧ m ≤ i ∧ i ≤ j ∧ j ≤ b ∧ Hid (Lay w wr blk off f N) ∧ Hid ((m < i → Lex c (f (i - 1)) (f a)) ∧ (j < b → Lex c (f a) (f j)))) (fun iv jv _ _ => (intOf jv - intOf iv).toNat)
  case atStart => exact ⟨m, b, rfl, rfl, by omega, by omega, by omega, HST, (show Hid _ from ⟨fun h => by omega, fun h => by omega⟩)⟩
  case round =>
    clear HST
    obtain ⟨i, j, rfl, rfl, hmi, hij, hjb, HL, HK⟩ := hrel
    by_cases hlt : i < j
    · have hlz : (i : Int) < (j : Int) := by omega
      obtain ⟨h, hh⟩ : ∃ h : Nat, ((i : Int) + (j : Int)) / 2 = (h : Int) := ⟨(i + j) / 2, by omega⟩
      have h1 : i ≤ h := by omega
      have h2 : h < j := by omega
      have ma := HM.out
      obtain ⟨ch, _⟩ := HL.out.cell HH.out (k := h) (by omega)
      obtain ⟨ca, _⟩ := HL.out.cell HH.out (k := a) (by omega)
      have hc := HC.out _ _ HL.out (f h) (f a) (HV.out h (by omega)) (HV.out a (by omega))
      have HLT : Hid (f a < f h) := HX.out a h (Nat.le_refl _) (by omega) (by omega) (by omega)
      have HCI : Hid (cf (f h) (f a) < 0 ↔ c (f h) < c (f a)) := HCF.out _ _
      obtain ⟨x, hx⟩ : ∃ x, f h = x := ⟨_, rfl⟩
      obtain ⟨y, hy⟩ : ∃ y, f a = y := ⟨_, rfl⟩
      rw [hx] at ch hc
      rw [hy] at ca hc
      have HXX : Hid (f h = x) := hx
      have HYY : Hid (f a = y) := hy
      have hz1 : (h : Int) < (N : Int) := by omega
      have hz2 : (a : Int) < (N : Int) := by omega
      clear hx hy ma
      by_cases hlv : cf x y < 0
      · go_wp2_with fail
        go_quiet (first | (go_at_fn g; refine Calls.quiet_of (hc _)))
        go_wp2
        go_roundw
        case rel =>
          refine ⟨h + 1, j, by go_num, rfl, by omega, by omega, hjb, HL.out.drewN nq, (show Hid _ from ⟨fun _ => ?_, HK.out.2⟩)⟩
          have q := HCI.out
          rw [HXX.out, HYY.out] at q
          rw [show h + 1 - 1 = h by omega, HXX.out, HYY.out]
          exact Or.inl (q.1 hlv)
        case measure => simp [intOf]; omega
      · go_wp2_with fail
        go_quiet (first | (go_at_fn g; refine Calls.quiet_of (hc _)))
        go_wp2
        go_roundw
        case rel =>
          refine ⟨i, h, rfl, rfl, by omega, by omega, by omega, HL.out.drewN nq, (show Hid _ from ⟨HK.out.1, fun _ => ?_⟩)⟩
          have q := HCI.out
          have q1 := HLT.out
          rw [HXX.out, HYY.out] at q q1
          have q3 : ¬ c x < c y := fun hh => by have := q.2 hh; omega
          rw [HXX.out, HYY.out]
          simp only [Lex]; omega
        case measure => simp [intOf]; omega
    · obtain rfl : i = j := by omega
      have hlz : ¬ (i : Int) < (i : Int) := by omega
      have ma := HM.out
      have FIN : Hid (Up (Lex c) (rot f a (a + 1) i) a b ∧ From (rot f a (a + 1) i) f a b) := by
        refine ⟨ins_lo (Lex.tr c) (by omega) hjb (by rw [ma]; exact HU.out) (fun q => HK.out.1 (by omega)) (fun q => HK.out.2 q), ?_⟩
        exact (rot_from (Nat.le_succ a) (by omega)).wide (Nat.le_refl _) hjb
      clear HK HU HX HCF HC HV hij
      have hai : a < i := by omega
      clear HM ma hmi hab
      go_wp2
      go_loopw [13] (fun kv wr2 => ∃ k : Nat, kv = .int .i64 k ∧ a ≤ k ∧ k + 1 ≤ i ∧ Hid (Lay w wr2 blk off (rot f a (a + 1) (k + 1)) N)) (fun kv _ => (i - intOf kv).toNat)
      case atStart => exact ⟨a, rfl, Nat.le_refl _, by omega, (show Hid _ from by show Lay _ _ _ _ _ _; rw [up_zero]; exact HL.out)⟩
      case round =>
        clear HL
        obtain ⟨k, rfl, hak, hki, HL⟩ := hrel
        have w1 : IntKind.i64.wrap ((i : Int) - 1) = (i : Int) - 1 := by rw [IntKind.wrap_i64]; omega
        by_cases hk : k + 1 < i
        · have hkz : (k : Int) < (i : Int) - 1 := by omega
          obtain ⟨ck, fk⟩ := HL.out.cell HH.out (k := k) (by omega)
          obtain ⟨cp, fp⟩ := HL.out.cell HH.out (k := k + 1) (by omega)
          have HSW : Hid _ := HL.out.swp (i := k) (j := k + 1) (by omega) (by omega)
          have HUS : Hid (swp (rot f a (a + 1) (k + 1)) k (k + 1) = rot f a (a + 1) (k + 1 + 1)) := up_step hak
          have hz1 : (k : Int) < (N : Int) := by omega
          have hz2 : (k : Int) + 1 < (N : Int) := by omega
          have p0 : (0 : Int) ≤ (k : Int) + 1 := by omega
          have e0 : ((k : Int) + 1).toNat = k + 1 := by omega
          generalize rot f a (a + 1) (k + 1) k = x at *
          generalize rot f a (a + 1) (k + 1) (k + 1) = y at *
          obtain ⟨k1, hk1⟩ : ∃ k1, k1 = k + 1 := ⟨_, rfl⟩
          rw [← hk1] at cp fp e0
          have K1 : Hid (k1 = k + 1) := hk1
          clear hk1
          clear HL FIN HH
          go_wp2_with fail
          go_region
          all_goals go_wp2
          all_goals go_roundw
          case rel =>
            refine ⟨k + 1, by first | rfl | go_num, by omega, by omega, ?_⟩
            show Lay _ _ _ _ _ _
            have L := HSW.out
            rw [HUS.out] at L
            rw [K1.out]
            exact L
          case measure => simp [intOf]; omega
        · obtain rfl : i = k + 1 := by omega
          have hkz : ¬ (k : Int) < ((k + 1 : Nat) : Int) - 1 := by omega
          go_wp2
          (try simp only [Exit.inBlock, Exit.then]); refine bodyPost_ret (results_none rfl _ _ _) rfl ?_
          exact ⟨rfl, _, HL.out, FIN.out⟩
end Go.Proofs.Ytlebalaniccepaa
