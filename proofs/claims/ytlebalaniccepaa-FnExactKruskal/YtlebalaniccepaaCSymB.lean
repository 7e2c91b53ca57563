/- The stable sort's merge where the right part is one. -/
import Derived.Test.YtlebalaniccepaaRows
import Derived.Test.YtlebalaniccepaaCInsSort
namespace Go.Proofs.Ytlebalaniccepaa
open Go.RowKit
open MSym
set_option linter.unusedSimpArgs false in
set_option maxHeartbeats 3200000 in
set_option maxRecDepth 1000000 in
theorem symB_any (blk off cap N a m g : Nat) (cb : Array Value) (c : Nat → Nat) (cf : Nat → Nat → Int) (f : Nat → Nat) (w : World) (hH : Sort.Holds nv w blk off (ar f N)) (eg : ∀ args w, (callFunc g args).run Try.prog w = .ok (.enter g args) w) (hC : Cmps w blk off N g cb cf) (hcf : ∀ x y, cf x y < 0 ↔ c x < c y) (hv : ∀ k, k < N → f k < N) (hU : Up (Lex c) f a m) (hX : Cross (· < ·) f a m (m + 1)) (hab : a + 1 < m) (hb : m + 1 ≤ N) (hN : N ≤ 1000) :
    Calls Try.prog 97 #[.slice (some ⟨blk, off, none⟩) N cap, .int .i64 a, .int .i64 m, .int .i64 ((m + 1 : Nat) : Int), .func (.func g) #[] cb] w fun e w' => e = .returned (.tuple #[]) ∧ ∃ h, Lay w w' blk off h N ∧ Up (Lex c) h a (m + 1) ∧ From h f a (m + 1) := by
  have HH : Hid (Sort.Holds nv w blk off (ar f N)) := hH
  have HST : Hid (Lay w w blk off f N) := Lay.self hH
  have HC : Aside _ := hC
  have HV : Aside _ := hv
  have HU : Aside _ := hU
  have HX : Aside _ := hX
  have HCF : Aside _ := hcf
  clear hH hC hv hX hcf hU
  generalize hm : m + 1 = b at *
  have HM : Hid (m + 1 = b) := hm
  have hma : IntKind.i64.wrap ((m : Int) - (a : Int)) = (m : Int) - (a : Int) := by rw [IntKind.wrap_i64]; omega
  have hmb : IntKind.i64.wrap ((b : Int) - (m : Int)) = 1 := by rw [IntKind.wrap_i64]; omega
  have hne : ((m : Int) - (a : Int) == 1) = false := by simp; omega
  clear hm
  go_enter Try.func97, Try.ntmps97
  go_wp2
  go_loopw [14, 15, 16] (fun iv jv _ wr => ∃ (i j : Nat), iv = .int .i64 i ∧ jv = .int .i64 j ∧ a ≤ i ∧ i ≤ j ∧ j ≤ m ∧ Hid (Lay w wr blk off f N) ∧ Hid ((a < i → Lex c (f (i - 1)) (f m)) ∧ (j < m → Lex c (f m) (f j)))) (fun iv jv _ _ => (intOf jv - intOf iv).toNat)
  case atStart => exact ⟨a, m, rfl, rfl, by omega, by omega, by omega, HST, (show Hid _ from ⟨fun h => by omega, fun h => by omega⟩)⟩
  case round =>
    clear HST
    obtain ⟨i, j, rfl, rfl, hmi, hij, hjb, HL, HK⟩ := hrel
    by_cases hlt : i < j
    · have hlz : (i : Int) < (j : Int) := by omega
      obtain ⟨h, hh⟩ : ∃ h : Nat, ((i : Int) + (j : Int)) / 2 = (h : Int) := ⟨(i + j) / 2, by omega⟩
      have h1 : i ≤ h := by omega
      have h2 : h < j := by omega
      have ma := HM.out
      obtain ⟨ch, _⟩ := HL.out.cell HH.out (k := h) (by omega)
      obtain ⟨ca, _⟩ := HL.out.cell HH.out (k := m) (by omega)
      have hc := HC.out _ _ HL.out (f m) (f h) (HV.out m (by omega)) (HV.out h (by omega))
      have HLT : Hid (f h < f m) := HX.out h m (by omega) (by omega) (by omega) (by omega)
      have HCI : Hid (cf (f m) (f h) < 0 ↔ c (f m) < c (f h)) := HCF.out _ _
      obtain ⟨x, hx⟩ : ∃ x, f h = x := ⟨_, rfl⟩
      obtain ⟨y, hy⟩ : ∃ y, f m = y := ⟨_, rfl⟩
      rw [hx] at ch hc
      rw [hy] at ca hc
      have HXX : Hid (f h = x) := hx
      have HYY : Hid (f m = y) := hy
      have hz1 : (h : Int) < (N : Int) := by omega
      have hz2 : (m : Int) < (N : Int) := by omega
      clear hx hy ma
      by_cases hlv : cf y x < 0
      · have hlb : decide (cf y x < 0) = true := decide_eq_true hlv
        go_wp2_with fail
        go_quiet (first | (go_at_fn g; refine Calls.quiet_of (hc _)))
        go_wp2
        go_roundw
        case rel =>
          refine ⟨i, h, rfl, rfl, by omega, by omega, by omega, HL.out.drewN nq, (show Hid _ from ⟨HK.out.1, fun _ => ?_⟩)⟩
          have q := HCI.out
          rw [HXX.out, HYY.out] at q
          rw [HXX.out, HYY.out]
          exact Or.inl (q.1 hlv)
        case measure => simp [intOf]; omega
      · have hlb : decide (cf y x < 0) = false := decide_eq_false hlv
        go_wp2_with fail
        go_quiet (first | (go_at_fn g; refine Calls.quiet_of (hc _)))
        go_wp2
        go_roundw
        case rel =>
          refine ⟨h + 1, j, by go_num, rfl, by omega, by omega, hjb, HL.out.drewN nq, (show Hid _ from ⟨fun _ => ?_, HK.out.2⟩)⟩
          have q := HCI.out
          have q1 := HLT.out
          rw [HXX.out, HYY.out] at q q1
          have q3 : ¬ c y < c x := fun hh => by have := q.2 hh; omega
          rw [show h + 1 - 1 = h by omega, HXX.out, HYY.out]
          simp only [Lex]; omega
        case measure => simp [intOf]; omega
    · obtain rfl : i = j := by omega
      have hlz : ¬ (i : Int) < (i : Int) := by omega
      have ma := HM.out
      have FIN : Hid (Up (Lex c) (rot f i m (m + 1)) a b ∧ From (rot f i m (m + 1)) f a b) := by
        rw [← ma]
        refine ⟨ins_hi (Lex.tr c) hmi hjb HU.out (fun q => HK.out.1 (by omega)) (fun q => HK.out.2 q), ?_⟩
        exact (rot_from hjb (Nat.le_succ m)).wide hmi (Nat.le_refl _)
      clear HK HU HX HCF HC HV hij
      have hbN : m < N := by omega
      clear HM ma
      go_wp2
      go_loopw [17] (fun kv wr2 => ∃ k : Nat, kv = .int .i64 k ∧ i ≤ k ∧ k ≤ m ∧ Hid (Lay w wr2 blk off (rot f k m (m + 1)) N)) (fun kv _ => (intOf kv).toNat)
      case atStart => exact ⟨m, rfl, hjb, Nat.le_refl _, (show Hid _ from by show Lay _ _ _ _ _ _; rw [down_zero]; exact HL.out)⟩
      case round =>
        clear HL
        obtain ⟨k, rfl, hak, hki, HL⟩ := hrel
        by_cases hk : i < k
        · obtain ⟨kp, rfl⟩ : ∃ kp, k = kp + 1 := ⟨k - 1, by omega⟩
          have hkz : (i : Int) < (kp : Int) + 1 := by omega
          have hkd : decide ((kp : Int) + 1 > (i : Int)) = true := decide_eq_true (by omega)
          obtain ⟨ck, fk⟩ := HL.out.cell HH.out (k := kp + 1) (by omega)
          obtain ⟨cp, fp⟩ := HL.out.cell HH.out (k := kp) (by omega)
          have HSW : Hid _ := HL.out.swp (i := kp + 1) (j := kp) (by omega) (by omega)
          have HUS : Hid (swp (rot f (kp + 1) m (m + 1)) (kp + 1) kp = rot f kp m (m + 1)) := down_step (f := f) (k := kp + 1) (m := m) (by omega) (by omega)
          have hwp : IntKind.i64.wrap (kp : Int) = (kp : Int) := by rw [IntKind.wrap_i64]; omega
          have hz1 : (kp : Int) < (N : Int) := by omega
          have hz2 : (kp : Int) + 1 < (N : Int) := by omega
          have p0 : (0 : Int) ≤ (kp : Int) + 1 := by omega
          have e0 : ((kp : Int) + 1).toNat = kp + 1 := by omega
          generalize rot f (kp + 1) m (m + 1) (kp + 1) = x at *
          generalize rot f (kp + 1) m (m + 1) kp = y at *
          obtain ⟨k1, hk1⟩ : ∃ k1, k1 = kp + 1 := ⟨_, rfl⟩
          rw [← hk1] at ck fk e0
          have K1 : Hid (k1 = kp + 1) := hk1
          clear hk1
          clear HL FIN HH
          go_wp2_with fail
          go_region
          all_goals go_wp2
          all_goals go_roundw
          case rel =>
            refine ⟨kp, by first | rfl | go_num, by omega, by omega, ?_⟩
            show Lay _ _ _ _ _ _
            have L := HSW.out
            rw [HUS.out] at L
            rw [K1.out]
            exact L
          case measure => simp [intOf]
        · obtain rfl : i = k := by omega
          have hkz : ¬ (i : Int) < (i : Int) := by omega
          go_wp2
          (try simp only [Exit.inBlock, Exit.then]); refine bodyPost_ret (results_none rfl _ _ _) rfl ?_
          exact ⟨rfl, _, HL.out, FIN.out⟩
end Go.Proofs.Ytlebalaniccepaa
