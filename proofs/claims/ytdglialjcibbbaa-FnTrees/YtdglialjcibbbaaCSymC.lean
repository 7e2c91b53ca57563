import Derived.Test.YtdglialjcibbbaaRows
import Derived.Test.YtdglialjcibbbaaCInsSort
/- The stable sort's merge where the left part is one. -/
namespace Go.Proofs.Ytdglialjcibbbaa
open Go.RowKit
open MSym
set_option linter.unusedSimpArgs false in
set_option maxHeartbeats 3200000 in
set_option maxRecDepth 1000000 in
theorem symA_any (blk off cap N a b g : Nat) (cb : Array Value) (c : Nat → Nat) (cf : Nat → Nat → Int) (f : Nat → Nat) (w : World) (hH : Sort.Holds nv w blk off (ar f N)) (eg : ∀ args w, (callFunc g args).run Try.prog w = .ok (.enter g args) w) (hC : Cmps w blk off N g cb cf) (hcf : ∀ x y, cf x y < 0 ↔ c x < c y) (hv : ∀ k, k < N → f k < N) (hU : Up (Lex c) f (a + 1) b) (hX : Cross (· < ·) f a (a + 1) b) (hab : a + 1 < b) (hb : b ≤ N) (hN : N ≤ 1000) :
    Calls Try.prog 84 #[.slice (some ⟨blk, off, none⟩) N cap, .int .i64 a, .int .i64 ((a + 1 : Nat) : Int), .int .i64 b, .func (.func g) #[] cb] w fun e w' => e = .returned (.tuple #[]) ∧ ∃ h, Lay w w' blk off h N ∧ Up (Lex c) h a b ∧ From h f a b := by
  have HH : Hid (Sort.Holds nv w blk off (ar f N)) := hH
  have HST : Hid (Lay w w blk off f N) := Lay.self hH
  have HC : Aside _ := hC
  have HV : Aside _ := hv
  have HU : Aside _ := hU
  have HX : Aside _ := hX
  have HCF : Aside _ := hcf
  clear hH hC hv hX hcf hU
  generalize hm : a + 1 = m at *
  have HM : Hid (a + 1 = m) := hm
  have hma : IntKind.i64.wrap ((m : Int) - (a : Int)) = 1 := by rw [IntKind.wrap_i64]; omega
  clear hm
  go_enter Try.func84, Try.ntmps84
  go_wp2
  go_loopw [10, 11, 12] (fun iv jv _ wr => ∃ (i j : Nat), iv = .int .i64 i ∧ jv = .int .i64 j ∧ m ≤ i ∧ i ≤ j ∧ j ≤ b ∧ Hid (Lay w wr blk off f N) ∧ Hid ((m < i → Lex c (f (i - 1)) (f a)) ∧ (j < b → Lex c (f a) (f j)))) (fun iv jv _ _ => (intOf jv - intOf iv).toNat)
  case atStart => exact ⟨m, b, rfl, rfl, by omega, by omega, by omega, HST, (show Hid _ from ⟨fun h => by omega, fun h => by omega⟩)⟩
  case round =>
    clear HST
    obtain ⟨i, j, rfl, rfl, hmi, hij, hjb, HL, HK⟩ := hrel
    by_cases hlt : i < j
    · have hlz : (i : Int) < (j : Int) := by omega
      obtain ⟨h, hh⟩ : ∃ h : Nat, ((i : Int) + (j : Int)) / 2 = (h : Int) := ⟨(i + j) / 2, by omega⟩
      have h1 : i ≤ h := by omega
      have h2 : h < j := by omega
      have ma := HM.out
      obtain ⟨ch, _⟩ := HL.out.cell HH.out (k := h) (by omega)
      obtain ⟨ca, _⟩ := HL.out.cell HH.out (k := a) (by omega)
      have hc := HC.out _ _ HL.out (f h) (f a) (HV.out h (by omega)) (HV.out a (by omega))
      have HLT : Hid (f a < f h) := HX.out a h (Nat.le_refl _) (by omega) (by omega) (by omega)
      have HCI : Hid (cf (f h) (f a) < 0 ↔ c (f h) < c (f a)) := HCF.out _ _
      obtain ⟨x, hx⟩ : ∃ x, f h = x := ⟨_, rfl⟩
      obtain ⟨y, hy⟩ : ∃ y, f a = y := ⟨_, rfl⟩
      rw [hx] at ch hc
      rw [hy] at ca hc
      have HXX : Hid (f h = x) := hx
      have HYY : Hid (f a = y) := hy
      have hz1 : (h : Int) < (N : Int) := by omega
      have hz2 : (a : Int) < (N : Int) := by omega
      clear hx hy ma
      by_cases hlv : cf x y < 0
      · go_wp2_with fail
        go_quiet (first | (go_at_fn g; refine Calls.quiet_of (hc _)))
        go_wp2
        go_roundw
        case rel =>
          refine ⟨h + 1, j, by go_num, rfl, by omega, by omega, hjb, HL.out.drewN nq, (show Hid _ from ⟨fun _ => ?_, HK.out.2⟩)⟩
          have q := HCI.out
          rw [HXX.out, HYY.out] at q
          rw [show h + 1 - 1 = h by omega, HXX.out, HYY.out]
          exact Or.inl (q.1 hlv)
        case measure => simp [intOf]; omega
      · go_wp2_with fail
        go_quiet (first | (go_at_fn g; refine Calls.quiet_of (hc _)))
        go_wp2
        go_roundw
        case rel =>
          refine ⟨i, h, rfl, rfl, by omega, by omega, by omega, HL.out.drewN nq, (show Hid _ from ⟨HK.out.1, fun _ => ?_⟩)⟩
          have q := HCI.out
          have q1 := HLT.out
          rw [HXX.out, HYY.out] at q q1
          have q3 : ¬ c x < c y := fun hh => by have := q.2 hh; omega
          rw [HXX.out, HYY.out]
          simp only [Lex]; omega
        case measure => simp [intOf]; omega
    · obtain rfl : i = j := by omega
      have hlz : ¬ (i : Int) < (i : Int) := by omega
      have ma := HM.out
      have FIN : Hid (Up (Lex c) (rot f a (a + 1) i) a b ∧ From (rot f a (a + 1) i) f a b) := by
        refine ⟨ins_lo (Lex.tr c) (by omega) hjb (by rw [ma]; exact HU.out) (fun q => HK.out.1 (by omega)) (fun q => HK.out.2 q), ?_⟩
        exact (rot_from (Nat.le_succ a) (by omega)).wide (Nat.le_refl _) hjb
      clear HK HU HX HCF HC HV hij
      have hai : a < i := by omega
      clear HM ma hmi hab
      go_wp2
      go_loopw [13] (fun kv wr2 => ∃ k : Nat, kv = .int .i64 k ∧ a ≤ k ∧ k + 1 ≤ i ∧ Hid (Lay w wr2 blk off (rot f a (a + 1) (k + 1)) N)) (fun kv _ => (i - intOf kv).toNat)
      case atStart => exact ⟨a, rfl, Nat.le_refl _, by omega, (show Hid _ from by show Lay _ _ _ _ _ _; rw [up_zero]; exact HL.out)⟩
      case round =>
        clear HL
        obtain ⟨k, rfl, hak, hki, HL⟩ := hrel
        have w1 : IntKind.i64.wrap ((i : Int) - 1) = (i : Int) - 1 := by rw [IntKind.wrap_i64]; omega
        by_cases hk : k + 1 < i
        · have hkz : (k : Int) < (i : Int) - 1 := by omega
          obtain ⟨ck, fk⟩ := HL.out.cell HH.out (k := k) (by omega)
          obtain ⟨cp, fp⟩ := HL.out.cell HH.out (k := k + 1) (by omega)
          have HSW : Hid _ := HL.out.swp (i := k) (j := k + 1) (by omega) (by omega)
          have HUS : Hid (swp (rot f a (a + 1) (k + 1)) k (k + 1) = rot f a (a + 1) (k + 1 + 1)) := up_step hak
          have hz1 : (k : Int) < (N : Int) := by omega
          have hz2 : (k : Int) + 1 < (N : Int) := by omega
          have p0 : (0 : Int) ≤ (k : Int) + 1 := by omega
          have e0 : ((k : Int) + 1).toNat = k + 1 := by omega
          generalize rot f a (a + 1) (k + 1) k = x at *
          generalize rot f a (a + 1) (k + 1) (k + 1) = y at *
          obtain ⟨k1, hk1⟩ : ∃ k1, k1 = k + 1 := ⟨_, rfl⟩
          rw [← hk1] at cp fp e0
          have K1 : Hid (k1 = k + 1) := hk1
          clear hk1
          clear HL FIN HH
          go_wp2_with fail
          go_region
          all_goals go_wp2
          all_goals go_roundw
          case rel =>
            refine ⟨k + 1, by first | rfl | go_num, by omega, by omega, ?_⟩
            show Lay _ _ _ _ _ _
            have L := HSW.out
            rw [HUS.out] at L
            rw [K1.out]
            exact L
          case measure => simp [intOf]; omega
        · obtain rfl : i = k + 1 := by omega
          have hkz : ¬ (k : Int) < ((k + 1 : Nat) : Int) - 1 := by omega
          go_wp2
          (try simp only [Exit.inBlock, Exit.then]); refine bodyPost_ret (results_none rfl _ _ _) rfl ?_
          exact ⟨rfl, _, HL.out, FIN.out⟩
end Go.Proofs.Ytdglialjcibbbaa

/- The stable sort's merge where the right part is one. -/
namespace Go.Proofs.Ytdglialjcibbbaa
open Go.RowKit
open MSym
set_option linter.unusedSimpArgs false in
set_option maxHeartbeats 3200000 in
set_option maxRecDepth 1000000 in
theorem symB_any (blk off cap N a m g : Nat) (cb : Array Value) (c : Nat → Nat) (cf : Nat → Nat → Int) (f : Nat → Nat) (w : World) (hH : Sort.Holds nv w blk off (ar f N)) (eg : ∀ args w, (callFunc g args).run Try.prog w = .ok (.enter g args) w) (hC : Cmps w blk off N g cb cf) (hcf : ∀ x y, cf x y < 0 ↔ c x < c y) (hv : ∀ k, k < N → f k < N) (hU : Up (Lex c) f a m) (hX : Cross (· < ·) f a m (m + 1)) (hab : a + 1 < m) (hb : m + 1 ≤ N) (hN : N ≤ 1000) :
    Calls Try.prog 84 #[.slice (some ⟨blk, off, none⟩) N cap, .int .i64 a, .int .i64 m, .int .i64 ((m + 1 : Nat) : Int), .func (.func g) #[] cb] w fun e w' => e = .returned (.tuple #[]) ∧ ∃ h, Lay w w' blk off h N ∧ Up (Lex c) h a (m + 1) ∧ From h f a (m + 1) := by
  have HH : Hid (Sort.Holds nv w blk off (ar f N)) := hH
  have HST : Hid (Lay w w blk off f N) := Lay.self hH
  have HC : Aside _ := hC
  have HV : Aside _ := hv
  have HU : Aside _ := hU
  have HX : Aside _ := hX
  have HCF : Aside _ := hcf
  clear hH hC hv hX hcf hU
  generalize hm : m + 1 = b at *
  have HM : Hid (m + 1 = b) := hm
  have hma : IntKind.i64.wrap ((m : Int) - (a : Int)) = (m : Int) - (a : Int) := by rw [IntKind.wrap_i64]; omega
  have hmb : IntKind.i64.wrap ((b : Int) - (m : Int)) = 1 := by rw [IntKind.wrap_i64]; omega
  have hne : ((m : Int) - (a : Int) == 1) = false := by simp; omega
  clear hm
  go_enter Try.func84, Try.ntmps84
  go_wp2
  go_loopw [14, 15, 16] (fun iv jv _ wr => ∃ (i j : Nat), iv = .int .i64 i ∧ jv = .int .i64 j ∧ a ≤ i ∧ i ≤ j ∧ j ≤ m ∧ Hid (Lay w wr blk off f N) ∧ Hid ((a < i → Lex c (f (i - 1)) (f m)) ∧ (j < m → Lex c (f m) (f j)))) (fun iv jv _ _ => (intOf jv - intOf iv).toNat)
  case atStart => exact ⟨a, m, rfl, rfl, by omega, by omega, by omega, HST, (show Hid _ from ⟨fun h => by omega, fun h => by omega⟩)⟩
  case round =>
    clear HST
    obtain ⟨i, j, rfl, rfl, hmi, hij, hjb, HL, HK⟩ := hrel
    by_cases hlt : i < j
    · have hlz : (i : Int) < (j : Int) := by omega
      obtain ⟨h, hh⟩ : ∃ h : Nat, ((i : Int) + (j : Int)) / 2 = (h : Int) := ⟨(i + j) / 2, by omega⟩
      have h1 : i ≤ h := by omega
      have h2 : h < j := by omega
      have ma := HM.out
      obtain ⟨ch, _⟩ := HL.out.cell HH.out (k := h) (by omega)
      obtain ⟨ca, _⟩ := HL.out.cell HH.out (k := m) (by omega)
      have hc := HC.out _ _ HL.out (f m) (f h) (HV.out m (by omega)) (HV.out h (by omega))
      have HLT : Hid (f h < f m) := HX.out h m (by omega) (by omega) (by omega) (by omega)
      have HCI : Hid (cf (f m) (f h) < 0 ↔ c (f m) < c (f h)) := HCF.out _ _
      obtain ⟨x, hx⟩ : ∃ x, f h = x := ⟨_, rfl⟩
      obtain ⟨y, hy⟩ : ∃ y, f m = y := ⟨_, rfl⟩
      rw [hx] at ch hc
      rw [hy] at ca hc
      have HXX : Hid (f h = x) := hx
      have HYY : Hid (f m = y) := hy
      have hz1 : (h : Int) < (N : Int) := by omega
      have hz2 : (m : Int) < (N : Int) := by omega
      clear hx hy ma
      by_cases hlv : cf y x < 0
      · have hlb : decide (cf y x < 0) = true := decide_eq_true hlv
        go_wp2_with fail
        go_quiet (first | (go_at_fn g; refine Calls.quiet_of (hc _)))
        go_wp2
        go_roundw
        case rel =>
          refine ⟨i, h, rfl, rfl, by omega, by omega, by omega, HL.out.drewN nq, (show Hid _ from ⟨HK.out.1, fun _ => ?_⟩)⟩
          have q := HCI.out
          rw [HXX.out, HYY.out] at q
          rw [HXX.out, HYY.out]
          exact Or.inl (q.1 hlv)
        case measure => simp [intOf]; omega
      · have hlb : decide (cf y x < 0) = false := decide_eq_false hlv
        go_wp2_with fail
        go_quiet (first | (go_at_fn g; refine Calls.quiet_of (hc _)))
        go_wp2
        go_roundw
        case rel =>
          refine ⟨h + 1, j, by go_num, rfl, by omega, by omega, hjb, HL.out.drewN nq, (show Hid _ from ⟨fun _ => ?_, HK.out.2⟩)⟩
          have q := HCI.out
          have q1 := HLT.out
          rw [HXX.out, HYY.out] at q q1
          have q3 : ¬ c y < c x := fun hh => by have := q.2 hh; omega
          rw [show h + 1 - 1 = h by omega, HXX.out, HYY.out]
          simp only [Lex]; omega
        case measure => simp [intOf]; omega
    · obtain rfl : i = j := by omega
      have hlz : ¬ (i : Int) < (i : Int) := by omega
      have ma := HM.out
      have FIN : Hid (Up (Lex c) (rot f i m (m + 1)) a b ∧ From (rot f i m (m + 1)) f a b) := by
        rw [← ma]
        refine ⟨ins_hi (Lex.tr c) hmi hjb HU.out (fun q => HK.out.1 (by omega)) (fun q => HK.out.2 q), ?_⟩
        exact (rot_from hjb (Nat.le_succ m)).wide hmi (Nat.le_refl _)
      clear HK HU HX HCF HC HV hij
      have hbN : m < N := by omega
      clear HM ma
      go_wp2
      go_loopw [17] (fun kv wr2 => ∃ k : Nat, kv = .int .i64 k ∧ i ≤ k ∧ k ≤ m ∧ Hid (Lay w wr2 blk off (rot f k m (m + 1)) N)) (fun kv _ => (intOf kv).toNat)
      case atStart => exact ⟨m, rfl, hjb, Nat.le_refl _, (show Hid _ from by show Lay _ _ _ _ _ _; rw [down_zero]; exact HL.out)⟩
      case round =>
        clear HL
        obtain ⟨k, rfl, hak, hki, HL⟩ := hrel
        by_cases hk : i < k
        · obtain ⟨kp, rfl⟩ : ∃ kp, k = kp + 1 := ⟨k - 1, by omega⟩
          have hkz : (i : Int) < (kp : Int) + 1 := by omega
          have hkd : decide ((kp : Int) + 1 > (i : Int)) = true := decide_eq_true (by omega)
          obtain ⟨ck, fk⟩ := HL.out.cell HH.out (k := kp + 1) (by omega)
          obtain ⟨cp, fp⟩ := HL.out.cell HH.out (k := kp) (by omega)
          have HSW : Hid _ := HL.out.swp (i := kp + 1) (j := kp) (by omega) (by omega)
          have HUS : Hid (swp (rot f (kp + 1) m (m + 1)) (kp + 1) kp = rot f kp m (m + 1)) := down_step (f := f) (k := kp + 1) (m := m) (by omega) (by omega)
          have hwp : IntKind.i64.wrap (kp : Int) = (kp : Int) := by rw [IntKind.wrap_i64]; omega
          have hz1 : (kp : Int) < (N : Int) := by omega
          have hz2 : (kp : Int) + 1 < (N : Int) := by omega
          have p0 : (0 : Int) ≤ (kp : Int) + 1 := by omega
          have e0 : ((kp : Int) + 1).toNat = kp + 1 := by omega
          generalize rot f (kp + 1) m (m + 1) (kp + 1) = x at *
          generalize rot f (kp + 1) m (m + 1) kp = y at *
          obtain ⟨k1, hk1⟩ : ∃ k1, k1 = kp + 1 := ⟨_, rfl⟩
          rw [← hk1] at ck fk e0
          have K1 : Hid (k1 = kp + 1) := hk1
          clear hk1
          clear HL FIN HH
          go_wp2_with fail
          go_region
          all_goals go_wp2
          all_goals go_roundw
          case rel =>
            refine ⟨kp, by first | rfl | go_num, by omega, by omega, ?_⟩
            show Lay _ _ _ _ _ _
            have L := HSW.out
            rw [HUS.out] at L
            rw [K1.out]
            exact L
          case measure => simp [intOf]
        · obtain rfl : i = k := by omega
          have hkz : ¬ (i : Int) < (i : Int) := by omega
          go_wp2
          (try simp only [Exit.inBlock, Exit.then]); refine bodyPost_ret (results_none rfl _ _ _) rfl ?_
          exact ⟨rfl, _, HL.out, FIN.out⟩
end Go.Proofs.Ytdglialjcibbbaa

/- The stable sort's merge where both parts are two or more (laid by tools/gen_symc.py), and the merge whole. -/
namespace Go.Proofs.Ytdglialjcibbbaa
open Go.RowKit
open MSym
namespace MSym
theorem rot_id {f : Nat → Nat} {s m e : Nat} (h : s = m ∨ e = m) (hs : s ≤ m) (he : m ≤ e) : rot f s m e = f := by
  funext k
  simp only [rot]
  repeat' split
  all_goals first | (exfalso; omega) | rfl | (congr 1; omega)
theorem Up.same {R : Nat → Nat → Prop} {f g : Nat → Nat} {a b : Nat} (h : ∀ k, a ≤ k → k < b → g k = f k) (u : Up R f a b) : Up R g a b := by
  intro i j h1 h2 h3
  rw [h i h1 (by omega), h j (by omega) h3]; exact u i j h1 h2 h3
theorem Cross.same {X : Nat → Nat → Prop} {f g : Nat → Nat} {a m b : Nat} (h : ∀ k, a ≤ k → k < b → g k = f k) (_hm : m ≤ b) (ha : a ≤ m) (u : Cross X f a m b) : Cross X g a m b := by
  intro i j h1 h2 h3 h4
  rw [h i h1 (by omega), h j (by omega) h4]; exact u i j h1 h2 h3 h4
theorem From.vals {f g : Nat → Nat} {a b N : Nat} (h : From g f a b) (hb : b ≤ N) (hv : ∀ k, k < N → f k < N) : ∀ k, k < N → g k < N := by
  intro k hk
  by_cases h1 : a ≤ k ∧ k < b
  · obtain ⟨i, _, i2, e⟩ := h.2.1 k h1.1 h1.2
    rw [e]; exact hv i (by omega)
  · rw [h.1 k (by omega)]; exact hv k hk
theorem Cmps.lay {w w1 : World} {blk off N g : Nat} {cb : Array Value} {cf : Nat → Nat → Int} {f : Nat → Nat} (h : Cmps w blk off N g cb cf) (l : Lay w w1 blk off f N) : Cmps w1 blk off N g cb cf :=
  fun wr k lk x y hx hy n => h wr k (l.trans lk) x y hx hy n
/-- what the merge does, of a row f in a world w -/
def Merges (blk off cap N g : Nat) (cb : Array Value) (c : Nat → Nat) (cf : Nat → Nat → Int) (a m b : Nat) : Prop :=
  ∀ (f : Nat → Nat) (w : World), Sort.Holds nv w blk off (ar f N) → Cmps w blk off N g cb cf → (∀ k, k < N → f k < N) → Up (Lex c) f a m → Up (Lex c) f m b → Cross (· < ·) f a m b →
    Calls Try.prog 84 #[.slice (some ⟨blk, off, none⟩) N cap, .int .i64 a, .int .i64 m, .int .i64 b, .func (.func g) #[] cb] w fun e w' => e = .returned (.tuple #[]) ∧ ∃ h, Lay w w' blk off h N ∧ Up (Lex c) h a b ∧ From h f a b
/-- the last step, of the two halves -/
structure Halves (c : Nat → Nat) (f f1 : Nat → Nat) (N a s mid e b : Nat) : Prop where
  fr : From f1 f a b
  vals : ∀ k, k < N → f1 k < N
  u1 : Up (Lex c) f1 a s
  u2 : Up (Lex c) f1 s mid
  u3 : Up (Lex c) f1 mid e
  u4 : Up (Lex c) f1 e b
  x1 : Cross (· < ·) f1 a s mid
  x2 : Cross (· < ·) f1 mid e b
  ap : Cross (Lex c) f1 a mid b
end MSym
set_option linter.unusedSimpArgs false in
set_option maxHeartbeats 6400000 in
set_option maxRecDepth 1000000 in
theorem symC_any (blk off cap N a m b mid g : Nat) (cb : Array Value) (c : Nat → Nat) (cf : Nat → Nat → Int) (f : Nat → Nat) (w : World) (hH : Sort.Holds nv w blk off (ar f N)) (eg : ∀ args w, (callFunc g args).run Try.prog w = .ok (.enter g args) w) (hC : Cmps w blk off N g cb cf) (hcf : ∀ x y, cf x y < 0 ↔ c x < c y) (hv : ∀ k, k < N → f k < N) (hU1 : Up (Lex c) f a m) (hU2 : Up (Lex c) f m b) (hX : Cross (· < ·) f a m b) (ham : a + 1 < m) (hmb : m + 1 < b) (hb : b ≤ N) (hN : N ≤ 1000) (hmd : (a + b) / 2 = mid)
    (hI : ∀ a' m' b', b' - a' < b - a → a' < m' → m' < b' → b' ≤ N → Merges blk off cap N g cb c cf a' m' b') :
    Calls Try.prog 84 #[.slice (some ⟨blk, off, none⟩) N cap, .int .i64 a, .int .i64 m, .int .i64 b, .func (.func g) #[] cb] w fun e w' => e = .returned (.tuple #[]) ∧ ∃ h, Lay w w' blk off h N ∧ Up (Lex c) h a b ∧ From h f a b := by
  have HH : Hid (Sort.Holds nv w blk off (ar f N)) := hH
  have HST : Hid (Lay w w blk off f N) := Lay.self hH
  have HC : Hid (Cmps w blk off N g cb cf) := hC
  have HV : Hid (∀ k, k < N → f k < N) := hv
  have HU1 : Hid (Up (Lex c) f a m) := hU1
  have HU2 : Hid (Up (Lex c) f m b) := hU2
  have HX : Hid (Cross (· < ·) f a m b) := hX
  have HCF : Hid (∀ x y, cf x y < 0 ↔ c x < c y) := hcf
  have IH : Hid (∀ a' m' b', b' - a' < b - a → a' < m' → m' < b' → b' ≤ N → Merges blk off cap N g cb c cf a' m' b') := hI
  clear hH hC hv hX hcf hU1 hU2 hI
  have hma : IntKind.i64.wrap ((m : Int) - (a : Int)) = (m : Int) - (a : Int) := by rw [IntKind.wrap_i64]; omega
  have hmb1 : IntKind.i64.wrap ((b : Int) - (m : Int)) = (b : Int) - (m : Int) := by rw [IntKind.wrap_i64]; omega
  have hne : ((m : Int) - (a : Int) == 1) = false := by simp; omega
  have hne2 : ((b : Int) - (m : Int) == 1) = false := by simp; omega
  have hmid : ((a : Int) + (b : Int)) / 2 = (mid : Int) := by omega
  have hw1 : IntKind.i64.wrap ((mid : Int) + (m : Int)) = (mid : Int) + (m : Int) := by rw [IntKind.wrap_i64]; omega
  have hw2 : IntKind.i64.wrap ((mid : Int) + (m : Int) - 1) = (mid : Int) + (m : Int) - 1 := by rw [IntKind.wrap_i64]; omega
  have s3b : a ≤ mid := by omega
  have e3b : mid ≤ b := by omega
  have am2 : 2 * mid ≤ a + b := by omega
  have am3 : a + b ≤ 2 * mid + 1 := by omega
  clear hmd
  have hq_dummy : True := trivial
  have h_dummy : True := trivial
  by_cases hgt : mid < m
  · have hgz : (mid : Int) < (m : Int) := by omega
    obtain ⟨s0, hs0⟩ : ∃ s0 : Nat, (mid : Int) + (m : Int) - (b : Int) = (s0 : Int) := ⟨mid + m - b, by omega⟩
    have hw3 : IntKind.i64.wrap ((mid : Int) + (m : Int) - (b : Int)) = (s0 : Int) := by rw [hs0, IntKind.wrap_i64]; omega
    have hw4 : IntKind.i64.wrap (s0 : Int) = (s0 : Int) := by rw [IntKind.wrap_i64]; omega
    obtain ⟨r0, hr00⟩ : ∃ r0, r0 = mid := ⟨_, rfl⟩
    go_enter Try.func84, Try.ntmps84
    go_wp2
    go_loopw [20, 21, 23] (fun iv jv _ wr => ∃ (s r : Nat), iv = .int .i64 s ∧ jv = .int .i64 r ∧ s0 ≤ s ∧ s ≤ r ∧ r ≤ r0 ∧ Hid (Lay w wr blk off f N) ∧ Hid ((s0 < s → Lex c (f (s - 1)) (f (mid + m - s))) ∧ (r < r0 → Lex c (f (mid + m - 1 - r)) (f r)))) (fun iv jv _ _ => (intOf jv - intOf iv).toNat)
    case atStart => exact ⟨s0, r0, by first | rfl | (congr 1), by rw [hr00], by omega, by omega, by omega, HST, (show Hid _ from ⟨fun h => by omega, fun h => by omega⟩)⟩
    case round =>
      clear HST
      obtain ⟨s, r, rfl, rfl, hs0, hsr, hr0, HL, HK⟩ := hrel
      by_cases hlt : s < r
      · have hlz : (s : Int) < (r : Int) := by omega
        obtain ⟨h, hh⟩ : ∃ h : Nat, ((s : Int) + (r : Int)) / 2 = (h : Int) := ⟨(s + r) / 2, by omega⟩
        have h1 : s ≤ h := by omega
        have h2 : h < r := by omega
        obtain ⟨q, hq⟩ : ∃ q : Nat, (mid : Int) + (m : Int) - 1 - (h : Int) = (q : Int) := ⟨mid + m - 1 - h, by omega⟩
        have q1 : m ≤ q := by omega
        have q2 : q < b := by omega
        have hqn : q = mid + m - 1 - h := by omega
        have HQ : Hid (q = mid + m - 1 - h) := hqn
        clear hqn
        obtain ⟨ch, _⟩ := HL.out.cell HH.out (k := h) (by omega)
        obtain ⟨cq, _⟩ := HL.out.cell HH.out (k := q) (by omega)
        have hc := HC.out _ _ HL.out (f q) (f h) (HV.out q (by omega)) (HV.out h (by omega))
        have HLT : Hid (f h < f q) := HX.out h q (by omega) (by omega) (by omega) (by omega)
        have HCI : Hid (cf (f q) (f h) < 0 ↔ c (f q) < c (f h)) := HCF.out _ _
        obtain ⟨x, hx⟩ : ∃ x, f h = x := ⟨_, rfl⟩
        obtain ⟨y, hy⟩ : ∃ y, f q = y := ⟨_, rfl⟩
        rw [hx] at ch hc
        rw [hy] at cq hc
        have HXX : Hid (f h = x) := hx
        have HYY : Hid (f q = y) := hy
        have hz1 : (h : Int) < (N : Int) := by omega
        have hz2 : (q : Int) < (N : Int) := by omega
        have hwq : IntKind.i64.wrap ((mid : Int) + (m : Int) - 1 - (h : Int)) = (q : Int) := by rw [hq, IntKind.wrap_i64]; omega
        have hwq1 : IntKind.i64.wrap (q : Int) = (q : Int) := by rw [IntKind.wrap_i64]; omega
        clear hx hy
        by_cases hlv : cf y x < 0
        · have hlb : decide (cf y x < 0) = true := decide_eq_true hlv
          go_wp2_with fail
          go_quiet (first | (go_at_fn g; refine Calls.quiet_of (hc _)))
          go_wp2
          go_roundw
          case rel =>
            refine ⟨s, h, rfl, rfl, by omega, by omega, by omega, HL.out.drewN nq, (show Hid _ from ⟨HK.out.1, fun _ => ?_⟩)⟩
            have k1 := HCI.out
            rw [HXX.out, HYY.out] at k1
            rw [← HQ.out, HXX.out, HYY.out]
            exact Or.inl (k1.1 hlv)
          case measure => simp [intOf]; omega
        · have hlb : decide (cf y x < 0) = false := decide_eq_false hlv
          go_wp2_with fail
          go_quiet (first | (go_at_fn g; refine Calls.quiet_of (hc _)))
          go_wp2
          go_roundw
          case rel =>
            refine ⟨h + 1, r, by go_num, rfl, by omega, by omega, hr0, HL.out.drewN nq, (show Hid _ from ⟨fun _ => ?_, HK.out.2⟩)⟩
            have k1 := HCI.out
            have k2 := HLT.out
            rw [HXX.out, HYY.out] at k1 k2
            have k3 : ¬ c y < c x := fun hh => by have := k1.2 hh; omega
            have k4 := HQ.out
            rw [show h + 1 - 1 = h by omega, show mid + m - (h + 1) = q by omega, HXX.out, HYY.out]
            simp only [Lex]; omega
          case measure => simp [intOf]; omega
      · obtain rfl : s = r := by omega
        have hlz : ¬ (s : Int) < (s : Int) := by omega
        obtain ⟨e, he⟩ : ∃ e : Nat, (mid : Int) + (m : Int) - (s : Int) = (e : Int) := ⟨mid + m - s, by omega⟩
        have e1 : m ≤ e := by omega
        have e2 : e ≤ b := by omega
        have s1 : a ≤ s := by omega
        have s2 : s ≤ m := by omega
        have s3 : s ≤ mid := by omega
        have e3 : mid ≤ e := by omega
        have hwe : IntKind.i64.wrap ((mid : Int) + (m : Int) - (s : Int)) = (e : Int) := by rw [he, IntKind.wrap_i64]; omega
        have hwe1 : IntKind.i64.wrap (e : Int) = (e : Int) := by rw [IntKind.wrap_i64]; omega
        have HF : Hid (Halves c f (rot f s m e) N a s mid e b) := by
          have hem : s + (e - m) = mid := by omega
          obtain ⟨p1, p2, p3, p4, p5, p6⟩ := parts (R := Lex c) (X := (· < ·)) s1 s2 e1 e2 hem HU1.out HU2.out HX.out
          have hfr := (rot_from (f := f) s2 e1).wide s1 e2
          refine ⟨hfr, hfr.vals hb HV.out, p1, p2, p3, p4, p5, p6, ?_⟩
          refine apart (Lex.tr c) s1 s2 e1 e2 hem HU1.out HU2.out (fun _ k2 => ?_) (fun k1 k2 => ?_)
          · have := HK.out.1 (by omega)
            rw [show mid + m - s = e by omega] at this; exact this
          · have := HK.out.2 (by omega)
            rw [show mid + m - 1 - s = e - 1 by omega] at this; exact this
        have HM1 : Hid (a < s → s < mid → Merges blk off cap N g cb c cf a s mid) := fun k1 k2 => IH.out a s mid (by omega) k1 k2 (by omega)
        have HM2 : Hid (mid < e → e < b → Merges blk off cap N g cb c cf mid e b) := fun k1 k2 => IH.out mid e b (by omega) k1 k2 hb
        have RO : Hid (s < m → m < e → ∀ fv, Calls Try.prog 91 #[.slice (some ⟨blk, off, none⟩) N cap, .int .i64 s, .int .i64 m, .int .i64 e, fv] wr fun e' w' => e' = .returned (.tuple #[]) ∧ Lay wr w' blk off (rot f s m e) N) := fun k1 k2 fv => rotate_any blk off cap N s m e f fv wr (HL.out.holds HH.out) k1 k2 (by omega) hN
        have HID : Hid (¬ (s < m ∧ m < e) → rot f s m e = f) := fun k => rot_id (by omega) s2 e1
        clear HK IH HU1 HU2 HX HCF HV
        clear hq_dummy
        generalize rot f s m e = f1 at *
        have CMP : Hid (∀ W fz, Lay w W blk off fz N → Cmps W blk off N g cb cf) := fun W fz l => Cmps.lay HC.out l
        have HOLD : Hid (∀ W fz, Lay w W blk off fz N → Sort.Holds nv W blk off (ar fz N)) := fun W fz l => l.holds HH.out
        clear HC HH
        -- the rest, over the world behind the rotation
        have END2 : Hid (∀ (h1 : Nat → Nat) (w2 : World), Lay w w2 blk off h1 N → Up (Lex c) h1 a mid → From h1 f1 a mid → (mid < e ∧ e < b → Calls Try.prog 84 #[.slice (some ⟨blk, off, none⟩) N cap, .int .i64 mid, .int .i64 e, .int .i64 b, .func (.func g) #[] cb] w2 fun e' w' => e' = .returned (.tuple #[]) ∧ ∃ h, Lay w w' blk off h N ∧ Up (Lex c) h a b ∧ From h f a b) ∧ (¬ (mid < e ∧ e < b) → Up (Lex c) h1 a b ∧ From h1 f a b)) := fun h1 w2 l2 u fr => by
          have F := HF.out
          have same : ∀ k, mid ≤ k → k < b → h1 k = f1 k := fun k k1 _ => fr.1 k (Or.inr k1)
          have U3 := Up.same (fun k k1 k2 => same k k1 (by omega)) F.u3
          have U4 := Up.same (fun k k1 k2 => same k (by omega) k2) F.u4
          refine ⟨fun ⟨k1, k2⟩ => ?_, fun k => ?_⟩
          · refine (HM2.out k1 k2 h1 w2 (HOLD.out _ _ l2) (CMP.out _ _ l2) (fr.vals (by omega) F.vals) U3 U4 (Cross.same same e2 e3 F.x2)).mono ?_
            rintro e' w' ⟨rfl, hz, l3, u3, fr3⟩
            have J := join s3b e3b F.ap fr u fr3 u3
            exact ⟨rfl, hz, l2.trans l3, J.1, J.2.trans F.fr⟩
          · have u3 : Up (Lex c) h1 mid b := by
              by_cases k1 : mid < e
              · have : e = b := by omega
                rw [← this]; exact U3
              · have : e = mid := by omega
                rw [← this]; exact U4
            have J := join s3b e3b F.ap fr u (From.refl _ _ _) u3
            exact ⟨J.1, J.2.trans F.fr⟩
        have END1 : Hid (∀ (w1 : World), Lay w w1 blk off f1 N → (a < s ∧ s < mid → Calls Try.prog 84 #[.slice (some ⟨blk, off, none⟩) N cap, .int .i64 a, .int .i64 s, .int .i64 mid, .func (.func g) #[] cb] w1 fun e' w' => e' = .returned (.tuple #[]) ∧ ∃ h, Lay w w' blk off h N ∧ Up (Lex c) h a mid ∧ From h f1 a mid) ∧ (¬ (a < s ∧ s < mid) → Up (Lex c) f1 a mid ∧ From f1 f1 a mid)) := fun w1 l1 => by
          have F := HF.out
          refine ⟨fun ⟨k1, k2⟩ => ?_, fun k => ?_⟩
          · refine (HM1.out k1 k2 f1 w1 (HOLD.out _ _ l1) (CMP.out _ _ l1) F.vals F.u1 F.u2 F.x1).mono ?_
            rintro e' w' ⟨rfl, hz, l3, u3, fr3⟩
            exact ⟨rfl, hz, l1.trans l3, u3, fr3⟩
          · refine ⟨?_, From.refl _ _ _⟩
            by_cases k1 : a < s
            · have : s = mid := by omega
              rw [← this]; exact F.u1
            · have : s = a := by omega
              rw [← this]; exact F.u2
        clear HF HM1 HM2 CMP HOLD
        have HL1 : Hid (¬ (s < m ∧ m < e) → Lay w wr blk off f1 N) := fun k => by rw [HID.out k]; exact HL.out
        have HLT0 : Hid (∀ W, Lay wr W blk off f1 N → Lay w W blk off f1 N) := fun W l => HL.out.trans l
        clear HID HL
        clear h_dummy
        by_cases hr : s < m ∧ m < e
        · obtain ⟨hr1, hr2⟩ := hr
          have hr1z : (s : Int) < (m : Int) := by omega
          have hr2z : (m : Int) < (e : Int) := by omega
          have RO2 : Hid _ := RO.out hr1 hr2 (.func (.func g) #[] cb)
          clear RO HL1
          go_wp2_with fail
          refine Calls.mono RO2.out ?_
          rintro e' w1 ⟨rfl, l1⟩
          have E1 : Hid _ := END1.out w1 (HLT0.out w1 l1)
          have L1 : Hid (Lay w w1 blk off f1 N) := HLT0.out w1 l1
          clear RO2 END1 HLT0 l1
          by_cases hc : a < s ∧ s < mid
          · obtain ⟨hc1, hc2⟩ := hc
            have hc1z : (a : Int) < (s : Int) := by omega
            have hc2z : (s : Int) < (mid : Int) := by omega
            have Z1 : Hid _ := E1.out.1 ⟨hc1, hc2⟩
            clear E1 L1
            go_wp2_with fail
            refine Calls.mono Z1.out ?_
            rintro e' w2 ⟨rfl, h1, l2, u2, f2⟩
            have E2 : Hid _ := END2.out h1 w2 l2 u2 f2
            have L2 : Hid (Lay w w2 blk off h1 N) := l2
            clear Z1 END2 l2 u2 f2
            by_cases hd : mid < e ∧ e < b
            · obtain ⟨hd1, hd2⟩ := hd
              have hd1z : (mid : Int) < (e : Int) := by omega
              have hd2z : (e : Int) < (b : Int) := by omega
              have Z2 : Hid _ := E2.out.1 ⟨hd1, hd2⟩
              clear E2
              go_wp2_with fail
              all_goals
                refine Calls.mono Z2.out ?_
                rintro e' w3 ⟨rfl, hz, l3, u3, f3⟩
                clear Z2
                go_wp2
                go_end0
                exact ⟨rfl, hz, l3, u3, f3⟩
            · have Z2 : Hid _ := E2.out.2 hd
              clear E2
              by_cases hd1 : mid < e
              · have hd1z : (mid : Int) < (e : Int) := by omega
                have hd2z : ¬ (e : Int) < (b : Int) := by omega
                clear hd
                go_wp2
                all_goals
                  go_end0
                  exact ⟨rfl, _, L2.out, Z2.out.1, Z2.out.2⟩
              · have hd1z : ¬ (mid : Int) < (e : Int) := by omega
                clear hd
                go_wp2
                all_goals
                  go_end0
                  exact ⟨rfl, _, L2.out, Z2.out.1, Z2.out.2⟩
          · have Z1 : Hid _ := E1.out.2 hc
            have E2 : Hid _ := END2.out f1 _ L1.out Z1.out.1 Z1.out.2
            have L2 := L1
            clear E1 L1 END2 Z1
            by_cases hc1 : a < s
            · have hc1z : (a : Int) < (s : Int) := by omega
              have hc2z : ¬ (s : Int) < (mid : Int) := by omega
              clear hc
              by_cases hd : mid < e ∧ e < b
              · obtain ⟨hd1, hd2⟩ := hd
                have hd1z : (mid : Int) < (e : Int) := by omega
                have hd2z : (e : Int) < (b : Int) := by omega
                have Z2 : Hid _ := E2.out.1 ⟨hd1, hd2⟩
                clear E2
                go_wp2_with fail
                all_goals
                  refine Calls.mono Z2.out ?_
                  rintro e' w3 ⟨rfl, hz, l3, u3, f3⟩
                  clear Z2
                  go_wp2
                  go_end0
                  exact ⟨rfl, hz, l3, u3, f3⟩
              · have Z2 : Hid _ := E2.out.2 hd
                clear E2
                by_cases hd1 : mid < e
                · have hd1z : (mid : Int) < (e : Int) := by omega
                  have hd2z : ¬ (e : Int) < (b : Int) := by omega
                  clear hd
                  go_wp2
                  all_goals
                    go_end0
                    exact ⟨rfl, _, L2.out, Z2.out.1, Z2.out.2⟩
                · have hd1z : ¬ (mid : Int) < (e : Int) := by omega
                  clear hd
                  go_wp2
                  all_goals
                    go_end0
                    exact ⟨rfl, _, L2.out, Z2.out.1, Z2.out.2⟩
            · have hc1z : ¬ (a : Int) < (s : Int) := by omega
              clear hc
              by_cases hd : mid < e ∧ e < b
              · obtain ⟨hd1, hd2⟩ := hd
                have hd1z : (mid : Int) < (e : Int) := by omega
                have hd2z : (e : Int) < (b : Int) := by omega
                have Z2 : Hid _ := E2.out.1 ⟨hd1, hd2⟩
                clear E2
                go_wp2_with fail
                all_goals
                  refine Calls.mono Z2.out ?_
                  rintro e' w3 ⟨rfl, hz, l3, u3, f3⟩
                  clear Z2
                  go_wp2
                  go_end0
                  exact ⟨rfl, hz, l3, u3, f3⟩
              · have Z2 : Hid _ := E2.out.2 hd
                clear E2
                by_cases hd1 : mid < e
                · have hd1z : (mid : Int) < (e : Int) := by omega
                  have hd2z : ¬ (e : Int) < (b : Int) := by omega
                  clear hd
                  go_wp2
                  all_goals
                    go_end0
                    exact ⟨rfl, _, L2.out, Z2.out.1, Z2.out.2⟩
                · have hd1z : ¬ (mid : Int) < (e : Int) := by omega
                  clear hd
                  go_wp2
                  all_goals
                    go_end0
                    exact ⟨rfl, _, L2.out, Z2.out.1, Z2.out.2⟩
        · have L1 : Hid (Lay w wr blk off f1 N) := HL1.out hr
          have E1 : Hid _ := END1.out wr L1.out
          clear RO HL1 END1 HLT0
          by_cases hr1 : s < m
          · have hr1z : (s : Int) < (m : Int) := by omega
            have hr2z : ¬ (m : Int) < (e : Int) := by omega
            clear hr
            by_cases hc : a < s ∧ s < mid
            · obtain ⟨hc1, hc2⟩ := hc
              have hc1z : (a : Int) < (s : Int) := by omega
              have hc2z : (s : Int) < (mid : Int) := by omega
              have Z1 : Hid _ := E1.out.1 ⟨hc1, hc2⟩
              clear E1 L1
              go_wp2_with fail
              refine Calls.mono Z1.out ?_
              rintro e' w2 ⟨rfl, h1, l2, u2, f2⟩
              have E2 : Hid _ := END2.out h1 w2 l2 u2 f2
              have L2 : Hid (Lay w w2 blk off h1 N) := l2
              clear Z1 END2 l2 u2 f2
              by_cases hd : mid < e ∧ e < b
              · obtain ⟨hd1, hd2⟩ := hd
                have hd1z : (mid : Int) < (e : Int) := by omega
                have hd2z : (e : Int) < (b : Int) := by omega
                have Z2 : Hid _ := E2.out.1 ⟨hd1, hd2⟩
                clear E2
                go_wp2_with fail
                all_goals
                  refine Calls.mono Z2.out ?_
                  rintro e' w3 ⟨rfl, hz, l3, u3, f3⟩
                  clear Z2
                  go_wp2
                  go_end0
                  exact ⟨rfl, hz, l3, u3, f3⟩
              · have Z2 : Hid _ := E2.out.2 hd
                clear E2
                by_cases hd1 : mid < e
                · have hd1z : (mid : Int) < (e : Int) := by omega
                  have hd2z : ¬ (e : Int) < (b : Int) := by omega
                  clear hd
                  go_wp2
                  all_goals
                    go_end0
                    exact ⟨rfl, _, L2.out, Z2.out.1, Z2.out.2⟩
                · have hd1z : ¬ (mid : Int) < (e : Int) := by omega
                  clear hd
                  go_wp2
                  all_goals
                    go_end0
                    exact ⟨rfl, _, L2.out, Z2.out.1, Z2.out.2⟩
            · have Z1 : Hid _ := E1.out.2 hc
              have E2 : Hid _ := END2.out f1 _ L1.out Z1.out.1 Z1.out.2
              have L2 := L1
              clear E1 L1 END2 Z1
              by_cases hc1 : a < s
              · have hc1z : (a : Int) < (s : Int) := by omega
                have hc2z : ¬ (s : Int) < (mid : Int) := by omega
                clear hc
                by_cases hd : mid < e ∧ e < b
                · obtain ⟨hd1, hd2⟩ := hd
                  have hd1z : (mid : Int) < (e : Int) := by omega
                  have hd2z : (e : Int) < (b : Int) := by omega
                  have Z2 : Hid _ := E2.out.1 ⟨hd1, hd2⟩
                  clear E2
                  go_wp2_with fail
                  all_goals
                    refine Calls.mono Z2.out ?_
                    rintro e' w3 ⟨rfl, hz, l3, u3, f3⟩
                    clear Z2
                    go_wp2
                    go_end0
                    exact ⟨rfl, hz, l3, u3, f3⟩
                · have Z2 : Hid _ := E2.out.2 hd
                  clear E2
                  by_cases hd1 : mid < e
                  · have hd1z : (mid : Int) < (e : Int) := by omega
                    have hd2z : ¬ (e : Int) < (b : Int) := by omega
                    clear hd
                    go_wp2
                    all_goals
                      go_end0
                      exact ⟨rfl, _, L2.out, Z2.out.1, Z2.out.2⟩
                  · have hd1z : ¬ (mid : Int) < (e : Int) := by omega
                    clear hd
                    go_wp2
                    all_goals
                      go_end0
                      exact ⟨rfl, _, L2.out, Z2.out.1, Z2.out.2⟩
              · have hc1z : ¬ (a : Int) < (s : Int) := by omega
                clear hc
                by_cases hd : mid < e ∧ e < b
                · obtain ⟨hd1, hd2⟩ := hd
                  have hd1z : (mid : Int) < (e : Int) := by omega
                  have hd2z : (e : Int) < (b : Int) := by omega
                  have Z2 : Hid _ := E2.out.1 ⟨hd1, hd2⟩
                  clear E2
                  go_wp2_with fail
                  all_goals
                    refine Calls.mono Z2.out ?_
                    rintro e' w3 ⟨rfl, hz, l3, u3, f3⟩
                    clear Z2
                    go_wp2
                    go_end0
                    exact ⟨rfl, hz, l3, u3, f3⟩
                · have Z2 : Hid _ := E2.out.2 hd
                  clear E2
                  by_cases hd1 : mid < e
                  · have hd1z : (mid : Int) < (e : Int) := by omega
                    have hd2z : ¬ (e : Int) < (b : Int) := by omega
                    clear hd
                    go_wp2
                    all_goals
                      go_end0
                      exact ⟨rfl, _, L2.out, Z2.out.1, Z2.out.2⟩
                  · have hd1z : ¬ (mid : Int) < (e : Int) := by omega
                    clear hd
                    go_wp2
                    all_goals
                      go_end0
                      exact ⟨rfl, _, L2.out, Z2.out.1, Z2.out.2⟩
          · have hr1z : ¬ (s : Int) < (m : Int) := by omega
            clear hr
            by_cases hc : a < s ∧ s < mid
            · obtain ⟨hc1, hc2⟩ := hc
              have hc1z : (a : Int) < (s : Int) := by omega
              have hc2z : (s : Int) < (mid : Int) := by omega
              have Z1 : Hid _ := E1.out.1 ⟨hc1, hc2⟩
              clear E1 L1
              go_wp2_with fail
              refine Calls.mono Z1.out ?_
              rintro e' w2 ⟨rfl, h1, l2, u2, f2⟩
              have E2 : Hid _ := END2.out h1 w2 l2 u2 f2
              have L2 : Hid (Lay w w2 blk off h1 N) := l2
              clear Z1 END2 l2 u2 f2
              by_cases hd : mid < e ∧ e < b
              · obtain ⟨hd1, hd2⟩ := hd
                have hd1z : (mid : Int) < (e : Int) := by omega
                have hd2z : (e : Int) < (b : Int) := by omega
                have Z2 : Hid _ := E2.out.1 ⟨hd1, hd2⟩
                clear E2
                go_wp2_with fail
                all_goals
                  refine Calls.mono Z2.out ?_
                  rintro e' w3 ⟨rfl, hz, l3, u3, f3⟩
                  clear Z2
                  go_wp2
                  go_end0
                  exact ⟨rfl, hz, l3, u3, f3⟩
              · have Z2 : Hid _ := E2.out.2 hd
                clear E2
                by_cases hd1 : mid < e
                · have hd1z : (mid : Int) < (e : Int) := by omega
                  have hd2z : ¬ (e : Int) < (b : Int) := by omega
                  clear hd
                  go_wp2
                  all_goals
                    go_end0
                    exact ⟨rfl, _, L2.out, Z2.out.1, Z2.out.2⟩
                · have hd1z : ¬ (mid : Int) < (e : Int) := by omega
                  clear hd
                  go_wp2
                  all_goals
                    go_end0
                    exact ⟨rfl, _, L2.out, Z2.out.1, Z2.out.2⟩
            · have Z1 : Hid _ := E1.out.2 hc
              have E2 : Hid _ := END2.out f1 _ L1.out Z1.out.1 Z1.out.2
              have L2 := L1
              clear E1 L1 END2 Z1
              by_cases hc1 : a < s
              · have hc1z : (a : Int) < (s : Int) := by omega
                have hc2z : ¬ (s : Int) < (mid : Int) := by omega
                clear hc
                by_cases hd : mid < e ∧ e < b
                · obtain ⟨hd1, hd2⟩ := hd
                  have hd1z : (mid : Int) < (e : Int) := by omega
                  have hd2z : (e : Int) < (b : Int) := by omega
                  have Z2 : Hid _ := E2.out.1 ⟨hd1, hd2⟩
                  clear E2
                  go_wp2_with fail
                  all_goals
                    refine Calls.mono Z2.out ?_
                    rintro e' w3 ⟨rfl, hz, l3, u3, f3⟩
                    clear Z2
                    go_wp2
                    go_end0
                    exact ⟨rfl, hz, l3, u3, f3⟩
                · have Z2 : Hid _ := E2.out.2 hd
                  clear E2
                  by_cases hd1 : mid < e
                  · have hd1z : (mid : Int) < (e : Int) := by omega
                    have hd2z : ¬ (e : Int) < (b : Int) := by omega
                    clear hd
                    go_wp2
                    all_goals
                      go_end0
                      exact ⟨rfl, _, L2.out, Z2.out.1, Z2.out.2⟩
                  · have hd1z : ¬ (mid : Int) < (e : Int) := by omega
                    clear hd
                    go_wp2
                    all_goals
                      go_end0
                      exact ⟨rfl, _, L2.out, Z2.out.1, Z2.out.2⟩
              · have hc1z : ¬ (a : Int) < (s : Int) := by omega
                clear hc
                by_cases hd : mid < e ∧ e < b
                · obtain ⟨hd1, hd2⟩ := hd
                  have hd1z : (mid : Int) < (e : Int) := by omega
                  have hd2z : (e : Int) < (b : Int) := by omega
                  have Z2 : Hid _ := E2.out.1 ⟨hd1, hd2⟩
                  clear E2
                  go_wp2_with fail
                  all_goals
                    refine Calls.mono Z2.out ?_
                    rintro e' w3 ⟨rfl, hz, l3, u3, f3⟩
                    clear Z2
                    go_wp2
                    go_end0
                    exact ⟨rfl, hz, l3, u3, f3⟩
                · have Z2 : Hid _ := E2.out.2 hd
                  clear E2
                  by_cases hd1 : mid < e
                  · have hd1z : (mid : Int) < (e : Int) := by omega
                    have hd2z : ¬ (e : Int) < (b : Int) := by omega
                    clear hd
                    go_wp2
                    all_goals
                      go_end0
                      exact ⟨rfl, _, L2.out, Z2.out.1, Z2.out.2⟩
                  · have hd1z : ¬ (mid : Int) < (e : Int) := by omega
                    clear hd
                    go_wp2
                    all_goals
                      go_end0
                      exact ⟨rfl, _, L2.out, Z2.out.1, Z2.out.2⟩
  · have hgz : ¬ (mid : Int) < (m : Int) := by omega
    obtain ⟨s0, hs0⟩ : ∃ s0, s0 = a := ⟨_, rfl⟩
    obtain ⟨r0, hr00⟩ : ∃ r0, r0 = m := ⟨_, rfl⟩
    go_enter Try.func84, Try.ntmps84
    go_wp2
    go_loopw [20, 21, 23] (fun iv jv _ wr => ∃ (s r : Nat), iv = .int .i64 s ∧ jv = .int .i64 r ∧ s0 ≤ s ∧ s ≤ r ∧ r ≤ r0 ∧ Hid (Lay w wr blk off f N) ∧ Hid ((s0 < s → Lex c (f (s - 1)) (f (mid + m - s))) ∧ (r < r0 → Lex c (f (mid + m - 1 - r)) (f r)))) (fun iv jv _ _ => (intOf jv - intOf iv).toNat)
    case atStart => exact ⟨s0, r0, by rw [hs0], by rw [hr00], by omega, by omega, by omega, HST, (show Hid _ from ⟨fun h => by omega, fun h => by omega⟩)⟩
    case round =>
      clear HST
      obtain ⟨s, r, rfl, rfl, hs0, hsr, hr0, HL, HK⟩ := hrel
      by_cases hlt : s < r
      · have hlz : (s : Int) < (r : Int) := by omega
        obtain ⟨h, hh⟩ : ∃ h : Nat, ((s : Int) + (r : Int)) / 2 = (h : Int) := ⟨(s + r) / 2, by omega⟩
        have h1 : s ≤ h := by omega
        have h2 : h < r := by omega
        obtain ⟨q, hq⟩ : ∃ q : Nat, (mid : Int) + (m : Int) - 1 - (h : Int) = (q : Int) := ⟨mid + m - 1 - h, by omega⟩
        have q1 : m ≤ q := by omega
        have q2 : q < b := by omega
        have hqn : q = mid + m - 1 - h := by omega
        have HQ : Hid (q = mid + m - 1 - h) := hqn
        clear hqn
        obtain ⟨ch, _⟩ := HL.out.cell HH.out (k := h) (by omega)
        obtain ⟨cq, _⟩ := HL.out.cell HH.out (k := q) (by omega)
        have hc := HC.out _ _ HL.out (f q) (f h) (HV.out q (by omega)) (HV.out h (by omega))
        have HLT : Hid (f h < f q) := HX.out h q (by omega) (by omega) (by omega) (by omega)
        have HCI : Hid (cf (f q) (f h) < 0 ↔ c (f q) < c (f h)) := HCF.out _ _
        obtain ⟨x, hx⟩ : ∃ x, f h = x := ⟨_, rfl⟩
        obtain ⟨y, hy⟩ : ∃ y, f q = y := ⟨_, rfl⟩
        rw [hx] at ch hc
        rw [hy] at cq hc
        have HXX : Hid (f h = x) := hx
        have HYY : Hid (f q = y) := hy
        have hz1 : (h : Int) < (N : Int) := by omega
        have hz2 : (q : Int) < (N : Int) := by omega
        have hwq : IntKind.i64.wrap ((mid : Int) + (m : Int) - 1 - (h : Int)) = (q : Int) := by rw [hq, IntKind.wrap_i64]; omega
        have hwq1 : IntKind.i64.wrap (q : Int) = (q : Int) := by rw [IntKind.wrap_i64]; omega
        clear hx hy
        by_cases hlv : cf y x < 0
        · have hlb : decide (cf y x < 0) = true := decide_eq_true hlv
          go_wp2_with fail
          go_quiet (first | (go_at_fn g; refine Calls.quiet_of (hc _)))
          go_wp2
          go_roundw
          case rel =>
            refine ⟨s, h, rfl, rfl, by omega, by omega, by omega, HL.out.drewN nq, (show Hid _ from ⟨HK.out.1, fun _ => ?_⟩)⟩
            have k1 := HCI.out
            rw [HXX.out, HYY.out] at k1
            rw [← HQ.out, HXX.out, HYY.out]
            exact Or.inl (k1.1 hlv)
          case measure => simp [intOf]; omega
        · have hlb : decide (cf y x < 0) = false := decide_eq_false hlv
          go_wp2_with fail
          go_quiet (first | (go_at_fn g; refine Calls.quiet_of (hc _)))
          go_wp2
          go_roundw
          case rel =>
            refine ⟨h + 1, r, by go_num, rfl, by omega, by omega, hr0, HL.out.drewN nq, (show Hid _ from ⟨fun _ => ?_, HK.out.2⟩)⟩
            have k1 := HCI.out
            have k2 := HLT.out
            rw [HXX.out, HYY.out] at k1 k2
            have k3 : ¬ c y < c x := fun hh => by have := k1.2 hh; omega
            have k4 := HQ.out
            rw [show h + 1 - 1 = h by omega, show mid + m - (h + 1) = q by omega, HXX.out, HYY.out]
            simp only [Lex]; omega
          case measure => simp [intOf]; omega
      · obtain rfl : s = r := by omega
        have hlz : ¬ (s : Int) < (s : Int) := by omega
        obtain ⟨e, he⟩ : ∃ e : Nat, (mid : Int) + (m : Int) - (s : Int) = (e : Int) := ⟨mid + m - s, by omega⟩
        have e1 : m ≤ e := by omega
        have e2 : e ≤ b := by omega
        have s1 : a ≤ s := by omega
        have s2 : s ≤ m := by omega
        have s3 : s ≤ mid := by omega
        have e3 : mid ≤ e := by omega
        have hwe : IntKind.i64.wrap ((mid : Int) + (m : Int) - (s : Int)) = (e : Int) := by rw [he, IntKind.wrap_i64]; omega
        have hwe1 : IntKind.i64.wrap (e : Int) = (e : Int) := by rw [IntKind.wrap_i64]; omega
        have HF : Hid (Halves c f (rot f s m e) N a s mid e b) := by
          have hem : s + (e - m) = mid := by omega
          obtain ⟨p1, p2, p3, p4, p5, p6⟩ := parts (R := Lex c) (X := (· < ·)) s1 s2 e1 e2 hem HU1.out HU2.out HX.out
          have hfr := (rot_from (f := f) s2 e1).wide s1 e2
          refine ⟨hfr, hfr.vals hb HV.out, p1, p2, p3, p4, p5, p6, ?_⟩
          refine apart (Lex.tr c) s1 s2 e1 e2 hem HU1.out HU2.out (fun _ k2 => ?_) (fun k1 k2 => ?_)
          · have := HK.out.1 (by omega)
            rw [show mid + m - s = e by omega] at this; exact this
          · have := HK.out.2 (by omega)
            rw [show mid + m - 1 - s = e - 1 by omega] at this; exact this
        have HM1 : Hid (a < s → s < mid → Merges blk off cap N g cb c cf a s mid) := fun k1 k2 => IH.out a s mid (by omega) k1 k2 (by omega)
        have HM2 : Hid (mid < e → e < b → Merges blk off cap N g cb c cf mid e b) := fun k1 k2 => IH.out mid e b (by omega) k1 k2 hb
        have RO : Hid (s < m → m < e → ∀ fv, Calls Try.prog 91 #[.slice (some ⟨blk, off, none⟩) N cap, .int .i64 s, .int .i64 m, .int .i64 e, fv] wr fun e' w' => e' = .returned (.tuple #[]) ∧ Lay wr w' blk off (rot f s m e) N) := fun k1 k2 fv => rotate_any blk off cap N s m e f fv wr (HL.out.holds HH.out) k1 k2 (by omega) hN
        have HID : Hid (¬ (s < m ∧ m < e) → rot f s m e = f) := fun k => rot_id (by omega) s2 e1
        clear HK IH HU1 HU2 HX HCF HV
        clear hq_dummy
        generalize rot f s m e = f1 at *
        have CMP : Hid (∀ W fz, Lay w W blk off fz N → Cmps W blk off N g cb cf) := fun W fz l => Cmps.lay HC.out l
        have HOLD : Hid (∀ W fz, Lay w W blk off fz N → Sort.Holds nv W blk off (ar fz N)) := fun W fz l => l.holds HH.out
        clear HC HH
        -- the rest, over the world behind the rotation
        have END2 : Hid (∀ (h1 : Nat → Nat) (w2 : World), Lay w w2 blk off h1 N → Up (Lex c) h1 a mid → From h1 f1 a mid → (mid < e ∧ e < b → Calls Try.prog 84 #[.slice (some ⟨blk, off, none⟩) N cap, .int .i64 mid, .int .i64 e, .int .i64 b, .func (.func g) #[] cb] w2 fun e' w' => e' = .returned (.tuple #[]) ∧ ∃ h, Lay w w' blk off h N ∧ Up (Lex c) h a b ∧ From h f a b) ∧ (¬ (mid < e ∧ e < b) → Up (Lex c) h1 a b ∧ From h1 f a b)) := fun h1 w2 l2 u fr => by
          have F := HF.out
          have same : ∀ k, mid ≤ k → k < b → h1 k = f1 k := fun k k1 _ => fr.1 k (Or.inr k1)
          have U3 := Up.same (fun k k1 k2 => same k k1 (by omega)) F.u3
          have U4 := Up.same (fun k k1 k2 => same k (by omega) k2) F.u4
          refine ⟨fun ⟨k1, k2⟩ => ?_, fun k => ?_⟩
          · refine (HM2.out k1 k2 h1 w2 (HOLD.out _ _ l2) (CMP.out _ _ l2) (fr.vals (by omega) F.vals) U3 U4 (Cross.same same e2 e3 F.x2)).mono ?_
            rintro e' w' ⟨rfl, hz, l3, u3, fr3⟩
            have J := join s3b e3b F.ap fr u fr3 u3
            exact ⟨rfl, hz, l2.trans l3, J.1, J.2.trans F.fr⟩
          · have u3 : Up (Lex c) h1 mid b := by
              by_cases k1 : mid < e
              · have : e = b := by omega
                rw [← this]; exact U3
              · have : e = mid := by omega
                rw [← this]; exact U4
            have J := join s3b e3b F.ap fr u (From.refl _ _ _) u3
            exact ⟨J.1, J.2.trans F.fr⟩
        have END1 : Hid (∀ (w1 : World), Lay w w1 blk off f1 N → (a < s ∧ s < mid → Calls Try.prog 84 #[.slice (some ⟨blk, off, none⟩) N cap, .int .i64 a, .int .i64 s, .int .i64 mid, .func (.func g) #[] cb] w1 fun e' w' => e' = .returned (.tuple #[]) ∧ ∃ h, Lay w w' blk off h N ∧ Up (Lex c) h a mid ∧ From h f1 a mid) ∧ (¬ (a < s ∧ s < mid) → Up (Lex c) f1 a mid ∧ From f1 f1 a mid)) := fun w1 l1 => by
          have F := HF.out
          refine ⟨fun ⟨k1, k2⟩ => ?_, fun k => ?_⟩
          · refine (HM1.out k1 k2 f1 w1 (HOLD.out _ _ l1) (CMP.out _ _ l1) F.vals F.u1 F.u2 F.x1).mono ?_
            rintro e' w' ⟨rfl, hz, l3, u3, fr3⟩
            exact ⟨rfl, hz, l1.trans l3, u3, fr3⟩
          · refine ⟨?_, From.refl _ _ _⟩
            by_cases k1 : a < s
            · have : s = mid := by omega
              rw [← this]; exact F.u1
            · have : s = a := by omega
              rw [← this]; exact F.u2
        clear HF HM1 HM2 CMP HOLD
        have HL1 : Hid (¬ (s < m ∧ m < e) → Lay w wr blk off f1 N) := fun k => by rw [HID.out k]; exact HL.out
        have HLT0 : Hid (∀ W, Lay wr W blk off f1 N → Lay w W blk off f1 N) := fun W l => HL.out.trans l
        clear HID HL
        clear h_dummy
        by_cases hr : s < m ∧ m < e
        · obtain ⟨hr1, hr2⟩ := hr
          have hr1z : (s : Int) < (m : Int) := by omega
          have hr2z : (m : Int) < (e : Int) := by omega
          have RO2 : Hid _ := RO.out hr1 hr2 (.func (.func g) #[] cb)
          clear RO HL1
          go_wp2_with fail
          refine Calls.mono RO2.out ?_
          rintro e' w1 ⟨rfl, l1⟩
          have E1 : Hid _ := END1.out w1 (HLT0.out w1 l1)
          have L1 : Hid (Lay w w1 blk off f1 N) := HLT0.out w1 l1
          clear RO2 END1 HLT0 l1
          by_cases hc : a < s ∧ s < mid
          · obtain ⟨hc1, hc2⟩ := hc
            have hc1z : (a : Int) < (s : Int) := by omega
            have hc2z : (s : Int) < (mid : Int) := by omega
            have Z1 : Hid _ := E1.out.1 ⟨hc1, hc2⟩
            clear E1 L1
            go_wp2_with fail
            refine Calls.mono Z1.out ?_
            rintro e' w2 ⟨rfl, h1, l2, u2, f2⟩
            have E2 : Hid _ := END2.out h1 w2 l2 u2 f2
            have L2 : Hid (Lay w w2 blk off h1 N) := l2
            clear Z1 END2 l2 u2 f2
            by_cases hd : mid < e ∧ e < b
            · obtain ⟨hd1, hd2⟩ := hd
              have hd1z : (mid : Int) < (e : Int) := by omega
              have hd2z : (e : Int) < (b : Int) := by omega
              have Z2 : Hid _ := E2.out.1 ⟨hd1, hd2⟩
              clear E2
              go_wp2_with fail
              all_goals
                refine Calls.mono Z2.out ?_
                rintro e' w3 ⟨rfl, hz, l3, u3, f3⟩
                clear Z2
                go_wp2
                go_end0
                exact ⟨rfl, hz, l3, u3, f3⟩
            · have Z2 : Hid _ := E2.out.2 hd
              clear E2
              by_cases hd1 : mid < e
              · have hd1z : (mid : Int) < (e : Int) := by omega
                have hd2z : ¬ (e : Int) < (b : Int) := by omega
                clear hd
                go_wp2
                all_goals
                  go_end0
                  exact ⟨rfl, _, L2.out, Z2.out.1, Z2.out.2⟩
              · have hd1z : ¬ (mid : Int) < (e : Int) := by omega
                clear hd
                go_wp2
                all_goals
                  go_end0
                  exact ⟨rfl, _, L2.out, Z2.out.1, Z2.out.2⟩
          · have Z1 : Hid _ := E1.out.2 hc
            have E2 : Hid _ := END2.out f1 _ L1.out Z1.out.1 Z1.out.2
            have L2 := L1
            clear E1 L1 END2 Z1
            by_cases hc1 : a < s
            · have hc1z : (a : Int) < (s : Int) := by omega
              have hc2z : ¬ (s : Int) < (mid : Int) := by omega
              clear hc
              by_cases hd : mid < e ∧ e < b
              · obtain ⟨hd1, hd2⟩ := hd
                have hd1z : (mid : Int) < (e : Int) := by omega
                have hd2z : (e : Int) < (b : Int) := by omega
                have Z2 : Hid _ := E2.out.1 ⟨hd1, hd2⟩
                clear E2
                go_wp2_with fail
                all_goals
                  refine Calls.mono Z2.out ?_
                  rintro e' w3 ⟨rfl, hz, l3, u3, f3⟩
                  clear Z2
                  go_wp2
                  go_end0
                  exact ⟨rfl, hz, l3, u3, f3⟩
              · have Z2 : Hid _ := E2.out.2 hd
                clear E2
                by_cases hd1 : mid < e
                · have hd1z : (mid : Int) < (e : Int) := by omega
                  have hd2z : ¬ (e : Int) < (b : Int) := by omega
                  clear hd
                  go_wp2
                  all_goals
                    go_end0
                    exact ⟨rfl, _, L2.out, Z2.out.1, Z2.out.2⟩
                · have hd1z : ¬ (mid : Int) < (e : Int) := by omega
                  clear hd
                  go_wp2
                  all_goals
                    go_end0
                    exact ⟨rfl, _, L2.out, Z2.out.1, Z2.out.2⟩
            · have hc1z : ¬ (a : Int) < (s : Int) := by omega
              clear hc
              by_cases hd : mid < e ∧ e < b
              · obtain ⟨hd1, hd2⟩ := hd
                have hd1z : (mid : Int) < (e : Int) := by omega
                have hd2z : (e : Int) < (b : Int) := by omega
                have Z2 : Hid _ := E2.out.1 ⟨hd1, hd2⟩
                clear E2
                go_wp2_with fail
                all_goals
                  refine Calls.mono Z2.out ?_
                  rintro e' w3 ⟨rfl, hz, l3, u3, f3⟩
                  clear Z2
                  go_wp2
                  go_end0
                  exact ⟨rfl, hz, l3, u3, f3⟩
              · have Z2 : Hid _ := E2.out.2 hd
                clear E2
                by_cases hd1 : mid < e
                · have hd1z : (mid : Int) < (e : Int) := by omega
                  have hd2z : ¬ (e : Int) < (b : Int) := by omega
                  clear hd
                  go_wp2
                  all_goals
                    go_end0
                    exact ⟨rfl, _, L2.out, Z2.out.1, Z2.out.2⟩
                · have hd1z : ¬ (mid : Int) < (e : Int) := by omega
                  clear hd
                  go_wp2
                  all_goals
                    go_end0
                    exact ⟨rfl, _, L2.out, Z2.out.1, Z2.out.2⟩
        · have L1 : Hid (Lay w wr blk off f1 N) := HL1.out hr
          have E1 : Hid _ := END1.out wr L1.out
          clear RO HL1 END1 HLT0
          by_cases hr1 : s < m
          · have hr1z : (s : Int) < (m : Int) := by omega
            have hr2z : ¬ (m : Int) < (e : Int) := by omega
            clear hr
            by_cases hc : a < s ∧ s < mid
            · obtain ⟨hc1, hc2⟩ := hc
              have hc1z : (a : Int) < (s : Int) := by omega
              have hc2z : (s : Int) < (mid : Int) := by omega
              have Z1 : Hid _ := E1.out.1 ⟨hc1, hc2⟩
              clear E1 L1
              go_wp2_with fail
              refine Calls.mono Z1.out ?_
              rintro e' w2 ⟨rfl, h1, l2, u2, f2⟩
              have E2 : Hid _ := END2.out h1 w2 l2 u2 f2
              have L2 : Hid (Lay w w2 blk off h1 N) := l2
              clear Z1 END2 l2 u2 f2
              by_cases hd : mid < e ∧ e < b
              · obtain ⟨hd1, hd2⟩ := hd
                have hd1z : (mid : Int) < (e : Int) := by omega
                have hd2z : (e : Int) < (b : Int) := by omega
                have Z2 : Hid _ := E2.out.1 ⟨hd1, hd2⟩
                clear E2
                go_wp2_with fail
                all_goals
                  refine Calls.mono Z2.out ?_
                  rintro e' w3 ⟨rfl, hz, l3, u3, f3⟩
                  clear Z2
                  go_wp2
                  go_end0
                  exact ⟨rfl, hz, l3, u3, f3⟩
              · have Z2 : Hid _ := E2.out.2 hd
                clear E2
                by_cases hd1 : mid < e
                · have hd1z : (mid : Int) < (e : Int) := by omega
                  have hd2z : ¬ (e : Int) < (b : Int) := by omega
                  clear hd
                  go_wp2
                  all_goals
                    go_end0
                    exact ⟨rfl, _, L2.out, Z2.out.1, Z2.out.2⟩
                · have hd1z : ¬ (mid : Int) < (e : Int) := by omega
                  clear hd
                  go_wp2
                  all_goals
                    go_end0
                    exact ⟨rfl, _, L2.out, Z2.out.1, Z2.out.2⟩
            · have Z1 : Hid _ := E1.out.2 hc
              have E2 : Hid _ := END2.out f1 _ L1.out Z1.out.1 Z1.out.2
              have L2 := L1
              clear E1 L1 END2 Z1
              by_cases hc1 : a < s
              · have hc1z : (a : Int) < (s : Int) := by omega
                have hc2z : ¬ (s : Int) < (mid : Int) := by omega
                clear hc
                by_cases hd : mid < e ∧ e < b
                · obtain ⟨hd1, hd2⟩ := hd
                  have hd1z : (mid : Int) < (e : Int) := by omega
                  have hd2z : (e : Int) < (b : Int) := by omega
                  have Z2 : Hid _ := E2.out.1 ⟨hd1, hd2⟩
                  clear E2
                  go_wp2_with fail
                  all_goals
                    refine Calls.mono Z2.out ?_
                    rintro e' w3 ⟨rfl, hz, l3, u3, f3⟩
                    clear Z2
                    go_wp2
                    go_end0
                    exact ⟨rfl, hz, l3, u3, f3⟩
                · have Z2 : Hid _ := E2.out.2 hd
                  clear E2
                  by_cases hd1 : mid < e
                  · have hd1z : (mid : Int) < (e : Int) := by omega
                    have hd2z : ¬ (e : Int) < (b : Int) := by omega
                    clear hd
                    go_wp2
                    all_goals
                      go_end0
                      exact ⟨rfl, _, L2.out, Z2.out.1, Z2.out.2⟩
                  · have hd1z : ¬ (mid : Int) < (e : Int) := by omega
                    clear hd
                    go_wp2
                    all_goals
                      go_end0
                      exact ⟨rfl, _, L2.out, Z2.out.1, Z2.out.2⟩
              · have hc1z : ¬ (a : Int) < (s : Int) := by omega
                clear hc
                by_cases hd : mid < e ∧ e < b
                · obtain ⟨hd1, hd2⟩ := hd
                  have hd1z : (mid : Int) < (e : Int) := by omega
                  have hd2z : (e : Int) < (b : Int) := by omega
                  have Z2 : Hid _ := E2.out.1 ⟨hd1, hd2⟩
                  clear E2
                  go_wp2_with fail
                  all_goals
                    refine Calls.mono Z2.out ?_
                    rintro e' w3 ⟨rfl, hz, l3, u3, f3⟩
                    clear Z2
                    go_wp2
                    go_end0
                    exact ⟨rfl, hz, l3, u3, f3⟩
                · have Z2 : Hid _ := E2.out.2 hd
                  clear E2
                  by_cases hd1 : mid < e
                  · have hd1z : (mid : Int) < (e : Int) := by omega
                    have hd2z : ¬ (e : Int) < (b : Int) := by omega
                    clear hd
                    go_wp2
                    all_goals
                      go_end0
                      exact ⟨rfl, _, L2.out, Z2.out.1, Z2.out.2⟩
                  · have hd1z : ¬ (mid : Int) < (e : Int) := by omega
                    clear hd
                    go_wp2
                    all_goals
                      go_end0
                      exact ⟨rfl, _, L2.out, Z2.out.1, Z2.out.2⟩
          · have hr1z : ¬ (s : Int) < (m : Int) := by omega
            clear hr
            by_cases hc : a < s ∧ s < mid
            · obtain ⟨hc1, hc2⟩ := hc
              have hc1z : (a : Int) < (s : Int) := by omega
              have hc2z : (s : Int) < (mid : Int) := by omega
              have Z1 : Hid _ := E1.out.1 ⟨hc1, hc2⟩
              clear E1 L1
              go_wp2_with fail
              refine Calls.mono Z1.out ?_
              rintro e' w2 ⟨rfl, h1, l2, u2, f2⟩
              have E2 : Hid _ := END2.out h1 w2 l2 u2 f2
              have L2 : Hid (Lay w w2 blk off h1 N) := l2
              clear Z1 END2 l2 u2 f2
              by_cases hd : mid < e ∧ e < b
              · obtain ⟨hd1, hd2⟩ := hd
                have hd1z : (mid : Int) < (e : Int) := by omega
                have hd2z : (e : Int) < (b : Int) := by omega
                have Z2 : Hid _ := E2.out.1 ⟨hd1, hd2⟩
                clear E2
                go_wp2_with fail
                all_goals
                  refine Calls.mono Z2.out ?_
                  rintro e' w3 ⟨rfl, hz, l3, u3, f3⟩
                  clear Z2
                  go_wp2
                  go_end0
                  exact ⟨rfl, hz, l3, u3, f3⟩
              · have Z2 : Hid _ := E2.out.2 hd
                clear E2
                by_cases hd1 : mid < e
                · have hd1z : (mid : Int) < (e : Int) := by omega
                  have hd2z : ¬ (e : Int) < (b : Int) := by omega
                  clear hd
                  go_wp2
                  all_goals
                    go_end0
                    exact ⟨rfl, _, L2.out, Z2.out.1, Z2.out.2⟩
                · have hd1z : ¬ (mid : Int) < (e : Int) := by omega
                  clear hd
                  go_wp2
                  all_goals
                    go_end0
                    exact ⟨rfl, _, L2.out, Z2.out.1, Z2.out.2⟩
            · have Z1 : Hid _ := E1.out.2 hc
              have E2 : Hid _ := END2.out f1 _ L1.out Z1.out.1 Z1.out.2
              have L2 := L1
              clear E1 L1 END2 Z1
              by_cases hc1 : a < s
              · have hc1z : (a : Int) < (s : Int) := by omega
                have hc2z : ¬ (s : Int) < (mid : Int) := by omega
                clear hc
                by_cases hd : mid < e ∧ e < b
                · obtain ⟨hd1, hd2⟩ := hd
                  have hd1z : (mid : Int) < (e : Int) := by omega
                  have hd2z : (e : Int) < (b : Int) := by omega
                  have Z2 : Hid _ := E2.out.1 ⟨hd1, hd2⟩
                  clear E2
                  go_wp2_with fail
                  all_goals
                    refine Calls.mono Z2.out ?_
                    rintro e' w3 ⟨rfl, hz, l3, u3, f3⟩
                    clear Z2
                    go_wp2
                    go_end0
                    exact ⟨rfl, hz, l3, u3, f3⟩
                · have Z2 : Hid _ := E2.out.2 hd
                  clear E2
                  by_cases hd1 : mid < e
                  · have hd1z : (mid : Int) < (e : Int) := by omega
                    have hd2z : ¬ (e : Int) < (b : Int) := by omega
                    clear hd
                    go_wp2
                    all_goals
                      go_end0
                      exact ⟨rfl, _, L2.out, Z2.out.1, Z2.out.2⟩
                  · have hd1z : ¬ (mid : Int) < (e : Int) := by omega
                    clear hd
                    go_wp2
                    all_goals
                      go_end0
                      exact ⟨rfl, _, L2.out, Z2.out.1, Z2.out.2⟩
              · have hc1z : ¬ (a : Int) < (s : Int) := by omega
                clear hc
                by_cases hd : mid < e ∧ e < b
                · obtain ⟨hd1, hd2⟩ := hd
                  have hd1z : (mid : Int) < (e : Int) := by omega
                  have hd2z : (e : Int) < (b : Int) := by omega
                  have Z2 : Hid _ := E2.out.1 ⟨hd1, hd2⟩
                  clear E2
                  go_wp2_with fail
                  all_goals
                    refine Calls.mono Z2.out ?_
                    rintro e' w3 ⟨rfl, hz, l3, u3, f3⟩
                    clear Z2
                    go_wp2
                    go_end0
                    exact ⟨rfl, hz, l3, u3, f3⟩
                · have Z2 : Hid _ := E2.out.2 hd
                  clear E2
                  by_cases hd1 : mid < e
                  · have hd1z : (mid : Int) < (e : Int) := by omega
                    have hd2z : ¬ (e : Int) < (b : Int) := by omega
                    clear hd
                    go_wp2
                    all_goals
                      go_end0
                      exact ⟨rfl, _, L2.out, Z2.out.1, Z2.out.2⟩
                  · have hd1z : ¬ (mid : Int) < (e : Int) := by omega
                    clear hd
                    go_wp2
                    all_goals
                      go_end0
                      exact ⟨rfl, _, L2.out, Z2.out.1, Z2.out.2⟩
/-- The merge of two neighbouring parts that rise, the left one's numbers all ahead of the right one's. -/
theorem symMerge_any (blk off cap N g : Nat) (cb : Array Value) (c : Nat → Nat) (cf : Nat → Nat → Int) (eg : ∀ args w, (callFunc g args).run Try.prog w = .ok (.enter g args) w) (hcf : ∀ x y, cf x y < 0 ↔ c x < c y) (hN : N ≤ 1000) :
    ∀ (n a m b : Nat), b - a ≤ n → a < m → m < b → b ≤ N → Merges blk off cap N g cb c cf a m b := by
  intro n
  induction n with
  | zero => intro a m b h h1 h2; omega
  | succ n ih =>
    intro a m b h h1 h2 hb f w hH hC hv hU1 hU2 hX
    by_cases e1 : m = a + 1
    · subst e1
      exact symA_any blk off cap N a b g cb c cf f w hH eg hC hcf hv hU2 hX h2 hb hN
    · by_cases e2 : b = m + 1
      · subst e2
        exact symB_any blk off cap N a m g cb c cf f w hH eg hC hcf hv hU1 hX (by omega) hb hN
      · exact symC_any blk off cap N a m b _ g cb c cf f w hH eg hC hcf hv hU1 hU2 hX (by omega) (by omega) hb hN rfl (fun a' m' b' k1 k2 k3 k4 => ih a' m' b' (by omega) k2 k3 k4)
end Go.Proofs.Ytdglialjcibbbaa
