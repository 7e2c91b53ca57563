import Derived.Test.YtcpfbgogfhlmjaaDoorRows
import Derived.Test.YtcpfbgogfhlmjaaDoorCAppendHead
import Derived.Test.YtcpfbgogfhlmjaaDoorM10
import Derived.Test.YtcpfbgogfhlmjaaDoorCIsNumber
import Derived.WalkKit
import Derived.WalkSpells
import Derived.WalkLawsBesides
import Derived.Outline
import Derived.Deep.QuietTactic
import Derived.BigQuiet
import Derived.Test.YtcpfbgogfhlmjaaDoorMR
/- impl.appendHead onto nothing, made into a text. -/
namespace Go.Proofs.YtcpfbgogfhlmjaaDoor
open Go.RowKit
theorem headNil_any (m n : Nat) (w : World) (hm : m ≤ 7) (hn : n ≤ 4294967295) :
    Calls Tryd.prog 67 #[.slice none 0 0, .int .i64 m, .int .i64 n] w fun e w' => ∃ v', e = .returned v' ∧ (convert 22 9 v').run Tryd.prog w' = .ok (.string ⟨(M7.hb m n).toArray⟩) w' ∧ Below w.heap.size w w' := by
  refine (appendHead_any m n w.heap.size (.slice none 0 0) [] w hm hn (by simp) (Nat.le_refl _) ⟨by simp [M2.bv], .inl ⟨rfl, rfl⟩⟩).mono ?_
  rintro e w1 ⟨v', rfl, hown, hb⟩
  rw [List.nil_append] at hown
  exact ⟨v', rfl, M2.conv_own (P := Tryd.prog) 22 9 5 Tryd.underlying22 Tryd.underlying5 Tryd.underlying9 hown, hb⟩
end Go.Proofs.YtcpfbgogfhlmjaaDoor

/- impl.TakeHead at a place within a text of at most 400 bytes. -/
namespace Go.Proofs.YtcpfbgogfhlmjaaDoor
open Go.RowKit
set_option linter.unusedSimpArgs false in
set_option maxHeartbeats 1600000 in
set_option maxRecDepth 100000 in
theorem implTakeHead_in (s : ByteArray) (a : Nat) (w : World) (hs : s.size ≤ 400) (ha : a < s.size) (T : M10.R) (hT : Hid (M10.hdR s a = T)) :
    Calls Tryd.prog 71 #[.string s, .int .i64 (a : Int)] w fun e w' => e = .returned (M10.t4 T) ∧ Below w.heap.size w w' := by
  have hna : decide (s.size ≤ a) = false := by simp; omega
  have hga := M3.gb_eq s a ha
  have hlt := M3.gb_lt s a
  have L1 := fun h => M10.hdR_low (s := s) ha h
  have L2 := fun h => M10.hdR_high (s := s) ha h
  have L3 := fun h1 h2 h3 => M10.hdR_short (s := s) ha h1 h2 h3
  have L4 := fun k h1 h2 hk h3 h4 h5 => M10.hdR_yes (s := s) (k := k) ha h1 h2 hk h3 h4 h5
  have L5 := fun k h1 h2 hk h3 h4 => M10.hdR_not (s := s) (k := k) ha h1 h2 hk h3 h4
  rw [hT.out] at L1 L2 L3 L4 L5
  generalize hc : M3.gb s a = c at *
  by_cases h1 : c % 32 < 24
  · have HR : Hid _ := L1 h1
    clear L1 L2 L3 L4 L5 hc hT
    go_enter Tryd.func71, Tryd.ntmps71
    go_wp2
    go_quiet (fail)
    go_wp2
    exact bodyPost_ret (v := .tuple #[.int .i64 ((c : Int) / 32), .int .i64 ((c : Int) % 32), .int .i64 ((a : Int) + 1), .bool true]) (by simp [results, Tryd.results71, go_sem]) rfl ⟨M10.ret4 HR.out (by omega) (by omega) (by omega), below_drewN (Below.refl _ _) _⟩
  · by_cases h2 : 26 < c % 32
    · have HR : Hid _ := L2 h2
      clear L1 L2 L3 L4 L5 hc hT
      go_enter Tryd.func71, Tryd.ntmps71
      go_wp2
      go_quiet (fail)
      go_wp2
      exact bodyPost_ret (v := .tuple #[.int .i64 (0), .int .i64 (0), .int .i64 (0), .bool false]) (by simp [results, Tryd.results71, go_sem]) rfl ⟨M10.ret4 HR.out (by omega) (by omega) (by omega), below_drewN (Below.refl _ _) _⟩
    · obtain ⟨lo, hlo⟩ : ∃ lo : Nat, c % 32 = 24 + lo := ⟨c % 32 - 24, by omega⟩
      have hl : (c : Int) % 32 = 24 + (lo : Int) := by omega
      have hlo3 : lo ≤ 2 := by omega
      obtain ⟨k, hk⟩ : ∃ k, M7.more (c % 32) = k := ⟨_, rfl⟩
      have hk2 : wrap64 (2 ^ lo) = (k : Int) ∧ k ≤ 4 := by
        rw [← hk, hlo]
        have : lo = 0 ∨ lo = 1 ∨ lo = 2 := by omega
        rcases this with rfl | rfl | rfl <;> exact ⟨by simp [wrap64, M7.more], by decide⟩
      obtain ⟨hk2, hk4⟩ := hk2
      have hd1 : decide ((24 : Int) + lo < 24) = false := by simp; omega
      have hd2 : decide ((26 : Int) < 24 + lo) = false := by simp; omega
      have LL3 : Hid _ := L3 h1 h2
      have LL4 : Hid _ := L4 k h1 h2 hk
      have LL5 : Hid _ := L5 k h1 h2 hk
      have HK : Hid (M7.more (c % 32) = k) := hk
      clear L1 L2 L3 L4 L5 hc hT hk h1 h2 hlo
      by_cases h3 : s.size < a + 1 + k
      · have HR : Hid _ := LL3.out (by rw [HK.out]; exact h3)
        clear LL3 LL4 LL5
        go_enter Tryd.func71, Tryd.ntmps71
        go_wp2
        go_quiet (fail)
        go_wp2
        exact bodyPost_ret (v := .tuple #[.int .i64 (0), .int .i64 (0), .int .i64 (0), .bool false]) (by simp [results, Tryd.results71, go_sem]) rfl ⟨M10.ret4 HR.out (by omega) (by omega) (by omega), below_drewN (Below.refl _ _) _⟩
      · have hle : a + 1 + k ≤ s.size := by omega
        have hd3 : decide ((s.size : Int) < a + 1 + k) = false := by simp; omega
        clear LL3
        go_enter Tryd.func71, Tryd.ntmps71
        go_wp2
        go_quiet (fail)
        go_wp2
        have hb0 : Below w.heap.size w (w.drewN nq) := below_drewN (Below.refl _ _) _
        have hc7 : c / 32 ≤ 7 := by omega
        generalize w.drewN nq = w0 at *
        have hk3 : wrap64 (2 ^ (24 + lo - 24)) = (k : Int) := by rw [Nat.add_sub_cancel_left]; exact hk2
        simp only [hl, hk3]
        clear hk3
        go_loop [11, 12] (fun nv iv => ∃ j q : Nat, nv = .int .i64 q ∧ iv = .int .i64 ((a + 1 + j : Nat) : Int) ∧ j ≤ k ∧ q < 4294967296 ∧ Hid (M10.nk s a j = q)) (fun _ iv => (s.size - intOf iv).toNat)
        case atStart => exact ⟨0, 0, rfl, by go_num, by omega, by omega, M10.nk_zero s a⟩
        case round =>
          clear hga hlt
          obtain ⟨j, q, rfl, rfl, hj, hq, hQ⟩ := hrel
          by_cases hjk : j < k
          · have hin : a + 1 + j < s.size := by omega
            have hg := M3.gb_eq s (a + 1 + j) hin
            have hlt := M3.gb_lt s (a + 1 + j)
            have hS : Hid (M10.nk s a (j + 1) = q * 256 + M3.gb s (a + 1 + j)) := by show _ = _; rw [M10.nk_succ s a j hin, hQ.out]
            have hbd : q * 256 + M3.gb s (a + 1 + j) < 4294967296 := by
              rw [← hS.out]
              exact Nat.lt_of_lt_of_le (M10.nk_lt s a (j + 1) (by omega)) (Nat.le_trans (Nat.pow_le_pow_right (by omega) (show j + 1 ≤ 4 by omega)) (by decide))
            generalize M3.gb s (a + 1 + j) = b at *
            have ho := M10.or8 q b (by omega) hlt
            go_wp2
            go_round
            case rel => exact ⟨j + 1, q * 256 + b, by go_num, by go_num, by omega, hbd, hS⟩
            case measure => simp [intOf]; omega
          · obtain rfl : j = k := by omega
            rw [hQ.out] at LL4 LL5
            clear hQ
            have hx : (c : Int) / 32 = ((c / 32 : Nat) : Int) := by omega
            have AH : Hid (∀ W : World, Calls Tryd.prog 67 #[.slice none 0 0, .int .i64 ((c : Int) / 32), .int .i64 (q : Int)] W fun e w' => ∃ v', e = .returned v' ∧ (convert 22 9 v').run Tryd.prog w' = .ok (.string ⟨(M7.hb (c / 32) q).toArray⟩) w' ∧ Below W.heap.size W w') := fun W => by
              rw [hx]; exact headNil_any (c / 32) q W hc7 (by omega)
            clear hx
            by_cases h4 : q ≤ 1000000000
            · have hok : okN (q : Int) = true := by simp [okN]; omega
              have IN : Hid (∀ W : World, Calls Tryd.prog 78 #[.int .i64 (q : Int)] W fun e w' => e = .returned (.bool true) ∧ W = w') := fun W => by have := isNumber_any q W; rwa [hok] at this
              clear hok
              obtain ⟨X, hX⟩ : ∃ X : ByteArray, (⟨(M7.hb (c / 32) q).toArray⟩ : ByteArray) = X := ⟨_, rfl⟩
              rw [hX] at AH LL4 LL5
              obtain ⟨E, hE⟩ : ∃ E : ByteArray, s.extract a (a + 1 + j) = E := ⟨_, rfl⟩
              obtain ⟨bq, hq5⟩ : ∃ bq, (X.toList == (s.extract a (a + 1 + j)).toList) = bq := ⟨_, rfl⟩
              have HQ : Hid (X = s.extract a (a + 1 + j) ↔ bq = true) := by
                by_cases hh : X = s.extract a (a + 1 + j)
                · rw [M8.beq_yes hh] at hq5; exact ⟨fun _ => hq5.symm, fun _ => hh⟩
                · rw [M8.beq_no hh] at hq5; exact ⟨fun h => absurd h hh, fun h => by rw [← hq5] at h; cases h⟩
              clear hE hX
              go_wp2
              have hto : ((a : Int) + 1 + j).toNat = a + 1 + j := by omega
              have hsl : (0 : Int) ≤ a ∧ (a : Int) ≤ (a : Int) + 1 + j ∧ (a : Int) + 1 + j ≤ s.size := by omega
              refine MR.frame fun A hA => ?_
              have hsz : A.tmps.size = 85 := by rw [hA]; rfl
              have e0 : A.eval (.tmp 0) = .string s := by rw [hA]; rfl
              have f0 := MR.read (t := 0) (by rw [hsz]; decide) e0
              have e1 : A.eval (.tmp 1) = .int .i64 (a : Int) := by rw [hA]; rfl
              have f1 := MR.read (t := 1) (by rw [hsz]; decide) e1
              have e8 : A.eval (.tmp 8) = .int .i64 ((c : Int) / 32) := by rw [hA]; rfl
              have f8 := MR.read (t := 8) (by rw [hsz]; decide) e8
              have e10 : A.eval (.tmp 10) = .int .i64 ((a : Int) + 1 + (j : Int)) := by rw [hA]; rfl
              have f10 := MR.read (t := 10) (by rw [hsz]; decide) e10
              have e11 : A.eval (.tmp 11) = .int .i64 (q : Int) := by rw [hA]; rfl
              have f11 := MR.read (t := 11) (by rw [hsz]; decide) e11
              have HA : Hid (A = _) := hA
              clear hA
              refine wp_region_any (by kernel_rfl) ?_
              change wpAny _ _ _ _ _ _ _ (World.drew _)
              refine MR.take (i := 0) (some 68) (.int .i64 (q : Int)) rfl rfl (by kernel_rfl) (by kernel_rfl) (by kernel_rfl) (fun _ _ _ h => h) (MR.free rfl) (fun w => by simp [execOp, MR.ev, MR.size, hsz, e0, f0, e1, f1, e8, f8, e10, f10, e11, f11, go_sem]) ?_
              refine MR.call (i := 1) (some 69) (78) (#[.int .i64 (q : Int)]) (by kernel_rfl) rfl rfl (MR.free rfl) (by simp [execOp, MR.ev, MR.size, hsz, e0, f0, e1, f1, e8, f8, e10, f10, e11, f11, go_sem]) ?_
              refine (IN.out _).mono ?_
              rintro e w' ⟨rfl, rfl⟩
              refine ⟨_, rfl, ?_⟩
              refine MR.take (i := 2) (some 70) (.bool false) rfl rfl (by kernel_rfl) (by kernel_rfl) (by kernel_rfl) (fun _ _ _ h => h) (MR.free rfl) (fun w => by simp [execOp, MR.ev, MR.size, hsz, e0, f0, e1, f1, e8, f8, e10, f10, e11, f11, go_sem]) ?_
              refine MR.take (i := 3) (some 71) (.bool false) rfl rfl (by kernel_rfl) (by kernel_rfl) (by kernel_rfl) (fun _ _ _ h => h) (MR.free rfl) (fun w => by simp [execOp, MR.ev, MR.size, hsz, e0, f0, e1, f1, e8, f8, e10, f10, e11, f11, go_sem]) ?_
              refine MR.take (i := 4) (some 72) (.int .i64 ((c : Int) / 32)) rfl rfl (by kernel_rfl) (by kernel_rfl) (by kernel_rfl) (fun _ _ _ h => h) (MR.want (d := 71) rfl rfl (by simp [MR.size, hsz]) (by simp [MR.ev, MR.size, hsz, e0, f0, e1, f1, e8, f8, e10, f10, e11, f11])) (fun w => by simp [execOp, MR.ev, MR.size, hsz, e0, f0, e1, f1, e8, f8, e10, f10, e11, f11, go_sem]) ?_
              refine MR.take (i := 5) (some 73) (.int .i64 (q : Int)) rfl rfl (by kernel_rfl) (by kernel_rfl) (by kernel_rfl) (fun _ _ _ h => h) (MR.want (d := 71) rfl rfl (by simp [MR.size, hsz]) (by simp [MR.ev, MR.size, hsz, e0, f0, e1, f1, e8, f8, e10, f10, e11, f11])) (fun w => by simp [execOp, MR.ev, MR.size, hsz, e0, f0, e1, f1, e8, f8, e10, f10, e11, f11, go_sem]) ?_
              refine MR.take (i := 8) (some 76) (.string s) rfl rfl (by kernel_rfl) (by kernel_rfl) (by kernel_rfl) (fun _ _ _ h => h) (MR.want (d := 71) rfl rfl (by simp [MR.size, hsz]) (by simp [MR.ev, MR.size, hsz, e0, f0, e1, f1, e8, f8, e10, f10, e11, f11])) (fun w => by simp [execOp, MR.ev, MR.size, hsz, e0, f0, e1, f1, e8, f8, e10, f10, e11, f11, go_sem]) ?_
              refine MR.take (i := 9) (some 77) (.int .i64 (a : Int)) rfl rfl (by kernel_rfl) (by kernel_rfl) (by kernel_rfl) (fun _ _ _ h => h) (MR.want (d := 71) rfl rfl (by simp [MR.size, hsz]) (by simp [MR.ev, MR.size, hsz, e0, f0, e1, f1, e8, f8, e10, f10, e11, f11])) (fun w => by simp [execOp, MR.ev, MR.size, hsz, e0, f0, e1, f1, e8, f8, e10, f10, e11, f11, go_sem]) ?_
              refine MR.take (i := 10) (some 78) (.int .i64 ((a : Int) + 1 + (j : Int))) rfl rfl (by kernel_rfl) (by kernel_rfl) (by kernel_rfl) (fun _ _ _ h => h) (MR.want (d := 71) rfl rfl (by simp [MR.size, hsz]) (by simp [MR.ev, MR.size, hsz, e0, f0, e1, f1, e8, f8, e10, f10, e11, f11])) (fun w => by simp [execOp, MR.ev, MR.size, hsz, e0, f0, e1, f1, e8, f8, e10, f10, e11, f11, go_sem]) ?_
              refine MR.take (i := 11) (some 79) (.string (s.extract a (a + 1 + j))) rfl rfl (by kernel_rfl) (by kernel_rfl) (by kernel_rfl) (fun _ _ _ h => h) (MR.want (d := 71) rfl rfl (by simp [MR.size, hsz]) (by simp [MR.ev, MR.size, hsz, e0, f0, e1, f1, e8, f8, e10, f10, e11, f11])) (fun w => by simp [execOp, MR.ev, MR.size, hsz, e0, f0, e1, f1, e8, f8, e10, f10, e11, f11, hsl, hto, go_sem]) ?_
              refine MR.call (i := 6) (some 74) (67) (#[.slice none 0 0, .int .i64 ((c : Int) / 32), .int .i64 (q : Int)]) (by kernel_rfl) rfl rfl (MR.want (d := 71) rfl rfl (by simp [MR.size, hsz]) (by simp [MR.ev, MR.size, hsz, e0, f0, e1, f1, e8, f8, e10, f10, e11, f11])) (by simp [execOp, MR.ev, MR.size, hsz, e0, f0, e1, f1, e8, f8, e10, f10, e11, f11, go_sem]) ?_
              refine (AH.out _).mono ?_
              rintro e w1 ⟨v', rfl, hc1, hb1⟩
              refine ⟨_, rfl, ?_⟩
              refine MR.now (i := 7) (some 75) (.string X) (by kernel_rfl) rfl rfl (MR.want (d := 71) rfl rfl (by simp [MR.size, hsz]) (by simp [MR.ev, MR.size, hsz, e0, f0, e1, f1, e8, f8, e10, f10, e11, f11])) (by simp [execOp, MR.ev, MR.size, hsz, e0, f0, e1, f1, e8, f8, e10, f10, e11, f11, hc1, go_sem]) ?_
              refine MR.take (i := 12) (some 80) (.bool (!bq)) rfl rfl (by kernel_rfl) (by kernel_rfl) (by kernel_rfl) (fun _ _ _ h => h) (MR.want (d := 71) rfl rfl (by simp [MR.size, hsz]) (by simp [MR.ev, MR.size, hsz, e0, f0, e1, f1, e8, f8, e10, f10, e11, f11])) (fun w => by simp [execOp, MR.ev, MR.size, hsz, e0, f0, e1, f1, e8, f8, e10, f10, e11, f11, hq5, go_sem]) ?_
              refine MR.take (i := 13) (some 81) (.bool (!bq)) rfl rfl (by kernel_rfl) (by kernel_rfl) (by kernel_rfl) (fun _ _ _ h => h) (MR.free rfl) (fun w => by simp [execOp, MR.ev, MR.size, hsz, e0, f0, e1, f1, e8, f8, e10, f10, e11, f11, go_sem]) ?_
              refine wpAny_done (by kernel_rfl) ?_ _
              have hB1 : Below w.heap.size w w1 := hb0.drew.trans (hb1.mono (by have := hb0.size; simpa using this))
              clear hb1 hc1 AH IN
              rw [HA.out]
              clear HA f0 f1 f8 f10 f11 e0 e1 e8 e10 e11 hsz
              simp only [Act.put, List.setIfInBounds_toArray, List.set_cons_succ, List.set_cons_zero]
              cases bq
              · have HR : Hid _ := LL5.out hle (fun hh => by have := HQ.out.1 hh.2; cases this)
                clear LL4 LL5 HQ hq5
                go_wp2
                exact bodyPost_ret (v := .tuple #[.int .i64 (0), .int .i64 (0), .int .i64 (0), .bool false]) (by simp [results, Tryd.results71, go_sem]) rfl ⟨M10.ret4 HR.out (by omega) (by omega) (by omega), hB1⟩
              · have HR : Hid _ := LL4.out hle h4 (HQ.out.2 rfl)
                clear LL4 LL5 HQ hq5
                go_wp2
                exact bodyPost_ret (v := .tuple #[.int .i64 ((c : Int) / 32), .int .i64 (q), .int .i64 ((a : Int) + 1 + j), .bool true]) (by simp [results, Tryd.results71, go_sem]) rfl ⟨M10.ret4 HR.out (by omega) (by omega) (by omega), hB1⟩
            · have hok : okN (q : Int) = false := by simp [okN]; omega
              have IN : Hid (∀ W : World, Calls Tryd.prog 78 #[.int .i64 (q : Int)] W fun e w' => e = .returned (.bool false) ∧ W = w') := fun W => by have := isNumber_any q W; rwa [hok] at this
              clear hok
              have HR : Hid _ := LL5.out hle (fun hh => h4 hh.1)
              clear LL4 LL5 AH
              go_wp2
              go_quiet ((go_at_call 78; exact (IN.out _).mono (by rintro e w' ⟨rfl, rfl⟩; exact ⟨rfl, _, rfl⟩)))
              go_wp2
              exact bodyPost_ret (v := .tuple #[.int .i64 (0), .int .i64 (0), .int .i64 (0), .bool false]) (by simp [results, Tryd.results71, go_sem]) rfl ⟨M10.ret4 HR.out (by omega) (by omega) (by omega), below_drewN hb0 _⟩
end Go.Proofs.YtcpfbgogfhlmjaaDoor

/- The program's TakeHead at any arguments. -/
namespace Go.Proofs.YtcpfbgogfhlmjaaDoor
open Go.RowKit
set_option maxHeartbeats 800000 in
set_option maxRecDepth 100000 in
theorem implTakeHead_any (s : ByteArray) (x : Int) (w : World) (hs : s.size ≤ maxLen) :
    Calls Tryd.prog 71 #[.string s, .int .i64 x] w fun e w' => e = .returned (M10.t4 (M10.hdF s x)) ∧ Below w.heap.size w w' := by
  unfold maxLen at hs
  by_cases h1 : s.size ≤ 400
  · by_cases h2 : 0 ≤ x
    · by_cases h3 : x < s.size
      · obtain ⟨a, rfl⟩ := Int.eq_ofNat_of_zero_le h2
        have ha : a < s.size := by omega
        exact implTakeHead_in s a w h1 ha _ (M10.hdF_yes h1 ha).symm
      · rw [M10.hdF_no (by omega)]
        go_enter Tryd.func71, Tryd.ntmps71
        go_wp2
        exact bodyPost_ret (v := M10.t4 M10.no) (by simp [results, Tryd.results71, go_sem, M10.no]) rfl ⟨rfl, Below.refl _ _⟩
    · rw [M10.hdF_no (by omega)]
      go_enter Tryd.func71, Tryd.ntmps71
      go_wp2
      exact bodyPost_ret (v := M10.t4 M10.no) (by simp [results, Tryd.results71, go_sem, M10.no]) rfl ⟨rfl, Below.refl _ _⟩
  · rw [M10.hdF_no (by omega)]
    go_enter Tryd.func71, Tryd.ntmps71
    go_wp2
    exact bodyPost_ret (v := M10.t4 M10.no) (by simp [results, Tryd.results71, go_sem, M10.no]) rfl ⟨rfl, Below.refl _ _⟩
end Go.Proofs.YtcpfbgogfhlmjaaDoor
