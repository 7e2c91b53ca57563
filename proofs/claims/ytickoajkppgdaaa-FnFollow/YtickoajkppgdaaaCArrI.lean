/- ArriveBy, the program's. -/
import Derived.Test.YtickoajkppgdaaaRows
import Derived.Test.YtickoajkppgdaaaMPA
import Derived.Test.YtickoajkppgdaaaCArrS
import Derived.WalkKit
import Derived.WalkSpells
import Derived.WalkLawsBesides
import Derived.Outline
import Derived.Deep.RegionHeld3
namespace Go.Proofs.Ytickoajkppgdaaa
open Go.RowKit
theorem cells5 {w2 : World} {b off i : Nat} {x0 x1 x2 x3 x4 : Int} {W : World} (hb : Below W.heap.size W w2) (hl : b < W.heap.size) (c0 : W.cell? ⟨b, off + i * 5, none⟩ = some (.int .i64 x0)) (c1 : W.cell? ⟨b, off + i * 5 + 1, none⟩ = some (.int .i64 x1)) (c2 : W.cell? ⟨b, off + i * 5 + 2, none⟩ = some (.int .i64 x2)) (c3 : W.cell? ⟨b, off + i * 5 + 3, none⟩ = some (.int .i64 x3)) (c4 : W.cell? ⟨b, off + i * 5 + 4, none⟩ = some (.int .i64 x4)) :
    w2.cell? ⟨b, off + i * 5, none⟩ = some (.int .i64 x0) ∧ w2.cell? ⟨b, off + i * 5 + 1, none⟩ = some (.int .i64 x1) ∧ w2.cell? ⟨b, off + i * 5 + 2, none⟩ = some (.int .i64 x2) ∧ w2.cell? ⟨b, off + i * 5 + 3, none⟩ = some (.int .i64 x3) ∧ w2.cell? ⟨b, off + i * 5 + 4, none⟩ = some (.int .i64 x4) :=
  ⟨(hb.cell (p := ⟨b, _, none⟩) hl).trans c0, (hb.cell (p := ⟨b, _, none⟩) hl).trans c1, (hb.cell (p := ⟨b, _, none⟩) hl).trans c2, (hb.cell (p := ⟨b, _, none⟩) hl).trans c3, (hb.cell (p := ⟨b, _, none⟩) hl).trans c4⟩
set_option linter.unusedSimpArgs false in
set_option maxHeartbeats 3200000 in
set_option maxRecDepth 100000 in
theorem implArrive_any (a b : Option Addr) (ca cb : Nat) (xs : List I5) (f n : Int) (os : List Int) (w : World) (hn : xs.length ≤ 1048576) (ho : os.length ≤ 1048576) (hin : MI5.RowAt w a xs) (hos : M4.IntsAt w b os) :
    Calls Try.prog 9 #[.slice a xs.length ca, .int .i64 f, .int .i64 n, .slice b os.length cb] w fun e w' => e = .returned (.tuple #[.int .i64 (PN.tellN (PN.arrM xs f n os)), .bool (PN.tellB (PN.arrM xs f n os))]) ∧ Below w.heap.size w w' := by
  have ST : Hid (∀ W : World, MI5.RowAt W a xs → Calls Try.prog 18 #[.slice a xs.length ca, .int .i64 f, .int .i64 n] W fun e w' => e = .returned (.bool (PN.startOk xs f n)) ∧ Below W.heap.size W w') := fun W h => isStart_any a ca xs f n W hn h
  have AP : Hid (∀ W : World, M4.IntsAt W b os → Calls Try.prog 23 #[.slice a xs.length ca, .slice b os.length cb] W fun e w' => e = .returned (.bool (decide (os.length ≤ 20) && PN.inP xs.length os)) ∧ Below W.heap.size W w') := fun W h2 => areOfPlan_any a b ca cb xs.length os W hn ho h2 _ rfl
  have HI : Hid (MI5.RowAt w a xs) := hin
  have HO : Hid (M4.IntsAt w b os) := hos
  clear hin hos
  obtain ⟨N, hN⟩ : ∃ N, PN.tellN (PN.arrM xs f n os) = N := ⟨_, rfl⟩
  obtain ⟨T, hT⟩ : ∃ T, PN.tellB (PN.arrM xs f n os) = T := ⟨_, rfl⟩
  have NO : Hid (PN.wayOk xs f n os = false → N = 0 ∧ T = false) := fun h => by rw [← hN, ← hT, PN.arrM_no h]; exact ⟨rfl, rfl⟩
  have YES : Hid (PN.wayOk xs f n os = true → N = PN.tellN (PN.mo xs os n os.length) ∧ T = PN.tellB (PN.mo xs os n os.length)) := fun h => by rw [← hN, ← hT, PN.arrM_yes h]; exact ⟨rfl, rfl⟩
  rw [hN, hT]
  clear hN hT
  go_enter Try.func9, Try.ntmps9
  go_wp2_with fail
  refine (ST.out _ HI.out).mono ?_
  rintro e w1 ⟨rfl, hb1⟩
  have HI1 : Hid (MI5.RowAt w1 a xs) := HI.out.below hb1
  have HO1 : Hid (M4.IntsAt w1 b os) := M4.IntsAt.below HO.out hb1
  clear ST HI HO
  cases hs : PN.startOk xs f n with
  | false =>
    obtain ⟨rfl, rfl⟩ := NO.out (by simp [PN.wayOk, hs])
    clear NO YES AP HI1 HO1 hs
    go_wp2
    go_ret2
    exact ⟨rfl, hb1⟩
  | true =>
    go_wp2_with fail
    refine (AP.out _ HO1.out).mono ?_
    rintro e w2 ⟨rfl, hb2⟩
    have hB2 := hb1.trans (hb2.mono hb1.size)
    have HI2 : Hid (MI5.RowAt w2 a xs) := HI1.out.below hb2
    have HO2 : Hid (M4.IntsAt w2 b os) := M4.IntsAt.below HO1.out hb2
    clear AP HI1 HO1 hb2
    cases hap : (decide (os.length ≤ 20) && PN.inP xs.length os) with
    | false =>
      obtain ⟨rfl, rfl⟩ := NO.out (by
        have : PN.rowB xs os = false := by
          rw [Bool.and_eq_false_iff] at hap
          unfold PN.rowB
          rcases hap with h | h
          · rw [h]; simp
          · rw [h]; simp
        simp [PN.wayOk, this])
      clear NO YES HI2 HO2 hs hap
      go_wp2
      go_ret2
      exact ⟨rfl, hB2⟩
    | true =>
      obtain ⟨hl20, hI⟩ : os.length ≤ 20 ∧ PN.inP xs.length os = true := by simpa using hap
      obtain ⟨hok, -, -, hn0, hn1⟩ := PN.start_is hs
      have IU : Hid _ := (PN.inP_iff _ _).1 hI
      have GC : Hid (∀ k, k < os.length → PN.Good (PN.ofN xs (os.getD k 0))) := fun k hk => PN.good_of_in hok IU.out hk
      have OT : Hid (∀ k, k ≤ os.length → PN.okT (PN.mo xs os n k)) := fun k hk => PN.mo_okT hok IU.out hn0 hn1 k hk
      have GO : Hid (PN.goUp xs f os os.length → PN.wayOk xs f n os = true) := fun h => PN.way_go hs hI hl20 h
      have GN : Hid (∀ k, k < os.length → (PN.ofN xs (os.getD k 0)).a0 ≠ PN.nodeAt xs f os k → PN.wayOk xs f n os = false) := fun k hk h => PN.way_no hk h
      clear hap hI hok hs
      go_wp2_with fail
      go_loopw [10, 11, 13, 30] (fun nv mv _ iv wr => ∃ (k : Nat) (y : Int) (m : Nat), nv = .int .i64 y ∧ mv = .float .f64 m ∧ iv = .int .i64 k ∧ k ≤ os.length ∧ Hid (PN.nodeAt xs f os k = y) ∧ Hid ((PN.mo xs os n k).b = m) ∧ Hid (PN.goUp xs f os k) ∧ Below w2.heap.size w2 wr) (fun _ _ _ iv _ => (os.length - intOf iv).toNat)
      case atStart => exact ⟨0, f, _, rfl, rfl, rfl, by omega, rfl, rfl, show Hid _ from fun i hi => by omega, Below.refl _ _⟩
      case round =>
        obtain ⟨k, y, m, rfl, rfl, rfl, hk, hY, hM, hG, hb⟩ := hrel
        by_cases hlk : k < os.length
        · obtain ⟨b3, off3, hb3, hlt3, hc3⟩ := M4.IntsAt.at (M4.IntsAt.below HO2.out hb) hlk
          obtain ⟨hp0, hp1⟩ := IU.out k hlk
          obtain ⟨i, hi⟩ := Int.eq_ofNat_of_zero_le hp0
          have hil : i < xs.length := by omega
          obtain ⟨b4, off4, ha4, hlt4, e0, e1, e2, e3, e4⟩ := (HI2.out.below hb).at hil
          rw [hi] at hc3
          have eo : PN.ofN xs (os.getD k 0) = MI5.at_ xs i := by rw [hi]; rfl
          have G := GC.out k hlk
          have M1 : Hid ((PN.mo xs os n (k + 1)).b = (PN.arr (MI5.at_ xs i) (PN.mo xs os n k)).b) := by show (PN.arr _ (PN.mo xs os n k)).b = _; rw [eo]
          have Y1 : Hid (PN.nodeAt xs f os (k + 1) = (MI5.at_ xs i).a1) := by show (PN.ofN xs _).a1 = _; rw [eo]
          have NG : Hid ((MI5.at_ xs i).a0 ≠ y → PN.wayOk xs f n os = false) := fun h => GN.out k hlk (by rw [eo, hY.out]; exact h)
          have YG : Hid ((MI5.at_ xs i).a0 = y → PN.goUp xs f os (k + 1)) := fun h => PN.goUp_succ hG.out (by rw [eo, hY.out]; exact h)
          have OK0 := OT.out k hk
          rw [eo] at G
          have AR : Hid (∀ W : World, Calls Try.prog 24 #[(MI5.at_ xs i).v, .float .f64 m] W fun e w' => e = .returned (.float .f64 (PN.arr (MI5.at_ xs i) (PN.mo xs os n k)).b) ∧ Below W.heap.size W w') := fun W => by rw [← hM.out]; exact arrival_any _ _ W G OK0
          generalize (PN.arr (MI5.at_ xs i) (PN.mo xs os n k)).b = m' at *
          clear hp0 hp1 hi eo hM G OK0 hG hY
          generalize MI5.at_ xs i = c at *
          obtain ⟨x0, x1, x2, x3, x4⟩ := c
          simp only at Y1 NG YG
          subst hb3 ha4
          by_cases hx : x0 = y
          · have hne : (x0 != y) = false := by simp [hx]
            have hG1 : Hid _ := YG.out hx
            clear NG YG hx HO2 HI2 IU GC OT GN
            go_wp2_with fail
            go_region_held3 (fun w' => w'.cell? ⟨b4, off4 + i * 5, none⟩ = some (.int .i64 x0) ∧ w'.cell? ⟨b4, off4 + i * 5 + 1, none⟩ = some (.int .i64 x1) ∧ w'.cell? ⟨b4, off4 + i * 5 + 2, none⟩ = some (.int .i64 x2) ∧ w'.cell? ⟨b4, off4 + i * 5 + 3, none⟩ = some (.int .i64 x3) ∧ w'.cell? ⟨b4, off4 + i * 5 + 4, none⟩ = some (.int .i64 x4)) (first | assumption | go_keep) (first | (go_at_call 24; refine Calls.mono (AR.out _) ?_; rintro e w3 ⟨rfl, hb3⟩; obtain ⟨p0, p1, p2, p3, p4⟩ := cells5 hb3 (by simpa using hlt4) (by simpa using e0) (by simpa using e1) (by simpa using e2) (by simpa using e3) (by simpa using e4)))
            have hB3 : Below w2.heap.size w2 w3 := hb.drew.trans (hb3.mono (by have := hb.size; simpa using this))
            clear p0 p1 p2 p3 p4 e0 e1 e2 e3 e4 hb3 AR hb
            go_wp2
            go_roundw
            case rel => exact ⟨k + 1, x1, m', rfl, rfl, by go_num, by omega, Y1, M1, hG1, hB3⟩
            case measure => simp [intOf]; omega
          · have hne : (x0 != y) = true := by simp [hx]
            obtain ⟨rfl, rfl⟩ := NO.out (NG.out hx)
            clear NG YG hx HO2 HI2 IU GC OT GN GO NO YES AR M1 Y1
            go_wp2
            go_ret2
            exact ⟨rfl, hB2.trans (hb.mono hB2.size)⟩
        · obtain rfl : k = os.length := by omega
          obtain ⟨hN, hT⟩ := YES.out (GO.out hG.out)
          have TL : Hid (∀ W : World, Calls Try.prog 21 #[.float .f64 m] W fun e w' => e = .returned (.tuple #[.int .i64 (PN.tellN (PN.mo xs os n os.length)), .bool (PN.tellB (PN.mo xs os n os.length))]) ∧ W = w') := fun W => by rw [← hM.out]; exact tell_any _ W (.inr (OT.out _ (Nat.le_refl _)))
          clear HO2 HI2 IU GC OT GN GO NO YES hY hM hG
          rw [← hN, ← hT] at TL
          clear hN hT
          go_wp2_with fail
          refine (TL.out _).mono ?_
          rintro e w' ⟨rfl, rfl⟩
          clear TL
          go_wp2
          go_ret2
          exact ⟨rfl, hB2.trans (hb.mono hB2.size)⟩
end Go.Proofs.Ytickoajkppgdaaa
