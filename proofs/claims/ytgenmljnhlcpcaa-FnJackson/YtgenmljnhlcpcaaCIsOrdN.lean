/- IsJobOrder, LatenessOf, LateIn of both at whatever row of numbers the call owns, or none. -/
import Derived.Test.YtgenmljnhlcpcaaRows
import Derived.Test.YtgenmljnhlcpcaaCLate
import Derived.Test.YtgenmljnhlcpcaaCSortN
namespace Go.Proofs.Ytgenmljnhlcpcaa
open Go.RowKit
set_option maxRecDepth 100000 in
theorem cloneJN_any (w : World) : Calls Try.prog 31 #[.slice none 0 0] w fun e w' => e = .returned (.slice none 0 0) ∧ w = w' := by
  have hE : ∀ W, Sem.run Try.prog (binOp BinOp.eql 24 (.slice none 0 0) (.slice none 0 0)) W = .ok (.bool true) W := fun W => rfl
  go_enter Try.func31, Try.ntmps31
  go_wp2
  go_ret
  exact ⟨rfl, rfl⟩
set_option linter.unusedSimpArgs false in
set_option maxHeartbeats 1600000 in
set_option maxRecDepth 100000 in
theorem implIsOrder_nil (a : Option Addr) (ca : Nat) (xs : List I2) (w : World) (hn : xs.length ≤ 1048576) (hin : MI2.RowAt w a xs) :
    Calls Try.prog 12 #[.slice a xs.length ca, .slice none 0 0] w fun e w' => e = .returned (.bool (JD.isO xs [])) ∧ Below w.heap.size w w' := by
  have GJ : Hid _ := implGoodJobs_any a ca xs w hn hin _ rfl
  have RI : Hid (∀ w3 : World, Calls Try.prog 33 #[.slice none 0 0, .int .i64 ((xs.length : Int) - 1)] w3 fun e w' => e = .returned (.bool true) ∧ w3 = w') := fun w3 => areRising_any none 0 xs.length [] w3 hn (by simp) (.inl rfl) true (EG.rises_yes (fun i hi => by simp at hi))
  have HI : Hid (JD.isO xs [] = (JD.okP xs && decide (0 = xs.length) && true)) := by
    show _ = _
    rw [JD.isO]
    congr 1
  generalize JD.isO xs [] = R at *
  generalize JD.okP xs = q at *
  clear hin
  go_enter Try.func12, Try.ntmps12
  go_wp2_with fail
  refine Calls.mono GJ.out ?_
  rintro e w1 ⟨rfl, hb⟩
  clear GJ
  cases q with
  | false =>
    have HR : Hid (R = false) := by show _ = _; rw [HI.out]; rfl
    clear HI RI
    go_wp2
    go_ret
    exact ⟨retB7 HR.out.symm, hb⟩
  | true =>
    by_cases hl : xs.length = 0
    · have HR : Hid (R = true) := by show _ = _; rw [HI.out, hl]; rfl
      have HLL : Hid _ := hl
      rw [hl] at RI ⊢
      clear HI hl
      go_wp2_with fail
      refine (cloneJN_any _).mono ?_
      rintro e w2 ⟨rfl, rfl⟩
      go_wp2_with fail
      refine (sortI_0 _ _ _).mono ?_
      rintro e w2 ⟨rfl, rfl⟩
      go_wp2_with fail
      refine Calls.mono (RI.out _) ?_
      rintro e w2 ⟨rfl, rfl⟩
      clear RI
      go_wp2
      go_ret
      exact ⟨retB7 HR.out.symm, hb⟩
    · have HR : Hid (R = false) := by show _ = _; rw [HI.out, decide_eq_false (by omega)]; rfl
      have hq : ((0 : Int) != (xs.length : Int)) = true := by simp; omega
      have hq2 : (0 != xs.length) = true := by simp; omega
      have hq3 : (xs.length == 0) = false := by simp; exact List.ne_nil_of_length_pos (by omega)
      have HLL : Hid _ := hl
      clear HI RI hl
      go_wp2
      go_ret
      exact ⟨retB7 HR.out.symm, hb⟩
set_option linter.unusedSimpArgs false in
set_option maxHeartbeats 1600000 in
set_option maxRecDepth 100000 in
theorem specIsOrder_nil (a : Option Addr) (ca : Nat) (xs : List I2) (w : World) (hn : xs.length ≤ 1048576) (hin : MI2.RowAt w a xs) :
    Calls Try.prog 24 #[.slice a xs.length ca, .slice none 0 0] w fun e w' => e = .returned (.bool (JD.isO xs [])) ∧ Below w.heap.size w w' := by
  have GJ : Hid _ := specGoodJobs_any a ca xs w hn hin _ rfl
  have HI : Hid (JD.isO xs [] = (JD.okP xs && decide (0 = xs.length) && true)) := by
    show _ = _
    rw [JD.isO]
    congr 1
  generalize JD.isO xs [] = R at *
  generalize JD.okP xs = q at *
  clear hin
  go_enter Try.func24, Try.ntmps24
  go_wp2_with fail
  refine Calls.mono GJ.out ?_
  rintro e w1 ⟨rfl, hb⟩
  clear GJ
  cases q with
  | false =>
    have HR : Hid (R = false) := by show _ = _; rw [HI.out]; rfl
    clear HI
    go_wp2
    go_ret
    exact ⟨retB7 HR.out.symm, hb⟩
  | true =>
    by_cases hl : xs.length = 0
    · have HR : Hid (R = true) := by show _ = _; rw [HI.out, hl]; rfl
      have HLL : Hid _ := hl
      rw [hl]
      clear HI hl
      go_wp2
      refine wp_loop_rounds 1 ?_
      rw [rounds_succ]
      go_wp2
      go_ret
      exact ⟨retB7 HR.out.symm, hb⟩
    · have HR : Hid (R = false) := by show _ = _; rw [HI.out, decide_eq_false (by omega)]; rfl
      have hq : ((0 : Int) != (xs.length : Int)) = true := by simp; omega
      have hq2 : (0 != xs.length) = true := by simp; omega
      have HLL : Hid _ := hl
      clear HI hl
      go_wp2
      go_ret
      exact ⟨retB7 HR.out.symm, hb⟩
theorem implIsOrder_own (a b : Option Addr) (ca cb base : Nat) (xs : List I2) (os : List Int) (w : World) (hn : xs.length ≤ 1048576) (hm : os.length ≤ 1048576) (hin : MI2.RowAt w a xs) (ho : w.ownsRow base 3 1 (.slice b os.length cb) os.length (M4.iv os)) :
    Calls Try.prog 12 #[.slice a xs.length ca, .slice b os.length cb] w fun e w' => e = .returned (.bool (JD.isO xs os)) ∧ Below w.heap.size w w' := by
  rcases ho.2 with ⟨hv, h0⟩ | ⟨g, cap, cur, hv, _⟩
  · simp only [Value.slice.injEq] at hv
    obtain ⟨rfl, -, rfl⟩ := hv
    obtain rfl := List.eq_nil_of_length_eq_zero h0
    exact implIsOrder_nil a ca xs w hn hin
  · simp only [Value.slice.injEq] at hv
    obtain ⟨rfl, -, rfl⟩ := hv
    exact implIsOrder_any a ca g cb xs os w hn hm hin (M4.IntsAt.of_own ho)
theorem specIsOrder_own (a b : Option Addr) (ca cb base : Nat) (xs : List I2) (os : List Int) (w : World) (hn : xs.length ≤ 1048576) (hm : os.length ≤ 1048576) (hin : MI2.RowAt w a xs) (ho : w.ownsRow base 3 1 (.slice b os.length cb) os.length (M4.iv os)) :
    Calls Try.prog 24 #[.slice a xs.length ca, .slice b os.length cb] w fun e w' => e = .returned (.bool (JD.isO xs os)) ∧ Below w.heap.size w w' := by
  rcases ho.2 with ⟨hv, h0⟩ | ⟨g, cap, cur, hv, _⟩
  · simp only [Value.slice.injEq] at hv
    obtain ⟨rfl, -, rfl⟩ := hv
    obtain rfl := List.eq_nil_of_length_eq_zero h0
    exact specIsOrder_nil a ca xs w hn hin
  · simp only [Value.slice.injEq] at hv
    obtain ⟨rfl, -, rfl⟩ := hv
    obtain ⟨h1, h2⟩ := JD.own_cap ho
    exact specIsOrder_any a ca g cb xs os w hn hm h1 h2 hin (M4.IntsAt.of_own ho)
end Go.Proofs.Ytgenmljnhlcpcaa
