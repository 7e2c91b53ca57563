/- impl.EarliestFrom, in a seat without ArriveBy. -/
import Derived.Test.YtdimdhiknjimaaaRows
import Derived.Test.YtdimdhiknjimaaaCFdJ
import Derived.Test.YtdimdhiknjimaaaCFloat
import Derived.Test.YtdimdhiknjimaaaC6Journey
import Derived.WalkKit
import Derived.WalkSpells
import Derived.WalkLawsBesides
import Derived.Outline
namespace Go.Proofs.Ytdimdhiknjimaaa
open Go.RowKit
namespace PN
def stOk (xs : List I5) (f n : Int) : Bool := okP xs && nodeOk f && whenOk n
theorem stOk_is {xs : List I5} {f n : Int} (h : stOk xs f n = true) : okP xs = true ∧ 0 ≤ f ∧ f ≤ 7 ∧ 0 ≤ n ∧ n ≤ 1000 := by
  unfold stOk at h
  simp only [Bool.and_eq_true] at h
  obtain ⟨⟨h1, h2⟩, h3⟩ := h
  have := node_yes h2
  have := when_yes h3
  exact ⟨h1, by omega, by omega, by omega, by omega⟩
def earF (xs : List I5) (f n : Int) : List Int := if stOk xs f n = true then whL (fin xs (st0 f n)).wh else []
theorem earF_no {xs : List I5} {f n : Int} (h : stOk xs f n = false) : earF xs f n = [] := by simp [earF, h]
theorem earF_yes {xs : List I5} {f n : Int} (h : stOk xs f n = true) : earF xs f n = whL (fin xs (st0 f n)).wh := by simp [earF, h]
theorem tellF_tS {m : FL.Mo} (h : tellB m = true) : tS m = tellN m := by cases m <;> first | rfl | cases h
theorem untoldF_tS {m : FL.Mo} (h : tellB m = false) : tS m = -1 := by cases m <;> first | rfl | cases h
end PN
theorem Try.fieldJF (f : Int) (wf : Nat → Nat) (lf : Nat → Int) (W : World) : (Instr.field 50 (.agg (PN.jc f wf lf).toArray) 1).run Try.prog W = .ok (.agg (PN.fl wf).toArray) W := by kernel_rfl
set_option linter.unusedSimpArgs false in
set_option maxHeartbeats 1600000 in
set_option maxRecDepth 100000 in
theorem implEarF_any (a : Option Addr) (ca : Nat) (xs : List I5) (f n : Int) (w : World) (hn : xs.length ≤ 1048576) (hin : MI5.RowAt w a xs) :
    Calls Try.prog 8 #[.slice a xs.length ca, .int .i64 f, .int .i64 n] w fun e w' => ∃ a1 c1, e = .returned (.tuple #[.slice a1 (PN.earF xs f n).length c1, .bool (PN.stOk xs f n)]) ∧ w'.ownsRow w.heap.size 3 1 (.slice a1 (PN.earF xs f n).length c1) (PN.earF xs f n).length (M4.iv (PN.earF xs f n)) ∧ Below w.heap.size w w' := by
  obtain ⟨i0, hi, hz0, hz1, hz2⟩ := info_parts Try.info3
  have ST : Hid (∀ W : World, MI5.RowAt W a xs → Calls Try.prog 13 #[.slice a xs.length ca, .int .i64 f, .int .i64 n] W fun e w' => e = .returned (.bool (PN.stOk xs f n)) ∧ Below W.heap.size W w') := fun W h => isStartB_any a ca xs f n W hn h
  have HI : Hid (MI5.RowAt w a xs) := hin
  clear hin
  go_enter Try.func8, Try.ntmps8
  go_wp2_with fail
  refine (ST.out _ HI.out).mono ?_
  rintro e w1 ⟨rfl, hb1⟩
  have HI1 : Hid (MI5.RowAt w1 a xs) := HI.out.below hb1
  clear ST HI
  cases hs : PN.stOk xs f n with
  | false =>
    have hF : Hid _ := hs
    have hL : Hid _ := PN.earF_no hs
    clear hs HI1
    go_wp2
    go_ret2
    exact ⟨none, 0, by rw [hL.out, hF.out]; rfl, by rw [hL.out]; exact World.ownsRow_nil _ _ _ _, hb1⟩
  | true =>
    have hF : Hid _ := hs
    have hL : Hid _ := PN.earF_yes hs
    obtain ⟨h0, h1, h2, h3, h4⟩ := PN.stOk_is hs
    have JF : Hid (∀ W : World, MI5.RowAt W a xs → Calls Try.prog 16 #[.slice a xs.length ca, .int .i64 f, .int .i64 n] W fun e w' => e = .returned (.agg (PN.jc f (PN.wb (PN.fin xs (PN.st0 f n))) (PN.lb (PN.fin xs (PN.st0 f n)))).toArray) ∧ Below W.heap.size W w') := fun W hr => journeyFrom_any a ca xs f n W h0 h1 h2 h3 h4 hr
    have OS : Hid (PN.okS (PN.fin xs (PN.st0 f n)).wh) := PN.fin_okS h0 (PN.st0_ok h3 h4)
    clear hs h0 h1 h2 h3 h4
    generalize PN.fin xs (PN.st0 f n) = s at *
    go_wp2_with (at_make; refine wpList_make_full _ rfl _ _ 26 rfl w1.heap.size 3 i0 (.int .i64 0) 1 Try.underlying26 hi hz0 hz1 .i64 .i64 _ _ 8 rfl rfl rfl rfl ?_ ?_ ?_ ?_)
    · rw [hz2]; omega
    · unfold maxLen; omega
    · omega
    intro w2 hown hgrow
    have hb2 : Below w1.heap.size w1 w2 := (Below.refl _ _).grown hgrow (Nat.le_refl _) (fun k hk => by cases hk)
    have HO2 : Hid (w2.ownsRow w1.heap.size 3 1 (.slice (some ⟨w1.heap.size, 0, none⟩) 8 8) 8 (M4.iv (M4.mix (PN.whL s.wh) 0))) := by
      show w2.ownsRow _ _ _ _ _ _
      rw [M4.mix_zero, PN.whL_len, ← M4.made_iv]; exact hown
    have HI2 : Hid (MI5.RowAt w2 a xs) := HI1.out.below hb2
    clear hown hgrow hi hz0 hz1 hz2 HI1
    go_wp2_with fail
    refine (JF.out _ HI2.out).mono ?_
    rintro e w3 ⟨rfl, hb3⟩
    have hB3 : Below w1.heap.size w1 w3 := hb2.trans (hb3.mono hb2.size)
    have HO3 : Hid (w3.ownsRow w1.heap.size 3 1 (.slice (some ⟨w1.heap.size, 0, none⟩) 8 8) 8 (M4.iv (M4.mix (PN.whL s.wh) 0))) := M5.own_below HO2.out hb3
    clear JF HI2 HO2 hb3 hb2
    have FJ := Try.fieldJF f (PN.wb s) (PN.lb s)
    go_wp2
    go_loopw [9, 10, 11, 12, 24] (fun _ _ _ _ iv wr => ∃ k : Nat, iv = .int .i64 k ∧ k ≤ 8 ∧ wr.ownsRow w1.heap.size 3 1 (.slice (some ⟨w1.heap.size, 0, none⟩) 8 8) 8 (M4.iv (M4.mix (PN.whL s.wh) k)) ∧ Below w1.heap.size w1 wr) (fun _ _ _ _ iv _ => (8 - intOf iv).toNat)
    case atStart => exact ⟨0, rfl, by omega, HO3.out, hB3⟩
    case round =>
      clear HO3 hB3
      obtain ⟨k, rfl, hk, hown, hb⟩ := hrel
      have hlen := PN.whL_len s.wh
      by_cases hl : k < 8
      · have kk : (k : Int) < 8 := by omega
        have IX : ∀ W : World, (Instr.index 47 (.agg (PN.fl (PN.wb s)).toArray) (.int .i64 (k : Int))).run Try.prog W = .ok (.float .f64 (s.wh k).b) W := fun W => MA.run_index Try.underlying47 (by go_simp) (by go_simp) hl (PN.fl_get _ hl)
        have TL : Hid (∀ W : World, Calls Try.prog 21 #[.float .f64 (s.wh k).b] W fun e w' => e = .returned (.tuple #[.int .i64 (PN.tellN (s.wh k)), .bool (PN.tellB (s.wh k))]) ∧ W = w') := fun W => tell_any _ W (.inr (OS.out k))
        have hcell : wr.cell? ⟨w1.heap.size, k, none⟩ = some (.int .i64 0) := by
          rw [hown.cellAt k (by omega)]; exact M4.iv_get _ _ _ (M4.mix_get _ k (by omega))
        have hfz := hown.frozenAt k
        have hst := hown.stored k (.int .i64 (PN.tS (s.wh k)))
        have hgd : (PN.whL s.wh).getD k 0 = PN.tS (s.wh k) := by rw [List.getD_eq_getElem?_getD, PN.whL_get _ hl]; rfl
        rw [M4.iv_set, ← hgd, M4.mix_set _ k (by omega), hgd] at hst
        have R1 : Hid _ := hst.1
        have R2 := hb.grown hst.2 hb.size (fun j hj => by simp at hj; omega)
        have hlt := (hown.lt w1.heap.size rfl).2
        have T1 : Hid _ := @PN.tellF_tS (s.wh k)
        have T2 : Hid _ := @PN.untoldF_tS (s.wh k)
        clear hst hown hgd FJ
        generalize s.wh k = m at *
        go_wp2_with fail
        refine (TL.out _).mono ?_
        rintro e w' ⟨rfl, rfl⟩
        clear TL IX
        generalize PN.tellN m = N at *
        cases hB : PN.tellB m with
        | true =>
          have e1 := T1.out hB
          rw [e1] at R1 R2
          clear T1 T2 hB e1
          go_wp2
          go_roundw
          case rel => exact ⟨k + 1, by go_num, by omega, R1.out, R2⟩
          case measure => simp [intOf]; omega
        | false =>
          have e1 := T2.out hB
          rw [e1] at R1 R2
          clear T1 T2 hB e1
          go_wp2
          go_roundw
          case rel => exact ⟨k + 1, by go_num, by omega, R1.out, R2⟩
          case measure => simp [intOf]; omega
      · obtain rfl : k = 8 := by omega
        have h8 : M4.mix (PN.whL s.wh) 8 = PN.whL s.wh := by rw [← hlen]; exact M4.mix_all _
        rw [h8] at hown
        have HO : Hid _ := hown
        clear hown h8 hlen FJ
        go_wp2
        go_ret2
        exact ⟨some ⟨w1.heap.size, 0, none⟩, 8, by rw [hL.out, hF.out, PN.whL_len]; rfl, by rw [hL.out, PN.whL_len]; exact CS6.own_base HO.out hb1.size, hb1.trans (hb.mono hb1.size)⟩
end Go.Proofs.Ytdimdhiknjimaaa
