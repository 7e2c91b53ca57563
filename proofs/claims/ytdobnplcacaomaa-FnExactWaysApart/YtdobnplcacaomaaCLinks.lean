import Derived.Test.YtdobnplcacaomaaRows
import Derived.Test.YtdobnplcacaomaaMLK
import Derived.Test.YtdobnplcacaomaaM5
import Derived.Test.YtdobnplcacaomaaCNode8S
import Derived.WalkKit
import Derived.WalkSpells
import Derived.WalkLawsBesides
import Derived.Outline
import Derived.Test.YtdobnplcacaomaaCPipes
import Derived.Test.YtdobnplcacaomaaCLinksI
import Derived.Test.YtdobnplcacaomaaCAsk
/- GoodLinks and l9Ask of the specification. -/
namespace Go.Proofs.Ytdobnplcacaomaa
open Go.RowKit
set_option linter.unusedSimpArgs false in
set_option maxHeartbeats 1600000 in
set_option maxRecDepth 100000 in
theorem specGoodLinks_any (a : Option Addr) (cap : Nat) (xs : List I2) (w : World) (hn : xs.length ≤ 1048576) (hin : MI2.RowAt w a xs) (R : Bool) (hR : Hid (FL.okP (LK.pip xs) = R)) :
    Calls Try.prog 22 #[.slice a xs.length cap] w fun e w' => e = .returned (.bool R) ∧ Below w.heap.size w w' := by
  go_enter Try.func22, Try.ntmps22
  go_wp2
  go_loopw [7] (fun iv wr => ∃ k : Nat, iv = .int .i64 k ∧ k ≤ xs.length ∧ Hid (FL.okUp (LK.pip xs) k) ∧ Below w.heap.size w wr) (fun iv _ => (xs.length - intOf iv).toNat)
  case atStart => exact ⟨0, rfl, by omega, show Hid _ from fun j hj => by omega, Below.refl _ _⟩
  case round =>
    obtain ⟨k, rfl, hk, hT, hb⟩ := hrel
    by_cases hlk : k < xs.length
    · obtain ⟨b, off, rfl, hlt, c0, c1⟩ := (hin.below hb).at hlk
      have HY : Hid _ := fun h => FL.okUp_succ hT.out (k := k) h
      have HN : Hid _ := fun h => FL.okP_no (xs := LK.pip xs) (by rw [LK.pip_len]; exact hlk) h
      rw [LK.pip_at xs k hlk] at HY HN
      clear hin hT
      generalize MI2.at_ xs k = x at *
      obtain ⟨x0, x1⟩ := x
      replace HY : Hid (FL.okE ⟨x0, x1, 1⟩ = true → FL.okUp (LK.pip xs) (k + 1)) := HY
      replace HN : Hid (FL.okE ⟨x0, x1, 1⟩ = false → FL.okP (LK.pip xs) = false) := HN
      have hb' : ∀ o, Below w.heap.size w (wr.alloc o) := fun o => hb.alloc hb.size _
      have HB : Hid _ := hb'
      clear hb'
      go_wp2
      all_goals first
        | (go_ret
           refine ⟨retB7 ?_, HB.out _⟩
           rw [← hR.out, HN.out ?_]
           simp only [FL.okE, decide_eq_false_iff_not]
           clear hR HN HY HB c0 c1
           simp only [Bool.and_eq_true, Bool.or_eq_true, Bool.not_eq_true', Bool.not_eq_false', decide_eq_true_eq, decide_eq_false_iff_not, Bool.false_eq_true, beq_iff_eq, bne_iff_ne, ne_eq, false_iff, true_iff] at *
           omega)
        | (have hT : Hid _ := HY.out (by
             simp only [FL.okE, decide_eq_true_eq]
             clear hR HN HY HB c0 c1
             simp only [Bool.and_eq_true, Bool.or_eq_true, Bool.not_eq_true', Bool.not_eq_false', decide_eq_true_eq, decide_eq_false_iff_not, Bool.false_eq_true, beq_iff_eq, beq_eq_false_iff_ne, bne_iff_ne, ne_eq, false_iff, true_iff] at *
             omega)
           go_roundw
           case rel => exact ⟨k + 1, by go_num, by omega, hT, HB.out _⟩
           case measure => simp [intOf]; omega)
    · obtain rfl : k = xs.length := by omega
      have hF : Hid (R = decide ((xs.length : Int) ≤ 20)) := by
        rw [← hR.out, Bool.eq_iff_iff, FL.okP_iff, decide_eq_true_eq, LK.pip_len]; exact ⟨fun h => by omega, fun h => ⟨by omega, hT.out⟩⟩
      clear hin hT hR
      go_wp2
      go_ret
      exact ⟨retB7 hF.out.symm, hb⟩
set_option linter.unusedSimpArgs false in
set_option maxHeartbeats 1600000 in
set_option maxRecDepth 100000 in
theorem l9Ask_any (a : Option Addr) (cap : Nat) (xs : List I2) (f t : Int) (w : World) (hn : xs.length ≤ 1048576) (hin : MI2.RowAt w a xs) (R : Bool) (hR : Hid (FL.ask (LK.pip xs) f t = R)) :
    Calls Try.prog 54 #[.slice a xs.length cap, .int .i64 f, .int .i64 t] w fun e w' => e = .returned (.bool R) ∧ Below w.heap.size w w' := by
  have GP : Hid _ := specGoodLinks_any a cap xs w hn hin _ rfl
  clear hin
  have hA : Hid (R = (FL.okP (LK.pip xs) && (FL.nodeOk f && (FL.nodeOk t && !(f == t))))) := hR.out.symm
  clear hR
  go_enter Try.func54, Try.ntmps54
  go_wp2_with fail
  refine Calls.mono GP.out ?_
  rintro e w0 ⟨rfl, hb0⟩
  clear GP
  generalize FL.okP (LK.pip xs) = p at *
  have HF : Hid _ := fun W => node8S_any f W
  have HT : Hid _ := fun W => node8S_any t W
  generalize FL.nodeOk f = q at *
  generalize FL.nodeOk t = r at *
  cases p with
  | false =>
    clear HF HT
    go_wp2
    go_ret
    exact ⟨retB7 hA.out.symm, hb0⟩
  | true =>
    go_wp2_with fail
    refine (HF.out _).mono ?_
    rintro e w1 ⟨rfl, rfl⟩
    clear HF
    cases q with
    | false =>
      clear HT
      go_wp2
      go_ret
      exact ⟨retB7 hA.out.symm, hb0⟩
    | true =>
      go_wp2_with fail
      refine (HT.out _).mono ?_
      rintro e w1 ⟨rfl, rfl⟩
      clear HT
      cases r with
      | false =>
        go_wp2
        go_ret
        exact ⟨retB7 hA.out.symm, hb0⟩
      | true =>
        by_cases he : f = t
        · subst he
          have hF : Hid (R = false) := by show R = false; rw [hA.out]; simp
          clear hA
          go_wp2
          go_ret
          exact ⟨retB7 hF.out.symm, hb0⟩
        · have hF : Hid ((f != t) = R) := by show _ = R; rw [hA.out]; rfl
          clear hA
          go_wp2
          go_ret
          exact ⟨retB7 hF.out, hb0⟩
end Go.Proofs.Ytdobnplcacaomaa

/- GoodLinks of both, links as pipes: pipesOfOne of the program, l9Pipes and l9Ask of the specification. -/
namespace Go.Proofs.Ytdobnplcacaomaa
open Go.RowKit
set_option maxHeartbeats 1600000 in
set_option maxRecDepth 100000 in
theorem implGoodLinks_any (a : Option Addr) (cap : Nat) (xs : List I2) (w : World) (hn : xs.length ≤ 1048576) (hin : MI2.RowAt w a xs) (R : Bool) (hR : Hid (FL.okP (LK.pip xs) = R)) :
    Calls Try.prog 24 #[.slice a xs.length cap] w fun e w' => e = .returned (.bool R) ∧ Below w.heap.size w w' := by
  have PO : Hid _ := pipesOfOne_any a cap xs w hn hin
  have GP : Hid (∀ (g : Nat) (W : World), MI3.RowAt W (some ⟨g, 0, none⟩) (LK.pip xs) → Calls Try.prog 48 #[.slice (some ⟨g, 0, none⟩) xs.length xs.length] W fun e w' => e = .returned (.bool R) ∧ Below W.heap.size W w') := fun g W h => by
    have := implGoodPipes_any (some ⟨g, 0, none⟩) xs.length (LK.pip xs) W (by rw [LK.pip_len]; exact hn) h R hR
    rwa [LK.pip_len] at this
  clear hin hR
  go_enter Try.func24, Try.ntmps24
  go_wp2_with fail
  refine Calls.mono PO.out ?_
  rintro e w1 ⟨g, rfl, ho, hb1⟩
  have GP2 : Hid _ := GP.out g w1 (MI3.RowAt.of_own ho)
  clear PO GP ho
  go_wp2_with fail
  refine Calls.mono GP2.out ?_
  rintro e w2 ⟨rfl, hb2⟩
  clear GP2
  go_wp2
  go_ret
  exact ⟨rfl, hb1.trans (hb2.mono hb1.size)⟩
set_option maxHeartbeats 1600000 in
set_option maxRecDepth 100000 in
theorem l9Pipes_any (a : Option Addr) (cap : Nat) (xs : List I2) (w : World) (hz : xs.length ≤ 1048576) (hin : MI2.RowAt w a xs) :
    Calls Try.prog 55 #[.slice a xs.length cap] w fun e w' => ∃ a1 c1, e = .returned (.slice a1 xs.length c1) ∧ MI3.RowAt w' a1 (LK.pip xs) ∧ Below w.heap.size w w' := by
  obtain ⟨i0, hi, hz0, hz1, hz2⟩ := info_parts Try.infoPipe9
  have HI : Hid (MI2.RowAt w a xs) := hin
  clear hin
  go_enter Try.func55, Try.ntmps55
  go_wp2
  go_loopw [3, 8] (fun v iv wr => ∃ k : Nat, iv = .int .i64 k ∧ k ≤ xs.length ∧ wr.ownsRow w.heap.size 61 3 v k (MI3.flat (LK.pip (xs.take k))) ∧ Below w.heap.size w wr) (fun _ iv _ => (xs.length - intOf iv).toNat)
  case atStart => exact ⟨0, rfl, by omega, World.ownsRow_nil _ _ _ _, Below.refl _ _⟩
  case round =>
    obtain ⟨k, rfl, hk, hown, hb⟩ := hrel
    have hbs := hb.size
    by_cases hl : k < xs.length
    · obtain ⟨b, off, rfl, hlt, c0, c1⟩ := (HI.out.below hb).at hl
      have HX : Hid (LK.pip (xs.take (k + 1)) = LK.pip (xs.take k) ++ [LK.pip1 (MI2.at_ xs k)]) := LK.pip_snoc xs k hl
      generalize MI2.at_ xs k = x at *
      obtain ⟨x0, x1⟩ := x
      have HB : Hid (Below w.heap.size w (wr.alloc (.cells #[.int .i64 x0, .int .i64 x1] 68))) := hb.alloc hb.size _
      have HO : Hid (World.ownsRow (wr.alloc (.cells #[.int .i64 x0, .int .i64 x1] 68)) w.heap.size 61 3 _ k (MI3.flat (LK.pip (xs.take k)))) := hown.alloc _
      clear hown HI
      go_wp2_with (at_builtin; go_loud (refine wpList_append_own _ rfl _ _ 27 rfl w.heap.size 61 i0 (.agg #[.int .i64 0, .int .i64 0, .int .i64 0]) 3 24 Try.underlying27 hi hz0 hz1 hz2 rfl (by decide) _ _ _ rfl (World.ownsRow.alloc HO.out _) ⟨wr.heap.size + 1, 0, none⟩ 1 1 [.int .i64 x0, .int .i64 x1, .int .i64 1] rfl rfl ?c1 ?c2 ?c3 ?c4 ?c5 ?_))
      all_goals try (first | rfl | omega | exact LK.newN _ _ _ _ (by simp) | exact ⟨rfl, rfl, rfl⟩ | exact LK.oneN [x0, x1, 1] | (unfold maxLen; omega) | (simp; omega))
      intro v' w3 hown1 hgrow _
      have R1 : w3.ownsRow w.heap.size 61 3 v' (k + 1) (MI3.flat (LK.pip (xs.take (k + 1)))) := by
        rw [HX.out, MI3.flat_app]; exact hown1
      have R2 := (HB.out.alloc HB.out.size _).grown hgrow (by have := HB.out.size; simp at this ⊢; omega) (fun j hj => (HO.out.lt j hj).1)
      clear hown1 hgrow HO HB HX
      go_wp2
      go_roundw
      case rel => exact ⟨k + 1, by go_num, by omega, R1, R2⟩
      case measure => simp [intOf]; omega
    · obtain rfl : k = xs.length := by omega
      rw [List.take_length] at hown
      obtain ⟨a3, c3, hv, hr⟩ := LK.own_row hown
      rw [hv] at hown ⊢
      have HR : Hid (MI3.RowAt wr a3 (LK.pip xs)) := hr
      clear hown hr HI
      go_wp2
      go_ret
      exact ⟨a3, c3, rfl, HR.out, hb⟩
end Go.Proofs.Ytdobnplcacaomaa
