/- The edges of a cut: cutOf, CutOf of the program and of the specification. -/
import Derived.Test.YtdglialjcibbbaaRows
import Derived.Test.YtdglialjcibbbaaCEdges
import Derived.Test.YtdglialjcibbbaaCRise
import Derived.Test.YtdglialjcibbbaaCHasI
import Derived.Test.YtdglialjcibbbaaMCur
import Derived.Test.YtdglialjcibbbaaMInfo
import Derived.WalkKit
import Derived.WalkSpells
import Derived.WalkLawsBesides
import Derived.Outline
import Derived.Deep.QuietTactic
import Derived.BigQuiet
namespace Go.Proofs.Ytdglialjcibbbaa
open Go.RowKit
namespace EG
theorem own_base {w : World} {base base' e sz n : Nat} {v : Value} {xs : List Value} (h : w.ownsRow base e sz v n xs) (hb : base' ≤ base) : w.ownsRow base' e sz v n xs := by
  refine ⟨h.1, ?_⟩
  rcases h.2 with h' | ⟨g, cap, cur, h1, h2, h3⟩
  · exact .inl h'
  · exact .inr ⟨g, cap, cur, h1, by omega, h3⟩
/-- Whether just one end is among some. -/
def cutB (zs : List Int) (c : I3) : Bool := hasB zs c.a0 != hasB zs c.a1
/-- The numbers of the first k edges that are cut. -/
def cutUp (xs : List I3) (zs : List Int) : Nat → List Int
  | 0 => []
  | k + 1 => cutUp xs zs k ++ (if cutB zs (MI3.at_ xs k) = true then [(k : Int)] else [])
theorem cutUp_len (xs : List I3) (zs : List Int) (k : Nat) : (cutUp xs zs k).length ≤ k := by
  induction k with
  | zero => simp [cutUp]
  | succ k ih => rw [cutUp]; split <;> simp <;> omega
theorem cutUp_yes {xs : List I3} {zs : List Int} {k : Nat} (h : cutB zs (MI3.at_ xs k) = true) : cutUp xs zs (k + 1) = cutUp xs zs k ++ [(k : Int)] := by rw [cutUp, if_pos h]
theorem cutUp_no {xs : List I3} {zs : List Int} {k : Nat} (h : cutB zs (MI3.at_ xs k) = false) : cutUp xs zs (k + 1) = cutUp xs zs k := by rw [cutUp, if_neg (by simp [h])]; simp
noncomputable def cutOk (xs : List I3) (zs : List Int) : Bool := okP xs && rises 8 zs
noncomputable def cutL (xs : List I3) (zs : List Int) : List Int := if cutOk xs zs = true then cutUp xs zs xs.length else []
theorem cutL_len (xs : List I3) (zs : List Int) : (cutL xs zs).length ≤ 1048576 := by
  unfold cutL; split
  · rename_i h
    have := cutUp_len xs zs xs.length
    have h1 : okP xs = true := by unfold cutOk at h; rw [Bool.and_eq_true] at h; exact h.1
    have := ((okP_iff xs).1 h1).1; omega
  · simp
end EG
set_option linter.unusedSimpArgs false in
set_option maxHeartbeats 1600000 in
set_option maxRecDepth 100000 in
theorem cutOf_any (a b : Option Addr) (cap cb : Nat) (xs : List I3) (zs : List Int) (w : World) (hn : xs.length ≤ 24) (hz : zs.length ≤ 1048576) (hin : MI3.RowAt w a xs) (hos : M4.IntsAt w b zs) :
    Calls Try.prog 27 #[.slice a xs.length cap, .slice b zs.length cb] w fun e w' => ∃ a1 c1, e = .returned (.slice a1 (EG.cutUp xs zs xs.length).length c1) ∧ w'.ownsRow w.heap.size 3 1 (.slice a1 (EG.cutUp xs zs xs.length).length c1) (EG.cutUp xs zs xs.length).length (M4.iv (EG.cutUp xs zs xs.length)) ∧ Below w.heap.size w w' := by
  obtain ⟨i0, hi, hz0, hz1, hz2⟩ := info_parts Try.info3
  have HI : Hid (MI3.RowAt w a xs) := hin
  have HS : Hid (M4.IntsAt w b zs) := hos
  clear hin hos
  have own0 : (w.alloc (.cells #[] 3)).ownsRow w.heap.size 3 1 (.slice (some ⟨w.heap.size, 0, none⟩) 0 0) (EG.cutUp xs zs 0).length (M4.iv (EG.cutUp xs zs 0)) := by
    have := World.ownsRow_lit (base := w.heap.size) (e := 3) (size := 1) w #[] 0 (by simp) (by unfold maxLen; omega) (by simp)
    simpa [EG.cutUp, M4.iv] using this
  have OWN0 : Hid _ := own0
  clear own0
  go_enter Try.func27, Try.ntmps27
  go_wp2
  go_loopw [5, 11] (fun v iv wr => ∃ k : Nat, iv = .int .i64 k ∧ k ≤ xs.length ∧ wr.ownsRow w.heap.size 3 1 v (EG.cutUp xs zs k).length (M4.iv (EG.cutUp xs zs k)) ∧ Below w.heap.size w wr) (fun _ iv _ => (xs.length - intOf iv).toNat)
  case atStart => exact ⟨0, rfl, by omega, OWN0.out, (Below.refl _ _).alloc (Nat.le_refl _) _⟩
  case round =>
    obtain ⟨k, rfl, hk, hown, hb⟩ := hrel
    have hbs := hb.size
    have hln := EG.cutUp_len xs zs k
    by_cases hl : k < xs.length
    · obtain ⟨b1, off, rfl, hlt, c0, c1, c2⟩ := (HI.out.below hb).at hl
      have EY : Hid _ := fun h => EG.cutUp_yes (xs := xs) (zs := zs) (k := k) h
      have EN : Hid _ := fun h => EG.cutUp_no (xs := xs) (zs := zs) (k := k) h
      generalize MI3.at_ xs k = x at *
      obtain ⟨x0, x1, x2⟩ := x
      have hbA : Below w.heap.size w (wr.alloc (.cells #[.int .i64 x0, .int .i64 x1, .int .i64 x2] 33)) := hb.alloc hbs _
      have HCA : Hid (∀ (y : Int) (m : Nat), Calls Try.prog 50 #[.slice b zs.length cb, .int .i64 y] ((wr.alloc (.cells #[.int .i64 x0, .int .i64 x1, .int .i64 x2] 33)).drewN m) fun e w' => e = .returned (.bool (EG.hasB zs y)) ∧ ((wr.alloc (.cells #[.int .i64 x0, .int .i64 x1, .int .i64 x2] 33)).drewN m) = w') := fun y m => containsI_any b cb zs y _ hz (HS.out.below (below_drewN hbA m))
      have HOA : Hid _ := hown.alloc (.cells #[.int .i64 x0, .int .i64 x1, .int .i64 x2] 33)
      have HBA : Hid _ := hbA
      have HQ : Hid (EG.cutB zs ⟨x0, x1, x2⟩ = (EG.hasB zs x0 != EG.hasB zs x1)) := rfl
      clear hbA hown HI HS
      go_wp2_with fail
      go_quiet ((go_at_call 50; exact (HCA.out _ _).mono (by rintro e w' ⟨rfl, rfl⟩; exact ⟨rfl, _, rfl⟩)))
      generalize EG.hasB zs x0 = p0 at *
      generalize EG.hasB zs x1 = p1 at *
      have hO2 := M5.own_below HOA.out (below_drewN (Below.refl _ _) nq)
      have hB2 := below_drewN HBA.out nq
      clear HCA HOA HBA c0 c1 c2 hlt hb
      generalize ((wr.alloc (.cells #[.int .i64 x0, .int .i64 x1, .int .i64 x2] 33)).drewN nq) = w2 at *
      have hs2 := hB2.size
      have HO2 : Hid _ := hO2
      have HB2 : Hid _ := hB2
      clear hO2 hB2
      rw [show (p0 != p1) = !(p0 == p1) from rfl] at HQ
      generalize (!(p0 == p1)) = q at *
      cases q with
      | false =>
        have e := EN.out HQ.out
        have HO' := HO2.out
        rw [← e] at HO'
        have HO3 : Hid _ := HO'
        clear e EN EY HO2 HO' HQ
        go_wp2
        go_roundw
        case rel => exact ⟨k + 1, by go_num, by omega, HO3.out, HB2.out⟩
        case measure => simp [intOf]; omega
      | true =>
        have HE : Hid _ := EY.out HQ.out
        clear EN EY HQ
        go_wp2_with (at_builtin; go_loud (refine wpList_append_own _ rfl _ _ 24 rfl w.heap.size 3 i0 (.int .i64 0) 1 8 Try.underlying24 hi hz0 hz1 hz2 rfl (by decide) _ _ _ rfl (World.ownsRow.alloc HO2.out _) ⟨w2.heap.size, 0, none⟩ 1 1 [.int .i64 (k : Int)] rfl rfl ?c1 ?c2 ?c3 ?c4 ?c5 ?_))
        all_goals try (first | rfl | omega | exact M2.new1 _ _ _ | exact M2.one1 _ _ | (unfold maxLen; omega) | (simp; omega))
        intro v' w3 hown1 hgrow _
        have R := M5.growI HO2.out HB2.out hs2 (by exact hown1) hgrow
        have R1 := R.1
        have R2 := R.2
        rw [← HE.out] at R1
        clear hown1 hgrow R HE hln HO2 HB2
        go_wp2
        go_roundw
        case rel => exact ⟨k + 1, by go_num, by omega, R1, R2⟩
        case measure => simp [intOf]; omega
    · obtain rfl : k = xs.length := by omega
      obtain ⟨a3, c3, hv, _⟩ := M5.own_view hown
      rw [hv] at hown ⊢
      have HO : Hid _ := hown
      clear hln hv hown HI HS
      go_wp2
      go_ret
      exact ⟨a3, c3, rfl, HO.out, hb⟩
set_option linter.unusedSimpArgs false in
set_option maxHeartbeats 1600000 in
set_option maxRecDepth 100000 in
theorem implCut_any (a b : Option Addr) (cap cb : Nat) (xs : List I3) (zs : List Int) (w : World) (hn0 : xs.length ≤ 1048576) (hz : zs.length ≤ 1048576) (hin : MI3.RowAt w a xs) (hos : M4.IntsAt w b zs) :
    Calls Try.prog 6 #[.slice a xs.length cap, .slice b zs.length cb] w fun e w' => ∃ a1 c1, e = .returned (.tuple #[.slice a1 (EG.cutL xs zs).length c1, .bool (EG.cutOk xs zs)]) ∧ w'.ownsRow w.heap.size 3 1 (.slice a1 (EG.cutL xs zs).length c1) (EG.cutL xs zs).length (M4.iv (EG.cutL xs zs)) ∧ Below w.heap.size w w' := by
  have GP : Hid (∀ W : World, MI3.RowAt W a xs → Calls Try.prog 23 #[.slice a xs.length cap] W fun e w' => e = .returned (.bool (EG.okP xs)) ∧ Below W.heap.size W w') := fun W h => implGoodEdges_any a cap xs W hn0 h _ rfl
  have SP : Hid (∀ W : World, M4.IntsAt W b zs → Calls Try.prog 26 #[.slice b zs.length cb, .int .i64 7] W fun e w' => e = .returned (.bool (EG.rises 8 zs)) ∧ W = w') := fun W h => areRising_any b cb 8 zs W (by omega) hz h _ rfl
  have HI : Hid (MI3.RowAt w a xs) := hin
  have HS : Hid (M4.IntsAt w b zs) := hos
  clear hin hos
  obtain ⟨ok, hok⟩ : ∃ ok, EG.cutOk xs zs = ok := ⟨_, rfl⟩
  go_enter Try.func6, Try.ntmps6
  go_wp2_with fail
  refine (GP.out _ HI.out).mono ?_
  rintro e w0 ⟨rfl, hb0⟩
  have HI0 : Hid (MI3.RowAt w0 a xs) := HI.out.below hb0
  have HS0 : Hid (M4.IntsAt w0 b zs) := HS.out.below hb0
  clear GP HI HS
  cases hg : EG.okP xs with
  | false =>
    obtain rfl : ok = false := by rw [← hok]; simp [EG.cutOk, hg]
    have hC : Hid (EG.cutL xs zs = []) := by show _ = _; simp [EG.cutL, hok]
    have HG : Hid _ := hok
    clear hg hok SP HI0 HS0
    go_wp2
    go_ret2
    exact ⟨none, 0, by rw [hC.out, HG.out]; rfl, by rw [hC.out]; exact World.ownsRow_nil _ _ _ _, hb0⟩
  | true =>
    have hn : xs.length ≤ 24 := ((EG.okP_iff xs).1 hg).1
    go_wp2_with fail
    refine (SP.out _ HS0.out).mono ?_
    rintro e w1 ⟨rfl, rfl⟩
    clear SP
    cases hr : EG.rises 8 zs with
    | false =>
      obtain rfl : ok = false := by rw [← hok]; simp [EG.cutOk, hg, hr]
      have hC : Hid (EG.cutL xs zs = []) := by show _ = _; simp [EG.cutL, hok]
      have HG : Hid _ := hok
      clear hg hok hr HI0 HS0
      go_wp2
      go_ret2
      exact ⟨none, 0, by rw [hC.out, HG.out]; rfl, by rw [hC.out]; exact World.ownsRow_nil _ _ _ _, hb0⟩
    | true =>
      obtain rfl : ok = true := by rw [← hok]; simp [EG.cutOk, hg, hr]
      have hC : Hid (EG.cutL xs zs = EG.cutUp xs zs xs.length) := by show _ = _; simp [EG.cutL, hok]
      have HG : Hid _ := hok
      clear hg hok hr
      have CO : Hid _ := cutOf_any a b cap cb xs zs w0 hn hz HI0.out HS0.out
      clear HI0 HS0
      go_wp2_with fail
      refine Calls.mono CO.out ?_
      rintro e w2 ⟨a1, c1, rfl, ho, hb2⟩
      have HO : Hid _ := ho
      clear CO ho
      go_wp2
      go_ret2
      have HO' := HO.out
      rw [← hC.out] at HO'
      exact ⟨a1, c1, by rw [hC.out, HG.out]; rfl, EG.own_base HO' hb0.size, hb0.trans (hb2.mono hb0.size)⟩
end Go.Proofs.Ytdglialjcibbbaa
