/- reachedFrom of the program. -/
import Derived.Test.YtpabhjnpbnabiaaRows
import Derived.Test.YtpabhjnpbnabiaaCRowsF
import Derived.Test.YtpabhjnpbnabiaaMFM
import Derived.Test.YtpabhjnpbnabiaaM5
import Derived.Test.YtpabhjnpbnabiaaMInfo
import Derived.WalkKit
import Derived.WalkSpells
import Derived.WalkLawsBesides
import Derived.Outline
namespace Go.Proofs.Ytpabhjnpbnabiaa
open Go.RowKit
set_option maxRecDepth 100000 in
theorem neNil8 (W : World) : (binOp .neq 87 .nilFunc .nilFunc).run Try.prog W = .ok (.bool false) W := by kernel_rfl
set_option maxRecDepth 100000 in
theorem neFun8 (W : World) (F : Nat) (cs : Array Value) : (binOp .neq 87 (.func (.func F) #[] cs) .nilFunc).run Try.prog W = .ok (.bool true) W := by kernel_rfl
set_option linter.unusedSimpArgs false in
set_option maxHeartbeats 1600000 in
set_option maxRecDepth 100000 in
theorem reachedFrom_any (a v : Option Addr) (ca cv : Nat) (xs : List I3) (fs : List Int) (f : Int) (w : World) (hok : FL.okP xs = true) (hf0 : 0 ≤ f) (hf7 : f ≤ 7) (hl : fs.length = xs.length) (hfit : FL.fitUp xs fs xs.length) (hin : MI3.RowAt w a xs) (hos : M4.IntsAt w v fs) (L : List Int) (hL : Hid (FL.sideUp (FL.srch xs fs f).by_ 8 = L)) :
    Calls Try.prog 43 #[.slice a xs.length ca, .int .i64 f, .slice v xs.length cv] w fun e w' => ∃ a1 c1, e = .returned (.slice a1 L.length c1) ∧ w'.ownsRow w.heap.size 3 1 (.slice a1 L.length c1) L.length (M4.iv L) ∧ Below w.heap.size w w' := by
  obtain ⟨i0, hi, hz0, hz1, hz2⟩ := info_parts Try.info3
  have own0 : (w.alloc (.cells #[] 3)).ownsRow w.heap.size 3 1 (.slice (some ⟨w.heap.size, 0, none⟩) 0 0) ([] : List Int).length (M4.iv []) := by
    have := World.ownsRow_lit (base := w.heap.size) (e := 3) (size := 1) w #[] 0 (by simp) (by unfold maxLen; omega) (by simp)
    simpa [M4.iv] using this
  have OWN0 : Hid ((w.alloc (.cells #[] 3)).ownsRow w.heap.size 3 1 (.slice (some ⟨w.heap.size, 0, none⟩) 0 0) 0 (M4.iv [])) := own0
  have hb0a : Below w.heap.size w (w.alloc (.cells #[] 3)) := (Below.refl _ w).alloc (Nat.le_refl _) _
  have SE : Hid (Calls Try.prog 63 #[.slice a xs.length ca, .int .i64 f, .slice v xs.length cv] (w.alloc (.cells #[] 3)) fun e w' => ∃ vf, e = .returned (.agg (FL.vl vf).toArray) ∧ FL.FnOk (w.alloc (.cells #[] 3)).heap.size w' (FL.srch xs fs f) vf ∧ Below (w.alloc (.cells #[] 3)).heap.size (w.alloc (.cells #[] 3)) w') := by
    have := rowsFrom_any a v ca cv xs fs f (w.alloc (.cells #[] 3)) hok hf0 hf7 hl hfit (hin.below hb0a) (M4.IntsAt.below hos hb0a)
    rwa [hl] at this
  have h8 : Hid ((FL.srch xs fs f).by_.length = 8) := (FL.srch_tree hok ⟨hf0, hf7⟩).len
  generalize FL.srch xs fs f = S at *
  clear hin hos own0 hok hfit hl
  go_enter Try.func43, Try.ntmps43
  go_wp2_with fail
  refine Calls.mono SE.out ?_
  rintro e w2 ⟨vf, rfl, hFn, hb2⟩
  have hb02 := hb0a.trans (hb2.mono hb0a.size)
  replace OWN0 : Hid (w2.ownsRow w.heap.size 3 1 (.slice (some ⟨w.heap.size, 0, none⟩) 0 0) 0 (M4.iv [])) := M5.own_below OWN0.out hb2
  have CE : Hid (∀ j, j < 8 → (S.by_.getD j 0 = -1 ∧ vf j = .nilFunc) ∨ (S.by_.getD j 0 ≠ -1 ∧ ∃ F cs, vf j = .func (.func F) #[] cs)) := fun j hj => by
    rcases hFn.is j hj with h | ⟨h, F, cs, h2, _⟩
    · exact .inl h
    · exact .inr ⟨h, F, cs, h2⟩
  clear SE hb2 hFn hb0a
  generalize S.by_ = B at *
  have EQN := neNil8
  have EQF := neFun8
  go_wp2
  go_loopw [7, 15] (fun v iv wr => ∃ m : Nat, iv = .int .i64 m ∧ m ≤ 8 ∧ (∃ s : List Int, Hid (FL.sideUp B m = s) ∧ wr.ownsRow w.heap.size 3 1 v s.length (M4.iv s)) ∧ Below w.heap.size w wr) (fun _ iv _ => (8 - intOf iv).toNat)
  case atStart => exact ⟨0, rfl, by omega, ⟨[], rfl, OWN0.out⟩, hb02⟩
  case round =>
    clear OWN0 hb02
    obtain ⟨m, rfl, hm, ⟨s, hs, hown⟩, hb⟩ := hrel
    have hsl : s.length ≤ m := by rw [← hs.out]; exact FL.side_len B m
    have hbs := hb.size
    by_cases hl : m < 8
    · have EY : Hid _ := fun h => FL.side_yes (l := B) (m := m) h
      have EN : Hid _ := fun h => FL.side_no (l := B) (m := m) h
      rw [hs.out] at EY EN
      have mm8 : (m : Int) < 8 := by omega
      have HOA : Hid _ := hown
      have IX : ∀ W : World, (Instr.index 88 (.agg (FL.vl vf).toArray) (.int .i64 (m : Int))).run Try.prog W = .ok (vf m) W := fun W => MA.run_index Try.underlying88 (by go_simp) (by go_simp) hl (FL.vl_get _ hl)
      clear hown hs hL
      rcases CE.out m hl with ⟨hzz, hvf⟩ | ⟨hzz, F', cs', hvf⟩
      · have hE : Hid _ := EN.out hzz
        rw [hvf] at IX
        clear EY EN hvf hzz
        go_wp2
        go_roundw
        case rel => exact ⟨m + 1, by go_num, by omega, ⟨s, hE, HOA.out⟩, hb⟩
        case measure => simp [intOf]; omega
      · have hE : Hid _ := EY.out hzz
        rw [hvf] at IX
        clear EY EN hvf hzz
        go_wp2_with (at_builtin; go_loud (refine wpList_append_own _ rfl _ _ 29 rfl w.heap.size 3 i0 (.int .i64 0) 1 8 Try.underlying29 hi hz0 hz1 hz2 rfl (by decide) _ _ _ rfl (World.ownsRow.alloc HOA.out _) ⟨wr.heap.size, 0, none⟩ 1 1 [.int .i64 (m : Int)] rfl rfl ?c1 ?c2 ?c3 ?c4 ?c5 ?_))
        all_goals try (first | rfl | omega | exact M2.new1 _ _ _ | exact M2.one1 _ _ | (unfold maxLen; omega) | (simp; omega))
        intro v' w3 hown1 hgrow _
        have R := M5.growI HOA.out hb hbs (by exact hown1) hgrow
        have R1 := R.1
        have R2 := R.2
        clear hown1 hgrow R HOA
        go_wp2
        go_roundw
        case rel => exact ⟨m + 1, by go_num, by omega, ⟨s ++ [(m : Int)], hE, R1⟩, R2⟩
        case measure => simp [intOf]; omega
    · obtain rfl : m = 8 := by omega
      have hE : s = L := by rw [← hs.out, ← hL.out]
      subst hE
      obtain ⟨a3, c3, hv, hiv⟩ := M5.own_view hown
      rw [hv] at hown ⊢
      have HO3 : Hid _ := hown
      clear hv hown hiv CE hs h8 EQN EQF hL
      generalize hsll : s.length = sl at *
      have HSL : Hid _ := hsll
      clear hsll
      go_wp2
      go_ret
      exact ⟨a3, c3, by rw [HSL.out]; rfl, by rw [HSL.out]; exact HO3.out, hb⟩
end Go.Proofs.Ytpabhjnpbnabiaa
