/- thoseOf of the program handed the closure impl.TreeFor$1. -/
import Derived.Test.YtpdmbobcbehilaaRows
import Derived.Test.YtpdmbobcbehilaaMTr
import Derived.Test.YtpdmbobcbehilaaMInfo
import Derived.WalkKit
import Derived.WalkSpells
import Derived.WalkLawsBesides
import Derived.Outline
import Derived.Deep.QuietTactic
import Derived.BigQuiet
namespace Go.Proofs.Ytpdmbobcbehilaa
open Go.RowKit
set_option maxHeartbeats 1600000 in
set_option maxRecDepth 100000 in
theorem thoseOfT_any (c1 : Value) (n : Nat) (P : Nat → Bool) (w : World) (hn8 : n ≤ 1000) (hF : ∀ (i : Nat) (W : World), i < n → Below w.heap.size w W → Calls Try.prog 43 #[.int .i64 (i : Int), c1] W fun e w' => e = .returned (.bool (P i)) ∧ Below W.heap.size W w') (L : List Int) (hL : Hid (TR.those n P = L)) :
    Calls Try.prog 42 #[.int .i64 (n : Int), .func (.func 43) #[] #[c1]] w fun e w' => ∃ a1 c1, e = .returned (.slice a1 L.length c1) ∧ w'.ownsRow w.heap.size 3 1 (.slice a1 L.length c1) L.length (M4.iv L) ∧ Below w.heap.size w w' := by
  have HF : Hid _ := hF
  clear hF
  obtain ⟨i0, hi, hz0, hz1, hz2⟩ := info_parts Try.info3
  go_enter Try.func42, Try.ntmps42
  go_wp2
  go_loopw [5, 8] (fun u iv wr => ∃ k : Nat, iv = .int .i64 k ∧ k ≤ n ∧ Hid (wr.ownsRow w.heap.size 3 1 u (TR.those k P).length (M4.iv (TR.those k P))) ∧ Below w.heap.size w wr) (fun _ iv _ => (n - intOf iv).toNat)
  case atStart => exact ⟨0, rfl, by omega, World.ownsRow_nil _ _ _ _, Below.refl _ _⟩
  case round =>
    obtain ⟨k, rfl, hk, hT, hb⟩ := hrel
    have hbs := hb.size
    by_cases hl : k < n
    · have hfl := TR.those_len k P
      have FK := HF.out k wr hl hb
      have TY := fun h => TR.those_yes (n := k) (P := P) h
      have TN := fun h => TR.those_no (n := k) (P := P) h
      generalize P k = q at *
      have HFK : Hid _ := FK
      have HTY : Hid _ := TY
      have HTN : Hid _ := TN
      clear FK TY TN
      generalize TR.those k P = K at *
      cases q
      · have hE := HTN.out rfl
        clear HTY HTN
        go_wp2_with fail
        refine Calls.mono HFK.out ?_
        rintro e w4 ⟨rfl, hb4⟩
        have HT4 : Hid (w4.ownsRow w.heap.size 3 1 u5 (TR.those (k + 1) P).length (M4.iv (TR.those (k + 1) P))) := by rw [hE]; exact M5.own_below hT.out hb4
        have hb5 := hb.trans (hb4.mono hb.size)
        clear HFK hT hb4 hE
        go_wp2
        go_roundw
        case rel => exact ⟨k + 1, by go_num, by omega, HT4, hb5⟩
        case measure => simp [intOf]; omega
      · have hE := HTY.out rfl
        have HE : Hid _ := hE
        clear HTY HTN hE
        go_wp2_with fail
        refine Calls.mono HFK.out ?_
        rintro e w4 ⟨rfl, hb4⟩
        have HT4 : Hid (w4.ownsRow w.heap.size 3 1 u5 K.length (M4.iv K)) := M5.own_below hT.out hb4
        have hb5 := hb.trans (hb4.mono hb.size)
        have hbs5 := hb5.size
        clear HFK hT hb4
        generalize hkl : K.length = kl at *
        have HKL : Hid _ := hkl
        clear hkl
        go_wp2_with (at_builtin; (refine wpList_append_own _ rfl _ _ 25 rfl w.heap.size 3 i0 (.int .i64 0) 1 8 Try.underlying25 hi hz0 hz1 hz2 rfl (by decide) _ _ _ rfl (World.ownsRow.alloc HT4.out _) ⟨w4.heap.size, 0, none⟩ 1 1 [.int .i64 (k : Int)] rfl rfl ?c1 ?c2 ?c3 ?c4 ?c5 ?_))
        all_goals try (first | rfl | omega | exact M2.new1 _ _ _ | exact M2.one1 _ _ | (unfold maxLen; omega) | (simp; omega))
        intro v' w6 hown1 hgrow _
        have hb6 : Below w.heap.size w w6 := (hb5.alloc hbs5 _).grown hgrow (by simp; omega) (fun j hj => (World.ownsRow.lt HT4.out j hj).1)
        have HT6 : Hid (w6.ownsRow w.heap.size 3 1 v' (TR.those (k + 1) P).length (M4.iv (TR.those (k + 1) P))) := by
          rw [HE.out]; exact TR.own_snoc (by rw [HKL.out]; exact hown1) rfl
        clear hown1 hgrow HT4 HE HKL hb5
        go_wp2
        go_roundw
        case rel => exact ⟨k + 1, by go_num, by omega, HT6, hb6⟩
        case measure => simp [intOf]; omega
    · obtain rfl : n = k := by omega
      have hLL := hL.out
      subst hLL
      obtain ⟨a1, c1, rfl, -⟩ := M5.own_view hT.out
      clear HF hL
      go_wp2
      go_ret
      exact ⟨a1, c1, rfl, hT.out, hb⟩
end Go.Proofs.Ytpdmbobcbehilaa
