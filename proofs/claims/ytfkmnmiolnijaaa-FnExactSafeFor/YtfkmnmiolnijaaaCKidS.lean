/- The children of a node: l16Children of the specification. -/
import Derived.Test.YtfkmnmiolnijaaaRows
import Derived.Test.YtfkmnmiolnijaaaMTr
import Derived.Test.YtfkmnmiolnijaaaMInfo
import Derived.WalkKit
import Derived.WalkSpells
import Derived.WalkLawsBesides
import Derived.Outline
import Derived.Deep.QuietTactic
import Derived.BigQuiet
namespace Go.Proofs.Ytfkmnmiolnijaaa
open Go.RowKit
set_option maxHeartbeats 1600000 in
set_option maxRecDepth 100000 in
theorem l16Children_any (a : Option Addr) (ca : Nat) (xs : List Int) (node : Int) (w : World) (hz : xs.length ≤ 8) (hin : M4.IntsAt w a xs) (L : List Int) (hL : Hid (TR.kids xs node = L)) :
    Calls Try.prog 36 #[.slice a xs.length ca, .int .i64 node] w fun e w' => ∃ a1 c1, e = .returned (.slice a1 L.length c1) ∧ w'.ownsRow w.heap.size 3 1 (.slice a1 L.length c1) L.length (M4.iv L) ∧ Below w.heap.size w w' := by
  have HI : Hid _ := hin
  clear hin
  obtain ⟨i0, hi, hz0, hz1, hz2⟩ := info_parts Try.info3
  have hLL := hL.out
  clear hL
  unfold TR.kids at hLL
  generalize hP : (fun i => decide (0 < i) && decide (xs.getD i 0 = node)) = P at *
  have HP : ∀ k, P k = (decide (0 < k) && decide (xs.getD k 0 = node)) := fun k => by rw [← hP]
  have HPP : Hid _ := HP
  have HL : Hid _ := hLL
  clear HP hP hLL
  go_enter Try.func36, Try.ntmps36
  go_wp2
  go_loopw [5, 10] (fun u iv wr => ∃ k : Nat, iv = .int .i64 k ∧ k ≤ xs.length ∧ Hid (wr.ownsRow w.heap.size 3 1 u (TR.those k P).length (M4.iv (TR.those k P))) ∧ Below w.heap.size w wr) (fun _ iv _ => (xs.length - intOf iv).toNat)
  case atStart => exact ⟨0, rfl, by omega, World.ownsRow_nil _ _ _ _, Below.refl _ _⟩
  case round =>
    obtain ⟨k, rfl, hk, hT, hb⟩ := hrel
    have hbs := hb.size
    by_cases hl : k < xs.length
    · have hfl := TR.those_len k P
      have HTY : Hid _ := fun h => TR.those_yes (n := k) (P := P) h
      have HTN : Hid _ := fun h => TR.those_no (n := k) (P := P) h
      obtain ⟨b1, off1, rfl, hlt1, hc1⟩ := M4.IntsAt.at (M4.IntsAt.below HI.out hb) hl
      have hpk := HPP.out k
      clear HI HL HPP
      generalize xs.getD k 0 = o at *
      generalize TR.those k P = K at *
      have hkl0 : (0 : Int) ≤ (k : Int) := by omega
      by_cases hy : 0 < k ∧ o = node
      · have hE : Hid _ := HTY.out (by rw [hpk]; simp [hy.1, hy.2])
        obtain ⟨hy1, rfl⟩ := hy
        have h1 : decide ((0 : Int) < (k : Int)) = true := by simp; omega
        clear HTY HTN hpk
        generalize hkl : K.length = kl at *
        have HKL : Hid _ := hkl
        clear hkl
        go_wp2_with (at_builtin; (refine wpList_append_own _ rfl _ _ 22 rfl w.heap.size 3 i0 (.int .i64 0) 1 8 Try.underlying22 hi hz0 hz1 hz2 rfl (by decide) _ _ _ rfl (World.ownsRow.alloc hT.out _) ⟨wr.heap.size, 0, none⟩ 1 1 [.int .i64 (k : Int)] rfl rfl ?c1 ?c2 ?c3 ?c4 ?c5 ?_))
        all_goals try (first | rfl | omega | exact M2.new1 _ _ _ | exact M2.one1 _ _ | (unfold maxLen; omega) | (simp; omega))
        intro v' w6 hown1 hgrow _
        have hb6 : Below w.heap.size w w6 := (hb.alloc hbs _).grown hgrow (by simp; omega) (fun j hj => (World.ownsRow.lt hT.out j hj).1)
        have HT6 : Hid (w6.ownsRow w.heap.size 3 1 v' (TR.those (k + 1) P).length (M4.iv (TR.those (k + 1) P))) := by
          rw [hE.out]; exact TR.own_snoc (by rw [HKL.out]; exact hown1) rfl
        clear hown1 hgrow hT hE HKL hb
        go_wp2
        go_roundw
        case rel => exact ⟨k + 1, by go_num, by omega, HT6, hb6⟩
        case measure => simp [intOf]; omega
      · have hE : Hid _ := HTN.out (by rw [hpk]; by_cases h : 0 < k <;> simp_all)
        have HT4 : Hid (wr.ownsRow w.heap.size 3 1 u5 (TR.those (k + 1) P).length (M4.iv (TR.those (k + 1) P))) := by show World.ownsRow _ _ _ _ _ _ _; rw [hE.out]; exact hT.out
        clear HTY HTN hpk hT hE
        by_cases h0 : 0 < k
        · have h1 : decide ((0 : Int) < (k : Int)) = true := by simp; omega
          have h2 : (o == node) = false := by simp; exact fun c => hy ⟨h0, c⟩
          go_wp2
          go_roundw
          case rel => exact ⟨k + 1, by go_num, by omega, HT4, hb⟩
          case measure => simp [intOf]; omega
        · have h1 : decide ((0 : Int) < (k : Int)) = false := by simp; omega
          go_wp2
          go_roundw
          case rel => exact ⟨k + 1, by go_num, by omega, HT4, hb⟩
          case measure => simp [intOf]; omega
    · obtain rfl : xs.length = k := by omega
      have hLL := HL.out
      subst hLL
      obtain ⟨a1, c1, rfl, -⟩ := M5.own_view hT.out
      clear HI HL HPP
      go_wp2
      go_ret
      exact ⟨a1, c1, rfl, hT.out, hb⟩
end Go.Proofs.Ytfkmnmiolnijaaa
