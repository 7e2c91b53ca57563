/- The children of a node: childrenOf of the program. -/
import Derived.Test.YtfkmnmiolnijaaaRows
import Derived.Test.YtfkmnmiolnijaaaMTr
import Derived.Test.YtfkmnmiolnijaaaMInfo
import Derived.WalkKit
import Derived.WalkSpells
import Derived.WalkLawsBesides
import Derived.Outline
import Derived.Deep.QuietTactic
import Derived.BigQuiet
namespace Go.Proofs.Ytfkmnmiolnijaaa
open Go.RowKit
set_option maxHeartbeats 1600000 in
set_option maxRecDepth 100000 in
theorem childOf1_any (a : Option Addr) (ca g1 g2 i : Nat) (xs : List Int) (node : Int) (w : World) (hi : i < xs.length) (_hz : xs.length ≤ 1048576) (h1 : w.cell? ⟨g1, 0, none⟩ = some (.slice a xs.length ca)) (h2 : w.cell? ⟨g2, 0, none⟩ = some (.int .i64 node)) (hin : M4.IntsAt w a xs) :
    Calls Try.prog 58 #[.int .i64 (i : Int), .pointer (some ⟨g1, 0, none⟩), .pointer (some ⟨g2, 0, none⟩)] w fun e w' => e = .returned (.bool (decide (xs.getD i 0 = node))) ∧ ∃ q, w' = w.drewN q := by
  obtain ⟨b1, off1, rfl, hlt1, hc1⟩ := M4.IntsAt.at hin hi
  clear hin
  generalize xs.getD i 0 = o at *
  have hd : Hid (decide (o = node) = (o == node)) := by show _ = _; by_cases h : o = node <;> simp [h]
  go_enter Try.func58, Try.ntmps58
  go_wp2_with fail
  go_quiet (fail)
  go_wp2
  go_ret
  exact ⟨retB7 hd.out.symm, _, rfl⟩
set_option maxHeartbeats 1600000 in
set_option maxRecDepth 100000 in
theorem thoseOfK_any (g1 g2 n : Nat) (P : Nat → Bool) (w : World) (hn8 : n ≤ 8) (hF : ∀ (i : Nat) (W : World), i < n → Below w.heap.size w W → Calls Try.prog 58 #[.int .i64 (i : Int), .pointer (some ⟨g1, 0, none⟩), .pointer (some ⟨g2, 0, none⟩)] W fun e w' => e = .returned (.bool (P i)) ∧ Below W.heap.size W w') (L : List Int) (hL : Hid (TR.those n P = L)) :
    Calls Try.prog 57 #[.int .i64 (n : Int), .func (.func 58) #[] #[.pointer (some ⟨g1, 0, none⟩), .pointer (some ⟨g2, 0, none⟩)]] w fun e w' => ∃ a1 c1, e = .returned (.slice a1 L.length c1) ∧ w'.ownsRow w.heap.size 3 1 (.slice a1 L.length c1) L.length (M4.iv L) ∧ Below w.heap.size w w' := by
  have HF : Hid _ := hF
  clear hF
  obtain ⟨i0, hi, hz0, hz1, hz2⟩ := info_parts Try.info3
  go_enter Try.func57, Try.ntmps57
  go_wp2
  go_loopw [5, 8] (fun u iv wr => ∃ k : Nat, iv = .int .i64 k ∧ k ≤ n ∧ Hid (wr.ownsRow w.heap.size 3 1 u (TR.those k P).length (M4.iv (TR.those k P))) ∧ Below w.heap.size w wr) (fun _ iv _ => (n - intOf iv).toNat)
  case atStart => exact ⟨0, rfl, by omega, World.ownsRow_nil _ _ _ _, Below.refl _ _⟩
  case round =>
    obtain ⟨k, rfl, hk, hT, hb⟩ := hrel
    have hbs := hb.size
    by_cases hl : k < n
    · have hfl := TR.those_len k P
      have FK := HF.out k wr hl hb
      have TY := fun h => TR.those_yes (n := k) (P := P) h
      have TN := fun h => TR.those_no (n := k) (P := P) h
      generalize P k = q at *
      have HFK : Hid _ := FK
      have HTY : Hid _ := TY
      have HTN : Hid _ := TN
      clear FK TY TN
      generalize TR.those k P = K at *
      cases q
      · have hE := HTN.out rfl
        clear HTY HTN
        go_wp2_with fail
        refine Calls.mono HFK.out ?_
        rintro e w4 ⟨rfl, hb4⟩
        have HT4 : Hid (w4.ownsRow w.heap.size 3 1 u5 (TR.those (k + 1) P).length (M4.iv (TR.those (k + 1) P))) := by rw [hE]; exact M5.own_below hT.out hb4
        have hb5 := hb.trans (hb4.mono hb.size)
        clear HFK hT hb4 hE
        go_wp2
        go_roundw
        case rel => exact ⟨k + 1, by go_num, by omega, HT4, hb5⟩
        case measure => simp [intOf]; omega
      · have hE := HTY.out rfl
        have HE : Hid _ := hE
        clear HTY HTN hE
        go_wp2_with fail
        refine Calls.mono HFK.out ?_
        rintro e w4 ⟨rfl, hb4⟩
        have HT4 : Hid (w4.ownsRow w.heap.size 3 1 u5 K.length (M4.iv K)) := M5.own_below hT.out hb4
        have hb5 := hb.trans (hb4.mono hb.size)
        have hbs5 := hb5.size
        clear HFK hT hb4
        generalize hkl : K.length = kl at *
        have HKL : Hid _ := hkl
        clear hkl
        go_wp2_with (at_builtin; (refine wpList_append_own _ rfl _ _ 22 rfl w.heap.size 3 i0 (.int .i64 0) 1 8 Try.underlying22 hi hz0 hz1 hz2 rfl (by decide) _ _ _ rfl (World.ownsRow.alloc HT4.out _) ⟨w4.heap.size, 0, none⟩ 1 1 [.int .i64 (k : Int)] rfl rfl ?c1 ?c2 ?c3 ?c4 ?c5 ?_))
        all_goals try (first | rfl | omega | exact M2.new1 _ _ _ | exact M2.one1 _ _ | (unfold maxLen; omega) | (simp; omega))
        intro v' w6 hown1 hgrow _
        have hb6 : Below w.heap.size w w6 := (hb5.alloc hbs5 _).grown hgrow (by simp; omega) (fun j hj => (World.ownsRow.lt HT4.out j hj).1)
        have HT6 : Hid (w6.ownsRow w.heap.size 3 1 v' (TR.those (k + 1) P).length (M4.iv (TR.those (k + 1) P))) := by
          rw [HE.out]; exact TR.own_snoc (by rw [HKL.out]; exact hown1) rfl
        clear hown1 hgrow HT4 HE HKL hb5
        go_wp2
        go_roundw
        case rel => exact ⟨k + 1, by go_num, by omega, HT6, hb6⟩
        case measure => simp [intOf]; omega
    · obtain rfl : n = k := by omega
      have hLL := hL.out
      subst hLL
      obtain ⟨a1, c1, rfl, -⟩ := M5.own_view hT.out
      clear HF hL
      go_wp2
      go_ret
      exact ⟨a1, c1, rfl, hT.out, hb⟩
set_option maxHeartbeats 1600000 in
set_option maxRecDepth 100000 in
theorem childrenOf_any (a : Option Addr) (ca : Nat) (xs : List Int) (node : Int) (w : World) (hz : xs.length ≤ 8) (hin : M4.IntsAt w a xs) (L : List Int) (hL : Hid (TR.those xs.length (fun i => decide (xs.getD i 0 = node)) = L)) :
    Calls Try.prog 45 #[.slice a xs.length ca, .int .i64 node] w fun e w' => ∃ a1 c1, e = .returned (.slice a1 L.length c1) ∧ w'.ownsRow w.heap.size 3 1 (.slice a1 L.length c1) L.length (M4.iv L) ∧ Below w.heap.size w w' := by
  have HI : Hid _ := hin
  have TH : Hid _ := fun (W : World) (hF : _) => thoseOfK_any w.heap.size (w.heap.size + 1) xs.length (fun i => decide (xs.getD i 0 = node)) W hz hF L hL
  clear hin hL
  have FIN : Hid (((w.alloc (.cells #[.slice a xs.length ca] 22)).alloc (.cells #[.int .i64 node] 3)).cell? ⟨w.heap.size, 0, none⟩ = some (.slice a xs.length ca) ∧ ((w.alloc (.cells #[.slice a xs.length ca] 22)).alloc (.cells #[.int .i64 node] 3)).cell? ⟨w.heap.size + 1, 0, none⟩ = some (.int .i64 node) ∧ Below w.heap.size w ((w.alloc (.cells #[.slice a xs.length ca] 22)).alloc (.cells #[.int .i64 node] 3))) := by
    refine ⟨?_, ?_, ((Below.refl _ w).alloc (Nat.le_refl _) _).alloc (by simp) _⟩
    · have h1 : (w.alloc (.cells #[.slice a xs.length ca] 22)).cell? ⟨w.heap.size, 0, none⟩ = some (.slice a xs.length ca) := by rw [World.cell?_alloc_new]; rfl
      exact (((Below.refl _ (w.alloc (.cells #[.slice a xs.length ca] 22))).alloc (Nat.le_refl _) (.cells #[.int .i64 node] 3)).cell (p := ⟨w.heap.size, 0, none⟩) (by simp)).trans h1
    · have hs : (w.alloc (.cells #[.slice a xs.length ca] 22)).heap.size = w.heap.size + 1 := by simp
      rw [← hs, World.cell?_alloc_new]; rfl
  go_enter Try.func45, Try.ntmps45
  go_wp2_with fail
  refine Calls.mono (TH.out _ ?_) ?_
  · intro i W1 hi hb
    have hw2 : Below w.heap.size w W1 := FIN.out.2.2.trans (hb.mono (by simp; omega))
    exact (childOf1_any a ca w.heap.size (w.heap.size + 1) i xs node W1 hi (by omega) ((hb.cell (p := ⟨w.heap.size, 0, none⟩) (by simp; omega)).trans FIN.out.1) ((hb.cell (p := ⟨w.heap.size + 1, 0, none⟩) (by simp)).trans FIN.out.2.1) (M4.IntsAt.below HI.out hw2)).mono (by rintro e w' ⟨rfl, q, rfl⟩; exact ⟨rfl, below_drewN (Below.refl _ _) _⟩)
  rintro e w2 ⟨a1, c1, rfl, ho, hb⟩
  have hw2 : Below w.heap.size w w2 := FIN.out.2.2.trans (hb.mono (by simp; omega))
  have ho2 : w2.ownsRow w.heap.size 3 1 (.slice a1 L.length c1) L.length (M4.iv L) := TR.own_mono ho (by simp; omega)
  clear TH FIN HI
  go_wp2
  go_ret
  exact ⟨a1, c1, rfl, ho2, hw2⟩
end Go.Proofs.Ytfkmnmiolnijaaa
