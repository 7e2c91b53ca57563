import Derived.Test.YtjplabldiheggaaRows
import Derived.Test.YtjplabldiheggaaMPS
import Derived.Test.YtjplabldiheggaaM5
import Derived.Test.YtjplabldiheggaaMCur
import Derived.Test.YtjplabldiheggaaCInfoRc
import Derived.Test.YtjplabldiheggaaMHasB
import Derived.WalkKit
import Derived.WalkSpells
import Derived.WalkLawsBesides
import Derived.Outline
import Derived.Deep.QuietTactic
import Derived.BigQuiet
import Derived.Laws.AppendOwnNone
import Derived.Test.YtjplabldiheggaaMGp
/- l7Put of the specification: a number to its place in a rising row. -/
namespace Go.Proofs.Ytjplabldiheggaa
open Go.RowKit
namespace EG
def ltUp (os : List Int) (n : Int) (k : Nat) : Prop := ∀ j, j < k → os.getD j 0 < n
theorem ltUp_succ {os : List Int} {n : Int} {k : Nat} (h : ltUp os n k) (h1 : os.getD k 0 < n) : ltUp os n (k + 1) := by
  intro j hj
  by_cases e : j = k
  · subst e; exact h1
  · exact h j (by omega)
theorem iv_one (l : List Int) : ∀ u, u ∈ M4.iv l → u.oneCell' = true := by intro u hu; simp only [M4.iv, List.mem_map] at hu; obtain ⟨z, _, rfl⟩ := hu; rfl
theorem add_is (g k j : Nat) : (⟨g, k, none⟩ : Addr).add j = ⟨g, k + j, none⟩ := by unfold Addr.add; split <;> simp_all
theorem cells_take {w : World} {base g ca : Nat} {os : List Int} (h : w.ownsRow base 3 1 (.slice (some ⟨g, 0, none⟩) os.length ca) os.length (M4.iv os)) (k : Nat) : ∀ j u, (M4.iv (os.take k))[j]? = some u → w.cell? ((⟨g, 0, none⟩ : Addr).add j) = some u := by
  intro j u hj
  have hjl : j < (os.take k).length := by have := (List.getElem?_eq_some_iff.1 hj).1; simpa [M4.iv] using this
  rw [List.length_take] at hjl
  rw [add_is, Nat.zero_add, h.cellAt j (by omega)]
  rw [M4.iv, List.getElem?_map, List.getElem?_take, if_pos (by omega)] at hj
  rw [M4.iv, List.getElem?_map]; exact hj
theorem cells_drop {w W : World} {base g ca : Nat} {os : List Int} (h : w.ownsRow base 3 1 (.slice (some ⟨g, 0, none⟩) os.length ca) os.length (M4.iv os)) (k : Nat) (hg : g < w.heap.size) (hW : Below w.heap.size w W) : ∀ j u, (M4.iv (os.drop k))[j]? = some u → W.cell? ((⟨g, k, none⟩ : Addr).add j) = some u := by
  intro j u hj
  have hjl : j < (os.drop k).length := by have := (List.getElem?_eq_some_iff.1 hj).1; simpa [M4.iv] using this
  rw [List.length_drop] at hjl
  rw [add_is, hW.cell (p := ⟨g, k + j, none⟩) hg, h.cellAt (k + j) (by omega)]
  rw [M4.iv, List.getElem?_map, List.getElem?_drop] at hj
  rw [M4.iv, List.getElem?_map]; exact hj
theorem iv_app3 (l r : List Int) (n : Int) : M4.iv (l ++ [n]) ++ M4.iv r = M4.iv (l ++ n :: r) := by simp [M4.iv]
theorem put_len (os : List Int) (n : Int) {k : Nat} (_hk : k ≤ os.length) : (os.take k ++ n :: os.drop k).length = (os.take k ++ [n]).length + (os.length - k) := by simp; omega
end EG
set_option linter.unusedSimpArgs false in
set_option maxHeartbeats 1600000 in
set_option maxRecDepth 100000 in
theorem l7Put_some (base g ca : Nat) (os : List Int) (n : Int) (w : World) (ho : os.length ≤ 1000) (hn : n ∉ os) (hown : w.ownsRow base 3 1 (.slice (some ⟨g, 0, none⟩) os.length ca) os.length (M4.iv os)) :
    Calls Try.prog 34 #[.slice (some ⟨g, 0, none⟩) os.length ca, .int .i64 n] w fun e w' => ∃ a1 c1, e = .returned (.slice a1 (EG.putS os n).length c1) ∧ w'.ownsRow w.heap.size 3 1 (.slice a1 (EG.putS os n).length c1) (EG.putS os n).length (M4.iv (EG.putS os n)) ∧ Below w.heap.size w w' := by
  obtain ⟨i0, hi, hz0, hz1, hz2⟩ := info_parts Try.info3
  have hcap : os.length ≤ ca ∧ ca ≤ maxLen := by
    rcases hown.2 with ⟨h, _⟩ | ⟨g', c', cur, hv, _, _, h1, h2, _⟩
    · cases h
    · cases hv; exact ⟨h1, h2⟩
  obtain ⟨hc1, hc2⟩ := hcap
  have hc63 : ca ≤ 9223372036854775807 := by unfold maxLen at hc2; omega
  have HS : Hid (M4.IntsAt w (some ⟨g, 0, none⟩) os) := M4.IntsAt.of_own hown
  have hgl := (hown.lt g rfl).2
  have HO : Hid _ := hown
  clear hown hc2
  go_enter Try.func34, Try.ntmps34
  go_wp2
  go_loopw [5] (fun iv wr => ∃ k : Nat, iv = .int .i64 k ∧ k ≤ os.length ∧ Hid (EG.ltUp os n k) ∧ w = wr) (fun iv _ => (os.length - intOf iv).toNat)
  case atStart => exact ⟨0, rfl, by omega, show Hid _ from fun j hj => by omega, rfl⟩
  case round =>
    obtain ⟨k, rfl, hk, hT, rfl⟩ := hrel
    by_cases hlk : k < os.length ∧ os.getD k 0 < n
    · obtain ⟨hlk, hon⟩ := hlk
      obtain ⟨b1, off1, hbb, hlt1, hc⟩ := M4.IntsAt.at HS.out hlk
      cases hbb
      have HT : Hid _ := EG.ltUp_succ hT.out hon
      have hq : decide (os.getD k 0 < n) = true := by simp; exact hon
      rw [Nat.zero_add] at hc
      clear hT HS HO hon
      generalize os.getD k 0 = o at *
      go_wp2
      go_roundw
      case rel => exact ⟨k + 1, by go_num, by omega, HT, trivial⟩
      case measure => simp [intOf]; omega
    · have HP : Hid (EG.putS os n = os.take k ++ n :: os.drop k) := EG.putS_at os n k hk hT.out (fun h => by
        by_cases c : os.getD k 0 < n
        · exact absurd ⟨h, c⟩ hlk
        · omega)
      by_cases hkl : k < os.length
      · obtain ⟨b1, off1, hbb, hlt1, hc⟩ := M4.IntsAt.at HS.out hkl
        cases hbb
        have hne : os.getD k 0 ≠ n := fun e => hn (by rw [← e, List.getD_eq_getElem?_getD, List.getElem?_eq_getElem hkl]; exact List.getElem_mem hkl)
        have hge : ¬ os.getD k 0 < n := fun c => hlk ⟨hkl, c⟩
        have hq : decide (os.getD k 0 < n) = false := decide_eq_false hge
        have hq2 : (os.getD k 0 == n) = false := by rw [beq_eq_false_iff_ne]; exact hne
        rw [Nat.zero_add] at hc
        have HLK1 : Hid ((os.take k).length = k) := by show _ = _; rw [List.length_take]; omega
        have hlk1 : (os.take k).length ≤ 1000 := by rw [HLK1.out]; omega
        have N1 : Hid (∀ j u, (M4.iv (os.take k))[j]? = some u → w.cell? ((⟨g, 0, none⟩ : Addr).add j) = some u) := EG.cells_take HO.out k
        have N2 : Hid (∀ W, Below w.heap.size w W → ∀ j u, (M4.iv (os.drop k))[j]? = some u → W.cell? ((⟨g, k, none⟩ : Addr).add j) = some u) := fun W hW => EG.cells_drop HO.out k hgl hW
        have hkc : ¬ (ca = k) := by omega
        have hkc' : ¬ (k = ca) := by omega
        have HLD : Hid ((os.drop k).length = os.length - k) := List.length_drop
        have HPL : Hid _ := EG.put_len os n hk
        generalize os.take k = tk at *
        generalize os.drop k = dk at *
        clear hT hlk hne hge HO HS
        generalize os.getD k 0 = o at *
        go_wp2_with (at_builtin; refine wpList_append_own _ rfl _ _ 26 rfl w.heap.size 3 i0 (.int .i64 0) 1 8 Try.underlying26 hi hz0 hz1 hz2 rfl (by decide) _ _ _ rfl (World.ownsRow_nil _ _ _ _) ⟨g, 0, none⟩ k ca (M4.iv tk) rfl ?h1_0 ?h1_1 ?h1_2 ?h1_3 ?h1_4 ?h1_5 ?_)
        case h1_0 => have := HLK1.out; simp [M4.iv]; omega
        case h1_1 => exact N1.out
        case h1_2 => exact EG.iv_one _
        case h1_3 => unfold maxLen; omega
        case h1_4 => omega
        case h1_5 => omega
        intro v1 w1 hown1 hgrow1 _
        have O1 : w1.ownsRow w.heap.size 3 1 v1 tk.length (M4.iv tk) := by
          rw [HLK1.out, ← Nat.zero_add k]; simpa using hown1
        have B1 : Below w.heap.size w w1 := (Below.refl _ w).grown hgrow1 (Nat.le_refl _) (fun j hj => by cases hj)
        have hs1 := B1.size
        have HO1 : Hid _ := O1
        have HB1 : Hid _ := B1
        clear hown1 hgrow1 O1 B1 N1
        go_wp2_with (at_builtin; go_loud (refine wpList_append_own _ rfl _ _ 26 rfl w.heap.size 3 i0 (.int .i64 0) 1 8 Try.underlying26 hi hz0 hz1 hz2 rfl (by decide) _ _ _ rfl (World.ownsRow.alloc HO1.out _) ⟨w1.heap.size, 0, none⟩ 1 1 [.int .i64 n] rfl rfl ?h2_1 ?h2_2 ?h2_3 ?h2_4 ?h2_5 ?_))
        all_goals try (first | rfl | omega | exact M2.new1 _ _ _ | exact M2.one1 _ _ | (unfold maxLen; omega) | (simp; omega))
        intro v2 w2 hown2 hgrow2 _
        have R := M5.growI HO1.out HB1.out hs1 (by exact hown2) hgrow2
        have HO2 : Hid _ := R.1
        have HB2 : Hid _ := R.2
        have hs2 := R.2.size
        clear hown2 hgrow2 R HO1 HB1
        go_wp2_with (at_builtin; refine wpList_append_own _ rfl _ _ 26 rfl w.heap.size 3 i0 (.int .i64 0) 1 8 Try.underlying26 hi hz0 hz1 hz2 rfl (by decide) _ _ _ rfl HO2.out ⟨g, k, none⟩ (os.length - k) (ca - k) (M4.iv dk) rfl ?h3_0 ?h3_1 ?h3_2 ?h3_3 ?h3_4 ?h3_5 ?_)
        case h3_0 => have := HLD.out; simp [M4.iv]; omega
        case h3_1 => exact N2.out _ HB2.out
        case h3_2 => exact EG.iv_one _
        case h3_3 => simp; unfold maxLen; omega
        case h3_4 => simp; omega
        case h3_5 => omega
        intro v3 w3 hown3 hgrow3 _
        have R1 : w3.ownsRow w.heap.size 3 1 v3 (EG.putS os n).length (M4.iv (EG.putS os n)) := by
          rw [HP.out, HPL.out]
          have h := hown3
          rw [EG.iv_app3] at h
          simpa using h
        have R2 : Below w.heap.size w w3 := HB2.out.grown hgrow3 (by omega) (fun j hj => (World.ownsRow.lt HO2.out j hj).1)
        obtain ⟨a5, c5, rfl, _⟩ := M5.own_view R1
        have HR1 : Hid _ := R1
        clear hown3 hgrow3 R1 HO2 HB2 N2
        go_wp2
        go_ret
        exact ⟨a5, c5, rfl, HR1.out, R2⟩
      · have hkb : decide (k < os.length) = false := by simp; omega
        by_cases hkc : ca = k
        · have hkc' : k = ca := hkc.symm
          clear hkc
          subst hkc'
          have HZZ : Hid (os.length - k = 0) := by show _ = _; omega
          have HLK1 : Hid ((os.take k).length = k) := by show _ = _; rw [List.length_take]; omega
          have hlk1 : (os.take k).length ≤ 1000 := by rw [HLK1.out]; omega
          have N1 : Hid (∀ j u, (M4.iv (os.take k))[j]? = some u → w.cell? ((⟨g, 0, none⟩ : Addr).add j) = some u) := EG.cells_take HO.out k
          have N2 : Hid (∀ W, Below w.heap.size w W → ∀ j u, (M4.iv (os.drop k))[j]? = some u → W.cell? ((⟨g, 0, none⟩ : Addr).add j) = some u) := fun W hW j u hj => by rw [List.drop_of_length_le (by omega)] at hj; simp [M4.iv] at hj
          have HLD : Hid ((os.drop k).length = os.length - k) := List.length_drop
          have HPL : Hid _ := EG.put_len os n hk
          generalize os.take k = tk at *
          generalize os.drop k = dk at *
          clear hT hlk HO HS
          go_wp2_with (at_builtin; refine wpList_append_own _ rfl _ _ 26 rfl w.heap.size 3 i0 (.int .i64 0) 1 8 Try.underlying26 hi hz0 hz1 hz2 rfl (by decide) _ _ _ rfl (World.ownsRow_nil _ _ _ _) ⟨g, 0, none⟩ k k (M4.iv tk) rfl ?h4_0 ?h4_1 ?h4_2 ?h4_3 ?h4_4 ?h4_5 ?_)
          case h4_0 => have := HLK1.out; simp [M4.iv]; omega
          case h4_1 => exact N1.out
          case h4_2 => exact EG.iv_one _
          case h4_3 => unfold maxLen; omega
          case h4_4 => omega
          case h4_5 => omega
          intro v1 w1 hown1 hgrow1 _
          have O1 : w1.ownsRow w.heap.size 3 1 v1 tk.length (M4.iv tk) := by
            rw [HLK1.out, ← Nat.zero_add k]; simpa using hown1
          have B1 : Below w.heap.size w w1 := (Below.refl _ w).grown hgrow1 (Nat.le_refl _) (fun j hj => by cases hj)
          have hs1 := B1.size
          have HO1 : Hid _ := O1
          have HB1 : Hid _ := B1
          clear hown1 hgrow1 O1 B1 N1
          go_wp2_with (at_builtin; go_loud (refine wpList_append_own _ rfl _ _ 26 rfl w.heap.size 3 i0 (.int .i64 0) 1 8 Try.underlying26 hi hz0 hz1 hz2 rfl (by decide) _ _ _ rfl (World.ownsRow.alloc HO1.out _) ⟨w1.heap.size, 0, none⟩ 1 1 [.int .i64 n] rfl rfl ?h5_1 ?h5_2 ?h5_3 ?h5_4 ?h5_5 ?_))
          all_goals try (first | rfl | omega | exact M2.new1 _ _ _ | exact M2.one1 _ _ | (unfold maxLen; omega) | (simp; omega))
          intro v2 w2 hown2 hgrow2 _
          have R := M5.growI HO1.out HB1.out hs1 (by exact hown2) hgrow2
          have HO2 : Hid _ := R.1
          have HB2 : Hid _ := R.2
          have hs2 := R.2.size
          clear hown2 hgrow2 R HO1 HB1
          go_wp2_with (at_builtin; refine wpList_append_own _ rfl _ _ 26 rfl w.heap.size 3 i0 (.int .i64 0) 1 8 Try.underlying26 hi hz0 hz1 hz2 rfl (by decide) _ _ _ rfl HO2.out ⟨g, 0, none⟩ 0 0 (M4.iv dk) rfl ?h6_0 ?h6_1 ?h6_2 ?h6_3 ?h6_4 ?h6_5 ?_)
          case h6_0 => have := HLD.out; have := HZZ.out; simp [M4.iv]; exact List.eq_nil_of_length_eq_zero (by omega)
          case h6_1 => exact N2.out _ HB2.out
          case h6_2 => exact EG.iv_one _
          case h6_3 => simp; unfold maxLen; omega
          case h6_4 => simp; omega
          case h6_5 => omega
          intro v3 w3 hown3 hgrow3 _
          have R1 : w3.ownsRow w.heap.size 3 1 v3 (EG.putS os n).length (M4.iv (EG.putS os n)) := by
            rw [HP.out, HPL.out, HZZ.out]
            have h := hown3
            rw [EG.iv_app3] at h
            simpa using h
          have R2 : Below w.heap.size w w3 := HB2.out.grown hgrow3 (by omega) (fun j hj => (World.ownsRow.lt HO2.out j hj).1)
          obtain ⟨a5, c5, rfl, _⟩ := M5.own_view R1
          have HR1 : Hid _ := R1
          clear hown3 hgrow3 R1 HO2 HB2 N2
          go_wp2
          go_ret
          exact ⟨a5, c5, rfl, HR1.out, R2⟩
        · have hkc' : ¬ (k = ca) := by omega
          have HLK1 : Hid ((os.take k).length = k) := by show _ = _; rw [List.length_take]; omega
          have hlk1 : (os.take k).length ≤ 1000 := by rw [HLK1.out]; omega
          have N1 : Hid (∀ j u, (M4.iv (os.take k))[j]? = some u → w.cell? ((⟨g, 0, none⟩ : Addr).add j) = some u) := EG.cells_take HO.out k
          have N2 : Hid (∀ W, Below w.heap.size w W → ∀ j u, (M4.iv (os.drop k))[j]? = some u → W.cell? ((⟨g, k, none⟩ : Addr).add j) = some u) := fun W hW => EG.cells_drop HO.out k hgl hW
          have HLD : Hid ((os.drop k).length = os.length - k) := List.length_drop
          have HPL : Hid _ := EG.put_len os n hk
          generalize os.take k = tk at *
          generalize os.drop k = dk at *
          clear hT hlk HO HS
          go_wp2_with (at_builtin; refine wpList_append_own _ rfl _ _ 26 rfl w.heap.size 3 i0 (.int .i64 0) 1 8 Try.underlying26 hi hz0 hz1 hz2 rfl (by decide) _ _ _ rfl (World.ownsRow_nil _ _ _ _) ⟨g, 0, none⟩ k ca (M4.iv tk) rfl ?h7_0 ?h7_1 ?h7_2 ?h7_3 ?h7_4 ?h7_5 ?_)
          case h7_0 => have := HLK1.out; simp [M4.iv]; omega
          case h7_1 => exact N1.out
          case h7_2 => exact EG.iv_one _
          case h7_3 => unfold maxLen; omega
          case h7_4 => omega
          case h7_5 => omega
          intro v1 w1 hown1 hgrow1 _
          have O1 : w1.ownsRow w.heap.size 3 1 v1 tk.length (M4.iv tk) := by
            rw [HLK1.out, ← Nat.zero_add k]; simpa using hown1
          have B1 : Below w.heap.size w w1 := (Below.refl _ w).grown hgrow1 (Nat.le_refl _) (fun j hj => by cases hj)
          have hs1 := B1.size
          have HO1 : Hid _ := O1
          have HB1 : Hid _ := B1
          clear hown1 hgrow1 O1 B1 N1
          go_wp2_with (at_builtin; go_loud (refine wpList_append_own _ rfl _ _ 26 rfl w.heap.size 3 i0 (.int .i64 0) 1 8 Try.underlying26 hi hz0 hz1 hz2 rfl (by decide) _ _ _ rfl (World.ownsRow.alloc HO1.out _) ⟨w1.heap.size, 0, none⟩ 1 1 [.int .i64 n] rfl rfl ?h8_1 ?h8_2 ?h8_3 ?h8_4 ?h8_5 ?_))
          all_goals try (first | rfl | omega | exact M2.new1 _ _ _ | exact M2.one1 _ _ | (unfold maxLen; omega) | (simp; omega))
          intro v2 w2 hown2 hgrow2 _
          have R := M5.growI HO1.out HB1.out hs1 (by exact hown2) hgrow2
          have HO2 : Hid _ := R.1
          have HB2 : Hid _ := R.2
          have hs2 := R.2.size
          clear hown2 hgrow2 R HO1 HB1
          go_wp2_with (at_builtin; refine wpList_append_own _ rfl _ _ 26 rfl w.heap.size 3 i0 (.int .i64 0) 1 8 Try.underlying26 hi hz0 hz1 hz2 rfl (by decide) _ _ _ rfl HO2.out ⟨g, k, none⟩ (os.length - k) (ca - k) (M4.iv dk) rfl ?h9_0 ?h9_1 ?h9_2 ?h9_3 ?h9_4 ?h9_5 ?_)
          case h9_0 => have := HLD.out; simp [M4.iv]; omega
          case h9_1 => exact N2.out _ HB2.out
          case h9_2 => exact EG.iv_one _
          case h9_3 => simp; unfold maxLen; omega
          case h9_4 => simp; omega
          case h9_5 => omega
          intro v3 w3 hown3 hgrow3 _
          have R1 : w3.ownsRow w.heap.size 3 1 v3 (EG.putS os n).length (M4.iv (EG.putS os n)) := by
            rw [HP.out, HPL.out]
            have h := hown3
            rw [EG.iv_app3] at h
            simpa using h
          have R2 : Below w.heap.size w w3 := HB2.out.grown hgrow3 (by omega) (fun j hj => (World.ownsRow.lt HO2.out j hj).1)
          obtain ⟨a5, c5, rfl, _⟩ := M5.own_view R1
          have HR1 : Hid _ := R1
          clear hown3 hgrow3 R1 HO2 HB2 N2
          go_wp2
          go_ret
          exact ⟨a5, c5, rfl, HR1.out, R2⟩
set_option linter.unusedSimpArgs false in
set_option maxHeartbeats 800000 in
set_option maxRecDepth 100000 in
theorem l7Put_nil (n : Int) (w : World) :
    Calls Try.prog 34 #[.slice none 0 0, .int .i64 n] w fun e w' => ∃ a1 c1, e = .returned (.slice a1 1 c1) ∧ w'.ownsRow w.heap.size 3 1 (.slice a1 1 c1) 1 (M4.iv [n]) ∧ Below w.heap.size w w' := by
  obtain ⟨i0, hi, hz0, hz1, hz2⟩ := info_parts Try.info3
  go_enter Try.func34, Try.ntmps34
  go_wp2
  refine wp_loop_rounds 1 ?_
  rw [rounds_succ]
  go_wp2_with (first
    | (at_builtin; refine wpList_append_own_none rfl _ _ 26 rfl w.heap.size 3 i0 1 Try.underlying26 hi _ _ _ rfl (World.ownsRow_nil _ _ _ _) rfl ?_)
    | (at_builtin; refine wpList_append_own _ rfl _ _ 26 rfl w.heap.size 3 i0 (.int .i64 0) 1 8 Try.underlying26 hi hz0 hz1 hz2 rfl (by decide) _ _ _ rfl (World.ownsRow.alloc (World.ownsRow_nil _ _ _ _) _) ⟨w.heap.size, 0, none⟩ 1 1 [.int .i64 n] rfl rfl ?c1 ?c2 ?c3 ?c4 ?c5 ?_))
  all_goals try (first | rfl | omega | exact M2.new1 _ _ _ | exact M2.one1 _ _ | (unfold maxLen; omega) | (simp; done) | (simp; omega))
  intro v2 w2 hown2 hgrow2 _
  have O2 : w2.ownsRow w.heap.size 3 1 v2 1 (M4.iv [n]) := by simpa [M4.iv] using hown2
  have B2 : Below w.heap.size w w2 := ((Below.refl _ w).alloc (Nat.le_refl _) _).grown hgrow2 (by simp) (fun j hj => by cases hj)
  have HO2 : Hid _ := O2
  clear hown2 hgrow2
  go_wp2_with (at_builtin; refine wpList_append_own_none rfl _ _ 26 rfl w.heap.size 3 i0 1 Try.underlying26 hi _ _ _ rfl O2 rfl ?_)
  obtain ⟨a5, c5, rfl, _⟩ := M5.own_view (zs := [n]) O2
  go_wp2
  go_ret
  exact ⟨a5, c5, rfl, HO2.out, B2⟩
/-- Whatever row the call owns. -/
theorem l7Put_any (base : Nat) (v : Value) (os : List Int) (n : Int) (w : World) (ho : os.length ≤ 1000) (hn : n ∉ os) (hown : w.ownsRow base 3 1 v os.length (M4.iv os)) :
    Calls Try.prog 34 #[v, .int .i64 n] w fun e w' => ∃ a1 c1, e = .returned (.slice a1 (EG.putS os n).length c1) ∧ w'.ownsRow w.heap.size 3 1 (.slice a1 (EG.putS os n).length c1) (EG.putS os n).length (M4.iv (EG.putS os n)) ∧ Below w.heap.size w w' := by
  rcases hown.2 with ⟨rfl, h0⟩ | ⟨g, cap, cur, rfl, hrest⟩
  · obtain rfl : os = [] := List.eq_nil_of_length_eq_zero h0
    exact l7Put_nil n w
  · exact l7Put_some base g cap os n w ho hn ⟨hown.1, .inr ⟨g, cap, cur, rfl, hrest⟩⟩
end Go.Proofs.Ytjplabldiheggaa

/- l7Put of the specification where the number may be there already. -/
namespace Go.Proofs.Ytjplabldiheggaa
open Go.RowKit
namespace GP
theorem has_at {os : List Int} {n : Int} {k : Nat} (hup : os.Pairwise (· < ·)) (hn : n ∈ os) (hT : EG.ltUp os n k) (hlk : ¬ (k < os.length ∧ os.getD k 0 < n)) : k < os.length ∧ os.getD k 0 = n := by
  obtain ⟨j, hj, rfl⟩ := List.mem_iff_getElem.1 hn
  have hkj : k ≤ j := by
    rcases Nat.lt_or_ge j k with h | h
    · have := hT j h; rw [getD_at hj] at this; omega
    · exact h
  have hkl : k < os.length := by omega
  refine ⟨hkl, ?_⟩
  rcases Nat.lt_or_eq_of_le hkj with h | rfl
  · have := List.pairwise_iff_getElem.1 hup k j hkl hj h
    exact absurd ⟨hkl, by rw [getD_at hkl]; exact this⟩ hlk
  · exact getD_at hkl
end GP
set_option linter.unusedSimpArgs false in
set_option maxHeartbeats 1600000 in
set_option maxRecDepth 100000 in
theorem l7Put_has (a : Option Addr) (ca : Nat) (os : List Int) (n : Int) (w : World) (ho : os.length ≤ 1000) (hup : os.Pairwise (· < ·)) (hn : n ∈ os) (hin : M4.IntsAt w a os) :
    Calls Try.prog 34 #[.slice a os.length ca, .int .i64 n] w fun e w' => e = .returned (.slice a os.length ca) ∧ w = w' := by
  have HH : Hid _ := fun (k : Nat) (h : EG.ltUp os n k) (h2 : _) => GP.has_at (k := k) hup hn h h2
  clear hup hn
  go_enter Try.func34, Try.ntmps34
  go_wp2
  go_loopw [5] (fun iv wr => ∃ k : Nat, iv = .int .i64 k ∧ k ≤ os.length ∧ Hid (EG.ltUp os n k) ∧ w = wr) (fun iv _ => (os.length - intOf iv).toNat)
  case atStart => exact ⟨0, rfl, by omega, show Hid _ from fun j hj => by omega, rfl⟩
  case round =>
    obtain ⟨k, rfl, hk, hT, rfl⟩ := hrel
    by_cases hlk : k < os.length ∧ os.getD k 0 < n
    · obtain ⟨hlk, hon⟩ := hlk
      obtain ⟨b1, off1, rfl, hlt1, hc⟩ := hin.at hlk
      have HT : Hid _ := EG.ltUp_succ hT.out hon
      have hq : decide (os.getD k 0 < n) = true := by simp; exact hon
      clear hT hin hon HH
      generalize os.getD k 0 = o at *
      go_wp2
      go_roundw
      case rel => exact ⟨k + 1, by go_num, by omega, HT, trivial⟩
      case measure => simp [intOf]; omega
    · obtain ⟨hkl, hon⟩ := HH.out k hT.out hlk
      obtain ⟨b1, off1, rfl, hlt1, hc⟩ := hin.at hkl
      rw [hon] at hc
      have hq : decide (n < n) = false := by simp
      have hq2 : (n == n) = true := by simp
      clear hT hin hon HH hlk
      go_wp2
      go_ret
      exact ⟨rfl, rfl⟩
/-- Whatever row the call owns, whether the number is there or not. -/
theorem l7Put_up (base : Nat) (v : Value) (os : List Int) (n : Int) (w : World) (ho : os.length ≤ 1000) (hup : os.Pairwise (· < ·)) (hb : base ≤ w.heap.size) (hown : w.ownsRow base 3 1 v os.length (M4.iv os)) :
    Calls Try.prog 34 #[v, .int .i64 n] w fun e w' => ∃ a1 c1, e = .returned (.slice a1 (GP.putT os n).length c1) ∧ w'.ownsRow base 3 1 (.slice a1 (GP.putT os n).length c1) (GP.putT os n).length (M4.iv (GP.putT os n)) ∧ Below w.heap.size w w' := by
  by_cases h : n ∈ os
  · have he : GP.putT os n = os := by unfold GP.putT; rw [if_pos h]
    rw [he]
    obtain ⟨a, cap, rfl, hin⟩ := M5.own_view hown
    exact (l7Put_has a cap os n w ho hup h hin).mono (by rintro e w' ⟨rfl, rfl⟩; exact ⟨a, cap, rfl, hown, Below.refl _ _⟩)
  · have he : GP.putT os n = EG.putS os n := by unfold GP.putT; rw [if_neg h]
    rw [he]
    exact (l7Put_any base v os n w ho h hown).mono (by rintro e w' ⟨a1, c1, rfl, h1, h2⟩; exact ⟨a1, c1, rfl, TR.own_mono h1 hb, h2⟩)
end Go.Proofs.Ytjplabldiheggaa
