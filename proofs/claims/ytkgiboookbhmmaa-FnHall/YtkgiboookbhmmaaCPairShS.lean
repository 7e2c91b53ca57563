import Derived.Test.YtkgiboookbhmmaaMPJ2
import Derived.Test.YtkgiboookbhmmaaMPS
import Derived.Test.YtkgiboookbhmmaaRows
import Derived.Test.YtkgiboookbhmmaaM5
import Derived.Test.YtkgiboookbhmmaaMCur
import Derived.Test.YtkgiboookbhmmaaMInfo
import Derived.Test.YtkgiboookbhmmaaMRetB
import Derived.WalkKit
import Derived.WalkSpells
import Derived.WalkLawsBesides
import Derived.Outline
import Derived.Deep.QuietTactic
import Derived.BigQuiet
import Derived.Laws.AppendOwnNone
import Derived.Test.YtkgiboookbhmmaaCPairRch
import Derived.Test.YtkgiboookbhmmaaCPairAll0
import Derived.Test.YtkgiboookbhmmaaMRP
/- The short ones, put to their places one by one: plain facts. -/
namespace Go.Proofs.Ytkgiboookbhmmaa
open Go.RowKit
namespace PG
/-- The first k put to their places. -/
def pU (l : List Int) (k : Nat) : List Int := (l.take k).foldl EG.putS []
theorem pU_zero (l : List Int) : pU l 0 = [] := by simp [pU]
theorem pU_succ {l : List Int} {k : Nat} (hk : k < l.length) : pU l (k + 1) = EG.putS (pU l k) (l.getD k 0) := by
  unfold pU
  rw [List.take_succ_eq_append_getElem hk, List.foldl_append, List.getD_eq_getElem?_getD, List.getElem?_eq_getElem hk]; rfl
theorem pU_perm {l : List Int} : ∀ {k : Nat}, k ≤ l.length → (pU l k).Perm (l.take k)
  | 0, _ => by simp [pU]
  | k + 1, h => by
    rw [pU_succ (by omega), List.take_succ_eq_append_getElem (by omega)]
    refine (EG.putS_perm _ _).trans ?_
    rw [List.getD_eq_getElem?_getD, List.getElem?_eq_getElem (by omega)]
    exact (pU_perm (by omega)).append_right _
theorem pU_sorted {l : List Int} : ∀ {k : Nat}, k ≤ l.length → (pU l k).Pairwise (· ≤ ·)
  | 0, _ => by simp [pU]
  | k + 1, h => by rw [pU_succ (by omega)]; exact EG.putS_sorted _ _ (pU_sorted (by omega))
theorem pU_len {l : List Int} {k : Nat} (h : k ≤ l.length) : (pU l k).length = k := by
  rw [(pU_perm h).length_eq, List.length_take]; omega
theorem pU_new {l : List Int} {k : Nat} (hn : l.Nodup) (hk : k < l.length) : l.getD k 0 ∉ pU l k := fun hm => by
  have hm := (pU_perm (by omega)).mem_iff.1 hm
  rw [List.getD_eq_getElem?_getD, List.getElem?_eq_getElem hk] at hm
  obtain ⟨i, hi, e⟩ := List.mem_take_iff_getElem.1 hm
  exact List.pairwise_iff_getElem.1 hn i k (by omega) hk (by omega) e
theorem pU_all {l : List Int} {n : Nat} {P : Nat → Bool} (hn : l.Nodup) (hlt : ∀ x ∈ l, 0 ≤ x ∧ x < n) (hP : ∀ i, i < n → (decide ((i : Int) ∈ l)) = P i) : pU l l.length = those n P := by
  have h1 : (pU l l.length).Perm l := by have := pU_perm (l := l) (Nat.le_refl _); rwa [List.take_length] at this
  have nd : (those n P).Nodup := (those_lt n P).imp (fun h => by omega)
  refine List.Perm.eq_of_pairwise (le := fun a b : Int => a ≤ b) (fun a b _ _ h1 h2 => by omega) (pU_sorted (Nat.le_refl _)) ((those_lt n P).imp fun h => by omega) (h1.trans ((List.perm_ext_iff_of_nodup hn nd).2 (fun x => ?_)))
  rw [those_mem]
  constructor
  · intro hx
    have := hlt x hx
    refine ⟨x.toNat, by omega, ?_, by omega⟩
    rw [← hP _ (by omega), toNat_is this.1]
    exact decide_eq_true hx
  · rintro ⟨i, hi, h2, rfl⟩
    rw [← hP i hi] at h2
    exact of_decide_eq_true h2
theorem sh_is {l r : Int} {ws : List (List Int)} (h : good l r ws = true) : pU (reach ws (allL l r ws)).1 (reach ws (allL l r ws)).1.length = shL l r ws := by
  obtain ⟨R, ha, _⟩ := rch_is h
  rw [← shL_yes h]
  have hl := allL_len h
  refine pU_all R.nd (fun x hx => by have := R.lt x hx; omega) (fun i hi => ha i hi)
end PG
end Go.Proofs.Ytkgiboookbhmmaa

/- l7Put of the specification: a number to its place in a rising row. -/
namespace Go.Proofs.Ytkgiboookbhmmaa
open Go.RowKit
namespace EG
def ltUp (os : List Int) (n : Int) (k : Nat) : Prop := ∀ j, j < k → os.getD j 0 < n
theorem ltUp_succ {os : List Int} {n : Int} {k : Nat} (h : ltUp os n k) (h1 : os.getD k 0 < n) : ltUp os n (k + 1) := by
  intro j hj
  by_cases e : j = k
  · subst e; exact h1
  · exact h j (by omega)
theorem iv_one (l : List Int) : ∀ u, u ∈ M4.iv l → u.oneCell' = true := by intro u hu; simp only [M4.iv, List.mem_map] at hu; obtain ⟨z, _, rfl⟩ := hu; rfl
theorem add_is (g k j : Nat) : (⟨g, k, none⟩ : Addr).add j = ⟨g, k + j, none⟩ := by unfold Addr.add; split <;> simp_all
theorem cells_take {w : World} {base g ca : Nat} {os : List Int} (h : w.ownsRow base 3 1 (.slice (some ⟨g, 0, none⟩) os.length ca) os.length (M4.iv os)) (k : Nat) : ∀ j u, (M4.iv (os.take k))[j]? = some u → w.cell? ((⟨g, 0, none⟩ : Addr).add j) = some u := by
  intro j u hj
  have hjl : j < (os.take k).length := by have := (List.getElem?_eq_some_iff.1 hj).1; simpa [M4.iv] using this
  rw [List.length_take] at hjl
  rw [add_is, Nat.zero_add, h.cellAt j (by omega)]
  rw [M4.iv, List.getElem?_map, List.getElem?_take, if_pos (by omega)] at hj
  rw [M4.iv, List.getElem?_map]; exact hj
theorem cells_drop {w W : World} {base g ca : Nat} {os : List Int} (h : w.ownsRow base 3 1 (.slice (some ⟨g, 0, none⟩) os.length ca) os.length (M4.iv os)) (k : Nat) (hg : g < w.heap.size) (hW : Below w.heap.size w W) : ∀ j u, (M4.iv (os.drop k))[j]? = some u → W.cell? ((⟨g, k, none⟩ : Addr).add j) = some u := by
  intro j u hj
  have hjl : j < (os.drop k).length := by have := (List.getElem?_eq_some_iff.1 hj).1; simpa [M4.iv] using this
  rw [List.length_drop] at hjl
  rw [add_is, hW.cell (p := ⟨g, k + j, none⟩) hg, h.cellAt (k + j) (by omega)]
  rw [M4.iv, List.getElem?_map, List.getElem?_drop] at hj
  rw [M4.iv, List.getElem?_map]; exact hj
theorem iv_app3 (l r : List Int) (n : Int) : M4.iv (l ++ [n]) ++ M4.iv r = M4.iv (l ++ n :: r) := by simp [M4.iv]
theorem put_len (os : List Int) (n : Int) {k : Nat} (_hk : k ≤ os.length) : (os.take k ++ n :: os.drop k).length = (os.take k ++ [n]).length + (os.length - k) := by simp; omega
end EG
set_option linter.unusedSimpArgs false in
set_option maxHeartbeats 1600000 in
set_option maxRecDepth 100000 in
theorem l7Put_some (base g ca : Nat) (os : List Int) (n : Int) (w : World) (ho : os.length ≤ 1000) (hn : n ∉ os) (hown : w.ownsRow base 3 1 (.slice (some ⟨g, 0, none⟩) os.length ca) os.length (M4.iv os)) :
    Calls Try.prog 42 #[.slice (some ⟨g, 0, none⟩) os.length ca, .int .i64 n] w fun e w' => ∃ a1 c1, e = .returned (.slice a1 (EG.putS os n).length c1) ∧ w'.ownsRow w.heap.size 3 1 (.slice a1 (EG.putS os n).length c1) (EG.putS os n).length (M4.iv (EG.putS os n)) ∧ Below w.heap.size w w' := by
  obtain ⟨i0, hi, hz0, hz1, hz2⟩ := info_parts Try.info3
  have hcap : os.length ≤ ca ∧ ca ≤ maxLen := by
    rcases hown.2 with ⟨h, _⟩ | ⟨g', c', cur, hv, _, _, h1, h2, _⟩
    · cases h
    · cases hv; exact ⟨h1, h2⟩
  obtain ⟨hc1, hc2⟩ := hcap
  have hc63 : ca ≤ 9223372036854775807 := by unfold maxLen at hc2; omega
  have HS : Hid (M4.IntsAt w (some ⟨g, 0, none⟩) os) := M4.IntsAt.of_own hown
  have hgl := (hown.lt g rfl).2
  have HO : Hid _ := hown
  clear hown hc2
  go_enter Try.func42, Try.ntmps42
  go_wp2
  go_loopw [5] (fun iv wr => ∃ k : Nat, iv = .int .i64 k ∧ k ≤ os.length ∧ Hid (EG.ltUp os n k) ∧ w = wr) (fun iv _ => (os.length - intOf iv).toNat)
  case atStart => exact ⟨0, rfl, by omega, show Hid _ from fun j hj => by omega, rfl⟩
  case round =>
    obtain ⟨k, rfl, hk, hT, rfl⟩ := hrel
    by_cases hlk : k < os.length ∧ os.getD k 0 < n
    · obtain ⟨hlk, hon⟩ := hlk
      obtain ⟨b1, off1, hbb, hlt1, hc⟩ := M4.IntsAt.at HS.out hlk
      cases hbb
      have HT : Hid _ := EG.ltUp_succ hT.out hon
      have hq : decide (os.getD k 0 < n) = true := by simp; exact hon
      rw [Nat.zero_add] at hc
      clear hT HS HO hon
      generalize os.getD k 0 = o at *
      go_wp2
      go_roundw
      case rel => exact ⟨k + 1, by go_num, by omega, HT, trivial⟩
      case measure => simp [intOf]; omega
    · have HP : Hid (EG.putS os n = os.take k ++ n :: os.drop k) := EG.putS_at os n k hk hT.out (fun h => by
        by_cases c : os.getD k 0 < n
        · exact absurd ⟨h, c⟩ hlk
        · omega)
      by_cases hkl : k < os.length
      · obtain ⟨b1, off1, hbb, hlt1, hc⟩ := M4.IntsAt.at HS.out hkl
        cases hbb
        have hne : os.getD k 0 ≠ n := fun e => hn (by rw [← e, List.getD_eq_getElem?_getD, List.getElem?_eq_getElem hkl]; exact List.getElem_mem hkl)
        have hge : ¬ os.getD k 0 < n := fun c => hlk ⟨hkl, c⟩
        have hq : decide (os.getD k 0 < n) = false := decide_eq_false hge
        have hq2 : (os.getD k 0 == n) = false := by rw [beq_eq_false_iff_ne]; exact hne
        rw [Nat.zero_add] at hc
        have HLK1 : Hid ((os.take k).length = k) := by show _ = _; rw [List.length_take]; omega
        have hlk1 : (os.take k).length ≤ 1000 := by rw [HLK1.out]; omega
        have N1 : Hid (∀ j u, (M4.iv (os.take k))[j]? = some u → w.cell? ((⟨g, 0, none⟩ : Addr).add j) = some u) := EG.cells_take HO.out k
        have N2 : Hid (∀ W, Below w.heap.size w W → ∀ j u, (M4.iv (os.drop k))[j]? = some u → W.cell? ((⟨g, k, none⟩ : Addr).add j) = some u) := fun W hW => EG.cells_drop HO.out k hgl hW
        have hkc : ¬ (ca = k) := by omega
        have hkc' : ¬ (k = ca) := by omega
        have HLD : Hid ((os.drop k).length = os.length - k) := List.length_drop
        have HPL : Hid _ := EG.put_len os n hk
        generalize os.take k = tk at *
        generalize os.drop k = dk at *
        clear hT hlk hne hge HO HS
        generalize os.getD k 0 = o at *
        go_wp2_with (at_builtin; refine wpList_append_own _ rfl _ _ 27 rfl w.heap.size 3 i0 (.int .i64 0) 1 8 Try.underlying27 hi hz0 hz1 hz2 rfl (by decide) _ _ _ rfl (World.ownsRow_nil _ _ _ _) ⟨g, 0, none⟩ k ca (M4.iv tk) rfl ?h1_0 ?h1_1 ?h1_2 ?h1_3 ?h1_4 ?h1_5 ?_)
        case h1_0 => have := HLK1.out; simp [M4.iv]; omega
        case h1_1 => exact N1.out
        case h1_2 => exact EG.iv_one _
        case h1_3 => unfold maxLen; omega
        case h1_4 => omega
        case h1_5 => omega
        intro v1 w1 hown1 hgrow1 _
        have O1 : w1.ownsRow w.heap.size 3 1 v1 tk.length (M4.iv tk) := by
          rw [HLK1.out, ← Nat.zero_add k]; simpa using hown1
        have B1 : Below w.heap.size w w1 := (Below.refl _ w).grown hgrow1 (Nat.le_refl _) (fun j hj => by cases hj)
        have hs1 := B1.size
        have HO1 : Hid _ := O1
        have HB1 : Hid _ := B1
        clear hown1 hgrow1 O1 B1 N1
        go_wp2_with (at_builtin; go_loud (refine wpList_append_own _ rfl _ _ 27 rfl w.heap.size 3 i0 (.int .i64 0) 1 8 Try.underlying27 hi hz0 hz1 hz2 rfl (by decide) _ _ _ rfl (World.ownsRow.alloc HO1.out _) ⟨w1.heap.size, 0, none⟩ 1 1 [.int .i64 n] rfl rfl ?h2_1 ?h2_2 ?h2_3 ?h2_4 ?h2_5 ?_))
        all_goals try (first | rfl | omega | exact M2.new1 _ _ _ | exact M2.one1 _ _ | (unfold maxLen; omega) | (simp; omega))
        intro v2 w2 hown2 hgrow2 _
        have R := M5.growI HO1.out HB1.out hs1 (by exact hown2) hgrow2
        have HO2 : Hid _ := R.1
        have HB2 : Hid _ := R.2
        have hs2 := R.2.size
        clear hown2 hgrow2 R HO1 HB1
        go_wp2_with (at_builtin; refine wpList_append_own _ rfl _ _ 27 rfl w.heap.size 3 i0 (.int .i64 0) 1 8 Try.underlying27 hi hz0 hz1 hz2 rfl (by decide) _ _ _ rfl HO2.out ⟨g, k, none⟩ (os.length - k) (ca - k) (M4.iv dk) rfl ?h3_0 ?h3_1 ?h3_2 ?h3_3 ?h3_4 ?h3_5 ?_)
        case h3_0 => have := HLD.out; simp [M4.iv]; omega
        case h3_1 => exact N2.out _ HB2.out
        case h3_2 => exact EG.iv_one _
        case h3_3 => simp; unfold maxLen; omega
        case h3_4 => simp; omega
        case h3_5 => omega
        intro v3 w3 hown3 hgrow3 _
        have R1 : w3.ownsRow w.heap.size 3 1 v3 (EG.putS os n).length (M4.iv (EG.putS os n)) := by
          rw [HP.out, HPL.out]
          have h := hown3
          rw [EG.iv_app3] at h
          simpa using h
        have R2 : Below w.heap.size w w3 := HB2.out.grown hgrow3 (by omega) (fun j hj => (World.ownsRow.lt HO2.out j hj).1)
        obtain ⟨a5, c5, rfl, _⟩ := M5.own_view R1
        have HR1 : Hid _ := R1
        clear hown3 hgrow3 R1 HO2 HB2 N2
        go_wp2
        go_ret
        exact ⟨a5, c5, rfl, HR1.out, R2⟩
      · have hkb : decide (k < os.length) = false := by simp; omega
        by_cases hkc : ca = k
        · have hkc' : k = ca := hkc.symm
          clear hkc
          subst hkc'
          have HZZ : Hid (os.length - k = 0) := by show _ = _; omega
          have HLK1 : Hid ((os.take k).length = k) := by show _ = _; rw [List.length_take]; omega
          have hlk1 : (os.take k).length ≤ 1000 := by rw [HLK1.out]; omega
          have N1 : Hid (∀ j u, (M4.iv (os.take k))[j]? = some u → w.cell? ((⟨g, 0, none⟩ : Addr).add j) = some u) := EG.cells_take HO.out k
          have N2 : Hid (∀ W, Below w.heap.size w W → ∀ j u, (M4.iv (os.drop k))[j]? = some u → W.cell? ((⟨g, 0, none⟩ : Addr).add j) = some u) := fun W hW j u hj => by rw [List.drop_of_length_le (by omega)] at hj; simp [M4.iv] at hj
          have HLD : Hid ((os.drop k).length = os.length - k) := List.length_drop
          have HPL : Hid _ := EG.put_len os n hk
          generalize os.take k = tk at *
          generalize os.drop k = dk at *
          clear hT hlk HO HS
          go_wp2_with (at_builtin; refine wpList_append_own _ rfl _ _ 27 rfl w.heap.size 3 i0 (.int .i64 0) 1 8 Try.underlying27 hi hz0 hz1 hz2 rfl (by decide) _ _ _ rfl (World.ownsRow_nil _ _ _ _) ⟨g, 0, none⟩ k k (M4.iv tk) rfl ?h4_0 ?h4_1 ?h4_2 ?h4_3 ?h4_4 ?h4_5 ?_)
          case h4_0 => have := HLK1.out; simp [M4.iv]; omega
          case h4_1 => exact N1.out
          case h4_2 => exact EG.iv_one _
          case h4_3 => unfold maxLen; omega
          case h4_4 => omega
          case h4_5 => omega
          intro v1 w1 hown1 hgrow1 _
          have O1 : w1.ownsRow w.heap.size 3 1 v1 tk.length (M4.iv tk) := by
            rw [HLK1.out, ← Nat.zero_add k]; simpa using hown1
          have B1 : Below w.heap.size w w1 := (Below.refl _ w).grown hgrow1 (Nat.le_refl _) (fun j hj => by cases hj)
          have hs1 := B1.size
          have HO1 : Hid _ := O1
          have HB1 : Hid _ := B1
          clear hown1 hgrow1 O1 B1 N1
          go_wp2_with (at_builtin; go_loud (refine wpList_append_own _ rfl _ _ 27 rfl w.heap.size 3 i0 (.int .i64 0) 1 8 Try.underlying27 hi hz0 hz1 hz2 rfl (by decide) _ _ _ rfl (World.ownsRow.alloc HO1.out _) ⟨w1.heap.size, 0, none⟩ 1 1 [.int .i64 n] rfl rfl ?h5_1 ?h5_2 ?h5_3 ?h5_4 ?h5_5 ?_))
          all_goals try (first | rfl | omega | exact M2.new1 _ _ _ | exact M2.one1 _ _ | (unfold maxLen; omega) | (simp; omega))
          intro v2 w2 hown2 hgrow2 _
          have R := M5.growI HO1.out HB1.out hs1 (by exact hown2) hgrow2
          have HO2 : Hid _ := R.1
          have HB2 : Hid _ := R.2
          have hs2 := R.2.size
          clear hown2 hgrow2 R HO1 HB1
          go_wp2_with (at_builtin; refine wpList_append_own _ rfl _ _ 27 rfl w.heap.size 3 i0 (.int .i64 0) 1 8 Try.underlying27 hi hz0 hz1 hz2 rfl (by decide) _ _ _ rfl HO2.out ⟨g, 0, none⟩ 0 0 (M4.iv dk) rfl ?h6_0 ?h6_1 ?h6_2 ?h6_3 ?h6_4 ?h6_5 ?_)
          case h6_0 => have := HLD.out; have := HZZ.out; simp [M4.iv]; exact List.eq_nil_of_length_eq_zero (by omega)
          case h6_1 => exact N2.out _ HB2.out
          case h6_2 => exact EG.iv_one _
          case h6_3 => simp; unfold maxLen; omega
          case h6_4 => simp; omega
          case h6_5 => omega
          intro v3 w3 hown3 hgrow3 _
          have R1 : w3.ownsRow w.heap.size 3 1 v3 (EG.putS os n).length (M4.iv (EG.putS os n)) := by
            rw [HP.out, HPL.out, HZZ.out]
            have h := hown3
            rw [EG.iv_app3] at h
            simpa using h
          have R2 : Below w.heap.size w w3 := HB2.out.grown hgrow3 (by omega) (fun j hj => (World.ownsRow.lt HO2.out j hj).1)
          obtain ⟨a5, c5, rfl, _⟩ := M5.own_view R1
          have HR1 : Hid _ := R1
          clear hown3 hgrow3 R1 HO2 HB2 N2
          go_wp2
          go_ret
          exact ⟨a5, c5, rfl, HR1.out, R2⟩
        · have hkc' : ¬ (k = ca) := by omega
          have HLK1 : Hid ((os.take k).length = k) := by show _ = _; rw [List.length_take]; omega
          have hlk1 : (os.take k).length ≤ 1000 := by rw [HLK1.out]; omega
          have N1 : Hid (∀ j u, (M4.iv (os.take k))[j]? = some u → w.cell? ((⟨g, 0, none⟩ : Addr).add j) = some u) := EG.cells_take HO.out k
          have N2 : Hid (∀ W, Below w.heap.size w W → ∀ j u, (M4.iv (os.drop k))[j]? = some u → W.cell? ((⟨g, k, none⟩ : Addr).add j) = some u) := fun W hW => EG.cells_drop HO.out k hgl hW
          have HLD : Hid ((os.drop k).length = os.length - k) := List.length_drop
          have HPL : Hid _ := EG.put_len os n hk
          generalize os.take k = tk at *
          generalize os.drop k = dk at *
          clear hT hlk HO HS
          go_wp2_with (at_builtin; refine wpList_append_own _ rfl _ _ 27 rfl w.heap.size 3 i0 (.int .i64 0) 1 8 Try.underlying27 hi hz0 hz1 hz2 rfl (by decide) _ _ _ rfl (World.ownsRow_nil _ _ _ _) ⟨g, 0, none⟩ k ca (M4.iv tk) rfl ?h7_0 ?h7_1 ?h7_2 ?h7_3 ?h7_4 ?h7_5 ?_)
          case h7_0 => have := HLK1.out; simp [M4.iv]; omega
          case h7_1 => exact N1.out
          case h7_2 => exact EG.iv_one _
          case h7_3 => unfold maxLen; omega
          case h7_4 => omega
          case h7_5 => omega
          intro v1 w1 hown1 hgrow1 _
          have O1 : w1.ownsRow w.heap.size 3 1 v1 tk.length (M4.iv tk) := by
            rw [HLK1.out, ← Nat.zero_add k]; simpa using hown1
          have B1 : Below w.heap.size w w1 := (Below.refl _ w).grown hgrow1 (Nat.le_refl _) (fun j hj => by cases hj)
          have hs1 := B1.size
          have HO1 : Hid _ := O1
          have HB1 : Hid _ := B1
          clear hown1 hgrow1 O1 B1 N1
          go_wp2_with (at_builtin; go_loud (refine wpList_append_own _ rfl _ _ 27 rfl w.heap.size 3 i0 (.int .i64 0) 1 8 Try.underlying27 hi hz0 hz1 hz2 rfl (by decide) _ _ _ rfl (World.ownsRow.alloc HO1.out _) ⟨w1.heap.size, 0, none⟩ 1 1 [.int .i64 n] rfl rfl ?h8_1 ?h8_2 ?h8_3 ?h8_4 ?h8_5 ?_))
          all_goals try (first | rfl | omega | exact M2.new1 _ _ _ | exact M2.one1 _ _ | (unfold maxLen; omega) | (simp; omega))
          intro v2 w2 hown2 hgrow2 _
          have R := M5.growI HO1.out HB1.out hs1 (by exact hown2) hgrow2
          have HO2 : Hid _ := R.1
          have HB2 : Hid _ := R.2
          have hs2 := R.2.size
          clear hown2 hgrow2 R HO1 HB1
          go_wp2_with (at_builtin; refine wpList_append_own _ rfl _ _ 27 rfl w.heap.size 3 i0 (.int .i64 0) 1 8 Try.underlying27 hi hz0 hz1 hz2 rfl (by decide) _ _ _ rfl HO2.out ⟨g, k, none⟩ (os.length - k) (ca - k) (M4.iv dk) rfl ?h9_0 ?h9_1 ?h9_2 ?h9_3 ?h9_4 ?h9_5 ?_)
          case h9_0 => have := HLD.out; simp [M4.iv]; omega
          case h9_1 => exact N2.out _ HB2.out
          case h9_2 => exact EG.iv_one _
          case h9_3 => simp; unfold maxLen; omega
          case h9_4 => simp; omega
          case h9_5 => omega
          intro v3 w3 hown3 hgrow3 _
          have R1 : w3.ownsRow w.heap.size 3 1 v3 (EG.putS os n).length (M4.iv (EG.putS os n)) := by
            rw [HP.out, HPL.out]
            have h := hown3
            rw [EG.iv_app3] at h
            simpa using h
          have R2 : Below w.heap.size w w3 := HB2.out.grown hgrow3 (by omega) (fun j hj => (World.ownsRow.lt HO2.out j hj).1)
          obtain ⟨a5, c5, rfl, _⟩ := M5.own_view R1
          have HR1 : Hid _ := R1
          clear hown3 hgrow3 R1 HO2 HB2 N2
          go_wp2
          go_ret
          exact ⟨a5, c5, rfl, HR1.out, R2⟩
set_option linter.unusedSimpArgs false in
set_option maxHeartbeats 800000 in
set_option maxRecDepth 100000 in
theorem l7Put_nil (n : Int) (w : World) :
    Calls Try.prog 42 #[.slice none 0 0, .int .i64 n] w fun e w' => ∃ a1 c1, e = .returned (.slice a1 1 c1) ∧ w'.ownsRow w.heap.size 3 1 (.slice a1 1 c1) 1 (M4.iv [n]) ∧ Below w.heap.size w w' := by
  obtain ⟨i0, hi, hz0, hz1, hz2⟩ := info_parts Try.info3
  go_enter Try.func42, Try.ntmps42
  go_wp2
  refine wp_loop_rounds 1 ?_
  rw [rounds_succ]
  go_wp2_with (first
    | (at_builtin; refine wpList_append_own_none rfl _ _ 27 rfl w.heap.size 3 i0 1 Try.underlying27 hi _ _ _ rfl (World.ownsRow_nil _ _ _ _) rfl ?_)
    | (at_builtin; refine wpList_append_own _ rfl _ _ 27 rfl w.heap.size 3 i0 (.int .i64 0) 1 8 Try.underlying27 hi hz0 hz1 hz2 rfl (by decide) _ _ _ rfl (World.ownsRow.alloc (World.ownsRow_nil _ _ _ _) _) ⟨w.heap.size, 0, none⟩ 1 1 [.int .i64 n] rfl rfl ?c1 ?c2 ?c3 ?c4 ?c5 ?_))
  all_goals try (first | rfl | omega | exact M2.new1 _ _ _ | exact M2.one1 _ _ | (unfold maxLen; omega) | (simp; done) | (simp; omega))
  intro v2 w2 hown2 hgrow2 _
  have O2 : w2.ownsRow w.heap.size 3 1 v2 1 (M4.iv [n]) := by simpa [M4.iv] using hown2
  have B2 : Below w.heap.size w w2 := ((Below.refl _ w).alloc (Nat.le_refl _) _).grown hgrow2 (by simp) (fun j hj => by cases hj)
  have HO2 : Hid _ := O2
  clear hown2 hgrow2
  go_wp2_with (at_builtin; refine wpList_append_own_none rfl _ _ 27 rfl w.heap.size 3 i0 1 Try.underlying27 hi _ _ _ rfl O2 rfl ?_)
  obtain ⟨a5, c5, rfl, _⟩ := M5.own_view (zs := [n]) O2
  go_wp2
  go_ret
  exact ⟨a5, c5, rfl, HO2.out, B2⟩
/-- Whatever row the call owns. -/
theorem l7Put_any (base : Nat) (v : Value) (os : List Int) (n : Int) (w : World) (ho : os.length ≤ 1000) (hn : n ∉ os) (hown : w.ownsRow base 3 1 v os.length (M4.iv os)) :
    Calls Try.prog 42 #[v, .int .i64 n] w fun e w' => ∃ a1 c1, e = .returned (.slice a1 (EG.putS os n).length c1) ∧ w'.ownsRow w.heap.size 3 1 (.slice a1 (EG.putS os n).length c1) (EG.putS os n).length (M4.iv (EG.putS os n)) ∧ Below w.heap.size w w' := by
  rcases hown.2 with ⟨rfl, h0⟩ | ⟨g, cap, cur, rfl, hrest⟩
  · obtain rfl : os = [] := List.eq_nil_of_length_eq_zero h0
    exact l7Put_nil n w
  · exact l7Put_some base g cap os n w ho hn ⟨hown.1, .inr ⟨g, cap, cur, rfl, hrest⟩⟩
end Go.Proofs.Ytkgiboookbhmmaa

/- ShortOf of the specification. -/
namespace Go.Proofs.Ytkgiboookbhmmaa
open Go.RowKit
set_option linter.unusedSimpArgs false in
set_option maxHeartbeats 3200000 in
set_option maxRecDepth 100000 in
theorem specSh_any (l r : Int) (a : Option Addr) (cap : Nat) (ws : List (List Int)) (w : World) (hz : ws.length ≤ 1048576) (ht : NR.tot ws ≤ 1048576) (hin : NR.RowsAt w a ws) (L : List Int) (hL : Hid (PG.shL l r ws = L)) :
    Calls Try.prog 19 #[PG.pv l r (.slice a ws.length cap)] w fun e w' => ∃ a1 c1, e = .returned (.tuple #[.slice a1 L.length c1, .bool (decide (0 < L.length))]) ∧ w'.ownsRow w.heap.size 3 1 (.slice a1 L.length c1) L.length (M4.iv L) ∧ Below w.heap.size w w' := by
  obtain ⟨g, hg'⟩ : ∃ g, PG.good l r ws = g := ⟨_, rfl⟩
  have hg : Hid (PG.good l r ws = g) := hg'
  clear hg'
  have hB : Below w.heap.size w (w.alloc (Obj.cells #[.int .i64 l, .int .i64 r, .slice a ws.length cap] 25)) := (Below.refl _ _).alloc (Nat.le_refl _) _
  have hC : (w.alloc (Obj.cells #[.int .i64 l, .int .i64 r, .slice a ws.length cap] 25)).cell? ⟨w.heap.size, 0, none⟩ = some (.int .i64 l) ∧ (w.alloc (Obj.cells #[.int .i64 l, .int .i64 r, .slice a ws.length cap] 25)).cell? ⟨w.heap.size, 1, none⟩ = some (.int .i64 r) ∧ (w.alloc (Obj.cells #[.int .i64 l, .int .i64 r, .slice a ws.length cap] 25)).cell? ⟨w.heap.size, 2, none⟩ = some (.slice a ws.length cap) := by simp
  have hS : w.heap.size < (w.alloc (Obj.cells #[.int .i64 l, .int .i64 r, .slice a ws.length cap] 25)).heap.size := by simp
  have GD : Hid _ := specGoodP_any l r a cap ws _ hz ht (hin.below hB) g hg
  have LA0 : Hid (g = true → ∀ W : World, Below w.heap.size w W → Calls Try.prog 26 #[PG.pv l r (.slice a ws.length cap)] W fun e w' => ∃ a1 c1, e = .returned (.slice a1 l.toNat c1) ∧ w'.ownsRow W.heap.size 3 1 (.slice a1 l.toNat c1) l.toNat (M4.iv (PG.allL l r ws)) ∧ Below W.heap.size W w') := fun h W hb => by
    have h1 := hg.out.trans h
    have hd := (PG.good_is h1).1
    have := l10All_any l.toNat r.toNat a cap ws W (by omega) (by omega) (by omega) (by omega) ht (fun j x hx => by have := PG.good_want h1 j x hx; omega) (hin.below hb) (PG.allL l r ws) (by rw [PG.allL_yes h1]; exact rfl)
    rw [show ((r.toNat : Nat) : Int) = r from by omega, show ((l.toNat : Nat) : Int) = l from by omega] at this
    exact this
  obtain ⟨Z, hZ'⟩ : ∃ Z, PG.reach ws (PG.allL l r ws) = Z := ⟨_, rfl⟩
  have RE0 : Hid (g = true → ∀ (b : Option Addr) (cb : Nat) (W : World), Below w.heap.size w W → M4.IntsAt W b (PG.allL l r ws) → Calls Try.prog 30 #[PG.pv l r (.slice a ws.length cap), .slice b l.toNat cb] W fun e w' => ∃ a1 c1 a2 c2, e = .returned (.tuple #[.slice a1 Z.1.length c1, .slice a2 Z.2.length c2]) ∧ M4.IntsAt w' a1 Z.1 ∧ M4.IntsAt w' a2 Z.2 ∧ Below W.heap.size W w') := fun h b cb W hb hi => by
    have h1 := hg.out.trans h
    have hd := (PG.good_is h1).1
    exact reach_any l r l.toNat a b cap cb ws (PG.allL l r ws) W (by omega) (PG.allL_len h1) (show ws.length = l.toNat by omega) ht (PG.good_Gd h1) (hin.below hb) hi Z hZ'
  have HY : Hid (g = true → Z.1.length ≤ 8 ∧ Z.2.length ≤ 8 ∧ Z.1.Nodup ∧ PG.pU Z.1 Z.1.length = L) := fun h => by
    have h1 := hg.out.trans h
    have hd := (PG.good_is h1).1
    obtain ⟨R, ha, hb⟩ := PG.rch_is h1
    have hs := PG.sh_is h1
    rw [hZ'] at R hs
    have k1 := R.len1
    have k2 := R.len2
    have k3 := PG.allL_len h1
    exact ⟨by omega, k2, R.nd, by rw [hs]; exact hL.out⟩
  have HNO : Hid (g = false → L = []) := fun h => by rw [← hL.out]; exact PG.shL_no (hg.out.trans h)
  clear hin hL hg hZ'
  go_enter Try.func19, Try.ntmps19
  go_wp2_with fail
  generalize w.alloc (Obj.cells #[.int .i64 l, .int .i64 r, .slice a ws.length cap] 25) = W at *
  refine Calls.mono GD.out ?_
  rintro e w2 ⟨rfl, hb2⟩
  have c0 := (hb2.cell (p := ⟨w.heap.size, 0, none⟩) hS).trans hC.1
  have c1 := (hb2.cell (p := ⟨w.heap.size, 1, none⟩) hS).trans hC.2.1
  have c2 := (hb2.cell (p := ⟨w.heap.size, 2, none⟩) hS).trans hC.2.2
  have hB2 := hB.trans (hb2.mono hB.size)
  have hS2 := Nat.lt_of_lt_of_le hS hb2.size
  clear GD hb2 hC hS hB
  cases g
  · obtain rfl := HNO.out rfl
    clear LA0 RE0 HNO HY
    go_wp2
    go_ret2
    exact ⟨none, 0, rfl, World.ownsRow_nil _ _ _ _, hB2⟩
  · have LA : Hid _ := LA0.out rfl
    have RE : Hid _ := RE0.out rfl
    obtain ⟨z1, z2, hnd, hLL⟩ := HY.out rfl
    have HND : Hid _ := hnd
    have HL : Hid _ := hLL
    clear LA0 RE0 HNO HY hnd hLL
    go_wp2
    refine MR.frame fun A hA => ?_
    have hsz : A.tmps.size = 33 := by rw [hA]; rfl
    have e1 : A.eval (.tmp 1) = .pointer (some ⟨w.heap.size, 0, none⟩) := by rw [hA]; rfl
    have f1 := MR.read (t := 1) (by rw [hsz]; decide) e1
    have HA : Hid (A = _) := hA
    clear hA
    have hS : (fun wq : World => wq.cell? ⟨w.heap.size, 0, none⟩ = some (.int .i64 l) ∧ wq.cell? ⟨w.heap.size, 1, none⟩ = some (.int .i64 r) ∧ wq.cell? ⟨w.heap.size, 2, none⟩ = some (.slice a ws.length cap)) (World.drew _) := ⟨c0, c1, c2⟩
    refine wp_region_held (S := fun wq : World => wq.cell? ⟨w.heap.size, 0, none⟩ = some (.int .i64 l) ∧ wq.cell? ⟨w.heap.size, 1, none⟩ = some (.int .i64 r) ∧ wq.cell? ⟨w.heap.size, 2, none⟩ = some (.slice a ws.length cap)) (by kernel_rfl) ?_
    change wpAnyH _ _ _ _ _ _ _ _ (World.drew _)
    refine MR.takeH (i := 0) (some 13) (.agg #[.int .i64 l, .int .i64 r, .slice a ws.length cap]) rfl rfl (by kernel_rfl) (by kernel_rfl) (by kernel_rfl) (fun _ _ _ h => h) hS (MR.free rfl) (fun wq hw => by simp [execOp, MR.ev, MR.size, hsz, e1, f1, hw.1, hw.2.1, hw.2.2, go_sem]) ?_
    refine MR.takeH (i := 1) (some 14) (.agg #[.int .i64 l, .int .i64 r, .slice a ws.length cap]) rfl rfl (by kernel_rfl) (by kernel_rfl) (by kernel_rfl) (fun _ _ _ h => h) hS (MR.free rfl) (fun wq hw => by simp [execOp, MR.ev, MR.size, hsz, e1, f1, hw.1, hw.2.1, hw.2.2, go_sem]) ?_
    refine MR.callH (i := 2) (some 15) (26) (#[PG.pv l r (.slice a ws.length cap)]) (by kernel_rfl) rfl rfl (MR.free rfl) (by simp [execOp, MR.ev, MR.size, hsz, e1, f1, go_sem]) ?_
    refine (LA.out _ (hB2.drew)).mono ?_
    rintro e w4 ⟨a4, c4, rfl, ho4', hb4'⟩
    have hb4 : Below w2.heap.size w2 w4 := (Below.refl _ w2).drew.trans hb4'
    have i4 : M4.IntsAt w4 a4 (PG.allL l r ws) := M5.own_ints ho4'
    clear ho4' hb4'
    have hB4 := hB2.trans (hb4.mono hB2.size)
    have hS4 : (fun wq : World => wq.cell? ⟨w.heap.size, 0, none⟩ = some (.int .i64 l) ∧ wq.cell? ⟨w.heap.size, 1, none⟩ = some (.int .i64 r) ∧ wq.cell? ⟨w.heap.size, 2, none⟩ = some (.slice a ws.length cap)) w4 := ⟨(hb4.cell (p := ⟨w.heap.size, 0, none⟩) hS2).trans c0, (hb4.cell (p := ⟨w.heap.size, 1, none⟩) hS2).trans c1, (hb4.cell (p := ⟨w.heap.size, 2, none⟩) hS2).trans c2⟩
    refine ⟨_, rfl, hS4, ?_⟩
    refine MR.callH (i := 3) (some 16) (30) (#[PG.pv l r (.slice a ws.length cap), .slice a4 l.toNat c4]) (by kernel_rfl) rfl rfl (MR.free rfl) (by simp [execOp, MR.ev, MR.size, hsz, e1, f1, go_sem]) ?_
    refine (RE.out a4 c4 w4 hB4 i4).mono ?_
    rintro e w5 ⟨aL, cL, aR, cR, rfl, iL, iR, hb5⟩
    have hs4 := Nat.lt_of_lt_of_le hS2 hb4.size
    have hS5 : (fun wq : World => wq.cell? ⟨w.heap.size, 0, none⟩ = some (.int .i64 l) ∧ wq.cell? ⟨w.heap.size, 1, none⟩ = some (.int .i64 r) ∧ wq.cell? ⟨w.heap.size, 2, none⟩ = some (.slice a ws.length cap)) w5 := ⟨(hb5.cell (p := ⟨w.heap.size, 0, none⟩) hs4).trans hS4.1, (hb5.cell (p := ⟨w.heap.size, 1, none⟩) hs4).trans hS4.2.1, (hb5.cell (p := ⟨w.heap.size, 2, none⟩) hs4).trans hS4.2.2⟩
    have IL : Hid (M4.IntsAt w5 aL Z.1) := iL
    have IR : Hid (M4.IntsAt w5 aR Z.2) := iR
    clear iL iR
    refine ⟨_, rfl, hS5, ?_⟩
    refine MR.takeH (i := 4) (some 12) (.tuple #[.slice aL Z.1.length cL, .slice aR Z.2.length cR]) rfl rfl (by kernel_rfl) (by kernel_rfl) (by kernel_rfl) (fun _ _ _ h => h) hS5 (MR.free rfl) (fun wq hw => by simp [execOp, MR.ev, MR.size, hsz, e1, f1, go_sem]) ?_
    refine MR.takeH (i := 5) (some 17) (.slice aL Z.1.length cL) rfl rfl (by kernel_rfl) (by kernel_rfl) (by kernel_rfl) (fun _ _ _ h => h) hS5 (MR.free rfl) (fun wq hw => by simp [execOp, MR.ev, MR.size, hsz, e1, f1, go_sem]) ?_
    refine MR.takeH (i := 6) (some 18) (.slice aR Z.2.length cR) rfl rfl (by kernel_rfl) (by kernel_rfl) (by kernel_rfl) (fun _ _ _ h => h) hS5 (MR.free rfl) (fun wq hw => by simp [execOp, MR.ev, MR.size, hsz, e1, f1, go_sem]) ?_
    refine MR.takeH (i := 7) (some 4) (.slice aL Z.1.length cL) rfl rfl (by kernel_rfl) (by kernel_rfl) (by kernel_rfl) (fun _ _ _ h => h) hS5 (MR.free rfl) (fun wq hw => by simp [execOp, MR.ev, MR.size, hsz, e1, f1, go_sem]) ?_
    refine MR.takeH (i := 8) (some 5) (.slice aR Z.2.length cR) rfl rfl (by kernel_rfl) (by kernel_rfl) (by kernel_rfl) (fun _ _ _ h => h) hS5 (MR.free rfl) (fun wq hw => by simp [execOp, MR.ev, MR.size, hsz, e1, f1, go_sem]) ?_
    refine wpAnyH_done (by kernel_rfl) ?_ _
    rw [HA.out]
    obtain ⟨d0, d1, d2⟩ := hS5
    have hB5 := hB4.trans (hb5.mono hB4.size)
    have hS5' := Nat.lt_of_lt_of_le hs4 hb5.size
    clear HA e1 f1 hsz hS hS4 LA RE c0 c1 c2 hb4 hb5 hB4 hs4 i4 hB2 hS2
    simp only [Act.put, List.setIfInBounds_toArray, List.set_cons_succ, List.set_cons_zero]
    clear IR d0 d1 d2
    generalize hzn : Z.1 = zl at *
    have HZN : Hid _ := hzn
    clear hzn
    have hLl : L.length = zl.length := by rw [← HL.out, PG.pU_len (Nat.le_refl _)]
    by_cases hz0 : zl.length = 0
    · obtain rfl : zl = [] := List.eq_nil_of_length_eq_zero hz0
      obtain rfl : L = [] := List.eq_nil_of_length_eq_zero hLl
      clear HND HL IL hz0 hLl
      go_wp2
      go_ret2
      exact ⟨none, 0, rfl, World.ownsRow_nil _ _ _ _, hB5⟩
    · have HLl : Hid _ := hLl
      have hzp : ((zl.length : Int) == 0) = false := by simp; exact fun e => hz0 (by rw [e]; rfl)
      have HZ0 : Hid _ := hz0
      clear hLl hz0
      go_wp2
      go_loopw [6, 24] (fun u iv wr => ∃ k : Nat, iv = .int .i64 k ∧ k ≤ zl.length ∧ Hid (wr.ownsRow w5.heap.size 3 1 u (PG.pU zl k).length (M4.iv (PG.pU zl k))) ∧ Below w5.heap.size w5 wr) (fun _ iv _ => (zl.length - intOf iv).toNat)
      case atStart => exact ⟨0, rfl, by omega, World.ownsRow_nil _ _ _ _, Below.refl _ _⟩
      case round =>
        obtain ⟨k, rfl, hk, hT, hb⟩ := hrel
        by_cases hl : k < zl.length
        · obtain ⟨b7, off7, rfl, hlt7, hc7⟩ := M4.IntsAt.at (M4.IntsAt.below IL.out hb) hl
          have PT := l7Put_any w5.heap.size u6 (PG.pU zl k) (zl.getD k 0) wr (by rw [PG.pU_len (by omega)]; omega) (PG.pU_new HND.out hl) hT.out
          rw [← PG.pU_succ hl] at PT
          have HPT : Hid _ := PT
          clear PT hT
          generalize zl.getD k 0 = x at *
          generalize hpl : (PG.pU zl (k + 1)).length = pl at *
          have HPL : Hid _ := hpl
          clear hpl
          go_wp2_with fail
          refine Calls.mono HPT.out ?_
          rintro e w7 ⟨a7, c7, rfl, ho7, hb7⟩
          have HT7 : Hid (w7.ownsRow w5.heap.size 3 1 (.slice a7 pl c7) (PG.pU zl (k + 1)).length (M4.iv (PG.pU zl (k + 1)))) := by rw [HPL.out]; exact PG.own_mono ho7 hb.size
          have hb8 := hb.trans (hb7.mono hb.size)
          clear HPT ho7 hb7 hb HPL
          go_wp2
          go_roundw
          case rel => exact ⟨k + 1, by go_num, by omega, HT7, hb8⟩
          case measure => simp [intOf]; omega
        · obtain rfl : k = zl.length := by omega
          have HT6 : Hid (wr.ownsRow w5.heap.size 3 1 u6 L.length (M4.iv L)) := by rw [← HL.out]; exact hT.out
          obtain ⟨aa1, cc1, rfl, -⟩ := M5.own_view HT6.out
          have hB7 := hB5.trans (hb.mono hB5.size)
          have hpos : decide (0 < L.length) = true := by rw [HLl.out]; simp; exact Nat.pos_of_ne_zero HZ0.out
          have HPS : Hid _ := hpos
          clear hT HL IL HND hpos
          go_wp2
          go_ret2
          exact ⟨aa1, cc1, by rw [HPS.out]; rfl, PG.own_mono HT6.out hB5.size, hB7⟩
end Go.Proofs.Ytkgiboookbhmmaa
