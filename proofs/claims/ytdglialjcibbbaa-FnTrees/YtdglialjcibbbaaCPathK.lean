/- PathIn of the specification and of the program. -/
import Derived.Test.YtdglialjcibbbaaRows
import Derived.Test.YtdglialjcibbbaaCPathS
import Derived.Test.YtdglialjcibbbaaCAreEdges
import Derived.Test.YtdglialjcibbbaaCPathI
import Derived.Test.YtdglialjcibbbaaCInsert
import Derived.Test.YtdglialjcibbbaaCSort
import Derived.WalkKit
import Derived.WalkSpells
import Derived.WalkLawsBesides
import Derived.Outline
namespace Go.Proofs.Ytdglialjcibbbaa
open Go.RowKit
namespace EG
def nodeOk (n : Int) : Bool := decide (0 ≤ n ∧ n ≤ 7)
theorem node_yes {n : Int} (h : nodeOk n = true) : 0 ≤ n ∧ n ≤ 7 := by simpa only [nodeOk, decide_eq_true_eq] using h
/-- What PathIn answers. -/
noncomputable def patM (xs : List I3) (os : List Int) (a b : Int) : Option (List Int) := if sok xs os = true ∧ nodeOk a = true ∧ nodeOk b = true ∧ fst xs os os.length = true then pathO xs os b.toNat 8 (-1) a.toNat else none
theorem patM_len (xs : List I3) (os : List Int) (a b : Int) : (oL (patM xs os a b)).length ≤ 1048576 := by
  unfold patM; split
  · have := path_len xs os b.toNat 8 (-1) a.toNat; omega
  · simp [oL]
theorem fst_all {xs : List I3} {os : List Int} : ∀ n, fst xs os n = true → ∀ k, k < n → news xs os k = true
  | 0, _, k, hk => by omega
  | n + 1, h, k, hk => by
    rw [fst, Bool.and_eq_true] at h
    by_cases e : k = n
    · subst e; exact h.1
    · exact fst_all n h.2 k (by omega)
theorem rise_lt {n : Nat} {os : List Int} (h : riseUp n os os.length) : ∀ (j i : Nat), i < j → j < os.length → os.getD i 0 < os.getD j 0
  | 0, i, hi, _ => by omega
  | j + 1, i, hi, hj => by
    have h1 := (h (j + 1) hj).2.2 (by omega)
    rw [Nat.add_sub_cancel] at h1
    by_cases e : i = j
    · subst e; exact h1
    · have := rise_lt h j i (by omega) (by omega); omega
theorem forest_fo {xs : List I3} {os : List Int} (hr : riseUp xs.length os os.length) (hf : fst xs os os.length = true) : Fo (en xs) (SS os) := by
  intro k hk hc
  obtain ⟨j, hj, hjk⟩ := List.mem_iff_getElem.1 (show (k : Int) ∈ os from hk)
  have hg : os.getD j 0 = (k : Int) := by rw [List.getD_eq_getElem?_getD, List.getElem?_eq_getElem hj]; exact hjk
  have hn := fst_all _ hf j hj
  have e1 : ofN xs (os.getD j 0) = MI3.at_ xs k := by rw [hg]; rfl
  have hne : prt xs os j (en xs k).1 ≠ prt xs os j (en xs k).2 := by
    intro e
    rw [news, e1] at hn
    have : (prt xs os j (MI3.at_ xs k).a0.toNat == prt xs os j (MI3.at_ xs k).a1.toNat) = true := by rw [beq_iff_eq]; exact e
    rw [this] at hn; cases hn
  apply hne
  rw [prt_is xs os j (by omega), pt_iff]
  refine hc.mono fun i hi => ?_
  obtain ⟨hi1, hi2⟩ := hi
  obtain ⟨m, hm, hmi⟩ := List.mem_iff_getElem.1 (show (i : Int) ∈ os from hi1)
  have hgm : os.getD m 0 = (i : Int) := by rw [List.getD_eq_getElem?_getD, List.getElem?_eq_getElem hm]; exact hmi
  have hmj : m < j := by
    by_cases c : m < j
    · exact c
    · by_cases c2 : m = j
      · subst c2; omega
      · have := rise_lt hr m j (by omega) hm; omega
  unfold nat
  refine List.mem_map.2 ⟨(i : Int), ?_, by simp⟩
  rw [← hmi, List.mem_take_iff_getElem]
  exact ⟨m, by omega, rfl⟩
theorem at0 {xs : List I3} {os : List Int} (hg : okP xs = true) (hr : riseUp xs.length os os.length) (hf : fst xs os os.length = true) {a : Nat} (ha : a < 8) : At xs os 8 (-1) a := by
  refine ⟨⟨fun ks b hw => ?_⟩, ha, by omega, by omega⟩
  refine wk_short (forest_fo hr hf) (fun k hk => ?_) ha hw
  obtain ⟨j, hj, hjk⟩ := List.mem_iff_getElem.1 (show (k : Int) ∈ os from hk)
  have hgj : os.getD j 0 = (k : Int) := by rw [List.getD_eq_getElem?_getD, List.getElem?_eq_getElem hj]; exact hjk
  have hkl : k < xs.length := by have := (hr j hj).2.1; omega
  have G := okP_good hg hkl
  have := G.f0; have := G.f1; have := G.t0; have := G.t1
  show (MI3.at_ xs k).a0.toNat < 8 ∧ (MI3.at_ xs k).a1.toNat < 8
  omega
end EG
set_option maxHeartbeats 400000 in
set_option maxRecDepth 100000 in
theorem node7S_any (n : Int) (w : World) : Calls Try.prog 45 #[.int .i64 n] w fun e w' => e = .returned (.bool (EG.nodeOk n)) ∧ w = w' := by
  go_enter Try.func45, Try.ntmps45
  go_wp2
  all_goals go_ret
  all_goals refine ⟨retB7 ?_, rfl⟩
  all_goals (simp only [EG.nodeOk]; rw [Bool.eq_iff_iff]; simp only [decide_eq_true_eq, Bool.false_eq_true, false_iff] at *; omega)
set_option maxHeartbeats 400000 in
set_option maxRecDepth 100000 in
theorem node7I_any (n : Int) (w : World) : Calls Try.prog 43 #[.int .i64 n] w fun e w' => e = .returned (.bool (EG.nodeOk n)) ∧ w = w' := by
  go_enter Try.func43, Try.ntmps43
  go_wp2
  all_goals go_ret
  all_goals refine ⟨retB7 ?_, rfl⟩
  all_goals (simp only [EG.nodeOk]; rw [Bool.eq_iff_iff]; simp only [decide_eq_true_eq, Bool.false_eq_true, false_iff] at *; omega)
set_option linter.unusedSimpArgs false in
set_option maxHeartbeats 1600000 in
set_option maxRecDepth 100000 in
theorem implPath_any (a b : Option Addr) (ca cb : Nat) (xs : List I3) (os : List Int) (p q : Int) (w : World) (hn0 : xs.length ≤ 1048576) (ho : os.length ≤ 1048576) (hin : MI3.RowAt w a xs) (hos : M4.IntsAt w b os) :
    Calls Try.prog 17 #[.slice a xs.length ca, .slice b os.length cb, .int .i64 p, .int .i64 q] w fun e w' => ∃ a1 c1, e = .returned (.tuple #[.slice a1 (EG.oL (EG.patM xs os p q)).length c1, .bool (EG.patM xs os p q).isSome]) ∧ w'.ownsRow w.heap.size 3 1 (.slice a1 (EG.oL (EG.patM xs os p q)).length c1) (EG.oL (EG.patM xs os p q)).length (M4.iv (EG.oL (EG.patM xs os p q))) ∧ Below w.heap.size w w' := by
  have AE : Hid _ := areEdges_any a b ca cb xs os w hn0 ho hin hos _ rfl
  have HI : Hid (MI3.RowAt w a xs) := hin
  have HS : Hid (M4.IntsAt w b os) := hos
  clear hin hos
  go_enter Try.func17, Try.ntmps17
  go_wp2_with fail
  refine Calls.mono AE.out ?_
  rintro e w1 ⟨rfl, hb1⟩
  clear AE
  cases hg : EG.sok xs os with
  | false =>
    have hC : Hid (EG.patM xs os p q = none) := by show _ = _; simp [EG.patM, hg]
    clear hg HI HS
    go_wp2
    go_ret2
    exact ⟨none, 0, by rw [hC.out]; rfl, by rw [hC.out]; exact World.ownsRow_nil _ _ _ _, hb1⟩
  | true =>
    go_wp2_with fail
    refine Calls.mono (node7I_any p _) ?_
    rintro e w2 ⟨rfl, rfl⟩
    cases hp : EG.nodeOk p with
    | false =>
      have hC : Hid (EG.patM xs os p q = none) := by show _ = _; simp [EG.patM, hp]
      clear hg hp HI HS
      go_wp2
      go_ret2
      exact ⟨none, 0, by rw [hC.out]; rfl, by rw [hC.out]; exact World.ownsRow_nil _ _ _ _, hb1⟩
    | true =>
      go_wp2_with fail
      refine Calls.mono (node7I_any q _) ?_
      rintro e w2 ⟨rfl, rfl⟩
      cases hq : EG.nodeOk q with
      | false =>
        have hC : Hid (EG.patM xs os p q = none) := by show _ = _; simp [EG.patM, hq]
        clear hg hp hq HI HS
        go_wp2
        go_ret2
        exact ⟨none, 0, by rw [hC.out]; rfl, by rw [hC.out]; exact World.ownsRow_nil _ _ _ _, hb1⟩
      | true =>
        obtain ⟨hk, hr⟩ := EG.sok_is hg
        have LK : Hid _ := linked_any sortsI a b ca cb xs os w1 hk ho hr (HI.out.below hb1) (HS.out.below hb1)
        have HG : Hid (EG.sok xs os = true ∧ EG.nodeOk p = true ∧ EG.nodeOk q = true) := ⟨hg, hp, hq⟩
        clear hg hp hq hk hr
        go_wp2_with fail
        refine Calls.mono LK.out ?_
        rintro e w2 ⟨rfl, _, hb2⟩
        have hB2 := hb1.trans (hb2.mono hb1.size)
        clear LK hb2
        cases hf : EG.fst xs os os.length with
        | false =>
          have hC : Hid (EG.patM xs os p q = none) := by show _ = _; simp [EG.patM, hf]
          clear HG hf HI HS
          go_wp2
          go_ret2
          exact ⟨none, 0, by rw [hC.out]; rfl, by rw [hC.out]; exact World.ownsRow_nil _ _ _ _, hB2⟩
        | true =>
          obtain ⟨hg, hp, hq⟩ := HG.out
          obtain ⟨hk, hr⟩ := EG.sok_is hg
          have hrr : EG.riseUp xs.length os os.length := EG.rises_is (by unfold EG.sok at hg; rw [Bool.and_eq_true] at hg; exact hg.2)
          have hp' := EG.node_yes hp
          have hq' := EG.node_yes hq
          have hC : Hid (EG.patM xs os p q = EG.pathO xs os q.toNat 8 (-1) p.toNat) := by show _ = _; simp [EG.patM, hf, hg, hp, hq]
          obtain ⟨p', rfl⟩ := Int.eq_ofNat_of_zero_le hp'.1
          obtain ⟨q', rfl⟩ := Int.eq_ofNat_of_zero_le hq'.1
          have PI : Hid _ := pathIn_any insertsI a b ca cb xs os hk ho hr q' (by omega) 8 (-1) p' w2 (by omega) (EG.at0 hk hrr hf (by omega)) (HI.out.below hB2) (HS.out.below hB2)
          rw [Int.toNat_natCast, Int.toNat_natCast] at hC
          clear hg hp hq hk hr hrr hp' hq' hf HI HS HG
          go_wp2_with fail
          refine Calls.mono PI.out ?_
          rintro e w3 ⟨a3, c3, rfl, ho3, hb3⟩
          have HO : Hid _ := ho3
          clear PI ho3
          go_wp2
          go_ret2
          have HO' := HO.out
          rw [← hC.out] at HO'
          exact ⟨a3, c3, by rw [hC.out]; rfl, EG.own_base' HO' hB2.size, hB2.trans (hb3.mono hB2.size)⟩
set_option linter.unusedSimpArgs false in
set_option maxHeartbeats 1600000 in
set_option maxRecDepth 100000 in
theorem specPath_any (a b : Option Addr) (ca cb : Nat) (xs : List I3) (os : List Int) (p q : Int) (w : World) (hn0 : xs.length ≤ 1048576) (ho : os.length ≤ 1048576) (hin : MI3.RowAt w a xs) (hos : M4.IntsAt w b os) :
    Calls Try.prog 18 #[.slice a xs.length ca, .slice b os.length cb, .int .i64 p, .int .i64 q] w fun e w' => ∃ a1 c1, e = .returned (.tuple #[.slice a1 (EG.oL (EG.patM xs os p q)).length c1, .bool (EG.patM xs os p q).isSome]) ∧ w'.ownsRow w.heap.size 3 1 (.slice a1 (EG.oL (EG.patM xs os p q)).length c1) (EG.oL (EG.patM xs os p q)).length (M4.iv (EG.oL (EG.patM xs os p q))) ∧ Below w.heap.size w w' := by
  have GP : Hid _ := specGoodEdges_any a ca xs w hn0 hin _ rfl
  have SP : Hid _ := fun W (h : Below w.heap.size w W) => l1Some_any b cb xs.length os W hn0 ho (hos.below h) _ rfl
  have HI : Hid (MI3.RowAt w a xs) := hin
  have HS : Hid (M4.IntsAt w b os) := hos
  clear hin hos
  go_enter Try.func18, Try.ntmps18
  go_wp2_with fail
  refine Calls.mono GP.out ?_
  rintro e w0 ⟨rfl, hb0⟩
  clear GP
  cases hg0 : EG.okP xs with
  | false =>
    have hC : Hid (EG.patM xs os p q = none) := by show _ = _; simp [EG.patM, EG.sok, hg0]
    clear hg0 HI HS SP
    go_wp2
    go_ret2
    exact ⟨none, 0, by rw [hC.out]; rfl, by rw [hC.out]; exact World.ownsRow_nil _ _ _ _, hb0⟩
  | true =>
    go_wp2_with fail
    refine Calls.mono (SP.out _ hb0) ?_
    rintro e w1 ⟨rfl, hb01⟩
    have hb1 := hb0.trans (hb01.mono hb0.size)
    clear SP hb01 hb0
    cases hr0 : EG.rises xs.length os with
    | false =>
      have hC : Hid (EG.patM xs os p q = none) := by show _ = _; simp [EG.patM, EG.sok, hr0]
      clear hg0 hr0 HI HS
      go_wp2
      go_ret2
      exact ⟨none, 0, by rw [hC.out]; rfl, by rw [hC.out]; exact World.ownsRow_nil _ _ _ _, hb1⟩
    | true =>
      have hg : EG.sok xs os = true := by simp [EG.sok, hg0, hr0]
      clear hg0 hr0
      go_wp2_with fail
      refine Calls.mono (node7S_any p _) ?_
      rintro e w2 ⟨rfl, rfl⟩
      cases hp : EG.nodeOk p with
      | false =>
        have hC : Hid (EG.patM xs os p q = none) := by show _ = _; simp [EG.patM, hp]
        clear hg hp HI HS
        go_wp2
        go_ret2
        exact ⟨none, 0, by rw [hC.out]; rfl, by rw [hC.out]; exact World.ownsRow_nil _ _ _ _, hb1⟩
      | true =>
        go_wp2_with fail
        refine Calls.mono (node7S_any q _) ?_
        rintro e w2 ⟨rfl, rfl⟩
        cases hq : EG.nodeOk q with
        | false =>
          have hC : Hid (EG.patM xs os p q = none) := by show _ = _; simp [EG.patM, hq]
          clear hg hp hq HI HS
          go_wp2
          go_ret2
          exact ⟨none, 0, by rw [hC.out]; rfl, by rw [hC.out]; exact World.ownsRow_nil _ _ _ _, hb1⟩
        | true =>
          obtain ⟨hk, hr⟩ := EG.sok_is hg
          have LK : Hid _ := l7Forest_any a b ca cb xs os w1 hk ho hr (HI.out.below hb1) (HS.out.below hb1)
          have HG : Hid (EG.sok xs os = true ∧ EG.nodeOk p = true ∧ EG.nodeOk q = true) := ⟨hg, hp, hq⟩
          clear hg hp hq hk hr
          go_wp2_with fail
          refine Calls.mono LK.out ?_
          rintro e w2 ⟨rfl, hb2⟩
          have hB2 := hb1.trans (hb2.mono hb1.size)
          clear LK hb2
          cases hf : EG.fst xs os os.length with
          | false =>
            have hC : Hid (EG.patM xs os p q = none) := by show _ = _; simp [EG.patM, hf]
            clear HG hf HI HS
            go_wp2
            go_ret2
            exact ⟨none, 0, by rw [hC.out]; rfl, by rw [hC.out]; exact World.ownsRow_nil _ _ _ _, hB2⟩
          | true =>
            obtain ⟨hg, hp, hq⟩ := HG.out
            obtain ⟨hk, hr⟩ := EG.sok_is hg
            have hrr : EG.riseUp xs.length os os.length := EG.rises_is (by unfold EG.sok at hg; rw [Bool.and_eq_true] at hg; exact hg.2)
            have hp' := EG.node_yes hp
            have hq' := EG.node_yes hq
            have hC : Hid (EG.patM xs os p q = EG.pathO xs os q.toNat 8 (-1) p.toNat) := by show _ = _; simp [EG.patM, hf, hg, hp, hq]
            obtain ⟨p', rfl⟩ := Int.eq_ofNat_of_zero_le hp'.1
            obtain ⟨q', rfl⟩ := Int.eq_ofNat_of_zero_le hq'.1
            have PI : Hid _ := l7Path_any a b ca cb xs os hk ho hr q' (by omega) 8 (-1) p' w2 (by omega) (EG.at0 hk hrr hf (by omega)) (HI.out.below hB2) (HS.out.below hB2)
            rw [Int.toNat_natCast, Int.toNat_natCast] at hC
            clear hg hp hq hk hr hrr hp' hq' hf HI HS HG
            go_wp2_with fail
            refine Calls.mono PI.out ?_
            rintro e w3 ⟨a3, c3, rfl, ho3, hb3⟩
            have HO : Hid _ := ho3
            clear PI ho3
            go_wp2
            go_ret2
            have HO' := HO.out
            rw [← hC.out] at HO'
            exact ⟨a3, c3, by rw [hC.out]; rfl, EG.own_base' HO' hB2.size, hB2.trans (hb3.mono hB2.size)⟩
end Go.Proofs.Ytdglialjcibbbaa
