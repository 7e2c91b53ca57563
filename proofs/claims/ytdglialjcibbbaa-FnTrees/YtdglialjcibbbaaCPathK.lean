import Derived.Test.YtdglialjcibbbaaRows
import Derived.Test.YtdglialjcibbbaaMPJ
import Derived.Test.YtdglialjcibbbaaCAreEdges
import Derived.Test.YtdglialjcibbbaaMINS
import Derived.WalkKit
import Derived.WalkSpells
import Derived.WalkLawsBesides
import Derived.Outline
import Derived.Test.YtdglialjcibbbaaCPathS
import Derived.Test.YtdglialjcibbbaaCInsert
import Derived.Test.YtdglialjcibbbaaCSort
/- pathIn of the program. -/
namespace Go.Proofs.Ytdglialjcibbbaa
open Go.RowKit
theorem EG.own_empty (w : World) : (w.alloc (.cells #[] 3)).ownsRow w.heap.size 3 1 (.slice (some ⟨w.heap.size, 0, none⟩) 0 0) 0 (M4.iv []) := by
  have := World.ownsRow_lit (base := w.heap.size) (e := 3) (size := 1) w #[] 0 (by simp) (by unfold maxLen; omega) (by simp)
  simpa [M4.iv] using this
set_option maxHeartbeats 400000 in
set_option maxRecDepth 100000 in
theorem endFrom_any (x y p : Nat) (z : Int) (w : World) : Calls Try.prog 63 #[.agg #[.int .i64 (x : Int), .int .i64 (y : Int), .int .i64 z], .int .i64 (p : Int)] w fun e w' => e = .returned (.tuple #[.int .i64 (((EG.jn (x, y) p).getD 0 : Nat) : Int), .bool (EG.jn (x, y) p).isSome]) ∧ Below w.heap.size w w' := by
  have hB : ∀ o, Below w.heap.size w (w.alloc o) := fun o => (Below.refl _ w).alloc (Nat.le_refl _) o
  have HB : Hid _ := hB
  clear hB
  by_cases hxp : x = p
  · have hJ : Hid (EG.jn (x, y) p = some y) := by show _ = _; rw [EG.jn, if_pos hxp]
    have hxb : ((x : Int) == (p : Int)) = true := by rw [hxp]; simp
    have hxb' : ((p : Int) == (x : Int)) = true := by rw [hxp]; simp
    clear hxp
    go_enter Try.func63, Try.ntmps63
    go_wp2
    go_ret2
    exact ⟨by rw [hJ.out]; rfl, HB.out _⟩
  · have hxb : ((x : Int) == (p : Int)) = false := by rw [beq_eq_false_iff_ne]; omega
    have hxb' : ((p : Int) == (x : Int)) = false := by rw [beq_eq_false_iff_ne]; omega
    by_cases hyp : y = p
    · have hJ : Hid (EG.jn (x, y) p = some x) := by show _ = _; rw [EG.jn, if_neg hxp, if_pos hyp]
      have hyb : ((y : Int) == (p : Int)) = true := by rw [hyp]; simp
      have hyb' : ((p : Int) == (y : Int)) = true := by rw [hyp]; simp
      clear hxp hyp
      go_enter Try.func63, Try.ntmps63
      go_wp2
      go_ret2
      exact ⟨by rw [hJ.out]; rfl, HB.out _⟩
    · have hJ : Hid (EG.jn (x, y) p = none) := by show _ = _; rw [EG.jn, if_neg hxp, if_neg hyp]
      have hyb : ((y : Int) == (p : Int)) = false := by rw [beq_eq_false_iff_ne]; omega
      have hyb' : ((p : Int) == (y : Int)) = false := by rw [beq_eq_false_iff_ne]; omega
      clear hxp hyp
      go_enter Try.func63, Try.ntmps63
      go_wp2
      go_ret2
      exact ⟨by rw [hJ.out]; rfl, HB.out _⟩
set_option linter.unusedSimpArgs false in
set_option maxHeartbeats 1600000 in
set_option maxRecDepth 100000 in
theorem pathIn_any (INS : InsertsI) (a b : Option Addr) (ca cb : Nat) (xs : List I3) (os : List Int) (hg : EG.okP xs = true) (ho : os.length ≤ 1048576) (hR : EG.InR xs os) (q : Nat) (hq : q < 8) : ∀ (f : Nat) (came : Int) (p : Nat) (w : World), f ≤ 100 → EG.At xs os f came p → MI3.RowAt w a xs → M4.IntsAt w b os →
    Calls Try.prog 44 #[.slice a xs.length ca, .slice b os.length cb, .int .i64 came, .int .i64 (p : Int), .int .i64 (q : Int)] w fun e w' => ∃ a1 c1, e = .returned (.tuple #[.slice a1 (EG.oL (EG.pathO xs os q f came p)).length c1, .bool (EG.pathO xs os q f came p).isSome]) ∧ w'.ownsRow w.heap.size 3 1 (.slice a1 (EG.oL (EG.pathO xs os q f came p)).length c1) (EG.oL (EG.pathO xs os q f came p)).length (M4.iv (EG.oL (EG.pathO xs os q f came p))) ∧ Below w.heap.size w w'
  | 0, came, p, w, _, hA, _, _ => absurd hA.ok.pos (by omega)
  | f + 1, came, p, w, hf, hA, hin, hos => by
    have IH : Hid _ := fun (came : Int) (p : Nat) (w : World) => pathIn_any INS a b ca cb xs os hg ho hR q hq f came p w (by omega)
    have HI : Hid (MI3.RowAt w a xs) := hin
    have HS : Hid (M4.IntsAt w b os) := hos
    have HG : Hid _ := hg
    have HA : Hid _ := hA
    have hlen := ((EG.okP_iff xs).1 hg).1
    have hp8 := hA.lt
    have hge := hA.ge
    have hle := hA.le
    by_cases hpq : p = q
    · have HP : Hid (EG.pathO xs os q (f + 1) came p = some []) := by show _ = _; rw [hpq]; exact EG.path_zero
      subst hpq
      clear hin hos hg hA IH HI HS HG HA hR
      go_enter Try.func44, Try.ntmps44
      go_wp2
      go_ret2
      exact ⟨some ⟨w.heap.size, 0, none⟩, 0, by rw [HP.out]; rfl, by rw [HP.out]; exact EG.own_empty w, (Below.refl _ _).alloc (Nat.le_refl _) _⟩
    · have HP : Hid (EG.pathO xs os q (f + 1) came p = EG.restO xs os q f came p 0) := EG.path_rest hpq
      have hpq' : ((p : Int) == (q : Int)) = false := by rw [beq_eq_false_iff_ne]; omega
      clear hin hos hg hA
      go_enter Try.func44, Try.ntmps44
      go_wp2
      go_loopw [24] (fun iv wr => ∃ j : Nat, iv = .int .i64 j ∧ j ≤ os.length ∧ Hid (EG.restO xs os q f came p j = EG.restO xs os q f came p 0) ∧ Below w.heap.size w wr) (fun iv _ => (os.length - intOf iv).toNat)
      case atStart => exact ⟨0, rfl, by omega, show Hid _ from rfl, Below.refl _ _⟩
      case round =>
        obtain ⟨j, rfl, hj, hT, hb⟩ := hrel
        by_cases hlj : j < os.length
        · obtain ⟨b1, off1, hbb, hlt1, hc1⟩ := M4.IntsAt.at (HS.out.below hb) hlj
          obtain ⟨h0, h1⟩ := hR.is j hlj
          obtain ⟨i, hio⟩ := Int.eq_ofNat_of_zero_le h0
          have hil : i < xs.length := by omega
          obtain ⟨b2, off2, hab, hlt2, c0, c1, c2⟩ := (HI.out.below hb).at hil
          have G := EG.okP_good HG.out hil
          obtain ⟨x, hx⟩ := Int.eq_ofNat_of_zero_le G.f0
          obtain ⟨y, hy⟩ := Int.eq_ofNat_of_zero_le G.t0
          have hx8 : x < 8 := by have := G.f1; omega
          have hy8 : y < 8 := by have := G.t1; omega
          have hen : EG.en xs i = (x, y) := by unfold EG.en; rw [hx, hy]; rfl
          have EF : Hid _ := endFrom_any x y p (MI3.at_ xs i).a2 wr
          rw [hio] at hc1
          rw [hx] at c0
          rw [hy] at c1
          have HEN : Hid _ := hen
          clear h0 h1 G hx hy HG hen
          generalize (MI3.at_ xs i).a2 = z at *
          subst hbb
          subst hab
          go_wp2_with fail
          refine Calls.mono EF.out ?_
          rintro e w2 ⟨rfl, hb2⟩
          have hB2 := hb.trans (hb2.mono hb.size)
          have HIO : Hid _ := hio
          clear EF c0 c1 c2 hc1 hb hb2 hio
          cases hjn0 : EG.jn (x, y) p with
          | none =>
            have ES := (EG.rest_skip (xs := xs) (os := os) (b := q) (f := f) (a := p) (came := came) hlj HIO.out (.inl (by rw [HEN.out]; exact hjn0))).symm.trans hT.out
            have HT : Hid _ := ES
            rw [show ((none : Option Nat).isSome) = false from rfl]
            clear ES hT IH HA hR HIO HEN hjn0
            go_wp2
            go_roundw
            case rel => exact ⟨j + 1, by go_num, by omega, HT, hB2⟩
            case measure => simp [intOf]; omega
          | some c =>
            have hjn : Hid (EG.jn (EG.en xs i) p = some c) := by show _ = _; rw [HEN.out]; exact hjn0
            have hc8 : c < 8 := by rcases EG.jn_is hjn0 with ⟨_, h⟩ | ⟨_, h⟩ <;> simp at h <;> omega
            rw [show ((some c).isSome) = true from rfl, show (some c).getD 0 = c from rfl]
            clear hjn0 HEN
            by_cases hci : (i : Int) = came
            · have ES := (EG.rest_skip (xs := xs) (os := os) (b := q) (f := f) (a := p) (came := came) hlj HIO.out (.inr hci)).symm.trans hT.out
              have hcb : ((i : Int) == came) = true := by rw [hci]; simp
              have HT : Hid _ := ES
              clear ES hT IH HA hR HIO hjn hci
              go_wp2
              go_roundw
              case rel => exact ⟨j + 1, by go_num, by omega, HT, hB2⟩
              case measure => simp [intOf]; omega
            · have hcb : ((i : Int) == came) = false := by rw [beq_eq_false_iff_ne]; exact hci
              have hAc := HA.out.step hlj HIO.out (by omega) hjn.out hci hc8
              have RC := IH.out (i : Int) c w2 hAc (HI.out.below hB2) (HS.out.below hB2)
              have YES : Hid _ := fun r hr => hT.out.symm.trans (EG.rest_yes (xs := xs) (os := os) (b := q) (f := f) (a := p) (came := came) hlj HIO.out hjn.out hci (r := r) hr)
              have NO : Hid _ := fun hr => (EG.rest_no (xs := xs) (os := os) (b := q) (f := f) (a := p) (came := came) hlj HIO.out hjn.out hci hr).symm.trans hT.out
              have hpl := EG.path_len xs os q f (i : Int) c
              have HRC : Hid _ := RC
              clear RC hAc hT hjn HIO hci IH HA hR HI HS
              go_wp2_with fail
              refine Calls.mono HRC.out ?_
              rintro e w3 ⟨a3, c3, rfl, ho3, hb3⟩
              have hB3 := hB2.trans (hb3.mono hB2.size)
              have hs2 := hB2.size
              clear HRC hb3 hB2
              cases hres : EG.pathO xs os q f (i : Int) c with
              | none =>
                rw [show (none : Option (List Int)).isSome = false from rfl]
                have HT : Hid _ := NO.out hres
                clear YES NO ho3 hres hpl
                go_wp2
                go_roundw
                case rel => exact ⟨j + 1, by go_num, by omega, HT, hB3⟩
                case measure => simp [intOf]; omega
              | some r =>
                rw [hres] at ho3 hpl
                rw [show (some r).isSome = true from rfl, show EG.oL (some r) = r from rfl]
                have HT : Hid _ := YES.out r hres
                have own3 : w3.ownsRow w.heap.size 3 1 (.slice a3 r.length c3) r.length (M4.iv r) := EG.own_base' (show w3.ownsRow w2.heap.size 3 1 (.slice a3 r.length c3) r.length (M4.iv r) from ho3) hs2
                have hrl : r.length ≤ f := hpl
                have INS1 : Hid _ := INS w.heap.size a3 c3 r (i : Int) w3 hB3.size own3 (by omega)
                clear YES NO ho3 hres hpl own3
                go_wp2_with fail
                refine Calls.mono INS1.out ?_
                rintro e w5 ⟨a5, c5, rfl, ho5, hb5⟩
                have R2 : Below w.heap.size w w5 := hB3.trans hb5
                have HR1 : Hid _ := ho5
                clear INS1 ho5 hb5 hB3
                go_wp2
                go_ret2
                exact ⟨a5, c5, by rw [HP.out, HT.out]; rfl, by rw [HP.out, HT.out]; exact HR1.out, R2⟩
        · obtain rfl : j = os.length := by omega
          have HN : Hid (EG.restO xs os q f came p 0 = none) := hT.out.symm.trans EG.rest_end
          clear HI HS HG hR HA IH hT
          go_wp2
          go_ret2
          exact ⟨none, 0, by rw [HP.out, HN.out]; rfl, by rw [HP.out, HN.out]; exact World.ownsRow_nil _ _ _ _, hb⟩
end Go.Proofs.Ytdglialjcibbbaa

/- PathIn of the specification and of the program. -/
namespace Go.Proofs.Ytdglialjcibbbaa
open Go.RowKit
namespace EG
def nodeOk (n : Int) : Bool := decide (0 ≤ n ∧ n ≤ 7)
theorem node_yes {n : Int} (h : nodeOk n = true) : 0 ≤ n ∧ n ≤ 7 := by simpa only [nodeOk, decide_eq_true_eq] using h
/-- What PathIn answers. -/
noncomputable def patM (xs : List I3) (os : List Int) (a b : Int) : Option (List Int) := if sok xs os = true ∧ nodeOk a = true ∧ nodeOk b = true ∧ fst xs os os.length = true then pathO xs os b.toNat 8 (-1) a.toNat else none
theorem patM_len (xs : List I3) (os : List Int) (a b : Int) : (oL (patM xs os a b)).length ≤ 1048576 := by
  unfold patM; split
  · have := path_len xs os b.toNat 8 (-1) a.toNat; omega
  · simp [oL]
theorem fst_all {xs : List I3} {os : List Int} : ∀ n, fst xs os n = true → ∀ k, k < n → news xs os k = true
  | 0, _, k, hk => by omega
  | n + 1, h, k, hk => by
    rw [fst, Bool.and_eq_true] at h
    by_cases e : k = n
    · subst e; exact h.1
    · exact fst_all n h.2 k (by omega)
theorem rise_lt {n : Nat} {os : List Int} (h : riseUp n os os.length) : ∀ (j i : Nat), i < j → j < os.length → os.getD i 0 < os.getD j 0
  | 0, i, hi, _ => by omega
  | j + 1, i, hi, hj => by
    have h1 := (h (j + 1) hj).2.2 (by omega)
    rw [Nat.add_sub_cancel] at h1
    by_cases e : i = j
    · subst e; exact h1
    · have := rise_lt h j i (by omega) (by omega); omega
theorem forest_fo {xs : List I3} {os : List Int} (hr : riseUp xs.length os os.length) (hf : fst xs os os.length = true) : Fo (en xs) (SS os) := by
  intro k hk hc
  obtain ⟨j, hj, hjk⟩ := List.mem_iff_getElem.1 (show (k : Int) ∈ os from hk)
  have hg : os.getD j 0 = (k : Int) := by rw [List.getD_eq_getElem?_getD, List.getElem?_eq_getElem hj]; exact hjk
  have hn := fst_all _ hf j hj
  have e1 : ofN xs (os.getD j 0) = MI3.at_ xs k := by rw [hg]; rfl
  have hne : prt xs os j (en xs k).1 ≠ prt xs os j (en xs k).2 := by
    intro e
    rw [news, e1] at hn
    have : (prt xs os j (MI3.at_ xs k).a0.toNat == prt xs os j (MI3.at_ xs k).a1.toNat) = true := by rw [beq_iff_eq]; exact e
    rw [this] at hn; cases hn
  apply hne
  rw [prt_is xs os j (by omega), pt_iff]
  refine hc.mono fun i hi => ?_
  obtain ⟨hi1, hi2⟩ := hi
  obtain ⟨m, hm, hmi⟩ := List.mem_iff_getElem.1 (show (i : Int) ∈ os from hi1)
  have hgm : os.getD m 0 = (i : Int) := by rw [List.getD_eq_getElem?_getD, List.getElem?_eq_getElem hm]; exact hmi
  have hmj : m < j := by
    by_cases c : m < j
    · exact c
    · by_cases c2 : m = j
      · subst c2; omega
      · have := rise_lt hr m j (by omega) hm; omega
  unfold nat
  refine List.mem_map.2 ⟨(i : Int), ?_, by simp⟩
  rw [← hmi, List.mem_take_iff_getElem]
  exact ⟨m, by omega, rfl⟩
theorem at0 {xs : List I3} {os : List Int} (hg : okP xs = true) (hr : riseUp xs.length os os.length) (hf : fst xs os os.length = true) {a : Nat} (ha : a < 8) : At xs os 8 (-1) a := by
  refine ⟨⟨fun ks b hw => ?_⟩, ha, by omega, by omega⟩
  refine wk_short (forest_fo hr hf) (fun k hk => ?_) ha hw
  obtain ⟨j, hj, hjk⟩ := List.mem_iff_getElem.1 (show (k : Int) ∈ os from hk)
  have hgj : os.getD j 0 = (k : Int) := by rw [List.getD_eq_getElem?_getD, List.getElem?_eq_getElem hj]; exact hjk
  have hkl : k < xs.length := by have := (hr j hj).2.1; omega
  have G := okP_good hg hkl
  have := G.f0; have := G.f1; have := G.t0; have := G.t1
  show (MI3.at_ xs k).a0.toNat < 8 ∧ (MI3.at_ xs k).a1.toNat < 8
  omega
end EG
set_option maxHeartbeats 400000 in
set_option maxRecDepth 100000 in
theorem node7S_any (n : Int) (w : World) : Calls Try.prog 45 #[.int .i64 n] w fun e w' => e = .returned (.bool (EG.nodeOk n)) ∧ w = w' := by
  go_enter Try.func45, Try.ntmps45
  go_wp2
  all_goals go_ret
  all_goals refine ⟨retB7 ?_, rfl⟩
  all_goals (simp only [EG.nodeOk]; rw [Bool.eq_iff_iff]; simp only [decide_eq_true_eq, Bool.false_eq_true, false_iff] at *; omega)
set_option maxHeartbeats 400000 in
set_option maxRecDepth 100000 in
theorem node7I_any (n : Int) (w : World) : Calls Try.prog 43 #[.int .i64 n] w fun e w' => e = .returned (.bool (EG.nodeOk n)) ∧ w = w' := by
  go_enter Try.func43, Try.ntmps43
  go_wp2
  all_goals go_ret
  all_goals refine ⟨retB7 ?_, rfl⟩
  all_goals (simp only [EG.nodeOk]; rw [Bool.eq_iff_iff]; simp only [decide_eq_true_eq, Bool.false_eq_true, false_iff] at *; omega)
set_option linter.unusedSimpArgs false in
set_option maxHeartbeats 1600000 in
set_option maxRecDepth 100000 in
theorem implPath_any (a b : Option Addr) (ca cb : Nat) (xs : List I3) (os : List Int) (p q : Int) (w : World) (hn0 : xs.length ≤ 1048576) (ho : os.length ≤ 1048576) (hin : MI3.RowAt w a xs) (hos : M4.IntsAt w b os) :
    Calls Try.prog 17 #[.slice a xs.length ca, .slice b os.length cb, .int .i64 p, .int .i64 q] w fun e w' => ∃ a1 c1, e = .returned (.tuple #[.slice a1 (EG.oL (EG.patM xs os p q)).length c1, .bool (EG.patM xs os p q).isSome]) ∧ w'.ownsRow w.heap.size 3 1 (.slice a1 (EG.oL (EG.patM xs os p q)).length c1) (EG.oL (EG.patM xs os p q)).length (M4.iv (EG.oL (EG.patM xs os p q))) ∧ Below w.heap.size w w' := by
  have AE : Hid _ := areEdges_any a b ca cb xs os w hn0 ho hin hos _ rfl
  have HI : Hid (MI3.RowAt w a xs) := hin
  have HS : Hid (M4.IntsAt w b os) := hos
  clear hin hos
  go_enter Try.func17, Try.ntmps17
  go_wp2_with fail
  refine Calls.mono AE.out ?_
  rintro e w1 ⟨rfl, hb1⟩
  clear AE
  cases hg : EG.sok xs os with
  | false =>
    have hC : Hid (EG.patM xs os p q = none) := by show _ = _; simp [EG.patM, hg]
    clear hg HI HS
    go_wp2
    go_ret2
    exact ⟨none, 0, by rw [hC.out]; rfl, by rw [hC.out]; exact World.ownsRow_nil _ _ _ _, hb1⟩
  | true =>
    go_wp2_with fail
    refine Calls.mono (node7I_any p _) ?_
    rintro e w2 ⟨rfl, rfl⟩
    cases hp : EG.nodeOk p with
    | false =>
      have hC : Hid (EG.patM xs os p q = none) := by show _ = _; simp [EG.patM, hp]
      clear hg hp HI HS
      go_wp2
      go_ret2
      exact ⟨none, 0, by rw [hC.out]; rfl, by rw [hC.out]; exact World.ownsRow_nil _ _ _ _, hb1⟩
    | true =>
      go_wp2_with fail
      refine Calls.mono (node7I_any q _) ?_
      rintro e w2 ⟨rfl, rfl⟩
      cases hq : EG.nodeOk q with
      | false =>
        have hC : Hid (EG.patM xs os p q = none) := by show _ = _; simp [EG.patM, hq]
        clear hg hp hq HI HS
        go_wp2
        go_ret2
        exact ⟨none, 0, by rw [hC.out]; rfl, by rw [hC.out]; exact World.ownsRow_nil _ _ _ _, hb1⟩
      | true =>
        obtain ⟨hk, hr⟩ := EG.sok_is hg
        have LK : Hid _ := linked_any sortsI a b ca cb xs os w1 hk ho hr (HI.out.below hb1) (HS.out.below hb1)
        have HG : Hid (EG.sok xs os = true ∧ EG.nodeOk p = true ∧ EG.nodeOk q = true) := ⟨hg, hp, hq⟩
        clear hg hp hq hk hr
        go_wp2_with fail
        refine Calls.mono LK.out ?_
        rintro e w2 ⟨rfl, _, hb2⟩
        have hB2 := hb1.trans (hb2.mono hb1.size)
        clear LK hb2
        cases hf : EG.fst xs os os.length with
        | false =>
          have hC : Hid (EG.patM xs os p q = none) := by show _ = _; simp [EG.patM, hf]
          clear HG hf HI HS
          go_wp2
          go_ret2
          exact ⟨none, 0, by rw [hC.out]; rfl, by rw [hC.out]; exact World.ownsRow_nil _ _ _ _, hB2⟩
        | true =>
          obtain ⟨hg, hp, hq⟩ := HG.out
          obtain ⟨hk, hr⟩ := EG.sok_is hg
          have hrr : EG.riseUp xs.length os os.length := EG.rises_is (by unfold EG.sok at hg; rw [Bool.and_eq_true] at hg; exact hg.2)
          have hp' := EG.node_yes hp
          have hq' := EG.node_yes hq
          have hC : Hid (EG.patM xs os p q = EG.pathO xs os q.toNat 8 (-1) p.toNat) := by show _ = _; simp [EG.patM, hf, hg, hp, hq]
          obtain ⟨p', rfl⟩ := Int.eq_ofNat_of_zero_le hp'.1
          obtain ⟨q', rfl⟩ := Int.eq_ofNat_of_zero_le hq'.1
          have PI : Hid _ := pathIn_any insertsI a b ca cb xs os hk ho hr q' (by omega) 8 (-1) p' w2 (by omega) (EG.at0 hk hrr hf (by omega)) (HI.out.below hB2) (HS.out.below hB2)
          rw [Int.toNat_natCast, Int.toNat_natCast] at hC
          clear hg hp hq hk hr hrr hp' hq' hf HI HS HG
          go_wp2_with fail
          refine Calls.mono PI.out ?_
          rintro e w3 ⟨a3, c3, rfl, ho3, hb3⟩
          have HO : Hid _ := ho3
          clear PI ho3
          go_wp2
          go_ret2
          have HO' := HO.out
          rw [← hC.out] at HO'
          exact ⟨a3, c3, by rw [hC.out]; rfl, EG.own_base' HO' hB2.size, hB2.trans (hb3.mono hB2.size)⟩
set_option linter.unusedSimpArgs false in
set_option maxHeartbeats 1600000 in
set_option maxRecDepth 100000 in
theorem specPath_any (a b : Option Addr) (ca cb : Nat) (xs : List I3) (os : List Int) (p q : Int) (w : World) (hn0 : xs.length ≤ 1048576) (ho : os.length ≤ 1048576) (hin : MI3.RowAt w a xs) (hos : M4.IntsAt w b os) :
    Calls Try.prog 18 #[.slice a xs.length ca, .slice b os.length cb, .int .i64 p, .int .i64 q] w fun e w' => ∃ a1 c1, e = .returned (.tuple #[.slice a1 (EG.oL (EG.patM xs os p q)).length c1, .bool (EG.patM xs os p q).isSome]) ∧ w'.ownsRow w.heap.size 3 1 (.slice a1 (EG.oL (EG.patM xs os p q)).length c1) (EG.oL (EG.patM xs os p q)).length (M4.iv (EG.oL (EG.patM xs os p q))) ∧ Below w.heap.size w w' := by
  have GP : Hid _ := specGoodEdges_any a ca xs w hn0 hin _ rfl
  have SP : Hid _ := fun W (h : Below w.heap.size w W) => l1Some_any b cb xs.length os W hn0 ho (hos.below h) _ rfl
  have HI : Hid (MI3.RowAt w a xs) := hin
  have HS : Hid (M4.IntsAt w b os) := hos
  clear hin hos
  go_enter Try.func18, Try.ntmps18
  go_wp2_with fail
  refine Calls.mono GP.out ?_
  rintro e w0 ⟨rfl, hb0⟩
  clear GP
  cases hg0 : EG.okP xs with
  | false =>
    have hC : Hid (EG.patM xs os p q = none) := by show _ = _; simp [EG.patM, EG.sok, hg0]
    clear hg0 HI HS SP
    go_wp2
    go_ret2
    exact ⟨none, 0, by rw [hC.out]; rfl, by rw [hC.out]; exact World.ownsRow_nil _ _ _ _, hb0⟩
  | true =>
    go_wp2_with fail
    refine Calls.mono (SP.out _ hb0) ?_
    rintro e w1 ⟨rfl, hb01⟩
    have hb1 := hb0.trans (hb01.mono hb0.size)
    clear SP hb01 hb0
    cases hr0 : EG.rises xs.length os with
    | false =>
      have hC : Hid (EG.patM xs os p q = none) := by show _ = _; simp [EG.patM, EG.sok, hr0]
      clear hg0 hr0 HI HS
      go_wp2
      go_ret2
      exact ⟨none, 0, by rw [hC.out]; rfl, by rw [hC.out]; exact World.ownsRow_nil _ _ _ _, hb1⟩
    | true =>
      have hg : EG.sok xs os = true := by simp [EG.sok, hg0, hr0]
      clear hg0 hr0
      go_wp2_with fail
      refine Calls.mono (node7S_any p _) ?_
      rintro e w2 ⟨rfl, rfl⟩
      cases hp : EG.nodeOk p with
      | false =>
        have hC : Hid (EG.patM xs os p q = none) := by show _ = _; simp [EG.patM, hp]
        clear hg hp HI HS
        go_wp2
        go_ret2
        exact ⟨none, 0, by rw [hC.out]; rfl, by rw [hC.out]; exact World.ownsRow_nil _ _ _ _, hb1⟩
      | true =>
        go_wp2_with fail
        refine Calls.mono (node7S_any q _) ?_
        rintro e w2 ⟨rfl, rfl⟩
        cases hq : EG.nodeOk q with
        | false =>
          have hC : Hid (EG.patM xs os p q = none) := by show _ = _; simp [EG.patM, hq]
          clear hg hp hq HI HS
          go_wp2
          go_ret2
          exact ⟨none, 0, by rw [hC.out]; rfl, by rw [hC.out]; exact World.ownsRow_nil _ _ _ _, hb1⟩
        | true =>
          obtain ⟨hk, hr⟩ := EG.sok_is hg
          have LK : Hid _ := l7Forest_any a b ca cb xs os w1 hk ho hr (HI.out.below hb1) (HS.out.below hb1)
          have HG : Hid (EG.sok xs os = true ∧ EG.nodeOk p = true ∧ EG.nodeOk q = true) := ⟨hg, hp, hq⟩
          clear hg hp hq hk hr
          go_wp2_with fail
          refine Calls.mono LK.out ?_
          rintro e w2 ⟨rfl, hb2⟩
          have hB2 := hb1.trans (hb2.mono hb1.size)
          clear LK hb2
          cases hf : EG.fst xs os os.length with
          | false =>
            have hC : Hid (EG.patM xs os p q = none) := by show _ = _; simp [EG.patM, hf]
            clear HG hf HI HS
            go_wp2
            go_ret2
            exact ⟨none, 0, by rw [hC.out]; rfl, by rw [hC.out]; exact World.ownsRow_nil _ _ _ _, hB2⟩
          | true =>
            obtain ⟨hg, hp, hq⟩ := HG.out
            obtain ⟨hk, hr⟩ := EG.sok_is hg
            have hrr : EG.riseUp xs.length os os.length := EG.rises_is (by unfold EG.sok at hg; rw [Bool.and_eq_true] at hg; exact hg.2)
            have hp' := EG.node_yes hp
            have hq' := EG.node_yes hq
            have hC : Hid (EG.patM xs os p q = EG.pathO xs os q.toNat 8 (-1) p.toNat) := by show _ = _; simp [EG.patM, hf, hg, hp, hq]
            obtain ⟨p', rfl⟩ := Int.eq_ofNat_of_zero_le hp'.1
            obtain ⟨q', rfl⟩ := Int.eq_ofNat_of_zero_le hq'.1
            have PI : Hid _ := l7Path_any a b ca cb xs os hk ho hr q' (by omega) 8 (-1) p' w2 (by omega) (EG.at0 hk hrr hf (by omega)) (HI.out.below hB2) (HS.out.below hB2)
            rw [Int.toNat_natCast, Int.toNat_natCast] at hC
            clear hg hp hq hk hr hrr hp' hq' hf HI HS HG
            go_wp2_with fail
            refine Calls.mono PI.out ?_
            rintro e w3 ⟨a3, c3, rfl, ho3, hb3⟩
            have HO : Hid _ := ho3
            clear PI ho3
            go_wp2
            go_ret2
            have HO' := HO.out
            rw [← hC.out] at HO'
            exact ⟨a3, c3, by rw [hC.out]; rfl, EG.own_base' HO' hB2.size, hB2.trans (hb3.mono hB2.size)⟩
end Go.Proofs.Ytdglialjcibbbaa
