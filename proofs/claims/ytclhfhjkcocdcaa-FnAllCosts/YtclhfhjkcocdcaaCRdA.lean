/- The costs from each: AllCosts of both. -/
import Derived.Test.YtclhfhjkcocdcaaRows
import Derived.Test.YtclhfhjkcocdcaaCRd5
import Derived.Test.YtclhfhjkcocdcaaCRdS3
import Derived.Test.YtclhfhjkcocdcaaMNR
import Derived.Test.YtclhfhjkcocdcaaMNE
import Derived.WalkKit
import Derived.WalkSpells
import Derived.WalkLawsBesides
import Derived.Outline
namespace Go.Proofs.Ytclhfhjkcocdcaa
open Go.RowKit
namespace NE
theorem in_grown {w w' : World} {B : Nat} {a : Option Addr} {l : List Int} {row : Option Nat} (h : In w B a l) (hg : w.grownBy w' row) (hne : l ≠ [] → ∀ g, a = some ⟨g, 0, none⟩ → some g ≠ row) : In w' B a l := by
  by_cases el : l = []
  · rw [el]; exact .nil _ _ _
  · rcases h.is with e | ⟨g, m, vs, ha, hw, h1, h2⟩
    · exact absurd e el
    · exact ⟨.inr ⟨g, m, vs, ha, hw.kept hg (.inr (hne el g ha)), h1, h2⟩⟩
theorem out_ne {T : TypeId} (hT : T ≠ 47) {w : World} {B B' n : Nat} {v : Value} {vs : List Value} {a : Option Addr} {l : List Int} (ho : w.ownsRow B T 1 v n vs) (h : In w B' a l) (hl : l ≠ []) : ∀ g, a = some ⟨g, 0, none⟩ → some g ≠ v.ownBlock := by
  intro g ea e
  rcases ho.2 with ⟨rfl, _⟩ | ⟨g4, cap4, cur4, rfl, _, hg4, _⟩
  · cases e
  · simp only [Value.ownBlock, Option.some.injEq] at e
    subst e
    rcases h.is with e | ⟨g', m, us, ha, hw, _⟩
    · exact hl e
    · rw [ea] at ha
      simp only [Option.some.injEq, Addr.mk.injEq, and_true] at ha
      subst ha
      rcases hw.2 with ⟨h', _⟩ | ⟨g3, cap3, cur3, hv3, _, hg3, _⟩
      · cases h'
      · simp only [Value.slice.injEq, Option.some.injEq, Addr.mk.injEq, and_true] at hv3
        obtain ⟨rfl, _⟩ := hv3
        rw [hg4] at hg3
        simp only [Option.some.injEq, Obj.cells.injEq] at hg3
        exact hT hg3.2.1
end NE
namespace NR
theorem in_grown {w w' : World} {B : Nat} {a : Option Addr} {l : List Int} {row : Option Nat} (h : In w B a l) (hg : w.grownBy w' row) (hne : l ≠ [] → ∀ g, a = some ⟨g, 0, none⟩ → some g ≠ row) : In w' B a l := by
  by_cases el : l = []
  · rw [el]; exact .nil _ _ _
  · rcases h.is with e | ⟨g, m, vs, ha, hw, h1, h2⟩
    · exact absurd e el
    · exact ⟨.inr ⟨g, m, vs, ha, hw.kept hg (.inr (hne el g ha)), h1, h2⟩⟩
theorem out_ne {T : TypeId} (hT : T ≠ 3) {w : World} {B B' n : Nat} {v : Value} {vs : List Value} {a : Option Addr} {l : List Int} (ho : w.ownsRow B T 1 v n vs) (h : In w B' a l) (hl : l ≠ []) : ∀ g, a = some ⟨g, 0, none⟩ → some g ≠ v.ownBlock := by
  intro g ea e
  rcases ho.2 with ⟨rfl, _⟩ | ⟨g4, cap4, cur4, rfl, _, hg4, _⟩
  · cases e
  · simp only [Value.ownBlock, Option.some.injEq] at e
    subst e
    rcases h.is with e | ⟨g', m, us, ha, hw, _⟩
    · exact hl e
    · rw [ea] at ha
      simp only [Option.some.injEq, Addr.mk.injEq, and_true] at ha
      subst ha
      rcases hw.2 with ⟨h', _⟩ | ⟨g3, cap3, cur3, hv3, _, hg3, _⟩
      · cases h'
      · simp only [Value.slice.injEq, Option.some.injEq, Addr.mk.injEq, and_true] at hv3
        obtain ⟨rfl, _⟩ := hv3
        rw [hg4] at hg3
        simp only [Option.some.injEq, Obj.cells.injEq] at hg3
        exact hT hg3.2.1
end NR
namespace RD
/-- The rows for the first k nodes. -/
def alN (xs : List I3) (k : Nat) : List (List Int) := (List.range k).map fun n => li (frm xs n)
theorem alN_len (xs : List I3) (k : Nat) : (alN xs k).length = k := by simp [alN]
theorem alN_succ (xs : List I3) (k : Nat) : alN xs (k + 1) = alN xs k ++ [li (frm xs k)] := by simp [alN, List.range_succ]
def alL (xs : List I3) : List (List Int) := if fine xs then alN xs 8 else []
theorem alL_yes {xs : List I3} (h : fine xs = true) : alL xs = alN xs 8 := by rw [alL, h]; rfl
theorem alL_no {xs : List I3} (h : fine xs = false) : alL xs = [] := by rw [alL, h]; rfl
theorem alL_len (xs : List I3) : (alL xs).length ≤ 1048576 := by unfold alL; split <;> simp [alN_len]
theorem alL_tot (xs : List I3) : NE.tot (alL xs) ≤ 1048576 := by
  unfold alL
  split
  · simp [NE.tot, alN, List.range_succ, li_len]
  · simp [NE.tot]
end RD
theorem Try.infoIS : (Try.prog.info? 32).map (fun i => (i.zero, i.size, i.bytes)) = some (some (.slice none 0 0), 1, 24) := by kernel_rfl
set_option linter.unusedSimpArgs false in
set_option maxHeartbeats 1600000 in
set_option maxRecDepth 100000 in
theorem implAll_any (a : Option Addr) (cap : Nat) (xs : List I3) (w : World) (hn : xs.length ≤ 1048576) (hin : MI3.RowAt w a xs) (L : List (List Int)) (hL : Hid (RD.alL xs = L)) (R : Bool) (hR : Hid (RD.fine xs = R)) :
    Calls Try.prog 6 #[.slice a xs.length cap] w fun e w' => ∃ a1 c1 AA CC, e = .returned (.tuple #[.slice a1 L.length c1, .bool R]) ∧ NE.Own 32 w' w.heap.size (.slice a1 L.length c1) L AA CC ∧ Below w.heap.size w w' := by
  obtain ⟨i1, hi', hz0', hz1', hz2'⟩ := info_parts Try.infoIS
  have CA : Hid _ := calmI_any a cap xs w hn hin R hR
  cases R with
  | false =>
    obtain rfl : L = [] := by rw [← hL.out, RD.alL_no hR.out]
    clear hR hL hin
    go_enter Try.func6, Try.ntmps6
    go_wp2_with fail
    refine Calls.mono CA.out ?_
    rintro e w2 ⟨rfl, hb2⟩
    clear CA
    go_wp2
    go_ret2
    exact ⟨none, 0, fun _ => none, fun _ => 0, rfl, NE.Own.nil _ _ _ _ _, hb2⟩
  | true =>
    have HL : Hid (RD.alN xs 8 = L) := by show _ = _; rw [← hL.out, RD.alL_yes hR.out]
    have HO := RD.fine_is hR.out
    have CF : Hid (∀ fn : Nat, fn < 8 → ∀ W : World, MI3.RowAt W a xs → Calls Try.prog 25 #[.slice a xs.length cap, .int .i64 (fn : Int)] W fun e w' => e = .returned (.agg (RD.il (RD.frm xs fn)).toArray) ∧ Below W.heap.size W w') := fun fn hf8 W hr => costsFrom_any a cap xs fn W hn (RD.okP_Gd HO.1) hf8 hr _ (RD.frms HO.1 HO.2 fn).1
    have HLn : Hid _ := fun k => RD.alN_len xs k
    have HSc : Hid _ := fun k => RD.alN_succ xs k
    have HZ0 : Hid (RD.alN xs 0 = []) := rfl
    generalize RD.alN xs = al at *
    generalize RD.frm xs = fr at *
    have HI : Hid _ := hin
    clear hR hL hin HO
    go_enter Try.func6, Try.ntmps6
    go_wp2_with fail
    refine Calls.mono CA.out ?_
    rintro e w2 ⟨rfl, hb2⟩
    clear CA
    have HO0 : Hid (NE.Own 32 (w2.alloc (.cells #[] 32)) w.heap.size (.slice (some ⟨w2.heap.size, 0, none⟩) 0 0) [] (fun _ => none) (fun _ => 0)) := by
      refine ⟨?_, fun j hj => by simp at hj, fun i j _ hj => by simp at hj⟩
      have := World.ownsRow_lit (base := w.heap.size) (e := 32) (size := 1) w2 #[] 0 hb2.size (by unfold maxLen; omega) (by simp)
      simpa [NE.hd] using this
    have HB0 : Hid (Below w.heap.size w (w2.alloc (.cells #[] 32))) := hb2.alloc hb2.size _
    clear hb2
    go_wp2_with fail
    go_loopw [4, 11] (fun v iv wr => ∃ (k : Nat) (ds : List (List Int)) (AA : Nat → Option Addr) (CC : Nat → Nat), iv = .int .i64 k ∧ k ≤ 8 ∧ Hid (al k = ds) ∧ Hid (NE.Own 32 wr w.heap.size v ds AA CC) ∧ Below w.heap.size w wr) (fun _ iv _ => (8 - intOf iv).toNat)
    case atStart => exact ⟨0, [], _, _, rfl, by omega, HZ0, HO0, HB0.out⟩
    case round =>
      clear HO0 HB0 HZ0
      obtain ⟨k, ds, AA, CC, rfl, hk, hds, hOW, hb⟩ := hrel
      have HDL : Hid (ds.length = k) := by show _ = _; rw [← hds.out]; exact HLn.out k
      by_cases hl : k < 8
      · have kk : (k : Int) < 8 := by omega
        have CF1 : Hid _ := CF.out k hl
        have HS2 : Hid (al (k + 1) = ds ++ [RD.li (fr k)]) := by show _ = _; rw [HSc.out k, hds.out]
        clear hds HL HSc
        generalize fr k = F at *
        go_wp2_with fail
        refine (CF1.out _ (HI.out.below hb)).mono ?_
        rintro e w3 ⟨rfl, hb3⟩
        have hB3 := hb.trans (hb3.mono hb.size)
        have HZ : Hid (MA.Rg (w3.alloc (.cells (RD.il RD.zero).toArray 47)) w3.heap.size 0 (RD.il RD.zero)) := MA.Rg.new _ _ _
        have hOB := RD.own_box w3 47 w3.heap.size (Nat.le_refl _) F
        have hb5 : Below w3.heap.size w3 ((w3.alloc (.cells (RD.il RD.zero).toArray 47)).setCells w3.heap.size 0 (RD.il F)) := MA.below_cells (Nat.le_refl _) _ _ _ ((Below.refl _ w3).alloc (Nat.le_refl _) _)
        have HI5 : Hid (NE.In ((w3.alloc (.cells (RD.il RD.zero).toArray 47)).setCells w3.heap.size 0 (RD.il F)) w3.heap.size (some ⟨w3.heap.size, 0, none⟩) (RD.li F)) := NE.In.of_own hOB
        have HOW5 : Hid (NE.Own 32 ((w3.alloc (.cells (RD.il RD.zero).toArray 47)).setCells w3.heap.size 0 (RD.il F)) w.heap.size u4 ds AA CC) := (hOW.out.below hb3).below hb5
        have HB5 : Hid (Below w.heap.size w ((w3.alloc (.cells (RD.il RD.zero).toArray 47)).setCells w3.heap.size 0 (RD.il F))) := hB3.trans (hb5.mono hB3.size)
        have HLT : Hid (∀ j, j < ds.length → NE.rw_ ds j ≠ [] → ∀ g, AA j = some ⟨g, 0, none⟩ → g < w3.heap.size) := fun j hj h0 g hg => by
          have r := (hOW.out.below hb3).row j hj
          rw [hg] at r; exact (r.lt h0).2
        have HWS : Hid (w.heap.size ≤ w3.heap.size) := hB3.size
        clear hOB hb5 hb3 hB3 hb hOW CF1
        go_wp2_with (first
          | (refine MA.alloc_z rfl 47 rfl _ _ Try.infoNC ?_; simp only [MA.sz_alloc])
          | (refine MA.store_m rfl 47 _ _ rfl rfl rfl (vs := RD.il F) (cs := RD.il RD.zero) ?_ Try.sizeNC (RD.il_len _) (RD.il_len _) (RD.il_one _) ?_; exact HZ.out; clear HZ; generalize World.setCells _ _ _ _ = W5 at *)
          | (at_builtin; go_loud (refine wpList_append_own _ rfl _ _ 25 rfl w.heap.size 32 i1 (.slice none 0 0) 1 24 Try.underlying25 hi' hz0' hz1' hz2' rfl (by decide) _ _ _ rfl (World.ownsRow.alloc HOW5.out.out _) ⟨W5.heap.size, 0, none⟩ 1 1 [.slice (some ⟨w3.heap.size, 0, none⟩) 8 8] rfl rfl ?c1 ?c2 ?c3 ?c4 ?c5 ?_)))
        all_goals try (first | rfl | omega | exact M2.new1 _ _ _ | (intro u hu; simp at hu; subst hu; rfl) | (unfold maxLen; rw [HDL.out]; omega) | (rw [HDL.out]; omega) | (have := HB5.out.size; simp; omega))
        intro v' w6 hown6 hgrow6 _
        have hold6 : ∀ j, j < ds.length → NE.In w6 w.heap.size (AA j) (NE.rw_ ds j) := fun j hj => by
          have r := HOW5.out.row j hj
          have ra : NE.In (W5.alloc (.cells #[.slice (some ⟨w3.heap.size, 0, none⟩) 8 8] 32)) w.heap.size (AA j) (NE.rw_ ds j) := r.below ((Below.refl _ W5).alloc (Nat.le_refl _) _)
          exact NE.in_grown ra hgrow6 (fun h0 => NE.out_ne (by decide) HOW5.out.out r h0)
        have hnew6 : NE.In w6 w.heap.size (some ⟨w3.heap.size, 0, none⟩) (RD.li F) := by
          have ra : NE.In (W5.alloc (.cells #[.slice (some ⟨w3.heap.size, 0, none⟩) 8 8] 32)) w3.heap.size (some ⟨w3.heap.size, 0, none⟩) (RD.li F) := NE.In.below HI5.out ((Below.refl _ W5).alloc (Nat.le_refl _) _)
          exact (NE.in_grown ra hgrow6 (fun h0 => NE.out_ne (by decide) HOW5.out.out HI5.out h0)).mono HWS.out
        have hfar6 : RD.li F ≠ [] → ∀ j, j < ds.length → NE.rw_ ds j ≠ [] → AA j ≠ some ⟨w3.heap.size, 0, none⟩ := fun _ j hj hj0 ea => by
          have h1 := HLT.out j hj hj0 _ ea
          omega
        have HOW6 : Hid _ := HOW5.out.snoc (w' := w6) (v' := v') (l := RD.li F) (a := some ⟨w3.heap.size, 0, none⟩) (c := 8) hold6 hnew6 hfar6 (by rw [RD.li_len]; exact hown6)
        have HB6 : Hid (Below w.heap.size w w6) := (HB5.out.alloc HB5.out.size _).grown hgrow6 (by have := HB5.out.size; simp; omega) (fun q hq => (HOW5.out.out.lt q hq).1)
        clear hown6 hgrow6 hold6 hnew6 hfar6 HOW5 HI5 HLT HB5
        go_wp2
        go_roundw
        case rel => exact ⟨k + 1, _, _, _, by go_num, by omega, HS2, HOW6, HB6.out⟩
        case measure => simp [intOf]; omega
      · obtain rfl : k = 8 := by omega
        obtain rfl : L = ds := by rw [← HL.out, hds.out]
        obtain ⟨a3, c3, hv, _⟩ := hOW.out.view
        subst hv
        have HLL : Hid _ := HDL
        clear hds HL HSc HLn CF HI hi' hz0' hz1' hz2'
        generalize hll : L.length = ll at *
        have HLL2 : Hid _ := hll
        clear hll
        go_wp2
        go_ret2
        exact ⟨a3, c3, AA, CC, by rw [HLL2.out]; rfl, by rw [HLL2.out]; exact hOW.out, hb⟩
set_option linter.unusedSimpArgs false in
set_option maxHeartbeats 1600000 in
set_option maxRecDepth 100000 in
theorem specAll_any (a : Option Addr) (cap : Nat) (xs : List I3) (w : World) (hn : xs.length ≤ 1048576) (hin : MI3.RowAt w a xs) (L : List (List Int)) (hL : Hid (RD.alL xs = L)) (R : Bool) (hR : Hid (RD.fine xs = R)) :
    Calls Try.prog 7 #[.slice a xs.length cap] w fun e w' => ∃ a1 c1, e = .returned (.tuple #[.slice a1 L.length c1, .bool R]) ∧ NE.RowsAt w' a1 L ∧ Below w.heap.size w w' := by
  obtain ⟨i1, hi', hz0', hz1', hz2'⟩ := info_parts Try.infoIS
  have CA : Hid _ := fineS_any a cap xs w hn hin R hR
  cases R with
  | false =>
    obtain rfl : L = [] := by rw [← hL.out, RD.alL_no hR.out]
    clear hR hL hin
    go_enter Try.func7, Try.ntmps7
    go_wp2_with fail
    refine Calls.mono CA.out ?_
    rintro e w2 ⟨rfl, hb2⟩
    clear CA
    go_wp2
    go_ret2
    exact ⟨none, 0, rfl, ⟨.inl rfl⟩, hb2⟩
  | true =>
    have HL : Hid (RD.alN xs 8 = L) := by show _ = _; rw [← hL.out, RD.alL_yes hR.out]
    have HO := RD.fine_is hR.out
    have CF : Hid (∀ fn : Nat, fn < 8 → ∀ W : World, MI3.RowAt W a xs → Calls Try.prog 27 #[.slice a xs.length cap, .int .i64 (fn : Int)] W fun e w' => ∃ a1 c1, e = .returned (.slice a1 8 c1) ∧ w'.ownsRow W.heap.size 3 1 (.slice a1 8 c1) 8 (M4.iv (RD.li (RD.frm xs fn))) ∧ Below W.heap.size W w') := fun fn hf8 W hr => fromS_any a cap xs fn W (RD.okP_len HO.1) (RD.okP_Gd HO.1) hf8 hr _ (RD.frms HO.1 HO.2 fn).2
    have HLn : Hid _ := fun k => RD.alN_len xs k
    have HSc : Hid _ := fun k => RD.alN_succ xs k
    have HZ0 : Hid (RD.alN xs 0 = []) := rfl
    generalize RD.alN xs = al at *
    generalize RD.frm xs = fr at *
    have HI : Hid _ := hin
    clear hR hL hin HO
    go_enter Try.func7, Try.ntmps7
    go_wp2_with fail
    refine Calls.mono CA.out ?_
    rintro e w2 ⟨rfl, hb2⟩
    clear CA
    have HB0 : Hid _ := hb2
    clear hb2
    go_wp2_with fail
    go_loopw [4, 5] (fun v iv wr => ∃ (k : Nat) (ds : List (List Int)) (AA : Nat → Option Addr) (CC : Nat → Nat), iv = .int .i64 k ∧ k ≤ 8 ∧ Hid (al k = ds) ∧ Hid (NR.Own 32 wr w.heap.size v ds AA CC) ∧ Below w.heap.size w wr) (fun _ iv _ => (8 - intOf iv).toNat)
    case atStart => exact ⟨0, [], fun _ => none, fun _ => 0, rfl, by omega, HZ0, NR.Own.nil _ _ _ _ _, HB0.out⟩
    case round =>
      clear HB0 HZ0
      obtain ⟨k, ds, AA, CC, rfl, hk, hds, hOW, hb⟩ := hrel
      have HDL : Hid (ds.length = k) := by show _ = _; rw [← hds.out]; exact HLn.out k
      by_cases hl : k < 8
      · have kk : (k : Int) < 8 := by omega
        have CF1 : Hid _ := CF.out k hl
        have HS2 : Hid (al (k + 1) = ds ++ [RD.li (fr k)]) := by show _ = _; rw [HSc.out k, hds.out]
        clear hds HL HSc
        generalize fr k = F at *
        go_wp2_with fail
        refine (CF1.out _ (HI.out.below hb)).mono ?_
        rintro e w3 ⟨a5, c5, rfl, ho3, hb3⟩
        have hB3 := hb.trans (hb3.mono hb.size)
        have HI5 : Hid (NR.In w3 wr.heap.size a5 (RD.li F)) := NR.In.of_own ho3
        have HOW5 : Hid (NR.Own 32 w3 w.heap.size u4 ds AA CC) := hOW.out.below hb3
        have HB5 : Hid (Below w.heap.size w w3) := hB3
        have HLT : Hid (∀ j, j < ds.length → NR.rw_ ds j ≠ [] → ∀ g, AA j = some ⟨g, 0, none⟩ → g < wr.heap.size) := fun j hj h0 g hg => by
          have r := hOW.out.row j hj
          rw [hg] at r; exact (r.lt h0).2
        have HWS : Hid (w.heap.size ≤ wr.heap.size) := hb.size
        clear hb3 hB3 hb hOW CF1 ho3
        go_wp2_with (at_builtin; go_loud (refine wpList_append_own _ rfl _ _ 25 rfl w.heap.size 32 i1 (.slice none 0 0) 1 24 Try.underlying25 hi' hz0' hz1' hz2' rfl (by decide) _ _ _ rfl (World.ownsRow.alloc HOW5.out.out _) ⟨w3.heap.size, 0, none⟩ 1 1 [.slice a5 8 c5] rfl rfl ?c1 ?c2 ?c3 ?c4 ?c5 ?_))
        all_goals try (first | rfl | omega | exact M2.new1 _ _ _ | (intro u hu; simp at hu; subst hu; rfl) | (unfold maxLen; rw [HDL.out]; omega) | (rw [HDL.out]; omega) | (have := HB5.out.size; simp; omega))
        intro v' w6 hown6 hgrow6 _
        have hold6 : ∀ j, j < ds.length → NR.In w6 w.heap.size (AA j) (NR.rw_ ds j) := fun j hj => by
          have r := HOW5.out.row j hj
          have ra : NR.In (w3.alloc (.cells #[.slice a5 8 c5] 32)) w.heap.size (AA j) (NR.rw_ ds j) := r.below ((Below.refl _ w3).alloc (Nat.le_refl _) _)
          exact NR.in_grown ra hgrow6 (fun h0 => NR.out_ne (by decide) HOW5.out.out r h0)
        have hnew6 : NR.In w6 w.heap.size a5 (RD.li F) := by
          have ra : NR.In (w3.alloc (.cells #[.slice a5 8 c5] 32)) wr.heap.size a5 (RD.li F) := NR.In.below HI5.out ((Below.refl _ w3).alloc (Nat.le_refl _) _)
          exact (NR.in_grown ra hgrow6 (fun h0 => NR.out_ne (by decide) HOW5.out.out HI5.out h0)).mono HWS.out
        have hfar6 : RD.li F ≠ [] → ∀ j, j < ds.length → NR.rw_ ds j ≠ [] → AA j ≠ a5 := fun h0 j hj hj0 ea => by
          obtain ⟨g, hg⟩ := (HOW5.out.row j hj).some hj0
          have h1 := HLT.out j hj hj0 g hg
          have r := HI5.out
          rw [← ea, hg] at r
          have := (NR.In.lt r h0).1
          omega
        have HOW6 : Hid _ := HOW5.out.snoc (w' := w6) (v' := v') (l := RD.li F) (a := a5) (c := c5) hold6 hnew6 hfar6 (by rw [RD.li_len]; exact hown6)
        have HB6 : Hid (Below w.heap.size w w6) := (HB5.out.alloc HB5.out.size _).grown hgrow6 (by have := HB5.out.size; simp; omega) (fun q hq => (HOW5.out.out.lt q hq).1)
        clear hown6 hgrow6 hold6 hnew6 hfar6 HOW5 HI5 HLT HB5
        go_wp2
        go_roundw
        case rel => exact ⟨k + 1, _, _, _, by go_num, by omega, HS2, HOW6, HB6.out⟩
        case measure => simp [intOf]; omega
      · obtain rfl : k = 8 := by omega
        obtain rfl : L = ds := by rw [← HL.out, hds.out]
        obtain ⟨a3, c3, hv, hrs⟩ := hOW.out.view
        subst hv
        have HRS : Hid (NE.RowsAt wr a3 L) := ⟨hrs.is⟩
        clear hds HL HSc HLn CF HI hi' hz0' hz1' hz2' hrs hOW
        generalize hll : L.length = ll at *
        have HLL2 : Hid _ := hll
        clear hll
        go_wp2
        go_ret2
        exact ⟨a3, c3, by rw [HLL2.out]; rfl, HRS.out, hb⟩
end Go.Proofs.Ytclhfhjkcocdcaa
