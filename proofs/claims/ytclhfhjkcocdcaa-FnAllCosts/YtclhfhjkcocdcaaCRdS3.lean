/- Costs from a node, potentials: l11From, PotentialsOf of the specification. -/
import Derived.Test.YtclhfhjkcocdcaaRows
import Derived.Test.YtclhfhjkcocdcaaCRdS2
import Derived.WalkKit
import Derived.WalkSpells
import Derived.WalkLawsBesides
import Derived.Outline
namespace Go.Proofs.Ytclhfhjkcocdcaa
open Go.RowKit
set_option linter.unusedSimpArgs false in
set_option maxHeartbeats 1600000 in
set_option maxRecDepth 100000 in
theorem fromS_any (a : Option Addr) (cap : Nat) (xs : List I3) (fn : Nat) (w : World) (hn : xs.length ≤ 20) (hg : RD.Gd xs) (hfn : fn < 8) (hin : MI3.RowAt w a xs) (F : RD.Cs) (hF : Hid ((RD.relax xs 9 (RD.start fn)).1 = F)) :
    Calls Try.prog 27 #[.slice a xs.length cap, .int .i64 (fn : Int)] w fun e w' => ∃ a1 c1, e = .returned (.slice a1 8 c1) ∧ w'.ownsRow w.heap.size 3 1 (.slice a1 8 c1) 8 (M4.iv (RD.li F)) ∧ Below w.heap.size w w' := by
  obtain ⟨i0, hi, hz0, hz1, hz2⟩ := info_parts Try.info3
  have RX : Hid _ := fun (W : World) (b : Option Addr) (cb : Nat) (hr : MI3.RowAt W a xs) (hb : M4.IntsAt W b (RD.li (RD.start fn))) => relax_any (RD.start fn) a b cap cb xs W hn hg (RD.start_bd fn) hr hb F (RD.relax xs 9 (RD.start fn)).2 (show _ = _ by rw [← hF.out])
  have HI : Hid _ := hin
  have ff1 : (fn : Int) < 8 := by omega
  have HST : Hid ((M4.iv (List.replicate 8 (1000000000 : Int))).set fn (.int .i64 0) = M4.iv (RD.li (RD.start fn))) := by
    show _ = _
    rw [M4.iv_set]
    congr 1
    have : List.replicate 8 (1000000000 : Int) = RD.li (fun _ => RD.far) := rfl
    rw [this, RD.li_set]; rfl
  generalize (RD.relax xs 9 (RD.start fn)).2 = B at *
  generalize RD.start fn = st at *
  clear hin hg hF
  go_enter Try.func27, Try.ntmps27
  go_wp2
  go_loopw [5, 6] (fun v iv wr => ∃ (k : Nat) (s : List Int), iv = .int .i64 k ∧ k ≤ 8 ∧ Hid (s = List.replicate k 1000000000) ∧ wr.ownsRow w.heap.size 3 1 v s.length (M4.iv s) ∧ Below w.heap.size w wr) (fun _ iv _ => (8 - intOf iv).toNat)
  case atStart => exact ⟨0, [], rfl, by omega, rfl, World.ownsRow_nil _ _ _ _, Below.refl _ _⟩
  case round =>
    obtain ⟨k, s, rfl, hk, hs, hown, hb⟩ := hrel
    have hbs := hb.size
    by_cases hl : k < 8
    · have kk : (k : Int) < 8 := by omega
      have hsl : s.length ≤ 8 := by rw [hs.out]; simp; omega
      have HS2 : Hid (s ++ [1000000000] = List.replicate (k + 1) (1000000000 : Int)) := by show _ = _; rw [hs.out, List.replicate_succ']
      have HO : Hid _ := hown
      have HB : Hid _ := hb
      clear hs hown hb HI RX HST
      go_wp2_with (at_builtin; go_loud (refine wpList_append_own _ rfl _ _ 32 rfl w.heap.size 3 i0 (.int .i64 0) 1 8 Try.underlying32 hi hz0 hz1 hz2 rfl (by decide) _ _ _ rfl (World.ownsRow.alloc HO.out _) ⟨wr.heap.size, 0, none⟩ 1 1 [.int .i64 1000000000] rfl rfl ?c1 ?c2 ?c3 ?c4 ?c5 ?_))
      all_goals try (first | rfl | omega | exact M2.new1 _ _ _ | exact M2.one1 _ _ | (unfold maxLen; omega) | (simp; omega))
      intro v' w3 hown1 hgrow _
      have R := M5.growI HO.out HB.out hbs (by exact hown1) hgrow
      have R1 := R.1
      have R2 := R.2
      clear hown1 hgrow R HO HB
      go_wp2
      go_roundw
      case rel => exact ⟨k + 1, s ++ [1000000000], by go_num, by omega, HS2, R1, R2⟩
      case measure => simp [intOf]; omega
    · obtain rfl : k = 8 := by omega
      obtain rfl : s = List.replicate 8 1000000000 := hs.out
      clear hs
      simp only [List.length_replicate] at hown
      obtain ⟨g, cg, hvv⟩ : ∃ g cg, u5 = .slice (some ⟨g, 0, none⟩) 8 cg := by
        rcases hown.2 with ⟨_, h⟩ | ⟨g, cg, cur, h, _⟩
        · omega
        · exact ⟨g, cg, h⟩
      subst hvv
      have hgl := (hown.lt g rfl).2
      have hgb := (hown.lt g rfl).1
      obtain ⟨y, cy⟩ : ∃ y, wr.cell? ⟨g, fn, none⟩ = some y := by
        rw [hown.cellAt fn (by omega)]
        exact ⟨_, List.getElem?_eq_getElem (by simp [M4.iv]; omega)⟩
      have fz := hown.frozenAt fn
      have hst := hown.stored fn (.int .i64 0)
      rw [HST.out] at hst
      have HO1 : Hid _ := M5.own_ints hst.1
      have HB1 : Hid _ := hb.grown hst.2 hb.size (fun j hj => by simp [Value.ownBlock] at hj; omega)
      clear hst hown hb HST hi hz0 hz1 hz2
      go_wp2_with fail
      refine (RX.out _ _ _ (HI.out.below HB1.out) HO1.out).mono ?_
      rintro e w2 ⟨a1, c1, rfl, ho2, hb2⟩
      have HO2 : Hid _ := ho2
      have HS : Hid _ := HB1.out.size
      have HB2 : Hid _ := HB1.out.trans (hb2.mono HB1.out.size)
      clear ho2 hb2 HB1 RX HI HO1 cy fz
      go_wp2
      go_ret
      exact ⟨a1, c1, rfl, RD.own_base HO2.out HS.out, HB2.out⟩
set_option linter.unusedSimpArgs false in
set_option maxHeartbeats 1600000 in
set_option maxRecDepth 100000 in
theorem specPots_any (a : Option Addr) (cap : Nat) (xs : List I3) (w : World) (hn : xs.length ≤ 1048576) (hin : MI3.RowAt w a xs) (L : List Int) (hL : Hid (RD.poL xs = L)) (R : Bool) (hR : Hid (RD.fine xs = R)) :
    Calls Try.prog 21 #[.slice a xs.length cap] w fun e w' => ∃ a1 c1, e = .returned (.tuple #[.slice a1 L.length c1, .bool R]) ∧ w'.ownsRow w.heap.size 3 1 (.slice a1 L.length c1) L.length (M4.iv L) ∧ Below w.heap.size w w' := by
  have CA : Hid _ := fineS_any a cap xs w hn hin R hR
  cases R with
  | false =>
    obtain rfl : L = [] := by rw [← hL.out, RD.poL_no hR.out]
    clear hR hL hin
    go_enter Try.func21, Try.ntmps21
    go_wp2_with fail
    refine Calls.mono CA.out ?_
    rintro e w2 ⟨rfl, hb2⟩
    clear CA
    go_wp2
    go_ret2
    exact ⟨none, 0, rfl, World.ownsRow_nil _ _ _ _, hb2⟩
  | true =>
    obtain rfl : L = RD.li (RD.pot xs) := by rw [← hL.out, RD.poL_yes hR.out]
    have HO := RD.fine_is hR.out
    have PO : Hid _ := fun (W : World) (hr : MI3.RowAt W a xs) => potsS_any a cap xs W (RD.okP_len HO.1) (RD.okP_Gd HO.1) hr (RD.pot xs) false (RD.pots HO.1 HO.2).2
    generalize RD.pot xs = F at *
    have HI : Hid _ := hin
    clear hR hL hin HO
    go_enter Try.func21, Try.ntmps21
    go_wp2_with fail
    refine Calls.mono CA.out ?_
    rintro e w2 ⟨rfl, hb2⟩
    clear CA
    go_wp2_with fail
    refine (PO.out _ (HI.out.below hb2)).mono ?_
    rintro e w3 ⟨a1, c1, rfl, ho3, hb3⟩
    have HB3 : Hid _ := hb2.trans (hb3.mono hb2.size)
    have HO3 : Hid _ := RD.own_base ho3 hb2.size
    clear hb2 hb3 PO HI ho3
    go_wp2
    go_ret2
    exact ⟨a1, c1, by rw [RD.li_len]; rfl, by rw [RD.li_len]; exact HO3.out, HB3.out⟩
end Go.Proofs.Ytclhfhjkcocdcaa
