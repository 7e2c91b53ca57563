/- WaysApart of the program. -/
import Derived.Test.YtdobnplcacaomaaRows
import Derived.Test.YtdobnplcacaomaaMWZ
import Derived.Test.YtdobnplcacaomaaCWays
import Derived.Test.YtdobnplcacaomaaCLinksI
import Derived.Test.YtdobnplcacaomaaCMaxI
import Derived.WalkKit
import Derived.WalkSpells
import Derived.WalkLawsBesides
import Derived.Outline
namespace Go.Proofs.Ytdobnplcacaomaa
open Go.RowKit
theorem Try.infoIS : (Try.prog.info? 24).map (fun i => (i.zero, i.size, i.bytes)) = some (some (.slice none 0 0), 1, 24) := by kernel_rfl
set_option linter.unusedSimpArgs false in
set_option maxHeartbeats 3200000 in
set_option maxRecDepth 100000 in
theorem implWays_any (a : Option Addr) (ca : Nat) (xs : List I2) (f t : Int) (w : World) (hn : xs.length ≤ 1048576) (hin : MI2.RowAt w a xs) :
    Calls Try.prog 27 #[.slice a xs.length ca, .int .i64 f, .int .i64 t] w fun e w' => ∃ a1 c1 AA CC, e = .returned (.tuple #[.slice a1 (LK.wsL xs f t).length c1, .bool (FL.ask (LK.pip xs) f t)]) ∧ NR.Own 24 w' w.heap.size (.slice a1 (LK.wsL xs f t).length c1) (LK.wsL xs f t) AA CC ∧ Below w.heap.size w w' := by
  obtain ⟨i1, hi', hz0', hz1', hz2'⟩ := info_parts Try.infoIS
  have WC : Hid _ := LK.wsC xs f t
  have PO : Hid _ := pipesOfOne_any a ca xs w hn hin
  have HI : Hid (MI2.RowAt w a xs) := hin
  have MXC : Hid (FL.ask (LK.pip xs) f t = true → FL.mxN (LK.pip xs) f t = FL.outUp (LK.pip xs) (FL.maxF (LK.pip xs) f t) f xs.length ∧ FL.mxL (LK.pip xs) f t = FL.maxF (LK.pip xs) f t) := fun h => by
    have := (FL.mxC (LK.pip xs) f t).yes h
    rwa [LK.pip_len] at this
  have MX : Hid (∀ (g : Nat) (W : World), MI3.RowAt W (some ⟨g, 0, none⟩) (LK.pip xs) → Calls Try.prog 59 #[.slice (some ⟨g, 0, none⟩) xs.length xs.length, .int .i64 f, .int .i64 t] W fun e w' => ∃ a1 c1, e = .returned (.tuple #[.slice a1 (FL.mxL (LK.pip xs) f t).length c1, .int .i64 (FL.mxN (LK.pip xs) f t), .bool (FL.ask (LK.pip xs) f t)]) ∧ w'.ownsRow W.heap.size 3 1 (.slice a1 (FL.mxL (LK.pip xs) f t).length c1) (FL.mxL (LK.pip xs) f t).length (M4.iv (FL.mxL (LK.pip xs) f t)) ∧ Below W.heap.size W w') := fun g W h => by
    have := implMaxFlow_any (some ⟨g, 0, none⟩) xs.length (LK.pip xs) f t W (by rw [LK.pip_len]; exact hn) h
    rwa [LK.pip_len] at this
  generalize LK.wsL xs f t = L at *
  generalize FL.mxL (LK.pip xs) f t = ML at *
  generalize FL.mxN (LK.pip xs) f t = MN at *
  generalize FL.outUp (LK.pip xs) (FL.maxF (LK.pip xs) f t) f xs.length = N0 at *
  generalize FL.maxF (LK.pip xs) f t = F at *
  generalize FL.ask (LK.pip xs) f t = is at *
  clear hin
  go_enter Try.func27, Try.ntmps27
  go_wp2_with fail
  refine Calls.mono PO.out ?_
  rintro e w0 ⟨g, rfl, ho, hb0⟩
  have MX2 : Hid _ := MX.out g w0 (MI3.RowAt.of_own ho)
  clear PO MX ho
  go_wp2_with fail
  refine Calls.mono MX2.out ?_
  rintro e w1 ⟨a1, c1, rfl, ho, hb1⟩
  have hB1 := hb0.trans (hb1.mono hb0.size)
  clear MX2
  cases is with
  | false =>
    have hL := WC.out.no rfl
    subst hL
    clear WC MXC HI ho
    go_wp2
    go_ret2
    exact ⟨none, 0, fun _ => none, fun _ => 0, rfl, NR.Own.nil _ _ _ _ _, hB1⟩
  | true =>
    obtain ⟨hok, hx20, hfl, hL, hN0, hN2, hft⟩ := WC.out.yes rfl
    have HFT : Hid _ := hft
    obtain ⟨e1, e2⟩ := MXC.out rfl
    subst e1 e2
    obtain ⟨N, hN⟩ := Int.eq_ofNat_of_zero_le hN0
    subst hN
    rw [show ((N : Nat) : Int).toNat = N from by omega] at hfl hL
    have hfl0 := hfl.len
    have hLN : L.length = N := by rw [hL]; exact LK.ways_len _ _ _ _ _
    have HLN : Hid _ := hLN
    have HLE : Hid (L = (LK.waysUp xs f t ML N).1) := hL
    have NXT : Hid (∀ i, i < N → ∀ ds fs, LK.waysUp xs f t ML i = (ds, fs) → LK.Gone xs f t (N - i - 1) ⟨f, fs, []⟩ ∧ LK.waysUp xs f t ML (i + 1) = (ds ++ [LK.strt xs (LK.fin xs f t fs).way], (LK.fin xs f t fs).fs) ∧ ds.length = i ∧ (LK.strt xs (LK.fin xs f t fs).way).length ≤ 20) := fun i hi ds fs e => by
      have g := LK.ways_flw hok hfl i (by omega)
      rw [e] at g
      refine ⟨g.gone (by omega), by rw [LK.waysUp, e], ?_, LK.way_len hok g (by omega)⟩
      have := LK.ways_len xs f t ML i; rw [e] at this; exact this
    have FW : Hid (∀ (W : World) (gf r : Nat) (fs : List Int), LK.Gone xs f t r ⟨f, fs, []⟩ → MI2.RowAt W a xs → (∀ b off, a = some ⟨b, off, none⟩ → b ≠ gf) → W.ownsRow 0 3 1 (.slice (some ⟨gf, 0, none⟩) xs.length c1) xs.length (M4.iv fs) → Calls Try.prog 60 #[.slice a xs.length ca, .int .i64 f, .int .i64 t, .slice (some ⟨gf, 0, none⟩) xs.length c1] W fun e w' => ∃ a1 c2, e = .returned (.slice a1 (LK.strt xs (LK.fin xs f t fs).way).length c2) ∧ NR.In w' W.heap.size a1 (LK.strt xs (LK.fin xs f t fs).way) ∧ w'.ownsRow 0 3 1 (.slice (some ⟨gf, 0, none⟩) xs.length c1) xs.length (M4.iv (LK.fin xs f t fs).fs) ∧ MC.Only gf W w') := fun W gf r fs h1 h2 h3 h4 => followWay_any a ca gf c1 xs f t r fs W hok h1 h2 h3 h4
    have ST : Hid (LK.waysUp xs f t ML 0 = ([], ML)) := rfl
    rw [hfl0] at ho ⊢
    have HO1 : Hid (World.ownsRow w1 w0.heap.size 3 1 (.slice a1 xs.length c1) xs.length (M4.iv ML)) := ho
    have hs0 := hb0.size
    have hs1 := hb1.size
    clear WC MXC hok hfl hL hfl0 ho hN0 hLN hb0 hb1 hft
    go_wp2_with (at_make; refine wpList_make_full _ rfl _ _ 45 rfl w1.heap.size 24 i1 (.slice none 0 0) 1 Try.underlying45 hi' hz0' hz1' .i64 .i64 _ _ N rfl rfl rfl rfl ?_ ?_ ?_ ?_)
    · rw [hz2']; omega
    · unfold maxLen; omega
    · omega
    intro w2 hown hgrow
    rw [toList_madeCells_one] at hown
    have hb2 : Below w1.heap.size w1 w2 := (Below.refl _ _).grown hgrow (Nat.le_refl _) (fun k hk => by cases hk)
    have HW0 : Hid (LK.Ws 24 w2 w1.heap.size w1.heap.size N [] (fun _ => none) (fun _ => 0)) := ⟨by simpa [NR.hd] using hown, fun j hj => by simp at hj, fun i j _ hj => by simp at hj⟩
    have HO2 : Hid _ := M5.own_below HO1.out hb2
    have hB2 := hB1.trans (hb2.mono hB1.size)
    have hgl : ∀ gf, a1 = some ⟨gf, 0, none⟩ → w0.heap.size ≤ gf ∧ gf < w1.heap.size := fun gf e => HO1.out.lt gf (by rw [e]; rfl)
    have HGL : Hid _ := hgl
    clear hgrow hown HO1 hi' hz0' hz1' hz2' hb2 hgl
    go_wp2
    go_loopw [28] (fun iv wr => ∃ (i : Nat) (ds : List (List Int)) (fs : List Int) (AA : Nat → Option Addr) (CC : Nat → Nat), iv = .int .i64 i ∧ i ≤ N ∧ Hid (LK.waysUp xs f t ML i = (ds, fs)) ∧ Hid (LK.Ws 24 wr w1.heap.size w1.heap.size N ds AA CC) ∧ Hid (World.ownsRow wr w0.heap.size 3 1 (.slice a1 xs.length c1) xs.length (M4.iv fs)) ∧ Below w.heap.size w wr ∧ w1.heap.size ≤ wr.heap.size) (fun iv _ => (N - intOf iv).toNat)
    case atStart => exact ⟨0, [], ML, _, _, rfl, by omega, ST, HW0, HO2, hB2, Nat.le_of_lt (HW0.out.out.lt _ rfl).2⟩
    case round =>
      clear ST HW0 HO2 hB2
      obtain ⟨i, ds, fs, AA, CC, rfl, hi, hU, HWs, HOF, hb, hsz⟩ := hrel
      by_cases hl : i < N
      · obtain ⟨hG, hU2, hdl, hwl⟩ := NXT.out i hl ds fs hU.out
        have hxp : 0 < xs.length := by
          obtain ⟨k, hk⟩ := hG.some HFT.out; exact Nat.lt_of_le_of_lt (Nat.zero_le _) hk.lt
        obtain ⟨gf, rfl⟩ : ∃ gf, a1 = some ⟨gf, 0, none⟩ := by
          rcases HOF.out.2 with ⟨h', h0⟩ | ⟨gf, cap, cur, hv, _⟩
          · omega
          · simp only [Value.slice.injEq] at hv; exact ⟨gf, hv.1⟩
        obtain ⟨hg0, hg1⟩ := HGL.out gf rfl
        have hne : ∀ b off, a = some ⟨b, off, none⟩ → b ≠ gf := fun b off e => by
          rcases HI.out.is with e2 | ⟨b', o', e2, h2, _⟩
          · rw [e2] at hxp; simp at hxp
          · rw [e] at e2; simp only [Option.some.injEq, Addr.mk.injEq, and_true] at e2; omega
        have FW2 : Hid _ := FW.out wr gf (N - i - 1) fs hG (HI.out.below hb) hne (FL.own_base HOF.out (Nat.zero_le _))
        have HU2 : Hid _ := hU2
        have HDL : Hid _ := hdl
        generalize LK.strt xs (LK.fin xs f t fs).way = l at *
        generalize (LK.fin xs f t fs).fs = fs2 at *
        clear NXT FW hG hU2 hdl hU
        go_wp2_with fail
        refine Calls.mono FW2.out ?_
        rintro e w3 ⟨a2, c2, rfl, hI2, hF2, hO2⟩
        have hW3 := HWs.out.only hO2 hg1
        have hdN : ds.length < N := by rw [HDL.out]; exact hl
        have hW4 := hW3.put (c := c2) (by decide) hdN hI2 hsz (fun j hj h0 g' hg' => HWs.out.lt j hj h0 g' hg')
        rw [HDL.out] at hW4
        have hlen := hW3.out.1
        have hcell : ∃ u, w3.cell? ⟨w1.heap.size, i, none⟩ = some u := by
          rw [hW3.out.cellAt i (by omega)]
          exact ⟨_, List.getElem?_eq_getElem (by omega)⟩
        obtain ⟨u, hcell⟩ := hcell
        have hfz := hW3.out.frozenAt i
        have hb3 : Below w.heap.size w w3 := hb.trans (hO2.below (by omega) hb.size)
        have on4 := (MC.Only.refl w1.heap.size w3).setCell i (.slice a2 l.length c2)
        have hF4 := NR.own_only hF2 on4 (fun e => by simp only [Value.ownBlock, Option.some.injEq] at e; omega)
        have hb4 := hb3.trans (on4.below (by have := hB1.size; omega) hb3.size)
        have hs4 : w1.heap.size ≤ (w3.setCell ⟨w1.heap.size, i, none⟩ (.slice a2 l.length c2)).heap.size := Nat.le_trans hsz (Nat.le_trans hO2.size on4.size)
        have HW4 : Hid _ := hW4
        have HF4 : Hid (World.ownsRow (w3.setCell ⟨w1.heap.size, i, none⟩ (.slice a2 l.length c2)) w0.heap.size 3 1 (.slice (some ⟨gf, 0, none⟩) xs.length c1) xs.length (M4.iv fs2)) := FL.own_rebase hF4 hg0
        clear FW2 hI2 hF2 hO2 hW3 hW4 HWs HOF hlen hb3 on4 hF4 hb HDL hdN hne
        go_wp2
        go_roundw
        case rel => exact ⟨i + 1, _, fs2, _, _, by go_num, by omega, HU2, HW4, HF4, hb4, hs4⟩
        case measure => simp [intOf]; omega
      · obtain rfl : i = N := by omega
        have hE : L = ds := by have h1 := HLE.out; rw [hU.out] at h1; exact h1
        subst hE
        have hOw := HWs.out.own HLN.out
        have HRES : Hid (NR.Own 24 wr w.heap.size (.slice (some ⟨w1.heap.size, 0, none⟩) i i) L AA CC) := ⟨FL.own_base hOw.out hB1.size, fun j hj => (hOw.row j hj).mono hB1.size, hOw.far⟩
        clear NXT FW HLE HWs HOF hOw hU HGL HI
        go_wp2
        go_ret2
        exact ⟨some ⟨w1.heap.size, 0, none⟩, i, AA, CC, by rw [HLN.out]; rfl, by rw [HLN.out]; exact HRES.out, hb⟩
end Go.Proofs.Ytdobnplcacaomaa
