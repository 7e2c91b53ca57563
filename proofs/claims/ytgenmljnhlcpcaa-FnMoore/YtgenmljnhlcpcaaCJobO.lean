/- Orders of jobs that are drawn (laid by tools/gen_jobo.py). -/
import Derived.Test.YtgenmljnhlcpcaaRows
import Derived.Test.YtgenmljnhlcpcaaCJobD
import Derived.Test.YtgenmljnhlcpcaaCJobS1
import Derived.Test.YtgenmljnhlcpcaaMRP
import Derived.Test.YtgenmljnhlcpcaaMRA
import Derived.Test.YtgenmljnhlcpcaaMCurNew
import Derived.Test.YtgenmljnhlcpcaaCSomeD
namespace Go.Proofs.Ytgenmljnhlcpcaa
open Go.RowKit
namespace JDO
def lenV : Value → Nat
  | .slice _ n _ => n
  | _ => 0
theorem own_grown {w w' : World} {base e sz n : Nat} {v : Value} {xs : List Value} {row : Option Nat} (h : w.ownsRow base e sz v n xs) (hg : w.grownBy w' row) (hne : ∀ j, v.ownBlock = some j → row ≠ some j) : w'.ownsRow base e sz v n xs := by
  refine ⟨h.1, ?_⟩
  rcases h.2 with h' | ⟨g, cap', cur, rfl, hb, hh, rest⟩
  · exact .inl h'
  · refine .inr ⟨g, cap', cur, rfl, hb, (hg.block g (Array.getElem?_eq_some_iff.1 hh).1 (fun e => hne g rfl e.symm)).trans hh, rest⟩
end JDO
set_option linter.unusedSimpArgs false in
set_option maxHeartbeats 3200000 in
set_option maxRecDepth 100000 in
theorem jobOrder_any (p : Nat) (a : Option Addr) (zs : List Int) (cap M n : Nat) (w : World) (hz : zs.length ≤ 140737488355328) (hM : M ≤ 140737488340000) (hn : n ≤ 100) (hc : MC.Cur w p a zs cap M) :
    Calls Try.prog 22 #[.pointer (some ⟨p, 0, none⟩), .int .i64 (n : Int)] w fun e w' => ∃ a1 c1 l, e = .returned (.slice a1 (List.length l) c1) ∧ l.length = n ∧ w'.ownsRow w.heap.size 3 1 (.slice a1 l.length c1) l.length (M4.iv l) ∧ MC.Cur w' p a zs cap (M + 2 * n + 10) ∧ MC.Only p w w' := by
  obtain ⟨i0, hi, hz0, hz1, hz2⟩ := info_parts Try.info3
  have hplt := hc.lt
  have HC : Hid _ := hc
  clear hc
  go_enter Try.func22, Try.ntmps22
  go_wp2_with fail
  refine (l12All_any n w (by omega)).mono ?_
  rintro e w1 ⟨a1, c1, rfl, o1, b1⟩
  have HO1 : Hid _ := o1
  have HC1 : Hid (MC.Cur w1 p a zs cap M) := MC.Cur.below HC.out b1
  have hon1 : MC.Only p w w1 := MC.Only.of_below b1
  have HNL : Hid ((JD.nums n).length = n) := JD.nums_len n
  clear o1 b1 HC
  generalize JD.nums n = L0 at *
  go_wp2
  go_loopw [5, 6, 7] (fun lv ov _ wr => ∃ (m ol : Nat) (L O : List Int) (la oa : Option Addr) (lc oc B M' : Nat), lv = .slice la m lc ∧ ov = .slice oa ol oc ∧ Hid (L.length = m) ∧ Hid (O.length = ol) ∧ Hid (ol + m = n) ∧ Hid (World.ownsRow wr B 3 1 (.slice la m lc) m (M4.iv L)) ∧ Hid (World.ownsRow wr w.heap.size 3 1 (.slice oa ol oc) ol (M4.iv O)) ∧ Hid (∀ j, (Value.slice oa ol oc).ownBlock = some j → j < B) ∧ w.heap.size ≤ B ∧ Hid (MC.Cur wr p a zs cap M') ∧ Hid (M' + 2 * m ≤ M + 2 * n) ∧ MC.Only p w wr) (fun lv _ _ _ => JDO.lenV lv)
  case atStart => exact ⟨n, 0, L0, [], a1, none, c1, 0, w.heap.size, M, rfl, rfl, HNL, (show Hid _ from rfl), (show Hid _ from by show _ = _; omega), HO1, (show Hid _ from World.ownsRow_nil _ _ _ _), (show Hid _ from fun j hj => by cases hj), Nat.le_refl _, HC1, (show Hid _ from Nat.le_refl _), hon1⟩
  case round =>
    clear HO1 HC1 hon1 HNL
    obtain ⟨m0, ol, L, O, la, oa, lc, oc, B, M', rfl, rfl, HTS, HOL, HON, HLL, HOO, HSEP, hwB, HCC, HMM, hon⟩ := hrel
    have hos := hon.size
    have hm100 : m0 ≤ 100 := by have := HON.out; omega
    have hol100 : ol ≤ 100 := by have := HON.out; omega
    have hMb : M' ≤ 140737488350000 := by have := HMM.out; omega
    by_cases hm0 : 0 < m0
    · obtain ⟨m, hme⟩ : ∃ m, m0 = m + 1 := ⟨m0 - 1, by omega⟩
      subst hme
      obtain ⟨lg, rfl⟩ := JD.own_some HLL.out (by omega)
      have m0z : (0 : Int) < (m : Int) + 1 := by omega
      go_wp2_with fail
      refine (pick_any p a zs cap M' _ _ hz hMb HCC.out).mono ?_
      rintro e w2 ⟨r, rfl, hr, _, hc2, ho2⟩
      have hrm : r < m + 1 := by omega
      have HC2 : Hid _ := hc2
      have hlgB := (HLL.out.lt lg rfl).1
      have HL2 : Hid (World.ownsRow w2 B 3 1 (.slice (some ⟨lg, 0, none⟩) (m + 1) lc) (m + 1) (M4.iv L)) := MC.own_only HLL.out ho2 (by omega)
      have HO2 : Hid (World.ownsRow w2 w.heap.size 3 1 (.slice oa ol oc) ol (M4.iv O)) := MC.own_only HOO.out ho2 hplt
      have hon2 := hon.trans ho2
      have hs2 := hon2.size
      clear hr hc2 ho2 HLL HOO HCC hon
      obtain ⟨b6, off6, hb6, hlt6, hc6⟩ := (M4.IntsAt.of_own HL2.out).at (k := r) (by rw [HTS.out]; exact hrm)
      cases hb6
      rw [Nat.zero_add] at hc6
      generalize L.getD r 0 = x at *
      have rz : (r : Int) < (m : Int) + 1 := by omega
      go_wp2_with (at_builtin; go_loud (refine wpList_append_own _ rfl _ _ 24 rfl w.heap.size 3 i0 (.int .i64 0) 1 8 Try.underlying24 hi hz0 hz1 hz2 rfl (by decide) _ _ _ rfl (World.ownsRow.alloc HO2.out _) ⟨w2.heap.size, 0, none⟩ 1 1 [.int .i64 x] rfl rfl ?c1 ?c2 ?c3 ?c4 ?c5 ?_))
      all_goals try (first | rfl | omega | exact M2.new1 _ _ _ | exact M2.one1 _ _ | (unfold maxLen; omega) | (simp; omega))
      intro v' wx hown1 hgrow _
      have HOO : Hid (World.ownsRow wx w.heap.size 3 1 v' (O.length + 1) (M4.iv (O ++ [x]))) := by
        show World.ownsRow _ _ _ _ _ _ _
        rw [HOL.out]; simpa [M4.iv] using hown1
      obtain ⟨oa2, oc2, rfl⟩ : ∃ oa2 oc2, v' = .slice oa2 (O.length + 1) oc2 := JD.own_slice HOO.out
      have HCC : Hid (MC.Cur wx p a zs cap (M' + 2)) := (MC.Cur.alloc HC2.out _).grown hgrow (fun j hj => by have := (HO2.out.lt j hj).1; omega)
      have honx : MC.Only p w wx := (hon2.alloc _).grown hgrow (fun j hj => (HO2.out.lt j hj).1)
      have hsx : w2.heap.size + 1 ≤ wx.heap.size := by have := hgrow.size; simpa using this
      have HLL : Hid (World.ownsRow wx B 3 1 (.slice (some ⟨lg, 0, none⟩) (m + 1) lc) (m + 1) (M4.iv L)) := JDO.own_grown (World.ownsRow.alloc HL2.out _) hgrow (fun j hj e => by
        have h1 := HSEP.out j e
        simp only [Value.ownBlock, Option.some.injEq] at hj
        omega)
      have HOL2 : Hid (ol = O.length) := HOL.out.symm
      clear hown1 hgrow HO2 HL2 HC2 HSEP hc6 hon2
      have hxs := honx.size
      obtain ⟨hp1, hp2⟩ := JD.own_cap HLL.out
      have hp3 : r ≤ lc := by omega
      have hp4 : r + 1 ≤ m + 1 := by omega
      have hp5 : (r : Int) ≤ (lc : Int) := by omega
      have hp6 : (r : Int) + 1 ≤ (m : Int) + 1 := by omega
      have hwp : IntKind.i64.wrap ((r : Int) + 1) = (r : Int) + 1 := by rw [IntKind.wrap_i64]; unfold maxLen at hp2; omega
      have hc63 : lc ≤ 9223372036854775807 := by unfold maxLen at hp2; omega
      have hgl := (HLL.out.lt lg rfl).2
      have HO1b : World.ownsRow wx B 3 1 (.slice (some ⟨lg, 0, none⟩) L.length lc) L.length (M4.iv L) := by rw [HTS.out]; exact HLL.out
      have OWL : Hid (World.ownsRow ((World.drew wx).alloc (.cells #[] 3)) wx.heap.size 3 1 (.slice (some ⟨wx.heap.size, 0, none⟩) 0 0) 0 []) := by
        have := World.ownsRow_lit (base := wx.heap.size) (e := 3) (size := 1) (World.drew wx) #[] 0 (Nat.le_refl _) (by unfold maxLen; omega) (by simp)
        show World.ownsRow _ _ _ _ _ _ _
        simpa using this
      have BL : Below wx.heap.size wx ((World.drew wx).alloc (.cells #[] 3)) := ((Below.refl _ wx).drew).alloc (Nat.le_refl _) _
      have N1 : Hid (∀ j u, (M4.iv (L.take r))[j]? = some u → ((World.drew wx).alloc (.cells #[] 3)).cell? ((⟨lg, 0, none⟩ : Addr).add j) = some u) := fun j u hj => by
        rw [EG.add_is, BL.cell (p := ⟨lg, 0 + j, none⟩) hgl, ← EG.add_is]
        exact EG.cells_take HO1b r j u hj
      have hwx : w.heap.size ≤ wx.heap.size := hxs
      rw [HOL2.out] at HON
      go_wp2
      by_cases hq0 : lc = r + 1
      · have N2 : Hid (∀ W2, Below wx.heap.size wx W2 → ∀ j u, (M4.iv (L.drop (r + 1)))[j]? = some u → W2.cell? ((⟨lg, 0, none⟩ : Addr).add j) = some u) := fun W2 hW j u hj => by rw [List.drop_of_length_le (by rw [HTS.out]; omega)] at hj; simp [M4.iv] at hj
        obtain rfl : r = m := by omega
        subst hq0
        have HOL3 : Hid True := trivial
        clear HOL HOL2
        refine MR.frame fun A hA => ?_
        have hsz : A.tmps.size = 47 := by rw [hA]; rfl
        have e5 : A.eval (.tmp 5) = .slice (some ⟨lg, 0, none⟩) (r + 1) (r + 1) := by rw [hA]; rfl
        have f5 := MR.read (t := 5) (by rw [hsz]; decide) e5
        have e7 : A.eval (.tmp 7) = .int .i64 (r : Int) := by rw [hA]; rfl
        have f7 := MR.read (t := 7) (by rw [hsz]; decide) e7
        have HA : Hid (A = _) := hA
        clear hA
        refine MR.cut (fun aa w' => ∃ (v5 : Value) (a6 : Option Addr) (c6 : Nat), aa = (((((((((((A.put (some 24) (.slice (some ⟨wx.heap.size, 0, none⟩) 0 0)).put (some 25) (.slice (some ⟨lg, 0, none⟩) (r + 1) (r + 1))).put (some 26) (.int .i64 (r : Int))).put (some 27) (.slice (some ⟨lg, 0, none⟩) r (r + 1))).put (some 28) (v5)).put (some 29) (.slice (some ⟨lg, 0, none⟩) (r + 1) (r + 1))).put (some 30) (.int .i64 (r : Int))).put (some 31) (.int .i64 ((r : Int) + 1))).put (some 32) (.slice (some ⟨lg, 0, none⟩) 0 0)).put (some 33) (.slice a6 r c6)).put (some 5) (.slice a6 r c6)) ∧ Hid (World.ownsRow w' wx.heap.size 3 1 (.slice a6 r c6) r (M4.iv (L.take r ++ L.drop (r + 1)))) ∧ Below wx.heap.size wx w') ?_ ?_
        · refine wp_region_held (S := fun _ => True) (by kernel_rfl) ?_
          change wpAnyH _ _ _ _ _ _ _ _ (World.drew _)
          refine MR.takeH (i := 1) (some 25) (.slice (some ⟨lg, 0, none⟩) (r + 1) (r + 1)) rfl rfl (by kernel_rfl) (by kernel_rfl) (by kernel_rfl) nofun trivial (MR.free rfl) (fun wq hw => by simp [execOp, MR.ev, MR.size, hsz, e5, f5, e7, f7, go_sem]) ?_
          refine MR.takeH (i := 2) (some 26) (.int .i64 (r : Int)) rfl rfl (by kernel_rfl) (by kernel_rfl) (by kernel_rfl) nofun trivial (MR.free rfl) (fun wq hw => by simp [execOp, MR.ev, MR.size, hsz, e5, f5, e7, f7, go_sem]) ?_
          refine MR.takeH (i := 3) (some 27) (.slice (some ⟨lg, 0, none⟩) r (r + 1)) rfl rfl (by kernel_rfl) (by kernel_rfl) (by kernel_rfl) nofun trivial (MR.free rfl) (fun wq hw => by simp [execOp, MR.ev, MR.size, hsz, e5, f5, e7, f7, hp1, hp2, hp3, hp4, hp5, hp6, go_sem]; try (intro h; omega)) ?_
          refine MR.takeH (i := 5) (some 29) (.slice (some ⟨lg, 0, none⟩) (r + 1) (r + 1)) rfl rfl (by kernel_rfl) (by kernel_rfl) (by kernel_rfl) nofun trivial (MR.free rfl) (fun wq hw => by simp [execOp, MR.ev, MR.size, hsz, e5, f5, e7, f7, go_sem]) ?_
          refine MR.takeH (i := 6) (some 30) (.int .i64 (r : Int)) rfl rfl (by kernel_rfl) (by kernel_rfl) (by kernel_rfl) nofun trivial (MR.free rfl) (fun wq hw => by simp [execOp, MR.ev, MR.size, hsz, e5, f5, e7, f7, go_sem]) ?_
          refine MR.takeH (i := 7) (some 31) (.int .i64 ((r : Int) + 1)) rfl rfl (by kernel_rfl) (by kernel_rfl) (by kernel_rfl) nofun trivial (MR.free rfl) (fun wq hw => by simp [execOp, MR.ev, MR.size, hsz, e5, f5, e7, f7, hwp, go_sem]) ?_
          refine MR.takeH (i := 8) (some 32) (.slice (some ⟨lg, 0, none⟩) 0 0) rfl rfl (by kernel_rfl) (by kernel_rfl) (by kernel_rfl) nofun trivial (MR.free rfl) (fun wq hw => by simp [execOp, MR.ev, MR.size, hsz, e5, f5, e7, f7, hp1, hp2, hp3, hp4, hp5, hp6, go_sem]; try (intro h; omega)) ?_
          refine MR.nowH (w' := (World.drew wx).alloc (.cells #[] 3)) (i := 0) (some 24) (.slice (some ⟨wx.heap.size, 0, none⟩) 0 0) (by kernel_rfl) rfl rfl (MR.free rfl) (by simp [execOp, MR.ev, MR.size, hsz, e5, f5, e7, f7, go_sem]) ⟨trivial, ?_⟩
          obtain ⟨v5, w5, hrun5, hown5, hgrow5, _⟩ := run_append_own (P := Try.prog) (w := (World.drew wx).alloc (.cells #[] 3)) wx.heap.size 24 24 3 i0 (.int .i64 0) 1 8 Try.underlying24 hi hz0 hz1 hz2 rfl (by decide) (.slice (some ⟨wx.heap.size, 0, none⟩) 0 0) 0 [] OWL.out ⟨lg, 0, none⟩ r (r + 1) (M4.iv (L.take r)) (by simp [M4.iv, HTS.out]; try omega) N1.out (EG.iv_one _) (by unfold maxLen; omega) (by omega) (by simp)
          have B5 : Below wx.heap.size wx w5 := BL.grown hgrow5 (by simp) (fun j hj => by simp [Value.ownBlock] at hj; omega)
          refine MR.nowH (w' := w5) (i := 4) (some 28) v5 (by kernel_rfl) rfl rfl (MR.free rfl) (RA.app_run rfl (by simp [MR.ev, MR.size, hsz, e5, f5, e7, f7]) (by simp [MR.ev, MR.size, hsz, e5, f5, e7, f7]) hrun5) ⟨trivial, ?_⟩
          obtain ⟨v6, w6, hrun6, hown6, hgrow6, _⟩ := run_append_own (P := Try.prog) (w := w5) wx.heap.size 24 24 3 i0 (.int .i64 0) 1 8 Try.underlying24 hi hz0 hz1 hz2 rfl (by decide) v5 (0 + r) ([] ++ M4.iv (L.take r)) hown5 ⟨lg, 0, none⟩ 0 0 (M4.iv (L.drop (r + 1))) (by simp [M4.iv, HTS.out]; try omega) (N2.out w5 B5) (EG.iv_one _) (by unfold maxLen; omega) (by omega) B5.size
          have B6 : Below wx.heap.size wx w6 := B5.grown hgrow6 B5.size (fun j hj => (World.ownsRow.lt hown5 j hj).1)
          have e6 : 0 + r + 0 = r := by omega
          have R6 : w6.ownsRow wx.heap.size 3 1 v6 r (M4.iv (L.take r ++ L.drop (r + 1))) := by
            rw [M4.iv, List.map_append]
            rw [e6] at hown6
            exact hown6
          obtain ⟨a6, c6, rfl⟩ := JD.own_slice R6
          refine MR.nowH (w' := w6) (i := 9) (some 33) (.slice a6 r c6) (by kernel_rfl) rfl rfl (MR.free rfl) (RA.app_run rfl (by simp [MR.ev, MR.size, hsz, e5, f5, e7, f7]) (by simp [MR.ev, MR.size, hsz, e5, f5, e7, f7]) hrun6) ⟨trivial, ?_⟩
          refine MR.takeH (i := 10) (some 5) (.slice a6 r c6) rfl rfl (by kernel_rfl) (by kernel_rfl) (by kernel_rfl) nofun trivial (MR.free rfl) (fun wq hw => by simp [execOp, MR.ev, MR.size, hsz, e5, f5, e7, f7, go_sem]) ?_
          exact wpAnyH_done (by kernel_rfl) ⟨rfl, v5, a6, c6, by simp [Act.put, Array.setIfInBounds_comm], R6, B6⟩ _
        · rintro aa w7 ⟨v5, a6, c6, rfl, HO7, hb7⟩
          rw [HA.out]
          simp only [Act.put, List.setIfInBounds_toArray, List.set_cons_succ, List.set_cons_zero]
          clear HA hsz e5 f5 e7 f7
          have hs7 := hb7.size
          have A1 : Hid (World.ownsRow w7 w.heap.size 3 1 (.slice oa2 (O.length + 1) oc2) (O.length + 1) (M4.iv (O ++ [x]))) := M5.own_below HOO.out hb7
          have A2 : Hid (∀ j, (Value.slice oa2 (O.length + 1) oc2).ownBlock = some j → j < wx.heap.size) := fun j hj => (HOO.out.lt j hj).2
          have A3 : Hid (MC.Cur w7 p a zs cap (M' + 2)) := MC.Cur.below HCC.out hb7
          have A4 : MC.Only p w w7 := honx.trans (MC.Only.of_below hb7)
          have A5 : Hid ((L.take r ++ L.drop (r + 1)).length = r) := by show _ = _; rw [List.length_append, List.length_take, List.length_drop, HTS.out]; omega
          have A6 : Hid ((O ++ [x]).length = O.length + 1) := by show _ = _; simp
          clear hp1 hp2 hp3 hp4 hp5 hp6 OWL N1 N2 HLL HOO HCC HTS honx hb7 BL HO1b
          generalize L.take r ++ L.drop (r + 1) = L2 at *
          generalize O ++ [x] = O2 at *
          generalize hol : O.length + 1 = ol at *
          have HOL : Hid _ := hol
          clear hol
          go_wp2
          go_roundw
          case rel => exact ⟨r, ol, L2, O2, a6, oa2, c6, oc2, wx.heap.size, M' + 2, rfl, rfl, A5, A6, (show Hid _ from by show _ = _; have := HON.out; have := HOL.out; omega), HO7, A1, A2, (by omega), A3, (show Hid _ from by show _ ≤ _; have := HMM.out; omega), A4⟩
          case measure => simp [JDO.lenV]
      · have hq1 : ¬ (r + 1 = lc) := by omega
        have hq2 : ¬ (lc = r + 1) := hq0
        have N2 : Hid (∀ W2, Below wx.heap.size wx W2 → ∀ j u, (M4.iv (L.drop (r + 1)))[j]? = some u → W2.cell? ((⟨lg, r + 1, none⟩ : Addr).add j) = some u) := fun W2 hW => EG.cells_drop HO1b (r + 1) hgl hW
        have HOL3 : Hid True := trivial
        clear HOL HOL2
        refine MR.frame fun A hA => ?_
        have hsz : A.tmps.size = 47 := by rw [hA]; rfl
        have e5 : A.eval (.tmp 5) = .slice (some ⟨lg, 0, none⟩) (m + 1) lc := by rw [hA]; rfl
        have f5 := MR.read (t := 5) (by rw [hsz]; decide) e5
        have e7 : A.eval (.tmp 7) = .int .i64 (r : Int) := by rw [hA]; rfl
        have f7 := MR.read (t := 7) (by rw [hsz]; decide) e7
        have HA : Hid (A = _) := hA
        clear hA
        refine MR.cut (fun aa w' => ∃ (v5 : Value) (a6 : Option Addr) (c6 : Nat), aa = (((((((((((A.put (some 24) (.slice (some ⟨wx.heap.size, 0, none⟩) 0 0)).put (some 25) (.slice (some ⟨lg, 0, none⟩) (m + 1) lc)).put (some 26) (.int .i64 (r : Int))).put (some 27) (.slice (some ⟨lg, 0, none⟩) r lc)).put (some 28) (v5)).put (some 29) (.slice (some ⟨lg, 0, none⟩) (m + 1) lc)).put (some 30) (.int .i64 (r : Int))).put (some 31) (.int .i64 ((r : Int) + 1))).put (some 32) (.slice (some ⟨lg, r + 1, none⟩) (m + 1 - (r + 1)) (lc - (r + 1)))).put (some 33) (.slice a6 m c6)).put (some 5) (.slice a6 m c6)) ∧ Hid (World.ownsRow w' wx.heap.size 3 1 (.slice a6 m c6) m (M4.iv (L.take r ++ L.drop (r + 1)))) ∧ Below wx.heap.size wx w') ?_ ?_
        · refine wp_region_held (S := fun _ => True) (by kernel_rfl) ?_
          change wpAnyH _ _ _ _ _ _ _ _ (World.drew _)
          refine MR.takeH (i := 1) (some 25) (.slice (some ⟨lg, 0, none⟩) (m + 1) lc) rfl rfl (by kernel_rfl) (by kernel_rfl) (by kernel_rfl) nofun trivial (MR.free rfl) (fun wq hw => by simp [execOp, MR.ev, MR.size, hsz, e5, f5, e7, f7, go_sem]) ?_
          refine MR.takeH (i := 2) (some 26) (.int .i64 (r : Int)) rfl rfl (by kernel_rfl) (by kernel_rfl) (by kernel_rfl) nofun trivial (MR.free rfl) (fun wq hw => by simp [execOp, MR.ev, MR.size, hsz, e5, f5, e7, f7, go_sem]) ?_
          refine MR.takeH (i := 3) (some 27) (.slice (some ⟨lg, 0, none⟩) r lc) rfl rfl (by kernel_rfl) (by kernel_rfl) (by kernel_rfl) nofun trivial (MR.free rfl) (fun wq hw => by simp [execOp, MR.ev, MR.size, hsz, e5, f5, e7, f7, hp1, hp2, hp3, hp4, hp5, hp6, hq1, hq2, go_sem]; try (intro h; omega)) ?_
          refine MR.takeH (i := 5) (some 29) (.slice (some ⟨lg, 0, none⟩) (m + 1) lc) rfl rfl (by kernel_rfl) (by kernel_rfl) (by kernel_rfl) nofun trivial (MR.free rfl) (fun wq hw => by simp [execOp, MR.ev, MR.size, hsz, e5, f5, e7, f7, go_sem]) ?_
          refine MR.takeH (i := 6) (some 30) (.int .i64 (r : Int)) rfl rfl (by kernel_rfl) (by kernel_rfl) (by kernel_rfl) nofun trivial (MR.free rfl) (fun wq hw => by simp [execOp, MR.ev, MR.size, hsz, e5, f5, e7, f7, go_sem]) ?_
          refine MR.takeH (i := 7) (some 31) (.int .i64 ((r : Int) + 1)) rfl rfl (by kernel_rfl) (by kernel_rfl) (by kernel_rfl) nofun trivial (MR.free rfl) (fun wq hw => by simp [execOp, MR.ev, MR.size, hsz, e5, f5, e7, f7, hwp, go_sem]) ?_
          refine MR.takeH (i := 8) (some 32) (.slice (some ⟨lg, r + 1, none⟩) (m + 1 - (r + 1)) (lc - (r + 1))) rfl rfl (by kernel_rfl) (by kernel_rfl) (by kernel_rfl) nofun trivial (MR.free rfl) (fun wq hw => by simp [execOp, MR.ev, MR.size, hsz, e5, f5, e7, f7, hp1, hp2, hp3, hp4, hp5, hp6, hq1, hq2, go_sem]; try (intro h; omega)) ?_
          refine MR.nowH (w' := (World.drew wx).alloc (.cells #[] 3)) (i := 0) (some 24) (.slice (some ⟨wx.heap.size, 0, none⟩) 0 0) (by kernel_rfl) rfl rfl (MR.free rfl) (by simp [execOp, MR.ev, MR.size, hsz, e5, f5, e7, f7, go_sem]) ⟨trivial, ?_⟩
          obtain ⟨v5, w5, hrun5, hown5, hgrow5, _⟩ := run_append_own (P := Try.prog) (w := (World.drew wx).alloc (.cells #[] 3)) wx.heap.size 24 24 3 i0 (.int .i64 0) 1 8 Try.underlying24 hi hz0 hz1 hz2 rfl (by decide) (.slice (some ⟨wx.heap.size, 0, none⟩) 0 0) 0 [] OWL.out ⟨lg, 0, none⟩ r lc (M4.iv (L.take r)) (by simp [M4.iv, HTS.out]; try omega) N1.out (EG.iv_one _) (by unfold maxLen; omega) (by omega) (by simp)
          have B5 : Below wx.heap.size wx w5 := BL.grown hgrow5 (by simp) (fun j hj => by simp [Value.ownBlock] at hj; omega)
          refine MR.nowH (w' := w5) (i := 4) (some 28) v5 (by kernel_rfl) rfl rfl (MR.free rfl) (RA.app_run rfl (by simp [MR.ev, MR.size, hsz, e5, f5, e7, f7]) (by simp [MR.ev, MR.size, hsz, e5, f5, e7, f7]) hrun5) ⟨trivial, ?_⟩
          obtain ⟨v6, w6, hrun6, hown6, hgrow6, _⟩ := run_append_own (P := Try.prog) (w := w5) wx.heap.size 24 24 3 i0 (.int .i64 0) 1 8 Try.underlying24 hi hz0 hz1 hz2 rfl (by decide) v5 (0 + r) ([] ++ M4.iv (L.take r)) hown5 ⟨lg, r + 1, none⟩ (m + 1 - (r + 1)) (lc - (r + 1)) (M4.iv (L.drop (r + 1))) (by simp [M4.iv, HTS.out]; try omega) (N2.out w5 B5) (EG.iv_one _) (by unfold maxLen; omega) (by omega) B5.size
          have B6 : Below wx.heap.size wx w6 := B5.grown hgrow6 B5.size (fun j hj => (World.ownsRow.lt hown5 j hj).1)
          have e6 : 0 + r + (m + 1 - (r + 1)) = m := by omega
          have R6 : w6.ownsRow wx.heap.size 3 1 v6 m (M4.iv (L.take r ++ L.drop (r + 1))) := by
            rw [M4.iv, List.map_append]
            rw [e6] at hown6
            exact hown6
          obtain ⟨a6, c6, rfl⟩ := JD.own_slice R6
          refine MR.nowH (w' := w6) (i := 9) (some 33) (.slice a6 m c6) (by kernel_rfl) rfl rfl (MR.free rfl) (RA.app_run rfl (by simp [MR.ev, MR.size, hsz, e5, f5, e7, f7]) (by simp [MR.ev, MR.size, hsz, e5, f5, e7, f7]) hrun6) ⟨trivial, ?_⟩
          refine MR.takeH (i := 10) (some 5) (.slice a6 m c6) rfl rfl (by kernel_rfl) (by kernel_rfl) (by kernel_rfl) nofun trivial (MR.free rfl) (fun wq hw => by simp [execOp, MR.ev, MR.size, hsz, e5, f5, e7, f7, go_sem]) ?_
          exact wpAnyH_done (by kernel_rfl) ⟨rfl, v5, a6, c6, by simp [Act.put, Array.setIfInBounds_comm], R6, B6⟩ _
        · rintro aa w7 ⟨v5, a6, c6, rfl, HO7, hb7⟩
          rw [HA.out]
          simp only [Act.put, List.setIfInBounds_toArray, List.set_cons_succ, List.set_cons_zero]
          clear HA hsz e5 f5 e7 f7
          have hs7 := hb7.size
          have A1 : Hid (World.ownsRow w7 w.heap.size 3 1 (.slice oa2 (O.length + 1) oc2) (O.length + 1) (M4.iv (O ++ [x]))) := M5.own_below HOO.out hb7
          have A2 : Hid (∀ j, (Value.slice oa2 (O.length + 1) oc2).ownBlock = some j → j < wx.heap.size) := fun j hj => (HOO.out.lt j hj).2
          have A3 : Hid (MC.Cur w7 p a zs cap (M' + 2)) := MC.Cur.below HCC.out hb7
          have A4 : MC.Only p w w7 := honx.trans (MC.Only.of_below hb7)
          have A5 : Hid ((L.take r ++ L.drop (r + 1)).length = m) := by show _ = _; rw [List.length_append, List.length_take, List.length_drop, HTS.out]; omega
          have A6 : Hid ((O ++ [x]).length = O.length + 1) := by show _ = _; simp
          clear hp1 hp2 hp3 hp4 hp5 hp6 OWL N1 N2 HLL HOO HCC HTS honx hb7 BL HO1b
          generalize L.take r ++ L.drop (r + 1) = L2 at *
          generalize O ++ [x] = O2 at *
          generalize hol : O.length + 1 = ol at *
          have HOL : Hid _ := hol
          clear hol
          go_wp2
          go_roundw
          case rel => exact ⟨m, ol, L2, O2, a6, oa2, c6, oc2, wx.heap.size, M' + 2, rfl, rfl, A5, A6, (show Hid _ from by show _ = _; have := HON.out; have := HOL.out; omega), HO7, A1, A2, (by omega), A3, (show Hid _ from by show _ ≤ _; have := HMM.out; omega), A4⟩
          case measure => simp [JDO.lenV]
    · obtain rfl : m0 = 0 := by omega
      have hoe : ol = n := by have := HON.out; omega
      have hon0 := HMM.out
      have HC1 : Hid (MC.Cur wr p a zs cap M') := HCC.out
      have HOO1 : Hid (World.ownsRow wr w.heap.size 3 1 (.slice oa n oc) n (M4.iv O)) := by rw [← hoe]; exact HOO.out
      have HOL1 : Hid (O.length = n) := by rw [← hoe]; exact HOL.out
      subst hoe
      clear HTS HLL HSEP HMM HON HOL HOO HCC
      by_cases hn0 : 0 < ol
      · have n0 : (0 : Int) < (ol : Int) := by omega
        obtain ⟨og, rfl⟩ := JD.own_some HOO1.out hn0
        go_wp2_with fail
        refine (one_any p a zs cap M' _ _ hz hMb HC1.out).mono ?_
        rintro e w3 ⟨b, rfl, hc3, ho3⟩
        have HO3 : Hid (World.ownsRow w3 w.heap.size 3 1 (.slice (some ⟨og, 0, none⟩) ol oc) ol (M4.iv O)) := MC.own_only HOO1.out ho3 hplt
        have hon3 := hon.trans ho3
        have HC3 : Hid _ := hc3
        clear hc3 ho3 HOO1 HC1
        cases b with
        | false =>
          go_wp2
          go_ret
          exact ⟨some ⟨og, 0, none⟩, oc, O, by rw [HOL1.out]; rfl, HOL1.out, by rw [HOL1.out]; exact HO3.out, HC3.out.more (by omega), hon3⟩
        | true =>
          have hwn : IntKind.i64.wrap ((ol : Int) + 1) = (ol : Int) + 1 := by rw [IntKind.wrap_i64]; omega
          go_wp2_with fail
          refine (pick_any p a zs cap (M' + 2) _ _ hz (by omega) HC3.out).mono ?_
          rintro e w4 ⟨r, rfl, _, _, hc4, ho4⟩
          have hown4 : World.ownsRow w4 w.heap.size 3 1 (.slice (some ⟨og, 0, none⟩) ol oc) ol (M4.iv O) := MC.own_only HO3.out ho4 hplt
          have hon4 := hon3.trans ho4
          obtain ⟨b6, off6, hb6, hlt6, hc6⟩ := (M4.IntsAt.of_own hown4).at (k := 0) (by rw [HOL1.out]; exact hn0)
          cases hb6
          rw [Nat.add_zero] at hc6
          generalize O.getD 0 0 = x0 at *
          have hf4 := hown4.frozenAt 0
          obtain ⟨Q1, Q0⟩ := hown4.stored 0 (.int .i64 (r : Int))
          have hgl := (hown4.lt og rfl).1
          have R2 := hc4.grown Q0 (fun j hj => by cases hj; omega)
          have R3 := hon4.grown Q0 (fun j hj => by cases hj; exact hgl)
          rw [M4.iv_set] at Q1
          have HL2 : Hid ((O.set 0 (r : Int)).length = ol) := by show _ = _; rw [List.length_set]; exact HOL1.out
          have HQ1 : Hid _ := Q1
          have HR2 : Hid _ := R2
          clear HO3 HC3 hc4 ho4 hown4 hon4 hon3 Q0 Q1 R2 hon HOL1
          generalize O.set 0 (r : Int) = O2 at *
          go_wp2
          go_ret
          exact ⟨some ⟨og, 0, none⟩, oc, O2, by rw [HL2.out]; rfl, HL2.out, by rw [HL2.out]; exact HQ1.out, HR2.out.more (by omega), R3⟩
      · have n0 : ¬ (0 : Int) < (ol : Int) := by omega
        go_wp2
        go_ret
        exact ⟨oa, oc, O, by rw [HOL1.out]; rfl, HOL1.out, by rw [HOL1.out]; exact HOO1.out, HC1.out.more (by omega), hon⟩
set_option linter.unusedSimpArgs false in
set_option maxHeartbeats 1600000 in
set_option maxRecDepth 100000 in
theorem drawLateness_any (a : Option Addr) (zs : List Int) (cap : Nat) (w : World) (hz : zs.length ≤ 140737488355328) (hb : MC.BytesAt w w.heap.size a zs) :
    Calls Try.prog 5 #[.slice a zs.length cap] w fun e w' => ∃ a1 c1 l a2 c2 os, e = .returned (.tuple #[.slice a1 (List.length l) c1, .slice a2 (List.length os) c2]) ∧ l.length ≤ 11 ∧ os.length ≤ 11 ∧ w'.ownsRow w.heap.size 48 2 (.slice a1 l.length c1) l.length (MI2.flat l) ∧ w'.ownsRow w.heap.size 3 1 (.slice a2 os.length c2) os.length (M4.iv os) ∧ Below w.heap.size w w' := by
  go_enter Try.func5, Try.ntmps5
  go_wp2_with fail
  refine (jobs_any w.heap.size a zs cap 0 _ hz (by omega) (cur_new hb)).mono ?_
  rintro e w1 ⟨a1, c1, l, rfl, hl, o1, hc1, ho1⟩
  have hB1 := new_below rfl ho1
  have hp1 := hc1.lt
  have JO : Hid _ := jobOrder_any w.heap.size a zs cap (0 + 100) l.length w1 hz (by omega) (by omega) hc1
  have hsz : (w.alloc (.cells #[.slice a zs.length cap, .int .i64 0, .int .u64 0] 40)).heap.size = w.heap.size + 1 := by simp
  rw [hsz] at o1
  have O1 : Hid _ := o1
  have HLL : Hid (l.length ≤ 11) := hl
  have HL0 : Hid (∃ ll, l.length = ll) := ⟨_, rfl⟩
  obtain ⟨ll, hll⟩ := HL0.out
  rw [hll] at JO hl ⊢
  have HLE : Hid _ := hll
  clear o1 hb ho1 hc1 hsz HL0 hll
  go_wp2_with fail
  refine Calls.mono JO.out ?_
  rintro e w2 ⟨a2, c2, os, rfl, hol, o2, hc2, ho2⟩
  have O2 : Hid _ := o2
  have hB2 : Below w.heap.size w w2 := hB1.trans (ho2.below (Nat.le_refl _) hB1.size)
  have O1b : Hid (World.ownsRow w2 (w.heap.size + 1) 48 2 (.slice a1 l.length c1) l.length (MI2.flat l)) := MC.own_only O1.out ho2 (by omega)
  have hol2 : os.length ≤ 11 := by omega
  have hs1 := hB1.size
  have HOE : Hid _ := hol
  clear JO o2 ho2 hc2 O1 hol
  go_wp2
  go_ret2
  refine ⟨a1, c1, l, a2, c2, os, by rw [HLE.out]; rfl, HLL.out, hol2, JD.own_le O1b.out (by omega), JD.own_le O2.out (by omega), hB2⟩
set_option linter.unusedSimpArgs false in
set_option maxHeartbeats 1600000 in
set_option maxRecDepth 100000 in
theorem drawLateIn_any (a : Option Addr) (zs : List Int) (cap : Nat) (w : World) (hz : zs.length ≤ 140737488355328) (hb : MC.BytesAt w w.heap.size a zs) :
    Calls Try.prog 13 #[.slice a zs.length cap] w fun e w' => ∃ a1 c1 l a2 c2 os, e = .returned (.tuple #[.slice a1 (List.length l) c1, .slice a2 (List.length os) c2]) ∧ l.length ≤ 11 ∧ os.length ≤ 11 ∧ w'.ownsRow w.heap.size 48 2 (.slice a1 l.length c1) l.length (MI2.flat l) ∧ w'.ownsRow w.heap.size 3 1 (.slice a2 os.length c2) os.length (M4.iv os) ∧ Below w.heap.size w w' := by
  have DL : Hid _ := drawLateness_any a zs cap w hz hb
  clear hb
  go_enter Try.func13, Try.ntmps13
  go_wp2_with fail
  refine Calls.mono DL.out ?_
  rintro e w1 ⟨a1, c1, l, a2, c2, os, rfl, h1, h2, h3, h4, h5⟩
  have H3 : Hid _ := h3
  have H4 : Hid _ := h4
  clear DL h3 h4
  go_wp2
  go_ret2
  exact ⟨a1, c1, l, a2, c2, os, rfl, h1, h2, H3.out, H4.out, h5⟩
set_option linter.unusedSimpArgs false in
set_option maxHeartbeats 1600000 in
set_option maxRecDepth 100000 in
theorem drawOrderFor_any (a : Option Addr) (zs : List Int) (cap : Nat) (w : World) (hz : zs.length ≤ 140737488355328) (hb : MC.BytesAt w w.heap.size a zs) :
    Calls Try.prog 19 #[.slice a zs.length cap] w fun e w' => ∃ a1 c1 l a2 c2 os, e = .returned (.tuple #[.slice a1 (List.length l) c1, .slice a2 (List.length os) c2]) ∧ l.length ≤ 11 ∧ os.length ≤ 12 ∧ w'.ownsRow w.heap.size 48 2 (.slice a1 l.length c1) l.length (MI2.flat l) ∧ w'.ownsRow w.heap.size 3 1 (.slice a2 os.length c2) os.length (M4.iv os) ∧ Below w.heap.size w w' := by
  go_enter Try.func19, Try.ntmps19
  go_wp2_with fail
  refine (jobs_any w.heap.size a zs cap 0 _ hz (by omega) (cur_new hb)).mono ?_
  rintro e w1 ⟨a1, c1, l, rfl, hl, o1, hc1, ho1⟩
  have hB1 := new_below rfl ho1
  have hp1 := hc1.lt
  have JO : Hid _ := someOf_any w.heap.size a zs cap (0 + 100) l.length w1 hz (by omega) (by omega) hc1
  have hsz : (w.alloc (.cells #[.slice a zs.length cap, .int .i64 0, .int .u64 0] 40)).heap.size = w.heap.size + 1 := by simp
  rw [hsz] at o1
  have O1 : Hid _ := o1
  have HLL : Hid (l.length ≤ 11) := hl
  have HL0 : Hid (∃ ll, l.length = ll) := ⟨_, rfl⟩
  obtain ⟨ll, hll⟩ := HL0.out
  rw [hll] at JO hl ⊢
  have HLE : Hid _ := hll
  clear o1 hb ho1 hc1 hsz HL0 hll
  go_wp2_with fail
  refine Calls.mono JO.out ?_
  rintro e w2 ⟨a2, c2, os, rfl, hol, o2, hc2, ho2⟩
  have O2 : Hid _ := o2
  have hB2 : Below w.heap.size w w2 := hB1.trans (ho2.below (Nat.le_refl _) hB1.size)
  have O1b : Hid (World.ownsRow w2 (w.heap.size + 1) 48 2 (.slice a1 l.length c1) l.length (MI2.flat l)) := MC.own_only O1.out ho2 (by omega)
  have hol2 : os.length ≤ 12 := by omega
  have hs1 := hB1.size
  clear JO o2 ho2 hc2 O1 hol
  go_wp2
  go_ret2
  refine ⟨a1, c1, l, a2, c2, os, by rw [HLE.out]; rfl, HLL.out, hol2, JD.own_le O1b.out (by omega), JD.own_le O2.out (by omega), hB2⟩
end Go.Proofs.Ytgenmljnhlcpcaa
