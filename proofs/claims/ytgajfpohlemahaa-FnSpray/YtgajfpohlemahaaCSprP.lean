/- PlaySpray, the program's and the specification's. -/
import Derived.Test.YtgajfpohlemahaaRows
import Derived.Test.YtgajfpohlemahaaMSprP
import Derived.Test.YtgajfpohlemahaaCSprX
import Derived.Test.YtgajfpohlemahaaCSprN
import Derived.Test.YtgajfpohlemahaaCSprM
import Derived.WalkKit
import Derived.WalkSpells
import Derived.WalkLawsBesides
import Derived.Outline
namespace Go.Proofs.Ytgajfpohlemahaa
open Go.RowKit
namespace SP
theorem mk_two {zs : List Int} {t x y : Int} (hg : good zs t = true) : mk zs t x y = two zs.length x y := by rw [mk, hg]; rfl
theorem own_some {w : World} {base e sz n : Nat} {v : Value} {xs : List Value} (h : w.ownsRow base e sz v n xs) (hn : 0 < n) : ∃ g c, v = .slice (some ⟨g, 0, none⟩) n c := by
  rcases h.2 with ⟨_, h'⟩ | ⟨g, cap, cur, hv, _⟩
  · omega
  · exact ⟨g, cap, hv⟩
/-- What a meeting answers, by the plays' own words. -/
theorem stp_yes {t : Int} {s s' : Pl} {k : Nat} {m : I2} (hg : good s.zs t = true) (h : stp t s k m = some s') : mL s.zs t s.th m.a0 m.a1 = s'.zs ∧ mT s.zs t m.a0 m.a1 = t ∧ mH s.zs t s.th m.a0 m.a1 = s'.th ∧ mk s.zs t m.a0 m.a1 = true ∧ s'.mn = (if s'.th = true ∧ s.mn = 0 then (k : Int) + 1 else s.mn) := by
  unfold stp at h
  split at h
  · rename_i h2
    cases h
    have hk : mk s.zs t m.a0 m.a1 = true := by rw [mk_two hg]; exact h2
    exact ⟨by rw [mL, if_pos hk], by rw [mT, if_pos hk], by rw [mH, if_pos hk], hk, rfl⟩
  · cases h
theorem stp_no {t : Int} {s : Pl} {k : Nat} {m : I2} (hg : good s.zs t = true) (h : stp t s k m = none) : mL s.zs t s.th m.a0 m.a1 = [] ∧ mT s.zs t m.a0 m.a1 = 0 ∧ mH s.zs t s.th m.a0 m.a1 = false ∧ mk s.zs t m.a0 m.a1 = false := by
  unfold stp at h
  split at h
  · cases h
  · rename_i h2
    have hk : mk s.zs t m.a0 m.a1 = false := by rw [mk_two hg]; simpa using h2
    exact ⟨by rw [mL, if_neg (by rw [hk]; simp)], by rw [mT, if_neg (by rw [hk]; simp)], by rw [mH, if_neg (by rw [hk]; simp)], hk⟩
end SP
set_option linter.unusedSimpArgs false in
set_option maxHeartbeats 3200000 in
set_option maxRecDepth 100000 in
theorem playI_any (n f t c : Int) (a : Option Addr) (cap : Nat) (ms : List I2) (w : World) (hz : ms.length ≤ 1048576) (hin : MI2.RowAt w a ms) :
    Calls Try.prog 5 #[.int .i64 n, .int .i64 f, .int .i64 t, .int .i64 c, .slice a ms.length cap] w fun e w' => ∃ a1 c1, e = .returned (.tuple #[.agg #[.slice a1 (SP.pL (SP.plA n f t c ms)).length c1, .int .i64 (SP.pT t (SP.plA n f t c ms)), .bool (SP.pH (SP.plA n f t c ms))], .int .i64 (SP.pM (SP.plA n f t c ms)), .bool (SP.plA n f t c ms).isSome]) ∧ w'.ownsRow w.heap.size 3 1 (.slice a1 (SP.pL (SP.plA n f t c ms)).length c1) (SP.pL (SP.plA n f t c ms)).length (M4.iv (SP.pL (SP.plA n f t c ms))) ∧ Below w.heap.size w w' := by
  have hb0 : Below w.heap.size w (w.alloc (.cells #[.slice none 0 0, .int .i64 0, .bool false] 28)) := (Below.refl _ w).alloc (Nat.le_refl _) _
  have bR := SP.B3.new w (.slice none 0 0) (.int .i64 0) (.bool false) 28 rfl
  have NS : Hid _ := newSprayI_any n f t c (w.alloc (.cells #[.slice none 0 0, .int .i64 0, .bool false] 28))
  unfold SP.sv at NS
  by_cases hok : SP.nok n f t c = true ∧ ms.length ≤ 100
  · obtain ⟨hok, hlen⟩ := hok
    have eA : SP.plA n f t c ms = SP.plUp t (SP.s0 n f t c) ms ms.length := by rw [SP.plA, if_pos ⟨hok, hlen⟩]
    rw [eA]
    clear eA
    obtain ⟨g1, g2, g3⟩ := SP.nL_good hok
    have hn8 := SP.good_len g1
    have INV : Hid (∀ (k : Nat) (s : SP.Pl), SP.plUp t (SP.s0 n f t c) ms k = some s → SP.PInv t n.toNat s k) := fun k s e => SP.inv_up hok ms k s e
    have STEP : Hid (∀ k : Nat, SP.plUp t (SP.s0 n f t c) ms (k + 1) = (SP.plUp t (SP.s0 n f t c) ms k).bind fun x => SP.stp t x k (MI2.at_ ms k)) := fun k => rfl
    have FAIL : Hid (∀ k : Nat, k < ms.length → SP.plUp t (SP.s0 n f t c) ms (k + 1) = none → SP.plUp t (SP.s0 n f t c) ms ms.length = none) := fun k hk h => by
      have := SP.plUp_none h (ms.length - (k + 1))
      rwa [show k + 1 + (ms.length - (k + 1)) = ms.length from by omega] at this
    have U0 : Hid (SP.plUp t (SP.s0 n f t c) ms 0 = some ⟨SP.nL n f t c, false, 0⟩) := rfl
    rw [hok, g3] at NS
    have ROW : Hid (∀ W : World, Below w.heap.size w W → MI2.RowAt W a ms) := fun W hb => hin.below hb
    have MB : Hid (∀ (g cg : Nat) (s : SP.Pl) (x y : Int) (W : World), SP.good s.zs t = true → s.zs.length ≤ 8 → M4.IntsAt W (some ⟨g, 0, none⟩) s.zs → Calls Try.prog 13 #[.agg #[.slice (some ⟨g, 0, none⟩) s.zs.length cg, .int .i64 t, .bool s.th], .agg #[.int .i64 x, .int .i64 y]] W fun e w' => ∃ a cap, e = .returned (.tuple #[.agg #[.slice a (SP.mL s.zs t s.th x y).length cap, .int .i64 (SP.mT s.zs t x y), .bool (SP.mH s.zs t s.th x y)], .bool (SP.mk s.zs t x y)]) ∧ w'.ownsRow W.heap.size 3 1 (.slice a (SP.mL s.zs t s.th x y).length cap) (SP.mL s.zs t s.th x y).length (M4.iv (SP.mL s.zs t s.th x y)) ∧ Below W.heap.size W w') := fun g cg s x y W hgd h8 h => implMeet_any g cg s.zs t x y s.th W h (by omega)
    have hL0 : 2 ≤ (SP.nL n f t c).length := by omega
    clear g2
    generalize SP.plUp t (SP.s0 n f t c) ms = U at *
    generalize SP.nL n f t c = L0 at *
    have hd1 : decide (100 < ms.length) = false := decide_eq_false (by omega)
    obtain ⟨A, hUA⟩ : ∃ A, U ms.length = A := ⟨_, rfl⟩
    rw [hUA] at FAIL ⊢
    have HUA : Hid _ := hUA
    clear hok g3 hin hUA
    go_enter Try.func5, Try.ntmps5
    go_wp2_with fail
    refine Calls.mono NS.out ?_
    rintro e w1 ⟨a1, q1, rfl, ho, hb⟩
    have B1 := hb0.trans (hb.mono hb0.size)
    obtain ⟨g0, c0, hv⟩ := SP.own_some ho (by omega)
    cases hv
    have hg0 := ho.lt g0 rfl
    have bR1 := (bR.below hb bR.lt).alloc (.cells #[.slice (some ⟨g0, 0, none⟩) L0.length q1, .int .i64 t, .bool false] 28)
    have bQ1 := SP.B3.new w1 (.slice (some ⟨g0, 0, none⟩) L0.length q1) (.int .i64 t) (.bool false) 28 rfl
    have hA : Below w1.heap.size w1 (w1.alloc (.cells #[.slice (some ⟨g0, 0, none⟩) L0.length q1, .int .i64 t, .bool false] 28)) := (Below.refl _ _).alloc (Nat.le_refl _) _
    have B2 := B1.trans (hA.mono B1.size)
    have ho2 := SP.own_le (M5.own_below ho hA) hb0.size
    have hRQ : w.heap.size < w1.heap.size := (bR.below hb bR.lt).lt
    have ST : Hid _ := And.intro bR1 (And.intro bQ1 (And.intro ho2 B2))
    clear hb hb0 NS bR ho bR1 bQ1 hA B2 ho2 B1
    go_wp2
    obtain ⟨q, hq⟩ : ∃ q, w1.heap.size = q := ⟨_, rfl⟩
    rw [hq] at ST hg0 hRQ ⊢
    go_loopw [15, 36] (fun mv iv wr => ∃ (k : Nat) (s : SP.Pl) (g cg : Nat), mv = .int .i64 s.mn ∧ iv = .int .i64 k ∧ k ≤ ms.length ∧ Hid (U k = some s) ∧ g ≠ q ∧ w.heap.size < g ∧ Hid (SP.B3 wr w.heap.size (.slice none 0 0) (.int .i64 0) (.bool false) 28 ∧ SP.B3 wr q (.slice (some ⟨g, 0, none⟩) s.zs.length cg) (.int .i64 t) (.bool s.th) 28 ∧ World.ownsRow wr w.heap.size 3 1 (.slice (some ⟨g, 0, none⟩) s.zs.length cg) s.zs.length (M4.iv s.zs) ∧ Below w.heap.size w wr)) (fun _ iv _ => (ms.length - intOf iv).toNat)
    case atStart =>
      refine ⟨0, ⟨L0, false, 0⟩, g0, q1, rfl, rfl, by omega, U0, by omega, by simp at hg0; omega, ?_⟩
      exact ST
    case round =>
      obtain ⟨k, s, g, cg, rfl, rfl, hk, hU, hgq, hgw, hS⟩ := hrel
      have hI := INV.out k s hU.out
      have hs8 : s.zs.length ≤ 8 := (SP.good_len hI.good).2
      have hs2 : 2 ≤ s.zs.length := (SP.good_len hI.good).1
      by_cases hlt : k < ms.length
      · obtain ⟨bb, off, rfl, hbl, d0, d1⟩ := (ROW.out wr hS.out.2.2.2).at hlt
        have hst := STEP.out k
        rw [hU.out] at hst
        have hst' : U (k + 1) = SP.stp t s k (MI2.at_ ms k) := hst
        have hql := hS.out.2.1.lt
        have hrl := hS.out.1.lt
        obtain ⟨z0, z1, z2⟩ := hS.out.2.1.cells
        have hA : Below wr.heap.size wr (wr.alloc (.cells #[.int .i64 (MI2.at_ ms k).a0, .int .i64 (MI2.at_ ms k).a1] 39)) := (Below.refl _ _).alloc (Nat.le_refl _) _
        have MBk : Hid _ := MB.out g cg s (MI2.at_ ms k).a0 (MI2.at_ ms k).a1 _ hI.good hs8 (M5.own_ints (M5.own_below hS.out.2.2.1 hA))
        cases hs' : SP.stp t s k (MI2.at_ ms k) with
        | none =>
          obtain ⟨e1, e2, e3, e4⟩ := SP.stp_no hI.good hs'
          rw [e1, e2, e3, e4] at MBk
          rw [hs'] at hst'
          have hfin := FAIL.out k hlt hst'
          clear e1 e2 e3 e4 hst hst' hs' hI INV STEP FAIL MB ROW hU
          generalize (MI2.at_ ms k).a0 = x at *
          generalize (MI2.at_ ms k).a1 = y at *
          generalize s.zs = zs at *
          generalize s.th = th at *
          generalize s.mn = mn at *
          have HS : Hid _ := And.intro (hS.out.1.below hA hrl) (hS.out.2.2.2.trans (hA.mono hS.out.2.2.2.size))
          have hWq : q < (wr.alloc (.cells #[.int .i64 x, .int .i64 y] 39)).heap.size := by simp; omega
          have HQ : Hid _ := hS.out.2.1.below hA hql
          clear hS
          go_wp2_with fail
          generalize wr.alloc (.cells #[.int .i64 x, .int .i64 y] 39) = W at *
          refine Calls.mono MBk.out ?_
          rintro e w3 ⟨a3, q3, rfl, ho, hb⟩
          have hQ3 : SP.B3 w3 q (.slice (some ⟨g, 0, none⟩) zs.length cg) (.int .i64 t) (.bool th) 28 := HQ.out.below hb HQ.out.lt
          have on := (((MC.Only.refl q w3).setCell 0 (.slice a3 0 q3)).setCell 1 (.int .i64 0)).setCell 2 (.bool false)
          have HR : Hid _ := And.intro ((HS.out.1.below hb HS.out.1.lt).only on (by omega)) (((((HS.out.2.trans (hb.mono HS.out.2.size)).setCell (p := ⟨q, 0, none⟩) (by simp; omega) (.slice a3 0 q3)).setCell (p := ⟨q, 1, none⟩) (by simp; omega) (.int .i64 0)).setCell (p := ⟨q, 2, none⟩) (by simp; omega) (.bool false)))
          obtain ⟨y0, y1, y2⟩ := hQ3.cells
          have p0 := hQ3.free 0
          have p1 := hQ3.free 1
          have p2 := hQ3.free 2
          have hq3 := hQ3.lt
          clear HQ hQ3 on
          clear MBk ho hb HS z0 z1 z2 d0 d1 hA
          obtain ⟨k0, k1, k2⟩ := HR.out.1.cells
          have f0 := HR.out.1.free 0
          have f1 := HR.out.1.free 1
          have f2 := HR.out.1.free 2
          have hrl3 := HR.out.1.lt
          go_wp2
          have z2 := ((HR.out.1.set0 (.slice none 0 0)).set1 (.int .i64 0)).set2 (.bool false)
          obtain ⟨e0, e1, e2⟩ := z2.cells
          have hB := ((HR.out.2.setCell (p := ⟨w.heap.size, 0, none⟩) (Nat.le_refl _) (.slice none 0 0)).setCell (p := ⟨w.heap.size, 1, none⟩) (Nat.le_refl _) (.int .i64 0)).setCell (p := ⟨w.heap.size, 2, none⟩) (Nat.le_refl _) (.bool false)
          exact bodyPost_ret (v := .tuple #[.agg #[.slice none 0 0, .int .i64 0, .bool false], .int .i64 0, .bool false]) (by simp [results, Try.results5, go_sem, e0, e1, e2]) rfl ⟨none, 0, by rw [hfin]; rfl, by rw [hfin]; exact World.ownsRow_nil _ _ _ _, hB⟩
        | some s' =>
          obtain ⟨e1, e2, e3, e4, e5⟩ := SP.stp_yes hI.good hs'
          rw [e1, e2, e3, e4] at MBk
          rw [hs'] at hst'
          have hI' := INV.out (k + 1) s' hst'
          have hU' : Hid (U (k + 1) = some s') := hst'
          have hl' : 0 < s'.zs.length := by have := (SP.good_len hI'.good).1; omega
          have hmn := hI.mn
          have hlo := hI.lo
          clear e1 e2 e3 e4 hst hst' hs' hI hI' INV STEP FAIL MB ROW hU hs2 hs8
          obtain ⟨zs', th', mn'⟩ := s'
          obtain ⟨zs, th, mn⟩ := s
          simp only at e5 MBk hS z0 z1 z2 hmn hlo hl' ⊢
          have HU : Hid _ := hU'
          clear hU'
          generalize (MI2.at_ ms k).a0 = x at *
          generalize (MI2.at_ ms k).a1 = y at *
          have HS : Hid _ := And.intro (hS.out.1.below hA hrl) (And.intro (hS.out.2.1.below hA hql) (hS.out.2.2.2.trans (hA.mono hS.out.2.2.2.size)))
          clear hS
          go_wp2_with fail
          generalize wr.alloc (.cells #[.int .i64 x, .int .i64 y] 39) = W at *
          refine Calls.mono MBk.out ?_
          rintro e w3 ⟨a3, q3, rfl, ho, hb⟩
          obtain ⟨g3, c3, hv⟩ := SP.own_some ho hl'
          cases hv
          have hg3 := ho.lt g3 rfl
          have hWs := HS.out.2.2.size
          have hWq := HS.out.2.1.lt
          have hWr := HS.out.1.lt
          have hQ3 : SP.B3 w3 q (.slice (some ⟨g, 0, none⟩) zs.length cg) (.int .i64 t) (.bool th) 28 := HS.out.2.1.below hb hWq
          have on := (((MC.Only.refl q w3).setCell 0 (.slice (some ⟨g3, 0, none⟩) zs'.length q3)).setCell 1 (.int .i64 t)).setCell 2 (.bool th')
          have B3 := HS.out.2.2.trans (hb.mono hWs)
          have hBn := (((B3.setCell (p := ⟨q, 0, none⟩) (by simp; omega) (.slice (some ⟨g3, 0, none⟩) zs'.length q3)).setCell (p := ⟨q, 1, none⟩) (by simp; omega) (.int .i64 t)).setCell (p := ⟨q, 2, none⟩) (by simp; omega) (.bool th'))
          have hRn := (HS.out.1.below hb hWr).only on (by omega)
          have hQn := ((hQ3.set0 (.slice (some ⟨g3, 0, none⟩) zs'.length q3)).set1 (.int .i64 t)).set2 (.bool th')
          have hOn := SP.own_only2 (SP.own_le ho hWs) on (fun e => by simp [Value.ownBlock] at e; omega)
          have hF : Hid (SP.B3 _ w.heap.size (.slice none 0 0) (.int .i64 0) (.bool false) 28 ∧ SP.B3 _ q (.slice (some ⟨g3, 0, none⟩) zs'.length q3) (.int .i64 t) (.bool th') 28 ∧ World.ownsRow _ w.heap.size 3 1 (.slice (some ⟨g3, 0, none⟩) zs'.length q3) zs'.length (M4.iv zs') ∧ Below w.heap.size w _) := ⟨hRn, hQn, hOn, hBn⟩
          obtain ⟨y0, y1, y2⟩ := hQ3.cells
          have p0 := hQ3.free 0
          have p1 := hQ3.free 1
          have p2 := hQ3.free 2
          have hq3 := hQ3.lt
          obtain ⟨x0, x1, x2⟩ := hQn.cells
          have hqn := hQn.lt
          clear HS MBk ho hb hQ3 on B3 hBn hRn hQn hOn z0 z1 z2 d0 d1 hA
          cases th' with
          | false =>
            have hm : mn = mn' := by rw [e5]; simp []
            subst hm
            clear e5 hmn
            go_wp2
            go_roundw
            case rel => exact ⟨k + 1, ⟨zs', false, mn⟩, g3, q3, rfl, by go_num, by omega, HU, by omega, by omega, hF⟩
            case measure => simp [intOf]; omega
          | true =>
            by_cases h0 : mn = 0
            · have h0b : (mn == 0) = true := by simp [h0]
              have hm : mn' = (k : Int) + 1 := by rw [e5]; simp [h0]
              subst hm
              clear e5 hmn
              go_wp2
              go_roundw
              case rel => exact ⟨k + 1, ⟨zs', true, (k : Int) + 1⟩, g3, q3, rfl, by go_num, by omega, HU, by omega, by omega, hF⟩
              case measure => simp [intOf]; omega
            · have h0b : (mn == 0) = false := by simp [h0]
              have hm : mn = mn' := by rw [e5]; simp [h0]
              subst hm
              clear e5 hmn
              go_wp2
              go_roundw
              case rel => exact ⟨k + 1, ⟨zs', true, mn⟩, g3, q3, rfl, by go_num, by omega, HU, by omega, by omega, hF⟩
              case measure => simp [intOf]; omega
      · obtain rfl : ms.length = k := by omega
        have hfin := HUA.out.symm.trans hU.out
        obtain ⟨z0, z1, z2⟩ := hS.out.2.1.cells
        obtain ⟨k0, k1, k2⟩ := hS.out.1.cells
        have f0 := hS.out.1.free 0
        have f1 := hS.out.1.free 1
        have f2 := hS.out.1.free 2
        have hrl := hS.out.1.lt
        have hql := hS.out.2.1.lt
        clear hU INV STEP FAIL MB ROW hI U0
        obtain ⟨zs, th, mn⟩ := s
        simp only at hS z0 z1 z2 hs8 hs2
        go_wp2
        have zz := ((hS.out.1.set0 (.slice (some ⟨g, 0, none⟩) zs.length cg)).set1 (.int .i64 t)).set2 (.bool th)
        obtain ⟨e0, e1, e2⟩ := zz.cells
        have on := (((MC.Only.refl w.heap.size wr).setCell 0 (.slice (some ⟨g, 0, none⟩) zs.length cg)).setCell 1 (.int .i64 t)).setCell 2 (.bool th)
        have hB := ((hS.out.2.2.2.setCell (p := ⟨w.heap.size, 0, none⟩) (Nat.le_refl _) (.slice (some ⟨g, 0, none⟩) zs.length cg)).setCell (p := ⟨w.heap.size, 1, none⟩) (Nat.le_refl _) (.int .i64 t)).setCell (p := ⟨w.heap.size, 2, none⟩) (Nat.le_refl _) (.bool th)
        have hO := SP.own_only2 hS.out.2.2.1 on (fun e => by simp [Value.ownBlock] at e; omega)
        exact bodyPost_ret (v := .tuple #[.agg #[.slice (some ⟨g, 0, none⟩) zs.length cg, .int .i64 t, .bool th], .int .i64 mn, .bool true]) (by simp [results, Try.results5, go_sem, e0, e1, e2]) rfl ⟨_, _, by rw [hfin]; rfl, by rw [hfin]; exact hO, hB⟩
  · have eA : SP.plA n f t c ms = none := by rw [SP.plA, if_neg hok]
    rw [eA]
    have hc : SP.nok n f t c = false ∨ (SP.nok n f t c = true ∧ 100 < ms.length) := by
      cases h : SP.nok n f t c with
      | false => exact .inl rfl
      | true => exact .inr ⟨rfl, by have : ¬ ms.length ≤ 100 := fun h2 => hok ⟨h, h2⟩; omega⟩
    clear eA hok hin
    generalize SP.nok n f t c = K at *
    generalize SP.nL n f t c = L at *
    generalize SP.nT n f t c = T at *
    go_enter Try.func5, Try.ntmps5
    go_wp2_with fail
    refine Calls.mono NS.out ?_
    rintro e w1 ⟨a1, q1, rfl, ho, hb⟩
    have B1 := hb0.trans (hb.mono hb0.size)
    have bR1 := (bR.below hb bR.lt).alloc (.cells #[.slice a1 L.length q1, .int .i64 T, .bool false] 28)
    have hA : Below w1.heap.size w1 (w1.alloc (.cells #[.slice a1 L.length q1, .int .i64 T, .bool false] 28)) := (Below.refl _ _).alloc (Nat.le_refl _) _
    have HR : Hid _ := And.intro bR1 (B1.trans (hA.mono B1.size))
    obtain ⟨k0, k1, k2⟩ := bR1.cells
    have f0 := bR1.free 0
    have f1 := bR1.free 1
    have f2 := bR1.free 2
    have hrl := bR1.lt
    clear hb hb0 NS bR ho hA B1 bR1
    rcases hc with rfl | ⟨rfl, hd⟩
    · go_wp2
      have z2 := ((HR.out.1.set0 (.slice none 0 0)).set1 (.int .i64 0)).set2 (.bool false)
      obtain ⟨e0, e1, e2⟩ := z2.cells
      have hB := ((HR.out.2.setCell (p := ⟨w.heap.size, 0, none⟩) (Nat.le_refl _) (.slice none 0 0)).setCell (p := ⟨w.heap.size, 1, none⟩) (Nat.le_refl _) (.int .i64 0)).setCell (p := ⟨w.heap.size, 2, none⟩) (Nat.le_refl _) (.bool false)
      exact bodyPost_ret (v := .tuple #[.agg #[.slice none 0 0, .int .i64 0, .bool false], .int .i64 0, .bool false]) (by simp [results, Try.results5, go_sem, e0, e1, e2]) rfl ⟨none, 0, rfl, World.ownsRow_nil _ _ _ _, hB⟩
    · go_wp2
      have z2 := ((HR.out.1.set0 (.slice none 0 0)).set1 (.int .i64 0)).set2 (.bool false)
      obtain ⟨e0, e1, e2⟩ := z2.cells
      have hB := ((HR.out.2.setCell (p := ⟨w.heap.size, 0, none⟩) (Nat.le_refl _) (.slice none 0 0)).setCell (p := ⟨w.heap.size, 1, none⟩) (Nat.le_refl _) (.int .i64 0)).setCell (p := ⟨w.heap.size, 2, none⟩) (Nat.le_refl _) (.bool false)
      exact bodyPost_ret (v := .tuple #[.agg #[.slice none 0 0, .int .i64 0, .bool false], .int .i64 0, .bool false]) (by simp [results, Try.results5, go_sem, e0, e1, e2]) rfl ⟨none, 0, rfl, World.ownsRow_nil _ _ _ _, hB⟩
set_option linter.unusedSimpArgs false in
set_option maxHeartbeats 3200000 in
set_option maxRecDepth 100000 in
theorem playS_any (n f t c : Int) (a : Option Addr) (cap : Nat) (ms : List I2) (w : World) (hz : ms.length ≤ 1048576) (hin : MI2.RowAt w a ms) :
    Calls Try.prog 6 #[.int .i64 n, .int .i64 f, .int .i64 t, .int .i64 c, .slice a ms.length cap] w fun e w' => ∃ a1 c1, e = .returned (.tuple #[.agg #[.slice a1 (SP.pL (SP.plA n f t c ms)).length c1, .int .i64 (SP.pT t (SP.plA n f t c ms)), .bool (SP.pH (SP.plA n f t c ms))], .int .i64 (SP.pM (SP.plA n f t c ms)), .bool (SP.plA n f t c ms).isSome]) ∧ w'.ownsRow w.heap.size 3 1 (.slice a1 (SP.pL (SP.plA n f t c ms)).length c1) (SP.pL (SP.plA n f t c ms)).length (M4.iv (SP.pL (SP.plA n f t c ms))) ∧ Below w.heap.size w w' := by
  have hb0 : Below w.heap.size w (w.alloc (.cells #[.slice none 0 0, .int .i64 0, .bool false] 28)) := (Below.refl _ w).alloc (Nat.le_refl _) _
  have bR := SP.B3.new w (.slice none 0 0) (.int .i64 0) (.bool false) 28 rfl
  have NS : Hid _ := newSprayS_any n f t c (w.alloc (.cells #[.slice none 0 0, .int .i64 0, .bool false] 28))
  unfold SP.sv at NS
  by_cases hok : SP.nok n f t c = true ∧ ms.length ≤ 100
  · obtain ⟨hok, hlen⟩ := hok
    have eA : SP.plA n f t c ms = SP.plUp t (SP.s0 n f t c) ms ms.length := by rw [SP.plA, if_pos ⟨hok, hlen⟩]
    rw [eA]
    clear eA
    obtain ⟨g1, g2, g3⟩ := SP.nL_good hok
    have hn8 := SP.good_len g1
    have INV : Hid (∀ (k : Nat) (s : SP.Pl), SP.plUp t (SP.s0 n f t c) ms k = some s → SP.PInv t n.toNat s k) := fun k s e => SP.inv_up hok ms k s e
    have STEP : Hid (∀ k : Nat, SP.plUp t (SP.s0 n f t c) ms (k + 1) = (SP.plUp t (SP.s0 n f t c) ms k).bind fun x => SP.stp t x k (MI2.at_ ms k)) := fun k => rfl
    have FAIL : Hid (∀ k : Nat, k < ms.length → SP.plUp t (SP.s0 n f t c) ms (k + 1) = none → SP.plUp t (SP.s0 n f t c) ms ms.length = none) := fun k hk h => by
      have := SP.plUp_none h (ms.length - (k + 1))
      rwa [show k + 1 + (ms.length - (k + 1)) = ms.length from by omega] at this
    have U0 : Hid (SP.plUp t (SP.s0 n f t c) ms 0 = some ⟨SP.nL n f t c, false, 0⟩) := rfl
    rw [hok, g3] at NS
    have ROW : Hid (∀ W : World, Below w.heap.size w W → MI2.RowAt W a ms) := fun W hb => hin.below hb
    have MB : Hid (∀ (g cg : Nat) (s : SP.Pl) (x y : Int) (W : World), SP.good s.zs t = true → s.zs.length ≤ 8 → M4.IntsAt W (some ⟨g, 0, none⟩) s.zs → Calls Try.prog 20 #[.agg #[.slice (some ⟨g, 0, none⟩) s.zs.length cg, .int .i64 t, .bool s.th], .agg #[.int .i64 x, .int .i64 y]] W fun e w' => ∃ a cap, e = .returned (.tuple #[.agg #[.slice a (SP.mL s.zs t s.th x y).length cap, .int .i64 (SP.mT s.zs t x y), .bool (SP.mH s.zs t s.th x y)], .bool (SP.mk s.zs t x y)]) ∧ w'.ownsRow W.heap.size 3 1 (.slice a (SP.mL s.zs t s.th x y).length cap) (SP.mL s.zs t s.th x y).length (M4.iv (SP.mL s.zs t s.th x y)) ∧ Below W.heap.size W w') := fun g cg s x y W hgd h8 h => l15Meet_any (some ⟨g, 0, none⟩) cg s.zs t x y s.th W h (by omega) hgd
    have hL0 : 2 ≤ (SP.nL n f t c).length := by omega
    clear g2
    generalize SP.plUp t (SP.s0 n f t c) ms = U at *
    generalize SP.nL n f t c = L0 at *
    have hd1 : decide (100 < ms.length) = false := decide_eq_false (by omega)
    obtain ⟨A, hUA⟩ : ∃ A, U ms.length = A := ⟨_, rfl⟩
    rw [hUA] at FAIL ⊢
    have HUA : Hid _ := hUA
    clear hok g3 hin hUA
    go_enter Try.func6, Try.ntmps6
    go_wp2_with fail
    refine Calls.mono NS.out ?_
    rintro e w1 ⟨a1, q1, rfl, ho, hb⟩
    have B1 := hb0.trans (hb.mono hb0.size)
    obtain ⟨g0, c0, hv⟩ := SP.own_some ho (by omega)
    cases hv
    have hg0 := ho.lt g0 rfl
    have bR1 := (bR.below hb bR.lt).alloc (.cells #[.slice (some ⟨g0, 0, none⟩) L0.length q1, .int .i64 t, .bool false] 28)
    have bQ1 := SP.B3.new w1 (.slice (some ⟨g0, 0, none⟩) L0.length q1) (.int .i64 t) (.bool false) 28 rfl
    have hA : Below w1.heap.size w1 (w1.alloc (.cells #[.slice (some ⟨g0, 0, none⟩) L0.length q1, .int .i64 t, .bool false] 28)) := (Below.refl _ _).alloc (Nat.le_refl _) _
    have B2 := B1.trans (hA.mono B1.size)
    have ho2 := SP.own_le (M5.own_below ho hA) hb0.size
    have hRQ : w.heap.size < w1.heap.size := (bR.below hb bR.lt).lt
    have ST : Hid _ := And.intro bR1 (And.intro bQ1 (And.intro ho2 B2))
    clear hb hb0 NS bR ho bR1 bQ1 hA B2 ho2 B1
    go_wp2
    obtain ⟨q, hq⟩ : ∃ q, w1.heap.size = q := ⟨_, rfl⟩
    rw [hq] at ST hg0 hRQ ⊢
    go_loopw [15, 38] (fun mv iv wr => ∃ (k : Nat) (s : SP.Pl) (g cg : Nat), mv = .int .i64 s.mn ∧ iv = .int .i64 k ∧ k ≤ ms.length ∧ Hid (U k = some s) ∧ g ≠ q ∧ w.heap.size < g ∧ Hid (SP.B3 wr w.heap.size (.slice none 0 0) (.int .i64 0) (.bool false) 28 ∧ SP.B3 wr q (.slice (some ⟨g, 0, none⟩) s.zs.length cg) (.int .i64 t) (.bool s.th) 28 ∧ World.ownsRow wr w.heap.size 3 1 (.slice (some ⟨g, 0, none⟩) s.zs.length cg) s.zs.length (M4.iv s.zs) ∧ Below w.heap.size w wr)) (fun _ iv _ => (ms.length - intOf iv).toNat)
    case atStart =>
      refine ⟨0, ⟨L0, false, 0⟩, g0, q1, rfl, rfl, by omega, U0, by omega, by simp at hg0; omega, ?_⟩
      exact ST
    case round =>
      obtain ⟨k, s, g, cg, rfl, rfl, hk, hU, hgq, hgw, hS⟩ := hrel
      have hI := INV.out k s hU.out
      have hs8 : s.zs.length ≤ 8 := (SP.good_len hI.good).2
      have hs2 : 2 ≤ s.zs.length := (SP.good_len hI.good).1
      by_cases hlt : k < ms.length
      · obtain ⟨bb, off, rfl, hbl, d0, d1⟩ := (ROW.out wr hS.out.2.2.2).at hlt
        have hst := STEP.out k
        rw [hU.out] at hst
        have hst' : U (k + 1) = SP.stp t s k (MI2.at_ ms k) := hst
        have hql := hS.out.2.1.lt
        have hrl := hS.out.1.lt
        obtain ⟨z0, z1, z2⟩ := hS.out.2.1.cells
        have hA : Below wr.heap.size wr (wr.alloc (.cells #[.int .i64 (MI2.at_ ms k).a0, .int .i64 (MI2.at_ ms k).a1] 39)) := (Below.refl _ _).alloc (Nat.le_refl _) _
        have MBk : Hid _ := MB.out g cg s (MI2.at_ ms k).a0 (MI2.at_ ms k).a1 _ hI.good hs8 (M5.own_ints (M5.own_below hS.out.2.2.1 hA))
        cases hs' : SP.stp t s k (MI2.at_ ms k) with
        | none =>
          obtain ⟨e1, e2, e3, e4⟩ := SP.stp_no hI.good hs'
          rw [e1, e2, e3, e4] at MBk
          rw [hs'] at hst'
          have hfin := FAIL.out k hlt hst'
          clear e1 e2 e3 e4 hst hst' hs' hI INV STEP FAIL MB ROW hU
          generalize (MI2.at_ ms k).a0 = x at *
          generalize (MI2.at_ ms k).a1 = y at *
          generalize s.zs = zs at *
          generalize s.th = th at *
          generalize s.mn = mn at *
          have HS : Hid _ := And.intro (hS.out.1.below hA hrl) (hS.out.2.2.2.trans (hA.mono hS.out.2.2.2.size))
          have hWq : q < (wr.alloc (.cells #[.int .i64 x, .int .i64 y] 39)).heap.size := by simp; omega
          clear hS
          go_wp2_with fail
          generalize wr.alloc (.cells #[.int .i64 x, .int .i64 y] 39) = W at *
          refine Calls.mono MBk.out ?_
          rintro e w3 ⟨a3, q3, rfl, ho, hb⟩
          have hX : Below w3.heap.size w3 (w3.alloc (.cells #[.slice a3 0 q3, .int .i64 0, .bool false] 28)) := (Below.refl _ _).alloc (Nat.le_refl _) _
          have B3 := HS.out.2.trans (hb.mono HS.out.2.size)
          have HR : Hid _ := And.intro ((HS.out.1.below hb HS.out.1.lt).alloc (.cells #[.slice a3 0 q3, .int .i64 0, .bool false] 28)) (B3.trans (hX.mono B3.size))
          clear hX B3
          clear MBk ho hb HS z0 z1 z2 d0 d1 hA
          obtain ⟨k0, k1, k2⟩ := HR.out.1.cells
          have f0 := HR.out.1.free 0
          have f1 := HR.out.1.free 1
          have f2 := HR.out.1.free 2
          have hrl3 := HR.out.1.lt
          go_wp2
          have z2 := ((HR.out.1.set0 (.slice none 0 0)).set1 (.int .i64 0)).set2 (.bool false)
          obtain ⟨e0, e1, e2⟩ := z2.cells
          have hB := ((HR.out.2.setCell (p := ⟨w.heap.size, 0, none⟩) (Nat.le_refl _) (.slice none 0 0)).setCell (p := ⟨w.heap.size, 1, none⟩) (Nat.le_refl _) (.int .i64 0)).setCell (p := ⟨w.heap.size, 2, none⟩) (Nat.le_refl _) (.bool false)
          exact bodyPost_ret (v := .tuple #[.agg #[.slice none 0 0, .int .i64 0, .bool false], .int .i64 0, .bool false]) (by simp [results, Try.results6, go_sem, e0, e1, e2]) rfl ⟨none, 0, by rw [hfin]; rfl, by rw [hfin]; exact World.ownsRow_nil _ _ _ _, hB⟩
        | some s' =>
          obtain ⟨e1, e2, e3, e4, e5⟩ := SP.stp_yes hI.good hs'
          rw [e1, e2, e3, e4] at MBk
          rw [hs'] at hst'
          have hI' := INV.out (k + 1) s' hst'
          have hU' : Hid (U (k + 1) = some s') := hst'
          have hl' : 0 < s'.zs.length := by have := (SP.good_len hI'.good).1; omega
          have hmn := hI.mn
          have hlo := hI.lo
          clear e1 e2 e3 e4 hst hst' hs' hI hI' INV STEP FAIL MB ROW hU hs2 hs8
          obtain ⟨zs', th', mn'⟩ := s'
          obtain ⟨zs, th, mn⟩ := s
          simp only at e5 MBk hS z0 z1 z2 hmn hlo hl' ⊢
          have HU : Hid _ := hU'
          clear hU'
          generalize (MI2.at_ ms k).a0 = x at *
          generalize (MI2.at_ ms k).a1 = y at *
          have HS : Hid _ := And.intro (hS.out.1.below hA hrl) (And.intro (hS.out.2.1.below hA hql) (hS.out.2.2.2.trans (hA.mono hS.out.2.2.2.size)))
          clear hS
          go_wp2_with fail
          generalize wr.alloc (.cells #[.int .i64 x, .int .i64 y] 39) = W at *
          refine Calls.mono MBk.out ?_
          rintro e w3 ⟨a3, q3, rfl, ho, hb⟩
          obtain ⟨g3, c3, hv⟩ := SP.own_some ho hl'
          cases hv
          have hg3 := ho.lt g3 rfl
          have hWs := HS.out.2.2.size
          have hWq := HS.out.2.1.lt
          have hWr := HS.out.1.lt
          have hX : Below w3.heap.size w3 (w3.alloc (.cells #[.slice (some ⟨g3, 0, none⟩) zs'.length q3, .int .i64 t, .bool th'] 28)) := (Below.refl _ _).alloc (Nat.le_refl _) _
          have hQ4 := (HS.out.2.1.below hb hWq).alloc (.cells #[.slice (some ⟨g3, 0, none⟩) zs'.length q3, .int .i64 t, .bool th'] 28)
          have hX4 := SP.B3.new w3 (.slice (some ⟨g3, 0, none⟩) zs'.length q3) (.int .i64 t) (.bool th') 28 rfl
          have B3 := HS.out.2.2.trans (hb.mono hWs)
          have B4 := B3.trans (hX.mono B3.size)
          have on := (((MC.Only.refl q (w3.alloc (.cells #[.slice (some ⟨g3, 0, none⟩) zs'.length q3, .int .i64 t, .bool th'] 28))).setCell 0 (.slice (some ⟨g3, 0, none⟩) zs'.length q3)).setCell 1 (.int .i64 t)).setCell 2 (.bool th')
          have hBn := (((B4.setCell (p := ⟨q, 0, none⟩) (by simp; omega) (.slice (some ⟨g3, 0, none⟩) zs'.length q3)).setCell (p := ⟨q, 1, none⟩) (by simp; omega) (.int .i64 t)).setCell (p := ⟨q, 2, none⟩) (by simp; omega) (.bool th'))
          have hRn := ((HS.out.1.below hb hWr).alloc (.cells #[.slice (some ⟨g3, 0, none⟩) zs'.length q3, .int .i64 t, .bool th'] 28)).only on (by omega)
          have hQn := ((hQ4.set0 (.slice (some ⟨g3, 0, none⟩) zs'.length q3)).set1 (.int .i64 t)).set2 (.bool th')
          have hOn := SP.own_only2 (SP.own_le (M5.own_below ho hX) hWs) on (fun e => by simp [Value.ownBlock] at e; omega)
          have hF : Hid (SP.B3 _ w.heap.size (.slice none 0 0) (.int .i64 0) (.bool false) 28 ∧ SP.B3 _ q (.slice (some ⟨g3, 0, none⟩) zs'.length q3) (.int .i64 t) (.bool th') 28 ∧ World.ownsRow _ w.heap.size 3 1 (.slice (some ⟨g3, 0, none⟩) zs'.length q3) zs'.length (M4.iv zs') ∧ Below w.heap.size w _) := ⟨hRn, hQn, hOn, hBn⟩
          obtain ⟨y0, y1, y2⟩ := hQ4.cells
          have p0 := hQ4.free 0
          have p1 := hQ4.free 1
          have p2 := hQ4.free 2
          have hq3 := hQ4.lt
          obtain ⟨x0, x1, x2⟩ := hX4.cells
          have hqn := hX4.lt
          clear HS MBk ho hb hQ4 hX4 hX on B3 B4 hBn hRn hQn hOn z0 z1 z2 d0 d1 hA
          cases th' with
          | false =>
            have hm : mn = mn' := by rw [e5]; simp []
            subst hm
            clear e5 hmn
            go_wp2
            go_roundw
            case rel => exact ⟨k + 1, ⟨zs', false, mn⟩, g3, q3, rfl, by go_num, by omega, HU, by omega, by omega, hF⟩
            case measure => simp [intOf]; omega
          | true =>
            cases th with
            | false =>
              have h0 : mn = 0 := hmn.2 rfl
              have hm : mn' = (k : Int) + 1 := by rw [e5]; simp [h0]
              subst hm
              clear e5 hmn
              go_wp2
              go_roundw
              case rel => exact ⟨k + 1, ⟨zs', true, (k : Int) + 1⟩, g3, q3, rfl, by go_num, by omega, HU, by omega, by omega, hF⟩
              case measure => simp [intOf]; omega
            | true =>
              have h0 : ¬ mn = 0 := fun e => by have := hmn.1 e; cases this
              have hm : mn = mn' := by rw [e5]; simp [h0]
              subst hm
              clear e5 hmn
              go_wp2
              go_roundw
              case rel => exact ⟨k + 1, ⟨zs', true, mn⟩, g3, q3, rfl, by go_num, by omega, HU, by omega, by omega, hF⟩
              case measure => simp [intOf]; omega
      · obtain rfl : ms.length = k := by omega
        have hfin := HUA.out.symm.trans hU.out
        obtain ⟨z0, z1, z2⟩ := hS.out.2.1.cells
        obtain ⟨k0, k1, k2⟩ := hS.out.1.cells
        have f0 := hS.out.1.free 0
        have f1 := hS.out.1.free 1
        have f2 := hS.out.1.free 2
        have hrl := hS.out.1.lt
        have hql := hS.out.2.1.lt
        clear hU INV STEP FAIL MB ROW hI U0
        obtain ⟨zs, th, mn⟩ := s
        simp only at hS z0 z1 z2 hs8 hs2
        go_wp2
        have zz := ((hS.out.1.set0 (.slice (some ⟨g, 0, none⟩) zs.length cg)).set1 (.int .i64 t)).set2 (.bool th)
        obtain ⟨e0, e1, e2⟩ := zz.cells
        have on := (((MC.Only.refl w.heap.size wr).setCell 0 (.slice (some ⟨g, 0, none⟩) zs.length cg)).setCell 1 (.int .i64 t)).setCell 2 (.bool th)
        have hB := ((hS.out.2.2.2.setCell (p := ⟨w.heap.size, 0, none⟩) (Nat.le_refl _) (.slice (some ⟨g, 0, none⟩) zs.length cg)).setCell (p := ⟨w.heap.size, 1, none⟩) (Nat.le_refl _) (.int .i64 t)).setCell (p := ⟨w.heap.size, 2, none⟩) (Nat.le_refl _) (.bool th)
        have hO := SP.own_only2 hS.out.2.2.1 on (fun e => by simp [Value.ownBlock] at e; omega)
        exact bodyPost_ret (v := .tuple #[.agg #[.slice (some ⟨g, 0, none⟩) zs.length cg, .int .i64 t, .bool th], .int .i64 mn, .bool true]) (by simp [results, Try.results6, go_sem, e0, e1, e2]) rfl ⟨_, _, by rw [hfin]; rfl, by rw [hfin]; exact hO, hB⟩
  · have eA : SP.plA n f t c ms = none := by rw [SP.plA, if_neg hok]
    rw [eA]
    have hc : SP.nok n f t c = false ∨ (SP.nok n f t c = true ∧ 100 < ms.length) := by
      cases h : SP.nok n f t c with
      | false => exact .inl rfl
      | true => exact .inr ⟨rfl, by have : ¬ ms.length ≤ 100 := fun h2 => hok ⟨h, h2⟩; omega⟩
    clear eA hok hin
    generalize SP.nok n f t c = K at *
    generalize SP.nL n f t c = L at *
    generalize SP.nT n f t c = T at *
    go_enter Try.func6, Try.ntmps6
    go_wp2_with fail
    refine Calls.mono NS.out ?_
    rintro e w1 ⟨a1, q1, rfl, ho, hb⟩
    have B1 := hb0.trans (hb.mono hb0.size)
    have bR1 := (bR.below hb bR.lt).alloc (.cells #[.slice a1 L.length q1, .int .i64 T, .bool false] 28)
    have hA : Below w1.heap.size w1 (w1.alloc (.cells #[.slice a1 L.length q1, .int .i64 T, .bool false] 28)) := (Below.refl _ _).alloc (Nat.le_refl _) _
    have HR : Hid _ := And.intro bR1 (B1.trans (hA.mono B1.size))
    obtain ⟨k0, k1, k2⟩ := bR1.cells
    have f0 := bR1.free 0
    have f1 := bR1.free 1
    have f2 := bR1.free 2
    have hrl := bR1.lt
    clear hb hb0 NS bR ho hA B1 bR1
    rcases hc with rfl | ⟨rfl, hd⟩
    · go_wp2
      have z2 := ((HR.out.1.set0 (.slice none 0 0)).set1 (.int .i64 0)).set2 (.bool false)
      obtain ⟨e0, e1, e2⟩ := z2.cells
      have hB := ((HR.out.2.setCell (p := ⟨w.heap.size, 0, none⟩) (Nat.le_refl _) (.slice none 0 0)).setCell (p := ⟨w.heap.size, 1, none⟩) (Nat.le_refl _) (.int .i64 0)).setCell (p := ⟨w.heap.size, 2, none⟩) (Nat.le_refl _) (.bool false)
      exact bodyPost_ret (v := .tuple #[.agg #[.slice none 0 0, .int .i64 0, .bool false], .int .i64 0, .bool false]) (by simp [results, Try.results6, go_sem, e0, e1, e2]) rfl ⟨none, 0, rfl, World.ownsRow_nil _ _ _ _, hB⟩
    · go_wp2
      have z2 := ((HR.out.1.set0 (.slice none 0 0)).set1 (.int .i64 0)).set2 (.bool false)
      obtain ⟨e0, e1, e2⟩ := z2.cells
      have hB := ((HR.out.2.setCell (p := ⟨w.heap.size, 0, none⟩) (Nat.le_refl _) (.slice none 0 0)).setCell (p := ⟨w.heap.size, 1, none⟩) (Nat.le_refl _) (.int .i64 0)).setCell (p := ⟨w.heap.size, 2, none⟩) (Nat.le_refl _) (.bool false)
      exact bodyPost_ret (v := .tuple #[.agg #[.slice none 0 0, .int .i64 0, .bool false], .int .i64 0, .bool false]) (by simp [results, Try.results6, go_sem, e0, e1, e2]) rfl ⟨none, 0, rfl, World.ownsRow_nil _ _ _ _, hB⟩
end Go.Proofs.Ytgajfpohlemahaa
