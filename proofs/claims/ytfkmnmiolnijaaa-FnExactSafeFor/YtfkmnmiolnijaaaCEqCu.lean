/- The laws' eqKeeper, eqKeeperS, eqCustody: what two custodies tell is held together, field by field. -/
import Derived.Test.YtfkmnmiolnijaaaCToCu
import Derived.Test.YtfkmnmiolnijaaaCEqIntS
import Derived.Test.YtfkmnmiolnijaaaCEqHold
import Derived.Test.YtfkmnmiolnijaaaCEqSlip
import Derived.Deep.RegionWith
namespace Go.Proofs.Ytfkmnmiolnijaaa
open Go.RowKit
set_option linter.unusedSimpArgs false in
set_option maxHeartbeats 3200000 in
set_option maxRecDepth 100000 in
theorem eqKeeper_any (p q : Kp) (w : World) (hp : KP.In w 0 p) (hq : KP.In w 0 q) (lp : p.ss.length ≤ 1048576 ∧ p.hs.length ≤ 1048576 ∧ p.ts.length ≤ 1048576) (lq : q.ss.length ≤ 1048576 ∧ q.hs.length ≤ 1048576 ∧ q.ts.length ≤ 1048576) :
    Calls Try.prog 49 #[p.v, q.v] w fun e w' => e = .returned (.bool (decide (p.said = q.said))) ∧ Below w.heap.size w w' := by
  obtain ⟨ss, hs, ts, sa, ha, ta, sc, hc, tc⟩ := p
  obtain ⟨ss', hs', ts', sa', ha', ta', sc', hc', tc'⟩ := q
  obtain ⟨l1, l2, l3⟩ := lp
  obtain ⟨m1, m2, m3⟩ := lq
  simp only at l1 l2 l3 m1 m2 m3
  obtain ⟨D, hD⟩ : ∃ D, decide (Kp.said ⟨ss, hs, ts, sa, ha, ta, sc, hc, tc⟩ = Kp.said ⟨ss', hs', ts', sa', ha', ta', sc', hc', tc'⟩) = D := ⟨_, rfl⟩
  rw [hD]
  obtain ⟨b0, h0⟩ : ∃ b, decide (ss = ss') = b := ⟨_, rfl⟩
  obtain ⟨b1, h1⟩ : ∃ b, decide (hs = hs') = b := ⟨_, rfl⟩
  obtain ⟨b2, h2⟩ : ∃ b, decide (ts = ts') = b := ⟨_, rfl⟩
  have HD : Hid (D = (b0 && b1 && b2)) := by show _ = _; rw [← hD, ← h0, ← h1, ← h2, Bool.eq_iff_iff]; simp only [Bool.and_eq_true, decide_eq_true_eq, Kp.said, Prod.mk.injEq, and_assoc]
  have S0 : Hid (∀ W : World, Below w.heap.size w W → Calls Try.prog 26 #[.slice sa ss.length sc, .slice sa' ss'.length sc'] W fun e w' => e = .returned (.bool b0) ∧ Below W.heap.size W w') := fun W h => h0 ▸ eqIntS_any sa sa' sc sc' ss ss' W (by omega) (by omega) (M4.IntsAt.below hp.s.at_ h) (M4.IntsAt.below hq.s.at_ h)
  have S1 : Hid (∀ W : World, Below w.heap.size w W → Calls Try.prog 64 #[.slice ha hs.length hc, .slice ha' hs'.length hc'] W fun e w' => e = .returned (.bool b1) ∧ Below W.heap.size W w') := fun W h => h1 ▸ eqHoldS_any ha ha' hc hc' hs hs' W (by omega) (by omega) (hp.h.at_.below h) (hq.h.at_.below h)
  have S2 : Hid (∀ W : World, Below w.heap.size w W → Calls Try.prog 26 #[.slice ta ts.length tc, .slice ta' ts'.length tc'] W fun e w' => e = .returned (.bool b2) ∧ Below W.heap.size W w') := fun W h => h2 ▸ eqIntS_any ta ta' tc tc' ts ts' W (by omega) (by omega) (M4.IntsAt.below hp.t.at_ h) (M4.IntsAt.below hq.t.at_ h)
  clear hD h0 h1 h2 hp hq l1 l2 l3 m1 m2 m3
  have hB0 : Below w.heap.size w ((w.alloc (.cells #[.slice sa ss.length sc, .slice ha hs.length hc, .slice ta ts.length tc] 50)).alloc (.cells #[.slice sa' ss'.length sc', .slice ha' hs'.length hc', .slice ta' ts'.length tc'] 50)) := ((Below.refl _ w).alloc (Nat.le_refl _) _).alloc (by simp) _
  have x0 : BxN ((w.alloc (.cells #[.slice sa ss.length sc, .slice ha hs.length hc, .slice ta ts.length tc] 50)).alloc (.cells #[.slice sa' ss'.length sc', .slice ha' hs'.length hc', .slice ta' ts'.length tc'] 50)) w.heap.size [.slice sa ss.length sc, .slice ha hs.length hc, .slice ta ts.length tc] 50 := (BxN.new w _ _ rfl).alloc _
  have y0 : BxN ((w.alloc (.cells #[.slice sa ss.length sc, .slice ha hs.length hc, .slice ta ts.length tc] 50)).alloc (.cells #[.slice sa' ss'.length sc', .slice ha' hs'.length hc', .slice ta' ts'.length tc'] 50)) (w.heap.size + 1) [.slice sa' ss'.length sc', .slice ha' hs'.length hc', .slice ta' ts'.length tc'] 50 := BxN.new _ _ _ (by simp)
  go_enter Try.func49, Try.ntmps49
  go_wp2_with fail
  generalize ((w.alloc (.cells #[.slice sa ss.length sc, .slice ha hs.length hc, .slice ta ts.length tc] 50)).alloc (.cells #[.slice sa' ss'.length sc', .slice ha' hs'.length hc', .slice ta' ts'.length tc'] 50)) = W0 at *
  refine (S0.out W0 hB0).mono ?_
  rintro e W1 ⟨rfl, hb⟩
  have hB1 := hB0.trans (hb.mono hB0.size)
  have x1 := x0.below hb x0.lt
  have y1 := y0.below hb y0.lt
  clear hb S0 x0 y0
  rcases Bool.eq_false_or_eq_true b0 with hb0 | hb0
  case' inr =>
    have hF : Hid (D = false) := by show _ = _; rw [HD.out, hb0]; simp
    rw [hb0]
    clear HD hb0 x1 y1 S1 S2
    go_wp2
    go_ret
    exact ⟨M4.ret_bool hF.out.symm, hB1⟩
  rw [hb0]
  rw [hb0] at HD
  clear hb0
  have c0 := x1.cell 1 rfl
  have d0 := y1.cell 1 rfl
  go_wp2_with fail
  clear c0 d0
  refine (S1.out W1 hB1).mono ?_
  rintro e W2 ⟨rfl, hb⟩
  have hB2 := hB1.trans (hb.mono hB1.size)
  have x2 := x1.below hb x1.lt
  have y2 := y1.below hb y1.lt
  clear hb S1 x1 y1
  rcases Bool.eq_false_or_eq_true b1 with hb1 | hb1
  case' inr =>
    have hF : Hid (D = false) := by show _ = _; rw [HD.out, hb1]; simp
    rw [hb1]
    clear HD hb1 x2 y2 S2
    go_wp2
    go_ret
    exact ⟨M4.ret_bool hF.out.symm, hB2⟩
  rw [hb1]
  rw [hb1] at HD
  clear hb1
  have c1 := x2.cell 2 rfl
  have d1 := y2.cell 2 rfl
  go_wp2_with fail
  clear c1 d1
  refine (S2.out W2 hB2).mono ?_
  rintro e W3 ⟨rfl, hb⟩
  have hB3 := hB2.trans (hb.mono hB2.size)
  have x3 := x2.below hb x2.lt
  have y3 := y2.below hb y2.lt
  clear hb S2 x2 y2
  rcases Bool.eq_false_or_eq_true b2 with hb2 | hb2
  case' inr =>
    have hF : Hid (D = false) := by show _ = _; rw [HD.out, hb2]; simp
    rw [hb2]
    clear HD hb2 x3 y3 
    go_wp2
    go_ret
    exact ⟨M4.ret_bool hF.out.symm, hB3⟩
  have hF : Hid (D = true) := by show _ = _; rw [HD.out, hb2]; rfl
  rw [hb2]
  clear HD hb2 x3 y3
  go_wp2
  go_ret
  exact ⟨M4.ret_bool hF.out.symm, hB3⟩
theorem KP.said_take {ps qs : List Kp} {k : Nat} (hx : k < ps.length) (hy : k < qs.length) (h : (ps.take k).map Kp.said = (qs.take k).map Kp.said) (e : (KP.at_ ps k).said = (KP.at_ qs k).said) : (ps.take (k + 1)).map Kp.said = (qs.take (k + 1)).map Kp.said := by
  rw [List.take_succ_eq_append_getElem hx, List.take_succ_eq_append_getElem hy, List.map_append, List.map_append, h, ← KP.at_eq hx, ← KP.at_eq hy]
  simp only [List.map_cons, List.map_nil, e]
theorem KP.said_ne {ps qs : List Kp} {k : Nat} (hx : k < ps.length) (hy : k < qs.length) (h : (KP.at_ ps k).said ≠ (KP.at_ qs k).said) : ps.map Kp.said ≠ qs.map Kp.said := fun e => h (by rw [← KP.sd_at hx, ← KP.sd_at hy, e])
set_option linter.unusedSimpArgs false in
set_option maxHeartbeats 3200000 in
set_option maxRecDepth 100000 in
theorem eqKeeperS_any (a b : Option Addr) (ca cb : Nat) (xs ys : List Kp) (w : World) (hx : xs.length ≤ 1048576) (hy : ys.length ≤ 1048576) (hax : KP.RowAt w 0 a xs) (hay : KP.RowAt w 0 b ys)
    (lx : ∀ j, j < xs.length → (KP.at_ xs j).ss.length ≤ 1048576 ∧ (KP.at_ xs j).hs.length ≤ 1048576 ∧ (KP.at_ xs j).ts.length ≤ 1048576) (ly : ∀ j, j < ys.length → (KP.at_ ys j).ss.length ≤ 1048576 ∧ (KP.at_ ys j).hs.length ≤ 1048576 ∧ (KP.at_ ys j).ts.length ≤ 1048576) :
    Calls Try.prog 27 #[.slice a xs.length ca, .slice b ys.length cb] w fun e w' => e = .returned (.bool (decide (xs.map Kp.said = ys.map Kp.said))) ∧ Below w.heap.size w w' := by
  have HLX : Hid _ := lx
  have HLY : Hid _ := ly
  have HAX : Hid _ := hax
  have HAY : Hid _ := hay
  clear lx ly hax hay
  obtain ⟨D, hD⟩ : ∃ D, decide (xs.map Kp.said = ys.map Kp.said) = D := ⟨_, rfl⟩
  rw [hD]
  have HD : Hid (decide (xs.map Kp.said = ys.map Kp.said) = D) := hD
  clear hD
  by_cases hl : xs.length = ys.length
  · have hne : ((xs.length : Int) != (ys.length : Int)) = false := by simp [hl]
    have l1 : xs.length ≤ ys.length := by omega
    have HL : Hid (xs.length = ys.length) := hl
    clear hl
    go_enter Try.func27, Try.ntmps27
    go_wp2
    go_loopw [5] (fun iv wr => ∃ k : Nat, iv = .int .i64 k ∧ k ≤ xs.length ∧ Hid ((xs.take k).map Kp.said = (ys.take k).map Kp.said) ∧ Below w.heap.size w wr) (fun iv _ => (xs.length - intOf iv).toNat)
    case atStart => exact ⟨0, rfl, by omega, rfl, Below.refl _ _⟩
    case round =>
      obtain ⟨k, rfl, hk, hT, hb⟩ := hrel
      by_cases hl : k < xs.length
      · have hly : k < ys.length := by omega
        obtain ⟨b1, off1, rfl, hlt1, c0, c1, c2, hi1⟩ := (HAX.out.below hb).at hl
        obtain ⟨b2, off2, rfl, hlt2, d0, d1, d2, hi2⟩ := (HAY.out.below hb).at hly
        have hT' : Hid ((KP.at_ xs k).said = (KP.at_ ys k).said → (xs.take (k + 1)).map Kp.said = (ys.take (k + 1)).map Kp.said) := fun e => KP.said_take hl hly hT.out e
        have hF : Hid ((KP.at_ xs k).said ≠ (KP.at_ ys k).said → D = false) := fun e => by rw [← HD.out]; exact decide_eq_false (KP.said_ne hl hly e)
        have lx := HLX.out k hl
        have ly := HLY.out k hly
        have EQ : Hid (∀ W : World, Below wr.heap.size wr W → Calls Try.prog 49 #[(KP.at_ xs k).v, (KP.at_ ys k).v] W fun e w' => e = .returned (.bool (decide ((KP.at_ xs k).said = (KP.at_ ys k).said))) ∧ Below W.heap.size W w') := fun W h => eqKeeper_any (KP.at_ xs k) (KP.at_ ys k) W (hi1.below h) (hi2.below h) lx ly
        clear hi1 hi2 lx ly HLX HLY HAX HAY
        generalize KP.at_ xs k = x at *
        generalize KP.at_ ys k = y at *
        obtain ⟨bq, hbq⟩ : ∃ bq, decide (x.said = y.said) = bq := ⟨_, rfl⟩
        rw [hbq] at EQ
        have HBQ : Hid _ := hbq
        clear hbq
        obtain ⟨ss, hs, ts, sa, ha, ta, sc, hc, tc⟩ := x
        obtain ⟨ss', hs', ts', sa', ha', ta', sc', hc', tc'⟩ := y
        go_wp2
        go_region_with (go_at_call 49; refine (EQ.out _ (Below.drew (Below.refl _ _))).mono ?_; rintro e w1 ⟨rfl, hb1⟩)
        all_goals (
          have hB1 : Below w.heap.size w w1 := hb.drew.trans (hb1.mono (by have := hb.size; simpa using this))
          clear hb1 hb EQ c0 c1 c2 d0 d1 d2
          cases bq
          · have hE : Hid (D = false) := hF.out (of_decide_eq_false HBQ.out)
            clear hT hT' hF HBQ HD
            go_wp2
            go_ret
            exact ⟨M4.ret_bool hE.out.symm, hB1⟩
          · have hE : Hid _ := hT'.out (of_decide_eq_true HBQ.out)
            clear hT hT' hF HBQ HD
            go_wp2
            go_roundw
            case rel => exact ⟨k + 1, by go_num, by omega, hE, hB1⟩
            case measure => simp [intOf]; omega)
      · obtain rfl : k = xs.length := by omega
        have hF : Hid (D = true) := by
          show _ = _
          rw [← HD.out, decide_eq_true_eq]
          have := hT.out
          rw [List.take_length, HL.out, List.take_length] at this
          exact this
        clear HD HLX HLY HAX HAY
        go_wp2
        go_ret
        exact ⟨M4.ret_bool hF.out.symm, hb⟩
  · have hne : ((xs.length : Int) != (ys.length : Int)) = true := by simp; omega
    have hF : Hid (D = false) := by
      show _ = _
      rw [← HD.out]
      refine decide_eq_false (fun e => hl ?_)
      have := congrArg List.length e
      simpa using this
    clear hl HD HLX HLY HAX HAY
    go_enter Try.func27, Try.ntmps27
    go_wp2
    go_ret
    exact ⟨M4.ret_bool hF.out.symm, Below.refl _ _⟩
set_option linter.unusedSimpArgs false in
set_option maxHeartbeats 3200000 in
set_option maxRecDepth 100000 in
theorem eqCustody_any (c d : Cu) (w : World) (hc : CuAt w c) (hd : CuAt w d) (lc : CuLen c) (ld : CuLen d) :
    Calls Try.prog 9 #[c.v, d.v] w fun e w' => e = .returned (.bool (decide (c.said = d.said))) ∧ Below w.heap.size w w' := by
  obtain ⟨us, ks, ls, ns, ua, ka, la, na, uc, kc, lcc, nc⟩ := c
  obtain ⟨us', ks', ls', ns', ua', ka', la', na', uc', kc', lcc', nc'⟩ := d
  obtain ⟨l1, l2, l3, l4, l5⟩ := lc
  obtain ⟨m1, m2, m3, m4, m5⟩ := ld
  simp only at l1 l2 l3 l4 l5 m1 m2 m3 m4 m5
  obtain ⟨D, hD⟩ : ∃ D, decide (Cu.said ⟨us, ks, ls, ns, ua, ka, la, na, uc, kc, lcc, nc⟩ = Cu.said ⟨us', ks', ls', ns', ua', ka', la', na', uc', kc', lcc', nc'⟩) = D := ⟨_, rfl⟩
  rw [hD]
  obtain ⟨b0, h0⟩ : ∃ b, decide (us = us') = b := ⟨_, rfl⟩
  obtain ⟨b1, h1⟩ : ∃ b, decide (ks.map Kp.said = ks'.map Kp.said) = b := ⟨_, rfl⟩
  obtain ⟨b2, h2⟩ : ∃ b, decide (ls = ls') = b := ⟨_, rfl⟩
  obtain ⟨b3, h3⟩ : ∃ b, decide (ns = ns') = b := ⟨_, rfl⟩
  have HD : Hid (D = (b0 && b1 && b2 && b3)) := by show _ = _; rw [← hD, ← h0, ← h1, ← h2, ← h3, Bool.eq_iff_iff]; simp only [Bool.and_eq_true, decide_eq_true_eq, Cu.said, CuS.mk.injEq, and_assoc]
  have S0 : Hid (∀ W : World, Below w.heap.size w W → Calls Try.prog 26 #[.slice ua us.length uc, .slice ua' us'.length uc'] W fun e w' => e = .returned (.bool b0) ∧ Below W.heap.size W w') := fun W h => h0 ▸ eqIntS_any ua ua' uc uc' us us' W (by omega) (by omega) (M4.IntsAt.below hc.u h) (M4.IntsAt.below hd.u h)
  have S1 : Hid (∀ W : World, Below w.heap.size w W → Calls Try.prog 27 #[.slice ka ks.length kc, .slice ka' ks'.length kc'] W fun e w' => e = .returned (.bool b1) ∧ Below W.heap.size W w') := fun W h => h1 ▸ eqKeeperS_any ka ka' kc kc' ks ks' W (by omega) (by omega) (hc.k.below h) (hd.k.below h) l5 m5
  have S2 : Hid (∀ W : World, Below w.heap.size w W → Calls Try.prog 28 #[.slice la ls.length lcc, .slice la' ls'.length lcc'] W fun e w' => e = .returned (.bool b2) ∧ Below W.heap.size W w') := fun W h => h2 ▸ eqSlipS_any la la' lcc lcc' ls ls' W (by omega) (by omega) (hc.l.below h) (hd.l.below h)
  have S3 : Hid (∀ W : World, Below w.heap.size w W → Calls Try.prog 26 #[.slice na ns.length nc, .slice na' ns'.length nc'] W fun e w' => e = .returned (.bool b3) ∧ Below W.heap.size W w') := fun W h => h3 ▸ eqIntS_any na na' nc nc' ns ns' W (by omega) (by omega) (M4.IntsAt.below hc.n h) (M4.IntsAt.below hd.n h)
  clear hD h0 h1 h2 h3 hc hd l1 l2 l3 l4 l5 m1 m2 m3 m4 m5
  have hB0 : Below w.heap.size w ((w.alloc (.cells #[.slice ua us.length uc, .slice ka ks.length kc, .slice la ls.length lcc, .slice na ns.length nc] 32)).alloc (.cells #[.slice ua' us'.length uc', .slice ka' ks'.length kc', .slice la' ls'.length lcc', .slice na' ns'.length nc'] 32)) := ((Below.refl _ w).alloc (Nat.le_refl _) _).alloc (by simp) _
  have x0 : BxN ((w.alloc (.cells #[.slice ua us.length uc, .slice ka ks.length kc, .slice la ls.length lcc, .slice na ns.length nc] 32)).alloc (.cells #[.slice ua' us'.length uc', .slice ka' ks'.length kc', .slice la' ls'.length lcc', .slice na' ns'.length nc'] 32)) w.heap.size [.slice ua us.length uc, .slice ka ks.length kc, .slice la ls.length lcc, .slice na ns.length nc] 32 := (BxN.new w _ _ rfl).alloc _
  have y0 : BxN ((w.alloc (.cells #[.slice ua us.length uc, .slice ka ks.length kc, .slice la ls.length lcc, .slice na ns.length nc] 32)).alloc (.cells #[.slice ua' us'.length uc', .slice ka' ks'.length kc', .slice la' ls'.length lcc', .slice na' ns'.length nc'] 32)) (w.heap.size + 1) [.slice ua' us'.length uc', .slice ka' ks'.length kc', .slice la' ls'.length lcc', .slice na' ns'.length nc'] 32 := BxN.new _ _ _ (by simp)
  go_enter Try.func9, Try.ntmps9
  go_wp2_with fail
  generalize ((w.alloc (.cells #[.slice ua us.length uc, .slice ka ks.length kc, .slice la ls.length lcc, .slice na ns.length nc] 32)).alloc (.cells #[.slice ua' us'.length uc', .slice ka' ks'.length kc', .slice la' ls'.length lcc', .slice na' ns'.length nc'] 32)) = W0 at *
  refine (S0.out W0 hB0).mono ?_
  rintro e W1 ⟨rfl, hb⟩
  have hB1 := hB0.trans (hb.mono hB0.size)
  have x1 := x0.below hb x0.lt
  have y1 := y0.below hb y0.lt
  clear hb S0 x0 y0
  rcases Bool.eq_false_or_eq_true b0 with hb0 | hb0
  case' inr =>
    have hF : Hid (D = false) := by show _ = _; rw [HD.out, hb0]; simp
    rw [hb0]
    clear HD hb0 x1 y1 S1 S2 S3
    go_wp2
    go_ret
    exact ⟨M4.ret_bool hF.out.symm, hB1⟩
  rw [hb0]
  rw [hb0] at HD
  clear hb0
  have c0 := x1.cell 1 rfl
  have d0 := y1.cell 1 rfl
  go_wp2_with fail
  clear c0 d0
  refine (S1.out W1 hB1).mono ?_
  rintro e W2 ⟨rfl, hb⟩
  have hB2 := hB1.trans (hb.mono hB1.size)
  have x2 := x1.below hb x1.lt
  have y2 := y1.below hb y1.lt
  clear hb S1 x1 y1
  rcases Bool.eq_false_or_eq_true b1 with hb1 | hb1
  case' inr =>
    have hF : Hid (D = false) := by show _ = _; rw [HD.out, hb1]; simp
    rw [hb1]
    clear HD hb1 x2 y2 S2 S3
    go_wp2
    go_ret
    exact ⟨M4.ret_bool hF.out.symm, hB2⟩
  rw [hb1]
  rw [hb1] at HD
  clear hb1
  have c1 := x2.cell 2 rfl
  have d1 := y2.cell 2 rfl
  go_wp2_with fail
  clear c1 d1
  refine (S2.out W2 hB2).mono ?_
  rintro e W3 ⟨rfl, hb⟩
  have hB3 := hB2.trans (hb.mono hB2.size)
  have x3 := x2.below hb x2.lt
  have y3 := y2.below hb y2.lt
  clear hb S2 x2 y2
  rcases Bool.eq_false_or_eq_true b2 with hb2 | hb2
  case' inr =>
    have hF : Hid (D = false) := by show _ = _; rw [HD.out, hb2]; simp
    rw [hb2]
    clear HD hb2 x3 y3 S3
    go_wp2
    go_ret
    exact ⟨M4.ret_bool hF.out.symm, hB3⟩
  rw [hb2]
  rw [hb2] at HD
  clear hb2
  have c2 := x3.cell 3 rfl
  have d2 := y3.cell 3 rfl
  go_wp2_with fail
  clear c2 d2
  refine (S3.out W3 hB3).mono ?_
  rintro e W4 ⟨rfl, hb⟩
  have hB4 := hB3.trans (hb.mono hB3.size)
  have x4 := x3.below hb x3.lt
  have y4 := y3.below hb y3.lt
  clear hb S3 x3 y3
  rcases Bool.eq_false_or_eq_true b3 with hb3 | hb3
  case' inr =>
    have hF : Hid (D = false) := by show _ = _; rw [HD.out, hb3]; simp
    rw [hb3]
    clear HD hb3 x4 y4 
    go_wp2
    go_ret
    exact ⟨M4.ret_bool hF.out.symm, hB4⟩
  have hF : Hid (D = true) := by show _ = _; rw [HD.out, hb3]; rfl
  rw [hb3]
  clear HD hb3 x4 y4
  go_wp2
  go_ret
  exact ⟨M4.ret_bool hF.out.symm, hB4⟩
end Go.Proofs.Ytfkmnmiolnijaaa
