/- mostInTime of the program. -/
import Derived.Test.YtgenmljnhlcpcaaRows
import Derived.Test.YtgenmljnhlcpcaaCMost1
import Derived.Test.YtgenmljnhlcpcaaMJM
import Derived.Maps.AppendAt
namespace Go.Proofs.Ytgenmljnhlcpcaa
open Go.RowKit
set_option linter.unusedSimpArgs false in
set_option maxHeartbeats 3200000 in
set_option maxRecDepth 100000 in
theorem mostInTime_any (a : Option Addr) (ca : Nat) (xs : List I2) (w : World) (hg : JD.okP xs = true) (hin : MI2.RowAt w a xs) :
    Calls Try.prog 34 #[.slice a xs.length ca] w fun e w' => ∃ g1 c1, e = .returned (.slice (some ⟨g1, 0, none⟩) (JD.tak xs xs.length).length c1) ∧ w'.ownsRow w.heap.size 3 1 (.slice (some ⟨g1, 0, none⟩) (JD.tak xs xs.length).length c1) (JD.tak xs xs.length).length (M4.iv (JD.tak xs xs.length)) ∧ Below w.heap.size w w' := by
  obtain ⟨i0, hi, hz0, hz1, hz2⟩ := info_parts Try.info3
  have SF : ∀ (W : World) (ad : Addr) (F : Nat) (cs : Array Value) (m : Mode), (store ad (.func (.func F) #[] cs) m).run Try.prog W = stored Try.prog W ad (.func (.func F) #[] cs) m := fun W ad F cs m => run_store _ W ad _ m rfl
  have hlen := ((JD.okP_iff xs).1 hg).1
  have HXI : Hid (MI2.RowAt w a xs) := hin
  have HG : Hid _ := hg
  have HBL : Hid _ := JD.byD_len hg
  have OW0 : Hid (World.ownsRow (w.alloc (.cells #[] 3)) w.heap.size 3 1 (.slice (some ⟨w.heap.size, 0, none⟩) 0 0) 0 (M4.iv [])) := by
    have := World.ownsRow_lit (base := w.heap.size) (e := 3) (size := 1) w #[] 0 (Nat.le_refl _) (by unfold maxLen; omega) (by simp)
    show World.ownsRow _ _ _ _ _ _ _
    simpa [M4.iv] using this
  have hB0 : Below w.heap.size w (w.alloc (.cells #[] 3)) := (Below.refl _ w).alloc (Nat.le_refl _) _
  have HB0 : Hid _ := hB0
  clear hin hg hB0
  go_enter Try.func34, Try.ntmps34
  go_wp2_with fail
  refine (orderLong_any a ca xs.length _).mono ?_
  rintro e w1 ⟨rfl, hc1, hl1, hb1⟩
  have hsz : (w.alloc (.cells #[] 3)).heap.size = w.heap.size + 1 := by simp
  rw [hsz] at hc1 hl1 hb1
  try rw [hsz]
  have HB1 : Hid (Below w.heap.size w (w1.alloc (.cells #[.func (.func 73) #[] #[.pointer (some ⟨w.heap.size + 1, 0, none⟩)]] 56))) := by
    have h1 := HB0.out.trans (hb1.mono (Nat.le_succ _))
    exact h1.alloc h1.size _
  have BD : Hid _ := byDue_any a ca xs (w1.alloc (.cells #[.func (.func 73) #[] #[.pointer (some ⟨w.heap.size + 1, 0, none⟩)]] 56)) HG.out (HXI.out.below HB1.out)
  go_wp2_with fail
  refine Calls.mono BD.out ?_
  rintro e W ⟨gd, cd, rfl, od, bd⟩
  have hsz1 : (w1.alloc (.cells #[.func (.func 73) #[] #[.pointer (some ⟨w.heap.size + 1, 0, none⟩)]] 56)).heap.size = w1.heap.size + 1 := by simp
  have C1 : W.cell? ⟨w.heap.size + 1, 0, none⟩ = some (.slice a xs.length ca) := by
    rw [bd.cell (p := ⟨w.heap.size + 1, 0, none⟩) (by rw [hsz1]; show w.heap.size + 1 < _; omega), ((Below.refl _ w1).alloc (Nat.le_refl _) _).cell (p := ⟨w.heap.size + 1, 0, none⟩) hl1]; exact hc1
  have C2 : W.cell? ⟨w1.heap.size, 0, none⟩ = some (.func (.func 73) #[] #[.pointer (some ⟨w.heap.size + 1, 0, none⟩)]) := by
    rw [bd.cell (p := ⟨w1.heap.size, 0, none⟩) (by rw [hsz1]; exact Nat.lt_succ_self _), World.cell?_alloc_new]; rfl
  have hgd := od.lt gd rfl
  rw [hsz1] at hgd
  have hBW : Below w.heap.size w W := HB1.out.trans (bd.mono HB1.out.size)
  have hsW := bd.size
  rw [hsz1] at hsW
  have HBY : Hid (M4.IntsAt W (some ⟨gd, 0, none⟩) (JD.byD xs)) := M4.IntsAt.of_own od
  have TK0 : Hid (JD.Tk W W w.heap.size w.heap.size 0 (JD.tak xs 0)) := by
    refine ⟨MC.Only.refl _ _, ?_, .inl rfl⟩
    rw [JD.tak_zero]
    exact M5.own_below (M5.own_below (M5.own_below OW0.out (by rw [hsz]; exact hb1)) ((Below.refl _ w1).alloc (Nat.le_refl _) _)) bd
  have HT0 : Hid ((JD.tak xs 0).length = 0) := by show _ = _; rw [JD.tak_zero]; rfl
  clear BD HB1 HB0 OW0 hb1 od bd hc1 hsz hsz1
  have KB : Hid (∀ wr, MC.Only w.heap.size W wr → Below w.heap.size w wr) := fun wr h => hBW.trans (h.below (Nat.le_refl _) hBW.size)
  have RK : Hid (∀ wr, MC.Only w.heap.size W wr → ∀ z : Int, 0 ≤ z → z < xs.length → Calls Try.prog 73 (#[.int .i64 z] ++ #[.pointer (some ⟨w.heap.size + 1, 0, none⟩)]) wr fun e w' => e = .returned (.int .i64 (JD.lngN xs z : Int)) ∧ wr = w') := fun wr h z h0 h1 => by
    obtain ⟨j, rfl⟩ := Int.eq_ofNat_of_zero_le h0
    refine (rankLong_any a ca (w.heap.size + 1) xs j wr (by omega) hlen ?_ (HXI.out.below (KB.out wr h))).mono ?_
    · rw [h.cell (x := ⟨w.heap.size + 1, 0, none⟩) (by show w.heap.size + 1 < _; omega) (by show w.heap.size + 1 ≠ _; omega)]; exact C1
    · rintro e w' ⟨rfl, rfl⟩
      have := JD.lng_is HG.out h0 h1
      rw [Int.toNat_natCast] at this
      exact ⟨by rw [this], rfl⟩
  clear C1
  go_wp2
  go_loopw [3, 6, 7, 14] (fun v _ _ iv wr => ∃ (k tg tc tl : Nat), iv = .int .i64 k ∧ k ≤ xs.length ∧ v = .slice (some ⟨tg, 0, none⟩) tl tc ∧ Hid ((JD.tak xs k).length = tl) ∧ Hid (JD.Tk W wr w.heap.size tg tc (JD.tak xs k))) (fun _ _ _ iv _ => (xs.length - intOf iv).toNat)
  case atStart => exact ⟨0, w.heap.size, 0, 0, rfl, by omega, rfl, HT0, TK0⟩
  case round =>
    clear HT0 TK0
    obtain ⟨k, tg, tc, tl, rfl, hk, rfl, HTL, HT⟩ := hrel
    by_cases hlk : k < xs.length
    · have hlk2 : k < (JD.byD xs).length := by rw [HBL.out]; exact hlk
      obtain ⟨z, hz, hzx⟩ := JD.nat_at (fun z hz => (JD.byD_mem HG.out z).1 hz) hlk2
      obtain ⟨b6, off6, hb6, hlt6, hc6⟩ := M4.IntsAt.at (HT.out.only.ints HBY.out (fun b off hb => by cases hb; omega)) hlk2
      cases hb6
      rw [hz, Nat.zero_add] at hc6
      have HSU : Hid _ := JD.tak_succ hlk2
      have HND : Hid _ := JD.tak_more hlk2
      have htl := JD.tak_len xs (Nat.le_of_lt hlk2)
      have HRG : Hid (∀ y, y ∈ JD.tak xs k ++ [(z : Int)] → 0 ≤ y ∧ y < xs.length) := fun y hy => by
        rcases List.mem_append.1 hy with h | h
        · exact JD.tak_rng HG.out (Nat.le_of_lt hlk2) y h
        · rw [List.mem_singleton.1 h]; omega
      rw [hz] at HSU HND
      rw [HTL.out] at htl
      clear hz hlk2
      obtain ⟨t, ht⟩ : ∃ t, JD.tak xs k = t := ⟨_, rfl⟩
      rw [ht] at HT HSU HND HRG HTL
      clear ht
      have HO : Hid (World.ownsRow wr w.heap.size 3 1 (.slice (some ⟨tg, 0, none⟩) tl tc) tl (M4.iv t)) := by rw [← HTL.out]; exact HT.out.own
      have hws := HT.out.only.size
      go_wp2_with (at_builtin; go_loud (refine Go.wpList_append_own_at _ rfl _ _ 24 rfl w.heap.size 3 i0 (.int .i64 0) 1 8 Try.underlying24 hi hz0 hz1 hz2 rfl (by decide) _ _ _ rfl (World.ownsRow.alloc HO.out _) ⟨wr.heap.size, 0, none⟩ 1 1 [.int .i64 (z : Int)] rfl rfl ?c1 ?c2 ?c3 ?c4 ?c5 ?_))
      all_goals try (first | rfl | omega | exact M2.new1 _ _ _ | exact M2.one1 _ _ | (unfold maxLen; omega) | (simp; omega))
      intro v' wn hown1 hgrow _ hat
      obtain ⟨tg2, tc2, rfl⟩ : ∃ tg2 tc2, v' = .slice (some ⟨tg2, 0, none⟩) (tl + 1) tc2 := by
        rcases hown1.2 with ⟨-, h0⟩ | ⟨g', c', cur, rfl, -⟩
        · omega
        · exact ⟨g', c', rfl⟩
      obtain ⟨ts, hts⟩ : ∃ ts, t ++ [(z : Int)] = ts := ⟨_, rfl⟩
      have HTS : Hid (ts.length = tl + 1) := by show _ = _; rw [← hts, List.length_append, HTL.out]; rfl
      have T1 : Hid (JD.Tk W wn w.heap.size tg2 tc2 ts) := by
        have hblk : tg2 = tg ∨ tg2 = wr.heap.size + 1 := by
          simpa [Value.ownBlock] using hat
        refine ⟨⟨hgrow.os.trans HT.out.only.os, hgrow.tape.trans HT.out.only.tape, hgrow.output.trans HT.out.only.output, ?_, fun q hq hp => ?_⟩, ?_, ?_⟩
        · have := hgrow.size; simp at this; omega
        · have h1 := hgrow.block q (by simp; omega) (fun e => by
            simp only [Value.ownBlock, Option.some.injEq] at e
            rcases HT.out.blk with b | b <;> omega)
          rw [h1, ((Below.refl _ wr).alloc (Nat.le_refl _) _).block q (by omega)]
          exact HT.out.only.block q hq hp
        · rw [HTS.out, ← hts]; simpa [M4.iv] using hown1
        · rcases hblk with b | b
          · rw [b]; exact HT.out.blk
          · exact .inr (by omega)
      rw [hts] at HND HRG
      have HSU2 : Hid (JD.tak xs (k + 1) = if (ts.map fun y => (JD.lngN xs y : Int)).sum ≤ JD.duI xs (z : Int) then ts else ts.eraseIdx (JD.lmx (JD.lngN xs) ts ts.length)) := by
        show _ = _
        rw [HSU.out, JD.mst, hts]
      clear hown1 hgrow hat HO HT HSU hts HTL hc6
      have T1n : Hid (∀ n, JD.Tk W (wn.drewN n) w.heap.size tg2 tc2 ts) := fun n => T1.out.drewN n
      have hts10 : tl + 1 ≤ 10 := by omega
      have EO : Hid (∀ n, Calls Try.prog 51 #[.slice a xs.length ca, .slice (some ⟨tg2, 0, none⟩) (tl + 1) tc2] (wn.drewN n) fun e w' => e = .returned (.int .i64 (JD.endK xs ts ts.length)) ∧ wn.drewN n = w') := fun n => by
        have h := endOf_any a (some ⟨tg2, 0, none⟩) ca tc2 xs ts (wn.drewN n) HG HRG (by rw [HTS.out]; omega) (HXI.out.below (KB.out _ (T1n.out n).only)) (T1n.out n).at
        rw [HTS.out] at h
        rw [HTS.out]
        exact h
      have HES : Hid (JD.endK xs ts ts.length = (ts.map fun y => (JD.lngN xs y : Int)).sum) := by
        show _ = _
        rw [JD.endK_sum HG.out HRG.out ts.length (Nat.le_refl _), List.take_length]
      rw [← HES.out] at HSU2
      clear HES
      obtain ⟨b8, off8, hb8, hlt8, -, hc8⟩ := (HXI.out.below (KB.out _ T1.out.only)).at hzx
      have e8 := JD.due_is HG.out (z := (z : Int)) (by omega) (by omega)
      rw [Int.toNat_natCast] at e8
      rw [e8] at hc8
      have hDU : JD.duI xs (z : Int) = (JD.dueN xs (z : Int) : Int) := rfl
      rw [hDU] at HSU2
      clear e8 hDU
      generalize JD.dueN xs (z : Int) = dz at *
      generalize JD.endK xs ts ts.length = en at *
      subst hb8
      by_cases hen : en ≤ (dz : Int)
      · have q1 : decide ((dz : Int) < en) = false := by simp; omega
        have HT2 : Hid (∀ n, JD.Tk W (wn.drewN n) w.heap.size tg2 tc2 (JD.tak xs (k + 1))) := by
          have e : JD.tak xs (k + 1) = ts := by rw [HSU2.out, if_pos hen]
          rw [e]; exact T1n.out
        have HTL2 : Hid ((JD.tak xs (k + 1)).length = tl + 1) := by
          show _ = _
          rw [HSU2.out, if_pos hen]; exact HTS.out
        clear HSU2 T1 T1n HTS HND HRG RK HBY
        go_wp2_with fail
        go_quiet ((go_at_call 51; exact (EO.out _).mono (by rintro e w' ⟨rfl, rfl⟩; exact ⟨rfl, _, rfl⟩)))
        go_wp2
        go_roundw
        case rel => exact ⟨k + 1, tg2, tc2, tl + 1, by go_num, by omega, rfl, HTL2, HT2.out _⟩
        case measure => simp [intOf]; omega
      · have q1 : decide ((dz : Int) < en) = true := by simp; omega
        obtain ⟨p, hp⟩ : ∃ p, JD.lmx (JD.lngN xs) ts ts.length = p := ⟨_, rfl⟩
        have hpl : p < tl + 1 := by
          have := JD.lmx_lt (JD.lngN xs) ts (n := ts.length) (by rw [HTS.out]; omega)
          rw [hp, HTS.out] at this; exact this
        have HE : Hid (JD.tak xs (k + 1) = ts.eraseIdx p) := by show _ = _; rw [HSU2.out, if_neg hen, hp]
        have LA : Hid (∀ n, Calls Try.prog 53 #[.agg #[.func (.func 73) #[] #[.pointer (some ⟨w.heap.size + 1, 0, none⟩)]], .slice (some ⟨tg2, 0, none⟩) (tl + 1) tc2] (wn.drewN n) fun e w' => e = .returned (.int .i64 (ts.getD p 0)) ∧ Below (wn.drewN n).heap.size (wn.drewN n) w') := fun n => by
          have h := lastOf_any 73 tg2 tc2 #[.pointer (some ⟨w.heap.size + 1, 0, none⟩)] ts (JD.lngN xs) 1001 (wn.drewN n) (by rw [HTS.out]; exact hts10) (by rw [HTS.out]; omega) (T1n.out n).at (enters_of Try.func73 (by rfl) rfl) (fun W2 hW2 y hy => RK.out W2 ((T1n.out n).only.trans (MC.Only.of_below hW2)) y (HRG.out y hy).1 (HRG.out y hy).2) (fun y hy => JD.lng_lt HG.out (HRG.out y hy).1 (HRG.out y hy).2)
          rw [hp, HTS.out] at h
          exact h
        have IX : Hid (∀ w2, JD.Tk W w2 w.heap.size tg2 tc2 ts → Calls Try.prog 52 #[.slice (some ⟨tg2, 0, none⟩) (tl + 1) tc2, .int .i64 (ts.getD p 0)] w2 fun e w' => e = .returned (.int .i64 (p : Int)) ∧ w2 = w') := fun w2 h2 => by
          have h := indexAt_any (some ⟨tg2, 0, none⟩) tc2 p ts (ts.getD p 0) w2 (by rw [HTS.out]; omega) h2.at (by rw [HTS.out]; exact hpl) rfl HND.out
          rw [HTS.out] at h
          exact h
        have DE : Hid (∀ w2, JD.Tk W w2 w.heap.size tg2 tc2 ts → Calls Try.prog 54 #[.slice (some ⟨tg2, 0, none⟩) (tl + 1) tc2, .int .i64 (p : Int), .int .i64 ((p : Int) + 1)] w2 fun e w' => e = .returned (.slice (some ⟨tg2, 0, none⟩) (JD.tak xs (k + 1)).length tc2) ∧ JD.Tk W w' w.heap.size tg2 tc2 (JD.tak xs (k + 1))) := fun w2 h2 => by
          have h := delete_any w.heap.size tg2 tc2 p ts w2 h2.own (by rw [HTS.out]; exact hpl)
          rw [HTS.out] at h
          refine h.mono ?_
          rintro e w' ⟨rfl, o', h'⟩
          rw [HE.out]
          exact ⟨rfl, h2.turn h' o'⟩
        have C2n : Hid (∀ n, (wn.drewN n).cell? ⟨w1.heap.size, 0, none⟩ = some (.func (.func 73) #[] #[.pointer (some ⟨w.heap.size + 1, 0, none⟩)])) := fun n => by
          rw [(T1n.out n).only.cell (x := ⟨w1.heap.size, 0, none⟩) (by show w1.heap.size < _; omega) (by show w1.heap.size ≠ _; omega)]; exact C2
        clear HSU2 T1 HTS HND HRG RK HBY hp HE
        generalize ts.getD p 0 = x at *
        go_wp2_with fail
        go_quiet ((go_at_call 51; exact (EO.out _).mono (by rintro e w' ⟨rfl, rfl⟩; exact ⟨rfl, _, rfl⟩)))
        have hc2 := C2n.out nq
        have L2 : Hid _ := LA.out nq
        have T2 : Hid _ := T1n.out nq
        clear C2n LA T1n EO hc8
        generalize wn.drewN nq = wq at *
        go_wp2_with fail
        refine Calls.mono L2.out ?_
        rintro e w5 ⟨rfl, b5⟩
        have T5 : Hid (JD.Tk W w5 w.heap.size tg2 tc2 ts) := JD.Tk.below T2.out b5
        have I5 : Hid _ := IX.out w5 T5.out
        have D5 : Hid _ := DE.out w5 T5.out
        clear L2 T2 IX DE b5 T5 hc2
        go_wp2_with fail
        refine Calls.mono I5.out ?_
        rintro e w6 ⟨rfl, rfl⟩
        clear I5
        go_wp2_with fail
        refine Calls.mono D5.out ?_
        rintro e w7 ⟨rfl, t7⟩
        have T7 : Hid _ := t7
        have HTL7 : Hid ((JD.tak xs (k + 1)).length = (JD.tak xs (k + 1)).length) := rfl
        clear D5 t7
        generalize hq7 : (JD.tak xs (k + 1)).length = l7 at *
        have HQ7 : Hid _ := hq7
        clear hq7 HTL7
        go_wp2
        go_roundw
        case rel => exact ⟨k + 1, tg2, tc2, l7, by go_num, by omega, rfl, HQ7, T7⟩
        case measure => simp [intOf]; omega
    · obtain rfl : k = xs.length := by omega
      have HF := HT.out
      go_wp2
      go_ret
      refine ⟨tg, tc, by rw [HTL.out]; rfl, HT.out.own, KB.out _ HT.out.only⟩
end Go.Proofs.Ytgenmljnhlcpcaa
