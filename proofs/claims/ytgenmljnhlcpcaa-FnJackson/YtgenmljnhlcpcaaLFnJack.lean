/- The law FnJackson answers true, whatever the bytes. -/
import Derived.Test.YtgenmljnhlcpcaaRows
import Derived.Test.YtgenmljnhlcpcaaMJY
import Derived.Test.YtgenmljnhlcpcaaCJobO
import Derived.Test.YtgenmljnhlcpcaaCIsOrdN
import Derived.Test.YtgenmljnhlcpcaaCByDue
import Derived.Test.YtgenmljnhlcpcaaCSameInts
namespace Go.Proofs.Ytgenmljnhlcpcaa
open Go.RowKit
theorem implLate_own (a b : Option Addr) (ca cb base : Nat) (xs : List I2) (os : List Int) (w : World) (hn : xs.length ≤ 1048576) (hm : os.length ≤ 1048576) (hin : MI2.RowAt w a xs) (ho : w.ownsRow base 3 1 (.slice b os.length cb) os.length (M4.iv os)) :
    Calls Try.prog 6 #[.slice a xs.length ca, .slice b os.length cb] w fun e w' => e = .returned (.tuple #[.int .i64 (JD.mxA xs os), .bool (JD.isO xs os)]) ∧ Below w.heap.size w w' :=
  implLatenessOfG_any a b ca cb xs os w hm (implIsOrder_own a b ca cb base xs os w hn hm hin ho) hin (M5.own_ints ho)
theorem specLate_own (a b : Option Addr) (ca cb base : Nat) (xs : List I2) (os : List Int) (w : World) (hn : xs.length ≤ 1048576) (hm : os.length ≤ 1048576) (hin : MI2.RowAt w a xs) (ho : w.ownsRow base 3 1 (.slice b os.length cb) os.length (M4.iv os)) :
    Calls Try.prog 7 #[.slice a xs.length ca, .slice b os.length cb] w fun e w' => e = .returned (.tuple #[.int .i64 (JD.mxA xs os), .bool (JD.isO xs os)]) ∧ Below w.heap.size w w' :=
  specLatenessOfG_any a b ca cb xs os w (specIsOrder_own a b ca cb base xs os w hn hm hin ho) hin (M5.own_ints ho)
set_option linter.unusedSimpArgs false in
set_option maxHeartbeats 6400000 in
set_option maxRecDepth 100000 in
theorem lawFnJack_any (a : Option Addr) (zs : List Int) (ca : Nat) (w : World) (hz : zs.length ≤ 140737488355328) (hbz : MC.BytesAt w w.heap.size a zs) :
    Calls Try.prog 3 #[.slice a zs.length ca] w fun e w' => e = .returned (.bool true) ∧ Below w.heap.size w w' := by
  obtain ⟨i0, hi, hz0, hz1, hz2⟩ := info_parts Try.info3
  by_cases h20 : zs.length ≤ 1048576
  · have DL : Hid _ := drawLateness_any a zs ca w hz hbz
    clear hbz
    go_enter Try.func3, Try.ntmps3
    go_wp2_with fail
    refine Calls.mono DL.out ?_
    rintro e w1 ⟨a1, c1, l, a2, c2, os, rfl, hl, hol, o1, o2, hb1⟩
    obtain ⟨a1', c1', e1, hR⟩ := JDD.own_row2 o1
    cases e1
    have IL : Hid (∀ W, Below w1.heap.size w1 W → _) := fun W hW => implLate_own a1 a2 c1 c2 w.heap.size l os W (by omega) (by omega) (hR.below hW) (M5.own_below o2 hW)
    have SL : Hid (∀ W, Below w1.heap.size w1 W → _) := fun W hW => specLate_own a1 a2 c1 c2 w.heap.size l os W (by omega) (by omega) (hR.below hW) (M5.own_below o2 hW)
    have IB : Hid (∀ W, Below w1.heap.size w1 W → _) := fun W hW => implByDue_any a1 c1 l W (by omega) (hR.below hW)
    have SB : Hid (∀ W, Below w1.heap.size w1 W → _) := fun W hW => specByDue_any a1 c1 l W (by omega) (hR.below hW)
    have IG : Hid (∀ W, Below w1.heap.size w1 W → _) := fun W hW => implGoodJobs_any a1 c1 l W (by omega) (hR.below hW) _ rfl
    have IO : Hid (∀ W, Below w1.heap.size w1 W → _) := fun W hW => implIsOrder_own a1 a2 c1 c2 w.heap.size l os W (by omega) (by omega) (hR.below hW) (M5.own_below o2 hW)
    have IX : Hid (∀ W, Below w1.heap.size w1 W → ∀ (X : List Int) (b : Option Addr) (cb : Nat), X.length ≤ 100 → W.ownsRow w1.heap.size 3 1 (.slice b X.length cb) X.length (M4.iv X) → _) := fun W hW X b cb hx ho => implLate_own a1 b c1 cb w1.heap.size l X W (by omega) (by omega) (hR.below hW) ho
    have HD0 : Hid (JD.okP l = false → JD.dueL l = []) := JD.dueL_no
    have HD1 : Hid (JD.okP l = true → JD.Od l (JD.dueL l) ∧ ∀ X, JD.Od l X → JD.mxA l (JD.dueL l) ≤ JD.mxA l X) := fun h => ⟨by rw [JD.dueL_yes h]; exact JD.Od.due h, fun X hX => JD.jackA (JD.dueL_yes h) hX⟩
    have HOK : Hid (JD.isO l os = true → JD.Od l os) := JD.Od.of
    have HDL : Hid ((JD.dueL l).length ≤ 11) := by
      show _ ≤ _
      cases hq : JD.okP l
      · rw [JD.dueL_no hq]; simp
      · rw [JD.dueL_yes hq, JD.byD_len hq]; exact hl
    clear DL o1 o2 hR
    generalize JD.dueL l = D at *
    obtain ⟨n, hn⟩ : ∃ n, l.length = n := ⟨_, rfl⟩
    obtain ⟨m, hm⟩ : ∃ m, os.length = m := ⟨_, rfl⟩
    obtain ⟨dl, hdl⟩ : ∃ dl, D.length = dl := ⟨_, rfl⟩
    rw [hn] at IL SL IB SB IG IO IX hl ⊢
    rw [hm] at IL SL IO hol ⊢
    rw [hdl] at IB SB HDL
    have HDE : Hid (D.length = dl) := hdl
    clear hn hm hdl
    have hdl11 := HDL.out
    obtain ⟨mx, hmx⟩ : ∃ mx, JD.mxA l os = mx := ⟨_, rfl⟩
    obtain ⟨ok, hok⟩ : ∃ ok, JD.isO l os = ok := ⟨_, rfl⟩
    rw [hmx, hok] at IL SL
    rw [hok] at IO HOK
    have HMX : Hid (JD.mxA l os = mx) := hmx
    clear hmx hok
    generalize JD.okP l = may at *
    go_wp2_with fail
    refine Calls.mono (IL.out w1 (Below.refl _ _)) ?_
    rintro e w2 ⟨rfl, hb2⟩
    clear IL
    go_wp2_with fail
    refine Calls.mono (SL.out w2 hb2) ?_
    rintro e w3 ⟨rfl, hb3'⟩
    have hb3 := hb2.trans (hb3'.mono hb2.size)
    clear SL hb2 hb3'
    go_wp2_with fail
    refine Calls.mono (IB.out w3 hb3) ?_
    rintro e w4 ⟨a4, c4, rfl, o4, hb4'⟩
    have hb4 := hb3.trans (hb4'.mono hb3.size)
    have O4 : Hid (World.ownsRow w4 w1.heap.size 3 1 (.slice a4 dl c4) dl (M4.iv D)) := JD.own_le o4 hb3.size
    clear IB hb3 hb4' o4
    go_wp2_with fail
    refine Calls.mono (SB.out w4 hb4) ?_
    rintro e w5 ⟨a5, c5, rfl, o5, hb5'⟩
    have hb5 := hb4.trans (hb5'.mono hb4.size)
    have O4b : Hid (World.ownsRow w5 w1.heap.size 3 1 (.slice a4 dl c4) dl (M4.iv D)) := M5.own_below O4.out hb5'
    have SI : Hid (Calls Try.prog 10 #[.slice a4 dl c4, .slice a5 dl c5] w5 fun e w' => e = .returned (.bool true) ∧ Below w5.heap.size w5 w') := by
      have h := sameInts_any a4 a5 c4 c5 D D w5 (by rw [HDE.out]; omega) (by rw [HDE.out]; omega) (M5.own_ints O4b.out) (M5.own_ints o5)
      rw [HDE.out] at h
      show Calls _ _ _ _ _
      simpa using h
    clear SB hb4 hb5' O4 o5
    go_wp2_with fail
    refine Calls.mono SI.out ?_
    rintro e w6 ⟨rfl, hb6'⟩
    have hb6 := hb5.trans (hb6'.mono hb5.size)
    have O6 : Hid (World.ownsRow w6 w1.heap.size 3 1 (.slice a4 dl c4) dl (M4.iv D)) := M5.own_below O4b.out hb6'
    clear SI hb5 hb6' O4b
    go_wp2_with fail
    refine Calls.mono (IG.out w6 hb6) ?_
    rintro e w7 ⟨rfl, hb7'⟩
    have hb7 := hb6.trans (hb7'.mono hb6.size)
    have O7 : Hid (World.ownsRow w7 w1.heap.size 3 1 (.slice a4 dl c4) dl (M4.iv D)) := M5.own_below O6.out hb7'
    clear IG hb6 hb7' O6
    go_wp2_with fail
    refine Calls.mono (IO.out w7 hb7) ?_
    rintro e w8 ⟨rfl, hb8'⟩
    have hb8 := hb7.trans (hb8'.mono hb7.size)
    have O8 : Hid (World.ownsRow w8 w1.heap.size 3 1 (.slice a4 dl c4) dl (M4.iv D)) := M5.own_below O7.out hb8'
    clear IO hb7 hb8' O7
    have hBF : ∀ W, Below w1.heap.size w1 W → Below w.heap.size w W := fun W hW => hb1.trans (hW.mono hb1.size)
    have HBF : Hid (∀ W, Below w1.heap.size w1 W → Below w.heap.size w W) := hBF
    clear hBF
    cases may with
    | false =>
      have hd0 : dl = 0 := by rw [← HDE.out, HD0.out rfl]; rfl
      subst hd0
      clear HD0 HD1 HOK IX O8 HMX
      go_wp2
      go_ret
      exact ⟨rfl, HBF.out _ hb8⟩
    | true =>
      obtain ⟨hOd, hJ⟩ := HD1.out rfl
      have HOD : Hid _ := hOd
      have HJ : Hid (∀ X, JD.Od l X → JD.mxA l D ≤ JD.mxA l X) := hJ
      have I8 : Hid (Calls Try.prog 6 #[.slice a1 n c1, .slice a4 dl c4] w8 fun e w' => e = .returned (.tuple #[.int .i64 (JD.mxA l D), .bool true]) ∧ Below w8.heap.size w8 w') := by
        have h := IX.out w8 hb8 D a4 c4 (by rw [HDE.out]; omega) (by rw [HDE.out]; exact O8.out)
        rw [HDE.out, hOd.is] at h
        exact h
      have HMO : Hid (ok = true → JD.mxA l D ≤ mx) := fun h => by rw [← HMX.out]; exact hJ os (HOK.out h)
      clear HD0 HD1 hOd hJ HOK HMX
      have IX1 : Hid (∀ W, Below w1.heap.size w1 W → ∀ (X : List Int) (b : Option Addr) (cb : Nat), X.length = dl → JD.Od l X → W.ownsRow w1.heap.size 3 1 (.slice b dl cb) dl (M4.iv X) → ∃ k, JD.mxA l D ≤ k ∧ Calls Try.prog 6 #[.slice a1 n c1, .slice b dl cb] W fun e w' => e = .returned (.tuple #[.int .i64 k, .bool true]) ∧ Below W.heap.size W w') := fun W hW X b cb hx hO ho => by
        have h := IX.out W hW X b cb (by omega) (by rw [hx]; exact ho)
        rw [hx, hO.is] at h
        exact ⟨_, HJ.out X hO, h⟩
      clear IX HJ
      generalize JD.mxA l D = mm at *
      go_wp2_with fail
      refine Calls.mono I8.out ?_
      rintro e w9 ⟨rfl, hb9'⟩
      have hb9 := hb8.trans (hb9'.mono hb8.size)
      have O9 : Hid (World.ownsRow w9 w1.heap.size 3 1 (.slice a4 dl c4) dl (M4.iv D)) := M5.own_below O8.out hb9'
      clear I8 hb8 hb9' O8
      have HLOOP : Hid (∀ W, Below w9.heap.size w9 W → Below w1.heap.size w1 W) := fun W hW => hb9.trans (hW.mono hb9.size)
      have hs9 := hb9.size
      cases ok with
      | false =>
        clear HMO
        go_wp2
        go_loopw [15, 16, 17, 18] (fun iv _ _ _ wr => ∃ i : Nat, iv = .int .i64 i ∧ i ≤ dl ∧ Below w9.heap.size w9 wr) (fun iv _ _ _ _ => (dl - intOf iv).toNat)
        case atStart => exact ⟨0, rfl, by omega, Below.refl _ _⟩
        case round =>
          obtain ⟨i, rfl, hil, hbr⟩ := hrel
          have hsr := hbr.size
          have hwi : IntKind.i64.wrap ((i : Int) + 1) = (i : Int) + 1 := by rw [IntKind.wrap_i64]; omega
          by_cases hi1 : i + 1 < dl
          · have hi1z : (i : Int) + 1 < (dl : Int) := by omega
            obtain ⟨g4, rfl⟩ := JD.own_some O9.out (by omega)
            have OR : Hid (World.ownsRow wr w1.heap.size 3 1 (.slice (some ⟨g4, 0, none⟩) dl c4) dl (M4.iv D)) := M5.own_below O9.out hbr
            have hg4 := (OR.out.lt g4 rfl).2
            have NW : Hid (∀ j u, (M4.iv D)[j]? = some u → (wr.alloc (.cells #[] 3)).cell? ((⟨g4, 0, none⟩ : Addr).add j) = some u) := JD.own_cells (World.ownsRow.alloc OR.out _)
            have NL : Hid ((M4.iv D).length = dl * 1) := OR.out.1
            have OWL : Hid (World.ownsRow (wr.alloc (.cells #[] 3)) wr.heap.size 3 1 (.slice (some ⟨wr.heap.size, 0, none⟩) 0 0) 0 []) := by
              have := World.ownsRow_lit (base := wr.heap.size) (e := 3) (size := 1) wr #[] 0 (Nat.le_refl _) (by unfold maxLen; omega) (by simp)
              show World.ownsRow _ _ _ _ _ _ _
              simpa using this
            go_wp2_with (at_builtin; refine wpList_append_own _ rfl _ _ 24 rfl wr.heap.size 3 i0 (.int .i64 0) 1 8 Try.underlying24 hi hz0 hz1 hz2 rfl (by decide) _ _ _ rfl OWL.out ⟨g4, 0, none⟩ dl c4 (M4.iv D) rfl NL.out NW.out (EG.iv_one _) ?p3 ?p4 ?p5 ?_)
            case p3 => unfold maxLen; omega
            case p4 => omega
            case p5 => simp
            intro v' wn hown1 hgrow hnil
            have ON : World.ownsRow wn wr.heap.size 3 1 v' dl (M4.iv D) := by simpa using hown1
            obtain ⟨gx, cx, rfl⟩ : ∃ gx cx, v' = .slice (some ⟨gx, 0, none⟩) dl cx := by
              rcases ON.2 with ⟨-, h0⟩ | ⟨g', c', cur, rfl, -⟩
              · omega
              · exact ⟨g', c', rfl⟩
            have hbn : Below wr.heap.size wr wn := ((Below.refl _ wr).alloc (Nat.le_refl _) _).grown hgrow (by simp) (fun j hj => (OWL.out.lt j hj).1)
            have hgx := ON.lt gx rfl
            have hne : gx ≠ g4 := by omega
            have hne2 : g4 ≠ gx := by omega
            have OD : World.ownsRow wn w1.heap.size 3 1 (.slice (some ⟨g4, 0, none⟩) dl c4) dl (M4.iv D) := M5.own_below OR.out hbn
            have cd0 := (JD.cell_at OD (k := i) (by omega))
            have cd1 := (JD.cell_at OD (k := i + 1) (by omega))
            have cx0 := (JD.cell_at ON (k := i) (by omega))
            have cx1 := (JD.cell_at ON (k := i + 1) (by omega))
            have fx0 := ON.frozenAt i
            have fx1 := ON.frozenAt (i + 1)
            obtain ⟨Q1, Q0⟩ := ON.stored i (.int .i64 (D.getD (i + 1) 0))
            obtain ⟨R1, R0⟩ := Q1.stored (i + 1) (.int .i64 (D.getD i 0))
            have hbz : Below wr.heap.size wr ((wn.setCell ⟨gx, i, none⟩ (.int .i64 (D.getD (i + 1) 0))).setCell ⟨gx, i + 1, none⟩ (.int .i64 (D.getD i 0))) := (hbn.setCell (p := ⟨gx, i, none⟩) hgx.1 _).setCell (p := ⟨gx, i + 1, none⟩) hgx.1 _
            have RX : World.ownsRow ((wn.setCell ⟨gx, i, none⟩ (.int .i64 (D.getD (i + 1) 0))).setCell ⟨gx, i + 1, none⟩ (.int .i64 (D.getD i 0))) wr.heap.size 3 1 (.slice (some ⟨gx, 0, none⟩) dl cx) dl (M4.iv (JD.swpL D i)) := by
              have := R1
              rw [M4.iv_set, M4.iv_set] at this
              exact this
            obtain ⟨kk, hkk, CL⟩ := IX1.out _ (HLOOP.out _ (hbr.trans (hbz.mono hsr))) (JD.swpL D i) (some ⟨gx, 0, none⟩) cx (by rw [JD.swp_len, HDE.out]) (JD.swp_od HOD.out (by rw [HDE.out]; exact hi1)) (JD.own_le RX (by omega))
            have HCL : Hid (Calls _ _ _ _ _) := CL
            have hq9 : decide (kk < mm) = false := by simp; omega
            have HBZ : Hid (Below _ _ _) := hbz
            clear CL RX R1 R0 Q1 Q0 ON OD hown1 hgrow hnil OWL NW NL OR hbn hbz
            generalize D.getD (i + 1) 0 = y at *
            generalize D.getD i 0 = x at *
            go_wp2_with fail
            refine Calls.mono HCL.out ?_
            rintro e w20 ⟨rfl, hb20'⟩
            have hb20 := HBZ.out.trans (hb20'.mono HBZ.out.size)
            clear HCL hb20' cd0 cd1 cx0 cx1 fx0 fx1
            go_wp2
            go_roundw
            case rel => exact ⟨i + 1, by go_num, by omega, hbr.trans (hb20.mono hsr)⟩
            case measure => simp [intOf]; omega
          · have hi1z : ¬ (i : Int) + 1 < (dl : Int) := by omega
            go_wp2
            go_ret
            exact ⟨rfl, HBF.out _ (HLOOP.out _ hbr)⟩
      | true =>
        have hmo := HMO.out rfl
        have hq : decide (mx < mm) = false := by simp; omega
        clear HMO
        go_wp2
        go_loopw [15, 16, 17, 18] (fun iv _ _ _ wr => ∃ i : Nat, iv = .int .i64 i ∧ i ≤ dl ∧ Below w9.heap.size w9 wr) (fun iv _ _ _ _ => (dl - intOf iv).toNat)
        case atStart => exact ⟨0, rfl, by omega, Below.refl _ _⟩
        case round =>
          obtain ⟨i, rfl, hil, hbr⟩ := hrel
          have hsr := hbr.size
          have hwi : IntKind.i64.wrap ((i : Int) + 1) = (i : Int) + 1 := by rw [IntKind.wrap_i64]; omega
          by_cases hi1 : i + 1 < dl
          · have hi1z : (i : Int) + 1 < (dl : Int) := by omega
            obtain ⟨g4, rfl⟩ := JD.own_some O9.out (by omega)
            have OR : Hid (World.ownsRow wr w1.heap.size 3 1 (.slice (some ⟨g4, 0, none⟩) dl c4) dl (M4.iv D)) := M5.own_below O9.out hbr
            have hg4 := (OR.out.lt g4 rfl).2
            have NW : Hid (∀ j u, (M4.iv D)[j]? = some u → (wr.alloc (.cells #[] 3)).cell? ((⟨g4, 0, none⟩ : Addr).add j) = some u) := JD.own_cells (World.ownsRow.alloc OR.out _)
            have NL : Hid ((M4.iv D).length = dl * 1) := OR.out.1
            have OWL : Hid (World.ownsRow (wr.alloc (.cells #[] 3)) wr.heap.size 3 1 (.slice (some ⟨wr.heap.size, 0, none⟩) 0 0) 0 []) := by
              have := World.ownsRow_lit (base := wr.heap.size) (e := 3) (size := 1) wr #[] 0 (Nat.le_refl _) (by unfold maxLen; omega) (by simp)
              show World.ownsRow _ _ _ _ _ _ _
              simpa using this
            go_wp2_with (at_builtin; refine wpList_append_own _ rfl _ _ 24 rfl wr.heap.size 3 i0 (.int .i64 0) 1 8 Try.underlying24 hi hz0 hz1 hz2 rfl (by decide) _ _ _ rfl OWL.out ⟨g4, 0, none⟩ dl c4 (M4.iv D) rfl NL.out NW.out (EG.iv_one _) ?q3 ?q4 ?q5 ?_)
            case q3 => unfold maxLen; omega
            case q4 => omega
            case q5 => simp
            intro v' wn hown1 hgrow hnil
            have ON : World.ownsRow wn wr.heap.size 3 1 v' dl (M4.iv D) := by simpa using hown1
            obtain ⟨gx, cx, rfl⟩ : ∃ gx cx, v' = .slice (some ⟨gx, 0, none⟩) dl cx := by
              rcases ON.2 with ⟨-, h0⟩ | ⟨g', c', cur, rfl, -⟩
              · omega
              · exact ⟨g', c', rfl⟩
            have hbn : Below wr.heap.size wr wn := ((Below.refl _ wr).alloc (Nat.le_refl _) _).grown hgrow (by simp) (fun j hj => (OWL.out.lt j hj).1)
            have hgx := ON.lt gx rfl
            have hne : gx ≠ g4 := by omega
            have hne2 : g4 ≠ gx := by omega
            have OD : World.ownsRow wn w1.heap.size 3 1 (.slice (some ⟨g4, 0, none⟩) dl c4) dl (M4.iv D) := M5.own_below OR.out hbn
            have cd0 := (JD.cell_at OD (k := i) (by omega))
            have cd1 := (JD.cell_at OD (k := i + 1) (by omega))
            have cx0 := (JD.cell_at ON (k := i) (by omega))
            have cx1 := (JD.cell_at ON (k := i + 1) (by omega))
            have fx0 := ON.frozenAt i
            have fx1 := ON.frozenAt (i + 1)
            obtain ⟨Q1, Q0⟩ := ON.stored i (.int .i64 (D.getD (i + 1) 0))
            obtain ⟨R1, R0⟩ := Q1.stored (i + 1) (.int .i64 (D.getD i 0))
            have hbz : Below wr.heap.size wr ((wn.setCell ⟨gx, i, none⟩ (.int .i64 (D.getD (i + 1) 0))).setCell ⟨gx, i + 1, none⟩ (.int .i64 (D.getD i 0))) := (hbn.setCell (p := ⟨gx, i, none⟩) hgx.1 _).setCell (p := ⟨gx, i + 1, none⟩) hgx.1 _
            have RX : World.ownsRow ((wn.setCell ⟨gx, i, none⟩ (.int .i64 (D.getD (i + 1) 0))).setCell ⟨gx, i + 1, none⟩ (.int .i64 (D.getD i 0))) wr.heap.size 3 1 (.slice (some ⟨gx, 0, none⟩) dl cx) dl (M4.iv (JD.swpL D i)) := by
              have := R1
              rw [M4.iv_set, M4.iv_set] at this
              exact this
            obtain ⟨kk, hkk, CL⟩ := IX1.out _ (HLOOP.out _ (hbr.trans (hbz.mono hsr))) (JD.swpL D i) (some ⟨gx, 0, none⟩) cx (by rw [JD.swp_len, HDE.out]) (JD.swp_od HOD.out (by rw [HDE.out]; exact hi1)) (JD.own_le RX (by omega))
            have HCL : Hid (Calls _ _ _ _ _) := CL
            have hq9 : decide (kk < mm) = false := by simp; omega
            have HBZ : Hid (Below _ _ _) := hbz
            clear CL RX R1 R0 Q1 Q0 ON OD hown1 hgrow hnil OWL NW NL OR hbn hbz
            generalize D.getD (i + 1) 0 = y at *
            generalize D.getD i 0 = x at *
            go_wp2_with fail
            refine Calls.mono HCL.out ?_
            rintro e w20 ⟨rfl, hb20'⟩
            have hb20 := HBZ.out.trans (hb20'.mono HBZ.out.size)
            clear HCL hb20' cd0 cd1 cx0 cx1 fx0 fx1
            go_wp2
            go_roundw
            case rel => exact ⟨i + 1, by go_num, by omega, hbr.trans (hb20.mono hsr)⟩
            case measure => simp [intOf]; omega
          · have hi1z : ¬ (i : Int) + 1 < (dl : Int) := by omega
            go_wp2
            go_ret
            exact ⟨rfl, HBF.out _ (HLOOP.out _ hbr)⟩
  · have h20' : ¬ zs.length ≤ 1048576 := h20
    go_enter Try.func3, Try.ntmps3
    go_wp2
    go_ret
    exact ⟨rfl, Below.refl _ _⟩
end Go.Proofs.Ytgenmljnhlcpcaa
