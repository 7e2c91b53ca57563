/- The law FnMoore answers true, whatever the bytes (laid by tools/gen_lfnmoore.py). -/
import Derived.Test.YtgenmljnhlcpcaaRows
import Derived.Test.YtgenmljnhlcpcaaMJZ
import Derived.Test.YtgenmljnhlcpcaaCJobO
import Derived.Test.YtgenmljnhlcpcaaCIsOrdN
import Derived.Test.YtgenmljnhlcpcaaCOrdFor
import Derived.Test.YtgenmljnhlcpcaaCMostI
import Derived.Test.YtgenmljnhlcpcaaCMostS
import Derived.Test.YtgenmljnhlcpcaaCSameInts
namespace Go.Proofs.Ytgenmljnhlcpcaa
open Go.RowKit
namespace JDM
theorem byte_at {w : World} {p : Nat} {a : Option Addr} {zs : List Int} (h : MC.BytesAt w p a zs) {k : Nat} (hk : k < zs.length) : ∃ b off z, a = some ⟨b, off, none⟩ ∧ b < p ∧ w.cell? ⟨b, off + k, none⟩ = some (.int .u8 z) ∧ 0 ≤ z ∧ z ≤ 255 := h.at hk
theorem byte_is {w : World} {p : Nat} {b off : Nat} {zs : List Int} (h : MC.BytesAt w p (some ⟨b, off, none⟩) zs) {k : Nat} (hk : k < zs.length) {z : Int} (hc : w.cell? ⟨b, off + k, none⟩ = some (.int .u8 z)) : zs.getD k 0 = z := by
  rcases h.2 with rfl | ⟨b', off', e, _, hh⟩
  · simp at hk
  · cases e
    have := hh k hk
    rw [hc] at this
    simp only [Option.some.injEq, Value.int.injEq, true_and] at this
    exact this.symm
end JDM
theorem implLateIn_own (a b : Option Addr) (ca cb base : Nat) (xs : List I2) (os : List Int) (w : World) (hn : xs.length ≤ 1048576) (hm : os.length ≤ 1048576) (hin : MI2.RowAt w a xs) (ho : w.ownsRow base 3 1 (.slice b os.length cb) os.length (M4.iv os)) :
    Calls Try.prog 14 #[.slice a xs.length ca, .slice b os.length cb] w fun e w' => e = .returned (.tuple #[.int .i64 (JD.mnA xs os), .bool (JD.isO xs os)]) ∧ Below w.heap.size w w' :=
  implLateInG_any a b ca cb xs os w hm (implIsOrder_own a b ca cb base xs os w hn hm hin ho) hin (M5.own_ints ho)
theorem specLateIn_own (a b : Option Addr) (ca cb base : Nat) (xs : List I2) (os : List Int) (w : World) (hn : xs.length ≤ 1048576) (hm : os.length ≤ 1048576) (hin : MI2.RowAt w a xs) (ho : w.ownsRow base 3 1 (.slice b os.length cb) os.length (M4.iv os)) :
    Calls Try.prog 15 #[.slice a xs.length ca, .slice b os.length cb] w fun e w' => e = .returned (.tuple #[.int .i64 (JD.mnA xs os), .bool (JD.isO xs os)]) ∧ Below w.heap.size w w' :=
  specLateInG_any a b ca cb xs os w (specIsOrder_own a b ca cb base xs os w hn hm hin ho) hin (M5.own_ints ho)
set_option linter.unusedSimpArgs false in
set_option maxHeartbeats 6400000 in
set_option maxRecDepth 100000 in
theorem lawFnMoore_any (a b : Option Addr) (zs ys : List Int) (ca cb : Nat) (w : World) (hz : zs.length ≤ 140737488355328) (hy : ys.length ≤ 140737488355328) (hbz : MC.BytesAt w w.heap.size a zs) (hby : MC.BytesAt w w.heap.size b ys) :
    Calls Try.prog 4 #[.slice a zs.length ca, .slice b ys.length cb] w fun e w' => e = .returned (.bool true) ∧ Below w.heap.size w w' := by
  obtain ⟨i0, hi, hz0, hz1, hz2⟩ := info_parts Try.info3
  have hws : IntKind.i64.wrap ((zs.length : Int) + (ys.length : Int)) = (zs.length : Int) + (ys.length : Int) := by rw [IntKind.wrap_i64]; omega
  by_cases h20 : zs.length + ys.length ≤ 1048576
  · have HBY : Hid (∀ W : World, Below w.heap.size w W → MC.BytesAt W W.heap.size b ys) := fun W h => (hby.only (q := w.heap.size) (MC.Only.of_below h) (Nat.le_refl _) (Nat.le_refl _)).up h.size
    have DL : Hid _ := drawLateIn_any a zs ca w hz hbz
    clear hby hbz
    have h20z : (zs.length : Int) + (ys.length : Int) ≤ 1048576 := by omega
    go_enter Try.func4, Try.ntmps4
    go_wp2_with fail
    refine Calls.mono DL.out ?_
    rintro e w1 ⟨a1, c1, l, a2, c2, os, rfl, hl, hol, o1, o2, hb1⟩
    obtain ⟨a1', c1', e1, hR⟩ := JDD.own_row2 o1
    cases e1
    have IL : Hid (∀ W, Below w1.heap.size w1 W → _) := fun W hW => implLateIn_own a1 a2 c1 c2 w.heap.size l os W (by omega) (by omega) (hR.below hW) (M5.own_below o2 hW)
    have SL : Hid (∀ W, Below w1.heap.size w1 W → _) := fun W hW => specLateIn_own a1 a2 c1 c2 w.heap.size l os W (by omega) (by omega) (hR.below hW) (M5.own_below o2 hW)
    have IB : Hid (∀ W, Below w1.heap.size w1 W → _) := fun W hW => implFewestL_any a1 c1 l W (by omega) (hR.below hW)
    have SB : Hid (∀ W, Below w1.heap.size w1 W → _) := fun W hW => specFewest_any a1 c1 l W (by omega) (hR.below hW)
    have IOF : Hid (JD.okP l = true → ∀ W, Below w1.heap.size w1 W → ∀ (X : List Int) (g : Option Addr) (cg : Nat), X.length ≤ 100 → M4.IntsAt W g X → _) := fun _ W hW X g cg hx hX => implOrderFor_any a1 g c1 cg l X W (by omega) (by omega) (hR.below hW) hX
    have IX : Hid (JD.okP l = true → ∀ W, Below w1.heap.size w1 W → ∀ (X : List Int) (g : Option Addr) (cg : Nat), X.length = l.length → W.ownsRow w1.heap.size 3 1 (.slice g X.length cg) X.length (M4.iv X) → _) := fun _ W hW X g cg hx ho => implLateIn_own a1 g c1 cg w1.heap.size l X W (by omega) (by omega) (hR.below hW) ho
    have HMO : Hid (JD.okP l = true → JD.Mo l (JD.fewL l) (JD.ordL l (JD.fewL l)) ∧ JD.ordOk l (JD.fewL l) = true) := fun h => ⟨JD.mo_of h, JD.few_ok h⟩
    have HOK : Hid (JD.isO l os = true → JD.Od l os) := JD.Od.of
    have HCH : Hid (JD.okP l = true → JD.ordOk l (JD.chsK ys l.length) = true ∧ JD.Od l (JD.ordL l (JD.chsK ys l.length))) := fun h => ⟨JD.chs_ok h ys, JD.ord_od (JD.chs_ok h ys)⟩
    have HFL : Hid ((JD.fewL l).length ≤ 11) := by
      show _ ≤ _
      cases hq : JD.okP l
      · rw [JD.fewL_no hq]; simp
      · rw [JD.fewL_yes hq, List.length_mergeSort]
        have := JD.tak_len l (k := l.length) (by rw [JD.byD_len hq]; exact Nat.le_refl _)
        omega
    clear DL o1 o2 hR
    obtain ⟨F, hFd⟩ : ∃ F, JD.fewL l = F := ⟨_, rfl⟩
    rw [hFd] at IB SB HMO HFL
    obtain ⟨O, hOd⟩ : ∃ O, JD.ordL l F = O := ⟨_, rfl⟩
    rw [hOd] at HMO
    have HOE : Hid (JD.ordL l F = O) := hOd
    clear hFd hOd
    obtain ⟨n, hn⟩ : ∃ n, l.length = n := ⟨_, rfl⟩
    obtain ⟨m, hm⟩ : ∃ m, os.length = m := ⟨_, rfl⟩
    obtain ⟨fl, hfl⟩ : ∃ fl, F.length = fl := ⟨_, rfl⟩
    rw [hn] at IL SL IB SB IOF IX HCH hl ⊢
    rw [hm] at IL SL hol ⊢
    rw [hfl] at IB SB HFL
    have HNE : Hid (l.length = n) := hn
    have HFE : Hid (F.length = fl) := hfl
    clear hn hm hfl
    have hfl11 := HFL.out
    obtain ⟨mn, hmn⟩ : ∃ mn, JD.mnA l os = mn := ⟨_, rfl⟩
    obtain ⟨ok, hok⟩ : ∃ ok, JD.isO l os = ok := ⟨_, rfl⟩
    rw [hmn, hok] at IL SL
    rw [hok] at HOK
    have HMN : Hid (JD.mnA l os = mn) := hmn
    clear hmn hok
    generalize JD.okP l = may at *
    go_wp2_with fail
    refine Calls.mono (IL.out w1 (Below.refl _ _)) ?_
    rintro e w2 ⟨rfl, hb2⟩
    clear IL
    go_wp2_with fail
    refine Calls.mono (SL.out w2 hb2) ?_
    rintro e w3 ⟨rfl, hb3'⟩
    have hb3 := hb2.trans (hb3'.mono hb2.size)
    clear SL hb2 hb3'
    go_wp2_with fail
    refine Calls.mono (IB.out w3 hb3) ?_
    rintro e w4 ⟨a4, c4, rfl, o4, hb4'⟩
    have hb4 := hb3.trans (hb4'.mono hb3.size)
    have O4 : Hid (World.ownsRow w4 w1.heap.size 3 1 (.slice a4 fl c4) fl (M4.iv F)) := JD.own_le o4 hb3.size
    clear IB hb3 hb4' o4
    go_wp2_with fail
    refine Calls.mono (SB.out w4 hb4) ?_
    rintro e w5 ⟨a5, c5, rfl, o5, hb5'⟩
    have hb5 := hb4.trans (hb5'.mono hb4.size)
    have O4b : Hid (World.ownsRow w5 w1.heap.size 3 1 (.slice a4 fl c4) fl (M4.iv F)) := M5.own_below O4.out hb5'
    have SI : Hid (Calls Try.prog 10 #[.slice a4 fl c4, .slice a5 fl c5] w5 fun e w' => e = .returned (.bool true) ∧ Below w5.heap.size w5 w') := by
      have h := sameInts_any a4 a5 c4 c5 F F w5 (by rw [HFE.out]; omega) (by rw [HFE.out]; omega) (M5.own_ints O4b.out) (M5.own_ints o5)
      rw [HFE.out] at h
      show Calls _ _ _ _ _
      simpa using h
    clear SB hb4 hb5' O4 o5
    go_wp2_with fail
    refine Calls.mono SI.out ?_
    rintro e w6 ⟨rfl, hb6'⟩
    have hb6 := hb5.trans (hb6'.mono hb5.size)
    have O6 : Hid (World.ownsRow w6 w1.heap.size 3 1 (.slice a4 fl c4) fl (M4.iv F)) := M5.own_below O4b.out hb6'
    clear SI hb5 hb6' O4b
    have HBF : Hid (∀ W, Below w1.heap.size w1 W → Below w.heap.size w W) := fun W hW => hb1.trans (hW.mono hb1.size)
    cases may with
    | false =>
      have hB6 := HBF.out _ hb6
      clear IOF IX HMO HOK HCH O6 HMN
      have DO : Hid _ := drawOrderFor_any b ys cb w6 hy (HBY.out _ hB6)
      go_wp2_with fail
      refine Calls.mono DO.out ?_
      rintro e v1 ⟨f1, d1, l2, f2, d2, s2, rfl, hl2, hs2, p1, p2, hv1⟩
      obtain ⟨f1', d1', ee, hR2⟩ := JDD.own_row2 p1
      cases ee
      have hV1 := hB6.trans (hv1.mono hB6.size)
      have IF2 : Hid (Calls _ _ _ _ _) := implOrderFor_any f1 f2 d1 d2 l2 s2 v1 (by omega) (by omega) hR2 (M5.own_ints p2)
      have SF2 : Hid (∀ V, Below v1.heap.size v1 V → _) := fun V hV => specOrderFor_any f1 f2 d1 d2 l2 s2 V (by omega) (by omega) (hR2.below hV) (M4.IntsAt.below (M5.own_ints p2) hV)
      have IO2 : Hid (∀ V, Below v1.heap.size v1 V → ∀ (g : Option Addr) (cg : Nat), V.ownsRow v1.heap.size 3 1 (.slice g (JD.ordL l2 s2).length cg) (JD.ordL l2 s2).length (M4.iv (JD.ordL l2 s2)) → _) := fun V hV g cg ho => implIsOrder_own f1 g d1 cg v1.heap.size l2 (JD.ordL l2 s2) V (by omega) (JD.ordL_len l2 s2) (hR2.below hV) ho
      have HO2 : Hid (JD.ordOk l2 s2 = true → JD.isO l2 (JD.ordL l2 s2) = true) := fun h => (JD.ord_od h).is
      have HL2 : Hid ((JD.ordL l2 s2).length ≤ 1048576) := JD.ordL_len l2 s2
      clear DO p1 p2 hR2
      generalize JD.isO l2 (JD.ordL l2 s2) = io2 at *
      generalize JD.ordL l2 s2 = R2 at *
      generalize JD.ordOk l2 s2 = ok2 at *
      obtain ⟨rl, hrl⟩ : ∃ rl, R2.length = rl := ⟨_, rfl⟩
      rw [hrl] at IF2 SF2 IO2 HL2
      obtain ⟨n2, hn2⟩ : ∃ n2, l2.length = n2 := ⟨_, rfl⟩
      rw [hn2] at IF2 SF2 IO2 hl2 ⊢
      obtain ⟨m2, hm2⟩ : ∃ m2, s2.length = m2 := ⟨_, rfl⟩
      rw [hm2] at IF2 SF2 hs2 ⊢
      have HRE : Hid (R2.length = rl) := hrl
      clear hrl hn2 hm2
      have hrl2 := HL2.out
      go_wp2_with fail
      refine Calls.mono IF2.out ?_
      rintro e v2 ⟨g1, cg1, rfl, q1, hv2⟩
      have Q1 : Hid _ := q1
      have SF3 : Hid _ := SF2.out v2 hv2
      clear IF2 SF2 q1
      go_wp2_with fail
      refine Calls.mono SF3.out ?_
      rintro e v3 ⟨g2, cg2, rfl, q2, hv3'⟩
      have hv3 := hv2.trans (hv3'.mono hv2.size)
      have Q1b : Hid (World.ownsRow v3 v1.heap.size 3 1 (.slice g1 rl cg1) rl (M4.iv R2)) := M5.own_below Q1.out hv3'
      have SI2 : Hid (Calls Try.prog 10 #[.slice g1 rl cg1, .slice g2 rl cg2] v3 fun e w' => e = .returned (.bool true) ∧ Below v3.heap.size v3 w') := by
        have h := sameInts_any g1 g2 cg1 cg2 R2 R2 v3 (by rw [HRE.out]; omega) (by rw [HRE.out]; omega) (M5.own_ints Q1b.out) (M5.own_ints q2)
        rw [HRE.out] at h
        show Calls _ _ _ _ _
        simpa using h
      clear SF3 q2 Q1 hv2 hv3'
      go_wp2_with fail
      refine Calls.mono SI2.out ?_
      rintro e v4 ⟨rfl, hv4'⟩
      have hv4 := hv3.trans (hv4'.mono hv3.size)
      have IO3 : Hid _ := IO2.out v4 hv4 g1 cg1 (M5.own_below Q1b.out hv4')
      clear SI2 IO2 Q1b hv3 hv4'
      have hF4 := hV1.trans (hv4.mono hV1.size)
      cases ok2 with
      | false =>
        clear IO3 HO2
        go_wp2
        go_ret
        exact ⟨rfl, hF4⟩
      | true =>
        have hio := HO2.out rfl
        subst hio
        clear HO2
        go_wp2_with fail
        refine Calls.mono IO3.out ?_
        rintro e v5 ⟨rfl, hv5'⟩
        clear IO3
        go_wp2
        go_ret
        exact ⟨rfl, hF4.trans (hv5'.mono hF4.size)⟩
    | true =>
      obtain ⟨hMo, hFok⟩ := HMO.out rfl
      obtain ⟨hCk, hCo⟩ := HCH.out rfl
      have IOF1 : Hid (∀ W, _ → ∀ (X : List Int) (g : Option Addr) (cg : Nat), _) := IOF.out rfl
      have IX1 : Hid (∀ W, _ → ∀ (X : List Int) (g : Option Addr) (cg : Nat), _) := IX.out rfl
      have OF6 : Hid (Calls Try.prog 18 #[.slice a1 n c1, .slice a4 fl c4] w6 fun e w' => ∃ g cg, e = .returned (.tuple #[.slice g n cg, .bool true]) ∧ w'.ownsRow w6.heap.size 3 1 (.slice g n cg) n (M4.iv O) ∧ Below w6.heap.size w6 w') := by
        have h := IOF1.out w6 hb6 F a4 c4 (by rw [HFE.out]; omega) (M5.own_ints O6.out)
        rw [HFE.out, HOE.out, hFok, hMo.od.len, HNE.out] at h
        exact h
      have LF : Hid (∀ W, Below w1.heap.size w1 W → ∀ (g : Option Addr) (cg : Nat), W.ownsRow w1.heap.size 3 1 (.slice g n cg) n (M4.iv O) → Calls Try.prog 14 #[.slice a1 n c1, .slice g n cg] W fun e w' => e = .returned (.tuple #[.int .i64 ((n : Int) - (fl : Int)), .bool true]) ∧ Below W.heap.size W w') := fun W hW g cg ho => by
        have h := IX1.out W hW O g cg (by rw [hMo.od.len, HNE.out]) (by rw [hMo.od.len, HNE.out]; exact ho)
        rw [hMo.od.len, HNE.out, hMo.is, HNE.out, HFE.out, hMo.od.is] at h
        exact h
      have OFC : Hid (∀ W, Below w1.heap.size w1 W → ∀ (g : Option Addr) (cg : Nat), M4.IntsAt W g (JD.chsK ys n) → Calls Try.prog 18 #[.slice a1 n c1, .slice g (JD.chsK ys n).length cg] W fun e w' => ∃ g2 cg2, e = .returned (.tuple #[.slice g2 n cg2, .bool true]) ∧ w'.ownsRow W.heap.size 3 1 (.slice g2 n cg2) n (M4.iv (JD.ordL l (JD.chsK ys n))) ∧ Below W.heap.size W w') := fun W hW g cg hX => by
        have h := IOF1.out W hW (JD.chsK ys n) g cg (by have := JD.chs_len ys n; omega) hX
        rw [hCk, hCo.len, HNE.out] at h
        exact h
      have LFC : Hid (∀ W, Below w1.heap.size w1 W → ∀ (g : Option Addr) (cg : Nat), W.ownsRow w1.heap.size 3 1 (.slice g n cg) n (M4.iv (JD.ordL l (JD.chsK ys n))) → ∃ kk : Int, (n : Int) - (fl : Int) ≤ kk ∧ Calls Try.prog 14 #[.slice a1 n c1, .slice g n cg] W fun e w' => e = .returned (.tuple #[.int .i64 kk, .bool true]) ∧ Below W.heap.size W w') := fun W hW g cg ho => by
        have h := IX1.out W hW (JD.ordL l (JD.chsK ys n)) g cg (by rw [hCo.len, HNE.out]) (by rw [hCo.len, HNE.out]; exact ho)
        rw [hCo.len, HNE.out, hCo.is] at h
        refine ⟨_, ?_, h⟩
        have := hMo.le _ hCo
        rw [hMo.is, HNE.out, HFE.out] at this
        exact this
      have hMN : ok = true → (n : Int) - (fl : Int) ≤ mn := fun h => by
        have := hMo.le os (HOK.out h)
        rw [hMo.is, HNE.out, HFE.out, HMN.out] at this
        exact this
      have HMM : Hid (ok = true → (n : Int) - (fl : Int) ≤ mn) := hMN
      have HML : Hid (fl ≤ n) := by
        have h1 := hMo.is
        have h2 := JD.mnA_yes hMo.od
        rw [h2, HNE.out, HFE.out] at h1
        show _ ≤ _
        omega
      have hfn := HML.out
      clear IOF IX IOF1 IX1 HMO HOK HCH HMN hMo hFok hCk hCo hMN HML
      go_wp2_with fail
      refine Calls.mono OF6.out ?_
      rintro e w7 ⟨g7, cg7, rfl, o7, hb7'⟩
      have hb7 := hb6.trans (hb7'.mono hb6.size)
      have O7 : Hid (World.ownsRow w7 w1.heap.size 3 1 (.slice g7 n cg7) n (M4.iv O)) := JD.own_le o7 hb6.size
      clear OF6 o7 hb7' hb6 O6
      have L7 : Hid _ := LF.out w7 hb7 g7 cg7 O7.out
      clear LF O7
      go_wp2_with fail
      refine Calls.mono L7.out ?_
      rintro e w8 ⟨rfl, hb8'⟩
      have hb8 := hb7.trans (hb8'.mono hb7.size)
      clear L7 hb8' hb7
      have hwn : IntKind.i64.wrap ((n : Int) - (fl : Int)) = (n : Int) - (fl : Int) := by rw [IntKind.wrap_i64]; omega
      have hs8 := hb8.size
      cases ok with
      | false =>
        clear HMM
        go_wp2
        go_loopw [19, 20, 121] (fun v _ iv wr => ∃ (k cl : Nat) (g : Option Addr) (cg : Nat), iv = .int .i64 k ∧ k ≤ n ∧ v = .slice g cl cg ∧ Hid ((JD.chsK ys k).length = cl) ∧ Hid (World.ownsRow wr w8.heap.size 3 1 (.slice g cl cg) cl (M4.iv (JD.chsK ys k))) ∧ Below w8.heap.size w8 wr) (fun _ _ iv _ => (n - intOf iv).toNat)
        case atStart => exact ⟨0, 0, none, 0, rfl, by omega, rfl, (show Hid _ from rfl), (show Hid _ from World.ownsRow_nil _ _ _ _), Below.refl _ _⟩
        case round =>
          obtain ⟨k, cl, g, cg, rfl, hk, rfl, HCL, HO, hbr⟩ := hrel
          have hsr := hbr.size
          have hB1r := hb8.trans (hbr.mono hs8)
          by_cases hlk : k < n
          · have kn : (k : Int) < (n : Int) := by omega
            have HSU : Hid _ := JD.chs_succ ys k
            have hcl := JD.chs_len ys k
            rw [HCL.out] at hcl
            have HEV : Hid (JD.evB ys k = decide (k < ys.length ∧ ys.getD k 0 % 2 = 0)) := rfl
            by_cases hky : k < ys.length
            · obtain ⟨b9, off9, z9, rfl, hlt9, hc9, hz9, hz9'⟩ := JDM.byte_at (HBY.out _ (HBF.out _ hB1r)) hky
              have hbz9 := HBY.out _ (HBF.out _ hB1r)
              have hgz : ys.getD k 0 = z9 := JDM.byte_is hbz9 hky hc9
              rw [hgz] at HEV
              clear hbz9 hgz
              obtain ⟨zn, rfl⟩ := Int.eq_ofNat_of_zero_le hz9
              have ky : (k : Int) < (ys.length : Int) := by omega
              by_cases hev : zn % 2 = 0
              · have HE : Hid (JD.evB ys k = true) := by show _ = _; rw [HEV.out, decide_eq_true_eq]; omega
                have HS2 : Hid (JD.chsK ys (k + 1) = JD.chsK ys k ++ [(k : Int)]) := by show _ = _; rw [HSU.out, HE.out]; simp
                have hm2 : IntKind.u8.wrap ((zn : Int) % 2) = 0 := by rw [show (zn : Int) % 2 = 0 by omega]; rfl
                have hm3 : (zn : Int) % 2 = 0 := by omega
                have hm4 : ((zn : Int) % 2 == 0) = true := by simp; omega
                clear HSU HEV HE
                generalize JD.chsK ys k = cs at *
                go_wp2_with (at_builtin; refine wpList_append_own _ rfl _ _ 24 rfl w8.heap.size 3 i0 (.int .i64 0) 1 8 Try.underlying24 hi hz0 hz1 hz2 rfl (by decide) _ _ _ rfl (World.ownsRow.alloc HO.out _) ⟨wr.heap.size, 0, none⟩ 1 1 [.int .i64 (k : Int)] rfl rfl ?c1 ?c2 ?c3 ?c4 ?c5 ?_)
                all_goals try (first | rfl | omega | exact M2.new1 _ _ _ | exact M2.one1 _ _ | (unfold maxLen; omega) | (simp; omega))
                intro v' wn hown1 hgrow _
                have R1 : Hid (World.ownsRow wn w8.heap.size 3 1 v' (cl + 1) (M4.iv (JD.chsK ys (k + 1)))) := by
                  show World.ownsRow _ _ _ _ _ _ _
                  rw [HS2.out]; simpa [M4.iv] using hown1
                have R2 : Hid ((JD.chsK ys (k + 1)).length = cl + 1) := by show _ = _; rw [HS2.out, List.length_append, HCL.out]; rfl
                have R3 := (hbr.alloc hsr _).grown hgrow (by simp; omega) (fun j hj => (HO.out.lt j hj).1)
                obtain ⟨a', c', rfl⟩ := JD.own_slice R1.out
                clear hown1 hgrow HO HS2 HCL
                go_wp2
                go_roundw
                case rel => exact ⟨k + 1, cl + 1, a', c', by go_num, by omega, rfl, R2, R1, R3⟩
                case measure => simp [intOf]; omega
              · have HE : Hid (JD.evB ys k = false) := by show _ = _; rw [HEV.out, decide_eq_false_iff_not]; omega
                have HS2 : Hid (JD.chsK ys (k + 1) = JD.chsK ys k) := by show _ = _; rw [HSU.out, HE.out]; simp
                have hm2 : IntKind.u8.wrap ((zn : Int) % 2) = 1 := by rw [show (zn : Int) % 2 = 1 by omega]; rfl
                have hm3 : (zn : Int) % 2 = 1 := by omega
                have hm4 : ((zn : Int) % 2 == 0) = false := by simp; omega
                have A1 : Hid ((JD.chsK ys (k + 1)).length = cl) := by show _ = _; rw [HS2.out]; exact HCL.out
                have A2 : Hid (World.ownsRow wr w8.heap.size 3 1 (.slice g cl cg) cl (M4.iv (JD.chsK ys (k + 1)))) := by show World.ownsRow _ _ _ _ _ _ _; rw [HS2.out]; exact HO.out
                clear HSU HEV HE HS2 HCL HO
                go_wp2
                go_roundw
                case rel => exact ⟨k + 1, cl, g, cg, by go_num, by omega, rfl, A1, A2, hbr⟩
                case measure => simp [intOf]; omega
            · have ky : decide (k < ys.length) = false := by simp; omega
              have HE : Hid (JD.evB ys k = false) := by show _ = _; rw [HEV.out, decide_eq_false_iff_not]; omega
              have HS2 : Hid (JD.chsK ys (k + 1) = JD.chsK ys k) := by show _ = _; rw [HSU.out, HE.out]; simp
              have A1 : Hid ((JD.chsK ys (k + 1)).length = cl) := by show _ = _; rw [HS2.out]; exact HCL.out
              have A2 : Hid (World.ownsRow wr w8.heap.size 3 1 (.slice g cl cg) cl (M4.iv (JD.chsK ys (k + 1)))) := by show World.ownsRow _ _ _ _ _ _ _; rw [HS2.out]; exact HO.out
              clear HSU HEV HE HS2 HCL HO
              go_wp2
              go_roundw
              case rel => exact ⟨k + 1, cl, g, cg, by go_num, by omega, rfl, A1, A2, hbr⟩
              case measure => simp [intOf]; omega
          · obtain rfl : k = n := by omega
            have C1 : Hid _ := OFC.out wr hB1r g cg (by have := HO.out; rw [← HCL.out] at this; exact M5.own_ints this)
            rw [HCL.out] at C1
            clear OFC HO HCL
            go_wp2_with fail
            refine Calls.mono C1.out ?_
            rintro e w11 ⟨g11, cg11, rfl, o11, hb11'⟩
            have hb11 := hB1r.trans (hb11'.mono hB1r.size)
            obtain ⟨kk, hkk, CL⟩ := LFC.out w11 hb11 g11 cg11 (JD.own_le o11 hB1r.size)
            have HC2 : Hid (Calls _ _ _ _ _) := CL
            have hqk : decide (kk < (k : Int) - (fl : Int)) = false := by simp; omega
            clear C1 LFC CL o11 hb11'
            go_wp2_with fail
            refine Calls.mono HC2.out ?_
            rintro e w12 ⟨rfl, hb12'⟩
            have hb12 := hb11.trans (hb12'.mono hb11.size)
            have hB6 := HBF.out _ hb12
            clear HC2 hb12' hb11
            have DO : Hid _ := drawOrderFor_any b ys cb w12 hy (HBY.out _ hB6)
            go_wp2_with fail
            refine Calls.mono DO.out ?_
            rintro e v1 ⟨f1, d1, l2, f2, d2, s2, rfl, hl2, hs2, p1, p2, hv1⟩
            obtain ⟨f1', d1', ee, hR2⟩ := JDD.own_row2 p1
            cases ee
            have hV1 := hB6.trans (hv1.mono hB6.size)
            have IF2 : Hid (Calls _ _ _ _ _) := implOrderFor_any f1 f2 d1 d2 l2 s2 v1 (by omega) (by omega) hR2 (M5.own_ints p2)
            have SF2 : Hid (∀ V, Below v1.heap.size v1 V → _) := fun V hV => specOrderFor_any f1 f2 d1 d2 l2 s2 V (by omega) (by omega) (hR2.below hV) (M4.IntsAt.below (M5.own_ints p2) hV)
            have IO2 : Hid (∀ V, Below v1.heap.size v1 V → ∀ (g : Option Addr) (cg : Nat), V.ownsRow v1.heap.size 3 1 (.slice g (JD.ordL l2 s2).length cg) (JD.ordL l2 s2).length (M4.iv (JD.ordL l2 s2)) → _) := fun V hV g cg ho => implIsOrder_own f1 g d1 cg v1.heap.size l2 (JD.ordL l2 s2) V (by omega) (JD.ordL_len l2 s2) (hR2.below hV) ho
            have HO2 : Hid (JD.ordOk l2 s2 = true → JD.isO l2 (JD.ordL l2 s2) = true) := fun h => (JD.ord_od h).is
            have HL2 : Hid ((JD.ordL l2 s2).length ≤ 1048576) := JD.ordL_len l2 s2
            clear DO p1 p2 hR2
            generalize JD.isO l2 (JD.ordL l2 s2) = io2 at *
            generalize JD.ordL l2 s2 = R2 at *
            generalize JD.ordOk l2 s2 = ok2 at *
            obtain ⟨rl, hrl⟩ : ∃ rl, R2.length = rl := ⟨_, rfl⟩
            rw [hrl] at IF2 SF2 IO2 HL2
            obtain ⟨n2, hn2⟩ : ∃ n2, l2.length = n2 := ⟨_, rfl⟩
            rw [hn2] at IF2 SF2 IO2 hl2 ⊢
            obtain ⟨m2, hm2⟩ : ∃ m2, s2.length = m2 := ⟨_, rfl⟩
            rw [hm2] at IF2 SF2 hs2 ⊢
            have HRE : Hid (R2.length = rl) := hrl
            clear hrl hn2 hm2
            have hrl2 := HL2.out
            go_wp2_with fail
            refine Calls.mono IF2.out ?_
            rintro e v2 ⟨g1, cg1, rfl, q1, hv2⟩
            have Q1 : Hid _ := q1
            have SF3 : Hid _ := SF2.out v2 hv2
            clear IF2 SF2 q1
            go_wp2_with fail
            refine Calls.mono SF3.out ?_
            rintro e v3 ⟨g2, cg2, rfl, q2, hv3'⟩
            have hv3 := hv2.trans (hv3'.mono hv2.size)
            have Q1b : Hid (World.ownsRow v3 v1.heap.size 3 1 (.slice g1 rl cg1) rl (M4.iv R2)) := M5.own_below Q1.out hv3'
            have SI2 : Hid (Calls Try.prog 10 #[.slice g1 rl cg1, .slice g2 rl cg2] v3 fun e w' => e = .returned (.bool true) ∧ Below v3.heap.size v3 w') := by
              have h := sameInts_any g1 g2 cg1 cg2 R2 R2 v3 (by rw [HRE.out]; omega) (by rw [HRE.out]; omega) (M5.own_ints Q1b.out) (M5.own_ints q2)
              rw [HRE.out] at h
              show Calls _ _ _ _ _
              simpa using h
            clear SF3 q2 Q1 hv2 hv3'
            go_wp2_with fail
            refine Calls.mono SI2.out ?_
            rintro e v4 ⟨rfl, hv4'⟩
            have hv4 := hv3.trans (hv4'.mono hv3.size)
            have IO3 : Hid _ := IO2.out v4 hv4 g1 cg1 (M5.own_below Q1b.out hv4')
            clear SI2 IO2 Q1b hv3 hv4'
            have hF4 := hV1.trans (hv4.mono hV1.size)
            cases ok2 with
            | false =>
              clear IO3 HO2
              go_wp2
              go_ret
              exact ⟨rfl, hF4⟩
            | true =>
              have hio := HO2.out rfl
              subst hio
              clear HO2
              go_wp2_with fail
              refine Calls.mono IO3.out ?_
              rintro e v5 ⟨rfl, hv5'⟩
              clear IO3
              go_wp2
              go_ret
              exact ⟨rfl, hF4.trans (hv5'.mono hF4.size)⟩
      | true =>
        have hmo := HMM.out rfl
        have hqm : decide (mn < (n : Int) - (fl : Int)) = false := by simp; omega
        clear HMM
        go_wp2
        go_loopw [19, 20, 121] (fun v _ iv wr => ∃ (k cl : Nat) (g : Option Addr) (cg : Nat), iv = .int .i64 k ∧ k ≤ n ∧ v = .slice g cl cg ∧ Hid ((JD.chsK ys k).length = cl) ∧ Hid (World.ownsRow wr w8.heap.size 3 1 (.slice g cl cg) cl (M4.iv (JD.chsK ys k))) ∧ Below w8.heap.size w8 wr) (fun _ _ iv _ => (n - intOf iv).toNat)
        case atStart => exact ⟨0, 0, none, 0, rfl, by omega, rfl, (show Hid _ from rfl), (show Hid _ from World.ownsRow_nil _ _ _ _), Below.refl _ _⟩
        case round =>
          obtain ⟨k, cl, g, cg, rfl, hk, rfl, HCL, HO, hbr⟩ := hrel
          have hsr := hbr.size
          have hB1r := hb8.trans (hbr.mono hs8)
          by_cases hlk : k < n
          · have kn : (k : Int) < (n : Int) := by omega
            have HSU : Hid _ := JD.chs_succ ys k
            have hcl := JD.chs_len ys k
            rw [HCL.out] at hcl
            have HEV : Hid (JD.evB ys k = decide (k < ys.length ∧ ys.getD k 0 % 2 = 0)) := rfl
            by_cases hky : k < ys.length
            · obtain ⟨b9, off9, z9, rfl, hlt9, hc9, hz9, hz9'⟩ := JDM.byte_at (HBY.out _ (HBF.out _ hB1r)) hky
              have hbz9 := HBY.out _ (HBF.out _ hB1r)
              have hgz : ys.getD k 0 = z9 := JDM.byte_is hbz9 hky hc9
              rw [hgz] at HEV
              clear hbz9 hgz
              obtain ⟨zn, rfl⟩ := Int.eq_ofNat_of_zero_le hz9
              have ky : (k : Int) < (ys.length : Int) := by omega
              by_cases hev : zn % 2 = 0
              · have HE : Hid (JD.evB ys k = true) := by show _ = _; rw [HEV.out, decide_eq_true_eq]; omega
                have HS2 : Hid (JD.chsK ys (k + 1) = JD.chsK ys k ++ [(k : Int)]) := by show _ = _; rw [HSU.out, HE.out]; simp
                have hm2 : IntKind.u8.wrap ((zn : Int) % 2) = 0 := by rw [show (zn : Int) % 2 = 0 by omega]; rfl
                have hm3 : (zn : Int) % 2 = 0 := by omega
                have hm4 : ((zn : Int) % 2 == 0) = true := by simp; omega
                clear HSU HEV HE
                generalize JD.chsK ys k = cs at *
                go_wp2_with (at_builtin; refine wpList_append_own _ rfl _ _ 24 rfl w8.heap.size 3 i0 (.int .i64 0) 1 8 Try.underlying24 hi hz0 hz1 hz2 rfl (by decide) _ _ _ rfl (World.ownsRow.alloc HO.out _) ⟨wr.heap.size, 0, none⟩ 1 1 [.int .i64 (k : Int)] rfl rfl ?d1 ?d2 ?d3 ?d4 ?d5 ?_)
                all_goals try (first | rfl | omega | exact M2.new1 _ _ _ | exact M2.one1 _ _ | (unfold maxLen; omega) | (simp; omega))
                intro v' wn hown1 hgrow _
                have R1 : Hid (World.ownsRow wn w8.heap.size 3 1 v' (cl + 1) (M4.iv (JD.chsK ys (k + 1)))) := by
                  show World.ownsRow _ _ _ _ _ _ _
                  rw [HS2.out]; simpa [M4.iv] using hown1
                have R2 : Hid ((JD.chsK ys (k + 1)).length = cl + 1) := by show _ = _; rw [HS2.out, List.length_append, HCL.out]; rfl
                have R3 := (hbr.alloc hsr _).grown hgrow (by simp; omega) (fun j hj => (HO.out.lt j hj).1)
                obtain ⟨a', c', rfl⟩ := JD.own_slice R1.out
                clear hown1 hgrow HO HS2 HCL
                go_wp2
                go_roundw
                case rel => exact ⟨k + 1, cl + 1, a', c', by go_num, by omega, rfl, R2, R1, R3⟩
                case measure => simp [intOf]; omega
              · have HE : Hid (JD.evB ys k = false) := by show _ = _; rw [HEV.out, decide_eq_false_iff_not]; omega
                have HS2 : Hid (JD.chsK ys (k + 1) = JD.chsK ys k) := by show _ = _; rw [HSU.out, HE.out]; simp
                have hm2 : IntKind.u8.wrap ((zn : Int) % 2) = 1 := by rw [show (zn : Int) % 2 = 1 by omega]; rfl
                have hm3 : (zn : Int) % 2 = 1 := by omega
                have hm4 : ((zn : Int) % 2 == 0) = false := by simp; omega
                have A1 : Hid ((JD.chsK ys (k + 1)).length = cl) := by show _ = _; rw [HS2.out]; exact HCL.out
                have A2 : Hid (World.ownsRow wr w8.heap.size 3 1 (.slice g cl cg) cl (M4.iv (JD.chsK ys (k + 1)))) := by show World.ownsRow _ _ _ _ _ _ _; rw [HS2.out]; exact HO.out
                clear HSU HEV HE HS2 HCL HO
                go_wp2
                go_roundw
                case rel => exact ⟨k + 1, cl, g, cg, by go_num, by omega, rfl, A1, A2, hbr⟩
                case measure => simp [intOf]; omega
            · have ky : decide (k < ys.length) = false := by simp; omega
              have HE : Hid (JD.evB ys k = false) := by show _ = _; rw [HEV.out, decide_eq_false_iff_not]; omega
              have HS2 : Hid (JD.chsK ys (k + 1) = JD.chsK ys k) := by show _ = _; rw [HSU.out, HE.out]; simp
              have A1 : Hid ((JD.chsK ys (k + 1)).length = cl) := by show _ = _; rw [HS2.out]; exact HCL.out
              have A2 : Hid (World.ownsRow wr w8.heap.size 3 1 (.slice g cl cg) cl (M4.iv (JD.chsK ys (k + 1)))) := by show World.ownsRow _ _ _ _ _ _ _; rw [HS2.out]; exact HO.out
              clear HSU HEV HE HS2 HCL HO
              go_wp2
              go_roundw
              case rel => exact ⟨k + 1, cl, g, cg, by go_num, by omega, rfl, A1, A2, hbr⟩
              case measure => simp [intOf]; omega
          · obtain rfl : k = n := by omega
            have C1 : Hid _ := OFC.out wr hB1r g cg (by have := HO.out; rw [← HCL.out] at this; exact M5.own_ints this)
            rw [HCL.out] at C1
            clear OFC HO HCL
            go_wp2_with fail
            refine Calls.mono C1.out ?_
            rintro e w11 ⟨g11, cg11, rfl, o11, hb11'⟩
            have hb11 := hB1r.trans (hb11'.mono hB1r.size)
            obtain ⟨kk, hkk, CL⟩ := LFC.out w11 hb11 g11 cg11 (JD.own_le o11 hB1r.size)
            have HC2 : Hid (Calls _ _ _ _ _) := CL
            have hqk : decide (kk < (k : Int) - (fl : Int)) = false := by simp; omega
            clear C1 LFC CL o11 hb11'
            go_wp2_with fail
            refine Calls.mono HC2.out ?_
            rintro e w12 ⟨rfl, hb12'⟩
            have hb12 := hb11.trans (hb12'.mono hb11.size)
            have hB6 := HBF.out _ hb12
            clear HC2 hb12' hb11
            have DO : Hid _ := drawOrderFor_any b ys cb w12 hy (HBY.out _ hB6)
            go_wp2_with fail
            refine Calls.mono DO.out ?_
            rintro e v1 ⟨f1, d1, l2, f2, d2, s2, rfl, hl2, hs2, p1, p2, hv1⟩
            obtain ⟨f1', d1', ee, hR2⟩ := JDD.own_row2 p1
            cases ee
            have hV1 := hB6.trans (hv1.mono hB6.size)
            have IF2 : Hid (Calls _ _ _ _ _) := implOrderFor_any f1 f2 d1 d2 l2 s2 v1 (by omega) (by omega) hR2 (M5.own_ints p2)
            have SF2 : Hid (∀ V, Below v1.heap.size v1 V → _) := fun V hV => specOrderFor_any f1 f2 d1 d2 l2 s2 V (by omega) (by omega) (hR2.below hV) (M4.IntsAt.below (M5.own_ints p2) hV)
            have IO2 : Hid (∀ V, Below v1.heap.size v1 V → ∀ (g : Option Addr) (cg : Nat), V.ownsRow v1.heap.size 3 1 (.slice g (JD.ordL l2 s2).length cg) (JD.ordL l2 s2).length (M4.iv (JD.ordL l2 s2)) → _) := fun V hV g cg ho => implIsOrder_own f1 g d1 cg v1.heap.size l2 (JD.ordL l2 s2) V (by omega) (JD.ordL_len l2 s2) (hR2.below hV) ho
            have HO2 : Hid (JD.ordOk l2 s2 = true → JD.isO l2 (JD.ordL l2 s2) = true) := fun h => (JD.ord_od h).is
            have HL2 : Hid ((JD.ordL l2 s2).length ≤ 1048576) := JD.ordL_len l2 s2
            clear DO p1 p2 hR2
            generalize JD.isO l2 (JD.ordL l2 s2) = io2 at *
            generalize JD.ordL l2 s2 = R2 at *
            generalize JD.ordOk l2 s2 = ok2 at *
            obtain ⟨rl, hrl⟩ : ∃ rl, R2.length = rl := ⟨_, rfl⟩
            rw [hrl] at IF2 SF2 IO2 HL2
            obtain ⟨n2, hn2⟩ : ∃ n2, l2.length = n2 := ⟨_, rfl⟩
            rw [hn2] at IF2 SF2 IO2 hl2 ⊢
            obtain ⟨m2, hm2⟩ : ∃ m2, s2.length = m2 := ⟨_, rfl⟩
            rw [hm2] at IF2 SF2 hs2 ⊢
            have HRE : Hid (R2.length = rl) := hrl
            clear hrl hn2 hm2
            have hrl2 := HL2.out
            go_wp2_with fail
            refine Calls.mono IF2.out ?_
            rintro e v2 ⟨g1, cg1, rfl, q1, hv2⟩
            have Q1 : Hid _ := q1
            have SF3 : Hid _ := SF2.out v2 hv2
            clear IF2 SF2 q1
            go_wp2_with fail
            refine Calls.mono SF3.out ?_
            rintro e v3 ⟨g2, cg2, rfl, q2, hv3'⟩
            have hv3 := hv2.trans (hv3'.mono hv2.size)
            have Q1b : Hid (World.ownsRow v3 v1.heap.size 3 1 (.slice g1 rl cg1) rl (M4.iv R2)) := M5.own_below Q1.out hv3'
            have SI2 : Hid (Calls Try.prog 10 #[.slice g1 rl cg1, .slice g2 rl cg2] v3 fun e w' => e = .returned (.bool true) ∧ Below v3.heap.size v3 w') := by
              have h := sameInts_any g1 g2 cg1 cg2 R2 R2 v3 (by rw [HRE.out]; omega) (by rw [HRE.out]; omega) (M5.own_ints Q1b.out) (M5.own_ints q2)
              rw [HRE.out] at h
              show Calls _ _ _ _ _
              simpa using h
            clear SF3 q2 Q1 hv2 hv3'
            go_wp2_with fail
            refine Calls.mono SI2.out ?_
            rintro e v4 ⟨rfl, hv4'⟩
            have hv4 := hv3.trans (hv4'.mono hv3.size)
            have IO3 : Hid _ := IO2.out v4 hv4 g1 cg1 (M5.own_below Q1b.out hv4')
            clear SI2 IO2 Q1b hv3 hv4'
            have hF4 := hV1.trans (hv4.mono hV1.size)
            cases ok2 with
            | false =>
              clear IO3 HO2
              go_wp2
              go_ret
              exact ⟨rfl, hF4⟩
            | true =>
              have hio := HO2.out rfl
              subst hio
              clear HO2
              go_wp2_with fail
              refine Calls.mono IO3.out ?_
              rintro e v5 ⟨rfl, hv5'⟩
              clear IO3
              go_wp2
              go_ret
              exact ⟨rfl, hF4.trans (hv5'.mono hF4.size)⟩
  · have h20z : ¬ (zs.length : Int) + (ys.length : Int) ≤ 1048576 := by omega
    go_enter Try.func4, Try.ntmps4
    go_wp2
    go_ret
    exact ⟨rfl, Below.refl _ _⟩
end Go.Proofs.Ytgenmljnhlcpcaa
