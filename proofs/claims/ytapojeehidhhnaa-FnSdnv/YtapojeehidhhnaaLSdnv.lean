/- The law FnSdnv answers true at every argument. -/
import Derived.Test.YtapojeehidhhnaaCDraw1
import Derived.Test.YtapojeehidhhnaaCSameInts
import Derived.Test.YtapojeehidhhnaaCReadSdnvs
import Derived.Test.YtapojeehidhhnaaCImplSdnvList
import Derived.Test.YtapojeehidhhnaaCImplSdnvOf
import Derived.Test.YtapojeehidhhnaaMSd
namespace Go.Proofs.Ytapojeehidhhnaa
open Go.RowKit
theorem MC.BytesAt.up {w : World} {p q : Nat} {a : Option Addr} {zs : List Int} (h : MC.BytesAt w p a zs) (hp : p ≤ q) : MC.BytesAt w q a zs := by
  refine ⟨h.1, ?_⟩
  rcases h.2 with rfl | ⟨b, off, rfl, hlt, hc⟩
  · exact .inl rfl
  · exact .inr ⟨b, off, rfl, by omega, hc⟩
set_option maxHeartbeats 3200000 in
set_option maxRecDepth 100000 in
theorem lawSdnv_any (a b : Option Addr) (zs ys : List Int) (ca cb : Nat) (w : World) (hz : zs.length ≤ 140737488355328) (hy : ys.length ≤ 140737488355328) (hbz : MC.BytesAt w w.heap.size a zs) (hby : MC.BytesAt w w.heap.size b ys) :
    Calls Try.prog 3 #[.slice a zs.length ca, .slice b ys.length cb] w fun e w' => e = .returned (.bool true) ∧ Below w.heap.size w w' := by
  by_cases h20 : zs.length + ys.length ≤ 1048576
  · go_enter Try.func3, Try.ntmps3
    go_wp2_with fail
    refine (drawSdnvList_any a zs ca _ hz hbz).mono ?_
    rintro e w1 ⟨av, lc, l, rfl, hl, own1, B1⟩
    have in1 := M5.own_ints own1
    clear own1
    go_wp2_with fail
    refine (implSdnvList_any _ _ l _ (by omega) in1).mono ?_
    rintro e w2 ⟨rfl, b2⟩
    have B2 := B1.trans (b2.mono B1.size)
    have in2 := in1.below b2
    clear B1 in1 b2
    go_wp2_with fail
    refine (specSdnvList_any _ _ l _ (by omega) in2).mono ?_
    rintro e w3 ⟨rfl, b3⟩
    have B3 := B2.trans (b3.mono B2.size)
    have in3 := in2.below b3
    clear B2 in2 b3
    cases hok : slOk l with
    | false =>
      have hs : slStr l = ⟨#[]⟩ := slOk_no l hok
      rw [hs]
      clear hok hs in3
      go_wp2_with fail
      refine (drawReadSdnvs_any b ys cb _ (by omega) (hby.only (q := w.heap.size) (MC.Only.of_below B3) (Nat.le_refl _) (Nat.le_refl _) |>.up B3.size)).mono ?_
      rintro e wA ⟨t, rfl, ht, hA⟩
      have hBA := B3.trans (hA.mono B3.size)
      clear B3 hA
      have htm : t.size ≤ maxLen := by unfold maxLen; omega
      have hforth := MSd.forth t
      go_wp2_with fail
      refine (implRead_any t _ htm).mono ?_
      rintro e wB ⟨a1, c1, rfl, own1, hB⟩
      have hBB := hBA.trans (hB.mono hBA.size)
      clear hBA
      go_wp2_with fail
      refine (specRead_any t _ htm).mono ?_
      rintro e wC ⟨a2, c2, rfl, own2, hC⟩
      have hBC := hBB.trans (hC.mono hBB.size)
      obtain ⟨x, hx⟩ : ∃ x, x = (M5.readF t).1 := ⟨_, rfl⟩
      obtain ⟨ok, hok⟩ : ∃ ok, ok = (M5.readF t).2 := ⟨_, rfl⟩
      have hxl := M5.readF_len t
      rw [← hx] at own1 own2 hforth hxl ⊢
      rw [← hok] at hforth ⊢
      have in1 := (M5.own_ints own1).below hC
      have in2 := M5.own_ints own2
      have HF : Hid (ok = true → slOk x = true ∧ slStr x = t) := hforth
      clear own1 own2 hx hok hforth hB hC hBB
      go_wp2_with fail
      refine (sameInts_any _ _ _ _ x x _ (by omega) (by omega) in1 in2).mono ?_
      rintro e wD ⟨rfl, hD⟩
      have hBD := hBC.trans (hD.mono hBC.size)
      have in1' := in1.below hD
      clear hBC in1 in2 hD
      go_wp2_with fail
      refine (implSdnvList_any _ _ x _ (by omega) in1').mono ?_
      rintro e wE ⟨rfl, hE⟩
      have hBE := hBD.trans (hE.mono hBD.size)
      clear hBD in1' hE
      cases ok with
      | false =>
        go_wp2
        go_ret
        exact ⟨rfl, hBE⟩
      | true =>
        obtain ⟨f1, f2⟩ := HF.out rfl
        have f3 : ((slStr x).toList == t.toList) = true := by rw [f2]; simp
        clear f2 HF
        go_wp2
        go_ret
        exact ⟨rfl, hBE⟩
    | true =>
      have hback := MSd.back l hok
      have hat := MSd.at_one l hok
      have hL : Hid (slOk l = true) := hok
      clear hok
      obtain ⟨s, hs⟩ : ∃ s, s = slStr l := ⟨_, rfl⟩
      rw [← hs] at hback hat ⊢
      have hs200 : s.size ≤ 200 := hback.2.1
      have hsm : s.size ≤ maxLen := by unfold maxLen; omega
      have HR : Hid (M5.readF s = (l, true)) := hback.1
      have HAT : Hid (∀ k, k < l.length → _) := hat
      have HT : Hid (s.size = (sl l).length) := by
        have e : s.size = s.data.toList.length := by simp
        show _ = _; rw [e, hback.2.2]
      clear hback hat hs
      go_wp2_with fail
      refine (implRead_any s _ hsm).mono ?_
      rintro e w4 ⟨a4, c4, rfl, own4, b4⟩
      rw [HR.out] at own4 ⊢
      have in4 := M5.own_ints own4
      have in3' := in3.below b4
      have B4 := B3.trans (b4.mono B3.size)
      clear own4 in3 B3 b4
      simp only at in4 ⊢
      go_wp2_with fail
      refine (sameInts_any _ _ _ _ l l _ (by omega) (by omega) in4 in3').mono ?_
      rintro e w5 ⟨rfl, b5⟩
      have in5 := in3'.below b5
      have B5 := B4.trans (b5.mono B4.size)
      clear in4 in3' B4 b5
      go_wp2_with fail
      go_loopw [12, 14, 15, 16, 17, 18, 19, 72] (fun at_ _ _ _ _ _ _ iv wr => ∃ k q : Nat, iv = .int .i64 k ∧ at_ = .int .i64 q ∧ k ≤ l.length ∧ q ≤ 200 ∧ Hid (q = (sl (l.take k)).length) ∧ Below w5.heap.size w5 wr) (fun _ _ _ _ _ _ _ iv _ => (l.length - intOf iv).toNat)
      case atStart => exact ⟨0, 0, rfl, rfl, by omega, by omega, rfl, Below.refl _ _⟩
      case round =>
        obtain ⟨k, q, rfl, rfl, hk, hq, HQ, hbr⟩ := hrel
        by_cases hkl : k < l.length
        · obtain ⟨bb, off, rfl, hlt, hc⟩ := (in5.below hbr).at hkl
          obtain ⟨g1, g2, g3, g4, g5, g6, g7⟩ := HAT.out k hkl
          rw [← HQ.out] at g2 g4 g5 g6
          have HS : Hid (∀ wx, Calls Try.prog 9 #[.int .i64 (l.getD k 0)] wx fun e w' => e = .returned (.tuple #[.string (sdStr (l.getD k 0)), .bool (okN (l.getD k 0))]) ∧ Below wx.heap.size wx w') := fun wx => implSdnvOf_any _ wx
          rw [g1] at HS
          have hn : (((l.getD k 0).toNat : Nat) : Int) = l.getD k 0 := by omega
          have HK : Hid (∀ wx, Calls Try.prog 10 #[.string s, .int .i64 (q : Int)] wx fun e w' => e = .returned (.tuple #[.int .i64 (l.getD k 0), .int .i64 ((q + (sdStr (l.getD k 0)).size : Nat) : Int), .bool true]) ∧ wx = w') := fun wx =>
            (implTake_any s q wx hsm).mono (fun e w' ⟨he, hw⟩ => ⟨by rw [he, g5]; exact congrArg (fun z : Int => Ending.returned (.tuple #[.int .i64 z, .int .i64 ((q + (sdStr (l.getD k 0)).size : Nat) : Int), .bool true])) hn, hw⟩)
          generalize sdStr (l.getD k 0) = tb at *
          have heq : ((s.extract q (q + tb.size)).toList == tb.toList) = true := by rw [g4]; simp
          have HG : Hid (q + tb.size = (sl (l.take (k + 1))).length) := g6.symm
          clear g1 g4 g5 g6 hn HQ
          generalize l.getD k 0 = n at *
          clear g7
          go_wp2_with fail
          refine (HS.out _).mono ?_
          rintro e wS ⟨rfl, hbS⟩
          have hbr' := hbr.trans (hbS.mono hbr.size)
          clear hbr hbS hc
          go_wp2_with fail
          refine (HK.out _).mono ?_
          rintro e w' ⟨rfl, rfl⟩
          go_wp2
          go_roundw
          case rel => exact ⟨k + 1, q + tb.size, by go_num, by go_num, by omega, by omega, HG, hbr'⟩
          case measure => simp [intOf]; omega
        · obtain rfl : k = l.length := by omega
          have hqs : q = s.size := by rw [HQ.out, HT.out, List.take_length]
          subst hqs
          have B6 := B5.trans (hbr.mono B5.size)
          clear HQ hbr in5 B5
          go_wp2_with fail
          refine (drawReadSdnvs_any b ys cb _ (by omega) (hby.only (q := w.heap.size) (MC.Only.of_below B6) (Nat.le_refl _) (Nat.le_refl _) |>.up B6.size)).mono ?_
          rintro e wA ⟨t, rfl, ht, hA⟩
          have hBA := B6.trans (hA.mono B6.size)
          clear B6 hA
          have htm : t.size ≤ maxLen := by unfold maxLen; omega
          have hforth := MSd.forth t
          go_wp2_with fail
          refine (implRead_any t _ htm).mono ?_
          rintro e wB ⟨a1, c1, rfl, own1, hB⟩
          have hBB := hBA.trans (hB.mono hBA.size)
          clear hBA
          go_wp2_with fail
          refine (specRead_any t _ htm).mono ?_
          rintro e wC ⟨a2, c2, rfl, own2, hC⟩
          have hBC := hBB.trans (hC.mono hBB.size)
          obtain ⟨x, hx⟩ : ∃ x, x = (M5.readF t).1 := ⟨_, rfl⟩
          obtain ⟨ok, hok⟩ : ∃ ok, ok = (M5.readF t).2 := ⟨_, rfl⟩
          have hxl := M5.readF_len t
          rw [← hx] at own1 own2 hforth hxl ⊢
          rw [← hok] at hforth ⊢
          have in1 := (M5.own_ints own1).below hC
          have in2 := M5.own_ints own2
          have HF : Hid (ok = true → slOk x = true ∧ slStr x = t) := hforth
          clear own1 own2 hx hok hforth hB hC hBB
          go_wp2_with fail
          refine (sameInts_any _ _ _ _ x x _ (by omega) (by omega) in1 in2).mono ?_
          rintro e wD ⟨rfl, hD⟩
          have hBD := hBC.trans (hD.mono hBC.size)
          have in1' := in1.below hD
          clear hBC in1 in2 hD
          go_wp2_with fail
          refine (implSdnvList_any _ _ x _ (by omega) in1').mono ?_
          rintro e wE ⟨rfl, hE⟩
          have hBE := hBD.trans (hE.mono hBD.size)
          clear hBD in1' hE
          cases ok with
          | false =>
            go_wp2
            go_ret
            exact ⟨rfl, hBE⟩
          | true =>
            obtain ⟨f1, f2⟩ := HF.out rfl
            have f3 : ((slStr x).toList == t.toList) = true := by rw [f2]; simp
            clear f2 HF
            go_wp2
            go_ret
            exact ⟨rfl, hBE⟩
  · go_enter Try.func3, Try.ntmps3
    go_wp2
    go_ret
    exact ⟨rfl, Below.refl _ _⟩
end Go.Proofs.Ytapojeehidhhnaa
