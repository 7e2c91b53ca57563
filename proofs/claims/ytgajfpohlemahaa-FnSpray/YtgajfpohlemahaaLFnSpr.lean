/- The law FnSpray answers true at all bytes. -/
import Derived.Test.YtgajfpohlemahaaRows
import Derived.Test.YtgajfpohlemahaaCSprE
import Derived.Test.YtgajfpohlemahaaMSprF
import Derived.Test.YtgajfpohlemahaaCSprX
import Derived.Test.YtgajfpohlemahaaCSprC
import Derived.Test.YtgajfpohlemahaaCSprT
import Derived.Test.YtgajfpohlemahaaCHasM
import Derived.Test.YtgajfpohlemahaaCSameInts
import Derived.WalkKit
import Derived.WalkSpells
import Derived.WalkLawsBesides
import Derived.Outline
namespace Go.Proofs.Ytgajfpohlemahaa
open Go.RowKit
set_option maxHeartbeats 1600000 in
set_option maxRecDepth 100000 in
theorem sameSprays_any (a b : Option Addr) (ca cb : Nat) (xs : List Int) (t : Int) (th : Bool) (w : World) (hx : xs.length ≤ 1048576) (hax : M4.IntsAt w a xs) (hay : M4.IntsAt w b xs) :
    Calls Try.prog 7 #[.agg #[.slice a xs.length ca, .int .i64 t, .bool th], .agg #[.slice b xs.length cb, .int .i64 t, .bool th]] w fun e w' => e = .returned (.bool true) ∧ Below w.heap.size w w' := by
  have BX : Below w.heap.size w ((w.alloc (.cells #[.slice a xs.length ca, .int .i64 t, .bool th] 28)).alloc (.cells #[.slice b xs.length cb, .int .i64 t, .bool th] 28)) := ((Below.refl _ _).alloc (Nat.le_refl _) _).alloc (by simp) _
  have SI : Hid (Calls _ _ _ _ _) := sameInts_any a b ca cb xs xs _ (by omega) (by omega) (hax.below BX) (hay.below BX)
  have htt : (t == t) = true := by simp
  have hth : (th == th) = true := by simp
  clear hax hay
  go_enter Try.func7, Try.ntmps7
  go_wp2_with fail
  refine Calls.mono SI.out ?_
  rintro e w2 ⟨rfl, hb⟩
  have B2 := BX.trans (hb.mono BX.size)
  clear SI hb BX
  go_wp2
  go_ret
  exact ⟨rfl, B2⟩
set_option linter.unusedSimpArgs false in
set_option maxHeartbeats 12800000 in
set_option maxRecDepth 100000 in
theorem lawFnSpr_any (a b : Option Addr) (zs ys : List Int) (ca cb : Nat) (w : World) (hz : zs.length ≤ 140737488355328) (hy : ys.length ≤ 140737488355328) (hbz : MC.BytesAt w w.heap.size a zs) (hby : MC.BytesAt w w.heap.size b ys) :
    Calls Try.prog 3 #[.slice a zs.length ca, .slice b ys.length cb] w fun e w' => e = .returned (.bool true) ∧ Below w.heap.size w w' := by
  by_cases h20 : zs.length + ys.length ≤ 1048576
  · have HBY : Hid (∀ W : World, Below w.heap.size w W → MC.BytesAt W W.heap.size b ys) := fun W h => (hby.only (q := w.heap.size) (MC.Only.of_below h) (Nat.le_refl _) (Nat.le_refl _)).up h.size
    clear hby
    go_enter Try.func3, Try.ntmps3
    go_wp2_with fail
    refine (drawPlay_any a zs ca _ hz hbz).mono ?_
    rintro e w1 ⟨n, f, t, c, a1, c1, ms, rfl, hml, hrow, B⟩
    clear hbz
    have IP : Hid (∀ W : World, Below w1.heap.size w1 W → Calls Try.prog 5 #[.int .i64 n, .int .i64 f, .int .i64 t, .int .i64 c, .slice a1 ms.length c1] W fun e w' => ∃ a1 c1, e = .returned (.tuple #[.agg #[.slice a1 (SP.pL (SP.plA n f t c ms)).length c1, .int .i64 (SP.pT t (SP.plA n f t c ms)), .bool (SP.pH (SP.plA n f t c ms))], .int .i64 (SP.pM (SP.plA n f t c ms)), .bool (SP.plA n f t c ms).isSome]) ∧ w'.ownsRow W.heap.size 3 1 (.slice a1 (SP.pL (SP.plA n f t c ms)).length c1) (SP.pL (SP.plA n f t c ms)).length (M4.iv (SP.pL (SP.plA n f t c ms))) ∧ Below W.heap.size W w') := fun W hb => playI_any n f t c a1 c1 ms W (by omega) (hrow.below hb)
    have SPP : Hid (∀ W : World, Below w1.heap.size w1 W → Calls Try.prog 6 #[.int .i64 n, .int .i64 f, .int .i64 t, .int .i64 c, .slice a1 ms.length c1] W fun e w' => ∃ a1 c1, e = .returned (.tuple #[.agg #[.slice a1 (SP.pL (SP.plA n f t c ms)).length c1, .int .i64 (SP.pT t (SP.plA n f t c ms)), .bool (SP.pH (SP.plA n f t c ms))], .int .i64 (SP.pM (SP.plA n f t c ms)), .bool (SP.plA n f t c ms).isSome]) ∧ w'.ownsRow W.heap.size 3 1 (.slice a1 (SP.pL (SP.plA n f t c ms)).length c1) (SP.pL (SP.plA n f t c ms)).length (M4.iv (SP.pL (SP.plA n f t c ms))) ∧ Below W.heap.size W w') := fun W hb => playS_any n f t c a1 c1 ms W (by omega) (hrow.below hb)
    have HF : Hid ((SP.plA n f t c ms).isSome = true → _) := fun h => SP.fb_of (n := n) (f := f) (t := t) (c := c) (ms := ms) h
    have hL8 : (SP.pL (SP.plA n f t c ms)).length ≤ 8 := SP.pL_len
    generalize SP.pL (SP.plA n f t c ms) = L at *
    generalize SP.pT t (SP.plA n f t c ms) = T at *
    generalize SP.pH (SP.plA n f t c ms) = H at *
    generalize SP.pM (SP.plA n f t c ms) = M at *
    generalize (SP.plA n f t c ms).isSome = K at *
    have SAME : Hid (∀ (a b : Option Addr) (ca cb : Nat) (W : World), M4.IntsAt W a L → M4.IntsAt W b L → Calls Try.prog 7 #[.agg #[.slice a L.length ca, .int .i64 T, .bool H], .agg #[.slice b L.length cb, .int .i64 T, .bool H]] W fun e w' => e = .returned (.bool true) ∧ Below W.heap.size W w') := fun a b ca cb W h1 h2 => sameSprays_any a b ca cb L T H W (by omega) h1 h2
    have hKK : (K == K) = true := by simp
    have hM1 : (M == M) = true := by simp
    clear hrow
    go_wp2_with fail
    refine Calls.mono (IP.out w1 (Below.refl _ _)) ?_
    rintro e w2 ⟨a2, q2, rfl, ho, hb⟩
    have C1 := hb
    replace B := B.trans (hb.mono B.size)
    clear hb
    have r_s : Hid (M4.IntsAt w2 a2 L) := M5.own_ints ho
    clear ho IP
    replace C1 := C1.alloc C1.size (.cells #[.slice a2 L.length q2, .int .i64 T, .bool H] 28)
    have b_s := SP.B3.new (w2) (.slice a2 L.length q2) (.int .i64 T) (.bool H) 28 (k := (w2).heap.size) rfl
    replace B := B.alloc B.size (.cells #[.slice a2 L.length q2, .int .i64 T, .bool H] 28)
    replace r_s : Hid _ := M4.IntsAt.below r_s.out ((Below.refl (w2).heap.size (w2)).alloc (Nat.le_refl _) (.cells #[.slice a2 L.length q2, .int .i64 T, .bool H] 28))
    go_wp2_with fail
    obtain ⟨q_s, hq_s⟩ : ∃ q, w2.heap.size = q := ⟨_, rfl⟩
    rw [hq_s] at b_s
    try rw [hq_s]
    generalize (w2).alloc (.cells #[.slice a2 L.length q2, .int .i64 T, .bool H] 28) = w3 at *
    clear hq_s
    have r_s' : Hid (M4.IntsAt w3 a2 L) := r_s
    clear r_s
    have r_s := r_s'
    clear r_s'
    refine Calls.mono (SPP.out _ C1) ?_
    rintro e w4 ⟨a3, q3, rfl, ho, hb⟩
    clear C1
    replace b_s := b_s.below hb b_s.lt
    replace r_s : Hid (M4.IntsAt w4 a2 L) := M4.IntsAt.below r_s.out hb
    replace B := B.trans (hb.mono B.size)
    clear hb
    have r_v : Hid (M4.IntsAt w4 a3 L) := M5.own_ints ho
    clear ho SPP
    replace b_s := b_s.alloc (.cells #[.slice a3 L.length q3, .int .i64 T, .bool H] 28)
    have b_v := SP.B3.new (w4) (.slice a3 L.length q3) (.int .i64 T) (.bool H) 28 (k := (w4).heap.size) rfl
    replace B := B.alloc B.size (.cells #[.slice a3 L.length q3, .int .i64 T, .bool H] 28)
    replace r_s : Hid _ := M4.IntsAt.below r_s.out ((Below.refl (w4).heap.size (w4)).alloc (Nat.le_refl _) (.cells #[.slice a3 L.length q3, .int .i64 T, .bool H] 28))
    replace r_v : Hid _ := M4.IntsAt.below r_v.out ((Below.refl (w4).heap.size (w4)).alloc (Nat.le_refl _) (.cells #[.slice a3 L.length q3, .int .i64 T, .bool H] 28))
    obtain ⟨c_s0, c_s1, c_s2⟩ := b_s.cells
    have l_s := b_s.lt
    obtain ⟨c_v0, c_v1, c_v2⟩ := b_v.cells
    have l_v := b_v.lt
    go_wp2_with fail
    clear c_s0 c_s1 c_s2 l_s
    clear c_v0 c_v1 c_v2 l_v
    obtain ⟨q_v, hq_v⟩ : ∃ q, w4.heap.size = q := ⟨_, rfl⟩
    rw [hq_v] at b_v
    try rw [hq_v]
    generalize (w4).alloc (.cells #[.slice a3 L.length q3, .int .i64 T, .bool H] 28) = w5 at *
    clear hq_v
    have r_s' : Hid (M4.IntsAt w5 a2 L) := r_s
    clear r_s
    have r_s := r_s'
    clear r_s'
    have r_v' : Hid (M4.IntsAt w5 a3 L) := r_v
    clear r_v
    have r_v := r_v'
    clear r_v'
    refine Calls.mono (SAME.out a2 a3 q2 q3 _ r_s.out r_v.out) ?_
    rintro e w6 ⟨rfl, hb⟩
    replace b_s := b_s.below hb b_s.lt
    replace b_v := b_v.below hb b_v.lt
    replace r_s : Hid (M4.IntsAt w6 a2 L) := M4.IntsAt.below r_s.out hb
    replace r_v : Hid (M4.IntsAt w6 a3 L) := M4.IntsAt.below r_v.out hb
    replace B := B.trans (hb.mono B.size)
    clear hb
    clear SAME r_v b_v
    cases K with
    | false =>
      clear HF
      go_wp2_with fail
      refine Calls.mono (drawMeet_any b ys cb _ hy (HBY.out _ B)) ?_
      rintro e w7 ⟨g, cg, us, t2, x, y, th2, rfl, hl2, own, hb⟩
      replace b_s := b_s.below hb b_s.lt
      replace r_s : Hid (M4.IntsAt w7 a2 L) := M4.IntsAt.below r_s.out hb
      replace B := B.trans (hb.mono B.size)
      clear hb
      clear b_s
      clear r_s
      have r_u : Hid (M4.IntsAt w7 (some ⟨g, 0, none⟩) us) := M5.own_ints own
      clear own
      have IM : Hid (∀ W : World, M4.IntsAt W (some ⟨g, 0, none⟩) us → Calls Try.prog 13 #[.agg #[.slice (some ⟨g, 0, none⟩) us.length cg, .int .i64 t2, .bool th2], .agg #[.int .i64 x, .int .i64 y]] W fun e w' => ∃ a cap, e = .returned (.tuple #[.agg #[.slice a (SP.mL us t2 th2 x y).length cap, .int .i64 (SP.mT us t2 x y), .bool (SP.mH us t2 th2 x y)], .bool (SP.mk us t2 x y)]) ∧ w'.ownsRow W.heap.size 3 1 (.slice a (SP.mL us t2 th2 x y).length cap) (SP.mL us t2 th2 x y).length (M4.iv (SP.mL us t2 th2 x y)) ∧ Below W.heap.size W w') := fun W h => implMeet_any g cg us t2 x y th2 W h (by omega)
      have SM : Hid (∀ W : World, M4.IntsAt W (some ⟨g, 0, none⟩) us → Calls Try.prog 14 #[.agg #[.slice (some ⟨g, 0, none⟩) us.length cg, .int .i64 t2, .bool th2], .agg #[.int .i64 x, .int .i64 y]] W fun e w' => ∃ a cap, e = .returned (.tuple #[.agg #[.slice a (SP.mL us t2 th2 x y).length cap, .int .i64 (SP.mT us t2 x y), .bool (SP.mH us t2 th2 x y)], .bool (SP.mk us t2 x y)]) ∧ w'.ownsRow W.heap.size 3 1 (.slice a (SP.mL us t2 th2 x y).length cap) (SP.mL us t2 th2 x y).length (M4.iv (SP.mL us t2 th2 x y)) ∧ Below W.heap.size W w') := fun W h => specMeet_any g cg us t2 x y th2 W h (by omega)
      have GI : Hid (∀ W : World, M4.IntsAt W (some ⟨g, 0, none⟩) us → Calls Try.prog 11 #[.agg #[.slice (some ⟨g, 0, none⟩) us.length cg, .int .i64 t2, .bool th2]] W fun e w' => e = .returned (.bool (SP.good us t2)) ∧ Below W.heap.size W w') := fun W h => implGoodSpray_any _ cg us t2 th2 W h (by omega)
      have GS : Hid (∀ W : World, M4.IntsAt W (some ⟨g, 0, none⟩) us → Calls Try.prog 15 #[.agg #[.slice (some ⟨g, 0, none⟩) us.length cg, .int .i64 t2, .bool th2]] W fun e w' => e = .returned (.bool (SP.good us t2)) ∧ Below W.heap.size W w') := fun W h => specGoodSpray_any _ cg us t2 th2 W h (by omega)
      have HFM : Hid (SP.mk us t2 x y = true → SP.FM us (SP.mL us t2 th2 x y) th2 (SP.mH us t2 th2 x y) t2 ∧ SP.mT us t2 x y = t2) := fun h => SP.fm_of h
      have hL2 : (SP.mL us t2 th2 x y).length ≤ 8 := by
        unfold SP.mL
        split
        · rw [SP.meetS_len]; exact hl2.2
        · simp
      generalize SP.mL us t2 th2 x y = L2 at *
      generalize SP.mT us t2 x y = T2 at *
      generalize SP.mH us t2 th2 x y = H2 at *
      generalize SP.mk us t2 x y = K2 at *
      generalize hG2e : SP.good us t2 = G2 at *
      have HG2 : Hid _ := hG2e
      clear hG2e
      have SAM2 : Hid (∀ (a b : Option Addr) (ca cb : Nat) (W : World), M4.IntsAt W a L2 → M4.IntsAt W b L2 → Calls Try.prog 7 #[.agg #[.slice a L2.length ca, .int .i64 T2, .bool H2], .agg #[.slice b L2.length cb, .int .i64 T2, .bool H2]] W fun e w' => e = .returned (.bool true) ∧ Below W.heap.size W w') := fun a b ca cb W h1 h2 => sameSprays_any a b ca cb L2 T2 H2 W (by omega) h1 h2
      have hK2 : (K2 == K2) = true := by simp
      have hG2 : (G2 == G2) = true := by simp
      have b_u := SP.B3.new (w7) (.slice (some ⟨g, 0, none⟩) us.length cg) (.int .i64 t2) (.bool th2) 28 (k := (w7).heap.size) rfl
      replace B := B.alloc B.size (.cells #[.slice (some ⟨g, 0, none⟩) us.length cg, .int .i64 t2, .bool th2] 28)
      replace r_u : Hid _ := M4.IntsAt.below r_u.out ((Below.refl (w7).heap.size (w7)).alloc (Nat.le_refl _) (.cells #[.slice (some ⟨g, 0, none⟩) us.length cg, .int .i64 t2, .bool th2] 28))
      replace b_u := b_u.alloc (.cells #[.int .i64 x, .int .i64 y] 39)
      have b_m := SP.B2.new ((w7).alloc (.cells #[.slice (some ⟨g, 0, none⟩) us.length cg, .int .i64 t2, .bool th2] 28)) (.int .i64 x) (.int .i64 y) 39 (k := ((w7).alloc (.cells #[.slice (some ⟨g, 0, none⟩) us.length cg, .int .i64 t2, .bool th2] 28)).heap.size) rfl
      replace B := B.alloc B.size (.cells #[.int .i64 x, .int .i64 y] 39)
      replace r_u : Hid _ := M4.IntsAt.below r_u.out ((Below.refl ((w7).alloc (.cells #[.slice (some ⟨g, 0, none⟩) us.length cg, .int .i64 t2, .bool th2] 28)).heap.size ((w7).alloc (.cells #[.slice (some ⟨g, 0, none⟩) us.length cg, .int .i64 t2, .bool th2] 28))).alloc (Nat.le_refl _) (.cells #[.int .i64 x, .int .i64 y] 39))
      go_wp2_with fail
      obtain ⟨q_u, hq_u⟩ : ∃ q, w7.heap.size = q := ⟨_, rfl⟩
      rw [hq_u] at b_u
      try rw [hq_u]
      obtain ⟨q_m, hq_m⟩ : ∃ q, q_u + 1 = q := ⟨_, rfl⟩
      rw [MA.sz_alloc, hq_u, hq_m] at b_m
      try rw [hq_m]
      generalize ((w7).alloc (.cells #[.slice (some ⟨g, 0, none⟩) us.length cg, .int .i64 t2, .bool th2] 28)).alloc (.cells #[.int .i64 x, .int .i64 y] 39) = w8 at *
      clear hq_m hq_u
      have r_u' : Hid (M4.IntsAt w8 (some ⟨g, 0, none⟩) us) := r_u
      clear r_u
      have r_u := r_u'
      clear r_u'
      refine Calls.mono (IM.out _ r_u.out) ?_
      rintro e w9 ⟨ax, qx, rfl, ho, hb⟩
      replace b_u := b_u.below hb b_u.lt
      replace b_m := b_m.below hb b_m.lt
      replace r_u : Hid (M4.IntsAt w9 (some ⟨g, 0, none⟩) us) := M4.IntsAt.below r_u.out hb
      replace B := B.trans (hb.mono B.size)
      clear hb
      have r_x : Hid (M4.IntsAt w9 ax L2) := M5.own_ints ho
      clear ho IM
      replace b_u := b_u.alloc (.cells #[.slice ax L2.length qx, .int .i64 T2, .bool H2] 28)
      replace b_m := b_m.alloc (.cells #[.slice ax L2.length qx, .int .i64 T2, .bool H2] 28)
      have b_x := SP.B3.new (w9) (.slice ax L2.length qx) (.int .i64 T2) (.bool H2) 28 (k := (w9).heap.size) rfl
      replace B := B.alloc B.size (.cells #[.slice ax L2.length qx, .int .i64 T2, .bool H2] 28)
      replace r_u : Hid _ := M4.IntsAt.below r_u.out ((Below.refl (w9).heap.size (w9)).alloc (Nat.le_refl _) (.cells #[.slice ax L2.length qx, .int .i64 T2, .bool H2] 28))
      replace r_x : Hid _ := M4.IntsAt.below r_x.out ((Below.refl (w9).heap.size (w9)).alloc (Nat.le_refl _) (.cells #[.slice ax L2.length qx, .int .i64 T2, .bool H2] 28))
      obtain ⟨c_u0, c_u1, c_u2⟩ := b_u.cells
      have l_u := b_u.lt
      obtain ⟨c_m0, c_m1⟩ := b_m.cells
      have l_m := b_m.lt
      go_wp2_with fail
      clear c_u0 c_u1 c_u2 l_u
      clear c_m0 c_m1 l_m
      obtain ⟨q_x, hq_x⟩ : ∃ q, w9.heap.size = q := ⟨_, rfl⟩
      rw [hq_x] at b_x
      try rw [hq_x]
      generalize (w9).alloc (.cells #[.slice ax L2.length qx, .int .i64 T2, .bool H2] 28) = w10 at *
      clear hq_x
      have r_u' : Hid (M4.IntsAt w10 (some ⟨g, 0, none⟩) us) := r_u
      clear r_u
      have r_u := r_u'
      clear r_u'
      have r_x' : Hid (M4.IntsAt w10 ax L2) := r_x
      clear r_x
      have r_x := r_x'
      clear r_x'
      refine Calls.mono (SM.out _ r_u.out) ?_
      rintro e w11 ⟨ay, qy, rfl, ho, hb⟩
      replace b_u := b_u.below hb b_u.lt
      replace b_m := b_m.below hb b_m.lt
      replace b_x := b_x.below hb b_x.lt
      replace r_u : Hid (M4.IntsAt w11 (some ⟨g, 0, none⟩) us) := M4.IntsAt.below r_u.out hb
      replace r_x : Hid (M4.IntsAt w11 ax L2) := M4.IntsAt.below r_x.out hb
      replace B := B.trans (hb.mono B.size)
      clear hb
      have r_y : Hid (M4.IntsAt w11 ay L2) := M5.own_ints ho
      clear ho SM
      replace b_u := b_u.alloc (.cells #[.slice ay L2.length qy, .int .i64 T2, .bool H2] 28)
      replace b_m := b_m.alloc (.cells #[.slice ay L2.length qy, .int .i64 T2, .bool H2] 28)
      replace b_x := b_x.alloc (.cells #[.slice ay L2.length qy, .int .i64 T2, .bool H2] 28)
      have b_y := SP.B3.new (w11) (.slice ay L2.length qy) (.int .i64 T2) (.bool H2) 28 (k := (w11).heap.size) rfl
      replace B := B.alloc B.size (.cells #[.slice ay L2.length qy, .int .i64 T2, .bool H2] 28)
      replace r_u : Hid _ := M4.IntsAt.below r_u.out ((Below.refl (w11).heap.size (w11)).alloc (Nat.le_refl _) (.cells #[.slice ay L2.length qy, .int .i64 T2, .bool H2] 28))
      replace r_x : Hid _ := M4.IntsAt.below r_x.out ((Below.refl (w11).heap.size (w11)).alloc (Nat.le_refl _) (.cells #[.slice ay L2.length qy, .int .i64 T2, .bool H2] 28))
      replace r_y : Hid _ := M4.IntsAt.below r_y.out ((Below.refl (w11).heap.size (w11)).alloc (Nat.le_refl _) (.cells #[.slice ay L2.length qy, .int .i64 T2, .bool H2] 28))
      go_wp2_with fail
      obtain ⟨q_y, hq_y⟩ : ∃ q, w11.heap.size = q := ⟨_, rfl⟩
      rw [hq_y] at b_y
      try rw [hq_y]
      generalize (w11).alloc (.cells #[.slice ay L2.length qy, .int .i64 T2, .bool H2] 28) = w12 at *
      clear hq_y
      have r_u' : Hid (M4.IntsAt w12 (some ⟨g, 0, none⟩) us) := r_u
      clear r_u
      have r_u := r_u'
      clear r_u'
      have r_x' : Hid (M4.IntsAt w12 ax L2) := r_x
      clear r_x
      have r_x := r_x'
      clear r_x'
      have r_y' : Hid (M4.IntsAt w12 ay L2) := r_y
      clear r_y
      have r_y := r_y'
      clear r_y'
      obtain ⟨c_u0, c_u1, c_u2⟩ := b_u.cells
      have l_u := b_u.lt
      obtain ⟨c_x0, c_x1, c_x2⟩ := b_x.cells
      have l_x := b_x.lt
      obtain ⟨c_y0, c_y1, c_y2⟩ := b_y.cells
      have l_y := b_y.lt
      refine MR.frame fun A hA => ?_
      have hsz : A.tmps.size = 222 := by rw [hA]; rfl
      have e20 : A.eval (.tmp 20) = .pointer (some ⟨q_u, 0, none⟩) := by rw [hA]; rfl
      have f20 := MR.read (t := 20) (by rw [hsz]; decide) e20
      have e22 : A.eval (.tmp 22) = .pointer (some ⟨q_x, 0, none⟩) := by rw [hA]; rfl
      have f22 := MR.read (t := 22) (by rw [hsz]; decide) e22
      have e24 : A.eval (.tmp 24) = .pointer (some ⟨q_y, 0, none⟩) := by rw [hA]; rfl
      have f24 := MR.read (t := 24) (by rw [hsz]; decide) e24
      have e23 : A.eval (.tmp 23) = .bool K2 := by rw [hA]; rfl
      have f23 := MR.read (t := 23) (by rw [hsz]; decide) e23
      have e25 : A.eval (.tmp 25) = .bool K2 := by rw [hA]; rfl
      have f25 := MR.read (t := 25) (by rw [hsz]; decide) e25
      have HA : Hid (A = _) := hA
      clear hA
      refine MR.cut (fun aa w' => aa = ((((((((((((((((A.put (some 150) (.bool K2)).put (some 151) (.bool K2)).put (some 152) (.bool false)).put (some 153) (.bool false)).put (some 154) (.agg #[.slice ax L2.length qx, .int .i64 T2, .bool H2])).put (some 155) (.agg #[.slice ay L2.length qy, .int .i64 T2, .bool H2])).put (some 156) (.bool true)).put (some 157) (.bool false)).put (some 158) (.bool false)).put (some 159) (.bool false)).put (some 160) (.agg #[.slice (some ⟨g, 0, none⟩) us.length cg, .int .i64 t2, .bool th2])).put (some 162) (.agg #[.slice (some ⟨g, 0, none⟩) us.length cg, .int .i64 t2, .bool th2])).put (some 161) (.bool G2)).put (some 163) (.bool G2)).put (some 164) (.bool false)).put (some 165) (.bool false)) ∧ Hid (Below w12.heap.size w12 w')) ?_ ?_
      · have hS : (fun w' : World => Below w12.heap.size w12 w') (World.drew _) := ((Below.refl _ w12).drew)
        refine wp_region_held (S := fun w' : World => Below w12.heap.size w12 w') (by kernel_rfl) ?_
        change wpAnyH _ _ _ _ _ _ _ _ (World.drew _)
        refine MR.takeH (i := 0) (some 150) (.bool K2) rfl rfl (by kernel_rfl) (by kernel_rfl) (by kernel_rfl) nofun hS (MR.free rfl) (fun wq hw => by simp [execOp, MR.ev, MR.size, hsz, e20, f20, e22, f22, e24, f24, e23, f23, e25, f25, go_sem]) ?_
        refine MR.takeH (i := 1) (some 151) (.bool K2) rfl rfl (by kernel_rfl) (by kernel_rfl) (by kernel_rfl) nofun hS (MR.free rfl) (fun wq hw => by simp [execOp, MR.ev, MR.size, hsz, e20, f20, e22, f22, e24, f24, e23, f23, e25, f25, go_sem]) ?_
        refine MR.takeH (i := 2) (some 152) (.bool false) rfl rfl (by kernel_rfl) (by kernel_rfl) (by kernel_rfl) nofun hS (MR.free rfl) (fun wq hw => by simp [execOp, MR.ev, MR.size, hsz, e20, f20, e22, f22, e24, f24, e23, f23, e25, f25, hK2, go_sem]) ?_
        refine MR.takeH (i := 3) (some 153) (.bool false) rfl rfl (by kernel_rfl) (by kernel_rfl) (by kernel_rfl) nofun hS (MR.free rfl) (fun wq hw => by simp [execOp, MR.ev, MR.size, hsz, e20, f20, e22, f22, e24, f24, e23, f23, e25, f25, go_sem]) ?_
        refine MR.takeH (i := 4) (some 154) (.agg #[.slice ax L2.length qx, .int .i64 T2, .bool H2]) rfl rfl (by kernel_rfl) (by kernel_rfl) (by kernel_rfl) nofun hS (MR.want (d := 153) rfl rfl (by simp [MR.size, hsz]) (by simp [MR.ev, MR.size, hsz, e20, f20, e22, f22, e24, f24, e23, f23, e25, f25])) (fun wq hw => by simp [execOp, MR.ev, MR.size, hsz, e20, f20, e22, f22, e24, f24, e23, f23, e25, f25, (hw.cell (p := ⟨q_x, 0, none⟩) l_x).trans c_x0, (hw.cell (p := ⟨q_x, 1, none⟩) l_x).trans c_x1, (hw.cell (p := ⟨q_x, 2, none⟩) l_x).trans c_x2, go_sem]) ?_
        refine MR.takeH (i := 5) (some 155) (.agg #[.slice ay L2.length qy, .int .i64 T2, .bool H2]) rfl rfl (by kernel_rfl) (by kernel_rfl) (by kernel_rfl) nofun hS (MR.want (d := 153) rfl rfl (by simp [MR.size, hsz]) (by simp [MR.ev, MR.size, hsz, e20, f20, e22, f22, e24, f24, e23, f23, e25, f25])) (fun wq hw => by simp [execOp, MR.ev, MR.size, hsz, e20, f20, e22, f22, e24, f24, e23, f23, e25, f25, (hw.cell (p := ⟨q_y, 0, none⟩) l_y).trans c_y0, (hw.cell (p := ⟨q_y, 1, none⟩) l_y).trans c_y1, (hw.cell (p := ⟨q_y, 2, none⟩) l_y).trans c_y2, go_sem]) ?_
        refine MR.callH (i := 6) (some 156) (7) (#[.agg #[.slice ax L2.length qx, .int .i64 T2, .bool H2], .agg #[.slice ay L2.length qy, .int .i64 T2, .bool H2]]) (by kernel_rfl) rfl rfl (MR.want (d := 153) rfl rfl (by simp [MR.size, hsz]) (by simp [MR.ev, MR.size, hsz, e20, f20, e22, f22, e24, f24, e23, f23, e25, f25])) (by simp [execOp, MR.ev, MR.size, hsz, e20, f20, e22, f22, e24, f24, e23, f23, e25, f25, go_sem]) ?_
        refine Calls.mono (SAM2.out ax ay qx qy _ (r_x.out.below hS) (r_y.out.below hS)) ?_
        rintro e z1 ⟨rfl, hb⟩
        have hSz1 : Below w12.heap.size w12 z1 := hS.trans (hb.mono hS.size)
        clear hb
        refine ⟨_, rfl, hSz1, ?_⟩
        refine MR.takeH (i := 7) (some 157) (.bool false) rfl rfl (by kernel_rfl) (by kernel_rfl) (by kernel_rfl) nofun hSz1 (MR.want (d := 153) rfl rfl (by simp [MR.size, hsz]) (by simp [MR.ev, MR.size, hsz, e20, f20, e22, f22, e24, f24, e23, f23, e25, f25])) (fun wq hw => by simp [execOp, MR.ev, MR.size, hsz, e20, f20, e22, f22, e24, f24, e23, f23, e25, f25, go_sem]) ?_
        refine MR.takeH (i := 8) (some 158) (.bool false) rfl rfl (by kernel_rfl) (by kernel_rfl) (by kernel_rfl) nofun hSz1 (MR.free rfl) (fun wq hw => by simp [execOp, MR.ev, MR.size, hsz, e20, f20, e22, f22, e24, f24, e23, f23, e25, f25, go_sem]) ?_
        refine MR.takeH (i := 9) (some 159) (.bool false) rfl rfl (by kernel_rfl) (by kernel_rfl) (by kernel_rfl) nofun hSz1 (MR.free rfl) (fun wq hw => by simp [execOp, MR.ev, MR.size, hsz, e20, f20, e22, f22, e24, f24, e23, f23, e25, f25, go_sem]) ?_
        refine MR.takeH (i := 10) (some 160) (.agg #[.slice (some ⟨g, 0, none⟩) us.length cg, .int .i64 t2, .bool th2]) rfl rfl (by kernel_rfl) (by kernel_rfl) (by kernel_rfl) nofun hSz1 (MR.want (d := 159) rfl rfl (by simp [MR.size, hsz]) (by simp [MR.ev, MR.size, hsz, e20, f20, e22, f22, e24, f24, e23, f23, e25, f25])) (fun wq hw => by simp [execOp, MR.ev, MR.size, hsz, e20, f20, e22, f22, e24, f24, e23, f23, e25, f25, (hw.cell (p := ⟨q_u, 0, none⟩) l_u).trans c_u0, (hw.cell (p := ⟨q_u, 1, none⟩) l_u).trans c_u1, (hw.cell (p := ⟨q_u, 2, none⟩) l_u).trans c_u2, go_sem]) ?_
        refine MR.takeH (i := 12) (some 162) (.agg #[.slice (some ⟨g, 0, none⟩) us.length cg, .int .i64 t2, .bool th2]) rfl rfl (by kernel_rfl) (by kernel_rfl) (by kernel_rfl) nofun hSz1 (MR.want (d := 159) rfl rfl (by simp [MR.size, hsz]) (by simp [MR.ev, MR.size, hsz, e20, f20, e22, f22, e24, f24, e23, f23, e25, f25])) (fun wq hw => by simp [execOp, MR.ev, MR.size, hsz, e20, f20, e22, f22, e24, f24, e23, f23, e25, f25, (hw.cell (p := ⟨q_u, 0, none⟩) l_u).trans c_u0, (hw.cell (p := ⟨q_u, 1, none⟩) l_u).trans c_u1, (hw.cell (p := ⟨q_u, 2, none⟩) l_u).trans c_u2, go_sem]) ?_
        refine MR.callH (i := 11) (some 161) (11) (#[.agg #[.slice (some ⟨g, 0, none⟩) us.length cg, .int .i64 t2, .bool th2]]) (by kernel_rfl) rfl rfl (MR.want (d := 159) rfl rfl (by simp [MR.size, hsz]) (by simp [MR.ev, MR.size, hsz, e20, f20, e22, f22, e24, f24, e23, f23, e25, f25])) (by simp [execOp, MR.ev, MR.size, hsz, e20, f20, e22, f22, e24, f24, e23, f23, e25, f25, go_sem]) ?_
        refine Calls.mono (GI.out _ (r_u.out.below hSz1)) ?_
        rintro e z2 ⟨rfl, hb⟩
        have hSz2 : Below w12.heap.size w12 z2 := hSz1.trans (hb.mono hSz1.size)
        clear hb
        refine ⟨_, rfl, hSz2, ?_⟩
        refine MR.callH (i := 13) (some 163) (15) (#[.agg #[.slice (some ⟨g, 0, none⟩) us.length cg, .int .i64 t2, .bool th2]]) (by kernel_rfl) rfl rfl (MR.want (d := 159) rfl rfl (by simp [MR.size, hsz]) (by simp [MR.ev, MR.size, hsz, e20, f20, e22, f22, e24, f24, e23, f23, e25, f25])) (by simp [execOp, MR.ev, MR.size, hsz, e20, f20, e22, f22, e24, f24, e23, f23, e25, f25, go_sem]) ?_
        refine Calls.mono (GS.out _ (r_u.out.below hSz2)) ?_
        rintro e z3 ⟨rfl, hb⟩
        have hSz3 : Below w12.heap.size w12 z3 := hSz2.trans (hb.mono hSz2.size)
        clear hb
        refine ⟨_, rfl, hSz3, ?_⟩
        refine MR.takeH (i := 14) (some 164) (.bool false) rfl rfl (by kernel_rfl) (by kernel_rfl) (by kernel_rfl) nofun hSz3 (MR.want (d := 159) rfl rfl (by simp [MR.size, hsz]) (by simp [MR.ev, MR.size, hsz, e20, f20, e22, f22, e24, f24, e23, f23, e25, f25])) (fun wq hw => by simp [execOp, MR.ev, MR.size, hsz, e20, f20, e22, f22, e24, f24, e23, f23, e25, f25, hG2, go_sem]) ?_
        refine MR.takeH (i := 15) (some 165) (.bool false) rfl rfl (by kernel_rfl) (by kernel_rfl) (by kernel_rfl) nofun hSz3 (MR.free rfl) (fun wq hw => by simp [execOp, MR.ev, MR.size, hsz, e20, f20, e22, f22, e24, f24, e23, f23, e25, f25, go_sem]) ?_
        exact wpAnyH_done (by kernel_rfl) ⟨rfl, rfl, hSz3⟩ _
      rintro aa w13 ⟨rfl, hb0⟩
      rw [HA.out]
      simp only [Act.put, List.setIfInBounds_toArray, List.set_cons_succ, List.set_cons_zero]
      clear HA hsz e20 f20 e22 f22 e24 f24 e23 f23 e25 f25
      clear c_u0 c_u1 c_u2 l_u
      clear c_x0 c_x1 c_x2 l_x
      clear c_y0 c_y1 c_y2 l_y
      have hb := hb0.out
      clear hb0 b_m b_y r_y SAM2 GI GS
      replace b_u := b_u.below hb b_u.lt
      replace b_x := b_x.below hb b_x.lt
      replace r_u : Hid (M4.IntsAt w13 (some ⟨g, 0, none⟩) us) := M4.IntsAt.below r_u.out hb
      replace r_x : Hid (M4.IntsAt w13 ax L2) := M4.IntsAt.below r_x.out hb
      replace B := B.trans (hb.mono B.size)
      clear hb
      cases K2 with
      | false =>
        have HB : Hid _ := B
        clear B HFM b_u b_x r_u r_x
        go_wp2
        go_ret
        exact ⟨rfl, HB.out⟩
      | true =>
        obtain ⟨hFM, hT2⟩ := HFM.out rfl
        subst hT2
        clear HFM
        have hgu := hFM.g1
        have hgx := hFM.g2
        have TK_u : Hid (∀ W : World, M4.IntsAt W (some ⟨g, 0, none⟩) us → Calls Try.prog 8 #[.agg #[.slice (some ⟨g, 0, none⟩) us.length cg, .int .i64 T2, .bool th2]] W fun e w' => e = .returned (.tuple #[.int .i64 (SP.sm us us.length), .bool true]) ∧ Below W.heap.size W w') := fun W h => by have := implTokens_any (some ⟨g, 0, none⟩) cg us T2 th2 W h (by omega); rwa [if_pos hgu, hgu] at this
        have CA_u : Hid (∀ W : World, M4.IntsAt W (some ⟨g, 0, none⟩) us → Calls Try.prog 9 #[.agg #[.slice (some ⟨g, 0, none⟩) us.length cg, .int .i64 T2, .bool th2]] W fun e w' => ∃ b c, e = .returned (.tuple #[.slice b (SP.cr us us.length).length c, .bool true]) ∧ w'.ownsRow W.heap.size 3 1 (.slice b (SP.cr us us.length).length c) (SP.cr us us.length).length (M4.iv (SP.cr us us.length)) ∧ Below W.heap.size W w') := fun W h => by have := implCarriers_any (some ⟨g, 0, none⟩) cg us T2 th2 W h (by omega); rwa [if_pos hgu, hgu] at this
        have TK_x : Hid (∀ W : World, M4.IntsAt W ax L2 → Calls Try.prog 8 #[.agg #[.slice ax L2.length qx, .int .i64 T2, .bool H2]] W fun e w' => e = .returned (.tuple #[.int .i64 (SP.sm L2 L2.length), .bool true]) ∧ Below W.heap.size W w') := fun W h => by have := implTokens_any ax qx L2 T2 H2 W h (by omega); rwa [if_pos hgx, hgx] at this
        have CA_x : Hid (∀ W : World, M4.IntsAt W ax L2 → Calls Try.prog 9 #[.agg #[.slice ax L2.length qx, .int .i64 T2, .bool H2]] W fun e w' => ∃ b c, e = .returned (.tuple #[.slice b (SP.cr L2 L2.length).length c, .bool true]) ∧ w'.ownsRow W.heap.size 3 1 (.slice b (SP.cr L2 L2.length).length c) (SP.cr L2 L2.length).length (M4.iv (SP.cr L2 L2.length)) ∧ Below W.heap.size W w') := fun W h => by have := implCarriers_any ax qx L2 T2 H2 W h (by omega); rwa [if_pos hgx, hgx] at this
        have hsm : (SP.sm us us.length != SP.sm L2 L2.length) = false := by rw [hFM.sm]; simp
        have hmm := hFM.many
        have hth := hFM.th
        clear hFM hgu hgx HG2
        generalize SP.sm us us.length = sm_us at *
        generalize SP.cr us us.length = cr_us at *
        generalize SP.sm L2 L2.length = sm_L2 at *
        generalize SP.cr L2 L2.length = cr_L2 at *
        obtain ⟨c_u0, c_u1, c_u2⟩ := b_u.cells
        have l_u := b_u.lt
        go_wp2_with fail
        refine Calls.mono (TK_u.out _ r_u.out) ?_
        rintro e w14 ⟨rfl, hb⟩
        clear c_u0 c_u1 c_u2 l_u
        replace b_u := b_u.below hb b_u.lt
        replace b_x := b_x.below hb b_x.lt
        replace r_u : Hid (M4.IntsAt w14 (some ⟨g, 0, none⟩) us) := M4.IntsAt.below r_u.out hb
        replace r_x : Hid (M4.IntsAt w14 ax L2) := M4.IntsAt.below r_x.out hb
        replace B := B.trans (hb.mono B.size)
        clear hb
        clear TK_u
        obtain ⟨c_x0, c_x1, c_x2⟩ := b_x.cells
        have l_x := b_x.lt
        go_wp2_with fail
        refine Calls.mono (TK_x.out _ r_x.out) ?_
        rintro e w15 ⟨rfl, hb⟩
        clear c_x0 c_x1 c_x2 l_x
        replace b_u := b_u.below hb b_u.lt
        replace b_x := b_x.below hb b_x.lt
        replace r_u : Hid (M4.IntsAt w15 (some ⟨g, 0, none⟩) us) := M4.IntsAt.below r_u.out hb
        replace r_x : Hid (M4.IntsAt w15 ax L2) := M4.IntsAt.below r_x.out hb
        replace B := B.trans (hb.mono B.size)
        clear hb
        clear TK_x
        obtain ⟨c_u0, c_u1, c_u2⟩ := b_u.cells
        have l_u := b_u.lt
        go_wp2_with fail
        refine Calls.mono (CA_u.out _ r_u.out) ?_
        rintro e w16 ⟨k_u, kc_u, rfl, ho, hb⟩
        clear c_u0 c_u1 c_u2 l_u
        replace b_u := b_u.below hb b_u.lt
        replace b_x := b_x.below hb b_x.lt
        replace r_u : Hid (M4.IntsAt w16 (some ⟨g, 0, none⟩) us) := M4.IntsAt.below r_u.out hb
        replace r_x : Hid (M4.IntsAt w16 ax L2) := M4.IntsAt.below r_x.out hb
        replace B := B.trans (hb.mono B.size)
        clear hb
        clear CA_u ho
        obtain ⟨c_x0, c_x1, c_x2⟩ := b_x.cells
        have l_x := b_x.lt
        go_wp2_with fail
        refine Calls.mono (CA_x.out _ r_x.out) ?_
        rintro e w17 ⟨k_x, kc_x, rfl, ho, hb⟩
        clear c_x0 c_x1 c_x2 l_x
        replace b_u := b_u.below hb b_u.lt
        replace b_x := b_x.below hb b_x.lt
        replace r_u : Hid (M4.IntsAt w17 (some ⟨g, 0, none⟩) us) := M4.IntsAt.below r_u.out hb
        replace r_x : Hid (M4.IntsAt w17 ax L2) := M4.IntsAt.below r_x.out hb
        replace B := B.trans (hb.mono B.size)
        clear hb
        clear CA_x ho
        obtain ⟨c_u0, c_u1, c_u2⟩ := b_u.cells
        have l_u := b_u.lt
        obtain ⟨c_x0, c_x1, c_x2⟩ := b_x.cells
        have l_x := b_x.lt
        have HB : Hid _ := B
        clear B b_u b_x r_u r_x
        skip
        cases th2
        all_goals cases H2
        all_goals first | (exfalso; revert hth; decide) | skip
        all_goals
          go_wp2
          go_ret
          exact ⟨rfl, HB.out⟩
    | true =>
      have hFB := HF.out rfl
      have htt := hFB.tt
      subst htt
      have hgs := hFB.good
      have TK_s : Hid (∀ W : World, M4.IntsAt W a2 L → Calls Try.prog 8 #[.agg #[.slice a2 L.length q2, .int .i64 T, .bool H]] W fun e w' => e = .returned (.tuple #[.int .i64 (SP.sm L L.length), .bool true]) ∧ Below W.heap.size W w') := fun W h => by have := implTokens_any a2 q2 L T H W h (by omega); rwa [if_pos hgs, hgs] at this
      have CA_s : Hid (∀ W : World, M4.IntsAt W a2 L → Calls Try.prog 9 #[.agg #[.slice a2 L.length q2, .int .i64 T, .bool H]] W fun e w' => ∃ b c, e = .returned (.tuple #[.slice b (SP.cr L L.length).length c, .bool true]) ∧ w'.ownsRow W.heap.size 3 1 (.slice b (SP.cr L L.length).length c) (SP.cr L L.length).length (M4.iv (SP.cr L L.length)) ∧ Below W.heap.size W w') := fun W h => by have := implCarriers_any a2 q2 L T H W h (by omega); rwa [if_pos hgs, hgs] at this
      have GSs : Hid (∀ W : World, M4.IntsAt W a2 L → Calls Try.prog 11 #[.agg #[.slice a2 L.length q2, .int .i64 T, .bool H]] W fun e w' => e = .returned (.bool true) ∧ Below W.heap.size W w') := fun W h => by have := implGoodSpray_any a2 q2 L T H W h (by omega); rwa [hgs] at this
      have h_sm := hFB.sm
      have h_many := hFB.many
      have h_th := hFB.th
      have HASL : Hid (∀ (k : Option Addr) (kc : Nat) (z : Int) (W : World), M4.IntsAt W k (SP.cr L L.length) → Calls Try.prog 10 #[.slice k (SP.cr L L.length).length kc, .int .i64 z] W fun e w' => e = .returned (.bool (EG.hasB (SP.cr L L.length) z)) ∧ W = w') := fun k kc z W h => hasL_any k kc _ z W (by have := SP.cr_len L L.length; omega) h
      have h_to := hFB.to
      have h_fr := hFB.fr
      clear hFB HF hgs
      generalize SP.sm L L.length = sm_s at *
      generalize SP.cr L L.length = cr_s at *
      obtain ⟨c_s0, c_s1, c_s2⟩ := b_s.cells
      have l_s := b_s.lt
      go_wp2_with fail
      refine Calls.mono (TK_s.out _ r_s.out) ?_
      rintro e w7 ⟨rfl, hb⟩
      clear c_s0 c_s1 c_s2 l_s
      replace b_s := b_s.below hb b_s.lt
      replace r_s : Hid (M4.IntsAt w7 a2 L) := M4.IntsAt.below r_s.out hb
      replace B := B.trans (hb.mono B.size)
      clear hb
      clear TK_s
      obtain ⟨c_s0, c_s1, c_s2⟩ := b_s.cells
      have l_s := b_s.lt
      go_wp2_with fail
      refine Calls.mono (CA_s.out _ r_s.out) ?_
      rintro e w8 ⟨k_s, kc_s, rfl, ho, hb⟩
      clear c_s0 c_s1 c_s2 l_s
      replace b_s := b_s.below hb b_s.lt
      replace r_s : Hid (M4.IntsAt w8 a2 L) := M4.IntsAt.below r_s.out hb
      replace B := B.trans (hb.mono B.size)
      clear hb
      clear CA_s
      have r_k : Hid (M4.IntsAt w8 k_s cr_s) := M5.own_ints ho
      clear ho
      obtain ⟨c_s0, c_s1, c_s2⟩ := b_s.cells
      have l_s := b_s.lt
      go_wp2_with fail
      refine Calls.mono (HASL.out k_s kc_s T _ r_k.out) ?_
      rintro e w9z ⟨rfl, rfl⟩
      rw [h_to]
      go_wp2_with fail
      refine Calls.mono (HASL.out k_s kc_s f _ r_k.out) ?_
      rintro e w9z ⟨rfl, rfl⟩
      rw [h_fr]
      clear HASL h_to h_fr
      cases H
      all_goals cases hMp : decide (0 < M)
      all_goals first | (exfalso; rw [hMp] at h_th; revert h_th; decide) | skip
      all_goals
        go_wp2_with fail
        refine Calls.mono (GSs.out _ r_s.out) ?_
        rintro e w9 ⟨rfl, hb⟩
        clear c_s0 c_s1 c_s2 l_s
        replace b_s := b_s.below hb b_s.lt
        replace r_s : Hid (M4.IntsAt w9 a2 L) := M4.IntsAt.below r_s.out hb
        replace r_k : Hid (M4.IntsAt w9 k_s cr_s) := M4.IntsAt.below r_k.out hb
        replace B := B.trans (hb.mono B.size)
        clear hb
        clear GSs hMp
        go_wp2_with fail
        refine Calls.mono (drawMeet_any b ys cb _ hy (HBY.out _ B)) ?_
        rintro e w10 ⟨g, cg, us, t2, x, y, th2, rfl, hl2, own, hb⟩
        replace b_s := b_s.below hb b_s.lt
        replace r_s : Hid (M4.IntsAt w10 a2 L) := M4.IntsAt.below r_s.out hb
        replace r_k : Hid (M4.IntsAt w10 k_s cr_s) := M4.IntsAt.below r_k.out hb
        replace B := B.trans (hb.mono B.size)
        clear hb
        clear b_s
        clear r_s
        clear r_k
        have r_u : Hid (M4.IntsAt w10 (some ⟨g, 0, none⟩) us) := M5.own_ints own
        clear own
        have IM : Hid (∀ W : World, M4.IntsAt W (some ⟨g, 0, none⟩) us → Calls Try.prog 13 #[.agg #[.slice (some ⟨g, 0, none⟩) us.length cg, .int .i64 t2, .bool th2], .agg #[.int .i64 x, .int .i64 y]] W fun e w' => ∃ a cap, e = .returned (.tuple #[.agg #[.slice a (SP.mL us t2 th2 x y).length cap, .int .i64 (SP.mT us t2 x y), .bool (SP.mH us t2 th2 x y)], .bool (SP.mk us t2 x y)]) ∧ w'.ownsRow W.heap.size 3 1 (.slice a (SP.mL us t2 th2 x y).length cap) (SP.mL us t2 th2 x y).length (M4.iv (SP.mL us t2 th2 x y)) ∧ Below W.heap.size W w') := fun W h => implMeet_any g cg us t2 x y th2 W h (by omega)
        have SM : Hid (∀ W : World, M4.IntsAt W (some ⟨g, 0, none⟩) us → Calls Try.prog 14 #[.agg #[.slice (some ⟨g, 0, none⟩) us.length cg, .int .i64 t2, .bool th2], .agg #[.int .i64 x, .int .i64 y]] W fun e w' => ∃ a cap, e = .returned (.tuple #[.agg #[.slice a (SP.mL us t2 th2 x y).length cap, .int .i64 (SP.mT us t2 x y), .bool (SP.mH us t2 th2 x y)], .bool (SP.mk us t2 x y)]) ∧ w'.ownsRow W.heap.size 3 1 (.slice a (SP.mL us t2 th2 x y).length cap) (SP.mL us t2 th2 x y).length (M4.iv (SP.mL us t2 th2 x y)) ∧ Below W.heap.size W w') := fun W h => specMeet_any g cg us t2 x y th2 W h (by omega)
        have GI : Hid (∀ W : World, M4.IntsAt W (some ⟨g, 0, none⟩) us → Calls Try.prog 11 #[.agg #[.slice (some ⟨g, 0, none⟩) us.length cg, .int .i64 t2, .bool th2]] W fun e w' => e = .returned (.bool (SP.good us t2)) ∧ Below W.heap.size W w') := fun W h => implGoodSpray_any _ cg us t2 th2 W h (by omega)
        have GS : Hid (∀ W : World, M4.IntsAt W (some ⟨g, 0, none⟩) us → Calls Try.prog 15 #[.agg #[.slice (some ⟨g, 0, none⟩) us.length cg, .int .i64 t2, .bool th2]] W fun e w' => e = .returned (.bool (SP.good us t2)) ∧ Below W.heap.size W w') := fun W h => specGoodSpray_any _ cg us t2 th2 W h (by omega)
        have HFM : Hid (SP.mk us t2 x y = true → SP.FM us (SP.mL us t2 th2 x y) th2 (SP.mH us t2 th2 x y) t2 ∧ SP.mT us t2 x y = t2) := fun h => SP.fm_of h
        have hL2 : (SP.mL us t2 th2 x y).length ≤ 8 := by
          unfold SP.mL
          split
          · rw [SP.meetS_len]; exact hl2.2
          · simp
        generalize SP.mL us t2 th2 x y = L2 at *
        generalize SP.mT us t2 x y = T2 at *
        generalize SP.mH us t2 th2 x y = H2 at *
        generalize SP.mk us t2 x y = K2 at *
        generalize hG2e : SP.good us t2 = G2 at *
        have HG2 : Hid _ := hG2e
        clear hG2e
        have SAM2 : Hid (∀ (a b : Option Addr) (ca cb : Nat) (W : World), M4.IntsAt W a L2 → M4.IntsAt W b L2 → Calls Try.prog 7 #[.agg #[.slice a L2.length ca, .int .i64 T2, .bool H2], .agg #[.slice b L2.length cb, .int .i64 T2, .bool H2]] W fun e w' => e = .returned (.bool true) ∧ Below W.heap.size W w') := fun a b ca cb W h1 h2 => sameSprays_any a b ca cb L2 T2 H2 W (by omega) h1 h2
        have hK2 : (K2 == K2) = true := by simp
        have hG2 : (G2 == G2) = true := by simp
        have b_u := SP.B3.new (w10) (.slice (some ⟨g, 0, none⟩) us.length cg) (.int .i64 t2) (.bool th2) 28 (k := (w10).heap.size) rfl
        replace B := B.alloc B.size (.cells #[.slice (some ⟨g, 0, none⟩) us.length cg, .int .i64 t2, .bool th2] 28)
        replace r_u : Hid _ := M4.IntsAt.below r_u.out ((Below.refl (w10).heap.size (w10)).alloc (Nat.le_refl _) (.cells #[.slice (some ⟨g, 0, none⟩) us.length cg, .int .i64 t2, .bool th2] 28))
        replace b_u := b_u.alloc (.cells #[.int .i64 x, .int .i64 y] 39)
        have b_m := SP.B2.new ((w10).alloc (.cells #[.slice (some ⟨g, 0, none⟩) us.length cg, .int .i64 t2, .bool th2] 28)) (.int .i64 x) (.int .i64 y) 39 (k := ((w10).alloc (.cells #[.slice (some ⟨g, 0, none⟩) us.length cg, .int .i64 t2, .bool th2] 28)).heap.size) rfl
        replace B := B.alloc B.size (.cells #[.int .i64 x, .int .i64 y] 39)
        replace r_u : Hid _ := M4.IntsAt.below r_u.out ((Below.refl ((w10).alloc (.cells #[.slice (some ⟨g, 0, none⟩) us.length cg, .int .i64 t2, .bool th2] 28)).heap.size ((w10).alloc (.cells #[.slice (some ⟨g, 0, none⟩) us.length cg, .int .i64 t2, .bool th2] 28))).alloc (Nat.le_refl _) (.cells #[.int .i64 x, .int .i64 y] 39))
        go_wp2_with fail
        obtain ⟨q_u, hq_u⟩ : ∃ q, w10.heap.size = q := ⟨_, rfl⟩
        rw [hq_u] at b_u
        try rw [hq_u]
        obtain ⟨q_m, hq_m⟩ : ∃ q, q_u + 1 = q := ⟨_, rfl⟩
        rw [MA.sz_alloc, hq_u, hq_m] at b_m
        try rw [hq_m]
        generalize ((w10).alloc (.cells #[.slice (some ⟨g, 0, none⟩) us.length cg, .int .i64 t2, .bool th2] 28)).alloc (.cells #[.int .i64 x, .int .i64 y] 39) = w11 at *
        clear hq_m hq_u
        have r_u' : Hid (M4.IntsAt w11 (some ⟨g, 0, none⟩) us) := r_u
        clear r_u
        have r_u := r_u'
        clear r_u'
        refine Calls.mono (IM.out _ r_u.out) ?_
        rintro e w12 ⟨ax, qx, rfl, ho, hb⟩
        replace b_u := b_u.below hb b_u.lt
        replace b_m := b_m.below hb b_m.lt
        replace r_u : Hid (M4.IntsAt w12 (some ⟨g, 0, none⟩) us) := M4.IntsAt.below r_u.out hb
        replace B := B.trans (hb.mono B.size)
        clear hb
        have r_x : Hid (M4.IntsAt w12 ax L2) := M5.own_ints ho
        clear ho IM
        replace b_u := b_u.alloc (.cells #[.slice ax L2.length qx, .int .i64 T2, .bool H2] 28)
        replace b_m := b_m.alloc (.cells #[.slice ax L2.length qx, .int .i64 T2, .bool H2] 28)
        have b_x := SP.B3.new (w12) (.slice ax L2.length qx) (.int .i64 T2) (.bool H2) 28 (k := (w12).heap.size) rfl
        replace B := B.alloc B.size (.cells #[.slice ax L2.length qx, .int .i64 T2, .bool H2] 28)
        replace r_u : Hid _ := M4.IntsAt.below r_u.out ((Below.refl (w12).heap.size (w12)).alloc (Nat.le_refl _) (.cells #[.slice ax L2.length qx, .int .i64 T2, .bool H2] 28))
        replace r_x : Hid _ := M4.IntsAt.below r_x.out ((Below.refl (w12).heap.size (w12)).alloc (Nat.le_refl _) (.cells #[.slice ax L2.length qx, .int .i64 T2, .bool H2] 28))
        obtain ⟨c_u0, c_u1, c_u2⟩ := b_u.cells
        have l_u := b_u.lt
        obtain ⟨c_m0, c_m1⟩ := b_m.cells
        have l_m := b_m.lt
        go_wp2_with fail
        clear c_u0 c_u1 c_u2 l_u
        clear c_m0 c_m1 l_m
        obtain ⟨q_x, hq_x⟩ : ∃ q, w12.heap.size = q := ⟨_, rfl⟩
        rw [hq_x] at b_x
        try rw [hq_x]
        generalize (w12).alloc (.cells #[.slice ax L2.length qx, .int .i64 T2, .bool H2] 28) = w13 at *
        clear hq_x
        have r_u' : Hid (M4.IntsAt w13 (some ⟨g, 0, none⟩) us) := r_u
        clear r_u
        have r_u := r_u'
        clear r_u'
        have r_x' : Hid (M4.IntsAt w13 ax L2) := r_x
        clear r_x
        have r_x := r_x'
        clear r_x'
        refine Calls.mono (SM.out _ r_u.out) ?_
        rintro e w14 ⟨ay, qy, rfl, ho, hb⟩
        replace b_u := b_u.below hb b_u.lt
        replace b_m := b_m.below hb b_m.lt
        replace b_x := b_x.below hb b_x.lt
        replace r_u : Hid (M4.IntsAt w14 (some ⟨g, 0, none⟩) us) := M4.IntsAt.below r_u.out hb
        replace r_x : Hid (M4.IntsAt w14 ax L2) := M4.IntsAt.below r_x.out hb
        replace B := B.trans (hb.mono B.size)
        clear hb
        have r_y : Hid (M4.IntsAt w14 ay L2) := M5.own_ints ho
        clear ho SM
        replace b_u := b_u.alloc (.cells #[.slice ay L2.length qy, .int .i64 T2, .bool H2] 28)
        replace b_m := b_m.alloc (.cells #[.slice ay L2.length qy, .int .i64 T2, .bool H2] 28)
        replace b_x := b_x.alloc (.cells #[.slice ay L2.length qy, .int .i64 T2, .bool H2] 28)
        have b_y := SP.B3.new (w14) (.slice ay L2.length qy) (.int .i64 T2) (.bool H2) 28 (k := (w14).heap.size) rfl
        replace B := B.alloc B.size (.cells #[.slice ay L2.length qy, .int .i64 T2, .bool H2] 28)
        replace r_u : Hid _ := M4.IntsAt.below r_u.out ((Below.refl (w14).heap.size (w14)).alloc (Nat.le_refl _) (.cells #[.slice ay L2.length qy, .int .i64 T2, .bool H2] 28))
        replace r_x : Hid _ := M4.IntsAt.below r_x.out ((Below.refl (w14).heap.size (w14)).alloc (Nat.le_refl _) (.cells #[.slice ay L2.length qy, .int .i64 T2, .bool H2] 28))
        replace r_y : Hid _ := M4.IntsAt.below r_y.out ((Below.refl (w14).heap.size (w14)).alloc (Nat.le_refl _) (.cells #[.slice ay L2.length qy, .int .i64 T2, .bool H2] 28))
        go_wp2_with fail
        obtain ⟨q_y, hq_y⟩ : ∃ q, w14.heap.size = q := ⟨_, rfl⟩
        rw [hq_y] at b_y
        try rw [hq_y]
        generalize (w14).alloc (.cells #[.slice ay L2.length qy, .int .i64 T2, .bool H2] 28) = w15 at *
        clear hq_y
        have r_u' : Hid (M4.IntsAt w15 (some ⟨g, 0, none⟩) us) := r_u
        clear r_u
        have r_u := r_u'
        clear r_u'
        have r_x' : Hid (M4.IntsAt w15 ax L2) := r_x
        clear r_x
        have r_x := r_x'
        clear r_x'
        have r_y' : Hid (M4.IntsAt w15 ay L2) := r_y
        clear r_y
        have r_y := r_y'
        clear r_y'
        obtain ⟨c_u0, c_u1, c_u2⟩ := b_u.cells
        have l_u := b_u.lt
        obtain ⟨c_x0, c_x1, c_x2⟩ := b_x.cells
        have l_x := b_x.lt
        obtain ⟨c_y0, c_y1, c_y2⟩ := b_y.cells
        have l_y := b_y.lt
        refine MR.frame fun A hA => ?_
        have hsz : A.tmps.size = 222 := by rw [hA]; rfl
        have e20 : A.eval (.tmp 20) = .pointer (some ⟨q_u, 0, none⟩) := by rw [hA]; rfl
        have f20 := MR.read (t := 20) (by rw [hsz]; decide) e20
        have e22 : A.eval (.tmp 22) = .pointer (some ⟨q_x, 0, none⟩) := by rw [hA]; rfl
        have f22 := MR.read (t := 22) (by rw [hsz]; decide) e22
        have e24 : A.eval (.tmp 24) = .pointer (some ⟨q_y, 0, none⟩) := by rw [hA]; rfl
        have f24 := MR.read (t := 24) (by rw [hsz]; decide) e24
        have e23 : A.eval (.tmp 23) = .bool K2 := by rw [hA]; rfl
        have f23 := MR.read (t := 23) (by rw [hsz]; decide) e23
        have e25 : A.eval (.tmp 25) = .bool K2 := by rw [hA]; rfl
        have f25 := MR.read (t := 25) (by rw [hsz]; decide) e25
        have HA : Hid (A = _) := hA
        clear hA
        refine MR.cut (fun aa w' => aa = ((((((((((((((((A.put (some 150) (.bool K2)).put (some 151) (.bool K2)).put (some 152) (.bool false)).put (some 153) (.bool false)).put (some 154) (.agg #[.slice ax L2.length qx, .int .i64 T2, .bool H2])).put (some 155) (.agg #[.slice ay L2.length qy, .int .i64 T2, .bool H2])).put (some 156) (.bool true)).put (some 157) (.bool false)).put (some 158) (.bool false)).put (some 159) (.bool false)).put (some 160) (.agg #[.slice (some ⟨g, 0, none⟩) us.length cg, .int .i64 t2, .bool th2])).put (some 162) (.agg #[.slice (some ⟨g, 0, none⟩) us.length cg, .int .i64 t2, .bool th2])).put (some 161) (.bool G2)).put (some 163) (.bool G2)).put (some 164) (.bool false)).put (some 165) (.bool false)) ∧ Hid (Below w15.heap.size w15 w')) ?_ ?_
        · have hS : (fun w' : World => Below w15.heap.size w15 w') (World.drew _) := ((Below.refl _ w15).drew)
          refine wp_region_held (S := fun w' : World => Below w15.heap.size w15 w') (by kernel_rfl) ?_
          change wpAnyH _ _ _ _ _ _ _ _ (World.drew _)
          refine MR.takeH (i := 0) (some 150) (.bool K2) rfl rfl (by kernel_rfl) (by kernel_rfl) (by kernel_rfl) nofun hS (MR.free rfl) (fun wq hw => by simp [execOp, MR.ev, MR.size, hsz, e20, f20, e22, f22, e24, f24, e23, f23, e25, f25, go_sem]) ?_
          refine MR.takeH (i := 1) (some 151) (.bool K2) rfl rfl (by kernel_rfl) (by kernel_rfl) (by kernel_rfl) nofun hS (MR.free rfl) (fun wq hw => by simp [execOp, MR.ev, MR.size, hsz, e20, f20, e22, f22, e24, f24, e23, f23, e25, f25, go_sem]) ?_
          refine MR.takeH (i := 2) (some 152) (.bool false) rfl rfl (by kernel_rfl) (by kernel_rfl) (by kernel_rfl) nofun hS (MR.free rfl) (fun wq hw => by simp [execOp, MR.ev, MR.size, hsz, e20, f20, e22, f22, e24, f24, e23, f23, e25, f25, hK2, go_sem]) ?_
          refine MR.takeH (i := 3) (some 153) (.bool false) rfl rfl (by kernel_rfl) (by kernel_rfl) (by kernel_rfl) nofun hS (MR.free rfl) (fun wq hw => by simp [execOp, MR.ev, MR.size, hsz, e20, f20, e22, f22, e24, f24, e23, f23, e25, f25, go_sem]) ?_
          refine MR.takeH (i := 4) (some 154) (.agg #[.slice ax L2.length qx, .int .i64 T2, .bool H2]) rfl rfl (by kernel_rfl) (by kernel_rfl) (by kernel_rfl) nofun hS (MR.want (d := 153) rfl rfl (by simp [MR.size, hsz]) (by simp [MR.ev, MR.size, hsz, e20, f20, e22, f22, e24, f24, e23, f23, e25, f25])) (fun wq hw => by simp [execOp, MR.ev, MR.size, hsz, e20, f20, e22, f22, e24, f24, e23, f23, e25, f25, (hw.cell (p := ⟨q_x, 0, none⟩) l_x).trans c_x0, (hw.cell (p := ⟨q_x, 1, none⟩) l_x).trans c_x1, (hw.cell (p := ⟨q_x, 2, none⟩) l_x).trans c_x2, go_sem]) ?_
          refine MR.takeH (i := 5) (some 155) (.agg #[.slice ay L2.length qy, .int .i64 T2, .bool H2]) rfl rfl (by kernel_rfl) (by kernel_rfl) (by kernel_rfl) nofun hS (MR.want (d := 153) rfl rfl (by simp [MR.size, hsz]) (by simp [MR.ev, MR.size, hsz, e20, f20, e22, f22, e24, f24, e23, f23, e25, f25])) (fun wq hw => by simp [execOp, MR.ev, MR.size, hsz, e20, f20, e22, f22, e24, f24, e23, f23, e25, f25, (hw.cell (p := ⟨q_y, 0, none⟩) l_y).trans c_y0, (hw.cell (p := ⟨q_y, 1, none⟩) l_y).trans c_y1, (hw.cell (p := ⟨q_y, 2, none⟩) l_y).trans c_y2, go_sem]) ?_
          refine MR.callH (i := 6) (some 156) (7) (#[.agg #[.slice ax L2.length qx, .int .i64 T2, .bool H2], .agg #[.slice ay L2.length qy, .int .i64 T2, .bool H2]]) (by kernel_rfl) rfl rfl (MR.want (d := 153) rfl rfl (by simp [MR.size, hsz]) (by simp [MR.ev, MR.size, hsz, e20, f20, e22, f22, e24, f24, e23, f23, e25, f25])) (by simp [execOp, MR.ev, MR.size, hsz, e20, f20, e22, f22, e24, f24, e23, f23, e25, f25, go_sem]) ?_
          refine Calls.mono (SAM2.out ax ay qx qy _ (r_x.out.below hS) (r_y.out.below hS)) ?_
          rintro e z1 ⟨rfl, hb⟩
          have hSz1 : Below w15.heap.size w15 z1 := hS.trans (hb.mono hS.size)
          clear hb
          refine ⟨_, rfl, hSz1, ?_⟩
          refine MR.takeH (i := 7) (some 157) (.bool false) rfl rfl (by kernel_rfl) (by kernel_rfl) (by kernel_rfl) nofun hSz1 (MR.want (d := 153) rfl rfl (by simp [MR.size, hsz]) (by simp [MR.ev, MR.size, hsz, e20, f20, e22, f22, e24, f24, e23, f23, e25, f25])) (fun wq hw => by simp [execOp, MR.ev, MR.size, hsz, e20, f20, e22, f22, e24, f24, e23, f23, e25, f25, go_sem]) ?_
          refine MR.takeH (i := 8) (some 158) (.bool false) rfl rfl (by kernel_rfl) (by kernel_rfl) (by kernel_rfl) nofun hSz1 (MR.free rfl) (fun wq hw => by simp [execOp, MR.ev, MR.size, hsz, e20, f20, e22, f22, e24, f24, e23, f23, e25, f25, go_sem]) ?_
          refine MR.takeH (i := 9) (some 159) (.bool false) rfl rfl (by kernel_rfl) (by kernel_rfl) (by kernel_rfl) nofun hSz1 (MR.free rfl) (fun wq hw => by simp [execOp, MR.ev, MR.size, hsz, e20, f20, e22, f22, e24, f24, e23, f23, e25, f25, go_sem]) ?_
          refine MR.takeH (i := 10) (some 160) (.agg #[.slice (some ⟨g, 0, none⟩) us.length cg, .int .i64 t2, .bool th2]) rfl rfl (by kernel_rfl) (by kernel_rfl) (by kernel_rfl) nofun hSz1 (MR.want (d := 159) rfl rfl (by simp [MR.size, hsz]) (by simp [MR.ev, MR.size, hsz, e20, f20, e22, f22, e24, f24, e23, f23, e25, f25])) (fun wq hw => by simp [execOp, MR.ev, MR.size, hsz, e20, f20, e22, f22, e24, f24, e23, f23, e25, f25, (hw.cell (p := ⟨q_u, 0, none⟩) l_u).trans c_u0, (hw.cell (p := ⟨q_u, 1, none⟩) l_u).trans c_u1, (hw.cell (p := ⟨q_u, 2, none⟩) l_u).trans c_u2, go_sem]) ?_
          refine MR.takeH (i := 12) (some 162) (.agg #[.slice (some ⟨g, 0, none⟩) us.length cg, .int .i64 t2, .bool th2]) rfl rfl (by kernel_rfl) (by kernel_rfl) (by kernel_rfl) nofun hSz1 (MR.want (d := 159) rfl rfl (by simp [MR.size, hsz]) (by simp [MR.ev, MR.size, hsz, e20, f20, e22, f22, e24, f24, e23, f23, e25, f25])) (fun wq hw => by simp [execOp, MR.ev, MR.size, hsz, e20, f20, e22, f22, e24, f24, e23, f23, e25, f25, (hw.cell (p := ⟨q_u, 0, none⟩) l_u).trans c_u0, (hw.cell (p := ⟨q_u, 1, none⟩) l_u).trans c_u1, (hw.cell (p := ⟨q_u, 2, none⟩) l_u).trans c_u2, go_sem]) ?_
          refine MR.callH (i := 11) (some 161) (11) (#[.agg #[.slice (some ⟨g, 0, none⟩) us.length cg, .int .i64 t2, .bool th2]]) (by kernel_rfl) rfl rfl (MR.want (d := 159) rfl rfl (by simp [MR.size, hsz]) (by simp [MR.ev, MR.size, hsz, e20, f20, e22, f22, e24, f24, e23, f23, e25, f25])) (by simp [execOp, MR.ev, MR.size, hsz, e20, f20, e22, f22, e24, f24, e23, f23, e25, f25, go_sem]) ?_
          refine Calls.mono (GI.out _ (r_u.out.below hSz1)) ?_
          rintro e z2 ⟨rfl, hb⟩
          have hSz2 : Below w15.heap.size w15 z2 := hSz1.trans (hb.mono hSz1.size)
          clear hb
          refine ⟨_, rfl, hSz2, ?_⟩
          refine MR.callH (i := 13) (some 163) (15) (#[.agg #[.slice (some ⟨g, 0, none⟩) us.length cg, .int .i64 t2, .bool th2]]) (by kernel_rfl) rfl rfl (MR.want (d := 159) rfl rfl (by simp [MR.size, hsz]) (by simp [MR.ev, MR.size, hsz, e20, f20, e22, f22, e24, f24, e23, f23, e25, f25])) (by simp [execOp, MR.ev, MR.size, hsz, e20, f20, e22, f22, e24, f24, e23, f23, e25, f25, go_sem]) ?_
          refine Calls.mono (GS.out _ (r_u.out.below hSz2)) ?_
          rintro e z3 ⟨rfl, hb⟩
          have hSz3 : Below w15.heap.size w15 z3 := hSz2.trans (hb.mono hSz2.size)
          clear hb
          refine ⟨_, rfl, hSz3, ?_⟩
          refine MR.takeH (i := 14) (some 164) (.bool false) rfl rfl (by kernel_rfl) (by kernel_rfl) (by kernel_rfl) nofun hSz3 (MR.want (d := 159) rfl rfl (by simp [MR.size, hsz]) (by simp [MR.ev, MR.size, hsz, e20, f20, e22, f22, e24, f24, e23, f23, e25, f25])) (fun wq hw => by simp [execOp, MR.ev, MR.size, hsz, e20, f20, e22, f22, e24, f24, e23, f23, e25, f25, hG2, go_sem]) ?_
          refine MR.takeH (i := 15) (some 165) (.bool false) rfl rfl (by kernel_rfl) (by kernel_rfl) (by kernel_rfl) nofun hSz3 (MR.free rfl) (fun wq hw => by simp [execOp, MR.ev, MR.size, hsz, e20, f20, e22, f22, e24, f24, e23, f23, e25, f25, go_sem]) ?_
          exact wpAnyH_done (by kernel_rfl) ⟨rfl, rfl, hSz3⟩ _
        rintro aa w16 ⟨rfl, hb0⟩
        rw [HA.out]
        simp only [Act.put, List.setIfInBounds_toArray, List.set_cons_succ, List.set_cons_zero]
        clear HA hsz e20 f20 e22 f22 e24 f24 e23 f23 e25 f25
        clear c_u0 c_u1 c_u2 l_u
        clear c_x0 c_x1 c_x2 l_x
        clear c_y0 c_y1 c_y2 l_y
        have hb := hb0.out
        clear hb0 b_m b_y r_y SAM2 GI GS
        replace b_u := b_u.below hb b_u.lt
        replace b_x := b_x.below hb b_x.lt
        replace r_u : Hid (M4.IntsAt w16 (some ⟨g, 0, none⟩) us) := M4.IntsAt.below r_u.out hb
        replace r_x : Hid (M4.IntsAt w16 ax L2) := M4.IntsAt.below r_x.out hb
        replace B := B.trans (hb.mono B.size)
        clear hb
        cases K2 with
        | false =>
          have HB : Hid _ := B
          clear B HFM b_u b_x r_u r_x
          go_wp2
          go_ret
          exact ⟨rfl, HB.out⟩
        | true =>
          obtain ⟨hFM, hT2⟩ := HFM.out rfl
          subst hT2
          clear HFM
          have hgu := hFM.g1
          have hgx := hFM.g2
          have TK_u : Hid (∀ W : World, M4.IntsAt W (some ⟨g, 0, none⟩) us → Calls Try.prog 8 #[.agg #[.slice (some ⟨g, 0, none⟩) us.length cg, .int .i64 T2, .bool th2]] W fun e w' => e = .returned (.tuple #[.int .i64 (SP.sm us us.length), .bool true]) ∧ Below W.heap.size W w') := fun W h => by have := implTokens_any (some ⟨g, 0, none⟩) cg us T2 th2 W h (by omega); rwa [if_pos hgu, hgu] at this
          have CA_u : Hid (∀ W : World, M4.IntsAt W (some ⟨g, 0, none⟩) us → Calls Try.prog 9 #[.agg #[.slice (some ⟨g, 0, none⟩) us.length cg, .int .i64 T2, .bool th2]] W fun e w' => ∃ b c, e = .returned (.tuple #[.slice b (SP.cr us us.length).length c, .bool true]) ∧ w'.ownsRow W.heap.size 3 1 (.slice b (SP.cr us us.length).length c) (SP.cr us us.length).length (M4.iv (SP.cr us us.length)) ∧ Below W.heap.size W w') := fun W h => by have := implCarriers_any (some ⟨g, 0, none⟩) cg us T2 th2 W h (by omega); rwa [if_pos hgu, hgu] at this
          have TK_x : Hid (∀ W : World, M4.IntsAt W ax L2 → Calls Try.prog 8 #[.agg #[.slice ax L2.length qx, .int .i64 T2, .bool H2]] W fun e w' => e = .returned (.tuple #[.int .i64 (SP.sm L2 L2.length), .bool true]) ∧ Below W.heap.size W w') := fun W h => by have := implTokens_any ax qx L2 T2 H2 W h (by omega); rwa [if_pos hgx, hgx] at this
          have CA_x : Hid (∀ W : World, M4.IntsAt W ax L2 → Calls Try.prog 9 #[.agg #[.slice ax L2.length qx, .int .i64 T2, .bool H2]] W fun e w' => ∃ b c, e = .returned (.tuple #[.slice b (SP.cr L2 L2.length).length c, .bool true]) ∧ w'.ownsRow W.heap.size 3 1 (.slice b (SP.cr L2 L2.length).length c) (SP.cr L2 L2.length).length (M4.iv (SP.cr L2 L2.length)) ∧ Below W.heap.size W w') := fun W h => by have := implCarriers_any ax qx L2 T2 H2 W h (by omega); rwa [if_pos hgx, hgx] at this
          have hsm : (SP.sm us us.length != SP.sm L2 L2.length) = false := by rw [hFM.sm]; simp
          have hmm := hFM.many
          have hth := hFM.th
          clear hFM hgu hgx HG2
          generalize SP.sm us us.length = sm_us at *
          generalize SP.cr us us.length = cr_us at *
          generalize SP.sm L2 L2.length = sm_L2 at *
          generalize SP.cr L2 L2.length = cr_L2 at *
          obtain ⟨c_u0, c_u1, c_u2⟩ := b_u.cells
          have l_u := b_u.lt
          go_wp2_with fail
          refine Calls.mono (TK_u.out _ r_u.out) ?_
          rintro e w17 ⟨rfl, hb⟩
          clear c_u0 c_u1 c_u2 l_u
          replace b_u := b_u.below hb b_u.lt
          replace b_x := b_x.below hb b_x.lt
          replace r_u : Hid (M4.IntsAt w17 (some ⟨g, 0, none⟩) us) := M4.IntsAt.below r_u.out hb
          replace r_x : Hid (M4.IntsAt w17 ax L2) := M4.IntsAt.below r_x.out hb
          replace B := B.trans (hb.mono B.size)
          clear hb
          clear TK_u
          obtain ⟨c_x0, c_x1, c_x2⟩ := b_x.cells
          have l_x := b_x.lt
          go_wp2_with fail
          refine Calls.mono (TK_x.out _ r_x.out) ?_
          rintro e w18 ⟨rfl, hb⟩
          clear c_x0 c_x1 c_x2 l_x
          replace b_u := b_u.below hb b_u.lt
          replace b_x := b_x.below hb b_x.lt
          replace r_u : Hid (M4.IntsAt w18 (some ⟨g, 0, none⟩) us) := M4.IntsAt.below r_u.out hb
          replace r_x : Hid (M4.IntsAt w18 ax L2) := M4.IntsAt.below r_x.out hb
          replace B := B.trans (hb.mono B.size)
          clear hb
          clear TK_x
          obtain ⟨c_u0, c_u1, c_u2⟩ := b_u.cells
          have l_u := b_u.lt
          go_wp2_with fail
          refine Calls.mono (CA_u.out _ r_u.out) ?_
          rintro e w19 ⟨k_u, kc_u, rfl, ho, hb⟩
          clear c_u0 c_u1 c_u2 l_u
          replace b_u := b_u.below hb b_u.lt
          replace b_x := b_x.below hb b_x.lt
          replace r_u : Hid (M4.IntsAt w19 (some ⟨g, 0, none⟩) us) := M4.IntsAt.below r_u.out hb
          replace r_x : Hid (M4.IntsAt w19 ax L2) := M4.IntsAt.below r_x.out hb
          replace B := B.trans (hb.mono B.size)
          clear hb
          clear CA_u ho
          obtain ⟨c_x0, c_x1, c_x2⟩ := b_x.cells
          have l_x := b_x.lt
          go_wp2_with fail
          refine Calls.mono (CA_x.out _ r_x.out) ?_
          rintro e w20 ⟨k_x, kc_x, rfl, ho, hb⟩
          clear c_x0 c_x1 c_x2 l_x
          replace b_u := b_u.below hb b_u.lt
          replace b_x := b_x.below hb b_x.lt
          replace r_u : Hid (M4.IntsAt w20 (some ⟨g, 0, none⟩) us) := M4.IntsAt.below r_u.out hb
          replace r_x : Hid (M4.IntsAt w20 ax L2) := M4.IntsAt.below r_x.out hb
          replace B := B.trans (hb.mono B.size)
          clear hb
          clear CA_x ho
          obtain ⟨c_u0, c_u1, c_u2⟩ := b_u.cells
          have l_u := b_u.lt
          obtain ⟨c_x0, c_x1, c_x2⟩ := b_x.cells
          have l_x := b_x.lt
          have HB : Hid _ := B
          clear B b_u b_x r_u r_x
          skip
          cases th2
          all_goals cases H2
          all_goals first | (exfalso; revert hth; decide) | skip
          all_goals
            go_wp2
            go_ret
            exact ⟨rfl, HB.out⟩
  · clear hbz hby
    go_enter Try.func3, Try.ntmps3
    go_wp2
    go_ret
    exact ⟨rfl, Below.refl _ _⟩
end Go.Proofs.Ytgajfpohlemahaa
