/- The law FnEarliest answers true, whatever the bytes (laid by tools/gen_lfnearl.py). -/
import Derived.Test.YtobdgmopflccfaaRows
import Derived.Test.YtobdgmopflccfaaMEQ
import Derived.Test.YtobdgmopflccfaaCDrawAr
import Derived.Test.YtobdgmopflccfaaCRouteI
import Derived.Test.YtobdgmopflccfaaCArrive
import Derived.Test.YtobdgmopflccfaaCSameInts
import Derived.Deep.QuietTactic
import Derived.BigQuiet
namespace Go.Proofs.Ytobdgmopflccfaa
open Go.RowKit
namespace JDE
theorem own_some {w : World} {base e sz n c : Nat} {a : Option Addr} {xs : List Value} (h : w.ownsRow base e sz (.slice a n c) n xs) (hn : 0 < n) : ∃ g, a = some ⟨g, 0, none⟩ := by
  rcases h.2 with ⟨_, h0⟩ | ⟨g', cap', cur, e1, _⟩
  · omega
  · simp only [Value.slice.injEq] at e1
    exact ⟨g', e1.1⟩
theorem cell_at {w : World} {base g n c : Nat} {zs : List Int} (h : w.ownsRow base 3 1 (.slice (some ⟨g, 0, none⟩) n c) n (M4.iv zs)) {k : Nat} (hk : k < n) : w.cell? ⟨g, k, none⟩ = some (.int .i64 (zs.getD k 0)) := by
  have hl : zs.length = n := by have := h.1; simpa [M4.iv] using this
  obtain ⟨b, off, hb, _, hc⟩ := (M4.IntsAt.of_own h).at (k := k) (by omega)
  cases hb
  rw [Nat.zero_add] at hc
  exact hc
theorem lt_of_cell {w : World} {g k : Nat} {v : Value} (h : w.cell? ⟨g, k, none⟩ = some v) : g < w.heap.size := World.block_lt_of_cell? _ _ h
theorem below_drew {B : Nat} {w W : World} (h : Below B w W) (n : Nat) : Below B w (W.drewN n) := ⟨h.os, h.tape, h.output, h.size, h.block⟩
end JDE
set_option linter.unusedSimpArgs false in
set_option maxHeartbeats 6400000 in
set_option maxRecDepth 100000 in
theorem lawFnEarl_any (a b : Option Addr) (zs ys : List Int) (ca cb : Nat) (w : World) (hz : zs.length ≤ 140737488355328) (hy : ys.length ≤ 140737488355328) (hbz : MC.BytesAt w w.heap.size a zs) (hby : MC.BytesAt w w.heap.size b ys) :
    Calls Try.prog 3 #[.slice a zs.length ca, .slice b ys.length cb] w fun e w' => e = .returned (.bool true) ∧ Below w.heap.size w w' := by
  have hws : IntKind.i64.wrap ((zs.length : Int) + (ys.length : Int)) = (zs.length : Int) + (ys.length : Int) := by rw [IntKind.wrap_i64]; omega
  by_cases h20 : zs.length + ys.length ≤ 1048576
  · have HBY : Hid (∀ W : World, Below w.heap.size w W → MC.BytesAt W W.heap.size b ys) := fun W h => (hby.only (q := w.heap.size) (MC.Only.of_below h) (Nat.le_refl _) (Nat.le_refl _)).up h.size
    have DL : Hid _ := drawEarliest_any a zs ca w hz hbz
    clear hby hbz
    have h20z : (zs.length : Int) + (ys.length : Int) ≤ 1048576 := by omega
    go_enter Try.func3, Try.ntmps3
    go_wp2_with fail
    refine Calls.mono DL.out ?_
    rintro e w1 ⟨a1, c1, xs, f, t, rfl, hf, ht, hxl, hR, hb1⟩
    have HR : Hid (MI5.RowAt w1 a1 xs) := hR
    have IE : Hid (∀ W, Below w1.heap.size w1 W → _) := fun W hW => implEarliest_any a1 c1 xs f t W (by omega) (HR.out.below hW)
    have SE : Hid (∀ W, Below w1.heap.size w1 W → _) := fun W hW => specEarliest_any a1 c1 xs f t W (by omega) (HR.out.below hW)
    have IG : Hid (∀ W, Below w1.heap.size w1 W → _) := fun W hW => implGoodPlan_any a1 c1 xs W (by omega) (HR.out.below hW) _ rfl
    have SG : Hid (∀ W, Below w1.heap.size w1 W → _) := fun W hW => specGoodPlan_any a1 c1 xs W (by omega) (HR.out.below hW) _ rfl
    have IR : Hid (∀ W, Below w1.heap.size w1 W → ∀ v : Int, _) := fun W hW v => implRoute_any a1 c1 xs f t v W (by omega) (HR.out.below hW)
    have IA : Hid (∀ W, Below w1.heap.size w1 W → ∀ (os : List Int) (g : Option Addr) (cg : Nat), os.length ≤ 1048576 → M4.IntsAt W g os → _) := fun W hW os g cg ho hg => implArrive_any a1 g c1 cg xs f t os W (by omega) ho (HR.out.below hW) hg
    have HEQ : Hid (PN.startOk xs f t = true → PN.EQ xs f t (PN.earL xs f t) ∧ PN.okP xs = true) := fun h => ⟨PN.eq_of h, (PN.start_is h).1⟩
    have HEL : Hid ((PN.earL xs f t).length ≤ 8) := by
      show _ ≤ _
      unfold PN.earL
      split
      · rw [PN.whL_len]; omega
      · simp
    clear DL hR
    generalize PN.earL xs f t = L at *
    generalize PN.startOk xs f t = ok at *
    obtain ⟨gp, hgp⟩ : ∃ gp, PN.okP xs = gp := ⟨_, rfl⟩
    rw [hgp] at IG SG
    clear hgp
    obtain ⟨ll, hll⟩ : ∃ ll, L.length = ll := ⟨_, rfl⟩
    rw [hll] at IE SE HEL
    have HLE : Hid (L.length = ll) := hll
    have hl8 := HEL.out
    clear hll
    go_wp2_with fail
    refine Calls.mono (IE.out w1 (Below.refl _ _)) ?_
    rintro e w2 ⟨a2, c2, rfl, o2, hb2⟩
    have O2 : Hid _ := o2
    clear IE o2
    go_wp2_with fail
    refine Calls.mono (SE.out w2 hb2) ?_
    rintro e w3 ⟨a3, c3, rfl, o3, hb3'⟩
    have hb3 := hb2.trans (hb3'.mono hb2.size)
    have O3 : Hid (World.ownsRow w3 w1.heap.size 3 1 (.slice a2 ll c2) ll (M4.iv L)) := M5.own_below O2.out hb3'
    have SI : Hid (Calls Try.prog 8 #[.slice a2 ll c2, .slice a3 ll c3] w3 fun e w' => e = .returned (.bool true) ∧ Below w3.heap.size w3 w') := by
      have h := sameInts_any a2 a3 c2 c3 L L w3 (by rw [HLE.out]; omega) (by rw [HLE.out]; omega) (M5.own_ints O3.out) (M5.own_ints o3)
      rw [HLE.out] at h
      show Calls _ _ _ _ _
      simpa using h
    clear SE O2 o3 hb2 hb3'
    go_wp2_with fail
    refine Calls.mono SI.out ?_
    rintro e w4 ⟨rfl, hb4'⟩
    have hb4 := hb3.trans (hb4'.mono hb3.size)
    have O4 : Hid (World.ownsRow w4 w1.heap.size 3 1 (.slice a2 ll c2) ll (M4.iv L)) := M5.own_below O3.out hb4'
    clear SI O3 hb3 hb4'
    go_wp2_with fail
    refine Calls.mono (IG.out w4 hb4) ?_
    rintro e w5 ⟨rfl, hb5'⟩
    have hb5 := hb4.trans (hb5'.mono hb4.size)
    have O5 : Hid (World.ownsRow w5 w1.heap.size 3 1 (.slice a2 ll c2) ll (M4.iv L)) := M5.own_below O4.out hb5'
    clear IG O4 hb4 hb5'
    go_wp2_with fail
    refine Calls.mono (SG.out w5 hb5) ?_
    rintro e w6 ⟨rfl, hb6'⟩
    have hb6 := hb5.trans (hb6'.mono hb5.size)
    have O6 : Hid (World.ownsRow w6 w1.heap.size 3 1 (.slice a2 ll c2) ll (M4.iv L)) := M5.own_below O5.out hb6'
    clear SG O5 hb5 hb6'
    have HBF : Hid (∀ W, Below w1.heap.size w1 W → Below w.heap.size w W) := fun W hW => hb1.trans (hW.mono hb1.size)
    cases ok with
    | false =>
      have hB9 := HBF.out _ hb6
      clear IR IA HEQ O6
      have DO : Hid _ := drawArrive_any b ys cb _ hy (HBY.out _ hB9)
      go_wp2_with fail
      refine Calls.mono DO.out ?_
      rintro e v1 ⟨f1, d1, x2, s2, t2, f2, d2, os, rfl, hl2, ho2, hR2, hS2, hv1⟩
      have hV1 := hB9.trans (hv1.mono hB9.size)
      have IA2 : Hid (Calls _ _ _ _ _) := implArrive_any f1 f2 d1 d2 x2 s2 t2 os v1 (by omega) (by omega) hR2 hS2
      have SA2 : Hid (∀ V, Below v1.heap.size v1 V → _) := fun V hV => specArrive_any f1 f2 d1 d2 x2 s2 t2 os V (by omega) (by omega) (hR2.below hV) (hS2.below hV)
      have IE2 : Hid (∀ V, Below v1.heap.size v1 V → _) := fun V hV => implEarliest_any f1 d1 x2 s2 t2 V (by omega) (hR2.below hV)
      have XR2 : Hid (∀ V, Below v1.heap.size v1 V → MI5.RowAt V f1 x2) := fun V hV => hR2.below hV
      have XS2 : Hid (∀ V, Below v1.heap.size v1 V → M4.IntsAt V f2 os) := fun V hV => hS2.below hV
      have HAE : Hid (∀ tt, PN.arrM x2 s2 t2 os = .fin tt → _) := fun tt h => PN.arr_ge_ear h
      have HEL2 : Hid (PN.startOk x2 s2 t2 = true → (PN.earL x2 s2 t2).length = 8) := fun h => by rw [PN.earL_yes h, PN.whL_len]
      clear DO hR2 hS2
      obtain ⟨M, hM⟩ : ∃ M, PN.arrM x2 s2 t2 os = M := ⟨_, rfl⟩
      rw [hM] at IA2 SA2 HAE
      clear hM
      obtain ⟨n2, hn2⟩ : ∃ n2, x2.length = n2 := ⟨_, rfl⟩
      rw [hn2] at IA2 SA2 IE2 hl2 ⊢
      have HN2 : Hid (x2.length = n2) := hn2
      obtain ⟨m2, hm2⟩ : ∃ m2, os.length = m2 := ⟨_, rfl⟩
      rw [hm2] at IA2 SA2 ho2 ⊢
      have HM2 : Hid (os.length = m2) := hm2
      clear hn2 hm2
      cases M with
      | fin tt =>
        obtain ⟨z1, z2, z3, z4, z5, z6, z7⟩ := HAE.out tt rfl
        have e8 := HEL2.out z1
        rw [z1] at IE2
        have HZ2 : Hid _ := z2
        obtain ⟨nd, hnd⟩ : ∃ nd, PN.nodeAt x2 s2 os os.length = nd := ⟨_, rfl⟩
        have HND : Hid (PN.nodeAt x2 s2 os os.length = nd) := hnd
        rw [hnd] at z4 z5 z6 z7
        obtain ⟨dn, rfl⟩ := Int.eq_ofNat_of_zero_le z4
        rw [Int.toNat_natCast] at z6 z7
        have hdn : dn < 8 := by omega
        generalize PN.earL x2 s2 t2 = L2 at *
        rw [e8] at IE2
        clear HAE HEL2 z1 z2 z3 hnd e8
        go_wp2_with fail
        refine Calls.mono IA2.out ?_
        rintro e v2 ⟨rfl, hv2⟩
        have S3 : Hid (Calls _ _ _ _ _) := SA2.out v2 hv2
        clear IA2 SA2
        go_wp2_with fail
        refine Calls.mono S3.out ?_
        rintro e v3 ⟨rfl, hv3'⟩
        have hv3 := hv2.trans (hv3'.mono hv2.size)
        have E3 : Hid (Calls _ _ _ _ _) := IE2.out v3 hv3
        clear S3 IE2 hv2 hv3'
        simp only [PN.tellN, PN.tellB] at *
        have TAIL : Hid (∀ v4 g4 c4, World.ownsRow v4 v3.heap.size 3 1 (.slice g4 8 c4) 8 (M4.iv L2) → ∃ g, g4 = some ⟨g, 0, none⟩ ∧ v4.cell? ⟨g, dn, none⟩ = some (.int .i64 (L2.getD dn 0))) := fun v4 g4 c4 ho => by
          obtain ⟨g, rfl⟩ := JDE.own_some ho (by omega)
          exact ⟨g, rfl, JDE.cell_at ho hdn⟩
        have q6 : decide (L2.getD dn 0 < 0) = false := decide_eq_false (by omega)
        have q7 : decide (tt < L2.getD dn 0) = false := decide_eq_false (by omega)
        have dz : (dn : Int) < 8 := by omega
        generalize L2.getD dn 0 = ld at *
        by_cases h0 : 0 < m2
        · have h0z : (0 : Int) < (m2 : Int) := by omega
          have hwm : IntKind.i64.wrap ((m2 : Int) - 1) = (m2 : Int) - 1 := by rw [IntKind.wrap_i64]; omega
          obtain ⟨m3, rfl⟩ : ∃ m3, m2 = m3 + 1 := ⟨m2 - 1, by omega⟩
          obtain ⟨b6, off6, rfl, hlt6, hc6⟩ := (XS2.out v3 hv3).at (k := m3) (by rw [HM2.out]; omega)
          have hi := HZ2.out m3 (by rw [HM2.out]; omega)
          obtain ⟨z, hz9⟩ := Int.eq_ofNat_of_zero_le hi.1
          have hnd2 := HND.out
          rw [HM2.out, PN.nodeAt, hz9, PN.ofN, Int.toNat_natCast] at hnd2
          rw [hz9] at hc6 hi
          have hzx : z < n2 := by rw [← HN2.out]; omega
          obtain ⟨b8, off8, rfl, hlt8, -, hc8, -, -, -⟩ := (XR2.out v3 hv3).at (show z < x2.length by rw [HN2.out]; exact hzx)
          rw [hnd2] at hc8
          have zz : (z : Int) < (n2 : Int) := by omega
          clear hi hz9 hnd2 HZ2 HND XR2 XS2
          go_wp2_with fail
          refine Calls.mono E3.out ?_
          rintro e v4 ⟨g4, c4, rfl, o4, hv4'⟩
          obtain ⟨g, rfl, hcg⟩ := TAIL.out v4 g4 c4 o4
          clear E3 TAIL o4 hc6 hc8
          go_wp2
          go_ret
          exact ⟨rfl, hV1.trans ((hv3.trans (hv4'.mono hv3.size)).mono hV1.size)⟩
        · obtain rfl : m2 = 0 := by omega
          have hnd2 := HND.out
          rw [HM2.out, PN.nodeAt] at hnd2
          subst hnd2
          clear HZ2 HND XR2 XS2
          go_wp2_with fail
          refine Calls.mono E3.out ?_
          rintro e v4 ⟨g4, c4, rfl, o4, hv4'⟩
          obtain ⟨g, rfl, hcg⟩ := TAIL.out v4 g4 c4 o4
          clear E3 TAIL o4
          go_wp2
          go_ret
          exact ⟨rfl, hV1.trans ((hv3.trans (hv4'.mono hv3.size)).mono hV1.size)⟩
      | inf =>
        clear HAE HEL2 IE2 XR2 XS2
        simp only [PN.tellN, PN.tellB] at *
        go_wp2_with fail
        refine Calls.mono IA2.out ?_
        rintro e v2 ⟨rfl, hv2⟩
        have S3 : Hid (Calls _ _ _ _ _) := SA2.out v2 hv2
        clear IA2 SA2
        go_wp2_with fail
        refine Calls.mono S3.out ?_
        rintro e v3 ⟨rfl, hv3'⟩
        have hv3 := hv2.trans (hv3'.mono hv2.size)
        clear S3
        go_wp2
        go_ret
        exact ⟨rfl, hV1.trans (hv3.mono hV1.size)⟩
      | ago =>
        clear HAE HEL2 IE2 XR2 XS2
        simp only [PN.tellN, PN.tellB] at *
        go_wp2_with fail
        refine Calls.mono IA2.out ?_
        rintro e v2 ⟨rfl, hv2⟩
        have S3 : Hid (Calls _ _ _ _ _) := SA2.out v2 hv2
        clear IA2 SA2
        go_wp2_with fail
        refine Calls.mono S3.out ?_
        rintro e v3 ⟨rfl, hv3'⟩
        have hv3 := hv2.trans (hv3'.mono hv2.size)
        clear S3
        go_wp2
        go_ret
        exact ⟨rfl, hV1.trans (hv3.mono hV1.size)⟩
    | true =>
      obtain ⟨hEQ, hOK⟩ := HEQ.out rfl
      have HE : Hid (PN.EQ xs f t L) := hEQ
      have HOK : Hid (PN.okP xs = true) := hOK
      have h8 : ll = 8 := by rw [← HLE.out]; exact hEQ.len
      subst h8
      obtain ⟨fn, hfn⟩ := Int.eq_ofNat_of_zero_le hf.1
      subst hfn
      have hf8 : fn < 8 := by have := hf.2; omega
      obtain ⟨g2, rfl⟩ := JDE.own_some O6.out (by omega)
      have cf := JDE.cell_at O6.out (k := fn) hf8
      have esrc := hEQ.src
      rw [Int.toNat_natCast] at esrc
      rw [esrc] at cf
      have LC : Hid (∀ W, Below w6.heap.size w6 W → ∀ v : Nat, v < 8 → W.cell? ⟨g2, v, none⟩ = some (.int .i64 (L.getD v 0))) := fun W hW v hv => JDE.cell_at (M5.own_below O6.out hW) hv
      have XR : Hid (∀ W, Below w6.heap.size w6 W → MI5.RowAt W a1 xs) := fun W hW => HR.out.below (hb6.trans (hW.mono hb6.size))
      have HB6 : Hid (∀ W, Below w6.heap.size w6 W → Below w1.heap.size w1 W) := fun W hW => hb6.trans (hW.mono hb6.size)
      have RT : Hid (∀ W, Below w6.heap.size w6 W → ∀ v : Nat, v < 8 → (0 ≤ L.getD v 0 → ∃ rl : Nat, ∃ RL : List Int, Hid (RL.length = rl) ∧ rl ≤ 1048576 ∧ (Calls Try.prog 11 #[.slice a1 xs.length c1, .int .i64 (fn : Int), .int .i64 t, .int .i64 (v : Int)] W fun e w' => ∃ g cg, e = .returned (.tuple #[.slice g rl cg, .int .i64 (L.getD v 0), .bool true]) ∧ w'.ownsRow W.heap.size 3 1 (.slice g rl cg) rl (M4.iv RL) ∧ Below W.heap.size W w') ∧ ∀ W2, Below w6.heap.size w6 W2 → ∀ (g : Option Addr) (cg : Nat), M4.IntsAt W2 g RL → Calls Try.prog 12 #[.slice a1 xs.length c1, .int .i64 (fn : Int), .int .i64 t, .slice g rl cg] W2 fun e w' => e = .returned (.tuple #[.int .i64 (L.getD v 0), .bool true]) ∧ Below W2.heap.size W2 w') ∧ (L.getD v 0 < 0 → ∃ (rl : Nat) (tt : Int), Calls Try.prog 11 #[.slice a1 xs.length c1, .int .i64 (fn : Int), .int .i64 t, .int .i64 (v : Int)] W fun e w' => ∃ g cg, e = .returned (.tuple #[.slice g rl cg, .int .i64 tt, .bool false]) ∧ Below W.heap.size W w')) := fun W hW v hv => by
        obtain ⟨r1, r2⟩ := hEQ.rt v hv
        have h := IR.out W (HB6.out W hW) (v : Int)
        refine ⟨fun h0 => ?_, fun h0 => ?_⟩
        · obtain ⟨r3, r4, r5⟩ := r2 h0
          rw [r1, r3, decide_eq_true h0] at h
          have hl := PN.routeL_len xs (fn : Int) t (v : Int)
          refine ⟨(PN.routeL xs (fn : Int) t (v : Int)).length, PN.routeL xs (fn : Int) t (v : Int), rfl, hl, h, fun W2 hW2 g cg hg => ?_⟩
          have h2 := IA.out W2 (HB6.out W2 hW2) (PN.routeL xs (fn : Int) t (v : Int)) g cg hl hg
          rw [r4, r5] at h2
          exact h2
        · rw [r1, decide_eq_false (by omega)] at h
          refine ⟨(PN.routeL xs (fn : Int) t (v : Int)).length, PN.tellN (PN.routeM xs (fn : Int) t (v : Int)), h.mono ?_⟩
          rintro e w' ⟨g, cg, rfl, _, hb⟩
          exact ⟨g, cg, rfl, hb⟩
      have CON : Hid (∀ k, k < xs.length → _) := fun k hk => hEQ.con k hk
      have LB : Hid (∀ v : Nat, v < 8 → -1 ≤ L.getD v 0 ∧ L.getD v 0 ≤ 1048576) := hEQ.bd
      clear IR IA HEQ hEQ hOK esrc O6 HLE HEL
      go_wp2
      go_loopw [13, 14, 84] (fun _ _ iv wr => ∃ k : Nat, iv = .int .i64 k ∧ k ≤ xs.length ∧ Below w6.heap.size w6 wr) (fun _ _ iv _ => (xs.length - intOf iv).toNat)
      case atStart => exact ⟨0, rfl, by omega, Below.refl _ _⟩
      case round =>
        clear cf
        obtain ⟨k, rfl, hk, hbr⟩ := hrel
        have hsr := hbr.size
        by_cases hlk : k < xs.length
        · have kn : (k : Int) < (xs.length : Int) := by omega
          obtain ⟨b8, off8, rfl, hlt8, d0, d1, d2, d3, d4⟩ := (XR.out _ hbr).at hlk
          have G := PN.okP_good HOK.out hlk
          have hcon := CON.out k hlk
          obtain ⟨p, hp⟩ := Int.eq_ofNat_of_zero_le G.f0
          obtain ⟨q, hq⟩ := Int.eq_ofNat_of_zero_le G.t0
          have hp8 : p < 8 := by have := G.f1; omega
          have hq8 : q < 8 := by have := G.t1; omega
          have hx2 := G.s0
          have hx4 := G.d0
          have hx4' := G.d1
          have hx3' := G.e1
          have hx23 := G.s1
          rw [hp, hq] at hcon
          rw [hp] at d0
          rw [hq] at d1
          simp only [Int.toNat_natCast] at hcon
          have cp := LC.out _ hbr p hp8
          have cq := LC.out _ hbr q hq8
          have lp := LB.out p hp8
          have lq := LB.out q hq8
          clear G hp hq
          generalize (MI5.at_ xs k).a2 = x2 at *
          generalize (MI5.at_ xs k).a3 = x3 at *
          generalize (MI5.at_ xs k).a4 = x4 at *
          generalize hLp : L.getD p 0 = tp at *
          generalize hLq : L.getD q 0 = tq at *
          clear hLp hLq
          have pz : (p : Int) < 8 := by omega
          have qz : (q : Int) < 8 := by omega
          have hBA : ∀ o, Below w6.heap.size w6 (wr.alloc o) := fun o => hbr.alloc hsr o
          have hgl := JDE.lt_of_cell cp
          by_cases h1 : tp < 0
          · have r1 : decide (tp < 0) = true := by simp; omega
            go_wp2
            go_roundw
            case rel => exact ⟨k + 1, by go_num, by omega, hBA _⟩
            case measure => simp [intOf]; omega
          · have r1 : decide (tp < 0) = false := by simp; omega
            by_cases h2 : x3 ≤ tp
            · have r2 : decide (x3 ≤ tp) = true := by simp; omega
              go_wp2
              go_roundw
              case rel => exact ⟨k + 1, by go_num, by omega, hBA _⟩
              case measure => simp [intOf]; omega
            · have r2 : decide (x3 ≤ tp) = false := by simp; omega
              obtain ⟨e1, e2⟩ := hcon (by omega) (by omega)
              have r4 : decide (tq < 0) = false := by simp; omega
              clear hcon
              by_cases h3 : tp < x2
              · have r3 : decide (tp < x2) = true := by simp; omega
                have e3 : tq ≤ x2 + x4 := by rw [show max tp x2 = x2 by omega] at e2; exact e2
                have r5 : decide (x2 + x4 < tq) = false := by simp; omega
                have rw1 : IntKind.i64.wrap (x2 + x4) = x2 + x4 := by rw [IntKind.wrap_i64]; omega
                go_wp2_with fail
                go_quiet (fail)
                go_wp2
                go_roundw
                case rel => exact ⟨k + 1, by go_num, by omega, JDE.below_drew (hBA _) nq⟩
                case measure => simp [intOf]; omega
              · have r3 : decide (tp < x2) = false := by simp; omega
                have e3 : tq ≤ tp + x4 := by rw [show max tp x2 = tp by omega] at e2; exact e2
                have r5 : decide (tp + x4 < tq) = false := by simp; omega
                have rw1 : IntKind.i64.wrap (tp + x4) = tp + x4 := by rw [IntKind.wrap_i64]; omega
                go_wp2_with fail
                go_quiet (fail)
                go_wp2
                go_roundw
                case rel => exact ⟨k + 1, by go_num, by omega, JDE.below_drew (hBA _) nq⟩
                case measure => simp [intOf]; omega
        · obtain rfl : k = xs.length := by omega
          go_wp2
          go_loopw [15, 16, 17, 18, 19, 20, 21, 128] (fun _ _ _ _ _ _ _ iv wq => ∃ v : Nat, iv = .int .i64 v ∧ v ≤ 8 ∧ Below w6.heap.size w6 wq) (fun _ _ _ _ _ _ _ iv _ => (8 - intOf iv).toNat)
          case atStart => exact ⟨0, rfl, by omega, hbr⟩
          case round =>
            clear hbr hsr
            obtain ⟨v, rfl, hv, hbq⟩ := hrel
            have hsq := hbq.size
            by_cases hlv : v < 8
            · have vz : (v : Int) < 8 := by omega
              have cv := LC.out _ hbq v hlv
              obtain ⟨R1, R2⟩ := RT.out _ hbq v hlv
              generalize L.getD v 0 = tv at *
              by_cases h0 : 0 ≤ tv
              · have r0 : decide (0 ≤ tv) = true := by simp; omega
                obtain ⟨rl, RL, HRL, hrl, CR, CA⟩ := R1 h0
                have HCR : Hid (Calls _ _ _ _ _) := CR
                have HCA : Hid (∀ W2, _ → ∀ (g : Option Addr) (cg : Nat), _) := CA
                clear R1 R2 CR CA
                go_wp2_with fail
                refine Calls.mono HCR.out ?_
                rintro e w11 ⟨g11, cg11, rfl, o11, hb11'⟩
                have hb11 := hbq.trans (hb11'.mono hsq)
                have C11 : Hid (Calls _ _ _ _ _) := HCA.out w11 hb11 g11 cg11 (M5.own_ints o11)
                clear HCR HCA o11 hb11'
                go_wp2_with fail
                refine Calls.mono C11.out ?_
                rintro e w12 ⟨rfl, hb12'⟩
                have hb12 := hb11.trans (hb12'.mono hb11.size)
                clear C11 hb12'
                go_wp2
                go_roundw
                case rel => exact ⟨v + 1, by go_num, by omega, hb12⟩
                case measure => simp [intOf]; omega
              · have r0 : decide (0 ≤ tv) = false := by simp; omega
                obtain ⟨rl, tt, CR⟩ := R2 (by omega)
                have HCR : Hid (Calls _ _ _ _ _) := CR
                clear R1 R2 CR
                go_wp2_with fail
                refine Calls.mono HCR.out ?_
                rintro e w11 ⟨g11, cg11, rfl, hb11'⟩
                have hb11 := hbq.trans (hb11'.mono hsq)
                clear HCR hb11'
                go_wp2
                go_roundw
                case rel => exact ⟨v + 1, by go_num, by omega, hb11⟩
                case measure => simp [intOf]; omega
            · obtain rfl : v = 8 := by omega
              have hB9 := HBF.out _ (HB6.out _ hbq)
              clear RT LC CON XR HE HOK LB
              have DO : Hid _ := drawArrive_any b ys cb _ hy (HBY.out _ hB9)
              go_wp2_with fail
              refine Calls.mono DO.out ?_
              rintro e v1 ⟨f1, d1, x2, s2, t2, f2, d2, os, rfl, hl2, ho2, hR2, hS2, hv1⟩
              have hV1 := hB9.trans (hv1.mono hB9.size)
              have IA2 : Hid (Calls _ _ _ _ _) := implArrive_any f1 f2 d1 d2 x2 s2 t2 os v1 (by omega) (by omega) hR2 hS2
              have SA2 : Hid (∀ V, Below v1.heap.size v1 V → _) := fun V hV => specArrive_any f1 f2 d1 d2 x2 s2 t2 os V (by omega) (by omega) (hR2.below hV) (hS2.below hV)
              have IE2 : Hid (∀ V, Below v1.heap.size v1 V → _) := fun V hV => implEarliest_any f1 d1 x2 s2 t2 V (by omega) (hR2.below hV)
              have XR2 : Hid (∀ V, Below v1.heap.size v1 V → MI5.RowAt V f1 x2) := fun V hV => hR2.below hV
              have XS2 : Hid (∀ V, Below v1.heap.size v1 V → M4.IntsAt V f2 os) := fun V hV => hS2.below hV
              have HAE : Hid (∀ tt, PN.arrM x2 s2 t2 os = .fin tt → _) := fun tt h => PN.arr_ge_ear h
              have HEL2 : Hid (PN.startOk x2 s2 t2 = true → (PN.earL x2 s2 t2).length = 8) := fun h => by rw [PN.earL_yes h, PN.whL_len]
              clear DO hR2 hS2
              obtain ⟨M, hM⟩ : ∃ M, PN.arrM x2 s2 t2 os = M := ⟨_, rfl⟩
              rw [hM] at IA2 SA2 HAE
              clear hM
              obtain ⟨n2, hn2⟩ : ∃ n2, x2.length = n2 := ⟨_, rfl⟩
              rw [hn2] at IA2 SA2 IE2 hl2 ⊢
              have HN2 : Hid (x2.length = n2) := hn2
              obtain ⟨m2, hm2⟩ : ∃ m2, os.length = m2 := ⟨_, rfl⟩
              rw [hm2] at IA2 SA2 ho2 ⊢
              have HM2 : Hid (os.length = m2) := hm2
              clear hn2 hm2
              cases M with
              | fin tt =>
                obtain ⟨z1, z2, z3, z4, z5, z6, z7⟩ := HAE.out tt rfl
                have e8 := HEL2.out z1
                rw [z1] at IE2
                have HZ2 : Hid _ := z2
                obtain ⟨nd, hnd⟩ : ∃ nd, PN.nodeAt x2 s2 os os.length = nd := ⟨_, rfl⟩
                have HND : Hid (PN.nodeAt x2 s2 os os.length = nd) := hnd
                rw [hnd] at z4 z5 z6 z7
                obtain ⟨dn, rfl⟩ := Int.eq_ofNat_of_zero_le z4
                rw [Int.toNat_natCast] at z6 z7
                have hdn : dn < 8 := by omega
                generalize PN.earL x2 s2 t2 = L2 at *
                rw [e8] at IE2
                clear HAE HEL2 z1 z2 z3 hnd e8
                go_wp2_with fail
                refine Calls.mono IA2.out ?_
                rintro e v2 ⟨rfl, hv2⟩
                have S3 : Hid (Calls _ _ _ _ _) := SA2.out v2 hv2
                clear IA2 SA2
                go_wp2_with fail
                refine Calls.mono S3.out ?_
                rintro e v3 ⟨rfl, hv3'⟩
                have hv3 := hv2.trans (hv3'.mono hv2.size)
                have E3 : Hid (Calls _ _ _ _ _) := IE2.out v3 hv3
                clear S3 IE2 hv2 hv3'
                simp only [PN.tellN, PN.tellB] at *
                have TAIL : Hid (∀ v4 g4 c4, World.ownsRow v4 v3.heap.size 3 1 (.slice g4 8 c4) 8 (M4.iv L2) → ∃ g, g4 = some ⟨g, 0, none⟩ ∧ v4.cell? ⟨g, dn, none⟩ = some (.int .i64 (L2.getD dn 0))) := fun v4 g4 c4 ho => by
                  obtain ⟨g, rfl⟩ := JDE.own_some ho (by omega)
                  exact ⟨g, rfl, JDE.cell_at ho hdn⟩
                have q6 : decide (L2.getD dn 0 < 0) = false := decide_eq_false (by omega)
                have q7 : decide (tt < L2.getD dn 0) = false := decide_eq_false (by omega)
                have dz : (dn : Int) < 8 := by omega
                generalize L2.getD dn 0 = ld at *
                by_cases h0 : 0 < m2
                · have h0z : (0 : Int) < (m2 : Int) := by omega
                  have hwm : IntKind.i64.wrap ((m2 : Int) - 1) = (m2 : Int) - 1 := by rw [IntKind.wrap_i64]; omega
                  obtain ⟨m3, rfl⟩ : ∃ m3, m2 = m3 + 1 := ⟨m2 - 1, by omega⟩
                  obtain ⟨b6, off6, rfl, hlt6, hc6⟩ := (XS2.out v3 hv3).at (k := m3) (by rw [HM2.out]; omega)
                  have hi := HZ2.out m3 (by rw [HM2.out]; omega)
                  obtain ⟨z, hz9⟩ := Int.eq_ofNat_of_zero_le hi.1
                  have hnd2 := HND.out
                  rw [HM2.out, PN.nodeAt, hz9, PN.ofN, Int.toNat_natCast] at hnd2
                  rw [hz9] at hc6 hi
                  have hzx : z < n2 := by rw [← HN2.out]; omega
                  obtain ⟨b8, off8, rfl, hlt8, -, hc8, -, -, -⟩ := (XR2.out v3 hv3).at (show z < x2.length by rw [HN2.out]; exact hzx)
                  rw [hnd2] at hc8
                  have zz : (z : Int) < (n2 : Int) := by omega
                  clear hi hz9 hnd2 HZ2 HND XR2 XS2
                  go_wp2_with fail
                  refine Calls.mono E3.out ?_
                  rintro e v4 ⟨g4, c4, rfl, o4, hv4'⟩
                  obtain ⟨g, rfl, hcg⟩ := TAIL.out v4 g4 c4 o4
                  clear E3 TAIL o4 hc6 hc8
                  go_wp2
                  go_ret
                  exact ⟨rfl, hV1.trans ((hv3.trans (hv4'.mono hv3.size)).mono hV1.size)⟩
                · obtain rfl : m2 = 0 := by omega
                  have hnd2 := HND.out
                  rw [HM2.out, PN.nodeAt] at hnd2
                  subst hnd2
                  clear HZ2 HND XR2 XS2
                  go_wp2_with fail
                  refine Calls.mono E3.out ?_
                  rintro e v4 ⟨g4, c4, rfl, o4, hv4'⟩
                  obtain ⟨g, rfl, hcg⟩ := TAIL.out v4 g4 c4 o4
                  clear E3 TAIL o4
                  go_wp2
                  go_ret
                  exact ⟨rfl, hV1.trans ((hv3.trans (hv4'.mono hv3.size)).mono hV1.size)⟩
              | inf =>
                clear HAE HEL2 IE2 XR2 XS2
                simp only [PN.tellN, PN.tellB] at *
                go_wp2_with fail
                refine Calls.mono IA2.out ?_
                rintro e v2 ⟨rfl, hv2⟩
                have S3 : Hid (Calls _ _ _ _ _) := SA2.out v2 hv2
                clear IA2 SA2
                go_wp2_with fail
                refine Calls.mono S3.out ?_
                rintro e v3 ⟨rfl, hv3'⟩
                have hv3 := hv2.trans (hv3'.mono hv2.size)
                clear S3
                go_wp2
                go_ret
                exact ⟨rfl, hV1.trans (hv3.mono hV1.size)⟩
              | ago =>
                clear HAE HEL2 IE2 XR2 XS2
                simp only [PN.tellN, PN.tellB] at *
                go_wp2_with fail
                refine Calls.mono IA2.out ?_
                rintro e v2 ⟨rfl, hv2⟩
                have S3 : Hid (Calls _ _ _ _ _) := SA2.out v2 hv2
                clear IA2 SA2
                go_wp2_with fail
                refine Calls.mono S3.out ?_
                rintro e v3 ⟨rfl, hv3'⟩
                have hv3 := hv2.trans (hv3'.mono hv2.size)
                clear S3
                go_wp2
                go_ret
                exact ⟨rfl, hV1.trans (hv3.mono hV1.size)⟩
  · have h20z : ¬ (zs.length : Int) + (ys.length : Int) ≤ 1048576 := by omega
    go_enter Try.func3, Try.ntmps3
    go_wp2
    go_ret
    exact ⟨rfl, Below.refl _ _⟩
end Go.Proofs.Ytobdgmopflccfaa
