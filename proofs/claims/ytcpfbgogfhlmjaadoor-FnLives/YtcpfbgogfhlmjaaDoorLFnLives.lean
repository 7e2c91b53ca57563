/- The law FnLives answers true, whatever bytes it draws from. -/
import Derived.Test.YtcpfbgogfhlmjaaDoorRows
import Derived.Test.YtcpfbgogfhlmjaaDoorCBundleE
import Derived.Test.YtcpfbgogfhlmjaaDoorCIsOver
import Derived.Test.YtcpfbgogfhlmjaaDoorCHop
import Derived.Test.YtcpfbgogfhlmjaaDoorCImplGoodB
import Derived.Test.YtcpfbgogfhlmjaaDoorCIdOf
import Derived.Test.YtcpfbgogfhlmjaaDoorCSameI
import Derived.WalkKit
import Derived.WalkSpells
import Derived.WalkLawsBesides
import Derived.Outline
import Derived.Deep.RegionWith
import Derived.Deep.DeepCutAuto
namespace Go.Proofs.YtcpfbgogfhlmjaaDoor
open Go.RowKit
namespace BX
theorem over_later {b : Bd} {n : Int} (h : B1.over b n = true) (hn : n < 2000000) : B1.over b (n + 1) = true ∧ B1.overOk b (n + 1) = true := by
  simp only [B1.over, B1.overOk, inB, Bool.and_eq_true, decide_eq_true_eq] at *
  exact ⟨⟨⟨h.1.1, by omega⟩, by omega⟩, h.1.1, by omega⟩
theorem over_no {b : Bd} {n : Int} (h : B1.overOk b n = false) : B1.over b n = false := by simp [B1.over, h]
theorem hop_py (b : Bd) (h : b.py.size ≤ 60) : (B1.hop b).py.size ≤ 60 := by
  unfold B1.hop
  split
  · exact h
  · decide
theorem hop_is {b : Bd} (h : B1.hopOk b = true) : B1.hop b = { b with hp := b.hp - 1 } := by simp [B1.hop, h]
theorem hop_good {b : Bd} (h : B1.hopOk b = true) : B1.good (B1.hop b) = true := by
  rw [hop_is h]
  simp only [B1.hopOk, B1.good, B1.head, B1.placed, inB, Bool.and_eq_true, decide_eq_true_eq] at *
  obtain ⟨⟨⟨h1, h2⟩, h3⟩, h4⟩ := h
  exact ⟨⟨⟨h1.1, by omega⟩, h2⟩, h3⟩
theorem hop_was {b : Bd} (h : B1.hopOk b = true) : B1.good b = true := by simp only [B1.hopOk, Bool.and_eq_true] at h; exact h.1
theorem hop_id {b : Bd} (h : B1.hopOk b = true) : idR (B1.hop b) = idR b := by
  rw [← idR_yes (hop_good h), ← idR_yes (hop_was h), hop_is h]
theorem hop_same {b : Bd} (h : B1.hopOk b = true) : sameB (B1.hop b) b = true ∧ sameOk (B1.hop b) b = true := by
  have h1 : sameOk (B1.hop b) b = true := by simp [sameOk, hop_good h, hop_was h]
  exact ⟨by simp [sameB, h1, hop_id h], h1⟩
end BX
set_option maxHeartbeats 12800000 in
set_option maxRecDepth 100000 in
theorem lawFnLives_any (a a' : Option Addr) (zs ys : List Int) (ca cb : Nat) (w : World) (hz : zs.length ≤ 140737488355328) (hy : ys.length ≤ 140737488355328) (hbz : MC.BytesAt w w.heap.size a zs) (hby : MC.BytesAt w w.heap.size a' ys) (hT : PTab w) :
    Calls Tryd.prog 4 #[.slice a zs.length ca, .slice a' ys.length cb] w fun e w' => e = .returned (.bool true) ∧ Below w.heap.size w w' := by
  by_cases h20 : zs.length + ys.length ≤ 1048576
  · have HBY : Hid (∀ W : World, Below w.heap.size w W → MC.BytesAt W W.heap.size a' ys) := fun W h => (hby.only (q := w.heap.size) (MC.Only.of_below h) (Nat.le_refl _) (Nat.le_refl _)).up h.size
    have HT : Hid (∀ W : World, Below w.heap.size w W → PTab W) := fun W hb => hT.below hb (Nat.le_refl _)
    clear hby hT
    go_enter Tryd.func4, Tryd.ntmps4
    go_wp2_with fail
    refine (drawIsOver_any a zs ca _ hz hbz).mono ?_
    rintro e W1 ⟨b, n, rfl, hpb, hn, BW⟩
    clear hbz
    have IO : Hid (∀ (m : Int) (W : World), Calls Tryd.prog 14 #[b.v, .int .i64 m] W fun e w' => e = .returned (.tuple #[.bool (B1.over b m), .bool (B1.overOk b m)]) ∧ Below W.heap.size W w') := fun m W => implIsOver_any b m W (by omega)
    have SO : Hid (∀ W : World, Calls Tryd.prog 15 #[b.v, .int .i64 n] W fun e w' => e = .returned (.tuple #[.bool (B1.over b n), .bool (B1.overOk b n)]) ∧ Below W.heap.size W w') := fun W => specIsOver_any b n W (by omega)
    have IO1 : Hid (∀ (_ : B1.over b n = true) (_ : n < 2000000) (W : World), Calls Tryd.prog 14 #[b.v, .int .i64 (n + 1)] W fun e w' => e = .returned (.tuple #[.bool true, .bool true]) ∧ Below W.heap.size W w') := fun h1 h2 W => by
      have h := IO.out (n + 1) W
      rw [(BX.over_later h1 h2).1, (BX.over_later h1 h2).2] at h
      exact h
    have IO0 : Hid (∀ W : World, Calls Tryd.prog 14 #[b.v, .int .i64 n] W fun e w' => e = .returned (.tuple #[.bool (B1.over b n), .bool (B1.overOk b n)]) ∧ Below W.heap.size W w') := fun W => IO.out n W
    have HNO : Hid (B1.overOk b n = false → B1.over b n = false) := BX.over_no
    clear IO
    have hbx := BX.Box.new W1 24 b W1.heap.size rfl
    replace BW := BW.alloc BW.size (.cells (BX.cs b).toArray 24)
    generalize B1.over b n = ov at *
    generalize B1.overOk b n = ok at *
    obtain ⟨x0, x1, x2, x3, x4, x5, x6, x7, x8, x9⟩ := b
    simp only [BX.cs, Bd.cs] at hbx BW
    have hn1 : IntKind.i64.wrap (n + 1) = n + 1 := by rw [IntKind.wrap_i64]; omega
    go_wp2_with fail
    generalize W1.alloc (.cells #[.int .i64 x0, .int .i64 x1, .bool x2, .int .i64 x3, .int .i64 x4, .int .i64 x5, .int .i64 x6, .int .i64 x7, .int .i64 x8, .string x9] 24) = W2 at *
    obtain ⟨q, hq⟩ : ∃ q, W1.heap.size = q := ⟨_, rfl⟩
    rw [hq] at hbx ⊢
    clear hq
    refine (IO0.out _).mono ?_
    rintro e W3 ⟨rfl, hb⟩
    replace hbx := hbx.below hb hbx.lt
    replace BW := BW.trans (hb.mono BW.size)
    clear hb
    have k0 := hbx.cells 0
    have k1 := hbx.cells 1
    have k2 := hbx.cells 2
    have k3 := hbx.cells 3
    have k4 := hbx.cells 4
    have k5 := hbx.cells 5
    have k6 := hbx.cells 6
    have k7 := hbx.cells 7
    have k8 := hbx.cells 8
    have k9 := hbx.cells 9
    simp [Bd.cs] at k0 k1 k2 k3 k4 k5 k6 k7 k8 k9
    have kl := hbx.lt
    go_wp2_with fail
    clear k0 k1 k2 k3 k4 k5 k6 k7 k8 k9 kl
    refine (SO.out _).mono ?_
    rintro e W4 ⟨rfl, hb⟩
    replace hbx := hbx.below hb hbx.lt
    replace BW := BW.trans (hb.mono BW.size)
    clear hb IO0 SO
    have hoo : (ok != ok) = false := by simp
    have hvv : (ov != ov) = false := by simp
    go_upto_region 8 with fail
    go_cut [68] (fun s68 wx => s68 = .bool (ok && (ov && decide (n < 2000000))) ∧ W4 = wx)
    case first =>
      clear HBY HT HNO IO1 hbx hn1
      cases ok
      · go_wp2_with fail
        go_meet
        exact ⟨rfl, rfl⟩
      · cases ov
        · go_wp2_with fail
          go_meet
          exact ⟨rfl, rfl⟩
        · go_wp2_with fail
          all_goals (go_meet; exact ⟨by simp_all, rfl⟩)
    case rest =>
    obtain ⟨rfl, rfl⟩ := hcut
    go_upto_if 68 with fail
    go_cut [11, 12] (fun _ _ wx => Below w.heap.size w wx)
    case first =>
      clear HBY HT
      rcases hcc : (ok && (ov && decide (n < 2000000))) with _ | _
      · clear HNO IO1 hbx
        go_wp2_with fail
        go_meet
        exact BW
      · simp only [Bool.and_eq_true, decide_eq_true_eq] at hcc
        obtain ⟨rfl, rfl, hn2⟩ := hcc
        replace IO1 : Hid _ := IO1.out rfl hn2
        have k0 := hbx.cells 0
        have k1 := hbx.cells 1
        have k2 := hbx.cells 2
        have k3 := hbx.cells 3
        have k4 := hbx.cells 4
        have k5 := hbx.cells 5
        have k6 := hbx.cells 6
        have k7 := hbx.cells 7
        have k8 := hbx.cells 8
        have k9 := hbx.cells 9
        simp [Bd.cs] at k0 k1 k2 k3 k4 k5 k6 k7 k8 k9
        have kl := hbx.lt
        clear HNO
        go_wp2_with fail
        clear k0 k1 k2 k3 k4 k5 k6 k7 k8 k9 kl
        refine (IO1.out _).mono ?_
        rintro e W5 ⟨rfl, hb⟩
        replace BW := BW.trans (hb.mono BW.size)
        clear hb IO1 hbx
        go_wp2_with fail
        go_meet
        exact BW
    case rest =>
      clear BW HNO IO1 hbx hoo hvv
      have BW := hcut
      clear hcut
      go_wp2_with fail
      refine (drawHop_any a' ys cb _ hy (HBY.out _ BW)).mono ?_
      rintro e V1 ⟨h, rfl, hph, hb⟩
      replace BW := BW.trans (hb.mono BW.size)
      clear hb
      have IH : Hid (∀ W : World, Calls Tryd.prog 17 #[h.v] W fun e w' => e = .returned (.tuple #[(B1.hop h).v, .bool (B1.hopOk h)]) ∧ Below W.heap.size W w') := fun W => implHop_any h W (by omega)
      have SH : Hid (∀ W : World, Calls Tryd.prog 18 #[h.v] W fun e w' => e = .returned (.tuple #[(B1.hop h).v, .bool (B1.hopOk h)]) ∧ Below W.heap.size W w') := fun W => specHop_any h W (by omega)
      have SM : Hid (∀ (_ : B1.hopOk h = true) (W : World) (_ : PTab W), Calls Tryd.prog 19 #[(B1.hop h).v, h.v] W fun e w' => e = .returned (.tuple #[.bool true, .bool true]) ∧ Below W.heap.size W w') := fun hk W hP => by
        have := implSame_any (B1.hop h) h W (Nat.le_trans (BX.hop_py h hph) (by omega)) (by omega) hP
        rw [(BX.hop_same hk).1, (BX.hop_same hk).2] at this
        exact this
      have GD : Hid (∀ (_ : B1.hopOk h = true) (W : World), Calls Tryd.prog 8 #[(B1.hop h).v] W fun e w' => e = .returned (.bool true) ∧ Below W.heap.size W w') := fun hk W => implGoodBundle_any (B1.hop h) W (Nat.le_trans (BX.hop_py h hph) (by omega)) true (BX.hop_good hk)
      have HF : Hid (∀ (_ : B1.hopOk h = true), (B1.hop h).hp = h.hp - 1 ∧ (B1.hop h).py = h.py ∧ 0 ≤ h.hp ∧ h.hp ≤ 30) := fun hk => by
        rw [BX.hop_is hk]
        have h6 := BX.hop_was hk
        simp only [B1.good, B1.head, inB, Bool.and_eq_true, decide_eq_true_eq] at h6
        exact ⟨rfl, rfl, h6.1.1.2⟩
      have hbh := BX.Box.new V1 24 h V1.heap.size rfl
      replace BW := BW.alloc BW.size (.cells (BX.cs h).toArray 24)
      generalize B1.hopOk h = k at *
      generalize B1.hop h = d at *
      obtain ⟨y0, y1, y2, y3, y4, y5, y6, y7, y8, y9⟩ := h
      simp only [BX.cs, Bd.cs] at hbh BW
      go_wp2_with fail
      generalize V1.alloc (.cells #[.int .i64 y0, .int .i64 y1, .bool y2, .int .i64 y3, .int .i64 y4, .int .i64 y5, .int .i64 y6, .int .i64 y7, .int .i64 y8, .string y9] 24) = V2 at *
      obtain ⟨qh, hq⟩ : ∃ q, V1.heap.size = q := ⟨_, rfl⟩
      rw [hq] at hbh ⊢
      clear hq
      refine (IH.out _).mono ?_
      rintro e V3 ⟨rfl, hb⟩
      replace hbh := hbh.below hb hbh.lt
      replace BW := BW.trans (hb.mono BW.size)
      clear hb
      obtain ⟨z0, z1, z2, z3, z4, z5, z6, z7, z8, z9⟩ := d
      have k0 := hbh.cells 0
      have k1 := hbh.cells 1
      have k2 := hbh.cells 2
      have k3 := hbh.cells 3
      have k4 := hbh.cells 4
      have k5 := hbh.cells 5
      have k6 := hbh.cells 6
      have k7 := hbh.cells 7
      have k8 := hbh.cells 8
      have k9 := hbh.cells 9
      simp [Bd.cs] at k0 k1 k2 k3 k4 k5 k6 k7 k8 k9
      have kl := hbh.lt
      have hbd := BX.Box.new V3 24 ⟨z0, z1, z2, z3, z4, z5, z6, z7, z8, z9⟩ V3.heap.size rfl
      replace BW := BW.alloc BW.size (.cells #[.int .i64 z0, .int .i64 z1, .bool z2, .int .i64 z3, .int .i64 z4, .int .i64 z5, .int .i64 z6, .int .i64 z7, .int .i64 z8, .string z9] 24)
      replace hbh := hbh.alloc (.cells #[.int .i64 z0, .int .i64 z1, .bool z2, .int .i64 z3, .int .i64 z4, .int .i64 z5, .int .i64 z6, .int .i64 z7, .int .i64 z8, .string z9] 24)
      simp only [BX.cs, Bd.cs] at hbd
      go_wp2_with fail
      clear k0 k1 k2 k3 k4 k5 k6 k7 k8 k9 kl
      generalize V3.alloc (.cells #[.int .i64 z0, .int .i64 z1, .bool z2, .int .i64 z3, .int .i64 z4, .int .i64 z5, .int .i64 z6, .int .i64 z7, .int .i64 z8, .string z9] 24) = V4 at *
      obtain ⟨qd, hq⟩ : ∃ q, V3.heap.size = q := ⟨_, rfl⟩
      rw [hq] at hbd ⊢
      clear hq
      refine (SH.out _).mono ?_
      rintro e V5 ⟨rfl, hb⟩
      replace hbh := hbh.below hb hbh.lt
      replace hbd := hbd.below hb hbd.lt
      replace BW := BW.trans (hb.mono BW.size)
      clear hb
      have k0 := hbh.cells 0
      have k1 := hbh.cells 1
      have k2 := hbh.cells 2
      have k3 := hbh.cells 3
      have k4 := hbh.cells 4
      have k5 := hbh.cells 5
      have k6 := hbh.cells 6
      have k7 := hbh.cells 7
      have k8 := hbh.cells 8
      have k9 := hbh.cells 9
      simp [Bd.cs] at k0 k1 k2 k3 k4 k5 k6 k7 k8 k9
      have kl := hbh.lt
      have l0 := hbd.cells 0
      have l1 := hbd.cells 1
      have l2 := hbd.cells 2
      have l3 := hbd.cells 3
      have l4 := hbd.cells 4
      have l5 := hbd.cells 5
      have l6 := hbd.cells 6
      have l7 := hbd.cells 7
      have l8 := hbd.cells 8
      have l9 := hbd.cells 9
      simp [Bd.cs] at l0 l1 l2 l3 l4 l5 l6 l7 l8 l9
      have ll := hbd.lt
      replace BW := BW.alloc BW.size (.cells #[.int .i64 z0, .int .i64 z1, .bool z2, .int .i64 z3, .int .i64 z4, .int .i64 z5, .int .i64 z6, .int .i64 z7, .int .i64 z8, .string z9] 24)
      replace hbh := hbh.alloc (.cells #[.int .i64 z0, .int .i64 z1, .bool z2, .int .i64 z3, .int .i64 z4, .int .i64 z5, .int .i64 z6, .int .i64 z7, .int .i64 z8, .string z9] 24)
      replace hbd := hbd.alloc (.cells #[.int .i64 z0, .int .i64 z1, .bool z2, .int .i64 z3, .int .i64 z4, .int .i64 z5, .int .i64 z6, .int .i64 z7, .int .i64 z8, .string z9] 24)
      clear IH SH
      have hkk : (k != k) = false := by simp
      go_upto_if 102 with fail
      go_cut [18, 19] (fun _ _ wx => Below w.heap.size w wx)
      case first =>
        clear HBY
        cases k
        · clear SM GD HF hbh hbd
          go_wp2_with fail
          go_meet
          exact BW
        · replace SM : Hid _ := SM.out rfl
          replace GD : Hid _ := GD.out rfl
          obtain ⟨e6, e9, h0, h30⟩ := HF.out rfl
          have hw6 : IntKind.i64.wrap (y6 - 1) = y6 - 1 := by rw [IntKind.wrap_i64]; omega
          clear HF
          subst e9
          subst e6
          go_wp2_with fail
          clear k0 k1 k2 k3 k4 k5 k6 k7 k8 k9 kl
          clear l0 l1 l2 l3 l4 l5 l6 l7 l8 l9 ll
          generalize V5.alloc (.cells #[.int .i64 z0, .int .i64 z1, .bool z2, .int .i64 z3, .int .i64 z4, .int .i64 z5, .int .i64 (y6 - 1), .int .i64 z7, .int .i64 z8, .string z9] 24) = V6 at *
          refine (SM.out _ (HT.out _ BW)).mono ?_
          rintro e V7 ⟨rfl, hb⟩
          replace hbh := hbh.below hb hbh.lt
          replace hbd := hbd.below hb hbd.lt
          replace BW := BW.trans (hb.mono BW.size)
          clear hb
          have k0 := hbh.cells 0
          have k1 := hbh.cells 1
          have k2 := hbh.cells 2
          have k3 := hbh.cells 3
          have k4 := hbh.cells 4
          have k5 := hbh.cells 5
          have k6 := hbh.cells 6
          have k7 := hbh.cells 7
          have k8 := hbh.cells 8
          have k9 := hbh.cells 9
          simp [Bd.cs] at k0 k1 k2 k3 k4 k5 k6 k7 k8 k9
          have kl := hbh.lt
          have l0 := hbd.cells 0
          have l1 := hbd.cells 1
          have l2 := hbd.cells 2
          have l3 := hbd.cells 3
          have l4 := hbd.cells 4
          have l5 := hbd.cells 5
          have l6 := hbd.cells 6
          have l7 := hbd.cells 7
          have l8 := hbd.cells 8
          have l9 := hbd.cells 9
          simp [Bd.cs] at l0 l1 l2 l3 l4 l5 l6 l7 l8 l9
          have ll := hbd.lt
          go_wp2_with fail
          clear k0 k1 k2 k3 k4 k5 k6 k7 k8 k9 kl
          clear l0 l1 l2 l3 l4 l5 l6 l7 l8 l9 ll
          refine (GD.out _).mono ?_
          rintro e V8 ⟨rfl, hb⟩
          replace BW := BW.trans (hb.mono BW.size)
          clear hb
          clear GD SM hbh hbd hw6
          go_wp2_with fail
          go_meet
          exact BW
      case rest =>
        clear BW SM GD HF hbh hbd hkk
        clear k0 k1 k2 k3 k4 k5 k6 k7 k8 k9 kl
        clear l0 l1 l2 l3 l4 l5 l6 l7 l8 l9 ll
        have BW := hcut
        clear hcut
        go_wp2_with fail
        refine (drawSame_any a' ys cb _ hy (HBY.out _ BW)).mono ?_
        rintro e U1 ⟨p, r, rfl, hpp, hpr, hb⟩
        replace BW := BW.trans (hb.mono BW.size)
        clear hb
        have IP : Hid (∀ (W : World) (_ : PTab W), Calls Tryd.prog 21 #[p.v] W fun e w' => e = .returned (.tuple #[.string (idR p), .bool (B1.good p)]) ∧ Below W.heap.size W w') := fun W hP => implIdOf_any p W (by omega) hP
        have SP : Hid (∀ W : World, Calls Tryd.prog 22 #[p.v] W fun e w' => e = .returned (.tuple #[.string (idR p), .bool (B1.good p)]) ∧ Below W.heap.size W w') := fun W => specIdOf_any p W (by omega)
        have IQ : Hid (∀ (W : World) (_ : PTab W), Calls Tryd.prog 21 #[r.v] W fun e w' => e = .returned (.tuple #[.string (idR r), .bool (B1.good r)]) ∧ Below W.heap.size W w') := fun W hP => implIdOf_any r W (by omega) hP
        have SS : Hid (∀ (W : World) (_ : PTab W), Calls Tryd.prog 19 #[p.v, r.v] W fun e w' => e = .returned (.tuple #[.bool ((B1.good p && B1.good r) && ((idR p).toList == (idR r).toList)), .bool (B1.good p && B1.good r)]) ∧ Below W.heap.size W w') := fun W hP => implSame_any p r W (by omega) (by omega) hP
        generalize B1.good p = gp at *
        generalize B1.good r = gr at *
        generalize idR p = ip at *
        generalize idR r = ir at *
        obtain ⟨u0, u1, u2, u3, u4, u5, u6, u7, u8, u9⟩ := p
        obtain ⟨v0, v1, v2, v3, v4, v5, v6, v7, v8, v9⟩ := r
        have hbp := (BX.Box.new U1 24 ⟨u0, u1, u2, u3, u4, u5, u6, u7, u8, u9⟩ U1.heap.size rfl).alloc (.cells #[.int .i64 v0, .int .i64 v1, .bool v2, .int .i64 v3, .int .i64 v4, .int .i64 v5, .int .i64 v6, .int .i64 v7, .int .i64 v8, .string v9] 24)
        have hbv := BX.Box.new (U1.alloc (.cells #[.int .i64 u0, .int .i64 u1, .bool u2, .int .i64 u3, .int .i64 u4, .int .i64 u5, .int .i64 u6, .int .i64 u7, .int .i64 u8, .string u9] 24)) 24 ⟨v0, v1, v2, v3, v4, v5, v6, v7, v8, v9⟩ (U1.heap.size + 1) (by simp)
        replace BW := (BW.alloc BW.size (.cells #[.int .i64 u0, .int .i64 u1, .bool u2, .int .i64 u3, .int .i64 u4, .int .i64 u5, .int .i64 u6, .int .i64 u7, .int .i64 u8, .string u9] 24)).alloc (by have := BW.size; simp; omega) (.cells #[.int .i64 v0, .int .i64 v1, .bool v2, .int .i64 v3, .int .i64 v4, .int .i64 v5, .int .i64 v6, .int .i64 v7, .int .i64 v8, .string v9] 24)
        simp only [BX.cs, Bd.cs] at hbp hbv
        go_wp2_with fail
        generalize (U1.alloc (.cells #[.int .i64 u0, .int .i64 u1, .bool u2, .int .i64 u3, .int .i64 u4, .int .i64 u5, .int .i64 u6, .int .i64 u7, .int .i64 u8, .string u9] 24)).alloc (.cells #[.int .i64 v0, .int .i64 v1, .bool v2, .int .i64 v3, .int .i64 v4, .int .i64 v5, .int .i64 v6, .int .i64 v7, .int .i64 v8, .string v9] 24) = U2 at *
        obtain ⟨qr, hqr⟩ : ∃ q, U1.heap.size + 1 = q := ⟨_, rfl⟩
        rw [hqr] at hbv ⊢
        clear hqr
        obtain ⟨qp, hqp⟩ : ∃ q, U1.heap.size = q := ⟨_, rfl⟩
        rw [hqp] at hbp ⊢
        clear hqp
        refine (IP.out _ (HT.out _ BW)).mono ?_
        rintro e U3 ⟨rfl, hb⟩
        replace hbp := hbp.below hb hbp.lt
        replace hbv := hbv.below hb hbv.lt
        replace BW := BW.trans (hb.mono BW.size)
        clear hb
        have k0 := hbp.cells 0
        have k1 := hbp.cells 1
        have k2 := hbp.cells 2
        have k3 := hbp.cells 3
        have k4 := hbp.cells 4
        have k5 := hbp.cells 5
        have k6 := hbp.cells 6
        have k7 := hbp.cells 7
        have k8 := hbp.cells 8
        have k9 := hbp.cells 9
        simp [Bd.cs] at k0 k1 k2 k3 k4 k5 k6 k7 k8 k9
        have kl := hbp.lt
        go_wp2_with fail
        clear k0 k1 k2 k3 k4 k5 k6 k7 k8 k9 kl
        refine (SP.out _).mono ?_
        rintro e U4 ⟨rfl, hb⟩
        replace hbp := hbp.below hb hbp.lt
        replace hbv := hbv.below hb hbv.lt
        replace BW := BW.trans (hb.mono BW.size)
        clear hb
        have k0 := hbv.cells 0
        have k1 := hbv.cells 1
        have k2 := hbv.cells 2
        have k3 := hbv.cells 3
        have k4 := hbv.cells 4
        have k5 := hbv.cells 5
        have k6 := hbv.cells 6
        have k7 := hbv.cells 7
        have k8 := hbv.cells 8
        have k9 := hbv.cells 9
        simp [Bd.cs] at k0 k1 k2 k3 k4 k5 k6 k7 k8 k9
        have kl := hbv.lt
        go_wp2_with fail
        clear k0 k1 k2 k3 k4 k5 k6 k7 k8 k9 kl
        refine (IQ.out _ (HT.out _ BW)).mono ?_
        rintro e U5 ⟨rfl, hb⟩
        replace hbp := hbp.below hb hbp.lt
        replace hbv := hbv.below hb hbv.lt
        replace BW := BW.trans (hb.mono BW.size)
        clear hb
        have k0 := hbp.cells 0
        have k1 := hbp.cells 1
        have k2 := hbp.cells 2
        have k3 := hbp.cells 3
        have k4 := hbp.cells 4
        have k5 := hbp.cells 5
        have k6 := hbp.cells 6
        have k7 := hbp.cells 7
        have k8 := hbp.cells 8
        have k9 := hbp.cells 9
        simp [Bd.cs] at k0 k1 k2 k3 k4 k5 k6 k7 k8 k9
        have kl := hbp.lt
        have l0 := hbv.cells 0
        have l1 := hbv.cells 1
        have l2 := hbv.cells 2
        have l3 := hbv.cells 3
        have l4 := hbv.cells 4
        have l5 := hbv.cells 5
        have l6 := hbv.cells 6
        have l7 := hbv.cells 7
        have l8 := hbv.cells 8
        have l9 := hbv.cells 9
        simp [Bd.cs] at l0 l1 l2 l3 l4 l5 l6 l7 l8 l9
        have ll := hbv.lt
        go_wp2_with fail
        clear k0 k1 k2 k3 k4 k5 k6 k7 k8 k9 kl
        clear l0 l1 l2 l3 l4 l5 l6 l7 l8 l9 ll
        refine (SS.out _ (HT.out _ BW)).mono ?_
        rintro e U6 ⟨rfl, hb⟩
        replace BW := BW.trans (hb.mono BW.size)
        clear hb
        clear IP SP IQ SS hbp hbv
        have hself : (ip.toList == ip.toList) = true := by simp
        cases gp
        · cases gr <;> (go_wp2; go_ret; exact ⟨rfl, BW⟩)
        · cases gr
          · go_wp2
            go_ret
            exact ⟨rfl, BW⟩
          · rcases heb : (ip.toList == ir.toList) with _ | _
            all_goals (go_wp2; go_ret; exact ⟨rfl, BW⟩)
  · have h20' : (1048576 : Int) < (zs.length : Int) + (ys.length : Int) := by omega
    go_enter Tryd.func4, Tryd.ntmps4
    go_wp2
    go_ret
    exact ⟨rfl, Below.refl _ _⟩
end Go.Proofs.YtcpfbgogfhlmjaaDoor
