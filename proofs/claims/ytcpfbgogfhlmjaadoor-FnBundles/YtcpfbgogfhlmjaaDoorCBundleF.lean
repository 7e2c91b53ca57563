import Derived.Test.YtcpfbgogfhlmjaaDoorCPick
import Derived.Test.YtcpfbgogfhlmjaaDoorM2
import Derived.Test.YtcpfbgogfhlmjaaDoorMB3
import Derived.Test.YtcpfbgogfhlmjaaDoorMCrc
import Derived.Test.YtcpfbgogfhlmjaaDoorCBundleBytes
import Derived.Test.YtcpfbgogfhlmjaaDoorRows
import Derived.Test.YtcpfbgogfhlmjaaDoorCBundleE
import Derived.WalkKit
import Derived.WalkSpells
import Derived.WalkLawsBesides
import Derived.Outline
/- The walk of the cursor's spoilt: some text, at most two bytes longer. -/
namespace Go.Proofs.YtcpfbgogfhlmjaaDoor
open Go.RowKit
theorem bsize_one (x : UInt8) : (⟨#[x]⟩ : ByteArray).size = 1 := rfl
set_option maxHeartbeats 1600000 in
set_option maxRecDepth 100000 in
theorem spoilt_any (p : Nat) (a : Option Addr) (zs : List Int) (cap M : Nat) (t0 wi : ByteArray) (w : World) (hz : zs.length ≤ 140737488355328) (hM : M ≤ 140737488330000) (hc : MC.Cur w p a zs cap M) (ht : t0.size ≤ 1048576) (hw0 : 0 < wi.size) (hw : wi.size ≤ 1000) :
    Calls Tryd.prog 37 #[.pointer (some ⟨p, 0, none⟩), .string t0, .string wi] w fun e w' => ∃ t : ByteArray, e = .returned (.string t) ∧ t.size ≤ t0.size + 2 ∧ MC.Cur w' p a zs cap (M + 20) ∧ MC.Only p w w' := by
  have hcv := M2.conv1 (P := Tryd.prog) 22 9 5 Tryd.underlying22 Tryd.underlying5 Tryd.underlying9
  have hplt := hc.lt
  go_enter Tryd.func37, Tryd.ntmps37
  go_wp2_with fail
  refine (pick_any p a zs cap M _ _ hz (by omega) hc).mono ?_
  rintro e w1 ⟨r, rfl, hr, _, hc1, ho1⟩
  have hr3 : r < 3 := by omega
  clear hr hc
  go_wp2_with fail
  go_loopw [1, 7, 8, 9] (fun tv nv iv wv wr => ∃ (m : Nat) (t : ByteArray) (M' : Nat), tv = .string t ∧ nv = .int .i64 m ∧ t.size + m ≤ t0.size + 2 ∧ MC.Cur wr p a zs cap M' ∧ M' + 8 * m ≤ M + 20 ∧ MC.Only p w wr) (fun _ nv _ _ _ => (intOf nv).toNat)
  case atStart => exact ⟨r, t0, M + 2, rfl, rfl, by omega, hc1, by omega, ho1⟩
  case round =>
    clear hc1 ho1
    obtain ⟨m, t, M', rfl, rfl, hm, hcr, hMr, hor⟩ := hrel
    by_cases hm0 : 0 < m
    · by_cases hts : 0 < t.size
      · go_wp2_with fail
        refine (pick_any p a zs cap M' _ _ hz (by omega) hcr).mono ?_
        rintro e w2 ⟨i, rfl, hi, _, hc2, ho2⟩
        have hi' : i < t.size := by omega
        have ho2' := hor.trans ho2
        clear hi hcr hor ho2
        go_wp2_with fail
        refine (pick_any p a zs cap (M' + 2) _ _ hz (by omega) hc2).mono ?_
        rintro e w3 ⟨j, rfl, hj, _, hc3, ho3⟩
        have hj' : j < wi.size := by omega
        have ho3' := ho2'.trans ho3
        clear hj hc2 ho2' ho3
        go_wp2_with fail
        refine (pick_any p a zs cap (M' + 4) _ _ hz (by omega) (hc3.alloc _)).mono ?_
        rintro e w4 ⟨k, rfl, hk, _, hc4, ho4⟩
        have hk3 : k < 3 := by omega
        have ho4' := (ho3'.alloc _).trans ho4
        clear hk hc3 ho3' ho4
        have hk' : k = 0 ∨ k = 1 ∨ k = 2 := by omega
        rcases hk' with rfl | rfl | rfl
        · go_wp2
          go_quiet (fail)
          go_wp2
          go_roundw
          case rel => exact ⟨m - 1, _, M' + 6, rfl, by go_num, by simp [bsize_one]; omega, hc4.below (below_drewN (Below.refl _ _) _), by omega, ho4'.drewN _⟩
          case measure => simp [intOf]; omega
        · go_wp2
          go_quiet (fail)
          go_wp2
          go_roundw
          case rel => exact ⟨m - 1, _, M' + 6, rfl, by go_num, by simp [bsize_one]; omega, hc4.below (below_drewN (Below.refl _ _) _), by omega, ho4'.drewN _⟩
          case measure => simp [intOf]; omega
        · go_wp2
          go_quiet (fail)
          go_wp2
          go_roundw
          case rel => exact ⟨m - 1, _, M' + 6, rfl, by go_num, by simp; omega, hc4.below (below_drewN (Below.refl _ _) _), by omega, ho4'.drewN _⟩
          case measure => simp [intOf]; omega
      · have hts0 : t.size = 0 := by omega
        go_wp2
        go_ret
        exact ⟨t, rfl, by omega, hcr.more (by omega), hor⟩
    · go_wp2
      go_ret
      exact ⟨t, rfl, by omega, hcr.more (by omega), hor⟩
end Go.Proofs.YtcpfbgogfhlmjaaDoor

/- A bundle comes back from its bytes, and where one of these was turned none does: plain facts. -/
namespace Go.Proofs.YtcpfbgogfhlmjaaDoor
namespace FB
theorem bOf_items (b : Bd) : B3.bOf (B2.items b) = b := by
  obtain ⟨fr, to, gr, md, no, lf, hp, of, tl, py⟩ := b
  cases gr <;> rfl
/-- What ReadBundle answers. -/
noncomputable def rd (s : ByteArray) : Bd × Bool := open Classical in if B3.P s then (B3.bOf (B3.L s), true) else (B1.zero, false)
theorem rb_is {s : ByteArray} {e : Ending} (h : RB s e) : e = .returned (.tuple #[(rd s).1.v, .bool (rd s).2]) := by
  rcases h with ⟨h1, h2⟩ | ⟨h1, h2⟩
  · rw [rd, if_pos h1]; exact h2
  · rw [rd, if_neg h1]; exact h2
theorem P_of {b : Bd} (h : B1.good b = true) : B3.P (bbS b) ∧ B3.L (bbS b) = B2.items b := by
  have hs := bb_size h
  have hb : bodyOf (bbS b) = ⟨(M12.bytes (B2.items b)).toArray⟩ := MCrc.body_with _
  have hr : M16.read (bodyOf (bbS b)) = (B2.items b, true) := by
    rw [hb]
    exact M16.read_yes (B2.good_items h) rfl (by omega)
  have hL : B3.L (bbS b) = B2.items b := by unfold B3.L; rw [hr]
  refine ⟨⟨(MCrc.told _ (by omega)).1, by rw [hr], by rw [hL]; rfl, by rw [hL, bOf_items]; exact h, by rw [hL, bOf_items]⟩, hL⟩
theorem back {b : Bd} (h : B1.good b = true) : rd (bbR b) = (b, true) := by
  obtain ⟨h1, h2⟩ := P_of h
  rw [← bbR_yes h, rd, if_pos h1, h2, bOf_items]
theorem turned {b : Bd} (h : B1.good b = true) (i d : Nat) (hi : i < (bbR b).size) (hd : 0 < d) (hd' : d < 256) : (rd (MCrc.flip (bbR b) i d)).2 = false := by
  rw [← bbR_yes h] at hi ⊢
  have hz : (bbS b).size = (⟨(M12.bytes (B2.items b)).toArray⟩ : ByteArray).size + 2 := MCrc.with_size _
  have := MCrc.seen ⟨(M12.bytes (B2.items b)).toArray⟩ i d (by omega) hd hd'
  rw [rd, if_neg]
  intro hP
  have hc : chk (MCrc.flip (bbS b) i d) = true := hP.1
  have hc' : chk (MCrc.flip (bbS b) i d) = false := this
  rw [hc'] at hc
  cases hc
theorem again {t : ByteArray} (h : (rd t).2 = true) : B1.good (rd t).1 = true ∧ bbR (rd t).1 = t := by
  by_cases hP : B3.P t
  · have e : rd t = (B3.bOf (B3.L t), true) := by rw [rd, if_pos hP]
    rw [e]
    obtain ⟨h1, h2, h3, h4, h5⟩ := hP
    refine ⟨h4, ?_⟩
    rw [← bbR_yes h4]
    exact (B3.same_iff h1 h2 h4).2 h5
  · rw [rd, if_neg hP] at h
    cases h
theorem bb_ok {b : Bd} (h : B1.good b = true) : 2 ≤ (bbR b).size ∧ (bbR b).size ≤ 117 := by
  rw [← bbR_yes h]
  have hz : (bbS b).size = (⟨(M12.bytes (B2.items b)).toArray⟩ : ByteArray).size + 2 := MCrc.with_size _
  have hs := bb_size h
  omega
theorem bb_le (b : Bd) : (bbR b).size ≤ 117 := by
  cases h : B1.good b
  · rw [← bbR_no h]; decide
  · exact (bb_ok h).2
theorem rd_py (t : ByteArray) : (rd t).1.py.size ≤ 60 := by
  by_cases hP : B3.P t
  · have e : rd t = (B3.bOf (B3.L t), true) := by rw [rd, if_pos hP]
    rw [e]
    exact (B1.good_is hP.2.2.2.1).2.2.2.2.2.2.1
  · have e : rd t = (B1.zero, false) := by rw [rd, if_neg hP]
    rw [e]
    decide
end FB
end Go.Proofs.YtcpfbgogfhlmjaaDoor

/- DrawBundleBytes, DrawReadBundle. -/
namespace Go.Proofs.YtcpfbgogfhlmjaaDoor
open Go.RowKit
set_option linter.unusedSimpArgs false in
set_option maxHeartbeats 3200000 in
set_option maxRecDepth 100000 in
theorem drawBundleBytes_any (a : Option Addr) (zs : List Int) (cap : Nat) (w : World) (hz : zs.length ≤ 140737488355328) (hb : MC.BytesAt w w.heap.size a zs) :
    Calls Tryd.prog 5 #[.slice a zs.length cap] w fun e w' => ∃ b : Bd, e = .returned b.v ∧ b.py.size ≤ 60 ∧ Below w.heap.size w w' := by
  have hbr := BX.Box.new w 24 B1.zero w.heap.size rfl
  have hW0 : Below w.heap.size w (w.alloc (.cells (BX.cs B1.zero).toArray 24)) := (Below.refl _ w).alloc (Nat.le_refl _) _
  have hb0 := bytes_up (.cells (BX.cs B1.zero).toArray 24) hb
  have hs0 : (w.alloc (.cells (BX.cs B1.zero).toArray 24)).heap.size = w.heap.size + 1 := by simp
  simp only [BX.cs, Bd.cs, B1.zero] at hbr hW0 hb0 hs0
  clear hb
  go_enter Tryd.func5, Tryd.ntmps5
  go_wp2_with fail
  generalize w.alloc (.cells #[.int .i64 0, .int .i64 0, .bool false, .int .i64 0, .int .i64 0, .int .i64 0, .int .i64 0, .int .i64 0, .int .i64 0, .string ⟨#[]⟩] 24) = W0 at *
  change BX.Box W0 w.heap.size 24 B1.zero at hbr
  refine (drawGoodBundle_any a zs cap _ hz hb0).mono ?_
  rintro e w1 ⟨b, rfl, hpy, hB1⟩
  have hBw := hW0.trans (hB1.mono (by omega))
  replace hbr := hbr.below hB1 (by omega)
  clear hB1 hb0 hW0
  obtain ⟨x0, x1, x2, x3, x4, x5, x6, x7, x8, x9⟩ := b
  have m0 := hbr.cells 0
  have g0 := hbr.free 0
  have m1 := hbr.cells 1
  have g1 := hbr.free 1
  have m2 := hbr.cells 2
  have g2 := hbr.free 2
  have m3 := hbr.cells 3
  have g3 := hbr.free 3
  have m4 := hbr.cells 4
  have g4 := hbr.free 4
  have m5 := hbr.cells 5
  have g5 := hbr.free 5
  have m6 := hbr.cells 6
  have g6 := hbr.free 6
  have m7 := hbr.cells 7
  have g7 := hbr.free 7
  have m8 := hbr.cells 8
  have g8 := hbr.free 8
  have m9 := hbr.cells 9
  have g9 := hbr.free 9
  simp [Bd.cs, B1.zero] at m0 m1 m2 m3 m4 m5 m6 m7 m8 m9
  have hrl := hbr.lt
  have hP := hbr.put ⟨x0, x1, x2, x3, x4, x5, x6, x7, x8, x9⟩
  have hBE := ((((((((((hBw.setCell (p := ⟨w.heap.size, 0, none⟩) (by simp) (.int .i64 x0)).setCell (p := ⟨w.heap.size, 1, none⟩) (by simp) (.int .i64 x1)).setCell (p := ⟨w.heap.size, 2, none⟩) (by simp) (.bool x2)).setCell (p := ⟨w.heap.size, 3, none⟩) (by simp) (.int .i64 x3)).setCell (p := ⟨w.heap.size, 4, none⟩) (by simp) (.int .i64 x4)).setCell (p := ⟨w.heap.size, 5, none⟩) (by simp) (.int .i64 x5)).setCell (p := ⟨w.heap.size, 6, none⟩) (by simp) (.int .i64 x6)).setCell (p := ⟨w.heap.size, 7, none⟩) (by simp) (.int .i64 x7)).setCell (p := ⟨w.heap.size, 8, none⟩) (by simp) (.int .i64 x8)).setCell (p := ⟨w.heap.size, 9, none⟩) (by simp) (.string x9))
  clear hbr
  go_wp2
  have n0 := hP.cells 0
  have n1 := hP.cells 1
  have n2 := hP.cells 2
  have n3 := hP.cells 3
  have n4 := hP.cells 4
  have n5 := hP.cells 5
  have n6 := hP.cells 6
  have n7 := hP.cells 7
  have n8 := hP.cells 8
  have n9 := hP.cells 9
  simp [Bd.cs, B1.zero] at n0 n1 n2 n3 n4 n5 n6 n7 n8 n9
  generalize ((((((((((((((((((((w1).setCell ⟨w.heap.size, 0, none⟩ (.int .i64 x0))).setCell ⟨w.heap.size, 1, none⟩ (.int .i64 x1))).setCell ⟨w.heap.size, 2, none⟩ (.bool x2))).setCell ⟨w.heap.size, 3, none⟩ (.int .i64 x3))).setCell ⟨w.heap.size, 4, none⟩ (.int .i64 x4))).setCell ⟨w.heap.size, 5, none⟩ (.int .i64 x5))).setCell ⟨w.heap.size, 6, none⟩ (.int .i64 x6))).setCell ⟨w.heap.size, 7, none⟩ (.int .i64 x7))).setCell ⟨w.heap.size, 8, none⟩ (.int .i64 x8))).setCell ⟨w.heap.size, 9, none⟩ (.string x9)) = WE at *
  exact bodyPost_ret (v := .agg #[.int .i64 x0, .int .i64 x1, .bool x2, .int .i64 x3, .int .i64 x4, .int .i64 x5, .int .i64 x6, .int .i64 x7, .int .i64 x8, .string x9]) (by simp [results, Tryd.results5, go_sem, n0, n1, n2, n3, n4, n5, n6, n7, n8, n9]) rfl ⟨⟨x0, x1, x2, x3, x4, x5, x6, x7, x8, x9⟩, rfl, hpy, hBE⟩
set_option maxHeartbeats 3200000 in
set_option maxRecDepth 100000 in
theorem drawReadBundle_any (a : Option Addr) (zs : List Int) (cap : Nat) (w : World) (hz : zs.length ≤ 140737488355328) (hb : MC.BytesAt w w.heap.size a zs) :
    Calls Tryd.prog 11 #[.slice a zs.length cap] w fun e w' => ∃ s : ByteArray, e = .returned (.string s) ∧ s.size ≤ 119 ∧ Below w.heap.size w w' := by
  go_enter Tryd.func11, Tryd.ntmps11
  go_wp2_with fail
  obtain ⟨p, hp⟩ : ∃ p, w.heap.size = p := ⟨_, rfl⟩
  have hcur := cur_new (T := 61) (cap := cap) hb
  have hnb : Hid (∀ W, MC.Only p (w.alloc (.cells #[.slice a zs.length cap, .int .i64 0, .int .u64 0] 61)) W → Below w.heap.size w W) := fun W h => new_below hp.symm h
  rw [hp] at hcur ⊢
  clear hp hb
  generalize w.alloc (.cells #[.slice a zs.length cap, .int .i64 0, .int .u64 0] 61) = W0 at *
  refine (bundle_any p a zs cap 0 _ hz (by omega) hcur).mono ?_
  rintro e w1 ⟨b, rfl, hpy, hc, hor⟩
  have hsz := FB.bb_le b
  clear hcur
  go_wp2_with fail
  refine (specBundleBytes_any b w1 (by omega)).mono ?_
  rintro e w2 ⟨rfl, hb2⟩
  replace hc := hc.below hb2
  replace hor := hor.trans (MC.Only.of_below hb2)
  clear hb2
  generalize bbR b = s at *
  generalize B1.good b = gd at *
  go_wp2_with fail
  refine (one_any p a zs cap (0 + 40) _ _ hz (by omega) hc).mono ?_
  rintro e w3 ⟨b3, rfl, hc3, ho3⟩
  replace hor := hor.trans ho3
  clear hc ho3
  cases b3
  · have hB := hnb.out _ hor
    go_wp2
    go_ret
    exact ⟨s, rfl, by omega, hB⟩
  · go_wp2_with fail
    refine (spoilt_any p a zs cap (0 + 40 + 2) s ⟨#[0, 24, 138]⟩ _ hz (by omega) hc3 (by omega) (by decide) (by decide)).mono ?_
    rintro e w4 ⟨t, rfl, ht, hc4, ho4⟩
    have hB := hnb.out _ (hor.trans ho4)
    clear hc4 hor ho4 hc3 hnb
    go_wp2
    go_ret
    exact ⟨t, rfl, by omega, hB⟩
end Go.Proofs.YtcpfbgogfhlmjaaDoor
