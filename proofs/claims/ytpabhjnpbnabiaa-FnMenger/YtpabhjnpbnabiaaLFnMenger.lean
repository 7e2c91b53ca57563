import Derived.Test.YtpabhjnpbnabiaaRows
import Derived.Test.YtpabhjnpbnabiaaCSameInts
import Derived.Test.YtpabhjnpbnabiaaMNR
import Derived.Test.YtpabhjnpbnabiaaMRP
import Derived.Test.YtpabhjnpbnabiaaMRH
import Derived.WalkKit
import Derived.WalkSpells
import Derived.WalkLawsBesides
import Derived.Outline
import Derived.Test.YtpabhjnpbnabiaaCHasI
import Derived.Test.YtpabhjnpbnabiaaMCur
import Derived.Test.YtpabhjnpbnabiaaMMH
import Derived.Test.YtpabhjnpbnabiaaCDrawW
import Derived.Test.YtpabhjnpbnabiaaCWaysI
import Derived.Test.YtpabhjnpbnabiaaCWaysS
import Derived.Test.YtpabhjnpbnabiaaCFewest
import Derived.Test.YtpabhjnpbnabiaaCIsWay
import Derived.Test.YtpabhjnpbnabiaaCApartI
import Derived.Test.YtpabhjnpbnabiaaCReachI
import Derived.Test.YtpabhjnpbnabiaaCLinks
import Derived.Test.YtpabhjnpbnabiaaCLinksS
/- Rows of rows that are alike: the laws' sameLists. -/
namespace Go.Proofs.Ytpabhjnpbnabiaa
open Go.RowKit
set_option linter.unusedSimpArgs false in
set_option maxHeartbeats 1600000 in
set_option maxRecDepth 100000 in
theorem sameLists_any (a b : Option Addr) (ca cb : Nat) (L : List (List Int)) (w : World) (hL : L.length ≤ 1048576) (ht : NR.tot L ≤ 1048576) (ha : NR.RowsAt w a L) (hb : NR.RowsAt w b L) :
    Calls Try.prog 9 #[.slice a L.length ca, .slice b L.length cb] w fun e w' => e = .returned (.bool true) ∧ Below w.heap.size w w' := by
  have HA : Hid _ := ha
  have HB : Hid _ := hb
  clear ha hb
  go_enter Try.func9, Try.ntmps9
  go_wp2
  go_loopw [13] (fun iv wr => ∃ k : Nat, iv = .int .i64 k ∧ k ≤ L.length ∧ Below w.heap.size w wr) (fun iv _ => (L.length - intOf iv).toNat)
  case atStart => exact ⟨0, rfl, by omega, Below.refl _ _⟩
  case round =>
    obtain ⟨k, rfl, hk, hb⟩ := hrel
    by_cases hlk : k < L.length
    · have hki : (k : Int) < (L.length : Int) := by omega
      obtain ⟨b1, off1, a1, d1, hab1, hlt1, e1, _, i1⟩ := (HA.out.below hb).at hlk
      obtain ⟨b2, off2, a2, d2, hab2, hlt2, e2, _, i2⟩ := (HB.out.below hb).at hlk
      have hrt := NR.tot_row L hlk
      have SI : Hid (∀ w' : World, Below wr.heap.size wr w' → Calls Try.prog 10 #[.slice a1 (NR.rw_ L k).length d1, .slice a2 (NR.rw_ L k).length d2] w' fun e w'' => e = .returned (.bool true) ∧ Below w'.heap.size w' w'') := fun w' h => by
        have := sameInts_any a1 a2 d1 d2 (NR.rw_ L k) (NR.rw_ L k) w' (by omega) (by omega) (i1.below h) (i2.below h)
        rwa [decide_eq_true rfl] at this
      generalize (NR.rw_ L k).length = rl at *
      subst hab1 hab2
      have HBW : Hid _ := hb
      clear i1 i2 hb HA HB
      go_wp2_with fail
      refine MR.frame fun A hA => ?_
      have hsz : A.tmps.size = 27 := by rw [hA]; rfl
      have e0 : A.eval (.tmp 0) = .slice (some ⟨b1, off1, none⟩) L.length ca := by rw [hA]; rfl
      have f0 := MR.read (t := 0) (by rw [hsz]; decide) e0
      have g1 : A.eval (.tmp 1) = .slice (some ⟨b2, off2, none⟩) L.length cb := by rw [hA]; rfl
      have f1 := MR.read (t := 1) (by rw [hsz]; decide) g1
      have e5 : A.eval (.tmp 5) = .int .i64 (k : Int) := by rw [hA]; rfl
      have f5 := MR.read (t := 5) (by rw [hsz]; decide) e5
      have HA : Hid (A = _) := hA
      clear hA
      have hS : (fun w' => Below wr.heap.size wr w') (World.drew _) := (Below.refl _ wr).drew
      refine wp_region_held (S := fun w' => Below wr.heap.size wr w') (by kernel_rfl) ?_
      change wpAnyH _ _ _ _ _ _ _ _ (World.drew _)
      refine MR.takeH (i := 0) (some 16) (.slice (some ⟨b1, off1, none⟩) L.length ca) rfl rfl (by kernel_rfl) (by kernel_rfl) (by kernel_rfl) (fun _ _ _ h => h) hS (MR.free rfl) (fun wq hw => by simp [execOp, MR.ev, MR.size, hsz, e0, f0, g1, f1, e5, f5, go_sem]) ?_
      refine MR.takeH (i := 1) (some 17) (.int .i64 (k : Int)) rfl rfl (by kernel_rfl) (by kernel_rfl) (by kernel_rfl) (fun _ _ _ h => h) hS (MR.free rfl) (fun wq hw => by simp [execOp, MR.ev, MR.size, hsz, e0, f0, g1, f1, e5, f5, go_sem]) ?_
      refine MR.takeH (i := 2) (some 18) (.pointer (some ⟨b1, off1 + k, none⟩)) rfl rfl (by kernel_rfl) (by kernel_rfl) (by kernel_rfl) (fun _ _ _ h => h) hS (MR.free rfl) (fun wq hw => by simp [execOp, MR.ev, MR.size, hsz, e0, f0, g1, f1, e5, f5, Try.underlying26, hlk, hki, go_sem]) ?_
      refine MR.takeH (i := 3) (some 19) (.slice a1 rl d1) rfl rfl (by kernel_rfl) (by kernel_rfl) (by kernel_rfl) (fun _ _ _ h => h) hS (MR.free rfl) (fun wq hw => by simp [execOp, MR.ev, MR.size, hsz, e0, f0, g1, f1, e5, f5, (hw.cell (p := ⟨b1, off1 + k, none⟩) hlt1).trans e1, go_sem]) ?_
      refine MR.takeH (i := 4) (some 20) (.slice (some ⟨b2, off2, none⟩) L.length cb) rfl rfl (by kernel_rfl) (by kernel_rfl) (by kernel_rfl) (fun _ _ _ h => h) hS (MR.free rfl) (fun wq hw => by simp [execOp, MR.ev, MR.size, hsz, e0, f0, g1, f1, e5, f5, go_sem]) ?_
      refine MR.takeH (i := 5) (some 21) (.int .i64 (k : Int)) rfl rfl (by kernel_rfl) (by kernel_rfl) (by kernel_rfl) (fun _ _ _ h => h) hS (MR.free rfl) (fun wq hw => by simp [execOp, MR.ev, MR.size, hsz, e0, f0, g1, f1, e5, f5, go_sem]) ?_
      refine MR.takeH (i := 6) (some 22) (.pointer (some ⟨b2, off2 + k, none⟩)) rfl rfl (by kernel_rfl) (by kernel_rfl) (by kernel_rfl) (fun _ _ _ h => h) hS (MR.free rfl) (fun wq hw => by simp [execOp, MR.ev, MR.size, hsz, e0, f0, g1, f1, e5, f5, Try.underlying26, hlk, hki, go_sem]) ?_
      refine MR.takeH (i := 7) (some 23) (.slice a2 rl d2) rfl rfl (by kernel_rfl) (by kernel_rfl) (by kernel_rfl) (fun _ _ _ h => h) hS (MR.free rfl) (fun wq hw => by simp [execOp, MR.ev, MR.size, hsz, e0, f0, g1, f1, e5, f5, (hw.cell (p := ⟨b2, off2 + k, none⟩) hlt2).trans e2, go_sem]) ?_
      refine MR.callH (i := 8) (some 24) (10) (#[.slice a1 rl d1, .slice a2 rl d2]) (by kernel_rfl) rfl rfl (MR.free rfl) (by simp [execOp, MR.ev, MR.size, hsz, e0, f0, g1, f1, e5, f5, go_sem]) ?_
      refine (SI.out _ hS).mono ?_
      rintro e w2 ⟨rfl, hb2⟩
      have hS2 : Below wr.heap.size wr w2 := hS.trans (hb2.mono hS.size)
      refine ⟨_, rfl, hS2, ?_⟩
      refine MR.takeH (i := 9) (some 25) (.bool false) rfl rfl (by kernel_rfl) (by kernel_rfl) (by kernel_rfl) (fun _ _ _ h => h) hS2 (MR.free rfl) (fun wq hw => by simp [execOp, MR.ev, MR.size, hsz, e0, f0, g1, f1, e5, f5, go_sem]) ?_
      refine wpAnyH_done (by kernel_rfl) ?_ _
      rw [HA.out]
      simp only [Act.put, List.setIfInBounds_toArray, List.set_cons_succ, List.set_cons_zero]
      have HB3 : Hid _ := HBW.out.trans (hS2.mono HBW.out.size)
      clear HA hsz e0 f0 g1 f1 e5 f5 hS hS2 hb2 SI HBW e1 e2
      go_wp2
      go_roundw
      case rel => exact ⟨k + 1, by go_num, by omega, HB3.out⟩
      case measure => simp [intOf]; omega
    · obtain rfl : k = L.length := by omega
      clear HA HB
      go_wp2
      go_ret
      exact ⟨rfl, hb⟩
end Go.Proofs.Ytpabhjnpbnabiaa

/- The laws' has: whether a number is in a row. -/
namespace Go.Proofs.Ytpabhjnpbnabiaa
open Go.RowKit
set_option maxHeartbeats 1600000 in
set_option maxRecDepth 100000 in
theorem hasL_any (a : Option Addr) (cap : Nat) (zs : List Int) (x : Int) (w : World) (ho : zs.length ≤ 1048576) (hos : M4.IntsAt w a zs) :
    Calls Try.prog 14 #[.slice a zs.length cap, .int .i64 x] w fun e w' => e = .returned (.bool (EG.hasB zs x)) ∧ w = w' := by
  go_enter Try.func14, Try.ntmps14
  go_wp2
  go_loopw [9] (fun iv wr => ∃ k : Nat, iv = .int .i64 k ∧ k ≤ zs.length ∧ Hid (EG.noUp zs x k) ∧ w = wr) (fun iv _ => (zs.length - intOf iv).toNat)
  case atStart => exact ⟨0, rfl, by omega, show Hid _ from fun j hj => by omega, rfl⟩
  case round =>
    obtain ⟨k, rfl, hk, hT, rfl⟩ := hrel
    by_cases hlk : k < zs.length
    · obtain ⟨b1, off1, rfl, hlt1, hc1⟩ := hos.at hlk
      have HY : Hid _ := fun h => EG.hasB_yes (x := x) hlk h
      have HN : Hid _ := fun h => EG.noUp_succ hT.out (k := k) h
      clear hos hT
      generalize zs.getD k 0 = y at *
      by_cases hxy : y = x
      · have hF : Hid _ := HY.out hxy
        subst hxy
        clear HY HN
        go_wp2
        go_ret
        exact ⟨retB7 hF.out.symm, rfl⟩
      · have hT : Hid _ := HN.out hxy
        clear HY HN
        go_wp2
        go_roundw
        case rel => exact ⟨k + 1, by go_num, by omega, hT, trivial⟩
        case measure => simp [intOf]; omega
    · obtain rfl : k = zs.length := by omega
      have hF : Hid _ := EG.hasB_no hT.out
      clear hos hT
      go_wp2
      go_ret
      exact ⟨retB7 hF.out.symm, rfl⟩
end Go.Proofs.Ytpabhjnpbnabiaa

/- The laws' numberOf, told by its bytes. -/
namespace Go.Proofs.Ytpabhjnpbnabiaa
open Go.RowKit
/-- The number of some bytes. -/
def numF (zs : List Int) : Nat → Nat
  | 0 => 0
  | k + 1 => (31 * numF zs k + (zs.getD k 0).toNat) % 1000003
theorem numF_lt (zs : List Int) : ∀ k, numF zs k < 1000003
  | 0 => by show (0 : Nat) < 1000003; decide
  | _ + 1 => Nat.mod_lt _ (by decide)
set_option maxHeartbeats 800000 in
set_option maxRecDepth 100000 in
theorem numberF_any (a : Option Addr) (zs : List Int) (cap p : Nat) (w : World) (hz : zs.length ≤ 140737488355328) (hb : MC.BytesAt w p a zs) :
    Calls Try.prog 17 #[.slice a zs.length cap] w fun e w' => e = .returned (.int .i64 (numF zs zs.length : Int)) ∧ w = w' := by
  have HN : Hid (∀ k, numF zs (k + 1) = (31 * numF zs k + (zs.getD k 0).toNat) % 1000003) := fun k => rfl
  have HL : Hid (∀ k, numF zs k < 1000003) := numF_lt zs
  have H0 : Hid (numF zs 0 = 0) := rfl
  generalize numF zs = nf at *
  go_enter Try.func17, Try.ntmps17
  go_wp2
  go_loop [3, 5, 8] (fun nv _ iv => ∃ n k : Nat, nv = .int .i64 n ∧ iv = .int .i64 k ∧ Hid (nf k = n) ∧ n < 1000003 ∧ k ≤ zs.length) (fun _ _ iv => (zs.length - intOf iv).toNat)
  case atStart => exact ⟨0, 0, rfl, rfl, H0.out, by omega, by omega⟩
  case round =>
    obtain ⟨n, k, rfl, rfl, hnf, hn, hk⟩ := hrel
    by_cases hl : k < zs.length
    · have hzb := hb.1 (zs.getD k 0) (by rw [List.getD_eq_getElem?_getD, List.getElem?_eq_getElem hl]; exact List.getElem_mem hl)
      obtain ⟨b, off, rfl, hbp, hc⟩ : ∃ b off, a = some ⟨b, off, none⟩ ∧ b < p ∧ w.cell? ⟨b, off + k, none⟩ = some (.int .u8 (zs.getD k 0)) := by
        rcases hb.2 with h | ⟨b, off, rfl, h1, h2⟩
        · rw [h] at hl; simp at hl
        · exact ⟨b, off, rfl, h1, h2 k hl⟩
      have hnext : Hid (nf (k + 1) = (31 * n + (zs.getD k 0).toNat) % 1000003) := by
        show _ = _
        rw [HN.out k, hnf.out]
      obtain ⟨m, hm⟩ := Int.eq_ofNat_of_zero_le hzb.1
      rw [hm] at hc hnext hzb
      clear hb hm
      go_wp2
      go_round
      case rel => exact ⟨(31 * n + m) % 1000003, k + 1, by go_num, by go_num, hnext.out, by omega, by omega⟩
      case measure => simp [intOf]; omega
    · obtain rfl : k = zs.length := by omega
      go_wp2
      go_ret
      exact ⟨by rw [hnf.out]; rfl, rfl⟩
end Go.Proofs.Ytpabhjnpbnabiaa

/- The law FnMenger answers true, whatever bytes it draws from. -/
namespace Go.Proofs.Ytpabhjnpbnabiaa
open Go.RowKit
namespace LK
/-- What lies in memory for the law: the links, the ways, the links to cut. -/
structure Kp (W : World) (a1 aw ac : Option Addr) (xs : List I2) (ws : List (List Int)) (c : List Int) : Prop where
  l : MI2.RowAt W a1 xs
  w : NR.RowsAt W aw ws
  c : M4.IntsAt W ac c
theorem Kp.below {W W' : World} {a1 aw ac : Option Addr} {xs : List I2} {ws : List (List Int)} {c : List Int} (h : Kp W a1 aw ac xs ws c) (hb : Below W.heap.size W W') : Kp W' a1 aw ac xs ws c := ⟨h.l.below hb, h.w.below hb, h.c.below hb⟩
theorem ints_own {w : World} {base e n c : Nat} {a : Option Addr} {zs : List Int} (h : w.ownsRow base e 1 (.slice a n c) n (M4.iv zs)) : M4.IntsAt w a zs := by
  have hl : zs.length = n := by have := h.1; simpa [M4.iv] using this
  rcases h.2 with ⟨h1, h0⟩ | ⟨g, cap, cur, h1, -⟩
  · exact .inl (List.eq_nil_of_length_eq_zero (by omega))
  · simp only [Value.slice.injEq] at h1
    obtain ⟨rfl, -, rfl⟩ := h1
    refine .inr ⟨g, 0, rfl, (h.lt g rfl).2, fun j hj => ?_⟩
    rw [Nat.zero_add, h.cellAt j (by omega)]
    simp [M4.iv, hj]
/-- The first i of a row but the m-th. -/
def lessL (c : List Int) (m i : Nat) : List Int := (c.eraseIdx m).take (if m < i then i - 1 else i)
theorem less_zero (c : List Int) (m : Nat) : lessL c m 0 = [] := by simp [lessL]
theorem less_all (c : List Int) (m : Nat) (h : m < c.length) : lessL c m c.length = c.eraseIdx m := by
  unfold lessL
  rw [if_pos h, List.take_of_length_le]
  rw [List.length_eraseIdx, if_pos h]
  omega
theorem less_skip (c : List Int) (m : Nat) : lessL c m (m + 1) = lessL c m m := by simp [lessL]
theorem less_put (c : List Int) (m i : Nat) (hi : i < c.length) (hm : m < c.length) (h : i ≠ m) : lessL c m (i + 1) = lessL c m i ++ [c.getD i 0] := by
  have hg : c.getD i 0 = c[i] := by simp [List.getD_eq_getElem?_getD, hi]
  have hel : (c.eraseIdx m).length = c.length - 1 := by rw [List.length_eraseIdx, if_pos hm]
  unfold lessL
  rw [hg]
  by_cases hlt : m < i
  · rw [if_pos (by omega), if_pos hlt, show i + 1 - 1 = (i - 1) + 1 from by omega, List.take_succ_eq_append_getElem (by omega), List.getElem_eraseIdx_of_ge (by omega) (by omega)]
    simp only [show i - 1 + 1 = i from by omega]
  · rw [if_neg (by omega), if_neg hlt, List.take_succ_eq_append_getElem (by omega), List.getElem_eraseIdx_of_lt (by omega) (by omega)]
theorem less_len (c : List Int) (m i : Nat) : (lessL c m i).length ≤ i := by
  unfold lessL
  rw [List.length_take]
  split <;> omega
end LK
set_option linter.unusedSimpArgs false in
set_option maxHeartbeats 12800000 in
set_option maxRecDepth 100000 in
theorem lawFnMenger_any (a a' : Option Addr) (zs ys : List Int) (ca cb : Nat) (w : World) (hz : zs.length ≤ 140737488355328) (hy : ys.length ≤ 140737488355328) (hbz : MC.BytesAt w w.heap.size a zs) (hby : MC.BytesAt w w.heap.size a' ys) :
    Calls Try.prog 3 #[.slice a zs.length ca, .slice a' ys.length cb] w fun e w' => e = .returned (.bool true) ∧ Below w.heap.size w w' := by
  obtain ⟨i0, hi0, hz0, hz1, hz2⟩ := info_parts Try.info3
  by_cases h20 : zs.length + ys.length ≤ 1048576
  · have HBY : Hid (∀ W : World, Below w.heap.size w W → MC.BytesAt W W.heap.size a' ys) := fun W h => (hby.only (q := w.heap.size) (MC.Only.of_below h) (Nat.le_refl _) (Nat.le_refl _)).up h.size
    clear hby
    go_enter Try.func3, Try.ntmps3
    go_wp2_with fail
    refine (drawWays_any a zs ca _ hz hbz).mono ?_
    rintro e W1 ⟨a1, c1, xs, f, t, rfl, hxl, hR, BW⟩
    clear hbz
    have MGc : Hid (FL.ask (LK.pip xs) f t = true → LK.Mg xs f t (LK.wsL xs f t) (LK.fcL xs f t)) := fun h => LK.mg_of h
    have WC : Hid (FL.ask (LK.pip xs) f t = false → LK.wsL xs f t = []) := (LK.wsC xs f t).no
    have hwl := LK.wsL_len xs f t
    have hwt := LK.wsL_tot xs f t
    have hcl := LK.fcL_len xs f t
    have WI : Hid (∀ W : World, MI2.RowAt W a1 xs → Calls Try.prog 5 #[.slice a1 xs.length c1, .int .i64 f, .int .i64 t] W fun e w' => ∃ aw cw, e = .returned (.tuple #[.slice aw (LK.wsL xs f t).length cw, .bool (FL.ask (LK.pip xs) f t)]) ∧ NR.RowsAt w' aw (LK.wsL xs f t) ∧ Below W.heap.size W w') := fun W h => (implWays_any a1 c1 xs f t W (by omega) h).mono (by rintro e w' ⟨aw, cw, AA, CC, rfl, ho, hb⟩; exact ⟨aw, cw, rfl, ho.rows, hb⟩)
    have WS : Hid (∀ W : World, MI2.RowAt W a1 xs → Calls Try.prog 6 #[.slice a1 xs.length c1, .int .i64 f, .int .i64 t] W fun e w' => ∃ aw cw, e = .returned (.tuple #[.slice aw (LK.wsL xs f t).length cw, .bool (FL.ask (LK.pip xs) f t)]) ∧ NR.RowsAt w' aw (LK.wsL xs f t) ∧ Below W.heap.size W w') := fun W h => specWays_any a1 c1 xs f t W (by omega) h
    have FI : Hid (∀ W : World, MI2.RowAt W a1 xs → Calls Try.prog 7 #[.slice a1 xs.length c1, .int .i64 f, .int .i64 t] W fun e w' => ∃ ac cc, e = .returned (.tuple #[.slice ac (LK.fcL xs f t).length cc, .bool (FL.ask (LK.pip xs) f t)]) ∧ M4.IntsAt w' ac (LK.fcL xs f t) ∧ Below W.heap.size W w') := fun W h => (implFewest_any a1 c1 xs f t W (by omega) h).mono (by rintro e w' ⟨ac, cc, rfl, ho, hb⟩; exact ⟨ac, cc, rfl, LK.ints_own ho, hb⟩)
    have FS : Hid (∀ W : World, MI2.RowAt W a1 xs → Calls Try.prog 8 #[.slice a1 xs.length c1, .int .i64 f, .int .i64 t] W fun e w' => ∃ ac cc, e = .returned (.tuple #[.slice ac (LK.fcL xs f t).length cc, .bool (FL.ask (LK.pip xs) f t)]) ∧ M4.IntsAt w' ac (LK.fcL xs f t) ∧ Below W.heap.size W w') := fun W h => (specFewest_any a1 c1 xs f t W (by omega) h).mono (by rintro e w' ⟨ac, cc, rfl, ho, hb⟩; exact ⟨ac, cc, rfl, LK.ints_own ho, hb⟩)
    have GI : Hid (∀ W : World, MI2.RowAt W a1 xs → Calls Try.prog 11 #[.slice a1 xs.length c1] W fun e w' => e = .returned (.bool (FL.okP (LK.pip xs))) ∧ Below W.heap.size W w') := fun W h => implGoodLinks_any a1 c1 xs W (by omega) h _ rfl
    have GS : Hid (∀ W : World, MI2.RowAt W a1 xs → Calls Try.prog 12 #[.slice a1 xs.length c1] W fun e w' => e = .returned (.bool (FL.okP (LK.pip xs))) ∧ Below W.heap.size W w') := fun W h => specGoodLinks_any a1 c1 xs W (by omega) h _ rfl
    generalize FL.okP (LK.pip xs) = go at *
    generalize FL.ask (LK.pip xs) f t = ok at *
    generalize LK.wsL xs f t = ws at *
    generalize LK.fcL xs f t = c at *
    go_wp2_with fail
    refine (WI.out _ hR).mono ?_
    rintro e W2 ⟨aw, cw, rfl, hw, hb⟩
    replace BW := BW.trans (hb.mono BW.size)
    replace hR := hR.below hb
    clear hb
    go_wp2_with fail
    refine (WS.out _ hR).mono ?_
    rintro e W3 ⟨av, cv, rfl, hv, hb⟩
    replace BW := BW.trans (hb.mono BW.size)
    replace hR := hR.below hb
    replace hw := hw.below hb
    clear hb
    go_wp2_with fail
    refine (FI.out _ hR).mono ?_
    rintro e W4 ⟨ac, cc, rfl, hc, hb⟩
    replace BW := BW.trans (hb.mono BW.size)
    replace hR := hR.below hb
    replace hw := hw.below hb
    replace hv := hv.below hb
    clear hb
    go_wp2_with fail
    refine (FS.out _ hR).mono ?_
    rintro e W5 ⟨ad, cd, rfl, hd, hb⟩
    replace BW := BW.trans (hb.mono BW.size)
    replace hv := hv.below hb
    have KP : Hid (LK.Kp W5 a1 aw ac xs ws c) := ⟨hR.below hb, hw.below hb, hc.below hb⟩
    clear hb hR hw hc WI WS FI FS
    have hoo : (ok != ok) = false := by simp
    have hgg : (go != go) = false := by simp
    go_wp2_with fail
    refine (sameLists_any aw av cw cv ws _ (by omega) (by omega) KP.out.w hv).mono ?_
    rintro e W6 ⟨rfl, hb⟩
    replace BW := BW.trans (hb.mono BW.size)
    replace KP : Hid _ := KP.out.below hb
    replace hd := hd.below hb
    clear hb hv
    go_wp2_with fail
    refine (sameInts_any ac ad cc cd c c _ (by omega) (by omega) KP.out.c hd).mono ?_
    rintro e W7 ⟨rfl, hb⟩
    rw [decide_eq_true rfl]
    replace BW := BW.trans (hb.mono BW.size)
    replace KP : Hid _ := KP.out.below hb
    clear hb hd
    go_wp2_with fail
    refine (GI.out _ KP.out.l).mono ?_
    rintro e W8 ⟨rfl, hb⟩
    replace BW := BW.trans (hb.mono BW.size)
    replace KP : Hid _ := KP.out.below hb
    clear hb
    go_wp2_with fail
    refine (GS.out _ KP.out.l).mono ?_
    rintro e W9 ⟨rfl, hb⟩
    replace BW := BW.trans (hb.mono BW.size)
    replace KP : Hid _ := KP.out.below hb
    clear hb
    clear GI GS
    cases ok
    · obtain rfl := WC.out rfl
      clear WC MGc KP HBY
      go_wp2
      go_ret
      exact ⟨rfl, BW⟩
    · have M := MGc.out rfl
      clear WC MGc hoo
      have hll : ((ws.length : Int) != (c.length : Int)) = false := by rw [M.len]; simp
      have IW : Hid (∀ (j : Nat) (_ : j < ws.length) (aj : Option Addr) (cj : Nat) (W : World), MI2.RowAt W a1 xs → M4.IntsAt W aj (NR.rw_ ws j) → (NR.rw_ ws j).length ≤ 1048576 → Calls Try.prog 13 #[.slice a1 xs.length c1, .int .i64 f, .int .i64 t, .slice aj (NR.rw_ ws j).length cj] W fun e w' => e = .returned (.tuple #[.bool true, .bool true]) ∧ Below W.heap.size W w') := fun j hj aj cj W h1 h2 h3 => by
        have := implIsWay_any a1 aj c1 cj xs f t (NR.rw_ ws j) W (by omega) h3 h1 h2
        obtain ⟨m1, m2⟩ := M.way (NR.rw_ ws j) (by rw [NR.rw_eq ws j hj]; exact List.getElem_mem hj)
        rw [m1, m2] at this
        exact this
      have HM : Hid (∀ (j : Nat) (_ : j < ws.length), ∃ x ∈ NR.rw_ ws j, x ∈ c) := fun j hj => M.met (NR.rw_ ws j) (by rw [NR.rw_eq ws j hj]; exact List.getElem_mem hj)
      have AP : Hid (∀ W : World, NR.RowsAt W aw ws → Calls Try.prog 15 #[.slice aw ws.length cw] W fun e w' => e = .returned (.tuple #[.bool true, .bool true]) ∧ Below W.heap.size W w') := fun W h => by
        have := implApart_any aw cw ws W (by omega) (by omega) h
        rw [M.apart.1, M.apart.2] at this
        exact this
      have RC : Hid (∀ W : World, MI2.RowAt W a1 xs → M4.IntsAt W ac c → Calls Try.prog 16 #[.slice a1 xs.length c1, .int .i64 f, .slice ac c.length cc] W fun e w' => ∃ ar cr l, e = .returned (.tuple #[.slice ar (List.length l) cr, .bool true]) ∧ l.length ≤ 1048576 ∧ EG.hasB l t = false ∧ M4.IntsAt w' ar l ∧ Below W.heap.size W w') := fun W h1 h2 => by
        refine (implReached_any a1 ac c1 cc xs f c W (by omega) (by omega) h1 h2).mono ?_
        rintro e w' ⟨ar, cr, rfl, ho, hb⟩
        refine ⟨ar, cr, LK.rbL xs f c, by rw [M.cut.1], LK.rbL_len _ _ _, ?_, LK.ints_own ho, hb⟩
        rw [Bool.eq_false_iff]
        intro h
        exact M.cut.2 (of_decide_eq_true h)
      have RF : Hid (∀ (m : Nat) (_ : m < c.length) (av : Option Addr) (cv : Nat) (W : World), MI2.RowAt W a1 xs → M4.IntsAt W av (c.eraseIdx m) → Calls Try.prog 16 #[.slice a1 xs.length c1, .int .i64 f, .slice av (c.eraseIdx m).length cv] W fun e w' => ∃ ar cr l, e = .returned (.tuple #[.slice ar (List.length l) cr, .bool true]) ∧ l.length ≤ 1048576 ∧ EG.hasB l t = true ∧ M4.IntsAt w' ar l ∧ Below W.heap.size W w') := fun m hm av cv W h1 h2 => by
        have he : (c.eraseIdx m).length ≤ 1048576 := Nat.le_trans (List.length_eraseIdx_le _ _) (by omega)
        refine (implReached_any a1 av c1 cv xs f (c.eraseIdx m) W (by omega) he h1 h2).mono ?_
        rintro e w' ⟨ar, cr, rfl, ho, hb⟩
        refine ⟨ar, cr, LK.rbL xs f (c.eraseIdx m), by rw [(M.few m hm).1], LK.rbL_len _ _ _, ?_, LK.ints_own ho, hb⟩
        exact decide_eq_true (M.few m hm).2
      clear M
      have HK : Hid (LK.Kp W9 a1 aw ac xs ws c) := KP.out
      clear KP
      go_wp2
      go_loopw [106] (fun iv wr => ∃ i : Nat, iv = .int .i64 i ∧ i ≤ ws.length ∧ Below W9.heap.size W9 wr) (fun iv _ => (ws.length - intOf iv).toNat)
      case atStart => exact ⟨0, rfl, by omega, Below.refl _ _⟩
      case round =>
        obtain ⟨i, rfl, hi, hbw⟩ := hrel
        by_cases hil : i < ws.length
        · have K := HK.out.below hbw
          obtain ⟨bb, off, aj, cj, hab, hlt, hcell, -, hij⟩ := K.w.at hil
          have hl9 := K.l
          have hc9 := K.c
          have hrow : (NR.rw_ ws i).length ≤ 1048576 := Nat.le_trans (NR.tot_row ws hil) hwt
          replace IW : Hid _ := IW.out i hil aj cj
          have HMi : Hid _ := HM.out i hil
          generalize NR.rw_ ws i = row at *
          clear AP RC RF HK HM K HBY
          subst hab
          go_wp2_with fail
          refine (IW.out _ hl9 hij hrow).mono ?_
          rintro e v1 ⟨rfl, hb⟩
          have hbv := hbw.trans (hb.mono hbw.size)
          have HIJ : Hid (M4.IntsAt v1 aj row) := hij.below hb
          have HC9 : Hid (M4.IntsAt v1 ac c) := hc9.below hb
          clear hb IW hl9 hij hc9 hcell hbw
          go_wp2
          go_loopw [20, 126] (fun mv jv wr => ∃ (j : Nat) (m : Bool), mv = .bool m ∧ jv = .int .i64 j ∧ j ≤ row.length ∧ Hid (m = true ↔ ∃ x ∈ row.take j, x ∈ c) ∧ v1 = wr) (fun _ jv _ => (row.length - intOf jv).toNat)
          case atStart => exact ⟨0, false, rfl, rfl, by omega, (by show _ ↔ _; simp), rfl⟩
          case round =>
            obtain ⟨j, m, rfl, rfl, hj, hm, rfl⟩ := hrel
            by_cases hjl : j < row.length
            · obtain ⟨b2, o2, rfl, hlt2, hcj⟩ : ∃ b2 o2, aj = some ⟨b2, o2, none⟩ ∧ b2 < v1.heap.size ∧ v1.cell? ⟨b2, o2 + j, none⟩ = some (.int .i64 (row.getD j 0)) := by
                rcases HIJ.out with h | ⟨b2, o2, rfl, h1, h2⟩
                · rw [h] at hjl; simp at hjl
                · exact ⟨b2, o2, rfl, h1, h2 j hjl⟩
              have HN : Hid (∀ b : Bool, (b = true ↔ row.getD j 0 ∈ c) → ((m || b) = true ↔ ∃ x ∈ row.take (j + 1), x ∈ c)) := fun b hb => by
                have hg : row.getD j 0 = row[j] := by simp [List.getD_eq_getElem?_getD, hjl]
                rw [List.take_succ_eq_append_getElem hjl, Bool.or_eq_true, hm.out, hb, hg]
                constructor
                · rintro (⟨x, h1, h2⟩ | h)
                  · exact ⟨x, List.mem_append_left _ h1, h2⟩
                  · exact ⟨row[j], List.mem_append_right _ (List.mem_singleton.2 rfl), h⟩
                · rintro ⟨x, h1, h2⟩
                  rcases List.mem_append.1 h1 with h1 | h1
                  · exact .inl ⟨x, h1, h2⟩
                  · rw [List.mem_singleton] at h1
                    exact .inr (h1 ▸ h2)
              have HB : Hid (EG.hasB c (row.getD j 0) = true ↔ row.getD j 0 ∈ c) := by show _ ↔ _; unfold EG.hasB; exact decide_eq_true_iff
              have HH : Hid (Calls Try.prog 14 #[.slice ac c.length cc, .int .i64 (row.getD j 0)] v1 fun e w' => e = .returned (.bool (EG.hasB c (row.getD j 0))) ∧ v1 = w') := hasL_any ac cc c (row.getD j 0) v1 (by omega) HC9.out
              generalize EG.hasB c (row.getD j 0) = hb at *
              have HX : Hid _ := HN.out hb HB.out
              generalize row.getD j 0 = xj at *
              clear HIJ HC9 hm HMi HB
              cases m
              · clear HN
                go_wp2_with fail
                refine (HH.out).mono ?_
                rintro e v2 ⟨rfl, rfl⟩
                clear HH hcj
                go_wp2
                go_roundw
                case rel => exact ⟨j + 1, hb, rfl, by go_num, by omega, HX.out, trivial⟩
                case measure => simp [intOf]; omega
              · clear HH HN
                go_wp2
                go_roundw
                case rel => exact ⟨j + 1, true, rfl, by go_num, by omega, HX.out, trivial⟩
                case measure => simp [intOf]; omega
            · obtain rfl : j = row.length := by omega
              obtain rfl : m = true := hm.out.2 (by rw [List.take_length]; exact HMi.out)
              clear hm HMi HIJ HC9
              go_wp2
              go_roundw
              case rel => exact ⟨i + 1, by go_num, by omega, hbv⟩
              case measure => simp [intOf]; omega
        · obtain rfl : i = ws.length := by omega
          have K := HK.out.below hbw
          replace BW := BW.trans (hbw.mono BW.size)
          clear IW HM HK hbw
          go_wp2_with fail
          refine (AP.out _ K.w).mono ?_
          rintro e v1 ⟨rfl, hb⟩
          replace BW := BW.trans (hb.mono BW.size)
          replace K := K.below hb
          clear hb AP
          go_wp2_with fail
          refine (RC.out _ K.l K.c).mono ?_
          rintro e v2 ⟨ar, cr, l, rfl, hll2, hno, hil2, hb⟩
          replace BW := BW.trans (hb.mono BW.size)
          replace K := K.below hb
          have HAS : Hid (Calls Try.prog 14 #[.slice ar l.length cr, .int .i64 t] v2 fun e w' => e = .returned (.bool false) ∧ v2 = w') := by
            have := hasL_any ar cr l t v2 hll2 hil2
            rw [hno] at this
            exact this
          clear hb RC hno hil2
          go_wp2_with fail
          refine (HAS.out).mono ?_
          rintro e v3 ⟨rfl, rfl⟩
          clear HAS
          by_cases hc0 : 0 < c.length
          · have hci : (0 : Int) < (c.length : Int) := by omega
            have HBV := HBY.out _ BW
            have NF : Hid (∀ W : World, Below v2.heap.size v2 W → Calls Try.prog 17 #[.slice a' ys.length cb] W fun e w' => e = .returned (.int .i64 (numF ys ys.length : Int)) ∧ W = w') := fun W hb => numberF_any a' ys cb v2.heap.size W hy (HBV.only (q := v2.heap.size) (MC.Only.of_below hb) (Nat.le_refl _) (Nat.le_refl _))
            have hnm := numF_lt ys ys.length
            obtain ⟨m, hm⟩ : ∃ m, numF ys ys.length % c.length = m := ⟨_, rfl⟩
            have hml : m < c.length := by rw [← hm]; exact Nat.mod_lt _ hc0
            have hmi : ((numF ys ys.length : Int) % (c.length : Int)) = (m : Int) := by rw [← hm, Int.natCast_emod]
            generalize numF ys ys.length = nn at *
            replace RF : Hid _ := RF.out m hml
            have HK : Hid (LK.Kp v2 a1 aw ac xs ws c) := K
            have hvs := BW.size
            clear K HBV HBY hm
            go_wp2
            go_loopw [27, 179] (fun fv iv wr => ∃ i : Nat, iv = .int .i64 i ∧ i ≤ c.length ∧ wr.ownsRow v2.heap.size 3 1 fv (LK.lessL c m i).length (M4.iv (LK.lessL c m i)) ∧ Below v2.heap.size v2 wr) (fun _ iv _ => (c.length - intOf iv).toNat)
            case atStart => exact ⟨0, rfl, by omega, by rw [LK.less_zero]; exact World.ownsRow_nil _ _ _ _, Below.refl _ _⟩
            case round =>
              obtain ⟨i, rfl, hi, hown, hbw⟩ := hrel
              by_cases hil : i < c.length
              · have hcI := (HK.out.below hbw).c
                obtain ⟨b2, o2, hab, hlt2, hcj⟩ : ∃ b2 o2, ac = some ⟨b2, o2, none⟩ ∧ b2 < wr.heap.size ∧ wr.cell? ⟨b2, o2 + i, none⟩ = some (.int .i64 (c.getD i 0)) := by
                  rcases hcI with h | ⟨b2, o2, rfl, h1, h2⟩
                  · rw [h] at hil; simp at hil
                  · exact ⟨b2, o2, rfl, h1, h2 i hil⟩
                have hlen := LK.less_len c m i
                have hws := hbw.size
                have HP : Hid (i ≠ m → LK.lessL c m (i + 1) = LK.lessL c m i ++ [c.getD i 0]) := fun h => LK.less_put c m i hil hml h
                generalize c.getD i 0 = ci at *
                clear hcI HK RF
                subst hab
                go_wp2_with fail
                refine (NF.out _ hbw).mono ?_
                rintro e w' ⟨rfl, rfl⟩
                clear NF
                by_cases him : i = m
                · subst him
                  have e1 : ((i : Int) != (i : Int)) = false := by simp
                  have hown2 : wr.ownsRow v2.heap.size 3 1 u27 (LK.lessL c i (i + 1)).length (M4.iv (LK.lessL c i (i + 1))) := by rw [LK.less_skip]; exact hown
                  have HO : Hid _ := hown2
                  clear hown hown2 hcj
                  go_wp2
                  go_roundw
                  case rel => exact ⟨i + 1, by go_num, by omega, HO.out, hbw⟩
                  case measure => simp [intOf]; omega
                · have e1 : ((i : Int) != (m : Int)) = true := by simp; omega
                  have hput := HP.out him
                  clear HP
                  generalize LK.lessL c m i = l1 at *
                  go_wp2_with (at_builtin; refine wpList_append_own _ rfl _ _ 29 rfl v2.heap.size 3 i0 (.int .i64 0) 1 8 Try.underlying29 hi0 hz0 hz1 hz2 rfl (by decide) _ _ _ rfl (hown.alloc _) ⟨wr.heap.size, 0, none⟩ 1 1 [.int .i64 ci] rfl rfl ?q1 ?q2 ?q3 ?q4 ?q5 ?_)
                  case q1 => exact M2.new1 _ _ _
                  case q2 => exact M2.one1 _ _
                  case q3 => unfold maxLen; omega
                  case q4 => omega
                  case q5 => simp; omega
                  intro v' wn hown1 hgrow _
                  have R1 : wn.ownsRow v2.heap.size 3 1 v' (l1 ++ [ci]).length (M4.iv (l1 ++ [ci])) := by simpa [M4.iv] using hown1
                  rw [← hput] at R1
                  have R3 := (hbw.alloc hws (.cells #[.int .i64 ci] 3)).grown hgrow (by simp; omega) (fun j hj => (hown.lt j hj).1)
                  have HR1 : Hid _ := R1
                  have HR3 : Hid _ := R3
                  clear hown1 hgrow hown R1 R3 hput hcj
                  go_wp2
                  go_roundw
                  case rel => exact ⟨i + 1, by go_num, by omega, HR1.out, HR3.out⟩
                  case measure => simp [intOf]; omega
              · obtain rfl : i = c.length := by omega
                rw [LK.less_all c m hml] at hown
                obtain ⟨av, lc, hv⟩ := M5.own_view hown
                rw [hv.1] at hown ⊢
                have hI := LK.ints_own hown
                have K := HK.out.below hbw
                replace BW := BW.trans (hbw.mono BW.size)
                clear hv hown HK hbw NF
                go_wp2_with fail
                refine (RF.out av lc _ K.l hI).mono ?_
                rintro e v4 ⟨ar2, cr2, l2, rfl, hl2, hyes, hil2, hb⟩
                replace BW := BW.trans (hb.mono BW.size)
                have HAS : Hid (Calls Try.prog 14 #[.slice ar2 l2.length cr2, .int .i64 t] v4 fun e w' => e = .returned (.bool true) ∧ v4 = w') := by
                  have := hasL_any ar2 cr2 l2 t v4 hl2 hil2
                  rw [hyes] at this
                  exact this
                clear hb RF hyes hil2 K hI
                go_wp2_with fail
                refine (HAS.out).mono ?_
                rintro e v5 ⟨rfl, rfl⟩
                clear HAS
                go_wp2
                go_ret
                exact ⟨rfl, BW⟩
          · have hc00 : c.length = 0 := by omega
            have hci : ¬ (0 : Int) < (c.length : Int) := by omega
            clear RF K HBY
            go_wp2
            go_ret
            exact ⟨rfl, BW⟩
  · have h20' : (1048576 : Int) < (zs.length : Int) + (ys.length : Int) := by omega
    go_enter Try.func3, Try.ntmps3
    go_wp2
    go_ret
    exact ⟨rfl, Below.refl _ _⟩
end Go.Proofs.Ytpabhjnpbnabiaa
