/- The law FnGcra answers true at every two rows of bytes. -/
import Derived.Test.YteedppngiknjlaaDoorRows
import Derived.Test.YteedppngiknjlaaDoorCBothI
import Derived.Test.YteedppngiknjlaaDoorCBothS
import Derived.Test.YteedppngiknjlaaDoorCAskCI
import Derived.Test.YteedppngiknjlaaDoorCAskCS
import Derived.Test.YteedppngiknjlaaDoorCLevI
import Derived.Test.YteedppngiknjlaaDoorCCeN
import Derived.Test.YteedppngiknjlaaDoorCAskD
import Derived.Test.YteedppngiknjlaaDoorCSameB
import Derived.Test.YteedppngiknjlaaDoorMBE
import Derived.WalkKit
import Derived.WalkSpells
import Derived.WalkLawsBesides
import Derived.Outline
import Derived.Deep.RegionHeld3
import Derived.Deep.MidRow
namespace Go.Proofs.YteedppngiknjlaaDoor
open Go.RowKit
/-- What the last region reads. -/
abbrev FnG (w' w : World) (q1 q2 q3 : Nat) (cp cu cd rp ru rd : Int) : Prop := Below w.heap.size w w' ∧ q1 < w'.heap.size ∧ q2 < w'.heap.size ∧ q3 < w'.heap.size ∧ w'.cell? ⟨q1, 0, none⟩ = some (.int .i64 cp) ∧ w'.cell? ⟨q1, 1, none⟩ = some (.int .i64 cu) ∧ w'.cell? ⟨q1, 2, none⟩ = some (.int .i64 cd) ∧ w'.cell? ⟨q2, 0, none⟩ = some (.int .i64 rp) ∧ w'.cell? ⟨q2, 1, none⟩ = some (.int .i64 ru) ∧ w'.cell? ⟨q2, 2, none⟩ = some (.int .i64 rd) ∧ w'.cell? ⟨q3, 0, none⟩ = some (.int .i64 rp) ∧ w'.cell? ⟨q3, 1, none⟩ = some (.int .i64 ru) ∧ w'.cell? ⟨q3, 2, none⟩ = some (.int .i64 rd)
theorem fnG_below {V W' w : World} {q1 q2 q3 : Nat} {cp cu cd rp ru rd : Int} (h : FnG V w q1 q2 q3 cp cu cd rp ru rd) (hb : Below V.heap.size V W') : FnG W' w q1 q2 q3 cp cu cd rp ru rd := by
  obtain ⟨h0, l1, l2, l3, a0, a1, a2, b0, b1, b2, c0, c1, c2⟩ := h
  have hs := hb.size
  exact ⟨h0.trans (hb.mono h0.size), by omega, by omega, by omega, (hb.cell (p := ⟨q1, 0, none⟩) l1).trans a0, (hb.cell (p := ⟨q1, 1, none⟩) l1).trans a1, (hb.cell (p := ⟨q1, 2, none⟩) l1).trans a2, (hb.cell (p := ⟨q2, 0, none⟩) l2).trans b0, (hb.cell (p := ⟨q2, 1, none⟩) l2).trans b1, (hb.cell (p := ⟨q2, 2, none⟩) l2).trans b2, (hb.cell (p := ⟨q3, 0, none⟩) l3).trans c0, (hb.cell (p := ⟨q3, 1, none⟩) l3).trans c1, (hb.cell (p := ⟨q3, 2, none⟩) l3).trans c2⟩
theorem fnG_of {W w : World} {q1 q2 q3 t : Nat} {cp cu cd rp ru rd : Int} (h1 : BK.At3 W q1 (.int .i64 cp) (.int .i64 cu) (.int .i64 cd) t) (h2 : BK.At3 W q2 (.int .i64 rp) (.int .i64 ru) (.int .i64 rd) t) (h3 : BK.At3 W q3 (.int .i64 rp) (.int .i64 ru) (.int .i64 rd) t) (hb : Below w.heap.size w W) : FnG W w q1 q2 q3 cp cu cd rp ru rd :=
  ⟨hb, h1.lt, h2.lt, h3.lt, h1.cells.1, h1.cells.2.1, h1.cells.2.2, h2.cells.1, h2.cells.2.1, h2.cells.2.2, h3.cells.1, h3.cells.2.1, h3.cells.2.2⟩
theorem Tryd.szCeL : (Tryd.prog.info? 31).map (·.size) = some 3 := by kernel_rfl
theorem Tryd.szBkL : (Tryd.prog.info? 35).map (·.size) = some 4 := by kernel_rfl
theorem one3 (a b c : Int) : (#[.int .i64 a, .int .i64 b, .int .i64 c] : Array Value).all (·.oneCell') = true := all_oneCell_toArray (cs := [.int .i64 a, .int .i64 b, .int .i64 c]) (by intro v hv; simp at hv; rcases hv with rfl | rfl | rfl <;> rfl)
theorem one4 (a b c d : Int) : (#[.int .i64 a, .int .i64 b, .int .i64 c, .int .i64 d] : Array Value).all (·.oneCell') = true := all_oneCell_toArray (cs := [.int .i64 a, .int .i64 b, .int .i64 c, .int .i64 d]) (by intro v hv; simp at hv; rcases hv with rfl | rfl | rfl | rfl <;> rfl)
theorem there3 {W : World} {k t : Nat} {a b c : Value} (h : BK.At3 W k a b c t) : W.there k 0 3 := fun j hj => by
  obtain ⟨c0, c1, c2⟩ := h.cells
  refine ⟨?_, by rw [Nat.zero_add]; exact h.free j⟩
  rw [Nat.zero_add]
  rcases (show j = 0 ∨ j = 1 ∨ j = 2 by omega) with rfl | rfl | rfl
  · rw [c0]; rfl
  · rw [c1]; rfl
  · rw [c2]; rfl
theorem there4 {W : World} {k t : Nat} {a b c d : Value} (h : BK.At4 W k a b c d t) : W.there k 0 4 := fun j hj => by
  obtain ⟨c0, c1, c2, c3⟩ := h.cells
  refine ⟨?_, by rw [Nat.zero_add]; exact h.free j⟩
  rw [Nat.zero_add]
  rcases (show j = 0 ∨ j = 1 ∨ j = 2 ∨ j = 3 by omega) with rfl | rfl | rfl | rfl
  · rw [c0]; rfl
  · rw [c1]; rfl
  · rw [c2]; rfl
  · rw [c3]; rfl
theorem range3 {W : World} {k t : Nat} {a b c : Value} (h : BK.At3 W k a b c t) : W.rangeAt k 0 [a, b, c] := fun j v hv => by
  obtain ⟨c0, c1, c2⟩ := h.cells
  rw [Nat.zero_add]
  match j, hv with
  | 0, hv => rw [c0]; exact hv
  | 1, hv => rw [c1]; exact hv
  | 2, hv => rw [c2]; exact hv
theorem range4 {W : World} {k t : Nat} {a b c d : Value} (h : BK.At4 W k a b c d t) : W.rangeAt k 0 [a, b, c, d] := fun j v hv => by
  obtain ⟨c0, c1, c2, c3⟩ := h.cells
  rw [Nat.zero_add]
  match j, hv with
  | 0, hv => rw [c0]; exact hv
  | 1, hv => rw [c1]; exact hv
  | 2, hv => rw [c2]; exact hv
  | 3, hv => rw [c3]; exact hv
theorem At4far {w : World} {k g : Nat} {a b c d : Value} {t : TypeId} {vs : List Value} (h : BK.At4 w k a b c d t) (hg : k ≠ g) : BK.At4 (w.setCells g 0 vs) k a b c d t := ⟨by
  have : ∀ (vs : List Value) (o : Nat) (w : World), (w.setCells g o vs).heap[k]? = w.heap[k]? := by
    intro vs; induction vs with
    | nil => intro o w; rfl
    | cons v r ih => intro o w; show ((w.setCell ⟨g, o, none⟩ v).setCells g (o + 1) r).heap[k]? = _; rw [ih]; exact BK.set_block w g o k v hg
  rw [this]; exact h.is⟩
theorem At3far {w : World} {k g : Nat} {a b c : Value} {t : TypeId} {vs : List Value} (h : BK.At3 w k a b c t) (hg : k ≠ g) : BK.At3 (w.setCells g 0 vs) k a b c t := ⟨by
  have : ∀ (vs : List Value) (o : Nat) (w : World), (w.setCells g o vs).heap[k]? = w.heap[k]? := by
    intro vs; induction vs with
    | nil => intro o w; rfl
    | cons v r ih => intro o w; show ((w.setCell ⟨g, o, none⟩ v).setCells g (o + 1) r).heap[k]? = _; rw [ih]; exact BK.set_block w g o k v hg
  rw [this]; exact h.is⟩
theorem below_sets {B g : Nat} {a : World} (hb : B ≤ g) : ∀ (vs : List Value) (o : Nat) (w : World), Below B a w → Below B a (w.setCells g o vs)
  | [], _, _, h => h
  | _ :: r, o, _, h => below_sets hb r (o + 1) _ (h.setCell (p := ⟨g, o, none⟩) hb _)
set_option linter.unusedSimpArgs false in
set_option maxHeartbeats 6400000 in
set_option maxRecDepth 100000 in
theorem lawFnGcra_any (a a' : Option Addr) (zs ys : List Int) (ca cb : Nat) (x0 x1 : Addr) (w : World) (hz : zs.length ≤ 140737488355328) (hy : ys.length ≤ 140737488355328) (hbz : MC.BytesAt w w.heap.size a zs) (hby : MC.BytesAt w w.heap.size a' ys) (hE : Er3 w x0 x1) :
    Calls Tryd.prog 3 #[.slice a zs.length ca, .slice a' ys.length cb] w fun e w' => e = .returned (.bool true) ∧ Below w.heap.size w w' := by
  by_cases h20 : zs.length + ys.length ≤ 1048576
  · have HBY : Hid (∀ W : World, Below w.heap.size w W → MC.BytesAt W W.heap.size a' ys) := fun W h => (hby.only (q := w.heap.size) (MC.Only.of_below h) (Nat.le_refl _) (Nat.le_refl _)).up h.size
    have HE : Hid _ := hE
    clear hby hE
    go_enter Tryd.func3, Tryd.ntmps3
    go_wp2_with fail
    refine Calls.mono (drawBoth_any a zs ca _ hz hbz) ?_
    rintro e W ⟨p, u, a1, c1, ts, rfl, hts, hI, BW0⟩
    clear hbz
    have P1 : Hid (∀ V : World, Below W.heap.size W V → Er3 V x0 x1 → _) := fun V h he => implBoth_any p u a1 c1 ts x0 x1 V (by omega) (M4.IntsAt.below hI h) he
    have P2 : Hid (∀ V : World, Below W.heap.size W V → _) := fun V h => specBoth_any p u a1 c1 ts V (by omega) (M4.IntsAt.below hI h)
    have HYES : Hid (BK.bothOk p u ts = true → BK.okS p u = true ∧ BK.both p u ts = BK.tl (BK.newB p u) ts ts.length ∧ (∀ k, k < ts.length → BK.levOk (BK.st (BK.newB p u) ts k) (ts.getD k 0) = true) ∧ ∀ k, k ≤ ts.length → BK.EQ p u (BK.st (BK.newB p u) ts k) (BK.ct (BK.newC p u) ts k)) := fun h => ⟨(BK.both_iff.1 h).1, BK.both_yes h, (BK.both_iff.1 h).2.2.is, fun k hk => BK.eq_up h k hk⟩
    have hlen : (BK.both p u ts).length ≤ 62 := by
      unfold BK.both; split
      · rw [BK.tl_len]; exact hts
      · simp
    generalize BK.both p u ts = L at *
    generalize BK.bothOk p u ts = K at *
    have HI : Hid _ := hI
    have HB0 : Hid _ := BW0
    clear hI BW0
    go_wp2_with fail
    refine Calls.mono (P1.out _ (Below.refl _ _) (HE.out.below HB0.out (Nat.le_refl _))) ?_
    rintro e w2 ⟨a2, c2, rfl, o2, b2⟩
    have I2 : Hid _ := BV.of_own o2
    clear o2 P1
    go_wp2_with fail
    refine Calls.mono (P2.out _ b2) ?_
    rintro e w3 ⟨a3, c3, rfl, o3, b3⟩
    have I3 : Hid _ := BV.of_own o3
    have I23 : Hid _ := BV.BoolsAt.below I2.out b3
    have B03 : Hid _ := b2.trans (b3.mono b2.size)
    clear o3 I2 P2 b2 b3
    have SB : Hid _ := sameBools_any a2 a3 c2 c3 L w3 (by omega) I23.out I3.out
    have HLN : Hid _ := hlen
    clear I3 hlen
    cases K with
    | false =>
      go_wp2_with fail
      refine Calls.mono SB.out ?_
      rintro e w4 ⟨rfl, b4⟩
      have BW : Hid (Below w.heap.size w w4) := HB0.out.trans ((B03.out.trans (b4.mono B03.out.size)).mono HB0.out.size)
      clear SB b4 B03 HB0 HI I23 HYES HLN
      go_wp2_with fail
      refine Calls.mono (drawAskC_any a' ys cb _ hy (HBY.out _ BW.out)) ?_
      rintro e v1 ⟨c, n, rfl, d1⟩
      have E1 : Hid _ := (HE.out.below (BW.out.trans (d1.mono BW.out.size)) (Nat.le_refl _)).e2
      have B1 : Hid _ := BW.out.trans (d1.mono BW.out.size)
      have QI : Hid (∀ V : World, Er2 V x0 x1 → Calls Tryd.prog 13 #[c.v, .int .i64 n] V fun e w' => e = .returned (.tuple #[(BK.askC c n).v, .bool (BK.letC c n), .bool (BK.dueOk c n)]) ∧ Below V.heap.size V w') := fun V h => implAskC_any c n x0 x1 V h
      have QS : Hid (∀ V : World, Calls Tryd.prog 17 #[c.v, .int .i64 n] V fun e w' => e = .returned (.tuple #[(BK.askC c n).v, .bool (BK.letC c n), .bool (BK.dueOk c n)]) ∧ Below V.heap.size V w') := fun V => specAskC_any c n V
      have GI : Hid (∀ V : World, Calls Tryd.prog 11 #[c.v] V fun e w' => e = .returned (.bool (BK.goodC c)) ∧ Below V.heap.size V w') := fun V => goodCI_any c V _ rfl
      have GS : Hid (∀ V : World, Calls Tryd.prog 18 #[c.v] V fun e w' => e = .returned (.bool (BK.goodC c)) ∧ Below V.heap.size V w') := fun V => goodCS_any c V _ rfl
      generalize BK.askC c n = R at *
      generalize BK.letC c n = M at *
      generalize BK.dueOk c n = V0 at *
      generalize BK.goodC c = G at *
      obtain ⟨cp, cu, cd⟩ := c
      obtain ⟨rp, ru, rd⟩ := R
      have hA1 := BK.At3.new v1 (.int .i64 cp) (.int .i64 cu) (.int .i64 cd) 31 _ rfl
      have B1a : Hid _ := B1.out.alloc B1.out.size (.cells #[.int .i64 cp, .int .i64 cu, .int .i64 cd] 31)
      have E1a : Hid _ := E1.out.alloc (.cells #[.int .i64 cp, .int .i64 cu, .int .i64 cd] 31)
      clear d1 E1 B1 BW
      go_wp2_with fail
      refine Calls.mono (QI.out _ E1a.out) ?_
      rintro e v2 ⟨rfl, d2⟩
      have hA2 := (hA1.below d2 hA1.lt).alloc (.cells #[.int .i64 rp, .int .i64 ru, .int .i64 rd] 31)
      have hR2 := BK.At3.new v2 (.int .i64 rp) (.int .i64 ru) (.int .i64 rd) 31 _ rfl
      have B2 : Hid _ := (B1a.out.trans (d2.mono B1a.out.size)).alloc (Nat.le_trans B1a.out.size d2.size) (.cells #[.int .i64 rp, .int .i64 ru, .int .i64 rd] 31)
      obtain ⟨k0, k1, k2⟩ := hA2.cells
      have hltA := hA2.lt
      clear d2 hA1 B1a E1a QI HE HBY
      go_wp2_with fail
      refine Calls.mono (QS.out _) ?_
      rintro e v3 ⟨rfl, d3⟩
      have hA3 := (hA2.below d3 hA2.lt).alloc (.cells #[.int .i64 rp, .int .i64 ru, .int .i64 rd] 31)
      have hR3 := (hR2.below d3 hR2.lt).alloc (.cells #[.int .i64 rp, .int .i64 ru, .int .i64 rd] 31)
      have hS3 := BK.At3.new v3 (.int .i64 rp) (.int .i64 ru) (.int .i64 rd) 31 _ rfl
      have B3 : Hid _ := (B2.out.trans (d3.mono B2.out.size)).alloc (Nat.le_trans B2.out.size d3.size) (.cells #[.int .i64 rp, .int .i64 ru, .int .i64 rd] 31)
      clear d3 hA2 hR2 B2 QS k0 k1 k2 hltA
      go_wp2_with fail
      generalize v3.alloc (.cells #[.int .i64 rp, .int .i64 ru, .int .i64 rd] 31) = V at *
      generalize v1.heap.size = q1 at *
      generalize v2.heap.size = q2 at *
      generalize v3.heap.size = q3 at *
      have GIS : Hid (∀ V : World, FnG V w q1 q2 q3 cp cu cd rp ru rd → Calls Tryd.prog 11 #[.agg #[.int .i64 cp, .int .i64 cu, .int .i64 cd]] V fun e w' => e = .returned (.bool G) ∧ FnG w' w q1 q2 q3 cp cu cd rp ru rd) := fun V h => (GI.out V).mono (by rintro e w' ⟨rfl, hb⟩; exact ⟨rfl, fnG_below h hb⟩)
      have GSS : Hid (∀ V : World, FnG V w q1 q2 q3 cp cu cd rp ru rd → Calls Tryd.prog 18 #[.agg #[.int .i64 cp, .int .i64 cu, .int .i64 cd]] V fun e w' => e = .returned (.bool G) ∧ FnG w' w q1 q2 q3 cp cu cd rp ru rd) := fun V h => (GS.out V).mono (by rintro e w' ⟨rfl, hb⟩; exact ⟨rfl, fnG_below h hb⟩)
      have hSd : FnG V.drew w q1 q2 q3 cp cu cd rp ru rd := fnG_of (hA3.below (Below.refl _ V).drew hA3.lt) (hR3.below (Below.refl _ V).drew hR3.lt) (hS3.below (Below.refl _ V).drew hS3.lt) B3.out.drew
      obtain ⟨k0, k1, k2⟩ := hA3.cells
      obtain ⟨j0, j1, j2⟩ := hR3.cells
      obtain ⟨i0, i1, i2⟩ := hS3.cells
      clear hA3 hR3 hS3 B3 GI GS
      have e1 : (V0 == V0) = true := by simp
      have e2 : (M == M) = true := by simp
      have e3 : (G == G) = true := by simp
      go_region_held3 (fun w' => Below w.heap.size w w' ∧ q1 < w'.heap.size ∧ q2 < w'.heap.size ∧ q3 < w'.heap.size ∧ w'.cell? ⟨q1, 0, none⟩ = some (.int .i64 cp) ∧ w'.cell? ⟨q1, 1, none⟩ = some (.int .i64 cu) ∧ w'.cell? ⟨q1, 2, none⟩ = some (.int .i64 cd) ∧ w'.cell? ⟨q2, 0, none⟩ = some (.int .i64 rp) ∧ w'.cell? ⟨q2, 1, none⟩ = some (.int .i64 ru) ∧ w'.cell? ⟨q2, 2, none⟩ = some (.int .i64 rd) ∧ w'.cell? ⟨q3, 0, none⟩ = some (.int .i64 rp) ∧ w'.cell? ⟨q3, 1, none⟩ = some (.int .i64 ru) ∧ w'.cell? ⟨q3, 2, none⟩ = some (.int .i64 rd)) (first | assumption | (show _ ∧ _; assumption)) (first | (go_at_call 11; refine Calls.mono (GIS.out _ (by assumption)) ?_; (rintro e wq ⟨rfl, hSq⟩)) | (go_at_call 18; refine Calls.mono (GSS.out _ (by assumption)) ?_; (rintro e wz ⟨rfl, hSz⟩)))
      have hbz := hSz.1
      clear hSd hSq hSz GIS GSS k0 k1 k2 j0 j1 j2 i0 i1 i2
      go_wp2
      go_ret
      exact ⟨rfl, hbz⟩
    | true =>
      go_wp2_with fail
      refine Calls.mono SB.out ?_
      rintro e w4 ⟨rfl, b4⟩
      have I4 : Hid (BV.BoolsAt w4 a2 L) := BV.BoolsAt.below I23.out b4
      have B04 : Hid (Below W.heap.size W w4) := B03.out.trans (b4.mono B03.out.size)
      have T4 : Hid (M4.IntsAt w4 a1 ts) := M4.IntsAt.below HI.out B04.out
      have BW4 : Hid (Below w.heap.size w w4) := HB0.out.trans (B04.out.mono HB0.out.size)
      have E4 : Hid (Er3 w4 x0 x1) := HE.out.below BW4.out (Nat.le_refl _)
      obtain ⟨hs, hL, hlv, heq⟩ := HYES.out trivial
      have HQ : Hid (∀ k, k < ts.length → BK.ST p u (BK.st (BK.newB p u) ts k) (BK.ct (BK.newC p u) ts k) (ts.getD k 0)) := fun k hk => BK.eq_step (heq k (by omega)) (hlv k hk)
      have HLK : Hid (∀ k, k < ts.length → k < L.length ∧ L.getD k false = BK.letB (BK.st (BK.newB p u) ts k) (ts.getD k 0)) := fun k hk => ⟨by rw [hL, BK.tl_len]; exact hk, by rw [hL]; exact BK.tl_at hk⟩
      have HLV : Hid (∀ k, k < ts.length → BK.levOk (BK.st (BK.newB p u) ts k) (ts.getD k 0) = true) := hlv
      have HE0 : Hid (BK.EQ p u (BK.newB p u) (BK.newC p u)) := heq 0 (by omega)
      have NC : Hid (∀ V : World, Calls Tryd.prog 9 #[.int .i64 p, .int .i64 u] V fun e w' => e = .returned (.tuple #[(BK.newC p u).v, .bool true]) ∧ Below V.heap.size V w') := fun V => hs ▸ newCI_any p u V
      have NB : Hid (∀ V : World, Calls Tryd.prog 10 #[.int .i64 p, .int .i64 u] V fun e w' => e = .returned (.tuple #[(BK.newB p u).v, .bool true]) ∧ Below V.heap.size V w') := fun V => hs ▸ newBI_any p u V
      clear SB b4 B03 HB0 HI I23 HYES HLN B04 hs hL hlv heq
      have GC : Hid (∀ V : World, Calls Tryd.prog 11 #[(BK.newC p u).v] V fun e w' => e = .returned (.bool true) ∧ Below V.heap.size V w') := fun V => goodCI_any _ V _ (BK.goodC_iff.2 HE0.out.gc)
      have GB : Hid (∀ V : World, Calls Tryd.prog 12 #[(BK.newB p u).v] V fun e w' => e = .returned (.bool true) ∧ Below V.heap.size V w') := fun V => goodBI_any _ V _ (BK.goodB_iff.2 HE0.out.gb)
      generalize BK.newC p u = c0 at *
      generalize BK.newB p u = b0 at *
      obtain ⟨np, nu, nd⟩ := c0
      obtain ⟨mp, mu, ml, mt⟩ := b0
      go_wp2_with fail
      refine Calls.mono (NC.out _) ?_
      rintro e w5 ⟨rfl, b5⟩
      have hC5 := BK.At3.new w5 (.int .i64 np) (.int .i64 nu) (.int .i64 nd) 31 _ rfl
      have B5 : Hid _ := b5.alloc b5.size (.cells #[.int .i64 np, .int .i64 nu, .int .i64 nd] 31)
      have hg1 : w4.heap.size ≤ w5.heap.size := b5.size
      clear b5 NC
      go_wp2_with fail
      refine Calls.mono (NB.out _) ?_
      rintro e w6 ⟨rfl, b6⟩
      have b6s := b6.size
      simp only [World.alloc, Array.size_push] at b6s
      have hC6 := (hC5.below b6 hC5.lt).alloc (.cells #[.int .i64 mp, .int .i64 mu, .int .i64 ml, .int .i64 mt] 35)
      have hD6 := BK.At4.new w6 (.int .i64 mp) (.int .i64 mu) (.int .i64 ml) (.int .i64 mt) 35 _ rfl
      have B6 : Hid _ := (B5.out.trans (b6.mono B5.out.size)).alloc (Nat.le_trans B5.out.size b6.size) (.cells #[.int .i64 mp, .int .i64 mu, .int .i64 ml, .int .i64 mt] 35)
      have hg12 : w5.heap.size < w6.heap.size := by omega
      obtain ⟨k0, k1, k2⟩ := hC6.cells
      have hltC := hC6.lt
      clear b6 NB B5 hC5 b6s
      go_wp2_with fail
      refine Calls.mono (GC.out _) ?_
      rintro e w7 ⟨rfl, b7⟩
      have hC7 := hC6.below b7 hC6.lt
      have hD7 := hD6.below b7 hD6.lt
      have B7 : Hid _ := B6.out.trans (b7.mono B6.out.size)
      obtain ⟨j0, j1, j2, j3⟩ := hD7.cells
      have hltD := hD7.lt
      clear GC b7 B6 hC6 hD6 k0 k1 k2 hltC
      go_wp2_with fail
      refine Calls.mono (GB.out _) ?_
      rintro e w8 ⟨rfl, b8⟩
      have hC8 := hC7.below b8 hC7.lt
      have hD8 := hD7.below b8 hD7.lt
      have B8 : Hid _ := B7.out.trans (b8.mono B7.out.size)
      clear GB b8 B7 hC7 hD7 j0 j1 j2 j3 hltD HE0
      generalize w5.heap.size = g1 at *
      generalize w6.heap.size = g2 at *
      have hg2 : w4.heap.size ≤ g2 := by omega
      go_wp2_with fail
      go_loopw [101] (fun iv wr => ∃ (k : Nat) (b : Bk) (c : Ce), iv = .int .i64 k ∧ k ≤ ts.length ∧ Hid (BK.st ⟨mp, mu, ml, mt⟩ ts k = b) ∧ Hid (BK.ct ⟨np, nu, nd⟩ ts k = c) ∧ BK.At3 wr g1 (.int .i64 c.p) (.int .i64 c.u) (.int .i64 c.d) 31 ∧ BK.At4 wr g2 (.int .i64 b.p) (.int .i64 b.u) (.int .i64 b.l) (.int .i64 b.t) 35 ∧ Below w4.heap.size w4 wr) (fun iv _ => (ts.length - intOf iv).toNat)
      case atStart => exact ⟨0, ⟨mp, mu, ml, mt⟩, ⟨np, nu, nd⟩, rfl, by omega, show Hid (_ = _) from rfl, show Hid (_ = _) from rfl, hC8, hD8, B8.out⟩
      case round =>
        clear hC8 hD8 B8
        obtain ⟨k, b, c, rfl, hk, hb, hc, hC, hD, hB⟩ := hrel
        by_cases hlk : k < ts.length
        · obtain ⟨t1, off, rfl, hlt, hct⟩ := (M4.IntsAt.below T4.out hB).at hlk
          obtain ⟨hkl, hLk⟩ := HLK.out k hlk
          obtain ⟨l1, rfl, hll, hcl⟩ := (BV.BoolsAt.below I4.out hB).at hkl
          have hst := HQ.out k hlk
          have hlev := HLV.out k hlk
          have HNB : Hid (BK.st ⟨mp, mu, ml, mt⟩ ts (k + 1) = BK.ask b (ts.getD k 0)) := by show BK.ask _ _ = _; rw [hb.out]
          have HNC : Hid (BK.ct ⟨np, nu, nd⟩ ts (k + 1) = BK.askC c (ts.getD k 0)) := by show BK.askC _ _ = _; rw [hc.out]
          rw [hLk] at hcl
          rw [hb.out] at hst hlev hcl
          rw [hc.out] at hst
          clear hLk hb hc HQ HLK HLV HBY BW4 HE T4 I4
          generalize ts.getD k 0 = t at *
          have AC : Hid (∀ V : World, Er2 V x0 x1 → Calls Tryd.prog 13 #[c.v, .int .i64 t] V fun e w' => e = .returned (.tuple #[(BK.askC c t).v, .bool (BK.letB b t), .bool true]) ∧ Below V.heap.size V w') := fun V h => by have := implAskC_any c t x0 x1 V h; rwa [hst.same, hst.ok] at this
          have AB : Hid (∀ V : World, Er3 V x0 x1 → Calls Tryd.prog 14 #[b.v, .int .i64 t] V fun e w' => e = .returned (.tuple #[(BK.ask b t).v, .bool (BK.letB b t), .bool true]) ∧ Below V.heap.size V w') := fun V h => by have := implAskB_any b t x0 x1 V h; rwa [hlev] at this
          have AL : Hid (∀ V : World, Er1 V x0 → Calls Tryd.prog 15 #[(BK.ask b t).v, .int .i64 t] V fun e w' => e = .returned (.tuple #[.int .i64 (if (BK.askC c t).d - t < 0 then 0 else (BK.askC c t).d - t), .bool true]) ∧ Below V.heap.size V w') := fun V h => by have := implLevel_any (BK.ask b t) t x0 V h; rwa [hst.okB, hst.lev] at this
          have hd0 : 0 ≤ (BK.askC c t).d := hst.next.gc.d0
          have hd1 : (BK.askC c t).d ≤ 2000000 := hst.next.gc.d1
          obtain ⟨-, -, -, -, -, ht0, ht1⟩ := hst
          clear hlev
          generalize BK.askC c t = R at *
          generalize BK.ask b t = Q at *
          generalize BK.letB b t = M at *
          obtain ⟨cp, cu, cd⟩ := c
          obtain ⟨bp, bu, bl, bt⟩ := b
          obtain ⟨rp, ru, rd⟩ := R
          obtain ⟨qp, qu, ql, qt⟩ := Q
          simp only at hd0 hd1
          obtain ⟨k0, k1, k2⟩ := hC.cells
          have hltC := hC.lt
          have ER : Hid _ := E4.out.below hB (Nat.le_refl _)
          go_wp2_with fail
          refine Calls.mono (AC.out _ ER.out.e2) ?_
          rintro e w9 ⟨rfl, b9⟩
          have b9s := b9.size
          have hC9 := (hC.below b9 hC.lt).alloc (.cells #[.int .i64 rp, .int .i64 ru, .int .i64 rd] 31)
          have hD9 := (hD.below b9 hD.lt).alloc (.cells #[.int .i64 rp, .int .i64 ru, .int .i64 rd] 31)
          have hR9 := BK.At3.new w9 (.int .i64 rp) (.int .i64 ru) (.int .i64 rd) 31 _ rfl
          have B9 : Hid _ := (hB.trans (b9.mono hB.size)).alloc (Nat.le_trans hB.size b9.size) (.cells #[.int .i64 rp, .int .i64 ru, .int .i64 rd] 31)
          have E9 : Hid _ := (ER.out.below b9 (Nat.le_refl _)).alloc (.cells #[.int .i64 rp, .int .i64 ru, .int .i64 rd] 31)
          have hr9 : g1 < w9.heap.size := by omega
          have hr92 : g2 < w9.heap.size := by have := hD.lt; omega
          obtain ⟨j0, j1, j2, j3⟩ := hD9.cells
          have hltD := hD9.lt
          have hcl9 : (w9.alloc (.cells #[.int .i64 rp, .int .i64 ru, .int .i64 rd] 31)).cell? ⟨l1, k, none⟩ = some (.bool M) := ((((Below.refl _ wr).trans b9).alloc b9s (.cells #[.int .i64 rp, .int .i64 ru, .int .i64 rd] 31)).cell (p := ⟨l1, k, none⟩) hll).trans hcl
          have hll9 : l1 < w9.heap.size := by omega
          clear b9 hC hD AC k0 k1 k2 hltC ER hct hlt hcl hB
          go_wp2_with fail
          refine Calls.mono (AB.out _ E9.out) ?_
          rintro e wA ⟨rfl, bA⟩
          have bAs := bA.size
          simp only [World.alloc, Array.size_push] at bAs
          have hCA := (hC9.below bA hC9.lt).alloc (.cells #[.int .i64 qp, .int .i64 qu, .int .i64 ql, .int .i64 qt] 35)
          have hDA := (hD9.below bA hD9.lt).alloc (.cells #[.int .i64 qp, .int .i64 qu, .int .i64 ql, .int .i64 qt] 35)
          have hRA := (hR9.below bA hR9.lt).alloc (.cells #[.int .i64 qp, .int .i64 qu, .int .i64 ql, .int .i64 qt] 35)
          have hQA := BK.At4.new wA (.int .i64 qp) (.int .i64 qu) (.int .i64 ql) (.int .i64 qt) 35 _ rfl
          have BA : Hid _ := (B9.out.trans (bA.mono B9.out.size)).alloc (Nat.le_trans B9.out.size bA.size) (.cells #[.int .i64 qp, .int .i64 qu, .int .i64 ql, .int .i64 qt] 35)
          have hclA : (wA.alloc (.cells #[.int .i64 qp, .int .i64 qu, .int .i64 ql, .int .i64 qt] 35)).cell? ⟨l1, k, none⟩ = some (.bool M) := ((((Below.refl _ _).trans bA).alloc bA.size (.cells #[.int .i64 qp, .int .i64 qu, .int .i64 ql, .int .i64 qt] 35)).cell (p := ⟨l1, k, none⟩) (by simp; omega)).trans hcl9
          have hs9 : w9.heap.size < wA.heap.size := by omega
          clear bA hC9 hD9 hR9 AB j0 j1 j2 j3 hltD B9 hcl9 E9
          have LR1 : Hid _ := range3 hRA
          have TH1 : Hid _ := there3 hCA
          have hC1 : Hid (BK.At3 ((wA.alloc (.cells #[.int .i64 qp, .int .i64 qu, .int .i64 ql, .int .i64 qt] 35)).setCells g1 0 (#[.int .i64 rp, .int .i64 ru, .int .i64 rd] : Array Value).toList) g1 (.int .i64 rp) (.int .i64 ru) (.int .i64 rd) 31) := hCA.put _ _ _
          have hD1 := At4far (vs := (#[.int .i64 rp, .int .i64 ru, .int .i64 rd] : Array Value).toList) hDA (show g2 ≠ g1 by omega)
          have hQ1 := At4far (vs := (#[.int .i64 rp, .int .i64 ru, .int .i64 rd] : Array Value).toList) hQA (show wA.heap.size ≠ g1 by omega)
          have LR2 : Hid (World.rangeAt ((wA.alloc (.cells #[.int .i64 qp, .int .i64 qu, .int .i64 ql, .int .i64 qt] 35)).setCells g1 0 (#[.int .i64 rp, .int .i64 ru, .int .i64 rd] : Array Value).toList) wA.heap.size 0 _) := range4 hQ1
          have TH2 : Hid (World.there ((wA.alloc (.cells #[.int .i64 qp, .int .i64 qu, .int .i64 ql, .int .i64 qt] 35)).setCells g1 0 (#[.int .i64 rp, .int .i64 ru, .int .i64 rd] : Array Value).toList) g2 0 4) := there4 hD1
          have hC2 : Hid (BK.At3 (((wA.alloc (.cells #[.int .i64 qp, .int .i64 qu, .int .i64 ql, .int .i64 qt] 35)).setCells g1 0 (#[.int .i64 rp, .int .i64 ru, .int .i64 rd] : Array Value).toList).setCells g2 0 (#[.int .i64 qp, .int .i64 qu, .int .i64 ql, .int .i64 qt] : Array Value).toList) g1 (.int .i64 rp) (.int .i64 ru) (.int .i64 rd) 31) := At3far hC1.out (show g1 ≠ g2 by omega)
          have hD2 : Hid (BK.At4 (((wA.alloc (.cells #[.int .i64 qp, .int .i64 qu, .int .i64 ql, .int .i64 qt] 35)).setCells g1 0 (#[.int .i64 rp, .int .i64 ru, .int .i64 rd] : Array Value).toList).setCells g2 0 (#[.int .i64 qp, .int .i64 qu, .int .i64 ql, .int .i64 qt] : Array Value).toList) g2 (.int .i64 qp) (.int .i64 qu) (.int .i64 ql) (.int .i64 qt) 35) := hD1.put _ _ _ _
          have B2 : Hid (Below w4.heap.size w4 (((wA.alloc (.cells #[.int .i64 qp, .int .i64 qu, .int .i64 ql, .int .i64 qt] 35)).setCells g1 0 (#[.int .i64 rp, .int .i64 ru, .int .i64 rd] : Array Value).toList).setCells g2 0 (#[.int .i64 qp, .int .i64 qu, .int .i64 ql, .int .i64 qt] : Array Value).toList)) := below_sets hg2 _ 0 _ (below_sets hg1 _ 0 _ BA.out)
          have E2 : Hid (Er1 (((wA.alloc (.cells #[.int .i64 qp, .int .i64 qu, .int .i64 ql, .int .i64 qt] 35)).setCells g1 0 (#[.int .i64 rp, .int .i64 ru, .int .i64 rd] : Array Value).toList).setCells g2 0 (#[.int .i64 qp, .int .i64 qu, .int .i64 ql, .int .i64 qt] : Array Value).toList) x0) := (E4.out.below B2.out (Nat.le_refl _)).e2.e1
          have hg12' : g2 < wA.heap.size := by omega
          clear hCA hDA hRA hQA BA hC1 hD1 hQ1 E4
          have em : (M != M) = false := by simp
          by_cases hz : rd - t < 0
          · rw [if_pos hz] at AL
            go_wp2_with (refine wpList_load_mid rfl 31 (.tmp 18) rfl w9.heap.size 0 rfl [.int .i64 rp, .int .i64 ru, .int .i64 rd] _ LR1.out Tryd.underlying31 rfl Tryd.szCeL ?_; refine wpList_store_mid rfl 31 (.tmp 12) (.tmp 139) rfl g1 0 #[.int .i64 rp, .int .i64 ru, .int .i64 rd] rfl rfl ?sa1 ?sa2 ?sa3 ?_; exact TH1.out; exact Tryd.szCeL; exact one3 _ _ _; clear TH1 LR1 hclA; generalize World.setCells _ g1 _ _ = V1 at *; simp only [Act.put, List.setIfInBounds_toArray, List.set_cons_succ, List.set_cons_zero]; refine Hid.out ?_)
            unfold Hid
            go_wp2_with (refine wpList_load_mid rfl 35 (.tmp 21) rfl wA.heap.size 0 rfl [.int .i64 qp, .int .i64 qu, .int .i64 ql, .int .i64 qt] _ LR2.out Tryd.underlying35 rfl Tryd.szBkL ?_; refine wpList_store_mid rfl 35 (.tmp 14) (.tmp 140) rfl g2 0 #[.int .i64 qp, .int .i64 qu, .int .i64 ql, .int .i64 qt] rfl rfl ?sa4 ?sa5 ?sa6 ?_; exact TH2.out; exact Tryd.szBkL; exact one4 _ _ _ _; clear TH2 LR2; generalize World.setCells _ g2 _ _ = V2 at *; simp only [Act.put, List.setIfInBounds_toArray, List.set_cons_succ, List.set_cons_zero]; refine Hid.out ?_)
            unfold Hid
            have hc2' := hC2.out.cells.2.2
            obtain ⟨y0, y1, y2, y3⟩ := hD2.out.cells
            have hltg := hC2.out.lt
            have hltg2 := hD2.out.lt
            go_wp2_with fail
            refine Calls.mono (AL.out _ E2.out) ?_
            rintro e wB ⟨rfl, bB⟩
            have hC3 := hC2.out.below bB hC2.out.lt
            have hD3 := hD2.out.below bB hD2.out.lt
            have B3 := B2.out.trans (bB.mono B2.out.size)
            clear bB hC2 hD2 B2 AL E2 hc2' y0 y1 y2 y3 hltg hltg2
            go_wp2
            go_roundw
            case rel => exact ⟨k + 1, ⟨qp, qu, ql, qt⟩, ⟨rp, ru, rd⟩, by go_num, by omega, HNB, HNC, hC3, hD3, B3⟩
            case measure => simp [intOf]; omega
          · rw [if_neg hz] at AL
            go_wp2_with (refine wpList_load_mid rfl 31 (.tmp 18) rfl w9.heap.size 0 rfl [.int .i64 rp, .int .i64 ru, .int .i64 rd] _ LR1.out Tryd.underlying31 rfl Tryd.szCeL ?_; refine wpList_store_mid rfl 31 (.tmp 12) (.tmp 139) rfl g1 0 #[.int .i64 rp, .int .i64 ru, .int .i64 rd] rfl rfl ?sb1 ?sb2 ?sb3 ?_; exact TH1.out; exact Tryd.szCeL; exact one3 _ _ _; clear TH1 LR1 hclA; generalize World.setCells _ g1 _ _ = V1 at *; simp only [Act.put, List.setIfInBounds_toArray, List.set_cons_succ, List.set_cons_zero]; refine Hid.out ?_)
            unfold Hid
            go_wp2_with (refine wpList_load_mid rfl 35 (.tmp 21) rfl wA.heap.size 0 rfl [.int .i64 qp, .int .i64 qu, .int .i64 ql, .int .i64 qt] _ LR2.out Tryd.underlying35 rfl Tryd.szBkL ?_; refine wpList_store_mid rfl 35 (.tmp 14) (.tmp 140) rfl g2 0 #[.int .i64 qp, .int .i64 qu, .int .i64 ql, .int .i64 qt] rfl rfl ?sb4 ?sb5 ?sb6 ?_; exact TH2.out; exact Tryd.szBkL; exact one4 _ _ _ _; clear TH2 LR2; generalize World.setCells _ g2 _ _ = V2 at *; simp only [Act.put, List.setIfInBounds_toArray, List.set_cons_succ, List.set_cons_zero]; refine Hid.out ?_)
            unfold Hid
            have hc2' := hC2.out.cells.2.2
            obtain ⟨y0, y1, y2, y3⟩ := hD2.out.cells
            have hltg := hC2.out.lt
            have hltg2 := hD2.out.lt
            go_wp2_with fail
            refine Calls.mono (AL.out _ E2.out) ?_
            rintro e wB ⟨rfl, bB⟩
            have hC3 := hC2.out.below bB hC2.out.lt
            have hD3 := hD2.out.below bB hD2.out.lt
            have B3 := B2.out.trans (bB.mono B2.out.size)
            clear bB hC2 hD2 B2 AL E2 hc2' y0 y1 y2 y3 hltg hltg2
            go_wp2
            go_roundw
            case rel => exact ⟨k + 1, ⟨qp, qu, ql, qt⟩, ⟨rp, ru, rd⟩, by go_num, by omega, HNB, HNC, hC3, hD3, B3⟩
            case measure => simp [intOf]; omega
        · obtain rfl : k = ts.length := by omega
          have BW : Hid (Below w.heap.size w wr) := BW4.out.trans (hB.mono BW4.out.size)
          clear HQ HLK HLV hb hc hC hD hB I4 T4 BW4 E4 hlk
          go_wp2_with fail
          refine Calls.mono (drawAskC_any a' ys cb _ hy (HBY.out _ BW.out)) ?_
          rintro e v1 ⟨c, n, rfl, d1⟩
          have E1 : Hid _ := (HE.out.below (BW.out.trans (d1.mono BW.out.size)) (Nat.le_refl _)).e2
          have B1 : Hid _ := BW.out.trans (d1.mono BW.out.size)
          have QI : Hid (∀ V : World, Er2 V x0 x1 → Calls Tryd.prog 13 #[c.v, .int .i64 n] V fun e w' => e = .returned (.tuple #[(BK.askC c n).v, .bool (BK.letC c n), .bool (BK.dueOk c n)]) ∧ Below V.heap.size V w') := fun V h => implAskC_any c n x0 x1 V h
          have QS : Hid (∀ V : World, Calls Tryd.prog 17 #[c.v, .int .i64 n] V fun e w' => e = .returned (.tuple #[(BK.askC c n).v, .bool (BK.letC c n), .bool (BK.dueOk c n)]) ∧ Below V.heap.size V w') := fun V => specAskC_any c n V
          have GI : Hid (∀ V : World, Calls Tryd.prog 11 #[c.v] V fun e w' => e = .returned (.bool (BK.goodC c)) ∧ Below V.heap.size V w') := fun V => goodCI_any c V _ rfl
          have GS : Hid (∀ V : World, Calls Tryd.prog 18 #[c.v] V fun e w' => e = .returned (.bool (BK.goodC c)) ∧ Below V.heap.size V w') := fun V => goodCS_any c V _ rfl
          generalize BK.askC c n = R at *
          generalize BK.letC c n = M at *
          generalize BK.dueOk c n = V0 at *
          generalize BK.goodC c = G at *
          obtain ⟨cp, cu, cd⟩ := c
          obtain ⟨rp, ru, rd⟩ := R
          have hA1 := BK.At3.new v1 (.int .i64 cp) (.int .i64 cu) (.int .i64 cd) 31 _ rfl
          have B1a : Hid _ := B1.out.alloc B1.out.size (.cells #[.int .i64 cp, .int .i64 cu, .int .i64 cd] 31)
          have E1a : Hid _ := E1.out.alloc (.cells #[.int .i64 cp, .int .i64 cu, .int .i64 cd] 31)
          clear d1 E1 B1 BW
          go_wp2_with fail
          refine Calls.mono (QI.out _ E1a.out) ?_
          rintro e v2 ⟨rfl, d2⟩
          have hA2 := (hA1.below d2 hA1.lt).alloc (.cells #[.int .i64 rp, .int .i64 ru, .int .i64 rd] 31)
          have hR2 := BK.At3.new v2 (.int .i64 rp) (.int .i64 ru) (.int .i64 rd) 31 _ rfl
          have B2 : Hid _ := (B1a.out.trans (d2.mono B1a.out.size)).alloc (Nat.le_trans B1a.out.size d2.size) (.cells #[.int .i64 rp, .int .i64 ru, .int .i64 rd] 31)
          obtain ⟨k0, k1, k2⟩ := hA2.cells
          have hltA := hA2.lt
          clear d2 hA1 B1a E1a QI HE HBY
          go_wp2_with fail
          refine Calls.mono (QS.out _) ?_
          rintro e v3 ⟨rfl, d3⟩
          have hA3 := (hA2.below d3 hA2.lt).alloc (.cells #[.int .i64 rp, .int .i64 ru, .int .i64 rd] 31)
          have hR3 := (hR2.below d3 hR2.lt).alloc (.cells #[.int .i64 rp, .int .i64 ru, .int .i64 rd] 31)
          have hS3 := BK.At3.new v3 (.int .i64 rp) (.int .i64 ru) (.int .i64 rd) 31 _ rfl
          have B3 : Hid _ := (B2.out.trans (d3.mono B2.out.size)).alloc (Nat.le_trans B2.out.size d3.size) (.cells #[.int .i64 rp, .int .i64 ru, .int .i64 rd] 31)
          clear d3 hA2 hR2 B2 QS k0 k1 k2 hltA
          go_wp2_with fail
          generalize v3.alloc (.cells #[.int .i64 rp, .int .i64 ru, .int .i64 rd] 31) = V at *
          generalize v1.heap.size = q1 at *
          generalize v2.heap.size = q2 at *
          generalize v3.heap.size = q3 at *
          have GIS : Hid (∀ V : World, FnG V w q1 q2 q3 cp cu cd rp ru rd → Calls Tryd.prog 11 #[.agg #[.int .i64 cp, .int .i64 cu, .int .i64 cd]] V fun e w' => e = .returned (.bool G) ∧ FnG w' w q1 q2 q3 cp cu cd rp ru rd) := fun V h => (GI.out V).mono (by rintro e w' ⟨rfl, hb⟩; exact ⟨rfl, fnG_below h hb⟩)
          have GSS : Hid (∀ V : World, FnG V w q1 q2 q3 cp cu cd rp ru rd → Calls Tryd.prog 18 #[.agg #[.int .i64 cp, .int .i64 cu, .int .i64 cd]] V fun e w' => e = .returned (.bool G) ∧ FnG w' w q1 q2 q3 cp cu cd rp ru rd) := fun V h => (GS.out V).mono (by rintro e w' ⟨rfl, hb⟩; exact ⟨rfl, fnG_below h hb⟩)
          have hSd : FnG V.drew w q1 q2 q3 cp cu cd rp ru rd := fnG_of (hA3.below (Below.refl _ V).drew hA3.lt) (hR3.below (Below.refl _ V).drew hR3.lt) (hS3.below (Below.refl _ V).drew hS3.lt) B3.out.drew
          obtain ⟨k0, k1, k2⟩ := hA3.cells
          obtain ⟨j0, j1, j2⟩ := hR3.cells
          obtain ⟨i0, i1, i2⟩ := hS3.cells
          clear hA3 hR3 hS3 B3 GI GS
          have e1 : (V0 == V0) = true := by simp
          have e2 : (M == M) = true := by simp
          have e3 : (G == G) = true := by simp
          go_region_held3 (fun w' => Below w.heap.size w w' ∧ q1 < w'.heap.size ∧ q2 < w'.heap.size ∧ q3 < w'.heap.size ∧ w'.cell? ⟨q1, 0, none⟩ = some (.int .i64 cp) ∧ w'.cell? ⟨q1, 1, none⟩ = some (.int .i64 cu) ∧ w'.cell? ⟨q1, 2, none⟩ = some (.int .i64 cd) ∧ w'.cell? ⟨q2, 0, none⟩ = some (.int .i64 rp) ∧ w'.cell? ⟨q2, 1, none⟩ = some (.int .i64 ru) ∧ w'.cell? ⟨q2, 2, none⟩ = some (.int .i64 rd) ∧ w'.cell? ⟨q3, 0, none⟩ = some (.int .i64 rp) ∧ w'.cell? ⟨q3, 1, none⟩ = some (.int .i64 ru) ∧ w'.cell? ⟨q3, 2, none⟩ = some (.int .i64 rd)) (first | assumption | (show _ ∧ _; assumption)) (first | (go_at_call 11; refine Calls.mono (GIS.out _ (by assumption)) ?_; (rintro e wq ⟨rfl, hSq⟩)) | (go_at_call 18; refine Calls.mono (GSS.out _ (by assumption)) ?_; (rintro e wz ⟨rfl, hSz⟩)))
          have hbz := hSz.1
          clear hSd hSq hSz GIS GSS k0 k1 k2 j0 j1 j2 i0 i1 i2
          go_wp2
          go_ret
          exact ⟨rfl, hbz⟩
  · have h20' : decide (1048576 < zs.length + ys.length) = true := by simp; omega
    have h21 : (1048576 : Int) < (zs.length : Int) + (ys.length : Int) := by omega
    clear hbz hby hE
    go_enter Tryd.func3, Tryd.ntmps3
    go_wp2
    go_ret
    exact ⟨rfl, Below.refl _ _⟩
end Go.Proofs.YteedppngiknjlaaDoor
