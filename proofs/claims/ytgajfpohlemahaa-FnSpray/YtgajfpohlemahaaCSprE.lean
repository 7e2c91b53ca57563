/- DrawPlaySpray, DrawMeetBoth. -/
import Derived.Test.YtgajfpohlemahaaRows
import Derived.Test.YtgajfpohlemahaaCSprD
import Derived.Test.YtgajfpohlemahaaMCurNew
import Derived.Lib.SmallJoins
import Derived.WalkKit
import Derived.WalkSpells
import Derived.WalkLawsBesides
import Derived.Outline
namespace Go.Proofs.Ytgajfpohlemahaa
open Go.RowKit
theorem Try.sizeSprD : (Try.prog.info? 28).map (·.size) = some 3 := by kernel_rfl
theorem Try.sizeMeetD : (Try.prog.info? 39).map (·.size) = some 2 := by kernel_rfl
namespace ML
theorem there3 {w : World} {k : Nat} {a b c : Value} {t : TypeId} (h : SP.B3 w k a b c t) : w.there k 0 3 := fun j hj => by
  obtain ⟨h0, h1, h2⟩ := h.cells
  refine ⟨?_, h.free _⟩
  rcases (show j = 0 ∨ j = 1 ∨ j = 2 by omega) with rfl | rfl | rfl
  · rw [Nat.zero_add, h0]; rfl
  · rw [Nat.zero_add, h1]; rfl
  · rw [Nat.zero_add, h2]; rfl
theorem there2 {w : World} {k : Nat} {a b : Value} {t : TypeId} (h : SP.B2 w k a b t) : w.there k 0 2 := fun j hj => by
  obtain ⟨h0, h1⟩ := h.cells
  refine ⟨?_, by unfold World.frozen?; rw [h.is]; simp⟩
  rcases (show j = 0 ∨ j = 1 by omega) with rfl | rfl
  · rw [Nat.zero_add, h0]; rfl
  · rw [Nat.zero_add, h1]; rfl
theorem b2set {w : World} {k : Nat} {a b : Value} {t : TypeId} (h : SP.B2 w k a b t) (x y : Value) : SP.B2 (w.setCells k 0 [x, y]) k x y t := by
  have h0 := Go.Joins.block_setCell (i := 0) h.is x
  have h1 := Go.Joins.block_setCell (i := 1) h0 y
  simp only [List.setIfInBounds_toArray, List.set_cons_succ, List.set_cons_zero] at h1
  exact ⟨h1⟩
end ML
set_option maxHeartbeats 1600000 in
set_option maxRecDepth 100000 in
theorem drawPlay_any (a : Option Addr) (zs : List Int) (cap : Nat) (w : World) (hz : zs.length ≤ 140737488355328) (hb : MC.BytesAt w w.heap.size a zs) :
    Calls Try.prog 4 #[.slice a zs.length cap] w fun e w' => ∃ (n f t c : Int) (a1 : Option Addr) (c1 : Nat) (ms : List I2), e = .returned (.tuple #[.int .i64 n, .int .i64 f, .int .i64 t, .int .i64 c, .slice a1 ms.length c1]) ∧ ms.length ≤ 101 ∧ MI2.RowAt w' a1 ms ∧ Below w.heap.size w w' := by
  go_enter Try.func4, Try.ntmps4
  go_wp2_with fail
  refine (sprayOf_any w.heap.size a zs cap 0 _ hz (by omega) (cur_new hb)).mono ?_
  rintro e w1 ⟨nd, f, t, c, rfl, hnd, hc1, ho1⟩
  clear hb
  go_wp2_with fail
  refine (meets_any w.heap.size a zs cap (0 + 20) nd hnd _ hz (by omega) hc1).mono ?_
  rintro e w2 ⟨a1, c1, ms, rfl, hl, hown, hc2, ho2⟩
  have hB := new_below rfl (ho1.trans ho2)
  have hI : MI2.RowAt w2 a1 ms := by
    obtain ⟨a', cap', hv, h⟩ := ML.own_row2 hown
    cases hv
    exact h
  clear ho1 ho2 hown hc1 hc2
  have HI : Hid _ := And.intro hl (And.intro hI hB)
  clear hl hI hB
  go_wp2
  exact bodyPost_ret (v := .tuple #[.int .i64 (nd : Int), .int .i64 f, .int .i64 t, .int .i64 c, .slice a1 ms.length c1]) (by simp [results, Try.results4, go_sem]) rfl ⟨(nd : Int), f, t, c, a1, c1, ms, rfl, HI.out.1, HI.out.2.1, HI.out.2.2⟩
set_option linter.unusedSimpArgs false in
set_option maxHeartbeats 3200000 in
set_option maxRecDepth 100000 in
theorem drawMeet_any (a : Option Addr) (zs0 : List Int) (cap : Nat) (w : World) (hz : zs0.length ≤ 140737488355328) (hb : MC.BytesAt w w.heap.size a zs0) :
    Calls Try.prog 12 #[.slice a zs0.length cap] w fun e w' => ∃ (g cg : Nat) (zs : List Int) (t x y : Int) (th : Bool), e = .returned (.tuple #[.agg #[.slice (some ⟨g, 0, none⟩) zs.length cg, .int .i64 t, .bool th], .agg #[.int .i64 x, .int .i64 y]]) ∧ (2 ≤ zs.length ∧ zs.length ≤ 8) ∧ w'.ownsRow w.heap.size 3 1 (.slice (some ⟨g, 0, none⟩) zs.length cg) zs.length (M4.iv zs) ∧ Below w.heap.size w w' := by
  have BX : Below w.heap.size w ((w.alloc (.cells #[.slice none 0 0, .int .i64 0, .bool false] 28)).alloc (.cells #[.int .i64 0, .int .i64 0] 39)) := ((Below.refl _ _).alloc (Nat.le_refl _) _).alloc (by simp) _
  have bR := (SP.B3.new w (.slice none 0 0) (.int .i64 0) (.bool false) 28 rfl).alloc (.cells #[.int .i64 0, .int .i64 0] 39)
  have bM := SP.B2.new (w.alloc (.cells #[.slice none 0 0, .int .i64 0, .bool false] 28)) (.int .i64 0) (.int .i64 0) 39 (k := w.heap.size + 1) (by simp)
  have hb0 : MC.BytesAt ((w.alloc (.cells #[.slice none 0 0, .int .i64 0, .bool false] 28)).alloc (.cells #[.int .i64 0, .int .i64 0] 39)) ((w.alloc (.cells #[.slice none 0 0, .int .i64 0, .bool false] 28)).alloc (.cells #[.int .i64 0, .int .i64 0] 39)).heap.size a zs0 := (hb.only (q := w.heap.size) (MC.Only.of_below BX) (Nat.le_refl _) (Nat.le_refl _)).up BX.size
  have hsz : ((w.alloc (.cells #[.slice none 0 0, .int .i64 0, .bool false] 28)).alloc (.cells #[.int .i64 0, .int .i64 0] 39)).heap.size = w.heap.size + 1 + 1 := by simp
  obtain ⟨W0, eW⟩ : ∃ W0, ((w.alloc (.cells #[.slice none 0 0, .int .i64 0, .bool false] 28)).alloc (.cells #[.int .i64 0, .int .i64 0] 39)) = W0 := ⟨_, rfl⟩
  rw [eW] at BX bR bM hb0 hsz
  have hcur := cur_new (T := 48) (cap := cap) hb0
  have HA : Below W0.heap.size W0 (W0.alloc (.cells #[.slice a zs0.length cap, .int .i64 0, .int .u64 0] 48)) := (Below.refl _ _).alloc (Nat.le_refl _) _
  replace bR := bR.alloc (.cells #[.slice a zs0.length cap, .int .i64 0, .int .u64 0] 48)
  replace bM := bM.alloc (.cells #[.slice a zs0.length cap, .int .i64 0, .int .u64 0] 48)
  have B := BX.trans (HA.mono BX.size)
  rw [hsz] at hcur
  subst eW
  clear hb0 HA BX hb
  go_enter Try.func12, Try.ntmps12
  go_wp2_with fail
  generalize ((w.alloc (.cells #[.slice none 0 0, .int .i64 0, .bool false] 28)).alloc (.cells #[.int .i64 0, .int .i64 0] 39)).alloc (.cells #[.slice a zs0.length cap, .int .i64 0, .int .u64 0] 48) = W1 at *
  refine (spray_any (w.heap.size + 1 + 1) a zs0 cap 0 _ hz (by omega) hcur).mono ?_
  rintro e w1 ⟨g, cg, zs, t, th, rfl, hl2, own, hc1, ho1⟩
  replace bR := bR.only ho1 (by omega)
  replace bM := bM.only ho1 (by omega)
  have hs1 := ho1.size
  have hW1 := hcur.lt
  have hgl := own.lt g rfl
  replace B := B.trans (ho1.below (B := w.heap.size) (by omega) (by omega))
  have own1 := SP.own_le own (show w.heap.size ≤ W1.heap.size by omega)
  clear own ho1 hcur hsz
  have bS := SP.B3.new w1 (.slice (some ⟨g, 0, none⟩) zs.length cg) (.int .i64 t) (.bool th) 28 (k := w1.heap.size) rfl
  have HA : Below w1.heap.size w1 (w1.alloc (.cells #[.slice (some ⟨g, 0, none⟩) zs.length cg, .int .i64 t, .bool th] 28)) := (Below.refl _ _).alloc (Nat.le_refl _) _
  replace bR := bR.alloc (.cells #[.slice (some ⟨g, 0, none⟩) zs.length cg, .int .i64 t, .bool th] 28)
  replace bM := bM.alloc (.cells #[.slice (some ⟨g, 0, none⟩) zs.length cg, .int .i64 t, .bool th] 28)
  have hc2 := hc1.alloc (.cells #[.slice (some ⟨g, 0, none⟩) zs.length cg, .int .i64 t, .bool th] 28)
  replace B := B.trans (HA.mono B.size)
  replace own1 := M5.own_below own1 HA
  clear hc1
  have hq : ∃ q, w1.heap.size = q := ⟨_, rfl⟩
  obtain ⟨q, hq⟩ := hq
  rw [hq] at bS hgl
  have hlq : w.heap.size + 1 + 1 < q := by omega
  have hgw : w.heap.size + 1 + 1 < g := by omega
  obtain ⟨n, hn⟩ : ∃ n, zs.length = n := ⟨_, rfl⟩
  have HN : Hid _ := hn
  go_wp2_with fail
  rw [hn] at bS bR bM hc2 B own1 hl2 HA
  clear hn HA
  try rw [hq]
  generalize w1.alloc (.cells #[.slice (some ⟨g, 0, none⟩) n cg, .int .i64 t, .bool th] 28) = w2 at *
  obtain ⟨s0, s1, s2⟩ := bS.cells
  have lS := bS.lt
  clear hq hs1
  refine MR.frame fun A hA => ?_
  have hsz : A.tmps.size = 24 := by rw [hA]; rfl
  have e2 : A.eval (.tmp 2) = .pointer (some ⟨w.heap.size, 0, none⟩) := by rw [hA]; rfl
  have f2 := MR.read (t := 2) (by rw [hsz]; decide) e2
  have e3 : A.eval (.tmp 3) = .pointer (some ⟨w.heap.size + 1, 0, none⟩) := by rw [hA]; rfl
  have f3 := MR.read (t := 3) (by rw [hsz]; decide) e3
  have e4 : A.eval (.tmp 4) = .pointer (some ⟨w.heap.size + 1 + 1, 0, none⟩) := by rw [hA]; rfl
  have f4 := MR.read (t := 4) (by rw [hsz]; decide) e4
  have e5 : A.eval (.tmp 5) = .pointer (some ⟨q, 0, none⟩) := by rw [hA]; rfl
  have f5 := MR.read (t := 5) (by rw [hsz]; decide) e5
  have HA : Hid (A = _) := hA
  clear hA
  refine MR.cut (fun aa w' => ∃ (x y : Nat), aa = (((((((((((((A.put (some 11) (.agg #[.slice (some ⟨g, 0, none⟩) n cg, .int .i64 t, .bool th])).put (some 12) (.pointer (some ⟨w.heap.size + 1 + 1, 0, none⟩))).put (some 13) (.pointer (some ⟨q, 0, none⟩))).put (some 14) (.slice (some ⟨g, 0, none⟩) n cg)).put (some 15) (.int .i64 (n : Int))).put (some 16) (.int .i64 ((n : Int) + 1))).put (some 17) (.int .i64 (x : Int))).put (some 18) (.pointer (some ⟨w.heap.size + 1 + 1, 0, none⟩))).put (some 19) (.pointer (some ⟨q, 0, none⟩))).put (some 20) (.slice (some ⟨g, 0, none⟩) n cg)).put (some 21) (.int .i64 (n : Int))).put (some 22) (.int .i64 (y : Int))).put (some 23) (.agg #[.int .i64 (x : Int), .int .i64 (y : Int)])) ∧ Hid (SP.B3 w' w.heap.size (.slice (some ⟨g, 0, none⟩) n cg) (.int .i64 t) (.bool th) 28 ∧ SP.B2 w' (w.heap.size + 1) (.int .i64 (x : Int)) (.int .i64 (y : Int)) 39 ∧ World.ownsRow w' w.heap.size 3 1 (.slice (some ⟨g, 0, none⟩) n cg) n (M4.iv zs) ∧ Below w.heap.size w w')) ?_ ?_
  · have hd : Below w2.heap.size w2 (World.drew w2) := (Below.refl _ w2).drew
    have hS : (fun w' : World => w'.cell? ⟨q, 0, none⟩ = some (.slice (some ⟨g, 0, none⟩) n cg) ∧ w'.cell? ⟨q, 1, none⟩ = some (.int .i64 t) ∧ w'.cell? ⟨q, 2, none⟩ = some (.bool th)) (World.drew w2) := ⟨(hd.cell (p := ⟨q, 0, none⟩) lS).trans s0, (hd.cell (p := ⟨q, 1, none⟩) lS).trans s1, (hd.cell (p := ⟨q, 2, none⟩) lS).trans s2⟩
    have hOd : MC.Only (w.heap.size + 1 + 1) w2 (World.drew w2) := MC.Only.of_below hd
    refine wp_region_held (S := fun w' : World => w'.cell? ⟨q, 0, none⟩ = some (.slice (some ⟨g, 0, none⟩) n cg) ∧ w'.cell? ⟨q, 1, none⟩ = some (.int .i64 t) ∧ w'.cell? ⟨q, 2, none⟩ = some (.bool th)) (by kernel_rfl) ?_
    change wpAnyH _ _ _ _ _ _ _ _ (World.drew _)
    have wp1 : IntKind.wrap .i64 ((n : Int) + 1) = (n : Int) + 1 := ML.wr (by omega) (by omega)
    refine MR.takeH (i := 0) (some 11) (.agg #[.slice (some ⟨g, 0, none⟩) n cg, .int .i64 t, .bool th]) rfl rfl (by kernel_rfl) (by kernel_rfl) (by kernel_rfl) nofun hS (MR.free rfl) (fun wq hw => by simp [execOp, MR.ev, MR.size, hsz, e2, f2, e3, f3, e4, f4, e5, f5, hw.1, hw.2.1, hw.2.2, go_sem]) ?_
    refine MR.takeH (i := 1) (some 12) (.pointer (some ⟨w.heap.size + 1 + 1, 0, none⟩)) rfl rfl (by kernel_rfl) (by kernel_rfl) (by kernel_rfl) nofun hS (MR.free rfl) (fun wq hw => by simp [execOp, MR.ev, MR.size, hsz, e2, f2, e3, f3, e4, f4, e5, f5, go_sem]) ?_
    refine MR.takeH (i := 2) (some 13) (.pointer (some ⟨q, 0, none⟩)) rfl rfl (by kernel_rfl) (by kernel_rfl) (by kernel_rfl) nofun hS (MR.free rfl) (fun wq hw => by simp [execOp, MR.ev, MR.size, hsz, e2, f2, e3, f3, e4, f4, e5, f5, go_sem]) ?_
    refine MR.takeH (i := 3) (some 14) (.slice (some ⟨g, 0, none⟩) n cg) rfl rfl (by kernel_rfl) (by kernel_rfl) (by kernel_rfl) nofun hS (MR.free rfl) (fun wq hw => by simp [execOp, MR.ev, MR.size, hsz, e2, f2, e3, f3, e4, f4, e5, f5, hw.1, go_sem]) ?_
    refine MR.takeH (i := 4) (some 15) (.int .i64 (n : Int)) rfl rfl (by kernel_rfl) (by kernel_rfl) (by kernel_rfl) nofun hS (MR.free rfl) (fun wq hw => by simp [execOp, MR.ev, MR.size, hsz, e2, f2, e3, f3, e4, f4, e5, f5, go_sem]) ?_
    refine MR.takeH (i := 5) (some 16) (.int .i64 ((n : Int) + 1)) rfl rfl (by kernel_rfl) (by kernel_rfl) (by kernel_rfl) nofun hS (MR.free rfl) (fun wq hw => by simp [execOp, MR.ev, MR.size, hsz, e2, f2, e3, f3, e4, f4, e5, f5, wp1, go_sem]) ?_
    refine MR.takeH (i := 7) (some 18) (.pointer (some ⟨w.heap.size + 1 + 1, 0, none⟩)) rfl rfl (by kernel_rfl) (by kernel_rfl) (by kernel_rfl) nofun hS (MR.free rfl) (fun wq hw => by simp [execOp, MR.ev, MR.size, hsz, e2, f2, e3, f3, e4, f4, e5, f5, go_sem]) ?_
    refine MR.takeH (i := 8) (some 19) (.pointer (some ⟨q, 0, none⟩)) rfl rfl (by kernel_rfl) (by kernel_rfl) (by kernel_rfl) nofun hS (MR.free rfl) (fun wq hw => by simp [execOp, MR.ev, MR.size, hsz, e2, f2, e3, f3, e4, f4, e5, f5, go_sem]) ?_
    refine MR.takeH (i := 9) (some 20) (.slice (some ⟨g, 0, none⟩) n cg) rfl rfl (by kernel_rfl) (by kernel_rfl) (by kernel_rfl) nofun hS (MR.free rfl) (fun wq hw => by simp [execOp, MR.ev, MR.size, hsz, e2, f2, e3, f3, e4, f4, e5, f5, hw.1, go_sem]) ?_
    refine MR.takeH (i := 10) (some 21) (.int .i64 (n : Int)) rfl rfl (by kernel_rfl) (by kernel_rfl) (by kernel_rfl) nofun hS (MR.free rfl) (fun wq hw => by simp [execOp, MR.ev, MR.size, hsz, e2, f2, e3, f3, e4, f4, e5, f5, go_sem]) ?_
    refine MR.callH (i := 6) (some 17) (26) (#[.pointer (some ⟨w.heap.size + 1 + 1, 0, none⟩), .int .i64 ((n : Int) + 1)]) (by kernel_rfl) rfl rfl (MR.free rfl) (by simp [execOp, MR.ev, MR.size, hsz, e2, f2, e3, f3, e4, f4, e5, f5, go_sem]) ?_
    refine (pick_any (w.heap.size + 1 + 1) a zs0 cap (0 + 500) _ _ hz (by omega) (hc2.below hd)).mono ?_
    rintro e w6 ⟨x, rfl, hx, _, hc6, ho6⟩
    have hS6 : MC.Only (w.heap.size + 1 + 1) w2 w6 := hOd.trans ho6
    have hQ6 : (fun w' : World => w'.cell? ⟨q, 0, none⟩ = some (.slice (some ⟨g, 0, none⟩) n cg) ∧ w'.cell? ⟨q, 1, none⟩ = some (.int .i64 t) ∧ w'.cell? ⟨q, 2, none⟩ = some (.bool th)) w6 := ⟨(hS6.cell (x := ⟨q, 0, none⟩) lS (by show q ≠ _; omega)).trans s0, (hS6.cell (x := ⟨q, 1, none⟩) lS (by show q ≠ _; omega)).trans s1, (hS6.cell (x := ⟨q, 2, none⟩) lS (by show q ≠ _; omega)).trans s2⟩
    refine ⟨_, rfl, hQ6, ?_⟩
    refine MR.callH (i := 11) (some 22) (26) (#[.pointer (some ⟨w.heap.size + 1 + 1, 0, none⟩), .int .i64 (n : Int)]) (by kernel_rfl) rfl rfl (MR.free rfl) (by simp [execOp, MR.ev, MR.size, hsz, e2, f2, e3, f3, e4, f4, e5, f5, go_sem]) ?_
    refine (pick_any (w.heap.size + 1 + 1) a zs0 cap (0 + 502) _ _ hz (by omega) hc6).mono ?_
    rintro e w7 ⟨y, rfl, hy, _, hc7, ho7⟩
    have hS7 : MC.Only (w.heap.size + 1 + 1) w2 w7 := hS6.trans ho7
    have hQ7 : (fun w' : World => w'.cell? ⟨q, 0, none⟩ = some (.slice (some ⟨g, 0, none⟩) n cg) ∧ w'.cell? ⟨q, 1, none⟩ = some (.int .i64 t) ∧ w'.cell? ⟨q, 2, none⟩ = some (.bool th)) w7 := ⟨(hS7.cell (x := ⟨q, 0, none⟩) lS (by show q ≠ _; omega)).trans s0, (hS7.cell (x := ⟨q, 1, none⟩) lS (by show q ≠ _; omega)).trans s1, (hS7.cell (x := ⟨q, 2, none⟩) lS (by show q ≠ _; omega)).trans s2⟩
    refine ⟨_, rfl, hQ7, ?_⟩
    refine MR.takeH (i := 12) (some 23) (.agg #[.int .i64 (x : Int), .int .i64 (y : Int)]) rfl rfl (by kernel_rfl) (by kernel_rfl) (by kernel_rfl) nofun hQ7 (MR.free rfl) (fun wq hw => by simp [execOp, MR.ev, MR.size, hsz, e2, f2, e3, f3, e4, f4, e5, f5, go_sem]) ?_
    have R7 := bR.only hS7 (by omega)
    have M7 := bM.only hS7 (by omega)
    have O7 := SP.own_only2 own1 hS7 (fun e => by simp [Value.ownBlock] at e; omega)
    have B7 := B.trans (hS7.below (B := w.heap.size) (by omega) B.size)
    have on1 := RA.only_cells w.heap.size [.slice (some ⟨g, 0, none⟩) n cg, .int .i64 t, .bool th] 0 w7
    have R8 : SP.B3 (w7.setCells w.heap.size 0 [.slice (some ⟨g, 0, none⟩) n cg, .int .i64 t, .bool th]) w.heap.size (.slice (some ⟨g, 0, none⟩) n cg) (.int .i64 t) (.bool th) 28 := ((R7.set0 _).set1 _).set2 _
    have M8 := M7.only on1 (by omega)
    have O8 := SP.own_only2 O7 on1 (fun e => by simp [Value.ownBlock] at e; omega)
    have B8 := MA.below_cells (Nat.le_refl w.heap.size) [.slice (some ⟨g, 0, none⟩) n cg, .int .i64 t, .bool th] 0 _ B7
    have hQ8 : (fun w' : World => w'.cell? ⟨q, 0, none⟩ = some (.slice (some ⟨g, 0, none⟩) n cg) ∧ w'.cell? ⟨q, 1, none⟩ = some (.int .i64 t) ∧ w'.cell? ⟨q, 2, none⟩ = some (.bool th)) (w7.setCells w.heap.size 0 [.slice (some ⟨g, 0, none⟩) n cg, .int .i64 t, .bool th]) := ⟨(on1.cell (x := ⟨q, 0, none⟩) (Nat.lt_of_lt_of_le lS hS7.size) (by show q ≠ _; omega)).trans hQ7.1, (on1.cell (x := ⟨q, 1, none⟩) (Nat.lt_of_lt_of_le lS hS7.size) (by show q ≠ _; omega)).trans hQ7.2.1, (on1.cell (x := ⟨q, 2, none⟩) (Nat.lt_of_lt_of_le lS hS7.size) (by show q ≠ _; omega)).trans hQ7.2.2⟩
    refine MR.storeN (i := 13) (by kernel_rfl) rfl rfl (MR.free rfl) (MA.ex_store (vs := [.slice (some ⟨g, 0, none⟩) n cg, .int .i64 t, .bool th]) rfl (by simp [MR.ev, MR.size, hsz, e2, f2, e3, f3, e4, f4, e5, f5]) (by simp [MR.ev, MR.size, hsz, e2, f2, e3, f3, e4, f4, e5, f5]) (ML.there3 R7) Try.sizeSprD rfl (by simp [Value.oneCell'])) ⟨hQ8, ?_⟩
    generalize w7.setCells w.heap.size 0 [.slice (some ⟨g, 0, none⟩) n cg, .int .i64 t, .bool th] = w8 at *
    have hq8 : q < w8.heap.size := by have := World.block_lt_of_cell? w8 ⟨q, 0, none⟩ hQ8.1; exact this
    have on2 := RA.only_cells (w.heap.size + 1) [.int .i64 (x : Int), .int .i64 (y : Int)] 0 w8
    have M9 : SP.B2 (w8.setCells (w.heap.size + 1) 0 [.int .i64 (x : Int), .int .i64 (y : Int)]) (w.heap.size + 1) (.int .i64 (x : Int)) (.int .i64 (y : Int)) 39 := ML.b2set M8 _ _
    have R9 := R8.only on2 (by omega)
    have O9 := SP.own_only2 O8 on2 (fun e => by simp [Value.ownBlock] at e; omega)
    have B9 := MA.below_cells (show w.heap.size ≤ w.heap.size + 1 by omega) [.int .i64 (x : Int), .int .i64 (y : Int)] 0 _ B8
    have hQ9 : (fun w' : World => w'.cell? ⟨q, 0, none⟩ = some (.slice (some ⟨g, 0, none⟩) n cg) ∧ w'.cell? ⟨q, 1, none⟩ = some (.int .i64 t) ∧ w'.cell? ⟨q, 2, none⟩ = some (.bool th)) (w8.setCells (w.heap.size + 1) 0 [.int .i64 (x : Int), .int .i64 (y : Int)]) := ⟨(on2.cell (x := ⟨q, 0, none⟩) hq8 (by show q ≠ _; omega)).trans hQ8.1, (on2.cell (x := ⟨q, 1, none⟩) hq8 (by show q ≠ _; omega)).trans hQ8.2.1, (on2.cell (x := ⟨q, 2, none⟩) hq8 (by show q ≠ _; omega)).trans hQ8.2.2⟩
    refine MR.storeN (i := 14) (by kernel_rfl) rfl rfl (MR.free rfl) (MA.ex_store (vs := [.int .i64 (x : Int), .int .i64 (y : Int)]) rfl (by simp [MR.ev, MR.size, hsz, e2, f2, e3, f3, e4, f4, e5, f5]) (by simp [MR.ev, MR.size, hsz, e2, f2, e3, f3, e4, f4, e5, f5]) (ML.there2 M8) Try.sizeMeetD rfl (by simp [Value.oneCell'])) ⟨hQ9, ?_⟩
    refine wpAnyH_done (by kernel_rfl) ⟨rfl, x, y, ?_, ⟨R9, M9, O9, B9⟩⟩ _
    rw [HA.out]
    simp only [Act.put, List.setIfInBounds_toArray, List.set_cons_succ, List.set_cons_zero]
    try rfl
  rintro aa w9 ⟨x, y, rfl, HF⟩
  rw [HA.out]
  simp only [Act.put, List.setIfInBounds_toArray, List.set_cons_succ, List.set_cons_zero]
  clear HA hsz e2 f2 e3 f3 e4 f4 e5 f5 s0 s1 s2 lS bS bR bM hc2 B own1
  obtain ⟨bR3, bM3, own3, B3⟩ := HF.out
  obtain ⟨e0, e1, e2⟩ := bR3.cells
  obtain ⟨d0, d1⟩ := bM3.cells
  go_wp2
  exact bodyPost_ret (v := .tuple #[.agg #[.slice (some ⟨g, 0, none⟩) n cg, .int .i64 t, .bool th], .agg #[.int .i64 (x : Int), .int .i64 (y : Int)]]) (by simp [results, Try.results12, go_sem, e0, e1, e2, d0, d1]) rfl ⟨g, cg, zs, t, (x : Int), (y : Int), th, by rw [HN.out], by rw [HN.out]; exact hl2, by rw [HN.out]; exact own3, B3⟩
end Go.Proofs.Ytgajfpohlemahaa
