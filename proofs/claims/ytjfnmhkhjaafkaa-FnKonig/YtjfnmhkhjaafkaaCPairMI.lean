/- MatchAll and ImproveMatch of the program. -/
import Derived.Test.YtjfnmhkhjaafkaaRows
import Derived.Test.YtjfnmhkhjaafkaaCPairLast
import Derived.Test.YtjfnmhkhjaafkaaCPairAll
import Derived.Test.YtjfnmhkhjaafkaaCPairImp
import Derived.Test.YtjfnmhkhjaafkaaCCloneI
import Derived.Test.YtjfnmhkhjaafkaaMA
import Derived.Test.YtjfnmhkhjaafkaaMRP
import Derived.Deep.RegionHeld3
import Derived.WalkKit
import Derived.WalkSpells
import Derived.WalkLawsBesides
import Derived.Outline
namespace Go.Proofs.Ytjfnmhkhjaafkaa
open Go.RowKit
namespace PG
theorem there_of {w : World} {g : Nat} {v0 v1 v2 v3 v4 v5 v6 v7 v8 v9 : Value} {T : TypeId} (h : w.heap[g]? = some (.cells #[v0, v1, v2, v3, v4, v5, v6, v7, v8, v9] T (0, 0))) : w.there g 0 10 := by
  intro j hj
  have hf : w.frozen? ⟨g, 0 + j, none⟩ = false := by simp [World.frozen?, h]
  refine ⟨?_, hf⟩
  unfold World.cell?
  rw [h]
  have : j = 0 ∨ j = 1 ∨ j = 2 ∨ j = 3 ∨ j = 4 ∨ j = 5 ∨ j = 6 ∨ j = 7 ∨ j = 8 ∨ j = 9 := by omega
  rcases this with rfl | rfl | rfl | rfl | rfl | rfl | rfl | rfl | rfl | rfl <;> simp
theorem Im.fill {T : TypeId} {B gs gm cv n : Nat} {v : Value} {w w2 : World} {m : List Int} {v0 v1 v2 v3 v4 v5 v6 v7 v8 v9 : Value} (h : w.heap[gs]? = some (.cells #[v0, v1, v2, v3, v4, v5, v6, v7, v8, v9] T (0, 0))) (ho : w.ownsRow B 3 1 (.slice (some ⟨gm, 0, none⟩) n cv) n (M4.iv m)) (hne : gs ≠ gm) (hB : B ≤ gs) (hb : Below B w2 w) :
    Im T B gs gm cv n v (w.setCells gs 0 [v, .slice (some ⟨gm, 0, none⟩) n cv, .bool false, .bool false, .bool false, .bool false, .bool false, .bool false, .bool false, .bool false]) (m, No) ∧ Below B w2 (w.setCells gs 0 [v, .slice (some ⟨gm, 0, none⟩) n cv, .bool false, .bool false, .bool false, .bool false, .bool false, .bool false, .bool false, .bool false]) := by
  have hO : MC.Only gs w (w.setCells gs 0 [v, .slice (some ⟨gm, 0, none⟩) n cv, .bool false, .bool false, .bool false, .bool false, .bool false, .bool false, .bool false, .bool false]) := ((((((((((MC.Only.refl gs w).setCell 0 _).setCell 1 _).setCell 2 _).setCell 3 _).setCell 4 _).setCell 5 _).setCell 6 _).setCell 7 _).setCell 8 _).setCell 9 _
  refine ⟨⟨?_, NR.own_only ho hO (fun e => hne (by simpa [Value.ownBlock] using e.symm)), hne, hB⟩, hb.trans (hO.below hB (Nat.le_trans hB (Nat.le_of_lt (Array.getElem?_eq_some_iff.1 h).1)))⟩
  have h0 := Go.Joins.block_setCell (i := 0) h v
  have h1 := Go.Joins.block_setCell (i := 1) h0 (.slice (some ⟨gm, 0, none⟩) n cv)
  have h2 := Go.Joins.block_setCell (i := 2) h1 (.bool false)
  have h3 := Go.Joins.block_setCell (i := 3) h2 (.bool false)
  have h4 := Go.Joins.block_setCell (i := 4) h3 (.bool false)
  have h5 := Go.Joins.block_setCell (i := 5) h4 (.bool false)
  have h6 := Go.Joins.block_setCell (i := 6) h5 (.bool false)
  have h7 := Go.Joins.block_setCell (i := 7) h6 (.bool false)
  have h8 := Go.Joins.block_setCell (i := 8) h7 (.bool false)
  have h9 := Go.Joins.block_setCell (i := 9) h8 (.bool false)
  simp only [List.setIfInBounds_toArray, List.set_cons_succ, List.set_cons_zero] at h9
  have e : sc v (.slice (some ⟨gm, 0, none⟩) n cv) No = [v, .slice (some ⟨gm, 0, none⟩) n cv, .bool false, .bool false, .bool false, .bool false, .bool false, .bool false, .bool false, .bool false] := rfl
  simp only [World.setCells, Nat.zero_add, Nat.reduceAdd]
  rw [e]
  exact h9
end PG
theorem Try.infoSr : (Try.prog.info? 47).map (fun i => (i.zero, i.size)) = some (some (.agg (([.slice none 0 0, .slice none 0 0, .bool false, .bool false, .bool false, .bool false, .bool false, .bool false, .bool false, .bool false] : List Value)).toArray), 10) := by kernel_rfl
theorem Try.sizeSr : (Try.prog.info? 47).map (·.size) = some 10 := by kernel_rfl
set_option maxHeartbeats 1600000 in
set_option maxRecDepth 100000 in
theorem implAll_any (l r : Int) (a : Option Addr) (cap : Nat) (ws : List (List Int)) (w : World) (hz : ws.length ≤ 1048576) (ht : NR.tot ws ≤ 1048576) (hin : NR.RowsAt w a ws) (L : List Int) (g : Bool) (hL : Hid (PG.allL l r ws = L)) (hg : Hid (PG.good l r ws = g)) :
    Calls Try.prog 6 #[PG.pv l r (.slice a ws.length cap)] w fun e w' => ∃ a1 c1, e = .returned (.tuple #[.slice a1 L.length c1, .bool g]) ∧ w'.ownsRow w.heap.size 3 1 (.slice a1 L.length c1) L.length (M4.iv L) ∧ Below w.heap.size w w' := by
  have hB : Below w.heap.size w (w.alloc (Obj.cells #[.int .i64 l, .int .i64 r, .slice a ws.length cap] 25)) := (Below.refl _ _).alloc (Nat.le_refl _) _
  have hC : (w.alloc (Obj.cells #[.int .i64 l, .int .i64 r, .slice a ws.length cap] 25)).cell? ⟨w.heap.size, 0, none⟩ = some (.int .i64 l) ∧ (w.alloc (Obj.cells #[.int .i64 l, .int .i64 r, .slice a ws.length cap] 25)).cell? ⟨w.heap.size, 1, none⟩ = some (.int .i64 r) ∧ (w.alloc (Obj.cells #[.int .i64 l, .int .i64 r, .slice a ws.length cap] 25)).cell? ⟨w.heap.size, 2, none⟩ = some (.slice a ws.length cap) := by simp
  have hS : w.heap.size < (w.alloc (Obj.cells #[.int .i64 l, .int .i64 r, .slice a ws.length cap] 25)).heap.size := by simp
  have GD : Hid _ := implGoodP_any l r a cap ws _ hz ht (hin.below hB) g hg
  have LA : Hid (g = true → ∀ W : World, Below w.heap.size w W → Calls Try.prog 24 #[PG.pv l r (.slice a ws.length cap)] W fun e w' => ∃ gs gm, e = .returned (.pointer (some ⟨gs, 0, none⟩)) ∧ PG.Im 47 W.heap.size gs gm L.length L.length (.slice a ws.length cap) w' (L, PG.ask ws L) ∧ Below W.heap.size W w') := fun h W hb => by
    have h1 := hg.out.trans h
    have hd := (PG.good_is h1).1
    have hlen := PG.allL_len h1
    rw [hL.out] at hlen
    have := lastSearch_any l.toNat r.toNat a cap ws W (by omega) (by omega) (show ws.length = l.toNat by omega) ht (PG.good_Gd h1) (hin.below hb) L (by rw [PG.allL_yes h1]; exact hL)
    rw [show ((r.toNat : Nat) : Int) = r from by omega, show ((l.toNat : Nat) : Int) = l from by omega, ← hlen] at this
    exact this
  have HNO : Hid (g = false → L = []) := fun h => by rw [← hL.out]; exact PG.allL_no (hg.out.trans h)
  clear hin hL hg
  generalize PG.ask ws L = A at *
  go_enter Try.func6, Try.ntmps6
  go_wp2_with fail
  generalize w.alloc (Obj.cells #[.int .i64 l, .int .i64 r, .slice a ws.length cap] 25) = W at *
  refine Calls.mono GD.out ?_
  rintro e w2 ⟨rfl, hb2⟩
  have c0 := (hb2.cell (p := ⟨w.heap.size, 0, none⟩) hS).trans hC.1
  have c1 := (hb2.cell (p := ⟨w.heap.size, 1, none⟩) hS).trans hC.2.1
  have c2 := (hb2.cell (p := ⟨w.heap.size, 2, none⟩) hS).trans hC.2.2
  have hB2 := hB.trans (hb2.mono hB.size)
  clear GD hb2 hC hS hB
  cases g
  · obtain rfl := HNO.out rfl
    clear LA HNO
    go_wp2
    go_ret2
    exact ⟨none, 0, rfl, World.ownsRow_nil _ _ _ _, hB2⟩
  · have L2 : Hid _ := LA.out rfl w2 hB2
    clear LA HNO
    go_wp2_with fail
    refine Calls.mono L2.out ?_
    rintro e w3 ⟨gs, gm, rfl, hP, hb3⟩
    have hB3 := hB2.trans (hb3.mono hB2.size)
    have cm := hP.match_
    have HO : Hid _ := hP.m
    clear L2 hb3 hP
    go_wp2
    go_ret2
    exact ⟨_, _, rfl, PG.own_mono HO.out hB2.size, hB3⟩
set_option linter.unusedSimpArgs false in
set_option maxHeartbeats 3200000 in
set_option maxRecDepth 100000 in
theorem implImp_any (l r : Int) (a : Option Addr) (cap cb gb : Nat) (ws : List (List Int)) (m : List Int) (w : World) (hz : ws.length ≤ 1048576) (hzm : m.length ≤ 1048576) (ht : NR.tot ws ≤ 1048576) (hcap : m.length ≤ cb) (hin : NR.RowsAt w a ws) (hos : M4.IntsAt w (some ⟨gb, 0, none⟩) m) (q : Option (List Int)) (hq : Hid (PG.impL l r ws m = q)) :
    Calls Try.prog 14 #[PG.pv l r (.slice a ws.length cap), .slice (some ⟨gb, 0, none⟩) m.length cb] w fun e w' => ∃ a1 c1, e = .returned (.tuple #[.slice a1 (q.getD []).length c1, .bool q.isSome]) ∧ w'.ownsRow w.heap.size 3 1 (.slice a1 (q.getD []).length c1) (q.getD []).length (M4.iv (q.getD [])) ∧ Below w.heap.size w w' := by
  have hB : Below w.heap.size w (w.alloc (Obj.cells #[.int .i64 l, .int .i64 r, .slice a ws.length cap] 25)) := (Below.refl _ _).alloc (Nat.le_refl _) _
  have hC : (w.alloc (Obj.cells #[.int .i64 l, .int .i64 r, .slice a ws.length cap] 25)).cell? ⟨w.heap.size, 0, none⟩ = some (.int .i64 l) ∧ (w.alloc (Obj.cells #[.int .i64 l, .int .i64 r, .slice a ws.length cap] 25)).cell? ⟨w.heap.size, 1, none⟩ = some (.int .i64 r) ∧ (w.alloc (Obj.cells #[.int .i64 l, .int .i64 r, .slice a ws.length cap] 25)).cell? ⟨w.heap.size, 2, none⟩ = some (.slice a ws.length cap) := by simp
  have hS : w.heap.size < (w.alloc (Obj.cells #[.int .i64 l, .int .i64 r, .slice a ws.length cap] 25)).heap.size := by simp
  have IM : Hid _ := implIsMatch_any l r a (some ⟨gb, 0, none⟩) cap cb ws m _ hz hzm ht hcap (hin.below hB) (hos.below hB)
  have CL : Hid (∀ W : World, Below w.heap.size w W → Calls Try.prog 36 #[.slice (some ⟨gb, 0, none⟩) m.length cb] W fun e w' => ∃ a cap, e = .returned (.slice a m.length cap) ∧ w'.ownsRow W.heap.size 3 1 (.slice a m.length cap) m.length (M4.iv m) ∧ Below W.heap.size W w') := fun W hb => cloneI_any gb m.length cb m W rfl hzm (hos.below hb)
  have FD : Hid (PG.imB l r ws m = true → 1 ≤ m.length ∧ m.length ≤ 8 ∧ ∀ (gs gm cm : Nat) (W0 W : World), m.length ≤ cm → Below w.heap.size w W0 → Below W0.heap.size W0 W → PG.Im 47 W0.heap.size gs gm cm m.length (.slice a ws.length cap) W (m, PG.No) → Calls Try.prog 37 #[.pointer (some ⟨gs, 0, none⟩)] W fun e w' => e = .returned (.bool q.isSome) ∧ (∃ A, PG.Im 47 W0.heap.size gs gm cm m.length (.slice a ws.length cap) w' (q.getD m, A)) ∧ PG.But gm gs W w') := fun h => by
    obtain ⟨h1, h2, h3, h4⟩ := PG.imB_is h
    have hg := (PG.good_is h1).1
    refine ⟨by omega, by omega, fun gs gm cm W0 W k1 k2 k3 k4 => ?_⟩
    refine (finds_any m.length a cap gs gm cm ws W0 (by omega) (show ws.length = m.length by omega) k1 ht (PG.good_Gd h1) (hin.below k2) (m, PG.No) W k3 k4 _ rfl).mono fun e w' hh => ?_
    have FI := PG.fnd_imp (PG.good_Gd h1) m m.length PG.No (Nat.le_refl _) (PG.cl_no ws m)
    rw [PG.impL_yes h, hq.out] at FI
    generalize PG.fnd ws m.length (m, PG.No) = Z at *
    obtain ⟨zb, zm, zA⟩ := Z
    simp only at FI hh
    cases q with
    | none =>
      obtain ⟨g1, g2, _⟩ := FI.2 rfl
      subst g1 g2
      exact ⟨hh.1, ⟨zA, hh.2.1⟩, hh.2.2⟩
    | some m' =>
      obtain ⟨g1, g2⟩ := FI.1 m' rfl
      subst g1 g2
      exact ⟨hh.1, ⟨zA, hh.2.1⟩, hh.2.2⟩
  have HOK : Hid (PG.imB l r ws m = true → PG.okB l r ws m = true) := fun h => (PG.imB_is h).2.2.2
  have HNO : Hid (PG.imB l r ws m = false → q.getD [] = [] ∧ q.isSome = false) := fun h => by
    rw [← hq.out, ← PG.impL_no h]; exact ⟨rfl, rfl⟩
  have HQ : Hid ((q.isSome = false → q.getD [] = []) ∧ (q.isSome = true → q.getD [] = q.getD m)) := by
    cases q with
    | none => exact ⟨fun _ => rfl, fun h => (by cases h)⟩
    | some x => exact ⟨fun h => (by cases h), fun _ => rfl⟩
  generalize q.getD [] = L at *
  generalize q.getD m = K at *
  generalize q.isSome = qs at *
  clear hin hos hq
  generalize PG.imB l r ws m = ib at *
  generalize PG.okB l r ws m = ob at *
  go_enter Try.func14, Try.ntmps14
  go_wp2_with fail
  generalize w.alloc (Obj.cells #[.int .i64 l, .int .i64 r, .slice a ws.length cap] 25) = W at *
  refine Calls.mono IM.out ?_
  rintro e w2 ⟨rfl, hb2⟩
  have c0 := (hb2.cell (p := ⟨w.heap.size, 0, none⟩) hS).trans hC.1
  have c1 := (hb2.cell (p := ⟨w.heap.size, 1, none⟩) hS).trans hC.2.1
  have c2 := (hb2.cell (p := ⟨w.heap.size, 2, none⟩) hS).trans hC.2.2
  have hB2 := hB.trans (hb2.mono hB.size)
  have hS2 := Nat.lt_of_lt_of_le hS hb2.size
  clear IM hb2 hC hS hB
  cases ib
  · obtain ⟨rfl, rfl⟩ := HNO.out rfl
    clear CL FD HOK HNO HQ
    go_wp2
    go_ret2
    exact ⟨none, 0, rfl, World.ownsRow_nil _ _ _ _, hB2⟩
  · obtain rfl := HOK.out rfl
    obtain ⟨hm1, hm8, FD2⟩ := FD.out rfl
    have HFD : Hid _ := FD2
    clear FD2 FD HOK HNO
    have BLD : Hid True := trivial
    obtain ⟨n, hn⟩ : ∃ n, m.length = n := ⟨_, rfl⟩
    rw [hn] at hm1 hm8 CL HFD hcap ⊢
    have HN : Hid _ := hn
    clear hn
    go_wp2
    refine MR.frame fun A hA => ?_
    have hsz : A.tmps.size = 30 := by rw [hA]; rfl
    have e1 : A.eval (.tmp 1) = .slice (some ⟨gb, 0, none⟩) n cb := by rw [hA]; rfl
    have f1 := MR.read (t := 1) (by rw [hsz]; decide) e1
    have e2 : A.eval (.tmp 2) = .pointer (some ⟨w.heap.size, 0, none⟩) := by rw [hA]; rfl
    have f2 := MR.read (t := 2) (by rw [hsz]; decide) e2
    have HA : Hid (A = _) := hA
    clear hA
    refine MR.cut (fun aa w' => ∃ gs gm cv, aa = ((((((A.put (some 21) (.pointer (some ⟨w.heap.size, 2, none⟩))).put (some 22) (.slice a ws.length cap)).put (some 23) (.slice (some ⟨gb, 0, none⟩) n cb)).put (some 24) (.slice (some ⟨gm, 0, none⟩) n cv)).put (some 25) (.agg #[.slice a ws.length cap, .slice (some ⟨gm, 0, none⟩) n cv, .bool false, .bool false, .bool false, .bool false, .bool false, .bool false, .bool false, .bool false])).put (some 8) (.pointer (some ⟨gs, 0, none⟩))) ∧ Hid (PG.Im 47 w2.heap.size gs gm cv n (.slice a ws.length cap) w' (m, PG.No) ∧ Below w2.heap.size w2 w' ∧ n ≤ cv)) ?_ ?_
    · have hS : (fun w' : World => Below w2.heap.size w2 w') (World.drew _) := ((Below.refl _ w2).drew)
      refine wp_region_held (S := fun w' : World => Below w2.heap.size w2 w') (by kernel_rfl) ?_
      change wpAnyH _ _ _ _ _ _ _ _ (World.drew _)
      refine MR.takeH (i := 0) (some 21) (.pointer (some ⟨w.heap.size, 2, none⟩)) rfl rfl (by kernel_rfl) (by kernel_rfl) (by kernel_rfl) nofun hS (MR.free rfl) (fun wq hw => by simp [execOp, MR.ev, MR.size, hsz, e1, f1, e2, f2, go_sem]) ?_
      refine MR.takeH (i := 1) (some 22) (.slice a ws.length cap) rfl rfl (by kernel_rfl) (by kernel_rfl) (by kernel_rfl) nofun hS (MR.free rfl) (fun wq hw => by simp [execOp, MR.ev, MR.size, hsz, e1, f1, e2, f2, (hw.cell (p := ⟨w.heap.size, 2, none⟩) hS2).trans c2, go_sem]) ?_
      refine MR.takeH (i := 2) (some 23) (.slice (some ⟨gb, 0, none⟩) n cb) rfl rfl (by kernel_rfl) (by kernel_rfl) (by kernel_rfl) nofun hS (MR.free rfl) (fun wq hw => by simp [execOp, MR.ev, MR.size, hsz, e1, f1, e2, f2, go_sem]) ?_
      generalize hwd : World.drew w2 = v0 at hS ⊢
      clear hwd
      refine MR.two (i := 3) (j := 5) (by kernel_rfl) ?_ ?_
      · skip
        refine MR.callW (some 24) (36) (#[.slice (some ⟨gb, 0, none⟩) n cb]) rfl rfl (MR.free rfl) (by simp [execOp, MR.ev, MR.size, hsz, e1, f1, e2, f2, go_sem]) ?_
        refine Calls.mono (CL.out _ (hB2.trans (hS.mono hB2.size))) ?_
        rintro e v1 ⟨av, cv, rfl, ho, hb⟩
        obtain ⟨gm, rfl⟩ : ∃ gm, av = some ⟨gm, 0, none⟩ := by
          rcases ho.2 with ⟨_, h'⟩ | ⟨g, cap, cur, hv, _⟩
          · omega
          · cases hv; exact ⟨g, rfl⟩
        have hcv : n ≤ cv := by
          rcases ho.2 with ⟨h', _⟩ | ⟨_, _, _, hv, _, _, h1, _⟩
          · cases h'
          · cases hv; exact h1
        have hSv1 : Below w2.heap.size w2 v1 := hS.trans (hb.mono hS.size)
        have hgm := ho.lt gm rfl
        refine ⟨_, rfl, hSv1, ?_⟩
        refine MR.takeH (i := 4) (some 25) (.agg #[.slice a ws.length cap, .slice (some ⟨gm, 0, none⟩) n cv, .bool false, .bool false, .bool false, .bool false, .bool false, .bool false, .bool false, .bool false]) rfl rfl (by kernel_rfl) (by kernel_rfl) (by kernel_rfl) nofun hSv1 (MR.free rfl) (fun wq hw => by simp [execOp, MR.ev, MR.size, hsz, e1, f1, e2, f2, BLD.out, go_sem]) ?_
        refine MR.nowH (i := 5) (some 8) (.pointer (some ⟨v1.heap.size, 0, none⟩)) (by kernel_rfl) rfl rfl (MR.free rfl) (MR.ex_alloc _ rfl [.slice none 0 0, .slice none 0 0, .bool false, .bool false, .bool false, .bool false, .bool false, .bool false, .bool false, .bool false] 10 Try.infoSr) ?_
        have hb2 : Below v1.heap.size v1 (v1.alloc (.cells #[.slice none 0 0, .slice none 0 0, .bool false, .bool false, .bool false, .bool false, .bool false, .bool false, .bool false, .bool false] 47)) := (Below.refl _ v1).alloc (Nat.le_refl _) _
        have hSv2 := hSv1.trans (hb2.mono hSv1.size)
        refine ⟨hSv2, ?_⟩
        have hob : (v1.alloc (.cells #[.slice none 0 0, .slice none 0 0, .bool false, .bool false, .bool false, .bool false, .bool false, .bool false, .bool false, .bool false] 47)).heap[v1.heap.size]? = some (.cells #[.slice none 0 0, .slice none 0 0, .bool false, .bool false, .bool false, .bool false, .bool false, .bool false, .bool false, .bool false] 47 (0, 0)) := heap_alloc_new _ _
        have ho2 := M5.own_below ho hb2
        obtain ⟨hIm, hBl⟩ := PG.Im.fill (T := 47) (B := w2.heap.size) (v := .slice a ws.length cap) hob (PG.own_mono ho2 hS.size) (by omega) hSv1.size hSv2
        refine MR.storeH (i := 6) (by kernel_rfl) rfl (MR.free rfl) (MA.ex_store (vs := [.slice a ws.length cap, .slice (some ⟨gm, 0, none⟩) n cv, .bool false, .bool false, .bool false, .bool false, .bool false, .bool false, .bool false, .bool false]) rfl (by simp [MR.ev, MR.size, hsz, e1, f1, e2, f2]) (by simp [MR.ev, MR.size, hsz, e1, f1, e2, f2]) (PG.there_of hob) Try.sizeSr rfl (by simp [Value.oneCell'])) ⟨hBl, ?_⟩
        refine wpAnyH_done (by kernel_rfl) ⟨rfl, v1.heap.size, gm, cv, ?_, ⟨hIm, hBl, hcv⟩⟩ _
        rw [HA.out]
        simp only [Act.put, List.setIfInBounds_toArray, List.set_cons_succ, List.set_cons_zero]
        try rfl
      · skip
        refine MR.nowW (some 8) (.pointer (some ⟨v0.heap.size, 0, none⟩)) rfl rfl (MR.free rfl) (MR.ex_alloc _ rfl [.slice none 0 0, .slice none 0 0, .bool false, .bool false, .bool false, .bool false, .bool false, .bool false, .bool false, .bool false] 10 Try.infoSr) ?_
        have hb1 : Below v0.heap.size v0 (v0.alloc (.cells #[.slice none 0 0, .slice none 0 0, .bool false, .bool false, .bool false, .bool false, .bool false, .bool false, .bool false, .bool false] 47)) := (Below.refl _ v0).alloc (Nat.le_refl _) _
        have hSv1 := hS.trans (hb1.mono hS.size)
        have hob0 : (v0.alloc (.cells #[.slice none 0 0, .slice none 0 0, .bool false, .bool false, .bool false, .bool false, .bool false, .bool false, .bool false, .bool false] 47)).heap[v0.heap.size]? = some (.cells #[.slice none 0 0, .slice none 0 0, .bool false, .bool false, .bool false, .bool false, .bool false, .bool false, .bool false, .bool false] 47 (0, 0)) := heap_alloc_new _ _
        have hlt0 : v0.heap.size < (v0.alloc (.cells #[.slice none 0 0, .slice none 0 0, .bool false, .bool false, .bool false, .bool false, .bool false, .bool false, .bool false, .bool false] 47)).heap.size := by simp
        refine ⟨hSv1, ?_⟩
        generalize v0.alloc (.cells #[.slice none 0 0, .slice none 0 0, .bool false, .bool false, .bool false, .bool false, .bool false, .bool false, .bool false, .bool false] 47) = v1 at *
        refine MR.callH (i := 3) (some 24) (36) (#[.slice (some ⟨gb, 0, none⟩) n cb]) (by kernel_rfl) rfl rfl (MR.free rfl) (by simp [execOp, MR.ev, MR.size, hsz, e1, f1, e2, f2, go_sem]) ?_
        refine Calls.mono (CL.out _ (hB2.trans (hSv1.mono hB2.size))) ?_
        rintro e v2 ⟨av, cv, rfl, ho, hb⟩
        obtain ⟨gm, rfl⟩ : ∃ gm, av = some ⟨gm, 0, none⟩ := by
          rcases ho.2 with ⟨_, h'⟩ | ⟨g, cap, cur, hv, _⟩
          · omega
          · cases hv; exact ⟨g, rfl⟩
        have hcv : n ≤ cv := by
          rcases ho.2 with ⟨h', _⟩ | ⟨_, _, _, hv, _, _, h1, _⟩
          · cases h'
          · cases hv; exact h1
        have hSv2 : Below w2.heap.size w2 v2 := hSv1.trans (hb.mono hSv1.size)
        have hgm := ho.lt gm rfl
        refine ⟨_, rfl, hSv2, ?_⟩
        refine MR.takeH (i := 4) (some 25) (.agg #[.slice a ws.length cap, .slice (some ⟨gm, 0, none⟩) n cv, .bool false, .bool false, .bool false, .bool false, .bool false, .bool false, .bool false, .bool false]) rfl rfl (by kernel_rfl) (by kernel_rfl) (by kernel_rfl) nofun hSv2 (MR.free rfl) (fun wq hw => by simp [execOp, MR.ev, MR.size, hsz, e1, f1, e2, f2, BLD.out, go_sem]) ?_
        have hob := (hb.block v0.heap.size hlt0).trans hob0
        obtain ⟨hIm, hBl⟩ := PG.Im.fill (T := 47) (B := w2.heap.size) (v := .slice a ws.length cap) hob (PG.own_mono ho hSv1.size) (by omega) hS.size hSv2
        refine MR.storeH (i := 6) (by kernel_rfl) rfl (MR.free rfl) (MA.ex_store (vs := [.slice a ws.length cap, .slice (some ⟨gm, 0, none⟩) n cv, .bool false, .bool false, .bool false, .bool false, .bool false, .bool false, .bool false, .bool false]) rfl (by simp [MR.ev, MR.size, hsz, e1, f1, e2, f2]) (by simp [MR.ev, MR.size, hsz, e1, f1, e2, f2]) (PG.there_of hob) Try.sizeSr rfl (by simp [Value.oneCell'])) ⟨hBl, ?_⟩
        refine wpAnyH_done (by kernel_rfl) ⟨rfl, v0.heap.size, gm, cv, ?_, ⟨hIm, hBl, hcv⟩⟩ _
        rw [HA.out]
        simp only [Act.put, List.setIfInBounds_toArray, List.set_cons_succ, List.set_cons_zero]
        try rfl
    rintro aa w5 ⟨gs, gm, cv, rfl, hf⟩
    obtain ⟨hIm, hb5, hcv⟩ := hf.out
    rw [HA.out]
    clear HA hsz e1 f1 e2 f2 hf
    simp only [Act.put, List.setIfInBounds_toArray, List.set_cons_succ, List.set_cons_zero]
    have FR : Hid _ := HFD.out gs gm cv w2 w5 hcv hB2 hb5 hIm
    have hgl := hIm.lt
    have hB5 := hB2.trans (hb5.mono hB2.size)
    clear HFD hIm CL BLD
    go_wp2_with fail
    refine Calls.mono FR.out ?_
    rintro e w6 ⟨rfl, ⟨A, hP6⟩, hb6⟩
    have hB6 := hB5.trans (hb6.below (Nat.le_trans hB2.size hgl.1) (Nat.le_trans hB2.size hgl.2.2.1) hB5.size)
    cases qs
    · obtain rfl := HQ.out.1 rfl
      clear FR hP6 hb6
      go_wp2
      go_ret2
      exact ⟨none, 0, rfl, World.ownsRow_nil _ _ _ _, hB6⟩
    · obtain rfl := HQ.out.2 rfl
      have cm6 := hP6.match_
      have HO : Hid _ := hP6.m
      have hll : L.length = n := hP6.len
      have HLL : Hid _ := hll
      clear FR hP6 hb6 hll
      go_wp2
      go_ret2
      rw [HLL.out]
      exact ⟨_, _, rfl, PG.own_mono HO.out hB2.size, hB6⟩
end Go.Proofs.Ytjfnmhkhjaafkaa
