/- CoverOf of the program. -/
import Derived.Test.YtjfnmhkhjaafkaaRows
import Derived.Test.YtjfnmhkhjaafkaaMPJ2
import Derived.Test.YtjfnmhkhjaafkaaCPairThN
import Derived.Test.YtjfnmhkhjaafkaaCPairLast
import Derived.Test.YtjfnmhkhjaafkaaMRP
import Derived.WalkKit
import Derived.WalkSpells
import Derived.WalkLawsBesides
import Derived.Outline
namespace Go.Proofs.Ytjfnmhkhjaafkaa
open Go.RowKit
set_option linter.unusedSimpArgs false in
set_option maxHeartbeats 3200000 in
set_option maxRecDepth 100000 in
theorem implCov_any (l r : Int) (a : Option Addr) (cap : Nat) (ws : List (List Int)) (w : World) (hz : ws.length ≤ 1048576) (ht : NR.tot ws ≤ 1048576) (hin : NR.RowsAt w a ws) (L K : List Int) (g : Bool) (hL : Hid (PG.coA l r ws = L)) (hK : Hid (PG.coB l r ws = K)) (hg : Hid (PG.good l r ws = g)) :
    Calls Try.prog 8 #[PG.pv l r (.slice a ws.length cap)] w fun e w' => ∃ a1 c1 a2 c2 M, e = .returned (.tuple #[.slice a1 L.length c1, .slice a2 K.length c2, .bool g]) ∧ w.heap.size ≤ M ∧ M ≤ w'.heap.size ∧ w'.ownsRow w.heap.size 3 1 (.slice a1 L.length c1) L.length (M4.iv L) ∧ (∀ k, (Value.slice a1 L.length c1).ownBlock = some k → k < M) ∧ w'.ownsRow M 3 1 (.slice a2 K.length c2) K.length (M4.iv K) ∧ Below w.heap.size w w' := by
  have hB : Below w.heap.size w (w.alloc (Obj.cells #[.int .i64 l, .int .i64 r, .slice a ws.length cap] 25)) := (Below.refl _ _).alloc (Nat.le_refl _) _
  have hC : (w.alloc (Obj.cells #[.int .i64 l, .int .i64 r, .slice a ws.length cap] 25)).cell? ⟨w.heap.size, 0, none⟩ = some (.int .i64 l) ∧ (w.alloc (Obj.cells #[.int .i64 l, .int .i64 r, .slice a ws.length cap] 25)).cell? ⟨w.heap.size, 1, none⟩ = some (.int .i64 r) ∧ (w.alloc (Obj.cells #[.int .i64 l, .int .i64 r, .slice a ws.length cap] 25)).cell? ⟨w.heap.size, 2, none⟩ = some (.slice a ws.length cap) := by simp
  have hS : w.heap.size < (w.alloc (Obj.cells #[.int .i64 l, .int .i64 r, .slice a ws.length cap] 25)).heap.size := by simp
  have GD : Hid _ := implGoodP_any l r a cap ws _ hz ht (hin.below hB) g hg
  have LA : Hid (g = true → ∀ W : World, Below w.heap.size w W → Calls Try.prog 24 #[PG.pv l r (.slice a ws.length cap)] W fun e w' => ∃ gs gm, e = .returned (.pointer (some ⟨gs, 0, none⟩)) ∧ PG.Im 47 W.heap.size gs gm l.toNat l.toNat (.slice a ws.length cap) w' (PG.allL l r ws, PG.ask ws (PG.allL l r ws)) ∧ Below W.heap.size W w') := fun h W hb => by
    have h1 := hg.out.trans h
    have hd := (PG.good_is h1).1
    have := lastSearch_any l.toNat r.toNat a cap ws W (by omega) (by omega) (show ws.length = l.toNat by omega) ht (PG.good_Gd h1) (hin.below hb) (PG.allL l r ws) (by rw [PG.allL_yes h1]; exact rfl)
    rw [show ((r.toNat : Nat) : Int) = r from by omega, show ((l.toNat : Nat) : Int) = l from by omega] at this
    exact this
  have TA : Hid (g = true → ∀ (B gs gm : Nat) (v : Value) (W : World), PG.Im 47 B gs gm l.toNat l.toNat v W (PG.allL l r ws, PG.ask ws (PG.allL l r ws)) → Calls Try.prog 27 #[.int .i64 l, .func (.func 28) #[.pointer (some ⟨gs, 0, none⟩)] #[]] W fun e w' => ∃ a1 c1, e = .returned (.slice a1 L.length c1) ∧ w'.ownsRow W.heap.size 3 1 (.slice a1 L.length c1) L.length (M4.iv L) ∧ Below W.heap.size W w') := fun h B gs gm v W hI => by
    have h1 := hg.out.trans h
    have hd := (PG.good_is h1).1
    have hlen := PG.allL_len h1
    have := thoseOfN_any gs l.toNat (fun i => !PG.rcB l r ws i) W (by omega) (fun i W' hi hb => (isNotReached_any B gs gm _ _ i v _ _ W' hi (hI.below hb) (PG.allL_ok8 h1 i (by omega)) _ rfl).mono fun e w' hh => ⟨hh.1, hh.2 ▸ Below.refl _ _⟩) L (by rw [PG.coA_yes h1]; exact hL)
    rw [show ((l.toNat : Nat) : Int) = l from by omega] at this
    exact this
  have TB : Hid (g = true → ∀ (B gs gm : Nat) (v : Value) (W : World), PG.Im 47 B gs gm l.toNat l.toNat v W (PG.allL l r ws, PG.ask ws (PG.allL l r ws)) → Calls Try.prog 27 #[.int .i64 r, .func (.func 29) #[.pointer (some ⟨gs, 0, none⟩)] #[]] W fun e w' => ∃ a1 c1, e = .returned (.slice a1 K.length c1) ∧ w'.ownsRow W.heap.size 3 1 (.slice a1 K.length c1) K.length (M4.iv K) ∧ Below W.heap.size W w') := fun h B gs gm v W hI => by
    have h1 := hg.out.trans h
    have hd := (PG.good_is h1).1
    have := thoseOfW_any gs r.toNat (PG.ask ws (PG.allL l r ws)) W (by omega) (fun i W' hi hb => (wasAsked_any B gs gm _ _ i v _ _ W' (by omega) (hI.below hb)).mono fun e w' hh => ⟨hh.1, hh.2 ▸ Below.refl _ _⟩) K (by rw [PG.coB_yes h1]; exact hK)
    rw [show ((r.toNat : Nat) : Int) = r from by omega] at this
    exact this
  have HNO : Hid (g = false → L = [] ∧ K = []) := fun h => ⟨by rw [← hL.out]; exact PG.coA_no (hg.out.trans h), by rw [← hK.out]; exact PG.coB_no (hg.out.trans h)⟩
  clear hin hL hK hg
  generalize PG.ask ws (PG.allL l r ws) = A at *
  generalize PG.allL l r ws = M0 at *
  go_enter Try.func8, Try.ntmps8
  go_wp2_with fail
  generalize w.alloc (Obj.cells #[.int .i64 l, .int .i64 r, .slice a ws.length cap] 25) = W at *
  refine Calls.mono GD.out ?_
  rintro e w2 ⟨rfl, hb2⟩
  have c0 := (hb2.cell (p := ⟨w.heap.size, 0, none⟩) hS).trans hC.1
  have c1 := (hb2.cell (p := ⟨w.heap.size, 1, none⟩) hS).trans hC.2.1
  have c2 := (hb2.cell (p := ⟨w.heap.size, 2, none⟩) hS).trans hC.2.2
  have hB2 := hB.trans (hb2.mono hB.size)
  have hS2 := Nat.lt_of_lt_of_le hS hb2.size
  clear GD hb2 hC hS hB
  cases g
  · obtain ⟨rfl, rfl⟩ := HNO.out rfl
    have hBs := hB2.size
    clear LA HNO TA TB
    go_wp2
    refine bodyPost_ret (v := .tuple #[.slice none 0 0, .slice none 0 0, .bool false]) (by simp [results, Try.results8, go_sem]) rfl ⟨none, 0, none, 0, w.heap.size, rfl, Nat.le_refl _, hBs, World.ownsRow_nil _ _ _ _, fun k hk => by simp [Value.ownBlock] at hk, World.ownsRow_nil _ _ _ _, hB2⟩
  · have L2 : Hid _ := LA.out rfl w2 hB2
    clear LA HNO
    go_wp2_with fail
    refine Calls.mono L2.out ?_
    rintro e w3 ⟨gs, gm, rfl, hP, hb3⟩
    have hB3 := hB2.trans (hb3.mono hB2.size)
    have d0 := (hb3.cell (p := ⟨w.heap.size, 0, none⟩) hS2).trans c0
    have d1 := (hb3.cell (p := ⟨w.heap.size, 1, none⟩) hS2).trans c1
    have hS3 := Nat.lt_of_lt_of_le hS2 hb3.size
    have HP : Hid _ := hP
    clear L2 hb3 hP c0 c1 c2
    go_wp2
    refine MR.frame fun A hA => ?_
    have hsz : A.tmps.size = 21 := by rw [hA]; rfl
    have q1 : A.eval (.tmp 1) = .pointer (some ⟨w.heap.size, 0, none⟩) := by rw [hA]; rfl
    have p1 := MR.read (t := 1) (by rw [hsz]; decide) q1
    have q5 : A.eval (.tmp 5) = .pointer (some ⟨gs, 0, none⟩) := by rw [hA]; rfl
    have p5 := MR.read (t := 5) (by rw [hsz]; decide) q5
    have HA : Hid (A = _) := hA
    clear hA
    have hS : (fun wq : World => wq.cell? ⟨w.heap.size, 0, none⟩ = some (.int .i64 l) ∧ wq.cell? ⟨w.heap.size, 1, none⟩ = some (.int .i64 r)) (World.drew _) := ⟨d0, d1⟩
    refine wp_region_held (S := fun wq : World => wq.cell? ⟨w.heap.size, 0, none⟩ = some (.int .i64 l) ∧ wq.cell? ⟨w.heap.size, 1, none⟩ = some (.int .i64 r)) (by kernel_rfl) ?_
    change wpAnyH _ _ _ _ _ _ _ _ (World.drew _)
    refine MR.takeH (i := 0) (some 11) (.pointer (some ⟨w.heap.size, 0, none⟩)) rfl rfl (by kernel_rfl) (by kernel_rfl) (by kernel_rfl) (fun _ _ _ h => h) hS (MR.free rfl) (fun wq hw => by simp [execOp, MR.ev, MR.size, hsz, q1, p1, q5, p5, go_sem]) ?_
    refine MR.takeH (i := 1) (some 12) (.int .i64 l) rfl rfl (by kernel_rfl) (by kernel_rfl) (by kernel_rfl) (fun _ _ _ h => h) hS (MR.free rfl) (fun wq hw => by simp [execOp, MR.ev, MR.size, hsz, q1, p1, q5, p5, hw.1, go_sem]) ?_
    refine MR.takeH (i := 2) (some 13) (.pointer (some ⟨gs, 0, none⟩)) rfl rfl (by kernel_rfl) (by kernel_rfl) (by kernel_rfl) (fun _ _ _ h => h) hS (MR.free rfl) (fun wq hw => by simp [execOp, MR.ev, MR.size, hsz, q1, p1, q5, p5, go_sem]) ?_
    refine MR.takeH (i := 3) (some 14) (.func (.func 28) #[.pointer (some ⟨gs, 0, none⟩)] #[]) rfl rfl (by kernel_rfl) (by kernel_rfl) (by kernel_rfl) (fun _ _ _ h => h) hS (MR.free rfl) (fun wq hw => by simp [execOp, MR.ev, MR.size, hsz, q1, p1, q5, p5, go_sem]) ?_
    refine MR.takeH (i := 5) (some 16) (.pointer (some ⟨w.heap.size, 1, none⟩)) rfl rfl (by kernel_rfl) (by kernel_rfl) (by kernel_rfl) (fun _ _ _ h => h) hS (MR.free rfl) (fun wq hw => by simp [execOp, MR.ev, MR.size, hsz, q1, p1, q5, p5, go_sem]) ?_
    refine MR.takeH (i := 6) (some 17) (.int .i64 r) rfl rfl (by kernel_rfl) (by kernel_rfl) (by kernel_rfl) (fun _ _ _ h => h) hS (MR.free rfl) (fun wq hw => by simp [execOp, MR.ev, MR.size, hsz, q1, p1, q5, p5, hw.2, go_sem]) ?_
    refine MR.takeH (i := 7) (some 18) (.pointer (some ⟨gs, 0, none⟩)) rfl rfl (by kernel_rfl) (by kernel_rfl) (by kernel_rfl) (fun _ _ _ h => h) hS (MR.free rfl) (fun wq hw => by simp [execOp, MR.ev, MR.size, hsz, q1, p1, q5, p5, go_sem]) ?_
    refine MR.takeH (i := 8) (some 19) (.func (.func 29) #[.pointer (some ⟨gs, 0, none⟩)] #[]) rfl rfl (by kernel_rfl) (by kernel_rfl) (by kernel_rfl) (fun _ _ _ h => h) hS (MR.free rfl) (fun wq hw => by simp [execOp, MR.ev, MR.size, hsz, q1, p1, q5, p5, go_sem]) ?_
    refine MR.callH (i := 4) (some 15) (27) (#[.int .i64 l, .func (.func 28) #[.pointer (some ⟨gs, 0, none⟩)] #[]]) (by kernel_rfl) rfl rfl (MR.free rfl) (by simp [execOp, MR.ev, MR.size, hsz, q1, p1, q5, p5, go_sem]) ?_
    refine (TA.out trivial _ gs gm _ _ (HP.out.below (Below.refl _ w3).drew)).mono ?_
    rintro e w4 ⟨a1, e1, rfl, ho4', hb4'⟩
    have hb4 : Below w3.heap.size w3 w4 := (Below.refl _ w3).drew.trans hb4'
    have ho4 : Hid (w4.ownsRow w3.heap.size 3 1 (.slice a1 L.length e1) L.length (M4.iv L)) := ho4'
    clear ho4' hb4'
    have hS4 : (fun wq : World => wq.cell? ⟨w.heap.size, 0, none⟩ = some (.int .i64 l) ∧ wq.cell? ⟨w.heap.size, 1, none⟩ = some (.int .i64 r)) w4 := ⟨(hb4.cell (p := ⟨w.heap.size, 0, none⟩) hS3).trans d0, (hb4.cell (p := ⟨w.heap.size, 1, none⟩) hS3).trans d1⟩
    have HP4 : Hid _ := HP.out.below hb4
    refine ⟨_, rfl, hS4, ?_⟩
    refine MR.callH (i := 9) (some 20) (27) (#[.int .i64 r, .func (.func 29) #[.pointer (some ⟨gs, 0, none⟩)] #[]]) (by kernel_rfl) rfl rfl (MR.free rfl) (by simp [execOp, MR.ev, MR.size, hsz, q1, p1, q5, p5, go_sem]) ?_
    refine (TB.out trivial _ gs gm _ _ HP4.out).mono ?_
    rintro e w5 ⟨a2, e2, rfl, ho5', hb5⟩
    have ho5 : Hid (w5.ownsRow w4.heap.size 3 1 (.slice a2 K.length e2) K.length (M4.iv K)) := ho5'
    clear ho5'
    have hS5 : (fun wq : World => wq.cell? ⟨w.heap.size, 0, none⟩ = some (.int .i64 l) ∧ wq.cell? ⟨w.heap.size, 1, none⟩ = some (.int .i64 r)) w5 := ⟨(hb5.cell (p := ⟨w.heap.size, 0, none⟩) (Nat.lt_of_lt_of_le hS3 hb4.size)).trans hS4.1, (hb5.cell (p := ⟨w.heap.size, 1, none⟩) (Nat.lt_of_lt_of_le hS3 hb4.size)).trans hS4.2⟩
    refine ⟨_, rfl, hS5, ?_⟩
    refine MR.takeH (i := 10) (some 2) (.slice a1 L.length e1) rfl rfl (by kernel_rfl) (by kernel_rfl) (by kernel_rfl) (fun _ _ _ h => h) hS5 (MR.free rfl) (fun wq hw => by simp [execOp, MR.ev, MR.size, hsz, q1, p1, q5, p5, go_sem]) ?_
    refine MR.takeH (i := 11) (some 3) (.slice a2 K.length e2) rfl rfl (by kernel_rfl) (by kernel_rfl) (by kernel_rfl) (fun _ _ _ h => h) hS5 (MR.free rfl) (fun wq hw => by simp [execOp, MR.ev, MR.size, hsz, q1, p1, q5, p5, go_sem]) ?_
    refine MR.takeH (i := 12) (some 4) (.bool true) rfl rfl (by kernel_rfl) (by kernel_rfl) (by kernel_rfl) (fun _ _ _ h => h) hS5 (MR.free rfl) (fun wq hw => by simp [execOp, MR.ev, MR.size, hsz, q1, p1, q5, p5, go_sem]) ?_
    refine wpAnyH_done (by kernel_rfl) ?_ _
    rw [HA.out]
    clear HA q1 p1 q5 p5 hsz hS hS4 hS5 HP4 TA TB HP
    simp only [Act.put, List.setIfInBounds_toArray, List.set_cons_succ, List.set_cons_zero]
    go_wp2
    refine bodyPost_ret (v := .tuple #[.slice a1 L.length e1, .slice a2 K.length e2, .bool true]) (by simp [results, Try.results8, go_sem]) rfl ⟨a1, e1, a2, e2, w4.heap.size, rfl, Nat.le_trans hB3.size hb4.size, hb5.size, PG.own_mono (M5.own_below ho4.out hb5) hB3.size, fun k hk => (World.ownsRow.lt ho4.out k hk).2, ho5.out, hB3.trans ((hb4.mono hB3.size).trans (hb5.mono (Nat.le_trans hB3.size hb4.size)))⟩
end Go.Proofs.Ytjfnmhkhjaafkaa
