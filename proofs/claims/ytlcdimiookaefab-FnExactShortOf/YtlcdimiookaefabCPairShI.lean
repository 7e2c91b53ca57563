/- ShortOf of the program. -/
import Derived.Test.YtlcdimiookaefabRows
import Derived.Test.YtlcdimiookaefabMPJ2
import Derived.Test.YtlcdimiookaefabCPairThR
import Derived.Test.YtlcdimiookaefabCPairLast
import Derived.Test.YtlcdimiookaefabMRP
import Derived.WalkKit
import Derived.WalkSpells
import Derived.WalkLawsBesides
import Derived.Outline
namespace Go.Proofs.Ytlcdimiookaefab
open Go.RowKit
set_option linter.unusedSimpArgs false in
set_option maxHeartbeats 3200000 in
set_option maxRecDepth 100000 in
theorem implSh_any (l r : Int) (a : Option Addr) (cap : Nat) (ws : List (List Int)) (w : World) (hz : ws.length ≤ 1048576) (ht : NR.tot ws ≤ 1048576) (hin : NR.RowsAt w a ws) (L : List Int) (hL : Hid (PG.shL l r ws = L)) :
    Calls Try.prog 7 #[PG.pv l r (.slice a ws.length cap)] w fun e w' => ∃ a1 c1, e = .returned (.tuple #[.slice a1 L.length c1, .bool (decide (0 < L.length))]) ∧ w'.ownsRow w.heap.size 3 1 (.slice a1 L.length c1) L.length (M4.iv L) ∧ Below w.heap.size w w' := by
  have hB : Below w.heap.size w (w.alloc (Obj.cells #[.int .i64 l, .int .i64 r, .slice a ws.length cap] 29)) := (Below.refl _ _).alloc (Nat.le_refl _) _
  have hC : (w.alloc (Obj.cells #[.int .i64 l, .int .i64 r, .slice a ws.length cap] 29)).cell? ⟨w.heap.size, 0, none⟩ = some (.int .i64 l) ∧ (w.alloc (Obj.cells #[.int .i64 l, .int .i64 r, .slice a ws.length cap] 29)).cell? ⟨w.heap.size, 1, none⟩ = some (.int .i64 r) ∧ (w.alloc (Obj.cells #[.int .i64 l, .int .i64 r, .slice a ws.length cap] 29)).cell? ⟨w.heap.size, 2, none⟩ = some (.slice a ws.length cap) := by simp
  have hS : w.heap.size < (w.alloc (Obj.cells #[.int .i64 l, .int .i64 r, .slice a ws.length cap] 29)).heap.size := by simp
  obtain ⟨g, hg'⟩ : ∃ g, PG.good l r ws = g := ⟨_, rfl⟩
  have hg : Hid (PG.good l r ws = g) := hg'
  have GD : Hid _ := implGoodP_any l r a cap ws _ hz ht (hin.below hB) g hg
  have LA0 : Hid (g = true → ∀ W : World, Below w.heap.size w W → Calls Try.prog 21 #[PG.pv l r (.slice a ws.length cap)] W fun e w' => ∃ gs gm, e = .returned (.pointer (some ⟨gs, 0, none⟩)) ∧ PG.Im 54 W.heap.size gs gm l.toNat l.toNat (.slice a ws.length cap) w' (PG.allL l r ws, PG.ask ws (PG.allL l r ws)) ∧ Below W.heap.size W w') := fun h W hb => by
    have h1 := hg.out.trans h
    have hd := (PG.good_is h1).1
    have := lastSearch_any l.toNat r.toNat a cap ws W (by omega) (by omega) (show ws.length = l.toNat by omega) ht (PG.good_Gd h1) (hin.below hb) (PG.allL l r ws) (by rw [PG.allL_yes h1]; exact rfl)
    rw [show ((r.toNat : Nat) : Int) = r from by omega, show ((l.toNat : Nat) : Int) = l from by omega] at this
    exact this
  have TA : Hid (g = true → ∀ (B gs gm : Nat) (v : Value) (W : World), PG.Im 54 B gs gm l.toNat l.toNat v W (PG.allL l r ws, PG.ask ws (PG.allL l r ws)) → Calls Try.prog 20 #[.int .i64 l, .func (.func 22) #[.pointer (some ⟨gs, 0, none⟩)] #[]] W fun e w' => ∃ a1 c1, e = .returned (.slice a1 L.length c1) ∧ w'.ownsRow W.heap.size 3 1 (.slice a1 L.length c1) L.length (M4.iv L) ∧ Below W.heap.size W w') := fun h B gs gm v W hI => by
    have h1 := hg.out.trans h
    have hd := (PG.good_is h1).1
    have hlen := PG.allL_len h1
    have := thoseOfR_any gs l.toNat (PG.rcB l r ws) W (by omega) (fun i W' hi hb => (isReached_any B gs gm _ _ i v _ _ W' hi (hI.below hb) (PG.allL_ok8 h1 i (by omega)) _ rfl).mono fun e w' hh => ⟨hh.1, hh.2 ▸ Below.refl _ _⟩) L (by rw [PG.shL_yes h1]; exact hL)
    rw [show ((l.toNat : Nat) : Int) = l from by omega] at this
    exact this
  have HNO : Hid (g = false → L = []) := fun h => by rw [← hL.out]; exact PG.shL_no (hg.out.trans h)
  have hL8 : L.length ≤ 8 := by rw [← hL.out]; exact PG.shL_le l r ws
  clear hin hL hg hg'
  generalize PG.ask ws (PG.allL l r ws) = A at *
  generalize PG.allL l r ws = M0 at *
  go_enter Try.func7, Try.ntmps7
  go_wp2_with fail
  generalize w.alloc (Obj.cells #[.int .i64 l, .int .i64 r, .slice a ws.length cap] 29) = W at *
  refine Calls.mono GD.out ?_
  rintro e w2 ⟨rfl, hb2⟩
  have c0 := (hb2.cell (p := ⟨w.heap.size, 0, none⟩) hS).trans hC.1
  have c1 := (hb2.cell (p := ⟨w.heap.size, 1, none⟩) hS).trans hC.2.1
  have c2 := (hb2.cell (p := ⟨w.heap.size, 2, none⟩) hS).trans hC.2.2
  have hB2 := hB.trans (hb2.mono hB.size)
  have hS2 := Nat.lt_of_lt_of_le hS hb2.size
  clear GD hb2 hC hS hB
  cases g
  · obtain rfl := HNO.out rfl
    clear LA0 HNO TA
    go_wp2
    go_ret2
    exact ⟨none, 0, rfl, World.ownsRow_nil _ _ _ _, hB2⟩
  · have LA : Hid _ := LA0.out rfl
    clear LA0 HNO
    go_wp2
    refine MR.frame fun A hA => ?_
    have hsz : A.tmps.size = 18 := by rw [hA]; rfl
    have e1 : A.eval (.tmp 1) = .pointer (some ⟨w.heap.size, 0, none⟩) := by rw [hA]; rfl
    have f1 := MR.read (t := 1) (by rw [hsz]; decide) e1
    have HA : Hid (A = _) := hA
    clear hA
    have hS : (fun wq : World => wq.cell? ⟨w.heap.size, 0, none⟩ = some (.int .i64 l) ∧ wq.cell? ⟨w.heap.size, 1, none⟩ = some (.int .i64 r) ∧ wq.cell? ⟨w.heap.size, 2, none⟩ = some (.slice a ws.length cap)) (World.drew _) := ⟨c0, c1, c2⟩
    refine wp_region_held (S := fun wq : World => wq.cell? ⟨w.heap.size, 0, none⟩ = some (.int .i64 l) ∧ wq.cell? ⟨w.heap.size, 1, none⟩ = some (.int .i64 r) ∧ wq.cell? ⟨w.heap.size, 2, none⟩ = some (.slice a ws.length cap)) (by kernel_rfl) ?_
    change wpAnyH _ _ _ _ _ _ _ _ (World.drew _)
    refine MR.takeH (i := 0) (some 8) (.pointer (some ⟨w.heap.size, 0, none⟩)) rfl rfl (by kernel_rfl) (by kernel_rfl) (by kernel_rfl) (fun _ _ _ h => h) hS (MR.free rfl) (fun wq hw => by simp [execOp, MR.ev, MR.size, hsz, e1, f1, go_sem]) ?_
    refine MR.takeH (i := 1) (some 9) (.int .i64 l) rfl rfl (by kernel_rfl) (by kernel_rfl) (by kernel_rfl) (fun _ _ _ h => h) hS (MR.free rfl) (fun wq hw => by simp [execOp, MR.ev, MR.size, hsz, e1, f1, hw.1, go_sem]) ?_
    refine MR.takeH (i := 2) (some 10) (.agg #[.int .i64 l, .int .i64 r, .slice a ws.length cap]) rfl rfl (by kernel_rfl) (by kernel_rfl) (by kernel_rfl) (fun _ _ _ h => h) hS (MR.free rfl) (fun wq hw => by simp [execOp, MR.ev, MR.size, hsz, e1, f1, hw.1, hw.2.1, hw.2.2, go_sem]) ?_
    refine MR.callH (i := 3) (some 11) (21) (#[PG.pv l r (.slice a ws.length cap)]) (by kernel_rfl) rfl rfl (MR.free rfl) (by simp [execOp, MR.ev, MR.size, hsz, e1, f1, go_sem]) ?_
    refine (LA.out _ (hB2.drew)).mono ?_
    rintro e w4 ⟨gs, gm, rfl, hP, hb4'⟩
    have hb4 : Below w2.heap.size w2 w4 := (Below.refl _ w2).drew.trans hb4'
    clear hb4'
    have hB4 := hB2.trans (hb4.mono hB2.size)
    have HP : Hid _ := hP
    clear hP
    have hS4 : (fun wq : World => wq.cell? ⟨w.heap.size, 0, none⟩ = some (.int .i64 l) ∧ wq.cell? ⟨w.heap.size, 1, none⟩ = some (.int .i64 r) ∧ wq.cell? ⟨w.heap.size, 2, none⟩ = some (.slice a ws.length cap)) w4 := ⟨(hb4.cell (p := ⟨w.heap.size, 0, none⟩) hS2).trans c0, (hb4.cell (p := ⟨w.heap.size, 1, none⟩) hS2).trans c1, (hb4.cell (p := ⟨w.heap.size, 2, none⟩) hS2).trans c2⟩
    refine ⟨_, rfl, hS4, ?_⟩
    refine MR.takeH (i := 4) (some 12) (.func (.func 22) #[.pointer (some ⟨gs, 0, none⟩)] #[]) rfl rfl (by kernel_rfl) (by kernel_rfl) (by kernel_rfl) (fun _ _ _ h => h) hS4 (MR.free rfl) (fun wq hw => by simp [execOp, MR.ev, MR.size, hsz, e1, f1, go_sem]) ?_
    refine MR.callH (i := 5) (some 13) (20) (#[.int .i64 l, .func (.func 22) #[.pointer (some ⟨gs, 0, none⟩)] #[]]) (by kernel_rfl) rfl rfl (MR.free rfl) (by simp [execOp, MR.ev, MR.size, hsz, e1, f1, go_sem]) ?_
    refine (TA.out trivial _ gs gm _ _ HP.out).mono ?_
    rintro e w5 ⟨a5, c5, rfl, ho5', hb5⟩
    have ho5 : Hid (w5.ownsRow w4.heap.size 3 1 (.slice a5 L.length c5) L.length (M4.iv L)) := ho5'
    clear ho5'
    have hs4 := Nat.lt_of_lt_of_le hS2 hb4.size
    have hS5 : (fun wq : World => wq.cell? ⟨w.heap.size, 0, none⟩ = some (.int .i64 l) ∧ wq.cell? ⟨w.heap.size, 1, none⟩ = some (.int .i64 r) ∧ wq.cell? ⟨w.heap.size, 2, none⟩ = some (.slice a ws.length cap)) w5 := ⟨(hb5.cell (p := ⟨w.heap.size, 0, none⟩) hs4).trans hS4.1, (hb5.cell (p := ⟨w.heap.size, 1, none⟩) hs4).trans hS4.2.1, (hb5.cell (p := ⟨w.heap.size, 2, none⟩) hs4).trans hS4.2.2⟩
    refine ⟨_, rfl, hS5, ?_⟩
    refine MR.takeH (i := 6) (some 4) (.slice a5 L.length c5) rfl rfl (by kernel_rfl) (by kernel_rfl) (by kernel_rfl) (fun _ _ _ h => h) hS5 (MR.free rfl) (fun wq hw => by simp [execOp, MR.ev, MR.size, hsz, e1, f1, go_sem]) ?_
    refine wpAnyH_done (by kernel_rfl) ?_ _
    rw [HA.out]
    have hB5 := hB4.trans (hb5.mono hB4.size)
    clear HA e1 f1 hsz hS hS4 hS5 LA TA HP c0 c1 c2
    simp only [Act.put, List.setIfInBounds_toArray, List.set_cons_succ, List.set_cons_zero]
    go_wp2
    go_ret2
    exact ⟨a5, c5, rfl, PG.own_mono ho5.out hB4.size, hB5⟩
end Go.Proofs.Ytlcdimiookaefab
