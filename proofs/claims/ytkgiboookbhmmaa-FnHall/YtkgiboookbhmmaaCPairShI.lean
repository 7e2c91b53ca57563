import Derived.Test.YtkgiboookbhmmaaRows
import Derived.Test.YtkgiboookbhmmaaCPairTh
import Derived.WalkKit
import Derived.WalkSpells
import Derived.WalkLawsBesides
import Derived.Outline
import Derived.Test.YtkgiboookbhmmaaMPJ2
import Derived.Test.YtkgiboookbhmmaaCPairLast
import Derived.Test.YtkgiboookbhmmaaMRP
/- The program's short ones: thoseOf by isReached. -/
namespace Go.Proofs.Ytkgiboookbhmmaa
open Go.RowKit
set_option maxHeartbeats 1600000 in
set_option maxRecDepth 100000 in
theorem thoseOfR_any (gs n : Nat) (P : Nat → Bool) (w : World) (hn8 : n ≤ 8) (hF : ∀ (i : Nat) (W : World), i < n → Below w.heap.size w W → Calls Try.prog 41 #[.pointer (some ⟨gs, 0, none⟩), .int .i64 (i : Int)] W fun e w' => e = .returned (.bool (P i)) ∧ Below W.heap.size W w') (L : List Int) (hL : Hid (PG.those n P = L)) :
    Calls Try.prog 27 #[.int .i64 (n : Int), .func (.func 41) #[.pointer (some ⟨gs, 0, none⟩)] #[]] w fun e w' => ∃ a1 c1, e = .returned (.slice a1 L.length c1) ∧ w'.ownsRow w.heap.size 3 1 (.slice a1 L.length c1) L.length (M4.iv L) ∧ Below w.heap.size w w' := by
  have HF : Hid _ := hF
  clear hF
  obtain ⟨i0, hi, hz0, hz1, hz2⟩ := info_parts Try.info3
  go_enter Try.func27, Try.ntmps27
  go_wp2
  go_loopw [5, 8] (fun u iv wr => ∃ k : Nat, iv = .int .i64 k ∧ k ≤ n ∧ Hid (wr.ownsRow w.heap.size 3 1 u (PG.those k P).length (M4.iv (PG.those k P))) ∧ Below w.heap.size w wr) (fun _ iv _ => (n - intOf iv).toNat)
  case atStart => exact ⟨0, rfl, by omega, World.ownsRow_nil _ _ _ _, Below.refl _ _⟩
  case round =>
    obtain ⟨k, rfl, hk, hT, hb⟩ := hrel
    have hbs := hb.size
    by_cases hl : k < n
    · have hfl := PG.those_len k P
      have FK := HF.out k wr hl hb
      have TY := fun h => PG.those_yes (n := k) (P := P) h
      have TN := fun h => PG.those_no (n := k) (P := P) h
      generalize P k = q at *
      have HFK : Hid _ := FK
      have HTY : Hid _ := TY
      have HTN : Hid _ := TN
      clear FK TY TN
      generalize PG.those k P = K at *
      cases q
      · have hE := HTN.out rfl
        clear HTY HTN
        go_wp2_with fail
        refine Calls.mono HFK.out ?_
        rintro e w4 ⟨rfl, hb4⟩
        have HT4 : Hid (w4.ownsRow w.heap.size 3 1 u5 (PG.those (k + 1) P).length (M4.iv (PG.those (k + 1) P))) := by rw [hE]; exact M5.own_below hT.out hb4
        have hb5 := hb.trans (hb4.mono hb.size)
        clear HFK hT hb4 hE
        go_wp2
        go_roundw
        case rel => exact ⟨k + 1, by go_num, by omega, HT4, hb5⟩
        case measure => simp [intOf]; omega
      · have hE := HTY.out rfl
        have HE : Hid _ := hE
        clear HTY HTN hE
        go_wp2_with fail
        refine Calls.mono HFK.out ?_
        rintro e w4 ⟨rfl, hb4⟩
        have HT4 : Hid (w4.ownsRow w.heap.size 3 1 u5 K.length (M4.iv K)) := M5.own_below hT.out hb4
        have hb5 := hb.trans (hb4.mono hb.size)
        have hbs5 := hb5.size
        clear HFK hT hb4
        generalize hkl : K.length = kl at *
        have HKL : Hid _ := hkl
        clear hkl
        go_wp2_with (at_builtin; (refine wpList_append_own _ rfl _ _ 27 rfl w.heap.size 3 i0 (.int .i64 0) 1 8 Try.underlying27 hi hz0 hz1 hz2 rfl (by decide) _ _ _ rfl (World.ownsRow.alloc HT4.out _) ⟨w4.heap.size, 0, none⟩ 1 1 [.int .i64 (k : Int)] rfl rfl ?c1 ?c2 ?c3 ?c4 ?c5 ?_))
        all_goals try (first | rfl | omega | exact M2.new1 _ _ _ | exact M2.one1 _ _ | (unfold maxLen; omega) | (simp; omega))
        intro v' w6 hown1 hgrow _
        have hb6 : Below w.heap.size w w6 := (hb5.alloc hbs5 _).grown hgrow (by simp; omega) (fun j hj => (World.ownsRow.lt HT4.out j hj).1)
        have HT6 : Hid (w6.ownsRow w.heap.size 3 1 v' (PG.those (k + 1) P).length (M4.iv (PG.those (k + 1) P))) := by
          rw [HE.out]; exact PG.own_snoc (by rw [HKL.out]; exact hown1) rfl
        clear hown1 hgrow HT4 HE HKL hb5
        go_wp2
        go_roundw
        case rel => exact ⟨k + 1, by go_num, by omega, HT6, hb6⟩
        case measure => simp [intOf]; omega
    · obtain rfl : n = k := by omega
      have hLL := hL.out
      subst hLL
      obtain ⟨a1, c1, rfl, -⟩ := M5.own_view hT.out
      clear HF hL
      go_wp2
      go_ret
      exact ⟨a1, c1, rfl, hT.out, hb⟩
end Go.Proofs.Ytkgiboookbhmmaa

/- ShortOf of the program. -/
namespace Go.Proofs.Ytkgiboookbhmmaa
open Go.RowKit
set_option linter.unusedSimpArgs false in
set_option maxHeartbeats 3200000 in
set_option maxRecDepth 100000 in
theorem implSh_any (l r : Int) (a : Option Addr) (cap : Nat) (ws : List (List Int)) (w : World) (hz : ws.length ≤ 1048576) (ht : NR.tot ws ≤ 1048576) (hin : NR.RowsAt w a ws) (L : List Int) (hL : Hid (PG.shL l r ws = L)) :
    Calls Try.prog 18 #[PG.pv l r (.slice a ws.length cap)] w fun e w' => ∃ a1 c1, e = .returned (.tuple #[.slice a1 L.length c1, .bool (decide (0 < L.length))]) ∧ w'.ownsRow w.heap.size 3 1 (.slice a1 L.length c1) L.length (M4.iv L) ∧ Below w.heap.size w w' := by
  have hB : Below w.heap.size w (w.alloc (Obj.cells #[.int .i64 l, .int .i64 r, .slice a ws.length cap] 25)) := (Below.refl _ _).alloc (Nat.le_refl _) _
  have hC : (w.alloc (Obj.cells #[.int .i64 l, .int .i64 r, .slice a ws.length cap] 25)).cell? ⟨w.heap.size, 0, none⟩ = some (.int .i64 l) ∧ (w.alloc (Obj.cells #[.int .i64 l, .int .i64 r, .slice a ws.length cap] 25)).cell? ⟨w.heap.size, 1, none⟩ = some (.int .i64 r) ∧ (w.alloc (Obj.cells #[.int .i64 l, .int .i64 r, .slice a ws.length cap] 25)).cell? ⟨w.heap.size, 2, none⟩ = some (.slice a ws.length cap) := by simp
  have hS : w.heap.size < (w.alloc (Obj.cells #[.int .i64 l, .int .i64 r, .slice a ws.length cap] 25)).heap.size := by simp
  obtain ⟨g, hg'⟩ : ∃ g, PG.good l r ws = g := ⟨_, rfl⟩
  have hg : Hid (PG.good l r ws = g) := hg'
  have GD : Hid _ := implGoodP_any l r a cap ws _ hz ht (hin.below hB) g hg
  have LA0 : Hid (g = true → ∀ W : World, Below w.heap.size w W → Calls Try.prog 24 #[PG.pv l r (.slice a ws.length cap)] W fun e w' => ∃ gs gm, e = .returned (.pointer (some ⟨gs, 0, none⟩)) ∧ PG.Im 47 W.heap.size gs gm l.toNat l.toNat (.slice a ws.length cap) w' (PG.allL l r ws, PG.ask ws (PG.allL l r ws)) ∧ Below W.heap.size W w') := fun h W hb => by
    have h1 := hg.out.trans h
    have hd := (PG.good_is h1).1
    have := lastSearch_any l.toNat r.toNat a cap ws W (by omega) (by omega) (show ws.length = l.toNat by omega) ht (PG.good_Gd h1) (hin.below hb) (PG.allL l r ws) (by rw [PG.allL_yes h1]; exact rfl)
    rw [show ((r.toNat : Nat) : Int) = r from by omega, show ((l.toNat : Nat) : Int) = l from by omega] at this
    exact this
  have TA : Hid (g = true → ∀ (B gs gm : Nat) (v : Value) (W : World), PG.Im 47 B gs gm l.toNat l.toNat v W (PG.allL l r ws, PG.ask ws (PG.allL l r ws)) → Calls Try.prog 27 #[.int .i64 l, .func (.func 41) #[.pointer (some ⟨gs, 0, none⟩)] #[]] W fun e w' => ∃ a1 c1, e = .returned (.slice a1 L.length c1) ∧ w'.ownsRow W.heap.size 3 1 (.slice a1 L.length c1) L.length (M4.iv L) ∧ Below W.heap.size W w') := fun h B gs gm v W hI => by
    have h1 := hg.out.trans h
    have hd := (PG.good_is h1).1
    have hlen := PG.allL_len h1
    have := thoseOfR_any gs l.toNat (PG.rcB l r ws) W (by omega) (fun i W' hi hb => (isReached_any B gs gm _ _ i v _ _ W' hi (hI.below hb) (PG.allL_ok8 h1 i (by omega)) _ rfl).mono fun e w' hh => ⟨hh.1, hh.2 ▸ Below.refl _ _⟩) L (by rw [PG.shL_yes h1]; exact hL)
    rw [show ((l.toNat : Nat) : Int) = l from by omega] at this
    exact this
  have HNO : Hid (g = false → L = []) := fun h => by rw [← hL.out]; exact PG.shL_no (hg.out.trans h)
  have hL8 : L.length ≤ 8 := by rw [← hL.out]; exact PG.shL_le l r ws
  clear hin hL hg hg'
  generalize PG.ask ws (PG.allL l r ws) = A at *
  generalize PG.allL l r ws = M0 at *
  go_enter Try.func18, Try.ntmps18
  go_wp2_with fail
  generalize w.alloc (Obj.cells #[.int .i64 l, .int .i64 r, .slice a ws.length cap] 25) = W at *
  refine Calls.mono GD.out ?_
  rintro e w2 ⟨rfl, hb2⟩
  have c0 := (hb2.cell (p := ⟨w.heap.size, 0, none⟩) hS).trans hC.1
  have c1 := (hb2.cell (p := ⟨w.heap.size, 1, none⟩) hS).trans hC.2.1
  have c2 := (hb2.cell (p := ⟨w.heap.size, 2, none⟩) hS).trans hC.2.2
  have hB2 := hB.trans (hb2.mono hB.size)
  have hS2 := Nat.lt_of_lt_of_le hS hb2.size
  clear GD hb2 hC hS hB
  cases g
  · obtain rfl := HNO.out rfl
    clear LA0 HNO TA
    go_wp2
    go_ret2
    exact ⟨none, 0, rfl, World.ownsRow_nil _ _ _ _, hB2⟩
  · have LA : Hid _ := LA0.out rfl
    clear LA0 HNO
    go_wp2
    refine MR.frame fun A hA => ?_
    have hsz : A.tmps.size = 18 := by rw [hA]; rfl
    have e1 : A.eval (.tmp 1) = .pointer (some ⟨w.heap.size, 0, none⟩) := by rw [hA]; rfl
    have f1 := MR.read (t := 1) (by rw [hsz]; decide) e1
    have HA : Hid (A = _) := hA
    clear hA
    have hS : (fun wq : World => wq.cell? ⟨w.heap.size, 0, none⟩ = some (.int .i64 l) ∧ wq.cell? ⟨w.heap.size, 1, none⟩ = some (.int .i64 r) ∧ wq.cell? ⟨w.heap.size, 2, none⟩ = some (.slice a ws.length cap)) (World.drew _) := ⟨c0, c1, c2⟩
    refine wp_region_held (S := fun wq : World => wq.cell? ⟨w.heap.size, 0, none⟩ = some (.int .i64 l) ∧ wq.cell? ⟨w.heap.size, 1, none⟩ = some (.int .i64 r) ∧ wq.cell? ⟨w.heap.size, 2, none⟩ = some (.slice a ws.length cap)) (by kernel_rfl) ?_
    change wpAnyH _ _ _ _ _ _ _ _ (World.drew _)
    refine MR.takeH (i := 0) (some 8) (.pointer (some ⟨w.heap.size, 0, none⟩)) rfl rfl (by kernel_rfl) (by kernel_rfl) (by kernel_rfl) (fun _ _ _ h => h) hS (MR.free rfl) (fun wq hw => by simp [execOp, MR.ev, MR.size, hsz, e1, f1, go_sem]) ?_
    refine MR.takeH (i := 1) (some 9) (.int .i64 l) rfl rfl (by kernel_rfl) (by kernel_rfl) (by kernel_rfl) (fun _ _ _ h => h) hS (MR.free rfl) (fun wq hw => by simp [execOp, MR.ev, MR.size, hsz, e1, f1, hw.1, go_sem]) ?_
    refine MR.takeH (i := 2) (some 10) (.agg #[.int .i64 l, .int .i64 r, .slice a ws.length cap]) rfl rfl (by kernel_rfl) (by kernel_rfl) (by kernel_rfl) (fun _ _ _ h => h) hS (MR.free rfl) (fun wq hw => by simp [execOp, MR.ev, MR.size, hsz, e1, f1, hw.1, hw.2.1, hw.2.2, go_sem]) ?_
    refine MR.callH (i := 3) (some 11) (24) (#[PG.pv l r (.slice a ws.length cap)]) (by kernel_rfl) rfl rfl (MR.free rfl) (by simp [execOp, MR.ev, MR.size, hsz, e1, f1, go_sem]) ?_
    refine (LA.out _ (hB2.drew)).mono ?_
    rintro e w4 ⟨gs, gm, rfl, hP, hb4'⟩
    have hb4 : Below w2.heap.size w2 w4 := (Below.refl _ w2).drew.trans hb4'
    clear hb4'
    have hB4 := hB2.trans (hb4.mono hB2.size)
    have HP : Hid _ := hP
    clear hP
    have hS4 : (fun wq : World => wq.cell? ⟨w.heap.size, 0, none⟩ = some (.int .i64 l) ∧ wq.cell? ⟨w.heap.size, 1, none⟩ = some (.int .i64 r) ∧ wq.cell? ⟨w.heap.size, 2, none⟩ = some (.slice a ws.length cap)) w4 := ⟨(hb4.cell (p := ⟨w.heap.size, 0, none⟩) hS2).trans c0, (hb4.cell (p := ⟨w.heap.size, 1, none⟩) hS2).trans c1, (hb4.cell (p := ⟨w.heap.size, 2, none⟩) hS2).trans c2⟩
    refine ⟨_, rfl, hS4, ?_⟩
    refine MR.takeH (i := 4) (some 12) (.func (.func 41) #[.pointer (some ⟨gs, 0, none⟩)] #[]) rfl rfl (by kernel_rfl) (by kernel_rfl) (by kernel_rfl) (fun _ _ _ h => h) hS4 (MR.free rfl) (fun wq hw => by simp [execOp, MR.ev, MR.size, hsz, e1, f1, go_sem]) ?_
    refine MR.callH (i := 5) (some 13) (27) (#[.int .i64 l, .func (.func 41) #[.pointer (some ⟨gs, 0, none⟩)] #[]]) (by kernel_rfl) rfl rfl (MR.free rfl) (by simp [execOp, MR.ev, MR.size, hsz, e1, f1, go_sem]) ?_
    refine (TA.out trivial _ gs gm _ _ HP.out).mono ?_
    rintro e w5 ⟨a5, c5, rfl, ho5', hb5⟩
    have ho5 : Hid (w5.ownsRow w4.heap.size 3 1 (.slice a5 L.length c5) L.length (M4.iv L)) := ho5'
    clear ho5'
    have hs4 := Nat.lt_of_lt_of_le hS2 hb4.size
    have hS5 : (fun wq : World => wq.cell? ⟨w.heap.size, 0, none⟩ = some (.int .i64 l) ∧ wq.cell? ⟨w.heap.size, 1, none⟩ = some (.int .i64 r) ∧ wq.cell? ⟨w.heap.size, 2, none⟩ = some (.slice a ws.length cap)) w5 := ⟨(hb5.cell (p := ⟨w.heap.size, 0, none⟩) hs4).trans hS4.1, (hb5.cell (p := ⟨w.heap.size, 1, none⟩) hs4).trans hS4.2.1, (hb5.cell (p := ⟨w.heap.size, 2, none⟩) hs4).trans hS4.2.2⟩
    refine ⟨_, rfl, hS5, ?_⟩
    refine MR.takeH (i := 6) (some 4) (.slice a5 L.length c5) rfl rfl (by kernel_rfl) (by kernel_rfl) (by kernel_rfl) (fun _ _ _ h => h) hS5 (MR.free rfl) (fun wq hw => by simp [execOp, MR.ev, MR.size, hsz, e1, f1, go_sem]) ?_
    refine wpAnyH_done (by kernel_rfl) ?_ _
    rw [HA.out]
    have hB5 := hB4.trans (hb5.mono hB4.size)
    clear HA e1 f1 hsz hS hS4 hS5 LA TA HP c0 c1 c2
    simp only [Act.put, List.setIfInBounds_toArray, List.set_cons_succ, List.set_cons_zero]
    go_wp2
    go_ret2
    exact ⟨a5, c5, rfl, PG.own_mono ho5.out hB4.size, hB5⟩
end Go.Proofs.Ytkgiboookbhmmaa
