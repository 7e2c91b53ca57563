/- Talks: a session out of a talk with empty links. -/
import Derived.Test.YtjlombnjmpejjaaRows
import Derived.Test.YtjlombnjmpejjaaCS4
import Derived.Test.YtjlombnjmpejjaaMRP
import Derived.Test.YtjlombnjmpejjaaCClone
import Derived.WalkKit
import Derived.WalkSpells
import Derived.WalkLawsBesides
import Derived.Outline
namespace Go.Proofs.Ytjlombnjmpejjaa
open Go.RowKit
theorem Try.sizeSession : (Try.prog.info? 43).map (·.size) = some 7 := by kernel_rfl
theorem Try.infoSession : (Try.prog.info? 43).map (fun i => (i.zero, i.size)) = some (some (.agg (SE.sv ⟨#[]⟩ (.slice none 0 0) (.slice none 0 0) ⟨#[]⟩ false (.slice none 0 0) (.slice none 0 0)).toArray), 7) := by kernel_rfl
set_option linter.unusedSimpArgs false in
set_option linter.unusedVariables false in
set_option maxHeartbeats 3200000 in
set_option maxRecDepth 100000 in
theorem session0_any (k : Nat) (b : ByteArray) (f g : Nat → Bool) (p q : Nat) (y : ByteArray) (w : World) (hs : b.size ≤ 40) (ht : SE.Tk w k b f g p q #[] #[])
    (by_ : ∀ W : World, SE.Tk W k b f g p q #[] #[] → Calls Try.prog 78 #[.pointer (some ⟨k, 0, none⟩)] W fun e w' => e = .returned (.string y) ∧ Below W.heap.size W w') :
    Calls Try.prog 60 #[.pointer (some ⟨k, 0, none⟩)] w fun e w' => ∃ a1 k1 a2 k2, e = .returned (.agg (SE.sv b (.slice a1 (SE.many b) k1) (.slice a2 (SE.many b) k2) y (SE.same5 f (SE.upTo (SE.many b))) (.slice none 0 0) (.slice none 0 0)).toArray) ∧ w'.ownsRow w.heap.size 4 1 (.slice a1 (SE.many b) k1) (SE.many b) (SE.bl ((List.range (SE.many b)).map f)) ∧ w'.ownsRow w.heap.size 4 1 (.slice a2 (SE.many b) k2) (SE.many b) (SE.bl ((List.range (SE.many b)).map g)) ∧ (∀ x x', a1 = some ⟨x, 0, none⟩ → a2 = some ⟨x', 0, none⟩ → x ≠ x') ∧ Below w.heap.size w w' := by
  have CL : Hid (∀ W : World, Calls Try.prog 93 #[.string b] W fun e w' => e = .returned (.string b) ∧ Below W.heap.size W w') := fun W => clone_any b W (by omega)
  have LA : Hid (∀ W : World, SE.Tk W k b f g p q #[] #[] → Calls Try.prog 94 #[.pointer (some ⟨k, 0, none⟩), .agg (SE.t5 f).toArray] W fun e w' => ∃ a cap, e = .returned (.slice a (SE.many b) cap) ∧ w'.ownsRow W.heap.size 4 1 (.slice a (SE.many b) cap) (SE.many b) (SE.bl ((List.range (SE.many b)).map f)) ∧ Below W.heap.size W w') := fun W h => list_any k b f W hs h.c0 h.lt
  have LG : Hid (∀ W : World, SE.Tk W k b f g p q #[] #[] → Calls Try.prog 94 #[.pointer (some ⟨k, 0, none⟩), .agg (SE.t5 g).toArray] W fun e w' => ∃ a cap, e = .returned (.slice a (SE.many b) cap) ∧ w'.ownsRow W.heap.size 4 1 (.slice a (SE.many b) cap) (SE.many b) (SE.bl ((List.range (SE.many b)).map g)) ∧ Below W.heap.size W w') := fun W h => list_any k b g W hs h.c0 h.lt
  have BY : Hid (∀ W : World, SE.Tk W k b f g p q #[] #[] → Calls Try.prog 78 #[.pointer (some ⟨k, 0, none⟩)] W fun e w' => e = .returned (.string y) ∧ Below W.heap.size W w') := by_
  have DN : Hid (∀ W : World, SE.Tk W k b f g p q #[] #[] → Calls Try.prog 95 #[.pointer (some ⟨k, 0, none⟩)] W fun e w' => e = .returned (.bool (SE.same5 f (SE.upTo (SE.many b)))) ∧ Below W.heap.size W w') := fun W h => isDone_any k b f W hs h.c0 h.lt h.ra
  have RA : Hid (∀ W : World, SE.Tk W k b f g p q #[] #[] → Calls Try.prog 96 #[.chan (some p)] W fun e w' => (∃ a, e = .returned (.slice a 0 0)) ∧ Below W.heap.size W w') := fun W h => let ⟨s, r, hc⟩ := h.way; rowA_nil p s r W hc
  have RB : Hid (∀ W : World, SE.Tk W k b f g p q #[] #[] → Calls Try.prog 98 #[.chan (some q)] W fun e w' => (∃ a, e = .returned (.slice a 0 0)) ∧ Below W.heap.size W w') := fun W h => let ⟨s, r, hc⟩ := h.back; rowB_nil q s r W hc
  generalize SE.same5 f (SE.upTo (SE.many b)) = D at *
  have hB0 : Below w.heap.size w (w.alloc (.cells (SE.sv ⟨#[]⟩ (.slice none 0 0) (.slice none 0 0) ⟨#[]⟩ false (.slice none 0 0) (.slice none 0 0)).toArray 43)) := (Below.refl _ w).alloc (Nat.le_refl _) _
  have r0 := MA.Rg.new w (SE.sv ⟨#[]⟩ (.slice none 0 0) (.slice none 0 0) ⟨#[]⟩ false (.slice none 0 0) (.slice none 0 0)) 43
  have HT : Hid (SE.Tk (w.alloc (.cells (SE.sv ⟨#[]⟩ (.slice none 0 0) (.slice none 0 0) ⟨#[]⟩ false (.slice none 0 0) (.slice none 0 0)).toArray 43)) k b f g p q #[] #[]) := ht.below hB0
  have HR : Hid _ := And.intro r0 hB0
  clear r0 hB0 by_ ht
  go_enter Try.func60, Try.ntmps60
  go_wp2_with (refine MA.alloc_z rfl 43 rfl _ _ Try.infoSession ?_)
  generalize w.alloc (.cells (SE.sv ⟨#[]⟩ (.slice none 0 0) (.slice none 0 0) ⟨#[]⟩ false (.slice none 0 0) (.slice none 0 0)).toArray 43) = w0 at *
  refine MR.cut (fun a w' => ∃ (a1 : Option Addr) (k1 : Nat) (a2 : Option Addr) (k2 : Nat) (q3 : Nat), a = ⟨#[.pointer (some ⟨k, 0, none⟩), undef, .pointer (some ⟨w.heap.size, 0, none⟩), .pointer (some ⟨q3, 0, none⟩), undef, undef, undef, undef, .pointer (some ⟨k, 0, none⟩), .pointer (some ⟨k, 0, none⟩), .pointer (some ⟨k, 0, none⟩), .string b, .string b, .pointer (some ⟨k, 0, none⟩), .pointer (some ⟨k, 0, none⟩), .pointer (some ⟨k, 0, none⟩), .pointer (some ⟨k, 1, none⟩), .agg (SE.t5 f).toArray, .slice a1 (SE.many b) k1, .pointer (some ⟨k, 0, none⟩), .pointer (some ⟨k, 0, none⟩), .pointer (some ⟨k, 0, none⟩), .pointer (some ⟨k, 6, none⟩), .agg (SE.t5 g).toArray, .slice a2 (SE.many b) k2, .pointer (some ⟨k, 0, none⟩), .string y, .pointer (some ⟨k, 0, none⟩), .bool D, .agg (SE.sv b (.slice a1 (SE.many b) k1) (.slice a2 (SE.many b) k2) y D (.slice none 0 0) (.slice none 0 0)).toArray, undef, undef, undef, undef, undef, undef, undef, undef, undef, undef, undef, undef, undef, undef, undef, undef, undef, undef, undef, undef, undef, undef, undef, undef, undef, undef, undef, undef, undef, undef, undef, undef, undef, undef, undef, undef, undef, undef, undef], []⟩ ∧ (∀ x x', a1 = some ⟨x, 0, none⟩ → a2 = some ⟨x', 0, none⟩ → x ≠ x') ∧ Hid (Below w0.heap.size w0 w' ∧ w0.heap.size ≤ q3 ∧ MA.Rg w' q3 0 (SE.sv b (.slice a1 (SE.many b) k1) (.slice a2 (SE.many b) k2) y D (.slice none 0 0) (.slice none 0 0)) ∧ w'.ownsRow w0.heap.size 4 1 (.slice a1 (SE.many b) k1) (SE.many b) (SE.bl ((List.range (SE.many b)).map f)) ∧ w'.ownsRow w0.heap.size 4 1 (.slice a2 (SE.many b) k2) (SE.many b) (SE.bl ((List.range (SE.many b)).map g)))) ?_ ?_
  · refine MR.frame fun A hA => ?_
    have hsz : A.tmps.size = 69 := by rw [hA]; rfl
    have e0 : A.eval (.tmp 0) = .pointer (some ⟨k, 0, none⟩) := by rw [hA]; rfl
    have f0 := MR.read (t := 0) (by rw [hsz]; decide) e0
    have HA : Hid (A = _) := hA
    clear hA
    have hS : (fun w' : World => Below w0.heap.size w0 w') (World.drew _) := ((Below.refl _ w0).drew)
    refine wp_region_held (S := fun w' : World => Below w0.heap.size w0 w') (by kernel_rfl) ?_
    change wpAnyH _ _ _ _ _ _ _ _ (World.drew _)
    refine MR.takeH (i := 0) (some 8) (.pointer (some ⟨k, 0, none⟩)) rfl rfl (by kernel_rfl) (by kernel_rfl) (by kernel_rfl) nofun hS (MR.free rfl) (fun wq hw => by simp [execOp, MR.ev, MR.size, hsz, e0, f0, go_sem]) ?_
    refine MR.takeH (i := 1) (some 9) (.pointer (some ⟨k, 0, none⟩)) rfl rfl (by kernel_rfl) (by kernel_rfl) (by kernel_rfl) nofun hS (MR.free rfl) (fun wq hw => by simp [execOp, MR.ev, MR.size, hsz, e0, f0, go_sem]) ?_
    refine MR.takeH (i := 2) (some 10) (.pointer (some ⟨k, 0, none⟩)) rfl rfl (by kernel_rfl) (by kernel_rfl) (by kernel_rfl) nofun hS (MR.free rfl) (fun wq hw => by simp [execOp, MR.ev, MR.size, hsz, e0, f0, go_sem]) ?_
    refine MR.takeH (i := 3) (some 11) (.string b) rfl rfl (by kernel_rfl) (by kernel_rfl) (by kernel_rfl) nofun hS (MR.free rfl) (fun wq hw => by simp [execOp, MR.ev, MR.size, hsz, e0, f0, (hw.cell (p := ⟨k, 0, none⟩) HT.out.lt).trans HT.out.c0, go_sem]) ?_
    refine MR.takeH (i := 5) (some 13) (.pointer (some ⟨k, 0, none⟩)) rfl rfl (by kernel_rfl) (by kernel_rfl) (by kernel_rfl) nofun hS (MR.free rfl) (fun wq hw => by simp [execOp, MR.ev, MR.size, hsz, e0, f0, go_sem]) ?_
    refine MR.takeH (i := 6) (some 14) (.pointer (some ⟨k, 0, none⟩)) rfl rfl (by kernel_rfl) (by kernel_rfl) (by kernel_rfl) nofun hS (MR.free rfl) (fun wq hw => by simp [execOp, MR.ev, MR.size, hsz, e0, f0, go_sem]) ?_
    refine MR.takeH (i := 7) (some 15) (.pointer (some ⟨k, 0, none⟩)) rfl rfl (by kernel_rfl) (by kernel_rfl) (by kernel_rfl) nofun hS (MR.free rfl) (fun wq hw => by simp [execOp, MR.ev, MR.size, hsz, e0, f0, go_sem]) ?_
    refine MR.takeH (i := 8) (some 16) (.pointer (some ⟨k, 1, none⟩)) rfl rfl (by kernel_rfl) (by kernel_rfl) (by kernel_rfl) nofun hS (MR.free rfl) (fun wq hw => by simp [execOp, MR.ev, MR.size, hsz, e0, f0, go_sem]) ?_
    refine MR.takeH (i := 9) (some 17) (.agg (SE.t5 f).toArray) rfl rfl (by kernel_rfl) (by kernel_rfl) (by kernel_rfl) nofun hS (MR.free rfl) (fun w hw => MA.ex_load rfl (by simp [MR.ev, MR.size, hsz, e0, f0]) (MA.range_below HT.out.ra hw HT.out.lt) Try.underlying125 rfl Try.sizeTally (SE.t5_len _)) ?_
    refine MR.takeH (i := 11) (some 19) (.pointer (some ⟨k, 0, none⟩)) rfl rfl (by kernel_rfl) (by kernel_rfl) (by kernel_rfl) nofun hS (MR.free rfl) (fun wq hw => by simp [execOp, MR.ev, MR.size, hsz, e0, f0, go_sem]) ?_
    refine MR.takeH (i := 12) (some 20) (.pointer (some ⟨k, 0, none⟩)) rfl rfl (by kernel_rfl) (by kernel_rfl) (by kernel_rfl) nofun hS (MR.free rfl) (fun wq hw => by simp [execOp, MR.ev, MR.size, hsz, e0, f0, go_sem]) ?_
    refine MR.takeH (i := 13) (some 21) (.pointer (some ⟨k, 0, none⟩)) rfl rfl (by kernel_rfl) (by kernel_rfl) (by kernel_rfl) nofun hS (MR.free rfl) (fun wq hw => by simp [execOp, MR.ev, MR.size, hsz, e0, f0, go_sem]) ?_
    refine MR.takeH (i := 14) (some 22) (.pointer (some ⟨k, 6, none⟩)) rfl rfl (by kernel_rfl) (by kernel_rfl) (by kernel_rfl) nofun hS (MR.free rfl) (fun wq hw => by simp [execOp, MR.ev, MR.size, hsz, e0, f0, go_sem]) ?_
    refine MR.takeH (i := 15) (some 23) (.agg (SE.t5 g).toArray) rfl rfl (by kernel_rfl) (by kernel_rfl) (by kernel_rfl) nofun hS (MR.free rfl) (fun w hw => MA.ex_load rfl (by simp [MR.ev, MR.size, hsz, e0, f0]) (MA.range_below HT.out.rg hw HT.out.lt) Try.underlying125 rfl Try.sizeTally (SE.t5_len _)) ?_
    refine MR.takeH (i := 17) (some 25) (.pointer (some ⟨k, 0, none⟩)) rfl rfl (by kernel_rfl) (by kernel_rfl) (by kernel_rfl) nofun hS (MR.free rfl) (fun wq hw => by simp [execOp, MR.ev, MR.size, hsz, e0, f0, go_sem]) ?_
    refine MR.takeH (i := 19) (some 27) (.pointer (some ⟨k, 0, none⟩)) rfl rfl (by kernel_rfl) (by kernel_rfl) (by kernel_rfl) nofun hS (MR.free rfl) (fun wq hw => by simp [execOp, MR.ev, MR.size, hsz, e0, f0, go_sem]) ?_
    generalize hwd : World.drew w0 = wd at hS ⊢
    clear hwd
    refine MR.two (i := 4) (j := 22) (by kernel_rfl) ?_ ?_
    · skip
      refine MR.callW (some 12) (93) (#[.string b]) rfl rfl (MR.free rfl) (by simp [execOp, MR.ev, MR.size, hsz, e0, f0, go_sem]) ?_
      refine (CL.out _).mono ?_
      rintro e w11 ⟨rfl, hb⟩
      have hS11 : Below w0.heap.size w0 w11 := hS.trans (hb.mono hS.size)
      clear hb
      refine ⟨_, rfl, hS11, ?_⟩
      refine MR.two (i := 10) (j := 22) (by kernel_rfl) ?_ ?_
      · skip
        refine MR.callW (some 18) (94) (#[.pointer (some ⟨k, 0, none⟩), .agg (SE.t5 f).toArray]) rfl rfl (MR.free rfl) (by simp [execOp, MR.ev, MR.size, hsz, e0, f0, go_sem]) ?_
        refine (LA.out _ (HT.out.below hS11)).mono ?_
        rintro e w12 ⟨a1, k1, rfl, own1, hb⟩
        have hS12 : Below w0.heap.size w0 w12 := hS11.trans (hb.mono hS11.size)
        replace own1 : w12.ownsRow w0.heap.size 4 1 (.slice a1 (SE.many b) k1) (SE.many b) (SE.bl ((List.range (SE.many b)).map f)) := CB.own_mono own1 hS11.size
        clear hb
        refine ⟨_, rfl, hS12, ?_⟩
        refine MR.two (i := 16) (j := 22) (by kernel_rfl) ?_ ?_
        · skip
          refine MR.callW (some 24) (94) (#[.pointer (some ⟨k, 0, none⟩), .agg (SE.t5 g).toArray]) rfl rfl (MR.free rfl) (by simp [execOp, MR.ev, MR.size, hsz, e0, f0, go_sem]) ?_
          refine (LG.out _ (HT.out.below hS12)).mono ?_
          rintro e w13 ⟨a2, k2, rfl, own2, hb⟩
          have hS13 : Below w0.heap.size w0 w13 := hS12.trans (hb.mono hS12.size)
          have hdd : ∀ x x', a1 = some ⟨x, 0, none⟩ → a2 = some ⟨x', 0, none⟩ → x ≠ x' := fun x x' h h' he => by have h1 := (SE.own_lt own1 h).2; have h2 := (SE.own_lt own2 h').1; omega
          replace own2 : w13.ownsRow w0.heap.size 4 1 (.slice a2 (SE.many b) k2) (SE.many b) (SE.bl ((List.range (SE.many b)).map g)) := CB.own_mono own2 hS12.size
          replace own1 := MP.own_below own1 hb
          clear hb
          refine ⟨_, rfl, hS13, ?_⟩
          refine MR.two (i := 18) (j := 22) (by kernel_rfl) ?_ ?_
          · skip
            refine MR.callW (some 26) (78) (#[.pointer (some ⟨k, 0, none⟩)]) rfl rfl (MR.free rfl) (by simp [execOp, MR.ev, MR.size, hsz, e0, f0, go_sem]) ?_
            refine (BY.out _ (HT.out.below hS13)).mono ?_
            rintro e w14 ⟨rfl, hb⟩
            have hS14 : Below w0.heap.size w0 w14 := hS13.trans (hb.mono hS13.size)
            replace own1 := MP.own_below own1 hb
            replace own2 := MP.own_below own2 hb
            clear hb
            refine ⟨_, rfl, hS14, ?_⟩
            refine MR.two (i := 20) (j := 22) (by kernel_rfl) ?_ ?_
            · skip
              refine MR.callW (some 28) (95) (#[.pointer (some ⟨k, 0, none⟩)]) rfl rfl (MR.free rfl) (by simp [execOp, MR.ev, MR.size, hsz, e0, f0, go_sem]) ?_
              refine (DN.out _ (HT.out.below hS14)).mono ?_
              rintro e w15 ⟨rfl, hb⟩
              have hS15 : Below w0.heap.size w0 w15 := hS14.trans (hb.mono hS14.size)
              replace own1 := MP.own_below own1 hb
              replace own2 := MP.own_below own2 hb
              clear hb
              refine ⟨_, rfl, hS15, ?_⟩
              refine MR.takeH (i := 21) (some 29) (.agg (SE.sv b (.slice a1 (SE.many b) k1) (.slice a2 (SE.many b) k2) y D (.slice none 0 0) (.slice none 0 0)).toArray) rfl rfl (by kernel_rfl) (by kernel_rfl) (by kernel_rfl) nofun hS15 (MR.free rfl) (fun wq hw => by simp [execOp, MR.ev, MR.size, hsz, e0, f0, SE.sv, go_sem]) ?_
              refine MR.nowH (i := 22) (some 3) (.pointer (some ⟨w15.heap.size, 0, none⟩)) (by kernel_rfl) rfl rfl (MR.free rfl) (MR.ex_alloc _ rfl (SE.sv ⟨#[]⟩ (.slice none 0 0) (.slice none 0 0) ⟨#[]⟩ false (.slice none 0 0) (.slice none 0 0)) 7 Try.infoSession) ?_
              have hb : Below w15.heap.size w15 (w15.alloc (.cells (SE.sv ⟨#[]⟩ (.slice none 0 0) (.slice none 0 0) ⟨#[]⟩ false (.slice none 0 0) (.slice none 0 0)).toArray 43)) := (Below.refl _ w15).alloc (Nat.le_refl _) _
              have hS16 : Below w0.heap.size w0 (w15.alloc (.cells (SE.sv ⟨#[]⟩ (.slice none 0 0) (.slice none 0 0) ⟨#[]⟩ false (.slice none 0 0) (.slice none 0 0)).toArray 43)) := hS15.trans (hb.mono hS15.size)
              have hq : MA.Rg (w15.alloc (.cells (SE.sv ⟨#[]⟩ (.slice none 0 0) (.slice none 0 0) ⟨#[]⟩ false (.slice none 0 0) (.slice none 0 0)).toArray 43)) w15.heap.size 0 (SE.sv ⟨#[]⟩ (.slice none 0 0) (.slice none 0 0) ⟨#[]⟩ false (.slice none 0 0) (.slice none 0 0)) := MA.Rg.new _ _ _
              have hq3 : w0.heap.size ≤ w15.heap.size := hS15.size
              have hn1 : ∀ g, a1 = some ⟨g, 0, none⟩ → g ≠ w15.heap.size := fun g hg he => by have h1 := (SE.own_lt own1 hg).2; omega
              have hn2 : ∀ g, a2 = some ⟨g, 0, none⟩ → g ≠ w15.heap.size := fun g hg he => by have h1 := (SE.own_lt own2 hg).2; omega
              replace own1 := MP.own_below own1 hb
              replace own2 := MP.own_below own2 hb
              refine ⟨hS16, ?_⟩
              obtain ⟨q3, hq3e⟩ : ∃ q3, q3 = w15.heap.size := ⟨_, rfl⟩
              rw [← hq3e] at hq hq3 hn1 hn2 ⊢
              obtain ⟨wa, hwa⟩ : ∃ wa, wa = (w15.alloc (.cells (SE.sv ⟨#[]⟩ (.slice none 0 0) (.slice none 0 0) ⟨#[]⟩ false (.slice none 0 0) (.slice none 0 0)).toArray 43)) := ⟨_, rfl⟩
              rw [← hwa] at hq own1 own2 hS16 ⊢
              have hq4 := hq.put (vs := SE.sv b (.slice a1 (SE.many b) k1) (.slice a2 (SE.many b) k2) y D (.slice none 0 0) (.slice none 0 0)) rfl
              have hSz : Below w0.heap.size w0 (wa.setCells q3 0 (SE.sv b (.slice a1 (SE.many b) k1) (.slice a2 (SE.many b) k2) y D (.slice none 0 0) (.slice none 0 0))) := MA.below_cells hq3 _ _ _ hS16
              refine MR.storeH (i := 23) (by kernel_rfl) rfl (MR.free rfl) (MA.ex_store (vs := SE.sv b (.slice a1 (SE.many b) k1) (.slice a2 (SE.many b) k2) y D (.slice none 0 0) (.slice none 0 0)) rfl (by simp [MR.ev, MR.size, hsz, e0, f0]) (by simp [MR.ev, MR.size, hsz, e0, f0]) hq.ok Try.sizeSession rfl (SE.sv_one _ _ _ _ _ _ _ rfl rfl rfl rfl)) ⟨hSz, ?_⟩
              refine wpAnyH_done (by kernel_rfl) ⟨rfl, a1, k1, a2, k2, q3, ?_, hdd, ⟨hSz, hq3, hq4, SE.own_set own1 hn1, SE.own_set own2 hn2⟩⟩ _
              rw [HA.out]
              simp only [Act.put, List.setIfInBounds_toArray, List.set_cons_succ, List.set_cons_zero]
              try rfl
            · skip
              refine MR.nowW (some 3) (.pointer (some ⟨w14.heap.size, 0, none⟩)) rfl rfl (MR.free rfl) (MR.ex_alloc _ rfl (SE.sv ⟨#[]⟩ (.slice none 0 0) (.slice none 0 0) ⟨#[]⟩ false (.slice none 0 0) (.slice none 0 0)) 7 Try.infoSession) ?_
              have hb : Below w14.heap.size w14 (w14.alloc (.cells (SE.sv ⟨#[]⟩ (.slice none 0 0) (.slice none 0 0) ⟨#[]⟩ false (.slice none 0 0) (.slice none 0 0)).toArray 43)) := (Below.refl _ w14).alloc (Nat.le_refl _) _
              have hS17 : Below w0.heap.size w0 (w14.alloc (.cells (SE.sv ⟨#[]⟩ (.slice none 0 0) (.slice none 0 0) ⟨#[]⟩ false (.slice none 0 0) (.slice none 0 0)).toArray 43)) := hS14.trans (hb.mono hS14.size)
              have hq : MA.Rg (w14.alloc (.cells (SE.sv ⟨#[]⟩ (.slice none 0 0) (.slice none 0 0) ⟨#[]⟩ false (.slice none 0 0) (.slice none 0 0)).toArray 43)) w14.heap.size 0 (SE.sv ⟨#[]⟩ (.slice none 0 0) (.slice none 0 0) ⟨#[]⟩ false (.slice none 0 0) (.slice none 0 0)) := MA.Rg.new _ _ _
              have hq3 : w0.heap.size ≤ w14.heap.size := hS14.size
              have hn1 : ∀ g, a1 = some ⟨g, 0, none⟩ → g ≠ w14.heap.size := fun g hg he => by have h1 := (SE.own_lt own1 hg).2; omega
              replace own1 := MP.own_below own1 hb
              have hn2 : ∀ g, a2 = some ⟨g, 0, none⟩ → g ≠ w14.heap.size := fun g hg he => by have h1 := (SE.own_lt own2 hg).2; omega
              replace own2 := MP.own_below own2 hb
              refine ⟨hS17, ?_⟩
              obtain ⟨q3, hq3e⟩ : ∃ q3, q3 = w14.heap.size := ⟨_, rfl⟩
              rw [← hq3e] at hq hq3 hn1 hn2 ⊢
              obtain ⟨wa, hwa⟩ : ∃ wa, wa = (w14.alloc (.cells (SE.sv ⟨#[]⟩ (.slice none 0 0) (.slice none 0 0) ⟨#[]⟩ false (.slice none 0 0) (.slice none 0 0)).toArray 43)) := ⟨_, rfl⟩
              rw [← hwa] at hq own1 own2 hS17 ⊢
              clear hb hwa hq3e
              refine MR.callH (i := 20) (some 28) (95) (#[.pointer (some ⟨k, 0, none⟩)]) (by kernel_rfl) rfl rfl (MR.free rfl) (by simp [execOp, MR.ev, MR.size, hsz, e0, f0, go_sem]) ?_
              refine (DN.out _ (HT.out.below hS17)).mono ?_
              rintro e w18 ⟨rfl, hb⟩
              have hS18 : Below w0.heap.size w0 w18 := hS17.trans (hb.mono hS17.size)
              replace own1 := MP.own_below own1 hb
              replace own2 := MP.own_below own2 hb
              replace hq := hq.below hb hq.lt
              clear hb
              refine ⟨_, rfl, hS18, ?_⟩
              refine MR.takeH (i := 21) (some 29) (.agg (SE.sv b (.slice a1 (SE.many b) k1) (.slice a2 (SE.many b) k2) y D (.slice none 0 0) (.slice none 0 0)).toArray) rfl rfl (by kernel_rfl) (by kernel_rfl) (by kernel_rfl) nofun hS18 (MR.free rfl) (fun wq hw => by simp [execOp, MR.ev, MR.size, hsz, e0, f0, SE.sv, go_sem]) ?_
              have hq4 := hq.put (vs := SE.sv b (.slice a1 (SE.many b) k1) (.slice a2 (SE.many b) k2) y D (.slice none 0 0) (.slice none 0 0)) rfl
              have hSz : Below w0.heap.size w0 (w18.setCells q3 0 (SE.sv b (.slice a1 (SE.many b) k1) (.slice a2 (SE.many b) k2) y D (.slice none 0 0) (.slice none 0 0))) := MA.below_cells hq3 _ _ _ hS18
              refine MR.storeH (i := 23) (by kernel_rfl) rfl (MR.free rfl) (MA.ex_store (vs := SE.sv b (.slice a1 (SE.many b) k1) (.slice a2 (SE.many b) k2) y D (.slice none 0 0) (.slice none 0 0)) rfl (by simp [MR.ev, MR.size, hsz, e0, f0]) (by simp [MR.ev, MR.size, hsz, e0, f0]) hq.ok Try.sizeSession rfl (SE.sv_one _ _ _ _ _ _ _ rfl rfl rfl rfl)) ⟨hSz, ?_⟩
              refine wpAnyH_done (by kernel_rfl) ⟨rfl, a1, k1, a2, k2, q3, ?_, hdd, ⟨hSz, hq3, hq4, SE.own_set own1 hn1, SE.own_set own2 hn2⟩⟩ _
              rw [HA.out]
              simp only [Act.put, List.setIfInBounds_toArray, List.set_cons_succ, List.set_cons_zero]
              try rfl
          · skip
            refine MR.nowW (some 3) (.pointer (some ⟨w13.heap.size, 0, none⟩)) rfl rfl (MR.free rfl) (MR.ex_alloc _ rfl (SE.sv ⟨#[]⟩ (.slice none 0 0) (.slice none 0 0) ⟨#[]⟩ false (.slice none 0 0) (.slice none 0 0)) 7 Try.infoSession) ?_
            have hb : Below w13.heap.size w13 (w13.alloc (.cells (SE.sv ⟨#[]⟩ (.slice none 0 0) (.slice none 0 0) ⟨#[]⟩ false (.slice none 0 0) (.slice none 0 0)).toArray 43)) := (Below.refl _ w13).alloc (Nat.le_refl _) _
            have hS19 : Below w0.heap.size w0 (w13.alloc (.cells (SE.sv ⟨#[]⟩ (.slice none 0 0) (.slice none 0 0) ⟨#[]⟩ false (.slice none 0 0) (.slice none 0 0)).toArray 43)) := hS13.trans (hb.mono hS13.size)
            have hq : MA.Rg (w13.alloc (.cells (SE.sv ⟨#[]⟩ (.slice none 0 0) (.slice none 0 0) ⟨#[]⟩ false (.slice none 0 0) (.slice none 0 0)).toArray 43)) w13.heap.size 0 (SE.sv ⟨#[]⟩ (.slice none 0 0) (.slice none 0 0) ⟨#[]⟩ false (.slice none 0 0) (.slice none 0 0)) := MA.Rg.new _ _ _
            have hq3 : w0.heap.size ≤ w13.heap.size := hS13.size
            have hn1 : ∀ g, a1 = some ⟨g, 0, none⟩ → g ≠ w13.heap.size := fun g hg he => by have h1 := (SE.own_lt own1 hg).2; omega
            replace own1 := MP.own_below own1 hb
            have hn2 : ∀ g, a2 = some ⟨g, 0, none⟩ → g ≠ w13.heap.size := fun g hg he => by have h1 := (SE.own_lt own2 hg).2; omega
            replace own2 := MP.own_below own2 hb
            refine ⟨hS19, ?_⟩
            obtain ⟨q3, hq3e⟩ : ∃ q3, q3 = w13.heap.size := ⟨_, rfl⟩
            rw [← hq3e] at hq hq3 hn1 hn2 ⊢
            obtain ⟨wa, hwa⟩ : ∃ wa, wa = (w13.alloc (.cells (SE.sv ⟨#[]⟩ (.slice none 0 0) (.slice none 0 0) ⟨#[]⟩ false (.slice none 0 0) (.slice none 0 0)).toArray 43)) := ⟨_, rfl⟩
            rw [← hwa] at hq own1 own2 hS19 ⊢
            clear hb hwa hq3e
            refine MR.callH (i := 18) (some 26) (78) (#[.pointer (some ⟨k, 0, none⟩)]) (by kernel_rfl) rfl rfl (MR.free rfl) (by simp [execOp, MR.ev, MR.size, hsz, e0, f0, go_sem]) ?_
            refine (BY.out _ (HT.out.below hS19)).mono ?_
            rintro e w20 ⟨rfl, hb⟩
            have hS20 : Below w0.heap.size w0 w20 := hS19.trans (hb.mono hS19.size)
            replace own1 := MP.own_below own1 hb
            replace own2 := MP.own_below own2 hb
            replace hq := hq.below hb hq.lt
            clear hb
            refine ⟨_, rfl, hS20, ?_⟩
            refine MR.callH (i := 20) (some 28) (95) (#[.pointer (some ⟨k, 0, none⟩)]) (by kernel_rfl) rfl rfl (MR.free rfl) (by simp [execOp, MR.ev, MR.size, hsz, e0, f0, go_sem]) ?_
            refine (DN.out _ (HT.out.below hS20)).mono ?_
            rintro e w21 ⟨rfl, hb⟩
            have hS21 : Below w0.heap.size w0 w21 := hS20.trans (hb.mono hS20.size)
            replace own1 := MP.own_below own1 hb
            replace own2 := MP.own_below own2 hb
            replace hq := hq.below hb hq.lt
            clear hb
            refine ⟨_, rfl, hS21, ?_⟩
            refine MR.takeH (i := 21) (some 29) (.agg (SE.sv b (.slice a1 (SE.many b) k1) (.slice a2 (SE.many b) k2) y D (.slice none 0 0) (.slice none 0 0)).toArray) rfl rfl (by kernel_rfl) (by kernel_rfl) (by kernel_rfl) nofun hS21 (MR.free rfl) (fun wq hw => by simp [execOp, MR.ev, MR.size, hsz, e0, f0, SE.sv, go_sem]) ?_
            have hq4 := hq.put (vs := SE.sv b (.slice a1 (SE.many b) k1) (.slice a2 (SE.many b) k2) y D (.slice none 0 0) (.slice none 0 0)) rfl
            have hSz : Below w0.heap.size w0 (w21.setCells q3 0 (SE.sv b (.slice a1 (SE.many b) k1) (.slice a2 (SE.many b) k2) y D (.slice none 0 0) (.slice none 0 0))) := MA.below_cells hq3 _ _ _ hS21
            refine MR.storeH (i := 23) (by kernel_rfl) rfl (MR.free rfl) (MA.ex_store (vs := SE.sv b (.slice a1 (SE.many b) k1) (.slice a2 (SE.many b) k2) y D (.slice none 0 0) (.slice none 0 0)) rfl (by simp [MR.ev, MR.size, hsz, e0, f0]) (by simp [MR.ev, MR.size, hsz, e0, f0]) hq.ok Try.sizeSession rfl (SE.sv_one _ _ _ _ _ _ _ rfl rfl rfl rfl)) ⟨hSz, ?_⟩
            refine wpAnyH_done (by kernel_rfl) ⟨rfl, a1, k1, a2, k2, q3, ?_, hdd, ⟨hSz, hq3, hq4, SE.own_set own1 hn1, SE.own_set own2 hn2⟩⟩ _
            rw [HA.out]
            simp only [Act.put, List.setIfInBounds_toArray, List.set_cons_succ, List.set_cons_zero]
            try rfl
        · skip
          refine MR.nowW (some 3) (.pointer (some ⟨w12.heap.size, 0, none⟩)) rfl rfl (MR.free rfl) (MR.ex_alloc _ rfl (SE.sv ⟨#[]⟩ (.slice none 0 0) (.slice none 0 0) ⟨#[]⟩ false (.slice none 0 0) (.slice none 0 0)) 7 Try.infoSession) ?_
          have hb : Below w12.heap.size w12 (w12.alloc (.cells (SE.sv ⟨#[]⟩ (.slice none 0 0) (.slice none 0 0) ⟨#[]⟩ false (.slice none 0 0) (.slice none 0 0)).toArray 43)) := (Below.refl _ w12).alloc (Nat.le_refl _) _
          have hS22 : Below w0.heap.size w0 (w12.alloc (.cells (SE.sv ⟨#[]⟩ (.slice none 0 0) (.slice none 0 0) ⟨#[]⟩ false (.slice none 0 0) (.slice none 0 0)).toArray 43)) := hS12.trans (hb.mono hS12.size)
          have hq : MA.Rg (w12.alloc (.cells (SE.sv ⟨#[]⟩ (.slice none 0 0) (.slice none 0 0) ⟨#[]⟩ false (.slice none 0 0) (.slice none 0 0)).toArray 43)) w12.heap.size 0 (SE.sv ⟨#[]⟩ (.slice none 0 0) (.slice none 0 0) ⟨#[]⟩ false (.slice none 0 0) (.slice none 0 0)) := MA.Rg.new _ _ _
          have hq3 : w0.heap.size ≤ w12.heap.size := hS12.size
          have hn1 : ∀ g, a1 = some ⟨g, 0, none⟩ → g ≠ w12.heap.size := fun g hg he => by have h1 := (SE.own_lt own1 hg).2; omega
          replace own1 := MP.own_below own1 hb
          refine ⟨hS22, ?_⟩
          obtain ⟨q3, hq3e⟩ : ∃ q3, q3 = w12.heap.size := ⟨_, rfl⟩
          rw [← hq3e] at hq hq3 hn1 ⊢
          obtain ⟨wa, hwa⟩ : ∃ wa, wa = (w12.alloc (.cells (SE.sv ⟨#[]⟩ (.slice none 0 0) (.slice none 0 0) ⟨#[]⟩ false (.slice none 0 0) (.slice none 0 0)).toArray 43)) := ⟨_, rfl⟩
          rw [← hwa] at hq own1 hS22 ⊢
          clear hb hwa hq3e
          refine MR.callH (i := 16) (some 24) (94) (#[.pointer (some ⟨k, 0, none⟩), .agg (SE.t5 g).toArray]) (by kernel_rfl) rfl rfl (MR.free rfl) (by simp [execOp, MR.ev, MR.size, hsz, e0, f0, go_sem]) ?_
          refine (LG.out _ (HT.out.below hS22)).mono ?_
          rintro e w23 ⟨a2, k2, rfl, own2, hb⟩
          have hS23 : Below w0.heap.size w0 w23 := hS22.trans (hb.mono hS22.size)
          have hn2 : ∀ g, a2 = some ⟨g, 0, none⟩ → g ≠ q3 := fun g hg he => by have h1 := (SE.own_lt own2 hg).1; have h2 := hq.lt; omega
          have hdd : ∀ x x', a1 = some ⟨x, 0, none⟩ → a2 = some ⟨x', 0, none⟩ → x ≠ x' := fun x x' h h' he => by have h1 := (SE.own_lt own1 h).2; have h2 := (SE.own_lt own2 h').1; omega
          replace own2 : w23.ownsRow w0.heap.size 4 1 (.slice a2 (SE.many b) k2) (SE.many b) (SE.bl ((List.range (SE.many b)).map g)) := CB.own_mono own2 hS22.size
          replace own1 := MP.own_below own1 hb
          replace hq := hq.below hb hq.lt
          clear hb
          refine ⟨_, rfl, hS23, ?_⟩
          refine MR.callH (i := 18) (some 26) (78) (#[.pointer (some ⟨k, 0, none⟩)]) (by kernel_rfl) rfl rfl (MR.free rfl) (by simp [execOp, MR.ev, MR.size, hsz, e0, f0, go_sem]) ?_
          refine (BY.out _ (HT.out.below hS23)).mono ?_
          rintro e w24 ⟨rfl, hb⟩
          have hS24 : Below w0.heap.size w0 w24 := hS23.trans (hb.mono hS23.size)
          replace own1 := MP.own_below own1 hb
          replace own2 := MP.own_below own2 hb
          replace hq := hq.below hb hq.lt
          clear hb
          refine ⟨_, rfl, hS24, ?_⟩
          refine MR.callH (i := 20) (some 28) (95) (#[.pointer (some ⟨k, 0, none⟩)]) (by kernel_rfl) rfl rfl (MR.free rfl) (by simp [execOp, MR.ev, MR.size, hsz, e0, f0, go_sem]) ?_
          refine (DN.out _ (HT.out.below hS24)).mono ?_
          rintro e w25 ⟨rfl, hb⟩
          have hS25 : Below w0.heap.size w0 w25 := hS24.trans (hb.mono hS24.size)
          replace own1 := MP.own_below own1 hb
          replace own2 := MP.own_below own2 hb
          replace hq := hq.below hb hq.lt
          clear hb
          refine ⟨_, rfl, hS25, ?_⟩
          refine MR.takeH (i := 21) (some 29) (.agg (SE.sv b (.slice a1 (SE.many b) k1) (.slice a2 (SE.many b) k2) y D (.slice none 0 0) (.slice none 0 0)).toArray) rfl rfl (by kernel_rfl) (by kernel_rfl) (by kernel_rfl) nofun hS25 (MR.free rfl) (fun wq hw => by simp [execOp, MR.ev, MR.size, hsz, e0, f0, SE.sv, go_sem]) ?_
          have hq4 := hq.put (vs := SE.sv b (.slice a1 (SE.many b) k1) (.slice a2 (SE.many b) k2) y D (.slice none 0 0) (.slice none 0 0)) rfl
          have hSz : Below w0.heap.size w0 (w25.setCells q3 0 (SE.sv b (.slice a1 (SE.many b) k1) (.slice a2 (SE.many b) k2) y D (.slice none 0 0) (.slice none 0 0))) := MA.below_cells hq3 _ _ _ hS25
          refine MR.storeH (i := 23) (by kernel_rfl) rfl (MR.free rfl) (MA.ex_store (vs := SE.sv b (.slice a1 (SE.many b) k1) (.slice a2 (SE.many b) k2) y D (.slice none 0 0) (.slice none 0 0)) rfl (by simp [MR.ev, MR.size, hsz, e0, f0]) (by simp [MR.ev, MR.size, hsz, e0, f0]) hq.ok Try.sizeSession rfl (SE.sv_one _ _ _ _ _ _ _ rfl rfl rfl rfl)) ⟨hSz, ?_⟩
          refine wpAnyH_done (by kernel_rfl) ⟨rfl, a1, k1, a2, k2, q3, ?_, hdd, ⟨hSz, hq3, hq4, SE.own_set own1 hn1, SE.own_set own2 hn2⟩⟩ _
          rw [HA.out]
          simp only [Act.put, List.setIfInBounds_toArray, List.set_cons_succ, List.set_cons_zero]
          try rfl
      · skip
        refine MR.nowW (some 3) (.pointer (some ⟨w11.heap.size, 0, none⟩)) rfl rfl (MR.free rfl) (MR.ex_alloc _ rfl (SE.sv ⟨#[]⟩ (.slice none 0 0) (.slice none 0 0) ⟨#[]⟩ false (.slice none 0 0) (.slice none 0 0)) 7 Try.infoSession) ?_
        have hb : Below w11.heap.size w11 (w11.alloc (.cells (SE.sv ⟨#[]⟩ (.slice none 0 0) (.slice none 0 0) ⟨#[]⟩ false (.slice none 0 0) (.slice none 0 0)).toArray 43)) := (Below.refl _ w11).alloc (Nat.le_refl _) _
        have hS26 : Below w0.heap.size w0 (w11.alloc (.cells (SE.sv ⟨#[]⟩ (.slice none 0 0) (.slice none 0 0) ⟨#[]⟩ false (.slice none 0 0) (.slice none 0 0)).toArray 43)) := hS11.trans (hb.mono hS11.size)
        have hq : MA.Rg (w11.alloc (.cells (SE.sv ⟨#[]⟩ (.slice none 0 0) (.slice none 0 0) ⟨#[]⟩ false (.slice none 0 0) (.slice none 0 0)).toArray 43)) w11.heap.size 0 (SE.sv ⟨#[]⟩ (.slice none 0 0) (.slice none 0 0) ⟨#[]⟩ false (.slice none 0 0) (.slice none 0 0)) := MA.Rg.new _ _ _
        have hq3 : w0.heap.size ≤ w11.heap.size := hS11.size
        refine ⟨hS26, ?_⟩
        obtain ⟨q3, hq3e⟩ : ∃ q3, q3 = w11.heap.size := ⟨_, rfl⟩
        rw [← hq3e] at hq hq3 ⊢
        obtain ⟨wa, hwa⟩ : ∃ wa, wa = (w11.alloc (.cells (SE.sv ⟨#[]⟩ (.slice none 0 0) (.slice none 0 0) ⟨#[]⟩ false (.slice none 0 0) (.slice none 0 0)).toArray 43)) := ⟨_, rfl⟩
        rw [← hwa] at hq hS26 ⊢
        clear hb hwa hq3e
        refine MR.callH (i := 10) (some 18) (94) (#[.pointer (some ⟨k, 0, none⟩), .agg (SE.t5 f).toArray]) (by kernel_rfl) rfl rfl (MR.free rfl) (by simp [execOp, MR.ev, MR.size, hsz, e0, f0, go_sem]) ?_
        refine (LA.out _ (HT.out.below hS26)).mono ?_
        rintro e w27 ⟨a1, k1, rfl, own1, hb⟩
        have hS27 : Below w0.heap.size w0 w27 := hS26.trans (hb.mono hS26.size)
        have hn1 : ∀ g, a1 = some ⟨g, 0, none⟩ → g ≠ q3 := fun g hg he => by have h1 := (SE.own_lt own1 hg).1; have h2 := hq.lt; omega
        replace own1 : w27.ownsRow w0.heap.size 4 1 (.slice a1 (SE.many b) k1) (SE.many b) (SE.bl ((List.range (SE.many b)).map f)) := CB.own_mono own1 hS26.size
        replace hq := hq.below hb hq.lt
        clear hb
        refine ⟨_, rfl, hS27, ?_⟩
        refine MR.callH (i := 16) (some 24) (94) (#[.pointer (some ⟨k, 0, none⟩), .agg (SE.t5 g).toArray]) (by kernel_rfl) rfl rfl (MR.free rfl) (by simp [execOp, MR.ev, MR.size, hsz, e0, f0, go_sem]) ?_
        refine (LG.out _ (HT.out.below hS27)).mono ?_
        rintro e w28 ⟨a2, k2, rfl, own2, hb⟩
        have hS28 : Below w0.heap.size w0 w28 := hS27.trans (hb.mono hS27.size)
        have hn2 : ∀ g, a2 = some ⟨g, 0, none⟩ → g ≠ q3 := fun g hg he => by have h1 := (SE.own_lt own2 hg).1; have h2 := hq.lt; omega
        have hdd : ∀ x x', a1 = some ⟨x, 0, none⟩ → a2 = some ⟨x', 0, none⟩ → x ≠ x' := fun x x' h h' he => by have h1 := (SE.own_lt own1 h).2; have h2 := (SE.own_lt own2 h').1; omega
        replace own2 : w28.ownsRow w0.heap.size 4 1 (.slice a2 (SE.many b) k2) (SE.many b) (SE.bl ((List.range (SE.many b)).map g)) := CB.own_mono own2 hS27.size
        replace own1 := MP.own_below own1 hb
        replace hq := hq.below hb hq.lt
        clear hb
        refine ⟨_, rfl, hS28, ?_⟩
        refine MR.callH (i := 18) (some 26) (78) (#[.pointer (some ⟨k, 0, none⟩)]) (by kernel_rfl) rfl rfl (MR.free rfl) (by simp [execOp, MR.ev, MR.size, hsz, e0, f0, go_sem]) ?_
        refine (BY.out _ (HT.out.below hS28)).mono ?_
        rintro e w29 ⟨rfl, hb⟩
        have hS29 : Below w0.heap.size w0 w29 := hS28.trans (hb.mono hS28.size)
        replace own1 := MP.own_below own1 hb
        replace own2 := MP.own_below own2 hb
        replace hq := hq.below hb hq.lt
        clear hb
        refine ⟨_, rfl, hS29, ?_⟩
        refine MR.callH (i := 20) (some 28) (95) (#[.pointer (some ⟨k, 0, none⟩)]) (by kernel_rfl) rfl rfl (MR.free rfl) (by simp [execOp, MR.ev, MR.size, hsz, e0, f0, go_sem]) ?_
        refine (DN.out _ (HT.out.below hS29)).mono ?_
        rintro e w30 ⟨rfl, hb⟩
        have hS30 : Below w0.heap.size w0 w30 := hS29.trans (hb.mono hS29.size)
        replace own1 := MP.own_below own1 hb
        replace own2 := MP.own_below own2 hb
        replace hq := hq.below hb hq.lt
        clear hb
        refine ⟨_, rfl, hS30, ?_⟩
        refine MR.takeH (i := 21) (some 29) (.agg (SE.sv b (.slice a1 (SE.many b) k1) (.slice a2 (SE.many b) k2) y D (.slice none 0 0) (.slice none 0 0)).toArray) rfl rfl (by kernel_rfl) (by kernel_rfl) (by kernel_rfl) nofun hS30 (MR.free rfl) (fun wq hw => by simp [execOp, MR.ev, MR.size, hsz, e0, f0, SE.sv, go_sem]) ?_
        have hq4 := hq.put (vs := SE.sv b (.slice a1 (SE.many b) k1) (.slice a2 (SE.many b) k2) y D (.slice none 0 0) (.slice none 0 0)) rfl
        have hSz : Below w0.heap.size w0 (w30.setCells q3 0 (SE.sv b (.slice a1 (SE.many b) k1) (.slice a2 (SE.many b) k2) y D (.slice none 0 0) (.slice none 0 0))) := MA.below_cells hq3 _ _ _ hS30
        refine MR.storeH (i := 23) (by kernel_rfl) rfl (MR.free rfl) (MA.ex_store (vs := SE.sv b (.slice a1 (SE.many b) k1) (.slice a2 (SE.many b) k2) y D (.slice none 0 0) (.slice none 0 0)) rfl (by simp [MR.ev, MR.size, hsz, e0, f0]) (by simp [MR.ev, MR.size, hsz, e0, f0]) hq.ok Try.sizeSession rfl (SE.sv_one _ _ _ _ _ _ _ rfl rfl rfl rfl)) ⟨hSz, ?_⟩
        refine wpAnyH_done (by kernel_rfl) ⟨rfl, a1, k1, a2, k2, q3, ?_, hdd, ⟨hSz, hq3, hq4, SE.own_set own1 hn1, SE.own_set own2 hn2⟩⟩ _
        rw [HA.out]
        simp only [Act.put, List.setIfInBounds_toArray, List.set_cons_succ, List.set_cons_zero]
        try rfl
    · skip
      refine MR.nowW (some 3) (.pointer (some ⟨wd.heap.size, 0, none⟩)) rfl rfl (MR.free rfl) (MR.ex_alloc _ rfl (SE.sv ⟨#[]⟩ (.slice none 0 0) (.slice none 0 0) ⟨#[]⟩ false (.slice none 0 0) (.slice none 0 0)) 7 Try.infoSession) ?_
      have hb : Below wd.heap.size wd (wd.alloc (.cells (SE.sv ⟨#[]⟩ (.slice none 0 0) (.slice none 0 0) ⟨#[]⟩ false (.slice none 0 0) (.slice none 0 0)).toArray 43)) := (Below.refl _ wd).alloc (Nat.le_refl _) _
      have hS31 : Below w0.heap.size w0 (wd.alloc (.cells (SE.sv ⟨#[]⟩ (.slice none 0 0) (.slice none 0 0) ⟨#[]⟩ false (.slice none 0 0) (.slice none 0 0)).toArray 43)) := hS.trans (hb.mono hS.size)
      have hq : MA.Rg (wd.alloc (.cells (SE.sv ⟨#[]⟩ (.slice none 0 0) (.slice none 0 0) ⟨#[]⟩ false (.slice none 0 0) (.slice none 0 0)).toArray 43)) wd.heap.size 0 (SE.sv ⟨#[]⟩ (.slice none 0 0) (.slice none 0 0) ⟨#[]⟩ false (.slice none 0 0) (.slice none 0 0)) := MA.Rg.new _ _ _
      have hq3 : w0.heap.size ≤ wd.heap.size := hS.size
      refine ⟨hS31, ?_⟩
      obtain ⟨q3, hq3e⟩ : ∃ q3, q3 = wd.heap.size := ⟨_, rfl⟩
      rw [← hq3e] at hq hq3 ⊢
      obtain ⟨wa, hwa⟩ : ∃ wa, wa = (wd.alloc (.cells (SE.sv ⟨#[]⟩ (.slice none 0 0) (.slice none 0 0) ⟨#[]⟩ false (.slice none 0 0) (.slice none 0 0)).toArray 43)) := ⟨_, rfl⟩
      rw [← hwa] at hq hS31 ⊢
      clear hb hwa hq3e
      refine MR.callH (i := 4) (some 12) (93) (#[.string b]) (by kernel_rfl) rfl rfl (MR.free rfl) (by simp [execOp, MR.ev, MR.size, hsz, e0, f0, go_sem]) ?_
      refine (CL.out _).mono ?_
      rintro e w32 ⟨rfl, hb⟩
      have hS32 : Below w0.heap.size w0 w32 := hS31.trans (hb.mono hS31.size)
      replace hq := hq.below hb hq.lt
      clear hb
      refine ⟨_, rfl, hS32, ?_⟩
      refine MR.callH (i := 10) (some 18) (94) (#[.pointer (some ⟨k, 0, none⟩), .agg (SE.t5 f).toArray]) (by kernel_rfl) rfl rfl (MR.free rfl) (by simp [execOp, MR.ev, MR.size, hsz, e0, f0, go_sem]) ?_
      refine (LA.out _ (HT.out.below hS32)).mono ?_
      rintro e w33 ⟨a1, k1, rfl, own1, hb⟩
      have hS33 : Below w0.heap.size w0 w33 := hS32.trans (hb.mono hS32.size)
      have hn1 : ∀ g, a1 = some ⟨g, 0, none⟩ → g ≠ q3 := fun g hg he => by have h1 := (SE.own_lt own1 hg).1; have h2 := hq.lt; omega
      replace own1 : w33.ownsRow w0.heap.size 4 1 (.slice a1 (SE.many b) k1) (SE.many b) (SE.bl ((List.range (SE.many b)).map f)) := CB.own_mono own1 hS32.size
      replace hq := hq.below hb hq.lt
      clear hb
      refine ⟨_, rfl, hS33, ?_⟩
      refine MR.callH (i := 16) (some 24) (94) (#[.pointer (some ⟨k, 0, none⟩), .agg (SE.t5 g).toArray]) (by kernel_rfl) rfl rfl (MR.free rfl) (by simp [execOp, MR.ev, MR.size, hsz, e0, f0, go_sem]) ?_
      refine (LG.out _ (HT.out.below hS33)).mono ?_
      rintro e w34 ⟨a2, k2, rfl, own2, hb⟩
      have hS34 : Below w0.heap.size w0 w34 := hS33.trans (hb.mono hS33.size)
      have hn2 : ∀ g, a2 = some ⟨g, 0, none⟩ → g ≠ q3 := fun g hg he => by have h1 := (SE.own_lt own2 hg).1; have h2 := hq.lt; omega
      have hdd : ∀ x x', a1 = some ⟨x, 0, none⟩ → a2 = some ⟨x', 0, none⟩ → x ≠ x' := fun x x' h h' he => by have h1 := (SE.own_lt own1 h).2; have h2 := (SE.own_lt own2 h').1; omega
      replace own2 : w34.ownsRow w0.heap.size 4 1 (.slice a2 (SE.many b) k2) (SE.many b) (SE.bl ((List.range (SE.many b)).map g)) := CB.own_mono own2 hS33.size
      replace own1 := MP.own_below own1 hb
      replace hq := hq.below hb hq.lt
      clear hb
      refine ⟨_, rfl, hS34, ?_⟩
      refine MR.callH (i := 18) (some 26) (78) (#[.pointer (some ⟨k, 0, none⟩)]) (by kernel_rfl) rfl rfl (MR.free rfl) (by simp [execOp, MR.ev, MR.size, hsz, e0, f0, go_sem]) ?_
      refine (BY.out _ (HT.out.below hS34)).mono ?_
      rintro e w35 ⟨rfl, hb⟩
      have hS35 : Below w0.heap.size w0 w35 := hS34.trans (hb.mono hS34.size)
      replace own1 := MP.own_below own1 hb
      replace own2 := MP.own_below own2 hb
      replace hq := hq.below hb hq.lt
      clear hb
      refine ⟨_, rfl, hS35, ?_⟩
      refine MR.callH (i := 20) (some 28) (95) (#[.pointer (some ⟨k, 0, none⟩)]) (by kernel_rfl) rfl rfl (MR.free rfl) (by simp [execOp, MR.ev, MR.size, hsz, e0, f0, go_sem]) ?_
      refine (DN.out _ (HT.out.below hS35)).mono ?_
      rintro e w36 ⟨rfl, hb⟩
      have hS36 : Below w0.heap.size w0 w36 := hS35.trans (hb.mono hS35.size)
      replace own1 := MP.own_below own1 hb
      replace own2 := MP.own_below own2 hb
      replace hq := hq.below hb hq.lt
      clear hb
      refine ⟨_, rfl, hS36, ?_⟩
      refine MR.takeH (i := 21) (some 29) (.agg (SE.sv b (.slice a1 (SE.many b) k1) (.slice a2 (SE.many b) k2) y D (.slice none 0 0) (.slice none 0 0)).toArray) rfl rfl (by kernel_rfl) (by kernel_rfl) (by kernel_rfl) nofun hS36 (MR.free rfl) (fun wq hw => by simp [execOp, MR.ev, MR.size, hsz, e0, f0, SE.sv, go_sem]) ?_
      have hq4 := hq.put (vs := SE.sv b (.slice a1 (SE.many b) k1) (.slice a2 (SE.many b) k2) y D (.slice none 0 0) (.slice none 0 0)) rfl
      have hSz : Below w0.heap.size w0 (w36.setCells q3 0 (SE.sv b (.slice a1 (SE.many b) k1) (.slice a2 (SE.many b) k2) y D (.slice none 0 0) (.slice none 0 0))) := MA.below_cells hq3 _ _ _ hS36
      refine MR.storeH (i := 23) (by kernel_rfl) rfl (MR.free rfl) (MA.ex_store (vs := SE.sv b (.slice a1 (SE.many b) k1) (.slice a2 (SE.many b) k2) y D (.slice none 0 0) (.slice none 0 0)) rfl (by simp [MR.ev, MR.size, hsz, e0, f0]) (by simp [MR.ev, MR.size, hsz, e0, f0]) hq.ok Try.sizeSession rfl (SE.sv_one _ _ _ _ _ _ _ rfl rfl rfl rfl)) ⟨hSz, ?_⟩
      refine wpAnyH_done (by kernel_rfl) ⟨rfl, a1, k1, a2, k2, q3, ?_, hdd, ⟨hSz, hq3, hq4, SE.own_set own1 hn1, SE.own_set own2 hn2⟩⟩ _
      rw [HA.out]
      simp only [Act.put, List.setIfInBounds_toArray, List.set_cons_succ, List.set_cons_zero]
      try rfl
  · rintro a w1 ⟨a1, k1, a2, k2, q3, rfl, hdd, HF⟩
    have HDD : Hid (∀ x x', a1 = some ⟨x, 0, none⟩ → a2 = some ⟨x', 0, none⟩ → x ≠ x') := hdd
    clear hdd
    have HT1 : Hid (SE.Tk w1 k b f g p q #[] #[]) := HT.out.below HF.out.1
    have c11 := HT1.out.c11
    clear CL LA LG BY DN HT
    go_wp2_with fail
    refine (RA.out _ HT1.out).mono ?_
    rintro e w2 ⟨⟨a5, rfl⟩, hb2⟩
    have HT2 : Hid (SE.Tk w2 k b f g p q #[] #[]) := HT1.out.below hb2
    replace HF : Hid (Below w0.heap.size w0 w2 ∧ w0.heap.size ≤ q3 ∧ MA.Rg w2 q3 0 (SE.sv b (.slice a1 (SE.many b) k1) (.slice a2 (SE.many b) k2) y D (.slice none 0 0) (.slice none 0 0)) ∧ w2.ownsRow w0.heap.size 4 1 (.slice a1 (SE.many b) k1) (SE.many b) (SE.bl ((List.range (SE.many b)).map f)) ∧ w2.ownsRow w0.heap.size 4 1 (.slice a2 (SE.many b) k2) (SE.many b) (SE.bl ((List.range (SE.many b)).map g))) := ⟨HF.out.1.trans (hb2.mono HF.out.1.size), HF.out.2.1, HF.out.2.2.1.below hb2 HF.out.2.2.1.lt, MP.own_below HF.out.2.2.2.1 hb2, MP.own_below HF.out.2.2.2.2 hb2⟩
    clear HT1 c11 RA hb2
    have c12 := HT2.out.c12
    go_wp2
    go_loopw [5, 36] (fun _ iv wr => iv = .int .i64 0 ∧ Hid (w2 = wr)) (fun _ _ _ => 0)
    case atStart => exact ⟨rfl, rfl⟩
    case round =>
      obtain ⟨rfl, HW⟩ := hrel
      obtain rfl := HW.out
      clear HW
      go_wp2_with fail
      refine (RB.out _ HT2.out).mono ?_
      rintro e w3 ⟨⟨a6, rfl⟩, hb3⟩
      replace HF : Hid (Below w0.heap.size w0 w3 ∧ w0.heap.size ≤ q3 ∧ MA.Rg w3 q3 0 (SE.sv b (.slice a1 (SE.many b) k1) (.slice a2 (SE.many b) k2) y D (.slice none 0 0) (.slice none 0 0)) ∧ w3.ownsRow w0.heap.size 4 1 (.slice a1 (SE.many b) k1) (SE.many b) (SE.bl ((List.range (SE.many b)).map f)) ∧ w3.ownsRow w0.heap.size 4 1 (.slice a2 (SE.many b) k2) (SE.many b) (SE.bl ((List.range (SE.many b)).map g))) := ⟨HF.out.1.trans (hb3.mono HF.out.1.size), HF.out.2.1, HF.out.2.2.1.below hb3 HF.out.2.2.1.lt, MP.own_below HF.out.2.2.2.1 hb3, MP.own_below HF.out.2.2.2.2 hb3⟩
      clear c12 HT2 RB hb3
      go_wp2
      go_loopw [7, 55] (fun _ iv wr => iv = .int .i64 0 ∧ Hid (w3 = wr)) (fun _ _ _ => 0)
      case atStart => exact ⟨rfl, rfl⟩
      case round =>
        obtain ⟨rfl, HW⟩ := hrel
        obtain rfl := HW.out
        clear HW
        have hRS := HF.out.2.2.1
        have hR0 := HR.out.1.below HF.out.1 HR.out.1.lt
        have HS : Hid (MA.Rg (w3.setCells w.heap.size 0 (SE.sv b (.slice a1 (SE.many b) k1) (.slice a2 (SE.many b) k2) y D (.slice none 0 0) (.slice none 0 0))) w.heap.size 0 (SE.sv b (.slice a1 (SE.many b) k1) (.slice a2 (SE.many b) k2) y D (.slice none 0 0) (.slice none 0 0)) ∧ Below w.heap.size w (w3.setCells w.heap.size 0 (SE.sv b (.slice a1 (SE.many b) k1) (.slice a2 (SE.many b) k2) y D (.slice none 0 0) (.slice none 0 0))) ∧ (w3.setCells w.heap.size 0 (SE.sv b (.slice a1 (SE.many b) k1) (.slice a2 (SE.many b) k2) y D (.slice none 0 0) (.slice none 0 0))).ownsRow w.heap.size 4 1 (.slice a1 (SE.many b) k1) (SE.many b) (SE.bl ((List.range (SE.many b)).map f)) ∧ (w3.setCells w.heap.size 0 (SE.sv b (.slice a1 (SE.many b) k1) (.slice a2 (SE.many b) k2) y D (.slice none 0 0) (.slice none 0 0))).ownsRow w.heap.size 4 1 (.slice a2 (SE.many b) k2) (SE.many b) (SE.bl ((List.range (SE.many b)).map g))) := ⟨hR0.put rfl, MA.below_cells (Nat.le_refl _) _ _ _ (HR.out.2.trans (HF.out.1.mono HR.out.2.size)), SE.own_set (CB.own_mono HF.out.2.2.2.1 HR.out.2.size) (fun x hx he => by have h1 := (SE.own_lt HF.out.2.2.2.1 hx).1; have h2 := HR.out.1.lt; omega), SE.own_set (CB.own_mono HF.out.2.2.2.2 HR.out.2.size) (fun x hx he => by have h1 := (SE.own_lt HF.out.2.2.2.2 hx).1; have h2 := HR.out.1.lt; omega)⟩
        have HRS : Hid _ := hRS.rng
        have HR0 : Hid _ := hR0
        clear hRS hR0 HF HR
        go_wp2_with (first
          | (refine MA.load_r rfl 43 _ rfl rfl (cs := SE.sv b (.slice a1 (SE.many b) k1) (.slice a2 (SE.many b) k2) y D (.slice none 0 0) (.slice none 0 0)) ?_ Try.underlying43 rfl Try.sizeSession rfl ?_; exact HRS.out)
          | (refine MA.store_m rfl 43 _ _ rfl rfl rfl (vs := SE.sv b (.slice a1 (SE.many b) k1) (.slice a2 (SE.many b) k2) y D (.slice none 0 0) (.slice none 0 0)) (cs := SE.sv ⟨#[]⟩ (.slice none 0 0) (.slice none 0 0) ⟨#[]⟩ false (.slice none 0 0) (.slice none 0 0)) ?_ Try.sizeSession rfl rfl (SE.sv_one _ _ _ _ _ _ _ rfl rfl rfl rfl) ?_; exact HR0.out))
        exact bodyPost_ret (MA.ret_cell rfl rfl (MA.load_rg HS.out.1 Try.underlying43 rfl Try.sizeSession rfl)) rfl ⟨a1, k1, a2, k2, rfl, HS.out.2.2.1, HS.out.2.2.2, HDD.out, HS.out.2.1⟩
end Go.Proofs.Ytjlombnjmpejjaa
