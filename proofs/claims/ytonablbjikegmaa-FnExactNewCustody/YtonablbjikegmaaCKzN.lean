/- NewCustody, the program's and the specification's. -/
import Derived.Test.YtonablbjikegmaaRows
import Derived.Test.YtonablbjikegmaaMKz
import Derived.Test.YtonablbjikegmaaCTrI
import Derived.Test.YtonablbjikegmaaCTrS
import Derived.Test.YtonablbjikegmaaCCloneI
import Derived.Test.YtonablbjikegmaaMInfo
import Derived.Test.YtonablbjikegmaaMRA
import Derived.Test.YtonablbjikegmaaMRP
import Derived.WalkKit
import Derived.WalkSpells
import Derived.WalkLawsBesides
import Derived.Outline
namespace Go.Proofs.Ytonablbjikegmaa
open Go.RowKit
theorem Try.infoKeeper : (Try.prog.info? 47).map (fun i => (i.zero, i.size, i.bytes)) = some (some (.agg #[.slice none 0 0, .slice none 0 0, .slice none 0 0]), 3, 72) := by kernel_rfl
theorem Try.sizeCus : (Try.prog.info? 26).map (·.size) = some 4 := by kernel_rfl
theorem Try.infoCus : (Try.prog.info? 26).map (fun i => (i.zero, i.size)) = some (some (.agg (([.slice none 0 0, .slice none 0 0, .slice none 0 0, .slice none 0 0] : List Value)).toArray), 4) := by kernel_rfl
namespace CU
/-- What a call that makes a new custody leaves, its answer's box among it. -/
structure Mk (W w : World) (b gu cu gk : Nat) (L : List Int) : Prop where
  nw : Nw w W.heap.size gu cu gk L
  below : Below W.heap.size W w
  rg : MA.Rg w b 0 [.slice (some ⟨gu, 0, none⟩) L.length cu, .slice (some ⟨gk, 0, none⟩) L.length L.length, .slice none 0 0, .slice none 0 0]
theorem own_ne {w : World} {b b' e e' sz sz' n n' g g' c c' : Nat} {xs xs' : List Value} (h : w.ownsRow b e sz (.slice (some ⟨g, 0, none⟩) n c) n xs) (h' : w.ownsRow b' e' sz' (.slice (some ⟨g', 0, none⟩) n' c') n' xs') (hT : e ≠ e') : g ≠ g' := by
  rintro rfl
  rcases h.2 with ⟨hn, -⟩ | ⟨g1, cap, cur, hv, _, hg, _⟩
  · cases hn
  · rcases h'.2 with ⟨hn, -⟩ | ⟨g2, cap2, cur2, hv2, _, hg2, _⟩
    · cases hn
    · cases hv
      cases hv2
      rw [hg] at hg2
      simp only [Option.some.injEq, Obj.cells.injEq] at hg2
      exact hT hg2.2.1
theorem own_slice {w : World} {base e sz n : Nat} {v : Value} {xs : List Value} (h : w.ownsRow base e sz v n xs) (hn : 0 < n) : ∃ g c, v = .slice (some ⟨g, 0, none⟩) n c := by
  rcases h.2 with ⟨_, h'⟩ | ⟨g, cap, cur, hv, _⟩
  · omega
  · exact ⟨g, cap, hv⟩
theorem iv_one (l : List Int) : ∀ u, u ∈ M4.iv l → u.oneCell' = true := by intro u hu; simp only [M4.iv, List.mem_map] at hu; obtain ⟨z, _, rfl⟩ := hu; rfl
theorem own_grown {w w' : World} {b e sz n g c : Nat} {xs : List Value} {row : Option Nat} (h : w.ownsRow b e sz (.slice (some ⟨g, 0, none⟩) n c) n xs) (hg : w.grownBy w' row) (hne : some g ≠ row) : w'.ownsRow b e sz (.slice (some ⟨g, 0, none⟩) n c) n xs := by
  refine ⟨h.1, ?_⟩
  rcases h.2 with ⟨hn, -⟩ | ⟨g1, cap, cur, hv, hb, hgg, rest⟩
  · cases hn
  · cases hv
    exact .inr ⟨g, c, cur, rfl, hb, (hg.block g (Array.getElem?_eq_some_iff.1 hgg).1 hne).trans hgg, rest⟩
theorem mk_of {T : TypeId} {W w : World} {b gu cu gk : Nat} {L : List Int} (hrg : MA.Rg w b 0 [.slice none 0 0, .slice none 0 0, .slice none 0 0, .slice none 0 0]) (hown : w.ownsRow W.heap.size 3 1 (.slice (some ⟨gu, 0, none⟩) L.length cu) L.length (M4.iv L)) (hk : w.ownsRow W.heap.size T 3 (.slice (some ⟨gk, 0, none⟩) L.length L.length) L.length (List.replicate (L.length * 3) (.slice none 0 0))) (hT : T ≠ 3) (hbu : gu ≠ b) (hbk : gk ≠ b) (hB : W.heap.size ≤ b) (hb : Below W.heap.size W w) :
    Mk W (w.setCells b 0 [.slice (some ⟨gu, 0, none⟩) L.length cu, .slice (some ⟨gk, 0, none⟩) L.length L.length, .slice none 0 0, .slice none 0 0]) b gu cu gk L := by
  have hO := RA.only_cells b [.slice (some ⟨gu, 0, none⟩) L.length cu, .slice (some ⟨gk, 0, none⟩) L.length L.length, .slice none 0 0, .slice none 0 0] 0 w
  exact ⟨⟨own_only hown hO hbu, (KZ.of_own hk).only hO hbk, (own_lt hk).1, own_ne hown hk (fun e => hT e.symm)⟩, MA.below_cells hB _ 0 w hb, hrg.put rfl⟩
end CU
set_option maxHeartbeats 1600000 in
set_option maxRecDepth 100000 in
theorem newCusI_no (a : Option Addr) (ca : Nat) (xs : List Int) (w : World) (hz : xs.length ≤ 1048576) (hin : M4.IntsAt w a xs) (ht : TR.tree xs = false) :
    Calls Try.prog 7 #[.slice a xs.length ca] w fun e w' => e = .returned (.tuple #[.agg #[.slice none 0 0, .slice none 0 0, .slice none 0 0, .slice none 0 0], .bool false]) ∧ Below w.heap.size w w' := by
  have hb0 : Below w.heap.size w (w.alloc (.cells #[.slice none 0 0, .slice none 0 0, .slice none 0 0, .slice none 0 0] 26)) := (Below.refl _ w).alloc (Nat.le_refl _) _
  have IT : Hid _ := isTree_any a ca xs _ hz (hin.below hb0)
  clear hin
  rw [ht] at IT
  go_enter Try.func7, Try.ntmps7
  go_wp2_with fail
  refine Calls.mono IT.out ?_
  rintro e w1 ⟨rfl, rfl⟩
  clear IT
  go_wp2
  exact bodyPost_ret (v := .tuple #[.agg #[.slice none 0 0, .slice none 0 0, .slice none 0 0, .slice none 0 0], .bool false]) (by simp [results, Try.results7, go_sem]) rfl ⟨rfl, hb0⟩
set_option linter.unusedSimpArgs false in
set_option maxHeartbeats 1600000 in
set_option maxRecDepth 100000 in
theorem newCusI_yes (g ca : Nat) (xs : List Int) (w : World) (hz : xs.length ≤ 1048576) (hin : M4.IntsAt w (some ⟨g, 0, none⟩) xs) (ht : TR.tree xs = true) :
    Calls Try.prog 7 #[.slice (some ⟨g, 0, none⟩) xs.length ca] w fun e w' => ∃ gu cu gk, e = .returned (.tuple #[CU.val gu cu gk xs.length, .bool true]) ∧ CU.Nw w' w.heap.size gu cu gk xs ∧ Below w.heap.size w w' := by
  obtain ⟨i0, hi, hz0, hz1, hz2⟩ := info_parts Try.info3
  obtain ⟨k0, ki, kz0, kz1, kz2⟩ := info_parts Try.infoKeeper
  have hl := ((TR.tree_iff xs).1 ht).1
  have hb0 : Below w.heap.size w (w.alloc (.cells #[.slice none 0 0, .slice none 0 0, .slice none 0 0, .slice none 0 0] 26)) := (Below.refl _ w).alloc (Nat.le_refl _) _
  have hr0 : MA.Rg (w.alloc (.cells #[.slice none 0 0, .slice none 0 0, .slice none 0 0, .slice none 0 0] 26)) w.heap.size 0 [.slice none 0 0, .slice none 0 0, .slice none 0 0, .slice none 0 0] := MA.Rg.new w [.slice none 0 0, .slice none 0 0, .slice none 0 0, .slice none 0 0] 26
  have IT : Hid _ := isTree_any (some ⟨g, 0, none⟩) ca xs _ hz (hin.below hb0)
  rw [ht] at IT
  have HIN : Hid (∀ W : World, Below w.heap.size w W → M4.IntsAt W (some ⟨g, 0, none⟩) xs) := fun W h => hin.below h
  have hg : g < w.heap.size := by
    obtain ⟨b, off, hbo, hlt, -⟩ := hin.at (k := 0) (by omega)
    cases hbo
    exact hlt
  have CL : Hid (∀ W : World, Below w.heap.size w W → Calls Try.prog 18 #[.slice (some ⟨g, 0, none⟩) xs.length ca] W fun e w' => ∃ a cap, e = .returned (.slice a xs.length cap) ∧ w'.ownsRow W.heap.size 3 1 (.slice a xs.length cap) xs.length (M4.iv xs) ∧ Below W.heap.size W w') := fun W hb => cloneI_any g xs.length ca xs W rfl hz (hin.below hb)
  clear hin ht
  have BLD : Hid True := trivial
  obtain ⟨n, hn⟩ : ∃ n, xs.length = n := ⟨_, rfl⟩
  have HN : Hid _ := hn
  have MZ : Hid ((madeCells (Value.cells (.agg #[.slice none 0 0, .slice none 0 0, .slice none 0 0])) (n * 3)).toList = List.replicate (n * 3) (.slice none 0 0)) := CU.made_zs n (by omega)
  have MKR : Hid (∀ (B : Nat) (W : World), B ≤ W.heap.size → ∃ w', (Instr.makeSlice 23 (.int .i64 (n : Int)) (.int .i64 (n : Int))).run Try.prog W = .ok (.slice (some ⟨W.heap.size, 0, none⟩) n n) w' ∧ w'.ownsRow B 47 3 (.slice (some ⟨W.heap.size, 0, none⟩) n n) n (List.replicate (n * 3) (.slice none 0 0)) ∧ W.grownBy w' none) := fun B W hB => by
    have := run_make_full (P := Try.prog) W B 23 47 k0 (.agg #[.slice none 0 0, .slice none 0 0, .slice none 0 0]) 3 Try.underlying23 ki kz0 kz1 .i64 .i64 n (by rw [kz2]; omega) (by unfold maxLen; omega) hB
    rw [MZ.out] at this
    exact this
  rw [hn] at hl IT ⊢ CL
  clear hn MZ kz0 kz1 kz2 ki hz
  go_enter Try.func7, Try.ntmps7
  go_wp2_with fail
  generalize w.alloc (.cells #[.slice none 0 0, .slice none 0 0, .slice none 0 0, .slice none 0 0] 26) = W at *
  refine Calls.mono IT.out ?_
  rintro e w1 ⟨rfl, rfl⟩
  clear IT
  go_wp2
  refine MR.frame fun A hA => ?_
  have hsz : A.tmps.size = 14 := by rw [hA]; rfl
  have e0 : A.eval (.tmp 0) = .slice (some ⟨g, 0, none⟩) n ca := by rw [hA]; rfl
  have f0 := MR.read (t := 0) (by rw [hsz]; decide) e0
  have e2 : A.eval (.tmp 2) = .pointer (some ⟨w.heap.size, 0, none⟩) := by rw [hA]; rfl
  have f2 := MR.read (t := 2) (by rw [hsz]; decide) e2
  have HA : Hid (A = _) := hA
  clear hA
  refine MR.cut (fun aa w' => ∃ gu cu gk : Nat, aa = (((((((A.put (some 8) (.slice (some ⟨g, 0, none⟩) n ca)).put (some 9) (.slice (some ⟨gu, 0, none⟩) n cu)).put (some 10) (.slice (some ⟨g, 0, none⟩) n ca)).put (some 11) (.int .i64 (n : Int))).put (some 12) (.slice (some ⟨gk, 0, none⟩) n n)).put (some 13) (.agg #[.slice (some ⟨gu, 0, none⟩) n cu, .slice (some ⟨gk, 0, none⟩) n n, .slice none 0 0, .slice none 0 0])).put (some 3) (.bool true)) ∧ Hid (CU.Mk w w' w.heap.size gu cu gk xs)) ?_ ?_
  · have hS : (fun w' : World => Below w.heap.size w w') (World.drew W) := hb0.drew
    refine wp_region_held (S := fun w' : World => Below w.heap.size w w') (by kernel_rfl) ?_
    change wpAnyH _ _ _ _ _ _ _ _ (World.drew W)
    refine MR.takeH (i := 0) (some 8) (.slice (some ⟨g, 0, none⟩) n ca) rfl rfl (by kernel_rfl) (by kernel_rfl) (by kernel_rfl) nofun hS (MR.free rfl) (fun wq hw => by simp [execOp, MR.ev, MR.size, hsz, e0, f0, e2, f2, go_sem]) ?_
    refine MR.takeH (i := 2) (some 10) (.slice (some ⟨g, 0, none⟩) n ca) rfl rfl (by kernel_rfl) (by kernel_rfl) (by kernel_rfl) nofun hS (MR.free rfl) (fun wq hw => by simp [execOp, MR.ev, MR.size, hsz, e0, f0, e2, f2, go_sem]) ?_
    refine MR.takeH (i := 3) (some 11) (.int .i64 (n : Int)) rfl rfl (by kernel_rfl) (by kernel_rfl) (by kernel_rfl) nofun hS (MR.free rfl) (fun wq hw => by simp [execOp, MR.ev, MR.size, hsz, e0, f0, e2, f2, go_sem]) ?_
    have hR := hr0.drew
    generalize hwd : World.drew W = v0 at hS hR ⊢
    clear hwd
    refine MR.two (i := 1) (j := 4) (by kernel_rfl) ?_ ?_
    · skip
      refine MR.callW (some 9) (18) (#[.slice (some ⟨g, 0, none⟩) n ca]) rfl rfl (MR.free rfl) (by simp [execOp, MR.ev, MR.size, hsz, e0, f0, e2, f2, go_sem]) ?_
      refine Calls.mono (CL.out _ hS) ?_
      rintro e v1 ⟨av, cu, rfl, hov1, hBv1⟩
      obtain ⟨gu, rfl⟩ : ∃ gu, av = some ⟨gu, 0, none⟩ := by
        rcases hov1.2 with ⟨_, h'⟩ | ⟨g, cap, cur, hv, _⟩
        · omega
        · cases hv; exact ⟨g, rfl⟩
      have hS1 : (fun w' : World => Below w.heap.size w w') v1 := hS.trans (hBv1.mono hS.size)
      have hR1 := hR.below hBv1 hR.1
      have hgu := CU.own_lt hov1
      refine ⟨_, rfl, hS1, ?_⟩
      obtain ⟨v2, hmv2, hov2, hgv2⟩ := MKR.out w.heap.size v1 hS1.size
      have hBv2 : Below v1.heap.size v1 v2 := (Below.refl _ v1).grown hgv2 (Nat.le_refl _) (fun k hk => by cases hk)
      have hS2 : (fun w' : World => Below w.heap.size w w') v2 := hS1.trans (hBv2.mono hS1.size)
      have hR2 := hR1.below hBv2 hR1.1
      have hkv2 := (CU.own_lt hov2).2
      refine MR.nowH (w' := v2) (i := 4) (some 12) (.slice (some ⟨v1.heap.size, 0, none⟩) n n) (by kernel_rfl) rfl rfl (MR.free rfl) (by simp [execOp, MR.ev, MR.size, hsz, e0, f0, e2, f2, hmv2, go_sem]) ⟨hS2, ?_⟩
      have hou := TR.own_mono (M5.own_below hov1 hBv2) hS.size
      have hw0 := hR.1
      have hw1 := hS1.size
      have hfin : CU.Mk w (v2.setCells w.heap.size 0 [.slice (some ⟨gu, 0, none⟩) n cu, .slice (some ⟨v1.heap.size, 0, none⟩) n n, .slice none 0 0, .slice none 0 0]) w.heap.size gu cu (v1.heap.size) xs := by
        have := CU.mk_of (T := 47) (W := w) (w := v2) (b := w.heap.size) (gu := gu) (cu := cu) (gk := v1.heap.size) (L := xs) hR2 (by rw [HN.out]; exact hou) (by rw [HN.out]; exact hov2) (by decide) (by omega) (by omega) (Nat.le_refl _) hS2
        rw [HN.out] at this
        exact this
      refine MR.takeH (i := 5) (some 13) (.agg #[.slice (some ⟨gu, 0, none⟩) n cu, .slice (some ⟨v1.heap.size, 0, none⟩) n n, .slice none 0 0, .slice none 0 0]) rfl rfl (by kernel_rfl) (by kernel_rfl) (by kernel_rfl) nofun hS2 (MR.free rfl) (fun wq hw => by simp [execOp, MR.ev, MR.size, hsz, e0, f0, e2, f2, BLD.out, go_sem]) ?_
      refine MR.storeH (i := 6) (by kernel_rfl) rfl (MR.free rfl) (MA.ex_store (vs := [.slice (some ⟨gu, 0, none⟩) n cu, .slice (some ⟨v1.heap.size, 0, none⟩) n n, .slice none 0 0, .slice none 0 0]) rfl (by simp [MR.ev, MR.size, hsz, e0, f0, e2, f2]) (by simp [MR.ev, MR.size, hsz, e0, f0, e2, f2]) hR2.ok Try.sizeCus rfl (by simp [Value.oneCell'])) ⟨hfin.below, ?_⟩
      refine MR.takeH (i := 7) (some 3) (.bool true) rfl rfl (by kernel_rfl) (by kernel_rfl) (by kernel_rfl) nofun hfin.below (MR.free rfl) (fun wq hw => by simp [execOp, MR.ev, MR.size, hsz, e0, f0, e2, f2, go_sem]) ?_
      refine wpAnyH_done (by kernel_rfl) ⟨rfl, gu, cu, v1.heap.size, ?_, hfin⟩ _
      simp [Act.put, Array.setIfInBounds_comm]
    · skip
      obtain ⟨v1, hmv1, hov1, hgv1⟩ := MKR.out w.heap.size v0 hS.size
      have hBv1 : Below v0.heap.size v0 v1 := (Below.refl _ v0).grown hgv1 (Nat.le_refl _) (fun k hk => by cases hk)
      have hS1 : (fun w' : World => Below w.heap.size w w') v1 := hS.trans (hBv1.mono hS.size)
      have hR1 := hR.below hBv1 hR.1
      have hkv1 := (CU.own_lt hov1).2
      refine MR.nowW (w' := v1) (some 12) (.slice (some ⟨v0.heap.size, 0, none⟩) n n) rfl rfl (MR.free rfl) (by simp [execOp, MR.ev, MR.size, hsz, e0, f0, e2, f2, hmv1, go_sem]) ⟨hS1, ?_⟩
      refine MR.callH (i := 1) (some 9) (18) (#[.slice (some ⟨g, 0, none⟩) n ca]) (by kernel_rfl) rfl rfl (MR.free rfl) (by simp [execOp, MR.ev, MR.size, hsz, e0, f0, e2, f2, go_sem]) ?_
      refine Calls.mono (CL.out _ hS1) ?_
      rintro e v2 ⟨av, cu, rfl, hov2, hBv2⟩
      obtain ⟨gu, rfl⟩ : ∃ gu, av = some ⟨gu, 0, none⟩ := by
        rcases hov2.2 with ⟨_, h'⟩ | ⟨g, cap, cur, hv, _⟩
        · omega
        · cases hv; exact ⟨g, rfl⟩
      have hS2 : (fun w' : World => Below w.heap.size w w') v2 := hS1.trans (hBv2.mono hS1.size)
      have hR2 := hR1.below hBv2 hR1.1
      have hgu := CU.own_lt hov2
      refine ⟨_, rfl, hS2, ?_⟩
      have hou := TR.own_mono hov2 hS1.size
      have hok := M5.own_below hov1 hBv2
      have hw0 := hR.1
      have hw1 := hS.size
      have hfin : CU.Mk w (v2.setCells w.heap.size 0 [.slice (some ⟨gu, 0, none⟩) n cu, .slice (some ⟨v0.heap.size, 0, none⟩) n n, .slice none 0 0, .slice none 0 0]) w.heap.size gu cu (v0.heap.size) xs := by
        have := CU.mk_of (T := 47) (W := w) (w := v2) (b := w.heap.size) (gu := gu) (cu := cu) (gk := v0.heap.size) (L := xs) hR2 (by rw [HN.out]; exact hou) (by rw [HN.out]; exact hok) (by decide) (by omega) (by omega) (Nat.le_refl _) hS2
        rw [HN.out] at this
        exact this
      refine MR.takeH (i := 5) (some 13) (.agg #[.slice (some ⟨gu, 0, none⟩) n cu, .slice (some ⟨v0.heap.size, 0, none⟩) n n, .slice none 0 0, .slice none 0 0]) rfl rfl (by kernel_rfl) (by kernel_rfl) (by kernel_rfl) nofun hS2 (MR.free rfl) (fun wq hw => by simp [execOp, MR.ev, MR.size, hsz, e0, f0, e2, f2, BLD.out, go_sem]) ?_
      refine MR.storeH (i := 6) (by kernel_rfl) rfl (MR.free rfl) (MA.ex_store (vs := [.slice (some ⟨gu, 0, none⟩) n cu, .slice (some ⟨v0.heap.size, 0, none⟩) n n, .slice none 0 0, .slice none 0 0]) rfl (by simp [MR.ev, MR.size, hsz, e0, f0, e2, f2]) (by simp [MR.ev, MR.size, hsz, e0, f0, e2, f2]) hR2.ok Try.sizeCus rfl (by simp [Value.oneCell'])) ⟨hfin.below, ?_⟩
      refine MR.takeH (i := 7) (some 3) (.bool true) rfl rfl (by kernel_rfl) (by kernel_rfl) (by kernel_rfl) nofun hfin.below (MR.free rfl) (fun wq hw => by simp [execOp, MR.ev, MR.size, hsz, e0, f0, e2, f2, go_sem]) ?_
      refine wpAnyH_done (by kernel_rfl) ⟨rfl, gu, cu, v0.heap.size, ?_, hfin⟩ _
      simp [Act.put, Array.setIfInBounds_comm]
  · rintro aa w5 ⟨gu, cu, gk, rfl, hf⟩
    rw [HA.out]
    clear HA hsz e0 f0 e2 f2
    simp only [Act.put, List.setIfInBounds_toArray, List.set_cons_succ, List.set_cons_zero]
    have r0 := hf.out.rg.cell (j := 0) (v := .slice (some ⟨gu, 0, none⟩) n cu) (by rw [HN.out]; rfl)
    have r1 := hf.out.rg.cell (j := 1) (v := .slice (some ⟨gk, 0, none⟩) n n) (by rw [HN.out]; rfl)
    have r2 := hf.out.rg.cell (j := 2) (v := .slice none 0 0) rfl
    have r3 := hf.out.rg.cell (j := 3) (v := .slice none 0 0) rfl
    rw [Nat.zero_add] at r0 r1 r2 r3
    go_wp2
    exact bodyPost_ret (v := .tuple #[CU.val gu cu gk n, .bool true]) (by simp [results, Try.results7, go_sem, r0, r1, r2, r3, CU.val]) rfl ⟨_, _, _, rfl, hf.out.nw, hf.out.below⟩
set_option maxHeartbeats 1600000 in
set_option maxRecDepth 100000 in
theorem newCusS_no (a : Option Addr) (ca : Nat) (xs : List Int) (w : World) (hz : xs.length ≤ 1048576) (hin : M4.IntsAt w a xs) (ht : TR.tree xs = false) :
    Calls Try.prog 5 #[.slice a xs.length ca] w fun e w' => e = .returned (.tuple #[.agg #[.slice none 0 0, .slice none 0 0, .slice none 0 0, .slice none 0 0], .bool false]) ∧ Below w.heap.size w w' := by
  have hb0 : Below w.heap.size w (w.alloc (.cells #[.slice none 0 0, .slice none 0 0, .slice none 0 0, .slice none 0 0] 26)) := (Below.refl _ w).alloc (Nat.le_refl _) _
  have IT : Hid _ := l16Tree_any a ca xs _ hz (hin.below hb0)
  clear hin
  rw [ht] at IT
  go_enter Try.func5, Try.ntmps5
  go_wp2_with fail
  refine Calls.mono IT.out ?_
  rintro e w1 ⟨rfl, rfl⟩
  clear IT
  go_wp2
  exact bodyPost_ret (v := .tuple #[.agg #[.slice none 0 0, .slice none 0 0, .slice none 0 0, .slice none 0 0], .bool false]) (by simp [results, Try.results5, go_sem]) rfl ⟨rfl, hb0⟩
set_option linter.unusedSimpArgs false in
set_option maxHeartbeats 1600000 in
set_option maxRecDepth 100000 in
theorem newCusS_yes (g ca : Nat) (xs : List Int) (w : World) (hz : xs.length ≤ 1048576) (hin : M4.IntsAt w (some ⟨g, 0, none⟩) xs) (ht : TR.tree xs = true) :
    Calls Try.prog 5 #[.slice (some ⟨g, 0, none⟩) xs.length ca] w fun e w' => ∃ gu cu gk, e = .returned (.tuple #[CU.val gu cu gk xs.length, .bool true]) ∧ CU.Nw w' w.heap.size gu cu gk xs ∧ Below w.heap.size w w' := by
  obtain ⟨i0, hi, hz0, hz1, hz2⟩ := info_parts Try.info3
  obtain ⟨k0, ki, kz0, kz1, kz2⟩ := info_parts Try.infoKeeper
  have hl := ((TR.tree_iff xs).1 ht).1
  have hb0 : Below w.heap.size w (w.alloc (.cells #[.slice none 0 0, .slice none 0 0, .slice none 0 0, .slice none 0 0] 26)) := (Below.refl _ w).alloc (Nat.le_refl _) _
  have hr0 : MA.Rg (w.alloc (.cells #[.slice none 0 0, .slice none 0 0, .slice none 0 0, .slice none 0 0] 26)) w.heap.size 0 [.slice none 0 0, .slice none 0 0, .slice none 0 0, .slice none 0 0] := MA.Rg.new w [.slice none 0 0, .slice none 0 0, .slice none 0 0, .slice none 0 0] 26
  have IT : Hid _ := l16Tree_any (some ⟨g, 0, none⟩) ca xs _ hz (hin.below hb0)
  rw [ht] at IT
  have HIN : Hid (∀ W : World, Below w.heap.size w W → M4.IntsAt W (some ⟨g, 0, none⟩) xs) := fun W h => hin.below h
  have hg : g < w.heap.size := by
    obtain ⟨b, off, hbo, hlt, -⟩ := hin.at (k := 0) (by omega)
    cases hbo
    exact hlt
  have HNW : Hid (∀ W : World, Below w.heap.size w W → ∀ (j : Nat) (u : Value), (M4.iv xs)[j]? = some u → W.cell? ((⟨g, 0, none⟩ : Addr).add j) = some u) := fun W hb j u hu => by
    have hjl : j < xs.length := by have := (List.getElem?_eq_some_iff.1 hu).1; simpa [M4.iv] using this
    obtain ⟨b6, off6, hb6, hlt6, hc6⟩ := M4.IntsAt.at (hin.below hb) (k := j) hjl
    simp only [Option.some.injEq, Addr.mk.injEq] at hb6
    obtain ⟨rfl, rfl, -⟩ := hb6
    rw [Addr.add_lit, Nat.zero_add] at *
    rw [hc6]
    rw [M4.iv_get _ _ _ (show xs[j]? = some (xs.getD j 0) by rw [List.getD_eq_getElem?_getD, List.getElem?_eq_getElem hjl]; rfl)] at hu; exact hu
  clear hin ht
  have BLD : Hid True := trivial
  obtain ⟨n, hn⟩ : ∃ n, xs.length = n := ⟨_, rfl⟩
  have HN : Hid _ := hn
  have MZ : Hid ((madeCells (Value.cells (.agg #[.slice none 0 0, .slice none 0 0, .slice none 0 0])) (n * 3)).toList = List.replicate (n * 3) (.slice none 0 0)) := CU.made_zs n (by omega)
  have MKR : Hid (∀ (B : Nat) (W : World), B ≤ W.heap.size → ∃ w', (Instr.makeSlice 23 (.int .i64 (n : Int)) (.int .i64 (n : Int))).run Try.prog W = .ok (.slice (some ⟨W.heap.size, 0, none⟩) n n) w' ∧ w'.ownsRow B 47 3 (.slice (some ⟨W.heap.size, 0, none⟩) n n) n (List.replicate (n * 3) (.slice none 0 0)) ∧ W.grownBy w' none) := fun B W hB => by
    have := run_make_full (P := Try.prog) W B 23 47 k0 (.agg #[.slice none 0 0, .slice none 0 0, .slice none 0 0]) 3 Try.underlying23 ki kz0 kz1 .i64 .i64 n (by rw [kz2]; omega) (by unfold maxLen; omega) hB
    rw [MZ.out] at this
    exact this
  rw [hn] at hl IT ⊢
  clear hn MZ kz0 kz1 kz2 ki hz
  go_enter Try.func5, Try.ntmps5
  go_wp2_with fail
  generalize w.alloc (.cells #[.slice none 0 0, .slice none 0 0, .slice none 0 0, .slice none 0 0] 26) = W at *
  refine Calls.mono IT.out ?_
  rintro e w1 ⟨rfl, rfl⟩
  clear IT
  go_wp2
  refine MR.frame fun A hA => ?_
  have hsz : A.tmps.size = 15 := by rw [hA]; rfl
  have e0 : A.eval (.tmp 0) = .slice (some ⟨g, 0, none⟩) n ca := by rw [hA]; rfl
  have f0 := MR.read (t := 0) (by rw [hsz]; decide) e0
  have e2 : A.eval (.tmp 2) = .pointer (some ⟨w.heap.size, 0, none⟩) := by rw [hA]; rfl
  have f2 := MR.read (t := 2) (by rw [hsz]; decide) e2
  have HA : Hid (A = _) := hA
  clear hA
  refine MR.cut (fun aa w' => ∃ l8 gu cu gk : Nat, aa = ((((((((A.put (some 8) (.slice (some ⟨l8, 0, none⟩) 0 0)).put (some 9) (.slice (some ⟨g, 0, none⟩) n ca)).put (some 10) (.slice (some ⟨gu, 0, none⟩) n cu)).put (some 11) (.slice (some ⟨g, 0, none⟩) n ca)).put (some 12) (.int .i64 (n : Int))).put (some 13) (.slice (some ⟨gk, 0, none⟩) n n)).put (some 14) (.agg #[.slice (some ⟨gu, 0, none⟩) n cu, .slice (some ⟨gk, 0, none⟩) n n, .slice none 0 0, .slice none 0 0])).put (some 3) (.bool true)) ∧ Hid (CU.Mk w w' w.heap.size gu cu gk xs)) ?_ ?_
  · have hS : (fun w' : World => Below w.heap.size w w') (World.drew W) := hb0.drew
    refine wp_region_held (S := fun w' : World => Below w.heap.size w w') (by kernel_rfl) ?_
    change wpAnyH _ _ _ _ _ _ _ _ (World.drew W)
    refine MR.takeH (i := 1) (some 9) (.slice (some ⟨g, 0, none⟩) n ca) rfl rfl (by kernel_rfl) (by kernel_rfl) (by kernel_rfl) nofun hS (MR.free rfl) (fun wq hw => by simp [execOp, MR.ev, MR.size, hsz, e0, f0, e2, f2, go_sem]) ?_
    refine MR.takeH (i := 3) (some 11) (.slice (some ⟨g, 0, none⟩) n ca) rfl rfl (by kernel_rfl) (by kernel_rfl) (by kernel_rfl) nofun hS (MR.free rfl) (fun wq hw => by simp [execOp, MR.ev, MR.size, hsz, e0, f0, e2, f2, go_sem]) ?_
    refine MR.takeH (i := 4) (some 12) (.int .i64 (n : Int)) rfl rfl (by kernel_rfl) (by kernel_rfl) (by kernel_rfl) nofun hS (MR.free rfl) (fun wq hw => by simp [execOp, MR.ev, MR.size, hsz, e0, f0, e2, f2, go_sem]) ?_
    have hR := hr0.drew
    generalize hwd : World.drew W = v0 at hS hR ⊢
    clear hwd
    refine MR.two (i := 0) (j := 5) (by kernel_rfl) ?_ ?_
    · skip
      have hBl : Below v0.heap.size v0 (v0.alloc (.cells #[] 3)) := (Below.refl _ v0).alloc (Nat.le_refl _) _
      have hol : (v0.alloc (.cells #[] 3)).ownsRow v0.heap.size 3 1 (.slice (some ⟨v0.heap.size, 0, none⟩) 0 0) 0 [] := by
        have := World.ownsRow_lit (base := v0.heap.size) (e := 3) (size := 1) v0 #[] 0 (by simp) (by unfold maxLen; omega) (by simp)
        simpa using this
      have hS1 : (fun w' : World => Below w.heap.size w w') (v0.alloc (.cells #[] 3)) := hS.trans (hBl.mono hS.size)
      have hR1 := hR.below hBl hR.1
      refine MR.nowW (w' := v0.alloc (.cells #[] 3)) (some 8) (.slice (some ⟨v0.heap.size, 0, none⟩) 0 0) rfl rfl (MR.free rfl) (by simp [execOp, MR.ev, MR.size, hsz, e0, f0, e2, f2, go_sem]) ⟨hS1, ?_⟩
      obtain ⟨l8, hl8⟩ : ∃ l8, v0.heap.size = l8 := ⟨_, rfl⟩
      have hl8s : l8 < (v0.alloc (.cells #[] 3)).heap.size := by simp [← hl8]
      have hl8b : w.heap.size ≤ l8 := by have := hS.size; omega
      have hl8c : w.heap.size < l8 := by have := hR.1; omega
      rw [hl8] at hol ⊢
      have hBl2 := hBl
      generalize hqv1 : v0.alloc (.cells #[] 3) = v1 at *
      clear hqv1
      have hw00 := hR.1
      refine MR.two (i := 2) (j := 5) (by kernel_rfl) ?_ ?_
      · skip
        obtain ⟨vv2a, v2, hrun, hap, hgr, _⟩ := run_append_own (P := Try.prog) (w := v1) l8 22 22 3 i0 (.int .i64 0) 1 8 Try.underlying22 hi hz0 hz1 hz2 rfl (by decide) (.slice (some ⟨l8, 0, none⟩) 0 0) 0 [] hol ⟨g, 0, none⟩ n ca (M4.iv xs) (by simp [M4.iv, HN.out]) (HNW.out v1 hS1) (CU.iv_one _) (by unfold maxLen; omega) (by omega) (by omega)
        have hBa : Below l8 v1 v2 := (Below.refl _ v1).grown hgr (by omega) (fun j hj => by simp [Value.ownBlock] at hj; omega)
        have hS2 : (fun w' : World => Below w.heap.size w w') v2 := hS1.trans (hBa.mono hl8b)
        have hR2 := hR1.below hBa hl8c
        rw [Nat.zero_add, List.nil_append] at hap
        obtain ⟨gu, cu, rfl⟩ := CU.own_slice hap (by omega)
        have hgu := CU.own_lt hap
        refine MR.nowW (w' := v2) (some 10) (.slice (some ⟨gu, 0, none⟩) n cu) rfl rfl (MR.free rfl) (RA.app_run rfl (by simp [MR.ev, MR.size, hsz, e0, f0, e2, f2]) (by simp [MR.ev, MR.size, hsz, e0, f0, e2, f2]) hrun) ⟨hS2, ?_⟩
        obtain ⟨v3, hmv3, hov3, hgv3⟩ := MKR.out w.heap.size v2 hS2.size
        have hBv3 : Below v2.heap.size v2 v3 := (Below.refl _ v2).grown hgv3 (Nat.le_refl _) (fun k hk => by cases hk)
        have hS3 : (fun w' : World => Below w.heap.size w w') v3 := hS2.trans (hBv3.mono hS2.size)
        have hR3 := hR2.below hBv3 hR2.1
        have hkv3 := (CU.own_lt hov3).2
        refine MR.nowH (w' := v3) (i := 5) (some 13) (.slice (some ⟨v2.heap.size, 0, none⟩) n n) (by kernel_rfl) rfl rfl (MR.free rfl) (by simp [execOp, MR.ev, MR.size, hsz, e0, f0, e2, f2, hmv3, go_sem]) ⟨hS3, ?_⟩
        have hou := TR.own_mono (M5.own_below hap hBv3) hl8b
        have hfin : CU.Mk w (v3.setCells w.heap.size 0 [.slice (some ⟨gu, 0, none⟩) n cu, .slice (some ⟨v2.heap.size, 0, none⟩) n n, .slice none 0 0, .slice none 0 0]) w.heap.size gu cu (v2.heap.size) xs := by
          have := CU.mk_of (T := 47) (W := w) (w := v3) (b := w.heap.size) (gu := gu) (cu := cu) (gk := v2.heap.size) (L := xs) hR3 (by rw [HN.out]; exact hou) (by rw [HN.out]; exact hov3) (by decide) (by omega) (by omega) (Nat.le_refl _) hS3
          rw [HN.out] at this
          exact this
        refine MR.takeH (i := 6) (some 14) (.agg #[.slice (some ⟨gu, 0, none⟩) n cu, .slice (some ⟨v2.heap.size, 0, none⟩) n n, .slice none 0 0, .slice none 0 0]) rfl rfl (by kernel_rfl) (by kernel_rfl) (by kernel_rfl) nofun hS3 (MR.free rfl) (fun wq hw => by simp [execOp, MR.ev, MR.size, hsz, e0, f0, e2, f2, BLD.out, go_sem]) ?_
        refine MR.storeH (i := 7) (by kernel_rfl) rfl (MR.free rfl) (MA.ex_store (vs := [.slice (some ⟨gu, 0, none⟩) n cu, .slice (some ⟨v2.heap.size, 0, none⟩) n n, .slice none 0 0, .slice none 0 0]) rfl (by simp [MR.ev, MR.size, hsz, e0, f0, e2, f2]) (by simp [MR.ev, MR.size, hsz, e0, f0, e2, f2]) hR3.ok Try.sizeCus rfl (by simp [Value.oneCell'])) ⟨hfin.below, ?_⟩
        refine MR.takeH (i := 8) (some 3) (.bool true) rfl rfl (by kernel_rfl) (by kernel_rfl) (by kernel_rfl) nofun hfin.below (MR.free rfl) (fun wq hw => by simp [execOp, MR.ev, MR.size, hsz, e0, f0, e2, f2, go_sem]) ?_
        refine wpAnyH_done (by kernel_rfl) ⟨rfl, l8, gu, cu, v2.heap.size, ?_, hfin⟩ _
        simp [Act.put, Array.setIfInBounds_comm]
      · skip
        obtain ⟨v2, hmv2, hov2, hgv2⟩ := MKR.out w.heap.size v1 hS1.size
        have hBv2 : Below v1.heap.size v1 v2 := (Below.refl _ v1).grown hgv2 (Nat.le_refl _) (fun k hk => by cases hk)
        have hS2 : (fun w' : World => Below w.heap.size w w') v2 := hS1.trans (hBv2.mono hS1.size)
        have hR2 := hR1.below hBv2 hR1.1
        have hkv2 := (CU.own_lt hov2).2
        refine MR.nowW (w' := v2) (some 13) (.slice (some ⟨v1.heap.size, 0, none⟩) n n) rfl rfl (MR.free rfl) (by simp [execOp, MR.ev, MR.size, hsz, e0, f0, e2, f2, hmv2, go_sem]) ⟨hS2, ?_⟩
        have hk12 := hkv2
        obtain ⟨vv3a, v3, hrun, hap, hgr, _⟩ := run_append_own (P := Try.prog) (w := v2) l8 22 22 3 i0 (.int .i64 0) 1 8 Try.underlying22 hi hz0 hz1 hz2 rfl (by decide) (.slice (some ⟨l8, 0, none⟩) 0 0) 0 [] (M5.own_below hol hBv2) ⟨g, 0, none⟩ n ca (M4.iv xs) (by simp [M4.iv, HN.out]) (HNW.out v2 hS2) (CU.iv_one _) (by unfold maxLen; omega) (by omega) (by omega)
        have hBa : Below l8 v2 v3 := (Below.refl _ v2).grown hgr (by omega) (fun j hj => by simp [Value.ownBlock] at hj; omega)
        have hS3 : (fun w' : World => Below w.heap.size w w') v3 := hS2.trans (hBa.mono hl8b)
        have hR3 := hR2.below hBa hl8c
        rw [Nat.zero_add, List.nil_append] at hap
        obtain ⟨gu, cu, rfl⟩ := CU.own_slice hap (by omega)
        have hgu := CU.own_lt hap
        refine MR.nowH (w' := v3) (i := 2) (some 10) (.slice (some ⟨gu, 0, none⟩) n cu) (by kernel_rfl) rfl rfl (MR.free rfl) (RA.app_run rfl (by simp [MR.ev, MR.size, hsz, e0, f0, e2, f2]) (by simp [MR.ev, MR.size, hsz, e0, f0, e2, f2]) hrun) ⟨hS3, ?_⟩
        have hok := CU.own_grown hov2 hgr (by simp [Value.ownBlock]; omega)
        have hfin : CU.Mk w (v3.setCells w.heap.size 0 [.slice (some ⟨gu, 0, none⟩) n cu, .slice (some ⟨v1.heap.size, 0, none⟩) n n, .slice none 0 0, .slice none 0 0]) w.heap.size gu cu (v1.heap.size) xs := by
          have := CU.mk_of (T := 47) (W := w) (w := v3) (b := w.heap.size) (gu := gu) (cu := cu) (gk := v1.heap.size) (L := xs) hR3 (by rw [HN.out]; exact (TR.own_mono hap hl8b)) (by rw [HN.out]; exact hok) (by decide) (by omega) (by omega) (Nat.le_refl _) hS3
          rw [HN.out] at this
          exact this
        refine MR.takeH (i := 6) (some 14) (.agg #[.slice (some ⟨gu, 0, none⟩) n cu, .slice (some ⟨v1.heap.size, 0, none⟩) n n, .slice none 0 0, .slice none 0 0]) rfl rfl (by kernel_rfl) (by kernel_rfl) (by kernel_rfl) nofun hS3 (MR.free rfl) (fun wq hw => by simp [execOp, MR.ev, MR.size, hsz, e0, f0, e2, f2, BLD.out, go_sem]) ?_
        refine MR.storeH (i := 7) (by kernel_rfl) rfl (MR.free rfl) (MA.ex_store (vs := [.slice (some ⟨gu, 0, none⟩) n cu, .slice (some ⟨v1.heap.size, 0, none⟩) n n, .slice none 0 0, .slice none 0 0]) rfl (by simp [MR.ev, MR.size, hsz, e0, f0, e2, f2]) (by simp [MR.ev, MR.size, hsz, e0, f0, e2, f2]) hR3.ok Try.sizeCus rfl (by simp [Value.oneCell'])) ⟨hfin.below, ?_⟩
        refine MR.takeH (i := 8) (some 3) (.bool true) rfl rfl (by kernel_rfl) (by kernel_rfl) (by kernel_rfl) nofun hfin.below (MR.free rfl) (fun wq hw => by simp [execOp, MR.ev, MR.size, hsz, e0, f0, e2, f2, go_sem]) ?_
        refine wpAnyH_done (by kernel_rfl) ⟨rfl, l8, gu, cu, v1.heap.size, ?_, hfin⟩ _
        simp [Act.put, Array.setIfInBounds_comm]
    · skip
      have hw0 := hR.1
      obtain ⟨v1, hmv1, hov1, hgv1⟩ := MKR.out w.heap.size v0 hS.size
      have hBv1 : Below v0.heap.size v0 v1 := (Below.refl _ v0).grown hgv1 (Nat.le_refl _) (fun k hk => by cases hk)
      have hS1 : (fun w' : World => Below w.heap.size w w') v1 := hS.trans (hBv1.mono hS.size)
      have hR1 := hR.below hBv1 hR.1
      have hkv1 := (CU.own_lt hov1).2
      refine MR.nowW (w' := v1) (some 13) (.slice (some ⟨v0.heap.size, 0, none⟩) n n) rfl rfl (MR.free rfl) (by simp [execOp, MR.ev, MR.size, hsz, e0, f0, e2, f2, hmv1, go_sem]) ⟨hS1, ?_⟩
      have hBl : Below v1.heap.size v1 (v1.alloc (.cells #[] 3)) := (Below.refl _ v1).alloc (Nat.le_refl _) _
      have hol : (v1.alloc (.cells #[] 3)).ownsRow v1.heap.size 3 1 (.slice (some ⟨v1.heap.size, 0, none⟩) 0 0) 0 [] := by
        have := World.ownsRow_lit (base := v1.heap.size) (e := 3) (size := 1) v1 #[] 0 (by simp) (by unfold maxLen; omega) (by simp)
        simpa using this
      have hS2 : (fun w' : World => Below w.heap.size w w') (v1.alloc (.cells #[] 3)) := hS1.trans (hBl.mono hS1.size)
      have hR2 := hR1.below hBl hR1.1
      refine MR.nowH (w' := v1.alloc (.cells #[] 3)) (i := 0) (some 8) (.slice (some ⟨v1.heap.size, 0, none⟩) 0 0) (by kernel_rfl) rfl rfl (MR.free rfl) (by simp [execOp, MR.ev, MR.size, hsz, e0, f0, e2, f2, go_sem]) ⟨hS2, ?_⟩
      obtain ⟨l8, hl8⟩ : ∃ l8, v1.heap.size = l8 := ⟨_, rfl⟩
      have hl8s : l8 < (v1.alloc (.cells #[] 3)).heap.size := by simp [← hl8]
      have hl8b : w.heap.size ≤ l8 := by have := hS1.size; omega
      have hl8c : w.heap.size < l8 := by have := hR1.1; omega
      rw [hl8] at hol ⊢
      have hBl2 := hBl
      generalize hqv2 : v1.alloc (.cells #[] 3) = v2 at *
      clear hqv2
      obtain ⟨vv3a, v3, hrun, hap, hgr, _⟩ := run_append_own (P := Try.prog) (w := v2) l8 22 22 3 i0 (.int .i64 0) 1 8 Try.underlying22 hi hz0 hz1 hz2 rfl (by decide) (.slice (some ⟨l8, 0, none⟩) 0 0) 0 [] hol ⟨g, 0, none⟩ n ca (M4.iv xs) (by simp [M4.iv, HN.out]) (HNW.out v2 hS2) (CU.iv_one _) (by unfold maxLen; omega) (by omega) (by omega)
      have hBa : Below l8 v2 v3 := (Below.refl _ v2).grown hgr (by omega) (fun j hj => by simp [Value.ownBlock] at hj; omega)
      have hS3 : (fun w' : World => Below w.heap.size w w') v3 := hS2.trans (hBa.mono hl8b)
      have hR3 := hR2.below hBa hl8c
      rw [Nat.zero_add, List.nil_append] at hap
      obtain ⟨gu, cu, rfl⟩ := CU.own_slice hap (by omega)
      have hgu := CU.own_lt hap
      refine MR.nowH (w' := v3) (i := 2) (some 10) (.slice (some ⟨gu, 0, none⟩) n cu) (by kernel_rfl) rfl rfl (MR.free rfl) (RA.app_run rfl (by simp [MR.ev, MR.size, hsz, e0, f0, e2, f2]) (by simp [MR.ev, MR.size, hsz, e0, f0, e2, f2]) hrun) ⟨hS3, ?_⟩
      have hok := CU.own_grown (M5.own_below hov1 hBl2) hgr (by simp [Value.ownBlock]; omega)
      have hfin : CU.Mk w (v3.setCells w.heap.size 0 [.slice (some ⟨gu, 0, none⟩) n cu, .slice (some ⟨v0.heap.size, 0, none⟩) n n, .slice none 0 0, .slice none 0 0]) w.heap.size gu cu (v0.heap.size) xs := by
        have := CU.mk_of (T := 47) (W := w) (w := v3) (b := w.heap.size) (gu := gu) (cu := cu) (gk := v0.heap.size) (L := xs) hR3 (by rw [HN.out]; exact (TR.own_mono hap hl8b)) (by rw [HN.out]; exact hok) (by decide) (by omega) (by omega) (Nat.le_refl _) hS3
        rw [HN.out] at this
        exact this
      refine MR.takeH (i := 6) (some 14) (.agg #[.slice (some ⟨gu, 0, none⟩) n cu, .slice (some ⟨v0.heap.size, 0, none⟩) n n, .slice none 0 0, .slice none 0 0]) rfl rfl (by kernel_rfl) (by kernel_rfl) (by kernel_rfl) nofun hS3 (MR.free rfl) (fun wq hw => by simp [execOp, MR.ev, MR.size, hsz, e0, f0, e2, f2, BLD.out, go_sem]) ?_
      refine MR.storeH (i := 7) (by kernel_rfl) rfl (MR.free rfl) (MA.ex_store (vs := [.slice (some ⟨gu, 0, none⟩) n cu, .slice (some ⟨v0.heap.size, 0, none⟩) n n, .slice none 0 0, .slice none 0 0]) rfl (by simp [MR.ev, MR.size, hsz, e0, f0, e2, f2]) (by simp [MR.ev, MR.size, hsz, e0, f0, e2, f2]) hR3.ok Try.sizeCus rfl (by simp [Value.oneCell'])) ⟨hfin.below, ?_⟩
      refine MR.takeH (i := 8) (some 3) (.bool true) rfl rfl (by kernel_rfl) (by kernel_rfl) (by kernel_rfl) nofun hfin.below (MR.free rfl) (fun wq hw => by simp [execOp, MR.ev, MR.size, hsz, e0, f0, e2, f2, go_sem]) ?_
      refine wpAnyH_done (by kernel_rfl) ⟨rfl, l8, gu, cu, v0.heap.size, ?_, hfin⟩ _
      simp [Act.put, Array.setIfInBounds_comm]
  · rintro aa w5 ⟨l8, gu, cu, gk, rfl, hf⟩
    rw [HA.out]
    clear HA hsz e0 f0 e2 f2
    simp only [Act.put, List.setIfInBounds_toArray, List.set_cons_succ, List.set_cons_zero]
    have r0 := hf.out.rg.cell (j := 0) (v := .slice (some ⟨gu, 0, none⟩) n cu) (by rw [HN.out]; rfl)
    have r1 := hf.out.rg.cell (j := 1) (v := .slice (some ⟨gk, 0, none⟩) n n) (by rw [HN.out]; rfl)
    have r2 := hf.out.rg.cell (j := 2) (v := .slice none 0 0) rfl
    have r3 := hf.out.rg.cell (j := 3) (v := .slice none 0 0) rfl
    rw [Nat.zero_add] at r0 r1 r2 r3
    go_wp2
    exact bodyPost_ret (v := .tuple #[CU.val gu cu gk n, .bool true]) (by simp [results, Try.results5, go_sem, r0, r1, r2, r3, CU.val]) rfl ⟨_, _, _, rfl, hf.out.nw, hf.out.below⟩
end Go.Proofs.Ytonablbjikegmaa
