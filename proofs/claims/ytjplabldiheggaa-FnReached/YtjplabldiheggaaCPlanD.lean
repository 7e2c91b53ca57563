/- Plans, drawn (laid by tools/gen_pland.py). -/
import Derived.Test.YtjplabldiheggaaRows
import Derived.Test.YtjplabldiheggaaMI5
import Derived.Test.YtjplabldiheggaaCAmong
import Derived.Test.YtjplabldiheggaaM5
import Derived.Test.YtjplabldiheggaaMCurNew
import Derived.Test.YtjplabldiheggaaMRP
import Derived.Test.YtjplabldiheggaaMRH
import Derived.WalkKit
import Derived.WalkSpells
import Derived.WalkLawsBesides
import Derived.Outline
namespace Go.Proofs.Ytjplabldiheggaa
open Go.RowKit
theorem Try.infoContactD : (Try.prog.info? 91).map (fun i => (i.zero, i.size, i.bytes)) = some (some (.agg #[.int .i64 0, .int .i64 0, .int .i64 0, .int .i64 0, .int .i64 0]), 5, 40) := by kernel_rfl
namespace PLD
theorem own_row5 {w : World} {base e n : Nat} {v : Value} {xs : List I5} (h : w.ownsRow base e 5 v n (MI5.flat xs)) : ∃ a cap, v = .slice a n cap ∧ MI5.RowAt w a xs := by
  have hlen : xs.length = n := by have := h.1; rw [MI5.flat_len] at this; omega
  rcases h.2 with ⟨rfl, h0⟩ | ⟨g, cap, cur, rfl, _⟩
  · subst h0
    exact ⟨none, 0, rfl, ⟨.inl (List.eq_nil_of_length_eq_zero hlen)⟩⟩
  · exact ⟨_, cap, rfl, MI5.RowAt.of_own h⟩
theorem own_some {w : World} {base e sz n : Nat} {v : Value} {xs : List Value} (h : w.ownsRow base e sz v n xs) (hn : 0 < n) : ∃ g cap, v = .slice (some ⟨g, 0, none⟩) n cap := by
  rcases h.2 with ⟨-, h0⟩ | ⟨g, cap, cur, rfl, -⟩
  · omega
  · exact ⟨g, cap, rfl⟩
theorem new5 (W : World) (cs : List Value) (e : TypeId) (n : Nat) (hn : W.heap.size = n) : ∀ (j : Nat) (u : Value), cs[j]? = some u → (W.alloc (.cells cs.toArray e)).cell? ((⟨n, 0, none⟩ : Addr).add j) = some u := by
  intro j u h
  subst hn
  have hadd : (⟨W.heap.size, 0, none⟩ : Addr).add j = ⟨W.heap.size, j, none⟩ := by unfold Addr.add; split <;> simp_all
  rw [hadd, World.cell?_alloc_at _ _ _ _ (by rfl)]
  simpa using h
theorem one5 (x y z u v : Int) : ∀ t ∈ [Value.int .i64 x, .int .i64 y, .int .i64 z, .int .i64 u, .int .i64 v], t.oneCell' = true := by intro t ht; simp at ht; rcases ht with rfl | rfl | rfl | rfl | rfl <;> rfl
theorem flat_snoc (l : List I5) (x y z u v : Int) : MI5.flat l ++ [Value.int .i64 x, .int .i64 y, .int .i64 z, .int .i64 u, .int .i64 v] = MI5.flat (l ++ [⟨x, y, z, u, v⟩]) := by rw [MI5.flat_app]; rfl
theorem flat_to (l : List I5) (z : Int) (h : 0 < l.length) : ∃ ys : List I5, ys.length = l.length ∧ (MI5.flat l).set 3 (.int .i64 z) = MI5.flat ys := by
  cases l with
  | nil => simp at h
  | cons x l => exact ⟨⟨x.a0, x.a1, x.a2, z, x.a4⟩ :: l, rfl, rfl⟩
end PLD
set_option linter.unusedSimpArgs false in
set_option maxHeartbeats 6400000 in
set_option maxRecDepth 100000 in
theorem plan_any (p : Nat) (a : Option Addr) (zs : List Int) (cap M : Nat) (w : World) (hz : zs.length ≤ 140737488355328) (hM : M ≤ 140737488340000) (hc : MC.Cur w p a zs cap M) :
    Calls Try.prog 49 #[.pointer (some ⟨p, 0, none⟩)] w fun e w' => ∃ a1 c1 l, e = .returned (.slice a1 (List.length l) c1) ∧ l.length ≤ 21 ∧ w'.ownsRow w.heap.size 91 5 (.slice a1 l.length c1) l.length (MI5.flat l) ∧ MC.Cur w' p a zs cap (M + 300) ∧ MC.Only p w w' := by
  obtain ⟨i2, hi', hz0', hz1', hz2'⟩ := info_parts Try.infoContactD
  have hplt := hc.lt
  go_enter Try.func49, Try.ntmps49
  go_wp2_with fail
  refine (pick_any p a zs cap M _ _ hz (by omega) hc).mono ?_
  rintro e w1 ⟨r, rfl, hr, _, hc1, ho1⟩
  have hr6 : r < 10 := by omega
  clear hr hc
  go_wp2_with fail
  refine (one_any p a zs cap (M + 2) _ _ hz (by omega) hc1).mono ?_
  rintro e w2 ⟨b, rfl, hc2, ho2⟩
  have hoA := ho1.trans ho2
  clear ho1 ho2 hc1
  cases b with
  | false =>
    have HC0 := hc2
    have HO0 := hoA
    clear hc2 hoA
    go_wp2_with fail
    go_loopw [3, 4] (fun lv nv wr => ∃ (m : Nat) (l : List I5) (M' : Nat), nv = .int .i64 m ∧ l.length + m ≤ 21 ∧ wr.ownsRow w.heap.size 91 5 lv l.length (MI5.flat l) ∧ MC.Cur wr p a zs cap M' ∧ M' + 10 * m ≤ M + 250 ∧ MC.Only p w wr) (fun _ nv _ => (intOf nv).toNat)
    case atStart => exact ⟨r, [], M + 4, rfl, by simp; omega, World.ownsRow_nil _ _ _ _, HC0, by omega, HO0⟩
    case round =>
      clear HC0 HO0
      obtain ⟨m, l, M', rfl, hm, hown, hcr, hMr, hor⟩ := hrel
      have hows := hor.size
      by_cases hm0 : 0 < m
      · have m0 : (0 : Int) < (m : Int) := by omega
        go_wp2_with fail
        refine (pick_any p a zs cap (M') _ _ hz (by omega) hcr).mono ?_
        rintro e w3 ⟨r1, rfl, hr, _, hc, ho⟩
        replace hown := MC.own_only hown ho hplt
        replace hor := hor.trans ho
        have hb1 : r1 < 5 := by omega
        clear hcr ho hr
        have hcr := hc
        clear hc
        go_wp2_with fail
        refine (pick_any p a zs cap (M' + 2) _ _ hz (by omega) hcr).mono ?_
        rintro e w5 ⟨r2, rfl, hr, _, hc, ho⟩
        replace hown := MC.own_only hown ho hplt
        replace hor := hor.trans ho
        have hb2 : r2 < 5 := by omega
        clear hcr ho hr
        have hcr := hc
        clear hc
        go_wp2_with fail
        refine (pick_any p a zs cap (M' + 4) _ _ hz (by omega) hcr).mono ?_
        rintro e w6 ⟨r3, rfl, hr, _, hc, ho⟩
        replace hown := MC.own_only hown ho hplt
        replace hor := hor.trans ho
        have hb3 : r3 < 40 := by omega
        clear hcr ho hr
        have hcr := hc
        clear hc
        go_wp2_with fail
        refine (pick_any p a zs cap (M' + 6) _ _ hz (by omega) hcr).mono ?_
        rintro e w4 ⟨r4, rfl, hr, _, hc, ho⟩
        replace hown := MC.own_only hown ho hplt
        replace hor := hor.trans ho
        have hb4 : r4 < 6 := by omega
        clear hcr ho hr
        have hcr := hc
        clear hc
        have hs4 := hor.size
        have hbx0 := World.ownsRow_lit (base := w4.heap.size) (e := 91) (size := 5) w4 #[.int .i64 (r1 : Int), .int .i64 (r2 : Int), .int .i64 (r3 : Int), .int .i64 0, .int .i64 (r4 : Int)] 1 (Nat.le_refl _) (by unfold maxLen; omega) (by simp)
        have hownA := hown.alloc (.cells #[.int .i64 (r1 : Int), .int .i64 (r2 : Int), .int .i64 (r3 : Int), .int .i64 0, .int .i64 (r4 : Int)] 91)
        have hlA : ∀ j, u3.ownBlock = some j → j < w4.heap.size := fun j hj => (hown.lt j hj).2
        have hcA := hcr.alloc (.cells #[.int .i64 (r1 : Int), .int .i64 (r2 : Int), .int .i64 (r3 : Int), .int .i64 0, .int .i64 (r4 : Int)] 91)
        have horA := hor.alloc (.cells #[.int .i64 (r1 : Int), .int .i64 (r2 : Int), .int .i64 (r3 : Int), .int .i64 0, .int .i64 (r4 : Int)] 91)
        have hp4 := hcr.lt
        clear hown hcr hor
        go_wp2_with fail
        generalize (w4.alloc (.cells #[.int .i64 (r1 : Int), .int .i64 (r2 : Int), .int .i64 (r3 : Int), .int .i64 0, .int .i64 (r4 : Int)] 91)) = WA at *
        obtain ⟨q, hq⟩ : ∃ q, w4.heap.size = q := ⟨_, rfl⟩
        rw [hq] at hbx0 hlA hp4 hs4 ⊢
        have bD := below_drewN (Below.refl WA.heap.size WA) 1
        have hcD : MC.Cur WA.drew p a zs cap (M' + 8) := hcA.below bD
        have hbD : WA.drew.ownsRow q 91 5 (.slice (some ⟨q, 0, none⟩) 1 1) 1 _ := M5.own_below hbx0 bD
        have hownD : WA.drew.ownsRow w.heap.size 91 5 u3 l.length (MI5.flat l) := M5.own_below hownA bD
        have horD : MC.Only p w WA.drew := horA.drewN 1
        have hS0 : WA.drew.cell? ⟨q, 2, none⟩ = some (.int .i64 (r3 : Int)) := (hbD.cellAt 2 (by omega)).trans rfl
        have hw1 : IntKind.i64.wrap ((r3 : Int) + 1) = (r3 : Int) + 1 := by rw [IntKind.wrap_i64]; omega
        clear hbx0 hownA hcA horA bD hq
        refine MR.frame fun A hA => ?_
        have hsz : A.tmps.size = 61 := by rw [hA]; rfl
        have e0 : A.eval (.tmp 0) = .pointer (some ⟨p, 0, none⟩) := by rw [hA]; rfl
        have f0 := MR.read (t := 0) (by rw [hsz]; decide) e0
        have e5 : A.eval (.tmp 5) = .pointer (some ⟨q, 0, none⟩) := by rw [hA]; rfl
        have f5 := MR.read (t := 5) (by rw [hsz]; decide) e5
        have HA : Hid (A = _) := hA
        clear hA
        have hS : (fun w' => w'.cell? ⟨q, 2, none⟩ = some (.int .i64 (r3 : Int))) (World.drew _) := hS0
        refine wp_region_held (S := fun w' => w'.cell? ⟨q, 2, none⟩ = some (.int .i64 (r3 : Int))) (by kernel_rfl) ?_
        change wpAnyH _ _ _ _ _ _ _ _ (World.drew _)
        refine MR.takeH (i := 0) (some 26) (.pointer (some ⟨q, 2, none⟩)) rfl rfl (by kernel_rfl) (by kernel_rfl) (by kernel_rfl) (fun _ _ _ h => h) hS (MR.free rfl) (fun wq hw => by simp [execOp, MR.ev, MR.size, hsz, e0, f0, e5, f5, go_sem]) ?_
        refine MR.takeH (i := 1) (some 27) (.int .i64 (r3 : Int)) rfl rfl (by kernel_rfl) (by kernel_rfl) (by kernel_rfl) (fun _ _ _ h => h) hS (MR.free rfl) (fun wq hw => by simp [execOp, MR.ev, MR.size, hsz, e0, f0, e5, f5, (show wq.cell? ⟨q, 2, none⟩ = some (.int .i64 (r3 : Int)) from hw), go_sem]) ?_
        refine MR.takeH (i := 2) (some 28) (.int .i64 ((r3 : Int) + 1)) rfl rfl (by kernel_rfl) (by kernel_rfl) (by kernel_rfl) (fun _ _ _ h => h) hS (MR.free rfl) (fun wq hw => by simp [execOp, MR.ev, MR.size, hsz, e0, f0, e5, f5, hw1, go_sem]) ?_
        refine MR.takeH (i := 3) (some 29) (.pointer (some ⟨p, 0, none⟩)) rfl rfl (by kernel_rfl) (by kernel_rfl) (by kernel_rfl) (fun _ _ _ h => h) hS (MR.free rfl) (fun wq hw => by simp [execOp, MR.ev, MR.size, hsz, e0, f0, e5, f5, go_sem]) ?_
        refine MR.callH (i := 4) (some 30) (46) (#[.pointer (some ⟨p, 0, none⟩), .int .i64 30]) (by kernel_rfl) rfl rfl (MR.free rfl) (by simp [execOp, MR.ev, MR.size, hsz, e0, f0, e5, f5, go_sem]) ?_
        refine (pick_any p a zs cap (M' + 8) _ _ hz (by omega) hcD).mono ?_
        rintro e w7 ⟨r5, rfl, hr5, _, hc7, ho7⟩
        have h530 : r5 < 30 := by omega
        have hbx7 := MC.own_only hbD ho7 hp4
        have hown7 := MC.own_only hownD ho7 hplt
        have hor7 := horD.trans ho7
        have hS2 : w7.cell? ⟨q, 2, none⟩ = some (.int .i64 (r3 : Int)) := (hbx7.cellAt 2 (by omega)).trans rfl
        refine ⟨_, rfl, hS2, ?_⟩
        have hw2 : IntKind.i64.wrap ((r3 : Int) + 1 + (r5 : Int)) = (r3 : Int) + 1 + (r5 : Int) := by rw [IntKind.wrap_i64]; omega
        refine MR.takeH (i := 5) (some 31) (.int .i64 ((r3 : Int) + 1 + (r5 : Int))) rfl rfl (by kernel_rfl) (by kernel_rfl) (by kernel_rfl) (fun _ _ _ h => h) hS2 (MR.free rfl) (fun wq hw => by simp [execOp, MR.ev, MR.size, hsz, e0, f0, e5, f5, hw2, go_sem]) ?_
        refine MR.takeH (i := 6) (some 32) (.pointer (some ⟨q, 3, none⟩)) rfl rfl (by kernel_rfl) (by kernel_rfl) (by kernel_rfl) (fun _ _ _ h => h) hS2 (MR.free rfl) (fun wq hw => by simp [execOp, MR.ev, MR.size, hsz, e0, f0, e5, f5, go_sem]) ?_
        have k3 : w7.cell? ⟨q, 3, none⟩ = some (.int .i64 0) := (hbx7.cellAt 3 (by omega)).trans rfl
        have f3 := hbx7.frozenAt 3
        have kl := (hbx7.lt q rfl).2
        have st := hbx7.stored 3 (.int .i64 ((r3 : Int) + 1 + (r5 : Int)))
        have hown := hown7.kept st.2 (.inr (fun e => absurd (hlA q e) (by omega)))
        have hcx := hc7.grown st.2 (fun j hj => by simp at hj; omega)
        have hox := hor7.grown st.2 (fun j hj => by simp at hj; omega)
        have hbx := st.1
        clear st hbx7 hown7 hc7 hor7 ho7 hr5
        simp only [List.set_cons_succ, List.set_cons_zero] at hbx
        have hS3 : (w7.setCell ⟨q, 3, none⟩ (.int .i64 ((r3 : Int) + 1 + (r5 : Int)))).cell? ⟨q, 2, none⟩ = some (.int .i64 (r3 : Int)) := (hbx.cellAt 2 (by omega)).trans rfl
        refine MR.storeH (w' := w7.setCell ⟨q, 3, none⟩ (.int .i64 ((r3 : Int) + 1 + (r5 : Int)))) (i := 7) (by kernel_rfl) rfl (MR.free rfl) (by simp [execOp, MR.ev, MR.size, hsz, e0, f0, e5, f5, k3, f3, kl, go_sem]) ⟨hS3, ?_⟩
        refine wpAnyH_done (by kernel_rfl) ?_ _
        rw [HA.out]
        simp only [Act.put, List.setIfInBounds_toArray, List.set_cons_succ, List.set_cons_zero]
        clear HA hsz e0 f0 e5 f5 hS hS2 hS3 k3 f3 kl hcD hbD hownD horD hS0 hw1 hw2
        generalize (w7.setCell ⟨q, 3, none⟩ (.int .i64 ((r3 : Int) + 1 + (r5 : Int)))) = w8 at *
        by_cases h12 : r1 = r2
        · subst h12
          have k0 : w8.cell? ⟨q, 0, none⟩ = some (.int .i64 (r1 : Int)) := (hbx.cellAt 0 (by omega)).trans rfl
          have k1 : w8.cell? ⟨q, 1, none⟩ = some (.int .i64 (r1 : Int)) := (hbx.cellAt 1 (by omega)).trans rfl
          have f1 := hbx.frozenAt 1
          have kl := (hbx.lt q rfl).2
          have st := hbx.stored 1 (.int .i64 (((r1 : Int) + 1) % 5))
          replace hown := hown.kept st.2 (.inr (fun e => absurd (hlA q e) (by omega)))
          replace hcx := hcx.grown st.2 (fun j hj => by simp at hj; omega)
          replace hox := hox.grown st.2 (fun j hj => by simp at hj; omega)
          replace hbx := st.1
          clear st
          simp only [List.set_cons_succ, List.set_cons_zero] at hbx
          have n0 : (w8.setCell ⟨q, 1, none⟩ (.int .i64 (((r1 : Int) + 1) % 5))).cell? ⟨q, 0, none⟩ = some (.int .i64 ((r1 : Int))) := (hbx.cellAt 0 (by omega)).trans rfl
          have n1 : (w8.setCell ⟨q, 1, none⟩ (.int .i64 (((r1 : Int) + 1) % 5))).cell? ⟨q, 1, none⟩ = some (.int .i64 (((r1 : Int) + 1) % 5)) := (hbx.cellAt 1 (by omega)).trans rfl
          have n2 : (w8.setCell ⟨q, 1, none⟩ (.int .i64 (((r1 : Int) + 1) % 5))).cell? ⟨q, 2, none⟩ = some (.int .i64 ((r3 : Int))) := (hbx.cellAt 2 (by omega)).trans rfl
          have n3 : (w8.setCell ⟨q, 1, none⟩ (.int .i64 (((r1 : Int) + 1) % 5))).cell? ⟨q, 3, none⟩ = some (.int .i64 ((r3 : Int) + 1 + (r5 : Int))) := (hbx.cellAt 3 (by omega)).trans rfl
          have n4 : (w8.setCell ⟨q, 1, none⟩ (.int .i64 (((r1 : Int) + 1) % 5))).cell? ⟨q, 4, none⟩ = some (.int .i64 ((r4 : Int))) := (hbx.cellAt 4 (by omega)).trans rfl
          have nl := (hbx.lt q rfl).2
          have hsW := hox.size
          clear hbx
          go_wp2_with (at_builtin; refine wpList_append_own _ rfl _ _ 23 rfl w.heap.size 91 i2 (.agg #[.int .i64 0, .int .i64 0, .int .i64 0, .int .i64 0, .int .i64 0]) 5 40 Try.underlying23 hi' hz0' hz1' hz2' rfl (by decide) _ _ _ rfl (hown.alloc _) ⟨w8.heap.size, 0, none⟩ 1 1 [.int .i64 (r1 : Int), .int .i64 (((r1 : Int) + 1) % 5), .int .i64 (r3 : Int), .int .i64 ((r3 : Int) + 1 + (r5 : Int)), .int .i64 (r4 : Int)] rfl rfl ?c11 ?c12 ?c13 ?c14 ?c15 ?_)
          case c11 => exact PLD.new5 _ _ _ _ (by simp)
          case c12 => exact PLD.one5 _ _ _ _ _
          case c13 => unfold maxLen; omega
          case c14 => omega
          case c15 => simp; omega
          intro v' wn hown1 hgrow _
          have R1 : wn.ownsRow w.heap.size 91 5 v' (l ++ [(⟨(r1 : Int), ((r1 : Int) + 1) % 5, (r3 : Int), (r3 : Int) + 1 + (r5 : Int), (r4 : Int)⟩ : I5)]).length (MI5.flat (l ++ [⟨(r1 : Int), ((r1 : Int) + 1) % 5, (r3 : Int), (r3 : Int) + 1 + (r5 : Int), (r4 : Int)⟩])) := by rw [← PLD.flat_snoc, List.length_append]; exact hown1
          have R2 := (hcx.alloc _).grown hgrow (fun j hj => by have := (hown.lt j hj).1; omega)
          have R3 := (hox.alloc _).grown hgrow (fun j hj => (hown.lt j hj).1)
          have hl2 : (l ++ [(⟨(r1 : Int), ((r1 : Int) + 1) % 5, (r3 : Int), (r3 : Int) + 1 + (r5 : Int), (r4 : Int)⟩ : I5)]).length = l.length + 1 := by simp
          clear hown1 hgrow hown n0 n1 n2 n3 n4 nl hcx hox
          generalize l ++ [(⟨(r1 : Int), ((r1 : Int) + 1) % 5, (r3 : Int), (r3 : Int) + 1 + (r5 : Int), (r4 : Int)⟩ : I5)] = l2 at *
          go_wp2
          go_roundw
          case rel => exact ⟨m - 1, l2, _, by go_num, by omega, R1, R2, by omega, R3⟩
          case measure => simp [intOf]; omega
        · have h12' : ((r1 : Int) == (r2 : Int)) = false := by simp; omega
          have n0 : w8.cell? ⟨q, 0, none⟩ = some (.int .i64 ((r1 : Int))) := (hbx.cellAt 0 (by omega)).trans rfl
          have n1 : w8.cell? ⟨q, 1, none⟩ = some (.int .i64 ((r2 : Int))) := (hbx.cellAt 1 (by omega)).trans rfl
          have n2 : w8.cell? ⟨q, 2, none⟩ = some (.int .i64 ((r3 : Int))) := (hbx.cellAt 2 (by omega)).trans rfl
          have n3 : w8.cell? ⟨q, 3, none⟩ = some (.int .i64 ((r3 : Int) + 1 + (r5 : Int))) := (hbx.cellAt 3 (by omega)).trans rfl
          have n4 : w8.cell? ⟨q, 4, none⟩ = some (.int .i64 ((r4 : Int))) := (hbx.cellAt 4 (by omega)).trans rfl
          have nl := (hbx.lt q rfl).2
          have hsW := hox.size
          clear hbx
          go_wp2_with (at_builtin; refine wpList_append_own _ rfl _ _ 23 rfl w.heap.size 91 i2 (.agg #[.int .i64 0, .int .i64 0, .int .i64 0, .int .i64 0, .int .i64 0]) 5 40 Try.underlying23 hi' hz0' hz1' hz2' rfl (by decide) _ _ _ rfl (hown.alloc _) ⟨w8.heap.size, 0, none⟩ 1 1 [.int .i64 (r1 : Int), .int .i64 ((r2 : Int)), .int .i64 (r3 : Int), .int .i64 ((r3 : Int) + 1 + (r5 : Int)), .int .i64 (r4 : Int)] rfl rfl ?c21 ?c22 ?c23 ?c24 ?c25 ?_)
          case c21 => exact PLD.new5 _ _ _ _ (by simp)
          case c22 => exact PLD.one5 _ _ _ _ _
          case c23 => unfold maxLen; omega
          case c24 => omega
          case c25 => simp; omega
          intro v' wn hown1 hgrow _
          have R1 : wn.ownsRow w.heap.size 91 5 v' (l ++ [(⟨(r1 : Int), (r2 : Int), (r3 : Int), (r3 : Int) + 1 + (r5 : Int), (r4 : Int)⟩ : I5)]).length (MI5.flat (l ++ [⟨(r1 : Int), (r2 : Int), (r3 : Int), (r3 : Int) + 1 + (r5 : Int), (r4 : Int)⟩])) := by rw [← PLD.flat_snoc, List.length_append]; exact hown1
          have R2 := (hcx.alloc _).grown hgrow (fun j hj => by have := (hown.lt j hj).1; omega)
          have R3 := (hox.alloc _).grown hgrow (fun j hj => (hown.lt j hj).1)
          have hl2 : (l ++ [(⟨(r1 : Int), (r2 : Int), (r3 : Int), (r3 : Int) + 1 + (r5 : Int), (r4 : Int)⟩ : I5)]).length = l.length + 1 := by simp
          clear hown1 hgrow hown n0 n1 n2 n3 n4 nl hcx hox
          generalize l ++ [(⟨(r1 : Int), (r2 : Int), (r3 : Int), (r3 : Int) + 1 + (r5 : Int), (r4 : Int)⟩ : I5)] = l2 at *
          go_wp2
          go_roundw
          case rel => exact ⟨m - 1, l2, _, by go_num, by omega, R1, R2, by omega, R3⟩
          case measure => simp [intOf]; omega
      · obtain rfl : m = 0 := by omega
        by_cases h0 : l.length = 0
        · obtain ⟨av, lc, hv, -⟩ := PLD.own_row5 hown
          rw [hv] at hown ⊢
          rw [h0] at hown ⊢
          clear hv
          go_wp2
          go_ret
          exact ⟨av, lc, l, by rw [h0]; rfl, by omega, by rw [h0]; exact hown, hcr.more (by omega), hor⟩
        · have h0' : (0 : Int) < (l.length : Int) := by omega
          obtain ⟨g, lc, hv⟩ := PLD.own_some hown (by omega)
          rw [hv] at hown ⊢
          clear hv
          go_wp2_with fail
          refine (one_any p a zs cap M' _ _ hz (by omega) hcr).mono ?_
          rintro e w3 ⟨b, rfl, hc3, ho3⟩
          have hown3 := MC.own_only hown ho3 hplt
          have hor3 := hor.trans ho3
          have hs3 := hor3.size
          clear hown ho3 hcr hor
          cases b with
          | false =>
            go_wp2
            go_ret
            exact ⟨_, lc, l, rfl, by omega, hown3, hc3.more (by omega), hor3⟩
          | true =>
            have hgl := hown3.lt g rfl
            go_wp2_with fail
            refine (among_any p a zs cap (M' + 2) (some ⟨w3.heap.size, 0, none⟩) [0, 1000, 1001] 3 _ hz (by omega) (hc3.alloc _) (by simp) (by simp) ?_ ?_).mono ?_
            · exact .inr ⟨w3.heap.size, 0, rfl, by simp, fun j hj => by
                rw [Nat.zero_add]
                have h3 : j < 3 := hj
                rcases (show j = 0 ∨ j = 1 ∨ j = 2 by omega) with rfl | rfl | rfl <;> exact World.cell?_alloc_at _ _ _ _ (by rfl)⟩
            · intro b off hb; cases hb; have := hc3.lt; omega
            rintro e w4 ⟨z, rfl, -, hc4, ho4⟩
            have hown4 := MC.own_only (hown3.alloc (.cells #[.int .i64 0, .int .i64 1000, .int .i64 1001] 3)) ho4 hplt
            have hor4 := (hor3.alloc (.cells #[.int .i64 0, .int .i64 1000, .int .i64 1001] 3)).trans ho4
            have hs4 := ho4.size
            obtain ⟨-, -, -, -, hx4, -⟩ := (MI5.RowAt.of_own hown4).at0 (j := 0) (by omega)
            generalize (MI5.at_ l 0).a3 = z4 at hx4
            simp only [Nat.zero_mul, Nat.zero_add] at hx4
            have hf4 := hown4.frozenAt 3
            obtain ⟨ys, hyl, hys⟩ := PLD.flat_to l z (by omega)
            have R1 := (hown4.stored 3 (.int .i64 z)).1
            have R0 := (hown4.stored 3 (.int .i64 z)).2
            have R2 := hc4.grown R0 (fun j hj => by cases hj; omega)
            have R3 := hor4.grown R0 (fun j hj => by cases hj; exact hgl.1)
            rw [hys, ← hyl] at R1
            have hy21 : ys.length ≤ 21 := by omega
            have hy0 : (0 : Int) < (ys.length : Int) := by omega
            rw [← hyl]
            clear hown4 hown3 hor4 hc4 R0 hc3 hor3 ho4 hys hyl h0 h0'
            go_wp2
            go_ret
            exact ⟨_, lc, ys, rfl, hy21, R1, R2.more (by omega), R3⟩
  | true =>
    go_wp2_with fail
    refine (pick_any p a zs cap (M + 4) _ _ hz (by omega) hc2).mono ?_
    rintro e w2' ⟨r2, rfl, hr2, _, hc2', ho2'⟩
    have hr22 : r2 < 2 := by omega
    have HC0 := hc2'
    have HO0 := hoA.trans ho2'
    clear hr2 hc2 hoA ho2' hc2'
    go_wp2_with fail
    go_loopw [3, 4] (fun lv nv wr => ∃ (m : Nat) (l : List I5) (M' : Nat), nv = .int .i64 m ∧ l.length + m ≤ 21 ∧ wr.ownsRow w.heap.size 91 5 lv l.length (MI5.flat l) ∧ MC.Cur wr p a zs cap M' ∧ M' + 10 * m ≤ M + 250 ∧ MC.Only p w wr) (fun _ nv _ => (intOf nv).toNat)
    case atStart => exact ⟨20 + r2, [], M + 6, by go_num, by simp; omega, World.ownsRow_nil _ _ _ _, HC0, by omega, HO0⟩
    case round =>
      clear HC0 HO0
      obtain ⟨m, l, M', rfl, hm, hown, hcr, hMr, hor⟩ := hrel
      have hows := hor.size
      by_cases hm0 : 0 < m
      · have m0 : (0 : Int) < (m : Int) := by omega
        go_wp2_with fail
        refine (pick_any p a zs cap (M') _ _ hz (by omega) hcr).mono ?_
        rintro e w3 ⟨r1, rfl, hr, _, hc, ho⟩
        replace hown := MC.own_only hown ho hplt
        replace hor := hor.trans ho
        have hb1 : r1 < 5 := by omega
        clear hcr ho hr
        have hcr := hc
        clear hc
        go_wp2_with fail
        refine (pick_any p a zs cap (M' + 2) _ _ hz (by omega) hcr).mono ?_
        rintro e w5 ⟨r2, rfl, hr, _, hc, ho⟩
        replace hown := MC.own_only hown ho hplt
        replace hor := hor.trans ho
        have hb2 : r2 < 5 := by omega
        clear hcr ho hr
        have hcr := hc
        clear hc
        go_wp2_with fail
        refine (pick_any p a zs cap (M' + 4) _ _ hz (by omega) hcr).mono ?_
        rintro e w6 ⟨r3, rfl, hr, _, hc, ho⟩
        replace hown := MC.own_only hown ho hplt
        replace hor := hor.trans ho
        have hb3 : r3 < 40 := by omega
        clear hcr ho hr
        have hcr := hc
        clear hc
        go_wp2_with fail
        refine (pick_any p a zs cap (M' + 6) _ _ hz (by omega) hcr).mono ?_
        rintro e w4 ⟨r4, rfl, hr, _, hc, ho⟩
        replace hown := MC.own_only hown ho hplt
        replace hor := hor.trans ho
        have hb4 : r4 < 6 := by omega
        clear hcr ho hr
        have hcr := hc
        clear hc
        have hs4 := hor.size
        have hbx0 := World.ownsRow_lit (base := w4.heap.size) (e := 91) (size := 5) w4 #[.int .i64 (r1 : Int), .int .i64 (r2 : Int), .int .i64 (r3 : Int), .int .i64 0, .int .i64 (r4 : Int)] 1 (Nat.le_refl _) (by unfold maxLen; omega) (by simp)
        have hownA := hown.alloc (.cells #[.int .i64 (r1 : Int), .int .i64 (r2 : Int), .int .i64 (r3 : Int), .int .i64 0, .int .i64 (r4 : Int)] 91)
        have hlA : ∀ j, u3.ownBlock = some j → j < w4.heap.size := fun j hj => (hown.lt j hj).2
        have hcA := hcr.alloc (.cells #[.int .i64 (r1 : Int), .int .i64 (r2 : Int), .int .i64 (r3 : Int), .int .i64 0, .int .i64 (r4 : Int)] 91)
        have horA := hor.alloc (.cells #[.int .i64 (r1 : Int), .int .i64 (r2 : Int), .int .i64 (r3 : Int), .int .i64 0, .int .i64 (r4 : Int)] 91)
        have hp4 := hcr.lt
        clear hown hcr hor
        go_wp2_with fail
        generalize (w4.alloc (.cells #[.int .i64 (r1 : Int), .int .i64 (r2 : Int), .int .i64 (r3 : Int), .int .i64 0, .int .i64 (r4 : Int)] 91)) = WA at *
        obtain ⟨q, hq⟩ : ∃ q, w4.heap.size = q := ⟨_, rfl⟩
        rw [hq] at hbx0 hlA hp4 hs4 ⊢
        have bD := below_drewN (Below.refl WA.heap.size WA) 1
        have hcD : MC.Cur WA.drew p a zs cap (M' + 8) := hcA.below bD
        have hbD : WA.drew.ownsRow q 91 5 (.slice (some ⟨q, 0, none⟩) 1 1) 1 _ := M5.own_below hbx0 bD
        have hownD : WA.drew.ownsRow w.heap.size 91 5 u3 l.length (MI5.flat l) := M5.own_below hownA bD
        have horD : MC.Only p w WA.drew := horA.drewN 1
        have hS0 : WA.drew.cell? ⟨q, 2, none⟩ = some (.int .i64 (r3 : Int)) := (hbD.cellAt 2 (by omega)).trans rfl
        have hw1 : IntKind.i64.wrap ((r3 : Int) + 1) = (r3 : Int) + 1 := by rw [IntKind.wrap_i64]; omega
        clear hbx0 hownA hcA horA bD hq
        refine MR.frame fun A hA => ?_
        have hsz : A.tmps.size = 61 := by rw [hA]; rfl
        have e0 : A.eval (.tmp 0) = .pointer (some ⟨p, 0, none⟩) := by rw [hA]; rfl
        have f0 := MR.read (t := 0) (by rw [hsz]; decide) e0
        have e5 : A.eval (.tmp 5) = .pointer (some ⟨q, 0, none⟩) := by rw [hA]; rfl
        have f5 := MR.read (t := 5) (by rw [hsz]; decide) e5
        have HA : Hid (A = _) := hA
        clear hA
        have hS : (fun w' => w'.cell? ⟨q, 2, none⟩ = some (.int .i64 (r3 : Int))) (World.drew _) := hS0
        refine wp_region_held (S := fun w' => w'.cell? ⟨q, 2, none⟩ = some (.int .i64 (r3 : Int))) (by kernel_rfl) ?_
        change wpAnyH _ _ _ _ _ _ _ _ (World.drew _)
        refine MR.takeH (i := 0) (some 26) (.pointer (some ⟨q, 2, none⟩)) rfl rfl (by kernel_rfl) (by kernel_rfl) (by kernel_rfl) (fun _ _ _ h => h) hS (MR.free rfl) (fun wq hw => by simp [execOp, MR.ev, MR.size, hsz, e0, f0, e5, f5, go_sem]) ?_
        refine MR.takeH (i := 1) (some 27) (.int .i64 (r3 : Int)) rfl rfl (by kernel_rfl) (by kernel_rfl) (by kernel_rfl) (fun _ _ _ h => h) hS (MR.free rfl) (fun wq hw => by simp [execOp, MR.ev, MR.size, hsz, e0, f0, e5, f5, (show wq.cell? ⟨q, 2, none⟩ = some (.int .i64 (r3 : Int)) from hw), go_sem]) ?_
        refine MR.takeH (i := 2) (some 28) (.int .i64 ((r3 : Int) + 1)) rfl rfl (by kernel_rfl) (by kernel_rfl) (by kernel_rfl) (fun _ _ _ h => h) hS (MR.free rfl) (fun wq hw => by simp [execOp, MR.ev, MR.size, hsz, e0, f0, e5, f5, hw1, go_sem]) ?_
        refine MR.takeH (i := 3) (some 29) (.pointer (some ⟨p, 0, none⟩)) rfl rfl (by kernel_rfl) (by kernel_rfl) (by kernel_rfl) (fun _ _ _ h => h) hS (MR.free rfl) (fun wq hw => by simp [execOp, MR.ev, MR.size, hsz, e0, f0, e5, f5, go_sem]) ?_
        refine MR.callH (i := 4) (some 30) (46) (#[.pointer (some ⟨p, 0, none⟩), .int .i64 30]) (by kernel_rfl) rfl rfl (MR.free rfl) (by simp [execOp, MR.ev, MR.size, hsz, e0, f0, e5, f5, go_sem]) ?_
        refine (pick_any p a zs cap (M' + 8) _ _ hz (by omega) hcD).mono ?_
        rintro e w7 ⟨r5, rfl, hr5, _, hc7, ho7⟩
        have h530 : r5 < 30 := by omega
        have hbx7 := MC.own_only hbD ho7 hp4
        have hown7 := MC.own_only hownD ho7 hplt
        have hor7 := horD.trans ho7
        have hS2 : w7.cell? ⟨q, 2, none⟩ = some (.int .i64 (r3 : Int)) := (hbx7.cellAt 2 (by omega)).trans rfl
        refine ⟨_, rfl, hS2, ?_⟩
        have hw2 : IntKind.i64.wrap ((r3 : Int) + 1 + (r5 : Int)) = (r3 : Int) + 1 + (r5 : Int) := by rw [IntKind.wrap_i64]; omega
        refine MR.takeH (i := 5) (some 31) (.int .i64 ((r3 : Int) + 1 + (r5 : Int))) rfl rfl (by kernel_rfl) (by kernel_rfl) (by kernel_rfl) (fun _ _ _ h => h) hS2 (MR.free rfl) (fun wq hw => by simp [execOp, MR.ev, MR.size, hsz, e0, f0, e5, f5, hw2, go_sem]) ?_
        refine MR.takeH (i := 6) (some 32) (.pointer (some ⟨q, 3, none⟩)) rfl rfl (by kernel_rfl) (by kernel_rfl) (by kernel_rfl) (fun _ _ _ h => h) hS2 (MR.free rfl) (fun wq hw => by simp [execOp, MR.ev, MR.size, hsz, e0, f0, e5, f5, go_sem]) ?_
        have k3 : w7.cell? ⟨q, 3, none⟩ = some (.int .i64 0) := (hbx7.cellAt 3 (by omega)).trans rfl
        have f3 := hbx7.frozenAt 3
        have kl := (hbx7.lt q rfl).2
        have st := hbx7.stored 3 (.int .i64 ((r3 : Int) + 1 + (r5 : Int)))
        have hown := hown7.kept st.2 (.inr (fun e => absurd (hlA q e) (by omega)))
        have hcx := hc7.grown st.2 (fun j hj => by simp at hj; omega)
        have hox := hor7.grown st.2 (fun j hj => by simp at hj; omega)
        have hbx := st.1
        clear st hbx7 hown7 hc7 hor7 ho7 hr5
        simp only [List.set_cons_succ, List.set_cons_zero] at hbx
        have hS3 : (w7.setCell ⟨q, 3, none⟩ (.int .i64 ((r3 : Int) + 1 + (r5 : Int)))).cell? ⟨q, 2, none⟩ = some (.int .i64 (r3 : Int)) := (hbx.cellAt 2 (by omega)).trans rfl
        refine MR.storeH (w' := w7.setCell ⟨q, 3, none⟩ (.int .i64 ((r3 : Int) + 1 + (r5 : Int)))) (i := 7) (by kernel_rfl) rfl (MR.free rfl) (by simp [execOp, MR.ev, MR.size, hsz, e0, f0, e5, f5, k3, f3, kl, go_sem]) ⟨hS3, ?_⟩
        refine wpAnyH_done (by kernel_rfl) ?_ _
        rw [HA.out]
        simp only [Act.put, List.setIfInBounds_toArray, List.set_cons_succ, List.set_cons_zero]
        clear HA hsz e0 f0 e5 f5 hS hS2 hS3 k3 f3 kl hcD hbD hownD horD hS0 hw1 hw2
        generalize (w7.setCell ⟨q, 3, none⟩ (.int .i64 ((r3 : Int) + 1 + (r5 : Int)))) = w8 at *
        by_cases h12 : r1 = r2
        · subst h12
          have k0 : w8.cell? ⟨q, 0, none⟩ = some (.int .i64 (r1 : Int)) := (hbx.cellAt 0 (by omega)).trans rfl
          have k1 : w8.cell? ⟨q, 1, none⟩ = some (.int .i64 (r1 : Int)) := (hbx.cellAt 1 (by omega)).trans rfl
          have f1 := hbx.frozenAt 1
          have kl := (hbx.lt q rfl).2
          have st := hbx.stored 1 (.int .i64 (((r1 : Int) + 1) % 5))
          replace hown := hown.kept st.2 (.inr (fun e => absurd (hlA q e) (by omega)))
          replace hcx := hcx.grown st.2 (fun j hj => by simp at hj; omega)
          replace hox := hox.grown st.2 (fun j hj => by simp at hj; omega)
          replace hbx := st.1
          clear st
          simp only [List.set_cons_succ, List.set_cons_zero] at hbx
          have n0 : (w8.setCell ⟨q, 1, none⟩ (.int .i64 (((r1 : Int) + 1) % 5))).cell? ⟨q, 0, none⟩ = some (.int .i64 ((r1 : Int))) := (hbx.cellAt 0 (by omega)).trans rfl
          have n1 : (w8.setCell ⟨q, 1, none⟩ (.int .i64 (((r1 : Int) + 1) % 5))).cell? ⟨q, 1, none⟩ = some (.int .i64 (((r1 : Int) + 1) % 5)) := (hbx.cellAt 1 (by omega)).trans rfl
          have n2 : (w8.setCell ⟨q, 1, none⟩ (.int .i64 (((r1 : Int) + 1) % 5))).cell? ⟨q, 2, none⟩ = some (.int .i64 ((r3 : Int))) := (hbx.cellAt 2 (by omega)).trans rfl
          have n3 : (w8.setCell ⟨q, 1, none⟩ (.int .i64 (((r1 : Int) + 1) % 5))).cell? ⟨q, 3, none⟩ = some (.int .i64 ((r3 : Int) + 1 + (r5 : Int))) := (hbx.cellAt 3 (by omega)).trans rfl
          have n4 : (w8.setCell ⟨q, 1, none⟩ (.int .i64 (((r1 : Int) + 1) % 5))).cell? ⟨q, 4, none⟩ = some (.int .i64 ((r4 : Int))) := (hbx.cellAt 4 (by omega)).trans rfl
          have nl := (hbx.lt q rfl).2
          have hsW := hox.size
          clear hbx
          go_wp2_with (at_builtin; refine wpList_append_own _ rfl _ _ 23 rfl w.heap.size 91 i2 (.agg #[.int .i64 0, .int .i64 0, .int .i64 0, .int .i64 0, .int .i64 0]) 5 40 Try.underlying23 hi' hz0' hz1' hz2' rfl (by decide) _ _ _ rfl (hown.alloc _) ⟨w8.heap.size, 0, none⟩ 1 1 [.int .i64 (r1 : Int), .int .i64 (((r1 : Int) + 1) % 5), .int .i64 (r3 : Int), .int .i64 ((r3 : Int) + 1 + (r5 : Int)), .int .i64 (r4 : Int)] rfl rfl ?d11 ?d12 ?d13 ?d14 ?d15 ?_)
          case d11 => exact PLD.new5 _ _ _ _ (by simp)
          case d12 => exact PLD.one5 _ _ _ _ _
          case d13 => unfold maxLen; omega
          case d14 => omega
          case d15 => simp; omega
          intro v' wn hown1 hgrow _
          have R1 : wn.ownsRow w.heap.size 91 5 v' (l ++ [(⟨(r1 : Int), ((r1 : Int) + 1) % 5, (r3 : Int), (r3 : Int) + 1 + (r5 : Int), (r4 : Int)⟩ : I5)]).length (MI5.flat (l ++ [⟨(r1 : Int), ((r1 : Int) + 1) % 5, (r3 : Int), (r3 : Int) + 1 + (r5 : Int), (r4 : Int)⟩])) := by rw [← PLD.flat_snoc, List.length_append]; exact hown1
          have R2 := (hcx.alloc _).grown hgrow (fun j hj => by have := (hown.lt j hj).1; omega)
          have R3 := (hox.alloc _).grown hgrow (fun j hj => (hown.lt j hj).1)
          have hl2 : (l ++ [(⟨(r1 : Int), ((r1 : Int) + 1) % 5, (r3 : Int), (r3 : Int) + 1 + (r5 : Int), (r4 : Int)⟩ : I5)]).length = l.length + 1 := by simp
          clear hown1 hgrow hown n0 n1 n2 n3 n4 nl hcx hox
          generalize l ++ [(⟨(r1 : Int), ((r1 : Int) + 1) % 5, (r3 : Int), (r3 : Int) + 1 + (r5 : Int), (r4 : Int)⟩ : I5)] = l2 at *
          go_wp2
          go_roundw
          case rel => exact ⟨m - 1, l2, _, by go_num, by omega, R1, R2, by omega, R3⟩
          case measure => simp [intOf]; omega
        · have h12' : ((r1 : Int) == (r2 : Int)) = false := by simp; omega
          have n0 : w8.cell? ⟨q, 0, none⟩ = some (.int .i64 ((r1 : Int))) := (hbx.cellAt 0 (by omega)).trans rfl
          have n1 : w8.cell? ⟨q, 1, none⟩ = some (.int .i64 ((r2 : Int))) := (hbx.cellAt 1 (by omega)).trans rfl
          have n2 : w8.cell? ⟨q, 2, none⟩ = some (.int .i64 ((r3 : Int))) := (hbx.cellAt 2 (by omega)).trans rfl
          have n3 : w8.cell? ⟨q, 3, none⟩ = some (.int .i64 ((r3 : Int) + 1 + (r5 : Int))) := (hbx.cellAt 3 (by omega)).trans rfl
          have n4 : w8.cell? ⟨q, 4, none⟩ = some (.int .i64 ((r4 : Int))) := (hbx.cellAt 4 (by omega)).trans rfl
          have nl := (hbx.lt q rfl).2
          have hsW := hox.size
          clear hbx
          go_wp2_with (at_builtin; refine wpList_append_own _ rfl _ _ 23 rfl w.heap.size 91 i2 (.agg #[.int .i64 0, .int .i64 0, .int .i64 0, .int .i64 0, .int .i64 0]) 5 40 Try.underlying23 hi' hz0' hz1' hz2' rfl (by decide) _ _ _ rfl (hown.alloc _) ⟨w8.heap.size, 0, none⟩ 1 1 [.int .i64 (r1 : Int), .int .i64 ((r2 : Int)), .int .i64 (r3 : Int), .int .i64 ((r3 : Int) + 1 + (r5 : Int)), .int .i64 (r4 : Int)] rfl rfl ?d21 ?d22 ?d23 ?d24 ?d25 ?_)
          case d21 => exact PLD.new5 _ _ _ _ (by simp)
          case d22 => exact PLD.one5 _ _ _ _ _
          case d23 => unfold maxLen; omega
          case d24 => omega
          case d25 => simp; omega
          intro v' wn hown1 hgrow _
          have R1 : wn.ownsRow w.heap.size 91 5 v' (l ++ [(⟨(r1 : Int), (r2 : Int), (r3 : Int), (r3 : Int) + 1 + (r5 : Int), (r4 : Int)⟩ : I5)]).length (MI5.flat (l ++ [⟨(r1 : Int), (r2 : Int), (r3 : Int), (r3 : Int) + 1 + (r5 : Int), (r4 : Int)⟩])) := by rw [← PLD.flat_snoc, List.length_append]; exact hown1
          have R2 := (hcx.alloc _).grown hgrow (fun j hj => by have := (hown.lt j hj).1; omega)
          have R3 := (hox.alloc _).grown hgrow (fun j hj => (hown.lt j hj).1)
          have hl2 : (l ++ [(⟨(r1 : Int), (r2 : Int), (r3 : Int), (r3 : Int) + 1 + (r5 : Int), (r4 : Int)⟩ : I5)]).length = l.length + 1 := by simp
          clear hown1 hgrow hown n0 n1 n2 n3 n4 nl hcx hox
          generalize l ++ [(⟨(r1 : Int), (r2 : Int), (r3 : Int), (r3 : Int) + 1 + (r5 : Int), (r4 : Int)⟩ : I5)] = l2 at *
          go_wp2
          go_roundw
          case rel => exact ⟨m - 1, l2, _, by go_num, by omega, R1, R2, by omega, R3⟩
          case measure => simp [intOf]; omega
      · obtain rfl : m = 0 := by omega
        by_cases h0 : l.length = 0
        · obtain ⟨av, lc, hv, -⟩ := PLD.own_row5 hown
          rw [hv] at hown ⊢
          rw [h0] at hown ⊢
          clear hv
          go_wp2
          go_ret
          exact ⟨av, lc, l, by rw [h0]; rfl, by omega, by rw [h0]; exact hown, hcr.more (by omega), hor⟩
        · have h0' : (0 : Int) < (l.length : Int) := by omega
          obtain ⟨g, lc, hv⟩ := PLD.own_some hown (by omega)
          rw [hv] at hown ⊢
          clear hv
          go_wp2_with fail
          refine (one_any p a zs cap M' _ _ hz (by omega) hcr).mono ?_
          rintro e w3 ⟨b, rfl, hc3, ho3⟩
          have hown3 := MC.own_only hown ho3 hplt
          have hor3 := hor.trans ho3
          have hs3 := hor3.size
          clear hown ho3 hcr hor
          cases b with
          | false =>
            go_wp2
            go_ret
            exact ⟨_, lc, l, rfl, by omega, hown3, hc3.more (by omega), hor3⟩
          | true =>
            have hgl := hown3.lt g rfl
            go_wp2_with fail
            refine (among_any p a zs cap (M' + 2) (some ⟨w3.heap.size, 0, none⟩) [0, 1000, 1001] 3 _ hz (by omega) (hc3.alloc _) (by simp) (by simp) ?_ ?_).mono ?_
            · exact .inr ⟨w3.heap.size, 0, rfl, by simp, fun j hj => by
                rw [Nat.zero_add]
                have h3 : j < 3 := hj
                rcases (show j = 0 ∨ j = 1 ∨ j = 2 by omega) with rfl | rfl | rfl <;> exact World.cell?_alloc_at _ _ _ _ (by rfl)⟩
            · intro b off hb; cases hb; have := hc3.lt; omega
            rintro e w4 ⟨z, rfl, -, hc4, ho4⟩
            have hown4 := MC.own_only (hown3.alloc (.cells #[.int .i64 0, .int .i64 1000, .int .i64 1001] 3)) ho4 hplt
            have hor4 := (hor3.alloc (.cells #[.int .i64 0, .int .i64 1000, .int .i64 1001] 3)).trans ho4
            have hs4 := ho4.size
            obtain ⟨-, -, -, -, hx4, -⟩ := (MI5.RowAt.of_own hown4).at0 (j := 0) (by omega)
            generalize (MI5.at_ l 0).a3 = z4 at hx4
            simp only [Nat.zero_mul, Nat.zero_add] at hx4
            have hf4 := hown4.frozenAt 3
            obtain ⟨ys, hyl, hys⟩ := PLD.flat_to l z (by omega)
            have R1 := (hown4.stored 3 (.int .i64 z)).1
            have R0 := (hown4.stored 3 (.int .i64 z)).2
            have R2 := hc4.grown R0 (fun j hj => by cases hj; omega)
            have R3 := hor4.grown R0 (fun j hj => by cases hj; exact hgl.1)
            rw [hys, ← hyl] at R1
            have hy21 : ys.length ≤ 21 := by omega
            have hy0 : (0 : Int) < (ys.length : Int) := by omega
            rw [← hyl]
            clear hown4 hown3 hor4 hc4 R0 hc3 hor3 ho4 hys hyl h0 h0'
            go_wp2
            go_ret
            exact ⟨_, lc, ys, rfl, hy21, R1, R2.more (by omega), R3⟩
end Go.Proofs.Ytjplabldiheggaa
