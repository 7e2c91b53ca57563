/- Roads, drawn (laid by tools/gen_roadd.py). -/
import Derived.Test.YtclhfhjkcocdcaaRows
import Derived.Test.YtclhfhjkcocdcaaMI3
import Derived.Test.YtclhfhjkcocdcaaCAmong
import Derived.Test.YtclhfhjkcocdcaaM5
import Derived.Test.YtclhfhjkcocdcaaMCurNew
import Derived.WalkKit
import Derived.WalkSpells
import Derived.WalkLawsBesides
import Derived.Outline
namespace Go.Proofs.Ytclhfhjkcocdcaa
open Go.RowKit
theorem Try.infoRoadD : (Try.prog.info? 37).map (fun i => (i.zero, i.size, i.bytes)) = some (some (.agg #[.int .i64 0, .int .i64 0, .int .i64 0]), 3, 24) := by kernel_rfl
namespace RDD
theorem flat_to : ∀ (xs : List I3) (z : Int), 0 < xs.length → ∃ ys : List I3, ys.length = xs.length ∧ (MI3.flat xs).set 2 (.int .i64 z) = MI3.flat ys
  | x :: xs, z, _ => ⟨⟨x.a0, x.a1, z⟩ :: xs, rfl, by simp [MI3.flat, I3.cs]⟩
theorem own_row3 {w : World} {base e n : Nat} {v : Value} {xs : List I3} (h : w.ownsRow base e 3 v n (MI3.flat xs)) : ∃ a cap, v = .slice a n cap ∧ MI3.RowAt w a xs := by
  have hlen : xs.length = n := by have := h.1; rw [MI3.flat_len] at this; omega
  rcases h.2 with ⟨rfl, h0⟩ | ⟨g, cap, cur, rfl, hb, hg, hc1, hc2, hc3, hc4⟩
  · subst h0
    exact ⟨none, 0, rfl, ⟨.inl (List.eq_nil_of_length_eq_zero hlen)⟩⟩
  · exact ⟨_, cap, rfl, MI3.RowAt.of_own h⟩
theorem own_some {w : World} {base e sz n : Nat} {v : Value} {xs : List Value} (h : w.ownsRow base e sz v n xs) (hn : 0 < n) : ∃ g cap, v = .slice (some ⟨g, 0, none⟩) n cap := by
  rcases h.2 with ⟨-, h0⟩ | ⟨g, cap, cur, rfl, -⟩
  · omega
  · exact ⟨g, cap, rfl⟩
theorem new3 (W : World) (cs : List Value) (e : TypeId) (n : Nat) (hn : W.heap.size = n) : ∀ (j : Nat) (u : Value), cs[j]? = some u → (W.alloc (.cells cs.toArray e)).cell? ((⟨n, 0, none⟩ : Addr).add j) = some u := by
  intro j u h
  subst hn
  have hadd : (⟨W.heap.size, 0, none⟩ : Addr).add j = ⟨W.heap.size, j, none⟩ := by unfold Addr.add; split <;> simp_all
  rw [hadd, World.cell?_alloc_at _ _ _ _ (by rfl)]
  simpa using h
theorem one3 (x y z : Int) : ∀ u ∈ [Value.int .i64 x, .int .i64 y, .int .i64 z], u.oneCell' = true := by intro u hu; simp at hu; rcases hu with rfl | rfl | rfl <;> rfl
theorem flat_snoc (l : List I3) (x y z : Int) : MI3.flat l ++ [Value.int .i64 x, .int .i64 y, .int .i64 z] = MI3.flat (l ++ [⟨x, y, z⟩]) := by rw [MI3.flat_app]; rfl
end RDD
set_option linter.unusedSimpArgs false in
set_option maxHeartbeats 6400000 in
set_option maxRecDepth 100000 in
theorem roads_any (p : Nat) (a : Option Addr) (zs : List Int) (cap M : Nat) (w : World) (hz : zs.length ≤ 140737488355328) (hM : M ≤ 140737488340000) (hc : MC.Cur w p a zs cap M) :
    Calls Try.prog 33 #[.pointer (some ⟨p, 0, none⟩)] w fun e w' => ∃ a1 c1 l, e = .returned (.slice a1 (List.length l) c1) ∧ l.length ≤ 21 ∧ w'.ownsRow w.heap.size 37 3 (.slice a1 l.length c1) l.length (MI3.flat l) ∧ MC.Cur w' p a zs cap (M + 300) ∧ MC.Only p w w' := by
  obtain ⟨i2, hi', hz0', hz1', hz2'⟩ := info_parts Try.infoRoadD
  have hplt := hc.lt
  go_enter Try.func33, Try.ntmps33
  go_wp2_with fail
  refine (pick_any p a zs cap M _ _ hz (by omega) hc).mono ?_
  rintro e w1 ⟨r, rfl, hr, _, hc1, ho1⟩
  have hr6 : r < 12 := by omega
  clear hr hc
  go_wp2_with fail
  refine (one_any p a zs cap (M + 2) _ _ hz (by omega) hc1).mono ?_
  rintro e w2 ⟨b, rfl, hc2, ho2⟩
  have hoA := ho1.trans ho2
  clear ho1 ho2 hc1
  cases b with
  | false =>
    have HC0 := hc2
    have HO0 := hoA
    clear hc2 hoA
    go_wp2_with fail
    go_loopw [3, 4] (fun lv nv wr => ∃ (m : Nat) (l : List I3) (M' : Nat), nv = .int .i64 m ∧ l.length + m ≤ 21 ∧ wr.ownsRow w.heap.size 37 3 lv l.length (MI3.flat l) ∧ MC.Cur wr p a zs cap M' ∧ M' + 10 * m ≤ M + 250 ∧ MC.Only p w wr) (fun _ nv _ => (intOf nv).toNat)
    case atStart => exact ⟨r, [], M + 4, rfl, by simp; omega, World.ownsRow_nil _ _ _ _, HC0, by omega, HO0⟩
    case round =>
      clear HC0 HO0
      obtain ⟨m, l, M', rfl, hm, hown, hcr, hMr, hor⟩ := hrel
      have hows := hor.size
      by_cases hm0 : 0 < m
      · have m0 : (0 : Int) < (m : Int) := by omega
        go_wp2_with fail
        refine (pick_any p a zs cap M' _ _ hz (by omega) hcr).mono ?_
        rintro e w3 ⟨r1, rfl, hr1, _, hc3, ho3⟩
        have hown3 := MC.own_only hown ho3 hplt
        have hor3 := hor.trans ho3
        have h15 : r1 < 5 := by omega
        clear hown ho3 hcr hr1 hor
        go_wp2_with fail
        refine (pick_any p a zs cap (M' + 2) _ _ hz (by omega) hc3).mono ?_
        rintro e w5 ⟨r2, rfl, hr2, _, hc5, ho5⟩
        have hown5 := MC.own_only hown3 ho5 hplt
        have hor5 := hor3.trans ho5
        have h25 : r2 < 5 := by omega
        clear hown3 ho5 hc3 hr2 hor3
        go_wp2_with fail
        refine (pick_any p a zs cap (M' + 4) _ _ hz (by omega) hc5).mono ?_
        rintro e w4 ⟨r3, rfl, hr3, _, hc4, ho4⟩
        have hownW := MC.own_only hown5 ho4 hplt
        have hor4 := hor5.trans ho4
        have hs4 := hor4.size
        have h35 : r3 < 12 := by omega
        clear hown5 ho4 hc5 hr3 hor5
        have hbx0 := World.ownsRow_lit (base := w4.heap.size) (e := 37) (size := 3) w4 #[.int .i64 (r1 : Int), .int .i64 (r2 : Int), .int .i64 ((r3 : Int) - 1)] 1 (Nat.le_refl _) (by unfold maxLen; omega) (by simp)
        have hownA := hownW.alloc (.cells #[.int .i64 (r1 : Int), .int .i64 (r2 : Int), .int .i64 ((r3 : Int) - 1)] 37)
        have hlA : ∀ j, u3.ownBlock = some j → j < w4.heap.size := fun j hj => (hownW.lt j hj).2
        have hcA := hc4.alloc (.cells #[.int .i64 (r1 : Int), .int .i64 (r2 : Int), .int .i64 ((r3 : Int) - 1)] 37)
        have horA := hor4.alloc (.cells #[.int .i64 (r1 : Int), .int .i64 (r2 : Int), .int .i64 ((r3 : Int) - 1)] 37)
        have hp4 := hc4.lt
        clear hownW hc4 hor4
        go_wp2_with fail
        generalize (w4.alloc (.cells #[.int .i64 (r1 : Int), .int .i64 (r2 : Int), .int .i64 ((r3 : Int) - 1)] 37)) = WA at *
        obtain ⟨q, hq⟩ : ∃ q, w4.heap.size = q := ⟨_, rfl⟩
        rw [hq] at hbx0 hlA hp4 hs4 ⊢
        refine (one_any p a zs cap (M' + 6) _ _ hz (by omega) hcA).mono ?_
        rintro e w6 ⟨b8, rfl, hc6, ho6⟩
        have hbx6 := MC.own_only hbx0 ho6 hp4
        have hown6 := MC.own_only hownA ho6 hplt
        have hor6 := horA.trans ho6
        clear hbx0 hownA hcA horA ho6 hq
        cases b8 with
        | false =>
          have hbx := hbx6
          have hown := hown6
          have hcx := hc6.more (show M' + 6 + 2 ≤ M' + 10 by omega)
          have hox := hor6
          clear hbx6 hown6 hc6 hor6
          by_cases h12 : r1 = r2
          · subst h12
            have k0 : w6.cell? ⟨q, 0, none⟩ = some (.int .i64 (r1 : Int)) := (hbx.cellAt 0 (by omega)).trans rfl
            have k1 : w6.cell? ⟨q, 1, none⟩ = some (.int .i64 (r1 : Int)) := (hbx.cellAt 1 (by omega)).trans rfl
            have f1 := hbx.frozenAt 1
            have kl := (hbx.lt q rfl).2
            have st := hbx.stored 1 (.int .i64 (((r1 : Int) + 1) % 5))
            replace hown := hown.kept st.2 (.inr (fun e => absurd (hlA q e) (by omega)))
            replace hcx := hcx.grown st.2 (fun j hj => by simp at hj; omega)
            replace hox := hox.grown st.2 (fun j hj => by simp at hj; omega)
            replace hbx := st.1
            clear st
            simp only [List.set_cons_succ, List.set_cons_zero] at hbx
            have n0 : (w6.setCell ⟨q, 1, none⟩ (.int .i64 (((r1 : Int) + 1) % 5))).cell? ⟨q, 0, none⟩ = some (.int .i64 (r1 : Int)) := (hbx.cellAt 0 (by omega)).trans rfl
            have n1 : (w6.setCell ⟨q, 1, none⟩ (.int .i64 (((r1 : Int) + 1) % 5))).cell? ⟨q, 1, none⟩ = some (.int .i64 (((r1 : Int) + 1) % 5)) := (hbx.cellAt 1 (by omega)).trans rfl
            have n2 : (w6.setCell ⟨q, 1, none⟩ (.int .i64 (((r1 : Int) + 1) % 5))).cell? ⟨q, 2, none⟩ = some (.int .i64 ((r3 : Int) - 1)) := (hbx.cellAt 2 (by omega)).trans rfl
            have nl := (hbx.lt q rfl).2
            have hsW := hox.size
            clear hbx
            go_wp2_with (at_builtin; refine wpList_append_own _ rfl _ _ 23 rfl w.heap.size 37 i2 (.agg #[.int .i64 0, .int .i64 0, .int .i64 0]) 3 24 Try.underlying23 hi' hz0' hz1' hz2' rfl (by decide) _ _ _ rfl (hown.alloc _) ⟨w6.heap.size, 0, none⟩ 1 1 [.int .i64 (r1 : Int), .int .i64 (((r1 : Int) + 1) % 5), .int .i64 ((r3 : Int) - 1)] rfl rfl ?c11 ?c12 ?c13 ?c14 ?c15 ?_)
            case c11 => exact RDD.new3 _ _ _ _ (by simp)
            case c12 => exact RDD.one3 _ _ _
            case c13 => unfold maxLen; omega
            case c14 => omega
            case c15 => simp; omega
            intro v' wn hown1 hgrow _
            have R1 : wn.ownsRow w.heap.size 37 3 v' (l ++ [(⟨(r1 : Int), ((r1 : Int) + 1) % 5, (r3 : Int) - 1⟩ : I3)]).length (MI3.flat (l ++ [⟨(r1 : Int), ((r1 : Int) + 1) % 5, (r3 : Int) - 1⟩])) := by rw [← RDD.flat_snoc, List.length_append]; exact hown1
            have R2 := (hcx.alloc _).grown hgrow (fun j hj => by have := (hown.lt j hj).1; omega)
            have R3 := (hox.alloc _).grown hgrow (fun j hj => (hown.lt j hj).1)
            have hl2 : (l ++ [(⟨(r1 : Int), ((r1 : Int) + 1) % 5, (r3 : Int) - 1⟩ : I3)]).length = l.length + 1 := by simp
            clear hown1 hgrow hown n0 n1 n2 nl hcx hox
            generalize l ++ [(⟨(r1 : Int), ((r1 : Int) + 1) % 5, (r3 : Int) - 1⟩ : I3)] = l2 at *
            go_wp2
            go_roundw
            case rel => exact ⟨m - 1, l2, _, by go_num, by omega, R1, R2, by omega, R3⟩
            case measure => simp [intOf]; omega
          · have h12' : ((r1 : Int) == (r2 : Int)) = false := by simp; omega
            have n0 : w6.cell? ⟨q, 0, none⟩ = some (.int .i64 (r1 : Int)) := (hbx.cellAt 0 (by omega)).trans rfl
            have n1 : w6.cell? ⟨q, 1, none⟩ = some (.int .i64 ((r2 : Int))) := (hbx.cellAt 1 (by omega)).trans rfl
            have n2 : w6.cell? ⟨q, 2, none⟩ = some (.int .i64 ((r3 : Int) - 1)) := (hbx.cellAt 2 (by omega)).trans rfl
            have nl := (hbx.lt q rfl).2
            have hsW := hox.size
            clear hbx
            go_wp2_with (at_builtin; refine wpList_append_own _ rfl _ _ 23 rfl w.heap.size 37 i2 (.agg #[.int .i64 0, .int .i64 0, .int .i64 0]) 3 24 Try.underlying23 hi' hz0' hz1' hz2' rfl (by decide) _ _ _ rfl (hown.alloc _) ⟨w6.heap.size, 0, none⟩ 1 1 [.int .i64 (r1 : Int), .int .i64 ((r2 : Int)), .int .i64 ((r3 : Int) - 1)] rfl rfl ?c21 ?c22 ?c23 ?c24 ?c25 ?_)
            case c21 => exact RDD.new3 _ _ _ _ (by simp)
            case c22 => exact RDD.one3 _ _ _
            case c23 => unfold maxLen; omega
            case c24 => omega
            case c25 => simp; omega
            intro v' wn hown1 hgrow _
            have R1 : wn.ownsRow w.heap.size 37 3 v' (l ++ [(⟨(r1 : Int), (r2 : Int), (r3 : Int) - 1⟩ : I3)]).length (MI3.flat (l ++ [⟨(r1 : Int), (r2 : Int), (r3 : Int) - 1⟩])) := by rw [← RDD.flat_snoc, List.length_append]; exact hown1
            have R2 := (hcx.alloc _).grown hgrow (fun j hj => by have := (hown.lt j hj).1; omega)
            have R3 := (hox.alloc _).grown hgrow (fun j hj => (hown.lt j hj).1)
            have hl2 : (l ++ [(⟨(r1 : Int), (r2 : Int), (r3 : Int) - 1⟩ : I3)]).length = l.length + 1 := by simp
            clear hown1 hgrow hown n0 n1 n2 nl hcx hox
            generalize l ++ [(⟨(r1 : Int), (r2 : Int), (r3 : Int) - 1⟩ : I3)] = l2 at *
            go_wp2
            go_roundw
            case rel => exact ⟨m - 1, l2, _, by go_num, by omega, R1, R2, by omega, R3⟩
            case measure => simp [intOf]; omega
        | true =>
          go_wp2_with fail
          refine (pick_any p a zs cap (M' + 8) _ _ hz (by omega) hc6).mono ?_
          rintro e w7 ⟨r4, rfl, hr4, _, hc7, ho7⟩
          have hbx7 := MC.own_only hbx6 ho7 hp4
          have hown7 := MC.own_only hown6 ho7 hplt
          have hor7 := hor6.trans ho7
          have h44 : r4 < 4 := by omega
          have k2 : w7.cell? ⟨q, 2, none⟩ = some (.int .i64 ((r3 : Int) - 1)) := (hbx7.cellAt 2 (by omega)).trans rfl
          have f2 := hbx7.frozenAt 2
          have kl := (hbx7.lt q rfl).2
          have st := hbx7.stored 2 (.int .i64 (-(r4 : Int)))
          have hown := hown7.kept st.2 (.inr (fun e => absurd (hlA q e) (by omega)))
          have hcx := (hc7.more (show M' + 8 + 2 ≤ M' + 10 by omega)).grown st.2 (fun j hj => by simp at hj; omega)
          have hox := hor7.grown st.2 (fun j hj => by simp at hj; omega)
          have hbx := st.1
          clear st hbx6 hbx7 hown6 hown7 hc6 hc7 hor6 hor7 ho7 hr4
          simp only [List.set_cons_succ, List.set_cons_zero] at hbx
          have hsz8 : (w7.setCell ⟨q, 2, none⟩ (.int .i64 (-(r4 : Int)))).heap.size = w7.heap.size := by simp
          by_cases h12 : r1 = r2
          · subst h12
            have k0 : (w7.setCell ⟨q, 2, none⟩ (.int .i64 (-(r4 : Int)))).cell? ⟨q, 0, none⟩ = some (.int .i64 (r1 : Int)) := (hbx.cellAt 0 (by omega)).trans rfl
            have k1 : (w7.setCell ⟨q, 2, none⟩ (.int .i64 (-(r4 : Int)))).cell? ⟨q, 1, none⟩ = some (.int .i64 (r1 : Int)) := (hbx.cellAt 1 (by omega)).trans rfl
            have f1 := hbx.frozenAt 1
            have kl := (hbx.lt q rfl).2
            have st := hbx.stored 1 (.int .i64 (((r1 : Int) + 1) % 5))
            replace hown := hown.kept st.2 (.inr (fun e => absurd (hlA q e) (by omega)))
            replace hcx := hcx.grown st.2 (fun j hj => by simp at hj; omega)
            replace hox := hox.grown st.2 (fun j hj => by simp at hj; omega)
            replace hbx := st.1
            clear st
            simp only [List.set_cons_succ, List.set_cons_zero] at hbx
            have n0 : ((w7.setCell ⟨q, 2, none⟩ (.int .i64 (-(r4 : Int)))).setCell ⟨q, 1, none⟩ (.int .i64 (((r1 : Int) + 1) % 5))).cell? ⟨q, 0, none⟩ = some (.int .i64 (r1 : Int)) := (hbx.cellAt 0 (by omega)).trans rfl
            have n1 : ((w7.setCell ⟨q, 2, none⟩ (.int .i64 (-(r4 : Int)))).setCell ⟨q, 1, none⟩ (.int .i64 (((r1 : Int) + 1) % 5))).cell? ⟨q, 1, none⟩ = some (.int .i64 (((r1 : Int) + 1) % 5)) := (hbx.cellAt 1 (by omega)).trans rfl
            have n2 : ((w7.setCell ⟨q, 2, none⟩ (.int .i64 (-(r4 : Int)))).setCell ⟨q, 1, none⟩ (.int .i64 (((r1 : Int) + 1) % 5))).cell? ⟨q, 2, none⟩ = some (.int .i64 (-(r4 : Int))) := (hbx.cellAt 2 (by omega)).trans rfl
            have nl := (hbx.lt q rfl).2
            have hsW := hox.size
            clear hbx
            go_wp2_with (at_builtin; refine wpList_append_own _ rfl _ _ 23 rfl w.heap.size 37 i2 (.agg #[.int .i64 0, .int .i64 0, .int .i64 0]) 3 24 Try.underlying23 hi' hz0' hz1' hz2' rfl (by decide) _ _ _ rfl (hown.alloc _) ⟨w7.heap.size, 0, none⟩ 1 1 [.int .i64 (r1 : Int), .int .i64 (((r1 : Int) + 1) % 5), .int .i64 (-(r4 : Int))] rfl rfl ?c31 ?c32 ?c33 ?c34 ?c35 ?_)
            case c31 => exact RDD.new3 _ _ _ _ (by simp)
            case c32 => exact RDD.one3 _ _ _
            case c33 => unfold maxLen; omega
            case c34 => omega
            case c35 => simp; omega
            intro v' wn hown1 hgrow _
            have R1 : wn.ownsRow w.heap.size 37 3 v' (l ++ [(⟨(r1 : Int), ((r1 : Int) + 1) % 5, -(r4 : Int)⟩ : I3)]).length (MI3.flat (l ++ [⟨(r1 : Int), ((r1 : Int) + 1) % 5, -(r4 : Int)⟩])) := by rw [← RDD.flat_snoc, List.length_append]; exact hown1
            have R2 := (hcx.alloc _).grown hgrow (fun j hj => by have := (hown.lt j hj).1; omega)
            have R3 := (hox.alloc _).grown hgrow (fun j hj => (hown.lt j hj).1)
            have hl2 : (l ++ [(⟨(r1 : Int), ((r1 : Int) + 1) % 5, -(r4 : Int)⟩ : I3)]).length = l.length + 1 := by simp
            clear hown1 hgrow hown n0 n1 n2 nl hcx hox
            generalize l ++ [(⟨(r1 : Int), ((r1 : Int) + 1) % 5, -(r4 : Int)⟩ : I3)] = l2 at *
            go_wp2
            go_roundw
            case rel => exact ⟨m - 1, l2, _, by go_num, by omega, R1, R2, by omega, R3⟩
            case measure => simp [intOf]; omega
          · have h12' : ((r1 : Int) == (r2 : Int)) = false := by simp; omega
            have n0 : (w7.setCell ⟨q, 2, none⟩ (.int .i64 (-(r4 : Int)))).cell? ⟨q, 0, none⟩ = some (.int .i64 (r1 : Int)) := (hbx.cellAt 0 (by omega)).trans rfl
            have n1 : (w7.setCell ⟨q, 2, none⟩ (.int .i64 (-(r4 : Int)))).cell? ⟨q, 1, none⟩ = some (.int .i64 ((r2 : Int))) := (hbx.cellAt 1 (by omega)).trans rfl
            have n2 : (w7.setCell ⟨q, 2, none⟩ (.int .i64 (-(r4 : Int)))).cell? ⟨q, 2, none⟩ = some (.int .i64 (-(r4 : Int))) := (hbx.cellAt 2 (by omega)).trans rfl
            have nl := (hbx.lt q rfl).2
            have hsW := hox.size
            clear hbx
            go_wp2_with (at_builtin; refine wpList_append_own _ rfl _ _ 23 rfl w.heap.size 37 i2 (.agg #[.int .i64 0, .int .i64 0, .int .i64 0]) 3 24 Try.underlying23 hi' hz0' hz1' hz2' rfl (by decide) _ _ _ rfl (hown.alloc _) ⟨w7.heap.size, 0, none⟩ 1 1 [.int .i64 (r1 : Int), .int .i64 ((r2 : Int)), .int .i64 (-(r4 : Int))] rfl rfl ?c41 ?c42 ?c43 ?c44 ?c45 ?_)
            case c41 => exact RDD.new3 _ _ _ _ (by simp)
            case c42 => exact RDD.one3 _ _ _
            case c43 => unfold maxLen; omega
            case c44 => omega
            case c45 => simp; omega
            intro v' wn hown1 hgrow _
            have R1 : wn.ownsRow w.heap.size 37 3 v' (l ++ [(⟨(r1 : Int), (r2 : Int), -(r4 : Int)⟩ : I3)]).length (MI3.flat (l ++ [⟨(r1 : Int), (r2 : Int), -(r4 : Int)⟩])) := by rw [← RDD.flat_snoc, List.length_append]; exact hown1
            have R2 := (hcx.alloc _).grown hgrow (fun j hj => by have := (hown.lt j hj).1; omega)
            have R3 := (hox.alloc _).grown hgrow (fun j hj => (hown.lt j hj).1)
            have hl2 : (l ++ [(⟨(r1 : Int), (r2 : Int), -(r4 : Int)⟩ : I3)]).length = l.length + 1 := by simp
            clear hown1 hgrow hown n0 n1 n2 nl hcx hox
            generalize l ++ [(⟨(r1 : Int), (r2 : Int), -(r4 : Int)⟩ : I3)] = l2 at *
            go_wp2
            go_roundw
            case rel => exact ⟨m - 1, l2, _, by go_num, by omega, R1, R2, by omega, R3⟩
            case measure => simp [intOf]; omega
      · obtain rfl : m = 0 := by omega
        by_cases h0 : l.length = 0
        · obtain ⟨av, lc, hv, -⟩ := RDD.own_row3 hown
          rw [hv] at hown ⊢
          rw [h0] at hown ⊢
          clear hv
          go_wp2
          go_ret
          exact ⟨av, lc, l, by rw [h0]; rfl, by omega, by rw [h0]; exact hown, hcr.more (by omega), hor⟩
        · have h0' : (0 : Int) < (l.length : Int) := by omega
          obtain ⟨g, lc, hv⟩ := RDD.own_some hown (by omega)
          rw [hv] at hown ⊢
          clear hv
          go_wp2_with fail
          refine (one_any p a zs cap M' _ _ hz (by omega) hcr).mono ?_
          rintro e w3 ⟨b, rfl, hc3, ho3⟩
          have hown3 := MC.own_only hown ho3 hplt
          have hor3 := hor.trans ho3
          have hs3 := hor3.size
          clear hown ho3 hcr hor
          cases b with
          | false =>
            go_wp2
            go_ret
            exact ⟨_, lc, l, rfl, by omega, hown3, hc3.more (by omega), hor3⟩
          | true =>
            have hgl := hown3.lt g rfl
            go_wp2_with fail
            refine (among_any p a zs cap (M' + 2) (some ⟨w3.heap.size, 0, none⟩) [-101, -100, 100, 101] 4 _ hz (by omega) (hc3.alloc _) (by simp) (by simp) ?_ ?_).mono ?_
            · exact .inr ⟨w3.heap.size, 0, rfl, by simp, fun j hj => by
                rw [Nat.zero_add]
                have h3 : j < 4 := hj
                rcases (show j = 0 ∨ j = 1 ∨ j = 2 ∨ j = 3 by omega) with rfl | rfl | rfl | rfl <;> exact World.cell?_alloc_at _ _ _ _ (by rfl)⟩
            · intro b off hb; cases hb; have := hc3.lt; omega
            rintro e w4 ⟨z, rfl, -, hc4, ho4⟩
            have hown4 := MC.own_only (hown3.alloc (.cells #[.int .i64 (-101), .int .i64 (-100), .int .i64 100, .int .i64 101] 3)) ho4 hplt
            have hor4 := (hor3.alloc (.cells #[.int .i64 (-101), .int .i64 (-100), .int .i64 100, .int .i64 101] 3)).trans ho4
            have hs4 := ho4.size
            obtain ⟨-, -, -, hx4⟩ := (MI3.RowAt.of_own hown4).at0 (j := 0) (by omega)
            generalize (MI3.at_ l 0).a2 = z4 at hx4
            simp only [Nat.zero_mul, Nat.zero_add] at hx4
            have hf4 := hown4.frozenAt 2
            obtain ⟨ys, hyl, hys⟩ := RDD.flat_to l z (by omega)
            have R1 := (hown4.stored 2 (.int .i64 z)).1
            have R0 := (hown4.stored 2 (.int .i64 z)).2
            have R2 := hc4.grown R0 (fun j hj => by cases hj; omega)
            have R3 := hor4.grown R0 (fun j hj => by cases hj; exact hgl.1)
            rw [hys, ← hyl] at R1
            have hy21 : ys.length ≤ 21 := by omega
            have hy0 : (0 : Int) < (ys.length : Int) := by omega
            rw [← hyl]
            clear hown4 hown3 hor4 hc4 R0 hc3 hor3 ho4 hys hyl h0 h0'
            go_wp2
            go_ret
            exact ⟨_, lc, ys, rfl, hy21, R1, R2.more (by omega), R3⟩
  | true =>
    go_wp2_with fail
    refine (pick_any p a zs cap (M + 4) _ _ hz (by omega) hc2).mono ?_
    rintro e w2' ⟨r2, rfl, hr2, _, hc2', ho2'⟩
    have hr22 : r2 < 2 := by omega
    have HC0 := hc2'
    have HO0 := hoA.trans ho2'
    clear hr2 hc2 hoA ho2' hc2'
    go_wp2_with fail
    go_loopw [3, 4] (fun lv nv wr => ∃ (m : Nat) (l : List I3) (M' : Nat), nv = .int .i64 m ∧ l.length + m ≤ 21 ∧ wr.ownsRow w.heap.size 37 3 lv l.length (MI3.flat l) ∧ MC.Cur wr p a zs cap M' ∧ M' + 10 * m ≤ M + 250 ∧ MC.Only p w wr) (fun _ nv _ => (intOf nv).toNat)
    case atStart => exact ⟨20 + r2, [], M + 6, by go_num, by simp; omega, World.ownsRow_nil _ _ _ _, HC0, by omega, HO0⟩
    case round =>
      clear HC0 HO0
      obtain ⟨m, l, M', rfl, hm, hown, hcr, hMr, hor⟩ := hrel
      have hows := hor.size
      by_cases hm0 : 0 < m
      · have m0 : (0 : Int) < (m : Int) := by omega
        go_wp2_with fail
        refine (pick_any p a zs cap M' _ _ hz (by omega) hcr).mono ?_
        rintro e w3 ⟨r1, rfl, hr1, _, hc3, ho3⟩
        have hown3 := MC.own_only hown ho3 hplt
        have hor3 := hor.trans ho3
        have h15 : r1 < 5 := by omega
        clear hown ho3 hcr hr1 hor
        go_wp2_with fail
        refine (pick_any p a zs cap (M' + 2) _ _ hz (by omega) hc3).mono ?_
        rintro e w5 ⟨r2, rfl, hr2, _, hc5, ho5⟩
        have hown5 := MC.own_only hown3 ho5 hplt
        have hor5 := hor3.trans ho5
        have h25 : r2 < 5 := by omega
        clear hown3 ho5 hc3 hr2 hor3
        go_wp2_with fail
        refine (pick_any p a zs cap (M' + 4) _ _ hz (by omega) hc5).mono ?_
        rintro e w4 ⟨r3, rfl, hr3, _, hc4, ho4⟩
        have hownW := MC.own_only hown5 ho4 hplt
        have hor4 := hor5.trans ho4
        have hs4 := hor4.size
        have h35 : r3 < 12 := by omega
        clear hown5 ho4 hc5 hr3 hor5
        have hbx0 := World.ownsRow_lit (base := w4.heap.size) (e := 37) (size := 3) w4 #[.int .i64 (r1 : Int), .int .i64 (r2 : Int), .int .i64 ((r3 : Int) - 1)] 1 (Nat.le_refl _) (by unfold maxLen; omega) (by simp)
        have hownA := hownW.alloc (.cells #[.int .i64 (r1 : Int), .int .i64 (r2 : Int), .int .i64 ((r3 : Int) - 1)] 37)
        have hlA : ∀ j, u3.ownBlock = some j → j < w4.heap.size := fun j hj => (hownW.lt j hj).2
        have hcA := hc4.alloc (.cells #[.int .i64 (r1 : Int), .int .i64 (r2 : Int), .int .i64 ((r3 : Int) - 1)] 37)
        have horA := hor4.alloc (.cells #[.int .i64 (r1 : Int), .int .i64 (r2 : Int), .int .i64 ((r3 : Int) - 1)] 37)
        have hp4 := hc4.lt
        clear hownW hc4 hor4
        go_wp2_with fail
        generalize (w4.alloc (.cells #[.int .i64 (r1 : Int), .int .i64 (r2 : Int), .int .i64 ((r3 : Int) - 1)] 37)) = WA at *
        obtain ⟨q, hq⟩ : ∃ q, w4.heap.size = q := ⟨_, rfl⟩
        rw [hq] at hbx0 hlA hp4 hs4 ⊢
        refine (one_any p a zs cap (M' + 6) _ _ hz (by omega) hcA).mono ?_
        rintro e w6 ⟨b8, rfl, hc6, ho6⟩
        have hbx6 := MC.own_only hbx0 ho6 hp4
        have hown6 := MC.own_only hownA ho6 hplt
        have hor6 := horA.trans ho6
        clear hbx0 hownA hcA horA ho6 hq
        cases b8 with
        | false =>
          have hbx := hbx6
          have hown := hown6
          have hcx := hc6.more (show M' + 6 + 2 ≤ M' + 10 by omega)
          have hox := hor6
          clear hbx6 hown6 hc6 hor6
          by_cases h12 : r1 = r2
          · subst h12
            have k0 : w6.cell? ⟨q, 0, none⟩ = some (.int .i64 (r1 : Int)) := (hbx.cellAt 0 (by omega)).trans rfl
            have k1 : w6.cell? ⟨q, 1, none⟩ = some (.int .i64 (r1 : Int)) := (hbx.cellAt 1 (by omega)).trans rfl
            have f1 := hbx.frozenAt 1
            have kl := (hbx.lt q rfl).2
            have st := hbx.stored 1 (.int .i64 (((r1 : Int) + 1) % 5))
            replace hown := hown.kept st.2 (.inr (fun e => absurd (hlA q e) (by omega)))
            replace hcx := hcx.grown st.2 (fun j hj => by simp at hj; omega)
            replace hox := hox.grown st.2 (fun j hj => by simp at hj; omega)
            replace hbx := st.1
            clear st
            simp only [List.set_cons_succ, List.set_cons_zero] at hbx
            have n0 : (w6.setCell ⟨q, 1, none⟩ (.int .i64 (((r1 : Int) + 1) % 5))).cell? ⟨q, 0, none⟩ = some (.int .i64 (r1 : Int)) := (hbx.cellAt 0 (by omega)).trans rfl
            have n1 : (w6.setCell ⟨q, 1, none⟩ (.int .i64 (((r1 : Int) + 1) % 5))).cell? ⟨q, 1, none⟩ = some (.int .i64 (((r1 : Int) + 1) % 5)) := (hbx.cellAt 1 (by omega)).trans rfl
            have n2 : (w6.setCell ⟨q, 1, none⟩ (.int .i64 (((r1 : Int) + 1) % 5))).cell? ⟨q, 2, none⟩ = some (.int .i64 ((r3 : Int) - 1)) := (hbx.cellAt 2 (by omega)).trans rfl
            have nl := (hbx.lt q rfl).2
            have hsW := hox.size
            clear hbx
            go_wp2_with (at_builtin; refine wpList_append_own _ rfl _ _ 23 rfl w.heap.size 37 i2 (.agg #[.int .i64 0, .int .i64 0, .int .i64 0]) 3 24 Try.underlying23 hi' hz0' hz1' hz2' rfl (by decide) _ _ _ rfl (hown.alloc _) ⟨w6.heap.size, 0, none⟩ 1 1 [.int .i64 (r1 : Int), .int .i64 (((r1 : Int) + 1) % 5), .int .i64 ((r3 : Int) - 1)] rfl rfl ?d11 ?d12 ?d13 ?d14 ?d15 ?_)
            case d11 => exact RDD.new3 _ _ _ _ (by simp)
            case d12 => exact RDD.one3 _ _ _
            case d13 => unfold maxLen; omega
            case d14 => omega
            case d15 => simp; omega
            intro v' wn hown1 hgrow _
            have R1 : wn.ownsRow w.heap.size 37 3 v' (l ++ [(⟨(r1 : Int), ((r1 : Int) + 1) % 5, (r3 : Int) - 1⟩ : I3)]).length (MI3.flat (l ++ [⟨(r1 : Int), ((r1 : Int) + 1) % 5, (r3 : Int) - 1⟩])) := by rw [← RDD.flat_snoc, List.length_append]; exact hown1
            have R2 := (hcx.alloc _).grown hgrow (fun j hj => by have := (hown.lt j hj).1; omega)
            have R3 := (hox.alloc _).grown hgrow (fun j hj => (hown.lt j hj).1)
            have hl2 : (l ++ [(⟨(r1 : Int), ((r1 : Int) + 1) % 5, (r3 : Int) - 1⟩ : I3)]).length = l.length + 1 := by simp
            clear hown1 hgrow hown n0 n1 n2 nl hcx hox
            generalize l ++ [(⟨(r1 : Int), ((r1 : Int) + 1) % 5, (r3 : Int) - 1⟩ : I3)] = l2 at *
            go_wp2
            go_roundw
            case rel => exact ⟨m - 1, l2, _, by go_num, by omega, R1, R2, by omega, R3⟩
            case measure => simp [intOf]; omega
          · have h12' : ((r1 : Int) == (r2 : Int)) = false := by simp; omega
            have n0 : w6.cell? ⟨q, 0, none⟩ = some (.int .i64 (r1 : Int)) := (hbx.cellAt 0 (by omega)).trans rfl
            have n1 : w6.cell? ⟨q, 1, none⟩ = some (.int .i64 ((r2 : Int))) := (hbx.cellAt 1 (by omega)).trans rfl
            have n2 : w6.cell? ⟨q, 2, none⟩ = some (.int .i64 ((r3 : Int) - 1)) := (hbx.cellAt 2 (by omega)).trans rfl
            have nl := (hbx.lt q rfl).2
            have hsW := hox.size
            clear hbx
            go_wp2_with (at_builtin; refine wpList_append_own _ rfl _ _ 23 rfl w.heap.size 37 i2 (.agg #[.int .i64 0, .int .i64 0, .int .i64 0]) 3 24 Try.underlying23 hi' hz0' hz1' hz2' rfl (by decide) _ _ _ rfl (hown.alloc _) ⟨w6.heap.size, 0, none⟩ 1 1 [.int .i64 (r1 : Int), .int .i64 ((r2 : Int)), .int .i64 ((r3 : Int) - 1)] rfl rfl ?d21 ?d22 ?d23 ?d24 ?d25 ?_)
            case d21 => exact RDD.new3 _ _ _ _ (by simp)
            case d22 => exact RDD.one3 _ _ _
            case d23 => unfold maxLen; omega
            case d24 => omega
            case d25 => simp; omega
            intro v' wn hown1 hgrow _
            have R1 : wn.ownsRow w.heap.size 37 3 v' (l ++ [(⟨(r1 : Int), (r2 : Int), (r3 : Int) - 1⟩ : I3)]).length (MI3.flat (l ++ [⟨(r1 : Int), (r2 : Int), (r3 : Int) - 1⟩])) := by rw [← RDD.flat_snoc, List.length_append]; exact hown1
            have R2 := (hcx.alloc _).grown hgrow (fun j hj => by have := (hown.lt j hj).1; omega)
            have R3 := (hox.alloc _).grown hgrow (fun j hj => (hown.lt j hj).1)
            have hl2 : (l ++ [(⟨(r1 : Int), (r2 : Int), (r3 : Int) - 1⟩ : I3)]).length = l.length + 1 := by simp
            clear hown1 hgrow hown n0 n1 n2 nl hcx hox
            generalize l ++ [(⟨(r1 : Int), (r2 : Int), (r3 : Int) - 1⟩ : I3)] = l2 at *
            go_wp2
            go_roundw
            case rel => exact ⟨m - 1, l2, _, by go_num, by omega, R1, R2, by omega, R3⟩
            case measure => simp [intOf]; omega
        | true =>
          go_wp2_with fail
          refine (pick_any p a zs cap (M' + 8) _ _ hz (by omega) hc6).mono ?_
          rintro e w7 ⟨r4, rfl, hr4, _, hc7, ho7⟩
          have hbx7 := MC.own_only hbx6 ho7 hp4
          have hown7 := MC.own_only hown6 ho7 hplt
          have hor7 := hor6.trans ho7
          have h44 : r4 < 4 := by omega
          have k2 : w7.cell? ⟨q, 2, none⟩ = some (.int .i64 ((r3 : Int) - 1)) := (hbx7.cellAt 2 (by omega)).trans rfl
          have f2 := hbx7.frozenAt 2
          have kl := (hbx7.lt q rfl).2
          have st := hbx7.stored 2 (.int .i64 (-(r4 : Int)))
          have hown := hown7.kept st.2 (.inr (fun e => absurd (hlA q e) (by omega)))
          have hcx := (hc7.more (show M' + 8 + 2 ≤ M' + 10 by omega)).grown st.2 (fun j hj => by simp at hj; omega)
          have hox := hor7.grown st.2 (fun j hj => by simp at hj; omega)
          have hbx := st.1
          clear st hbx6 hbx7 hown6 hown7 hc6 hc7 hor6 hor7 ho7 hr4
          simp only [List.set_cons_succ, List.set_cons_zero] at hbx
          have hsz8 : (w7.setCell ⟨q, 2, none⟩ (.int .i64 (-(r4 : Int)))).heap.size = w7.heap.size := by simp
          by_cases h12 : r1 = r2
          · subst h12
            have k0 : (w7.setCell ⟨q, 2, none⟩ (.int .i64 (-(r4 : Int)))).cell? ⟨q, 0, none⟩ = some (.int .i64 (r1 : Int)) := (hbx.cellAt 0 (by omega)).trans rfl
            have k1 : (w7.setCell ⟨q, 2, none⟩ (.int .i64 (-(r4 : Int)))).cell? ⟨q, 1, none⟩ = some (.int .i64 (r1 : Int)) := (hbx.cellAt 1 (by omega)).trans rfl
            have f1 := hbx.frozenAt 1
            have kl := (hbx.lt q rfl).2
            have st := hbx.stored 1 (.int .i64 (((r1 : Int) + 1) % 5))
            replace hown := hown.kept st.2 (.inr (fun e => absurd (hlA q e) (by omega)))
            replace hcx := hcx.grown st.2 (fun j hj => by simp at hj; omega)
            replace hox := hox.grown st.2 (fun j hj => by simp at hj; omega)
            replace hbx := st.1
            clear st
            simp only [List.set_cons_succ, List.set_cons_zero] at hbx
            have n0 : ((w7.setCell ⟨q, 2, none⟩ (.int .i64 (-(r4 : Int)))).setCell ⟨q, 1, none⟩ (.int .i64 (((r1 : Int) + 1) % 5))).cell? ⟨q, 0, none⟩ = some (.int .i64 (r1 : Int)) := (hbx.cellAt 0 (by omega)).trans rfl
            have n1 : ((w7.setCell ⟨q, 2, none⟩ (.int .i64 (-(r4 : Int)))).setCell ⟨q, 1, none⟩ (.int .i64 (((r1 : Int) + 1) % 5))).cell? ⟨q, 1, none⟩ = some (.int .i64 (((r1 : Int) + 1) % 5)) := (hbx.cellAt 1 (by omega)).trans rfl
            have n2 : ((w7.setCell ⟨q, 2, none⟩ (.int .i64 (-(r4 : Int)))).setCell ⟨q, 1, none⟩ (.int .i64 (((r1 : Int) + 1) % 5))).cell? ⟨q, 2, none⟩ = some (.int .i64 (-(r4 : Int))) := (hbx.cellAt 2 (by omega)).trans rfl
            have nl := (hbx.lt q rfl).2
            have hsW := hox.size
            clear hbx
            go_wp2_with (at_builtin; refine wpList_append_own _ rfl _ _ 23 rfl w.heap.size 37 i2 (.agg #[.int .i64 0, .int .i64 0, .int .i64 0]) 3 24 Try.underlying23 hi' hz0' hz1' hz2' rfl (by decide) _ _ _ rfl (hown.alloc _) ⟨w7.heap.size, 0, none⟩ 1 1 [.int .i64 (r1 : Int), .int .i64 (((r1 : Int) + 1) % 5), .int .i64 (-(r4 : Int))] rfl rfl ?d31 ?d32 ?d33 ?d34 ?d35 ?_)
            case d31 => exact RDD.new3 _ _ _ _ (by simp)
            case d32 => exact RDD.one3 _ _ _
            case d33 => unfold maxLen; omega
            case d34 => omega
            case d35 => simp; omega
            intro v' wn hown1 hgrow _
            have R1 : wn.ownsRow w.heap.size 37 3 v' (l ++ [(⟨(r1 : Int), ((r1 : Int) + 1) % 5, -(r4 : Int)⟩ : I3)]).length (MI3.flat (l ++ [⟨(r1 : Int), ((r1 : Int) + 1) % 5, -(r4 : Int)⟩])) := by rw [← RDD.flat_snoc, List.length_append]; exact hown1
            have R2 := (hcx.alloc _).grown hgrow (fun j hj => by have := (hown.lt j hj).1; omega)
            have R3 := (hox.alloc _).grown hgrow (fun j hj => (hown.lt j hj).1)
            have hl2 : (l ++ [(⟨(r1 : Int), ((r1 : Int) + 1) % 5, -(r4 : Int)⟩ : I3)]).length = l.length + 1 := by simp
            clear hown1 hgrow hown n0 n1 n2 nl hcx hox
            generalize l ++ [(⟨(r1 : Int), ((r1 : Int) + 1) % 5, -(r4 : Int)⟩ : I3)] = l2 at *
            go_wp2
            go_roundw
            case rel => exact ⟨m - 1, l2, _, by go_num, by omega, R1, R2, by omega, R3⟩
            case measure => simp [intOf]; omega
          · have h12' : ((r1 : Int) == (r2 : Int)) = false := by simp; omega
            have n0 : (w7.setCell ⟨q, 2, none⟩ (.int .i64 (-(r4 : Int)))).cell? ⟨q, 0, none⟩ = some (.int .i64 (r1 : Int)) := (hbx.cellAt 0 (by omega)).trans rfl
            have n1 : (w7.setCell ⟨q, 2, none⟩ (.int .i64 (-(r4 : Int)))).cell? ⟨q, 1, none⟩ = some (.int .i64 ((r2 : Int))) := (hbx.cellAt 1 (by omega)).trans rfl
            have n2 : (w7.setCell ⟨q, 2, none⟩ (.int .i64 (-(r4 : Int)))).cell? ⟨q, 2, none⟩ = some (.int .i64 (-(r4 : Int))) := (hbx.cellAt 2 (by omega)).trans rfl
            have nl := (hbx.lt q rfl).2
            have hsW := hox.size
            clear hbx
            go_wp2_with (at_builtin; refine wpList_append_own _ rfl _ _ 23 rfl w.heap.size 37 i2 (.agg #[.int .i64 0, .int .i64 0, .int .i64 0]) 3 24 Try.underlying23 hi' hz0' hz1' hz2' rfl (by decide) _ _ _ rfl (hown.alloc _) ⟨w7.heap.size, 0, none⟩ 1 1 [.int .i64 (r1 : Int), .int .i64 ((r2 : Int)), .int .i64 (-(r4 : Int))] rfl rfl ?d41 ?d42 ?d43 ?d44 ?d45 ?_)
            case d41 => exact RDD.new3 _ _ _ _ (by simp)
            case d42 => exact RDD.one3 _ _ _
            case d43 => unfold maxLen; omega
            case d44 => omega
            case d45 => simp; omega
            intro v' wn hown1 hgrow _
            have R1 : wn.ownsRow w.heap.size 37 3 v' (l ++ [(⟨(r1 : Int), (r2 : Int), -(r4 : Int)⟩ : I3)]).length (MI3.flat (l ++ [⟨(r1 : Int), (r2 : Int), -(r4 : Int)⟩])) := by rw [← RDD.flat_snoc, List.length_append]; exact hown1
            have R2 := (hcx.alloc _).grown hgrow (fun j hj => by have := (hown.lt j hj).1; omega)
            have R3 := (hox.alloc _).grown hgrow (fun j hj => (hown.lt j hj).1)
            have hl2 : (l ++ [(⟨(r1 : Int), (r2 : Int), -(r4 : Int)⟩ : I3)]).length = l.length + 1 := by simp
            clear hown1 hgrow hown n0 n1 n2 nl hcx hox
            generalize l ++ [(⟨(r1 : Int), (r2 : Int), -(r4 : Int)⟩ : I3)] = l2 at *
            go_wp2
            go_roundw
            case rel => exact ⟨m - 1, l2, _, by go_num, by omega, R1, R2, by omega, R3⟩
            case measure => simp [intOf]; omega
      · obtain rfl : m = 0 := by omega
        by_cases h0 : l.length = 0
        · obtain ⟨av, lc, hv, -⟩ := RDD.own_row3 hown
          rw [hv] at hown ⊢
          rw [h0] at hown ⊢
          clear hv
          go_wp2
          go_ret
          exact ⟨av, lc, l, by rw [h0]; rfl, by omega, by rw [h0]; exact hown, hcr.more (by omega), hor⟩
        · have h0' : (0 : Int) < (l.length : Int) := by omega
          obtain ⟨g, lc, hv⟩ := RDD.own_some hown (by omega)
          rw [hv] at hown ⊢
          clear hv
          go_wp2_with fail
          refine (one_any p a zs cap M' _ _ hz (by omega) hcr).mono ?_
          rintro e w3 ⟨b, rfl, hc3, ho3⟩
          have hown3 := MC.own_only hown ho3 hplt
          have hor3 := hor.trans ho3
          have hs3 := hor3.size
          clear hown ho3 hcr hor
          cases b with
          | false =>
            go_wp2
            go_ret
            exact ⟨_, lc, l, rfl, by omega, hown3, hc3.more (by omega), hor3⟩
          | true =>
            have hgl := hown3.lt g rfl
            go_wp2_with fail
            refine (among_any p a zs cap (M' + 2) (some ⟨w3.heap.size, 0, none⟩) [-101, -100, 100, 101] 4 _ hz (by omega) (hc3.alloc _) (by simp) (by simp) ?_ ?_).mono ?_
            · exact .inr ⟨w3.heap.size, 0, rfl, by simp, fun j hj => by
                rw [Nat.zero_add]
                have h3 : j < 4 := hj
                rcases (show j = 0 ∨ j = 1 ∨ j = 2 ∨ j = 3 by omega) with rfl | rfl | rfl | rfl <;> exact World.cell?_alloc_at _ _ _ _ (by rfl)⟩
            · intro b off hb; cases hb; have := hc3.lt; omega
            rintro e w4 ⟨z, rfl, -, hc4, ho4⟩
            have hown4 := MC.own_only (hown3.alloc (.cells #[.int .i64 (-101), .int .i64 (-100), .int .i64 100, .int .i64 101] 3)) ho4 hplt
            have hor4 := (hor3.alloc (.cells #[.int .i64 (-101), .int .i64 (-100), .int .i64 100, .int .i64 101] 3)).trans ho4
            have hs4 := ho4.size
            obtain ⟨-, -, -, hx4⟩ := (MI3.RowAt.of_own hown4).at0 (j := 0) (by omega)
            generalize (MI3.at_ l 0).a2 = z4 at hx4
            simp only [Nat.zero_mul, Nat.zero_add] at hx4
            have hf4 := hown4.frozenAt 2
            obtain ⟨ys, hyl, hys⟩ := RDD.flat_to l z (by omega)
            have R1 := (hown4.stored 2 (.int .i64 z)).1
            have R0 := (hown4.stored 2 (.int .i64 z)).2
            have R2 := hc4.grown R0 (fun j hj => by cases hj; omega)
            have R3 := hor4.grown R0 (fun j hj => by cases hj; exact hgl.1)
            rw [hys, ← hyl] at R1
            have hy21 : ys.length ≤ 21 := by omega
            have hy0 : (0 : Int) < (ys.length : Int) := by omega
            rw [← hyl]
            clear hown4 hown3 hor4 hc4 R0 hc3 hor3 ho4 hys hyl h0 h0'
            go_wp2
            go_ret
            exact ⟨_, lc, ys, rfl, hy21, R1, R2.more (by omega), R3⟩
set_option linter.unusedSimpArgs false in
set_option maxHeartbeats 1600000 in
set_option maxRecDepth 100000 in
theorem drawRoads_any (a : Option Addr) (zs : List Int) (cap : Nat) (w : World) (hz : zs.length ≤ 140737488355328) (hb : MC.BytesAt w w.heap.size a zs) :
    Calls Try.prog 23 #[.slice a zs.length cap] w fun e w' => ∃ a1 c1 xs, e = .returned (.slice a1 (List.length xs) c1) ∧ xs.length ≤ 21 ∧ MI3.RowAt w' a1 xs ∧ Below w.heap.size w w' := by
  go_enter Try.func23, Try.ntmps23
  go_wp2_with fail
  refine (roads_any w.heap.size a zs cap 0 _ hz (by omega) (cur_new hb)).mono ?_
  rintro e w1 ⟨a1, c1, xs, rfl, hxl, hX, hc1, ho1⟩
  have hR : MI3.RowAt w1 a1 xs := by
    obtain ⟨a9, c9, e9, hR9⟩ := RDD.own_row3 hX
    simp only [Value.slice.injEq] at e9
    obtain ⟨rfl, -, -⟩ := e9
    exact hR9
  have hB1 := new_below rfl ho1
  clear hX ho1 hb hc1
  go_wp2
  go_ret
  exact ⟨a1, c1, xs, rfl, hxl, hR, hB1⟩
set_option maxHeartbeats 1600000 in
set_option maxRecDepth 100000 in
theorem drawAllCosts_any (a : Option Addr) (zs : List Int) (cap : Nat) (w : World) (hz : zs.length ≤ 140737488355328) (hb : MC.BytesAt w w.heap.size a zs) :
    Calls Try.prog 5 #[.slice a zs.length cap] w fun e w' => ∃ a1 c1 xs, e = .returned (.slice a1 (List.length xs) c1) ∧ xs.length ≤ 21 ∧ MI3.RowAt w' a1 xs ∧ Below w.heap.size w w' := by
  go_enter Try.func5, Try.ntmps5
  go_wp2_with fail
  refine (drawRoads_any a zs cap _ hz hb).mono ?_
  rintro e w1 ⟨a1, c1, xs, rfl, hxl, hR, hB1⟩
  go_wp2
  go_ret
  exact ⟨a1, c1, xs, rfl, hxl, hR, hB1⟩
set_option maxHeartbeats 1600000 in
set_option maxRecDepth 100000 in
theorem drawReduced_any (a : Option Addr) (zs : List Int) (cap : Nat) (w : World) (hz : zs.length ≤ 140737488355328) (hb : MC.BytesAt w w.heap.size a zs) :
    Calls Try.prog 17 #[.slice a zs.length cap] w fun e w' => ∃ a1 c1 xs, e = .returned (.slice a1 (List.length xs) c1) ∧ xs.length ≤ 21 ∧ MI3.RowAt w' a1 xs ∧ Below w.heap.size w w' := by
  go_enter Try.func17, Try.ntmps17
  go_wp2_with fail
  refine (drawRoads_any a zs cap _ hz hb).mono ?_
  rintro e w1 ⟨a1, c1, xs, rfl, hxl, hR, hB1⟩
  go_wp2
  go_ret
  exact ⟨a1, c1, xs, rfl, hxl, hR, hB1⟩
end Go.Proofs.Ytclhfhjkcocdcaa
