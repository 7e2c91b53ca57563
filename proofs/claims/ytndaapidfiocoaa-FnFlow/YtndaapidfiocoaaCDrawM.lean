import Derived.Test.YtndaapidfiocoaaRows
import Derived.Test.YtndaapidfiocoaaMI3
import Derived.Test.YtndaapidfiocoaaMCur
import Derived.Test.YtndaapidfiocoaaCAmong
import Derived.Test.YtndaapidfiocoaaM5
import Derived.WalkKit
import Derived.WalkSpells
import Derived.WalkLawsBesides
import Derived.Outline
/- Pipes that are drawn (laid by tools/gen_pipes.py). -/
namespace Go.Proofs.Ytndaapidfiocoaa
open Go.RowKit
theorem Try.infoPipeD : (Try.prog.info? 56).map (fun i => (i.zero, i.size, i.bytes)) = some (some (.agg #[.int .i64 0, .int .i64 0, .int .i64 0]), 3, 24) := by kernel_rfl
namespace PD8
theorem flat_to : ∀ (xs : List I3) (z : Int), 0 < xs.length → ∃ ys : List I3, ys.length = xs.length ∧ (MI3.flat xs).set 2 (.int .i64 z) = MI3.flat ys
  | x :: xs, z, _ => ⟨⟨x.a0, x.a1, z⟩ :: xs, rfl, by simp [MI3.flat, I3.cs]⟩
theorem own_row3 {w : World} {base e n : Nat} {v : Value} {xs : List I3} (h : w.ownsRow base e 3 v n (MI3.flat xs)) : ∃ a cap, v = .slice a n cap ∧ MI3.RowAt w a xs := by
  have hlen : xs.length = n := by have := h.1; rw [MI3.flat_len] at this; omega
  rcases h.2 with ⟨rfl, h0⟩ | ⟨g, cap, cur, rfl, hb, hg, hc1, hc2, hc3, hc4⟩
  · subst h0
    exact ⟨none, 0, rfl, ⟨.inl (List.eq_nil_of_length_eq_zero hlen)⟩⟩
  · exact ⟨_, cap, rfl, MI3.RowAt.of_own h⟩
theorem own_some {w : World} {base e sz n : Nat} {v : Value} {xs : List Value} (h : w.ownsRow base e sz v n xs) (hn : 0 < n) : ∃ g cap, v = .slice (some ⟨g, 0, none⟩) n cap := by
  rcases h.2 with ⟨-, h0⟩ | ⟨g, cap, cur, rfl, -⟩
  · omega
  · exact ⟨g, cap, rfl⟩
theorem new3 (W : World) (cs : List Value) (e : TypeId) (n : Nat) (hn : W.heap.size = n) : ∀ (j : Nat) (u : Value), cs[j]? = some u → (W.alloc (.cells cs.toArray e)).cell? ((⟨n, 0, none⟩ : Addr).add j) = some u := by
  intro j u h
  subst hn
  have hadd : (⟨W.heap.size, 0, none⟩ : Addr).add j = ⟨W.heap.size, j, none⟩ := by unfold Addr.add; split <;> simp_all
  rw [hadd, World.cell?_alloc_at _ _ _ _ (by rfl)]
  simpa using h
theorem one3 (x y z : Int) : ∀ u ∈ [Value.int .i64 x, .int .i64 y, .int .i64 z], u.oneCell' = true := by intro u hu; simp at hu; rcases hu with rfl | rfl | rfl <;> rfl
theorem flat_snoc (l : List I3) (x y z : Int) : MI3.flat l ++ [Value.int .i64 x, .int .i64 y, .int .i64 z] = MI3.flat (l ++ [⟨x, y, z⟩]) := by rw [MI3.flat_app]; rfl
end PD8
set_option linter.unusedSimpArgs false in
set_option maxHeartbeats 3200000 in
set_option maxRecDepth 100000 in
theorem pipes_any (p : Nat) (a : Option Addr) (zs : List Int) (cap M : Nat) (w : World) (hz : zs.length ≤ 140737488355328) (hM : M ≤ 140737488340000) (hc : MC.Cur w p a zs cap M) :
    Calls Try.prog 24 #[.pointer (some ⟨p, 0, none⟩)] w fun e w' => ∃ a1 c1 l, e = .returned (.slice a1 (List.length l) c1) ∧ l.length ≤ 21 ∧ w'.ownsRow w.heap.size 56 3 (.slice a1 l.length c1) l.length (MI3.flat l) ∧ MC.Cur w' p a zs cap (M + 140) ∧ MC.Only p w w' := by
  obtain ⟨i2, hi', hz0', hz1', hz2'⟩ := info_parts Try.infoPipeD
  have hplt := hc.lt
  go_enter Try.func24, Try.ntmps24
  go_wp2_with fail
  refine (pick_any p a zs cap M _ _ hz (by omega) hc).mono ?_
  rintro e w1 ⟨r, rfl, hr, _, hc1, ho1⟩
  have hr6 : r < 14 := by omega
  clear hr hc
  go_wp2_with fail
  refine (one_any p a zs cap (M + 2) _ _ hz (by omega) hc1).mono ?_
  rintro e w2 ⟨b, rfl, hc2, ho2⟩
  have hoA := ho1.trans ho2
  clear ho1 ho2 hc1
  cases b with
  | false =>
    go_wp2_with fail
    go_loopw [3, 4, 5] (fun lv nv kv wr => ∃ (m : Nat) (l : List I3) (M' : Nat), nv = .int .i64 m ∧ l.length + m ≤ 21 ∧ wr.ownsRow w.heap.size 56 3 lv l.length (MI3.flat l) ∧ MC.Cur wr p a zs cap M' ∧ M' + 6 * m ≤ M + 132 ∧ MC.Only p w wr) (fun _ nv _ _ => (intOf nv).toNat)
    case atStart => exact ⟨r, [], M + 4, rfl, by simp; omega, World.ownsRow_nil _ _ _ _, hc2, by omega, hoA⟩
    case round =>
      clear hc2 hoA
      obtain ⟨m, l, M', rfl, hm, hown, hcr, hMr, hor⟩ := hrel
      have hows := hor.size
      by_cases hm0 : 0 < m
      · have m0 : (0 : Int) < (m : Int) := by omega
        go_wp2_with fail
        refine (pick_any p a zs cap M' _ _ hz (by omega) hcr).mono ?_
        rintro e w3 ⟨r1, rfl, hr1, _, hc3, ho3⟩
        have hown3 := MC.own_only hown ho3 hplt
        have hor3 := hor.trans ho3
        have h15 : r1 < 5 := by omega
        clear hown ho3 hcr hr1 hor
        go_wp2_with fail
        refine (pick_any p a zs cap (M' + 2) _ _ hz (by omega) hc3).mono ?_
        rintro e w5 ⟨r2, rfl, hr2, _, hc5, ho5⟩
        have hown5 := MC.own_only hown3 ho5 hplt
        have hor5 := hor3.trans ho5
        have h25 : r2 < 5 := by omega
        clear hown3 ho5 hc3 hr2 hor3
        go_wp2_with fail
        refine (pick_any p a zs cap (M' + 4) _ _ hz (by omega) hc5).mono ?_
        rintro e w4 ⟨r3, rfl, hr3, _, hc4, ho4⟩
        have hownW := MC.own_only hown5 ho4 hplt
        have hor4 := hor5.trans ho4
        have hs4 := hor4.size
        have h35 : r3 < 9 := by omega
        clear hown5 ho4 hc5 hr3 hor5
        by_cases h12 : r1 = r2
        · subst h12
          go_wp2_with (at_builtin; refine wpList_append_own _ rfl _ _ 23 rfl w.heap.size 56 i2 (.agg #[.int .i64 0, .int .i64 0, .int .i64 0]) 3 24 Try.underlying23 hi' hz0' hz1' hz2' rfl (by decide) _ _ _ rfl ((hownW.alloc _).alloc _) ⟨w4.heap.size + 1, 0, none⟩ 1 1 [.int .i64 (r1 : Int), .int .i64 (((r1 : Int) + 1) % 5), .int .i64 (r3 : Int)] rfl rfl ?c1 ?c2 ?c3 ?c4 ?c5 ?_)
          case c1 => exact PD8.new3 _ _ _ _ (by simp)
          case c2 => exact PD8.one3 _ _ _
          case c3 => unfold maxLen; omega
          case c4 => omega
          case c5 => simp; omega
          intro v' wn hown1 hgrow _
          have R1 : wn.ownsRow w.heap.size 56 3 v' (l ++ [(⟨(r1 : Int), (((r1 : Int) + 1) % 5), (r3 : Int)⟩ : I3)]).length (MI3.flat (l ++ [⟨(r1 : Int), (((r1 : Int) + 1) % 5), (r3 : Int)⟩])) := by rw [← PD8.flat_snoc, List.length_append]; exact hown1
          have R2 := ((hc4.alloc _).alloc _).grown hgrow (fun j hj => by have := (hownW.lt j hj).1; omega)
          have R3 := ((hor4.alloc _).alloc _).grown hgrow (fun j hj => (hownW.lt j hj).1)
          have hl2 : (l ++ [(⟨(r1 : Int), (((r1 : Int) + 1) % 5), (r3 : Int)⟩ : I3)]).length = l.length + 1 := by simp
          clear hown1 hgrow hownW
          generalize l ++ [(⟨(r1 : Int), (((r1 : Int) + 1) % 5), (r3 : Int)⟩ : I3)] = l2 at *
          go_wp2
          go_roundw
          case rel => exact ⟨m - 1, l2, _, by go_num, by omega, R1, R2, by omega, R3⟩
          case measure => simp [intOf]; omega
        · have e12 : ((r1 : Int) == (r2 : Int)) = false := by simp; omega
          clear h12
          go_wp2_with (at_builtin; refine wpList_append_own _ rfl _ _ 23 rfl w.heap.size 56 i2 (.agg #[.int .i64 0, .int .i64 0, .int .i64 0]) 3 24 Try.underlying23 hi' hz0' hz1' hz2' rfl (by decide) _ _ _ rfl ((hownW.alloc _).alloc _) ⟨w4.heap.size + 1, 0, none⟩ 1 1 [.int .i64 (r1 : Int), .int .i64 (r2 : Int), .int .i64 (r3 : Int)] rfl rfl ?c1 ?c2 ?c3 ?c4 ?c5 ?_)
          case c1 => exact PD8.new3 _ _ _ _ (by simp)
          case c2 => exact PD8.one3 _ _ _
          case c3 => unfold maxLen; omega
          case c4 => omega
          case c5 => simp; omega
          intro v' wn hown1 hgrow _
          have R1 : wn.ownsRow w.heap.size 56 3 v' (l ++ [(⟨(r1 : Int), (r2 : Int), (r3 : Int)⟩ : I3)]).length (MI3.flat (l ++ [⟨(r1 : Int), (r2 : Int), (r3 : Int)⟩])) := by rw [← PD8.flat_snoc, List.length_append]; exact hown1
          have R2 := ((hc4.alloc _).alloc _).grown hgrow (fun j hj => by have := (hownW.lt j hj).1; omega)
          have R3 := ((hor4.alloc _).alloc _).grown hgrow (fun j hj => (hownW.lt j hj).1)
          have hl2 : (l ++ [(⟨(r1 : Int), (r2 : Int), (r3 : Int)⟩ : I3)]).length = l.length + 1 := by simp
          clear hown1 hgrow hownW
          generalize l ++ [(⟨(r1 : Int), (r2 : Int), (r3 : Int)⟩ : I3)] = l2 at *
          go_wp2
          go_roundw
          case rel => exact ⟨m - 1, l2, _, by go_num, by omega, R1, R2, by omega, R3⟩
          case measure => simp [intOf]; omega
      · obtain rfl : m = 0 := by omega
        by_cases h0 : l.length = 0
        · obtain ⟨av, lc, hv, -⟩ := PD8.own_row3 hown
          rw [hv] at hown ⊢
          rw [h0] at hown ⊢
          clear hv
          go_wp2
          go_ret
          exact ⟨av, lc, l, by rw [h0]; rfl, by omega, by rw [h0]; exact hown, hcr.more (by omega), hor⟩
        · have h0' : (0 : Int) < (l.length : Int) := by omega
          obtain ⟨g, lc, hv⟩ := PD8.own_some hown (by omega)
          rw [hv] at hown ⊢
          clear hv
          go_wp2_with fail
          refine (one_any p a zs cap M' _ _ hz (by omega) hcr).mono ?_
          rintro e w3 ⟨b, rfl, hc3, ho3⟩
          have hown3 := MC.own_only hown ho3 hplt
          have hor3 := hor.trans ho3
          have hs3 := hor3.size
          clear hown ho3 hcr hor
          cases b with
          | false =>
            go_wp2
            go_ret
            exact ⟨_, lc, l, rfl, by omega, hown3, hc3.more (by omega), hor3⟩
          | true =>
            have hgl := hown3.lt g rfl
            go_wp2_with fail
            refine (among_any p a zs cap (M' + 2) (some ⟨w3.heap.size, 0, none⟩) [-1, 100, 101] 3 _ hz (by omega) (hc3.alloc _) (by simp) (by simp) ?_ ?_).mono ?_
            · exact .inr ⟨w3.heap.size, 0, rfl, by simp, fun j hj => by
                rw [Nat.zero_add]
                have h3 : j < 3 := hj
                rcases (show j = 0 ∨ j = 1 ∨ j = 2 by omega) with rfl | rfl | rfl <;> exact World.cell?_alloc_at _ _ _ _ (by rfl)⟩
            · intro b off hb; cases hb; have := hc3.lt; omega
            rintro e w4 ⟨z, rfl, -, hc4, ho4⟩
            have hown4 := MC.own_only (hown3.alloc (.cells #[.int .i64 (-1), .int .i64 100, .int .i64 101] 3)) ho4 hplt
            have hor4 := (hor3.alloc (.cells #[.int .i64 (-1), .int .i64 100, .int .i64 101] 3)).trans ho4
            have hs4 := ho4.size
            obtain ⟨-, -, -, hx4⟩ := (MI3.RowAt.of_own hown4).at0 (j := 0) (by omega)
            generalize (MI3.at_ l 0).a2 = z4 at hx4
            simp only [Nat.zero_mul, Nat.zero_add] at hx4
            have hf4 := hown4.frozenAt 2
            obtain ⟨ys, hyl, hys⟩ := PD8.flat_to l z (by omega)
            have R1 := (hown4.stored 2 (.int .i64 z)).1
            have R0 := (hown4.stored 2 (.int .i64 z)).2
            have R2 := hc4.grown R0 (fun j hj => by cases hj; omega)
            have R3 := hor4.grown R0 (fun j hj => by cases hj; exact hgl.1)
            rw [hys, ← hyl] at R1
            have hy21 : ys.length ≤ 21 := by omega
            have hy0 : (0 : Int) < (ys.length : Int) := by omega
            rw [← hyl]
            clear hown4 hown3 hor4 hc4 R0 hc3 hor3 ho4 hys hyl h0 h0'
            go_wp2
            go_ret
            exact ⟨_, lc, ys, rfl, hy21, R1, R2.more (by omega), R3⟩
  | true =>
    go_wp2_with fail
    refine (pick_any p a zs cap (M + 4) _ _ hz (by omega) hc2).mono ?_
    rintro e w2' ⟨r2, rfl, hr2, _, hc2', ho2'⟩
    have hr22 : r2 < 2 := by omega
    have hoB := hoA.trans ho2'
    clear hr2 hc2 hoA ho2'
    go_wp2_with fail
    go_loopw [3, 4, 5] (fun lv nv kv wr => ∃ (m : Nat) (l : List I3) (M' : Nat), nv = .int .i64 m ∧ l.length + m ≤ 21 ∧ wr.ownsRow w.heap.size 56 3 lv l.length (MI3.flat l) ∧ MC.Cur wr p a zs cap M' ∧ M' + 6 * m ≤ M + 132 ∧ MC.Only p w wr) (fun _ nv _ _ => (intOf nv).toNat)
    case atStart => exact ⟨20 + r2, [], M + 6, by go_num, by simp; omega, World.ownsRow_nil _ _ _ _, hc2', by omega, hoB⟩
    case round =>
      clear hc2' hoB
      obtain ⟨m, l, M', rfl, hm, hown, hcr, hMr, hor⟩ := hrel
      have hows := hor.size
      by_cases hm0 : 0 < m
      · have m0 : (0 : Int) < (m : Int) := by omega
        go_wp2_with fail
        refine (pick_any p a zs cap M' _ _ hz (by omega) hcr).mono ?_
        rintro e w3 ⟨r1, rfl, hr1, _, hc3, ho3⟩
        have hown3 := MC.own_only hown ho3 hplt
        have hor3 := hor.trans ho3
        have h15 : r1 < 5 := by omega
        clear hown ho3 hcr hr1 hor
        go_wp2_with fail
        refine (pick_any p a zs cap (M' + 2) _ _ hz (by omega) hc3).mono ?_
        rintro e w5 ⟨r2, rfl, hr2, _, hc5, ho5⟩
        have hown5 := MC.own_only hown3 ho5 hplt
        have hor5 := hor3.trans ho5
        have h25 : r2 < 5 := by omega
        clear hown3 ho5 hc3 hr2 hor3
        go_wp2_with fail
        refine (pick_any p a zs cap (M' + 4) _ _ hz (by omega) hc5).mono ?_
        rintro e w4 ⟨r3, rfl, hr3, _, hc4, ho4⟩
        have hownW := MC.own_only hown5 ho4 hplt
        have hor4 := hor5.trans ho4
        have hs4 := hor4.size
        have h35 : r3 < 9 := by omega
        clear hown5 ho4 hc5 hr3 hor5
        by_cases h12 : r1 = r2
        · subst h12
          go_wp2_with (at_builtin; refine wpList_append_own _ rfl _ _ 23 rfl w.heap.size 56 i2 (.agg #[.int .i64 0, .int .i64 0, .int .i64 0]) 3 24 Try.underlying23 hi' hz0' hz1' hz2' rfl (by decide) _ _ _ rfl ((hownW.alloc _).alloc _) ⟨w4.heap.size + 1, 0, none⟩ 1 1 [.int .i64 (r1 : Int), .int .i64 (((r1 : Int) + 1) % 5), .int .i64 (r3 : Int)] rfl rfl ?c1 ?c2 ?c3 ?c4 ?c5 ?_)
          case c1 => exact PD8.new3 _ _ _ _ (by simp)
          case c2 => exact PD8.one3 _ _ _
          case c3 => unfold maxLen; omega
          case c4 => omega
          case c5 => simp; omega
          intro v' wn hown1 hgrow _
          have R1 : wn.ownsRow w.heap.size 56 3 v' (l ++ [(⟨(r1 : Int), (((r1 : Int) + 1) % 5), (r3 : Int)⟩ : I3)]).length (MI3.flat (l ++ [⟨(r1 : Int), (((r1 : Int) + 1) % 5), (r3 : Int)⟩])) := by rw [← PD8.flat_snoc, List.length_append]; exact hown1
          have R2 := ((hc4.alloc _).alloc _).grown hgrow (fun j hj => by have := (hownW.lt j hj).1; omega)
          have R3 := ((hor4.alloc _).alloc _).grown hgrow (fun j hj => (hownW.lt j hj).1)
          have hl2 : (l ++ [(⟨(r1 : Int), (((r1 : Int) + 1) % 5), (r3 : Int)⟩ : I3)]).length = l.length + 1 := by simp
          clear hown1 hgrow hownW
          generalize l ++ [(⟨(r1 : Int), (((r1 : Int) + 1) % 5), (r3 : Int)⟩ : I3)] = l2 at *
          go_wp2
          go_roundw
          case rel => exact ⟨m - 1, l2, _, by go_num, by omega, R1, R2, by omega, R3⟩
          case measure => simp [intOf]; omega
        · have e12 : ((r1 : Int) == (r2 : Int)) = false := by simp; omega
          clear h12
          go_wp2_with (at_builtin; refine wpList_append_own _ rfl _ _ 23 rfl w.heap.size 56 i2 (.agg #[.int .i64 0, .int .i64 0, .int .i64 0]) 3 24 Try.underlying23 hi' hz0' hz1' hz2' rfl (by decide) _ _ _ rfl ((hownW.alloc _).alloc _) ⟨w4.heap.size + 1, 0, none⟩ 1 1 [.int .i64 (r1 : Int), .int .i64 (r2 : Int), .int .i64 (r3 : Int)] rfl rfl ?c1 ?c2 ?c3 ?c4 ?c5 ?_)
          case c1 => exact PD8.new3 _ _ _ _ (by simp)
          case c2 => exact PD8.one3 _ _ _
          case c3 => unfold maxLen; omega
          case c4 => omega
          case c5 => simp; omega
          intro v' wn hown1 hgrow _
          have R1 : wn.ownsRow w.heap.size 56 3 v' (l ++ [(⟨(r1 : Int), (r2 : Int), (r3 : Int)⟩ : I3)]).length (MI3.flat (l ++ [⟨(r1 : Int), (r2 : Int), (r3 : Int)⟩])) := by rw [← PD8.flat_snoc, List.length_append]; exact hown1
          have R2 := ((hc4.alloc _).alloc _).grown hgrow (fun j hj => by have := (hownW.lt j hj).1; omega)
          have R3 := ((hor4.alloc _).alloc _).grown hgrow (fun j hj => (hownW.lt j hj).1)
          have hl2 : (l ++ [(⟨(r1 : Int), (r2 : Int), (r3 : Int)⟩ : I3)]).length = l.length + 1 := by simp
          clear hown1 hgrow hownW
          generalize l ++ [(⟨(r1 : Int), (r2 : Int), (r3 : Int)⟩ : I3)] = l2 at *
          go_wp2
          go_roundw
          case rel => exact ⟨m - 1, l2, _, by go_num, by omega, R1, R2, by omega, R3⟩
          case measure => simp [intOf]; omega
      · obtain rfl : m = 0 := by omega
        by_cases h0 : l.length = 0
        · obtain ⟨av, lc, hv, -⟩ := PD8.own_row3 hown
          rw [hv] at hown ⊢
          rw [h0] at hown ⊢
          clear hv
          go_wp2
          go_ret
          exact ⟨av, lc, l, by rw [h0]; rfl, by omega, by rw [h0]; exact hown, hcr.more (by omega), hor⟩
        · have h0' : (0 : Int) < (l.length : Int) := by omega
          obtain ⟨g, lc, hv⟩ := PD8.own_some hown (by omega)
          rw [hv] at hown ⊢
          clear hv
          go_wp2_with fail
          refine (one_any p a zs cap M' _ _ hz (by omega) hcr).mono ?_
          rintro e w3 ⟨b, rfl, hc3, ho3⟩
          have hown3 := MC.own_only hown ho3 hplt
          have hor3 := hor.trans ho3
          have hs3 := hor3.size
          clear hown ho3 hcr hor
          cases b with
          | false =>
            go_wp2
            go_ret
            exact ⟨_, lc, l, rfl, by omega, hown3, hc3.more (by omega), hor3⟩
          | true =>
            have hgl := hown3.lt g rfl
            go_wp2_with fail
            refine (among_any p a zs cap (M' + 2) (some ⟨w3.heap.size, 0, none⟩) [-1, 100, 101] 3 _ hz (by omega) (hc3.alloc _) (by simp) (by simp) ?_ ?_).mono ?_
            · exact .inr ⟨w3.heap.size, 0, rfl, by simp, fun j hj => by
                rw [Nat.zero_add]
                have h3 : j < 3 := hj
                rcases (show j = 0 ∨ j = 1 ∨ j = 2 by omega) with rfl | rfl | rfl <;> exact World.cell?_alloc_at _ _ _ _ (by rfl)⟩
            · intro b off hb; cases hb; have := hc3.lt; omega
            rintro e w4 ⟨z, rfl, -, hc4, ho4⟩
            have hown4 := MC.own_only (hown3.alloc (.cells #[.int .i64 (-1), .int .i64 100, .int .i64 101] 3)) ho4 hplt
            have hor4 := (hor3.alloc (.cells #[.int .i64 (-1), .int .i64 100, .int .i64 101] 3)).trans ho4
            have hs4 := ho4.size
            obtain ⟨-, -, -, hx4⟩ := (MI3.RowAt.of_own hown4).at0 (j := 0) (by omega)
            generalize (MI3.at_ l 0).a2 = z4 at hx4
            simp only [Nat.zero_mul, Nat.zero_add] at hx4
            have hf4 := hown4.frozenAt 2
            obtain ⟨ys, hyl, hys⟩ := PD8.flat_to l z (by omega)
            have R1 := (hown4.stored 2 (.int .i64 z)).1
            have R0 := (hown4.stored 2 (.int .i64 z)).2
            have R2 := hc4.grown R0 (fun j hj => by cases hj; omega)
            have R3 := hor4.grown R0 (fun j hj => by cases hj; exact hgl.1)
            rw [hys, ← hyl] at R1
            have hy21 : ys.length ≤ 21 := by omega
            have hy0 : (0 : Int) < (ys.length : Int) := by omega
            rw [← hyl]
            clear hown4 hown3 hor4 hc4 R0 hc3 hor3 ho4 hys hyl h0 h0'
            go_wp2
            go_ret
            exact ⟨_, lc, ys, rfl, hy21, R1, R2.more (by omega), R3⟩
end Go.Proofs.Ytndaapidfiocoaa

/- A new cursor, over whatever program. -/
namespace Go.Proofs.Ytndaapidfiocoaa
open Go.RowKit
/-- A new cursor. -/
theorem cur_new {w : World} {T : TypeId} {a : Option Addr} {zs : List Int} {cap : Nat} (h : MC.BytesAt w w.heap.size a zs) : MC.Cur (w.alloc (.cells #[.slice a zs.length cap, .int .i64 0, .int .u64 0] T)) w.heap.size a zs cap 0 := by
  have hc : ∀ j, (w.alloc (.cells #[.slice a zs.length cap, .int .i64 0, .int .u64 0] T)).cell? ⟨w.heap.size, j, none⟩ = (#[.slice a zs.length cap, .int .i64 0, .int .u64 0] : Array Value)[j]? := fun j => World.cell?_alloc_at _ _ _ _ (by rfl)
  refine ⟨by simp, hc 0, ⟨0, hc 1, by omega⟩, ⟨0, hc 2, by omega⟩, World.frozen?_alloc_at _ _ _ _ (by rfl), World.frozen?_alloc_at _ _ _ _ (by rfl), ?_⟩
  exact h.only (q := w.heap.size) (MC.Only.of_below ((Below.refl _ _).alloc (Nat.le_refl _) _)) (Nat.le_refl _) (Nat.le_refl _)
theorem new_below {p : Nat} {w w' : World} {o : Obj} (hp : p = w.heap.size) (h : MC.Only p (w.alloc o) w') : Below w.heap.size w w' :=
  ((Below.refl _ _).alloc (Nat.le_refl _) o).trans (h.below (by omega) (by simp))
theorem MC.BytesAt.up {w : World} {p q : Nat} {a : Option Addr} {zs : List Int} (h : MC.BytesAt w p a zs) (hp : p ≤ q) : MC.BytesAt w q a zs := by
  refine ⟨h.1, ?_⟩
  rcases h.2 with rfl | ⟨b, off, rfl, hlt, hc⟩
  · exact .inl rfl
  · exact .inr ⟨b, off, rfl, by omega, hc⟩
end Go.Proofs.Ytndaapidfiocoaa

/- DrawMaxFlow: pipes and two nodes, drawn. -/
namespace Go.Proofs.Ytndaapidfiocoaa
open Go.RowKit
set_option linter.unusedSimpArgs false in
set_option maxHeartbeats 1600000 in
set_option maxRecDepth 100000 in
theorem drawMaxFlow_any (a : Option Addr) (zs : List Int) (cap : Nat) (w : World) (hz : zs.length ≤ 140737488355328) (hb : MC.BytesAt w w.heap.size a zs) :
    Calls Try.prog 5 #[.slice a zs.length cap] w fun e w' => ∃ a1 c1 xs f t, e = .returned (.tuple #[.slice a1 (List.length xs) c1, .int .i64 f, .int .i64 t]) ∧ xs.length ≤ 21 ∧ MI3.RowAt w' a1 xs ∧ Below w.heap.size w w' := by
  go_enter Try.func5, Try.ntmps5
  go_wp2_with fail
  refine (pipes_any w.heap.size a zs cap 0 _ hz (by omega) (cur_new hb)).mono ?_
  rintro e w1 ⟨a1, c1, xs, rfl, hxl, hX, hc1, ho1⟩
  have hplt := hc1.lt
  have hXb : w1.ownsRow (w.heap.size + 1) 56 3 (.slice a1 xs.length c1) xs.length (MI3.flat xs) := by
    refine ⟨hX.1, ?_⟩
    rcases hX.2 with h | ⟨g, c2, cur, e1, hg, rest⟩
    · exact .inl h
    · exact .inr ⟨g, c2, cur, e1, by simp at hg; omega, rest⟩
  have HX : Hid (∀ W : World, MC.Only w.heap.size w1 W → MI3.RowAt W a1 xs) := fun W h => by
    obtain ⟨a9, c9, e9, hR9⟩ := PD8.own_row3 (MC.own_only hXb h (by omega))
    simp only [Value.slice.injEq] at e9
    obtain ⟨rfl, -, -⟩ := e9
    exact hR9
  have hB1 := new_below rfl ho1
  clear hX hXb ho1 hb
  go_wp2_with fail
  refine (pick_any w.heap.size a zs cap 140 _ _ hz (by omega) (hc1.more (by omega))).mono ?_
  rintro e w2 ⟨f, rfl, _, _, hc2, ho2⟩
  clear hc1
  go_wp2_with fail
  refine (pick_any w.heap.size a zs cap 142 _ _ hz (by omega) hc2).mono ?_
  rintro e w3 ⟨t, rfl, _, ht, hc3, ho3⟩
  have ho13 := ho2.trans ho3
  clear hc2 ho2 ho3
  go_wp2_with fail
  refine (pick_any w.heap.size a zs cap 144 _ _ hz (by omega) hc3).mono ?_
  rintro e w4 ⟨r4, rfl, h4, _, hc4, ho4⟩
  have ho14 := ho13.trans ho4
  have h42 : r4 = 0 ∨ r4 = 1 := by omega
  clear hc3 ho13 ho4 h4
  go_wp2_with fail
  refine (pick_any w.heap.size a zs cap 146 _ _ hz (by omega) hc4).mono ?_
  rintro e w5 ⟨r5, rfl, h5, _, hc5, ho5⟩
  have ho15 := ho14.trans ho5
  have h52 : r5 = 0 ∨ r5 = 1 := by omega
  have hR := HX.out w5 ho15
  have hB := hB1.trans (ho15.below (Nat.le_refl _) (by omega))
  clear hc4 ho14 ho5 h5 hc5 HX ho15 hB1
  rcases h42 with rfl | rfl <;> rcases h52 with rfl | rfl
  all_goals
    go_wp2
    go_ret3
    exact ⟨a1, c1, xs, (f : Int), _, rfl, hxl, hR, hB⟩
end Go.Proofs.Ytndaapidfiocoaa
