/- Meetings and sprays that are drawn (laid by tools/gen_meets.py). -/
import Derived.Test.YtgajfpohlemahaaRows
import Derived.Test.YtgajfpohlemahaaMI2
import Derived.Test.YtgajfpohlemahaaMCur
import Derived.Test.YtgajfpohlemahaaMRA
import Derived.Test.YtgajfpohlemahaaCAmong
import Derived.Test.YtgajfpohlemahaaMInfo
import Derived.WalkKit
import Derived.WalkSpells
import Derived.WalkLawsBesides
import Derived.Outline
import Derived.Test.YtgajfpohlemahaaM5
namespace Go.Proofs.Ytgajfpohlemahaa
open Go.RowKit
theorem Try.infoMeetD : (Try.prog.info? 39).map (fun i => (i.zero, i.size, i.bytes)) = some (some (.agg #[.int .i64 0, .int .i64 0]), 2, 16) := by kernel_rfl
namespace ML
theorem newN (W : World) (cs : List Value) (e : TypeId) (n : Nat) (hn : W.heap.size = n) : ∀ (j : Nat) (u : Value), cs[j]? = some u → (W.alloc (.cells cs.toArray e)).cell? ((⟨n, 0, none⟩ : Addr).add j) = some u := by
  subst hn
  intro j u hj
  have hadd : (⟨W.heap.size, 0, none⟩ : Addr).add j = ⟨W.heap.size, j, none⟩ := by unfold Addr.add; split <;> simp_all
  rw [hadd, World.cell?_alloc_at _ _ _ _ (by rfl)]
  simpa using hj
theorem flat_one (x0 x1 : Int) : MI2.flat [⟨x0, x1⟩] = [.int .i64 x0, .int .i64 x1] := rfl
theorem flat_to : ∀ (xs : List I2) (z : Int), 0 < xs.length → ∃ ys : List I2, ys.length = xs.length ∧ (MI2.flat xs).set 1 (.int .i64 z) = MI2.flat ys
  | x :: xs, z, _ => ⟨⟨x.a0, z⟩ :: xs, rfl, by simp [MI2.flat, I2.cs]⟩
theorem cur_only {w w' : World} {p q cap M : Nat} {a : Option Addr} {zs : List Int} (h : MC.Cur w p a zs cap M) (ho : MC.Only q w w') (hq : p < q) : MC.Cur w' p a zs cap M := by
  obtain ⟨h1, h2, ⟨k, h3, h3'⟩, ⟨s, h4, h4'⟩, h5, h6, h7⟩ := h
  have hc : ∀ j, w'.cell? ⟨p, j, none⟩ = w.cell? ⟨p, j, none⟩ := fun j => ho.cell (x := ⟨p, j, none⟩) h1 (by show p ≠ q; omega)
  have hf : ∀ j, w'.frozen? ⟨p, j, none⟩ = w.frozen? ⟨p, j, none⟩ := fun j => World.frozen?_of_block (w := w) (a := ⟨p, j, none⟩) (ho.block p h1 (by omega))
  exact ⟨Nat.lt_of_lt_of_le h1 ho.size, (hc 0).trans h2, ⟨k, (hc 1).trans h3, h3'⟩, ⟨s, (hc 2).trans h4, h4'⟩, (hf 1).trans h5, (hf 2).trans h6, h7.only (q := q) ho (by omega) (Nat.le_of_lt h1)⟩
theorem own_row2 {w : World} {base e n : Nat} {v : Value} {xs : List I2} (h : w.ownsRow base e 2 v n (MI2.flat xs)) : ∃ a cap, v = .slice a n cap ∧ MI2.RowAt w a xs := by
  have hlen : xs.length = n := by have := h.1; rw [MI2.flat_len] at this; omega
  rcases h.2 with ⟨rfl, h0⟩ | ⟨g, cap, cur, rfl, hb, hg, hc1, hc2, hc3, hc4⟩
  · subst h0
    exact ⟨none, 0, rfl, ⟨.inl (List.eq_nil_of_length_eq_zero hlen)⟩⟩
  · exact ⟨_, cap, rfl, MI2.RowAt.of_own h⟩
theorem own_some {w : World} {base e sz n : Nat} {v : Value} {xs : List Value} (h : w.ownsRow base e sz v n xs) (hn : 0 < n) : ∃ g cap, v = .slice (some ⟨g, 0, none⟩) n cap := by
  rcases h.2 with ⟨-, h0⟩ | ⟨g, cap, cur, rfl, -⟩
  · omega
  · exact ⟨g, cap, rfl⟩
theorem one2 (x y : Int) : ∀ u ∈ [Value.int .i64 x, .int .i64 y], u.oneCell' = true := by intro u hu; simp at hu; rcases hu with rfl | rfl <;> rfl
theorem flat_snoc (l : List I2) (x y : Int) : MI2.flat l ++ [Value.int .i64 x, .int .i64 y] = MI2.flat (l ++ [⟨x, y⟩]) := by rw [MI2.flat_app]; rfl
end ML
set_option linter.unusedSimpArgs false in
set_option maxHeartbeats 3200000 in
set_option maxRecDepth 100000 in
theorem meets_any (p : Nat) (a : Option Addr) (zs : List Int) (cap M : Nat) (nd : Nat) (hnd : 2 ≤ nd ∧ nd ≤ 8) (w : World) (hz : zs.length ≤ 140737488355328) (hM : M ≤ 140737488340000) (hc : MC.Cur w p a zs cap M) :
    Calls Try.prog 17 #[.pointer (some ⟨p, 0, none⟩), .int .i64 (nd : Int)] w fun e w' => ∃ a1 c1 l, e = .returned (.slice a1 (List.length l) c1) ∧ l.length ≤ 101 ∧ w'.ownsRow w.heap.size 39 2 (.slice a1 l.length c1) l.length (MI2.flat l) ∧ MC.Cur w' p a zs cap (M + 430) ∧ MC.Only p w w' := by
  obtain ⟨i2, hi', hz0', hz1', hz2'⟩ := info_parts Try.infoMeetD
  have hplt := hc.lt
  have hnd0 : ((nd : Int) == 0) = false := by simp; omega
  have hnd1 : (nd : Int) ≠ 0 := by omega
  go_enter Try.func17, Try.ntmps17
  go_wp2_with fail
  refine (pick_any p a zs cap M _ _ hz (by omega) hc).mono ?_
  rintro e w1 ⟨r, rfl, hr, _, hc1, ho1⟩
  have hr6 : r < 20 := by omega
  clear hr hc
  go_wp2_with fail
  refine (one_any p a zs cap (M + 2) _ _ hz (by omega) hc1).mono ?_
  rintro e w2 ⟨b, rfl, hc2, ho2⟩
  have hoA := ho1.trans ho2
  clear ho1 ho2 hc1
  cases b with
  | false =>
    go_wp2_with fail
    go_loopw [5, 6, 7] (fun lv nv kv wr => ∃ (m : Nat) (l : List I2) (M' : Nat), nv = .int .i64 m ∧ l.length + m ≤ 101 ∧ wr.ownsRow w.heap.size 39 2 lv l.length (MI2.flat l) ∧ MC.Cur wr p a zs cap M' ∧ M' + 4 * m ≤ M + 420 ∧ MC.Only p w wr) (fun _ nv _ _ => (intOf nv).toNat)
    case atStart => exact ⟨r, [], M + 4, rfl, by simp; omega, World.ownsRow_nil _ _ _ _, hc2, by omega, hoA⟩
    case round =>
      clear hc2 hoA
      obtain ⟨m, l, M', rfl, hm, hown, hcr, hMr, hor⟩ := hrel
      have hows := hor.size
      by_cases hm0 : 0 < m
      · have m0 : (0 : Int) < (m : Int) := by omega
        go_wp2_with fail
        refine (pick_any p a zs cap M' _ _ hz (by omega) hcr).mono ?_
        rintro e w3 ⟨r1, rfl, hr1, _, hc3, ho3⟩
        have hown3 := MC.own_only hown ho3 hplt
        have hor3 := hor.trans ho3
        have h15 : r1 < nd := by omega
        clear hown ho3 hcr hr1 hor
        go_wp2_with fail
        refine (pick_any p a zs cap (M' + 2) _ _ hz (by omega) hc3).mono ?_
        rintro e w4 ⟨r2, rfl, hr2, _, hc4, ho4⟩
        have hownW := MC.own_only hown3 ho4 hplt
        have hor4 := hor3.trans ho4
        have hs4 := hor4.size
        have h25 : r2 < nd := by omega
        clear hown3 ho4 hc3 hr2 hor3
        by_cases h12 : r1 = r2
        · subst h12
          go_wp2_with (at_builtin; refine wpList_append_own _ rfl _ _ 23 rfl w.heap.size 39 i2 (.agg #[.int .i64 0, .int .i64 0]) 2 16 Try.underlying23 hi' hz0' hz1' hz2' rfl (by decide) _ _ _ rfl ((hownW.alloc _).alloc _) ⟨w4.heap.size + 1, 0, none⟩ 1 1 [.int .i64 (r1 : Int), .int .i64 (((r1 : Int) + 1).tmod (nd : Int))] rfl rfl ?c1 ?c2 ?c3 ?c4 ?c5 ?_)
          case c1 => exact ML.newN _ _ _ _ (by simp)
          case c2 => exact ML.one2 _ _
          case c3 => unfold maxLen; omega
          case c4 => omega
          case c5 => simp; omega
          intro v' wn hown1 hgrow _
          have R1 : wn.ownsRow w.heap.size 39 2 v' (l ++ [(⟨(r1 : Int), (((r1 : Int) + 1).tmod (nd : Int))⟩ : I2)]).length (MI2.flat (l ++ [⟨(r1 : Int), (((r1 : Int) + 1).tmod (nd : Int))⟩])) := by rw [← ML.flat_snoc, List.length_append]; exact hown1
          have R2 := ((hc4.alloc _).alloc _).grown hgrow (fun j hj => by have := (hownW.lt j hj).1; omega)
          have R3 := ((hor4.alloc _).alloc _).grown hgrow (fun j hj => (hownW.lt j hj).1)
          have hl2 : (l ++ [(⟨(r1 : Int), (((r1 : Int) + 1).tmod (nd : Int))⟩ : I2)]).length = l.length + 1 := by simp
          clear hown1 hgrow hownW
          generalize l ++ [(⟨(r1 : Int), (((r1 : Int) + 1).tmod (nd : Int))⟩ : I2)] = l2 at *
          go_wp2
          go_roundw
          case rel => exact ⟨m - 1, l2, _, by go_num, by omega, R1, R2, by omega, R3⟩
          case measure => simp [intOf]; omega
        · have e12 : ((r1 : Int) == (r2 : Int)) = false := by simp; omega
          clear h12
          go_wp2_with (at_builtin; refine wpList_append_own _ rfl _ _ 23 rfl w.heap.size 39 i2 (.agg #[.int .i64 0, .int .i64 0]) 2 16 Try.underlying23 hi' hz0' hz1' hz2' rfl (by decide) _ _ _ rfl ((hownW.alloc _).alloc _) ⟨w4.heap.size + 1, 0, none⟩ 1 1 [.int .i64 (r1 : Int), .int .i64 (r2 : Int)] rfl rfl ?c1 ?c2 ?c3 ?c4 ?c5 ?_)
          case c1 => exact ML.newN _ _ _ _ (by simp)
          case c2 => exact ML.one2 _ _
          case c3 => unfold maxLen; omega
          case c4 => omega
          case c5 => simp; omega
          intro v' wn hown1 hgrow _
          have R1 : wn.ownsRow w.heap.size 39 2 v' (l ++ [(⟨(r1 : Int), (r2 : Int)⟩ : I2)]).length (MI2.flat (l ++ [⟨(r1 : Int), (r2 : Int)⟩])) := by rw [← ML.flat_snoc, List.length_append]; exact hown1
          have R2 := ((hc4.alloc _).alloc _).grown hgrow (fun j hj => by have := (hownW.lt j hj).1; omega)
          have R3 := ((hor4.alloc _).alloc _).grown hgrow (fun j hj => (hownW.lt j hj).1)
          have hl2 : (l ++ [(⟨(r1 : Int), (r2 : Int)⟩ : I2)]).length = l.length + 1 := by simp
          clear hown1 hgrow hownW
          generalize l ++ [(⟨(r1 : Int), (r2 : Int)⟩ : I2)] = l2 at *
          go_wp2
          go_roundw
          case rel => exact ⟨m - 1, l2, _, by go_num, by omega, R1, R2, by omega, R3⟩
          case measure => simp [intOf]; omega
      · obtain rfl : m = 0 := by omega
        by_cases h0 : l.length = 0
        · obtain ⟨av, lc, hv, -⟩ := ML.own_row2 hown
          rw [hv] at hown ⊢
          rw [h0] at hown ⊢
          clear hv
          go_wp2
          go_ret
          exact ⟨av, lc, l, by rw [h0]; rfl, by omega, by rw [h0]; exact hown, hcr.more (by omega), hor⟩
        · have h0' : (0 : Int) < (l.length : Int) := by omega
          obtain ⟨g, lc, hv⟩ := ML.own_some hown (by omega)
          rw [hv] at hown ⊢
          clear hv
          go_wp2_with fail
          refine (one_any p a zs cap M' _ _ hz (by omega) hcr).mono ?_
          rintro e w3 ⟨b, rfl, hc3, ho3⟩
          have hown3 := MC.own_only hown ho3 hplt
          have hor3 := hor.trans ho3
          have hs3 := hor3.size
          clear hown ho3 hcr hor
          cases b with
          | false =>
            go_wp2
            go_ret
            exact ⟨_, lc, l, rfl, by omega, hown3, hc3.more (by omega), hor3⟩
          | true =>
            have hgl := hown3.lt g rfl
            obtain ⟨-, hx0, hx1⟩ := (MI2.RowAt.of_own hown3).at0 (j := 0) (by omega)
            generalize (MI2.at_ l 0).a0 = z0 at hx0
            generalize (MI2.at_ l 0).a1 = z1 at hx1
            simp only [Nat.zero_mul, Nat.zero_add] at hx0 hx1
            go_wp2_with fail
            refine (among_any p a zs cap (M' + 2) (some ⟨w3.heap.size, 0, none⟩) [-1, z0, (nd : Int)] 3 _ hz (by omega) (hc3.alloc _) (by simp) (by simp) ?_ ?_).mono ?_
            · exact .inr ⟨w3.heap.size, 0, rfl, by simp, fun j hj => by
                rw [Nat.zero_add]
                have h3 : j < 3 := hj
                rcases (show j = 0 ∨ j = 1 ∨ j = 2 by omega) with rfl | rfl | rfl <;> exact World.cell?_alloc_at _ _ _ _ (by rfl)⟩
            · intro b off hb; cases hb; have := hc3.lt; omega
            rintro e w4 ⟨z, rfl, -, hc4, ho4⟩
            have hown4 := MC.own_only (hown3.alloc (.cells #[.int .i64 (-1), .int .i64 z0, .int .i64 (nd : Int)] 3)) ho4 hplt
            have hor4 := (hor3.alloc (.cells #[.int .i64 (-1), .int .i64 z0, .int .i64 (nd : Int)] 3)).trans ho4
            have hs4 := ho4.size
            obtain ⟨-, -, hx4⟩ := (MI2.RowAt.of_own hown4).at0 (j := 0) (by omega)
            generalize (MI2.at_ l 0).a1 = z4 at hx4
            simp only [Nat.zero_mul, Nat.zero_add] at hx4
            have hf4 := hown4.frozenAt 1
            obtain ⟨ys, hyl, hys⟩ := ML.flat_to l z (by omega)
            have R1 := (hown4.stored 1 (.int .i64 z)).1
            have R0 := (hown4.stored 1 (.int .i64 z)).2
            have R2 := hc4.grown R0 (fun j hj => by cases hj; omega)
            have R3 := hor4.grown R0 (fun j hj => by cases hj; exact hgl.1)
            rw [hys, ← hyl] at R1
            have hy21 : ys.length ≤ 101 := by omega
            have hy0 : (0 : Int) < (ys.length : Int) := by omega
            rw [← hyl]
            clear hown4 hown3 hor4 hc4 R0 hc3 hor3 ho4 hys hx0 hx1 hyl h0 h0'
            go_wp2
            go_ret
            exact ⟨_, lc, ys, rfl, hy21, R1, R2.more (by omega), R3⟩
  | true =>
    go_wp2_with fail
    refine (pick_any p a zs cap (M + 4) _ _ hz (by omega) hc2).mono ?_
    rintro e w2' ⟨r2, rfl, hr2, _, hc2', ho2'⟩
    have hr22 : r2 < 2 := by omega
    have hoB := hoA.trans ho2'
    clear hr2 hc2 hoA ho2'
    go_wp2_with fail
    go_loopw [5, 6, 7] (fun lv nv kv wr => ∃ (m : Nat) (l : List I2) (M' : Nat), nv = .int .i64 m ∧ l.length + m ≤ 101 ∧ wr.ownsRow w.heap.size 39 2 lv l.length (MI2.flat l) ∧ MC.Cur wr p a zs cap M' ∧ M' + 4 * m ≤ M + 420 ∧ MC.Only p w wr) (fun _ nv _ _ => (intOf nv).toNat)
    case atStart => exact ⟨100 + r2, [], M + 6, by go_num, by simp; omega, World.ownsRow_nil _ _ _ _, hc2', by omega, hoB⟩
    case round =>
      clear hc2' hoB
      obtain ⟨m, l, M', rfl, hm, hown, hcr, hMr, hor⟩ := hrel
      have hows := hor.size
      by_cases hm0 : 0 < m
      · have m0 : (0 : Int) < (m : Int) := by omega
        go_wp2_with fail
        refine (pick_any p a zs cap M' _ _ hz (by omega) hcr).mono ?_
        rintro e w3 ⟨r1, rfl, hr1, _, hc3, ho3⟩
        have hown3 := MC.own_only hown ho3 hplt
        have hor3 := hor.trans ho3
        have h15 : r1 < nd := by omega
        clear hown ho3 hcr hr1 hor
        go_wp2_with fail
        refine (pick_any p a zs cap (M' + 2) _ _ hz (by omega) hc3).mono ?_
        rintro e w4 ⟨r2, rfl, hr2, _, hc4, ho4⟩
        have hownW := MC.own_only hown3 ho4 hplt
        have hor4 := hor3.trans ho4
        have hs4 := hor4.size
        have h25 : r2 < nd := by omega
        clear hown3 ho4 hc3 hr2 hor3
        by_cases h12 : r1 = r2
        · subst h12
          go_wp2_with (at_builtin; refine wpList_append_own _ rfl _ _ 23 rfl w.heap.size 39 i2 (.agg #[.int .i64 0, .int .i64 0]) 2 16 Try.underlying23 hi' hz0' hz1' hz2' rfl (by decide) _ _ _ rfl ((hownW.alloc _).alloc _) ⟨w4.heap.size + 1, 0, none⟩ 1 1 [.int .i64 (r1 : Int), .int .i64 (((r1 : Int) + 1).tmod (nd : Int))] rfl rfl ?c1 ?c2 ?c3 ?c4 ?c5 ?_)
          case c1 => exact ML.newN _ _ _ _ (by simp)
          case c2 => exact ML.one2 _ _
          case c3 => unfold maxLen; omega
          case c4 => omega
          case c5 => simp; omega
          intro v' wn hown1 hgrow _
          have R1 : wn.ownsRow w.heap.size 39 2 v' (l ++ [(⟨(r1 : Int), (((r1 : Int) + 1).tmod (nd : Int))⟩ : I2)]).length (MI2.flat (l ++ [⟨(r1 : Int), (((r1 : Int) + 1).tmod (nd : Int))⟩])) := by rw [← ML.flat_snoc, List.length_append]; exact hown1
          have R2 := ((hc4.alloc _).alloc _).grown hgrow (fun j hj => by have := (hownW.lt j hj).1; omega)
          have R3 := ((hor4.alloc _).alloc _).grown hgrow (fun j hj => (hownW.lt j hj).1)
          have hl2 : (l ++ [(⟨(r1 : Int), (((r1 : Int) + 1).tmod (nd : Int))⟩ : I2)]).length = l.length + 1 := by simp
          clear hown1 hgrow hownW
          generalize l ++ [(⟨(r1 : Int), (((r1 : Int) + 1).tmod (nd : Int))⟩ : I2)] = l2 at *
          go_wp2
          go_roundw
          case rel => exact ⟨m - 1, l2, _, by go_num, by omega, R1, R2, by omega, R3⟩
          case measure => simp [intOf]; omega
        · have e12 : ((r1 : Int) == (r2 : Int)) = false := by simp; omega
          clear h12
          go_wp2_with (at_builtin; refine wpList_append_own _ rfl _ _ 23 rfl w.heap.size 39 i2 (.agg #[.int .i64 0, .int .i64 0]) 2 16 Try.underlying23 hi' hz0' hz1' hz2' rfl (by decide) _ _ _ rfl ((hownW.alloc _).alloc _) ⟨w4.heap.size + 1, 0, none⟩ 1 1 [.int .i64 (r1 : Int), .int .i64 (r2 : Int)] rfl rfl ?c1 ?c2 ?c3 ?c4 ?c5 ?_)
          case c1 => exact ML.newN _ _ _ _ (by simp)
          case c2 => exact ML.one2 _ _
          case c3 => unfold maxLen; omega
          case c4 => omega
          case c5 => simp; omega
          intro v' wn hown1 hgrow _
          have R1 : wn.ownsRow w.heap.size 39 2 v' (l ++ [(⟨(r1 : Int), (r2 : Int)⟩ : I2)]).length (MI2.flat (l ++ [⟨(r1 : Int), (r2 : Int)⟩])) := by rw [← ML.flat_snoc, List.length_append]; exact hown1
          have R2 := ((hc4.alloc _).alloc _).grown hgrow (fun j hj => by have := (hownW.lt j hj).1; omega)
          have R3 := ((hor4.alloc _).alloc _).grown hgrow (fun j hj => (hownW.lt j hj).1)
          have hl2 : (l ++ [(⟨(r1 : Int), (r2 : Int)⟩ : I2)]).length = l.length + 1 := by simp
          clear hown1 hgrow hownW
          generalize l ++ [(⟨(r1 : Int), (r2 : Int)⟩ : I2)] = l2 at *
          go_wp2
          go_roundw
          case rel => exact ⟨m - 1, l2, _, by go_num, by omega, R1, R2, by omega, R3⟩
          case measure => simp [intOf]; omega
      · obtain rfl : m = 0 := by omega
        by_cases h0 : l.length = 0
        · obtain ⟨av, lc, hv, -⟩ := ML.own_row2 hown
          rw [hv] at hown ⊢
          rw [h0] at hown ⊢
          clear hv
          go_wp2
          go_ret
          exact ⟨av, lc, l, by rw [h0]; rfl, by omega, by rw [h0]; exact hown, hcr.more (by omega), hor⟩
        · have h0' : (0 : Int) < (l.length : Int) := by omega
          obtain ⟨g, lc, hv⟩ := ML.own_some hown (by omega)
          rw [hv] at hown ⊢
          clear hv
          go_wp2_with fail
          refine (one_any p a zs cap M' _ _ hz (by omega) hcr).mono ?_
          rintro e w3 ⟨b, rfl, hc3, ho3⟩
          have hown3 := MC.own_only hown ho3 hplt
          have hor3 := hor.trans ho3
          have hs3 := hor3.size
          clear hown ho3 hcr hor
          cases b with
          | false =>
            go_wp2
            go_ret
            exact ⟨_, lc, l, rfl, by omega, hown3, hc3.more (by omega), hor3⟩
          | true =>
            have hgl := hown3.lt g rfl
            obtain ⟨-, hx0, hx1⟩ := (MI2.RowAt.of_own hown3).at0 (j := 0) (by omega)
            generalize (MI2.at_ l 0).a0 = z0 at hx0
            generalize (MI2.at_ l 0).a1 = z1 at hx1
            simp only [Nat.zero_mul, Nat.zero_add] at hx0 hx1
            go_wp2_with fail
            refine (among_any p a zs cap (M' + 2) (some ⟨w3.heap.size, 0, none⟩) [-1, z0, (nd : Int)] 3 _ hz (by omega) (hc3.alloc _) (by simp) (by simp) ?_ ?_).mono ?_
            · exact .inr ⟨w3.heap.size, 0, rfl, by simp, fun j hj => by
                rw [Nat.zero_add]
                have h3 : j < 3 := hj
                rcases (show j = 0 ∨ j = 1 ∨ j = 2 by omega) with rfl | rfl | rfl <;> exact World.cell?_alloc_at _ _ _ _ (by rfl)⟩
            · intro b off hb; cases hb; have := hc3.lt; omega
            rintro e w4 ⟨z, rfl, -, hc4, ho4⟩
            have hown4 := MC.own_only (hown3.alloc (.cells #[.int .i64 (-1), .int .i64 z0, .int .i64 (nd : Int)] 3)) ho4 hplt
            have hor4 := (hor3.alloc (.cells #[.int .i64 (-1), .int .i64 z0, .int .i64 (nd : Int)] 3)).trans ho4
            have hs4 := ho4.size
            obtain ⟨-, -, hx4⟩ := (MI2.RowAt.of_own hown4).at0 (j := 0) (by omega)
            generalize (MI2.at_ l 0).a1 = z4 at hx4
            simp only [Nat.zero_mul, Nat.zero_add] at hx4
            have hf4 := hown4.frozenAt 1
            obtain ⟨ys, hyl, hys⟩ := ML.flat_to l z (by omega)
            have R1 := (hown4.stored 1 (.int .i64 z)).1
            have R0 := (hown4.stored 1 (.int .i64 z)).2
            have R2 := hc4.grown R0 (fun j hj => by cases hj; omega)
            have R3 := hor4.grown R0 (fun j hj => by cases hj; exact hgl.1)
            rw [hys, ← hyl] at R1
            have hy21 : ys.length ≤ 101 := by omega
            have hy0 : (0 : Int) < (ys.length : Int) := by omega
            rw [← hyl]
            clear hown4 hown3 hor4 hc4 R0 hc3 hor3 ho4 hys hx0 hx1 hyl h0 h0'
            go_wp2
            go_ret
            exact ⟨_, lc, ys, rfl, hy21, R1, R2.more (by omega), R3⟩
set_option linter.unusedSimpArgs false in
set_option maxHeartbeats 3200000 in
set_option maxRecDepth 100000 in
theorem sprayOf_any (p : Nat) (a : Option Addr) (zs : List Int) (cap M : Nat) (w : World) (hz : zs.length ≤ 140737488355328) (hM : M ≤ 140737488340000) (hc : MC.Cur w p a zs cap M) :
    Calls Try.prog 16 #[.pointer (some ⟨p, 0, none⟩)] w fun e w' => ∃ (nd : Nat) (f t c : Int), e = .returned (.tuple #[.int .i64 (nd : Int), .int .i64 f, .int .i64 t, .int .i64 c]) ∧ (2 ≤ nd ∧ nd ≤ 8) ∧ MC.Cur w' p a zs cap (M + 20) ∧ MC.Only p w w' := by
  have hplt := hc.lt
  go_enter Try.func16, Try.ntmps16
  go_wp2_with fail
  refine (pick_any p a zs cap M _ _ hz (by omega) hc).mono ?_
  rintro e w1 ⟨r, rfl, hr, _, hc1, ho1⟩
  have hr6 : r < 5 := by omega
  clear hr hc
  go_wp2_with fail
  refine (pick_any p a zs cap (M + 2) _ _ hz (by omega) hc1).mono ?_
  rintro e w2 ⟨f, rfl, hf, _, hc2, ho2⟩
  have hoA := ho1.trans ho2
  clear hf ho1 ho2 hc1
  go_wp2_with fail
  refine (pick_any p a zs cap (M + 4) _ _ hz (by omega) hc2).mono ?_
  rintro e w3 ⟨t, rfl, ht, _, hc3, ho3⟩
  have hoB := hoA.trans ho3
  clear ht hoA ho3 hc2
  have hnd0 : (2 + (r : Int) == 0) = false := by simp; omega
  have hnd1 : 2 + (r : Int) ≠ 0 := by omega
  have AM : Hid (∀ (M2 : Nat) (W : World), M2 ≤ M + 8 → MC.Cur W p a zs cap M2 → Calls Try.prog 32 #[.pointer (some ⟨p, 0, none⟩), .slice (some ⟨W.heap.size, 0, none⟩) 8 8] (W.alloc (.cells #[.int .i64 1, .int .i64 2, .int .i64 4, .int .i64 7, .int .i64 16, .int .i64 64, .int .i64 65, .int .i64 0] 3)) fun e w' => ∃ z : Int, e = .returned (.int .i64 z) ∧ MC.Cur w' p a zs cap (M2 + 2) ∧ MC.Only p W w') := fun M2 W hM2 h => by
    refine (among_any p a zs cap M2 (some ⟨W.heap.size, 0, none⟩) [1, 2, 4, 7, 16, 64, 65, 0] 8 _ hz (by omega) (h.alloc _) (by simp) (by simp) ?_ ?_).mono ?_
    · exact .inr ⟨W.heap.size, 0, rfl, by simp, fun j hj => by
        rw [Nat.zero_add]
        have h3 : j < 8 := hj
        rcases (show j = 0 ∨ j = 1 ∨ j = 2 ∨ j = 3 ∨ j = 4 ∨ j = 5 ∨ j = 6 ∨ j = 7 by omega) with rfl | rfl | rfl | rfl | rfl | rfl | rfl | rfl <;> exact World.cell?_alloc_at _ _ _ _ (by rfl)⟩
    · intro b off hb; cases hb; have := h.lt; omega
    rintro e w4 ⟨z, rfl, -, hc4, ho4⟩
    exact ⟨z, rfl, hc4, (MC.Only.of_below ((Below.refl _ W).alloc (Nat.le_refl _) _)).trans ho4⟩
  by_cases hft : f = t
  · subst hft
    go_wp2_with fail
    refine (one_any p a zs cap (M + 6) _ _ hz (by omega) hc3).mono ?_
    rintro e w4 ⟨b, rfl, hc4, ho4⟩
    have hoC := hoB.trans ho4
    clear hc3 hoB ho4
    cases b with
    | false =>
      go_wp2_with fail
      refine (AM.out (M + 8) _ (by omega) hc4).mono ?_
      rintro e w5 ⟨z, rfl, hc5, ho5⟩
      have hoD := hoC.trans ho5
      have hc6 := hc5.more (M' := M + 20) (by omega)
      clear AM hc4 hoC ho5 hc5
      go_wp2
      exact bodyPost_ret (v := .tuple #[.int .i64 (2 + (r : Int)), .int .i64 (f : Int), .int .i64 (((f : Int) + 1) % (2 + (r : Int))), .int .i64 z]) (by simp [results, Try.results16, go_sem]) rfl ⟨2 + r, (f : Int), ((f : Int) + 1) % (2 + (r : Int)), z, by simp, by omega, hc6, hoD⟩
    | true =>
      go_wp2_with fail
      refine (AM.out (M + 8) _ (by omega) hc4).mono ?_
      rintro e w5 ⟨z, rfl, hc5, ho5⟩
      have hoD := hoC.trans ho5
      have hc6 := hc5.more (M' := M + 20) (by omega)
      clear AM hc4 hoC ho5 hc5
      go_wp2
      exact bodyPost_ret (v := .tuple #[.int .i64 (2 + (r : Int)), .int .i64 (f : Int), .int .i64 ((f : Int)), .int .i64 z]) (by simp [results, Try.results16, go_sem]) rfl ⟨2 + r, (f : Int), (f : Int), z, by simp, by omega, hc6, hoD⟩
  · have hft' : ((f : Int) == (t : Int)) = false := by simp; exact fun e => hft (by omega)
    go_wp2_with fail
    refine (AM.out (M + 6) _ (by omega) hc3).mono ?_
    rintro e w5 ⟨z, rfl, hc5, ho5⟩
    have hoD := hoB.trans ho5
    have hc6 := hc5.more (M' := M + 20) (by omega)
    clear AM hc3 hoB ho5 hc5
    go_wp2
    exact bodyPost_ret (v := .tuple #[.int .i64 (2 + (r : Int)), .int .i64 (f : Int), .int .i64 (t : Int), .int .i64 z]) (by simp [results, Try.results16, go_sem]) rfl ⟨2 + r, (f : Int), (t : Int), z, by simp, by omega, hc6, hoD⟩
end Go.Proofs.Ytgajfpohlemahaa
