/- Jobs that are drawn (laid by tools/gen_jobd.py). -/
import Derived.Test.YtgenmljnhlcpcaaRows
import Derived.Test.YtgenmljnhlcpcaaMI2
import Derived.Test.YtgenmljnhlcpcaaM5
import Derived.Test.YtgenmljnhlcpcaaCAmong
import Derived.Test.YtgenmljnhlcpcaaMInfo
import Derived.WalkKit
import Derived.WalkSpells
import Derived.WalkLawsBesides
import Derived.Outline
namespace Go.Proofs.Ytgenmljnhlcpcaa
open Go.RowKit
theorem Try.infoJobD : (Try.prog.info? 48).map (fun i => (i.zero, i.size, i.bytes)) = some (some (.agg #[.int .i64 0, .int .i64 0]), 2, 16) := by kernel_rfl
namespace JDD
theorem flat_to : ∀ (xs : List I2) (y z : Int), 0 < xs.length → ∃ ys : List I2, ys.length = xs.length ∧ ((MI2.flat xs).set 0 (.int .i64 y)).set 1 (.int .i64 z) = MI2.flat ys
  | x :: xs, y, z, _ => ⟨⟨y, z⟩ :: xs, rfl, by simp [MI2.flat, I2.cs]⟩
theorem own_row2 {w : World} {base e n : Nat} {v : Value} {xs : List I2} (h : w.ownsRow base e 2 v n (MI2.flat xs)) : ∃ a cap, v = .slice a n cap ∧ MI2.RowAt w a xs := by
  have hlen : xs.length = n := by have := h.1; rw [MI2.flat_len] at this; omega
  rcases h.2 with ⟨rfl, h0⟩ | ⟨g, cap, cur, rfl, hb, hg, hc1, hc2, hc3, hc4⟩
  · subst h0
    exact ⟨none, 0, rfl, ⟨.inl (List.eq_nil_of_length_eq_zero hlen)⟩⟩
  · exact ⟨_, cap, rfl, MI2.RowAt.of_own h⟩
theorem own_some {w : World} {base e sz n : Nat} {v : Value} {xs : List Value} (h : w.ownsRow base e sz v n xs) (hn : 0 < n) : ∃ g cap, v = .slice (some ⟨g, 0, none⟩) n cap := by
  rcases h.2 with ⟨-, h0⟩ | ⟨g, cap, cur, rfl, -⟩
  · omega
  · exact ⟨g, cap, rfl⟩
theorem newN (W : World) (cs : List Value) (e : TypeId) (n : Nat) (hn : W.heap.size = n) : ∀ (j : Nat) (u : Value), cs[j]? = some u → (W.alloc (.cells cs.toArray e)).cell? ((⟨n, 0, none⟩ : Addr).add j) = some u := by
  intro j u h
  subst hn
  have hadd : (⟨W.heap.size, 0, none⟩ : Addr).add j = ⟨W.heap.size, j, none⟩ := by unfold Addr.add; split <;> simp_all
  rw [hadd, World.cell?_alloc_at _ _ _ _ (by rfl)]
  simpa using h
theorem one2 (x y : Int) : ∀ u ∈ [Value.int .i64 x, .int .i64 y], u.oneCell' = true := by intro u hu; simp at hu; rcases hu with rfl | rfl <;> rfl
theorem flat_snoc (l : List I2) (x y : Int) : MI2.flat l ++ [Value.int .i64 x, .int .i64 y] = MI2.flat (l ++ [⟨x, y⟩]) := by rw [MI2.flat_app]; rfl
end JDD
set_option linter.unusedSimpArgs false in
set_option maxHeartbeats 3200000 in
set_option maxRecDepth 100000 in
theorem jobs_any (p : Nat) (a : Option Addr) (zs : List Int) (cap M : Nat) (w : World) (hz : zs.length ≤ 140737488355328) (hM : M ≤ 140737488340000) (hc : MC.Cur w p a zs cap M) :
    Calls Try.prog 21 #[.pointer (some ⟨p, 0, none⟩)] w fun e w' => ∃ a1 c1 l, e = .returned (.slice a1 (List.length l) c1) ∧ l.length ≤ 11 ∧ w'.ownsRow w.heap.size 48 2 (.slice a1 l.length c1) l.length (MI2.flat l) ∧ MC.Cur w' p a zs cap (M + 100) ∧ MC.Only p w w' := by
  obtain ⟨i2, hi', hz0', hz1', hz2'⟩ := info_parts Try.infoJobD
  have hplt := hc.lt
  go_enter Try.func21, Try.ntmps21
  go_wp2_with fail
  refine (pick_any p a zs cap M _ _ hz (by omega) hc).mono ?_
  rintro e w1 ⟨r, rfl, hr, _, hc1, ho1⟩
  have hr6 : r < 7 := by omega
  clear hr hc
  go_wp2_with fail
  refine (one_any p a zs cap (M + 2) _ _ hz (by omega) hc1).mono ?_
  rintro e w2 ⟨b, rfl, hc2, ho2⟩
  have hoA := ho1.trans ho2
  clear ho1 ho2 hc1
  cases b with
  | false =>
    go_wp2_with fail
    go_loopw [3, 4] (fun lv nv wr => ∃ (m : Nat) (l : List I2) (M' : Nat), nv = .int .i64 m ∧ l.length + m ≤ 11 ∧ wr.ownsRow w.heap.size 48 2 lv l.length (MI2.flat l) ∧ MC.Cur wr p a zs cap M' ∧ M' + 4 * m ≤ M + 60 ∧ MC.Only p w wr) (fun _ nv _ => (intOf nv).toNat)
    case atStart => exact ⟨r, [], M + 4, rfl, by simp; omega, World.ownsRow_nil _ _ _ _, hc2, by omega, hoA⟩
    case round =>
      clear hc2 hoA
      obtain ⟨m, l, M', rfl, hm, hown, hcr, hMr, hor⟩ := hrel
      have hows := hor.size
      by_cases hm0 : 0 < m
      · have m0 : (0 : Int) < (m : Int) := by omega
        go_wp2_with fail
        refine (pick_any p a zs cap M' _ _ hz (by omega) hcr).mono ?_
        rintro e w3 ⟨r1, rfl, hr1, _, hc3, ho3⟩
        have hown3 := MC.own_only hown ho3 hplt
        have hor3 := hor.trans ho3
        have h15 : r1 < 9 := by omega
        clear hown ho3 hcr hr1 hor
        go_wp2_with fail
        refine (pick_any p a zs cap (M' + 2) _ _ hz (by omega) hc3).mono ?_
        rintro e w4 ⟨r2, rfl, hr2, _, hc4, ho4⟩
        have hownW := MC.own_only hown3 ho4 hplt
        have hor4 := hor3.trans ho4
        have hs4 := hor4.size
        have h25 : r2 < 25 := by omega
        clear hown3 ho4 hc3 hr2 hor3
        go_wp2_with (at_builtin; refine wpList_append_own _ rfl _ _ 23 rfl w.heap.size 48 i2 (.agg #[.int .i64 0, .int .i64 0]) 2 16 Try.underlying23 hi' hz0' hz1' hz2' rfl (by decide) _ _ _ rfl (hownW.alloc _) ⟨w4.heap.size, 0, none⟩ 1 1 [.int .i64 (1 + (r1 : Int)), .int .i64 (1 + (r2 : Int))] rfl rfl ?c1 ?c2 ?c3 ?c4 ?c5 ?_)
        case c1 => exact JDD.newN _ _ _ _ (by simp)
        case c2 => exact JDD.one2 _ _
        case c3 => unfold maxLen; omega
        case c4 => omega
        case c5 => simp; omega
        intro v' wn hown1 hgrow _
        have R1 : wn.ownsRow w.heap.size 48 2 v' (l ++ [(⟨1 + (r1 : Int), 1 + (r2 : Int)⟩ : I2)]).length (MI2.flat (l ++ [⟨1 + (r1 : Int), 1 + (r2 : Int)⟩])) := by rw [← JDD.flat_snoc, List.length_append]; exact hown1
        have R2 := (hc4.alloc _).grown hgrow (fun j hj => by have := (hownW.lt j hj).1; omega)
        have R3 := (hor4.alloc _).grown hgrow (fun j hj => (hownW.lt j hj).1)
        have hl2 : (l ++ [(⟨1 + (r1 : Int), 1 + (r2 : Int)⟩ : I2)]).length = l.length + 1 := by simp
        clear hown1 hgrow hownW
        generalize l ++ [(⟨1 + (r1 : Int), 1 + (r2 : Int)⟩ : I2)] = l2 at *
        go_wp2
        go_roundw
        case rel => exact ⟨m - 1, l2, _, by go_num, by omega, R1, R2, by omega, R3⟩
        case measure => simp [intOf]; omega
      · obtain rfl : m = 0 := by omega
        by_cases h0 : l.length = 0
        · obtain ⟨av, lc, hv, -⟩ := JDD.own_row2 hown
          rw [hv] at hown ⊢
          rw [h0] at hown ⊢
          clear hv
          go_wp2
          go_ret
          exact ⟨av, lc, l, by rw [h0]; rfl, by omega, by rw [h0]; exact hown, hcr.more (by omega), hor⟩
        · have h0' : (0 : Int) < (l.length : Int) := by omega
          obtain ⟨g, lc, hv⟩ := JDD.own_some hown (by omega)
          rw [hv] at hown ⊢
          clear hv
          go_wp2_with fail
          refine (one_any p a zs cap M' _ _ hz (by omega) hcr).mono ?_
          rintro e w3 ⟨b, rfl, hc3, ho3⟩
          have hown3 := MC.own_only hown ho3 hplt
          have hor3 := hor.trans ho3
          have hs3 := hor3.size
          clear hown ho3 hcr hor
          cases b with
          | false =>
            go_wp2
            go_ret
            exact ⟨_, lc, l, rfl, by omega, hown3, hc3.more (by omega), hor3⟩
          | true =>
            have hgl := hown3.lt g rfl
            go_wp2_with fail
            refine (among_any p a zs cap (M' + 2) (some ⟨w3.heap.size, 0, none⟩) [0, 100, 101] 3 _ hz (by omega) (hc3.alloc _) (by simp) (by simp) ?_ ?_).mono ?_
            · exact .inr ⟨w3.heap.size, 0, rfl, by simp, fun j hj => by
                rw [Nat.zero_add]
                have h3 : j < 3 := hj
                rcases (show j = 0 ∨ j = 1 ∨ j = 2 by omega) with rfl | rfl | rfl <;> exact World.cell?_alloc_at _ _ _ _ (by rfl)⟩
            · intro b off hb; cases hb; have := hc3.lt; omega
            rintro e w4 ⟨y, rfl, -, hc4, ho4⟩
            have hown4 := MC.own_only (hown3.alloc (.cells #[.int .i64 0, .int .i64 100, .int .i64 101] 3)) ho4 hplt
            have hor4 := (hor3.alloc (.cells #[.int .i64 0, .int .i64 100, .int .i64 101] 3)).trans ho4
            have hs4 := ho4.size
            clear hown3 ho4 hc3 hor3
            go_wp2_with fail
            refine (among_any p a zs cap (M' + 4) (some ⟨w4.heap.size, 0, none⟩) [0, 1000, 1001] 3 _ hz (by omega) (hc4.alloc _) (by simp) (by simp) ?_ ?_).mono ?_
            · exact .inr ⟨w4.heap.size, 0, rfl, by simp, fun j hj => by
                rw [Nat.zero_add]
                have h3 : j < 3 := hj
                rcases (show j = 0 ∨ j = 1 ∨ j = 2 by omega) with rfl | rfl | rfl <;> exact World.cell?_alloc_at _ _ _ _ (by rfl)⟩
            · intro b off hb; cases hb; have := hc4.lt; omega
            rintro e w5 ⟨z, rfl, -, hc5, ho5⟩
            have hown5 := MC.own_only (hown4.alloc (.cells #[.int .i64 0, .int .i64 1000, .int .i64 1001] 3)) ho5 hplt
            have hor5 := (hor4.alloc (.cells #[.int .i64 0, .int .i64 1000, .int .i64 1001] 3)).trans ho5
            have hs5 := ho5.size
            obtain ⟨-, hx4, hx5⟩ := (MI2.RowAt.of_own hown5).at0 (j := 0) (by omega)
            generalize (MI2.at_ l 0).a0 = z3 at hx4
            generalize (MI2.at_ l 0).a1 = z4 at hx5
            simp only [Nat.zero_mul, Nat.zero_add] at hx4 hx5
            have hf4 := hown5.frozenAt 0
            have hf5 := hown5.frozenAt 1
            obtain ⟨ys, hyl, hys⟩ := JDD.flat_to l y z (by omega)
            obtain ⟨Q1, Q0⟩ := hown5.stored 0 (.int .i64 y)
            obtain ⟨R1, R0⟩ := Q1.stored 1 (.int .i64 z)
            have R2 := (hc5.grown Q0 (fun j hj => by cases hj; omega)).grown R0 (fun j hj => by cases hj; omega)
            have R3 := (hor5.grown Q0 (fun j hj => by cases hj; exact hgl.1)).grown R0 (fun j hj => by cases hj; exact hgl.1)
            rw [hys, ← hyl] at R1
            have hy21 : ys.length ≤ 11 := by omega
            have hy0 : (0 : Int) < (ys.length : Int) := by omega
            rw [← hyl]
            clear hown5 hown4 hor4 hc4 R0 Q0 Q1 hc5 hor5 ho5 hys hyl h0 h0'
            go_wp2
            go_ret
            exact ⟨_, lc, ys, rfl, hy21, R1, R2.more (by omega), R3⟩
  | true =>
    go_wp2_with fail
    refine (pick_any p a zs cap (M + 4) _ _ hz (by omega) hc2).mono ?_
    rintro e w2' ⟨r2, rfl, hr2, _, hc2', ho2'⟩
    have hr22 : r2 < 2 := by omega
    have hoB := hoA.trans ho2'
    clear hr2 hc2 hoA ho2'
    go_wp2_with fail
    go_loopw [3, 4] (fun lv nv wr => ∃ (m : Nat) (l : List I2) (M' : Nat), nv = .int .i64 m ∧ l.length + m ≤ 11 ∧ wr.ownsRow w.heap.size 48 2 lv l.length (MI2.flat l) ∧ MC.Cur wr p a zs cap M' ∧ M' + 4 * m ≤ M + 60 ∧ MC.Only p w wr) (fun _ nv _ => (intOf nv).toNat)
    case atStart => exact ⟨10 + r2, [], M + 6, by go_num, by simp; omega, World.ownsRow_nil _ _ _ _, hc2', by omega, hoB⟩
    case round =>
      clear hc2' hoB
      obtain ⟨m, l, M', rfl, hm, hown, hcr, hMr, hor⟩ := hrel
      have hows := hor.size
      by_cases hm0 : 0 < m
      · have m0 : (0 : Int) < (m : Int) := by omega
        go_wp2_with fail
        refine (pick_any p a zs cap M' _ _ hz (by omega) hcr).mono ?_
        rintro e w3 ⟨r1, rfl, hr1, _, hc3, ho3⟩
        have hown3 := MC.own_only hown ho3 hplt
        have hor3 := hor.trans ho3
        have h15 : r1 < 9 := by omega
        clear hown ho3 hcr hr1 hor
        go_wp2_with fail
        refine (pick_any p a zs cap (M' + 2) _ _ hz (by omega) hc3).mono ?_
        rintro e w4 ⟨r2, rfl, hr2, _, hc4, ho4⟩
        have hownW := MC.own_only hown3 ho4 hplt
        have hor4 := hor3.trans ho4
        have hs4 := hor4.size
        have h25 : r2 < 25 := by omega
        clear hown3 ho4 hc3 hr2 hor3
        go_wp2_with (at_builtin; refine wpList_append_own _ rfl _ _ 23 rfl w.heap.size 48 i2 (.agg #[.int .i64 0, .int .i64 0]) 2 16 Try.underlying23 hi' hz0' hz1' hz2' rfl (by decide) _ _ _ rfl (hownW.alloc _) ⟨w4.heap.size, 0, none⟩ 1 1 [.int .i64 (1 + (r1 : Int)), .int .i64 (1 + (r2 : Int))] rfl rfl ?d1 ?d2 ?d3 ?d4 ?d5 ?_)
        case d1 => exact JDD.newN _ _ _ _ (by simp)
        case d2 => exact JDD.one2 _ _
        case d3 => unfold maxLen; omega
        case d4 => omega
        case d5 => simp; omega
        intro v' wn hown1 hgrow _
        have R1 : wn.ownsRow w.heap.size 48 2 v' (l ++ [(⟨1 + (r1 : Int), 1 + (r2 : Int)⟩ : I2)]).length (MI2.flat (l ++ [⟨1 + (r1 : Int), 1 + (r2 : Int)⟩])) := by rw [← JDD.flat_snoc, List.length_append]; exact hown1
        have R2 := (hc4.alloc _).grown hgrow (fun j hj => by have := (hownW.lt j hj).1; omega)
        have R3 := (hor4.alloc _).grown hgrow (fun j hj => (hownW.lt j hj).1)
        have hl2 : (l ++ [(⟨1 + (r1 : Int), 1 + (r2 : Int)⟩ : I2)]).length = l.length + 1 := by simp
        clear hown1 hgrow hownW
        generalize l ++ [(⟨1 + (r1 : Int), 1 + (r2 : Int)⟩ : I2)] = l2 at *
        go_wp2
        go_roundw
        case rel => exact ⟨m - 1, l2, _, by go_num, by omega, R1, R2, by omega, R3⟩
        case measure => simp [intOf]; omega
      · obtain rfl : m = 0 := by omega
        by_cases h0 : l.length = 0
        · obtain ⟨av, lc, hv, -⟩ := JDD.own_row2 hown
          rw [hv] at hown ⊢
          rw [h0] at hown ⊢
          clear hv
          go_wp2
          go_ret
          exact ⟨av, lc, l, by rw [h0]; rfl, by omega, by rw [h0]; exact hown, hcr.more (by omega), hor⟩
        · have h0' : (0 : Int) < (l.length : Int) := by omega
          obtain ⟨g, lc, hv⟩ := JDD.own_some hown (by omega)
          rw [hv] at hown ⊢
          clear hv
          go_wp2_with fail
          refine (one_any p a zs cap M' _ _ hz (by omega) hcr).mono ?_
          rintro e w3 ⟨b, rfl, hc3, ho3⟩
          have hown3 := MC.own_only hown ho3 hplt
          have hor3 := hor.trans ho3
          have hs3 := hor3.size
          clear hown ho3 hcr hor
          cases b with
          | false =>
            go_wp2
            go_ret
            exact ⟨_, lc, l, rfl, by omega, hown3, hc3.more (by omega), hor3⟩
          | true =>
            have hgl := hown3.lt g rfl
            go_wp2_with fail
            refine (among_any p a zs cap (M' + 2) (some ⟨w3.heap.size, 0, none⟩) [0, 100, 101] 3 _ hz (by omega) (hc3.alloc _) (by simp) (by simp) ?_ ?_).mono ?_
            · exact .inr ⟨w3.heap.size, 0, rfl, by simp, fun j hj => by
                rw [Nat.zero_add]
                have h3 : j < 3 := hj
                rcases (show j = 0 ∨ j = 1 ∨ j = 2 by omega) with rfl | rfl | rfl <;> exact World.cell?_alloc_at _ _ _ _ (by rfl)⟩
            · intro b off hb; cases hb; have := hc3.lt; omega
            rintro e w4 ⟨y, rfl, -, hc4, ho4⟩
            have hown4 := MC.own_only (hown3.alloc (.cells #[.int .i64 0, .int .i64 100, .int .i64 101] 3)) ho4 hplt
            have hor4 := (hor3.alloc (.cells #[.int .i64 0, .int .i64 100, .int .i64 101] 3)).trans ho4
            have hs4 := ho4.size
            clear hown3 ho4 hc3 hor3
            go_wp2_with fail
            refine (among_any p a zs cap (M' + 4) (some ⟨w4.heap.size, 0, none⟩) [0, 1000, 1001] 3 _ hz (by omega) (hc4.alloc _) (by simp) (by simp) ?_ ?_).mono ?_
            · exact .inr ⟨w4.heap.size, 0, rfl, by simp, fun j hj => by
                rw [Nat.zero_add]
                have h3 : j < 3 := hj
                rcases (show j = 0 ∨ j = 1 ∨ j = 2 by omega) with rfl | rfl | rfl <;> exact World.cell?_alloc_at _ _ _ _ (by rfl)⟩
            · intro b off hb; cases hb; have := hc4.lt; omega
            rintro e w5 ⟨z, rfl, -, hc5, ho5⟩
            have hown5 := MC.own_only (hown4.alloc (.cells #[.int .i64 0, .int .i64 1000, .int .i64 1001] 3)) ho5 hplt
            have hor5 := (hor4.alloc (.cells #[.int .i64 0, .int .i64 1000, .int .i64 1001] 3)).trans ho5
            have hs5 := ho5.size
            obtain ⟨-, hx4, hx5⟩ := (MI2.RowAt.of_own hown5).at0 (j := 0) (by omega)
            generalize (MI2.at_ l 0).a0 = z3 at hx4
            generalize (MI2.at_ l 0).a1 = z4 at hx5
            simp only [Nat.zero_mul, Nat.zero_add] at hx4 hx5
            have hf4 := hown5.frozenAt 0
            have hf5 := hown5.frozenAt 1
            obtain ⟨ys, hyl, hys⟩ := JDD.flat_to l y z (by omega)
            obtain ⟨Q1, Q0⟩ := hown5.stored 0 (.int .i64 y)
            obtain ⟨R1, R0⟩ := Q1.stored 1 (.int .i64 z)
            have R2 := (hc5.grown Q0 (fun j hj => by cases hj; omega)).grown R0 (fun j hj => by cases hj; omega)
            have R3 := (hor5.grown Q0 (fun j hj => by cases hj; exact hgl.1)).grown R0 (fun j hj => by cases hj; exact hgl.1)
            rw [hys, ← hyl] at R1
            have hy21 : ys.length ≤ 11 := by omega
            have hy0 : (0 : Int) < (ys.length : Int) := by omega
            rw [← hyl]
            clear hown5 hown4 hor4 hc4 R0 Q0 Q1 hc5 hor5 ho5 hys hyl h0 h0'
            go_wp2
            go_ret
            exact ⟨_, lc, ys, rfl, hy21, R1, R2.more (by omega), R3⟩
end Go.Proofs.Ytgenmljnhlcpcaa
