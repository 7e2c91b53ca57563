/- Sizes and times that are drawn. -/
import Derived.Test.YteedppngiknjlaaDoorRows
import Derived.Test.YteedppngiknjlaaDoorCAmong
import Derived.Test.YteedppngiknjlaaDoorM5
import Derived.Test.YteedppngiknjlaaDoorMInfo
import Derived.Test.YteedppngiknjlaaDoorMCurNew
import Derived.Test.YteedppngiknjlaaDoorMBV
import Derived.WalkKit
import Derived.WalkSpells
import Derived.WalkLawsBesides
import Derived.Outline
namespace Go.Proofs.YteedppngiknjlaaDoor
open Go.RowKit
namespace TD
/-- Numbers that were just laid in a new block. -/
theorem new_ints (W : World) (xs : List Int) (t : TypeId) : M4.IntsAt (W.alloc (.cells (M4.iv xs).toArray t)) (some ⟨W.heap.size, 0, none⟩) xs := by
  refine .inr ⟨W.heap.size, 0, rfl, by simp, fun j hj => ?_⟩
  rw [Nat.zero_add, World.cell?_alloc_at _ _ _ _ (by rfl)]
  simp [M4.iv, List.getElem?_eq_getElem hj]
theorem own_some {w : World} {base e sz n : Nat} {v : Value} {xs : List Value} (h : w.ownsRow base e sz v n xs) (hn : 0 < n) : ∃ g cap, v = .slice (some ⟨g, 0, none⟩) n cap := by
  rcases h.2 with ⟨-, h0⟩ | ⟨g, cap, cur, rfl, -⟩
  · omega
  · exact ⟨g, cap, rfl⟩
end TD
set_option maxHeartbeats 800000 in
set_option maxRecDepth 100000 in
theorem sizes_any (p : Nat) (a : Option Addr) (zs : List Int) (cap M : Nat) (w : World) (hz : zs.length ≤ 140737488355328) (hM : M ≤ 140737488340000) (hc : MC.Cur w p a zs cap M) :
    Calls Tryd.prog 25 #[.pointer (some ⟨p, 0, none⟩)] w fun e w' => ∃ x y : Int, e = .returned (.tuple #[.int .i64 x, .int .i64 y]) ∧ MC.Cur w' p a zs cap (M + 6) ∧ MC.Only p w w' := by
  have hplt := hc.lt
  go_enter Tryd.func25, Tryd.ntmps25
  go_wp2_with fail
  refine (one_any p a zs cap M _ _ hz (by omega) hc).mono ?_
  rintro e w1 ⟨b, rfl, hc1, ho1⟩
  have hs1 := ho1.size
  clear hc
  cases b with
  | false =>
    go_wp2_with fail
    refine (pick_any p a zs cap (M + 2) _ _ hz (by omega) hc1).mono ?_
    rintro e w2 ⟨r, rfl, hr, hr', hc2, ho2⟩
    have hoA := ho1.trans ho2
    clear hc1 ho1 ho2
    go_wp2_with fail
    refine (pick_any p a zs cap (M + 4) _ _ hz (by omega) hc2).mono ?_
    rintro e w3 ⟨q, rfl, hq, hq', hc3, ho3⟩
    have hoB := hoA.trans ho3
    clear hc2 hoA ho3
    go_wp2
    go_ret2
    exact ⟨_, _, rfl, hc3, hoB⟩
  | true =>
    go_wp2_with fail
    refine (among_any p a zs cap (M + 2) (some ⟨w1.heap.size, 0, none⟩) [0, 50, 51] 3 _ hz (by omega) (hc1.alloc _) (by simp) (by simp) (TD.new_ints _ _ _) ?_).mono ?_
    · intro b off hb; cases hb; have := hc1.lt; omega
    rintro e w2 ⟨x, rfl, -, hc2, ho2⟩
    have hoA := (ho1.alloc (.cells #[.int .i64 0, .int .i64 50, .int .i64 51] 3)).trans ho2
    clear hc1 ho1 ho2
    go_wp2_with fail
    refine (among_any p a zs cap (M + 4) (some ⟨w2.heap.size, 0, none⟩) [0, 20, 21] 3 _ hz (by omega) (hc2.alloc _) (by simp) (by simp) (TD.new_ints _ _ _) ?_).mono ?_
    · intro b off hb; cases hb; have := hc2.lt; omega
    rintro e w3 ⟨y, rfl, -, hc3, ho3⟩
    have hoB := (hoA.alloc (.cells #[.int .i64 0, .int .i64 20, .int .i64 21] 3)).trans ho3
    clear hc2 hoA ho3
    go_wp2
    go_ret2
    exact ⟨_, _, rfl, hc3, hoB⟩
set_option linter.unusedSimpArgs false in
set_option maxHeartbeats 1600000 in
set_option maxRecDepth 100000 in
theorem times_any (p : Nat) (a : Option Addr) (zs : List Int) (cap M : Nat) (w : World) (hz : zs.length ≤ 140737488355328) (hM : M ≤ 140737488340000) (hc : MC.Cur w p a zs cap M) :
    Calls Tryd.prog 26 #[.pointer (some ⟨p, 0, none⟩)] w fun e w' => ∃ a1 c1 l, e = .returned (.slice a1 (List.length l) c1) ∧ l.length ≤ 62 ∧ w'.ownsRow w.heap.size 3 1 (.slice a1 l.length c1) l.length (M4.iv l) ∧ MC.Cur w' p a zs cap (M + 140) ∧ MC.Only p w w' := by
  obtain ⟨i0, hi, hz0, hz1, hz2⟩ := info_parts Tryd.info3
  have hplt := hc.lt
  go_enter Tryd.func26, Tryd.ntmps26
  go_wp2_with fail
  refine (pick_any p a zs cap M _ _ hz (by omega) hc).mono ?_
  rintro e w1 ⟨r, rfl, hr, hr', hc1, ho1⟩
  clear hc hr
  go_wp2_with fail
  refine (pick_any p a zs cap (M + 2) _ _ hz (by omega) hc1).mono ?_
  rintro e w2 ⟨q, rfl, hq, hq', hc2, ho2⟩
  have hq20 : q < 20 := by omega
  have hoA := ho1.trans ho2
  clear hc1 ho1 ho2 hq hq'
  go_wp2_with fail
  refine (one_any p a zs cap (M + 4) _ _ hz (by omega) hc2).mono ?_
  rintro e w3 ⟨b, rfl, hc3, ho3⟩
  have hoB := hoA.trans ho3
  clear hc2 hoA ho3
  cases b with
  | false =>
    go_wp2_with fail
    go_loopw [3, 4, 5] (fun lv tv nv wr => ∃ (m : Nat) (t : Int) (l : List Int) (M' : Nat), nv = .int .i64 m ∧ tv = .int .i64 t ∧ l.length + m ≤ 62 ∧ wr.ownsRow w.heap.size 3 1 lv l.length (M4.iv l) ∧ MC.Cur wr p a zs cap M' ∧ M' + 2 * m ≤ M + 132 ∧ MC.Only p w wr) (fun _ _ nv _ => (intOf nv).toNat)
    case atStart => exact ⟨q, _, [], M + 8, rfl, rfl, by simp; omega, World.ownsRow_nil _ _ _ _, (hc3.more (by omega)), by omega, hoB⟩
    case round =>
      clear hc3 hoB
      obtain ⟨m, t, l, M', rfl, rfl, hm, hown, hcr, hMr, hor⟩ := hrel
      have hows := hor.size
      by_cases hm0 : 0 < m
      · have m0 : (0 : Int) < (m : Int) := by omega
        go_wp2_with (at_builtin; refine wpList_append_own _ rfl _ _ 23 rfl w.heap.size 3 i0 (.int .i64 0) 1 8 Tryd.underlying23 hi hz0 hz1 hz2 rfl (by decide) _ _ _ rfl (hown.alloc _) ⟨wr.heap.size, 0, none⟩ 1 1 [.int .i64 t] rfl rfl ?b1 ?b2 ?b3 ?b4 ?b5 ?_)
        case b1 => exact M2.new1 _ _ _
        case b2 => exact M2.one1 _ _
        case b3 => unfold maxLen; omega
        case b4 => omega
        case b5 => simp; omega
        intro v' wn hown1 hgrow _
        have R1 : wn.ownsRow w.heap.size 3 1 v' (l ++ [t]).length (M4.iv (l ++ [t])) := by rw [List.length_append]; simpa [M4.iv] using hown1
        have R2 := (hcr.alloc (.cells #[.int .i64 t] 3)).grown hgrow (fun j hj => by have := (hown.lt j hj).1; omega)
        have R3 := (hor.alloc (.cells #[.int .i64 t] 3)).grown hgrow (fun j hj => (hown.lt j hj).1)
        have hl2 : (l ++ [t]).length = l.length + 1 := by simp
        clear hown1 hgrow hown hcr hor
        generalize l ++ [t] = l2 at *
        have hsn := R3.size
        go_wp2_with fail
        refine (among_any p a zs cap M' (some ⟨wn.heap.size, 0, none⟩) [0, 0, 1, 2, 5, 20] 6 _ hz (by omega) (R2.alloc _) (by simp) (by simp) (TD.new_ints _ _ _) ?_).mono ?_
        · intro b off hb; cases hb; have := R2.lt; omega
        rintro e w5 ⟨y, rfl, -, hc5, ho5⟩
        have hown5 := MC.own_only (R1.alloc (.cells #[.int .i64 0, .int .i64 0, .int .i64 1, .int .i64 2, .int .i64 5, .int .i64 20] 3)) ho5 hplt
        have hor5 := (R3.alloc (.cells #[.int .i64 0, .int .i64 0, .int .i64 1, .int .i64 2, .int .i64 5, .int .i64 20] 3)).trans ho5
        clear R1 R2 R3 ho5
        go_wp2
        go_roundw
        case rel => exact ⟨m - 1, _, l2, _, by go_num, rfl, by omega, hown5, hc5, by omega, hor5⟩
        case measure => simp [intOf]; omega
      · obtain rfl : m = 0 := by omega
        clear hm0
        by_cases h0 : l.length = 0
        · obtain ⟨av, lc, hv⟩ := BV.own_slice hown
          rw [hv] at hown ⊢
          rw [h0] at hown ⊢
          clear hv
          go_wp2
          go_ret
          exact ⟨av, lc, l, by rw [h0]; rfl, by omega, by rw [h0]; exact hown, hcr.more (by omega), hor⟩
        · have h0' : (0 : Int) < (l.length : Int) := by omega
          obtain ⟨g, lc, hv⟩ := TD.own_some hown (by omega)
          rw [hv] at hown ⊢
          clear hv
          go_wp2_with fail
          refine (one_any p a zs cap M' _ _ hz (by omega) hcr).mono ?_
          rintro e w6 ⟨b, rfl, hc6, ho6⟩
          have hown6 := MC.own_only hown ho6 hplt
          have hor6 := hor.trans ho6
          have hs6 := hor6.size
          clear hown ho6 hcr hor
          cases b with
          | false =>
            go_wp2
            go_ret
            exact ⟨_, lc, l, rfl, by omega, hown6, hc6.more (by omega), hor6⟩
          | true =>
            have hgl := hown6.lt g rfl
            go_wp2_with fail
            refine (among_any p a zs cap (M' + 2) (some ⟨w6.heap.size, 0, none⟩) [-1, 1000000, 1000001] 3 _ hz (by omega) (hc6.alloc _) (by simp) (by simp) (TD.new_ints _ _ _) ?_).mono ?_
            · intro b off hb; cases hb; have := hc6.lt; omega
            rintro e w7 ⟨y, rfl, -, hc7, ho7⟩
            have hown7 := MC.own_only (hown6.alloc (.cells #[.int .i64 (-1), .int .i64 1000000, .int .i64 1000001] 3)) ho7 hplt
            have hor7 := (hor6.alloc (.cells #[.int .i64 (-1), .int .i64 1000000, .int .i64 1000001] 3)).trans ho7
            obtain ⟨n1, hn1⟩ : ∃ n1, l.length = n1 + 1 := ⟨l.length - 1, by omega⟩
            have hcl : w7.cell? ⟨g, n1, none⟩ = some (.int .i64 (l.getD n1 0)) := by
              rw [hown7.cellAt n1 (by omega)]; exact M4.iv_get _ _ _ (by simp [List.getD_eq_getElem?_getD, List.getElem?_eq_getElem (show n1 < l.length by omega)])
            have hfl := hown7.frozenAt n1
            have hst := hown7.stored n1 (.int .i64 y)
            rw [M4.iv_set] at hst
            have hidx : ((l.length : Int) - 1) = (n1 : Int) := by omega
            have R1 := hst.1
            have R2 := hc7.grown hst.2 (fun j hj => by simp at hj; omega)
            have R3 := hor7.grown hst.2 (fun j hj => by simp at hj; omega)
            have hl2 : (l.set n1 y).length = l.length := by simp
            have HL2 : Hid _ := hl2
            generalize l.set n1 y = l2 at *
            clear hst hown7 hown6 hor7 hor6 hc6 ho7 hl2
            rw [hn1] at R1 HL2 ⊢
            have hn62 : n1 + 1 ≤ 62 := by omega
            clear hn1 h0 h0' hidx hm
            go_wp2
            go_ret
            exact ⟨_, lc, l2, by rw [HL2.out]; rfl, by rw [HL2.out]; omega, by rw [HL2.out]; exact R1, R2.more (by omega), R3⟩
  | true =>
    go_wp2_with fail
    refine (pick_any p a zs cap (M + 6) _ _ hz (by omega) hc3).mono ?_
    rintro e w4 ⟨s, rfl, hs, hs', hc4, ho4⟩
    have hs2 : s < 2 := by omega
    have hoC := hoB.trans ho4
    clear hc3 hoB ho4 hs hs' hq20
    go_wp2_with fail
    go_loopw [3, 4, 5] (fun lv tv nv wr => ∃ (m : Nat) (t : Int) (l : List Int) (M' : Nat), nv = .int .i64 m ∧ tv = .int .i64 t ∧ l.length + m ≤ 62 ∧ wr.ownsRow w.heap.size 3 1 lv l.length (M4.iv l) ∧ MC.Cur wr p a zs cap M' ∧ M' + 2 * m ≤ M + 132 ∧ MC.Only p w wr) (fun _ _ nv _ => (intOf nv).toNat)
    case atStart => exact ⟨(60 + s), _, [], M + 8, by go_num, rfl, by simp; omega, World.ownsRow_nil _ _ _ _, (hc4), by omega, hoC⟩
    case round =>
      clear hc4 hoC
      obtain ⟨m, t, l, M', rfl, rfl, hm, hown, hcr, hMr, hor⟩ := hrel
      have hows := hor.size
      by_cases hm0 : 0 < m
      · have m0 : (0 : Int) < (m : Int) := by omega
        go_wp2_with (at_builtin; refine wpList_append_own _ rfl _ _ 23 rfl w.heap.size 3 i0 (.int .i64 0) 1 8 Tryd.underlying23 hi hz0 hz1 hz2 rfl (by decide) _ _ _ rfl (hown.alloc _) ⟨wr.heap.size, 0, none⟩ 1 1 [.int .i64 t] rfl rfl ?c1 ?c2 ?c3 ?c4 ?c5 ?_)
        case c1 => exact M2.new1 _ _ _
        case c2 => exact M2.one1 _ _
        case c3 => unfold maxLen; omega
        case c4 => omega
        case c5 => simp; omega
        intro v' wn hown1 hgrow _
        have R1 : wn.ownsRow w.heap.size 3 1 v' (l ++ [t]).length (M4.iv (l ++ [t])) := by rw [List.length_append]; simpa [M4.iv] using hown1
        have R2 := (hcr.alloc (.cells #[.int .i64 t] 3)).grown hgrow (fun j hj => by have := (hown.lt j hj).1; omega)
        have R3 := (hor.alloc (.cells #[.int .i64 t] 3)).grown hgrow (fun j hj => (hown.lt j hj).1)
        have hl2 : (l ++ [t]).length = l.length + 1 := by simp
        clear hown1 hgrow hown hcr hor
        generalize l ++ [t] = l2 at *
        have hsn := R3.size
        go_wp2_with fail
        refine (among_any p a zs cap M' (some ⟨wn.heap.size, 0, none⟩) [0, 0, 1, 2, 5, 20] 6 _ hz (by omega) (R2.alloc _) (by simp) (by simp) (TD.new_ints _ _ _) ?_).mono ?_
        · intro b off hb; cases hb; have := R2.lt; omega
        rintro e w5 ⟨y, rfl, -, hc5, ho5⟩
        have hown5 := MC.own_only (R1.alloc (.cells #[.int .i64 0, .int .i64 0, .int .i64 1, .int .i64 2, .int .i64 5, .int .i64 20] 3)) ho5 hplt
        have hor5 := (R3.alloc (.cells #[.int .i64 0, .int .i64 0, .int .i64 1, .int .i64 2, .int .i64 5, .int .i64 20] 3)).trans ho5
        clear R1 R2 R3 ho5
        go_wp2
        go_roundw
        case rel => exact ⟨m - 1, _, l2, _, by go_num, rfl, by omega, hown5, hc5, by omega, hor5⟩
        case measure => simp [intOf]; omega
      · obtain rfl : m = 0 := by omega
        clear hm0
        by_cases h0 : l.length = 0
        · obtain ⟨av, lc, hv⟩ := BV.own_slice hown
          rw [hv] at hown ⊢
          rw [h0] at hown ⊢
          clear hv
          go_wp2
          go_ret
          exact ⟨av, lc, l, by rw [h0]; rfl, by omega, by rw [h0]; exact hown, hcr.more (by omega), hor⟩
        · have h0' : (0 : Int) < (l.length : Int) := by omega
          obtain ⟨g, lc, hv⟩ := TD.own_some hown (by omega)
          rw [hv] at hown ⊢
          clear hv
          go_wp2_with fail
          refine (one_any p a zs cap M' _ _ hz (by omega) hcr).mono ?_
          rintro e w6 ⟨b, rfl, hc6, ho6⟩
          have hown6 := MC.own_only hown ho6 hplt
          have hor6 := hor.trans ho6
          have hs6 := hor6.size
          clear hown ho6 hcr hor
          cases b with
          | false =>
            go_wp2
            go_ret
            exact ⟨_, lc, l, rfl, by omega, hown6, hc6.more (by omega), hor6⟩
          | true =>
            have hgl := hown6.lt g rfl
            go_wp2_with fail
            refine (among_any p a zs cap (M' + 2) (some ⟨w6.heap.size, 0, none⟩) [-1, 1000000, 1000001] 3 _ hz (by omega) (hc6.alloc _) (by simp) (by simp) (TD.new_ints _ _ _) ?_).mono ?_
            · intro b off hb; cases hb; have := hc6.lt; omega
            rintro e w7 ⟨y, rfl, -, hc7, ho7⟩
            have hown7 := MC.own_only (hown6.alloc (.cells #[.int .i64 (-1), .int .i64 1000000, .int .i64 1000001] 3)) ho7 hplt
            have hor7 := (hor6.alloc (.cells #[.int .i64 (-1), .int .i64 1000000, .int .i64 1000001] 3)).trans ho7
            obtain ⟨n1, hn1⟩ : ∃ n1, l.length = n1 + 1 := ⟨l.length - 1, by omega⟩
            have hcl : w7.cell? ⟨g, n1, none⟩ = some (.int .i64 (l.getD n1 0)) := by
              rw [hown7.cellAt n1 (by omega)]; exact M4.iv_get _ _ _ (by simp [List.getD_eq_getElem?_getD, List.getElem?_eq_getElem (show n1 < l.length by omega)])
            have hfl := hown7.frozenAt n1
            have hst := hown7.stored n1 (.int .i64 y)
            rw [M4.iv_set] at hst
            have hidx : ((l.length : Int) - 1) = (n1 : Int) := by omega
            have R1 := hst.1
            have R2 := hc7.grown hst.2 (fun j hj => by simp at hj; omega)
            have R3 := hor7.grown hst.2 (fun j hj => by simp at hj; omega)
            have hl2 : (l.set n1 y).length = l.length := by simp
            have HL2 : Hid _ := hl2
            generalize l.set n1 y = l2 at *
            clear hst hown7 hown6 hor7 hor6 hc6 ho7 hl2
            rw [hn1] at R1 HL2 ⊢
            have hn62 : n1 + 1 ≤ 62 := by omega
            clear hn1 h0 h0' hidx hm
            go_wp2
            go_ret
            exact ⟨_, lc, l2, by rw [HL2.out]; rfl, by rw [HL2.out]; omega, by rw [HL2.out]; exact R1, R2.more (by omega), R3⟩
end Go.Proofs.YteedppngiknjlaaDoor
