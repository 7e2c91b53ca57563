/- A row of contacts' numbers, drawn. -/
import Derived.Test.YtobdgmopflccfaaRows
import Derived.Test.YtobdgmopflccfaaCPlanE
import Derived.Test.YtobdgmopflccfaaC6Row
import Derived.Test.YtobdgmopflccfaaMInfo
import Derived.Test.YtobdgmopflccfaaM5
import Derived.WalkKit
import Derived.WalkSpells
import Derived.WalkLawsBesides
import Derived.Outline
import Derived.Deep.QuietTactic
import Derived.BigQuiet
namespace Go.Proofs.Ytobdgmopflccfaa
open Go.RowKit
set_option linter.unusedSimpArgs false in
set_option maxHeartbeats 3200000 in
set_option maxRecDepth 100000 in
theorem over_any (p : Nat) (a : Option Addr) (zs : List Int) (cap M : Nat) (la : Option Addr) (lcap : Nat) (xs : List I5) (w : World) (hz : zs.length ≤ 140737488355328) (hM : M ≤ 140737488340000) (hxl : xs.length ≤ 21) (hc : MC.Cur w p a zs cap M) (HX : Hid (∀ W : World, MC.Only p w W → MI5.RowAt W la xs)) :
    Calls Try.prog 39 #[.pointer (some ⟨p, 0, none⟩), .slice la xs.length lcap] w fun e w' => ∃ a1 c1 os, e = .returned (.slice a1 (List.length os) c1) ∧ os.length ≤ 5 ∧ (∀ o ∈ os, 0 ≤ o ∧ o < (xs.length : Int)) ∧ w'.ownsRow w.heap.size 3 1 (.slice a1 os.length c1) os.length (M4.iv os) ∧ MC.Cur w' p a zs cap (M + 300) ∧ MC.Only p w w' := by
  obtain ⟨i0, hi, hz0, hz1, hz2⟩ := info_parts Try.info3
  have hplt := hc.lt
  go_enter Try.func39, Try.ntmps39
  go_wp2_with fail
  refine (pick_any p a zs cap M _ _ hz (by omega) hc).mono ?_
  rintro e w1 ⟨r, rfl, hr, _, hc1, ho1⟩
  have hr5 : r < 5 := by omega
  have HC1 : Hid _ := hc1
  have HO1 : Hid _ := ho1
  clear hr hc hc1 ho1
  go_wp2_with fail
  go_loopw [5, 6] (fun ov nv wr => ∃ (m : Nat) (os : List Int) (M' : Nat), nv = .int .i64 m ∧ os.length + m ≤ 5 ∧ Hid (∀ o ∈ os, 0 ≤ o ∧ o < (xs.length : Int)) ∧ Hid (wr.ownsRow w.heap.size 3 1 ov os.length (M4.iv os)) ∧ Hid (MC.Cur wr p a zs cap M') ∧ M' + 30 * m ≤ M + 160 ∧ MC.Only p w wr) (fun _ nv _ => (intOf nv).toNat)
  case atStart => exact ⟨r, [], M + 2, rfl, by simp; omega, show Hid _ from fun o h => absurd h (by simp), World.ownsRow_nil _ _ _ _, HC1, by omega, HO1.out⟩
  case round =>
    clear HC1 HO1
    obtain ⟨m, os, M', rfl, hm, hos, HT, HC, hMr, hor⟩ := hrel
    have hsr := hor.size
    obtain ⟨av, oc, hv⟩ := M5.own_view HT.out
    have hv1 := hv.1
    clear hv
    rw [hv1] at HT ⊢
    clear hv1
    by_cases hgo : 0 < m ∧ 0 < xs.length
    · obtain ⟨hm0, hx0⟩ := hgo
      have m0 : (0 : Int) < (m : Int) := by omega
      have x0 : (0 : Int) < (xs.length : Int) := by omega
      go_wp2_with fail
      refine (pick_any p a zs cap M' _ _ hz (by omega) HC.out).mono ?_
      rintro e w2 ⟨k0, rfl, hk0, _, hc2, ho2⟩
      have hk : k0 < xs.length := by omega
      have HT2 : Hid _ := MC.own_only HT.out ho2 hplt
      have HC2 : Hid _ := hc2
      have HO2 : Hid _ := hor.trans ho2
      clear HT HC hor ho2 hc2 hk0
      go_wp2_with fail
      go_loopw [7, 8] (fun kv tv wq => ∃ (k j M'' : Nat), kv = .int .i64 k ∧ k < xs.length ∧ tv = .int .i64 j ∧ j ≤ 12 ∧ Hid (wq.ownsRow w.heap.size 3 1 (.slice av os.length oc) os.length (M4.iv os)) ∧ Hid (MC.Cur wq p a zs cap M'') ∧ M'' + 2 * (12 - j) ≤ M' + 26 ∧ MC.Only p w wq) (fun _ tv _ => (12 - intOf tv).toNat)
      case atStart => exact ⟨k0, 0, M' + 2, rfl, hk, rfl, by omega, HT2, HC2, by omega, HO2.out⟩
      case round =>
        clear HT2 HC2 HO2
        obtain ⟨k, j, M'', rfl, hkx, rfl, hj, HT, HC, hMq, hoq⟩ := hrel
        have hsq := hoq.size
        obtain ⟨nl, hnl⟩ : ∃ nl, os.length = nl := ⟨_, rfl⟩
        rw [hnl] at HT hm ⊢
        have TL : Hid (∀ V : World, Below wr.heap.size wr V ∧ MC.Only p w V → Hid (V.ownsRow w.heap.size 3 1 (.slice av nl oc) nl (M4.iv os)) ∧ Hid (MC.Cur V p a zs cap M'') ∧ MC.Only p w V) := fun V h => ⟨M5.own_below HT.out h.1, HC.out.below h.1, h.2⟩
        have DR : Hid (∀ n : Nat, Below wr.heap.size wr (wr.drewN n) ∧ MC.Only p w (wr.drewN n)) := fun n => ⟨below_drewN (Below.refl _ _) n, hoq.drewN n⟩
        by_cases hj12 : j = 12
        · subst hj12
          rw [show ((12 : Nat) : Int) = 12 from rfl]
          clear HT HC hoq
          go_wp2
          go_quiet (fail)
          obtain ⟨HTd, HCd, hod⟩ := TL.out _ (DR.out nq)
          have hsd := hod.size
          clear TL DR
          generalize wr.drewN nq = V at *
          go_wp2_with (at_builtin; refine wpList_append_own _ rfl _ _ 26 rfl w.heap.size 3 i0 (.int .i64 0) 1 8 Try.underlying26 hi hz0 hz1 hz2 rfl (by decide) _ _ _ rfl (World.ownsRow.alloc HTd.out _) ⟨V.heap.size, 0, none⟩ 1 1 [.int .i64 (k : Int)] rfl rfl ?c11 ?c12 ?c13 ?c14 ?c15 ?_)
          case c11 => exact M2.new1 _ _ _
          case c12 => exact M2.one1 _ _
          case c13 => unfold maxLen; omega
          case c14 => omega
          case c15 => simp; omega
          intro v' wn hown1 hgrow _
          have hl2 : (os ++ [(k : Int)]).length = nl + 1 := by simp [hnl]
          have R1 : Hid (wn.ownsRow w.heap.size 3 1 v' (os ++ [(k : Int)]).length (M4.iv (os ++ [(k : Int)]))) := by
            show World.ownsRow _ _ _ _ _ _ _
            rw [hl2]
            simpa [M4.iv] using hown1
          have R2 : Hid _ := (HCd.out.alloc _).grown hgrow (fun j hj => by have := (World.ownsRow.lt HTd.out j hj).1; omega)
          have R3 := (hod.alloc _).grown hgrow (fun j hj => (World.ownsRow.lt HTd.out j hj).1)
          have R4 : Hid (∀ o ∈ os ++ [(k : Int)], 0 ≤ o ∧ o < (xs.length : Int)) := fun o h => by
            rcases List.mem_append.1 h with h | h
            · exact hos.out o h
            · rw [List.mem_singleton.1 h]; omega
          clear hown1 hgrow HTd HCd hod hos
          generalize os ++ [(k : Int)] = l2 at *
          go_wp2
          go_roundw
          case rel => exact ⟨m - 1, l2, _, by go_num, by omega, R4, R1, R2, by omega, R3⟩
          case measure => simp [intOf]; omega
        · have hj' : decide ((j : Int) < 12) = true := by simp; omega
          have hjl : (j : Int) < 12 := by omega
          cases nl with
          | zero =>
            clear HT HC hoq
            go_wp2
            go_quiet (fail)
            obtain ⟨HTd, HCd, hod⟩ := TL.out _ (DR.out nq)
            have hsd := hod.size
            clear TL DR
            generalize wr.drewN nq = V at *
            go_wp2_with (at_builtin; refine wpList_append_own _ rfl _ _ 26 rfl w.heap.size 3 i0 (.int .i64 0) 1 8 Try.underlying26 hi hz0 hz1 hz2 rfl (by decide) _ _ _ rfl (World.ownsRow.alloc HTd.out _) ⟨V.heap.size, 0, none⟩ 1 1 [.int .i64 (k : Int)] rfl rfl ?c21 ?c22 ?c23 ?c24 ?c25 ?_)
            case c21 => exact M2.new1 _ _ _
            case c22 => exact M2.one1 _ _
            case c23 => unfold maxLen; omega
            case c24 => omega
            case c25 => simp; omega
            intro v' wn hown1 hgrow _
            have hl2 : (os ++ [(k : Int)]).length = 0 + 1 := by simp [hnl]
            have R1 : Hid (wn.ownsRow w.heap.size 3 1 v' (os ++ [(k : Int)]).length (M4.iv (os ++ [(k : Int)]))) := by
              show World.ownsRow _ _ _ _ _ _ _
              rw [hl2]
              simpa [M4.iv] using hown1
            have R2 : Hid _ := (HCd.out.alloc _).grown hgrow (fun j hj => by have := (World.ownsRow.lt HTd.out j hj).1; omega)
            have R3 := (hod.alloc _).grown hgrow (fun j hj => (World.ownsRow.lt HTd.out j hj).1)
            have R4 : Hid (∀ o ∈ os ++ [(k : Int)], 0 ≤ o ∧ o < (xs.length : Int)) := fun o h => by
              rcases List.mem_append.1 h with h | h
              · exact hos.out o h
              · rw [List.mem_singleton.1 h]; omega
            clear hown1 hgrow HTd HCd hod hos
            generalize os ++ [(k : Int)] = l2 at *
            go_wp2
            go_roundw
            case rel => exact ⟨m - 1, l2, _, by go_num, by omega, R4, R1, R2, by omega, R3⟩
            case measure => simp [intOf]; omega
          | succ n =>
            obtain ⟨g, c9, e9⟩ := PLD.own_some HT.out (by omega)
            simp only [Value.slice.injEq] at e9
            obtain ⟨rfl, -, -⟩ := e9
            obtain ⟨b1, off1, e8, hlt1, hc1⟩ := M4.IntsAt.at (M4.IntsAt.of_own HT.out) (k := n) (by omega)
            simp only [Option.some.injEq, Addr.mk.injEq] at e8
            obtain ⟨rfl, rfl, -⟩ := e8
            have hmem : os.getD n 0 ∈ os := by
              rw [List.getD_eq_getElem?_getD, List.getElem?_eq_getElem (by omega)]; exact List.getElem_mem _
            obtain ⟨h0, h1⟩ := hos.out _ hmem
            obtain ⟨i, hi5⟩ := Int.eq_ofNat_of_zero_le h0
            rw [hi5] at hc1 h1
            have hix : i < xs.length := by omega
            obtain ⟨b2, off2, rfl, hlt2, d1, d0⟩ := PN.row_at2 (HX.out wr hoq) hix hkx
            rw [Nat.zero_add] at hc1
            generalize (MI5.at_ xs i).a1 = y at *
            generalize (MI5.at_ xs k).a0 = x at *
            clear HT HC hoq hmem h0 h1 hi5
            by_cases hyx : x = y
            · have hne : (x != y) = false := by simp [hyx]
              clear hyx
              go_wp2
              go_quiet (fail)
              obtain ⟨HTd, HCd, hod⟩ := TL.out _ (DR.out nq)
              have hsd := hod.size
              clear TL DR
              generalize wr.drewN nq = V at *
              go_wp2_with (at_builtin; refine wpList_append_own _ rfl _ _ 26 rfl w.heap.size 3 i0 (.int .i64 0) 1 8 Try.underlying26 hi hz0 hz1 hz2 rfl (by decide) _ _ _ rfl (World.ownsRow.alloc HTd.out _) ⟨V.heap.size, 0, none⟩ 1 1 [.int .i64 (k : Int)] rfl rfl ?c31 ?c32 ?c33 ?c34 ?c35 ?_)
              case c31 => exact M2.new1 _ _ _
              case c32 => exact M2.one1 _ _
              case c33 => unfold maxLen; omega
              case c34 => omega
              case c35 => simp; omega
              intro v' wn hown1 hgrow _
              have hl2 : (os ++ [(k : Int)]).length = (n + 1) + 1 := by simp [hnl]
              have R1 : Hid (wn.ownsRow w.heap.size 3 1 v' (os ++ [(k : Int)]).length (M4.iv (os ++ [(k : Int)]))) := by
                show World.ownsRow _ _ _ _ _ _ _
                rw [hl2]
                simpa [M4.iv] using hown1
              have R2 : Hid _ := (HCd.out.alloc _).grown hgrow (fun j hj => by have := (World.ownsRow.lt HTd.out j hj).1; omega)
              have R3 := (hod.alloc _).grown hgrow (fun j hj => (World.ownsRow.lt HTd.out j hj).1)
              have R4 : Hid (∀ o ∈ os ++ [(k : Int)], 0 ≤ o ∧ o < (xs.length : Int)) := fun o h => by
                rcases List.mem_append.1 h with h | h
                · exact hos.out o h
                · rw [List.mem_singleton.1 h]; omega
              clear hown1 hgrow HTd HCd hod hos
              generalize os ++ [(k : Int)] = l2 at *
              go_wp2
              go_roundw
              case rel => exact ⟨m - 1, l2, _, by go_num, by omega, R4, R1, R2, by omega, R3⟩
              case measure => simp [intOf]; omega
            · have hne : (x != y) = true := by simp [hyx]
              clear hyx
              go_wp2
              go_quiet (fail)
              obtain ⟨HTd, HCd, hod⟩ := TL.out _ (DR.out nq)
              have hsd := hod.size
              clear TL DR
              generalize wr.drewN nq = V at *
              clear hc1 d0 d1 hlt1 hlt2
              go_wp2_with fail
              refine (pick_any p a zs cap M'' _ _ hz (by omega) HCd.out).mono ?_
              rintro e w5 ⟨k5, rfl, hk5, _, hc5, ho5⟩
              have hk5 : k5 < xs.length := by omega
              have HT5 : Hid _ := MC.own_only HTd.out ho5 hplt
              have HC5 : Hid _ := hc5
              have HO5 : Hid _ := hod.trans ho5
              clear HTd HCd hod ho5 hc5
              go_wp2
              go_roundw
              case rel => exact ⟨k5, j + 1, M'' + 2, rfl, hk5, by go_num, by omega, HT5, HC5, by omega, HO5.out⟩
              case measure => simp [intOf]; omega
    · have hcase : m = 0 ∨ (0 < m ∧ xs.length = 0) := by omega
      have HO : Hid _ := hor
      rcases hcase with rfl | ⟨hm0, hx0⟩
      · rw [show ((0 : Nat) : Int) = 0 from rfl]
        clear hor hgo
        go_wp2
        go_ret
        exact ⟨av, oc, os, rfl, by omega, hos.out, HT.out, HC.out.more (by omega), HO.out⟩
      · have m0 : (0 : Int) < (m : Int) := by omega
        rw [hx0]
        clear hor hgo
        go_wp2
        go_ret
        exact ⟨av, oc, os, rfl, by omega, hos.out, HT.out, HC.out.more (by omega), HO.out⟩
end Go.Proofs.Ytobdgmopflccfaa
