import Derived.Test.YtkgiboookbhmmaaRows
import Derived.Test.YtkgiboookbhmmaaCDrawP
import Derived.Test.YtkgiboookbhmmaaCPairImp
import Derived.Test.YtkgiboookbhmmaaMPX
import Derived.WalkKit
import Derived.WalkSpells
import Derived.WalkLawsBesides
import Derived.Outline
/- DrawIsMatch: a pairing and a match, drawn. -/
namespace Go.Proofs.Ytkgiboookbhmmaa
open Go.RowKit
set_option linter.unusedSimpArgs false in
set_option maxHeartbeats 1600000 in
set_option maxRecDepth 100000 in
theorem drawIsMatch_any (a : Option Addr) (zs : List Int) (cap : Nat) (w : World) (hz : zs.length ≤ 140737488355328) (hb : MC.BytesAt w w.heap.size a zs) :
    Calls Try.prog 38 #[.slice a zs.length cap] w fun e w' => ∃ (l r : Int) (a1 : Option Addr) (c1 : Nat) (ws : List (List Int)) (a2 : Option Addr) (c2 : Nat) (m : List Int), e = .returned (.tuple #[PG.pv l r (.slice a1 ws.length c1), .slice a2 m.length c2]) ∧ (ws.length ≤ 9 ∧ l = (ws.length : Int) ∧ 0 ≤ r ∧ r ≤ 5) ∧ NR.tot ws ≤ 100 ∧ m.length = ws.length ∧ (∃ b, w.heap.size < b ∧ PG.PE 25 27 b w' l r (.slice a1 ws.length c1) ws) ∧ w'.ownsRow (w.heap.size + 1) 3 1 (.slice a2 m.length c2) m.length (M4.iv m) ∧ Below w.heap.size w w' := by
  obtain ⟨i0, hi, hz0, hz1, hz2⟩ := info_parts Try.info3
  have B0 : Below w.heap.size w (w.alloc (.cells #[.int .i64 0, .int .i64 0, .slice none 0 0] 25)) := (Below.refl _ w).alloc (Nat.le_refl _) _
  have hb0 := (hb.only (q := w.heap.size) (MC.Only.of_below B0) (Nat.le_refl _) (Nat.le_refl _)).up B0.size
  have hbx : (w.alloc (.cells #[.int .i64 0, .int .i64 0, .slice none 0 0] 25)).heap[w.heap.size]? = some (.cells #[.int .i64 0, .int .i64 0, .slice none 0 0] 25 (0, 0)) := heap_alloc_new w _
  have hs0 : w.heap.size < (w.alloc (.cells #[.int .i64 0, .int .i64 0, .slice none 0 0] 25)).heap.size := by simp
  have hs9 : (w.alloc (.cells #[.int .i64 0, .int .i64 0, .slice none 0 0] 25)).heap.size = w.heap.size + 1 := by simp
  have hcn := cur_new (T := 64) (cap := cap) hb0
  rw [hs9] at hcn
  have PN : Hid _ := pairing_any (w.heap.size + 1) a zs cap 0 _ hz (by omega) hcn
  have HBX : Hid _ := hbx
  clear hb hb0 hbx hcn
  go_enter Try.func38, Try.ntmps38
  go_wp2_with fail
  refine Calls.mono PN.out ?_
  rintro e w1 ⟨l, r, a1, c1, ws, rfl, h9, ht, ⟨b, hbl, hE⟩, hc1, ho1⟩
  obtain ⟨h9, rfl, hr0, hr5⟩ := h9
  have hB1 := new_below hs9.symm ho1
  have hbx1 := (hB1.block w.heap.size hs0).trans HBX.out
  have hp1 := hc1.lt
  have hbl' : w.heap.size + 1 < b := by simp at hbl; omega
  -- the world with the pairing's box
  have A1 : Below w1.heap.size w1 (w1.alloc (Obj.cells #[.int .i64 (ws.length : Int), .int .i64 r, .slice a1 ws.length c1] 25)) := (Below.refl _ w1).alloc (Nat.le_refl _) _
  have HC : Hid (MC.Cur (w1.alloc (Obj.cells #[.int .i64 (ws.length : Int), .int .i64 r, .slice a1 ws.length c1] 25)) (w.heap.size + 1) a zs cap 300) := MC.Cur.more (hc1.alloc _) (by omega)
  have hWE := hE.only (MC.Only.of_below A1 (p := w.heap.size + 1)) hbl'
  have hWR := (A1.block w.heap.size (by omega)).trans hbx1
  have hWX := heap_alloc_new w1 (Obj.cells #[.int .i64 (ws.length : Int), .int .i64 r, .slice a1 ws.length c1] 25)
  have hWs : w1.heap.size < (w1.alloc (Obj.cells #[.int .i64 (ws.length : Int), .int .i64 r, .slice a1 ws.length c1] 25)).heap.size := by simp
  have hWB : Below w.heap.size w (w1.alloc (Obj.cells #[.int .i64 (ws.length : Int), .int .i64 r, .slice a1 ws.length c1] 25)) := (B0.trans (hB1.mono B0.size)).trans (A1.mono (by omega))
  have HE : Hid (∀ V : World, MC.Only (w.heap.size + 1) (w1.alloc (Obj.cells #[.int .i64 (ws.length : Int), .int .i64 r, .slice a1 ws.length c1] 25)) V → PG.PE 25 27 b V (ws.length : Int) r (.slice a1 ws.length c1) ws ∧ V.heap[w.heap.size]? = some (.cells #[.int .i64 0, .int .i64 0, .slice none 0 0] 25 (0, 0)) ∧ V.heap[w1.heap.size]? = some (.cells #[.int .i64 (ws.length : Int), .int .i64 r, .slice a1 ws.length c1] 25 (0, 0))) := fun V h => ⟨hWE.only h hbl', (h.block w.heap.size (by omega) (by omega)).trans hWR, (h.block w1.heap.size hWs (by omega)).trans hWX⟩
  clear PN hc1 ho1 HBX hE hbl hB1 hbx1 A1 hWE hWR hWX B0
  go_wp2
  generalize w1.alloc (Obj.cells #[.int .i64 (ws.length : Int), .int .i64 r, .slice a1 ws.length c1] 25) = W at *
  generalize w1.heap.size = q at *
  go_loopw [6, 7] (fun mv iv wr => ∃ k : Nat, iv = .int .i64 k ∧ k ≤ ws.length ∧ Hid (wr.ownsRow W.heap.size 3 1 mv k (M4.iv (List.replicate k (-1)))) ∧ Hid (MC.Cur wr (w.heap.size + 1) a zs cap 300) ∧ MC.Only (w.heap.size + 1) W wr) (fun _ iv _ => (ws.length - intOf iv).toNat)
  case atStart => exact ⟨0, rfl, by omega, World.ownsRow_nil _ _ _ _, HC, MC.Only.refl _ _⟩
  case round =>
    clear HC
    obtain ⟨k, rfl, hk, HT, HC, hO⟩ := hrel
    obtain ⟨hE, hX, hY⟩ := HE.out wr hO
    have c0 := PG.cellA hY (i := 0) rfl
    have hsz := hO.size
    by_cases hlk : k < ws.length
    · clear hE hX hY
      go_wp2_with (at_builtin; (refine wpList_append_own _ rfl _ _ 27 rfl W.heap.size 3 i0 (.int .i64 0) 1 8 Try.underlying27 hi hz0 hz1 hz2 rfl (by decide) _ _ _ rfl (World.ownsRow.alloc HT.out _) ⟨wr.heap.size, 0, none⟩ 1 1 [.int .i64 (-1)] rfl rfl ?a1 ?a2 ?a3 ?a4 ?a5 ?_))
      case a1 => exact M2.new1 _ _ _
      case a2 => exact M2.one1 _ _
      case a3 => unfold maxLen; omega
      case a4 => omega
      case a5 => simp; omega
      intro v8 w8 hown8 hgrow8 _
      have hO8 : MC.Only (w.heap.size + 1) W w8 := (hO.alloc _).grown hgrow8 (fun q hq => (World.ownsRow.lt HT.out q hq).1)
      have HC8 : Hid (MC.Cur w8 (w.heap.size + 1) a zs cap 300) := (HC.out.alloc _).grown hgrow8 (fun q hq => by have := (World.ownsRow.lt HT.out q hq).1; omega)
      have HT8 : Hid (w8.ownsRow W.heap.size 3 1 v8 (k + 1) (M4.iv (List.replicate (k + 1) (-1)))) := by
        show World.ownsRow _ _ _ _ _ _ _
        rw [List.replicate_succ', show M4.iv (List.replicate k (-1) ++ [(-1 : Int)]) = M4.iv (List.replicate k (-1)) ++ [.int .i64 (-1)] by simp [M4.iv]]
        exact hown8
      clear hown8 hgrow8 HT HC hO
      go_wp2
      go_roundw
      case rel => exact ⟨k + 1, by go_num, by omega, HT8, HC8, hO8⟩
      case measure => simp [intOf]; omega
    · obtain rfl : k = ws.length := by omega
      clear hE hX hY
      have PK : Hid _ := pick_any (w.heap.size + 1) a zs cap 300 5 wr hz (by omega) HC.out
      go_wp2_with fail
      refine Calls.mono PK.out ?_
      rintro e w3 ⟨n3, rfl, hn3, _, hc3, ho3⟩
      have hO3 := hO.trans ho3
      have HT3 : Hid (w3.ownsRow W.heap.size 3 1 u6 (List.replicate ws.length (-1 : Int)).length (M4.iv (List.replicate ws.length (-1)))) := by have := MC.own_only HT.out ho3 (by omega); rw [List.length_replicate]; exact this
      have HC3 : Hid (MC.Cur w3 (w.heap.size + 1) a zs cap 302) := hc3
      have hn3' : n3 ≤ 65535 := by omega
      clear PK HT HC hO ho3 hc3 c0 hsz hn3
      go_wp2
      go_loopw [6, 8] (fun mv nv wr => ∃ (n : Nat) (m : List Int), nv = .int .i64 n ∧ n ≤ 65535 ∧ Hid (m.length = ws.length) ∧ Hid (wr.ownsRow W.heap.size 3 1 mv m.length (M4.iv m)) ∧ Hid (MC.Cur wr (w.heap.size + 1) a zs cap 302) ∧ MC.Only (w.heap.size + 1) W wr) (fun _ nv _ => (intOf nv).toNat)
      case atStart => exact ⟨n3, _, rfl, hn3', List.length_replicate, HT3, HC3, hO3⟩
      case round =>
        clear HT3 HC3 hO3
        obtain ⟨n, m, rfl, hn, HML, HT4, HC4, hO4⟩ := hrel
        obtain ⟨hE4, hX4, hY4⟩ := HE.out _ hO4
        have hs4 := hO4.size
        obtain ⟨a5, c5, rfl, I5⟩ := M5.own_view HT4.out
        by_cases hn0 : 0 < n
        · obtain ⟨n, rfl⟩ : ∃ n', n = n' + 1 := ⟨n - 1, by omega⟩
          have hcap : m.length ≤ c5 := by
            rcases HT4.out.2 with ⟨_, h0⟩ | ⟨g, cap, cur, hv, _, _, hge, _⟩
            · omega
            · simp only [Value.slice.injEq] at hv
              rw [hv.2.2]; exact hge
          obtain ⟨az, cz, hvz, hR⟩ := hE4.view
          simp only [Value.slice.injEq] at hvz
          obtain ⟨rfl, -, -⟩ := hvz
          have hm9 : m.length ≤ 9 := by rw [HML.out]; exact h9
          have IMP : Hid _ := specImp_any (ws.length : Int) r a1 a5 c1 c5 ws m _ (by omega) (by omega) (by omega) hcap hR I5 _ rfl
          have x0 := PG.cellA hY4 (i := 0) rfl
          have x1 := PG.cellA hY4 (i := 1) rfl
          have x2 := PG.cellA hY4 (i := 2) rfl
          clear hE4 hX4 hY4 I5 hR hcap hm9
          go_wp2_with fail
          clear x0 x1 x2
          refine Calls.mono IMP.out ?_
          rintro e w5 ⟨a6, c6, rfl, o6, b6⟩
          have hO5 := hO4.trans (MC.Only.of_below b6)
          have HC5 : Hid (MC.Cur w5 (w.heap.size + 1) a zs cap 302) := MC.Cur.below HC4.out b6
          have HT5 : Hid (w5.ownsRow W.heap.size 3 1 (.slice a5 m.length c5) m.length (M4.iv m)) := M5.own_below HT4.out b6
          have o7 := PG.own_mono o6 hs4
          have H7 : Hid _ := o7
          clear IMP HC4 HT4 hO4 o6 o7 b6
          cases hq : PG.impL (ws.length : Int) r ws m with
          | none =>
            rw [hq] at H7
            clear H7
            go_wp2
            go_roundw
            case rel => exact ⟨n, m, by go_num, by omega, HML, HT5, HC5, hO5⟩
            case measure => simp [intOf]
          | some m2 =>
            have HL : Hid (m2.length = ws.length) := (PG.impL_one hq).2.2.1.trans HML.out
            rw [hq] at H7
            clear HT5 hq
            go_wp2
            go_roundw
            case rel => exact ⟨n, m2, by go_num, by omega, HL, H7, HC5, hO5⟩
            case measure => simp [intOf]
        · obtain rfl : n = 0 := by omega
          by_cases hm0 : m.length = 0
          · obtain rfl := List.eq_nil_of_length_eq_zero hm0
            clear I5
            have q0 := PG.cellA hY4 (i := 0) rfl
            have q1 := PG.cellA hY4 (i := 1) rfl
            have q2 := PG.cellA hY4 (i := 2) rfl
            have x0 := PG.cellA hX4 (i := 0) rfl
            have x1 := PG.cellA hX4 (i := 1) rfl
            have x2 := PG.cellA hX4 (i := 2) rfl
            have z0 := PG.freeA hX4 (i := 0)
            have z1 := PG.freeA hX4 (i := 1)
            have z2 := PG.freeA hX4 (i := 2)
            have onR := (((MC.Only.refl w.heap.size wr).setCell 0 (.int .i64 (ws.length : Int))).setCell 1 (.int .i64 r)).setCell 2 (.slice a1 ws.length c1)
            have hsV := hO4.size
            have hBz : Below w.heap.size w (((wr.setCell ⟨w.heap.size, 0, none⟩ (.int .i64 (ws.length : Int))).setCell ⟨w.heap.size, 1, none⟩ (.int .i64 r)).setCell ⟨w.heap.size, 2, none⟩ (.slice a1 ws.length c1)) := (hWB.trans (hO4.below (by omega) (by omega))).trans (onR.below (Nat.le_refl _) (by omega))
            have HEz : Hid _ := hE4.only onR (by omega)
            have HTz : Hid _ := PG.own_mono (MC.own_only HT4.out onR (by omega)) (show w.heap.size + 1 ≤ W.heap.size by omega)
            clear hE4 hX4 hY4 onR
            go_wp2
            exact bodyPost_ret (v := .tuple #[PG.pv (ws.length : Int) r (.slice a1 ws.length c1), .slice a5 0 c5]) (by simp [results, Try.results38, go_sem, q0, q1, q2, x0, x1, x2, PG.pv]) rfl ⟨(ws.length : Int), r, a1, c1, ws, a5, c5, [], rfl, ⟨h9, rfl, hr0, hr5⟩, ht, HML.out, ⟨b, by omega, HEz.out⟩, HTz.out, hBz⟩
          · have hmp : (0 : Int) < (m.length : Int) := by omega
            obtain ⟨g, rfl⟩ : ∃ g, a5 = some ⟨g, 0, none⟩ := by
              rcases HT4.out.2 with ⟨_, h0⟩ | ⟨g, cap, cur, hv, _⟩
              · exact absurd h0 hm0
              · simp only [Value.slice.injEq] at hv; exact ⟨g, hv.1⟩
            clear I5 hE4 hX4 hY4
            generalize hll : m.length = ll at *
            have HLL : Hid _ := hll
            clear hll
            have ON : Hid _ := one_any (w.heap.size + 1) a zs cap 302 6 _ hz (by omega) HC4.out
            go_wp2_with fail
            refine Calls.mono ON.out ?_
            rintro e w6 ⟨b6, rfl, hc6, ho6⟩
            have hO6 := hO4.trans ho6
            have HT6 : Hid (w6.ownsRow W.heap.size 3 1 (.slice (some ⟨g, 0, none⟩) ll c5) ll (M4.iv m)) := MC.own_only HT4.out ho6 (by omega)
            have HC6 : Hid (MC.Cur w6 (w.heap.size + 1) a zs cap 304) := hc6
            clear ON hc6 ho6 HC4 HT4 hO4
            cases b6
            · obtain ⟨hE6, hX6, hY6⟩ := HE.out _ hO6
              have q0 := PG.cellA hY6 (i := 0) rfl
              have q1 := PG.cellA hY6 (i := 1) rfl
              have q2 := PG.cellA hY6 (i := 2) rfl
              have x0 := PG.cellA hX6 (i := 0) rfl
              have x1 := PG.cellA hX6 (i := 1) rfl
              have x2 := PG.cellA hX6 (i := 2) rfl
              have z0 := PG.freeA hX6 (i := 0)
              have z1 := PG.freeA hX6 (i := 1)
              have z2 := PG.freeA hX6 (i := 2)
              have onR := (((MC.Only.refl w.heap.size w6).setCell 0 (.int .i64 (ws.length : Int))).setCell 1 (.int .i64 r)).setCell 2 (.slice a1 ws.length c1)
              have hsV := hO6.size
              have hBz : Below w.heap.size w (((w6.setCell ⟨w.heap.size, 0, none⟩ (.int .i64 (ws.length : Int))).setCell ⟨w.heap.size, 1, none⟩ (.int .i64 r)).setCell ⟨w.heap.size, 2, none⟩ (.slice a1 ws.length c1)) := (hWB.trans (hO6.below (by omega) (by omega))).trans (onR.below (Nat.le_refl _) (by omega))
              have HEz : Hid _ := hE6.only onR (by omega)
              have HTz : Hid _ := PG.own_mono (MC.own_only HT6.out onR (by omega)) (show w.heap.size + 1 ≤ W.heap.size by omega)
              clear hE6 hX6 hY6 onR
              go_wp2
              exact bodyPost_ret (v := .tuple #[PG.pv (ws.length : Int) r (.slice a1 ws.length c1), .slice (some ⟨g, 0, none⟩) ll c5]) (by simp [results, Try.results38, go_sem, q0, q1, q2, x0, x1, x2, PG.pv]) rfl ⟨(ws.length : Int), r, a1, c1, ws, (some ⟨g, 0, none⟩), c5, m, by rw [HLL.out], ⟨h9, rfl, hr0, hr5⟩, ht, (by rw [HLL.out]; exact HML.out), ⟨b, by omega, HEz.out⟩, (by rw [HLL.out]; exact HTz.out), hBz⟩
            · have P7 : Hid _ := pick_any (w.heap.size + 1) a zs cap 304 (ll : Int) _ hz (by omega) HC6.out
              go_wp2_with fail
              refine Calls.mono P7.out ?_
              rintro e w7 ⟨r7, rfl, hr7, hr7', hc7, ho7⟩
              have hO7 := hO6.trans ho7
              have HT7 : Hid (w7.ownsRow W.heap.size 3 1 (.slice (some ⟨g, 0, none⟩) ll c5) ll (M4.iv m)) := MC.own_only HT6.out ho7 (by have := hO6.size; omega)
              have P8 : Hid _ := pick_any (w.heap.size + 1) a zs cap 306 7 _ hz (by omega) hc7
              have hrl : r7 < ll := by omega
              clear P7 hc7 ho7 HC6 HT6 hO6 hr7
              go_wp2_with fail
              refine Calls.mono P8.out ?_
              rintro e w8 ⟨r8, rfl, _, hr8', hc8, ho8⟩
              have hO8 := hO7.trans ho8
              have HT8 : Hid (w8.ownsRow W.heap.size 3 1 (.slice (some ⟨g, 0, none⟩) ll c5) ll (M4.iv m)) := MC.own_only HT7.out ho8 (by omega)
              clear P8 hc8 ho8 HT7 hO7
              have st := HT8.out.stored r7 (.int .i64 ((r8 : Int) - 1))
              have hgl := World.ownsRow.lt HT8.out g rfl
              have hml : (M4.iv m).length = ll := by rw [← HLL.out]; simp [M4.iv]
              have hcel : ∃ u, w8.cell? ⟨g, r7, none⟩ = some u := by
                have := HT8.out.cellAt r7 (by rw [Nat.mul_one]; omega)
                rw [this, List.getElem?_eq_getElem (by omega)]; exact ⟨_, rfl⟩
              obtain ⟨u8, hcel⟩ := hcel
              have hfz := HT8.out.frozenAt r7
              have on9 := (MC.Only.refl g w8).setCell r7 (.int .i64 ((r8 : Int) - 1))
              have hO9 : MC.Only (w.heap.size + 1) W (w8.setCell ⟨g, r7, none⟩ (.int .i64 ((r8 : Int) - 1))) := ⟨hO8.os, hO8.tape, hO8.output, Nat.le_trans hO8.size on9.size, fun q hq hp => (on9.block q (Nat.lt_of_lt_of_le hq hO8.size) (by omega)).trans (hO8.block q hq hp)⟩
              have HT9 : Hid (World.ownsRow (w8.setCell ⟨g, r7, none⟩ (.int .i64 ((r8 : Int) - 1))) W.heap.size 3 1 (.slice (some ⟨g, 0, none⟩) ll c5) ll (M4.iv (m.set r7 ((r8 : Int) - 1)))) := by
                show World.ownsRow _ _ _ _ _ _ _
                rw [show M4.iv (m.set r7 ((r8 : Int) - 1)) = (M4.iv m).set r7 (.int .i64 ((r8 : Int) - 1)) by simp [M4.iv, List.map_set]]; exact st.1
              obtain ⟨hE9, hX9, hY9⟩ := HE.out _ hO9
              clear st on9 hO8 HT8
              have q0 := PG.cellA hY9 (i := 0) rfl
              have q1 := PG.cellA hY9 (i := 1) rfl
              have q2 := PG.cellA hY9 (i := 2) rfl
              have x0 := PG.cellA hX9 (i := 0) rfl
              have x1 := PG.cellA hX9 (i := 1) rfl
              have x2 := PG.cellA hX9 (i := 2) rfl
              have z0 := PG.freeA hX9 (i := 0)
              have z1 := PG.freeA hX9 (i := 1)
              have z2 := PG.freeA hX9 (i := 2)
              have onR := (((MC.Only.refl w.heap.size (w8.setCell ⟨g, r7, none⟩ (.int .i64 ((r8 : Int) - 1)))).setCell 0 (.int .i64 (ws.length : Int))).setCell 1 (.int .i64 r)).setCell 2 (.slice a1 ws.length c1)
              have hsV := hO9.size
              have hBz : Below w.heap.size w ((((w8.setCell ⟨g, r7, none⟩ (.int .i64 ((r8 : Int) - 1))).setCell ⟨w.heap.size, 0, none⟩ (.int .i64 (ws.length : Int))).setCell ⟨w.heap.size, 1, none⟩ (.int .i64 r)).setCell ⟨w.heap.size, 2, none⟩ (.slice a1 ws.length c1)) := (hWB.trans (hO9.below (by omega) (by omega))).trans (onR.below (Nat.le_refl _) (by omega))
              have HEz : Hid _ := hE9.only onR (by omega)
              have HTz : Hid _ := PG.own_mono (MC.own_only HT9.out onR (by omega)) (show w.heap.size + 1 ≤ W.heap.size by omega)
              clear hE9 hX9 hY9 onR
              go_wp2
              exact bodyPost_ret (v := .tuple #[PG.pv (ws.length : Int) r (.slice a1 ws.length c1), .slice (some ⟨g, 0, none⟩) ll c5]) (by simp [results, Try.results38, go_sem, q0, q1, q2, x0, x1, x2, PG.pv]) rfl ⟨(ws.length : Int), r, a1, c1, ws, (some ⟨g, 0, none⟩), c5, m.set r7 ((r8 : Int) - 1), by rw [List.length_set, HLL.out], ⟨h9, rfl, hr0, hr5⟩, ht, (by rw [List.length_set, HLL.out]; exact HML.out), ⟨b, by omega, HEz.out⟩, (by rw [List.length_set, HLL.out]; exact HTz.out), hBz⟩
end Go.Proofs.Ytkgiboookbhmmaa

/- DrawImproveMatch: a pairing and a match, drawn. -/
namespace Go.Proofs.Ytkgiboookbhmmaa
open Go.RowKit
set_option linter.unusedSimpArgs false in
set_option maxHeartbeats 1600000 in
set_option maxRecDepth 100000 in
theorem drawImp_any (a : Option Addr) (zs : List Int) (cap : Nat) (w : World) (hz : zs.length ≤ 140737488355328) (hb : MC.BytesAt w w.heap.size a zs) :
    Calls Try.prog 15 #[.slice a zs.length cap] w fun e w' => ∃ (l r : Int) (a1 : Option Addr) (c1 : Nat) (ws : List (List Int)) (a2 : Option Addr) (c2 : Nat) (m : List Int), e = .returned (.tuple #[PG.pv l r (.slice a1 ws.length c1), .slice a2 m.length c2]) ∧ (ws.length ≤ 9 ∧ l = (ws.length : Int) ∧ 0 ≤ r ∧ r ≤ 5) ∧ NR.tot ws ≤ 100 ∧ m.length = ws.length ∧ (∃ b, w.heap.size < b ∧ PG.PE 25 27 b w' l r (.slice a1 ws.length c1) ws) ∧ w'.ownsRow (w.heap.size + 1) 3 1 (.slice a2 m.length c2) m.length (M4.iv m) ∧ Below w.heap.size w w' := by
  have B0 : Below w.heap.size w (w.alloc (.cells #[.int .i64 0, .int .i64 0, .slice none 0 0] 25)) := (Below.refl _ w).alloc (Nat.le_refl _) _
  have hb0 := (hb.only (q := w.heap.size) (MC.Only.of_below B0) (Nat.le_refl _) (Nat.le_refl _)).up B0.size
  have hbx : (w.alloc (.cells #[.int .i64 0, .int .i64 0, .slice none 0 0] 25)).heap[w.heap.size]? = some (.cells #[.int .i64 0, .int .i64 0, .slice none 0 0] 25 (0, 0)) := heap_alloc_new w _
  have hs0 : w.heap.size < (w.alloc (.cells #[.int .i64 0, .int .i64 0, .slice none 0 0] 25)).heap.size := by simp
  have hs9 : (w.alloc (.cells #[.int .i64 0, .int .i64 0, .slice none 0 0] 25)).heap.size = w.heap.size + 1 := by simp
  have PN : Hid _ := drawIsMatch_any a zs cap _ hz hb0
  have HBX : Hid _ := hbx
  clear hb hb0 hbx
  go_enter Try.func15, Try.ntmps15
  go_wp2_with fail
  refine Calls.mono PN.out ?_
  rintro e w1 ⟨l, r, a1, c1, ws, a2, c2, m, rfl, h9, ht, hml, ⟨b, hbl, hE⟩, hT, hB1⟩
  have hbx1 := (hB1.block w.heap.size hs0).trans HBX.out
  clear PN HBX
  have H9 : Hid _ := h9
  have HML : Hid _ := hml
  clear h9 hml
  have x0 := PG.cellA hbx1 (i := 0) rfl
  have x1 := PG.cellA hbx1 (i := 1) rfl
  have x2 := PG.cellA hbx1 (i := 2) rfl
  have z0 := PG.freeA hbx1 (i := 0)
  have z1 := PG.freeA hbx1 (i := 1)
  have z2 := PG.freeA hbx1 (i := 2)
  have onR := (((MC.Only.refl w.heap.size w1).setCell 0 (.int .i64 l)).setCell 1 (.int .i64 r)).setCell 2 (.slice a1 ws.length c1)
  have hs1 := hB1.size
  have hBz : Below w.heap.size w (((w1.setCell ⟨w.heap.size, 0, none⟩ (.int .i64 l)).setCell ⟨w.heap.size, 1, none⟩ (.int .i64 r)).setCell ⟨w.heap.size, 2, none⟩ (.slice a1 ws.length c1)) := (B0.trans (hB1.mono B0.size)).trans (onR.below (Nat.le_refl _) (by omega))
  have hbl' : w.heap.size < b := by omega
  have HZ : Hid _ := hE.only onR hbl'
  have HTz : Hid _ := PG.own_mono (MC.own_only hT onR (by omega)) (show w.heap.size + 1 ≤ _ by omega)
  clear hE hB1 onR hbx1 B0 hT
  simp only [PG.pv] at *
  go_wp2
  exact bodyPost_ret (v := .tuple #[PG.pv l r (.slice a1 ws.length c1), .slice a2 m.length c2]) (by simp [results, Try.results15, go_sem, x0, x1, x2, PG.pv]) rfl ⟨l, r, a1, c1, ws, a2, c2, m, rfl, H9.out, ht, HML.out, ⟨b, hbl', HZ.out⟩, HTz.out, hBz⟩
end Go.Proofs.Ytkgiboookbhmmaa
