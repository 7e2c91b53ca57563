/- The law FnKonig answers true at every argument. -/
import Derived.Test.YtjfnmhkhjaafkaaRows
import Derived.Test.YtjfnmhkhjaafkaaCDrawP
import Derived.Test.YtjfnmhkhjaafkaaMPO
import Derived.Test.YtjfnmhkhjaafkaaCSameInts
import Derived.Test.YtjfnmhkhjaafkaaCPairMI
import Derived.Test.YtjfnmhkhjaafkaaCPairAll
import Derived.Test.YtjfnmhkhjaafkaaCPairCovI
import Derived.Test.YtjfnmhkhjaafkaaCPairCovS
import Derived.WalkKit
import Derived.WalkSpells
import Derived.WalkLawsBesides
import Derived.Outline
namespace Go.Proofs.Ytjfnmhkhjaafkaa
open Go.RowKit
namespace PG
/-- The pairs among the first. -/
def prsTo (m : List Int) (k : Nat) : Nat := prs (m.take k)
theorem prsTo_succ (m : List Int) (k : Nat) (hk : k < m.length) : prsTo m (k + 1) = prsTo m k + (if 0 ≤ m.getD k 0 then 1 else 0) := by
  unfold prsTo prs
  rw [List.take_add_one, List.getElem?_eq_getElem hk, List.countP_append, List.getD_eq_getElem?_getD, List.getElem?_eq_getElem hk]
  simp [List.countP_cons]
theorem prsTo_le (m : List Int) (k : Nat) : prsTo m k ≤ k := by
  unfold prsTo prs
  refine Nat.le_trans (List.countP_le_length) ?_
  rw [List.length_take]; omega
theorem prsTo_all (m : List Int) : prsTo m m.length = prs m := by unfold prsTo; rw [List.take_length]
end PG
set_option linter.unusedSimpArgs false in
set_option maxHeartbeats 3200000 in
set_option maxRecDepth 100000 in
theorem lawFnKonig_any (a : Option Addr) (zs : List Int) (ca : Nat) (w : World) (hz : zs.length ≤ 140737488355328) (hbz : MC.BytesAt w w.heap.size a zs) :
    Calls Try.prog 3 #[.slice a zs.length ca] w fun e w' => e = .returned (.bool true) ∧ Below w.heap.size w w' := by
  by_cases h20 : zs.length ≤ 1048576
  · go_enter Try.func3, Try.ntmps3
    go_wp2_with fail
    refine (drawMatchAll_any a zs ca _ hz hbz).mono ?_
    rintro e w1 ⟨l, r, a1, c1, ws, rfl, ⟨h9, -, -, -⟩, ht, ⟨b, hbl, hE⟩, B1⟩
    clear hbz
    go_wp2_with fail
    have B0 : Below w1.heap.size w1 (w1.alloc (Obj.cells #[.int .i64 l, .int .i64 r, .slice a1 ws.length c1] 25)) := (Below.refl _ w1).alloc (Nat.le_refl _) _
    have hRW : NR.RowsAt (w1.alloc (Obj.cells #[.int .i64 l, .int .i64 r, .slice a1 ws.length c1] 25)) a1 ws := by
      obtain ⟨az, cz, hvz, hR⟩ := hE.view
      simp only [Value.slice.injEq] at hvz
      obtain ⟨rfl, -, -⟩ := hvz
      exact NR.RowsAt.below hR B0
    have hbx := heap_alloc_new w1 (Obj.cells #[.int .i64 l, .int .i64 r, .slice a1 ws.length c1] 25)
    have hlt : w1.heap.size < (w1.alloc (Obj.cells #[.int .i64 l, .int .i64 r, .slice a1 ws.length c1] 25)).heap.size := by simp
    have BW : Below w.heap.size w (w1.alloc (Obj.cells #[.int .i64 l, .int .i64 r, .slice a1 ws.length c1] 25)) := B1.trans (B0.mono B1.size)
    clear B0 B1 hE hbl
    generalize w1.alloc (Obj.cells #[.int .i64 l, .int .i64 r, .slice a1 ws.length c1] 25) = W at *
    generalize w1.heap.size = q at *
    have BX : Hid (∀ V : World, Below W.heap.size W V → V.cell? ⟨q, 0, none⟩ = some (.int .i64 l) ∧ V.cell? ⟨q, 1, none⟩ = some (.int .i64 r) ∧ V.cell? ⟨q, 2, none⟩ = some (.slice a1 ws.length c1)) := fun V h => by
      have hV := (h.block q hlt).trans hbx
      exact ⟨PG.cellA hV (i := 0) rfl, PG.cellA hV (i := 1) rfl, PG.cellA hV (i := 2) rfl⟩
    have hLl := PG.allL_le l r ws
    have hK1 := PG.coA_le l r ws
    have hK2 := PG.coB_le l r ws
    have AI : Hid (∀ V : World, Below W.heap.size W V → _) := fun V h => implAll_any l r a1 c1 ws V (by omega) (by omega) (NR.RowsAt.below hRW h) _ _ rfl rfl
    have AS : Hid (∀ V : World, Below W.heap.size W V → _) := fun V h => specAll_any l r a1 c1 ws V (by omega) (by omega) (NR.RowsAt.below hRW h) _ _ rfl rfl
    have CI : Hid (∀ V : World, Below W.heap.size W V → _) := fun V h => implCov_any l r a1 c1 ws V (by omega) (by omega) (NR.RowsAt.below hRW h) _ _ _ rfl rfl rfl
    have CS : Hid (∀ V : World, Below W.heap.size W V → _) := fun V h => specCov_any l r a1 c1 ws V (by omega) (by omega) (NR.RowsAt.below hRW h) _ _ _ rfl rfl rfl
    have GI : Hid (∀ V : World, Below W.heap.size W V → _) := fun V h => implGoodP_any l r a1 c1 ws V (by omega) (by omega) (NR.RowsAt.below hRW h) _ rfl
    have IM : Hid (∀ V : World, Below W.heap.size W V → ∀ b2 c2, (PG.allL l r ws).length ≤ c2 → M4.IntsAt V b2 (PG.allL l r ws) → _) := fun V h b2 c2 h1 h2 => implIsMatch_any l r a1 b2 c1 c2 ws (PG.allL l r ws) V (by omega) (by omega) (by omega) h1 (NR.RowsAt.below hRW h) h2
    have IC : Hid (∀ V : World, Below W.heap.size W V → ∀ b2 c2 b3 c3, M4.IntsAt V b2 (PG.coA l r ws) → M4.IntsAt V b3 (PG.coB l r ws) → _) := fun V h b2 c2 b3 c3 h2 h3 => implIsCover_any l r a1 b2 b3 c1 c2 c3 ws (PG.coA l r ws) (PG.coB l r ws) V (by omega) (by omega) (by omega) (by omega) (NR.RowsAt.below hRW h) h2 h3
    have IP : Hid (PG.impL l r ws (PG.allL l r ws) = none → ∀ V : World, Below W.heap.size W V → ∀ g2 c2, (PG.allL l r ws).length ≤ c2 → M4.IntsAt V (some ⟨g2, 0, none⟩) (PG.allL l r ws) → _) := fun hn V h g2 c2 h1 h2 => implImp_any l r a1 c1 c2 g2 ws (PG.allL l r ws) V (by omega) (by omega) (by omega) h1 (NR.RowsAt.below hRW h) h2 none hn
    have KN : Hid (PG.good l r ws = true → _) := fun h => PG.konig h
    have NO : Hid (PG.good l r ws = false → PG.allL l r ws = []) := fun h => PG.allL_no h
    have LP : Hid (PG.good l r ws = true → 0 < (PG.allL l r ws).length) := fun h => by rw [PG.allL_len h]; have := (PG.good_is h).1; omega
    have B0 : Below W.heap.size W W := Below.refl _ _
    clear hRW hbx
    have AI1 : Hid _ := AI.out W B0
    clear AI
    refine Calls.mono AI1.out ?_
    rintro e w3 ⟨a2, c2, rfl, o2, b2⟩
    have AS1 : Hid _ := AS.out w3 b2
    obtain ⟨x0, x1, x2⟩ := BX.out w3 b2
    clear AI1 AS
    go_wp2_with fail
    clear x0 x1 x2
    refine Calls.mono AS1.out ?_
    rintro e w4 ⟨a3, c3, rfl, o3, b3⟩
    have b14 : Below W.heap.size W w4 := b2.trans (b3.mono b2.size)
    have CI1 : Hid _ := CI.out w4 b14
    obtain ⟨x0, x1, x2⟩ := BX.out w4 b14
    clear AS1 CI
    go_wp2_with fail
    clear x0 x1 x2
    refine Calls.mono CI1.out ?_
    rintro e w5 ⟨a4, c4, a5, c5, M4_, rfl, -, -, o4, -, o5, b4⟩
    have b15 : Below W.heap.size W w5 := b14.trans (b4.mono b14.size)
    have CS1 : Hid _ := CS.out w5 b15
    obtain ⟨x0, x1, x2⟩ := BX.out w5 b15
    clear CI1 CS
    go_wp2_with fail
    clear x0 x1 x2
    refine Calls.mono CS1.out ?_
    rintro e w6 ⟨a6, c6, a7, c7, M6_, rfl, -, -, o6, -, o7, b5⟩
    have b16 : Below W.heap.size W w6 := b15.trans (b5.mono b15.size)
    have q46 : Below w4.heap.size w4 w6 := b4.trans (b5.mono b4.size)
    have q36 : Below w3.heap.size w3 w6 := b3.trans (q46.mono b3.size)
    have HO2 : Hid (World.ownsRow w6 W.heap.size 3 1 (.slice a2 (PG.allL l r ws).length c2) (PG.allL l r ws).length (M4.iv (PG.allL l r ws))) := M5.own_below o2 q36
    have I3' := M5.own_ints (M5.own_below o3 q46)
    have I4 := M5.own_ints (M5.own_below o4 b5)
    have I5 := M5.own_ints (M5.own_below o5 b5)
    have I6 := M5.own_ints o6
    have I7 := M5.own_ints o7
    have S1 : Hid _ := sameInts_any a2 a3 c2 c3 (PG.allL l r ws) (PG.allL l r ws) w6 (by omega) (by omega) (M5.own_ints HO2.out) I3'
    have HI4 : Hid _ := I4
    have HI5 : Hid _ := I5
    have HI6 : Hid _ := I6
    have HI7 : Hid _ := I7
    clear CS1 o2 o3 o4 o5 o6 o7 I3' I4 I5 I6 I7 b2 b3 b4 b5 b14 b15 q46 q36
    go_wp2_with fail
    refine Calls.mono S1.out ?_
    rintro e w7 ⟨rfl, b7⟩
    have b17 : Below W.heap.size W w7 := b16.trans (b7.mono b16.size)
    have S2 : Hid _ := sameInts_any a4 a6 c4 c6 (PG.coA l r ws) (PG.coA l r ws) w7 (by omega) (by omega) (M4.IntsAt.below HI4.out b7) (M4.IntsAt.below HI6.out b7)
    have HO7 : Hid _ := M5.own_below HO2.out b7
    have J4 : Hid (M4.IntsAt w7 a4 (PG.coA l r ws)) := (M4.IntsAt.below HI4.out b7)
    have J5 : Hid (M4.IntsAt w7 a5 (PG.coB l r ws)) := (M4.IntsAt.below HI5.out b7)
    have J7 : Hid (M4.IntsAt w7 a7 (PG.coB l r ws)) := (M4.IntsAt.below HI7.out b7)
    clear S1 HO2 HI4 HI5 HI6 HI7 b7 b16
    go_wp2_with fail
    refine Calls.mono S2.out ?_
    rintro e w8 ⟨rfl, b8⟩
    have b18 : Below W.heap.size W w8 := b17.trans (b8.mono b17.size)
    have S3 : Hid _ := sameInts_any a5 a7 c5 c7 (PG.coB l r ws) (PG.coB l r ws) w8 (by omega) (by omega) (M4.IntsAt.below J5.out b8) (M4.IntsAt.below J7.out b8)
    have HO8 : Hid _ := M5.own_below HO7.out b8
    have K4 : Hid (M4.IntsAt w8 a4 (PG.coA l r ws)) := (M4.IntsAt.below J4.out b8)
    have K5 : Hid (M4.IntsAt w8 a5 (PG.coB l r ws)) := (M4.IntsAt.below J5.out b8)
    clear S2 HO7 J4 J5 J7 b8 b17
    go_wp2_with fail
    refine Calls.mono S3.out ?_
    rintro e w9 ⟨rfl, b9⟩
    have b19 : Below W.heap.size W w9 := b18.trans (b9.mono b18.size)
    have GI1 : Hid _ := GI.out w9 b19
    obtain ⟨x0, x1, x2⟩ := BX.out w9 b19
    have HO9 : Hid _ := M5.own_below HO8.out b9
    have L4 : Hid (M4.IntsAt w9 a4 (PG.coA l r ws)) := (M4.IntsAt.below K4.out b9)
    have L5 : Hid (M4.IntsAt w9 a5 (PG.coB l r ws)) := (M4.IntsAt.below K5.out b9)
    clear S3 GI HO8 K4 K5 b9 b18
    go_wp2_with fail
    clear x0 x1 x2
    refine Calls.mono GI1.out ?_
    rintro e w10 ⟨rfl, b10⟩
    have b110 : Below W.heap.size W w10 := b19.trans (b10.mono b19.size)
    have HO10 : Hid (World.ownsRow w10 W.heap.size 3 1 (.slice a2 (PG.allL l r ws).length c2) (PG.allL l r ws).length (M4.iv (PG.allL l r ws))) := M5.own_below HO9.out b10
    have N4 : Hid (M4.IntsAt w10 a4 (PG.coA l r ws)) := (M4.IntsAt.below L4.out b10)
    have N5 : Hid (M4.IntsAt w10 a5 (PG.coB l r ws)) := (M4.IntsAt.below L5.out b10)
    clear GI1 HO9 L4 L5 b10 b19
    cases hg : PG.good l r ws with
    | false =>
      have hE := NO.out hg
      rw [hE]
      have BZ := BW.trans (b110.mono BW.size)
      clear NO KN LP IM IC IP HO10 N4 N5 BX hLl hK1 hK2 hg hE
      go_wp2
      go_ret
      exact ⟨rfl, BZ⟩
    | true =>
      obtain ⟨k1, k2, k3, k4, k5, k6⟩ := KN.out hg
      have hLP := LP.out hg
      have IP2 : Hid _ := IP.out k3
      have KK : Hid (_ ∧ _ ∧ _ ∧ _) := ⟨k1, k2, k4, k5⟩
      have K6 : Hid _ := k6
      clear k1 k2 k3 k4 k5 k6 KN NO LP IP hg
      generalize PG.allL l r ws = L at *
      generalize PG.coA l r ws = K at *
      generalize PG.coB l r ws = J at *
      go_wp2
      go_loopw [14, 89] (fun pv iv wr => ∃ k : Nat, iv = .int .i64 k ∧ k ≤ L.length ∧ pv = .int .i64 (PG.prsTo L k : Nat) ∧ Below w10.heap.size w10 wr) (fun _ iv _ => (L.length - intOf iv).toNat)
      case atStart => exact ⟨0, rfl, by omega, rfl, Below.refl _ _⟩
      case round =>
        obtain ⟨k, rfl, hk, rfl, hb⟩ := hrel
        by_cases hlk : k < L.length
        · obtain ⟨b2, off2, rfl, hlt2, d0⟩ := M4.IntsAt.at (M4.IntsAt.below (M5.own_ints HO10.out) hb) (k := k) hlk
          have hs := PG.prsTo_succ L k hlk
          have hsl := PG.prsTo_le L k
          have HS : Hid _ := hs
          generalize L.getD k 0 = y at *
          clear hs
          by_cases hy : 0 ≤ y
          · go_wp2
            go_roundw
            case rel => exact ⟨k + 1, by go_num, by omega, by rw [HS.out, if_pos hy]; go_num, hb⟩
            case measure => simp [intOf]; omega
          · go_wp2
            go_roundw
            case rel => exact ⟨k + 1, by go_num, by omega, by rw [HS.out, if_neg hy]; rfl, hb⟩
            case measure => simp [intOf]; omega
        · obtain rfl : k = L.length := by omega
          have hp := PG.prsTo_all L
          rw [hp]
          have HP : Hid _ := hp
          clear hp
          have b111 : Below W.heap.size W wr := b110.trans (hb.mono b110.size)
          have HO11 := M5.own_below HO10.out hb
          obtain ⟨g2, rfl, hcap⟩ : ∃ g2, a2 = some ⟨g2, 0, none⟩ ∧ L.length ≤ c2 := by
            rcases HO11.2 with ⟨_, h0⟩ | ⟨g, cap, cur, hv, _, _, hge, _⟩
            · omega
            · simp only [Value.slice.injEq] at hv
              exact ⟨g, hv.1, by rw [hv.2.2]; exact hge⟩
          have I11 := M5.own_ints HO11
          have IM1 : Hid _ := IM.out wr b111 _ c2 hcap I11
          rw [KK.out.1, KK.out.2.1] at IM1
          have P2 : Hid _ := I11
          have P4 : Hid _ := (M4.IntsAt.below N4.out hb)
          have P5 : Hid _ := (M4.IntsAt.below N5.out hb)
          obtain ⟨x0, x1, x2⟩ := BX.out wr b111
          clear I11 HO11 IM N4 N5 HO10 hb b110
          go_wp2_with fail
          clear x0 x1 x2
          refine Calls.mono IM1.out ?_
          rintro e w12 ⟨rfl, b12⟩
          have b112 : Below W.heap.size W w12 := b111.trans (b12.mono b111.size)
          have IC1 : Hid _ := IC.out w12 b112 a4 c4 a5 c5 (M4.IntsAt.below P4.out b12) (M4.IntsAt.below P5.out b12)
          rw [KK.out.2.2.1, KK.out.2.2.2] at IC1
          have Q2 : Hid _ := (M4.IntsAt.below P2.out b12)
          obtain ⟨x0, x1, x2⟩ := BX.out w12 b112
          clear IM1 IC P2 P4 P5 b12 b111
          go_wp2_with fail
          clear x0 x1 x2
          refine Calls.mono IC1.out ?_
          rintro e w13 ⟨rfl, b13⟩
          have b113 : Below W.heap.size W w13 := b112.trans (b13.mono b112.size)
          have IP1 : Hid _ := IP2.out w13 b113 g2 c2 hcap (M4.IntsAt.below Q2.out b13)
          obtain ⟨x0, x1, x2⟩ := BX.out w13 b113
          clear IC1 IP2 Q2 b13 b112
          go_wp2_with fail
          clear x0 x1 x2
          refine Calls.mono IP1.out ?_
          rintro e w14 ⟨a14, c14, rfl, -, b14⟩
          have b114 : Below W.heap.size W w14 := b113.trans (b14.mono b113.size)
          have BZ := BW.trans (b114.mono BW.size)
          have h6 : ((K.length : Int) + (J.length : Int) == ((PG.prs L : Nat) : Int)) = true := by rw [← K6.out]; simp
          have H6 : Hid _ := h6
          clear h6
          clear IP1 BX b14 b113 b114 KK K6 HP
          go_wp2
          go_ret
          exact ⟨congrArg (fun b => Ending.returned (.bool b)) H6.out, BZ⟩
  · go_enter Try.func3, Try.ntmps3
    go_wp2
    go_ret
    exact ⟨rfl, Below.refl _ _⟩
end Go.Proofs.Ytjfnmhkhjaafkaa
