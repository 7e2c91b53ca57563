/- AreApart of the program and of the specification. -/
import Derived.Test.YtcpkcaaplhgioaaRows
import Derived.Test.YtcpkcaaplhgioaaMAA
import Derived.Test.YtcpkcaaplhgioaaCConcat
import Derived.Test.YtcpkcaaplhgioaaCSort
import Derived.Test.YtcpkcaaplhgioaaCSortN
import Derived.Test.YtcpkcaaplhgioaaCCompact
import Derived.Test.YtcpkcaaplhgioaaCHasI
import Derived.WalkKit
import Derived.WalkSpells
import Derived.WalkLawsBesides
import Derived.Outline
namespace Go.Proofs.Ytcpkcaaplhgioaa
open Go.RowKit
set_option linter.unusedSimpArgs false in
set_option maxHeartbeats 1600000 in
set_option maxRecDepth 100000 in
theorem implApart_any (a : Option Addr) (ca : Nat) (ws : List (List Int)) (w : World) (hn : ws.length ≤ 1048576) (ht : NR.tot ws ≤ 1048576) (hin : NR.RowsAt w a ws) :
    Calls Try.prog 9 #[.slice a ws.length ca] w fun e w' => e = .returned (.tuple #[.bool (NR.apB ws), .bool (NR.apOk ws)]) ∧ Below w.heap.size w w' := by
  have AC : Hid _ := NR.apC ws
  have HI : Hid (NR.RowsAt w a ws) := hin
  have CC : Hid _ := concat_any a ca ws w hn ht hin
  have NB : Hid (decide ((Lib.compact (ws.flatten.mergeSort fun x y => decide (x ≤ y))).length = ws.flatten.length) = NR.nodB ws) := NR.sort_compact ws.flatten
  have hfl := NR.flat_len ws
  have hfl2 : ws.flatten.length ≤ 1048576 := by omega
  have RN : Hid _ := fun (k : Nat) (hk : k < ws.length) h => NR.rows_no hk h
  have RY : Hid _ := fun h => NR.rows_yes (ws := ws) h
  generalize NR.apB ws = B at *
  generalize NR.apOk ws = ok at *
  generalize NR.nodB ws = nb at *
  generalize ws.flatten = fl at *
  clear hin hfl
  by_cases hw : ws.length ≤ 20
  · go_enter Try.func9, Try.ntmps9
    go_wp2
    go_loopw [12] (fun iv wr => ∃ k : Nat, iv = .int .i64 k ∧ k ≤ ws.length ∧ Hid (NR.okUp ws k) ∧ w = wr) (fun iv _ => (ws.length - intOf iv).toNat)
    case atStart => exact ⟨0, rfl, by omega, show Hid _ from fun j hj => by omega, rfl⟩
    case round =>
      obtain ⟨k, rfl, hk, hT, rfl⟩ := hrel
      by_cases hlk : k < ws.length
      · obtain ⟨b1, off1, a1, c1, rfl, hlt1, d1, _, _⟩ := HI.out.at hlk
        have hrt := NR.tot_row ws hlk
        have HY : Hid _ := fun h => NR.okUp_succ hT.out (k := k) h
        have HN : Hid _ := fun h => RN.out k hlk h
        clear HI CC NB RN RY hT
        generalize (NR.rw_ ws k).length = rl at *
        by_cases hr : rl ≤ 20
        · have hT : Hid _ := HY.out hr
          clear HY HN AC
          go_wp2
          go_roundw
          case rel => exact ⟨k + 1, by go_num, by omega, hT, trivial⟩
          case measure => simp [intOf]; omega
        · have hF := HN.out (by omega)
          obtain ⟨rfl, rfl⟩ := AC.out.long hw hF
          have hr2 : (20 : Int) < (rl : Int) := by omega
          clear HY HN AC hF
          go_wp2
          go_ret2
          exact ⟨rfl, Below.refl _ _⟩
      · obtain rfl : k = ws.length := by omega
        obtain ⟨rfl, rfl⟩ := AC.out.yes hw (RY.out hT.out)
        clear HI RN RY hT AC
        go_wp2_with fail
        refine Calls.mono CC.out ?_
        rintro e w1 ⟨a1, c1, rfl, ho, hb1⟩
        clear CC
        rcases ho.2 with ⟨hv, h0⟩ | ⟨g, cap', cur, hv, hbg, _⟩
        · obtain rfl : fl = [] := List.eq_nil_of_length_eq_zero h0
          obtain rfl : B = true := by rw [← NB.out]; simp [Lib.compact, Lib.compactUpTo]
          simp only [Value.slice.injEq] at hv
          obtain ⟨rfl, -, rfl⟩ := hv
          clear ho NB h0
          have S0 : Hid _ := sortI_0 none 0 w1
          have K0 : Hid _ := compactI_0 none 0 w1
          simp only [List.length_nil]
          go_wp2_with fail
          refine Calls.mono S0.out ?_
          rintro e w2 ⟨rfl, rfl⟩
          clear S0
          go_wp2_with fail
          refine Calls.mono K0.out ?_
          rintro e w2 ⟨rfl, rfl⟩
          clear K0
          go_wp2
          go_ret2
          exact ⟨rfl, hb1⟩
        · simp only [Value.slice.injEq] at hv
          obtain ⟨rfl, -, rfl⟩ := hv
          have S1 : Hid _ := sortsI w.heap.size g c1 fl w1 ho hfl2
          have hml : (fl.mergeSort fun x y => decide (x ≤ y)).length = fl.length := List.length_mergeSort _
          have K1 : Hid (∀ W : World, W.ownsRow w.heap.size 3 1 (.slice (some ⟨g, 0, none⟩) fl.length c1) fl.length (M4.iv (fl.mergeSort fun x y => decide (x ≤ y))) → Calls Try.prog 32 #[.slice (some ⟨g, 0, none⟩) fl.length c1] W fun e w' => e = .returned (.slice (some ⟨g, 0, none⟩) (Lib.compact (fl.mergeSort fun x y => decide (x ≤ y))).length c1) ∧ W.grownBy w' (some g)) := fun W h => by
            have := compactI w.heap.size g c1 (fl.mergeSort fun x y => decide (x ≤ y)) W (by rw [hml]; exact h) (by omega)
            rwa [hml] at this
          have hcl : (Lib.compact (fl.mergeSort fun x y => decide (x ≤ y))).length ≤ 1048576 := by
            have h1 : (Lib.compact (fl.mergeSort fun x y => decide (x ≤ y))).length ≤ (fl.mergeSort fun x y => decide (x ≤ y)).length := by
              unfold Lib.compact Lib.compactUpTo
              rw [List.length_map]
              have := List.length_filter_le (Lib.keeps (fl.mergeSort fun x y => decide (x ≤ y)).toArray) (List.range (fl.mergeSort fun x y => decide (x ≤ y)).length)
              rwa [List.length_range] at this
            omega
          generalize (Lib.compact (fl.mergeSort fun x y => decide (x ≤ y))).length = cl at *
          have HML : Hid _ := hml
          clear hml ho
          generalize hflx : fl.length = fx at *
          clear hflx
          have HB : Hid (((cl : Int) == (fx : Int)) = B) := by
            show _ = B; rw [← NB.out, Bool.eq_iff_iff, beq_iff_eq, decide_eq_true_eq]; omega
          clear NB HML
          have hsz := hb1.size
          go_wp2_with fail
          refine Calls.mono S1.out ?_
          rintro e w2 ⟨rfl, ho2, hg2⟩
          have K2 : Hid _ := K1.out w2 ho2
          have hb2 : Below w.heap.size w w2 := hb1.grown hg2 hsz (fun q hq => by cases hq; exact hbg)
          clear S1 K1 ho2 hg2
          go_wp2_with fail
          refine Calls.mono K2.out ?_
          rintro e w3 ⟨rfl, hg3⟩
          have hb3 : Below w.heap.size w w3 := hb2.grown hg3 hb2.size (fun q hq => by cases hq; exact hbg)
          clear K2 hg3
          go_wp2
          go_ret2
          exact ⟨by rw [← HB.out]; rfl, hb3⟩
  · obtain ⟨rfl, rfl⟩ := AC.out.many (by omega)
    have hw2 : (20 : Int) < (ws.length : Int) := by omega
    clear AC HI CC NB RN RY
    go_enter Try.func9, Try.ntmps9
    go_wp2
    go_ret2
    exact ⟨rfl, Below.refl _ _⟩
set_option linter.unusedSimpArgs false in
set_option maxHeartbeats 3200000 in
set_option maxRecDepth 100000 in
theorem specApart_any (a : Option Addr) (ca : Nat) (ws : List (List Int)) (w : World) (hn : ws.length ≤ 1048576) (_ht : NR.tot ws ≤ 1048576) (hin : NR.RowsAt w a ws) :
    Calls Try.prog 14 #[.slice a ws.length ca] w fun e w' => e = .returned (.tuple #[.bool (NR.apB ws), .bool (NR.apOk ws)]) ∧ Below w.heap.size w w' := by
  obtain ⟨i0, hi, hz0, hz1, hz2⟩ := info_parts Try.info3
  have AC : Hid _ := NR.apC ws
  have HI : Hid (NR.RowsAt w a ws) := hin
  have RN : Hid _ := fun (k : Nat) (hk : k < ws.length) h => NR.rows_no hk h
  have RY : Hid _ := fun h => NR.rows_yes (ws := ws) h
  have DN : Hid _ := fun (j k : Nat) h1 h2 h3 => NR.dup_no (ws := ws) (j := j) (k := k) h1 h2 h3
  have NY : Hid _ := fun h => NR.nod_yes (ws := ws) h
  generalize NR.apB ws = B at *
  generalize NR.apOk ws = ok at *
  generalize NR.nodB ws = nb at *
  clear hin
  by_cases hw : ws.length ≤ 20
  · go_enter Try.func14, Try.ntmps14
    go_wp2
    go_loopw [16] (fun iv wr => ∃ k : Nat, iv = .int .i64 k ∧ k ≤ ws.length ∧ Hid (NR.okUp ws k) ∧ w = wr) (fun iv _ => (ws.length - intOf iv).toNat)
    case atStart => exact ⟨0, rfl, by omega, show Hid _ from fun j hj => by omega, rfl⟩
    case round =>
      obtain ⟨k, rfl, hk, hT, rfl⟩ := hrel
      by_cases hlk : k < ws.length
      · obtain ⟨b1, off1, a1, c1, rfl, hlt1, d1, _, _⟩ := HI.out.at hlk
        have hrt := NR.tot_row ws hlk
        have HY : Hid _ := fun h => NR.okUp_succ hT.out (k := k) h
        have HN : Hid _ := fun h => RN.out k hlk h
        clear HI RN RY DN NY hT
        generalize (NR.rw_ ws k).length = rl at *
        by_cases hr : rl ≤ 20
        · have hT : Hid _ := HY.out hr
          clear HY HN AC
          go_wp2
          go_roundw
          case rel => exact ⟨k + 1, by go_num, by omega, hT, trivial⟩
          case measure => simp [intOf]; omega
        · have hF := HN.out (by omega)
          obtain ⟨rfl, rfl⟩ := AC.out.long hw hF
          have hr2 : (20 : Int) < (rl : Int) := by omega
          clear HY HN AC hF
          go_wp2
          go_ret2
          exact ⟨rfl, Below.refl _ _⟩
      · obtain rfl : k = ws.length := by omega
        obtain ⟨rfl, rfl⟩ := AC.out.yes hw (RY.out hT.out)
        have HOK : Hid (NR.okUp ws ws.length) := hT.out
        clear RN RY hT AC
        go_wp2
        go_loopw [6, 26] (fun v iv wr => ∃ (j : Nat) (sn : List Int) (a1 : Option Addr) (c1 : Nat), iv = .int .i64 j ∧ j ≤ ws.length ∧ v = .slice a1 sn.length c1 ∧ Hid (NR.seen ws j 0 = sn) ∧ Hid (List.Nodup sn) ∧ Hid (World.ownsRow wr w.heap.size 3 1 (.slice a1 sn.length c1) sn.length (M4.iv sn)) ∧ Below w.heap.size w wr) (fun _ iv _ => (ws.length - intOf iv).toNat)
        case atStart => exact ⟨0, [], none, 0, rfl, by omega, rfl, by show _ = _; simp [NR.seen], List.nodup_nil, World.ownsRow_nil _ _ _ _, Below.refl _ _⟩
        case round =>
          obtain ⟨j, sn, a1, c1, rfl, hj, rfl, HE, HN, HO, hb⟩ := hrel
          by_cases hlj : j < ws.length
          · obtain ⟨b1, off1, a2, c2, rfl, hlt1, d1, _, j1⟩ := HI.out.at hlj
            have hr20 : (NR.rw_ ws j).length ≤ 20 := HOK.out j hlj
            have hto := NR.tot_small HOK.out j (by omega)
            have J1 : Hid (M4.IntsAt w a2 (NR.rw_ ws j)) := j1
            have D1 := (hb.cell (p := ⟨b1, off1 + j, none⟩) hlt1).trans d1
            have hlt0 : b1 < _ := Nat.lt_of_lt_of_le hlt1 hb.size
            have SL : Hid (∀ k, k ≤ (NR.rw_ ws j).length → (NR.seen ws j k).length ≤ 1000) := fun k hk => by have := NR.seen_len ws j k hk; omega
            have SS : Hid (∀ k, k < (NR.rw_ ws j).length → NR.seen ws j (k + 1) = NR.seen ws j k ++ [(NR.rw_ ws j).getD k 0]) := fun k hk => NR.seen_snoc ws hk
            have SE : Hid (NR.seen ws j (NR.rw_ ws j).length = NR.seen ws (j + 1) 0) := NR.seen_end ws hlj
            have DN2 : Hid (∀ k, k < (NR.rw_ ws j).length → (NR.rw_ ws j).getD k 0 ∈ NR.seen ws j k → B = false) := fun k h1 h2 => DN.out j k hlj h1 h2
            clear j1 HI DN NY HOK d1
            generalize NR.rw_ ws j = r at *
            go_wp2
            go_loopw [6, 32] (fun v iv wi => ∃ (k : Nat) (sn : List Int) (a3 : Option Addr) (c3 : Nat), iv = .int .i64 k ∧ k ≤ r.length ∧ v = .slice a3 sn.length c3 ∧ Hid (NR.seen ws j k = sn) ∧ Hid (List.Nodup sn) ∧ Hid (World.ownsRow wi w.heap.size 3 1 (.slice a3 sn.length c3) sn.length (M4.iv sn)) ∧ Below w.heap.size w wi) (fun _ iv _ => (r.length - intOf iv).toNat)
            case atStart => exact ⟨0, sn, a1, c1, rfl, by omega, rfl, HE, HN, HO, hb⟩
            case round =>
              clear HO HN HE D1 hlt0
              obtain ⟨k, sn, a3, c3, rfl, hk, rfl, HE, HN, HO, hb⟩ := hrel
              have hs2 : sn.length ≤ 1000 := by rw [← HE.out]; exact SL.out k hk
              by_cases hlk : k < r.length
              · obtain ⟨b2, off2, rfl, hlt2, d0⟩ := M4.IntsAt.at (M4.IntsAt.below J1.out hb) hlk
                have CO : Hid _ := l1Has_any a3 c3 sn (r.getD k 0) wr (by omega) (M5.own_ints HO.out)
                have HDN : Hid (r.getD k 0 ∈ sn → B = false) := fun h => DN2.out k hlk (by rw [HE.out]; exact h)
                have ES : Hid (NR.seen ws j (k + 1) = sn ++ [r.getD k 0]) := by show _ = _; rw [SS.out k hlk, HE.out]
                have HNS : Hid (r.getD k 0 ∉ sn → (sn ++ [r.getD k 0]).Nodup) := fun h => by
                  rw [List.nodup_append]
                  exact ⟨HN.out, by simp, fun x hx y hy e => by rw [List.mem_singleton] at hy; rw [hy] at e; exact h (e ▸ hx)⟩
                have EH : Hid (EG.hasB sn (r.getD k 0) = true ↔ r.getD k 0 ∈ sn) := by show _ ↔ _; simp [EG.hasB]
                generalize EG.hasB sn (r.getD k 0) = hB at *
                generalize r.getD k 0 = x at *
                clear HN HE SL SS SE DN2 J1
                have hbs := hb.size
                go_wp2_with fail
                refine Calls.mono CO.out ?_
                rintro e w5 ⟨rfl, rfl⟩
                clear CO
                cases hB with
                | true =>
                  have hF := HDN.out (EH.out.1 (by trivial))
                  subst hF
                  clear HDN EH HNS ES HO
                  go_wp2
                  go_ret2
                  exact ⟨rfl, hb⟩
                | false =>
                  have HN2 : Hid (List.Nodup (sn ++ [x])) := HNS.out (fun h => by have := EH.out.2 h; cases this)
                  clear HDN EH HNS
                  go_wp2_with (at_builtin; go_loud (refine wpList_append_own _ rfl _ _ 24 rfl w.heap.size 3 i0 (.int .i64 0) 1 8 Try.underlying24 hi hz0 hz1 hz2 rfl (by decide) _ _ _ rfl (World.ownsRow.alloc HO.out _) ⟨wr.heap.size, 0, none⟩ 1 1 [.int .i64 x] rfl rfl ?c1 ?c2 ?c3 ?c4 ?c5 ?_))
                  all_goals try (first | rfl | omega | exact M2.new1 _ _ _ | exact M2.one1 _ _ | (unfold maxLen; omega) | (simp; omega))
                  intro v' w3 hown1 hgrow _
                  have R := M5.growI HO.out hb hbs (by exact hown1) hgrow
                  have R1 := R.1
                  have R2 := R.2
                  obtain ⟨a4, c4, rfl, _⟩ := M5.own_view R1
                  have HR1 : Hid (World.ownsRow w3 w.heap.size 3 1 (.slice a4 (sn ++ [x]).length c4) (sn ++ [x]).length (M4.iv (sn ++ [x]))) := R1
                  clear hown1 hgrow HO R1 R
                  generalize sn ++ [x] = sn' at *
                  go_wp2
                  go_roundw
                  case rel => exact ⟨k + 1, sn', a4, c4, by go_num, by omega, rfl, ES, HN2, HR1, R2⟩
                  case measure => simp [intOf]; omega
              · obtain rfl : k = r.length := by omega
                have HE2 : Hid (NR.seen ws (j + 1) 0 = sn) := by show _ = _; rw [← SE.out]; exact HE.out
                clear SL SS SE DN2 J1 HE
                go_wp2
                go_roundw
                case rel => exact ⟨j + 1, sn, a3, c3, by go_num, by omega, rfl, HE2, HN, HO, hb⟩
                case measure => simp [intOf]; omega
          · obtain rfl : j = ws.length := by omega
            have hF := NY.out (by rw [HE.out]; exact HN.out)
            subst hF
            clear HI DN NY HOK HN HO HE
            go_wp2
            go_ret2
            exact ⟨rfl, hb⟩
  · obtain ⟨rfl, rfl⟩ := AC.out.many (by omega)
    have hw2 : (20 : Int) < (ws.length : Int) := by omega
    clear AC HI RN RY DN NY
    go_enter Try.func14, Try.ntmps14
    go_wp2
    go_ret2
    exact ⟨rfl, Below.refl _ _⟩
end Go.Proofs.Ytcpkcaaplhgioaa
