/- What can be reached, as the specification finds it: l10Reach. -/
import Derived.Test.YtjfnmhkhjaafkaaRows
import Derived.Test.YtjfnmhkhjaafkaaMPK
import Derived.Test.YtjfnmhkhjaafkaaCPairTry
import Derived.Test.YtjfnmhkhjaafkaaMInfo
import Derived.Maps.AppendAt
import Derived.Deep.QuietTactic
import Derived.BigQuiet
import Derived.WalkKit
import Derived.WalkSpells
import Derived.WalkLawsBesides
import Derived.Outline
namespace Go.Proofs.Ytjfnmhkhjaafkaa
open Go.RowKit
set_option maxHeartbeats 3200000 in
set_option maxRecDepth 100000 in
theorem reach_any (l r : Int) (n : Nat) (a b : Option Addr) (cap cb : Nat) (ws : List (List Int)) (m : List Int) (w : World) (hn8 : n ≤ 8) (hmn : Hid (m.length = n)) (hwn : Hid (ws.length = n)) (ht : NR.tot ws ≤ 1048576) (hG : Hid (PG.Gd ws)) (hin : NR.RowsAt w a ws) (hos : M4.IntsAt w b m) (Z : PG.Rs) (hZ : Hid (PG.reach ws m = Z)) :
    Calls Try.prog 30 #[PG.pv l r (.slice a ws.length cap), .slice b n cb] w fun e w' => ∃ a1 c1 a2 c2, e = .returned (.tuple #[.slice a1 Z.1.length c1, .slice a2 Z.2.length c2]) ∧ M4.IntsAt w' a1 Z.1 ∧ M4.IntsAt w' a2 Z.2 ∧ Below w.heap.size w w' := by
  have hB : Below w.heap.size w (w.alloc (Obj.cells #[.int .i64 l, .int .i64 r, .slice a ws.length cap] 25)) := (Below.refl _ _).alloc (Nat.le_refl _) _
  have hC2 : (w.alloc (Obj.cells #[.int .i64 l, .int .i64 r, .slice a ws.length cap] 25)).cell? ⟨w.heap.size, 2, none⟩ = some (.slice a ws.length cap) := by simp
  have hS : w.heap.size < (w.alloc (Obj.cells #[.int .i64 l, .int .i64 r, .slice a ws.length cap] 25)).heap.size := by simp
  have HI : Hid (NR.RowsAt _ a ws) := hin.below hB
  have HO : Hid (M4.IntsAt _ b m) := hos.below hB
  obtain ⟨i0, hi, hz0, hz1, hz2⟩ := info_parts Try.info3
  clear hin hos
  go_enter Try.func30, Try.ntmps30
  go_wp2
  generalize w.alloc (Obj.cells #[.int .i64 l, .int .i64 r, .slice a ws.length cap] 25) = W1 at *
  go_loopw [6, 16] (fun u iv wr => ∃ k : Nat, iv = .int .i64 k ∧ k ≤ n ∧ Hid (wr.ownsRow W1.heap.size 3 1 u (PG.fre m k).length (M4.iv (PG.fre m k))) ∧ Below W1.heap.size W1 wr) (fun _ iv _ => (n - intOf iv).toNat)
  case atStart => exact ⟨0, rfl, by omega, World.ownsRow_nil _ _ _ _, Below.refl _ _⟩
  case round =>
    obtain ⟨k, rfl, hk, hT, hb⟩ := hrel
    have hbs := hb.size
    by_cases hl : k < n
    · obtain ⟨b1, off1, rfl, hlt1, hc1⟩ := M4.IntsAt.at (M4.IntsAt.below HO.out hb) (k := k) (by rw [hmn.out]; exact hl)
      have hfl := PG.fre_len m k
      have hfs := PG.fre_succ m k
      generalize PG.fre m k = L at *
      by_cases hx : m.getD k 0 = -1
      · rw [if_pos hx] at hfs
        rw [hx] at hc1
        have HFS : Hid _ := hfs
        generalize hll : L.length = ll at *
        have HLL : Hid _ := hll
        clear hfs hll hx
        go_wp2_with (at_builtin; (refine wpList_append_own _ rfl _ _ 27 rfl W1.heap.size 3 i0 (.int .i64 0) 1 8 Try.underlying27 hi hz0 hz1 hz2 rfl (by decide) _ _ _ rfl (World.ownsRow.alloc hT.out _) ⟨wr.heap.size, 0, none⟩ 1 1 [.int .i64 (k : Int)] rfl rfl ?c1 ?c2 ?c3 ?c4 ?c5 ?_))
        all_goals try (first | rfl | omega | exact M2.new1 _ _ _ | exact M2.one1 _ _ | (unfold maxLen; omega) | (simp; omega))
        intro v' w4 hown1 hgrow _
        have hb4 : Below W1.heap.size W1 w4 := (hb.alloc hbs _).grown hgrow (by simp; omega) (fun j hj => (World.ownsRow.lt hT.out j hj).1)
        have HO4 : Hid (w4.ownsRow W1.heap.size 3 1 v' (PG.fre m (k + 1)).length (M4.iv (PG.fre m (k + 1)))) := by
          rw [HFS.out]; exact PG.own_snoc (by rw [HLL.out]; exact hown1) rfl
        clear hown1 hgrow hT HFS HLL
        go_wp2
        go_roundw
        case rel => exact ⟨k + 1, by go_num, by omega, HO4, hb4⟩
        case measure => simp [intOf]; omega
      · rw [if_neg hx] at hfs
        have HO4 : Hid (wr.ownsRow W1.heap.size 3 1 u6 (PG.fre m (k + 1)).length (M4.iv (PG.fre m (k + 1)))) := by rw [hfs]; exact hT.out
        have hxb : (m.getD k 0 == -1) = false := by simpa using hx
        clear hfs hx hT
        generalize m.getD k 0 = x at *
        go_wp2
        go_roundw
        case rel => exact ⟨k + 1, by go_num, by omega, HO4, hb⟩
        case measure => simp [intOf]; omega
    · obtain rfl : n = k := by omega
      rw [← hmn.out] at hT
      have HT0 : Hid (PG.RT W1.heap.size wr u6 (.slice none 0 0) (PG.fre m m.length, [])) := ⟨hT.out, World.ownsRow_nil _ _ _ _, fun g _ => by simp [Value.ownBlock]⟩
      have HR0 : Hid _ := PG.fre_rch ws m
      have hZ2 : Hid (PG.rout ws m 9 0 (PG.fre m m.length, []) = Z) := hZ
      clear hT hZ
      go_wp2
      go_loopw [6, 7, 10] (fun u v iv wr => ∃ (k f : Nat) (s : PG.Rs), iv = .int .i64 k ∧ k ≤ s.1.length ∧ s.1.length ≤ 8 ∧ Hid (PG.rout ws m f k s = Z) ∧ Hid (m.length < f + k) ∧ Hid (PG.Rch ws m s) ∧ Hid (PG.RT W1.heap.size wr u v s) ∧ Below W1.heap.size W1 wr) (fun _ _ iv _ => (8 - intOf iv).toNat)
      case atStart => exact ⟨0, 9, _, rfl, by omega, by have := HR0.out.len1; have := hmn.out; omega, hZ2, by show _ < _; have := hmn.out; omega, HR0, HT0, hb⟩
      case round =>
        clear HT0 HR0 hZ2 hb hbs
        obtain ⟨k, f, s, rfl, hks, hs8, hZ, hF, hR, hT, hb⟩ := hrel
        have hbs := hb.size
        have c2 := (hb.cell (p := ⟨w.heap.size, 2, none⟩) hS).trans hC2
        obtain ⟨aL, cL, rfl, iL⟩ := M5.own_view hT.out.a
        obtain ⟨aR, cR, rfl, iR⟩ := M5.own_view hT.out.b
        by_cases hl2 : k < s.1.length
        · obtain ⟨bL, oL, rfl, hltL, hcL⟩ := M4.IntsAt.at iL hl2
          have hmem : s.1.getD k 0 ∈ s.1 := by rw [List.getD_eq_getElem?_getD, List.getElem?_eq_getElem hl2]; exact List.getElem_mem _
          have hx := hR.out.lt _ hmem
          obtain ⟨i, hi'⟩ : ∃ i : Nat, s.1.getD k 0 = (i : Int) := ⟨(s.1.getD k 0).toNat, by omega⟩
          have hiw : i < ws.length := by rw [hwn.out, ← hmn.out]; omega
          obtain ⟨b2, off2, a1, d1, rfl, hlt2', e1', _, i1⟩ := HI.out.at hiw
          have e1 := (hb.cell (p := ⟨b2, off2 + i, none⟩) hlt2').trans e1'
          have hlt2 := Nat.lt_of_lt_of_le hlt2' hbs
          clear e1' hlt2'
          have hrt := NR.tot_row ws hiw
          obtain ⟨f', rfl⟩ : ∃ f', f = f' + 1 := ⟨f - 1, by have := hF.out; have := hR.out.len1; omega⟩
          have hE := hZ.out
          rw [PG.rout_go hl2, hi', Int.toNat_natCast] at hE
          have HWT : Hid (∀ x ∈ NR.rw_ ws i, ∀ Q, PG.Shut ws m Q → Q x) := by
            have := hR.out.want hl2
            rw [hi', Int.toNat_natCast] at this
            exact this
          have HRS : Hid (∀ x ∈ NR.rw_ ws i, 0 ≤ x ∧ x < 8) := fun x hx => hG.out i x hx
          rw [hi'] at hcL
          have hF2 : Hid (m.length < f' + (k + 1)) := by show _ < _; have := hF.out; omega
          have I1 : Hid (∀ W : World, Below W1.heap.size W1 W → M4.IntsAt W a1 (NR.rw_ ws i)) := fun W hb => i1.below hb
          have HE : Hid _ := hE
          have hL := hmn.out
          have hl8 : m.length ≤ 8 := by omega
          clear hx hmem hi' hE hZ iL iR i1 hF hL
          generalize NR.rw_ ws i = rs at *
          obtain ⟨V, hV⟩ : ∃ V, PG.rin m rs s = V := ⟨_, rfl⟩
          have HV : Hid (PG.rin m (rs.drop 0) s = V) := hV
          rw [hV] at HE
          have HGV : Hid (k + 1 ≤ V.1.length) := by
            show _ ≤ _
            obtain ⟨⟨lg, eg⟩, _⟩ := PG.rin_grow m rs s
            rw [← hV, eg, List.length_append]; omega
          clear hV
          have hi0 : (0 : Int) ≤ (i : Int) := by omega
          have hil : (i : Int) < (ws.length : Int) := by omega
          generalize hln1 : s.1.length = n1 at *
          go_wp2
          go_quiet (fail)
          have hT5 : Hid (PG.RT W1.heap.size (wr.drewN nq) (.slice (some ⟨bL, oL, none⟩) n1 cL) (.slice aR s.2.length cR) s) := hT.out.below (below_drewN (Below.refl _ wr) nq)
          have hb5 : Below W1.heap.size W1 (wr.drewN nq) := below_drewN hb nq
          clear hT hb c2 e1 hcL hltL hlt2 hbs hln1
          generalize wr.drewN nq = W5 at *
          generalize Value.slice (some ⟨bL, oL, none⟩) n1 cL = uL at *
          generalize Value.slice aR s.2.length cR = uR at *
          go_wp2
          go_loopw [6, 7, 43] (fun u v jv w6 => ∃ (j : Nat) (s' : PG.Rs), jv = .int .i64 j ∧ j ≤ rs.length ∧ Hid (PG.rin m (rs.drop j) s' = V) ∧ Hid (PG.Rch ws m s') ∧ Hid (PG.RT W1.heap.size w6 u v s') ∧ Below W1.heap.size W1 w6) (fun _ _ jv _ => (rs.length - intOf jv).toNat)
          case atStart => exact ⟨0, s, rfl, by omega, HV, hR, hT5, hb5⟩
          case round =>
            clear HV hT5 hb5 hR
            obtain ⟨j, s', rfl, hj, hV, hR, hT, hb⟩ := hrel
            have hbs := hb.size
            have hl1 := hR.out.len1
            have hl2' := hR.out.len2
            by_cases hlj : j < rs.length
            · obtain ⟨b3, off3, rfl, hlt3, hc3⟩ := M4.IntsAt.at (I1.out _ hb) hlj
              have hmem : rs.getD j 0 ∈ rs := by rw [List.getD_eq_getElem?_getD, List.getElem?_eq_getElem hlj]; exact List.getElem_mem _
              have hE := hV.out
              rw [PG.rin_step hlj] at hE
              have hR2 : PG.Rch ws m (PG.rin1 m (rs.getD j 0) s') := PG.rin1_rch hR.out (HRS.out _ hmem) (HWT.out _ hmem)
              obtain ⟨aR', cR', rfl, iR'⟩ := M5.own_view hT.out.b
              obtain ⟨aL', cL', rfl, iL'⟩ := M5.own_view hT.out.a
              have HH : Hid _ := l1Has_any aR' cR' s'.2 (rs.getD j 0) wr (by omega) iR'
              have HOW : Hid (∀ W : World, Below W1.heap.size W1 W → Calls Try.prog 49 #[.slice b n cb, .int .i64 (rs.getD j 0)] W fun e w' => e = .returned (.int .i64 (PG.ownI m (rs.getD j 0))) ∧ W = w') := fun W hbW => by
                have := owner_any b cb m (rs.getD j 0) W (by omega) (M4.IntsAt.below HO.out hbW)
                rw [hmn.out] at this
                exact this
              generalize rs.getD j 0 = x at *
              clear hmem hV hR iL' iR'
              cases hq : EG.hasB s'.2 x
              · rw [hq] at HH
                have HQ : Hid _ := And.intro hE (And.intro hR2 hq)
                obtain ⟨oi, hoi⟩ : ∃ oi, PG.ownI m x = oi := ⟨_, rfl⟩
                rw [hoi] at HOW
                have HOI : Hid _ := hoi
                clear hE hR2 hq hoi
                have HT1 : Hid _ := hT.out.b
                generalize hle2 : s'.2.length = e2 at *
                have HE2 : Hid _ := hle2
                clear hle2
                go_wp2_with (first | (go_at_call 31; refine Calls.mono HH.out ?_; rintro e w7 ⟨rfl, rfl⟩; clear HH) | (at_builtin; (refine wpList_append_own_at _ rfl _ _ 27 rfl W1.heap.size 3 i0 (.int .i64 0) 1 8 Try.underlying27 hi hz0 hz1 hz2 rfl (by decide) _ _ _ rfl (World.ownsRow.alloc HT1.out _) ⟨wr.heap.size, 0, none⟩ 1 1 [.int .i64 x] rfl rfl ?d1 ?d2 ?d3 ?d4 ?d5 ?_)))
                case d1 => exact M2.new1 _ _ _
                case d2 => exact M2.one1 _ _
                case d3 => unfold maxLen; omega
                case d4 => omega
                case d5 => simp; omega
                intro v7 w7 hown7 hgrow7 _ loc7
                have hT7 := hT.out.appB (z := x) (by rw [HE2.out]; exact hown7) hgrow7 loc7
                have hb7 : Below W1.heap.size W1 w7 := (hb.alloc hbs _).grown hgrow7 (by simp; omega) (fun q hq => (World.ownsRow.lt HT1.out q hq).1)
                have HOW7 : Hid _ := HOW.out w7 hb7
                have hbs7 := hb7.size
                clear hown7 hgrow7 loc7 HT1 HOW hT hb
                obtain ⟨aR7, cR7, rfl, iR7⟩ := M5.own_view hT7.b
                have iL7 : M4.IntsAt w7 aL' s'.1 := M5.own_ints hT7.a
                have HT7 : Hid _ := hT7
                obtain ⟨hE, hR2, hq⟩ := HQ.out
                simp only [List.length_append, List.length_singleton] at HT7 ⊢
                rw [HE2.out] at HT7 ⊢
                clear iR7 hT7 HQ
                cases ho : PG.own m x with
                | none =>
                  have hoi := HOI.out
                  rw [PG.ownI_none ho] at hoi
                  subst hoi
                  rw [PG.rin1_none hq ho] at hE hR2
                  have HEE : Hid _ := hE
                  have HR3 : Hid _ := hR2
                  clear hE hR2 hq ho HOI iL7
                  go_wp2_with (go_at_call 49; refine Calls.mono HOW7.out ?_; rintro e w8 ⟨rfl, rfl⟩; clear HOW7)
                  go_roundw
                  case rel => exact ⟨j + 1, (s'.1, s'.2 ++ [x]), by go_num, by omega, HEE, HR3, HT7, hb7⟩
                  case measure => simp [intOf]; omega
                | some o =>
                  have hoi := HOI.out
                  rw [PG.ownI_some ho] at hoi
                  subst hoi
                  have HH2 : Hid _ := l1Has_any aL' cL' s'.1 (o : Int) w7 (by omega) iL7
                  cases hq2 : EG.hasB s'.1 (o : Int)
                  · rw [hq2] at HH2
                    rw [PG.rin1_new hq ho hq2] at hE hR2
                    have HEE : Hid _ := hE
                    have HR3 : Hid _ := hR2
                    have HT8 : Hid _ := HT7.out.a
                    have ho0 : (0 : Int) ≤ (o : Int) := by omega
                    clear hE hR2 hq ho HOI iL7 hq2
                    simp only at HT8
                    generalize hle1 : s'.1.length = e1 at *
                    have HE1 : Hid _ := hle1
                    clear hle1
                    go_wp2_with (first | (go_at_call 49; refine Calls.mono HOW7.out ?_; rintro e w8 ⟨rfl, rfl⟩; clear HOW7) | (go_at_call 31; refine Calls.mono HH2.out ?_; rintro e w8 ⟨rfl, rfl⟩; clear HH2) | (at_builtin; (refine wpList_append_own_at _ rfl _ _ 27 rfl W1.heap.size 3 i0 (.int .i64 0) 1 8 Try.underlying27 hi hz0 hz1 hz2 rfl (by decide) _ _ _ rfl (World.ownsRow.alloc HT8.out _) ⟨w7.heap.size, 0, none⟩ 1 1 [.int .i64 (o : Int)] rfl rfl ?f1 ?f2 ?f3 ?f4 ?f5 ?_)))
                    case f1 => exact M2.new1 _ _ _
                    case f2 => exact M2.one1 _ _
                    case f3 => unfold maxLen; omega
                    case f4 => omega
                    case f5 => simp; omega
                    intro v9 w9 hown9 hgrow9 _ loc9
                    have hT9 := HT7.out.appA (z := (o : Int)) (by simp only; rw [HE1.out]; exact hown9) hgrow9 loc9
                    have hb9 : Below W1.heap.size W1 w9 := (hb7.alloc hbs7 _).grown hgrow9 (by simp; omega) (fun q hq => (World.ownsRow.lt HT8.out q hq).1)
                    have HT9 : Hid _ := hT9
                    clear hown9 hgrow9 loc9 HT8 HT7 hT9 hb7
                    go_wp2
                    go_roundw
                    case rel => exact ⟨j + 1, (s'.1 ++ [(o : Int)], s'.2 ++ [x]), by go_num, by omega, HEE, HR3, HT9, hb9⟩
                    case measure => simp [intOf]; omega
                  · rw [hq2] at HH2
                    rw [PG.rin1_old hq ho hq2] at hE hR2
                    have HEE : Hid _ := hE
                    have HR3 : Hid _ := hR2
                    have ho0 : (0 : Int) ≤ (o : Int) := by omega
                    clear hE hR2 hq ho HOI iL7 hq2
                    go_wp2_with (first | (go_at_call 49; refine Calls.mono HOW7.out ?_; rintro e w8 ⟨rfl, rfl⟩; clear HOW7) | (go_at_call 31; refine Calls.mono HH2.out ?_; rintro e w8 ⟨rfl, rfl⟩; clear HH2))
                    go_roundw
                    case rel => exact ⟨j + 1, (s'.1, s'.2 ++ [x]), by go_num, by omega, HEE, HR3, HT7, hb7⟩
                    case measure => simp [intOf]; omega
              · rw [hq] at HH
                rw [PG.rin1_in hq] at hE hR2
                have HE2 : Hid _ := hE
                have HR3 : Hid _ := hR2
                clear hE hR2 hq HOW
                go_wp2_with (go_at_call 31; refine Calls.mono HH.out ?_; rintro e w7 ⟨rfl, rfl⟩; clear HH)
                go_roundw
                case rel => exact ⟨j + 1, s', by go_num, by omega, HE2, HR3, hT, hb⟩
                case measure => simp [intOf]; omega
            · obtain rfl : j = rs.length := by omega
              have hE := hV.out
              rw [List.drop_length, PG.rin] at hE
              subst hE
              go_wp2
              go_roundw
              case rel => exact ⟨k + 1, f', s', by go_num, HGV.out, by omega, HE, hF2, hR, hT, hb⟩
              case measure => simp [intOf]; omega
        · have hE := hZ.out
          rw [PG.rout_stop hl2] at hE
          subst hE
          have HL : Hid _ := iL
          have HR2 : Hid _ := iR
          have hB2 := hB.trans (hb.mono hB.size)
          clear iL iR hT hR hZ
          go_wp2
          go_ret2
          exact ⟨aL, cL, aR, cR, rfl, HL.out, HR2.out, hB2⟩
end Go.Proofs.Ytjfnmhkhjaafkaa
