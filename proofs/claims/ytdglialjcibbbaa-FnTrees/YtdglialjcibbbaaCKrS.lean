/- Kruskal of the specification. -/
import Derived.Test.YtdglialjcibbbaaRows
import Derived.Test.YtdglialjcibbbaaMKr
import Derived.Test.YtdglialjcibbbaaCEdges
import Derived.Test.YtdglialjcibbbaaCPartsS
import Derived.Test.YtdglialjcibbbaaCPut
import Derived.Test.YtdglialjcibbbaaCCost
import Derived.WalkKit
import Derived.WalkSpells
import Derived.WalkLawsBesides
import Derived.Outline
import Derived.Deep.QuietTactic
import Derived.BigQuiet
namespace Go.Proofs.Ytdglialjcibbbaa
open Go.RowKit
theorem own_baseS {w : World} {base base' e sz n : Nat} {v : Value} {xs : List Value} (h : w.ownsRow base e sz v n xs) (hb : base' ≤ base) : w.ownsRow base' e sz v n xs := by
  refine ⟨h.1, ?_⟩
  rcases h.2 with h' | ⟨g, cap, cur, hv, hbg, rest⟩
  · exact .inl h'
  · exact .inr ⟨g, cap, cur, hv, by omega, rest⟩
namespace EG
theorem mt_kt (xs : List I3) (q k : Nat) (hk : k ≤ xs.length) : KT xs (krT xs (mt xs q k)) := KT.of (mt_nodup xs q k) (mt_lt hk)
theorem krS_yes {xs : List I3} {q k : Nat} (h : cst xs k = q) : krT xs (mt xs q (k + 1)) = krS xs (krT xs (mt xs q k)) k := by rw [mt_yes h, kr_snoc]
theorem kr_new {xs : List I3} {q k : Nat} (h : cst xs k = q) : k ∉ krT xs (mt xs q k) := fun hx => by
  rcases mt_new (xs := xs) (q := q) (k := k) with h1 | h1
  · exact h1 (kr_sub _ _ _ hx)
  · exact h1 h
end EG
set_option linter.unusedSimpArgs false in
set_option maxHeartbeats 3200000 in
set_option maxRecDepth 100000 in
theorem specKruskal_any (a : Option Addr) (ca : Nat) (xs : List I3) (w : World) (hn0 : xs.length ≤ 1048576) (hin : MI3.RowAt w a xs) :
    Calls Try.prog 20 #[.slice a xs.length ca] w fun e w' => ∃ a1 c1, e = .returned (.tuple #[.slice a1 (EG.kruL xs).length c1, .int .i64 (EG.kruC xs), .bool (EG.okP xs)]) ∧ w'.ownsRow w.heap.size 3 1 (.slice a1 (EG.kruL xs).length c1) (EG.kruL xs).length (M4.iv (EG.kruL xs)) ∧ Below w.heap.size w w' := by
  have GP : Hid _ := specGoodEdges_any a ca xs w hn0 hin _ rfl
  have HI : Hid (MI3.RowAt w a xs) := hin
  clear hin
  go_enter Try.func20, Try.ntmps20
  go_wp2_with fail
  refine Calls.mono GP.out ?_
  rintro e w1 ⟨rfl, hb1⟩
  clear GP
  cases hg : EG.okP xs with
  | false =>
    have hC : Hid (EG.kruL xs = []) := by show _ = _; simp [EG.kruL, hg]
    have hD : Hid (EG.kruC xs = 0) := by show _ = _; simp [EG.kruC, hg]
    have HK : Hid _ := hg
    clear hg HI
    go_wp2
    go_ret3
    exact ⟨none, 0, by rw [hC.out, hD.out, HK.out]; rfl, by rw [hC.out]; exact World.ownsRow_nil _ _ _ _, hb1⟩
  | true =>
    have HG : Hid _ := hg
    have hlen := ((EG.okP_iff xs).1 hg).1
    have hC : Hid (EG.kruL xs = (EG.tks (EG.krT xs (EG.krO xs))).mergeSort (fun x y => decide (x ≤ y))) := by show _ = _; simp [EG.kruL, hg]
    have hD : Hid (EG.kruC xs = EG.sumUp xs (EG.kruL xs) (EG.kruL xs).length) := by show _ = _; simp [EG.kruC, hg]
    have HS0 : Hid (EG.Srt [] (EG.krT xs (EG.mt xs 0 0))) := by show EG.Srt _ _; rw [EG.mt_zero]; exact EG.Srt.nil
    clear hg
    go_wp2
    go_loopw [5, 6, 7, 8, 9] (fun ov qv _ _ _ wr => ∃ (q : Nat) (os : List Int), qv = .int .i64 q ∧ q ≤ 1001 ∧ os.length ≤ 24 ∧ Hid (EG.Srt os (EG.krT xs (EG.mt xs q 0))) ∧ Hid (World.ownsRow wr w.heap.size 3 1 ov os.length (M4.iv os)) ∧ Below w.heap.size w wr) (fun _ qv _ _ _ _ => (1001 - intOf qv).toNat)
    case atStart => exact ⟨0, [], rfl, by omega, by simp, HS0, World.ownsRow_nil _ _ _ _, hb1⟩
    case round =>
      clear HS0 hb1
      obtain ⟨q, os, rfl, hq, hol, hSR, hO, hb⟩ := hrel
      rename World => W0
      by_cases hlq : q ≤ 1000
      · have hqz : (q : Int) ≤ 1000 := by omega
        go_wp2
        go_loopw [5, 7, 8, 9, 19] (fun ov _ _ _ iv wr => ∃ (k : Nat) (os : List Int), iv = .int .i64 k ∧ k ≤ xs.length ∧ os.length ≤ 24 ∧ Hid (EG.Srt os (EG.krT xs (EG.mt xs q k))) ∧ Hid (World.ownsRow wr w.heap.size 3 1 ov os.length (M4.iv os)) ∧ Below w.heap.size w wr) (fun _ _ _ _ iv _ => (xs.length - intOf iv).toNat)
        case atStart => exact ⟨0, os, rfl, by omega, hol, hSR, hO, hb⟩
        case round =>
          clear hSR hO hb hol os
          obtain ⟨k, os, rfl, hk, hol, hSR, hO, hb⟩ := hrel
          rename World => W1
          have hbs := hb.size
          by_cases hlk : k < xs.length
          · have kz : (k : Int) < (xs.length : Int) := by omega
            obtain ⟨b2, off2, hab, hlt2, c0, c1, c2⟩ := (HI.out.below hb).at hlk
            have G := EG.okP_good HG.out hlk
            obtain ⟨x, hx⟩ := Int.eq_ofNat_of_zero_le G.f0
            obtain ⟨y, hy⟩ := Int.eq_ofNat_of_zero_le G.t0
            have hx8 : x < 8 := by have := G.f1; omega
            have hy8 : y < 8 := by have := G.t1; omega
            have hen : EG.en xs k = (x, y) := by unfold EG.en; rw [hx, hy]; rfl
            have hcs : (MI3.at_ xs k).a2 = (EG.cst xs k : Int) := EG.cst_is HG.out k
            rw [hx] at c0
            rw [hy] at c1
            rw [hcs] at c2
            subst hab
            by_cases hcq : EG.cst xs k = q
            · have hKT := EG.mt_kt xs q k hk
              have htl := hKT.len hlen
              have HPA : Hid _ := hSR.out.parts (xs := xs)
              have HIR : Hid _ := hKT.inR hSR.out.pm
              have HKY : Hid _ := EG.krS_yes (xs := xs) (k := k) hcq
              have HNW : Hid _ := hSR.out.notin (EG.kr_new (xs := xs) (k := k) hcq)
              have hKS : EG.krS xs (EG.krT xs (EG.mt xs q k)) k = if EG.pt (EG.en xs) (EG.krT xs (EG.mt xs q k)) x = EG.pt (EG.en xs) (EG.krT xs (EG.mt xs q k)) y then EG.krT xs (EG.mt xs q k) else EG.krT xs (EG.mt xs q k) ++ [k] := by unfold EG.krS; rw [hen]
              have HKS : Hid _ := hKS
              have hP8 : EG.pt (EG.en xs) (EG.krT xs (EG.mt xs q k)) x < 8 ∧ EG.pt (EG.en xs) (EG.krT xs (EG.mt xs q k)) y < 8 := ⟨EG.pt_lt hx8, EG.pt_lt hy8⟩
              have HL2 : Hid (∀ os', EG.Srt os' (EG.krT xs (EG.mt xs q (k + 1))) → os'.length ≤ 24) := fun os' h => by rw [h.len]; exact (EG.mt_kt xs q (k + 1) (by omega)).len hlen
              generalize EG.krT xs (EG.mt xs q k) = T at *
              obtain ⟨oa, oc, hv, hOA⟩ := M5.own_view hO.out
              have hba : Below w.heap.size w (W1.alloc (.cells #[.int .i64 (x : Int), .int .i64 (y : Int), .int .i64 (EG.cst xs k : Int)] 33)) := hb.alloc hbs _
              have hba1 : Below W1.heap.size W1 (W1.alloc (.cells #[.int .i64 (x : Int), .int .i64 (y : Int), .int .i64 (EG.cst xs k : Int)] 33)) := (Below.refl _ _).alloc (Nat.le_refl _) _
              have LP : Hid _ := l7Parts_any (some ⟨b2, off2, none⟩) oa ca oc xs os _ HG.out (by omega) HIR.out (HI.out.below hba) (hOA.below hba1)
              rw [HPA.out] at LP
              rw [hv] at hO ⊢
              rw [hcq] at c2 LP hba hba1
              have HO1 : Hid (World.ownsRow (W1.alloc (.cells #[.int .i64 (x : Int), .int .i64 (y : Int), .int .i64 (q : Int)] 33)) w.heap.size 3 1 (.slice oa os.length oc) os.length (M4.iv os)) := M5.own_below hO.out hba1
              have s0 : (W1.alloc (.cells #[.int .i64 (x : Int), .int .i64 (y : Int), .int .i64 (q : Int)] 33)).cell? ⟨W1.heap.size, 0, none⟩ = some (.int .i64 (x : Int)) := World.cell?_alloc_at _ _ _ _ (by rfl)
              have s1 : (W1.alloc (.cells #[.int .i64 (x : Int), .int .i64 (y : Int), .int .i64 (q : Int)] 33)).cell? ⟨W1.heap.size, 1, none⟩ = some (.int .i64 (y : Int)) := World.cell?_alloc_at _ _ _ _ (by rfl)
              clear G hx hy hen hcs hKT hKS hv hOA hba1 HPA HIR hO hcq hb
              go_wp2_with fail
              refine Calls.mono LP.out ?_
              rintro e w4 ⟨gp, cp, rfl, ho4, hb4⟩
              have p0 := ho4.cellAt x (by omega)
              have p1 := ho4.cellAt y (by omega)
              have t0 := (hb4.cell (p := ⟨W1.heap.size, 0, none⟩) (by simp)).trans s0
              have t1 := (hb4.cell (p := ⟨W1.heap.size, 1, none⟩) (by simp)).trans s1
              have hpx : (M4.iv (EG.prL (EG.pt (EG.en xs) T)))[x]? = some (.int .i64 (EG.pt (EG.en xs) T x : Int)) := by simp [M4.iv, EG.prL_get _ hx8]
              have hpy : (M4.iv (EG.prL (EG.pt (EG.en xs) T)))[y]? = some (.int .i64 (EG.pt (EG.en xs) T y : Int)) := by simp [M4.iv, EG.prL_get _ hy8]
              rw [hpx] at p0
              rw [hpy] at p1
              have hB4 := hba.trans (hb4.mono hba.size)
              have HO4 : Hid (World.ownsRow w4 w.heap.size 3 1 (.slice oa os.length oc) os.length (M4.iv os)) := M5.own_below HO1.out hb4
              clear LP ho4 hb4 hpx hpy s0 s1 hba HO1 c0 c1 c2
              generalize EG.pt (EG.en xs) T x = px at *
              generalize EG.pt (EG.en xs) T y = py at *
              have xz : (x : Int) < 8 := by omega
              have yz : (y : Int) < 8 := by omega
              by_cases heq : px = py
              · have HN : Hid (EG.Srt os (EG.krT xs (EG.mt xs q (k + 1)))) := by rw [HKY.out, HKS.out, if_pos heq]; exact hSR.out
                subst heq
                clear HKY HKS HNW HL2 hSR
                go_wp2_with fail
                go_quiet (fail)
                go_wp2
                go_roundw
                case rel => exact ⟨k + 1, os, by go_num, by omega, hol, HN, HO4, hB4.trans ⟨rfl, rfl, rfl, Nat.le_refl _, fun _ _ => rfl⟩⟩
                case measure => simp [intOf]; omega
              · have hnz : ((px : Int) == (py : Int)) = false := by simp; omega
                have hnz2 : ((px : Int) != (py : Int)) = true := by simp; omega
                have HN : Hid (EG.Srt (EG.putS os (k : Int)) (EG.krT xs (EG.mt xs q (k + 1)))) := by rw [HKY.out, HKS.out, if_neg heq]; exact hSR.out.put k
                have hl2 := HL2.out _ HN.out
                clear HKY HKS HL2 hSR
                go_wp2_with fail
                go_quiet (fail)
                have HO5 : Hid (World.ownsRow (w4.drewN nq) w.heap.size 3 1 (.slice oa os.length oc) os.length (M4.iv os)) := HO4.out
                have PU : Hid _ := l7Put_any w.heap.size (.slice oa os.length oc) os (k : Int) (w4.drewN nq) (by omega) HNW.out HO5.out
                have hB5 : Below w.heap.size w (w4.drewN nq) := hB4.trans ⟨rfl, rfl, rfl, Nat.le_refl _, fun _ _ => rfl⟩
                clear HO4 HO5 HNW p0 p1 t0 t1 hB4
                generalize EG.putS os (k : Int) = os2 at *
                go_wp2_with fail
                refine Calls.mono PU.out ?_
                rintro e w6 ⟨a6, c6, rfl, ho6, hb6⟩
                have HO6 : Hid (World.ownsRow w6 w.heap.size 3 1 (.slice a6 os2.length c6) os2.length (M4.iv os2)) := own_baseS ho6 hB5.size
                have hB6 := hB5.trans (hb6.mono hB5.size)
                clear PU ho6 hb6 hB5
                go_wp2
                go_roundw
                case rel => exact ⟨k + 1, os2, by go_num, by omega, hl2, HN, HO6, hB6⟩
                case measure => simp [intOf]; omega
            · have hnz : ((EG.cst xs k : Int) != (q : Int)) = true := by simp; omega
              have hnz1 : ((EG.cst xs k : Int) == (q : Int)) = false := by simp; omega
              have HN : Hid (EG.Srt os (EG.krT xs (EG.mt xs q (k + 1)))) := by rw [EG.mt_no hcq]; exact hSR.out
              have hba : Below w.heap.size w (W1.alloc (.cells #[.int .i64 (x : Int), .int .i64 (y : Int), .int .i64 (EG.cst xs k : Int)] 33)) := hb.alloc hbs _
              have hba1 : Below W1.heap.size W1 (W1.alloc (.cells #[.int .i64 (x : Int), .int .i64 (y : Int), .int .i64 (EG.cst xs k : Int)] 33)) := (Below.refl _ _).alloc (Nat.le_refl _) _
              have HO1 : Hid (World.ownsRow (W1.alloc (.cells #[.int .i64 (x : Int), .int .i64 (y : Int), .int .i64 (EG.cst xs k : Int)] 33)) w.heap.size 3 1 _ os.length (M4.iv os)) := M5.own_below hO.out hba1
              clear G hx hy hen hcs hba1 hSR hcq hO
              generalize EG.cst xs k = cq at *
              go_wp2
              go_roundw
              case rel => exact ⟨k + 1, os, by go_num, by omega, hol, HN, HO1, hba⟩
              case measure => simp [intOf]; omega
          · obtain rfl : k = xs.length := by omega
            rw [EG.mt_all] at hSR
            go_wp2
            go_roundw
            case rel => exact ⟨q + 1, os, by go_num, by omega, hol, hSR, hO, hb⟩
            case measure => simp [intOf]; omega
      · obtain rfl : q = 1001 := by omega
        rw [EG.mt_end] at hSR
        have hKT := EG.krO_kt xs
        have HIR : Hid _ := hKT.inR hSR.out.pm
        have HPL : Hid (EG.kruL xs = os) := by show _ = _; rw [hC.out]; exact hSR.out.is
        obtain ⟨oa, oc, hv, hOA⟩ := M5.own_view hO.out
        have CC : Hid _ := l7Cost_any a oa ca oc xs os _ HG.out (by omega) HIR.out (HI.out.below hb) hOA
        rw [hv] at hO ⊢
        clear hKT hSR HIR hv hOA hC
        go_wp2_with fail
        refine Calls.mono CC.out ?_
        rintro e w5 ⟨rfl, hb5⟩
        have HO5 : Hid _ := M5.own_below hO.out hb5
        have B5 := hb.trans (hb5.mono hb.size)
        clear CC hO hb5 hb
        go_wp2
        go_ret3
        refine ⟨oa, oc, ?_, by rw [HPL.out]; exact HO5.out, B5⟩
        rw [hD.out, HPL.out, HG.out]; rfl
end Go.Proofs.Ytdglialjcibbbaa
