/- Roads by potentials: slices.Clone at []Road, ReducedRoads of both. -/
import Derived.Test.YtclhfhjkcocdcaaRows
import Derived.Test.YtclhfhjkcocdcaaCRd4
import Derived.Test.YtclhfhjkcocdcaaCRdS2
import Derived.Test.YtclhfhjkcocdcaaMRM
import Derived.Test.YtclhfhjkcocdcaaMRP
import Derived.Test.YtclhfhjkcocdcaaMRH
import Derived.Test.YtclhfhjkcocdcaaMNR
import Derived.Lib.SliceRun
import Derived.WalkKit
import Derived.WalkSpells
import Derived.WalkLawsBesides
import Derived.Outline
import Derived.Deep.RegionHeld3
namespace Go.Proofs.Ytclhfhjkcocdcaa
open Go.RowKit
theorem Try.infoRoad : (Try.prog.info? 37).map (fun i => (i.zero, i.size, i.bytes)) = some (some (.agg #[.int .i64 0, .int .i64 0, .int .i64 0]), 3, 24) := by kernel_rfl
theorem RD.flat_one (xs : List I3) : ∀ u ∈ MI3.flat xs, u.oneCell' = true := by
  intro u hu
  simp only [MI3.flat, List.mem_flatMap, I3.cs, List.mem_cons, List.not_mem_nil, or_false] at hu
  obtain ⟨x, _, rfl | rfl | rfl⟩ := hu <;> rfl
theorem RD.row_cells {w : World} {ad : Addr} {xs : List I3} (h : MI3.RowAt w (some ad) xs) : ∀ j u, (MI3.flat xs)[j]? = some u → w.cell? (ad.add j) = some u := fun j u hu => by
  have hj : j < xs.length * 3 := by
    have := (List.getElem?_eq_some_iff.1 hu).1
    rwa [MI3.flat_len] at this
  have hq : j / 3 < xs.length := by omega
  obtain ⟨b, off, he, hlt, c0, c1, c2⟩ := h.at hq
  simp only [Option.some.injEq] at he
  subst he
  rw [show j = 3 * (j / 3) + j % 3 from by omega, MI3.flat_get xs (j / 3) (j % 3) hq (by omega)] at hu
  have ea : (Addr.add ⟨b, off, none⟩ j) = ⟨b, off + j, none⟩ := by simp [Addr.add_mid]
  rw [ea]
  have : j % 3 = 0 ∨ j % 3 = 1 ∨ j % 3 = 2 := by omega
  rcases this with e | e | e
  · rw [e] at hu; cases hu
    rw [show off + j = off + j / 3 * 3 from by omega]; exact c0
  · rw [e] at hu; cases hu
    rw [show off + j = off + j / 3 * 3 + 1 from by omega]; exact c1
  · rw [e] at hu; cases hu
    rw [show off + j = off + j / 3 * 3 + 2 from by omega]; exact c2
set_option linter.unusedSimpArgs false in
set_option maxHeartbeats 1600000 in
set_option maxRecDepth 100000 in
theorem cloneR_any (a : Option Addr) (c : Nat) (xs : List I3) (w : World) (hn : xs.length ≤ 1048576) (hr : MI3.RowAt w a xs) :
    Calls Try.prog 38 #[.slice a xs.length c] w fun e w' => ∃ v, e = .returned v ∧ w'.ownsRow w.heap.size 37 3 v xs.length (MI3.flat xs) ∧ Below w.heap.size w w' := by
  obtain ⟨i0, hi, hz0, hz1, hz2⟩ := info_parts Try.infoRoad
  cases a with
  | none =>
    obtain rfl : xs = [] := by
      rcases hr.is with h | ⟨b, off, h, _⟩
      · exact h
      · cases h
    have hE : ∀ W : World, (binOp .eql 23 (.slice none 0 c) (.slice none 0 0)).run Try.prog W = .ok (.bool true) W := fun W => by simpa using Lib.run_eql_slice_nil (P := Try.prog) W 23 37 none 0 c 0 0 Try.underlying23
    clear hr
    simp only [List.length_nil]
    go_enter Try.func38, Try.ntmps38
    go_wp2
    go_ret
    exact ⟨_, rfl, World.ownsRow_nil _ _ _ _, Below.refl _ _⟩
  | some ad =>
    have hE : ∀ W : World, (binOp .eql 23 (.slice (some ad) xs.length c) (.slice none 0 0)).run Try.prog W = .ok (.bool false) W := fun W => by simpa using Lib.run_eql_slice_nil (P := Try.prog) W 23 37 (some ad) xs.length c 0 0 Try.underlying23
    have own0 : Hid ((w.alloc (.cells #[] 37)).ownsRow w.heap.size 37 3 (.slice (some ⟨w.heap.size, 0, none⟩) 0 0) 0 []) := by
      have := World.ownsRow_lit (base := w.heap.size) (e := 37) (size := 3) w #[] 0 (by simp) (by unfold maxLen; omega) (by simp)
      simpa [Hid] using this
    have HN : Hid _ := RD.row_cells (hr.below ((Below.refl _ w).alloc (Nat.le_refl _) (.cells #[] 37)))
    have HL : Hid ((MI3.flat xs).length = xs.length * 3) := MI3.flat_len xs
    have ONE : Hid _ := RD.flat_one xs
    clear hr
    go_enter Try.func38, Try.ntmps38
    go_wp2_with (at_builtin; refine wpList_append_own _ rfl _ _ 23 rfl w.heap.size 37 i0 (.agg #[.int .i64 0, .int .i64 0, .int .i64 0]) 3 24 Try.underlying23 hi hz0 hz1 hz2 rfl (by decide) _ _ _ rfl own0.out ad xs.length c (MI3.flat xs) rfl HL.out HN.out ONE.out ?c3 ?c4 ?c5 ?_)
    case c3 => unfold maxLen; omega
    case c4 => omega
    case c5 => simp
    intro v' w1 hown1 hgrow _
    have hB : Below w.heap.size w w1 := ((Below.refl _ w).alloc (Nat.le_refl _) _).grown hgrow (by simp) (fun j hj => (own0.out.lt j hj).1)
    have HO : Hid (w1.ownsRow w.heap.size 37 3 v' xs.length (MI3.flat xs)) := by simpa [Hid] using hown1
    clear hown1 hgrow own0 HN HL ONE
    go_wp2
    go_ret
    exact ⟨v', rfl, HO.out, hB⟩
set_option linter.unusedSimpArgs false in
set_option maxHeartbeats 3200000 in
set_option maxRecDepth 100000 in
theorem implRed_any (a : Option Addr) (cap : Nat) (xs : List I3) (w : World) (hn : xs.length ≤ 1048576) (hin : MI3.RowAt w a xs) (L : List I3) (hL : Hid (RD.rrL xs = L)) (R : Bool) (hR : Hid (RD.fine xs = R)) :
    Calls Try.prog 18 #[.slice a xs.length cap] w fun e w' => ∃ a1 c1, e = .returned (.tuple #[.slice a1 L.length c1, .bool R]) ∧ w'.ownsRow w.heap.size 37 3 (.slice a1 L.length c1) L.length (MI3.flat L) ∧ Below w.heap.size w w' := by
  have CA : Hid _ := calmI_any a cap xs w hn hin R hR
  cases R with
  | false =>
    obtain rfl : L = [] := by rw [← hL.out, RD.rrL_no hR.out]
    clear hR hL hin
    go_enter Try.func18, Try.ntmps18
    go_wp2_with fail
    refine Calls.mono CA.out ?_
    rintro e w2 ⟨rfl, hb2⟩
    clear CA
    go_wp2
    go_ret2
    exact ⟨none, 0, rfl, World.ownsRow_nil _ _ _ _, hb2⟩
  | true =>
    have HLE : Hid (L = xs.map (RD.rd1 (RD.pot xs))) := by show _ = _; rw [← hL.out, RD.rrL_yes hR.out]
    have HO := RD.fine_is hR.out
    have PO : Hid _ := fun (W : World) (hr : MI3.RowAt W a xs) => potentials_any a cap xs W hn (RD.okP_Gd HO.1) hr (RD.pot xs) true (RD.pots HO.1 HO.2).1
    have CL : Hid _ := fun (W : World) (hr : MI3.RowAt W a xs) => cloneR_any a cap xs W hn hr
    have HG : Hid (∀ k, k < xs.length → RD.Good (MI3.at_ xs k)) := fun k hk => RD.okP_good HO.1 hk
    have HPB : Hid (∀ v, -700 ≤ RD.pot xs v ∧ RD.pot xs v ≤ 0) := fun v => RD.pot_bd HO.1 v
    generalize RD.pot xs = p at *
    have HI : Hid _ := hin
    clear hR hL hin HO
    go_enter Try.func18, Try.ntmps18
    go_wp2_with fail
    refine Calls.mono CA.out ?_
    rintro e w2 ⟨rfl, hb2⟩
    clear CA
    go_wp2_with fail
    refine (PO.out _ (HI.out.below hb2)).mono ?_
    rintro e w3 ⟨rfl, hb3⟩
    have hB3 := hb2.trans (hb3.mono hb2.size)
    have HZ : Hid (MA.Rg (w3.alloc (.cells (RD.il RD.zero).toArray 47)) w3.heap.size 0 (RD.il RD.zero)) := MA.Rg.new _ _ _
    have HP : Hid (MA.Rg ((w3.alloc (.cells (RD.il RD.zero).toArray 47)).setCells w3.heap.size 0 (RD.il p)) w3.heap.size 0 (RD.il p)) := (MA.Rg.new w3 (RD.il RD.zero) 47).put (by rw [RD.il_len, RD.il_len])
    have HB4 : Hid (Below w.heap.size w ((w3.alloc (.cells (RD.il RD.zero).toArray 47)).setCells w3.heap.size 0 (RD.il p))) := MA.below_cells hB3.size _ _ _ (hB3.alloc hB3.size _)
    clear hb2 hb3 PO hB3
    go_wp2_with (first
      | (refine MA.alloc_z rfl 47 rfl _ _ Try.infoNC ?_; simp only [MA.sz_alloc])
      | (refine MA.store_m rfl 47 _ _ rfl rfl rfl (vs := RD.il p) (cs := RD.il RD.zero) ?_ Try.sizeNC (RD.il_len _) (RD.il_len _) (RD.il_one _) ?_; exact HZ.out; clear HZ; generalize World.setCells _ _ _ _ = W4 at *))
    generalize w3.heap.size = pb at *
    refine (CL.out _ (HI.out.below HB4.out)).mono ?_
    rintro e w5 ⟨v5, rfl, ho5, hb5⟩
    have HP5 : Hid (MA.Rg w5 pb 0 (RD.il p)) := HP.out.below hb5 HP.out.lt
    have HPL : Hid (pb < W4.heap.size) := HP.out.lt
    have HO5 : Hid _ := ho5
    have HB5 : Hid (Below w.heap.size w w5) := HB4.out.trans (hb5.mono HB4.out.size)
    have HWS : Hid (w.heap.size ≤ W4.heap.size) := HB4.out.size
    clear ho5 hb5 HP HB4 CL
    generalize hws : W4.heap.size = bs at *
    clear hws
    go_wp2_with fail
    go_loopw [21] (fun iv wr => ∃ k : Nat, iv = .int .i64 k ∧ k ≤ xs.length ∧ wr.ownsRow bs 37 3 v5 xs.length (MI3.flat (RD.rdN p xs k)) ∧ MA.Rg wr pb 0 (RD.il p) ∧ Below w.heap.size w wr) (fun iv _ => (xs.length - intOf iv).toNat)
    case atStart => exact ⟨0, rfl, by omega, by rw [RD.rdN_zero]; exact HO5.out, HP5.out, HB5.out⟩
    case round =>
      clear HO5 HP5 HB5
      obtain ⟨k, rfl, hk, hown, hP, hb⟩ := hrel
      by_cases hl : k < xs.length
      · obtain ⟨b1, off, rfl, hlt, c0, c1, c2⟩ := (HI.out.below hb).at hl
        have G := HG.out k hl
        obtain ⟨g, cg, rfl⟩ : ∃ g cg, v5 = .slice (some ⟨g, 0, none⟩) xs.length cg := by
          rcases hown.2 with ⟨_, h⟩ | ⟨g, cg, cur, h, _⟩
          · omega
          · exact ⟨g, cg, h⟩
        have hS := RD.rdN_set p xs k hl
        have hrl := RD.rdN_len p xs k hk
        obtain ⟨y2, q2⟩ : ∃ y, wr.cell? ⟨g, k * 3 + 2, none⟩ = some y := MI3.some_at hown _ (by omega)
        have hgl := (hown.lt g rfl).2
        have hgb := (hown.lt g rfl).1
        have hgp : pb < g := by have := HPL.out; omega
        have hpl := hP.lt
        generalize MI3.at_ xs k = x at *
        obtain ⟨x0, x1, x2⟩ := x
        obtain ⟨i, hi⟩ := Int.eq_ofNat_of_zero_le G.f0
        obtain ⟨t, ht⟩ := Int.eq_ofNat_of_zero_le G.t0
        have hi7 := G.f1
        have ht7 := G.t1
        have l2 := G.c0
        have u2 := G.c1
        simp only at hi ht hi7 ht7 l2 u2
        subst hi ht
        simp only [show ((i : Int)).toNat = i from by omega, show ((t : Int)).toNat = t from by omega] at hS
        have hi8 : i < 8 := by omega
        have ht8 : t < 8 := by omega
        have ii8 : (i : Int) < 8 := by omega
        have tt8 : (t : Int) < 8 := by omega
        have hkx : (k : Int) < (xs.length : Int) := by omega
        obtain ⟨li, ui⟩ := HPB.out i
        obtain ⟨lt, ut⟩ := HPB.out t
        have pi := (RD.rg_at hP hi8).1
        have pt := (RD.rg_at hP ht8).1
        generalize p i = zi at *
        generalize p t = zt at *
        have hst := (hown.alloc (.cells #[.int .i64 (i : Int), .int .i64 (t : Int), .int .i64 x2] 37)).stored (k * 3 + 2) (.int .i64 (x2 + zi - zt))
        rw [hS] at hst
        have HO2 : Hid _ := hst.1
        have hbA : Below w.heap.size w (wr.alloc (.cells #[.int .i64 (i : Int), .int .i64 (t : Int), .int .i64 x2] 37)) := hb.alloc hb.size _
        have HB2 : Hid _ := hbA.grown hst.2 hbA.size (fun j hj => by simp at hj; have := HWS.out; omega)
        have HP2 : Hid (MA.Rg ((wr.alloc (.cells #[.int .i64 (i : Int), .int .i64 (t : Int), .int .i64 x2] 37)).setCell ⟨g, k * 3 + 2, none⟩ (.int .i64 (x2 + zi - zt))) pb 0 (RD.il p)) := (hP.alloc _).other (k' := g) (o' := k * 3 + 2) (vs := [.int .i64 (x2 + zi - zt)]) (.inl (by omega))
        have F0 : Hid ((wr.alloc (.cells #[.int .i64 (i : Int), .int .i64 (t : Int), .int .i64 x2] 37)).cell? ⟨wr.heap.size, 0, none⟩ = some (.int .i64 (i : Int))) := by show _ = _; simp
        have F1 : Hid ((wr.alloc (.cells #[.int .i64 (i : Int), .int .i64 (t : Int), .int .i64 x2] 37)).cell? ⟨wr.heap.size, 1, none⟩ = some (.int .i64 (t : Int))) := by show _ = _; simp
        have F2 : Hid ((wr.alloc (.cells #[.int .i64 (i : Int), .int .i64 (t : Int), .int .i64 x2] 37)).cell? ⟨wr.heap.size, 2, none⟩ = some (.int .i64 x2)) := by show _ = _; simp
        have F3 : Hid ((wr.alloc (.cells #[.int .i64 (i : Int), .int .i64 (t : Int), .int .i64 x2] 37)).cell? ⟨pb, i, none⟩ = some (.int .i64 zi)) := by show _ = _; rw [World.cell?_alloc_lt _ _ _ hpl]; exact pi
        have F4 : Hid ((wr.alloc (.cells #[.int .i64 (i : Int), .int .i64 (t : Int), .int .i64 x2] 37)).cell? ⟨pb, t, none⟩ = some (.int .i64 zt)) := by show _ = _; rw [World.cell?_alloc_lt _ _ _ hpl]; exact pt
        have F5 : Hid ((wr.alloc (.cells #[.int .i64 (i : Int), .int .i64 (t : Int), .int .i64 x2] 37)).cell? ⟨g, k * 3 + 2, none⟩ = some y2) := by show _ = _; rw [World.cell?_alloc_lt _ _ _ hgl]; exact q2
        have F6 : Hid ((wr.alloc (.cells #[.int .i64 (i : Int), .int .i64 (t : Int), .int .i64 x2] 37)).frozen? ⟨g, k * 3 + 2, none⟩ = false) := (hown.alloc _).frozenAt (k * 3 + 2)
        have F7 : Hid (g < (wr.alloc (.cells #[.int .i64 (i : Int), .int .i64 (t : Int), .int .i64 x2] 37)).heap.size) := by show _ < _; simp; omega
        clear hst hbA hown hb hP pi pt q2 hS hrl G
        go_wp2_with fail
        clear c0 c1 c2 hlt
        have hgq : wr.heap.size ≠ g := by omega
        have hpg : pb ≠ g := by omega
        generalize (wr.alloc (.cells #[.int .i64 (i : Int), .int .i64 (t : Int), .int .i64 x2] 37)) = W1 at *
        generalize wr.heap.size = q at *
        have f0 := F0.out
        have f1 := F1.out
        have f2 := F2.out
        have f3 := F3.out
        have f4 := F4.out
        have f5 := F5.out
        have f6 := F6.out
        have f7 := F7.out
        clear F0 F1 F2 F3 F4 F5 F6 F7
        have KA : ∀ (b o : Nat) (v : Value), b ≠ g → (W1.setCell ⟨g, k * 3 + 2, none⟩ v).drew.cell? ⟨b, o, none⟩ = W1.cell? ⟨b, o, none⟩ := fun b o v hb => World.cell?_setCell_far W1 ⟨g, k * 3 + 2, none⟩ ⟨b, o, none⟩ v (fun h => hb h.symm)
        have K0 : ∀ v, (W1.setCell ⟨g, k * 3 + 2, none⟩ v).drew.cell? ⟨q, 0, none⟩ = some (.int .i64 (i : Int)) := fun v => (KA q 0 v hgq).trans f0
        have K1 : ∀ v, (W1.setCell ⟨g, k * 3 + 2, none⟩ v).drew.cell? ⟨q, 1, none⟩ = some (.int .i64 (t : Int)) := fun v => (KA q 1 v hgq).trans f1
        have K2 : ∀ v, (W1.setCell ⟨g, k * 3 + 2, none⟩ v).drew.cell? ⟨q, 2, none⟩ = some (.int .i64 x2) := fun v => (KA q 2 v hgq).trans f2
        have K3 : ∀ v, (W1.setCell ⟨g, k * 3 + 2, none⟩ v).drew.cell? ⟨pb, i, none⟩ = some (.int .i64 zi) := fun v => (KA pb i v hpg).trans f3
        have K4 : ∀ v, (W1.setCell ⟨g, k * 3 + 2, none⟩ v).drew.cell? ⟨pb, t, none⟩ = some (.int .i64 zt) := fun v => (KA pb t v hpg).trans f4
        clear KA
        go_region_held3 (fun w' => w'.cell? ⟨q, 0, none⟩ = some (.int .i64 (i : Int)) ∧ w'.cell? ⟨q, 1, none⟩ = some (.int .i64 (t : Int)) ∧ w'.cell? ⟨q, 2, none⟩ = some (.int .i64 x2) ∧ w'.cell? ⟨pb, i, none⟩ = some (.int .i64 zi) ∧ w'.cell? ⟨pb, t, none⟩ = some (.int .i64 zt)) (first | assumption | exact K0 _ | exact K1 _ | exact K2 _ | exact K3 _ | exact K4 _ | go_keep) (fail)
        have HO3 : Hid _ := M5.own_below HO2.out (below_drewN (Below.refl _ _) 1)
        have HB3 : Hid _ := below_drewN HB2.out 1
        have HP3 : Hid _ := HP2.out.drew
        clear HO2 HB2 HP2 f0 f1 f2 f3 f4 f5 f6 f7 K0 K1 K2 K3 K4
        go_wp2
        go_roundw
        case rel => exact ⟨k + 1, by go_num, by omega, HO3.out, HP3.out, HB3.out⟩
        case measure => simp [intOf]; omega
      · obtain rfl : k = xs.length := by omega
        rw [RD.rdN_all, ← HLE.out] at hown
        have hll : L.length = xs.length := by rw [HLE.out]; simp
        rw [← hll] at hown
        obtain ⟨a3, c3, hv, _⟩ := RD.own_view3 hown
        subst hv
        have HO3 : Hid _ := RD.own_base hown HWS.out
        have HLL : Hid _ := hll
        clear hown hP HLE HG HPB HI hll
        generalize hl2 : L.length = ll at *
        have HL2 : Hid _ := hl2
        clear hl2
        go_wp2
        go_ret2
        exact ⟨a3, c3, by rw [HL2.out]; rfl, by rw [HL2.out]; exact HO3.out, hb⟩
namespace RD
theorem new3r (W : World) (cs : List Value) (e : TypeId) (n : Nat) (hn : W.heap.size = n) : ∀ (j : Nat) (u : Value), cs[j]? = some u → (W.alloc (.cells cs.toArray e)).cell? ((⟨n, 0, none⟩ : Addr).add j) = some u := by
  intro j u hu
  subst hn
  rw [Addr.add_lit, Nat.zero_add, cell_of_row _ _ j _ e (0, 0) (heap_alloc_last W _)]
  simpa using hu
end RD
set_option linter.unusedSimpArgs false in
set_option maxHeartbeats 3200000 in
set_option maxRecDepth 100000 in
theorem specRed_any (a : Option Addr) (cap : Nat) (xs : List I3) (w : World) (hn : xs.length ≤ 1048576) (hin : MI3.RowAt w a xs) (L : List I3) (hL : Hid (RD.rrL xs = L)) (R : Bool) (hR : Hid (RD.fine xs = R)) :
    Calls Try.prog 19 #[.slice a xs.length cap] w fun e w' => ∃ a1 c1, e = .returned (.tuple #[.slice a1 L.length c1, .bool R]) ∧ w'.ownsRow w.heap.size 37 3 (.slice a1 L.length c1) L.length (MI3.flat L) ∧ Below w.heap.size w w' := by
  obtain ⟨i0, hi', hz0, hz1, hz2⟩ := info_parts Try.infoRoad
  have CA : Hid _ := fineS_any a cap xs w hn hin R hR
  cases R with
  | false =>
    obtain rfl : L = [] := by rw [← hL.out, RD.rrL_no hR.out]
    clear hR hL hin
    go_enter Try.func19, Try.ntmps19
    go_wp2_with fail
    refine Calls.mono CA.out ?_
    rintro e w2 ⟨rfl, hb2⟩
    clear CA
    go_wp2
    go_ret2
    exact ⟨none, 0, rfl, World.ownsRow_nil _ _ _ _, hb2⟩
  | true =>
    have HLE : Hid (L = xs.map (RD.rd1 (RD.pot xs))) := by show _ = _; rw [← hL.out, RD.rrL_yes hR.out]
    have HO := RD.fine_is hR.out
    have PO : Hid _ := fun (W : World) (hr : MI3.RowAt W a xs) => potsS_any a cap xs W (RD.okP_len HO.1) (RD.okP_Gd HO.1) hr (RD.pot xs) false (RD.pots HO.1 HO.2).2
    have HG : Hid (∀ k, k < xs.length → RD.Good (MI3.at_ xs k)) := fun k hk => RD.okP_good HO.1 hk
    have HPB : Hid (∀ v, -700 ≤ RD.pot xs v ∧ RD.pot xs v ≤ 0) := fun v => RD.pot_bd HO.1 v
    generalize RD.pot xs = p at *
    have HI : Hid _ := hin
    clear hR hL hin HO
    go_enter Try.func19, Try.ntmps19
    go_wp2_with fail
    refine Calls.mono CA.out ?_
    rintro e w2 ⟨rfl, hb2⟩
    clear CA
    go_wp2_with fail
    refine (PO.out _ (HI.out.below hb2)).mono ?_
    rintro e w3 ⟨a4, c4, rfl, ho3, hb3⟩
    have HB3 : Hid (Below w.heap.size w w3) := hb2.trans (hb3.mono hb2.size)
    obtain ⟨g4, rfl⟩ : ∃ g4, a4 = some ⟨g4, 0, none⟩ := by
      rcases ho3.2 with ⟨_, h⟩ | ⟨g, cg, cur, h, _⟩
      · omega
      · simp only [Value.slice.injEq] at h; exact ⟨g, h.1⟩
    have HG4 : Hid (g4 < w3.heap.size) := (ho3.lt g4 rfl).2
    have HP3 : Hid (∀ j, j < 8 → w3.cell? ⟨g4, j, none⟩ = some (.int .i64 (p j))) := fun j hj => by rw [ho3.cellAt j (by omega), RD.iv_li, RD.il_get p hj]
    have HI3 : Hid _ := HI.out.below HB3.out
    clear hb2 hb3 PO ho3 HI
    go_wp2_with fail
    go_loopw [6, 19] (fun v iv wr => ∃ (k : Nat) (s : List I3), iv = .int .i64 k ∧ k ≤ xs.length ∧ Hid (s = (xs.take k).map (RD.rd1 p)) ∧ wr.ownsRow w3.heap.size 37 3 v s.length (MI3.flat s) ∧ Below w3.heap.size w3 wr) (fun _ iv _ => (xs.length - intOf iv).toNat)
    case atStart => exact ⟨0, [], rfl, by omega, rfl, World.ownsRow_nil _ _ _ _, Below.refl _ _⟩
    case round =>
      obtain ⟨k, s, rfl, hk, hs, hown, hb⟩ := hrel
      have hbs := hb.size
      by_cases hl : k < xs.length
      · obtain ⟨b1, off, rfl, hlt, c0, c1, c2⟩ := (HI3.out.below hb).at hl
        have G := HG.out k hl
        have hsl : s.length ≤ k := by rw [hs.out]; simp; omega
        have HS2 : Hid (s ++ [RD.rd1 p (MI3.at_ xs k)] = (xs.take (k + 1)).map (RD.rd1 p)) := by show _ = _; rw [RD.take_map_succ p xs k hl, hs.out]
        have HX : Hid (RD.rd1 p (MI3.at_ xs k) = ⟨(MI3.at_ xs k).a0, (MI3.at_ xs k).a1, (MI3.at_ xs k).a2 + p (MI3.at_ xs k).a0.toNat - p (MI3.at_ xs k).a1.toNat⟩) := rfl
        clear hs
        generalize RD.rd1 p (MI3.at_ xs k) = y at *
        generalize MI3.at_ xs k = x at *
        obtain ⟨x0, x1, x2⟩ := x
        obtain ⟨i, hi⟩ := Int.eq_ofNat_of_zero_le G.f0
        obtain ⟨t, ht⟩ := Int.eq_ofNat_of_zero_le G.t0
        have hi7 := G.f1
        have ht7 := G.t1
        have l2 := G.c0
        have u2 := G.c1
        simp only at hi ht hi7 ht7 l2 u2
        subst hi ht
        simp only [show ((i : Int)).toNat = i from by omega, show ((t : Int)).toNat = t from by omega] at HX
        have hi8 : i < 8 := by omega
        have ht8 : t < 8 := by omega
        have ii8 : (i : Int) < 8 := by omega
        have tt8 : (t : Int) < 8 := by omega
        obtain ⟨li, ui⟩ := HPB.out i
        obtain ⟨lt, ut⟩ := HPB.out t
        have hg4 : g4 < wr.heap.size := Nat.lt_of_lt_of_le HG4.out hb.size
        have pi := (hb.cell (p := ⟨g4, i, none⟩) HG4.out).trans (HP3.out i hi8)
        have pt := (hb.cell (p := ⟨g4, t, none⟩) HG4.out).trans (HP3.out t ht8)
        generalize p i = zi at *
        generalize p t = zt at *
        have F0 : Hid ((wr.alloc (.cells #[.int .i64 (i : Int), .int .i64 (t : Int), .int .i64 x2] 37)).cell? ⟨wr.heap.size, 0, none⟩ = some (.int .i64 (i : Int))) := by show _ = _; simp
        have F1 : Hid ((wr.alloc (.cells #[.int .i64 (i : Int), .int .i64 (t : Int), .int .i64 x2] 37)).cell? ⟨wr.heap.size, 1, none⟩ = some (.int .i64 (t : Int))) := by show _ = _; simp
        have F2 : Hid ((wr.alloc (.cells #[.int .i64 (i : Int), .int .i64 (t : Int), .int .i64 x2] 37)).cell? ⟨wr.heap.size, 2, none⟩ = some (.int .i64 x2)) := by show _ = _; simp
        have F3 : Hid ((wr.alloc (.cells #[.int .i64 (i : Int), .int .i64 (t : Int), .int .i64 x2] 37)).cell? ⟨g4, i, none⟩ = some (.int .i64 zi)) := by show _ = _; rw [World.cell?_alloc_lt _ _ _ hg4]; exact pi
        have F4 : Hid ((wr.alloc (.cells #[.int .i64 (i : Int), .int .i64 (t : Int), .int .i64 x2] 37)).cell? ⟨g4, t, none⟩ = some (.int .i64 zt)) := by show _ = _; rw [World.cell?_alloc_lt _ _ _ hg4]; exact pt
        have F6 : Hid ((wr.alloc (.cells #[.int .i64 (i : Int), .int .i64 (t : Int), .int .i64 x2] 37)).frozen? ⟨wr.heap.size, 2, none⟩ = false) := by show _ = _; simp
        have F7 : Hid (wr.heap.size < (wr.alloc (.cells #[.int .i64 (i : Int), .int .i64 (t : Int), .int .i64 x2] 37)).heap.size) := by show _ < _; simp
        have HOA : Hid ((wr.alloc (.cells #[.int .i64 (i : Int), .int .i64 (t : Int), .int .i64 x2] 37)).ownsRow w3.heap.size 37 3 _ s.length (MI3.flat s)) := hown.alloc _
        have HBA : Hid (Below w3.heap.size w3 (wr.alloc (.cells #[.int .i64 (i : Int), .int .i64 (t : Int), .int .i64 x2] 37))) := hb.alloc hb.size _
        have HNE : Hid (∀ j, u6.ownBlock = some j → j < wr.heap.size ∧ w3.heap.size ≤ j) := fun j hj => ⟨(hown.lt j hj).2, (hown.lt j hj).1⟩
        clear hown hb pi pt G
        go_wp2_with fail
        clear c0 c1 c2 hlt
        have hg4q : g4 ≠ wr.heap.size := by omega
        generalize (wr.alloc (.cells #[.int .i64 (i : Int), .int .i64 (t : Int), .int .i64 x2] 37)) = W1 at *
        generalize wr.heap.size = q at *
        have f0 := F0.out
        have f1 := F1.out
        have f3 := F3.out
        have f4' := F4.out
        have f2d : W1.drew.cell? ⟨q, 2, none⟩ = some (.int .i64 x2) := F2.out
        have fz2 : W1.drew.frozen? ⟨q, 2, none⟩ = false := F6.out
        have hql : q < W1.heap.size := F7.out
        have hw1 : IntKind.i64.wrap (zi - zt) = zi - zt := by rw [IntKind.wrap_i64]; omega
        have hw2 : IntKind.i64.wrap (x2 + (zi - zt)) = x2 + (zi - zt) := by rw [IntKind.wrap_i64]; omega
        have hSS : (W1.drew.setCell ⟨q, 2, none⟩ (.int .i64 (x2 + (zi - zt)))).cell? ⟨q, 0, none⟩ = some (.int .i64 (i : Int)) ∧ (W1.drew.setCell ⟨q, 2, none⟩ (.int .i64 (x2 + (zi - zt)))).cell? ⟨q, 1, none⟩ = some (.int .i64 (t : Int)) ∧ (W1.drew.setCell ⟨q, 2, none⟩ (.int .i64 (x2 + (zi - zt)))).cell? ⟨g4, i, none⟩ = some (.int .i64 zi) ∧ (W1.drew.setCell ⟨q, 2, none⟩ (.int .i64 (x2 + (zi - zt)))).cell? ⟨g4, t, none⟩ = some (.int .i64 zt) := by
          refine ⟨?_, ?_, ?_, ?_⟩
          · exact (World.cell?_setCells_out q [.int .i64 (x2 + (zi - zt))] 2 W1.drew ⟨q, 0, none⟩ (fun _ _ => .inl (by simp))).trans f0
          · exact (World.cell?_setCells_out q [.int .i64 (x2 + (zi - zt))] 2 W1.drew ⟨q, 1, none⟩ (fun _ _ => .inl (by simp))).trans f1
          · exact (World.cell?_setCell_far W1.drew ⟨q, 2, none⟩ ⟨g4, i, none⟩ _ (fun h => hg4q h.symm)).trans f3
          · exact (World.cell?_setCell_far W1.drew ⟨q, 2, none⟩ ⟨g4, t, none⟩ _ (fun h => hg4q h.symm)).trans f4'
        clear F0 F1 F2 F3 F4 F6 F7
        refine MR.frame fun A hA => ?_
        have hsz : A.tmps.size = 44 := by rw [hA]; rfl
        have e4 : A.eval (.tmp 4) = .slice (some ⟨g4, 0, none⟩) 8 c4 := by rw [hA]; rfl
        have f4 := MR.read (t := 4) (by rw [hsz]; decide) e4
        have e8 : A.eval (.tmp 8) = .pointer (some ⟨q, 0, none⟩) := by rw [hA]; rfl
        have f8 := MR.read (t := 8) (by rw [hsz]; decide) e8
        have HA : Hid (A = _) := hA
        clear hA
        have hS : (fun w' => w'.cell? ⟨q, 0, none⟩ = some (.int .i64 (i : Int)) ∧ w'.cell? ⟨q, 1, none⟩ = some (.int .i64 (t : Int)) ∧ w'.cell? ⟨g4, i, none⟩ = some (.int .i64 zi) ∧ w'.cell? ⟨g4, t, none⟩ = some (.int .i64 zt)) (World.drew _) := ⟨f0, f1, f3, f4'⟩
        refine wp_region_held (S := fun w' => w'.cell? ⟨q, 0, none⟩ = some (.int .i64 (i : Int)) ∧ w'.cell? ⟨q, 1, none⟩ = some (.int .i64 (t : Int)) ∧ w'.cell? ⟨g4, i, none⟩ = some (.int .i64 zi) ∧ w'.cell? ⟨g4, t, none⟩ = some (.int .i64 zt)) (by kernel_rfl) ?_
        change wpAnyH _ _ _ _ _ _ _ _ (World.drew _)
        refine MR.takeH (i := 0) (some 23) (.pointer (some ⟨q, 2, none⟩)) rfl rfl (by kernel_rfl) (by kernel_rfl) (by kernel_rfl) (fun _ _ _ h => h) hS (MR.free rfl) (fun wq hw => by simp [execOp, MR.ev, MR.size, hsz, e4, f4, e8, f8, go_sem]) ?_
        refine MR.takeH (i := 2) (some 25) (.slice (some ⟨g4, 0, none⟩) 8 c4) rfl rfl (by kernel_rfl) (by kernel_rfl) (by kernel_rfl) (fun _ _ _ h => h) hS (MR.free rfl) (fun wq hw => by simp [execOp, MR.ev, MR.size, hsz, e4, f4, e8, f8, go_sem]) ?_
        refine MR.takeH (i := 3) (some 26) (.pointer (some ⟨q, 0, none⟩)) rfl rfl (by kernel_rfl) (by kernel_rfl) (by kernel_rfl) (fun _ _ _ h => h) hS (MR.free rfl) (fun wq hw => by simp [execOp, MR.ev, MR.size, hsz, e4, f4, e8, f8, go_sem]) ?_
        refine MR.takeH (i := 4) (some 27) (.int .i64 (i : Int)) rfl rfl (by kernel_rfl) (by kernel_rfl) (by kernel_rfl) (fun _ _ _ h => h) hS (MR.free rfl) (fun wq hw => by simp [execOp, MR.ev, MR.size, hsz, e4, f4, e8, f8, hw.1, go_sem]) ?_
        refine MR.takeH (i := 5) (some 28) (.pointer (some ⟨g4, i, none⟩)) rfl rfl (by kernel_rfl) (by kernel_rfl) (by kernel_rfl) (fun _ _ _ h => h) hS (MR.free rfl) (fun wq hw => by simp [execOp, MR.ev, MR.size, hsz, e4, f4, e8, f8, Try.underlying32, ii8, go_sem]) ?_
        refine MR.takeH (i := 6) (some 29) (.int .i64 zi) rfl rfl (by kernel_rfl) (by kernel_rfl) (by kernel_rfl) (fun _ _ _ h => h) hS (MR.free rfl) (fun wq hw => by simp [execOp, MR.ev, MR.size, hsz, e4, f4, e8, f8, hw.2.2.1, go_sem]) ?_
        refine MR.takeH (i := 7) (some 30) (.slice (some ⟨g4, 0, none⟩) 8 c4) rfl rfl (by kernel_rfl) (by kernel_rfl) (by kernel_rfl) (fun _ _ _ h => h) hS (MR.free rfl) (fun wq hw => by simp [execOp, MR.ev, MR.size, hsz, e4, f4, e8, f8, go_sem]) ?_
        refine MR.takeH (i := 8) (some 31) (.pointer (some ⟨q, 1, none⟩)) rfl rfl (by kernel_rfl) (by kernel_rfl) (by kernel_rfl) (fun _ _ _ h => h) hS (MR.free rfl) (fun wq hw => by simp [execOp, MR.ev, MR.size, hsz, e4, f4, e8, f8, go_sem]) ?_
        refine MR.takeH (i := 9) (some 32) (.int .i64 (t : Int)) rfl rfl (by kernel_rfl) (by kernel_rfl) (by kernel_rfl) (fun _ _ _ h => h) hS (MR.free rfl) (fun wq hw => by simp [execOp, MR.ev, MR.size, hsz, e4, f4, e8, f8, hw.2.1, go_sem]) ?_
        refine MR.takeH (i := 10) (some 33) (.pointer (some ⟨g4, t, none⟩)) rfl rfl (by kernel_rfl) (by kernel_rfl) (by kernel_rfl) (fun _ _ _ h => h) hS (MR.free rfl) (fun wq hw => by simp [execOp, MR.ev, MR.size, hsz, e4, f4, e8, f8, Try.underlying32, tt8, go_sem]) ?_
        refine MR.takeH (i := 11) (some 34) (.int .i64 zt) rfl rfl (by kernel_rfl) (by kernel_rfl) (by kernel_rfl) (fun _ _ _ h => h) hS (MR.free rfl) (fun wq hw => by simp [execOp, MR.ev, MR.size, hsz, e4, f4, e8, f8, hw.2.2.2, go_sem]) ?_
        refine MR.takeH (i := 12) (some 35) (.int .i64 (zi - zt)) rfl rfl (by kernel_rfl) (by kernel_rfl) (by kernel_rfl) (fun _ _ _ h => h) hS (MR.free rfl) (fun wq hw => by simp [execOp, MR.ev, MR.size, hsz, e4, f4, e8, f8, hw1, go_sem]) ?_
        refine MR.nowH (i := 1) (some 24) (.int .i64 x2) (by kernel_rfl) rfl rfl (MR.free rfl) (by simp [execOp, MR.ev, MR.size, hsz, e4, f4, e8, f8, f2d, go_sem]) ⟨hS, ?_⟩
        refine MR.takeH (i := 13) (some 36) (.int .i64 (x2 + (zi - zt))) rfl rfl (by kernel_rfl) (by kernel_rfl) (by kernel_rfl) (fun _ _ _ h => h) hS (MR.free rfl) (fun wq hw => by simp [execOp, MR.ev, MR.size, hsz, e4, f4, e8, f8, hw2, go_sem]) ?_
        refine MR.takeH (i := 14) (some 37) (.pointer (some ⟨q, 2, none⟩)) rfl rfl (by kernel_rfl) (by kernel_rfl) (by kernel_rfl) (fun _ _ _ h => h) hS (MR.free rfl) (fun wq hw => by simp [execOp, MR.ev, MR.size, hsz, e4, f4, e8, f8, go_sem]) ?_
        refine MR.storeH (w' := W1.drew.setCell ⟨q, 2, none⟩ (.int .i64 (x2 + (zi - zt)))) (i := 15) (by kernel_rfl) rfl (MR.free rfl) (by simp [execOp, MR.ev, MR.size, hsz, e4, f4, e8, f8, f2d, fz2, hql, go_sem]) ⟨hSS, ?_⟩
        refine wpAnyH_done (by kernel_rfl) ?_ _
        rw [HA.out]
        simp only [Act.put, List.setIfInBounds_toArray, List.set_cons_succ, List.set_cons_zero]
        have n0 := hSS.1
        have n1 := hSS.2.1
        have n2 : (W1.drew.setCell ⟨q, 2, none⟩ (.int .i64 (x2 + (zi - zt)))).cell? ⟨q, 2, none⟩ = some (.int .i64 (x2 + (zi - zt))) := World.cell?_setCell_same' _ _ _ (by rw [f2d]; rfl)
        have HO2 : Hid ((W1.drew.setCell ⟨q, 2, none⟩ (.int .i64 (x2 + (zi - zt)))).ownsRow w3.heap.size 37 3 u6 s.length (MI3.flat s)) := by
          have h1 := M5.own_below HOA.out (below_drewN (Below.refl _ _) 1)
          exact NR.own_only h1 ((MC.Only.refl q _).setCell 2 _) (fun e => by have := HNE.out q e; omega)
        have HB2 : Hid (Below w3.heap.size w3 (W1.drew.setCell ⟨q, 2, none⟩ (.int .i64 (x2 + (zi - zt))))) := MA.below_cells (b := q) hbs [.int .i64 (x2 + (zi - zt))] 2 W1.drew (below_drewN HBA.out 1)
        have hq2 : q < (W1.drew.setCell ⟨q, 2, none⟩ (.int .i64 (x2 + (zi - zt)))).heap.size := by
          have := MA.setCells_size q [.int .i64 (x2 + (zi - zt))] 2 W1.drew
          have h2 : W1.drew.heap.size = W1.heap.size := rfl
          exact (by rw [h2] at this; exact this ▸ hql)
        clear hsz e4 f4 e8 f8 HA hS hSS f0 f1 f3 f4' f2d fz2 hql HOA HBA hw1 hw2
        generalize W1.drew.setCell ⟨q, 2, none⟩ (.int .i64 (x2 + (zi - zt))) = W2 at *
        go_wp2_with (at_builtin; go_loud (refine wpList_append_own _ rfl _ _ 23 rfl w3.heap.size 37 i0 (.agg #[.int .i64 0, .int .i64 0, .int .i64 0]) 3 24 Try.underlying23 hi' hz0 hz1 hz2 rfl (by decide) _ _ _ rfl (World.ownsRow.alloc HO2.out _) ⟨W2.heap.size, 0, none⟩ 1 1 [.int .i64 (i : Int), .int .i64 (t : Int), .int .i64 (x2 + (zi - zt))] rfl rfl ?c1 ?c2 ?c3 ?c4 ?c5 ?_))
        all_goals try (first | exact RD.new3r _ _ _ _ rfl | (intro u hu; simp only [List.mem_cons, List.not_mem_nil, or_false] at hu; rcases hu with rfl | rfl | rfl <;> rfl) | omega | (unfold maxLen; omega) | (have := HB2.out.size; simp; omega))
        intro v' w6 hown6 hgrow6 _
        have HO6 : Hid (w6.ownsRow w3.heap.size 37 3 v' (s ++ [y]).length (MI3.flat (s ++ [y]))) := by
          have e : MI3.flat (s ++ [y]) = MI3.flat s ++ [.int .i64 (i : Int), .int .i64 (t : Int), .int .i64 (x2 + (zi - zt))] := by
            rw [MI3.flat_app, HX.out, show x2 + zi - zt = x2 + (zi - zt) from by omega]; rfl
          show World.ownsRow _ _ _ _ _ _ _
          rw [e, List.length_append]; exact hown6
        have HB6 : Hid (Below w3.heap.size w3 w6) := (HB2.out.alloc HB2.out.size _).grown hgrow6 (by have := HB2.out.size; simp; omega) (fun j hj => (HNE.out j hj).2)
        clear hown6 hgrow6 HO2 HB2 HX n0 n1 n2 hq2 HNE
        generalize s ++ [y] = s2 at *
        go_wp2
        go_roundw
        case rel => exact ⟨k + 1, s2, by go_num, by omega, HS2, HO6.out, HB6.out⟩
        case measure => simp [intOf]; omega
      · obtain rfl : k = xs.length := by omega
        obtain rfl : L = s := by rw [HLE.out, hs.out, List.take_length]
        obtain ⟨a3, c3, hv, _⟩ := RD.own_view3 hown
        subst hv
        have HO3 : Hid _ := RD.own_base hown HB3.out.size
        have HB6 : Hid _ := HB3.out.trans (hb.mono HB3.out.size)
        clear hown HLE HG HPB HI3 hs hb HB3 hi' hz0 hz1 hz2
        generalize hl2 : L.length = ll at *
        have HL2 : Hid _ := hl2
        clear hl2
        go_wp2
        go_ret2
        exact ⟨a3, c3, by rw [HL2.out]; rfl, by rw [HL2.out]; exact HO3.out, HB6.out⟩
end Go.Proofs.Ytclhfhjkcocdcaa
