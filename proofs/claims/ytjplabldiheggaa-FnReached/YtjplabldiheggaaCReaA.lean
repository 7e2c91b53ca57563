import Derived.Test.YtjplabldiheggaaRows
import Derived.Test.YtjplabldiheggaaM5
import Derived.Test.YtjplabldiheggaaMCur
import Derived.WalkKit
import Derived.WalkSpells
import Derived.WalkLawsBesides
import Derived.Outline
import Derived.Test.YtjplabldiheggaaCPlan
import Derived.Test.YtjplabldiheggaaMSta
import Derived.Test.YtjplabldiheggaaCSmall6
import Derived.Deep.RegionHeld3
import Derived.Test.YtjplabldiheggaaMRe
import Derived.Test.YtjplabldiheggaaMRou
import Derived.Test.YtjplabldiheggaaC6Journey
import Derived.Test.YtjplabldiheggaaCFloat
import Derived.Test.YtjplabldiheggaaMReL
import Derived.ArgAppend
import Derived.Lib.SliceRun
import Derived.Test.YtjplabldiheggaaCInfoRc
import Derived.Test.YtjplabldiheggaaCFits
import Derived.Test.YtjplabldiheggaaCMemb
/- slices.Reverse of a row of numbers that the caller owns. -/
namespace Go.Proofs.Ytjplabldiheggaa
open Go.RowKit
namespace RV
/-- The first i and the last i are turned. -/
def rv (zs : List Int) (i : Nat) : List Int := (List.range zs.length).map fun p => if p < i ∨ zs.length - i ≤ p then zs.getD (zs.length - 1 - p) 0 else zs.getD p 0
theorem rv_len (zs : List Int) (i : Nat) : (rv zs i).length = zs.length := by simp [rv]
theorem rv_get (zs : List Int) (i : Nat) {p : Nat} (h : p < zs.length) : (rv zs i)[p]? = some (if p < i ∨ zs.length - i ≤ p then zs.getD (zs.length - 1 - p) 0 else zs.getD p 0) := by simp [rv, h]
theorem getD_get (zs : List Int) {p : Nat} (h : p < zs.length) : zs[p]? = some (zs.getD p 0) := by simp [List.getD_eq_getElem?_getD, List.getElem?_eq_getElem h]
theorem rv_zero (zs : List Int) : rv zs 0 = zs := by
  refine List.ext_getElem? fun p => ?_
  by_cases h : p < zs.length
  · rw [rv_get zs 0 h, if_neg (by omega), getD_get zs h]
  · rw [List.getElem?_eq_none (by rw [rv_len]; omega), List.getElem?_eq_none (by omega)]
theorem rv_all (zs : List Int) {i : Nat} (h : zs.length ≤ 2 * i + 1) : rv zs i = zs.reverse := by
  refine List.ext_getElem? fun p => ?_
  by_cases hp : p < zs.length
  · rw [rv_get zs i hp, List.getElem?_reverse hp, getD_get zs (by omega)]
    split
    · rfl
    · have : zs.length - 1 - p = p := by omega
      rw [this]
  · rw [List.getElem?_eq_none (by rw [rv_len]; omega), List.getElem?_eq_none (by simp; omega)]
theorem rv_step (zs : List Int) {i : Nat} (h : 2 * i + 1 < zs.length) : ((rv zs i).set i (zs.getD (zs.length - 1 - i) 0)).set (zs.length - 1 - i) (zs.getD i 0) = rv zs (i + 1) := by
  refine List.ext_getElem? fun p => ?_
  by_cases hp : p < zs.length
  · rw [rv_get zs (i + 1) hp, List.getElem?_set]
    by_cases e1 : zs.length - 1 - i = p
    · rw [if_pos e1, if_pos (by rw [List.length_set, rv_len]; omega), if_pos (.inr (by omega))]
      congr 2; omega
    · rw [if_neg e1, List.getElem?_set]
      by_cases e2 : i = p
      · rw [if_pos e2, if_pos (by rw [rv_len]; omega), if_pos (.inl (by omega))]
        congr 2; omega
      · rw [if_neg e2, rv_get zs i hp]
        congr 1
        by_cases c : p < i ∨ zs.length - i ≤ p
        · rw [if_pos c, if_pos (by omega)]
        · rw [if_neg c, if_neg (by omega)]
  · rw [List.getElem?_eq_none (by rw [List.length_set, List.length_set, rv_len]; omega), List.getElem?_eq_none (by rw [rv_len]; omega)]
end RV
set_option maxHeartbeats 1600000 in
set_option maxRecDepth 100000 in
theorem reverse_any (base g cap : Nat) (zs : List Int) (w : World) (hz : zs.length ≤ 1048576) (hB : base ≤ w.heap.size) (hown : w.ownsRow base 3 1 (.slice (some ⟨g, 0, none⟩) zs.length cap) zs.length (M4.iv zs)) :
    Calls Try.prog 79 #[.slice (some ⟨g, 0, none⟩) zs.length cap] w fun e w' => e = .returned (.tuple #[]) ∧ w'.ownsRow base 3 1 (.slice (some ⟨g, 0, none⟩) zs.length cap) zs.length (M4.iv zs.reverse) ∧ Below base w w' := by
  go_enter Try.func79, Try.ntmps79
  go_wp2
  go_loopw [2, 3] (fun iv jv wr => ∃ i : Nat, iv = .int .i64 i ∧ jv = .int .i64 ((zs.length : Int) - 1 - i) ∧ 2 * i ≤ zs.length + 1 ∧ wr.ownsRow base 3 1 (.slice (some ⟨g, 0, none⟩) zs.length cap) zs.length (M4.iv (RV.rv zs i)) ∧ Below base w wr) (fun iv _ _ => (zs.length - intOf iv).toNat)
  case atStart => exact ⟨0, rfl, by simp, by omega, by rw [RV.rv_zero]; exact hown, Below.refl _ _⟩
  case round =>
    clear hown
    obtain ⟨i, rfl, rfl, hi, hown, hb⟩ := hrel
    by_cases hl : 2 * i + 1 < zs.length
    · obtain ⟨j, hj⟩ : ∃ j, j = zs.length - 1 - i := ⟨_, rfl⟩
      have ej : (zs.length : Int) - 1 - i = (j : Int) := by omega
      rw [ej]
      have hjl : j < zs.length := by omega
      have hij : (i : Int) < (j : Int) := by omega
      have ci : wr.cell? ⟨g, i, none⟩ = some (.int .i64 (zs.getD i 0)) := by rw [hown.cellAt i (by omega)]; exact M4.iv_get _ _ _ (by rw [RV.rv_get zs i (by omega), if_neg (by omega)])
      have cj : wr.cell? ⟨g, j, none⟩ = some (.int .i64 (zs.getD j 0)) := by rw [hown.cellAt j (by omega)]; exact M4.iv_get _ _ _ (by rw [RV.rv_get zs i (by omega), if_neg (by omega)])
      have zi := hown.frozenAt i
      have zj := hown.frozenAt j
      have s1 := hown.stored i (.int .i64 (zs.getD j 0))
      have s2 := s1.1.stored j (.int .i64 (zs.getD i 0))
      have hst := RV.rv_step zs hl
      rw [← hj] at hst
      rw [M4.iv_set, M4.iv_set, hst] at s2
      have R1 : Hid _ := s2.1
      have R2 : Hid (Below base w ((wr.setCell ⟨g, i, none⟩ (.int .i64 (zs.getD j 0))).setCell ⟨g, j, none⟩ (.int .i64 (zs.getD i 0)))) := (hb.grown s1.2 (Nat.le_trans hB hb.size) (fun k hk => by have := hown.lt g rfl; simp at hk; omega)).grown s2.2 (Nat.le_trans (Nat.le_trans hB hb.size) s1.2.size) (fun k hk => by have := hown.lt g rfl; simp at hk; omega)
      have lg := hown.lt g rfl
      have ii0 : (0 : Int) ≤ (i : Int) := by omega
      have ii1 : (i : Int) < (zs.length : Int) := by omega
      have jj0 : (0 : Int) ≤ (j : Int) := by omega
      have jj1 : (j : Int) < (zs.length : Int) := by omega
      have HJ : Hid (j + 1 + i = zs.length) := by show _ = _; omega
      clear s1 s2 hst hown hb hj ej
      generalize zs.getD i 0 = x at *
      generalize zs.getD j 0 = y at *
      go_wp2
      go_region
      go_wp2
      go_roundw
      case rel => exact ⟨i + 1, by go_num, by have := HJ.out; congr 1; omega, by have := HJ.out; omega, M5.own_below R1.out ((Below.refl _ _).drew), R2.out.drew⟩
      case measure => simp [intOf]; omega
    · have hnot : ¬ ((i : Int) < (zs.length : Int) - 1 - i) := by omega
      rw [RV.rv_all zs (by omega)] at hown
      go_wp2
      go_end0
      exact ⟨rfl, hown, hb⟩
end Go.Proofs.Ytjplabldiheggaa

/- isStart, the program's. -/
namespace Go.Proofs.Ytjplabldiheggaa
open Go.RowKit
set_option maxHeartbeats 800000 in
set_option maxRecDepth 100000 in
theorem isStart_any (a : Option Addr) (ca : Nat) (xs : List I5) (f n : Int) (w : World) (hn : xs.length ≤ 1048576) (hin : MI5.RowAt w a xs) :
    Calls Try.prog 35 #[.slice a xs.length ca, .int .i64 f, .int .i64 n] w fun e w' => e = .returned (.bool (PN.startOk xs f n)) ∧ Below w.heap.size w w' := by
  have GP : Hid (∀ W : World, MI5.RowAt W a xs → Calls Try.prog 50 #[.slice a xs.length ca] W fun e w' => e = .returned (.bool (PN.okP xs)) ∧ Below W.heap.size W w') := fun W h => implGoodPlan_any a ca xs W hn h _ rfl
  have HI : Hid (MI5.RowAt w a xs) := hin
  have NI : Hid (∀ W : World, Calls Try.prog 52 #[.int .i64 f] W fun e w' => e = .returned (.bool (decide (0 ≤ f ∧ f ≤ 7))) ∧ W = w') := fun W => nodeI_any f W
  have WI : Hid (∀ W : World, Calls Try.prog 53 #[.int .i64 n] W fun e w' => e = .returned (.bool (decide (0 ≤ n ∧ n ≤ 1000))) ∧ W = w') := fun W => whenI_any n W
  clear hin
  obtain ⟨R, hR⟩ : ∃ R, PN.startOk xs f n = R := ⟨_, rfl⟩
  rw [hR]
  simp only [PN.startOk] at hR
  generalize decide (0 ≤ f ∧ f ≤ 7) = q1 at *
  generalize decide (0 ≤ n ∧ n ≤ 1000) = q2 at *
  generalize PN.okP xs = q0 at *
  have HR : Hid _ := hR
  clear hR
  go_enter Try.func35, Try.ntmps35
  go_wp2_with fail
  refine (GP.out _ HI.out).mono ?_
  rintro e w1 ⟨rfl, hb1⟩
  clear GP HI
  cases q0 with
  | false =>
    obtain rfl : R = false := by rw [← HR.out]; rfl
    go_wp2
    go_ret
    exact ⟨rfl, hb1⟩
  | true =>
    go_wp2_with fail
    refine (NI.out _).mono ?_
    rintro e w' ⟨rfl, rfl⟩
    cases q1 with
    | false =>
      obtain rfl : R = false := by rw [← HR.out]; rfl
      go_wp2
      go_ret
      exact ⟨rfl, hb1⟩
    | true =>
      go_wp2_with fail
      refine (WI.out _).mono ?_
      rintro e w' ⟨rfl, rfl⟩
      obtain rfl : R = q2 := by rw [← HR.out]; rfl
      go_wp2
      go_ret
      exact ⟨rfl, hb1⟩
end Go.Proofs.Ytjplabldiheggaa

/- What is told of a reach: its member, its time, how many contacts. -/
namespace Go.Proofs.Ytjplabldiheggaa
open Go.RowKit
set_option maxHeartbeats 800000 in
set_option maxRecDepth 100000 in
theorem timeRe_any (p : Rq) (w : World) : Calls Try.prog 24 #[p.v] w fun e w' => e = .returned (.int .i64 p.t) ∧ Below w.heap.size w w' := by
  obtain ⟨m, t, os, a, c⟩ := p
  have hB : ∀ o, Below w.heap.size w (w.alloc o) := fun o => (Below.refl _ w).alloc (Nat.le_refl _) o
  go_enter Try.func24, Try.ntmps24
  go_wp2
  go_ret
  exact ⟨rfl, hB _⟩
set_option maxHeartbeats 800000 in
set_option maxRecDepth 100000 in
theorem hopsRe_any (p : Rq) (w : World) : Calls Try.prog 26 #[p.v] w fun e w' => e = .returned (.int .i64 (p.os.length : Int)) ∧ Below w.heap.size w w' := by
  obtain ⟨m, t, os, a, c⟩ := p
  have hB : ∀ o, Below w.heap.size w (w.alloc o) := fun o => (Below.refl _ w).alloc (Nat.le_refl _) o
  go_enter Try.func26, Try.ntmps26
  go_wp2
  go_ret
  exact ⟨rfl, hB _⟩
end Go.Proofs.Ytjplabldiheggaa

/- RouteTo, the program's. -/
namespace Go.Proofs.Ytjplabldiheggaa
open Go.RowKit
set_option linter.unusedSimpArgs false in
set_option maxHeartbeats 3200000 in
set_option maxRecDepth 100000 in
theorem rowTo_any (a : Option Addr) (ca : Nat) (xs : List I5) (fn tn : Nat) (s : PN.St) (L : List Int) (w : World) (hok : PN.okP xs = true) (hf8 : fn < 8) (hBk : PN.Back xs fn s L tn []) (hin : MI5.RowAt w a xs) :
    Calls Try.prog 69 #[.agg (PN.jc (fn : Int) (PN.wb s) (PN.lb s)).toArray, .slice a xs.length ca, .int .i64 (tn : Int)] w fun e w' => ∃ a1 c1, e = .returned (.slice a1 L.length c1) ∧ w'.ownsRow w.heap.size 3 1 (.slice a1 L.length c1) L.length (M4.iv L) ∧ Below w.heap.size w w' := by
  obtain ⟨i0, hi, hz0, hz1, hz2⟩ := info_parts Try.info3
  have HI : Hid (MI5.RowAt w a xs) := hin
  have HOK : Hid _ := hok
  have GC : Hid (∀ k, k < xs.length → PN.Good (MI5.at_ xs k)) := fun k hk => PN.okP_good hok hk
  have HJ : Hid _ := MA.Rg.new w (PN.jc (fn : Int) (PN.wb s) (PN.lb s)) 72
  have HB0 : Hid (Below w.heap.size w (w.alloc (.cells (PN.jc (fn : Int) (PN.wb s) (PN.lb s)).toArray 72))) := (Below.refl _ w).alloc (Nat.le_refl _) _
  have HBK : Hid _ := hBk
  have RV : Hid (∀ (base g cap : Nat) (zs : List Int) (W : World), zs.length ≤ 1048576 → base ≤ W.heap.size → W.ownsRow base 3 1 (.slice (some ⟨g, 0, none⟩) zs.length cap) zs.length (M4.iv zs) → Calls Try.prog 79 #[.slice (some ⟨g, 0, none⟩) zs.length cap] W fun e w' => e = .returned (.tuple #[]) ∧ w'.ownsRow base 3 1 (.slice (some ⟨g, 0, none⟩) zs.length cap) zs.length (M4.iv zs.reverse) ∧ Below base W w') := fun base g cap zs W h1 h2 h3 => reverse_any base g cap zs W h1 h2 h3
  clear hin hok hBk
  go_enter Try.func69, Try.ntmps69
  generalize hW0 : w.alloc (.cells (PN.jc (fn : Int) (PN.wb s) (PN.lb s)).toArray 72) = W0 at HJ HB0
  have HSZ : Hid (W0.heap.size = w.heap.size + 1) := by show _ = _; rw [← hW0]; simp
  have HB1 : Hid (Below W0.heap.size W0 (W0.alloc (.cells #[] 3))) := (Below.refl _ W0).alloc (Nat.le_refl _) _
  go_wp2
  generalize hW1 : W0.alloc (.cells #[] 3) = W1 at *
  go_loopw [7, 8] (fun rv nv wr => ∃ (v : Nat) (acc : List Int) (g cap : Nat), nv = .int .i64 v ∧ rv = .slice (some ⟨g, 0, none⟩) acc.length cap ∧ Hid (PN.Back xs fn s L v acc) ∧ wr.ownsRow W0.heap.size 3 1 (.slice (some ⟨g, 0, none⟩) acc.length cap) acc.length (M4.iv acc.reverse) ∧ Below W0.heap.size W0 wr) (fun rv _ _ => 8 - PN.lenV rv)
  case atStart => exact ⟨tn, [], W0.heap.size, 0, rfl, rfl, HBK, by have h := PN.own_lit0 W0 W0.heap.size (Nat.le_refl _); rw [hW1] at h; exact h, HB1.out⟩
  case round =>
    clear HBK HB1 hW1
    obtain ⟨v, acc, g, cap, rfl, rfl, hB, hown, hb⟩ := hrel
    have hJr := MA.Rg.below HJ.out hb HJ.out.lt
    have cf : wr.cell? ⟨w.heap.size, 0, none⟩ = some (.int .i64 (fn : Int)) := by have := hJr.cell (PN.jc_f _ _ _); rwa [Nat.zero_add] at this
    have hjb := hJr.lt
    by_cases hv : v = fn
    · subst hv
      have hLe := PN.Back.end_ hB.out
      have hlen : acc.length ≤ 8 := by obtain ⟨_, m, _, _, h, _⟩ := hB.out.go; omega
      have HLE : Hid _ := hLe
      have HO : Hid (wr.ownsRow W0.heap.size 3 1 (.slice (some ⟨g, 0, none⟩) acc.length cap) acc.length (M4.iv acc.reverse)) := hown
      clear hB hown HOK GC hLe hi hz0 hz1 hz2 hJr
      have hrl : acc.reverse.length = acc.length := by simp
      have RV1 : Hid (Calls Try.prog 79 #[.slice (some ⟨g, 0, none⟩) acc.length cap] wr fun e w' => e = .returned (.tuple #[]) ∧ w'.ownsRow W0.heap.size 3 1 (.slice (some ⟨g, 0, none⟩) acc.length cap) acc.length (M4.iv acc) ∧ Below W0.heap.size wr w') := by
        have h := RV.out W0.heap.size g cap acc.reverse wr (by rw [hrl]; omega) hb.size (by rw [hrl]; exact HO.out)
        rw [hrl, List.reverse_reverse] at h
        exact h
      clear RV hrl HO
      go_wp2_with fail
      refine Calls.mono RV1.out ?_
      rintro e w3 ⟨rfl, hown3, hb3⟩
      have HO3 : Hid (w3.ownsRow W0.heap.size 3 1 (.slice (some ⟨g, 0, none⟩) acc.length cap) acc.length (M4.iv acc)) := hown3
      have HBB : Hid (Below w.heap.size w w3) := HB0.out.trans ((hb.trans hb3).mono HB0.out.size)
      clear hown3 hb3 RV1 cf
      go_wp2
      go_ret
      exact ⟨some ⟨g, 0, none⟩, cap, by rw [HLE.out]; rfl, by rw [HLE.out]; exact CS6.own_base HO3.out HB0.out.size, HBB.out⟩
    · obtain ⟨k, hk1, hk2, hk3, hk4⟩ := PN.Back.next HOK.out hB.out hv
      have hv8 := hB.out.lt
      have vv8 : (v : Int) < 8 := by omega
      have kk0 : (0 : Int) ≤ (k : Int) := by omega
      have kk1 : (k : Int) < (xs.length : Int) := by omega
      have hvf : ((v : Int) != (fn : Int)) = true := by simp; omega
      have cl : wr.cell? ⟨w.heap.size, 9 + v, none⟩ = some (.int .i64 (k : Int)) := by have := (PN.rg_l hJr hv8).1; simp only [PN.lb, hk1, PN.kI] at this; exact this
      have G := GC.out k hk2
      obtain ⟨i, hii⟩ := Int.eq_ofNat_of_zero_le G.f0
      have hin : (MI5.at_ xs k).a0.toNat = i := by rw [hii]; rfl
      rw [hin] at hk4
      obtain ⟨b4, off4, hab, hlt4, e0, -⟩ := (HI.out.below HB0.out).at hk2
      rw [hii] at e0
      have HB2 : Hid _ := hk4
      have LK : Hid (s.la v = some k) := hk1
      have HOA : Hid (World.ownsRow (wr.alloc (.cells #[.int .i64 (k : Int)] 3)) W0.heap.size 3 1 (.slice (some ⟨g, 0, none⟩) acc.length cap) acc.length (M4.iv acc.reverse)) := World.ownsRow.alloc hown (.cells #[.int .i64 (k : Int)] 3)
      have HO : Hid (World.ownsRow wr W0.heap.size 3 1 (.slice (some ⟨g, 0, none⟩) acc.length cap) acc.length (M4.iv acc.reverse)) := hown
      have hbs := hb.size
      clear hB G hin hk4 hk1 hown hJr
      go_wp2_with (at_builtin; refine wpList_append_own _ rfl _ _ 26 rfl W0.heap.size 3 i0 (.int .i64 0) 1 8 Try.underlying26 hi hz0 hz1 hz2 rfl (by decide) _ _ _ rfl HOA.out ⟨wr.heap.size, 0, none⟩ 1 1 [.int .i64 (k : Int)] rfl rfl ?c1 ?c2 ?c3 ?c4 ?c5 ?_)
      case c1 => exact M2.new1 _ _ _
      case c2 => exact M2.one1 _ _
      case c3 => unfold maxLen; omega
      case c4 => omega
      case c5 => simp; omega
      intro v' w3 hown1 hgrow hnn
      have hb3 : Below W0.heap.size W0 w3 := (hb.alloc hbs _).grown hgrow (by simp; omega) (fun j hj => (World.ownsRow.lt HO.out j hj).1)
      have hJ3 := MA.Rg.below HJ.out hb3 HJ.out.lt
      have cl3 : w3.cell? ⟨w.heap.size, 9 + v, none⟩ = some (.int .i64 (k : Int)) := by have := (PN.rg_l hJ3 hv8).1; simp only [PN.lb, LK.out, PN.kI] at this; exact this
      have hjb3 := hJ3.lt
      have c0 := (hb3.cell (p := ⟨b4, off4 + k * 5, none⟩) hlt4).trans e0
      have hb4 : b4 < w3.heap.size := Nat.lt_of_lt_of_le hlt4 hb3.size
      obtain ⟨g', cap', rfl⟩ : ∃ g' cap', v' = .slice (some ⟨g', 0, none⟩) (acc.length + 1) cap' := by
        rcases hown1.2 with ⟨h1, h2⟩ | ⟨g', cap', cur, h1, _⟩
        · omega
        · exact ⟨g', cap', h1⟩
      have R1 : Hid (w3.ownsRow W0.heap.size 3 1 (.slice (some ⟨g', 0, none⟩) ((k : Int) :: acc).length cap') ((k : Int) :: acc).length (M4.iv ((k : Int) :: acc).reverse)) := by
        show w3.ownsRow _ _ _ _ _ _
        rw [List.reverse_cons, List.length_cons]
        have e : M4.iv (acc.reverse ++ [(k : Int)]) = M4.iv acc.reverse ++ [.int .i64 (k : Int)] := by simp [M4.iv]
        rw [e]; exact hown1
      clear hown1 hgrow hnn HO HOA cl cf e0 hJ3 hb LK
      subst hab
      go_wp2
      go_roundw
      case rel => exact ⟨i, (k : Int) :: acc, g', cap', rfl, rfl, HB2, R1.out, hb3⟩
      case measure => simp [PN.lenV]; omega
set_option linter.unusedSimpArgs false in
set_option maxHeartbeats 3200000 in
set_option maxRecDepth 100000 in
theorem implRoute_any (a : Option Addr) (ca : Nat) (xs : List I5) (f n t : Int) (w : World) (hn : xs.length ≤ 1048576) (hin : MI5.RowAt w a xs) :
    Calls Try.prog 55 #[.slice a xs.length ca, .int .i64 f, .int .i64 n, .int .i64 t] w fun e w' => ∃ a1 c1, e = .returned (.tuple #[.slice a1 (PN.routeL xs f n t).length c1, .int .i64 (PN.tellN (PN.routeM xs f n t)), .bool (PN.tellB (PN.routeM xs f n t))]) ∧ w'.ownsRow w.heap.size 3 1 (.slice a1 (PN.routeL xs f n t).length c1) (PN.routeL xs f n t).length (M4.iv (PN.routeL xs f n t)) ∧ Below w.heap.size w w' := by
  have ST : Hid (∀ W : World, MI5.RowAt W a xs → Calls Try.prog 35 #[.slice a xs.length ca, .int .i64 f, .int .i64 n] W fun e w' => e = .returned (.bool (PN.startOk xs f n)) ∧ Below W.heap.size W w') := fun W h => isStart_any a ca xs f n W hn h
  have NT : Hid (∀ W : World, Calls Try.prog 52 #[.int .i64 t] W fun e w' => e = .returned (.bool (decide (0 ≤ t ∧ t ≤ 7))) ∧ W = w') := fun W => nodeI_any t W
  have HI : Hid (MI5.RowAt w a xs) := hin
  clear hin
  obtain ⟨N, hN⟩ : ∃ N, PN.tellN (PN.routeM xs f n t) = N := ⟨_, rfl⟩
  obtain ⟨T, hT⟩ : ∃ T, PN.tellB (PN.routeM xs f n t) = T := ⟨_, rfl⟩
  obtain ⟨L, hL⟩ : ∃ L, PN.routeL xs f n t = L := ⟨_, rfl⟩
  have NO : Hid (PN.askOk xs f n t = false → N = 0 ∧ T = false ∧ L = []) := fun h => by
    have hT' : PN.tellB (PN.routeM xs f n t) = false := by rw [PN.route_no h]; rfl
    rw [← hN, ← hT, ← hL, PN.routeL_no hT', PN.route_no h]; exact ⟨rfl, rfl, rfl⟩
  have YES : Hid (PN.askOk xs f n t = true → N = PN.tellN ((PN.fin xs (PN.st0 f n)).wh t.toNat) ∧ T = PN.tellB ((PN.fin xs (PN.st0 f n)).wh t.toNat) ∧ (T = false → L = []) ∧ (T = true → L = PN.way xs (PN.fin xs (PN.st0 f n)).la f.toNat 8 t.toNat)) := fun h => by
    rw [← hN, ← hT, ← hL, ← PN.route_yes h]; exact ⟨rfl, rfl, PN.routeL_no, PN.routeL_yes⟩
  rw [hN, hT, hL]
  clear hN hT hL
  obtain ⟨q3, h3⟩ : ∃ q, decide (0 ≤ t ∧ t ≤ 7) = q := ⟨_, rfl⟩
  obtain ⟨q0, h0⟩ : ∃ q, PN.startOk xs f n = q := ⟨_, rfl⟩
  have hS : PN.askOk xs f n t = (q0 && q3) := by rw [← h0, ← h3]; rfl
  rw [h0] at ST
  rw [h3] at NT
  have HS : Hid _ := hS
  clear h0 h3 hS
  go_enter Try.func55, Try.ntmps55
  go_wp2_with fail
  refine (ST.out _ HI.out).mono ?_
  rintro e w1 ⟨rfl, hb1⟩
  have HI1 : Hid (MI5.RowAt w1 a xs) := HI.out.below hb1
  clear ST HI
  cases q0 with
  | false =>
    obtain ⟨rfl, rfl, rfl⟩ := NO.out HS.out
    clear NO YES NT HS HI1
    go_wp2
    go_ret3
    exact ⟨none, 0, rfl, World.ownsRow_nil _ _ _ _, hb1⟩
  | true =>
    go_wp2_with fail
    refine (NT.out _).mono ?_
    rintro e w' ⟨rfl, rfl⟩
    clear NT
    cases q3 with
    | false =>
      obtain ⟨rfl, rfl, rfl⟩ := NO.out HS.out
      clear NO YES HS HI1
      go_wp2
      go_ret3
      exact ⟨none, 0, rfl, World.ownsRow_nil _ _ _ _, hb1⟩
    | true =>
      have hask : PN.askOk xs f n t = true := HS.out
      obtain ⟨hst, ht0, ht1⟩ := PN.ask_is hask
      obtain ⟨hok, hf0, hf1, hn0, hn1⟩ := PN.start_is hst
      have HY : Hid _ := YES.out hask
      have JF : Hid (∀ W : World, MI5.RowAt W a xs → Calls Try.prog 36 #[.slice a xs.length ca, .int .i64 f, .int .i64 n] W fun e w' => e = .returned (.agg (PN.jc f (PN.wb (PN.fin xs (PN.st0 f n))) (PN.lb (PN.fin xs (PN.st0 f n)))).toArray) ∧ Below W.heap.size W w') := fun W hr => journeyFrom_any a ca xs f n W hok hf0 hf1 hn0 hn1 hr
      have HVI : Hid (∃ rk, PN.Via xs f.toNat (PN.fin xs (PN.st0 f n)) rk) := PN.via_fin hok (PN.st0_ok hn0 hn1) (PN.ord_st0 hok) (PN.via_st0 xs hf0 hf1)
      have HOS : Hid (PN.okS (PN.fin xs (PN.st0 f n)).wh) := PN.fin_okS hok (PN.st0_ok hn0 hn1)
      have HOK : Hid _ := hok
      clear NO YES HS hask hst hok
      obtain ⟨tn, rfl⟩ := Int.eq_ofNat_of_zero_le ht0
      obtain ⟨fn, rfl⟩ := Int.eq_ofNat_of_zero_le hf0
      have ht8 : tn < 8 := by omega
      have hf8 : fn < 8 := by omega
      have tt8 : (tn : Int) < 8 := by omega
      generalize PN.fin xs (PN.st0 (fn : Int) n) = s at *
      rw [show ((tn : Int)).toNat = tn from rfl, show ((fn : Int)).toNat = fn from rfl] at HY
      rw [show ((fn : Int)).toNat = fn from rfl] at HVI
      go_wp2_with fail
      refine (JF.out _ HI1.out).mono ?_
      rintro e w2 ⟨rfl, hb2⟩
      have HRN : Hid (MA.Rg (w2.alloc (.cells (PN.jc 0 (fun _ => 0) (fun _ => 0)).toArray 72)) w2.heap.size 0 (PN.jc 0 (fun _ => 0) (fun _ => 0))) := MA.Rg.new _ _ _
      have HRP : Hid (MA.Rg ((w2.alloc (.cells (PN.jc 0 (fun _ => 0) (fun _ => 0)).toArray 72)).setCells w2.heap.size 0 (PN.jc (fn : Int) (PN.wb s) (PN.lb s))) w2.heap.size 0 (PN.jc (fn : Int) (PN.wb s) (PN.lb s))) := HRN.out.put (by rw [PN.jc_len, PN.jc_len])
      have HBP : Hid (Below w2.heap.size w2 ((w2.alloc (.cells (PN.jc 0 (fun _ => 0) (fun _ => 0)).toArray 72)).setCells w2.heap.size 0 (PN.jc (fn : Int) (PN.wb s) (PN.lb s)))) := MA.below_cells (Nat.le_refl _) _ _ _ ((Below.refl _ w2).alloc (Nat.le_refl _) _)
      have HB2 : Hid (Below w.heap.size w w2) := hb1.trans (hb2.mono hb1.size)
      have HI2 : Hid (MI5.RowAt w2 a xs) := HI1.out.below hb2
      clear JF HI1 hb1 hb2
      have TL : Hid (∀ W : World, Calls Try.prog 37 #[.float .f64 (s.wh tn).b] W fun e w' => e = .returned (.tuple #[.int .i64 (PN.tellN (s.wh tn)), .bool (PN.tellB (s.wh tn))]) ∧ W = w') := fun W => tell_any _ W (.inr (HOS.out tn))
      go_wp2_with (first
        | (refine MA.alloc_z rfl 72 rfl _ _ Try.infoJ ?_)
        | (refine MA.store_m rfl 72 _ _ rfl rfl rfl (vs := PN.jc (fn : Int) (PN.wb s) (PN.lb s)) (cs := PN.jc 0 (fun _ => 0) (fun _ => 0)) ?_ Try.sizeJ (PN.jc_len _ _ _) (PN.jc_len _ _ _) (PN.jc_one _ _ _) ?_; exact HRN.out; clear HRN; generalize World.setCells _ _ _ _ = W3 at *; have ct : W3.cell? ⟨w2.heap.size, 1 + tn, none⟩ = some (.float .f64 (s.wh tn).b) := (PN.rg_w HRP.out ht8).1; have hl3 := HRP.out.lt))
      refine (TL.out _).mono ?_
      rintro e w' ⟨rfl, rfl⟩
      have HB3 : Hid (Below w.heap.size w W3) := HB2.out.trans (HBP.out.mono HB2.out.size)
      have HI3 : Hid (MI5.RowAt W3 a xs) := HI2.out.below HBP.out
      clear TL ct HBP HI2 HB2
      generalize w2.heap.size = jb at *
      have okt := HOS.out tn
      cases hm : s.wh tn with
      | ago => rw [hm] at okt; exact absurd okt id
      | inf =>
        rw [hm] at HY
        obtain ⟨rfl, rfl, hLL, -⟩ := HY.out
        obtain rfl := hLL rfl
        clear HY HOK HVI HOS HRP HI3 hm okt
        go_wp2
        go_ret3
        exact ⟨none, 0, rfl, World.ownsRow_nil _ _ _ _, HB3.out⟩
      | fin p =>
        rw [hm] at HY
        obtain ⟨hNp, hTp, -, hLL⟩ := HY.out
        have hTp' : T = true := hTp
        have hLw := hLL hTp'
        obtain ⟨rk, hV⟩ := HVI.out
        have HB : PN.Back xs fn s L tn [] := by rw [hLw]; exact PN.Back.start hV ht8 hm
        have RT : Hid (∀ W : World, MI5.RowAt W a xs → Calls Try.prog 69 #[.agg (PN.jc (fn : Int) (PN.wb s) (PN.lb s)).toArray, .slice a xs.length ca, .int .i64 (tn : Int)] W fun e w' => ∃ a1 c1, e = .returned (.slice a1 L.length c1) ∧ w'.ownsRow W.heap.size 3 1 (.slice a1 L.length c1) L.length (M4.iv L) ∧ Below W.heap.size W w') := fun W hr => rowTo_any a ca xs fn tn s L W HOK.out hf8 HB hr
        have HN : Hid (PN.tellN (.fin p) = N) := hNp.symm
        have HT : Hid (T = true) := hTp'
        clear HY hLL hV HVI HOS hm hLw HB hNp hTp hTp' HOK okt
        rw [show PN.tellB (.fin p) = true from rfl, HN.out]
        go_wp2_with (refine MA.load_m rfl 72 _ rfl rfl (cs := PN.jc (fn : Int) (PN.wb s) (PN.lb s)) ?_ Try.underlying72 rfl Try.sizeJ (PN.jc_len _ _ _) ?_; exact HRP.out; clear HRP)
        refine (RT.out _ HI3.out).mono ?_
        rintro e w4 ⟨a1, c1, rfl, hown4, hb4⟩
        have HO4 : Hid _ := hown4
        have HB4 : Hid (Below w.heap.size w w4) := HB3.out.trans (hb4.mono HB3.out.size)
        clear RT hown4 hb4
        go_wp2
        go_ret3
        exact ⟨a1, c1, by rw [HT.out]; rfl, CS6.own_base HO4.out HB3.out.size, HB4.out⟩
end Go.Proofs.Ytjplabldiheggaa

/- Reaches filtered in their own place: plain facts. -/
namespace Go.Proofs.Ytjplabldiheggaa
open Go.RowKit
namespace RQ
theorem wpList_append_room {P : Program} {w w' : World} {ops : Array Oper} {rest : List Oper} {o : Oper} {a : Act} {Q : Exit → Act → World → Prop} (hgd : o.guard = none) (s x : Operand) (t : TypeId) (v u v' : Value)
    (ho : o.op = .call { callee := .builtin .append, args := #[s, x], argTypes := #[t, t] }) (hrun : ∀ ty, (Builtin.append_ #[t, t] ty #[v, u]).run P w = .ok v' w') (hs : a.eval s = v) (hx : a.eval x = u)
    (h : wpList P ops Q rest (a.put o.dst v') w') : wpList P ops Q (o :: rest) a w := by
  refine wpList_plain hgd fun K hK => ?_
  unfold Oper.wp
  simp [execOp, ho, resolve, invoke, builtin, hs, hx, hrun, Result.andThen]
  exact hK _ _ h
theorem set3_take : ∀ (cur : List Value) (j : Nat) (x y z : Value), j + 3 ≤ cur.length → (((cur.set j x).set (j + 1) y).set (j + 2) z).take (j + 3) = cur.take j ++ [x, y, z]
  | [], j, _, _, _, h => by simp at h
  | [_], 0, _, _, _, h => by simp at h
  | [_, _], 0, _, _, _, h => by simp at h
  | _ :: _ :: _ :: _, 0, _, _, _, _ => by simp
  | u :: l, j + 1, x, y, z, h => by
    have ih := set3_take l j x y z (by simpa using h)
    rw [List.set_cons_succ, List.set_cons_succ, List.set_cons_succ, show j + 1 + 3 = (j + 3) + 1 by omega, List.take_succ_cons, ih]; rfl
/-- 'clear' of a slice of structs of three cells. -/
theorem run_clear3 {P : Program} (w : World) (t e ty : TypeId) (x y z : Value) (ht : P.underlying t = some (.slice e)) (hv : ∀ w, (zeroValue e).run P w = .ok (.agg #[x, y, z]) w) (h1 : x.oneCell' = true ∧ y.oneCell' = true ∧ z.oneCell' = true) (hc3 : (Value.agg #[x, y, z]).cells = #[x, y, z]) (b o n c : Nat) (hn : 0 < n)
    (hc : ∀ j, j < n * 3 → (w.cell? ⟨b, o + j, none⟩).isSome = true) (hf : ∀ j, j < n * 3 → w.frozen? ⟨b, o + j, none⟩ = false) :
    (Builtin.clear_ #[t] ty #[.slice (some ⟨b, o, none⟩) n c]).run P w = .ok (.tuple #[]) (w.setCells b o (Builtin.zeroCells #[x, y, z] n).toList) := by
  have hl : (Builtin.zeroCells #[x, y, z] n).toList.length = n * 3 := by simp [Builtin.zeroCells]
  have hst := run_storeCells_cells (P := P) b o (Builtin.zeroCells #[x, y, z] n).toList 0 w (fun j hj => by rw [hl] at hj; simpa using hc j hj) (fun j hj => by rw [hl] at hj; simpa using hf j hj) (fun v hv' => by
    simp only [Builtin.zeroCells, Array.toList_map, List.mem_map] at hv'
    obtain ⟨i, _, rfl⟩ := hv'
    have h3 : i % 3 = 0 ∨ i % 3 = 1 ∨ i % 3 = 2 := by omega
    rcases h3 with h | h | h <;> simp [h, h1.1, h1.2.1, h1.2.2])
  simp only [Nat.add_zero] at hst
  obtain ⟨m, rfl⟩ : ∃ m, n = m + 1 := ⟨n - 1, by omega⟩
  simp [Builtin.clear_, run_underlying ht, hv, hc3, hst]
/-- The state while they are gone through: the block, those that are kept, those still to come. -/
structure Flt (T : TypeId) (w : World) (B g cap : Nat) (ps : List Rq) (f : Rq → Bool) (k : Nat) (ks : List Rq) : Prop where
  is : ks = (ps.take k).filter f
  own : ∃ cur, w.ownsRow B T 3 (.slice (some ⟨g, 0, none⟩) ps.length cap) ps.length cur ∧ cur.take (ks.length * 3) = flat ks ∧ cur.drop (k * 3) = (flat ps).drop (k * 3)
theorem Flt.start {T : TypeId} {w : World} {B g cap : Nat} {ps : List Rq} (f : Rq → Bool) (h : w.ownsRow B T 3 (.slice (some ⟨g, 0, none⟩) ps.length cap) ps.length (flat ps)) : Flt T w B g cap ps f 0 [] := ⟨by simp, _, h, by simp [flat], rfl⟩
theorem Flt.len {T : TypeId} {w : World} {B g cap : Nat} {ps : List Rq} {f : Rq → Bool} {k : Nat} {ks : List Rq} (h : Flt T w B g cap ps f k ks) : ks.length ≤ k := by
  rw [h.is]
  exact Nat.le_trans (List.length_filter_le _ _) (by rw [List.length_take]; omega)
theorem Flt.below {T : TypeId} {w w' : World} {B g cap : Nat} {ps : List Rq} {f : Rq → Bool} {k : Nat} {ks : List Rq} (h : Flt T w B g cap ps f k ks) (hb : Below w.heap.size w w') : Flt T w' B g cap ps f k ks := by
  obtain ⟨cur, h1, h2, h3⟩ := h.own
  exact ⟨h.is, cur, M5.own_below h1 hb, h2, h3⟩
/-- The next one's cells. -/
theorem Flt.next {T : TypeId} {w : World} {B g cap : Nat} {ps : List Rq} {f : Rq → Bool} {k : Nat} {ks : List Rq} (h : Flt T w B g cap ps f k ks) (hk : k < ps.length) : w.cell? ⟨g, k * 3, none⟩ = some (.int .i64 (at_ ps k).m) ∧ w.cell? ⟨g, k * 3 + 1, none⟩ = some (.int .i64 (at_ ps k).t) ∧ w.cell? ⟨g, k * 3 + 2, none⟩ = some (.slice (at_ ps k).a (at_ ps k).os.length (at_ ps k).c) ∧ g < w.heap.size := by
  obtain ⟨cur, h1, h2, h3⟩ := h.own
  obtain ⟨f0, f1, f2⟩ := flat_get ps k hk
  have e : ∀ j, cur[k * 3 + j]? = (flat ps)[k * 3 + j]? := fun j => by
    have := congrArg (fun l => l[j]?) h3
    simpa [List.getElem?_drop] using this
  exact ⟨(h1.cellAt (k * 3) (by omega)).trans ((e 0).trans f0), (h1.cellAt (k * 3 + 1) (by omega)).trans ((e 1).trans f1), (h1.cellAt (k * 3 + 2) (by omega)).trans ((e 2).trans f2), (h1.lt g rfl).2⟩
theorem Flt.out {T : TypeId} {w : World} {B g cap : Nat} {ps : List Rq} {f : Rq → Bool} {k : Nat} {ks : List Rq} (h : Flt T w B g cap ps f k ks) (hk : k < ps.length) (hf : f (at_ ps k) = false) : Flt T w B g cap ps f (k + 1) ks := by
  obtain ⟨cur, h1, h2, h3⟩ := h.own
  refine ⟨?_, cur, h1, h2, ?_⟩
  · rw [List.take_succ_eq_append_getElem hk, List.filter_append, ← at_eq hk, List.filter_cons, hf, h.is]; simp
  · have := congrArg (List.drop 3) h3
    rw [List.drop_drop, List.drop_drop] at this
    rw [show (k + 1) * 3 = k * 3 + 3 by omega]; exact this
theorem Flt.keep {T : TypeId} {w : World} {B g cap : Nat} {ps : List Rq} {f : Rq → Bool} {k : Nat} {ks : List Rq} (h : Flt T w B g cap ps f k ks) (hk : k < ps.length) (hf : f (at_ ps k) = true) : Flt T (w.setCells g (ks.length * 3) (at_ ps k).cs) B g cap ps f (k + 1) (ks ++ [at_ ps k]) := by
  have hl := h.len
  obtain ⟨cur, h1, h2, h3⟩ := h.own
  have hcl : cur.length = ps.length * 3 := h1.1
  have hfl := flat_len ks
  refine ⟨?_, (((cur.set (ks.length * 3) (.int .i64 (at_ ps k).m)).set (ks.length * 3 + 1) (.int .i64 (at_ ps k).t)).set (ks.length * 3 + 2) (.slice (at_ ps k).a (at_ ps k).os.length (at_ ps k).c)), ?_, ?_, ?_⟩
  · rw [List.take_succ_eq_append_getElem hk, List.filter_append, ← at_eq hk, List.filter_cons, if_pos hf, h.is]; simp
  · exact ((h1.stored (ks.length * 3) (.int .i64 (at_ ps k).m)).1.stored (ks.length * 3 + 1) (.int .i64 (at_ ps k).t)).1.stored (ks.length * 3 + 2) (.slice (at_ ps k).a (at_ ps k).os.length (at_ ps k).c) |>.1
  · rw [flat_app, List.length_append, List.length_singleton, show (ks.length + 1) * 3 = ks.length * 3 + 3 by omega, ← h2]
    rw [set3_take cur (ks.length * 3) _ _ _ (by omega)]
    simp only [flat, List.append_nil]
  · rw [show (k + 1) * 3 = k * 3 + 3 by omega]
    have h4 : cur.drop (k * 3 + 3) = (flat ps).drop (k * 3 + 3) := by
      have := congrArg (List.drop 3) h3
      rwa [List.drop_drop, List.drop_drop] at this
    rw [List.drop_set_of_lt (by omega), List.drop_set_of_lt (by omega), List.drop_set_of_lt (by omega), h4]
theorem Flt.room {T : TypeId} {w : World} {B g cap : Nat} {ps : List Rq} {f : Rq → Bool} {k : Nat} {ks : List Rq} (h : Flt T w B g cap ps f k ks) {o : Nat} (ho : o < ps.length * 3) : (w.cell? ⟨g, o, none⟩).isSome = true ∧ w.frozen? ⟨g, o, none⟩ = false := by
  obtain ⟨cur, h1, _, _⟩ := h.own
  refine ⟨?_, h1.frozenAt o⟩
  rw [h1.cellAt o ho, List.getElem?_eq_getElem (by rw [h1.1]; exact ho)]; rfl
theorem Flt.caps {T : TypeId} {w : World} {B g cap : Nat} {ps : List Rq} {f : Rq → Bool} {k : Nat} {ks : List Rq} (h : Flt T w B g cap ps f k ks) : ps.length ≤ cap ∧ cap ≤ maxLen ∧ B ≤ g ∧ g < w.heap.size := by
  obtain ⟨cur, h1, _, _⟩ := h.own
  refine ⟨?_, ?_, (h1.lt g rfl).1, (h1.lt g rfl).2⟩ <;>
  · rcases h1.2 with ⟨h, _⟩ | ⟨g', c', cur, hv, _, _, h1, h2, _⟩
    · cases h
    · cases hv; assumption
/-- What was kept, behind the clearing. -/
theorem Flt.done {T : TypeId} (hT : T ≠ 3) {w : World} {B g cap : Nat} {ps : List Rq} {f : Rq → Bool} {ks : List Rq} (h : Flt T w B g cap ps f ps.length ks) (hr : Rows w B ps) (vs : List Value) : ks = ps.filter f ∧ Own T (w.setCells g (ks.length * 3) vs) B (.slice (some ⟨g, 0, none⟩) ks.length cap) ks ∧ MC.Only g w (w.setCells g (ks.length * 3) vs) := by
  have hi := h.is
  rw [List.take_length] at hi
  have hl := h.len
  obtain ⟨cur, h1, h2, h3⟩ := h.own
  obtain ⟨cur', h4, h5, h6⟩ := own_cells vs (ks.length * 3) w cur h1
  refine ⟨hi, ⟨own_first h4 rfl hl (h5.trans h2), ?_⟩, h6⟩
  have := (hr.filter f).only hT h1 h6
  rw [← hi] at this
  exact this
theorem Flt.none_ {T : TypeId} {w : World} {B g cap : Nat} {ps : List Rq} {f : Rq → Bool} {ks : List Rq} (h : Flt T w B g cap ps f ps.length ks) (hr : Rows w B ps) : ks = ps.filter f ∧ Own T w B (.slice (some ⟨g, 0, none⟩) ks.length cap) ks := by
  have hi := h.is
  rw [List.take_length] at hi
  have hl := h.len
  obtain ⟨cur, h1, h2, h3⟩ := h.own
  refine ⟨hi, own_first h1 rfl hl h2, ?_⟩
  have := hr.filter f
  rw [← hi] at this
  exact this
end RQ
end Go.Proofs.Ytjplabldiheggaa

/- Those of whom no more than so much is told, kept in their own place: withNoMore of the program, by time and by how many contacts. -/
namespace Go.Proofs.Ytjplabldiheggaa
open Go.RowKit
theorem Try.zeroRc (w : World) : (zeroValue 37).run Try.prog w = .ok (.agg #[.int .i64 0, .int .i64 0, .slice none 0 0]) w := by kernel_rfl
set_option linter.unusedSimpArgs false in
set_option maxHeartbeats 3200000 in
set_option maxRecDepth 100000 in
theorem noMoreT_any (B g cap : Nat) (ps : List Rq) (n : Int) (w : World) (h8 : ps.length ≤ 8) (ho : RQ.Own 37 w B (.slice (some ⟨g, 0, none⟩) ps.length cap) ps) (qs : List Rq) (hqs : Hid (ps.filter (fun p => RQ.inTime n p.said) = qs)) :
    Calls Try.prog 22 #[.slice (some ⟨g, 0, none⟩) ps.length cap, .func (.func 24) #[] #[], .int .i64 n] w fun e w' => e = .returned (.slice (some ⟨g, 0, none⟩) qs.length cap) ∧ RQ.Own 37 w' B (.slice (some ⟨g, 0, none⟩) qs.length cap) qs ∧ MC.Only g w w' := by
  obtain ⟨i2, hi', hz0', hz1', hz2'⟩ := info_parts Try.infoRc
  have ROWS : Hid (RQ.Rows w B ps) := ho.rows
  have OUT : Hid _ := ho.out
  have FL0 : Hid (RQ.Flt 37 w B g cap ps (fun p => RQ.inTime n p.said) 0 []) := RQ.Flt.start _ ho.out
  obtain ⟨hc1, hc2, hBg, hgl⟩ := FL0.out.caps
  have hc63 : cap ≤ 9223372036854775807 := by unfold maxLen at hc2; omega
  clear ho
  go_enter Try.func22, Try.ntmps22
  go_wp2
  go_loopw [7, 9, 14] (fun u _ iv wr => ∃ (k : Nat) (ks : List Rq), iv = .int .i64 k ∧ k ≤ ps.length ∧ u = .slice (some ⟨g, 0, none⟩) ks.length cap ∧ Hid (RQ.Flt 37 wr B g cap ps (fun p => RQ.inTime n p.said) k ks) ∧ MC.Only g w wr) (fun _ _ iv _ => (ps.length - intOf iv).toNat)
  case atStart => exact ⟨0, [], rfl, by omega, rfl, FL0, MC.Only.refl _ _⟩
  case round =>
    obtain ⟨k, ks, rfl, hk, rfl, hF, hO⟩ := hrel
    by_cases hlk : k < ps.length
    · obtain ⟨e0, e1, e2, hg⟩ := hF.out.next hlk
      have hkl := hF.out.len
      have KEEP : Hid _ := fun (W : World) (hb : Below wr.heap.size wr W) h => (hF.out.below hb).keep (k := k) hlk h
      have OUTK : Hid _ := fun (W : World) (hb : Below wr.heap.size wr W) h => (hF.out.below hb).out (k := k) hlk h
      have ROOM : Hid _ := fun (W : World) (hb : Below wr.heap.size wr W) (o : Nat) (h : o < ps.length * 3) => (hF.out.below hb).room h
      have TL : Hid _ := fun W => timeRe_any (RQ.at_ ps k) W
      clear FL0 hF ROWS OUT
      generalize RQ.at_ ps k = p at *
      obtain ⟨m, t, os, a, c⟩ := p
      go_wp2_with fail
      refine Calls.mono (TL.out _) ?_
      rintro e w2 ⟨rfl, hb2⟩
      have q0 : (wr.alloc (.cells #[.int .i64 m, .int .i64 t, .slice a os.length c] 37)).cell? ⟨wr.heap.size, 0, none⟩ = some (.int .i64 m) := by rw [World.cell?_alloc_new]; rfl
      have q1 : (wr.alloc (.cells #[.int .i64 m, .int .i64 t, .slice a os.length c] 37)).cell? ⟨wr.heap.size, 1, none⟩ = some (.int .i64 t) := by rw [World.cell?_alloc_new]; rfl
      have q2 : (wr.alloc (.cells #[.int .i64 m, .int .i64 t, .slice a os.length c] 37)).cell? ⟨wr.heap.size, 2, none⟩ = some (.slice a os.length c) := by rw [World.cell?_alloc_new]; rfl
      replace q0 := (hb2.cell (p := ⟨wr.heap.size, 0, none⟩) (by simp)).trans q0
      replace q1 := (hb2.cell (p := ⟨wr.heap.size, 1, none⟩) (by simp)).trans q1
      replace q2 := (hb2.cell (p := ⟨wr.heap.size, 2, none⟩) (by simp)).trans q2
      have hlt2 : wr.heap.size < w2.heap.size := by have := hb2.size; simp at this; omega
      have hbx : Below wr.heap.size wr w2 := ((Below.refl _ wr).alloc (Nat.le_refl _) _).trans (hb2.mono (by simp))
      have HBX : Hid _ := hbx
      clear hb2 TL e0 e1 e2 hbx
      cases hq : decide (t ≤ n) with
      | false =>
        have HF2 : Hid _ := OUTK.out w2 HBX.out hq
        have HO2 : MC.Only g w w2 := hO.trans (MC.Only.of_below HBX.out)
        clear KEEP OUTK ROOM q0 q1 q2 HBX
        go_wp2
        go_roundw
        case rel => exact ⟨k + 1, ks, by go_num, by omega, rfl, HF2, HO2⟩
        case measure => simp [intOf]; omega
      | true =>
        have hbl : Below wr.heap.size wr (w2.alloc (.cells #[.int .i64 m, .int .i64 t, .slice a os.length c] 37)) := HBX.out.alloc HBX.out.size _
        have HF2 : Hid _ := KEEP.out _ hbl hq
        have hrun : ∀ ty, (Builtin.append_ #[29, 29] ty #[.slice (some ⟨g, 0, none⟩) ks.length cap, .slice (some ⟨w2.heap.size, 0, none⟩) 1 1]).run Try.prog (w2.alloc (.cells #[.int .i64 m, .int .i64 t, .slice a os.length c] 37)) = .ok (.slice (some ⟨g, 0, none⟩) (ks.length + 1) cap) ((w2.alloc (.cells #[.int .i64 m, .int .i64 t, .slice a os.length c] 37)).setCells g (ks.length * 3) [.int .i64 m, .int .i64 t, .slice a os.length c]) := fun ty => by
          have h := run_append_room_cells (P := Try.prog) (w2.alloc (.cells #[.int .i64 m, .int .i64 t, .slice a os.length c] 37)) 29 ty 37 i2 Try.underlying29 hi' g 0 ks.length cap ⟨w2.heap.size, 0, none⟩ 1 1 [.int .i64 m, .int .i64 t, .slice a os.length c] (by rw [hz1']; rfl) (RQ.new3 _ _ _ _ _ _ rfl) (RQ.one3 ⟨m, t, os, a, c⟩) (by omega) (fun j hj => by rw [hz1', Nat.zero_add]; exact (ROOM.out _ hbl _ (by simp at hj; omega)).1) (fun j hj => by rw [hz1', Nat.zero_add]; exact (ROOM.out _ hbl _ (by simp at hj; omega)).2)
          rw [hz1', Nat.zero_add] at h
          exact h
        have HO2 : MC.Only g w ((w2.alloc (.cells #[.int .i64 m, .int .i64 t, .slice a os.length c] 37)).setCells g (ks.length * 3) [.int .i64 m, .int .i64 t, .slice a os.length c]) := (hO.trans (MC.Only.of_below hbl)).trans (RA.only_cells g _ _ _)
        have HRUN : Hid _ := hrun
        have HO2' : Hid _ := HO2
        clear KEEP OUTK ROOM HBX hrun HO2 hbl
        go_wp2_with (at_builtin; refine RQ.wpList_append_room rfl _ _ 29 _ _ _ rfl HRUN.out rfl rfl ?_)
        generalize World.setCells _ _ _ _ = w3 at *
        have HLN : Hid ((ks ++ [(⟨m, t, os, a, c⟩ : Rq)]).length = ks.length + 1) := (show _ = _ from by simp)
        clear HRUN q0 q1 q2
        go_wp2
        go_roundw
        case rel => exact ⟨k + 1, ks ++ [⟨m, t, os, a, c⟩], by go_num, by omega, by rw [HLN.out], HF2, HO2'.out⟩
        case measure => simp [intOf]; omega
    · obtain rfl : k = ps.length := by omega
      have hkl := hF.out.len
      have hR : RQ.Rows wr B ps := RQ.Rows.only (by decide) ROWS.out OUT.out hO
      have HCL0 : Hid (∀ (a : Option Addr) (c : Nat) ty (W : World), (Builtin.clear_ #[29] ty #[.slice a 0 c]).run Try.prog W = .ok (.tuple #[]) W) := fun a c ty W => by cases a <;> simp [Builtin.clear_, run_underlying Try.underlying29]
      have hF' := hF.out
      clear FL0 ROWS OUT
      have hks : ks = qs := by rw [← hqs.out]; exact (hF'.none_ hR).1
      subst hks
      by_cases hlt : ks.length < ps.length
      · obtain ⟨hd1, hd2, hd3⟩ := hF'.done (by decide) hR (Builtin.zeroCells #[.int .i64 0, .int .i64 0, .slice none 0 0] (ps.length - ks.length)).toList
        have hcl : ∀ ty, (Builtin.clear_ #[29] ty #[.slice (some ⟨g, ks.length * 3, none⟩) (ps.length - ks.length) (cap - ks.length)]).run Try.prog wr = .ok (.tuple #[]) (wr.setCells g (ks.length * 3) (Builtin.zeroCells #[.int .i64 0, .int .i64 0, .slice none 0 0] (ps.length - ks.length)).toList) := fun ty =>
          RQ.run_clear3 wr 29 37 ty _ _ _ Try.underlying29 Try.zeroRc ⟨rfl, rfl, rfl⟩ rfl g (ks.length * 3) _ _ (by omega) (fun j hj => (hF'.room (by omega)).1) (fun j hj => (hF'.room (by omega)).2)
        have HD2 : Hid _ := hd2
        have HD3 : Hid _ := hO.trans hd3
        have hkc : ¬ (cap = ks.length) := by omega
        have hkc' : ¬ (ks.length = cap) := by omega
        clear hF hF' hR hd1 hd2 hd3 HCL0 hO hqs
        generalize wr.setCells _ _ _ = w3 at *
        go_wp2
        go_ret
        exact ⟨rfl, HD2.out, HD3.out⟩
      · have hd2 := (hF'.none_ hR).2
        have hke : ks.length = ps.length := by omega
        have HD2 : Hid _ := hd2
        have hcl := fun a c ty W => HCL0.out a c ty W
        clear hF hF' hR hd2 hlt hkl HCL0 hqs
        have hsub : ps.length - ks.length = 0 := by omega
        have hle : ks.length ≤ ps.length := by omega
        have hle2 : ks.length ≤ cap := by omega
        clear hke
        by_cases hcc : cap = ks.length
        · subst hcc
          go_wp2
          go_ret
          exact ⟨rfl, HD2.out, hO⟩
        · have hcc' : ¬ (ks.length = cap) := fun e => hcc e.symm
          go_wp2
          go_ret
          exact ⟨rfl, HD2.out, hO⟩
set_option linter.unusedSimpArgs false in
set_option maxHeartbeats 3200000 in
set_option maxRecDepth 100000 in
theorem noMoreH_any (B g cap : Nat) (ps : List Rq) (n : Int) (w : World) (h8 : ps.length ≤ 8) (ho : RQ.Own 37 w B (.slice (some ⟨g, 0, none⟩) ps.length cap) ps) (qs : List Rq) (hqs : Hid (ps.filter (fun p => RQ.near n p.said) = qs)) :
    Calls Try.prog 22 #[.slice (some ⟨g, 0, none⟩) ps.length cap, .func (.func 26) #[] #[], .int .i64 n] w fun e w' => e = .returned (.slice (some ⟨g, 0, none⟩) qs.length cap) ∧ RQ.Own 37 w' B (.slice (some ⟨g, 0, none⟩) qs.length cap) qs ∧ MC.Only g w w' := by
  obtain ⟨i2, hi', hz0', hz1', hz2'⟩ := info_parts Try.infoRc
  have ROWS : Hid (RQ.Rows w B ps) := ho.rows
  have OUT : Hid _ := ho.out
  have FL0 : Hid (RQ.Flt 37 w B g cap ps (fun p => RQ.near n p.said) 0 []) := RQ.Flt.start _ ho.out
  obtain ⟨hc1, hc2, hBg, hgl⟩ := FL0.out.caps
  have hc63 : cap ≤ 9223372036854775807 := by unfold maxLen at hc2; omega
  clear ho
  go_enter Try.func22, Try.ntmps22
  go_wp2
  go_loopw [7, 9, 14] (fun u _ iv wr => ∃ (k : Nat) (ks : List Rq), iv = .int .i64 k ∧ k ≤ ps.length ∧ u = .slice (some ⟨g, 0, none⟩) ks.length cap ∧ Hid (RQ.Flt 37 wr B g cap ps (fun p => RQ.near n p.said) k ks) ∧ MC.Only g w wr) (fun _ _ iv _ => (ps.length - intOf iv).toNat)
  case atStart => exact ⟨0, [], rfl, by omega, rfl, FL0, MC.Only.refl _ _⟩
  case round =>
    obtain ⟨k, ks, rfl, hk, rfl, hF, hO⟩ := hrel
    by_cases hlk : k < ps.length
    · obtain ⟨e0, e1, e2, hg⟩ := hF.out.next hlk
      have hkl := hF.out.len
      have KEEP : Hid _ := fun (W : World) (hb : Below wr.heap.size wr W) h => (hF.out.below hb).keep (k := k) hlk h
      have OUTK : Hid _ := fun (W : World) (hb : Below wr.heap.size wr W) h => (hF.out.below hb).out (k := k) hlk h
      have ROOM : Hid _ := fun (W : World) (hb : Below wr.heap.size wr W) (o : Nat) (h : o < ps.length * 3) => (hF.out.below hb).room h
      have TL : Hid _ := fun W => hopsRe_any (RQ.at_ ps k) W
      clear FL0 hF ROWS OUT
      generalize RQ.at_ ps k = p at *
      obtain ⟨m, t, os, a, c⟩ := p
      go_wp2_with fail
      refine Calls.mono (TL.out _) ?_
      rintro e w2 ⟨rfl, hb2⟩
      have q0 : (wr.alloc (.cells #[.int .i64 m, .int .i64 t, .slice a os.length c] 37)).cell? ⟨wr.heap.size, 0, none⟩ = some (.int .i64 m) := by rw [World.cell?_alloc_new]; rfl
      have q1 : (wr.alloc (.cells #[.int .i64 m, .int .i64 t, .slice a os.length c] 37)).cell? ⟨wr.heap.size, 1, none⟩ = some (.int .i64 t) := by rw [World.cell?_alloc_new]; rfl
      have q2 : (wr.alloc (.cells #[.int .i64 m, .int .i64 t, .slice a os.length c] 37)).cell? ⟨wr.heap.size, 2, none⟩ = some (.slice a os.length c) := by rw [World.cell?_alloc_new]; rfl
      replace q0 := (hb2.cell (p := ⟨wr.heap.size, 0, none⟩) (by simp)).trans q0
      replace q1 := (hb2.cell (p := ⟨wr.heap.size, 1, none⟩) (by simp)).trans q1
      replace q2 := (hb2.cell (p := ⟨wr.heap.size, 2, none⟩) (by simp)).trans q2
      have hlt2 : wr.heap.size < w2.heap.size := by have := hb2.size; simp at this; omega
      have hbx : Below wr.heap.size wr w2 := ((Below.refl _ wr).alloc (Nat.le_refl _) _).trans (hb2.mono (by simp))
      have HBX : Hid _ := hbx
      clear hb2 TL e0 e1 e2 hbx
      cases hq : decide ((os.length : Int) ≤ n) with
      | false =>
        have HF2 : Hid _ := OUTK.out w2 HBX.out hq
        have HO2 : MC.Only g w w2 := hO.trans (MC.Only.of_below HBX.out)
        clear KEEP OUTK ROOM q0 q1 q2 HBX
        go_wp2
        go_roundw
        case rel => exact ⟨k + 1, ks, by go_num, by omega, rfl, HF2, HO2⟩
        case measure => simp [intOf]; omega
      | true =>
        have hbl : Below wr.heap.size wr (w2.alloc (.cells #[.int .i64 m, .int .i64 t, .slice a os.length c] 37)) := HBX.out.alloc HBX.out.size _
        have HF2 : Hid _ := KEEP.out _ hbl hq
        have hrun : ∀ ty, (Builtin.append_ #[29, 29] ty #[.slice (some ⟨g, 0, none⟩) ks.length cap, .slice (some ⟨w2.heap.size, 0, none⟩) 1 1]).run Try.prog (w2.alloc (.cells #[.int .i64 m, .int .i64 t, .slice a os.length c] 37)) = .ok (.slice (some ⟨g, 0, none⟩) (ks.length + 1) cap) ((w2.alloc (.cells #[.int .i64 m, .int .i64 t, .slice a os.length c] 37)).setCells g (ks.length * 3) [.int .i64 m, .int .i64 t, .slice a os.length c]) := fun ty => by
          have h := run_append_room_cells (P := Try.prog) (w2.alloc (.cells #[.int .i64 m, .int .i64 t, .slice a os.length c] 37)) 29 ty 37 i2 Try.underlying29 hi' g 0 ks.length cap ⟨w2.heap.size, 0, none⟩ 1 1 [.int .i64 m, .int .i64 t, .slice a os.length c] (by rw [hz1']; rfl) (RQ.new3 _ _ _ _ _ _ rfl) (RQ.one3 ⟨m, t, os, a, c⟩) (by omega) (fun j hj => by rw [hz1', Nat.zero_add]; exact (ROOM.out _ hbl _ (by simp at hj; omega)).1) (fun j hj => by rw [hz1', Nat.zero_add]; exact (ROOM.out _ hbl _ (by simp at hj; omega)).2)
          rw [hz1', Nat.zero_add] at h
          exact h
        have HO2 : MC.Only g w ((w2.alloc (.cells #[.int .i64 m, .int .i64 t, .slice a os.length c] 37)).setCells g (ks.length * 3) [.int .i64 m, .int .i64 t, .slice a os.length c]) := (hO.trans (MC.Only.of_below hbl)).trans (RA.only_cells g _ _ _)
        have HRUN : Hid _ := hrun
        have HO2' : Hid _ := HO2
        clear KEEP OUTK ROOM HBX hrun HO2 hbl
        go_wp2_with (at_builtin; refine RQ.wpList_append_room rfl _ _ 29 _ _ _ rfl HRUN.out rfl rfl ?_)
        generalize World.setCells _ _ _ _ = w3 at *
        have HLN : Hid ((ks ++ [(⟨m, t, os, a, c⟩ : Rq)]).length = ks.length + 1) := (show _ = _ from by simp)
        clear HRUN q0 q1 q2
        go_wp2
        go_roundw
        case rel => exact ⟨k + 1, ks ++ [⟨m, t, os, a, c⟩], by go_num, by omega, by rw [HLN.out], HF2, HO2'.out⟩
        case measure => simp [intOf]; omega
    · obtain rfl : k = ps.length := by omega
      have hkl := hF.out.len
      have hR : RQ.Rows wr B ps := RQ.Rows.only (by decide) ROWS.out OUT.out hO
      have HCL0 : Hid (∀ (a : Option Addr) (c : Nat) ty (W : World), (Builtin.clear_ #[29] ty #[.slice a 0 c]).run Try.prog W = .ok (.tuple #[]) W) := fun a c ty W => by cases a <;> simp [Builtin.clear_, run_underlying Try.underlying29]
      have hF' := hF.out
      clear FL0 ROWS OUT
      have hks : ks = qs := by rw [← hqs.out]; exact (hF'.none_ hR).1
      subst hks
      by_cases hlt : ks.length < ps.length
      · obtain ⟨hd1, hd2, hd3⟩ := hF'.done (by decide) hR (Builtin.zeroCells #[.int .i64 0, .int .i64 0, .slice none 0 0] (ps.length - ks.length)).toList
        have hcl : ∀ ty, (Builtin.clear_ #[29] ty #[.slice (some ⟨g, ks.length * 3, none⟩) (ps.length - ks.length) (cap - ks.length)]).run Try.prog wr = .ok (.tuple #[]) (wr.setCells g (ks.length * 3) (Builtin.zeroCells #[.int .i64 0, .int .i64 0, .slice none 0 0] (ps.length - ks.length)).toList) := fun ty =>
          RQ.run_clear3 wr 29 37 ty _ _ _ Try.underlying29 Try.zeroRc ⟨rfl, rfl, rfl⟩ rfl g (ks.length * 3) _ _ (by omega) (fun j hj => (hF'.room (by omega)).1) (fun j hj => (hF'.room (by omega)).2)
        have HD2 : Hid _ := hd2
        have HD3 : Hid _ := hO.trans hd3
        have hkc : ¬ (cap = ks.length) := by omega
        have hkc' : ¬ (ks.length = cap) := by omega
        clear hF hF' hR hd1 hd2 hd3 HCL0 hO hqs
        generalize wr.setCells _ _ _ = w3 at *
        go_wp2
        go_ret
        exact ⟨rfl, HD2.out, HD3.out⟩
      · have hd2 := (hF'.none_ hR).2
        have hke : ks.length = ps.length := by omega
        have HD2 : Hid _ := hd2
        have hcl := fun a c ty W => HCL0.out a c ty W
        clear hF hF' hR hd2 hlt hkl HCL0 hqs
        have hsub : ps.length - ks.length = 0 := by omega
        have hle : ks.length ≤ ps.length := by omega
        have hle2 : ks.length ≤ cap := by omega
        clear hke
        by_cases hcc : cap = ks.length
        · subst hcc
          go_wp2
          go_ret
          exact ⟨rfl, HD2.out, hO⟩
        · have hcc' : ¬ (ks.length = cap) := fun e => hcc e.symm
          go_wp2
          go_ret
          exact ⟨rfl, HD2.out, hO⟩
end Go.Proofs.Ytjplabldiheggaa

/- All for whom there is a route, the program's: allReached. -/
namespace Go.Proofs.Ytjplabldiheggaa
open Go.RowKit
set_option linter.unusedSimpArgs false in
set_option maxHeartbeats 3200000 in
set_option maxRecDepth 100000 in
theorem allReached_any (a d : Option Addr) (cap cd : Nat) (xs : List I5) (b : Bd) (ms : List Int) (w : World) (hm : ms.length ≤ 8) (hn : xs.length ≤ 1048576) (hin : MI5.RowAt w a xs) (hin2 : M4.IntsAt w d ms) :
    Calls Try.prog 23 #[.slice a xs.length cap, b.v, .slice d ms.length cd] w fun e w' => ∃ g c1 ps, e = .returned (.slice (some ⟨g, 0, none⟩) (List.length ps) c1) ∧ RQ.Own 37 w' w.heap.size (.slice (some ⟨g, 0, none⟩) ps.length c1) ps ∧ ps.map Rq.said = RQ.allL xs b ms ∧ Below w.heap.size w w' := by
  obtain ⟨i2, hi', hz0', hz1', hz2'⟩ := info_parts Try.infoRc
  have P2 : Hid (∀ (t : Int) (W : World), Below w.heap.size w W → Calls Try.prog 55 #[.slice a xs.length cap, .int .i64 b.fr, .int .i64 b.md, .int .i64 t] W fun e w' => ∃ a1 c1, e = .returned (.tuple #[.slice a1 (PN.routeL xs b.fr b.md t).length c1, .int .i64 (PN.tellN (PN.routeM xs b.fr b.md t)), .bool (PN.tellB (PN.routeM xs b.fr b.md t))]) ∧ w'.ownsRow W.heap.size 3 1 (.slice a1 (PN.routeL xs b.fr b.md t).length c1) (PN.routeL xs b.fr b.md t).length (M4.iv (PN.routeL xs b.fr b.md t)) ∧ Below W.heap.size W w') := fun t W h => implRoute_any a cap xs b.fr b.md t W hn (hin.below h)
  have HMS : Hid (M4.IntsAt w d ms) := hin2
  have YES : Hid (∀ k, k < ms.length → PN.tellB (PN.routeM xs b.fr b.md (ms.getD k 0)) = true → RQ.allL xs b (ms.take (k + 1)) = RQ.allL xs b (ms.take k) ++ [(ms.getD k 0, PN.tellN (PN.routeM xs b.fr b.md (ms.getD k 0)), PN.routeL xs b.fr b.md (ms.getD k 0))]) := fun k hk h1 => RQ.allL_yes hk h1
  have NO : Hid (∀ k, k < ms.length → PN.tellB (PN.routeM xs b.fr b.md (ms.getD k 0)) = false → RQ.allL xs b (ms.take (k + 1)) = RQ.allL xs b (ms.take k)) := fun k hk h => RQ.allL_no hk h
  have ML : Hid (∀ k, (RQ.allL xs b (ms.take k)).length ≤ 8) := fun k => by have := RQ.allL_len xs b (ms.take k); rw [List.length_take] at this; omega
  have RL : Hid (∀ t, (PN.routeL xs b.fr b.md t).length ≤ 1048576) := fun t => PN.routeL_len _ _ _ _
  have Z0 : Hid (RQ.allL xs b (ms.take 0) = []) := (show _ = _ from by rw [List.take_zero]; rfl)
  have ZN : Hid (RQ.allL xs b (ms.take ms.length) = RQ.allL xs b ms) := (show _ = _ from by rw [List.take_length])
  have BA := BdAt.box w b 25
  have BB := (Below.refl _ w).alloc (Nat.le_refl _) (.cells #[.int .i64 b.fr, .int .i64 b.to, .bool b.gr, .int .i64 b.md, .int .i64 b.no, .int .i64 b.lf, .int .i64 b.hp, .int .i64 b.of, .int .i64 b.tl, .string b.py] 25)
  clear hin hin2
  generalize RQ.allL xs b ms = R at *
  generalize hR : (fun k => RQ.allL xs b (ms.take k)) = RK at *
  have e1 : ∀ k, RQ.allL xs b (ms.take k) = RK k := fun k => by rw [← hR]
  clear hR
  simp only [e1] at YES NO ML Z0 ZN
  clear e1
  generalize hR : (fun t => PN.routeM xs b.fr b.md t) = RM at *
  have e1 : ∀ t, PN.routeM xs b.fr b.md t = RM t := fun t => by rw [← hR]
  clear hR
  simp only [e1] at P2 YES NO
  clear e1
  generalize hR : (fun t => PN.routeL xs b.fr b.md t) = RT at *
  have e1 : ∀ t, PN.routeL xs b.fr b.md t = RT t := fun t => by rw [← hR]
  clear hR
  simp only [e1] at P2 YES NO RL
  clear e1
  obtain ⟨fr, to, gr, md, no, lf, hp, of, tl, py⟩ := b
  go_enter Try.func23, Try.ntmps23
  generalize hW1 : w.alloc _ = W1 at *
  have BLIT : Hid (Below W1.heap.size W1 (W1.alloc (.cells #[] 37))) := (Below.refl _ W1).alloc (Nat.le_refl _) _
  have OLIT : Hid (RQ.Own 37 (W1.alloc (.cells #[] 37)) W1.heap.size (.slice (some ⟨W1.heap.size, 0, none⟩) ([] : List Rq).length 0) []) := ⟨World.ownsRow_lit (base := W1.heap.size) (e := 37) (size := 3) W1 #[] 0 (Nat.le_refl _) (by unfold maxLen; omega) (by simp), RQ.Rows.nil _ _⟩
  go_wp2
  generalize W1.alloc (.cells #[] 37) = W2 at *
  go_loopw [7, 9, 10, 11, 12, 16] (fun u _ _ _ _ iv wr => ∃ (k : Nat) (ps : List Rq), iv = .int .i64 k ∧ k ≤ ms.length ∧ Hid (ps.map Rq.said = RK k) ∧ Hid (RQ.Own 37 wr W1.heap.size u ps) ∧ (∃ g c, u = .slice (some ⟨g, 0, none⟩) ps.length c) ∧ Below W1.heap.size W1 wr) (fun _ _ _ _ _ iv _ => (ms.length - intOf iv).toNat)
  case atStart => exact ⟨0, [], rfl, by omega, by show _ = _; rw [Z0.out]; rfl, OLIT, ⟨W1.heap.size, 0, rfl⟩, BLIT.out⟩
  case round =>
    obtain ⟨k, ps, rfl, hk, hP, hO, ⟨gu, cu, rfl⟩, hb⟩ := hrel
    have BA2 := BA.below hb BA.1
    have BB2 := BB.trans (hb.mono BB.size)
    have hbs := hb.size
    have hps : ps.length ≤ 8 := by have := congrArg List.length hP.out; rw [List.length_map] at this; rw [this]; exact ML.out k
    by_cases hlk : k < ms.length
    · obtain ⟨b1, off1, hd1, hlt1, hc1⟩ := M4.IntsAt.at (M4.IntsAt.below HMS.out BB2) hlk
      have Y1 : Hid _ := YES.out k hlk
      have N1 : Hid _ := NO.out k hlk
      generalize ms.getD k 0 = z at *
      have P2' : Hid (Calls _ _ _ _ _) := P2.out z wr BB2
      have hrl := RL.out z
      generalize RT z = L at *
      generalize PN.tellN (RM z) = tn at *
      generalize hTB : PN.tellB (RM z) = T at *
      clear hTB
      obtain ⟨hlt, c0, c1, c2, c3, c4, c5, c6, c7, c8, c9⟩ := id BA2
      clear c1 c2 c4 c5 c6 c7 c8 c9
      subst hd1
      go_wp2_with fail
      refine Calls.mono P2'.out ?_
      rintro e w2 ⟨a2, ca2, rfl, ho2, hb2⟩
      clear c0 c3 hlt hc1 P2'
      have BA3 := BA2.below hb2 BA2.1
      have BB3 := BB2.trans (hb2.mono BB2.size)
      have HB3 : Hid (Below W1.heap.size W1 w2) := hb.trans (hb2.mono hbs)
      have HO2 : Hid _ := hO.out.below hb2
      have HN2 : Hid (NR.In w2 wr.heap.size a2 L) := NR.In.of_own ho2
      have HOLD : Hid _ := hO.out.rows.lt
      have hb2s := hb2.size
      clear hb2 ho2 BA2 hO
      clear BA3
      cases T with
      | false =>
        have HR : Hid (RK (k + 1) = RK k) := N1.out rfl
        clear Y1 N1 HN2 HOLD
        go_wp2
        go_roundw
        case rel => exact ⟨k + 1, ps, by go_num, by omega, by show _ = _; rw [HR.out]; exact hP.out, HO2, ⟨gu, cu, rfl⟩, HB3.out⟩
        case measure => simp [intOf]; omega
      | true =>
        have HR : Hid (RK (k + 1) = RK k ++ [(z, tn, L)]) := Y1.out (by first | rfl | trivial)
        have HP : Hid _ := hP.out
        clear Y1 N1 hP
        have HLIT : Hid (RQ.Own 37 (w2.alloc (.cells #[.int .i64 z, .int .i64 tn, .slice a2 L.length ca2] 37)) W1.heap.size (.slice (some ⟨gu, 0, none⟩) ps.length cu) ps) := HO2.out.below ((Below.refl _ w2).alloc (Nat.le_refl _) _)
        go_wp2_with (at_builtin; refine wpList_append_own _ rfl _ _ 29 rfl W1.heap.size 37 i2 (.agg #[.int .i64 0, .int .i64 0, .slice none 0 0]) 3 40 Try.underlying29 hi' hz0' hz1' hz2' rfl (by decide) _ _ _ rfl HLIT.out.out ⟨w2.heap.size, 0, none⟩ 1 1 [.int .i64 z, .int .i64 tn, .slice a2 L.length ca2] rfl rfl ?c1 ?c2 ?c3 ?c4 ?c5 ?_)
        case c1 => exact RQ.new3 _ _ _ _ _ _ rfl
        case c2 => exact RQ.one3 ⟨z, tn, L, a2, ca2⟩
        case c3 => unfold maxLen; omega
        case c4 => omega
        case c5 => have := HB3.out.size; simp; omega
        intro v' w6 hown1 hgrow _
        have HS : Hid (RQ.Own 37 w6 W1.heap.size v' (ps ++ [⟨z, tn, L, a2, ca2⟩])) := RQ.Own.snoc (q := ⟨z, tn, L, a2, ca2⟩) (by decide) HLIT.out (HN2.out.below ((Below.refl _ w2).alloc (Nat.le_refl _) _)) (by have := BB2.size; omega) HOLD.out hgrow hown1
        have HB6 : Hid (Below W1.heap.size W1 w6) := (HB3.out.alloc HB3.out.size _).grown hgrow (by have := HB3.out.size; simp; omega) (fun j hj => (HLIT.out.out.lt j hj).1)
        have hsl : (ps ++ [(⟨z, tn, L, a2, ca2⟩ : Rq)]).map Rq.said = RK (k + 1) := by rw [HR.out, List.map_append, HP.out]; rfl
        have HSL : Hid _ := hsl
        clear hown1 hgrow HLIT HN2 HOLD HO2 HP HR hsl
        obtain ⟨gv, cv, hv⟩ : ∃ g c, v' = .slice (some ⟨g, 0, none⟩) (ps ++ [(⟨z, tn, L, a2, ca2⟩ : Rq)]).length c := by
          rcases HS.out.out.2 with ⟨h1, h2⟩ | ⟨g, c, cur, hv, _⟩
          · simp at h2
          · exact ⟨g, c, hv⟩
        subst hv
        generalize ps ++ [(⟨z, tn, L, a2, ca2⟩ : Rq)] = qs at *
        go_wp2
        go_roundw
        case rel => exact ⟨k + 1, qs, by go_num, by omega, HSL, HS, ⟨gv, cv, rfl⟩, HB6.out⟩
        case measure => simp [intOf]; omega
    · obtain rfl : k = ms.length := by omega
      have HL : Hid (ps.map Rq.said = R) := by show _ = _; rw [hP.out, ZN.out]
      clear P2 YES NO ML RL Z0 ZN BA BA2 hP
      go_wp2
      go_ret
      exact ⟨gu, cu, ps, rfl, hO.out.mono BB.size, HL.out, BB2⟩
end Go.Proofs.Ytjplabldiheggaa

/- Who is reached, the program's: ReachAll. -/
namespace Go.Proofs.Ytjplabldiheggaa
open Go.RowKit
set_option linter.unusedSimpArgs false in
set_option maxHeartbeats 3200000 in
set_option maxRecDepth 100000 in
theorem reachI2_any (a d : Option Addr) (cap cd : Nat) (xs : List I5) (b : Bd) (ms : List Int) (w : World) (hm : ms.length ≤ 1048576) (hn : xs.length ≤ 1048576) (hs : b.py.size ≤ 1048576) (hin : MI5.RowAt w a xs) (hin2 : M4.IntsAt w d ms) :
    Calls Try.prog 5 #[.slice a xs.length cap, b.v, .slice d ms.length cd] w fun e w' => ∃ a1 c1 ps, e = .returned (.tuple #[.slice a1 (List.length ps) c1, .bool (RQ.reaOk xs b ms)]) ∧ RQ.Own 37 w' w.heap.size (.slice a1 ps.length c1) ps ∧ ps.map Rq.said = RQ.reaA xs b ms ∧ (RQ.reaOk xs b ms = true → ∃ g, a1 = some ⟨g, 0, none⟩) ∧ Below w.heap.size w w' := by
  have P1 : Hid (∀ W : World, Below w.heap.size w W → Calls Try.prog 20 #[.slice a xs.length cap, b.v] W fun e w' => e = .returned (.bool (GP.fitsB xs b)) ∧ Below W.heap.size W w') := fun W h => fitsI_any a cap xs b W hn hs (hin.below h)
  have P2 : Hid (∀ W : World, Below w.heap.size w W → Calls Try.prog 21 #[.slice d ms.length cd] W fun e w' => e = .returned (.bool (EG.rises 8 ms)) ∧ W = w') := fun W h => areMembers_any d cd ms W hm (M4.IntsAt.below hin2 h) _ rfl
  have P3 : Hid (EG.rises 8 ms = true → ∀ W : World, Below w.heap.size w W → Calls Try.prog 23 #[.slice a xs.length cap, b.v, .slice d ms.length cd] W fun e w' => ∃ g c1 ps, e = .returned (.slice (some ⟨g, 0, none⟩) (List.length ps) c1) ∧ RQ.Own 37 w' W.heap.size (.slice (some ⟨g, 0, none⟩) ps.length c1) ps ∧ ps.map Rq.said = RQ.allL xs b ms ∧ Below W.heap.size W w') := fun h W hb => allReached_any a d cap cd xs b ms W (GP.rises_len h) hn (hin.below hb) (M4.IntsAt.below hin2 hb)
  have P4 : Hid (GP.fitsB xs b = true → ∀ W : World, Calls Try.prog 25 #[b.v] W fun e w' => e = .returned (.int .i64 (b.md + b.lf)) ∧ Below W.heap.size W w') := fun h W => by
    obtain ⟨_, _, _, _, h1, h2, _⟩ := GP.fits_is h
    exact lastTime_any b W h1 h2
  have HR : Hid (RQ.reaOk xs b ms = (GP.fitsB xs b && EG.rises 8 ms)) := show RQ.reaOk xs b ms = _ from rfl
  have NO : Hid (RQ.reaOk xs b ms = false → RQ.reaA xs b ms = []) := fun h => RQ.rea_no h
  have YES : Hid (RQ.reaOk xs b ms = true → ∀ ps : List Rq, ps.map Rq.said = RQ.allL xs b ms → ((ps.filter (fun p => RQ.inTime (b.md + b.lf) p.said)).filter (fun p => RQ.near b.hp p.said)).map Rq.said = RQ.reaA xs b ms) := fun h ps hp => by
    rw [RQ.rea_yes h, RQ.said_filter, RQ.said_filter, hp]; rfl
  have ML : Hid (EG.rises 8 ms = true → (RQ.allL xs b ms).length ≤ 8) := fun h => Nat.le_trans (RQ.allL_len xs b ms) (GP.rises_len h)
  have BA := BdAt.box w b 25
  have BB := (Below.refl _ w).alloc (Nat.le_refl _) (.cells #[.int .i64 b.fr, .int .i64 b.to, .bool b.gr, .int .i64 b.md, .int .i64 b.no, .int .i64 b.lf, .int .i64 b.hp, .int .i64 b.of, .int .i64 b.tl, .string b.py] 25)
  clear hin hin2
  generalize RQ.reaOk xs b ms = R at *
  generalize RQ.reaA xs b ms = L at *
  generalize RQ.allL xs b ms = AL at *
  generalize GP.fitsB xs b = q1 at *
  generalize EG.rises 8 ms = q2 at *
  generalize hml : b.md + b.lf = ml at *
  obtain ⟨fr, to, gr, md, no, lf, hp, of, tl, py⟩ := b
  clear hml
  obtain ⟨hlt, c0, c1, c2, c3, c4, c5, c6, c7, c8, c9⟩ := id BA
  go_enter Try.func5, Try.ntmps5
  go_wp2_with fail
  refine (P1.out _ BB).mono ?_
  rintro e w1 ⟨rfl, hb1⟩
  clear c0 c1 c2 c3 c4 c5 c6 c7 c8 c9 hlt P1
  have BA1 := BA.below hb1 BA.1
  have BB1 := BB.trans (hb1.mono BB.size)
  clear hb1 BA BB
  cases q1 with
  | false =>
    have hR : R = false := HR.out
    subst hR
    have HL : Hid (L = []) := NO.out (by first | rfl | trivial)
    clear P2 P3 P4 HR NO YES ML BA1
    go_wp2
    exact bodyPost_ret (v := .tuple #[.slice none 0 0, .bool false]) (by simp [results, Try.results5, go_sem]) rfl ⟨none, 0, [], rfl, RQ.Own.nil _ _ _, HL.out.symm, (fun h => by cases h), BB1⟩
  | true =>
    have hR : R = q2 := HR.out
    subst hR
    go_wp2_with fail
    refine (P2.out _ BB1).mono ?_
    rintro e w' ⟨rfl, rfl⟩
    clear P2 HR
    cases R with
    | false =>
      have HL : Hid (L = []) := NO.out (by first | rfl | trivial)
      clear P3 P4 NO YES ML BA1
      go_wp2
      exact bodyPost_ret (v := .tuple #[.slice none 0 0, .bool false]) (by simp [results, Try.results5, go_sem]) rfl ⟨none, 0, [], rfl, RQ.Own.nil _ _ _, HL.out.symm, (fun h => by cases h), BB1⟩
    | true =>
      have P3' : Hid _ := P3.out (by first | rfl | trivial)
      have P4' : Hid _ := P4.out (by first | rfl | trivial)
      have YES' : Hid _ := YES.out (by first | rfl | trivial)
      have ML' := ML.out (by first | rfl | trivial)
      clear P3 P4 YES ML NO
      have hq := BA1.1
      have KP : ∀ V1 V2 : World, (Below w1.heap.size w1 V1 ∧ V1.cell? ⟨w.heap.size, 0, none⟩ = some (.int .i64 fr) ∧ V1.cell? ⟨w.heap.size, 1, none⟩ = some (.int .i64 to) ∧ V1.cell? ⟨w.heap.size, 2, none⟩ = some (.bool gr) ∧ V1.cell? ⟨w.heap.size, 3, none⟩ = some (.int .i64 md) ∧ V1.cell? ⟨w.heap.size, 4, none⟩ = some (.int .i64 no) ∧ V1.cell? ⟨w.heap.size, 5, none⟩ = some (.int .i64 lf) ∧ V1.cell? ⟨w.heap.size, 6, none⟩ = some (.int .i64 hp) ∧ V1.cell? ⟨w.heap.size, 7, none⟩ = some (.int .i64 of) ∧ V1.cell? ⟨w.heap.size, 8, none⟩ = some (.int .i64 tl) ∧ V1.cell? ⟨w.heap.size, 9, none⟩ = some (.string py)) → Below V1.heap.size V1 V2 → (Below w1.heap.size w1 V2 ∧ V2.cell? ⟨w.heap.size, 0, none⟩ = some (.int .i64 fr) ∧ V2.cell? ⟨w.heap.size, 1, none⟩ = some (.int .i64 to) ∧ V2.cell? ⟨w.heap.size, 2, none⟩ = some (.bool gr) ∧ V2.cell? ⟨w.heap.size, 3, none⟩ = some (.int .i64 md) ∧ V2.cell? ⟨w.heap.size, 4, none⟩ = some (.int .i64 no) ∧ V2.cell? ⟨w.heap.size, 5, none⟩ = some (.int .i64 lf) ∧ V2.cell? ⟨w.heap.size, 6, none⟩ = some (.int .i64 hp) ∧ V2.cell? ⟨w.heap.size, 7, none⟩ = some (.int .i64 of) ∧ V2.cell? ⟨w.heap.size, 8, none⟩ = some (.int .i64 tl) ∧ V2.cell? ⟨w.heap.size, 9, none⟩ = some (.string py)) := fun V1 V2 ⟨h, h0, h1, h2, h3, h4, h5, h6, h7, h8, h9⟩ hb => ⟨h.trans (hb.mono h.size), (hb.cell (p := ⟨w.heap.size, 0, none⟩) (Nat.lt_of_lt_of_le hq h.size)).trans h0, (hb.cell (p := ⟨w.heap.size, 1, none⟩) (Nat.lt_of_lt_of_le hq h.size)).trans h1, (hb.cell (p := ⟨w.heap.size, 2, none⟩) (Nat.lt_of_lt_of_le hq h.size)).trans h2, (hb.cell (p := ⟨w.heap.size, 3, none⟩) (Nat.lt_of_lt_of_le hq h.size)).trans h3, (hb.cell (p := ⟨w.heap.size, 4, none⟩) (Nat.lt_of_lt_of_le hq h.size)).trans h4, (hb.cell (p := ⟨w.heap.size, 5, none⟩) (Nat.lt_of_lt_of_le hq h.size)).trans h5, (hb.cell (p := ⟨w.heap.size, 6, none⟩) (Nat.lt_of_lt_of_le hq h.size)).trans h6, (hb.cell (p := ⟨w.heap.size, 7, none⟩) (Nat.lt_of_lt_of_le hq h.size)).trans h7, (hb.cell (p := ⟨w.heap.size, 8, none⟩) (Nat.lt_of_lt_of_le hq h.size)).trans h8, (hb.cell (p := ⟨w.heap.size, 9, none⟩) (Nat.lt_of_lt_of_le hq h.size)).trans h9⟩
      have KO : ∀ (g : Nat) (V1 V2 : World), w1.heap.size ≤ g → (Below w1.heap.size w1 V1 ∧ V1.cell? ⟨w.heap.size, 0, none⟩ = some (.int .i64 fr) ∧ V1.cell? ⟨w.heap.size, 1, none⟩ = some (.int .i64 to) ∧ V1.cell? ⟨w.heap.size, 2, none⟩ = some (.bool gr) ∧ V1.cell? ⟨w.heap.size, 3, none⟩ = some (.int .i64 md) ∧ V1.cell? ⟨w.heap.size, 4, none⟩ = some (.int .i64 no) ∧ V1.cell? ⟨w.heap.size, 5, none⟩ = some (.int .i64 lf) ∧ V1.cell? ⟨w.heap.size, 6, none⟩ = some (.int .i64 hp) ∧ V1.cell? ⟨w.heap.size, 7, none⟩ = some (.int .i64 of) ∧ V1.cell? ⟨w.heap.size, 8, none⟩ = some (.int .i64 tl) ∧ V1.cell? ⟨w.heap.size, 9, none⟩ = some (.string py)) → MC.Only g V1 V2 → (Below w1.heap.size w1 V2 ∧ V2.cell? ⟨w.heap.size, 0, none⟩ = some (.int .i64 fr) ∧ V2.cell? ⟨w.heap.size, 1, none⟩ = some (.int .i64 to) ∧ V2.cell? ⟨w.heap.size, 2, none⟩ = some (.bool gr) ∧ V2.cell? ⟨w.heap.size, 3, none⟩ = some (.int .i64 md) ∧ V2.cell? ⟨w.heap.size, 4, none⟩ = some (.int .i64 no) ∧ V2.cell? ⟨w.heap.size, 5, none⟩ = some (.int .i64 lf) ∧ V2.cell? ⟨w.heap.size, 6, none⟩ = some (.int .i64 hp) ∧ V2.cell? ⟨w.heap.size, 7, none⟩ = some (.int .i64 of) ∧ V2.cell? ⟨w.heap.size, 8, none⟩ = some (.int .i64 tl) ∧ V2.cell? ⟨w.heap.size, 9, none⟩ = some (.string py)) := fun g V1 V2 hg ⟨h, h0, h1, h2, h3, h4, h5, h6, h7, h8, h9⟩ hb => ⟨h.trans (hb.below hg h.size), (hb.cell (x := ⟨w.heap.size, 0, none⟩) (Nat.lt_of_lt_of_le hq h.size) (by simp; omega)).trans h0, (hb.cell (x := ⟨w.heap.size, 1, none⟩) (Nat.lt_of_lt_of_le hq h.size) (by simp; omega)).trans h1, (hb.cell (x := ⟨w.heap.size, 2, none⟩) (Nat.lt_of_lt_of_le hq h.size) (by simp; omega)).trans h2, (hb.cell (x := ⟨w.heap.size, 3, none⟩) (Nat.lt_of_lt_of_le hq h.size) (by simp; omega)).trans h3, (hb.cell (x := ⟨w.heap.size, 4, none⟩) (Nat.lt_of_lt_of_le hq h.size) (by simp; omega)).trans h4, (hb.cell (x := ⟨w.heap.size, 5, none⟩) (Nat.lt_of_lt_of_le hq h.size) (by simp; omega)).trans h5, (hb.cell (x := ⟨w.heap.size, 6, none⟩) (Nat.lt_of_lt_of_le hq h.size) (by simp; omega)).trans h6, (hb.cell (x := ⟨w.heap.size, 7, none⟩) (Nat.lt_of_lt_of_le hq h.size) (by simp; omega)).trans h7, (hb.cell (x := ⟨w.heap.size, 8, none⟩) (Nat.lt_of_lt_of_le hq h.size) (by simp; omega)).trans h8, (hb.cell (x := ⟨w.heap.size, 9, none⟩) (Nat.lt_of_lt_of_le hq h.size) (by simp; omega)).trans h9⟩
      have AQ : Hid (∀ W' : World, (Below w1.heap.size w1 W' ∧ W'.cell? ⟨w.heap.size, 0, none⟩ = some (.int .i64 fr) ∧ W'.cell? ⟨w.heap.size, 1, none⟩ = some (.int .i64 to) ∧ W'.cell? ⟨w.heap.size, 2, none⟩ = some (.bool gr) ∧ W'.cell? ⟨w.heap.size, 3, none⟩ = some (.int .i64 md) ∧ W'.cell? ⟨w.heap.size, 4, none⟩ = some (.int .i64 no) ∧ W'.cell? ⟨w.heap.size, 5, none⟩ = some (.int .i64 lf) ∧ W'.cell? ⟨w.heap.size, 6, none⟩ = some (.int .i64 hp) ∧ W'.cell? ⟨w.heap.size, 7, none⟩ = some (.int .i64 of) ∧ W'.cell? ⟨w.heap.size, 8, none⟩ = some (.int .i64 tl) ∧ W'.cell? ⟨w.heap.size, 9, none⟩ = some (.string py)) → Calls Try.prog 23 #[.slice a xs.length cap, Bd.v ⟨fr, to, gr, md, no, lf, hp, of, tl, py⟩, .slice d ms.length cd] W' fun e w' => ∃ g c ps, e = .returned (.slice (some ⟨g, 0, none⟩) (List.length ps) c) ∧ (RQ.Own 37 w' w1.heap.size (.slice (some ⟨g, 0, none⟩) ps.length c) ps ∧ ps.length ≤ 8 ∧ ((ps.filter (fun p => RQ.inTime ml p.said)).filter (fun p => RQ.near hp p.said)).map Rq.said = L) ∧ (Below w1.heap.size w1 w' ∧ w'.cell? ⟨w.heap.size, 0, none⟩ = some (.int .i64 fr) ∧ w'.cell? ⟨w.heap.size, 1, none⟩ = some (.int .i64 to) ∧ w'.cell? ⟨w.heap.size, 2, none⟩ = some (.bool gr) ∧ w'.cell? ⟨w.heap.size, 3, none⟩ = some (.int .i64 md) ∧ w'.cell? ⟨w.heap.size, 4, none⟩ = some (.int .i64 no) ∧ w'.cell? ⟨w.heap.size, 5, none⟩ = some (.int .i64 lf) ∧ w'.cell? ⟨w.heap.size, 6, none⟩ = some (.int .i64 hp) ∧ w'.cell? ⟨w.heap.size, 7, none⟩ = some (.int .i64 of) ∧ w'.cell? ⟨w.heap.size, 8, none⟩ = some (.int .i64 tl) ∧ w'.cell? ⟨w.heap.size, 9, none⟩ = some (.string py))) := fun W' h => (P3'.out W' (BB1.trans (h.1.mono BB1.size))).mono fun e w' ⟨g, c, ps, e1, ho, hL, hb⟩ => ⟨g, c, ps, e1, ⟨ho.mono h.1.size, by have := congrArg List.length hL; rw [List.length_map] at this; rw [this]; exact ML', YES'.out ps hL⟩, KP _ _ h hb⟩
      have LQ : Hid (∀ W' : World, (Below w1.heap.size w1 W' ∧ W'.cell? ⟨w.heap.size, 0, none⟩ = some (.int .i64 fr) ∧ W'.cell? ⟨w.heap.size, 1, none⟩ = some (.int .i64 to) ∧ W'.cell? ⟨w.heap.size, 2, none⟩ = some (.bool gr) ∧ W'.cell? ⟨w.heap.size, 3, none⟩ = some (.int .i64 md) ∧ W'.cell? ⟨w.heap.size, 4, none⟩ = some (.int .i64 no) ∧ W'.cell? ⟨w.heap.size, 5, none⟩ = some (.int .i64 lf) ∧ W'.cell? ⟨w.heap.size, 6, none⟩ = some (.int .i64 hp) ∧ W'.cell? ⟨w.heap.size, 7, none⟩ = some (.int .i64 of) ∧ W'.cell? ⟨w.heap.size, 8, none⟩ = some (.int .i64 tl) ∧ W'.cell? ⟨w.heap.size, 9, none⟩ = some (.string py)) → Calls Try.prog 25 #[Bd.v ⟨fr, to, gr, md, no, lf, hp, of, tl, py⟩] W' fun e w' => e = .returned (.int .i64 ml) ∧ Below W'.heap.size W' w' ∧ (Below w1.heap.size w1 w' ∧ w'.cell? ⟨w.heap.size, 0, none⟩ = some (.int .i64 fr) ∧ w'.cell? ⟨w.heap.size, 1, none⟩ = some (.int .i64 to) ∧ w'.cell? ⟨w.heap.size, 2, none⟩ = some (.bool gr) ∧ w'.cell? ⟨w.heap.size, 3, none⟩ = some (.int .i64 md) ∧ w'.cell? ⟨w.heap.size, 4, none⟩ = some (.int .i64 no) ∧ w'.cell? ⟨w.heap.size, 5, none⟩ = some (.int .i64 lf) ∧ w'.cell? ⟨w.heap.size, 6, none⟩ = some (.int .i64 hp) ∧ w'.cell? ⟨w.heap.size, 7, none⟩ = some (.int .i64 of) ∧ w'.cell? ⟨w.heap.size, 8, none⟩ = some (.int .i64 tl) ∧ w'.cell? ⟨w.heap.size, 9, none⟩ = some (.string py))) := fun W' h => (P4'.out W').mono fun e w' ⟨e1, hb⟩ => ⟨e1, hb, KP _ _ h hb⟩
      have NQ : Hid (∀ (g c : Nat) (ps qs : List Rq) (W' : World), ps.length ≤ 8 → ps.filter (fun p => RQ.inTime ml p.said) = qs → RQ.Own 37 W' w1.heap.size (.slice (some ⟨g, 0, none⟩) ps.length c) ps → (Below w1.heap.size w1 W' ∧ W'.cell? ⟨w.heap.size, 0, none⟩ = some (.int .i64 fr) ∧ W'.cell? ⟨w.heap.size, 1, none⟩ = some (.int .i64 to) ∧ W'.cell? ⟨w.heap.size, 2, none⟩ = some (.bool gr) ∧ W'.cell? ⟨w.heap.size, 3, none⟩ = some (.int .i64 md) ∧ W'.cell? ⟨w.heap.size, 4, none⟩ = some (.int .i64 no) ∧ W'.cell? ⟨w.heap.size, 5, none⟩ = some (.int .i64 lf) ∧ W'.cell? ⟨w.heap.size, 6, none⟩ = some (.int .i64 hp) ∧ W'.cell? ⟨w.heap.size, 7, none⟩ = some (.int .i64 of) ∧ W'.cell? ⟨w.heap.size, 8, none⟩ = some (.int .i64 tl) ∧ W'.cell? ⟨w.heap.size, 9, none⟩ = some (.string py)) → Calls Try.prog 22 #[.slice (some ⟨g, 0, none⟩) ps.length c, .func (.func 24) #[] #[], .int .i64 ml] W' fun e w' => e = .returned (.slice (some ⟨g, 0, none⟩) qs.length c) ∧ RQ.Own 37 w' w1.heap.size (.slice (some ⟨g, 0, none⟩) qs.length c) qs ∧ (Below w1.heap.size w1 w' ∧ w'.cell? ⟨w.heap.size, 0, none⟩ = some (.int .i64 fr) ∧ w'.cell? ⟨w.heap.size, 1, none⟩ = some (.int .i64 to) ∧ w'.cell? ⟨w.heap.size, 2, none⟩ = some (.bool gr) ∧ w'.cell? ⟨w.heap.size, 3, none⟩ = some (.int .i64 md) ∧ w'.cell? ⟨w.heap.size, 4, none⟩ = some (.int .i64 no) ∧ w'.cell? ⟨w.heap.size, 5, none⟩ = some (.int .i64 lf) ∧ w'.cell? ⟨w.heap.size, 6, none⟩ = some (.int .i64 hp) ∧ w'.cell? ⟨w.heap.size, 7, none⟩ = some (.int .i64 of) ∧ w'.cell? ⟨w.heap.size, 8, none⟩ = some (.int .i64 tl) ∧ w'.cell? ⟨w.heap.size, 9, none⟩ = some (.string py))) := fun g c ps qs W' h8 hqs ho h => (noMoreT_any w1.heap.size g c ps ml W' h8 ho qs hqs).mono fun e w' ⟨e1, h1, h2⟩ => ⟨e1, h1, KO g _ _ (ho.out.lt g rfl).1 h h2⟩
      have hSd : Below w1.heap.size w1 w1.drew ∧ w1.drew.cell? ⟨w.heap.size, 0, none⟩ = some (.int .i64 fr) ∧ w1.drew.cell? ⟨w.heap.size, 1, none⟩ = some (.int .i64 to) ∧ w1.drew.cell? ⟨w.heap.size, 2, none⟩ = some (.bool gr) ∧ w1.drew.cell? ⟨w.heap.size, 3, none⟩ = some (.int .i64 md) ∧ w1.drew.cell? ⟨w.heap.size, 4, none⟩ = some (.int .i64 no) ∧ w1.drew.cell? ⟨w.heap.size, 5, none⟩ = some (.int .i64 lf) ∧ w1.drew.cell? ⟨w.heap.size, 6, none⟩ = some (.int .i64 hp) ∧ w1.drew.cell? ⟨w.heap.size, 7, none⟩ = some (.int .i64 of) ∧ w1.drew.cell? ⟨w.heap.size, 8, none⟩ = some (.int .i64 tl) ∧ w1.drew.cell? ⟨w.heap.size, 9, none⟩ = some (.string py) := ⟨(Below.refl _ _).drew, BA1.2⟩
      clear P3' P4' YES' ML' KO KP BA1
      go_wp2
      go_region_held3 (fun w' => Below w1.heap.size w1 w' ∧ w'.cell? ⟨w.heap.size, 0, none⟩ = some (.int .i64 fr) ∧ w'.cell? ⟨w.heap.size, 1, none⟩ = some (.int .i64 to) ∧ w'.cell? ⟨w.heap.size, 2, none⟩ = some (.bool gr) ∧ w'.cell? ⟨w.heap.size, 3, none⟩ = some (.int .i64 md) ∧ w'.cell? ⟨w.heap.size, 4, none⟩ = some (.int .i64 no) ∧ w'.cell? ⟨w.heap.size, 5, none⟩ = some (.int .i64 lf) ∧ w'.cell? ⟨w.heap.size, 6, none⟩ = some (.int .i64 hp) ∧ w'.cell? ⟨w.heap.size, 7, none⟩ = some (.int .i64 of) ∧ w'.cell? ⟨w.heap.size, 8, none⟩ = some (.int .i64 tl) ∧ w'.cell? ⟨w.heap.size, 9, none⟩ = some (.string py)) (first | assumption | (show _ ∧ _; assumption)) (first | (go_at_call 23; refine Calls.mono (AQ.out _ (by assumption)) ?_; (rintro e w2 ⟨g, c, ps, rfl, ⟨hA1, hA2, hA3⟩, hS2⟩)) | (go_at_call 25; refine Calls.mono (LQ.out _ (by assumption)) ?_; (rintro e w3 ⟨rfl, hb3, hS3⟩); (replace hA1 := RQ.Own.below hA1 hb3); (obtain ⟨qs, hqs⟩ : ∃ qs, ps.filter (fun p => RQ.inTime ml p.said) = qs := ⟨_, rfl⟩)) | (go_at_call 22; refine Calls.mono (NQ.out g c ps qs _ hA2 hqs hA1 (by assumption)) ?_; (rintro e w4 ⟨rfl, ho4, hSr⟩)))
      have HO4 : Hid _ := ho4
      have HL2 : Hid _ := hA3
      have hq8 : qs.length ≤ 8 := by rw [← hqs]; exact Nat.le_trans (List.length_filter_le _ _) hA2
      rw [hqs] at HL2
      have Hgb : Hid (w1.heap.size ≤ g) := (ho4.out.lt g rfl).1
      obtain ⟨hbS, d0, d1, d2, d3, d4, d5, c6', d7, d8, d9⟩ := hSr
      have BB4 := BB1.trans (hbS.mono BB1.size)
      have hlt4 := Nat.lt_of_lt_of_le hq hbS.size
      clear d0 d1 d2 d3 d4 d5 d7 d8 d9 hSd hS2 hS3 hb3 hA1 hA2 hA3 hqs ho4 AQ LQ NQ hbS
      obtain ⟨rs, hrs⟩ : ∃ rs, qs.filter (fun p => RQ.near hp p.said) = rs := ⟨_, rfl⟩
      have N2 : Hid (Calls _ _ _ _ _) := noMoreH_any w1.heap.size g c qs hp w4 hq8 HO4.out rs hrs
      rw [hrs] at HL2
      clear hrs HO4
      go_wp2_with fail
      refine Calls.mono N2.out ?_
      rintro e w5 ⟨rfl, ho5, hO5⟩
      have HO5 : Hid _ := ho5
      have BB5 := BB4.trans (hO5.below (Nat.le_trans BB1.size Hgb.out) BB4.size)
      clear N2 ho5 hO5 BB4 c6'
      go_wp2
      exact bodyPost_ret (v := .tuple #[.slice (some ⟨g, 0, none⟩) rs.length c, .bool true]) (by simp [results, Try.results5, go_sem]) rfl ⟨some ⟨g, 0, none⟩, c, rs, rfl, HO5.out.mono BB1.size, HL2.out, ⟨g, rfl⟩, BB5⟩
theorem reachI_any (a d : Option Addr) (cap cd : Nat) (xs : List I5) (b : Bd) (ms : List Int) (w : World) (hm : ms.length ≤ 1048576) (hn : xs.length ≤ 1048576) (hs : b.py.size ≤ 1048576) (hin : MI5.RowAt w a xs) (hin2 : M4.IntsAt w d ms) :
    Calls Try.prog 5 #[.slice a xs.length cap, b.v, .slice d ms.length cd] w fun e w' => ∃ a1 c1 ps, e = .returned (.tuple #[.slice a1 (List.length ps) c1, .bool (RQ.reaOk xs b ms)]) ∧ RQ.Own 37 w' w.heap.size (.slice a1 ps.length c1) ps ∧ ps.map Rq.said = RQ.reaA xs b ms ∧ Below w.heap.size w w' :=
  (reachI2_any a d cap cd xs b ms w hm hn hs hin hin2).mono fun _ _ ⟨a1, c1, ps, h1, h2, h3, _, h5⟩ => ⟨a1, c1, ps, h1, h2, h3, h5⟩
end Go.Proofs.Ytjplabldiheggaa
