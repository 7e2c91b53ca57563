import Derived.Test.YtfkmnmiolnijaaaRows
import Derived.Test.YtfkmnmiolnijaaaM5
import Derived.Test.YtfkmnmiolnijaaaCRiseI
import Derived.WalkKit
import Derived.WalkSpells
import Derived.WalkLawsBesides
import Derived.Outline
import Derived.Deep.QuietTactic
import Derived.BigQuiet
import Derived.Test.YtfkmnmiolnijaaaMCg
import Derived.Test.YtfkmnmiolnijaaaCHasS
import Derived.Test.YtfkmnmiolnijaaaMBxN
import Derived.Test.YtfkmnmiolnijaaaCHsI
import Derived.WalkSmall
import Derived.Test.YtfkmnmiolnijaaaCToCu
import Derived.Test.YtfkmnmiolnijaaaCKidS
import Derived.Test.YtfkmnmiolnijaaaCBothK
import Derived.Deep.RegionHeld3
/- Numbers that rise: l1Some of the specification. -/
namespace Go.Proofs.Ytfkmnmiolnijaaa
open Go.RowKit
set_option maxHeartbeats 1600000 in
set_option maxRecDepth 100000 in
theorem l1Some_any (b : Option Addr) (cb : Nat) (n : Nat) (os : List Int) (w : World) (_hn : n ≤ 1048576) (ho : os.length ≤ 1048576) (hos : M4.IntsAt w b os) (R : Bool) (hR : Hid (EG.rises n os = R)) :
    Calls Try.prog 35 #[.slice b os.length cb, .int .i64 n] w fun e w' => e = .returned (.bool R) ∧ Below w.heap.size w w' := by
  go_enter Try.func35, Try.ntmps35
  go_wp2
  go_loopw [9] (fun iv wr => ∃ k : Nat, iv = .int .i64 k ∧ k ≤ os.length ∧ Hid (EG.riseUp n os k) ∧ Below w.heap.size w wr) (fun iv _ => (os.length - intOf iv).toNat)
  case atStart => exact ⟨0, rfl, by omega, show Hid _ from fun i hi => by omega, Below.refl _ _⟩
  case round =>
    obtain ⟨k, rfl, hk, hT, hb⟩ := hrel
    replace hos := hos.below hb
    by_cases hlk : k < os.length
    · have HN : Hid _ := fun h => EG.rises_no (n := n) hlk h
      have HY : Hid _ := fun h => EG.riseUp_succ hT.out (k := k) h
      cases k with
      | zero =>
        obtain ⟨b1, off1, rfl, hlt1, hc1⟩ := hos.at hlk
        clear hos hT
        rw [Nat.add_zero] at hc1
        generalize os.getD 0 0 = o at *
        rw [show ((0 : Nat) : Int) = 0 from rfl]
        by_cases h0 : 0 ≤ o
        · obtain ⟨j, rfl⟩ := Int.eq_ofNat_of_zero_le h0
          have h1 : decide ((j : Int) < 0) = false := by simp
          by_cases h3 : j < n
          · have hT : Hid _ := HY.out ⟨h0, by omega, fun h => by omega⟩
            have h2 : decide (n ≤ j) = false := by simp; omega
            clear HN HY hR h0
            go_wp2
            go_roundw
            case rel => exact ⟨1, by go_num, by omega, hT, hb⟩
            case measure => simp [intOf]; omega
          · have hF : Hid (R = false) := by show R = false; rw [← hR.out]; exact HN.out (by omega)
            have h2 : decide (n ≤ j) = true := by simp; omega
            clear HN HY hR h0
            go_wp2
            go_ret
            exact ⟨retB7 hF.out.symm, hb⟩
        · have hF : Hid (R = false) := by show R = false; rw [← hR.out]; exact HN.out (by omega)
          have h1 : decide (o < 0) = true := by simp; omega
          clear HN HY hR h0
          go_wp2
          go_ret
          exact ⟨retB7 hF.out.symm, hb⟩
      | succ k =>
        obtain ⟨b1, off1, rfl, hlt1, hc0, hc1⟩ := EG.ints_at2 hos hlk
        clear hos hT
        rw [Nat.add_sub_cancel] at HN HY
        generalize os.getD k 0 = p at *
        generalize os.getD (k + 1) 0 = o at *
        rw [show ((k + 1 : Nat) : Int) = (k : Int) + 1 from rfl]
        by_cases h0 : 0 ≤ o
        · obtain ⟨j, rfl⟩ := Int.eq_ofNat_of_zero_le h0
          have h1 : decide ((j : Int) < 0) = false := by simp
          by_cases h3 : j < n
          · have h2 : decide (n ≤ j) = false := by simp; omega
            by_cases hpo : (j : Int) ≤ p
            · have hF : Hid (R = false) := by show R = false; rw [← hR.out]; exact HN.out (fun h => by have := h.2.2 (by omega); omega)
              have h4 : decide ((j : Int) ≤ p) = true := by simp [hpo]
              clear HN HY hR h0 hpo
              go_wp2
              go_ret
              exact ⟨retB7 hF.out.symm, hb⟩
            · have hT : Hid _ := HY.out ⟨h0, by omega, fun h => by omega⟩
              have h4 : decide ((j : Int) ≤ p) = false := by simp; omega
              clear HN HY hR h0 hpo
              go_wp2
              go_roundw
              case rel => exact ⟨k + 2, by go_num, by omega, hT, hb⟩
              case measure => simp [intOf]; omega
          · have hF : Hid (R = false) := by show R = false; rw [← hR.out]; exact HN.out (by omega)
            have h2 : decide (n ≤ j) = true := by simp; omega
            clear HN HY hR h0
            go_wp2
            go_ret
            exact ⟨retB7 hF.out.symm, hb⟩
        · have hF : Hid (R = false) := by show R = false; rw [← hR.out]; exact HN.out (by omega)
          have h1 : decide (o < 0) = true := by simp; omega
          clear HN HY hR h0
          go_wp2
          go_ret
          exact ⟨retB7 hF.out.symm, hb⟩
    · obtain rfl : k = os.length := by omega
      have hF : Hid (R = true) := by show R = true; rw [← hR.out]; exact EG.rises_yes hT.out
      clear hos hT hR
      go_wp2
      go_ret
      exact ⟨retB7 hF.out.symm, hb⟩
end Go.Proofs.Ytfkmnmiolnijaaa

/- The specification's small functions on custodies: l16Same, l16Has, l16Less, l16Id. -/
namespace Go.Proofs.Ytfkmnmiolnijaaa
open Go.RowKit
namespace CG
theorem ints_take {w : World} {a : Option Addr} {zs : List Int} (h : M4.IntsAt w a zs) (k : Nat) : M4.IntsAt w a (zs.take k) := by
  rcases h with rfl | ⟨b, off, rfl, hlt, hc⟩
  · exact .inl (by simp)
  · refine .inr ⟨b, off, rfl, hlt, fun j hj => ?_⟩
    rw [List.length_take] at hj
    rw [hc j (by omega), List.getD_eq_getElem?_getD, List.getD_eq_getElem?_getD, List.getElem?_take_of_lt (by omega)]
def sameAt (a b : List Int) (i : Nat) : Bool := EG.hasB a (b.getD i 0) && !EG.hasB (b.take i) (b.getD i 0)
theorem same_no {a b : List Int} {i : Nat} (hi : i < b.length) (h : sameAt a b i = false) : same a b = false := by
  have : ((List.range b.length).all fun i => EG.hasB a (b.getD i 0) && !EG.hasB (b.take i) (b.getD i 0)) = false := by
    rw [Bool.eq_false_iff]; intro e; have := List.all_eq_true.1 e i (List.mem_range.2 hi); simp only [sameAt] at h; rw [h] at this; cases this
  rw [same, this]; rfl
theorem same_yes {a b : List Int} (h : ∀ i, i < b.length → sameAt a b i = true) : same a b = decide (a.length = b.length) := by
  have : ((List.range b.length).all fun i => EG.hasB a (b.getD i 0) && !EG.hasB (b.take i) (b.getD i 0)) = true := List.all_eq_true.2 fun i hi => h i (List.mem_range.1 hi)
  rw [same, this]; rfl
end CG
set_option maxHeartbeats 400000 in
set_option maxRecDepth 100000 in
theorem l16Id_any (n : Int) (w : World) : Calls Try.prog 17 #[.int .i64 n] w fun e w' => e = .returned (.bool (decide (0 ≤ n ∧ n < 6))) ∧ w = w' := by
  by_cases h : 0 ≤ n
  · by_cases h2 : n < 6
    · have hd : decide (0 ≤ n ∧ n < 6) = true := decide_eq_true ⟨h, h2⟩
      rw [hd]
      clear hd
      go_enter Try.func17, Try.ntmps17
      go_wp2
      go_ret
      exact ⟨M4.ret_bool (by simp_all), rfl⟩
    · have hd : decide (0 ≤ n ∧ n < 6) = false := decide_eq_false (fun c => h2 c.2)
      rw [hd]
      clear hd
      go_enter Try.func17, Try.ntmps17
      go_wp2
      go_ret
      exact ⟨M4.ret_bool (by simp_all), rfl⟩
  · have hd : decide (0 ≤ n ∧ n < 6) = false := decide_eq_false (fun c => h c.1)
    rw [hd]
    clear hd
    go_enter Try.func17, Try.ntmps17
    go_wp2
    go_ret
    exact ⟨M4.ret_bool (by simp_all), rfl⟩
set_option maxHeartbeats 1600000 in
set_option maxRecDepth 100000 in
theorem l16Less_any (g h : I2) (w : World) : Calls Try.prog 37 #[g.v, h.v] w fun e w' => e = .returned (.bool (CG.lessH g h)) ∧ Below w.heap.size w w' := by
  obtain ⟨g0, g1⟩ := g
  obtain ⟨h0, h1⟩ := h
  have hB : ∀ o1 o2, Below w.heap.size w ((w.alloc o1).alloc o2) := fun o1 o2 => ((Below.refl _ w).alloc (Nat.le_refl _) o1).alloc (by simp) o2
  obtain ⟨L, hL⟩ : ∃ L, CG.lessH ⟨g0, g1⟩ ⟨h0, h1⟩ = L := ⟨_, rfl⟩
  rw [hL]
  have HL : Hid (decide (g0 < h0 ∨ (g0 = h0 ∧ g1 < h1)) = L) := hL
  clear hL
  by_cases c1 : g0 < h0
  · have e1 : decide (g0 < h0) = true := decide_eq_true c1
    have hF : Hid (L = true) := by show _ = _; rw [← HL.out]; exact decide_eq_true (.inl c1)
    clear HL c1
    go_enter Try.func37, Try.ntmps37
    go_wp2
    go_ret
    exact ⟨M4.ret_bool hF.out.symm, hB _ _⟩
  · have e1 : decide (g0 < h0) = false := decide_eq_false c1
    by_cases c2 : g0 = h0
    · subst c2
      by_cases c3 : g1 < h1
      · have e3 : decide (g1 < h1) = true := decide_eq_true c3
        have hF : Hid (L = true) := by show _ = _; rw [← HL.out]; exact decide_eq_true (.inr ⟨rfl, c3⟩)
        clear HL c3
        go_enter Try.func37, Try.ntmps37
        go_wp2
        go_ret
        exact ⟨M4.ret_bool hF.out.symm, hB _ _⟩
      · have e3 : decide (g1 < h1) = false := decide_eq_false c3
        have hF : Hid (L = false) := by show _ = _; rw [← HL.out]; exact decide_eq_false (by omega)
        clear HL
        go_enter Try.func37, Try.ntmps37
        go_wp2
        go_ret
        exact ⟨M4.ret_bool hF.out.symm, hB _ _⟩
    · have e2 : (g0 == h0) = false := by simp [c2]
      have hF : Hid (L = false) := by show _ = _; rw [← HL.out]; exact decide_eq_false (by omega)
      clear HL
      go_enter Try.func37, Try.ntmps37
      go_wp2
      go_ret
      exact ⟨M4.ret_bool hF.out.symm, hB _ _⟩
set_option maxHeartbeats 1600000 in
set_option maxRecDepth 100000 in
theorem l16Same_any (a b : Option Addr) (ca cb : Nat) (xs ys : List Int) (w : World) (hx : xs.length ≤ 1048576) (hy : ys.length ≤ 1048576) (hcb : ys.length ≤ cb) (hax : M4.IntsAt w a xs) (hay : M4.IntsAt w b ys) :
    Calls Try.prog 20 #[.slice a xs.length ca, .slice b ys.length cb] w fun e w' => e = .returned (.bool (CG.same xs ys)) ∧ w = w' := by
  obtain ⟨D, hD⟩ : ∃ D, CG.same xs ys = D := ⟨_, rfl⟩
  rw [hD]
  have HD : Hid (CG.same xs ys = D) := hD
  have HX : Hid (∀ x, Calls Try.prog 18 #[.slice a xs.length ca, .int .i64 x] w fun e w' => e = .returned (.bool (EG.hasB xs x)) ∧ w = w') := fun x => l1Has_any a ca xs x w hx hax
  have HY : Hid _ := hay
  clear hD hax hay
  go_enter Try.func20, Try.ntmps20
  go_wp2
  go_loopw [9] (fun iv wr => ∃ k : Nat, iv = .int .i64 k ∧ k ≤ ys.length ∧ Hid (∀ j, j < k → CG.sameAt xs ys j = true) ∧ w = wr) (fun iv _ => (ys.length - intOf iv).toNat)
  case atStart => exact ⟨0, rfl, by omega, show Hid _ from fun j hj => by omega, rfl⟩
  case round =>
    obtain ⟨k, rfl, hk, hT, rfl⟩ := hrel
    by_cases hlk : k < ys.length
    · have hkc : k ≤ cb := by omega
      have HZ : Hid (∀ x, Calls Try.prog 18 #[.slice b k cb, .int .i64 x] w fun e w' => e = .returned (.bool (EG.hasB (ys.take k) x)) ∧ w = w') := fun x => by
        have hl : (ys.take k).length = k := by rw [List.length_take]; omega
        have h := l1Has_any b cb (ys.take k) x w (by omega) (CG.ints_take HY.out k)
        rw [hl] at h
        exact h
      have hN : Hid (CG.sameAt xs ys k = false → D = false) := fun e => by rw [← HD.out]; exact CG.same_no hlk e
      have hS : Hid (CG.sameAt xs ys k = true → ∀ j, j < k + 1 → CG.sameAt xs ys j = true) := fun e j hj => by
        by_cases c : j = k
        · subst c; exact e
        · exact hT.out j (by omega)
      obtain ⟨b1, off1, rfl, hlt1, c0⟩ := M4.IntsAt.at HY.out hlk
      have HX1 : Hid _ := HX.out (ys.getD k 0)
      have HZ1 : Hid _ := HZ.out (ys.getD k 0)
      have hsa : CG.sameAt xs ys k = (EG.hasB xs (ys.getD k 0) && !EG.hasB (ys.take k) (ys.getD k 0)) := rfl
      rw [hsa] at hN hS
      clear HX HZ HY hT HD hsa
      generalize ys.getD k 0 = y at *
      generalize EG.hasB xs y = r1 at *
      generalize EG.hasB (ys.take k) y = r2 at *
      cases r1
      · have hF : Hid _ := hN.out rfl
        clear hN hS HZ1
        go_wp2_with fail
        refine Calls.mono HX1.out ?_
        rintro e w1 ⟨rfl, rfl⟩
        clear HX1
        go_wp2
        go_ret
        exact ⟨M4.ret_bool hF.out.symm, rfl⟩
      · cases r2
        · have hT : Hid _ := hS.out rfl
          clear hN hS
          go_wp2_with fail
          refine Calls.mono HX1.out ?_
          rintro e w1 ⟨rfl, rfl⟩
          clear HX1
          go_wp2_with fail
          refine Calls.mono HZ1.out ?_
          rintro e w1 ⟨rfl, rfl⟩
          clear HZ1
          go_wp2
          go_roundw
          case rel => exact ⟨k + 1, by go_num, by omega, hT, trivial⟩
          case measure => simp [intOf]; omega
        · have hF : Hid _ := hN.out rfl
          clear hN hS
          go_wp2_with fail
          refine Calls.mono HX1.out ?_
          rintro e w1 ⟨rfl, rfl⟩
          clear HX1
          go_wp2_with fail
          refine Calls.mono HZ1.out ?_
          rintro e w1 ⟨rfl, rfl⟩
          clear HZ1
          go_wp2
          go_ret
          exact ⟨M4.ret_bool hF.out.symm, rfl⟩
    · obtain rfl : k = ys.length := by omega
      have hF : Hid (decide (xs.length = ys.length) = D) := by show _ = _; rw [← HD.out, CG.same_yes hT.out]
      clear HX HY hT HD
      by_cases hl : xs.length = ys.length
      · have hD : Hid (true = D) := by show _ = _; rw [← hF.out]; exact (decide_eq_true hl).symm
        have hq : ((xs.length : Int) == (ys.length : Int)) = true := by simp [hl]
        have hq2 : (xs.length == ys.length) = true := by simp [hl]
        clear hF hl
        go_wp2
        go_ret
        exact ⟨M4.ret_bool hD.out, rfl⟩
      · have hD : Hid (false = D) := by show _ = _; rw [← hF.out]; exact (decide_eq_false hl).symm
        have hq : ((xs.length : Int) == (ys.length : Int)) = false := by simp; omega
        have hq2 : (xs.length == ys.length) = false := by simp [hl]
        clear hF hl
        go_wp2
        go_ret
        exact ⟨M4.ret_bool hD.out, rfl⟩
end Go.Proofs.Ytfkmnmiolnijaaa

/- The specification's l16Has. -/
namespace Go.Proofs.Ytfkmnmiolnijaaa
open Go.RowKit
set_option maxHeartbeats 1600000 in
set_option maxRecDepth 100000 in
theorem l16Has_any (a : Option Addr) (cap : Nat) (hs : List I2) (h : I2) (w : World) (ho : hs.length ≤ 1048576) (hos : MI2.RowAt w a hs) :
    Calls Try.prog 29 #[.slice a hs.length cap, h.v] w fun e w' => e = .returned (.bool (CG.hasH hs h)) ∧ Below w.heap.size w w' := by
  obtain ⟨x0, x1⟩ := h
  have HI : Hid _ := hos
  clear hos
  have hB0 : Below w.heap.size w (w.alloc (.cells #[.int .i64 x0, .int .i64 x1] 61)) := (Below.refl _ w).alloc (Nat.le_refl _) _
  have b0 : BxN (w.alloc (.cells #[.int .i64 x0, .int .i64 x1] 61)) w.heap.size [.int .i64 x0, .int .i64 x1] 61 := BxN.new w _ _ rfl
  have l0 := b0.lt
  go_enter Try.func29, Try.ntmps29
  go_wp2
  generalize w.alloc (.cells #[.int .i64 x0, .int .i64 x1] 61) = W0 at *
  go_loopw [9] (fun iv wr => ∃ k : Nat, iv = .int .i64 k ∧ k ≤ hs.length ∧ Hid (CG.noH hs ⟨x0, x1⟩ k) ∧ Below W0.heap.size W0 wr) (fun iv _ => (hs.length - intOf iv).toNat)
  case atStart => exact ⟨0, rfl, by omega, show Hid _ from fun j hj => by omega, Below.refl _ _⟩
  case round =>
    obtain ⟨k, rfl, hk, hT, hb⟩ := hrel
    have hB1 := hB0.trans (hb.mono hB0.size)
    by_cases hlk : k < hs.length
    · obtain ⟨b1, off1, rfl, hlt1, c0, c1⟩ := ((HI.out.below hB0).below hb).at hlk
      have HY : Hid _ := fun e => CG.hasH_yes (h := ⟨x0, x1⟩) hlk e
      have HN : Hid _ := fun e => CG.noH_succ hT.out (k := k) e
      have b2 := b0.below hb l0
      clear HI hT b0
      generalize MI2.at_ hs k = y at *
      obtain ⟨y0, y1⟩ := y
      have b3 := b2.alloc (.cells #[.int .i64 y0, .int .i64 y1] 61)
      have hB2 : Below w.heap.size w (wr.alloc (.cells #[.int .i64 y0, .int .i64 y1] 61)) := hB1.alloc hB1.size _
      have hb2 : Below W0.heap.size W0 (wr.alloc (.cells #[.int .i64 y0, .int .i64 y1] 61)) := hb.alloc hb.size _
      have d0 := b3.cell 0 rfl
      have d1 := b3.cell 1 rfl
      clear b2 b3
      by_cases hxy : (⟨y0, y1⟩ : I2) = ⟨x0, x1⟩
      · have hF : Hid _ := HY.out hxy
        cases hxy
        clear HY HN
        go_wp2
        go_ret
        exact ⟨M4.ret_bool hF.out.symm, hB2⟩
      · have hT : Hid _ := HN.out hxy
        have hq : (y0 == x0) = false ∨ (y0 = x0 ∧ (y1 == x1) = false) := by
          by_cases e : y0 = x0
          · refine .inr ⟨e, ?_⟩
            rw [beq_eq_false_iff_ne]; intro e2; exact hxy (by rw [e, e2])
          · exact .inl (by rw [beq_eq_false_iff_ne]; exact e)
        clear HY HN hxy
        rcases hq with hq | ⟨rfl, hq⟩
        all_goals (
          go_wp2
          go_roundw
          case rel => exact ⟨k + 1, by go_num, by omega, hT, hb2⟩
          case measure => simp [intOf]; omega)
    · obtain rfl : k = hs.length := by omega
      have hF : Hid _ := CG.hasH_no hT.out
      clear HI hT
      go_wp2
      go_ret
      exact ⟨M4.ret_bool hF.out.symm, hB1⟩
end Go.Proofs.Ytfkmnmiolnijaaa

/- The specification's l16Keeper. -/
namespace Go.Proofs.Ytfkmnmiolnijaaa
open Go.RowKit
namespace CG
theorem rgK_no {n k : Nat} {f : Nat → Bool} (hk : k < n) (h : f k = false) : (List.range n).all f = false := by
  rw [Bool.eq_false_iff]; intro e; rw [List.all_eq_true.1 e k (List.mem_range.2 hk)] at h; cases h
theorem rgK_yes {n : Nat} {f : Nat → Bool} (h : ∀ k, k < n → f k = true) : (List.range n).all f = true := List.all_eq_true.2 fun k hk => h k (List.mem_range.1 hk)
theorem rgK_succ {k : Nat} {f : Nat → Bool} (h : ∀ j, j < k → f j = true) (h1 : f k = true) : ∀ j, j < k + 1 → f j = true := fun j hj => by
  by_cases c : j = k
  · subst c; exact h1
  · exact h j (by omega)
end CG
set_option linter.unusedSimpArgs false in
set_option maxHeartbeats 6400000 in
set_option maxRecDepth 100000 in
theorem l16Keeper_any (c : Cu) (k : Nat) (w : World) (hc : CuAt w c) (lc : CuLen c) (ht : TR.tree c.us = true) (hn : c.ks.length = c.us.length) (hk : k < c.ks.length) :
    Calls Try.prog 16 #[c.v, .int .i64 (k : Int)] w fun e w' => e = .returned (.bool (CG.keepS c.said k)) ∧ Below w.heap.size w w' := by
  obtain ⟨us, ks, ls, ns, ua, ka, la, na, uc, kc, lcc, nc⟩ := c
  obtain ⟨hu, hkr, -, -, -⟩ := hc
  obtain ⟨l1, l2, -, -, l5⟩ := lc
  simp only at hu hkr l1 l2 l5 ht hn hk
  obtain ⟨S, hS⟩ : ∃ S, Cu.said ⟨us, ks, ls, ns, ua, ka, la, na, uc, kc, lcc, nc⟩ = S := ⟨_, rfl⟩
  have SD : Hid (∀ k, k < ks.length → CG.sd S k = (KP.at_ ks k).said) := fun k hk => by rw [← hS]; exact KP.sd_at hk
  have SU : Hid (S.us = us) := by show _ = _; rw [← hS]; rfl
  rw [hS]
  clear hS
  obtain ⟨B, hB⟩ : ∃ B, CG.keepS S k = B := ⟨_, rfl⟩
  rw [hB]
  unfold CG.keepS at hB
  rw [SD.out k hk, SU.out] at hB
  have HT : Hid _ := ht
  have HNL : Hid _ := hn
  have hu8 : us.length ≤ 8 := ((TR.tree_iff us).1 ht).1.2
  have lk := l5 k hk
  have HS : Hid (∀ (W : World) (j : Nat) (id : Int), j < ks.length → Below w.heap.size w W → Calls Try.prog 18 #[.slice (KP.at_ ks j).sa (KP.at_ ks j).ss.length (KP.at_ ks j).sc, .int .i64 id] W fun e w' => e = .returned (.bool (EG.hasB (CG.sd S j).1 id)) ∧ W = w') := fun W j id h hW => by
    rw [SD.out j h]
    exact l1Has_any (KP.at_ ks j).sa (KP.at_ ks j).sc (KP.at_ ks j).ss id W (l5 j h).1 (M4.IntsAt.below (hkr.row j h).s.at_ hW)
  have HSO : Hid (∀ (W : World) (R : Bool), Hid (EG.rises 6 (KP.at_ ks k).ss = R) → Below w.heap.size w W → Calls Try.prog 35 #[.slice (KP.at_ ks k).sa (KP.at_ ks k).ss.length (KP.at_ ks k).sc, .int .i64 6] W fun e w' => e = .returned (.bool R) ∧ Below W.heap.size W w') := fun W R hR hW => l1Some_any (KP.at_ ks k).sa (KP.at_ ks k).sc 6 (KP.at_ ks k).ss W (by omega) lk.1 (M4.IntsAt.below (hkr.row k hk).s.at_ hW) R hR
  have HSA : Hid (∀ (W : World), Below w.heap.size w W → Calls Try.prog 20 #[.slice (KP.at_ ks k).sa (KP.at_ ks k).ss.length (KP.at_ ks k).sc, .slice (KP.at_ ks k).ta (KP.at_ ks k).ts.length (KP.at_ ks k).tc] W fun e w' => e = .returned (.bool (CG.same (KP.at_ ks k).ss (KP.at_ ks k).ts)) ∧ W = w') := fun W hW => l16Same_any (KP.at_ ks k).sa (KP.at_ ks k).ta (KP.at_ ks k).sc (KP.at_ ks k).tc (KP.at_ ks k).ss (KP.at_ ks k).ts W lk.1 lk.2.2 (hkr.row k hk).cp.2.2 (M4.IntsAt.below (hkr.row k hk).s.at_ hW) (M4.IntsAt.below (hkr.row k hk).t.at_ hW)
  have HKD : Hid (∀ W : World, Below w.heap.size w W → Calls Try.prog 36 #[.slice ua us.length uc, .int .i64 (k : Int)] W fun e w' => ∃ a1 c1, e = .returned (.slice a1 (TR.kids us k).length c1) ∧ M4.IntsAt w' a1 (TR.kids us k) ∧ Below W.heap.size W w') := fun W hW => (l16Children_any ua uc us (k : Int) W hu8 (M4.IntsAt.below hu hW) _ rfl).mono fun e w' h => by
    obtain ⟨a1, c1, rfl, ho, hb⟩ := h
    refine ⟨a1, c1, rfl, ?_, hb⟩
    rcases ho.2 with ⟨_, h0⟩ | ⟨g', cap, cur, h, _⟩
    · exact .inl (List.length_eq_zero_iff.1 h0)
    · cases h; exact M5.own_ints ho
  have HHH : Hid (∀ (W : World) (h : I2), Below w.heap.size w W → Calls Try.prog 29 #[.slice (KP.at_ ks k).ha (KP.at_ ks k).hs.length (KP.at_ ks k).hc, h.v] W fun e w' => e = .returned (.bool (CG.hasH (KP.at_ ks k).hs h)) ∧ Below W.heap.size W w') := fun W h hW => l16Has_any (KP.at_ ks k).ha (KP.at_ ks k).hc (KP.at_ ks k).hs h W lk.2.1 ((hkr.row k hk).h.at_.below hW)
  have HK : Hid (∀ W : World, Below w.heap.size w W → KP.RowAt W 0 ka ks) := fun W hW => hkr.below hW
  have HU : Hid (∀ W : World, Below w.heap.size w W → M4.IntsAt W ua us) := fun W hW => M4.IntsAt.below hu hW
  have HI : Hid (∀ W : World, Below w.heap.size w W → M4.IntsAt W (KP.at_ ks k).sa (KP.at_ ks k).ss ∧ MI2.RowAt W (KP.at_ ks k).ha (KP.at_ ks k).hs) := fun W hW => ⟨M4.IntsAt.below (hkr.row k hk).s.at_ hW, (hkr.row k hk).h.at_.below hW⟩
  obtain ⟨b1, off1, rfl, hlt1, c0, c1, c2, -⟩ := hkr.at hk
  have hs1 : (KP.at_ ks k).ss.length ≤ 1048576 := lk.1
  have hh1 : (KP.at_ ks k).hs.length ≤ 1048576 := lk.2.1
  obtain ⟨kd, hkd⟩ : ∃ kd, TR.kids us (k : Int) = kd := ⟨_, rfl⟩
  have HKM : Hid (∀ x, x ∈ kd → ∃ i : Nat, i < ks.length ∧ x = (i : Int)) := fun x hx => by
    rw [← hkd] at hx
    obtain ⟨i, hi, -, rfl⟩ := (CG.kids_mem ht (by omega) x).1 hx
    exact ⟨i, by rw [hn]; exact hi, rfl⟩
  have hkdl : kd.length ≤ 8 := by
    have h := TR.those_len us.length (fun i => decide (0 < i) && decide (us.getD i 0 = (k : Int)))
    have e : (TR.kids us (k : Int)).length ≤ us.length := h
    rw [hkd] at e; omega
  rw [hkd] at hB HKD
  have HHK : Hid (∀ (W : World) (a : Option Addr) (ca : Nat) (x : Int), M4.IntsAt W a kd → Calls Try.prog 18 #[.slice a kd.length ca, .int .i64 x] W fun e w' => e = .returned (.bool (EG.hasB kd x)) ∧ W = w') := fun W a ca x h => l1Has_any a ca kd x W (by omega) h
  have HSK : Hid (∀ (W : World) (x : Int), Below w.heap.size w W → Calls Try.prog 18 #[.slice (KP.at_ ks k).sa (KP.at_ ks k).ss.length (KP.at_ ks k).sc, .int .i64 x] W fun e w' => e = .returned (.bool (EG.hasB (KP.at_ ks k).ss x)) ∧ W = w') := fun W x hW => by
    have h := HS.out W k x hk hW
    rw [SD.out k hk] at h
    exact h
  have HB : Hid _ := hB
  have hup : 0 < k → 0 ≤ us.getD k 0 ∧ us.getD k 0 < (k : Int) := fun h => CG.up_of_tree ht (by omega) h
  have HUP : Hid _ := hup
  clear hkd hu hkr l5 lk hB ht hn hup
  generalize KP.at_ ks k = p at *
  obtain ⟨ss, hs, ts, sa, ha, ta, sc, hc, tc⟩ := p
  simp only at c0 c1 c2 hs1 hh1
  have hB0 : Below w.heap.size w ((w.alloc (.cells #[.slice ua us.length uc, .slice (some ⟨b1, off1, none⟩) ks.length kc, .slice la ls.length lcc, .slice na ns.length nc] 32)).alloc (.cells #[.slice sa ss.length sc, .slice ha hs.length hc, .slice ta ts.length tc] 50)) := ((Below.refl _ w).alloc (Nat.le_refl _) _).alloc (by simp) _
  have x0 : BxN ((w.alloc (.cells #[.slice ua us.length uc, .slice (some ⟨b1, off1, none⟩) ks.length kc, .slice la ls.length lcc, .slice na ns.length nc] 32)).alloc (.cells #[.slice sa ss.length sc, .slice ha hs.length hc, .slice ta ts.length tc] 50)) w.heap.size [.slice ua us.length uc, .slice (some ⟨b1, off1, none⟩) ks.length kc, .slice la ls.length lcc, .slice na ns.length nc] 32 := (BxN.new w _ _ rfl).alloc _
  have z0 : BxN ((w.alloc (.cells #[.slice ua us.length uc, .slice (some ⟨b1, off1, none⟩) ks.length kc, .slice la ls.length lcc, .slice na ns.length nc] 32)).alloc (.cells #[.slice sa ss.length sc, .slice ha hs.length hc, .slice ta ts.length tc] 50)) (w.heap.size + 1) [.slice sa ss.length sc, .slice ha hs.length hc, .slice ta ts.length tc] 50 := BxN.new _ _ _ (by simp)
  obtain ⟨R1, hR1⟩ : ∃ R, EG.rises 6 ss = R := ⟨_, rfl⟩
  have HSO2 : Hid _ := fun W hW => HSO.out W R1 hR1 hW
  obtain ⟨R2, hR2⟩ : ∃ R, CG.same ss ts = R := ⟨_, rfl⟩
  simp only [hR2] at HSA
  have HB2 : Hid ((R1 && R2 && (ss.all fun id => decide (k = 0) || EG.hasB (CG.sd S (CG.upOf S k)).1 id) &&
      ((List.range hs.length).all fun j => EG.hasB ss (MI2.at_ hs j).a0 && EG.hasB kd (MI2.at_ hs j).a1 && (decide (j = 0) || CG.lessH (MI2.at_ hs (j - 1)) (MI2.at_ hs j))) &&
      (ss.all fun id => kd.all fun ch => EG.hasB (CG.sd S ch.toNat).1 id || CG.hasH hs ⟨id, ch⟩)) = B) := by rw [← hR1, ← hR2]; exact HB.out
  clear HSO HB hR1 hR2
  have d0 := (hB0.cell (p := ⟨b1, off1 + k * 3, none⟩) hlt1).trans c0
  have d1 := (hB0.cell (p := ⟨b1, off1 + k * 3 + 1, none⟩) hlt1).trans c1
  have d2 := (hB0.cell (p := ⟨b1, off1 + k * 3 + 2, none⟩) hlt1).trans c2
  go_enter Try.func16, Try.ntmps16
  go_wp2_with fail
  generalize ((w.alloc (.cells #[.slice ua us.length uc, .slice (some ⟨b1, off1, none⟩) ks.length kc, .slice la ls.length lcc, .slice na ns.length nc] 32)).alloc (.cells #[.slice sa ss.length sc, .slice ha hs.length hc, .slice ta ts.length tc] 50)) = W0 at *
  refine Calls.mono (HSO2.out W0 hB0) ?_
  rintro e w1 ⟨rfl, hb1⟩
  have hB1 := hB0.trans (hb1.mono hB0.size)
  have x1 := x0.below hb1 x0.lt
  have z1 := z0.below hb1 z0.lt
  clear HSO2 hb1 x0 z0 hB0 c0 c1 c2 d0 d1 d2
  cases R1
  case false =>
    have hF : Hid (B = false) := by show _ = _; rw [← HB2.out]; rfl
    clear HB2 HS HSA HKD HHH HK HU HI HKM HHK HSK x1 z1 SD SU
    go_wp2
    go_ret
    exact ⟨M4.ret_bool hF.out.symm, hB1⟩
  have a0 := z1.cell 0 rfl
  have a2 := z1.cell 2 rfl
  go_wp2_with fail
  refine Calls.mono (HSA.out w1 hB1) ?_
  rintro e w2 ⟨rfl, rfl⟩
  clear HSA a2
  cases R2
  case false =>
    have hF : Hid (B = false) := by show _ = _; rw [← HB2.out]; rfl
    clear HB2 HS HKD HHH HK HU HI HKM HHK HSK x1 z1 SD SU
    go_wp2
    go_ret
    exact ⟨M4.ret_bool hF.out.symm, hB1⟩
  have HB3 : Hid (((ss.all fun id => decide (k = 0) || EG.hasB (CG.sd S (CG.upOf S k)).1 id) &&
      ((List.range hs.length).all fun j => EG.hasB ss (MI2.at_ hs j).a0 && EG.hasB kd (MI2.at_ hs j).a1 && (decide (j = 0) || CG.lessH (MI2.at_ hs (j - 1)) (MI2.at_ hs j))) &&
      (ss.all fun id => kd.all fun ch => EG.hasB (CG.sd S ch.toNat).1 id || CG.hasH hs ⟨id, ch⟩)) = B) := by show _ = _; rw [← HB2.out]; rfl
  clear HB2
  have lx1 := x1.lt
  have lz1 := z1.lt
  go_wp2_with fail
  go_loopw [35] (fun iv wr => ∃ j : Nat, iv = .int .i64 j ∧ j ≤ ss.length ∧ Hid (∀ m, m < j → (decide (k = 0) || EG.hasB (CG.sd S (CG.upOf S k)).1 (ss.getD m 0)) = true) ∧ Below w1.heap.size w1 wr) (fun iv _ => (ss.length - intOf iv).toNat)
  case atStart => exact ⟨0, rfl, by omega, show Hid _ from fun j hj => by omega, Below.refl _ _⟩
  case round =>
    obtain ⟨j, rfl, hj, hT, hb⟩ := hrel
    have hB2 := hB1.trans (hb.mono hB1.size)
    have x2 := x1.below hb lx1
    have lx2 := x2.lt
    by_cases hlj : j < ss.length
    · obtain ⟨b2, off2, rfl, hlt2, e0⟩ := M4.IntsAt.at (HI.out wr hB2).1 hlj
      have HN : Hid ((decide (k = 0) || EG.hasB (CG.sd S (CG.upOf S k)).1 (ss.getD j 0)) = false → B = false) := fun e => by
        rw [← HB3.out, CG.allI_no (f := fun id => decide (k = 0) || EG.hasB (CG.sd S (CG.upOf S k)).1 id) hlj e]; rfl
      have HY : Hid ((decide (k = 0) || EG.hasB (CG.sd S (CG.upOf S k)).1 (ss.getD j 0)) = true → ∀ m, m < j + 1 → (decide (k = 0) || EG.hasB (CG.sd S (CG.upOf S k)).1 (ss.getD m 0)) = true) := fun e => CG.allI_succ (f := fun id => decide (k = 0) || EG.hasB (CG.sd S (CG.upOf S k)).1 id) hT.out e
      generalize hidv : ss.getD j 0 = id at *
      clear hidv
      by_cases hk0 : k = 0
      · have hT : Hid _ := HY.out (by rw [decide_eq_true hk0]; rfl)
        have hkz : decide ((0 : Int) < (k : Int)) = false := by simp; omega
        have hkz2 : decide (0 < k) = false := by simp; omega
        clear HN HY HS HKD HHH HK HU HI HKM HHK HSK x1 z1 x2 SD SU HB3 hk0 a0
        go_wp2_with fail
        clear e0
        refine MR.frame fun A hA => ?_
        have hsz : A.tmps.size = 131 := by rw [hA]; rfl
        have e1 : A.eval (.tmp 1) = .int .i64 (k : Int) := by rw [hA]; rfl
        have f1 := MR.read (t := 1) (by rw [hsz]; decide) e1
        have e2 : A.eval (.tmp 2) = .pointer (some ⟨w.heap.size, 0, none⟩) := by rw [hA]; rfl
        have f2 := MR.read (t := 2) (by rw [hsz]; decide) e2
        have e7 : A.eval (.tmp 7) = .int .i64 id := by rw [hA]; rfl
        have f7 := MR.read (t := 7) (by rw [hsz]; decide) e7
        have HA : Hid (A = _) := hA
        clear hA
        have hS : (fun W => Below wr.heap.size wr W) (World.drew _) := (Below.refl _ wr).drew
        refine wp_region_held (S := fun W => Below wr.heap.size wr W) (by kernel_rfl) ?_
        change wpAnyH _ _ _ _ _ _ _ _ (World.drew _)
        refine MR.takeH (i := 0) (some 39) (.int .i64 (k : Int)) rfl rfl (by kernel_rfl) (by kernel_rfl) (by kernel_rfl) (fun _ _ _ h => h) hS (MR.free rfl) (fun wq hw => by simp [execOp, MR.ev, MR.size, hsz, e1, f1, e2, f2, e7, f7, go_sem]) ?_
        refine MR.takeH (i := 1) (some 40) (.bool false) rfl rfl (by kernel_rfl) (by kernel_rfl) (by kernel_rfl) (fun _ _ _ h => h) hS (MR.free rfl) (fun wq hw => by simp [execOp, MR.ev, MR.size, hsz, e1, f1, e2, f2, e7, f7, hkz, hkz2, go_sem]) ?_
        refine MR.takeH (i := 2) (some 41) (.bool false) rfl rfl (by kernel_rfl) (by kernel_rfl) (by kernel_rfl) (fun _ _ _ h => h) hS (MR.free rfl) (fun wq hw => by simp [execOp, MR.ev, MR.size, hsz, e1, f1, e2, f2, e7, f7, go_sem]) ?_
        refine MR.skipH (i := 3) (some 42) rfl rfl (by kernel_rfl) (by kernel_rfl) (by kernel_rfl) (fun _ _ _ h => h) hS (MR.unwant (d := 41) (b' := false) rfl rfl (by simp [MR.size, hsz]) (by simp [MR.ev, MR.size, hsz, e1, f1, e2, f2, e7, f7]) (by decide)) ?_
        refine MR.skipH (i := 4) (some 43) rfl rfl (by kernel_rfl) (by kernel_rfl) (by kernel_rfl) (fun _ _ _ h => h) hS (MR.unwant (d := 41) (b' := false) rfl rfl (by simp [MR.size, hsz]) (by simp [MR.ev, MR.size, hsz, e1, f1, e2, f2, e7, f7]) (by decide)) ?_
        refine MR.skipH (i := 5) (some 44) rfl rfl (by kernel_rfl) (by kernel_rfl) (by kernel_rfl) (fun _ _ _ h => h) hS (MR.unwant (d := 41) (b' := false) rfl rfl (by simp [MR.size, hsz]) (by simp [MR.ev, MR.size, hsz, e1, f1, e2, f2, e7, f7]) (by decide)) ?_
        refine MR.skipH (i := 6) (some 45) rfl rfl (by kernel_rfl) (by kernel_rfl) (by kernel_rfl) (fun _ _ _ h => h) hS (MR.unwant (d := 41) (b' := false) rfl rfl (by simp [MR.size, hsz]) (by simp [MR.ev, MR.size, hsz, e1, f1, e2, f2, e7, f7]) (by decide)) ?_
        refine MR.skipH (i := 7) (some 46) rfl rfl (by kernel_rfl) (by kernel_rfl) (by kernel_rfl) (fun _ _ _ h => h) hS (MR.unwant (d := 41) (b' := false) rfl rfl (by simp [MR.size, hsz]) (by simp [MR.ev, MR.size, hsz, e1, f1, e2, f2, e7, f7]) (by decide)) ?_
        refine MR.skipH (i := 8) (some 47) rfl rfl (by kernel_rfl) (by kernel_rfl) (by kernel_rfl) (fun _ _ _ h => h) hS (MR.unwant (d := 41) (b' := false) rfl rfl (by simp [MR.size, hsz]) (by simp [MR.ev, MR.size, hsz, e1, f1, e2, f2, e7, f7]) (by decide)) ?_
        refine MR.skipH (i := 9) (some 48) rfl rfl (by kernel_rfl) (by kernel_rfl) (by kernel_rfl) (fun _ _ _ h => h) hS (MR.unwant (d := 41) (b' := false) rfl rfl (by simp [MR.size, hsz]) (by simp [MR.ev, MR.size, hsz, e1, f1, e2, f2, e7, f7]) (by decide)) ?_
        refine MR.skipH (i := 10) (some 49) rfl rfl (by kernel_rfl) (by kernel_rfl) (by kernel_rfl) (fun _ _ _ h => h) hS (MR.unwant (d := 41) (b' := false) rfl rfl (by simp [MR.size, hsz]) (by simp [MR.ev, MR.size, hsz, e1, f1, e2, f2, e7, f7]) (by decide)) ?_
        refine MR.skipH (i := 11) (some 50) rfl rfl (by kernel_rfl) (by kernel_rfl) (by kernel_rfl) (fun _ _ _ h => h) hS (MR.unwant (d := 41) (b' := false) rfl rfl (by simp [MR.size, hsz]) (by simp [MR.ev, MR.size, hsz, e1, f1, e2, f2, e7, f7]) (by decide)) ?_
        refine MR.skipH (i := 12) (some 51) rfl rfl (by kernel_rfl) (by kernel_rfl) (by kernel_rfl) (fun _ _ _ h => h) hS (MR.unwant (d := 41) (b' := false) rfl rfl (by simp [MR.size, hsz]) (by simp [MR.ev, MR.size, hsz, e1, f1, e2, f2, e7, f7]) (by decide)) ?_
        refine MR.skipH (i := 13) (some 52) rfl rfl (by kernel_rfl) (by kernel_rfl) (by kernel_rfl) (fun _ _ _ h => h) hS (MR.unwant (d := 41) (b' := false) rfl rfl (by simp [MR.size, hsz]) (by simp [MR.ev, MR.size, hsz, e1, f1, e2, f2, e7, f7]) (by decide)) ?_
        refine MR.skipH (i := 14) (some 53) rfl rfl (by kernel_rfl) (by kernel_rfl) (by kernel_rfl) (fun _ _ _ h => h) hS (MR.unwant (d := 41) (b' := false) rfl rfl (by simp [MR.size, hsz]) (by simp [MR.ev, MR.size, hsz, e1, f1, e2, f2, e7, f7]) (by decide)) ?_
        refine MR.skipH (i := 15) (some 54) rfl rfl (by kernel_rfl) (by kernel_rfl) (by kernel_rfl) (fun _ _ _ h => h) hS (MR.unwant (d := 41) (b' := false) rfl rfl (by simp [MR.size, hsz]) (by simp [MR.ev, MR.size, hsz, e1, f1, e2, f2, e7, f7]) (by decide)) ?_
        refine MR.takeH (i := 16) (some 55) (.bool false) rfl rfl (by kernel_rfl) (by kernel_rfl) (by kernel_rfl) (fun _ _ _ h => h) hS (MR.free rfl) (fun wq hw => by simp [execOp, MR.ev, MR.size, hsz, e1, f1, e2, f2, e7, f7, go_sem]) ?_
        refine wpAnyH_done (by kernel_rfl) ?_ _
        rw [HA.out]
        simp only [Act.put, List.setIfInBounds_toArray, List.set_cons_succ, List.set_cons_zero]
        have hbb := hb.trans (hS.mono hb.size)
        clear HA hsz e1 f1 e2 f2 e7 f7 hS
        go_wp2
        go_roundw
        case rel => exact ⟨j + 1, by go_num, by omega, hT, hbb⟩
        case measure => simp [intOf]; omega
      · obtain ⟨v0, v1⟩ := HUP.out (by omega)
        have hku : k < us.length := by have := HNL.out; omega
        obtain ⟨b3, off3, rfl, hlt3, u0⟩ := M4.IntsAt.at (HU.out wr hB2) hku
        obtain ⟨node, hnode⟩ : ∃ node : Nat, us.getD k 0 = node := ⟨(us.getD k 0).toNat, by omega⟩
        have hu2 : CG.upOf S k = node := by unfold CG.upOf; rw [SU.out, hnode]; exact Int.toNat_natCast node
        rw [hnode] at u0 v1
        have hnk : node < ks.length := by omega
        obtain ⟨b1', off1', he, -, g0, -, -, -⟩ := (HK.out wr hB2).at hnk
        simp only [Option.some.injEq, Addr.mk.injEq] at he
        obtain ⟨rfl, rfl, -⟩ := he
        have HN2 : Hid (EG.hasB (CG.sd S node).1 id = false → B = false) := fun e => HN.out (by rw [decide_eq_false hk0, hu2, e]; rfl)
        have HY2 : Hid (EG.hasB (CG.sd S node).1 id = true → ∀ m, m < j + 1 → (decide (k = 0) || EG.hasB (CG.sd S (CG.upOf S k)).1 (ss.getD m 0)) = true) := fun e => HY.out (by rw [hu2, e]; exact Bool.or_true _)
        clear HN HY
        have RH : Hid (∀ W, Below w.heap.size w W → Calls Try.prog 18 #[.slice (KP.at_ ks node).sa (KP.at_ ks node).ss.length (KP.at_ ks node).sc, .int .i64 id] W fun e w' => e = .returned (.bool (EG.hasB (CG.sd S node).1 id)) ∧ W = w') := fun W hW => HS.out W node id hnk hW
        generalize KP.at_ ks node = pu at *
        obtain ⟨us', uh', ut', usa, uha, uta, usc, uhc, utc⟩ := pu
        simp only at g0
        obtain ⟨r, hr⟩ : ∃ r, EG.hasB (CG.sd S node).1 id = r := ⟨_, rfl⟩
        rw [hr] at HN2 HY2
        simp only [hr] at RH
        have q0 : (0 : Int) ≤ (k : Int) := by omega
        have q1 : (k : Int) < (us.length : Int) := by omega
        have q2 : (0 : Int) ≤ (node : Int) := by omega
        have q3 : (node : Int) < (ks.length : Int) := by omega
        have hkz : decide ((0 : Int) < (k : Int)) = true := by simp; omega
        have hkz2 : (0 : Int) < (k : Int) := by omega
        have hkz3 : 0 < k := by omega
        have LD : Hid (∀ W : World, Below wr.heap.size wr W → W.cell? ⟨w.heap.size, 1, none⟩ = some (.slice (some ⟨b1, off1, none⟩) ks.length kc) ∧ W.cell? ⟨w.heap.size, 0, none⟩ = some (.slice (some ⟨b3, off3, none⟩) us.length uc) ∧ W.cell? ⟨b3, off3 + k, none⟩ = some (.int .i64 (node : Int)) ∧ W.cell? ⟨b1, off1 + node * 3, none⟩ = some (.slice usa us'.length usc)) := fun W h =>
          ⟨(x2.below h lx2).cell 1 rfl, (x2.below h lx2).cell 0 rfl, (h.cell (p := ⟨_, _, none⟩) hlt3).trans u0, (h.cell (p := ⟨_, _, none⟩) (Nat.lt_of_lt_of_le hlt1 hB2.size)).trans g0⟩
        clear hr hnode hu2 hnk HS HKD HHH HK HU HI HKM HHK HSK x1 z1 x2 SD SU HB3 a0 u0 g0 hku hT
        go_wp2_with fail
        cases r
        case false =>
          have hF : Hid _ := HN2.out rfl
          clear HN2 HY2
          refine MR.frame fun A hA => ?_
          have hsz : A.tmps.size = 131 := by rw [hA]; rfl
          have e1 : A.eval (.tmp 1) = .int .i64 (k : Int) := by rw [hA]; rfl
          have f1 := MR.read (t := 1) (by rw [hsz]; decide) e1
          have e2 : A.eval (.tmp 2) = .pointer (some ⟨w.heap.size, 0, none⟩) := by rw [hA]; rfl
          have f2 := MR.read (t := 2) (by rw [hsz]; decide) e2
          have e7 : A.eval (.tmp 7) = .int .i64 id := by rw [hA]; rfl
          have f7 := MR.read (t := 7) (by rw [hsz]; decide) e7
          have HA : Hid (A = _) := hA
          clear hA
          have hS : (fun W => Below wr.heap.size wr W) (World.drew _) := (Below.refl _ wr).drew
          refine wp_region_held (S := fun W => Below wr.heap.size wr W) (by kernel_rfl) ?_
          change wpAnyH _ _ _ _ _ _ _ _ (World.drew _)
          refine MR.takeH (i := 0) (some 39) (.int .i64 (k : Int)) rfl rfl (by kernel_rfl) (by kernel_rfl) (by kernel_rfl) (fun _ _ _ h => h) hS (MR.free rfl) (fun wq hw => by simp [execOp, MR.ev, MR.size, hsz, e1, f1, e2, f2, e7, f7, go_sem]) ?_
          refine MR.takeH (i := 1) (some 40) (.bool true) rfl rfl (by kernel_rfl) (by kernel_rfl) (by kernel_rfl) (fun _ _ _ h => h) hS (MR.free rfl) (fun wq hw => by simp [execOp, MR.ev, MR.size, hsz, e1, f1, e2, f2, e7, f7, hkz, hkz2, hkz3, go_sem]) ?_
          refine MR.takeH (i := 2) (some 41) (.bool true) rfl rfl (by kernel_rfl) (by kernel_rfl) (by kernel_rfl) (fun _ _ _ h => h) hS (MR.free rfl) (fun wq hw => by simp [execOp, MR.ev, MR.size, hsz, e1, f1, e2, f2, e7, f7, go_sem]) ?_
          refine MR.takeH (i := 3) (some 42) (.pointer (some ⟨w.heap.size, 1, none⟩)) rfl rfl (by kernel_rfl) (by kernel_rfl) (by kernel_rfl) (fun _ _ _ h => h) hS (MR.want (d := 41) rfl rfl (by simp [MR.size, hsz]) (by simp [MR.ev, MR.size, hsz, e1, f1, e2, f2, e7, f7])) (fun wq hw => by simp [execOp, MR.ev, MR.size, hsz, e1, f1, e2, f2, e7, f7, go_sem]) ?_
          refine MR.takeH (i := 4) (some 43) (.slice (some ⟨b1, off1, none⟩) ks.length kc) rfl rfl (by kernel_rfl) (by kernel_rfl) (by kernel_rfl) (fun _ _ _ h => h) hS (MR.want (d := 41) rfl rfl (by simp [MR.size, hsz]) (by simp [MR.ev, MR.size, hsz, e1, f1, e2, f2, e7, f7])) (fun wq hw => by simp [execOp, MR.ev, MR.size, hsz, e1, f1, e2, f2, e7, f7, (LD.out wq hw).1, go_sem]) ?_
          refine MR.takeH (i := 5) (some 44) (.pointer (some ⟨w.heap.size, 0, none⟩)) rfl rfl (by kernel_rfl) (by kernel_rfl) (by kernel_rfl) (fun _ _ _ h => h) hS (MR.want (d := 41) rfl rfl (by simp [MR.size, hsz]) (by simp [MR.ev, MR.size, hsz, e1, f1, e2, f2, e7, f7])) (fun wq hw => by simp [execOp, MR.ev, MR.size, hsz, e1, f1, e2, f2, e7, f7, go_sem]) ?_
          refine MR.takeH (i := 6) (some 45) (.slice (some ⟨b3, off3, none⟩) us.length uc) rfl rfl (by kernel_rfl) (by kernel_rfl) (by kernel_rfl) (fun _ _ _ h => h) hS (MR.want (d := 41) rfl rfl (by simp [MR.size, hsz]) (by simp [MR.ev, MR.size, hsz, e1, f1, e2, f2, e7, f7])) (fun wq hw => by simp [execOp, MR.ev, MR.size, hsz, e1, f1, e2, f2, e7, f7, (LD.out wq hw).2.1, go_sem]) ?_
          refine MR.takeH (i := 7) (some 46) (.int .i64 (k : Int)) rfl rfl (by kernel_rfl) (by kernel_rfl) (by kernel_rfl) (fun _ _ _ h => h) hS (MR.want (d := 41) rfl rfl (by simp [MR.size, hsz]) (by simp [MR.ev, MR.size, hsz, e1, f1, e2, f2, e7, f7])) (fun wq hw => by simp [execOp, MR.ev, MR.size, hsz, e1, f1, e2, f2, e7, f7, go_sem]) ?_
          refine MR.takeH (i := 8) (some 47) (.pointer (some ⟨b3, off3 + k, none⟩)) rfl rfl (by kernel_rfl) (by kernel_rfl) (by kernel_rfl) (fun _ _ _ h => h) hS (MR.want (d := 41) rfl rfl (by simp [MR.size, hsz]) (by simp [MR.ev, MR.size, hsz, e1, f1, e2, f2, e7, f7])) (fun wq hw => by simp [execOp, MR.ev, MR.size, hsz, e1, f1, e2, f2, e7, f7, q0, q1, go_sem]) ?_
          refine MR.takeH (i := 9) (some 48) (.int .i64 (node : Int)) rfl rfl (by kernel_rfl) (by kernel_rfl) (by kernel_rfl) (fun _ _ _ h => h) hS (MR.want (d := 41) rfl rfl (by simp [MR.size, hsz]) (by simp [MR.ev, MR.size, hsz, e1, f1, e2, f2, e7, f7])) (fun wq hw => by simp [execOp, MR.ev, MR.size, hsz, e1, f1, e2, f2, e7, f7, (LD.out wq hw).2.2.1, go_sem]) ?_
          refine MR.takeH (i := 10) (some 49) (.pointer (some ⟨b1, off1 + node * 3, none⟩)) rfl rfl (by kernel_rfl) (by kernel_rfl) (by kernel_rfl) (fun _ _ _ h => h) hS (MR.want (d := 41) rfl rfl (by simp [MR.size, hsz]) (by simp [MR.ev, MR.size, hsz, e1, f1, e2, f2, e7, f7])) (fun wq hw => by simp [execOp, MR.ev, MR.size, hsz, e1, f1, e2, f2, e7, f7, q2, q3, go_sem]) ?_
          refine MR.takeH (i := 11) (some 50) (.pointer (some ⟨b1, off1 + node * 3, none⟩)) rfl rfl (by kernel_rfl) (by kernel_rfl) (by kernel_rfl) (fun _ _ _ h => h) hS (MR.want (d := 41) rfl rfl (by simp [MR.size, hsz]) (by simp [MR.ev, MR.size, hsz, e1, f1, e2, f2, e7, f7])) (fun wq hw => by simp [execOp, MR.ev, MR.size, hsz, e1, f1, e2, f2, e7, f7, go_sem]) ?_
          refine MR.takeH (i := 12) (some 51) (.slice usa us'.length usc) rfl rfl (by kernel_rfl) (by kernel_rfl) (by kernel_rfl) (fun _ _ _ h => h) hS (MR.want (d := 41) rfl rfl (by simp [MR.size, hsz]) (by simp [MR.ev, MR.size, hsz, e1, f1, e2, f2, e7, f7])) (fun wq hw => by simp [execOp, MR.ev, MR.size, hsz, e1, f1, e2, f2, e7, f7, (LD.out wq hw).2.2.2, go_sem]) ?_
          refine MR.takeH (i := 13) (some 52) (.int .i64 id) rfl rfl (by kernel_rfl) (by kernel_rfl) (by kernel_rfl) (fun _ _ _ h => h) hS (MR.want (d := 41) rfl rfl (by simp [MR.size, hsz]) (by simp [MR.ev, MR.size, hsz, e1, f1, e2, f2, e7, f7])) (fun wq hw => by simp [execOp, MR.ev, MR.size, hsz, e1, f1, e2, f2, e7, f7, go_sem]) ?_
          refine MR.callH (i := 14) (some 53) (18) (#[.slice usa us'.length usc, .int .i64 id]) (by kernel_rfl) rfl rfl (MR.want (d := 41) rfl rfl (by simp [MR.size, hsz]) (by simp [MR.ev, MR.size, hsz, e1, f1, e2, f2, e7, f7])) (by simp [execOp, MR.ev, MR.size, hsz, e1, f1, e2, f2, e7, f7, go_sem]) ?_
          refine Calls.mono (RH.out _ (hB2.trans (hS.mono hB2.size))) ?_
          rintro e wn ⟨rfl, rfl⟩
          refine ⟨_, rfl, hS, ?_⟩
          refine MR.takeH (i := 15) (some 54) (.bool true) rfl rfl (by kernel_rfl) (by kernel_rfl) (by kernel_rfl) (fun _ _ _ h => h) hS (MR.want (d := 41) rfl rfl (by simp [MR.size, hsz]) (by simp [MR.ev, MR.size, hsz, e1, f1, e2, f2, e7, f7])) (fun wq hw => by simp [execOp, MR.ev, MR.size, hsz, e1, f1, e2, f2, e7, f7, go_sem]) ?_
          refine MR.takeH (i := 16) (some 55) (.bool true) rfl rfl (by kernel_rfl) (by kernel_rfl) (by kernel_rfl) (fun _ _ _ h => h) hS (MR.free rfl) (fun wq hw => by simp [execOp, MR.ev, MR.size, hsz, e1, f1, e2, f2, e7, f7, go_sem]) ?_
          refine wpAnyH_done (by kernel_rfl) ?_ _
          rw [HA.out]
          simp only [Act.put, List.setIfInBounds_toArray, List.set_cons_succ, List.set_cons_zero]
          have hbb := hB2.trans (hS.mono hB2.size)
          clear HA hsz e1 f1 e2 f2 e7 f7 hS LD RH e0
          go_wp2
          go_ret
          exact ⟨M4.ret_bool hF.out.symm, hbb⟩
        case true =>
          have hT : Hid _ := HY2.out rfl
          clear HN2 HY2
          refine MR.frame fun A hA => ?_
          have hsz : A.tmps.size = 131 := by rw [hA]; rfl
          have e1 : A.eval (.tmp 1) = .int .i64 (k : Int) := by rw [hA]; rfl
          have f1 := MR.read (t := 1) (by rw [hsz]; decide) e1
          have e2 : A.eval (.tmp 2) = .pointer (some ⟨w.heap.size, 0, none⟩) := by rw [hA]; rfl
          have f2 := MR.read (t := 2) (by rw [hsz]; decide) e2
          have e7 : A.eval (.tmp 7) = .int .i64 id := by rw [hA]; rfl
          have f7 := MR.read (t := 7) (by rw [hsz]; decide) e7
          have HA : Hid (A = _) := hA
          clear hA
          have hS : (fun W => Below wr.heap.size wr W) (World.drew _) := (Below.refl _ wr).drew
          refine wp_region_held (S := fun W => Below wr.heap.size wr W) (by kernel_rfl) ?_
          change wpAnyH _ _ _ _ _ _ _ _ (World.drew _)
          refine MR.takeH (i := 0) (some 39) (.int .i64 (k : Int)) rfl rfl (by kernel_rfl) (by kernel_rfl) (by kernel_rfl) (fun _ _ _ h => h) hS (MR.free rfl) (fun wq hw => by simp [execOp, MR.ev, MR.size, hsz, e1, f1, e2, f2, e7, f7, go_sem]) ?_
          refine MR.takeH (i := 1) (some 40) (.bool true) rfl rfl (by kernel_rfl) (by kernel_rfl) (by kernel_rfl) (fun _ _ _ h => h) hS (MR.free rfl) (fun wq hw => by simp [execOp, MR.ev, MR.size, hsz, e1, f1, e2, f2, e7, f7, hkz, hkz2, hkz3, go_sem]) ?_
          refine MR.takeH (i := 2) (some 41) (.bool true) rfl rfl (by kernel_rfl) (by kernel_rfl) (by kernel_rfl) (fun _ _ _ h => h) hS (MR.free rfl) (fun wq hw => by simp [execOp, MR.ev, MR.size, hsz, e1, f1, e2, f2, e7, f7, go_sem]) ?_
          refine MR.takeH (i := 3) (some 42) (.pointer (some ⟨w.heap.size, 1, none⟩)) rfl rfl (by kernel_rfl) (by kernel_rfl) (by kernel_rfl) (fun _ _ _ h => h) hS (MR.want (d := 41) rfl rfl (by simp [MR.size, hsz]) (by simp [MR.ev, MR.size, hsz, e1, f1, e2, f2, e7, f7])) (fun wq hw => by simp [execOp, MR.ev, MR.size, hsz, e1, f1, e2, f2, e7, f7, go_sem]) ?_
          refine MR.takeH (i := 4) (some 43) (.slice (some ⟨b1, off1, none⟩) ks.length kc) rfl rfl (by kernel_rfl) (by kernel_rfl) (by kernel_rfl) (fun _ _ _ h => h) hS (MR.want (d := 41) rfl rfl (by simp [MR.size, hsz]) (by simp [MR.ev, MR.size, hsz, e1, f1, e2, f2, e7, f7])) (fun wq hw => by simp [execOp, MR.ev, MR.size, hsz, e1, f1, e2, f2, e7, f7, (LD.out wq hw).1, go_sem]) ?_
          refine MR.takeH (i := 5) (some 44) (.pointer (some ⟨w.heap.size, 0, none⟩)) rfl rfl (by kernel_rfl) (by kernel_rfl) (by kernel_rfl) (fun _ _ _ h => h) hS (MR.want (d := 41) rfl rfl (by simp [MR.size, hsz]) (by simp [MR.ev, MR.size, hsz, e1, f1, e2, f2, e7, f7])) (fun wq hw => by simp [execOp, MR.ev, MR.size, hsz, e1, f1, e2, f2, e7, f7, go_sem]) ?_
          refine MR.takeH (i := 6) (some 45) (.slice (some ⟨b3, off3, none⟩) us.length uc) rfl rfl (by kernel_rfl) (by kernel_rfl) (by kernel_rfl) (fun _ _ _ h => h) hS (MR.want (d := 41) rfl rfl (by simp [MR.size, hsz]) (by simp [MR.ev, MR.size, hsz, e1, f1, e2, f2, e7, f7])) (fun wq hw => by simp [execOp, MR.ev, MR.size, hsz, e1, f1, e2, f2, e7, f7, (LD.out wq hw).2.1, go_sem]) ?_
          refine MR.takeH (i := 7) (some 46) (.int .i64 (k : Int)) rfl rfl (by kernel_rfl) (by kernel_rfl) (by kernel_rfl) (fun _ _ _ h => h) hS (MR.want (d := 41) rfl rfl (by simp [MR.size, hsz]) (by simp [MR.ev, MR.size, hsz, e1, f1, e2, f2, e7, f7])) (fun wq hw => by simp [execOp, MR.ev, MR.size, hsz, e1, f1, e2, f2, e7, f7, go_sem]) ?_
          refine MR.takeH (i := 8) (some 47) (.pointer (some ⟨b3, off3 + k, none⟩)) rfl rfl (by kernel_rfl) (by kernel_rfl) (by kernel_rfl) (fun _ _ _ h => h) hS (MR.want (d := 41) rfl rfl (by simp [MR.size, hsz]) (by simp [MR.ev, MR.size, hsz, e1, f1, e2, f2, e7, f7])) (fun wq hw => by simp [execOp, MR.ev, MR.size, hsz, e1, f1, e2, f2, e7, f7, q0, q1, go_sem]) ?_
          refine MR.takeH (i := 9) (some 48) (.int .i64 (node : Int)) rfl rfl (by kernel_rfl) (by kernel_rfl) (by kernel_rfl) (fun _ _ _ h => h) hS (MR.want (d := 41) rfl rfl (by simp [MR.size, hsz]) (by simp [MR.ev, MR.size, hsz, e1, f1, e2, f2, e7, f7])) (fun wq hw => by simp [execOp, MR.ev, MR.size, hsz, e1, f1, e2, f2, e7, f7, (LD.out wq hw).2.2.1, go_sem]) ?_
          refine MR.takeH (i := 10) (some 49) (.pointer (some ⟨b1, off1 + node * 3, none⟩)) rfl rfl (by kernel_rfl) (by kernel_rfl) (by kernel_rfl) (fun _ _ _ h => h) hS (MR.want (d := 41) rfl rfl (by simp [MR.size, hsz]) (by simp [MR.ev, MR.size, hsz, e1, f1, e2, f2, e7, f7])) (fun wq hw => by simp [execOp, MR.ev, MR.size, hsz, e1, f1, e2, f2, e7, f7, q2, q3, go_sem]) ?_
          refine MR.takeH (i := 11) (some 50) (.pointer (some ⟨b1, off1 + node * 3, none⟩)) rfl rfl (by kernel_rfl) (by kernel_rfl) (by kernel_rfl) (fun _ _ _ h => h) hS (MR.want (d := 41) rfl rfl (by simp [MR.size, hsz]) (by simp [MR.ev, MR.size, hsz, e1, f1, e2, f2, e7, f7])) (fun wq hw => by simp [execOp, MR.ev, MR.size, hsz, e1, f1, e2, f2, e7, f7, go_sem]) ?_
          refine MR.takeH (i := 12) (some 51) (.slice usa us'.length usc) rfl rfl (by kernel_rfl) (by kernel_rfl) (by kernel_rfl) (fun _ _ _ h => h) hS (MR.want (d := 41) rfl rfl (by simp [MR.size, hsz]) (by simp [MR.ev, MR.size, hsz, e1, f1, e2, f2, e7, f7])) (fun wq hw => by simp [execOp, MR.ev, MR.size, hsz, e1, f1, e2, f2, e7, f7, (LD.out wq hw).2.2.2, go_sem]) ?_
          refine MR.takeH (i := 13) (some 52) (.int .i64 id) rfl rfl (by kernel_rfl) (by kernel_rfl) (by kernel_rfl) (fun _ _ _ h => h) hS (MR.want (d := 41) rfl rfl (by simp [MR.size, hsz]) (by simp [MR.ev, MR.size, hsz, e1, f1, e2, f2, e7, f7])) (fun wq hw => by simp [execOp, MR.ev, MR.size, hsz, e1, f1, e2, f2, e7, f7, go_sem]) ?_
          refine MR.callH (i := 14) (some 53) (18) (#[.slice usa us'.length usc, .int .i64 id]) (by kernel_rfl) rfl rfl (MR.want (d := 41) rfl rfl (by simp [MR.size, hsz]) (by simp [MR.ev, MR.size, hsz, e1, f1, e2, f2, e7, f7])) (by simp [execOp, MR.ev, MR.size, hsz, e1, f1, e2, f2, e7, f7, go_sem]) ?_
          refine Calls.mono (RH.out _ (hB2.trans (hS.mono hB2.size))) ?_
          rintro e wn ⟨rfl, rfl⟩
          refine ⟨_, rfl, hS, ?_⟩
          refine MR.takeH (i := 15) (some 54) (.bool false) rfl rfl (by kernel_rfl) (by kernel_rfl) (by kernel_rfl) (fun _ _ _ h => h) hS (MR.want (d := 41) rfl rfl (by simp [MR.size, hsz]) (by simp [MR.ev, MR.size, hsz, e1, f1, e2, f2, e7, f7])) (fun wq hw => by simp [execOp, MR.ev, MR.size, hsz, e1, f1, e2, f2, e7, f7, go_sem]) ?_
          refine MR.takeH (i := 16) (some 55) (.bool false) rfl rfl (by kernel_rfl) (by kernel_rfl) (by kernel_rfl) (fun _ _ _ h => h) hS (MR.free rfl) (fun wq hw => by simp [execOp, MR.ev, MR.size, hsz, e1, f1, e2, f2, e7, f7, go_sem]) ?_
          refine wpAnyH_done (by kernel_rfl) ?_ _
          rw [HA.out]
          simp only [Act.put, List.setIfInBounds_toArray, List.set_cons_succ, List.set_cons_zero]
          have hbb := hb.trans (hS.mono hb.size)
          clear HA hsz e1 f1 e2 f2 e7 f7 hS LD RH e0
          go_wp2
          go_roundw
          case rel => exact ⟨j + 1, by go_num, by omega, hT, hbb⟩
          case measure => simp [intOf]; omega
    · obtain rfl : j = ss.length := by omega
      have HB4 : Hid ((((List.range hs.length).all fun j => EG.hasB ss (MI2.at_ hs j).a0 && EG.hasB kd (MI2.at_ hs j).a1 && (decide (j = 0) || CG.lessH (MI2.at_ hs (j - 1)) (MI2.at_ hs j))) &&
          (ss.all fun id => kd.all fun ch => EG.hasB (CG.sd S ch.toNat).1 id || CG.hasH hs ⟨id, ch⟩)) = B) := by
        show _ = _
        rw [← HB3.out, CG.allI_yes (f := fun id => decide (k = 0) || EG.hasB (CG.sd S (CG.upOf S k)).1 id) hT.out]; rfl
      have a1 := x2.cell 0 rfl
      have z2 := z1.below hb lz1
      have lz2 := z2.lt
      clear HB3 hT HUP SU HU hb z1 lz1 x1 lx1 a0
      go_wp2_with fail
      refine Calls.mono (HKD.out wr hB2) ?_
      rintro e w2 ⟨ad, cd, rfl, hkdA, hb2⟩
      have hB3 := hB2.trans (hb2.mono hB2.size)
      have x3 := x2.below hb2 lx2
      have z3 := z2.below hb2 lz2
      have lx3 := x3.lt
      have lz3 := z3.lt
      have KDA : Hid (∀ W, Below w2.heap.size w2 W → M4.IntsAt W ad kd) := fun W hW => M4.IntsAt.below hkdA hW
      clear HKD hb2 a1 x2 z2 lx2 lz2 hB2 hkdA
      have a2 := z3.cell 1 rfl
      have a3 := z3.cell 0 rfl
      go_wp2_with fail
      clear a2 a3
      go_loopw [64] (fun iv wr => ∃ j : Nat, iv = .int .i64 j ∧ j ≤ hs.length ∧ Hid (∀ m, m < j → (EG.hasB ss (MI2.at_ hs m).a0 && EG.hasB kd (MI2.at_ hs m).a1 && (decide (m = 0) || CG.lessH (MI2.at_ hs (m - 1)) (MI2.at_ hs m))) = true) ∧ Below w2.heap.size w2 wr) (fun iv _ => (hs.length - intOf iv).toNat)
      case atStart => exact ⟨0, rfl, by omega, show Hid _ from fun j hj => by omega, Below.refl _ _⟩
      case round =>
        obtain ⟨j, rfl, hj, hT, hb⟩ := hrel
        have hB4 := hB3.trans (hb.mono hB3.size)
        have x4 := x3.below hb lx3
        have z4 := z3.below hb lz3
        by_cases hlj : j < hs.length
        · obtain ⟨b2, off2, rfl, hlt2, c0, c1⟩ := (HI.out wr hB4).2.at hlj
          have HN : Hid ((EG.hasB ss (MI2.at_ hs j).a0 && EG.hasB kd (MI2.at_ hs j).a1 && (decide (j = 0) || CG.lessH (MI2.at_ hs (j - 1)) (MI2.at_ hs j))) = false → B = false) := fun e => by
            rw [← HB4.out, CG.rgK_no (f := fun j => EG.hasB ss (MI2.at_ hs j).a0 && EG.hasB kd (MI2.at_ hs j).a1 && (decide (j = 0) || CG.lessH (MI2.at_ hs (j - 1)) (MI2.at_ hs j))) hlj e]; rfl
          have HY : Hid ((EG.hasB ss (MI2.at_ hs j).a0 && EG.hasB kd (MI2.at_ hs j).a1 && (decide (j = 0) || CG.lessH (MI2.at_ hs (j - 1)) (MI2.at_ hs j))) = true → ∀ m, m < j + 1 → (EG.hasB ss (MI2.at_ hs m).a0 && EG.hasB kd (MI2.at_ hs m).a1 && (decide (m = 0) || CG.lessH (MI2.at_ hs (m - 1)) (MI2.at_ hs m))) = true) := fun e => CG.rgK_succ (f := fun j => EG.hasB ss (MI2.at_ hs j).a0 && EG.hasB kd (MI2.at_ hs j).a1 && (decide (j = 0) || CG.lessH (MI2.at_ hs (j - 1)) (MI2.at_ hs j))) hT.out e
          have RS : Hid (∀ W, Below w.heap.size w W → Calls Try.prog 18 #[.slice sa ss.length sc, .int .i64 (MI2.at_ hs j).a0] W fun e w' => e = .returned (.bool (EG.hasB ss (MI2.at_ hs j).a0)) ∧ W = w') := fun W hW => HSK.out W _ hW
          have RK : Hid (∀ W, Below w2.heap.size w2 W → Calls Try.prog 18 #[.slice ad kd.length cd, .int .i64 (MI2.at_ hs j).a1] W fun e w' => e = .returned (.bool (EG.hasB kd (MI2.at_ hs j).a1)) ∧ W = w') := fun W hW => HHK.out W ad cd _ (KDA.out W hW)
          have PV : Hid (0 < j → ∃ i : Nat, j - 1 = i ∧ i < hs.length ∧ (j : Int) - 1 = (i : Int) ∧ wr.cell? ⟨b2, off2 + i * 2, none⟩ = some (.int .i64 (MI2.at_ hs i).a0) ∧ wr.cell? ⟨b2, off2 + i * 2 + 1, none⟩ = some (.int .i64 (MI2.at_ hs i).a1)) := fun h => by
            obtain ⟨b2', off2', he, -, d0, d1⟩ := (HI.out wr hB4).2.at (j := j - 1) (by omega)
            simp only [Option.some.injEq, Addr.mk.injEq] at he
            obtain ⟨rfl, rfl, -⟩ := he
            exact ⟨j - 1, rfl, by omega, by omega, d0, d1⟩
          clear HS HHH HK HI HKM HHK HSK x3 z3 SD HB4 hT KDA
          generalize hy : MI2.at_ hs j = y at *
          obtain ⟨y0, y1⟩ := y
          simp only at c0 c1 RS RK HN HY
          obtain ⟨r1, hr1⟩ : ∃ r, EG.hasB ss y0 = r := ⟨_, rfl⟩
          obtain ⟨r2, hr2⟩ : ∃ r, EG.hasB kd y1 = r := ⟨_, rfl⟩
          have HN2 : Hid ((r1 && r2 && (decide (j = 0) || CG.lessH (MI2.at_ hs (j - 1)) ⟨y0, y1⟩)) = false → B = false) := fun e => HN.out (by rw [hr1, hr2]; exact e)
          have HY2 : Hid ((r1 && r2 && (decide (j = 0) || CG.lessH (MI2.at_ hs (j - 1)) ⟨y0, y1⟩)) = true → ∀ m, m < j + 1 → (EG.hasB ss (MI2.at_ hs m).a0 && EG.hasB kd (MI2.at_ hs m).a1 && (decide (m = 0) || CG.lessH (MI2.at_ hs (m - 1)) (MI2.at_ hs m))) = true) := fun e => HY.out (by rw [hr1, hr2]; exact e)
          simp only [hr1] at RS
          simp only [hr2] at RK
          clear hr1 hr2 HN HY hy
          have hV : Below w.heap.size w (wr.alloc (.cells #[.int .i64 y0, .int .i64 y1] 61)) := hB4.alloc hB4.size _
          have hV2 : Below w2.heap.size w2 (wr.alloc (.cells #[.int .i64 y0, .int .i64 y1] 61)) := hb.alloc hb.size _
          have hVr : Below wr.heap.size wr (wr.alloc (.cells #[.int .i64 y0, .int .i64 y1] 61)) := (Below.refl _ _).alloc (Nat.le_refl _) _
          have x5 := x4.alloc (.cells #[.int .i64 y0, .int .i64 y1] 61)
          have z5 := z4.alloc (.cells #[.int .i64 y0, .int .i64 y1] 61)
          have h5 : BxN (wr.alloc (.cells #[.int .i64 y0, .int .i64 y1] 61)) wr.heap.size [.int .i64 y0, .int .i64 y1] 61 := BxN.new wr _ _ rfl
          clear x4 z4
          go_wp2_with fail
          clear c0 c1
          generalize wr.alloc (.cells #[.int .i64 y0, .int .i64 y1] 61) = V at *
          have lx5 := x5.lt
          have lz5 := z5.lt
          have lh5 := h5.lt
          have LD : Hid (∀ W : World, Below V.heap.size V W → W.cell? ⟨w.heap.size + 1, 0, none⟩ = some (.slice sa ss.length sc) ∧ W.cell? ⟨w.heap.size + 1, 1, none⟩ = some (.slice (some ⟨b2, off2, none⟩) hs.length hc) ∧ W.cell? ⟨wr.heap.size, 0, none⟩ = some (.int .i64 y0) ∧ W.cell? ⟨wr.heap.size, 1, none⟩ = some (.int .i64 y1)) := fun W h =>
            ⟨(z5.below h lz5).cell 0 rfl, (z5.below h lz5).cell 1 rfl, (h5.below h lh5).cell 0 rfl, (h5.below h lh5).cell 1 rfl⟩
          have hlt5 : b2 < V.heap.size := Nat.lt_of_lt_of_le hlt2 hVr.size
          have PV2 : Hid (0 < j → ∃ i : Nat, j - 1 = i ∧ i < hs.length ∧ (j : Int) - 1 = (i : Int) ∧ V.cell? ⟨b2, off2 + i * 2, none⟩ = some (.int .i64 (MI2.at_ hs i).a0) ∧ V.cell? ⟨b2, off2 + i * 2 + 1, none⟩ = some (.int .i64 (MI2.at_ hs i).a1)) := fun h => by
            obtain ⟨i, h1, h2, h3, h4, h5⟩ := PV.out h
            exact ⟨i, h1, h2, h3, (hVr.cell (p := ⟨_, _, none⟩) hlt2).trans h4, (hVr.cell (p := ⟨_, _, none⟩) hlt2).trans h5⟩
          clear PV hVr hlt2 x5 z5 h5 hb hB4 lx5 lz5 lh5
          generalize wr.heap.size = q at *
          cases r1
          case false =>
            have hF : Hid _ := HN2.out rfl
            clear HN2 HY2 RK PV2
            refine MR.frame fun A hA => ?_
            have hsz : A.tmps.size = 131 := by rw [hA]; rfl
            have e5 : A.eval (.tmp 5) = .pointer (some ⟨w.heap.size + 1, 0, none⟩) := by rw [hA]; rfl
            have f5 := MR.read (t := 5) (by rw [hsz]; decide) e5
            have e8 : A.eval (.tmp 8) = .slice ad kd.length cd := by rw [hA]; rfl
            have f8 := MR.read (t := 8) (by rw [hsz]; decide) e8
            have e9 : A.eval (.tmp 9) = .int .i64 (j : Int) := by rw [hA]; rfl
            have f9 := MR.read (t := 9) (by rw [hsz]; decide) e9
            have e10 : A.eval (.tmp 10) = .pointer (some ⟨q, 0, none⟩) := by rw [hA]; rfl
            have f10 := MR.read (t := 10) (by rw [hsz]; decide) e10
            have HA : Hid (A = _) := hA
            clear hA
            have hS : (fun W => Below V.heap.size V W) (World.drew _) := (Below.refl _ V).drew
            refine wp_region_held (S := fun W => Below V.heap.size V W) (by kernel_rfl) ?_
            change wpAnyH _ _ _ _ _ _ _ _ (World.drew _)
            refine MR.takeH (i := 0) (some 69) (.pointer (some ⟨w.heap.size + 1, 0, none⟩)) rfl rfl (by kernel_rfl) (by kernel_rfl) (by kernel_rfl) (fun _ _ _ h => h) hS (MR.free rfl) (fun wq hw => by simp [execOp, MR.ev, MR.size, hsz, e5, f5, e8, f8, e9, f9, e10, f10, go_sem]) ?_
            refine MR.takeH (i := 1) (some 70) (.slice sa ss.length sc) rfl rfl (by kernel_rfl) (by kernel_rfl) (by kernel_rfl) (fun _ _ _ h => h) hS (MR.free rfl) (fun wq hw => by simp [execOp, MR.ev, MR.size, hsz, e5, f5, e8, f8, e9, f9, e10, f10, (LD.out wq hw).1, go_sem]) ?_
            refine MR.takeH (i := 2) (some 71) (.pointer (some ⟨q, 0, none⟩)) rfl rfl (by kernel_rfl) (by kernel_rfl) (by kernel_rfl) (fun _ _ _ h => h) hS (MR.free rfl) (fun wq hw => by simp [execOp, MR.ev, MR.size, hsz, e5, f5, e8, f8, e9, f9, e10, f10, go_sem]) ?_
            refine MR.takeH (i := 3) (some 72) (.int .i64 y0) rfl rfl (by kernel_rfl) (by kernel_rfl) (by kernel_rfl) (fun _ _ _ h => h) hS (MR.free rfl) (fun wq hw => by simp [execOp, MR.ev, MR.size, hsz, e5, f5, e8, f8, e9, f9, e10, f10, (LD.out wq hw).2.2.1, go_sem]) ?_
            refine MR.callH (i := 4) (some 73) (18) (#[.slice sa ss.length sc, .int .i64 y0]) (by kernel_rfl) rfl rfl (MR.free rfl) (by simp [execOp, MR.ev, MR.size, hsz, e5, f5, e8, f8, e9, f9, e10, f10, go_sem]) ?_
            refine Calls.mono (RS.out _ (hV.trans (hS.mono hV.size))) ?_
            rintro e wn ⟨rfl, rfl⟩
            refine ⟨_, rfl, hS, ?_⟩
            refine MR.takeH (i := 5) (some 74) (.bool true) rfl rfl (by kernel_rfl) (by kernel_rfl) (by kernel_rfl) (fun _ _ _ h => h) hS (MR.free rfl) (fun wq hw => by simp [execOp, MR.ev, MR.size, hsz, e5, f5, e8, f8, e9, f9, e10, f10, go_sem]) ?_
            refine MR.takeH (i := 6) (some 75) (.bool true) rfl rfl (by kernel_rfl) (by kernel_rfl) (by kernel_rfl) (fun _ _ _ h => h) hS (MR.free rfl) (fun wq hw => by simp [execOp, MR.ev, MR.size, hsz, e5, f5, e8, f8, e9, f9, e10, f10, go_sem]) ?_
            refine MR.skipH (i := 7) (some 76) rfl rfl (by kernel_rfl) (by kernel_rfl) (by kernel_rfl) (fun _ _ _ h => h) hS (MR.unwant (d := 75) (b' := true) rfl rfl (by simp [MR.size, hsz]) (by simp [MR.ev, MR.size, hsz, e5, f5, e8, f8, e9, f9, e10, f10]) (by decide)) ?_
            refine MR.skipH (i := 8) (some 77) rfl rfl (by kernel_rfl) (by kernel_rfl) (by kernel_rfl) (fun _ _ _ h => h) hS (MR.unwant (d := 75) (b' := true) rfl rfl (by simp [MR.size, hsz]) (by simp [MR.ev, MR.size, hsz, e5, f5, e8, f8, e9, f9, e10, f10]) (by decide)) ?_
            refine MR.skipH (i := 9) (some 78) rfl rfl (by kernel_rfl) (by kernel_rfl) (by kernel_rfl) (fun _ _ _ h => h) hS (MR.unwant (d := 75) (b' := true) rfl rfl (by simp [MR.size, hsz]) (by simp [MR.ev, MR.size, hsz, e5, f5, e8, f8, e9, f9, e10, f10]) (by decide)) ?_
            refine MR.skipH (i := 10) (some 79) rfl rfl (by kernel_rfl) (by kernel_rfl) (by kernel_rfl) (fun _ _ _ h => h) hS (MR.unwant (d := 75) (b' := true) rfl rfl (by simp [MR.size, hsz]) (by simp [MR.ev, MR.size, hsz, e5, f5, e8, f8, e9, f9, e10, f10]) (by decide)) ?_
            refine MR.skipH (i := 11) (some 80) rfl rfl (by kernel_rfl) (by kernel_rfl) (by kernel_rfl) (fun _ _ _ h => h) hS (MR.unwant (d := 75) (b' := true) rfl rfl (by simp [MR.size, hsz]) (by simp [MR.ev, MR.size, hsz, e5, f5, e8, f8, e9, f9, e10, f10]) (by decide)) ?_
            refine MR.takeH (i := 12) (some 81) (.bool true) rfl rfl (by kernel_rfl) (by kernel_rfl) (by kernel_rfl) (fun _ _ _ h => h) hS (MR.free rfl) (fun wq hw => by simp [execOp, MR.ev, MR.size, hsz, e5, f5, e8, f8, e9, f9, e10, f10, go_sem]) ?_
            refine MR.takeH (i := 13) (some 82) (.bool true) rfl rfl (by kernel_rfl) (by kernel_rfl) (by kernel_rfl) (fun _ _ _ h => h) hS (MR.free rfl) (fun wq hw => by simp [execOp, MR.ev, MR.size, hsz, e5, f5, e8, f8, e9, f9, e10, f10, go_sem]) ?_
            refine MR.skipH (i := 14) (some 83) rfl rfl (by kernel_rfl) (by kernel_rfl) (by kernel_rfl) (fun _ _ _ h => h) hS (MR.unwant (d := 82) (b' := true) rfl rfl (by simp [MR.size, hsz]) (by simp [MR.ev, MR.size, hsz, e5, f5, e8, f8, e9, f9, e10, f10]) (by decide)) ?_
            refine MR.skipH (i := 15) (some 84) rfl rfl (by kernel_rfl) (by kernel_rfl) (by kernel_rfl) (fun _ _ _ h => h) hS (MR.unwant (d := 82) (b' := true) rfl rfl (by simp [MR.size, hsz]) (by simp [MR.ev, MR.size, hsz, e5, f5, e8, f8, e9, f9, e10, f10]) (by decide)) ?_
            refine MR.skipH (i := 16) (some 85) rfl rfl (by kernel_rfl) (by kernel_rfl) (by kernel_rfl) (fun _ _ _ h => h) hS (MR.unwant (d := 82) (b' := true) rfl rfl (by simp [MR.size, hsz]) (by simp [MR.ev, MR.size, hsz, e5, f5, e8, f8, e9, f9, e10, f10]) (by decide)) ?_
            refine MR.skipH (i := 17) (some 86) rfl rfl (by kernel_rfl) (by kernel_rfl) (by kernel_rfl) (fun _ _ _ h => h) hS (MR.unwantU (d := 85) rfl rfl (by simp [MR.size, hsz]) (by simp [MR.ev, MR.size, hsz, e5, f5, e8, f8, e9, f9, e10, f10])) ?_
            refine MR.skipH (i := 18) (some 87) rfl rfl (by kernel_rfl) (by kernel_rfl) (by kernel_rfl) (fun _ _ _ h => h) hS (MR.unwantU (d := 85) rfl rfl (by simp [MR.size, hsz]) (by simp [MR.ev, MR.size, hsz, e5, f5, e8, f8, e9, f9, e10, f10])) ?_
            refine MR.skipH (i := 19) (some 88) rfl rfl (by kernel_rfl) (by kernel_rfl) (by kernel_rfl) (fun _ _ _ h => h) hS (MR.unwantU (d := 85) rfl rfl (by simp [MR.size, hsz]) (by simp [MR.ev, MR.size, hsz, e5, f5, e8, f8, e9, f9, e10, f10])) ?_
            refine MR.skipH (i := 20) (some 89) rfl rfl (by kernel_rfl) (by kernel_rfl) (by kernel_rfl) (fun _ _ _ h => h) hS (MR.unwantU (d := 85) rfl rfl (by simp [MR.size, hsz]) (by simp [MR.ev, MR.size, hsz, e5, f5, e8, f8, e9, f9, e10, f10])) ?_
            refine MR.skipH (i := 21) (some 90) rfl rfl (by kernel_rfl) (by kernel_rfl) (by kernel_rfl) (fun _ _ _ h => h) hS (MR.unwantU (d := 85) rfl rfl (by simp [MR.size, hsz]) (by simp [MR.ev, MR.size, hsz, e5, f5, e8, f8, e9, f9, e10, f10])) ?_
            refine MR.skipH (i := 22) (some 91) rfl rfl (by kernel_rfl) (by kernel_rfl) (by kernel_rfl) (fun _ _ _ h => h) hS (MR.unwantU (d := 85) rfl rfl (by simp [MR.size, hsz]) (by simp [MR.ev, MR.size, hsz, e5, f5, e8, f8, e9, f9, e10, f10])) ?_
            refine MR.skipH (i := 23) (some 92) rfl rfl (by kernel_rfl) (by kernel_rfl) (by kernel_rfl) (fun _ _ _ h => h) hS (MR.unwantU (d := 85) rfl rfl (by simp [MR.size, hsz]) (by simp [MR.ev, MR.size, hsz, e5, f5, e8, f8, e9, f9, e10, f10])) ?_
            refine MR.skipH (i := 24) (some 93) rfl rfl (by kernel_rfl) (by kernel_rfl) (by kernel_rfl) (fun _ _ _ h => h) hS (MR.unwantU (d := 85) rfl rfl (by simp [MR.size, hsz]) (by simp [MR.ev, MR.size, hsz, e5, f5, e8, f8, e9, f9, e10, f10])) ?_
            refine MR.skipH (i := 25) (some 94) rfl rfl (by kernel_rfl) (by kernel_rfl) (by kernel_rfl) (fun _ _ _ h => h) hS (MR.unwantU (d := 85) rfl rfl (by simp [MR.size, hsz]) (by simp [MR.ev, MR.size, hsz, e5, f5, e8, f8, e9, f9, e10, f10])) ?_
            refine MR.skipH (i := 26) (some 95) rfl rfl (by kernel_rfl) (by kernel_rfl) (by kernel_rfl) (fun _ _ _ h => h) hS (MR.unwant (d := 82) (b' := true) rfl rfl (by simp [MR.size, hsz]) (by simp [MR.ev, MR.size, hsz, e5, f5, e8, f8, e9, f9, e10, f10]) (by decide)) ?_
            refine MR.takeH (i := 27) (some 96) (.bool true) rfl rfl (by kernel_rfl) (by kernel_rfl) (by kernel_rfl) (fun _ _ _ h => h) hS (MR.free rfl) (fun wq hw => by simp [execOp, MR.ev, MR.size, hsz, e5, f5, e8, f8, e9, f9, e10, f10, go_sem]) ?_
            refine wpAnyH_done (by kernel_rfl) ?_ _
            rw [HA.out]
            simp only [Act.put, List.setIfInBounds_toArray, List.set_cons_succ, List.set_cons_zero]
            have hbb := hV.trans (hS.mono hV.size)
            clear HA hsz e5 f5 e8 f8 e9 f9 e10 f10 hS LD RS
            go_wp2
            go_ret
            exact ⟨M4.ret_bool hF.out.symm, hbb⟩
          cases r2
          case false =>
            have hF : Hid _ := HN2.out rfl
            clear HN2 HY2 PV2
            refine MR.frame fun A hA => ?_
            have hsz : A.tmps.size = 131 := by rw [hA]; rfl
            have e5 : A.eval (.tmp 5) = .pointer (some ⟨w.heap.size + 1, 0, none⟩) := by rw [hA]; rfl
            have f5 := MR.read (t := 5) (by rw [hsz]; decide) e5
            have e8 : A.eval (.tmp 8) = .slice ad kd.length cd := by rw [hA]; rfl
            have f8 := MR.read (t := 8) (by rw [hsz]; decide) e8
            have e9 : A.eval (.tmp 9) = .int .i64 (j : Int) := by rw [hA]; rfl
            have f9 := MR.read (t := 9) (by rw [hsz]; decide) e9
            have e10 : A.eval (.tmp 10) = .pointer (some ⟨q, 0, none⟩) := by rw [hA]; rfl
            have f10 := MR.read (t := 10) (by rw [hsz]; decide) e10
            have HA : Hid (A = _) := hA
            clear hA
            have hS : (fun W => Below V.heap.size V W) (World.drew _) := (Below.refl _ V).drew
            refine wp_region_held (S := fun W => Below V.heap.size V W) (by kernel_rfl) ?_
            change wpAnyH _ _ _ _ _ _ _ _ (World.drew _)
            refine MR.takeH (i := 0) (some 69) (.pointer (some ⟨w.heap.size + 1, 0, none⟩)) rfl rfl (by kernel_rfl) (by kernel_rfl) (by kernel_rfl) (fun _ _ _ h => h) hS (MR.free rfl) (fun wq hw => by simp [execOp, MR.ev, MR.size, hsz, e5, f5, e8, f8, e9, f9, e10, f10, go_sem]) ?_
            refine MR.takeH (i := 1) (some 70) (.slice sa ss.length sc) rfl rfl (by kernel_rfl) (by kernel_rfl) (by kernel_rfl) (fun _ _ _ h => h) hS (MR.free rfl) (fun wq hw => by simp [execOp, MR.ev, MR.size, hsz, e5, f5, e8, f8, e9, f9, e10, f10, (LD.out wq hw).1, go_sem]) ?_
            refine MR.takeH (i := 2) (some 71) (.pointer (some ⟨q, 0, none⟩)) rfl rfl (by kernel_rfl) (by kernel_rfl) (by kernel_rfl) (fun _ _ _ h => h) hS (MR.free rfl) (fun wq hw => by simp [execOp, MR.ev, MR.size, hsz, e5, f5, e8, f8, e9, f9, e10, f10, go_sem]) ?_
            refine MR.takeH (i := 3) (some 72) (.int .i64 y0) rfl rfl (by kernel_rfl) (by kernel_rfl) (by kernel_rfl) (fun _ _ _ h => h) hS (MR.free rfl) (fun wq hw => by simp [execOp, MR.ev, MR.size, hsz, e5, f5, e8, f8, e9, f9, e10, f10, (LD.out wq hw).2.2.1, go_sem]) ?_
            refine MR.callH (i := 4) (some 73) (18) (#[.slice sa ss.length sc, .int .i64 y0]) (by kernel_rfl) rfl rfl (MR.free rfl) (by simp [execOp, MR.ev, MR.size, hsz, e5, f5, e8, f8, e9, f9, e10, f10, go_sem]) ?_
            refine Calls.mono (RS.out _ (hV.trans (hS.mono hV.size))) ?_
            rintro e wn ⟨rfl, rfl⟩
            refine ⟨_, rfl, hS, ?_⟩
            refine MR.takeH (i := 5) (some 74) (.bool false) rfl rfl (by kernel_rfl) (by kernel_rfl) (by kernel_rfl) (fun _ _ _ h => h) hS (MR.free rfl) (fun wq hw => by simp [execOp, MR.ev, MR.size, hsz, e5, f5, e8, f8, e9, f9, e10, f10, go_sem]) ?_
            refine MR.takeH (i := 6) (some 75) (.bool false) rfl rfl (by kernel_rfl) (by kernel_rfl) (by kernel_rfl) (fun _ _ _ h => h) hS (MR.free rfl) (fun wq hw => by simp [execOp, MR.ev, MR.size, hsz, e5, f5, e8, f8, e9, f9, e10, f10, go_sem]) ?_
            refine MR.takeH (i := 7) (some 76) (.slice ad kd.length cd) rfl rfl (by kernel_rfl) (by kernel_rfl) (by kernel_rfl) (fun _ _ _ h => h) hS (MR.want (d := 75) rfl rfl (by simp [MR.size, hsz]) (by simp [MR.ev, MR.size, hsz, e5, f5, e8, f8, e9, f9, e10, f10])) (fun wq hw => by simp [execOp, MR.ev, MR.size, hsz, e5, f5, e8, f8, e9, f9, e10, f10, go_sem]) ?_
            refine MR.takeH (i := 8) (some 77) (.pointer (some ⟨q, 1, none⟩)) rfl rfl (by kernel_rfl) (by kernel_rfl) (by kernel_rfl) (fun _ _ _ h => h) hS (MR.want (d := 75) rfl rfl (by simp [MR.size, hsz]) (by simp [MR.ev, MR.size, hsz, e5, f5, e8, f8, e9, f9, e10, f10])) (fun wq hw => by simp [execOp, MR.ev, MR.size, hsz, e5, f5, e8, f8, e9, f9, e10, f10, go_sem]) ?_
            refine MR.takeH (i := 9) (some 78) (.int .i64 y1) rfl rfl (by kernel_rfl) (by kernel_rfl) (by kernel_rfl) (fun _ _ _ h => h) hS (MR.want (d := 75) rfl rfl (by simp [MR.size, hsz]) (by simp [MR.ev, MR.size, hsz, e5, f5, e8, f8, e9, f9, e10, f10])) (fun wq hw => by simp [execOp, MR.ev, MR.size, hsz, e5, f5, e8, f8, e9, f9, e10, f10, (LD.out wq hw).2.2.2, go_sem]) ?_
            refine MR.callH (i := 10) (some 79) (18) (#[.slice ad kd.length cd, .int .i64 y1]) (by kernel_rfl) rfl rfl (MR.want (d := 75) rfl rfl (by simp [MR.size, hsz]) (by simp [MR.ev, MR.size, hsz, e5, f5, e8, f8, e9, f9, e10, f10])) (by simp [execOp, MR.ev, MR.size, hsz, e5, f5, e8, f8, e9, f9, e10, f10, go_sem]) ?_
            refine Calls.mono (RK.out _ (hV2.trans (hS.mono hV2.size))) ?_
            rintro e wn ⟨rfl, rfl⟩
            refine ⟨_, rfl, hS, ?_⟩
            refine MR.takeH (i := 11) (some 80) (.bool true) rfl rfl (by kernel_rfl) (by kernel_rfl) (by kernel_rfl) (fun _ _ _ h => h) hS (MR.want (d := 75) rfl rfl (by simp [MR.size, hsz]) (by simp [MR.ev, MR.size, hsz, e5, f5, e8, f8, e9, f9, e10, f10])) (fun wq hw => by simp [execOp, MR.ev, MR.size, hsz, e5, f5, e8, f8, e9, f9, e10, f10, go_sem]) ?_
            refine MR.takeH (i := 12) (some 81) (.bool true) rfl rfl (by kernel_rfl) (by kernel_rfl) (by kernel_rfl) (fun _ _ _ h => h) hS (MR.free rfl) (fun wq hw => by simp [execOp, MR.ev, MR.size, hsz, e5, f5, e8, f8, e9, f9, e10, f10, go_sem]) ?_
            refine MR.takeH (i := 13) (some 82) (.bool true) rfl rfl (by kernel_rfl) (by kernel_rfl) (by kernel_rfl) (fun _ _ _ h => h) hS (MR.free rfl) (fun wq hw => by simp [execOp, MR.ev, MR.size, hsz, e5, f5, e8, f8, e9, f9, e10, f10, go_sem]) ?_
            refine MR.skipH (i := 14) (some 83) rfl rfl (by kernel_rfl) (by kernel_rfl) (by kernel_rfl) (fun _ _ _ h => h) hS (MR.unwant (d := 82) (b' := true) rfl rfl (by simp [MR.size, hsz]) (by simp [MR.ev, MR.size, hsz, e5, f5, e8, f8, e9, f9, e10, f10]) (by decide)) ?_
            refine MR.skipH (i := 15) (some 84) rfl rfl (by kernel_rfl) (by kernel_rfl) (by kernel_rfl) (fun _ _ _ h => h) hS (MR.unwant (d := 82) (b' := true) rfl rfl (by simp [MR.size, hsz]) (by simp [MR.ev, MR.size, hsz, e5, f5, e8, f8, e9, f9, e10, f10]) (by decide)) ?_
            refine MR.skipH (i := 16) (some 85) rfl rfl (by kernel_rfl) (by kernel_rfl) (by kernel_rfl) (fun _ _ _ h => h) hS (MR.unwant (d := 82) (b' := true) rfl rfl (by simp [MR.size, hsz]) (by simp [MR.ev, MR.size, hsz, e5, f5, e8, f8, e9, f9, e10, f10]) (by decide)) ?_
            refine MR.skipH (i := 17) (some 86) rfl rfl (by kernel_rfl) (by kernel_rfl) (by kernel_rfl) (fun _ _ _ h => h) hS (MR.unwantU (d := 85) rfl rfl (by simp [MR.size, hsz]) (by simp [MR.ev, MR.size, hsz, e5, f5, e8, f8, e9, f9, e10, f10])) ?_
            refine MR.skipH (i := 18) (some 87) rfl rfl (by kernel_rfl) (by kernel_rfl) (by kernel_rfl) (fun _ _ _ h => h) hS (MR.unwantU (d := 85) rfl rfl (by simp [MR.size, hsz]) (by simp [MR.ev, MR.size, hsz, e5, f5, e8, f8, e9, f9, e10, f10])) ?_
            refine MR.skipH (i := 19) (some 88) rfl rfl (by kernel_rfl) (by kernel_rfl) (by kernel_rfl) (fun _ _ _ h => h) hS (MR.unwantU (d := 85) rfl rfl (by simp [MR.size, hsz]) (by simp [MR.ev, MR.size, hsz, e5, f5, e8, f8, e9, f9, e10, f10])) ?_
            refine MR.skipH (i := 20) (some 89) rfl rfl (by kernel_rfl) (by kernel_rfl) (by kernel_rfl) (fun _ _ _ h => h) hS (MR.unwantU (d := 85) rfl rfl (by simp [MR.size, hsz]) (by simp [MR.ev, MR.size, hsz, e5, f5, e8, f8, e9, f9, e10, f10])) ?_
            refine MR.skipH (i := 21) (some 90) rfl rfl (by kernel_rfl) (by kernel_rfl) (by kernel_rfl) (fun _ _ _ h => h) hS (MR.unwantU (d := 85) rfl rfl (by simp [MR.size, hsz]) (by simp [MR.ev, MR.size, hsz, e5, f5, e8, f8, e9, f9, e10, f10])) ?_
            refine MR.skipH (i := 22) (some 91) rfl rfl (by kernel_rfl) (by kernel_rfl) (by kernel_rfl) (fun _ _ _ h => h) hS (MR.unwantU (d := 85) rfl rfl (by simp [MR.size, hsz]) (by simp [MR.ev, MR.size, hsz, e5, f5, e8, f8, e9, f9, e10, f10])) ?_
            refine MR.skipH (i := 23) (some 92) rfl rfl (by kernel_rfl) (by kernel_rfl) (by kernel_rfl) (fun _ _ _ h => h) hS (MR.unwantU (d := 85) rfl rfl (by simp [MR.size, hsz]) (by simp [MR.ev, MR.size, hsz, e5, f5, e8, f8, e9, f9, e10, f10])) ?_
            refine MR.skipH (i := 24) (some 93) rfl rfl (by kernel_rfl) (by kernel_rfl) (by kernel_rfl) (fun _ _ _ h => h) hS (MR.unwantU (d := 85) rfl rfl (by simp [MR.size, hsz]) (by simp [MR.ev, MR.size, hsz, e5, f5, e8, f8, e9, f9, e10, f10])) ?_
            refine MR.skipH (i := 25) (some 94) rfl rfl (by kernel_rfl) (by kernel_rfl) (by kernel_rfl) (fun _ _ _ h => h) hS (MR.unwantU (d := 85) rfl rfl (by simp [MR.size, hsz]) (by simp [MR.ev, MR.size, hsz, e5, f5, e8, f8, e9, f9, e10, f10])) ?_
            refine MR.skipH (i := 26) (some 95) rfl rfl (by kernel_rfl) (by kernel_rfl) (by kernel_rfl) (fun _ _ _ h => h) hS (MR.unwant (d := 82) (b' := true) rfl rfl (by simp [MR.size, hsz]) (by simp [MR.ev, MR.size, hsz, e5, f5, e8, f8, e9, f9, e10, f10]) (by decide)) ?_
            refine MR.takeH (i := 27) (some 96) (.bool true) rfl rfl (by kernel_rfl) (by kernel_rfl) (by kernel_rfl) (fun _ _ _ h => h) hS (MR.free rfl) (fun wq hw => by simp [execOp, MR.ev, MR.size, hsz, e5, f5, e8, f8, e9, f9, e10, f10, go_sem]) ?_
            refine wpAnyH_done (by kernel_rfl) ?_ _
            rw [HA.out]
            simp only [Act.put, List.setIfInBounds_toArray, List.set_cons_succ, List.set_cons_zero]
            have hbb := hV.trans (hS.mono hV.size)
            clear HA hsz e5 f5 e8 f8 e9 f9 e10 f10 hS LD RS RK
            go_wp2
            go_ret
            exact ⟨M4.ret_bool hF.out.symm, hbb⟩
          by_cases hj0 : j = 0
          · have hT : Hid _ := HY2.out (by rw [decide_eq_true hj0]; rfl)
            have hjz : decide ((0 : Int) < (j : Int)) = false := by simp; omega
            have hjz2 : decide (0 < j) = false := by simp; omega
            clear HN2 HY2 PV2 hj0
            refine MR.frame fun A hA => ?_
            have hsz : A.tmps.size = 131 := by rw [hA]; rfl
            have e5 : A.eval (.tmp 5) = .pointer (some ⟨w.heap.size + 1, 0, none⟩) := by rw [hA]; rfl
            have f5 := MR.read (t := 5) (by rw [hsz]; decide) e5
            have e8 : A.eval (.tmp 8) = .slice ad kd.length cd := by rw [hA]; rfl
            have f8 := MR.read (t := 8) (by rw [hsz]; decide) e8
            have e9 : A.eval (.tmp 9) = .int .i64 (j : Int) := by rw [hA]; rfl
            have f9 := MR.read (t := 9) (by rw [hsz]; decide) e9
            have e10 : A.eval (.tmp 10) = .pointer (some ⟨q, 0, none⟩) := by rw [hA]; rfl
            have f10 := MR.read (t := 10) (by rw [hsz]; decide) e10
            have HA : Hid (A = _) := hA
            clear hA
            have hS : (fun W => Below V.heap.size V W) (World.drew _) := (Below.refl _ V).drew
            refine wp_region_held (S := fun W => Below V.heap.size V W) (by kernel_rfl) ?_
            change wpAnyH _ _ _ _ _ _ _ _ (World.drew _)
            refine MR.takeH (i := 0) (some 69) (.pointer (some ⟨w.heap.size + 1, 0, none⟩)) rfl rfl (by kernel_rfl) (by kernel_rfl) (by kernel_rfl) (fun _ _ _ h => h) hS (MR.free rfl) (fun wq hw => by simp [execOp, MR.ev, MR.size, hsz, e5, f5, e8, f8, e9, f9, e10, f10, go_sem]) ?_
            refine MR.takeH (i := 1) (some 70) (.slice sa ss.length sc) rfl rfl (by kernel_rfl) (by kernel_rfl) (by kernel_rfl) (fun _ _ _ h => h) hS (MR.free rfl) (fun wq hw => by simp [execOp, MR.ev, MR.size, hsz, e5, f5, e8, f8, e9, f9, e10, f10, (LD.out wq hw).1, go_sem]) ?_
            refine MR.takeH (i := 2) (some 71) (.pointer (some ⟨q, 0, none⟩)) rfl rfl (by kernel_rfl) (by kernel_rfl) (by kernel_rfl) (fun _ _ _ h => h) hS (MR.free rfl) (fun wq hw => by simp [execOp, MR.ev, MR.size, hsz, e5, f5, e8, f8, e9, f9, e10, f10, go_sem]) ?_
            refine MR.takeH (i := 3) (some 72) (.int .i64 y0) rfl rfl (by kernel_rfl) (by kernel_rfl) (by kernel_rfl) (fun _ _ _ h => h) hS (MR.free rfl) (fun wq hw => by simp [execOp, MR.ev, MR.size, hsz, e5, f5, e8, f8, e9, f9, e10, f10, (LD.out wq hw).2.2.1, go_sem]) ?_
            refine MR.callH (i := 4) (some 73) (18) (#[.slice sa ss.length sc, .int .i64 y0]) (by kernel_rfl) rfl rfl (MR.free rfl) (by simp [execOp, MR.ev, MR.size, hsz, e5, f5, e8, f8, e9, f9, e10, f10, go_sem]) ?_
            refine Calls.mono (RS.out _ (hV.trans (hS.mono hV.size))) ?_
            rintro e wn ⟨rfl, rfl⟩
            refine ⟨_, rfl, hS, ?_⟩
            refine MR.takeH (i := 5) (some 74) (.bool false) rfl rfl (by kernel_rfl) (by kernel_rfl) (by kernel_rfl) (fun _ _ _ h => h) hS (MR.free rfl) (fun wq hw => by simp [execOp, MR.ev, MR.size, hsz, e5, f5, e8, f8, e9, f9, e10, f10, go_sem]) ?_
            refine MR.takeH (i := 6) (some 75) (.bool false) rfl rfl (by kernel_rfl) (by kernel_rfl) (by kernel_rfl) (fun _ _ _ h => h) hS (MR.free rfl) (fun wq hw => by simp [execOp, MR.ev, MR.size, hsz, e5, f5, e8, f8, e9, f9, e10, f10, go_sem]) ?_
            refine MR.takeH (i := 7) (some 76) (.slice ad kd.length cd) rfl rfl (by kernel_rfl) (by kernel_rfl) (by kernel_rfl) (fun _ _ _ h => h) hS (MR.want (d := 75) rfl rfl (by simp [MR.size, hsz]) (by simp [MR.ev, MR.size, hsz, e5, f5, e8, f8, e9, f9, e10, f10])) (fun wq hw => by simp [execOp, MR.ev, MR.size, hsz, e5, f5, e8, f8, e9, f9, e10, f10, go_sem]) ?_
            refine MR.takeH (i := 8) (some 77) (.pointer (some ⟨q, 1, none⟩)) rfl rfl (by kernel_rfl) (by kernel_rfl) (by kernel_rfl) (fun _ _ _ h => h) hS (MR.want (d := 75) rfl rfl (by simp [MR.size, hsz]) (by simp [MR.ev, MR.size, hsz, e5, f5, e8, f8, e9, f9, e10, f10])) (fun wq hw => by simp [execOp, MR.ev, MR.size, hsz, e5, f5, e8, f8, e9, f9, e10, f10, go_sem]) ?_
            refine MR.takeH (i := 9) (some 78) (.int .i64 y1) rfl rfl (by kernel_rfl) (by kernel_rfl) (by kernel_rfl) (fun _ _ _ h => h) hS (MR.want (d := 75) rfl rfl (by simp [MR.size, hsz]) (by simp [MR.ev, MR.size, hsz, e5, f5, e8, f8, e9, f9, e10, f10])) (fun wq hw => by simp [execOp, MR.ev, MR.size, hsz, e5, f5, e8, f8, e9, f9, e10, f10, (LD.out wq hw).2.2.2, go_sem]) ?_
            refine MR.callH (i := 10) (some 79) (18) (#[.slice ad kd.length cd, .int .i64 y1]) (by kernel_rfl) rfl rfl (MR.want (d := 75) rfl rfl (by simp [MR.size, hsz]) (by simp [MR.ev, MR.size, hsz, e5, f5, e8, f8, e9, f9, e10, f10])) (by simp [execOp, MR.ev, MR.size, hsz, e5, f5, e8, f8, e9, f9, e10, f10, go_sem]) ?_
            refine Calls.mono (RK.out _ (hV2.trans (hS.mono hV2.size))) ?_
            rintro e wn ⟨rfl, rfl⟩
            refine ⟨_, rfl, hS, ?_⟩
            refine MR.takeH (i := 11) (some 80) (.bool false) rfl rfl (by kernel_rfl) (by kernel_rfl) (by kernel_rfl) (fun _ _ _ h => h) hS (MR.want (d := 75) rfl rfl (by simp [MR.size, hsz]) (by simp [MR.ev, MR.size, hsz, e5, f5, e8, f8, e9, f9, e10, f10])) (fun wq hw => by simp [execOp, MR.ev, MR.size, hsz, e5, f5, e8, f8, e9, f9, e10, f10, go_sem]) ?_
            refine MR.takeH (i := 12) (some 81) (.bool false) rfl rfl (by kernel_rfl) (by kernel_rfl) (by kernel_rfl) (fun _ _ _ h => h) hS (MR.free rfl) (fun wq hw => by simp [execOp, MR.ev, MR.size, hsz, e5, f5, e8, f8, e9, f9, e10, f10, go_sem]) ?_
            refine MR.takeH (i := 13) (some 82) (.bool false) rfl rfl (by kernel_rfl) (by kernel_rfl) (by kernel_rfl) (fun _ _ _ h => h) hS (MR.free rfl) (fun wq hw => by simp [execOp, MR.ev, MR.size, hsz, e5, f5, e8, f8, e9, f9, e10, f10, go_sem]) ?_
            refine MR.takeH (i := 14) (some 83) (.int .i64 (j : Int)) rfl rfl (by kernel_rfl) (by kernel_rfl) (by kernel_rfl) (fun _ _ _ h => h) hS (MR.want (d := 82) rfl rfl (by simp [MR.size, hsz]) (by simp [MR.ev, MR.size, hsz, e5, f5, e8, f8, e9, f9, e10, f10])) (fun wq hw => by simp [execOp, MR.ev, MR.size, hsz, e5, f5, e8, f8, e9, f9, e10, f10, go_sem]) ?_
            refine MR.takeH (i := 15) (some 84) (.bool false) rfl rfl (by kernel_rfl) (by kernel_rfl) (by kernel_rfl) (fun _ _ _ h => h) hS (MR.want (d := 82) rfl rfl (by simp [MR.size, hsz]) (by simp [MR.ev, MR.size, hsz, e5, f5, e8, f8, e9, f9, e10, f10])) (fun wq hw => by simp [execOp, MR.ev, MR.size, hsz, e5, f5, e8, f8, e9, f9, e10, f10, hjz, hjz2, go_sem]) ?_
            refine MR.takeH (i := 16) (some 85) (.bool false) rfl rfl (by kernel_rfl) (by kernel_rfl) (by kernel_rfl) (fun _ _ _ h => h) hS (MR.want (d := 82) rfl rfl (by simp [MR.size, hsz]) (by simp [MR.ev, MR.size, hsz, e5, f5, e8, f8, e9, f9, e10, f10])) (fun wq hw => by simp [execOp, MR.ev, MR.size, hsz, e5, f5, e8, f8, e9, f9, e10, f10, go_sem]) ?_
            refine MR.skipH (i := 17) (some 86) rfl rfl (by kernel_rfl) (by kernel_rfl) (by kernel_rfl) (fun _ _ _ h => h) hS (MR.unwant (d := 85) (b' := false) rfl rfl (by simp [MR.size, hsz]) (by simp [MR.ev, MR.size, hsz, e5, f5, e8, f8, e9, f9, e10, f10]) (by decide)) ?_
            refine MR.skipH (i := 18) (some 87) rfl rfl (by kernel_rfl) (by kernel_rfl) (by kernel_rfl) (fun _ _ _ h => h) hS (MR.unwant (d := 85) (b' := false) rfl rfl (by simp [MR.size, hsz]) (by simp [MR.ev, MR.size, hsz, e5, f5, e8, f8, e9, f9, e10, f10]) (by decide)) ?_
            refine MR.skipH (i := 19) (some 88) rfl rfl (by kernel_rfl) (by kernel_rfl) (by kernel_rfl) (fun _ _ _ h => h) hS (MR.unwant (d := 85) (b' := false) rfl rfl (by simp [MR.size, hsz]) (by simp [MR.ev, MR.size, hsz, e5, f5, e8, f8, e9, f9, e10, f10]) (by decide)) ?_
            refine MR.skipH (i := 20) (some 89) rfl rfl (by kernel_rfl) (by kernel_rfl) (by kernel_rfl) (fun _ _ _ h => h) hS (MR.unwant (d := 85) (b' := false) rfl rfl (by simp [MR.size, hsz]) (by simp [MR.ev, MR.size, hsz, e5, f5, e8, f8, e9, f9, e10, f10]) (by decide)) ?_
            refine MR.skipH (i := 21) (some 90) rfl rfl (by kernel_rfl) (by kernel_rfl) (by kernel_rfl) (fun _ _ _ h => h) hS (MR.unwant (d := 85) (b' := false) rfl rfl (by simp [MR.size, hsz]) (by simp [MR.ev, MR.size, hsz, e5, f5, e8, f8, e9, f9, e10, f10]) (by decide)) ?_
            refine MR.skipH (i := 22) (some 91) rfl rfl (by kernel_rfl) (by kernel_rfl) (by kernel_rfl) (fun _ _ _ h => h) hS (MR.unwant (d := 85) (b' := false) rfl rfl (by simp [MR.size, hsz]) (by simp [MR.ev, MR.size, hsz, e5, f5, e8, f8, e9, f9, e10, f10]) (by decide)) ?_
            refine MR.skipH (i := 23) (some 92) rfl rfl (by kernel_rfl) (by kernel_rfl) (by kernel_rfl) (fun _ _ _ h => h) hS (MR.unwant (d := 85) (b' := false) rfl rfl (by simp [MR.size, hsz]) (by simp [MR.ev, MR.size, hsz, e5, f5, e8, f8, e9, f9, e10, f10]) (by decide)) ?_
            refine MR.skipH (i := 24) (some 93) rfl rfl (by kernel_rfl) (by kernel_rfl) (by kernel_rfl) (fun _ _ _ h => h) hS (MR.unwant (d := 85) (b' := false) rfl rfl (by simp [MR.size, hsz]) (by simp [MR.ev, MR.size, hsz, e5, f5, e8, f8, e9, f9, e10, f10]) (by decide)) ?_
            refine MR.skipH (i := 25) (some 94) rfl rfl (by kernel_rfl) (by kernel_rfl) (by kernel_rfl) (fun _ _ _ h => h) hS (MR.unwant (d := 85) (b' := false) rfl rfl (by simp [MR.size, hsz]) (by simp [MR.ev, MR.size, hsz, e5, f5, e8, f8, e9, f9, e10, f10]) (by decide)) ?_
            refine MR.takeH (i := 26) (some 95) (.bool false) rfl rfl (by kernel_rfl) (by kernel_rfl) (by kernel_rfl) (fun _ _ _ h => h) hS (MR.want (d := 82) rfl rfl (by simp [MR.size, hsz]) (by simp [MR.ev, MR.size, hsz, e5, f5, e8, f8, e9, f9, e10, f10])) (fun wq hw => by simp [execOp, MR.ev, MR.size, hsz, e5, f5, e8, f8, e9, f9, e10, f10, go_sem]) ?_
            refine MR.takeH (i := 27) (some 96) (.bool false) rfl rfl (by kernel_rfl) (by kernel_rfl) (by kernel_rfl) (fun _ _ _ h => h) hS (MR.free rfl) (fun wq hw => by simp [execOp, MR.ev, MR.size, hsz, e5, f5, e8, f8, e9, f9, e10, f10, go_sem]) ?_
            refine wpAnyH_done (by kernel_rfl) ?_ _
            rw [HA.out]
            simp only [Act.put, List.setIfInBounds_toArray, List.set_cons_succ, List.set_cons_zero]
            have hbb := hV2.trans (hS.mono hV2.size)
            clear HA hsz e5 f5 e8 f8 e9 f9 e10 f10 hS LD RS RK hjz hjz2
            go_wp2
            go_roundw
            case rel => exact ⟨j + 1, by go_num, by omega, hT, hbb⟩
            case measure => simp [intOf]; omega
          · obtain ⟨i, hi1, hi2, hi3, p0, p1⟩ := PV2.out (by omega)
            rw [hi1] at HN2 HY2
            rw [decide_eq_false hj0] at HN2 HY2
            have RL : Hid (∀ W, Calls Try.prog 37 #[(MI2.at_ hs i).v, .agg #[.int .i64 y0, .int .i64 y1]] W fun e w' => e = .returned (.bool (CG.lessH (MI2.at_ hs i) ⟨y0, y1⟩)) ∧ Below W.heap.size W w') := fun W => l16Less_any (MI2.at_ hs i) ⟨y0, y1⟩ W
            generalize MI2.at_ hs i = p at *
            obtain ⟨r3, hr3⟩ : ∃ r, CG.lessH p ⟨y0, y1⟩ = r := ⟨_, rfl⟩
            rw [hr3] at HN2 HY2
            simp only [hr3] at RL
            obtain ⟨pa, pb⟩ := p
            simp only at p0 p1 RL
            have LP : Hid (∀ W : World, Below V.heap.size V W → W.cell? ⟨b2, off2 + i * 2, none⟩ = some (.int .i64 pa) ∧ W.cell? ⟨b2, off2 + i * 2 + 1, none⟩ = some (.int .i64 pb)) := fun W h => ⟨(h.cell (p := ⟨_, _, none⟩) hlt5).trans p0, (h.cell (p := ⟨_, _, none⟩) hlt5).trans p1⟩
            have q0 : (0 : Int) ≤ (i : Int) := by omega
            have q1 : (i : Int) < (hs.length : Int) := by omega
            have q4 : IntKind.i64.wrap ((j : Int) - 1) = (i : Int) := by rw [hi3, IntKind.wrap_i64]; omega
            have hjz : decide ((0 : Int) < (j : Int)) = true := by simp; omega
            have hjz2 : (0 : Int) < (j : Int) := by omega
            have hjz3 : 0 < j := by omega
            have HI3 : Hid _ := hi3
            clear hr3 p0 p1 PV2 hi1 hi2 hi3
            cases r3
            case false =>
              have hF : Hid _ := HN2.out rfl
              clear HN2 HY2
              refine MR.frame fun A hA => ?_
              have hsz : A.tmps.size = 131 := by rw [hA]; rfl
              have e5 : A.eval (.tmp 5) = .pointer (some ⟨w.heap.size + 1, 0, none⟩) := by rw [hA]; rfl
              have f5 := MR.read (t := 5) (by rw [hsz]; decide) e5
              have e8 : A.eval (.tmp 8) = .slice ad kd.length cd := by rw [hA]; rfl
              have f8 := MR.read (t := 8) (by rw [hsz]; decide) e8
              have e9 : A.eval (.tmp 9) = .int .i64 (j : Int) := by rw [hA]; rfl
              have f9 := MR.read (t := 9) (by rw [hsz]; decide) e9
              have e10 : A.eval (.tmp 10) = .pointer (some ⟨q, 0, none⟩) := by rw [hA]; rfl
              have f10 := MR.read (t := 10) (by rw [hsz]; decide) e10
              have HA : Hid (A = _) := hA
              clear hA
              have hS : (fun W => Below V.heap.size V W) (World.drew _) := (Below.refl _ V).drew
              refine wp_region_held (S := fun W => Below V.heap.size V W) (by kernel_rfl) ?_
              change wpAnyH _ _ _ _ _ _ _ _ (World.drew _)
              refine MR.takeH (i := 0) (some 69) (.pointer (some ⟨w.heap.size + 1, 0, none⟩)) rfl rfl (by kernel_rfl) (by kernel_rfl) (by kernel_rfl) (fun _ _ _ h => h) hS (MR.free rfl) (fun wq hw => by simp [execOp, MR.ev, MR.size, hsz, e5, f5, e8, f8, e9, f9, e10, f10, go_sem]) ?_
              refine MR.takeH (i := 1) (some 70) (.slice sa ss.length sc) rfl rfl (by kernel_rfl) (by kernel_rfl) (by kernel_rfl) (fun _ _ _ h => h) hS (MR.free rfl) (fun wq hw => by simp [execOp, MR.ev, MR.size, hsz, e5, f5, e8, f8, e9, f9, e10, f10, (LD.out wq hw).1, go_sem]) ?_
              refine MR.takeH (i := 2) (some 71) (.pointer (some ⟨q, 0, none⟩)) rfl rfl (by kernel_rfl) (by kernel_rfl) (by kernel_rfl) (fun _ _ _ h => h) hS (MR.free rfl) (fun wq hw => by simp [execOp, MR.ev, MR.size, hsz, e5, f5, e8, f8, e9, f9, e10, f10, go_sem]) ?_
              refine MR.takeH (i := 3) (some 72) (.int .i64 y0) rfl rfl (by kernel_rfl) (by kernel_rfl) (by kernel_rfl) (fun _ _ _ h => h) hS (MR.free rfl) (fun wq hw => by simp [execOp, MR.ev, MR.size, hsz, e5, f5, e8, f8, e9, f9, e10, f10, (LD.out wq hw).2.2.1, go_sem]) ?_
              refine MR.callH (i := 4) (some 73) (18) (#[.slice sa ss.length sc, .int .i64 y0]) (by kernel_rfl) rfl rfl (MR.free rfl) (by simp [execOp, MR.ev, MR.size, hsz, e5, f5, e8, f8, e9, f9, e10, f10, go_sem]) ?_
              refine Calls.mono (RS.out _ (hV.trans (hS.mono hV.size))) ?_
              rintro e wn ⟨rfl, rfl⟩
              refine ⟨_, rfl, hS, ?_⟩
              refine MR.takeH (i := 5) (some 74) (.bool false) rfl rfl (by kernel_rfl) (by kernel_rfl) (by kernel_rfl) (fun _ _ _ h => h) hS (MR.free rfl) (fun wq hw => by simp [execOp, MR.ev, MR.size, hsz, e5, f5, e8, f8, e9, f9, e10, f10, go_sem]) ?_
              refine MR.takeH (i := 6) (some 75) (.bool false) rfl rfl (by kernel_rfl) (by kernel_rfl) (by kernel_rfl) (fun _ _ _ h => h) hS (MR.free rfl) (fun wq hw => by simp [execOp, MR.ev, MR.size, hsz, e5, f5, e8, f8, e9, f9, e10, f10, go_sem]) ?_
              refine MR.takeH (i := 7) (some 76) (.slice ad kd.length cd) rfl rfl (by kernel_rfl) (by kernel_rfl) (by kernel_rfl) (fun _ _ _ h => h) hS (MR.want (d := 75) rfl rfl (by simp [MR.size, hsz]) (by simp [MR.ev, MR.size, hsz, e5, f5, e8, f8, e9, f9, e10, f10])) (fun wq hw => by simp [execOp, MR.ev, MR.size, hsz, e5, f5, e8, f8, e9, f9, e10, f10, go_sem]) ?_
              refine MR.takeH (i := 8) (some 77) (.pointer (some ⟨q, 1, none⟩)) rfl rfl (by kernel_rfl) (by kernel_rfl) (by kernel_rfl) (fun _ _ _ h => h) hS (MR.want (d := 75) rfl rfl (by simp [MR.size, hsz]) (by simp [MR.ev, MR.size, hsz, e5, f5, e8, f8, e9, f9, e10, f10])) (fun wq hw => by simp [execOp, MR.ev, MR.size, hsz, e5, f5, e8, f8, e9, f9, e10, f10, go_sem]) ?_
              refine MR.takeH (i := 9) (some 78) (.int .i64 y1) rfl rfl (by kernel_rfl) (by kernel_rfl) (by kernel_rfl) (fun _ _ _ h => h) hS (MR.want (d := 75) rfl rfl (by simp [MR.size, hsz]) (by simp [MR.ev, MR.size, hsz, e5, f5, e8, f8, e9, f9, e10, f10])) (fun wq hw => by simp [execOp, MR.ev, MR.size, hsz, e5, f5, e8, f8, e9, f9, e10, f10, (LD.out wq hw).2.2.2, go_sem]) ?_
              refine MR.callH (i := 10) (some 79) (18) (#[.slice ad kd.length cd, .int .i64 y1]) (by kernel_rfl) rfl rfl (MR.want (d := 75) rfl rfl (by simp [MR.size, hsz]) (by simp [MR.ev, MR.size, hsz, e5, f5, e8, f8, e9, f9, e10, f10])) (by simp [execOp, MR.ev, MR.size, hsz, e5, f5, e8, f8, e9, f9, e10, f10, go_sem]) ?_
              refine Calls.mono (RK.out _ (hV2.trans (hS.mono hV2.size))) ?_
              rintro e wn ⟨rfl, rfl⟩
              refine ⟨_, rfl, hS, ?_⟩
              refine MR.takeH (i := 11) (some 80) (.bool false) rfl rfl (by kernel_rfl) (by kernel_rfl) (by kernel_rfl) (fun _ _ _ h => h) hS (MR.want (d := 75) rfl rfl (by simp [MR.size, hsz]) (by simp [MR.ev, MR.size, hsz, e5, f5, e8, f8, e9, f9, e10, f10])) (fun wq hw => by simp [execOp, MR.ev, MR.size, hsz, e5, f5, e8, f8, e9, f9, e10, f10, go_sem]) ?_
              refine MR.takeH (i := 12) (some 81) (.bool false) rfl rfl (by kernel_rfl) (by kernel_rfl) (by kernel_rfl) (fun _ _ _ h => h) hS (MR.free rfl) (fun wq hw => by simp [execOp, MR.ev, MR.size, hsz, e5, f5, e8, f8, e9, f9, e10, f10, go_sem]) ?_
              refine MR.takeH (i := 13) (some 82) (.bool false) rfl rfl (by kernel_rfl) (by kernel_rfl) (by kernel_rfl) (fun _ _ _ h => h) hS (MR.free rfl) (fun wq hw => by simp [execOp, MR.ev, MR.size, hsz, e5, f5, e8, f8, e9, f9, e10, f10, go_sem]) ?_
              refine MR.takeH (i := 14) (some 83) (.int .i64 (j : Int)) rfl rfl (by kernel_rfl) (by kernel_rfl) (by kernel_rfl) (fun _ _ _ h => h) hS (MR.want (d := 82) rfl rfl (by simp [MR.size, hsz]) (by simp [MR.ev, MR.size, hsz, e5, f5, e8, f8, e9, f9, e10, f10])) (fun wq hw => by simp [execOp, MR.ev, MR.size, hsz, e5, f5, e8, f8, e9, f9, e10, f10, go_sem]) ?_
              refine MR.takeH (i := 15) (some 84) (.bool true) rfl rfl (by kernel_rfl) (by kernel_rfl) (by kernel_rfl) (fun _ _ _ h => h) hS (MR.want (d := 82) rfl rfl (by simp [MR.size, hsz]) (by simp [MR.ev, MR.size, hsz, e5, f5, e8, f8, e9, f9, e10, f10])) (fun wq hw => by simp [execOp, MR.ev, MR.size, hsz, e5, f5, e8, f8, e9, f9, e10, f10, hjz, hjz2, hjz3, go_sem]) ?_
              refine MR.takeH (i := 16) (some 85) (.bool true) rfl rfl (by kernel_rfl) (by kernel_rfl) (by kernel_rfl) (fun _ _ _ h => h) hS (MR.want (d := 82) rfl rfl (by simp [MR.size, hsz]) (by simp [MR.ev, MR.size, hsz, e5, f5, e8, f8, e9, f9, e10, f10])) (fun wq hw => by simp [execOp, MR.ev, MR.size, hsz, e5, f5, e8, f8, e9, f9, e10, f10, go_sem]) ?_
              refine MR.takeH (i := 17) (some 86) (.pointer (some ⟨w.heap.size + 1, 1, none⟩)) rfl rfl (by kernel_rfl) (by kernel_rfl) (by kernel_rfl) (fun _ _ _ h => h) hS (MR.want (d := 85) rfl rfl (by simp [MR.size, hsz]) (by simp [MR.ev, MR.size, hsz, e5, f5, e8, f8, e9, f9, e10, f10])) (fun wq hw => by simp [execOp, MR.ev, MR.size, hsz, e5, f5, e8, f8, e9, f9, e10, f10, go_sem]) ?_
              refine MR.takeH (i := 18) (some 87) (.slice (some ⟨b2, off2, none⟩) hs.length hc) rfl rfl (by kernel_rfl) (by kernel_rfl) (by kernel_rfl) (fun _ _ _ h => h) hS (MR.want (d := 85) rfl rfl (by simp [MR.size, hsz]) (by simp [MR.ev, MR.size, hsz, e5, f5, e8, f8, e9, f9, e10, f10])) (fun wq hw => by simp [execOp, MR.ev, MR.size, hsz, e5, f5, e8, f8, e9, f9, e10, f10, (LD.out wq hw).2.1, go_sem]) ?_
              refine MR.takeH (i := 19) (some 88) (.int .i64 (j : Int)) rfl rfl (by kernel_rfl) (by kernel_rfl) (by kernel_rfl) (fun _ _ _ h => h) hS (MR.want (d := 85) rfl rfl (by simp [MR.size, hsz]) (by simp [MR.ev, MR.size, hsz, e5, f5, e8, f8, e9, f9, e10, f10])) (fun wq hw => by simp [execOp, MR.ev, MR.size, hsz, e5, f5, e8, f8, e9, f9, e10, f10, go_sem]) ?_
              refine MR.takeH (i := 20) (some 89) (.int .i64 (i : Int)) rfl rfl (by kernel_rfl) (by kernel_rfl) (by kernel_rfl) (fun _ _ _ h => h) hS (MR.want (d := 85) rfl rfl (by simp [MR.size, hsz]) (by simp [MR.ev, MR.size, hsz, e5, f5, e8, f8, e9, f9, e10, f10])) (fun wq hw => by simp [execOp, MR.ev, MR.size, hsz, e5, f5, e8, f8, e9, f9, e10, f10, q4, go_sem]) ?_
              refine MR.takeH (i := 21) (some 90) (.pointer (some ⟨b2, off2 + i * 2, none⟩)) rfl rfl (by kernel_rfl) (by kernel_rfl) (by kernel_rfl) (fun _ _ _ h => h) hS (MR.want (d := 85) rfl rfl (by simp [MR.size, hsz]) (by simp [MR.ev, MR.size, hsz, e5, f5, e8, f8, e9, f9, e10, f10])) (fun wq hw => by simp [execOp, MR.ev, MR.size, hsz, e5, f5, e8, f8, e9, f9, e10, f10, q0, q1, go_sem]) ?_
              refine MR.takeH (i := 22) (some 91) (.agg #[.int .i64 pa, .int .i64 pb]) rfl rfl (by kernel_rfl) (by kernel_rfl) (by kernel_rfl) (fun _ _ _ h => h) hS (MR.want (d := 85) rfl rfl (by simp [MR.size, hsz]) (by simp [MR.ev, MR.size, hsz, e5, f5, e8, f8, e9, f9, e10, f10])) (fun wq hw => by simp [execOp, MR.ev, MR.size, hsz, e5, f5, e8, f8, e9, f9, e10, f10, (LP.out wq hw).1, (LP.out wq hw).2, go_sem]) ?_
              refine MR.takeH (i := 23) (some 92) (.agg #[.int .i64 y0, .int .i64 y1]) rfl rfl (by kernel_rfl) (by kernel_rfl) (by kernel_rfl) (fun _ _ _ h => h) hS (MR.want (d := 85) rfl rfl (by simp [MR.size, hsz]) (by simp [MR.ev, MR.size, hsz, e5, f5, e8, f8, e9, f9, e10, f10])) (fun wq hw => by simp [execOp, MR.ev, MR.size, hsz, e5, f5, e8, f8, e9, f9, e10, f10, (LD.out wq hw).2.2.1, (LD.out wq hw).2.2.2, go_sem]) ?_
              refine MR.callH (i := 24) (some 93) (37) (#[.agg #[.int .i64 pa, .int .i64 pb], .agg #[.int .i64 y0, .int .i64 y1]]) (by kernel_rfl) rfl rfl (MR.want (d := 85) rfl rfl (by simp [MR.size, hsz]) (by simp [MR.ev, MR.size, hsz, e5, f5, e8, f8, e9, f9, e10, f10])) (by simp [execOp, MR.ev, MR.size, hsz, e5, f5, e8, f8, e9, f9, e10, f10, go_sem]) ?_
              refine Calls.mono (RL.out _) ?_
              rintro e wn ⟨rfl, hbn⟩
              have hS2 : Below V.heap.size V wn := hS.trans (hbn.mono hS.size)
              refine ⟨_, rfl, hS2, ?_⟩
              refine MR.takeH (i := 25) (some 94) (.bool true) rfl rfl (by kernel_rfl) (by kernel_rfl) (by kernel_rfl) (fun _ _ _ h => h) hS2 (MR.want (d := 85) rfl rfl (by simp [MR.size, hsz]) (by simp [MR.ev, MR.size, hsz, e5, f5, e8, f8, e9, f9, e10, f10])) (fun wq hw => by simp [execOp, MR.ev, MR.size, hsz, e5, f5, e8, f8, e9, f9, e10, f10, go_sem]) ?_
              refine MR.takeH (i := 26) (some 95) (.bool true) rfl rfl (by kernel_rfl) (by kernel_rfl) (by kernel_rfl) (fun _ _ _ h => h) hS2 (MR.want (d := 82) rfl rfl (by simp [MR.size, hsz]) (by simp [MR.ev, MR.size, hsz, e5, f5, e8, f8, e9, f9, e10, f10])) (fun wq hw => by simp [execOp, MR.ev, MR.size, hsz, e5, f5, e8, f8, e9, f9, e10, f10, go_sem]) ?_
              refine MR.takeH (i := 27) (some 96) (.bool true) rfl rfl (by kernel_rfl) (by kernel_rfl) (by kernel_rfl) (fun _ _ _ h => h) hS2 (MR.free rfl) (fun wq hw => by simp [execOp, MR.ev, MR.size, hsz, e5, f5, e8, f8, e9, f9, e10, f10, go_sem]) ?_
              refine wpAnyH_done (by kernel_rfl) ?_ _
              rw [HA.out]
              simp only [Act.put, List.setIfInBounds_toArray, List.set_cons_succ, List.set_cons_zero]
              have hbb := hV.trans (hS2.mono hV.size)
              clear HA hsz e5 f5 e8 f8 e9 f9 e10 f10 hS hS2 hbn LD LP RS RK RL hjz hjz2 hjz3 q0 q1 q4
              go_wp2
              go_ret
              exact ⟨M4.ret_bool hF.out.symm, hbb⟩
            case true =>
              have hT : Hid _ := HY2.out rfl
              clear HN2 HY2
              refine MR.frame fun A hA => ?_
              have hsz : A.tmps.size = 131 := by rw [hA]; rfl
              have e5 : A.eval (.tmp 5) = .pointer (some ⟨w.heap.size + 1, 0, none⟩) := by rw [hA]; rfl
              have f5 := MR.read (t := 5) (by rw [hsz]; decide) e5
              have e8 : A.eval (.tmp 8) = .slice ad kd.length cd := by rw [hA]; rfl
              have f8 := MR.read (t := 8) (by rw [hsz]; decide) e8
              have e9 : A.eval (.tmp 9) = .int .i64 (j : Int) := by rw [hA]; rfl
              have f9 := MR.read (t := 9) (by rw [hsz]; decide) e9
              have e10 : A.eval (.tmp 10) = .pointer (some ⟨q, 0, none⟩) := by rw [hA]; rfl
              have f10 := MR.read (t := 10) (by rw [hsz]; decide) e10
              have HA : Hid (A = _) := hA
              clear hA
              have hS : (fun W => Below V.heap.size V W) (World.drew _) := (Below.refl _ V).drew
              refine wp_region_held (S := fun W => Below V.heap.size V W) (by kernel_rfl) ?_
              change wpAnyH _ _ _ _ _ _ _ _ (World.drew _)
              refine MR.takeH (i := 0) (some 69) (.pointer (some ⟨w.heap.size + 1, 0, none⟩)) rfl rfl (by kernel_rfl) (by kernel_rfl) (by kernel_rfl) (fun _ _ _ h => h) hS (MR.free rfl) (fun wq hw => by simp [execOp, MR.ev, MR.size, hsz, e5, f5, e8, f8, e9, f9, e10, f10, go_sem]) ?_
              refine MR.takeH (i := 1) (some 70) (.slice sa ss.length sc) rfl rfl (by kernel_rfl) (by kernel_rfl) (by kernel_rfl) (fun _ _ _ h => h) hS (MR.free rfl) (fun wq hw => by simp [execOp, MR.ev, MR.size, hsz, e5, f5, e8, f8, e9, f9, e10, f10, (LD.out wq hw).1, go_sem]) ?_
              refine MR.takeH (i := 2) (some 71) (.pointer (some ⟨q, 0, none⟩)) rfl rfl (by kernel_rfl) (by kernel_rfl) (by kernel_rfl) (fun _ _ _ h => h) hS (MR.free rfl) (fun wq hw => by simp [execOp, MR.ev, MR.size, hsz, e5, f5, e8, f8, e9, f9, e10, f10, go_sem]) ?_
              refine MR.takeH (i := 3) (some 72) (.int .i64 y0) rfl rfl (by kernel_rfl) (by kernel_rfl) (by kernel_rfl) (fun _ _ _ h => h) hS (MR.free rfl) (fun wq hw => by simp [execOp, MR.ev, MR.size, hsz, e5, f5, e8, f8, e9, f9, e10, f10, (LD.out wq hw).2.2.1, go_sem]) ?_
              refine MR.callH (i := 4) (some 73) (18) (#[.slice sa ss.length sc, .int .i64 y0]) (by kernel_rfl) rfl rfl (MR.free rfl) (by simp [execOp, MR.ev, MR.size, hsz, e5, f5, e8, f8, e9, f9, e10, f10, go_sem]) ?_
              refine Calls.mono (RS.out _ (hV.trans (hS.mono hV.size))) ?_
              rintro e wn ⟨rfl, rfl⟩
              refine ⟨_, rfl, hS, ?_⟩
              refine MR.takeH (i := 5) (some 74) (.bool false) rfl rfl (by kernel_rfl) (by kernel_rfl) (by kernel_rfl) (fun _ _ _ h => h) hS (MR.free rfl) (fun wq hw => by simp [execOp, MR.ev, MR.size, hsz, e5, f5, e8, f8, e9, f9, e10, f10, go_sem]) ?_
              refine MR.takeH (i := 6) (some 75) (.bool false) rfl rfl (by kernel_rfl) (by kernel_rfl) (by kernel_rfl) (fun _ _ _ h => h) hS (MR.free rfl) (fun wq hw => by simp [execOp, MR.ev, MR.size, hsz, e5, f5, e8, f8, e9, f9, e10, f10, go_sem]) ?_
              refine MR.takeH (i := 7) (some 76) (.slice ad kd.length cd) rfl rfl (by kernel_rfl) (by kernel_rfl) (by kernel_rfl) (fun _ _ _ h => h) hS (MR.want (d := 75) rfl rfl (by simp [MR.size, hsz]) (by simp [MR.ev, MR.size, hsz, e5, f5, e8, f8, e9, f9, e10, f10])) (fun wq hw => by simp [execOp, MR.ev, MR.size, hsz, e5, f5, e8, f8, e9, f9, e10, f10, go_sem]) ?_
              refine MR.takeH (i := 8) (some 77) (.pointer (some ⟨q, 1, none⟩)) rfl rfl (by kernel_rfl) (by kernel_rfl) (by kernel_rfl) (fun _ _ _ h => h) hS (MR.want (d := 75) rfl rfl (by simp [MR.size, hsz]) (by simp [MR.ev, MR.size, hsz, e5, f5, e8, f8, e9, f9, e10, f10])) (fun wq hw => by simp [execOp, MR.ev, MR.size, hsz, e5, f5, e8, f8, e9, f9, e10, f10, go_sem]) ?_
              refine MR.takeH (i := 9) (some 78) (.int .i64 y1) rfl rfl (by kernel_rfl) (by kernel_rfl) (by kernel_rfl) (fun _ _ _ h => h) hS (MR.want (d := 75) rfl rfl (by simp [MR.size, hsz]) (by simp [MR.ev, MR.size, hsz, e5, f5, e8, f8, e9, f9, e10, f10])) (fun wq hw => by simp [execOp, MR.ev, MR.size, hsz, e5, f5, e8, f8, e9, f9, e10, f10, (LD.out wq hw).2.2.2, go_sem]) ?_
              refine MR.callH (i := 10) (some 79) (18) (#[.slice ad kd.length cd, .int .i64 y1]) (by kernel_rfl) rfl rfl (MR.want (d := 75) rfl rfl (by simp [MR.size, hsz]) (by simp [MR.ev, MR.size, hsz, e5, f5, e8, f8, e9, f9, e10, f10])) (by simp [execOp, MR.ev, MR.size, hsz, e5, f5, e8, f8, e9, f9, e10, f10, go_sem]) ?_
              refine Calls.mono (RK.out _ (hV2.trans (hS.mono hV2.size))) ?_
              rintro e wn ⟨rfl, rfl⟩
              refine ⟨_, rfl, hS, ?_⟩
              refine MR.takeH (i := 11) (some 80) (.bool false) rfl rfl (by kernel_rfl) (by kernel_rfl) (by kernel_rfl) (fun _ _ _ h => h) hS (MR.want (d := 75) rfl rfl (by simp [MR.size, hsz]) (by simp [MR.ev, MR.size, hsz, e5, f5, e8, f8, e9, f9, e10, f10])) (fun wq hw => by simp [execOp, MR.ev, MR.size, hsz, e5, f5, e8, f8, e9, f9, e10, f10, go_sem]) ?_
              refine MR.takeH (i := 12) (some 81) (.bool false) rfl rfl (by kernel_rfl) (by kernel_rfl) (by kernel_rfl) (fun _ _ _ h => h) hS (MR.free rfl) (fun wq hw => by simp [execOp, MR.ev, MR.size, hsz, e5, f5, e8, f8, e9, f9, e10, f10, go_sem]) ?_
              refine MR.takeH (i := 13) (some 82) (.bool false) rfl rfl (by kernel_rfl) (by kernel_rfl) (by kernel_rfl) (fun _ _ _ h => h) hS (MR.free rfl) (fun wq hw => by simp [execOp, MR.ev, MR.size, hsz, e5, f5, e8, f8, e9, f9, e10, f10, go_sem]) ?_
              refine MR.takeH (i := 14) (some 83) (.int .i64 (j : Int)) rfl rfl (by kernel_rfl) (by kernel_rfl) (by kernel_rfl) (fun _ _ _ h => h) hS (MR.want (d := 82) rfl rfl (by simp [MR.size, hsz]) (by simp [MR.ev, MR.size, hsz, e5, f5, e8, f8, e9, f9, e10, f10])) (fun wq hw => by simp [execOp, MR.ev, MR.size, hsz, e5, f5, e8, f8, e9, f9, e10, f10, go_sem]) ?_
              refine MR.takeH (i := 15) (some 84) (.bool true) rfl rfl (by kernel_rfl) (by kernel_rfl) (by kernel_rfl) (fun _ _ _ h => h) hS (MR.want (d := 82) rfl rfl (by simp [MR.size, hsz]) (by simp [MR.ev, MR.size, hsz, e5, f5, e8, f8, e9, f9, e10, f10])) (fun wq hw => by simp [execOp, MR.ev, MR.size, hsz, e5, f5, e8, f8, e9, f9, e10, f10, hjz, hjz2, hjz3, go_sem]) ?_
              refine MR.takeH (i := 16) (some 85) (.bool true) rfl rfl (by kernel_rfl) (by kernel_rfl) (by kernel_rfl) (fun _ _ _ h => h) hS (MR.want (d := 82) rfl rfl (by simp [MR.size, hsz]) (by simp [MR.ev, MR.size, hsz, e5, f5, e8, f8, e9, f9, e10, f10])) (fun wq hw => by simp [execOp, MR.ev, MR.size, hsz, e5, f5, e8, f8, e9, f9, e10, f10, go_sem]) ?_
              refine MR.takeH (i := 17) (some 86) (.pointer (some ⟨w.heap.size + 1, 1, none⟩)) rfl rfl (by kernel_rfl) (by kernel_rfl) (by kernel_rfl) (fun _ _ _ h => h) hS (MR.want (d := 85) rfl rfl (by simp [MR.size, hsz]) (by simp [MR.ev, MR.size, hsz, e5, f5, e8, f8, e9, f9, e10, f10])) (fun wq hw => by simp [execOp, MR.ev, MR.size, hsz, e5, f5, e8, f8, e9, f9, e10, f10, go_sem]) ?_
              refine MR.takeH (i := 18) (some 87) (.slice (some ⟨b2, off2, none⟩) hs.length hc) rfl rfl (by kernel_rfl) (by kernel_rfl) (by kernel_rfl) (fun _ _ _ h => h) hS (MR.want (d := 85) rfl rfl (by simp [MR.size, hsz]) (by simp [MR.ev, MR.size, hsz, e5, f5, e8, f8, e9, f9, e10, f10])) (fun wq hw => by simp [execOp, MR.ev, MR.size, hsz, e5, f5, e8, f8, e9, f9, e10, f10, (LD.out wq hw).2.1, go_sem]) ?_
              refine MR.takeH (i := 19) (some 88) (.int .i64 (j : Int)) rfl rfl (by kernel_rfl) (by kernel_rfl) (by kernel_rfl) (fun _ _ _ h => h) hS (MR.want (d := 85) rfl rfl (by simp [MR.size, hsz]) (by simp [MR.ev, MR.size, hsz, e5, f5, e8, f8, e9, f9, e10, f10])) (fun wq hw => by simp [execOp, MR.ev, MR.size, hsz, e5, f5, e8, f8, e9, f9, e10, f10, go_sem]) ?_
              refine MR.takeH (i := 20) (some 89) (.int .i64 (i : Int)) rfl rfl (by kernel_rfl) (by kernel_rfl) (by kernel_rfl) (fun _ _ _ h => h) hS (MR.want (d := 85) rfl rfl (by simp [MR.size, hsz]) (by simp [MR.ev, MR.size, hsz, e5, f5, e8, f8, e9, f9, e10, f10])) (fun wq hw => by simp [execOp, MR.ev, MR.size, hsz, e5, f5, e8, f8, e9, f9, e10, f10, q4, go_sem]) ?_
              refine MR.takeH (i := 21) (some 90) (.pointer (some ⟨b2, off2 + i * 2, none⟩)) rfl rfl (by kernel_rfl) (by kernel_rfl) (by kernel_rfl) (fun _ _ _ h => h) hS (MR.want (d := 85) rfl rfl (by simp [MR.size, hsz]) (by simp [MR.ev, MR.size, hsz, e5, f5, e8, f8, e9, f9, e10, f10])) (fun wq hw => by simp [execOp, MR.ev, MR.size, hsz, e5, f5, e8, f8, e9, f9, e10, f10, q0, q1, go_sem]) ?_
              refine MR.takeH (i := 22) (some 91) (.agg #[.int .i64 pa, .int .i64 pb]) rfl rfl (by kernel_rfl) (by kernel_rfl) (by kernel_rfl) (fun _ _ _ h => h) hS (MR.want (d := 85) rfl rfl (by simp [MR.size, hsz]) (by simp [MR.ev, MR.size, hsz, e5, f5, e8, f8, e9, f9, e10, f10])) (fun wq hw => by simp [execOp, MR.ev, MR.size, hsz, e5, f5, e8, f8, e9, f9, e10, f10, (LP.out wq hw).1, (LP.out wq hw).2, go_sem]) ?_
              refine MR.takeH (i := 23) (some 92) (.agg #[.int .i64 y0, .int .i64 y1]) rfl rfl (by kernel_rfl) (by kernel_rfl) (by kernel_rfl) (fun _ _ _ h => h) hS (MR.want (d := 85) rfl rfl (by simp [MR.size, hsz]) (by simp [MR.ev, MR.size, hsz, e5, f5, e8, f8, e9, f9, e10, f10])) (fun wq hw => by simp [execOp, MR.ev, MR.size, hsz, e5, f5, e8, f8, e9, f9, e10, f10, (LD.out wq hw).2.2.1, (LD.out wq hw).2.2.2, go_sem]) ?_
              refine MR.callH (i := 24) (some 93) (37) (#[.agg #[.int .i64 pa, .int .i64 pb], .agg #[.int .i64 y0, .int .i64 y1]]) (by kernel_rfl) rfl rfl (MR.want (d := 85) rfl rfl (by simp [MR.size, hsz]) (by simp [MR.ev, MR.size, hsz, e5, f5, e8, f8, e9, f9, e10, f10])) (by simp [execOp, MR.ev, MR.size, hsz, e5, f5, e8, f8, e9, f9, e10, f10, go_sem]) ?_
              refine Calls.mono (RL.out _) ?_
              rintro e wn ⟨rfl, hbn⟩
              have hS2 : Below V.heap.size V wn := hS.trans (hbn.mono hS.size)
              refine ⟨_, rfl, hS2, ?_⟩
              refine MR.takeH (i := 25) (some 94) (.bool false) rfl rfl (by kernel_rfl) (by kernel_rfl) (by kernel_rfl) (fun _ _ _ h => h) hS2 (MR.want (d := 85) rfl rfl (by simp [MR.size, hsz]) (by simp [MR.ev, MR.size, hsz, e5, f5, e8, f8, e9, f9, e10, f10])) (fun wq hw => by simp [execOp, MR.ev, MR.size, hsz, e5, f5, e8, f8, e9, f9, e10, f10, go_sem]) ?_
              refine MR.takeH (i := 26) (some 95) (.bool false) rfl rfl (by kernel_rfl) (by kernel_rfl) (by kernel_rfl) (fun _ _ _ h => h) hS2 (MR.want (d := 82) rfl rfl (by simp [MR.size, hsz]) (by simp [MR.ev, MR.size, hsz, e5, f5, e8, f8, e9, f9, e10, f10])) (fun wq hw => by simp [execOp, MR.ev, MR.size, hsz, e5, f5, e8, f8, e9, f9, e10, f10, go_sem]) ?_
              refine MR.takeH (i := 27) (some 96) (.bool false) rfl rfl (by kernel_rfl) (by kernel_rfl) (by kernel_rfl) (fun _ _ _ h => h) hS2 (MR.free rfl) (fun wq hw => by simp [execOp, MR.ev, MR.size, hsz, e5, f5, e8, f8, e9, f9, e10, f10, go_sem]) ?_
              refine wpAnyH_done (by kernel_rfl) ?_ _
              rw [HA.out]
              simp only [Act.put, List.setIfInBounds_toArray, List.set_cons_succ, List.set_cons_zero]
              have hbb := hV2.trans (hS2.mono hV2.size)
              clear HA hsz e5 f5 e8 f8 e9 f9 e10 f10 hS hS2 hbn LD LP RS RK RL hjz hjz2 hjz3 q0 q1 q4
              go_wp2
              go_roundw
              case rel => exact ⟨j + 1, by go_num, by omega, hT, hbb⟩
              case measure => simp [intOf]; omega
        · obtain rfl : j = hs.length := by omega
          have HB5 : Hid ((ss.all fun id => kd.all fun ch => EG.hasB (CG.sd S ch.toNat).1 id || CG.hasH hs ⟨id, ch⟩) = B) := by
            show _ = _
            rw [← HB4.out, CG.rgK_yes (f := fun j => EG.hasB ss (MI2.at_ hs j).a0 && EG.hasB kd (MI2.at_ hs j).a1 && (decide (j = 0) || CG.lessH (MI2.at_ hs (j - 1)) (MI2.at_ hs j))) hT.out]; rfl
          have a3 := z4.cell 0 rfl
          have lx4 := x4.lt
          have lz4 := z4.lt
          have KDA2 : Hid (∀ W, Below wr.heap.size wr W → M4.IntsAt W ad kd) := fun W hW => KDA.out W (hb.trans (hW.mono hb.size))
          clear HB4 hT x3 z3 HHK HSK hb KDA lx3 lz3 hB3
          generalize hWr : wr = W3 at *
          clear hWr
          go_wp2_with fail
          clear a3
          go_loopw [101] (fun iv wr => ∃ j : Nat, iv = .int .i64 j ∧ j ≤ ss.length ∧ Hid (∀ m, m < j → (kd.all fun ch => EG.hasB (CG.sd S ch.toNat).1 (ss.getD m 0) || CG.hasH hs ⟨ss.getD m 0, ch⟩) = true) ∧ Below W3.heap.size W3 wr) (fun iv _ => (ss.length - intOf iv).toNat)
          case atStart => exact ⟨0, rfl, by omega, show Hid _ from fun j hj => by omega, Below.refl _ _⟩
          case round =>
            obtain ⟨j, rfl, hj, hT, hb⟩ := hrel
            have hB5 := hB4.trans (hb.mono hB4.size)
            have x5 := x4.below hb lx4
            have z5 := z4.below hb lz4
            by_cases hlj : j < ss.length
            · obtain ⟨b2, off2, rfl, hlt2, c0⟩ := M4.IntsAt.at (HI.out wr hB5).1 hlj
              have HN : Hid ((kd.all fun ch => EG.hasB (CG.sd S ch.toNat).1 (ss.getD j 0) || CG.hasH hs ⟨ss.getD j 0, ch⟩) = false → B = false) := fun e => by
                rw [← HB5.out, CG.allI_no (f := fun id => kd.all fun ch => EG.hasB (CG.sd S ch.toNat).1 id || CG.hasH hs ⟨id, ch⟩) hlj e]
              have HY : Hid ((kd.all fun ch => EG.hasB (CG.sd S ch.toNat).1 (ss.getD j 0) || CG.hasH hs ⟨ss.getD j 0, ch⟩) = true → ∀ m, m < j + 1 → (kd.all fun ch => EG.hasB (CG.sd S ch.toNat).1 (ss.getD m 0) || CG.hasH hs ⟨ss.getD m 0, ch⟩) = true) := fun e => CG.allI_succ (f := fun id => kd.all fun ch => EG.hasB (CG.sd S ch.toNat).1 id || CG.hasH hs ⟨id, ch⟩) hT.out e
              have KDA3 : Hid (∀ W, Below wr.heap.size wr W → M4.IntsAt W ad kd) := fun W hW => KDA2.out W (hb.trans (hW.mono hb.size))
              generalize hid : ss.getD j 0 = id at *
              have HTO : Hid _ := hT
              clear hid hT HB5 x4 z4 lx4 lz4 KDA2 hB4
              go_wp2_with fail
              clear c0
              have lx5 := x5.lt
              have lz5 := z5.lt
              have HBO : Hid _ := hb
              clear hb
              generalize hWr : wr = W4 at *
              clear hWr
              go_loopw [107] (fun iv wr => ∃ m : Nat, iv = .int .i64 m ∧ m ≤ kd.length ∧ Hid (∀ n, n < m → (EG.hasB (CG.sd S (kd.getD n 0).toNat).1 id || CG.hasH hs ⟨id, kd.getD n 0⟩) = true) ∧ Below W4.heap.size W4 wr) (fun iv _ => (kd.length - intOf iv).toNat)
              case atStart => exact ⟨0, rfl, by omega, show Hid _ from fun j hj => by omega, Below.refl _ _⟩
              case round =>
                obtain ⟨m, rfl, hm, hT, hb⟩ := hrel
                have hB6 := hB5.trans (hb.mono hB5.size)
                have x6 := x5.below hb lx5
                have z6 := z5.below hb lz5
                by_cases hlm : m < kd.length
                · obtain ⟨b3, off3, rfl, hlt3, c0⟩ := M4.IntsAt.at (KDA3.out wr hb) hlm
                  obtain ⟨i, hi, hki⟩ := HKM.out _ (CG.getD_mem hlm)
                  have HN2 : Hid ((EG.hasB (CG.sd S i).1 id || CG.hasH hs ⟨id, (i : Int)⟩) = false → B = false) := fun e => HN.out (CG.allI_no (f := fun ch => EG.hasB (CG.sd S ch.toNat).1 id || CG.hasH hs ⟨id, ch⟩) hlm (by rw [hki]; exact e))
                  have HY2 : Hid ((EG.hasB (CG.sd S i).1 id || CG.hasH hs ⟨id, (i : Int)⟩) = true → ∀ n, n < m + 1 → (EG.hasB (CG.sd S (kd.getD n 0).toNat).1 id || CG.hasH hs ⟨id, kd.getD n 0⟩) = true) := fun e => CG.allI_succ (f := fun ch => EG.hasB (CG.sd S ch.toNat).1 id || CG.hasH hs ⟨id, ch⟩) hT.out (by rw [hki]; exact e)
                  rw [hki] at c0
                  obtain ⟨b1', off1', he, -, g0, -, -, -⟩ := (HK.out wr hB6).at hi
                  simp only [Option.some.injEq, Addr.mk.injEq] at he
                  obtain ⟨rfl, rfl, -⟩ := he
                  have RH : Hid (∀ W, Below w.heap.size w W → Calls Try.prog 18 #[.slice (KP.at_ ks i).sa (KP.at_ ks i).ss.length (KP.at_ ks i).sc, .int .i64 id] W fun e w' => e = .returned (.bool (EG.hasB (CG.sd S i).1 id)) ∧ W = w') := fun W hW => HS.out W i id hi hW
                  have RO : Hid (∀ W, Below w.heap.size w W → Calls Try.prog 29 #[.slice ha hs.length hc, .agg #[.int .i64 id, .int .i64 (i : Int)]] W fun e w' => e = .returned (.bool (CG.hasH hs ⟨id, (i : Int)⟩)) ∧ Below W.heap.size W w') := fun W hW => HHH.out W ⟨id, (i : Int)⟩ hW
                  clear hki hT HS HHH HK HI HKM KDA3 HN HY SD x5 z5
                  generalize KP.at_ ks i = pu at *
                  obtain ⟨us', uh', ut', usa, uha, uta, usc, uhc, utc⟩ := pu
                  simp only at g0
                  obtain ⟨r1, hr1⟩ : ∃ r, EG.hasB (CG.sd S i).1 id = r := ⟨_, rfl⟩
                  obtain ⟨r2, hr2⟩ : ∃ r, CG.hasH hs ⟨id, (i : Int)⟩ = r := ⟨_, rfl⟩
                  rw [hr1, hr2] at HN2 HY2
                  simp only [hr1] at RH
                  simp only [hr2] at RO
                  clear hr1 hr2
                  have a1 := x6.cell 1 rfl
                  have a4 := z6.cell 1 rfl
                  go_wp2_with fail
                  refine Calls.mono (RH.out wr hB6) ?_
                  rintro e w6 ⟨rfl, rfl⟩
                  clear RH c0 g0 a1
                  cases r1
                  case true =>
                    have hT : Hid _ := HY2.out rfl
                    clear HN2 HY2 RO a4 x6 z6
                    go_wp2
                    go_roundw
                    case rel => exact ⟨m + 1, by go_num, by omega, hT, hb⟩
                    case measure => simp [intOf]; omega
                  case false =>
                    go_wp2_with fail
                    refine Calls.mono (RO.out wr hB6) ?_
                    rintro e w6 ⟨rfl, hb6⟩
                    have hB7 := hB6.trans (hb6.mono hB6.size)
                    have hb7 := hb.trans (hb6.mono hb.size)
                    clear RO hb6 a4 x6 z6 hb hB6
                    cases r2
                    case false =>
                      have hF : Hid _ := HN2.out rfl
                      clear HN2 HY2
                      go_wp2
                      go_ret
                      exact ⟨M4.ret_bool hF.out.symm, hB7⟩
                    case true =>
                      have hT : Hid _ := HY2.out rfl
                      clear HN2 HY2
                      go_wp2
                      go_roundw
                      case rel => exact ⟨m + 1, by go_num, by omega, hT, hb7⟩
                      case measure => simp [intOf]; omega
                · obtain rfl : m = kd.length := by omega
                  have hT2 : Hid _ := HY.out (CG.allI_yes (f := fun ch => EG.hasB (CG.sd S ch.toNat).1 id || CG.hasH hs ⟨id, ch⟩) hT.out)
                  have hbb := HBO.out.trans (hb.mono HBO.out.size)
                  clear HS HHH HK HI HKM KDA3 HN HY SD x5 z5 x6 z6 hT HTO
                  go_wp2
                  go_roundw
                  case rel => exact ⟨j + 1, by go_num, by omega, hT2, hbb⟩
                  case measure => simp [intOf]; omega
            · obtain rfl : j = ss.length := by omega
              have hF : Hid (B = true) := by
                show _ = _
                rw [← HB5.out, CG.allI_yes (f := fun id => kd.all fun ch => EG.hasB (CG.sd S ch.toNat).1 id || CG.hasH hs ⟨id, ch⟩) hT.out]
              clear HB5 hT HS HHH HK HI HKM KDA2 SD x4 z4 x5 z5
              go_wp2
              go_ret
              exact ⟨M4.ret_bool hF.out.symm, hB5⟩
end Go.Proofs.Ytfkmnmiolnijaaa
