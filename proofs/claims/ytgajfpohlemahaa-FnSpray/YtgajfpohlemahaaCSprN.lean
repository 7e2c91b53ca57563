/- NewSpray, the program's and the specification's; areTwoOf. -/
import Derived.Test.YtgajfpohlemahaaRows
import Derived.Test.YtgajfpohlemahaaMInfo
import Derived.Test.YtgajfpohlemahaaMSpr
import Derived.Test.YtgajfpohlemahaaM5
import Derived.Test.YtgajfpohlemahaaMCur
import Derived.Test.YtgajfpohlemahaaCWith7
import Derived.Test.YtgajfpohlemahaaCL1In
import Derived.WalkKit
import Derived.WalkSpells
import Derived.WalkLawsBesides
import Derived.Outline
namespace Go.Proofs.Ytgajfpohlemahaa
open Go.RowKit
namespace SP
def two (n a b : Int) : Bool := decide ((0 ≤ a ∧ a ≤ n - 1) ∧ (0 ≤ b ∧ b ≤ n - 1) ∧ a ≠ b)
def nok (n f t c : Int) : Bool := decide ((2 ≤ n ∧ n ≤ 8) ∧ ((0 ≤ f ∧ f ≤ n - 1) ∧ (0 ≤ t ∧ t ≤ n - 1) ∧ f ≠ t) ∧ 1 ≤ c ∧ c ≤ 64)
def nL (n f t c : Int) : List Int := if nok n f t c = true then (List.replicate n.toNat 0).set f.toNat c else []
def nT (n f t c : Int) : Int := if nok n f t c = true then t else 0
end SP
set_option maxHeartbeats 800000 in
set_option maxRecDepth 100000 in
theorem areTwoOf_any (n a b : Int) (w : World) (h1 : 0 ≤ n) (h2 : n ≤ 1048576) : Calls Try.prog 27 #[.int .i64 n, .int .i64 a, .int .i64 b] w fun e w' => e = .returned (.bool (SP.two n a b)) ∧ w = w' := by
  have IW : Hid (∀ (n lo hi : Int) (W : World), Calls Try.prog 24 #[.int .i64 n, .int .i64 lo, .int .i64 hi] W fun e w' => e = .returned (.bool (decide (lo ≤ n ∧ n ≤ hi))) ∧ W = w') := fun n lo hi W => within7_any n lo hi W
  by_cases ha : 0 ≤ a ∧ a ≤ n - 1
  · have ea : decide (0 ≤ a ∧ a ≤ n - 1) = true := decide_eq_true ha
    by_cases hb : 0 ≤ b ∧ b ≤ n - 1
    · have eb : decide (0 ≤ b ∧ b ≤ n - 1) = true := decide_eq_true hb
      by_cases hab : a = b
      · have e : SP.two n a b = false := decide_eq_false fun h => h.2.2 hab
        rw [e]
        have e3 : (a == b) = true := by simp [hab]
        clear e ha hb hab
        go_enter Try.func27, Try.ntmps27
        go_wp2_with fail
        refine (IW.out _ _ _ _).mono ?_
        rintro e w1 ⟨rfl, rfl⟩
        rw [ea]
        go_wp2_with fail
        refine (IW.out _ _ _ _).mono ?_
        rintro e w1 ⟨rfl, rfl⟩
        rw [eb]
        go_wp2
        go_ret
        exact ⟨M4.ret_bool (by simp_all), rfl⟩
      · have e : SP.two n a b = true := decide_eq_true ⟨ha, hb, hab⟩
        rw [e]
        have e3 : (a == b) = false := by simp [hab]
        clear e ha hb
        go_enter Try.func27, Try.ntmps27
        go_wp2_with fail
        refine (IW.out _ _ _ _).mono ?_
        rintro e w1 ⟨rfl, rfl⟩
        rw [ea]
        go_wp2_with fail
        refine (IW.out _ _ _ _).mono ?_
        rintro e w1 ⟨rfl, rfl⟩
        rw [eb]
        go_wp2
        go_ret
        exact ⟨M4.ret_bool (by simp_all), rfl⟩
    · have eb : decide (0 ≤ b ∧ b ≤ n - 1) = false := decide_eq_false hb
      have e : SP.two n a b = false := decide_eq_false fun h => hb h.2.1
      rw [e]
      clear e ha hb
      go_enter Try.func27, Try.ntmps27
      go_wp2_with fail
      refine (IW.out _ _ _ _).mono ?_
      rintro e w1 ⟨rfl, rfl⟩
      rw [ea]
      go_wp2_with fail
      refine (IW.out _ _ _ _).mono ?_
      rintro e w1 ⟨rfl, rfl⟩
      rw [eb]
      go_wp2
      go_ret
      exact ⟨rfl, rfl⟩
  · have ea : decide (0 ≤ a ∧ a ≤ n - 1) = false := decide_eq_false ha
    have e : SP.two n a b = false := decide_eq_false fun h => ha h.1
    rw [e]
    clear e ha
    go_enter Try.func27, Try.ntmps27
    go_wp2_with fail
    refine (IW.out _ _ _ _).mono ?_
    rintro e w1 ⟨rfl, rfl⟩
    rw [ea]
    go_wp2
    go_ret
    exact ⟨rfl, rfl⟩
set_option maxHeartbeats 1600000 in
set_option maxRecDepth 100000 in
theorem newSprayI_any (n f t c : Int) (w : World) :
    Calls Try.prog 18 #[.int .i64 n, .int .i64 f, .int .i64 t, .int .i64 c] w fun e w' => ∃ a cap, e = .returned (.tuple #[SP.sv (.slice a (SP.nL n f t c).length cap) (SP.nT n f t c) false, .bool (SP.nok n f t c)]) ∧ w'.ownsRow w.heap.size 3 1 (.slice a (SP.nL n f t c).length cap) (SP.nL n f t c).length (M4.iv (SP.nL n f t c)) ∧ Below w.heap.size w w' := by
  obtain ⟨i0, hi, hz0, hz1, hz2⟩ := info_parts Try.info3
  have IW : Hid (∀ (n lo hi : Int) (W : World), Calls Try.prog 24 #[.int .i64 n, .int .i64 lo, .int .i64 hi] W fun e w' => e = .returned (.bool (decide (lo ≤ n ∧ n ≤ hi))) ∧ W = w') := fun n lo hi W => within7_any n lo hi W
  by_cases h1 : 2 ≤ n ∧ n ≤ 8
  · have e1 : decide (2 ≤ n ∧ n ≤ 8) = true := decide_eq_true h1
    by_cases h2 : (0 ≤ f ∧ f ≤ n - 1) ∧ (0 ≤ t ∧ t ≤ n - 1) ∧ f ≠ t
    · have e2 : SP.two n f t = true := decide_eq_true h2
      by_cases h3 : 1 ≤ c ∧ c ≤ 64
      · have e3 : decide (1 ≤ c ∧ c ≤ 64) = true := decide_eq_true h3
        have ho : SP.nok n f t c = true := decide_eq_true ⟨h1, h2, h3⟩
        have hl : SP.nL n f t c = (List.replicate n.toNat 0).set f.toNat c := by rw [SP.nL, ho]; rfl
        have ht : SP.nT n f t c = t := by rw [SP.nT, ho]; rfl
        rw [ho, hl, ht]
        clear ho hl ht
        obtain ⟨m, rfl⟩ : ∃ m : Nat, n = m := ⟨n.toNat, by omega⟩
        obtain ⟨k, rfl⟩ : ∃ k : Nat, f = k := ⟨f.toNat, by omega⟩
        have hkm : k < m := by omega
        simp only [Int.toNat_natCast]
        rw [show ((List.replicate m (0 : Int)).set k c).length = m by simp]
        clear h3
        go_enter Try.func18, Try.ntmps18
        go_wp2_with fail
        refine (IW.out _ _ _ _).mono ?_
        rintro e w1 ⟨rfl, rfl⟩
        rw [e1]
        go_wp2_with fail
        refine (areTwoOf_any _ _ _ _ (by omega) (by omega)).mono ?_
        rintro e w1 ⟨rfl, rfl⟩
        rw [e2]
        go_wp2_with fail
        refine (IW.out _ _ _ _).mono ?_
        rintro e w1 ⟨rfl, rfl⟩
        rw [e3]
        go_wp2_with (at_make; refine wpList_make_full _ rfl _ _ 26 rfl (w.heap.size + 1) 3 i0 (.int .i64 0) 1 Try.underlying26 hi hz0 hz1 .i64 .i64 _ _ m rfl rfl rfl rfl ?_ ?_ ?_ ?_)
        · rw [hz2]; omega
        · unfold maxLen; omega
        · simp
        intro w1 hown hgrow
        have hown' : w1.ownsRow (w.heap.size + 1) 3 1 (.slice (some ⟨w.heap.size + 1, 0, none⟩) m m) m (M4.iv (List.replicate m 0)) := by
          rw [← M4.made_iv m]; exact hown
        have hb1 : Below w.heap.size w w1 := ((Below.refl _ _).alloc (Nat.le_refl _) _).grown hgrow (by simp) (fun k hk => by cases hk)
        have hx : Below (w.heap.size + 1) (w.alloc (.cells #[.slice none 0 0, .int .i64 0, .bool false] 28)) w1 := (Below.refl _ _).grown hgrow (by simp) (fun k hk => by cases hk)
        have bA := (SP.B3.new w (.slice none 0 0) (.int .i64 0) (.bool false) 28 rfl).below hx (by omega)
        have hg := (hown'.lt (w.heap.size + 1) rfl).2
        clear hown hi hz0 hz1 hz2 e1 e3 IW hgrow hx
        have hcell := hown'.cellAt k (by omega)
        rw [M4.iv_get _ k 0 (by simp [hkm])] at hcell
        have hcell2 := (SP.cell_old (o := (.cells #[.slice (some ⟨w.heap.size + 1, 0, none⟩) m m, .int .i64 t, .bool false] 28)) (p := ⟨w.heap.size + 1, k, none⟩) hg).trans hcell
        have hfz := hown'.frozenAt k
        have hst := (hown'.stored k (.int .i64 c)).1
        rw [M4.iv_set] at hst
        have hsz : (w1.setCell ⟨w.heap.size + 1, k, none⟩ (.int .i64 c)).heap.size = w1.heap.size := by simp
        have o2 := hst.alloc (.cells #[.slice (some ⟨w.heap.size + 1, 0, none⟩) m m, .int .i64 t, .bool false] 28)
        have bQ := SP.B3.new (w1.setCell ⟨w.heap.size + 1, k, none⟩ (.int .i64 c)) (.slice (some ⟨w.heap.size + 1, 0, none⟩) m m) (.int .i64 t) (.bool false) 28 hsz.symm
        have bY := SP.B3.new w1 (.slice (some ⟨w.heap.size + 1, 0, none⟩) m m) (.int .i64 t) (.bool false) 28 rfl
        have bA2 := (bA.only ((MC.Only.refl (w.heap.size + 1) w1).setCell k (.int .i64 c)) (by omega)).alloc (.cells #[.slice (some ⟨w.heap.size + 1, 0, none⟩) m m, .int .i64 t, .bool false] 28)
        have hb2 := (hb1.setCell (p := ⟨w.heap.size + 1, k, none⟩) (by simp) (.int .i64 c)).alloc (by rw [hsz]; exact hb1.size) (.cells #[.slice (some ⟨w.heap.size + 1, 0, none⟩) m m, .int .i64 t, .bool false] 28)
        obtain ⟨y0, y1, y2⟩ := bY.cells
        obtain ⟨x0, x1, x2⟩ := bQ.cells
        obtain ⟨z0, z1, z2⟩ := bA2.cells
        have g0 := bA2.free 0
        have g1 := bA2.free 1
        have g2 := bA2.free 2
        have HST : Hid _ := o2
        have HB3 : Hid _ := hb2
        have HA : Hid _ := bA2
        clear hst hsz bY hb2 o2 bQ bA2 bA hb1 hown'
        go_wp2
        have on2 := (((MC.Only.refl w.heap.size ((w1.setCell ⟨w.heap.size + 1, k, none⟩ (.int .i64 c)).alloc (.cells #[.slice (some ⟨w.heap.size + 1, 0, none⟩) m m, .int .i64 t, .bool false] 28))).setCell 0 (.slice (some ⟨w.heap.size + 1, 0, none⟩) m m)).setCell 1 (.int .i64 t)).setCell 2 (.bool false)
        have bR := ((HA.out.set0 (.slice (some ⟨w.heap.size + 1, 0, none⟩) m m)).set1 (.int .i64 t)).set2 (.bool false)
        obtain ⟨r0, r1, r2⟩ := bR.cells
        have hO := MC.own_only HST.out on2 (by omega)
        have hB := ((HB3.out.setCell (p := ⟨w.heap.size, 0, none⟩) (Nat.le_refl _) (.slice (some ⟨w.heap.size + 1, 0, none⟩) m m)).setCell (p := ⟨w.heap.size, 1, none⟩) (Nat.le_refl _) (.int .i64 t)).setCell (p := ⟨w.heap.size, 2, none⟩) (Nat.le_refl _) (.bool false)
        exact bodyPost_ret (v := .tuple #[SP.sv (.slice (some ⟨w.heap.size + 1, 0, none⟩) m m) t false, .bool true]) (by simp [results, Try.results18, go_sem, r0, r1, r2]) rfl ⟨_, _, rfl, SP.own_le hO (by omega), hB⟩
      · have e3 : decide (1 ≤ c ∧ c ≤ 64) = false := decide_eq_false h3
        have ho : SP.nok n f t c = false := decide_eq_false fun h => h3 h.2.2
        have hl : SP.nL n f t c = [] := by rw [SP.nL, ho]; rfl
        have ht : SP.nT n f t c = 0 := by rw [SP.nT, ho]; rfl
        rw [ho, hl, ht]
        clear ho hl ht hi hz0 hz1 hz2
        go_enter Try.func18, Try.ntmps18
        go_wp2_with fail
        refine (IW.out _ _ _ _).mono ?_
        rintro e w1 ⟨rfl, rfl⟩
        rw [e1]
        go_wp2_with fail
        refine (areTwoOf_any _ _ _ _ (by omega) (by omega)).mono ?_
        rintro e w1 ⟨rfl, rfl⟩
        rw [e2]
        go_wp2_with fail
        refine (IW.out _ _ _ _).mono ?_
        rintro e w1 ⟨rfl, rfl⟩
        rw [e3]
        go_wp2
        exact bodyPost_ret (v := .tuple #[SP.sv (.slice none 0 0) 0 false, .bool false]) (by simp [results, Try.results18, go_sem]) rfl ⟨none, 0, rfl, World.ownsRow_nil _ _ _ _, (Below.refl _ _).alloc (Nat.le_refl _) _⟩
    · have e2 : SP.two n f t = false := decide_eq_false h2
      have ho : SP.nok n f t c = false := decide_eq_false fun h => h2 h.2.1
      have hl : SP.nL n f t c = [] := by rw [SP.nL, ho]; rfl
      have ht : SP.nT n f t c = 0 := by rw [SP.nT, ho]; rfl
      rw [ho, hl, ht]
      clear ho hl ht hi hz0 hz1 hz2
      go_enter Try.func18, Try.ntmps18
      go_wp2_with fail
      refine (IW.out _ _ _ _).mono ?_
      rintro e w1 ⟨rfl, rfl⟩
      rw [e1]
      go_wp2_with fail
      refine (areTwoOf_any _ _ _ _ (by omega) (by omega)).mono ?_
      rintro e w1 ⟨rfl, rfl⟩
      rw [e2]
      go_wp2
      exact bodyPost_ret (v := .tuple #[SP.sv (.slice none 0 0) 0 false, .bool false]) (by simp [results, Try.results18, go_sem]) rfl ⟨none, 0, rfl, World.ownsRow_nil _ _ _ _, (Below.refl _ _).alloc (Nat.le_refl _) _⟩
  · have e1 : decide (2 ≤ n ∧ n ≤ 8) = false := decide_eq_false h1
    have ho : SP.nok n f t c = false := decide_eq_false fun h => h1 h.1
    have hl : SP.nL n f t c = [] := by rw [SP.nL, ho]; rfl
    have ht : SP.nT n f t c = 0 := by rw [SP.nT, ho]; rfl
    rw [ho, hl, ht]
    clear ho hl ht hi hz0 hz1 hz2
    go_enter Try.func18, Try.ntmps18
    go_wp2_with fail
    refine (IW.out _ _ _ _).mono ?_
    rintro e w1 ⟨rfl, rfl⟩
    rw [e1]
    go_wp2
    exact bodyPost_ret (v := .tuple #[SP.sv (.slice none 0 0) 0 false, .bool false]) (by simp [results, Try.results18, go_sem]) rfl ⟨none, 0, rfl, World.ownsRow_nil _ _ _ _, (Below.refl _ _).alloc (Nat.le_refl _) _⟩
set_option maxHeartbeats 1600000 in
set_option maxRecDepth 100000 in
theorem newSprayS_any (n f t c : Int) (w : World) :
    Calls Try.prog 19 #[.int .i64 n, .int .i64 f, .int .i64 t, .int .i64 c] w fun e w' => ∃ a cap, e = .returned (.tuple #[SP.sv (.slice a (SP.nL n f t c).length cap) (SP.nT n f t c) false, .bool (SP.nok n f t c)]) ∧ w'.ownsRow w.heap.size 3 1 (.slice a (SP.nL n f t c).length cap) (SP.nL n f t c).length (M4.iv (SP.nL n f t c)) ∧ Below w.heap.size w w' := by
  obtain ⟨i0, hi, hz0, hz1, hz2⟩ := info_parts Try.info3
  have IW : Hid (∀ (n lo hi : Int) (W : World), Calls Try.prog 30 #[.int .i64 n, .int .i64 lo, .int .i64 hi] W fun e w' => e = .returned (.bool (decide (lo ≤ n ∧ n ≤ hi))) ∧ W = w') := fun n lo hi W => l1In_any n lo hi W
  by_cases h1 : 2 ≤ n ∧ n ≤ 8
  · have e1 : decide (2 ≤ n ∧ n ≤ 8) = true := decide_eq_true h1
    by_cases h2 : (0 ≤ f ∧ f ≤ n - 1) ∧ (0 ≤ t ∧ t ≤ n - 1) ∧ f ≠ t
    · have d1 : decide (f < 0) = false := decide_eq_false (by omega)
      have d2 : decide (n ≤ f) = false := decide_eq_false (by omega)
      have d3 : decide (t < 0) = false := decide_eq_false (by omega)
      have d4 : decide (n ≤ t) = false := decide_eq_false (by omega)
      have d5 : (f == t) = false := by simp [h2.2.2]
      by_cases h3 : 1 ≤ c ∧ c ≤ 64
      · have e3 : decide (1 ≤ c ∧ c ≤ 64) = true := decide_eq_true h3
        have ho : SP.nok n f t c = true := decide_eq_true ⟨h1, h2, h3⟩
        have hl : SP.nL n f t c = (List.replicate n.toNat 0).set f.toNat c := by rw [SP.nL, ho]; rfl
        have ht : SP.nT n f t c = t := by rw [SP.nT, ho]; rfl
        rw [ho, hl, ht]
        clear ho hl ht
        obtain ⟨m, rfl⟩ : ∃ m : Nat, n = m := ⟨n.toNat, by omega⟩
        obtain ⟨k, rfl⟩ : ∃ k : Nat, f = k := ⟨f.toNat, by omega⟩
        have hkm : k < m := by omega
        simp only [Int.toNat_natCast]
        rw [show ((List.replicate m (0 : Int)).set k c).length = m by simp]
        clear h3
        go_enter Try.func19, Try.ntmps19
        go_wp2_with fail
        refine (IW.out _ _ _ _).mono ?_
        rintro e w1 ⟨rfl, rfl⟩
        rw [e1]
        go_wp2_with fail
        refine (IW.out _ _ _ _).mono ?_
        rintro e w1 ⟨rfl, rfl⟩
        rw [e3]
        go_wp2_with (at_make; refine wpList_make_full _ rfl _ _ 26 rfl (w.heap.size + 1) 3 i0 (.int .i64 0) 1 Try.underlying26 hi hz0 hz1 .i64 .i64 _ _ m rfl rfl rfl rfl ?_ ?_ ?_ ?_)
        · rw [hz2]; omega
        · unfold maxLen; omega
        · simp
        intro w1 hown hgrow
        have hown' : w1.ownsRow (w.heap.size + 1) 3 1 (.slice (some ⟨w.heap.size + 1, 0, none⟩) m m) m (M4.iv (List.replicate m 0)) := by
          rw [← M4.made_iv m]; exact hown
        have hb1 : Below w.heap.size w w1 := ((Below.refl _ _).alloc (Nat.le_refl _) _).grown hgrow (by simp) (fun k hk => by cases hk)
        have hx : Below (w.heap.size + 1) (w.alloc (.cells #[.slice none 0 0, .int .i64 0, .bool false] 28)) w1 := (Below.refl _ _).grown hgrow (by simp) (fun k hk => by cases hk)
        have bA := (SP.B3.new w (.slice none 0 0) (.int .i64 0) (.bool false) 28 rfl).below hx (by omega)
        have hg := (hown'.lt (w.heap.size + 1) rfl).2
        clear hown hi hz0 hz1 hz2 e1 e3 IW hgrow hx
        have hcell := hown'.cellAt k (by omega)
        rw [M4.iv_get _ k 0 (by simp [hkm])] at hcell
        have hcell2 := (SP.cell_old (o := (.cells #[.slice (some ⟨w.heap.size + 1, 0, none⟩) m m, .int .i64 t, .bool false] 28)) (p := ⟨w.heap.size + 1, k, none⟩) hg).trans hcell
        have hfz := hown'.frozenAt k
        have hst := (hown'.stored k (.int .i64 c)).1
        rw [M4.iv_set] at hst
        have hsz : (w1.setCell ⟨w.heap.size + 1, k, none⟩ (.int .i64 c)).heap.size = w1.heap.size := by simp
        have o2 := hst.alloc (.cells #[.slice (some ⟨w.heap.size + 1, 0, none⟩) m m, .int .i64 t, .bool false] 28)
        have bQ := SP.B3.new (w1.setCell ⟨w.heap.size + 1, k, none⟩ (.int .i64 c)) (.slice (some ⟨w.heap.size + 1, 0, none⟩) m m) (.int .i64 t) (.bool false) 28 hsz.symm
        have bY := SP.B3.new w1 (.slice (some ⟨w.heap.size + 1, 0, none⟩) m m) (.int .i64 t) (.bool false) 28 rfl
        have bA2 := (bA.only ((MC.Only.refl (w.heap.size + 1) w1).setCell k (.int .i64 c)) (by omega)).alloc (.cells #[.slice (some ⟨w.heap.size + 1, 0, none⟩) m m, .int .i64 t, .bool false] 28)
        have hb2 := (hb1.setCell (p := ⟨w.heap.size + 1, k, none⟩) (by simp) (.int .i64 c)).alloc (by rw [hsz]; exact hb1.size) (.cells #[.slice (some ⟨w.heap.size + 1, 0, none⟩) m m, .int .i64 t, .bool false] 28)
        obtain ⟨y0, y1, y2⟩ := bY.cells
        obtain ⟨x0, x1, x2⟩ := bQ.cells
        obtain ⟨z0, z1, z2⟩ := bA2.cells
        have g0 := bA2.free 0
        have g1 := bA2.free 1
        have g2 := bA2.free 2
        have HST : Hid _ := o2
        have HB3 : Hid _ := hb2
        have HA : Hid _ := bA2
        clear hst hsz bY hb2 o2 bQ bA2 bA hb1 hown'
        go_wp2
        have on2 := (((MC.Only.refl w.heap.size ((w1.setCell ⟨w.heap.size + 1, k, none⟩ (.int .i64 c)).alloc (.cells #[.slice (some ⟨w.heap.size + 1, 0, none⟩) m m, .int .i64 t, .bool false] 28))).setCell 0 (.slice (some ⟨w.heap.size + 1, 0, none⟩) m m)).setCell 1 (.int .i64 t)).setCell 2 (.bool false)
        have bR := ((HA.out.set0 (.slice (some ⟨w.heap.size + 1, 0, none⟩) m m)).set1 (.int .i64 t)).set2 (.bool false)
        obtain ⟨r0, r1, r2⟩ := bR.cells
        have hO := MC.own_only HST.out on2 (by omega)
        have hB := ((HB3.out.setCell (p := ⟨w.heap.size, 0, none⟩) (Nat.le_refl _) (.slice (some ⟨w.heap.size + 1, 0, none⟩) m m)).setCell (p := ⟨w.heap.size, 1, none⟩) (Nat.le_refl _) (.int .i64 t)).setCell (p := ⟨w.heap.size, 2, none⟩) (Nat.le_refl _) (.bool false)
        exact bodyPost_ret (v := .tuple #[SP.sv (.slice (some ⟨w.heap.size + 1, 0, none⟩) m m) t false, .bool true]) (by simp [results, Try.results19, go_sem, r0, r1, r2]) rfl ⟨_, _, rfl, SP.own_le hO (by omega), hB⟩
      · have e3 : decide (1 ≤ c ∧ c ≤ 64) = false := decide_eq_false h3
        have ho : SP.nok n f t c = false := decide_eq_false fun h => h3 h.2.2
        have hl : SP.nL n f t c = [] := by rw [SP.nL, ho]; rfl
        have ht : SP.nT n f t c = 0 := by rw [SP.nT, ho]; rfl
        rw [ho, hl, ht]
        clear ho hl ht hi hz0 hz1 hz2
        go_enter Try.func19, Try.ntmps19
        go_wp2_with fail
        refine (IW.out _ _ _ _).mono ?_
        rintro e w1 ⟨rfl, rfl⟩
        rw [e1]
        go_wp2_with fail
        refine (IW.out _ _ _ _).mono ?_
        rintro e w1 ⟨rfl, rfl⟩
        rw [e3]
        go_wp2
        exact bodyPost_ret (v := .tuple #[SP.sv (.slice none 0 0) 0 false, .bool false]) (by simp [results, Try.results19, go_sem]) rfl ⟨none, 0, rfl, World.ownsRow_nil _ _ _ _, (Below.refl _ _).alloc (Nat.le_refl _) _⟩
    · by_cases q1 : f < 0
      · have d1 : decide (f < 0) = true := decide_eq_true q1
        have ho : SP.nok n f t c = false := decide_eq_false fun h => by omega
        have hl : SP.nL n f t c = [] := by rw [SP.nL, ho]; rfl
        have ht : SP.nT n f t c = 0 := by rw [SP.nT, ho]; rfl
        rw [ho, hl, ht]
        clear ho hl ht hi hz0 hz1 hz2
        go_enter Try.func19, Try.ntmps19
        go_wp2_with fail
        refine (IW.out _ _ _ _).mono ?_
        rintro e w1 ⟨rfl, rfl⟩
        rw [e1]
        go_wp2
        exact bodyPost_ret (v := .tuple #[SP.sv (.slice none 0 0) 0 false, .bool false]) (by simp [results, Try.results19, go_sem]) rfl ⟨none, 0, rfl, World.ownsRow_nil _ _ _ _, (Below.refl _ _).alloc (Nat.le_refl _) _⟩
      · by_cases q2 : n ≤ f
        · have d2 : decide (n ≤ f) = true := decide_eq_true q2
          have ho : SP.nok n f t c = false := decide_eq_false fun h => by omega
          have hl : SP.nL n f t c = [] := by rw [SP.nL, ho]; rfl
          have ht : SP.nT n f t c = 0 := by rw [SP.nT, ho]; rfl
          rw [ho, hl, ht]
          clear ho hl ht hi hz0 hz1 hz2
          go_enter Try.func19, Try.ntmps19
          go_wp2_with fail
          refine (IW.out _ _ _ _).mono ?_
          rintro e w1 ⟨rfl, rfl⟩
          rw [e1]
          go_wp2
          exact bodyPost_ret (v := .tuple #[SP.sv (.slice none 0 0) 0 false, .bool false]) (by simp [results, Try.results19, go_sem]) rfl ⟨none, 0, rfl, World.ownsRow_nil _ _ _ _, (Below.refl _ _).alloc (Nat.le_refl _) _⟩
        · by_cases q3 : t < 0
          · have d3 : decide (t < 0) = true := decide_eq_true q3
            have ho : SP.nok n f t c = false := decide_eq_false fun h => by omega
            have hl : SP.nL n f t c = [] := by rw [SP.nL, ho]; rfl
            have ht : SP.nT n f t c = 0 := by rw [SP.nT, ho]; rfl
            rw [ho, hl, ht]
            clear ho hl ht hi hz0 hz1 hz2
            go_enter Try.func19, Try.ntmps19
            go_wp2_with fail
            refine (IW.out _ _ _ _).mono ?_
            rintro e w1 ⟨rfl, rfl⟩
            rw [e1]
            go_wp2
            exact bodyPost_ret (v := .tuple #[SP.sv (.slice none 0 0) 0 false, .bool false]) (by simp [results, Try.results19, go_sem]) rfl ⟨none, 0, rfl, World.ownsRow_nil _ _ _ _, (Below.refl _ _).alloc (Nat.le_refl _) _⟩
          · by_cases q4 : n ≤ t
            · have d4 : decide (n ≤ t) = true := decide_eq_true q4
              have ho : SP.nok n f t c = false := decide_eq_false fun h => by omega
              have hl : SP.nL n f t c = [] := by rw [SP.nL, ho]; rfl
              have ht : SP.nT n f t c = 0 := by rw [SP.nT, ho]; rfl
              rw [ho, hl, ht]
              clear ho hl ht hi hz0 hz1 hz2
              go_enter Try.func19, Try.ntmps19
              go_wp2_with fail
              refine (IW.out _ _ _ _).mono ?_
              rintro e w1 ⟨rfl, rfl⟩
              rw [e1]
              go_wp2
              exact bodyPost_ret (v := .tuple #[SP.sv (.slice none 0 0) 0 false, .bool false]) (by simp [results, Try.results19, go_sem]) rfl ⟨none, 0, rfl, World.ownsRow_nil _ _ _ _, (Below.refl _ _).alloc (Nat.le_refl _) _⟩
            · have q5 : (f == t) = true := by simp; omega
              have d1 : decide (f < 0) = false := decide_eq_false q1
              have d2 : decide (n ≤ f) = false := decide_eq_false q2
              have d3 : decide (t < 0) = false := decide_eq_false q3
              have d4 : decide (n ≤ t) = false := decide_eq_false q4
              have ho : SP.nok n f t c = false := decide_eq_false fun h => by omega
              have hl : SP.nL n f t c = [] := by rw [SP.nL, ho]; rfl
              have ht : SP.nT n f t c = 0 := by rw [SP.nT, ho]; rfl
              rw [ho, hl, ht]
              clear ho hl ht hi hz0 hz1 hz2
              go_enter Try.func19, Try.ntmps19
              go_wp2_with fail
              refine (IW.out _ _ _ _).mono ?_
              rintro e w1 ⟨rfl, rfl⟩
              rw [e1]
              go_wp2
              exact bodyPost_ret (v := .tuple #[SP.sv (.slice none 0 0) 0 false, .bool false]) (by simp [results, Try.results19, go_sem]) rfl ⟨none, 0, rfl, World.ownsRow_nil _ _ _ _, (Below.refl _ _).alloc (Nat.le_refl _) _⟩
  · have e1 : decide (2 ≤ n ∧ n ≤ 8) = false := decide_eq_false h1
    have ho : SP.nok n f t c = false := decide_eq_false fun h => h1 h.1
    have hl : SP.nL n f t c = [] := by rw [SP.nL, ho]; rfl
    have ht : SP.nT n f t c = 0 := by rw [SP.nT, ho]; rfl
    rw [ho, hl, ht]
    clear ho hl ht hi hz0 hz1 hz2
    go_enter Try.func19, Try.ntmps19
    go_wp2_with fail
    refine (IW.out _ _ _ _).mono ?_
    rintro e w1 ⟨rfl, rfl⟩
    rw [e1]
    go_wp2
    exact bodyPost_ret (v := .tuple #[SP.sv (.slice none 0 0) 0 false, .bool false]) (by simp [results, Try.results19, go_sem]) rfl ⟨none, 0, rfl, World.ownsRow_nil _ _ _ _, (Below.refl _ _).alloc (Nat.le_refl _) _⟩
end Go.Proofs.Ytgajfpohlemahaa
