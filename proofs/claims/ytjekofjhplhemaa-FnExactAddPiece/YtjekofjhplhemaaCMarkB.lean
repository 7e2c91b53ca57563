/- The laws' markBundleS and heldBundleS: what is written, and that it is found. -/
import Derived.Test.YtjekofjhplhemaaRows
import Derived.Test.YtjekofjhplhemaaCMarkText
import Derived.Test.YtjekofjhplhemaaMA2
import Derived.Test.YtjekofjhplhemaaMCB
import Derived.Test.YtjekofjhplhemaaMCur
import Derived.Test.YtjekofjhplhemaaMRH
import Derived.WalkKit
import Derived.WalkSpells
import Derived.WalkLawsBesides
import Derived.Outline
namespace Go.Proofs.Ytjekofjhplhemaa
open Go.RowKit
/-- The bundle that is written at x. -/
def mkB (x : Nat) : Bd := ⟨(x : Int), (x : Int) + 1, ((x : Int) + 1 + 1) % 3 == 0, (x : Int) + 1 + 1 + 1, (x : Int) + 1 + 1 + 1 + 1, (x : Int) + 1 + 1 + 1 + 1 + 1, (x : Int) + 1 + 1 + 1 + 1 + 1 + 1, (x : Int) + 1 + 1 + 1 + 1 + 1 + 1 + 1, (x : Int) + 1 + 1 + 1 + 1 + 1 + 1 + 1 + 1, M18.mt (x + 9)⟩
def mks (k n : Nat) : List Bd := (List.range n).map fun i => mkB (k + 10 * i)
theorem mks_len (k n : Nat) : (mks k n).length = n := by simp [mks]
theorem mks_at {k n i : Nat} (h : i < n) : MP.at_ (mks k n) i = mkB (k + 10 * i) := by simp [MP.at_, mks, h]
theorem mark_set {m : List Value} {k n i x : Nat} (hx : x = k + 10 * i) (h : m.length = n * 10) (hi : i < n) :
    ((((((((((MP.mix (mks k n) m i).set (i * 10) (.int .i64 (x : Int))).set (i * 10 + 1) (.int .i64 ((x : Int) + 1))).set (i * 10 + 2) (.bool (((x : Int) + 1 + 1) % 3 == 0))).set (i * 10 + 3) (.int .i64 ((x : Int) + 1 + 1 + 1))).set (i * 10 + 4) (.int .i64 ((x : Int) + 1 + 1 + 1 + 1))).set (i * 10 + 5) (.int .i64 ((x : Int) + 1 + 1 + 1 + 1 + 1))).set (i * 10 + 6) (.int .i64 ((x : Int) + 1 + 1 + 1 + 1 + 1 + 1))).set (i * 10 + 7) (.int .i64 ((x : Int) + 1 + 1 + 1 + 1 + 1 + 1 + 1))).set (i * 10 + 8) (.int .i64 ((x : Int) + 1 + 1 + 1 + 1 + 1 + 1 + 1 + 1))).set (i * 10 + 9) (.string (M18.mt (x + 9))) = MP.mix (mks k n) m (i + 1) := by
  have e := MP.mix_set (mks k n) m i (by rw [mks_len]; exact h) (by rw [mks_len]; exact hi)
  rw [mks_at hi, ← hx] at e
  exact e
theorem putR {wr : World} {g : Nat} {cs : List Value} {i n : Nat} (h : MA.Rg wr g 0 cs) (hl : cs.length = n * 10) (hi : i < n) (v0 v1 v2 v3 v4 v5 v6 v7 v8 : Value) : MA.Rg (((((((((wr.setCell ⟨g, i * 10, none⟩ (v0)).setCell ⟨g, i * 10 + 1, none⟩ (v1)).setCell ⟨g, i * 10 + 2, none⟩ (v2)).setCell ⟨g, i * 10 + 3, none⟩ (v3)).setCell ⟨g, i * 10 + 4, none⟩ (v4)).setCell ⟨g, i * 10 + 5, none⟩ (v5)).setCell ⟨g, i * 10 + 6, none⟩ (v6)).setCell ⟨g, i * 10 + 7, none⟩ (v7)).setCell ⟨g, i * 10 + 8, none⟩ (v8)) g 0 (((((((((cs.set (i * 10) v0).set (i * 10 + 1) v1).set (i * 10 + 2) v2).set (i * 10 + 3) v3).set (i * 10 + 4) v4).set (i * 10 + 5) v5).set (i * 10 + 6) v6).set (i * 10 + 7) v7).set (i * 10 + 8) v8) := by
  have p0 := h.put1 (j := i * 10) (by omega) v0
  have p1 := p0.put1 (j := i * 10 + 1) (by simp; omega) v1
  have p2 := p1.put1 (j := i * 10 + 2) (by simp; omega) v2
  have p3 := p2.put1 (j := i * 10 + 3) (by simp; omega) v3
  have p4 := p3.put1 (j := i * 10 + 4) (by simp; omega) v4
  have p5 := p4.put1 (j := i * 10 + 5) (by simp; omega) v5
  have p6 := p5.put1 (j := i * 10 + 6) (by simp; omega) v6
  have p7 := p6.put1 (j := i * 10 + 7) (by simp; omega) v7
  have p8 := p7.put1 (j := i * 10 + 8) (by simp; omega) v8
  simp only [Nat.zero_add] at p8
  exact p8
theorem some_rgB {w : World} {g j : Nat} {cs : List Value} (h : MA.Rg w g 0 cs) (hj : j < cs.length) : ∃ y, w.cell? ⟨g, j, none⟩ = some y := ⟨cs[j], by have := h.cell (List.getElem?_eq_getElem hj); rwa [Nat.zero_add] at this⟩
set_option linter.unusedSimpArgs false in
set_option maxHeartbeats 1600000 in
set_option maxRecDepth 100000 in
theorem markB_any (a : Option Addr) (g n cap k : Nat) (m : List Value) (w : World) (hz : n ≤ 1048576) (hk : k ≤ 1000000) (hc : m.length = n * 10) (hin : n = 0 ∨ (a = some ⟨g, 0, none⟩ ∧ MA.Rg w g 0 m)) :
    Calls Try.prog 55 #[.slice a n cap, .int .i64 (k : Int)] w fun e w' => e = .returned (.int .i64 ((k + 10 * n : Nat) : Int)) ∧ MC.Only g w w' ∧ (n = 0 ∨ MA.Rg w' g 0 (MP.flat (mks k n))) := by
  have HIN : Hid (n = 0 ∨ (a = some ⟨g, 0, none⟩ ∧ MA.Rg w g 0 m)) := hin
  clear hin
  go_enter Try.func55, Try.ntmps55
  go_wp2
  go_loopw [1, 5] (fun kv iv wr => ∃ i x : Nat, kv = .int .i64 (x : Int) ∧ iv = .int .i64 i ∧ Hid (i ≤ n ∧ x = k + 10 * i) ∧ Hid (n = 0 ∨ (a = some ⟨g, 0, none⟩ ∧ MA.Rg wr g 0 (MP.mix (mks k n) m i))) ∧ MC.Only g w wr) (fun _ iv _ => (n - intOf iv).toNat)
  case atStart => exact ⟨0, k, rfl, rfl, ⟨by omega, by omega⟩, by rw [MP.mix_zero]; exact HIN, MC.Only.refl _ _⟩
  case round =>
    clear HIN
    obtain ⟨i, x, rfl, rfl, HX, HIN, hO⟩ := hrel
    by_cases hl : i < n
    · have hR : a = some ⟨g, 0, none⟩ ∧ MA.Rg wr g 0 (MP.mix (mks k n) m i) := by rcases HIN.out with h | h; omega; exact h
      obtain ⟨rfl, hR⟩ := hR
      have hcl : (MP.mix (mks k n) m i).length = n * 10 := by rw [MP.mix_len _ _ _ (by rw [mks_len]; exact hc) (by rw [mks_len]; omega), mks_len]
      have hx0 : x ≤ 20000000 := by have := HX.out; omega
      clear HIN
      obtain ⟨y0, c0⟩ := some_rgB hR (j := i * 10) (by omega)
      have f0 := CB.f_of hR (j := i * 10) (by omega)
      obtain ⟨y1, c1⟩ := some_rgB hR (j := i * 10 + 1) (by omega)
      have f1 := CB.f_of hR (j := i * 10 + 1) (by omega)
      obtain ⟨y2, c2⟩ := some_rgB hR (j := i * 10 + 2) (by omega)
      have f2 := CB.f_of hR (j := i * 10 + 2) (by omega)
      obtain ⟨y3, c3⟩ := some_rgB hR (j := i * 10 + 3) (by omega)
      have f3 := CB.f_of hR (j := i * 10 + 3) (by omega)
      obtain ⟨y4, c4⟩ := some_rgB hR (j := i * 10 + 4) (by omega)
      have f4 := CB.f_of hR (j := i * 10 + 4) (by omega)
      obtain ⟨y5, c5⟩ := some_rgB hR (j := i * 10 + 5) (by omega)
      have f5 := CB.f_of hR (j := i * 10 + 5) (by omega)
      obtain ⟨y6, c6⟩ := some_rgB hR (j := i * 10 + 6) (by omega)
      have f6 := CB.f_of hR (j := i * 10 + 6) (by omega)
      obtain ⟨y7, c7⟩ := some_rgB hR (j := i * 10 + 7) (by omega)
      have f7 := CB.f_of hR (j := i * 10 + 7) (by omega)
      obtain ⟨y8, c8⟩ := some_rgB hR (j := i * 10 + 8) (by omega)
      have f8 := CB.f_of hR (j := i * 10 + 8) (by omega)
      obtain ⟨y9, c9⟩ := some_rgB hR (j := i * 10 + 9) (by omega)
      have f9 := CB.f_of hR (j := i * 10 + 9) (by omega)
      have HR : Hid _ := hR
      have HS : Hid _ := mark_set (m := m) HX.out.2 hc hl
      have MT : Hid (∀ W : World, Calls Try.prog 94 #[.int .i64 ((x : Int) + 1 + 1 + 1 + 1 + 1 + 1 + 1 + 1 + 1)] W fun e w' => e = .returned (.string (M18.mt (x + 9))) ∧ Below W.heap.size W w') := fun W => markText_int _ (x + 9) W (by omega) (by omega)
      have hi0 : (0 : Int) ≤ (i : Int) := by omega
      have hin : (i : Int) < (n : Int) := by omega
      clear hR
      go_wp2_with fail
      have hR9 := putR (n := n) HR.out hcl hl (.int .i64 (x : Int)) (.int .i64 ((x : Int) + 1)) (.bool (((x : Int) + 1 + 1) % 3 == 0)) (.int .i64 ((x : Int) + 1 + 1 + 1)) (.int .i64 ((x : Int) + 1 + 1 + 1 + 1)) (.int .i64 ((x : Int) + 1 + 1 + 1 + 1 + 1)) (.int .i64 ((x : Int) + 1 + 1 + 1 + 1 + 1 + 1)) (.int .i64 ((x : Int) + 1 + 1 + 1 + 1 + 1 + 1 + 1)) (.int .i64 ((x : Int) + 1 + 1 + 1 + 1 + 1 + 1 + 1 + 1))
      have HO9 : Hid _ := (((((((((hO.setCell (i * 10) (.int .i64 (x : Int))).setCell (i * 10 + 1) (.int .i64 ((x : Int) + 1))).setCell (i * 10 + 2) (.bool (((x : Int) + 1 + 1) % 3 == 0))).setCell (i * 10 + 3) (.int .i64 ((x : Int) + 1 + 1 + 1))).setCell (i * 10 + 4) (.int .i64 ((x : Int) + 1 + 1 + 1 + 1))).setCell (i * 10 + 5) (.int .i64 ((x : Int) + 1 + 1 + 1 + 1 + 1))).setCell (i * 10 + 6) (.int .i64 ((x : Int) + 1 + 1 + 1 + 1 + 1 + 1))).setCell (i * 10 + 7) (.int .i64 ((x : Int) + 1 + 1 + 1 + 1 + 1 + 1 + 1))).setCell (i * 10 + 8) (.int .i64 ((x : Int) + 1 + 1 + 1 + 1 + 1 + 1 + 1 + 1)))
      have HR9 : Hid _ := hR9
      clear hR9
      generalize World.setCell _ ⟨g, i * 10 + 8, none⟩ _ = W9 at HR9 HO9 ⊢
      clear HR c0 f0 c1 f1 c2 f2 c3 f3 c4 f4 c5 f5 c6 f6 c7 f7 c8 f8 c9 f9 hO
      refine Calls.mono (MT.out _) ?_
      rintro e w2 ⟨rfl, hb2⟩
      have hR2 := HR9.out.below hb2 HR9.out.lt
      have hO2 := HO9.out.trans (MC.Only.of_below hb2)
      obtain ⟨y, c⟩ := some_rgB hR2 (j := i * 10 + 9) (by simp only [List.length_set]; omega)
      have f := CB.f_of hR2 (j := i * 10 + 9) (by simp only [List.length_set]; omega)
      have hR3 := CB.put1 hR2 (j := i * 10 + 9) (by simp only [List.length_set]; omega) (.string (M18.mt (x + 9)))
      rw [HS.out] at hR3
      have HR3 : Hid _ := hR3
      have HO3 : Hid _ := hO2.setCell (i * 10 + 9) (.string (M18.mt (x + 9)))
      clear HR9 HO9 hR2 hR3 hO2 hb2 MT HS
      generalize M18.mt (x + 9) = tx at *
      go_wp2
      go_roundw
      case rel => exact ⟨i + 1, x + 10, by go_num, by go_num, ⟨by omega, by have := HX.out.2; omega⟩, .inr ⟨by trivial, HR3.out⟩, HO3.out⟩
      case measure => simp [intOf]; omega
    · obtain rfl : i = n := by have := HX.out.1; omega
      have HXX : Hid (x = k + 10 * i) := HX.out.2
      have HI2 : Hid (i = 0 ∨ MA.Rg wr g 0 (MP.flat (mks k i))) := HIN.out.imp id fun h => by have := h.2; rwa [show MP.mix (mks k i) m i = MP.flat (mks k i) by have := MP.mix_all (mks k i) m (by rw [mks_len]; exact hc); rwa [mks_len] at this] at this
      clear HIN HX
      go_wp2
      go_ret
      exact ⟨congrArg (fun z : Nat => Ending.returned (.int .i64 (z : Int))) HXX.out, hO, HI2.out⟩
set_option linter.unusedSimpArgs false in
set_option maxHeartbeats 1600000 in
set_option maxRecDepth 100000 in
theorem heldB_any (a : Option Addr) (g n cap k : Nat) (w : World) (hz : n ≤ 1048576) (hk : k ≤ 1000000) (hin : n = 0 ∨ (a = some ⟨g, 0, none⟩ ∧ MA.Rg w g 0 (MP.flat (mks k n)))) :
    Calls Try.prog 56 #[.slice a n cap, .int .i64 (k : Int)] w fun e w' => e = .returned (.int .i64 ((k + 10 * n : Nat) : Int)) ∧ Below w.heap.size w w' := by
  have HIN : Hid (n = 0 ∨ (a = some ⟨g, 0, none⟩ ∧ MA.Rg w g 0 (MP.flat (mks k n)))) := hin
  clear hin
  go_enter Try.func56, Try.ntmps56
  go_wp2
  go_loopw [1, 5] (fun kv iv wr => ∃ i x : Nat, kv = .int .i64 (x : Int) ∧ iv = .int .i64 i ∧ Hid (i ≤ n ∧ x = k + 10 * i) ∧ Below w.heap.size w wr) (fun _ iv _ => (n - intOf iv).toNat)
  case atStart => exact ⟨0, k, rfl, rfl, ⟨by omega, by omega⟩, Below.refl _ _⟩
  case round =>
    obtain ⟨i, x, rfl, rfl, HX, hb⟩ := hrel
    by_cases hl : i < n
    · have hR : a = some ⟨g, 0, none⟩ ∧ MA.Rg wr g 0 (MP.flat (mks k n)) := by rcases HIN.out with h | h; omega; exact ⟨h.1, h.2.below hb h.2.lt⟩
      obtain ⟨rfl, hR⟩ := hR
      have hx0 : x ≤ 20000000 := by have := HX.out; omega
      have HC : ∀ j v, j < 10 → (mkB x).cs[j]? = some v → wr.cell? ⟨g, i * 10 + j, none⟩ = some v := fun j v hj hv => CB.c_of hR (j := i * 10 + j) (by rw [Nat.mul_comm, MP.flat_get _ _ _ (by rw [mks_len]; exact hl) hj, mks_at hl, ← HX.out.2]; exact hv)
      have c0 : wr.cell? ⟨g, i * 10, none⟩ = some (.int .i64 (x : Int)) := HC 0 _ (by omega) rfl
      have c1 : wr.cell? ⟨g, i * 10 + 1, none⟩ = some (.int .i64 ((x : Int) + 1)) := HC 1 _ (by omega) rfl
      have c2 : wr.cell? ⟨g, i * 10 + 2, none⟩ = some (.bool (((x : Int) + 1 + 1) % 3 == 0)) := HC 2 _ (by omega) rfl
      have c3 : wr.cell? ⟨g, i * 10 + 3, none⟩ = some (.int .i64 ((x : Int) + 1 + 1 + 1)) := HC 3 _ (by omega) rfl
      have c4 : wr.cell? ⟨g, i * 10 + 4, none⟩ = some (.int .i64 ((x : Int) + 1 + 1 + 1 + 1)) := HC 4 _ (by omega) rfl
      have c5 : wr.cell? ⟨g, i * 10 + 5, none⟩ = some (.int .i64 ((x : Int) + 1 + 1 + 1 + 1 + 1)) := HC 5 _ (by omega) rfl
      have c6 : wr.cell? ⟨g, i * 10 + 6, none⟩ = some (.int .i64 ((x : Int) + 1 + 1 + 1 + 1 + 1 + 1)) := HC 6 _ (by omega) rfl
      have c7 : wr.cell? ⟨g, i * 10 + 7, none⟩ = some (.int .i64 ((x : Int) + 1 + 1 + 1 + 1 + 1 + 1 + 1)) := HC 7 _ (by omega) rfl
      have c8 : wr.cell? ⟨g, i * 10 + 8, none⟩ = some (.int .i64 ((x : Int) + 1 + 1 + 1 + 1 + 1 + 1 + 1 + 1)) := HC 8 _ (by omega) rfl
      have c9 : wr.cell? ⟨g, i * 10 + 9, none⟩ = some (.string (M18.mt (x + 9))) := HC 9 _ (by omega) rfl
      have HRL : Hid (g < wr.heap.size) := hR.lt
      have MT : Hid (∀ W : World, Calls Try.prog 94 #[.int .i64 ((x : Int) + 1 + 1 + 1 + 1 + 1 + 1 + 1 + 1 + 1)] W fun e w' => e = .returned (.string (M18.mt (x + 9))) ∧ Below W.heap.size W w') := fun W => markText_int _ (x + 9) W (by omega) (by omega)
      have hi0 : (0 : Int) ≤ (i : Int) := by omega
      have hin : (i : Int) < (n : Int) := by omega
      clear hR HC
      generalize M18.mt (x + 9) = tx at *
      go_wp2
      refine MR.frame fun A hA => ?_
      have hsz : A.tmps.size = 106 := by rw [hA]; rfl
      have e0 : A.eval (.tmp 0) = .slice (some ⟨g, 0, none⟩) n cap := by rw [hA]; rfl
      have f0 := MR.read (t := 0) (by rw [hsz]; decide) e0
      have e1 : A.eval (.tmp 1) = .int .i64 ((x : Int) + 1 + 1 + 1 + 1 + 1 + 1 + 1 + 1 + 1) := by rw [hA]; rfl
      have f1 := MR.read (t := 1) (by rw [hsz]; decide) e1
      have e5 : A.eval (.tmp 5) = .int .i64 (i : Int) := by rw [hA]; rfl
      have f5 := MR.read (t := 5) (by rw [hsz]; decide) e5
      have HA : Hid (A = _) := hA
      clear hA
      have hS : (fun w' : World => Below wr.heap.size wr w') (World.drew _) := ((Below.refl _ wr).drew)
      refine wp_region_held (S := fun w' : World => Below wr.heap.size wr w') (by kernel_rfl) ?_
      change wpAnyH _ _ _ _ _ _ _ _ (World.drew _)
      refine MR.takeH (i := 0) (some 95) (.slice (some ⟨g, 0, none⟩) n cap) rfl rfl (by kernel_rfl) (by kernel_rfl) (by kernel_rfl) (fun _ _ _ h => h) hS (MR.free rfl) (fun wq hw => by simp [execOp, MR.ev, MR.size, hsz, e0, f0, e1, f1, e5, f5, go_sem]) ?_
      refine MR.takeH (i := 1) (some 96) (.int .i64 (i : Int)) rfl rfl (by kernel_rfl) (by kernel_rfl) (by kernel_rfl) (fun _ _ _ h => h) hS (MR.free rfl) (fun wq hw => by simp [execOp, MR.ev, MR.size, hsz, e0, f0, e1, f1, e5, f5, go_sem]) ?_
      refine MR.takeH (i := 2) (some 97) (.pointer (some ⟨g, i * 10, none⟩)) rfl rfl (by kernel_rfl) (by kernel_rfl) (by kernel_rfl) (fun _ _ _ h => h) hS (MR.free rfl) (fun wq hw => by simp [execOp, MR.ev, MR.size, hsz, e0, f0, e1, f1, e5, f5, hi0, hin, go_sem]) ?_
      refine MR.takeH (i := 3) (some 98) (.pointer (some ⟨g, i * 10 + 9, none⟩)) rfl rfl (by kernel_rfl) (by kernel_rfl) (by kernel_rfl) (fun _ _ _ h => h) hS (MR.free rfl) (fun wq hw => by simp [execOp, MR.ev, MR.size, hsz, e0, f0, e1, f1, e5, f5, go_sem]) ?_
      refine MR.takeH (i := 4) (some 99) (.string tx) rfl rfl (by kernel_rfl) (by kernel_rfl) (by kernel_rfl) (fun _ _ _ h => h) hS (MR.free rfl) (fun wq hw => by simp [execOp, MR.ev, MR.size, hsz, e0, f0, e1, f1, e5, f5, (hw.cell (p := ⟨g, i * 10 + 9, none⟩) HRL.out).trans c9, go_sem]) ?_
      refine MR.takeH (i := 5) (some 100) (.int .i64 ((x : Int) + 1 + 1 + 1 + 1 + 1 + 1 + 1 + 1 + 1)) rfl rfl (by kernel_rfl) (by kernel_rfl) (by kernel_rfl) (fun _ _ _ h => h) hS (MR.free rfl) (fun wq hw => by simp [execOp, MR.ev, MR.size, hsz, e0, f0, e1, f1, e5, f5, go_sem]) ?_
      refine MR.callH (i := 6) (some 101) (94) (#[.int .i64 ((x : Int) + 1 + 1 + 1 + 1 + 1 + 1 + 1 + 1 + 1)]) (by kernel_rfl) rfl rfl (MR.free rfl) (by simp [execOp, MR.ev, MR.size, hsz, e0, f0, e1, f1, e5, f5, go_sem]) ?_
      refine (MT.out _).mono ?_
      rintro e w2 ⟨rfl, hb2⟩
      have hS2 : Below wr.heap.size wr w2 := ((Below.refl _ wr).drew).trans hb2
      refine ⟨_, rfl, hS2, ?_⟩
      refine MR.takeH (i := 7) (some 102) (.bool false) rfl rfl (by kernel_rfl) (by kernel_rfl) (by kernel_rfl) (fun _ _ _ h => h) hS2 (MR.free rfl) (fun wq hw => by simp [execOp, MR.ev, MR.size, hsz, e0, f0, e1, f1, e5, f5, go_sem]) ?_
      refine wpAnyH_done (by kernel_rfl) ?_ _
      have hb3 := hb.trans (hS2.mono hb.size)
      rw [HA.out]
      clear MT hb2 hb c0 c1 c2 c3 c4 c5 c6 c7 c8 c9 hS HA e0 f0 e1 f1 e5 f5 hsz hS2
      simp only [Act.put, List.setIfInBounds_toArray, List.set_cons_succ, List.set_cons_zero]
      go_wp2
      go_roundw
      case rel => exact ⟨i + 1, x + 10, by go_num, by go_num, ⟨by omega, by have := HX.out.2; omega⟩, hb3⟩
      case measure => simp [intOf]; omega
    · obtain rfl : i = n := by have := HX.out.1; omega
      have HXX : Hid (x = k + 10 * i) := HX.out.2
      clear HX HIN
      go_wp2
      go_ret
      exact ⟨congrArg (fun z : Nat => Ending.returned (.int .i64 (z : Int))) HXX.out, hb⟩
end Go.Proofs.Ytjekofjhplhemaa
