/- spec.l15Give. -/
import Derived.Test.YtgajfpohlemahaaRows
import Derived.Test.YtgajfpohlemahaaCSprH
import Derived.WalkKit
import Derived.WalkSpells
import Derived.WalkLawsBesides
import Derived.Outline
import Derived.Deep.RegionWith
namespace Go.Proofs.Ytgajfpohlemahaa
open Go.RowKit
theorem SP.own_p {w w' : World} {p g n c base : Nat} {xs : List Value} (ho : w.ownsRow base 3 1 (.slice (some ⟨g, 0, none⟩) n c) n xs) (on : MC.Only p w w') (hp : p ≠ g) : w'.ownsRow base 3 1 (.slice (some ⟨g, 0, none⟩) n c) n xs :=
  ho.kept (row := some p) ⟨on.os, on.tape, on.output, on.size, fun k h1 h2 => on.block k h1 (fun e => h2 (by rw [e]))⟩ (.inr (by simp [Value.ownBlock]; omega))
theorem SP.T2.then_only {g p : Nat} {a b c : World} (h : SP.T2 g g a b) (on : MC.Only p b c) (hp : a.heap.size ≤ p) : SP.T2 g g a c :=
  ⟨on.os.trans h.os, on.tape.trans h.tape, on.output.trans h.output, Nat.le_trans h.size on.size, fun k h1 h2 h3 => (on.block k (Nat.lt_of_lt_of_le h1 h.size) (by omega)).trans (h.block k h1 h2 h3)⟩
set_option maxHeartbeats 1600000 in
set_option maxRecDepth 100000 in
theorem give_any (g n c base a b : Nat) (zs : List Int) (t : Int) (th : Bool) (w : World) (hn : zs.length = n) (ha : a < n) (hb : b < n) (hab : a ≠ b) (hz0 : 0 ≤ zs.getD a 0) (hz1 : zs.getD a 0 ≤ 1048576) (ho : w.ownsRow base 3 1 (.slice (some ⟨g, 0, none⟩) n c) n (M4.iv zs)) :
    Calls Try.prog 33 #[.agg #[.slice (some ⟨g, 0, none⟩) n c, .int .i64 t, .bool th], .int .i64 a, .int .i64 b] w fun e w' => e = .returned (.agg #[.slice (some ⟨g, 0, none⟩) n c, .int .i64 t, .bool (SP.give zs t th a b).2]) ∧ w'.ownsRow base 3 1 (.slice (some ⟨g, 0, none⟩) n c) n (M4.iv (SP.give zs t th a b).1) ∧ SP.T2 g g w w' := by
  have hgl : g < w.heap.size := (ho.lt g rfl).2
  have np : w.heap.size + 1 ≠ g := by omega
  have np1 : w.heap.size ≤ w.heap.size + 1 := Nat.le_succ _
  have hB0 : Below w.heap.size w ((w.alloc (.cells #[.slice (some ⟨g, 0, none⟩) n c, .int .i64 t, .bool th] 28)).alloc (.cells #[.slice none 0 0, .int .i64 0, .bool false] 28)) := ((Below.refl _ _).alloc (Nat.le_refl _) _).alloc (by simp) _
  have b0 := (SP.B3.new w (.slice (some ⟨g, 0, none⟩) n c) (.int .i64 t) (.bool th) 28 rfl).alloc (.cells #[.slice none 0 0, .int .i64 0, .bool false] 28)
  have b1 := SP.B3.new (w.alloc (.cells #[.slice (some ⟨g, 0, none⟩) n c, .int .i64 t, .bool th] 28)) (.slice none 0 0) (.int .i64 0) (.bool false) 28 (k := w.heap.size + 1) (by simp)
  have ho0 := M5.own_below ho hB0
  have HO : Hid (w.ownsRow base 3 1 (.slice (some ⟨g, 0, none⟩) n c) n (M4.iv zs)) := ho
  obtain ⟨X, hX⟩ : ∃ X, (w.alloc (.cells #[.slice (some ⟨g, 0, none⟩) n c, .int .i64 t, .bool th] 28)).alloc (.cells #[.slice none 0 0, .int .i64 0, .bool false] 28) = X := ⟨_, rfl⟩
  have ca : X.cell? ⟨g, a, none⟩ = some (.int .i64 (zs.getD a 0)) := by
    rw [hX] at ho0
    have := ho0.cellAt a (by omega)
    rw [M4.iv_get zs a (zs.getD a 0) (by rw [List.getD_eq_getElem?_getD, List.getElem?_eq_getElem (by omega)]; rfl)] at this
    exact this
  have cb : X.cell? ⟨g, b, none⟩ = some (.int .i64 (zs.getD b 0)) := by
    rw [hX] at ho0
    have := ho0.cellAt b (by omega)
    rw [M4.iv_get zs b (zs.getD b 0) (by rw [List.getD_eq_getElem?_getD, List.getElem?_eq_getElem (by omega)]; rfl)] at this
    exact this
  have fb := ho0.frozenAt b
  have fa := ho0.frozenAt a
  have hq := SP.half hz0
  rw [hX] at b0 b1 ho0 hB0 fa fb
  have hT0 : SP.T2 g g w X := ⟨hB0.os, hB0.tape, hB0.output, hB0.size, fun k h1 _ _ => hB0.block k h1⟩
  by_cases hbt : (b : Int) = t
  · have e1 : SP.give zs t th a b = (zs, th || decide (0 < zs.getD a 0)) := by rw [SP.give, if_pos hbt]
    have e2 : ((b : Int) == t) = true := by simp [hbt]
    cases th
    · rw [e1]
      simp only [Bool.false_or]
      have on := (MC.Only.refl w.heap.size X).setCell 2 (.bool (decide (0 < zs.getD a 0)))
      have s0 := b0.set2 (.bool (decide (0 < zs.getD a 0)))
      have s1 := b1.only on (by omega)
      obtain ⟨c0, c1, c2⟩ := b0.cells
      obtain ⟨k0, k1, k2⟩ := s0.cells
      obtain ⟨d0, d1, d2⟩ := s1.cells
      have f00 := b0.free 2
      have f0 := s1.free 0
      have f1 := s1.free 1
      have f2 := s1.free 2
      have hlt := b1.lt
      have HF : Hid (World.ownsRow (X.setCell ⟨w.heap.size, 2, none⟩ (.bool (decide (0 < zs.getD a 0)))) base 3 1 (.slice (some ⟨g, 0, none⟩) n c) n (M4.iv zs) ∧ SP.B3 (X.setCell ⟨w.heap.size, 2, none⟩ (.bool (decide (0 < zs.getD a 0)))) (w.heap.size + 1) (.slice none 0 0) (.int .i64 0) (.bool false) 28 ∧ SP.T2 g g w (X.setCell ⟨w.heap.size, 2, none⟩ (.bool (decide (0 < zs.getD a 0))))) := ⟨SP.own_p ho0 on (by omega), s1, hT0.then_only on (by omega)⟩
      clear s0 s1 on b0 b1 ho0 hT0 hB0 ho e1 hq
      generalize zs.getD a 0 = z at *
      generalize zs.getD b 0 = y at *
      subst hX
      go_enter Try.func33, Try.ntmps33
      go_wp2
      have hB2 : Below w.heap.size w ((w.alloc (.cells #[.slice (some ⟨g, 0, none⟩) n c, .int .i64 t, .bool ((decide (0 < z)))] 28)).alloc (.cells #[.slice (some ⟨g, 0, none⟩) n c, .int .i64 t, .bool ((decide (0 < z)))] 28)) := ((Below.refl _ _).alloc (Nat.le_refl _) _).alloc (by simp) _
      exact bodyPost_ret (v := .agg #[.slice (some ⟨g, 0, none⟩) n c, .int .i64 t, .bool ((decide (0 < z)))]) (by simp [results, Try.results33, go_sem]) rfl ⟨rfl, M5.own_below HO.out hB2, ⟨hB2.os, hB2.tape, hB2.output, hB2.size, fun k h1 _ _ => hB2.block k h1⟩⟩
    · rw [e1]
      simp only [Bool.true_or]
      have on := (MC.Only.refl w.heap.size X).setCell 2 (.bool true)
      have s0 := b0.set2 (.bool true)
      have s1 := b1.only on (by omega)
      obtain ⟨c0, c1, c2⟩ := b0.cells
      obtain ⟨k0, k1, k2⟩ := s0.cells
      obtain ⟨d0, d1, d2⟩ := s1.cells
      have f00 := b0.free 2
      have f0 := s1.free 0
      have f1 := s1.free 1
      have f2 := s1.free 2
      have hlt := b1.lt
      have HF : Hid (World.ownsRow (X.setCell ⟨w.heap.size, 2, none⟩ (.bool true)) base 3 1 (.slice (some ⟨g, 0, none⟩) n c) n (M4.iv zs) ∧ SP.B3 (X.setCell ⟨w.heap.size, 2, none⟩ (.bool true)) (w.heap.size + 1) (.slice none 0 0) (.int .i64 0) (.bool false) 28 ∧ SP.T2 g g w (X.setCell ⟨w.heap.size, 2, none⟩ (.bool true))) := ⟨SP.own_p ho0 on (by omega), s1, hT0.then_only on (by omega)⟩
      clear s0 s1 on b0 b1 ho0 hT0 hB0 ho e1 hq
      generalize zs.getD a 0 = z at *
      generalize zs.getD b 0 = y at *
      subst hX
      go_enter Try.func33, Try.ntmps33
      go_wp2
      have hB2 : Below w.heap.size w ((w.alloc (.cells #[.slice (some ⟨g, 0, none⟩) n c, .int .i64 t, .bool (true)] 28)).alloc (.cells #[.slice (some ⟨g, 0, none⟩) n c, .int .i64 t, .bool (true)] 28)) := ((Below.refl _ _).alloc (Nat.le_refl _) _).alloc (by simp) _
      exact bodyPost_ret (v := .agg #[.slice (some ⟨g, 0, none⟩) n c, .int .i64 t, .bool (true)]) (by simp [results, Try.results33, go_sem]) rfl ⟨rfl, M5.own_below HO.out hB2, ⟨hB2.os, hB2.tape, hB2.output, hB2.size, fun k h1 _ _ => hB2.block k h1⟩⟩
  · have e2 : ((b : Int) == t) = false := by simp [hbt]
    by_cases hgv : (a : Int) ≠ t ∧ 2 ≤ zs.getD a 0 ∧ zs.getD b 0 = 0
    · have e1 : SP.give zs t th a b = ((zs.set b (zs.getD a 0 / 2)).set a (zs.getD a 0 - zs.getD a 0 / 2), th) := by rw [SP.give, if_neg hbt, if_pos hgv]
      have e3 : ((a : Int) == t) = false := by simp [hgv.1]
      have hat : ¬ ((a : Int) = t) := hgv.1
      have e4 : decide (2 ≤ zs.getD a 0) = true := decide_eq_true hgv.2.1
      rw [e1]
      have hcb := ho.cellAt b (by omega)
      rw [M4.iv_get zs b (zs.getD b 0) (by rw [List.getD_eq_getElem?_getD, List.getElem?_eq_getElem (by omega)]; rfl)] at hcb
      have hca := ho.cellAt a (by omega)
      rw [M4.iv_get zs a (zs.getD a 0) (by rw [List.getD_eq_getElem?_getD, List.getElem?_eq_getElem (by omega)]; rfl)] at hca
      rw [hgv.2.2] at cb hcb
      have h1 := (ho.stored b (.int .i64 (zs.getD a 0 / 2))).1
      rw [M4.iv_set] at h1
      have h2 := (h1.stored a (.int .i64 (zs.getD a 0 - zs.getD a 0 / 2))).1
      rw [M4.iv_set] at h2
      have on1 := (MC.Only.refl g w).setCell b (.int .i64 (zs.getD a 0 / 2))
      have on2 := on1.setCell a (.int .i64 (zs.getD a 0 - zs.getD a 0 / 2))
      have ca1 : (w.setCell ⟨g, b, none⟩ (.int .i64 (zs.getD a 0 / 2))).cell? ⟨g, a, none⟩ = some (.int .i64 (zs.getD a 0)) := (World.cell?_setCell_other _ _ _ _ (by simp <;> omega)).trans hca
      have cb1 : (w.setCell ⟨g, b, none⟩ (.int .i64 (zs.getD a 0 / 2))).cell? ⟨g, b, none⟩ = some (.int .i64 (zs.getD a 0 / 2)) := World.cell?_setCell_same _ _ _ hcb
      have fa1 := h1.frozenAt a
      obtain ⟨c0, c1, c2⟩ := b0.cells
      have hdv : 0 ≤ zs.getD a 0 / 2 ∧ zs.getD a 0 / 2 ≤ zs.getD a 0 := by omega
      obtain ⟨hv0, hv1⟩ := hdv
      have hwr : IntKind.i64.wrap (zs.getD a 0 / 2) = zs.getD a 0 / 2 := by rw [IntKind.wrap_i64]; omega
      have hwr2 : IntKind.i64.wrap (zs.getD a 0 - zs.getD a 0 / 2) = zs.getD a 0 - zs.getD a 0 / 2 := by rw [IntKind.wrap_i64]; omega
      have HF : Hid (World.ownsRow _ base 3 1 (.slice (some ⟨g, 0, none⟩) n c) n (M4.iv ((zs.set b (zs.getD a 0 / 2)).set a (zs.getD a 0 - zs.getD a 0 / 2))) ∧ SP.T2 g g w _) := ⟨h2, SP.T2.of_g on2⟩
      clear on1 on2 h1 h2 b0 b1 ho0 hT0 hB0 ho e1 hgv hca hcb
      generalize zs.getD a 0 = z at *
      generalize zs.getD b 0 = y at *
      subst hX
      go_enter Try.func33, Try.ntmps33
      go_wp2
      go_region_with (fail)
      all_goals (
        go_wp2
        go_region_with (fail))
      all_goals (
        go_wp2
        have hV : ((w.setCell ⟨g, b, none⟩ (.int .i64 (z / 2))).setCell ⟨g, a, none⟩ (.int .i64 (z - z / 2))).heap.size = w.heap.size := by simp
        generalize (w.setCell ⟨g, b, none⟩ (.int .i64 (z / 2))).setCell ⟨g, a, none⟩ (.int .i64 (z - z / 2)) = V at *
        have hB2 : Below V.heap.size V ((V.alloc (.cells #[.slice (some ⟨g, 0, none⟩) n c, .int .i64 t, .bool th] 28)).alloc (.cells #[.slice (some ⟨g, 0, none⟩) n c, .int .i64 t, .bool th] 28)).drew.drew := ((((Below.refl _ _).alloc (Nat.le_refl _) _).alloc (by simp) _).drew).drew
        exact bodyPost_ret (v := .agg #[.slice (some ⟨g, 0, none⟩) n c, .int .i64 t, .bool th]) (by simp [results, Try.results33, go_sem, ← hV]) rfl ⟨rfl, M5.own_below HF.out.1 hB2, HF.out.2.trans ⟨hB2.os, hB2.tape, hB2.output, hB2.size, fun k h1 _ _ => hB2.block k h1⟩⟩)
    · have e1 : SP.give zs t th a b = (zs, th) := by rw [SP.give, if_neg hbt, if_neg hgv]
      rw [e1]
      have HG : ((a : Int) = t) ∨ ((a : Int) ≠ t ∧ zs.getD a 0 < 2) ∨ ((a : Int) ≠ t ∧ 2 ≤ zs.getD a 0 ∧ zs.getD b 0 ≠ 0) := by
        by_cases p1 : (a : Int) = t
        · exact .inl p1
        · by_cases p2 : 2 ≤ zs.getD a 0
          · exact .inr (.inr ⟨p1, p2, fun p3 => hgv ⟨p1, p2, p3⟩⟩)
          · exact .inr (.inl ⟨p1, by omega⟩)
      obtain ⟨c0, c1, c2⟩ := b0.cells
      obtain ⟨d0, d1, d2⟩ := b1.cells
      have f0 := b1.free 0
      have f1 := b1.free 1
      have f2 := b1.free 2
      have hlt := b1.lt
      have HF : Hid (World.ownsRow X base 3 1 (.slice (some ⟨g, 0, none⟩) n c) n (M4.iv zs) ∧ SP.B3 X (w.heap.size + 1) (.slice none 0 0) (.int .i64 0) (.bool false) 28 ∧ SP.T2 g g w X) := ⟨ho0, b1, hT0⟩
      clear b0 b1 ho0 hT0 hB0 ho e1 hq hgv
      generalize zs.getD a 0 = z at *
      generalize zs.getD b 0 = y at *
      rcases HG with p1 | ⟨p1, p2⟩ | ⟨p1, p2, p3⟩
      · have q1 : ((a : Int) == t) = true := by simp [p1]
        subst hX
        go_enter Try.func33, Try.ntmps33
        go_wp2
        have hB2 : Below w.heap.size w ((w.alloc (.cells #[.slice (some ⟨g, 0, none⟩) n c, .int .i64 t, .bool (th)] 28)).alloc (.cells #[.slice (some ⟨g, 0, none⟩) n c, .int .i64 t, .bool (th)] 28)) := ((Below.refl _ _).alloc (Nat.le_refl _) _).alloc (by simp) _
        exact bodyPost_ret (v := .agg #[.slice (some ⟨g, 0, none⟩) n c, .int .i64 t, .bool (th)]) (by simp [results, Try.results33, go_sem]) rfl ⟨rfl, M5.own_below HO.out hB2, ⟨hB2.os, hB2.tape, hB2.output, hB2.size, fun k h1 _ _ => hB2.block k h1⟩⟩
      · have q1 : ((a : Int) == t) = false := by simp [p1]
        have q2 : decide (2 ≤ z) = false := decide_eq_false (by omega)
        subst hX
        go_enter Try.func33, Try.ntmps33
        go_wp2
        have hB2 : Below w.heap.size w ((w.alloc (.cells #[.slice (some ⟨g, 0, none⟩) n c, .int .i64 t, .bool (th)] 28)).alloc (.cells #[.slice (some ⟨g, 0, none⟩) n c, .int .i64 t, .bool (th)] 28)) := ((Below.refl _ _).alloc (Nat.le_refl _) _).alloc (by simp) _
        exact bodyPost_ret (v := .agg #[.slice (some ⟨g, 0, none⟩) n c, .int .i64 t, .bool (th)]) (by simp [results, Try.results33, go_sem]) rfl ⟨rfl, M5.own_below HO.out hB2, ⟨hB2.os, hB2.tape, hB2.output, hB2.size, fun k h1 _ _ => hB2.block k h1⟩⟩
      · have q1 : ((a : Int) == t) = false := by simp [p1]
        have q2 : decide (2 ≤ z) = true := decide_eq_true p2
        have q3 : (y == 0) = false := by simp [p3]
        subst hX
        go_enter Try.func33, Try.ntmps33
        go_wp2
        have hB2 : Below w.heap.size w ((w.alloc (.cells #[.slice (some ⟨g, 0, none⟩) n c, .int .i64 t, .bool (th)] 28)).alloc (.cells #[.slice (some ⟨g, 0, none⟩) n c, .int .i64 t, .bool (th)] 28)) := ((Below.refl _ _).alloc (Nat.le_refl _) _).alloc (by simp) _
        exact bodyPost_ret (v := .agg #[.slice (some ⟨g, 0, none⟩) n c, .int .i64 t, .bool (th)]) (by simp [results, Try.results33, go_sem]) rfl ⟨rfl, M5.own_below HO.out hB2, ⟨hB2.os, hB2.tape, hB2.output, hB2.size, fun k h1 _ _ => hB2.block k h1⟩⟩
end Go.Proofs.Ytgajfpohlemahaa
