/- (*impl.Spray).handOn. -/
import Derived.Test.YtgajfpohlemahaaRows
import Derived.Test.YtgajfpohlemahaaMSprM
import Derived.WalkKit
import Derived.WalkSpells
import Derived.WalkLawsBesides
import Derived.Outline
namespace Go.Proofs.Ytgajfpohlemahaa
open Go.RowKit
/-- All blocks but two are as they were. -/
structure SP.T2 (p g : Nat) (w w' : World) : Prop where
  os : w'.os = w.os
  tape : w'.tape = w.tape
  output : w'.output = w.output
  size : w.heap.size ≤ w'.heap.size
  block : ∀ k, k < w.heap.size → k ≠ p → k ≠ g → w'.heap[k]? = w.heap[k]?
theorem SP.T2.refl (p g : Nat) (w : World) : SP.T2 p g w w := ⟨rfl, rfl, rfl, Nat.le_refl _, fun _ _ _ _ => rfl⟩
theorem SP.T2.trans {p g : Nat} {a b c : World} (h : SP.T2 p g a b) (k : SP.T2 p g b c) : SP.T2 p g a c :=
  ⟨k.os.trans h.os, k.tape.trans h.tape, k.output.trans h.output, Nat.le_trans h.size k.size, fun j h1 h2 h3 => (k.block j (Nat.lt_of_lt_of_le h1 h.size) h2 h3).trans (h.block j h1 h2 h3)⟩
theorem SP.T2.of_p {p g : Nat} {w w' : World} (h : MC.Only p w w') : SP.T2 p g w w' := ⟨h.os, h.tape, h.output, h.size, fun k h1 h2 _ => h.block k h1 h2⟩
theorem SP.T2.of_g {p g : Nat} {w w' : World} (h : MC.Only g w w') : SP.T2 p g w w' := ⟨h.os, h.tape, h.output, h.size, fun k h1 _ h3 => h.block k h1 h3⟩
theorem SP.T2.below {p g B : Nat} {w w' : World} (h : SP.T2 p g w w') (hp : B ≤ p) (hg : B ≤ g) (hB : B ≤ w.heap.size) : Below B w w' := ⟨h.os, h.tape, h.output, h.size, fun k hk => h.block k (by omega) (by omega) (by omega)⟩
theorem SP.half {z : Int} (h : 0 ≤ z) : z.tdiv 2 = z / 2 := Int.tdiv_eq_ediv_of_nonneg h
set_option maxHeartbeats 1600000 in
set_option maxRecDepth 100000 in
theorem handOn_any (p g n c base a b : Nat) (zs : List Int) (t : Int) (th : Bool) (w : World) (hn : zs.length = n) (ha : a < n) (hb : b < n) (hz0 : 0 ≤ zs.getD a 0) (hz1 : zs.getD a 0 ≤ 1048576) (hpg : p ≠ g)
    (bP : SP.B3 w p (.slice (some ⟨g, 0, none⟩) n c) (.int .i64 t) (.bool th) 28) (ho : w.ownsRow base 3 1 (.slice (some ⟨g, 0, none⟩) n c) n (M4.iv zs)) :
    Calls Try.prog 29 #[.pointer (some ⟨p, 0, none⟩), .int .i64 a, .int .i64 b] w fun e w' => (∃ v, e = .returned v) ∧ SP.B3 w' p (.slice (some ⟨g, 0, none⟩) n c) (.int .i64 t) (.bool (SP.hand zs t th a b).2) 28 ∧ w'.ownsRow base 3 1 (.slice (some ⟨g, 0, none⟩) n c) n (M4.iv (SP.hand zs t th a b).1) ∧ SP.T2 p g w w' := by
  obtain ⟨c0, c1, c2⟩ := bP.cells
  have f2 := bP.free 2
  have hlp := bP.lt
  have ca : w.cell? ⟨g, a, none⟩ = some (.int .i64 (zs.getD a 0)) := by
    have := ho.cellAt a (by omega)
    rw [M4.iv_get zs a (zs.getD a 0) (by rw [List.getD_eq_getElem?_getD, List.getElem?_eq_getElem (by omega)]; rfl)] at this
    exact this
  have cb : w.cell? ⟨g, b, none⟩ = some (.int .i64 (zs.getD b 0)) := by
    have := ho.cellAt b (by omega)
    rw [M4.iv_get zs b (zs.getD b 0) (by rw [List.getD_eq_getElem?_getD, List.getElem?_eq_getElem (by omega)]; rfl)] at this
    exact this
  have fa := ho.frozenAt a
  have fb := ho.frozenAt b
  have hq := SP.half hz0
  by_cases hbt : (b : Int) = t
  · have e1 : SP.hand zs t th a b = (zs, th || decide (0 < zs.getD a 0)) := by rw [SP.hand, if_pos hbt]
    rw [e1]
    have HP : Hid _ := bP.set2 (.bool (th || decide (0 < zs.getD a 0)))
    have on := (MC.Only.refl p w).setCell 2 (.bool (th || decide (0 < zs.getD a 0)))
    have HO : Hid (World.ownsRow (w.setCell ⟨p, 2, none⟩ (.bool (th || decide (0 < zs.getD a 0)))) base 3 1 (.slice (some ⟨g, 0, none⟩) n c) n (M4.iv zs)) := ho.kept (row := some p) ⟨on.os, on.tape, on.output, on.size, fun k h1 h2 => on.block k h1 (fun e => h2 (by rw [e]))⟩ (.inr (by simp [Value.ownBlock]; omega))
    have HT : Hid (SP.T2 p g w _) := SP.T2.of_p on
    have e2 : ((b : Int) == t) = true := by simp [hbt]
    clear ho bP on e1 hq
    generalize zs.getD a 0 = z at *
    cases th
    · simp only [Bool.false_or] at HP HO HT ⊢
      go_enter Try.func29, Try.ntmps29
      go_wp2
      go_end0
      exact ⟨⟨_, rfl⟩, HP.out, HO.out, HT.out⟩
    · simp only [Bool.true_or] at HP HO HT ⊢
      go_enter Try.func29, Try.ntmps29
      go_wp2
      go_end0
      exact ⟨⟨_, rfl⟩, HP.out, HO.out, HT.out⟩
  · have e2 : ((b : Int) == t) = false := by simp [hbt]
    by_cases hzb : zs.getD b 0 = 0
    · have e1 : SP.hand zs t th a b = ((zs.set a (zs.getD a 0 - zs.getD a 0 / 2)).set b (zs.getD a 0 / 2), th) := by rw [SP.hand, if_neg hbt, if_pos hzb]
      rw [e1]
      rw [hzb] at cb
      have h1 := (ho.stored a (.int .i64 (zs.getD a 0 - zs.getD a 0 / 2))).1
      rw [M4.iv_set] at h1
      have h2 := (h1.stored b (.int .i64 (zs.getD a 0 / 2))).1
      rw [M4.iv_set] at h2
      have on1 := (MC.Only.refl g w).setCell a (.int .i64 (zs.getD a 0 - zs.getD a 0 / 2))
      have on2 := on1.setCell b (.int .i64 (zs.getD a 0 / 2))
      have HP : Hid _ := bP.only on2 hpg
      obtain ⟨d0, d1, d2⟩ := (bP.only on1 hpg).cells
      have HO : Hid _ := h2
      have HT : Hid (SP.T2 p g w _) := SP.T2.of_g on2
      have cb1 : ∃ u, (w.setCell ⟨g, a, none⟩ (.int .i64 (zs.getD a 0 - zs.getD a 0 / 2))).cell? ⟨g, b, none⟩ = some u := by
        rw [h1.cellAt b (by omega)]
        exact ⟨_, List.getElem?_eq_getElem (by simp [M4.iv]; omega)⟩
      obtain ⟨u, cb1⟩ := cb1
      have fb1 := h1.frozenAt b
      have hdv : 0 ≤ zs.getD a 0 / 2 ∧ zs.getD a 0 / 2 ≤ zs.getD a 0 := by omega
      clear ho bP on1 on2 h1 h2 e1 hzb hq
      generalize zs.getD a 0 = z at *
      go_enter Try.func29, Try.ntmps29
      go_wp2
      go_end0
      exact ⟨⟨_, rfl⟩, HP.out, HO.out, HT.out⟩
    · have e1 : SP.hand zs t th a b = (zs, th) := by rw [SP.hand, if_neg hbt, if_neg hzb]
      rw [e1]
      have HP : Hid _ := bP
      have HO : Hid _ := ho
      have e3 : (zs.getD b 0 == 0) = false := by simpa using hzb
      clear ho bP e1 hq hzb
      generalize zs.getD a 0 = z at *
      generalize zs.getD b 0 = y at *
      go_enter Try.func29, Try.ntmps29
      go_wp2
      go_end0
      exact ⟨⟨_, rfl⟩, HP.out, HO.out, SP.T2.refl _ _ _⟩
end Go.Proofs.Ytgajfpohlemahaa
