/- The jobs in time: plain facts on what is taken, and a row that is taken in memory. -/
import Derived.Test.YtgenmljnhlcpcaaMJR
import Derived.Test.YtgenmljnhlcpcaaMCur
namespace Go.Proofs.Ytgenmljnhlcpcaa
namespace JD
open Go.RowKit
def duI (xs : List I2) (z : Int) : Int := (dueN xs z : Int)
/-- What is taken of the first k by due time. -/
def tak (xs : List I2) (k : Nat) : List Int := mos (lngN xs) (duI xs) ((byD xs).take k)
theorem tak_zero (xs : List I2) : tak xs 0 = [] := by simp [tak, mos]
theorem tak_succ {xs : List I2} {k : Nat} (h : k < (byD xs).length) : tak xs (k + 1) = mst (lngN xs) (duI xs) (tak xs k) ((byD xs).getD k 0) := by
  unfold tak; rw [M4.take_snoc _ _ h, mos_snoc]
theorem tak_sub (xs : List I2) {k : Nat} (h : k ≤ (byD xs).length) : (tak xs k).Sublist ((byD xs).take k) := mos_sub _ _ _ k h
theorem tak_len (xs : List I2) {k : Nat} (h : k ≤ (byD xs).length) : (tak xs k).length ≤ k := by
  have := (tak_sub xs h).length_le
  rw [List.length_take] at this
  omega
theorem tak_rng {xs : List I2} (hg : okP xs = true) {k : Nat} (h : k ≤ (byD xs).length) : ∀ z, z ∈ tak xs k → 0 ≤ z ∧ z < xs.length :=
  fun z hz => (byD_mem hg z).1 (List.mem_of_mem_take ((tak_sub xs h).subset hz))
/-- One more, none twice. -/
theorem tak_more {xs : List I2} {k : Nat} (h : k < (byD xs).length) : (tak xs k ++ [(byD xs).getD k 0]).Nodup := by
  have h1 := List.Sublist.append (tak_sub xs (Nat.le_of_lt h)) (List.Sublist.refl [(byD xs).getD k 0])
  rw [← M4.take_snoc _ _ h] at h1
  exact ((byD_nodup xs).sublist (List.take_sublist _ _)).sublist h1
theorem tak_nodup (xs : List I2) {k : Nat} (h : k ≤ (byD xs).length) : (tak xs k).Nodup := ((byD_nodup xs).sublist (List.take_sublist _ _)).sublist (tak_sub xs h)
theorem mst_in {lg : Int → Nat} {du : Int → Int} {t : List Int} {k : Int} (h : ((t ++ [k]).map fun z => (lg z : Int)).sum ≤ du k) : mst lg du t k = t ++ [k] := by simp only [mst, if_pos h]
theorem mst_out {lg : Int → Nat} {du : Int → Int} {t : List Int} {k : Int} (h : ¬ ((t ++ [k]).map fun z => (lg z : Int)).sum ≤ du k) : mst lg du t k = (t ++ [k]).eraseIdx (lmx lg (t ++ [k]) (t ++ [k]).length) := by simp only [mst, if_neg h]
theorem sum_erase (lg : Int → Nat) : ∀ {t : List Int} {p : Nat}, p < t.length → ((t.eraseIdx p).map fun y => (lg y : Int)).sum = (t.map fun y => (lg y : Int)).sum - (lg (t.getD p 0) : Int)
  | [], p, h => by simp at h
  | z :: t, 0, _ => by simp; omega
  | z :: t, p + 1, h => by
    have := sum_erase lg (t := t) (p := p) (by simpa using h)
    simp only [List.eraseIdx_cons_succ, List.map_cons, List.sum_cons, List.getD_cons_succ]
    rw [this]; omega
theorem endK_sum' {xs : List I2} {ts : List Int} (hg : okP xs = true) (hr : ∀ z, z ∈ ts → 0 ≤ z ∧ z < xs.length) : ∀ k, k ≤ ts.length → endK xs ts k = ((ts.take k).map fun z => (lngN xs z : Int)).sum
  | 0, _ => by simp [endK]
  | k + 1, hk => by
    have h1 := hr _ (getD_mem (show k < ts.length by omega))
    rw [endK, endK_sum' hg hr k (by omega), M4.take_snoc _ _ (by omega), List.map_append, List.sum_append, jl, lng_is hg h1.1 h1.2]
    simp
/-- The answer. -/
def fewL (xs : List I2) : List Int := if okP xs = true then (tak xs xs.length).mergeSort (fun x y => decide (x ≤ y)) else []
theorem fewL_no {xs : List I2} (h : okP xs = false) : fewL xs = [] := by simp [fewL, h]
theorem fewL_yes {xs : List I2} (h : okP xs = true) : fewL xs = (tak xs xs.length).mergeSort (fun x y => decide (x ≤ y)) := by simp [fewL, h]
theorem fewL_len (xs : List I2) : (fewL xs).length ≤ 1048576 := by
  cases h : okP xs
  · rw [fewL_no h]; simp
  · rw [fewL_yes h, List.length_mergeSort]
    have := tak_len xs (k := xs.length) (by rw [byD_len h]; exact Nat.le_refl _)
    have := ((okP_iff xs).1 h).1
    omega
/-- A row that is taken: where it lies, and that all else is as it was. -/
structure Tk (W wr : World) (g0 tg tc : Nat) (t : List Int) : Prop where
  only : MC.Only g0 W wr
  own : wr.ownsRow g0 3 1 (.slice (some ⟨tg, 0, none⟩) t.length tc) t.length (M4.iv t)
  blk : tg = g0 ∨ W.heap.size ≤ tg
theorem Tk.drewN {W wr : World} {g0 tg tc : Nat} {t : List Int} (h : Tk W wr g0 tg tc t) (n : Nat) : Tk W (wr.drewN n) g0 tg tc t := ⟨h.only.drewN n, h.own, h.blk⟩
/-- What only the row's own block changes. -/
theorem Tk.turn {W wr w' : World} {g0 tg tc : Nat} {t t' : List Int} (h : Tk W wr g0 tg tc t) (hg : MC.Only tg wr w') (ho : w'.ownsRow g0 3 1 (.slice (some ⟨tg, 0, none⟩) t'.length tc) t'.length (M4.iv t')) : Tk W w' g0 tg tc t' :=
  ⟨⟨hg.os.trans h.only.os, hg.tape.trans h.only.tape, hg.output.trans h.only.output, Nat.le_trans h.only.size hg.size, fun k hk hp =>
    (hg.block k (Nat.lt_of_lt_of_le hk h.only.size) (fun e => by rcases h.blk with b | b <;> omega)).trans (h.only.block k hk hp)⟩, ho, h.blk⟩
theorem Tk.below {W wr w' : World} {g0 tg tc : Nat} {t : List Int} (h : Tk W wr g0 tg tc t) (hb : Below wr.heap.size wr w') : Tk W w' g0 tg tc t :=
  ⟨h.only.trans (MC.Only.of_below hb), M5.own_below h.own hb, h.blk⟩
theorem Tk.at {W wr : World} {g0 tg tc : Nat} {t : List Int} (h : Tk W wr g0 tg tc t) : M4.IntsAt wr (some ⟨tg, 0, none⟩) t := M4.IntsAt.of_own h.own
end JD
end Go.Proofs.Ytgenmljnhlcpcaa
