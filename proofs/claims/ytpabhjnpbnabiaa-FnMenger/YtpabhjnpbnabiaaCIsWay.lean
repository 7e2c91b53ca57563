import Derived.Test.YtpabhjnpbnabiaaRows
import Derived.Test.YtpabhjnpbnabiaaM5
import Derived.Test.YtpabhjnpbnabiaaMRetB
import Derived.WalkKit
import Derived.WalkSpells
import Derived.WalkLawsBesides
import Derived.Outline
import Derived.Test.YtpabhjnpbnabiaaCLinksI
import Derived.Test.YtpabhjnpbnabiaaCLinksS
import Derived.Test.YtpabhjnpbnabiaaCAskI
import Derived.Test.YtpabhjnpbnabiaaCHasI
import Derived.Test.YtpabhjnpbnabiaaMInfo
import Derived.Test.YtpabhjnpbnabiaaMA
import Derived.Test.YtpabhjnpbnabiaaMRP
import Derived.Test.YtpabhjnpbnabiaaMRA
import Derived.Deep.RegionHeld3
import Derived.BigRegion
/- Numbers of a row of so many: areNumbersOf of the program. -/
namespace Go.Proofs.Ytpabhjnpbnabiaa
open Go.RowKit
namespace PN
/-- The first k numbers are of a plan of n contacts. -/
def inUp (n : Nat) (os : List Int) (k : Nat) : Prop := ∀ i, i < k → 0 ≤ os.getD i 0 ∧ os.getD i 0 < n
def inP (n : Nat) (os : List Int) : Bool := os.all fun o => decide (0 ≤ o ∧ o < n)
theorem inP_iff (n : Nat) (os : List Int) : inP n os = true ↔ inUp n os os.length := by
  unfold inP inUp
  rw [List.all_eq_true]
  constructor
  · intro h i hi
    have := h _ (List.getElem_mem hi)
    rw [decide_eq_true_eq] at this
    rw [List.getD_eq_getElem?_getD, List.getElem?_eq_getElem hi]; exact this
  · intro h x hx
    obtain ⟨i, hi, rfl⟩ := List.mem_iff_getElem.1 hx
    have := h i hi
    rw [List.getD_eq_getElem?_getD, List.getElem?_eq_getElem hi] at this
    rw [decide_eq_true_eq]; exact this
theorem inUp_succ {n : Nat} {os : List Int} {k : Nat} (h : inUp n os k) (h1 : 0 ≤ os.getD k 0 ∧ os.getD k 0 < n) : inUp n os (k + 1) := by
  intro i hi
  by_cases e : i = k
  · subst e; exact h1
  · exact h i (by omega)
theorem inP_no {n : Nat} {os : List Int} {k : Nat} (hk : k < os.length) (h : ¬ (0 ≤ os.getD k 0 ∧ os.getD k 0 < n)) : inP n os = false := by
  rw [Bool.eq_false_iff]; intro e; exact h ((inP_iff n os).1 e k hk)
end PN
set_option maxHeartbeats 400000 in
set_option maxRecDepth 100000 in
theorem within9_any (n lo hi : Int) (w : World) : Calls Try.prog 58 #[.int .i64 n, .int .i64 lo, .int .i64 hi] w fun e w' => e = .returned (.bool (decide (lo ≤ n ∧ n ≤ hi))) ∧ w = w' := by
  by_cases h1 : lo ≤ n
  · go_enter Try.func58, Try.ntmps58
    go_wp2
    go_ret
    exact ⟨retB7 (by simp [h1]), rfl⟩
  · go_enter Try.func58, Try.ntmps58
    go_wp2
    go_ret
    exact ⟨retB7 (by rw [decide_eq_false (by omega : ¬ lo ≤ n)]; rfl), rfl⟩
set_option maxHeartbeats 1600000 in
set_option maxRecDepth 100000 in
theorem areNumbersOf_any (b : Option Addr) (cb : Nat) (n : Nat) (os : List Int) (w : World) (hn : n ≤ 1048576) (ho : os.length ≤ 1048576) (hos : M4.IntsAt w b os) (R : Bool) (hR : Hid (PN.inP n os = R)) :
    Calls Try.prog 36 #[.slice b os.length cb, .int .i64 (n : Int)] w fun e w' => e = .returned (.bool R) ∧ w = w' := by
  go_enter Try.func36, Try.ntmps36
  go_wp2
  go_loopw [9] (fun iv wr => ∃ k : Nat, iv = .int .i64 k ∧ k ≤ os.length ∧ Hid (PN.inUp n os k) ∧ w = wr) (fun iv _ => (os.length - intOf iv).toNat)
  case atStart => exact ⟨0, rfl, by omega, show Hid _ from fun i hi => by omega, rfl⟩
  case round =>
    obtain ⟨k, rfl, hk, hT, rfl⟩ := hrel
    by_cases hlk : k < os.length
    · obtain ⟨b1, off1, rfl, hlt1, hc1⟩ := hos.at hlk
      have HY : Hid _ := fun h => PN.inUp_succ hT.out (k := k) h
      have HN : Hid _ := fun h => PN.inP_no (n := n) hlk h
      clear hos hT
      generalize os.getD k 0 = o at *
      by_cases h0 : 0 ≤ o ∧ o < n
      · have hT : Hid _ := HY.out h0
        have h1 : decide (0 ≤ o ∧ o ≤ (n : Int) - 1) = true := by simp only [decide_eq_true_eq]; omega
        clear HN HY hR h0
        go_wp2_with fail
        refine (within9_any _ _ _ _).mono ?_
        rintro e w' ⟨rfl, rfl⟩
        rw [h1]
        go_wp2
        go_roundw
        case rel => exact ⟨k + 1, by go_num, by omega, hT, trivial⟩
        case measure => simp [intOf]; omega
      · have hF : Hid (R = false) := by rw [← hR.out, HN.out h0]; simp [Hid]
        have h1 : decide (0 ≤ o ∧ o ≤ (n : Int) - 1) = false := by simp only [decide_eq_false_iff_not]; omega
        clear HN HY hR h0
        go_wp2_with fail
        refine (within9_any _ _ _ _).mono ?_
        rintro e w' ⟨rfl, rfl⟩
        rw [h1]
        go_wp2
        go_ret
        exact ⟨retB7 hF.out.symm, rfl⟩
    · obtain rfl : k = os.length := by omega
      have hF : Hid (R = true) := by rw [← hR.out]; exact (PN.inP_iff n os).2 hT.out
      clear hos hT hR
      go_wp2
      go_ret
      exact ⟨retB7 hF.out.symm, rfl⟩
end Go.Proofs.Ytpabhjnpbnabiaa

/- isWay and IsWay of the program, IsWay of the specification. -/
namespace Go.Proofs.Ytpabhjnpbnabiaa
open Go.RowKit
namespace LK
/-- Where one is behind the first k numbers of a row, and where one was: none where it breaks off or comes to a node twice. -/
def wyUp (xs : List I2) (f : Int) (way : List Int) : Nat → Option (Int × List Int)
  | 0 => some (f, [f])
  | k + 1 => match wyUp xs f way k with
    | none => none
    | some (p, seen) => if (MI2.at_ xs (way.getD k 0).toNat).a0 = p ∧ (MI2.at_ xs (way.getD k 0).toNat).a1 ∉ seen then some ((MI2.at_ xs (way.getD k 0).toNat).a1, seen ++ [(MI2.at_ xs (way.getD k 0).toNat).a1]) else none
def isW (xs : List I2) (f t : Int) (way : List Int) : Bool := match wyUp xs f way way.length with
  | none => false
  | some (p, _) => p == t
theorem wy_none {xs : List I2} {f : Int} {way : List Int} {k : Nat} (h : wyUp xs f way k = none) : ∀ d, wyUp xs f way (k + d) = none
  | 0 => h
  | d + 1 => by rw [← Nat.add_assoc, wyUp, wy_none h d]
theorem isW_no {xs : List I2} {f t : Int} {way : List Int} {k : Nat} (hk : k ≤ way.length) (h : wyUp xs f way k = none) : isW xs f t way = false := by
  have := wy_none h (way.length - k)
  rw [show k + (way.length - k) = way.length from by omega] at this
  unfold isW; rw [this]
theorem isW_end {xs : List I2} {f t p : Int} {way seen : List Int} (h : wyUp xs f way way.length = some (p, seen)) : isW xs f t way = (p == t) := by
  unfold isW; rw [h]
theorem wy_yes {xs : List I2} {f p : Int} {way seen : List Int} {k : Nat} (h : wyUp xs f way k = some (p, seen)) (h0 : (MI2.at_ xs (way.getD k 0).toNat).a0 = p) (h1 : (MI2.at_ xs (way.getD k 0).toNat).a1 ∉ seen) : wyUp xs f way (k + 1) = some ((MI2.at_ xs (way.getD k 0).toNat).a1, seen ++ [(MI2.at_ xs (way.getD k 0).toNat).a1]) := by
  rw [wyUp, h]; simp only; rw [if_pos ⟨h0, h1⟩]
theorem wy_no {xs : List I2} {f p : Int} {way seen : List Int} {k : Nat} (h : wyUp xs f way k = some (p, seen)) (h0 : (MI2.at_ xs (way.getD k 0).toNat).a0 ≠ p ∨ (MI2.at_ xs (way.getD k 0).toNat).a1 ∈ seen) : wyUp xs f way (k + 1) = none := by
  rw [wyUp, h]; simp only; rw [if_neg]
  rintro ⟨a, b⟩
  rcases h0 with h | h
  · exact h a
  · exact b h
theorem wy_len {xs : List I2} {f p : Int} {way seen : List Int} {k : Nat} (h : wyUp xs f way k = some (p, seen)) : seen.length = k + 1 := by
  induction k generalizing p seen with
  | zero => simp only [wyUp, Option.some.injEq, Prod.mk.injEq] at h; rw [← h.2]; rfl
  | succ k ih =>
    rw [wyUp] at h
    split at h
    · cases h
    · rename_i p' s' e
      split at h
      · simp only [Option.some.injEq, Prod.mk.injEq] at h
        rw [← h.2, List.length_append, ih e]; rfl
      · cases h
/-- What lies in memory while a row is gone along. -/
structure Wb (w wr : World) (f t p : Int) (v : Value) (s : List Int) : Prop where
  own : wr.ownsRow (w.heap.size + 1 + 1) 3 1 v s.length (M4.iv s)
  en : MA.Rg wr w.heap.size 0 [.int .i64 f, .int .i64 t]
  wh : MA.Rg wr (w.heap.size + 1) 0 [.int .i64 f, .int .i64 p]
  be : Below w.heap.size w wr
theorem Wb.below {w wr wr' : World} {f t p : Int} {v : Value} {s : List Int} (h : Wb w wr f t p v s) (hb : Below wr.heap.size wr wr') : Wb w wr' f t p v s :=
  ⟨M5.own_below h.own hb, h.en.below hb h.en.lt, h.wh.below hb h.wh.lt, h.be.trans (hb.mono h.be.size)⟩
theorem Wb.sz {w wr : World} {f t p : Int} {v : Value} {s : List Int} (h : Wb w wr f t p v s) : w.heap.size + 1 + 1 ≤ wr.heap.size := h.wh.lt
theorem Wb.app {w v0 w6 : World} {f t p x : Int} {v v' : Value} {s : List Int} {o : Obj} (h : Wb w v0 f t p v s) (ho : w6.ownsRow (w.heap.size + 1 + 1) 3 1 v' (s.length + 1) (M4.iv s ++ [.int .i64 x])) (hg : (v0.alloc o).grownBy w6 v.ownBlock) : Wb w (w6.setCells (w.heap.size + 1) 0 [.int .i64 f, .int .i64 x]) f t x v' (s ++ [x]) := by
  have hv : ∀ k, v.ownBlock = some k → w.heap.size + 1 + 1 ≤ k := fun k hk => (h.own.lt k hk).1
  have hv' : v'.ownBlock ≠ some (w.heap.size + 1) := fun e => by have := (ho.lt _ e).1; omega
  have o6 : w6.ownsRow (w.heap.size + 1 + 1) 3 1 v' (s ++ [x]).length (M4.iv (s ++ [x])) := by simpa [M4.iv] using ho
  have e6 := RA.rg_grown (h.en.alloc o) hg (fun e => by have := hv _ e.symm; omega)
  have w6' := RA.rg_grown (h.wh.alloc o) hg (fun e => by have := hv _ e.symm; omega)
  have b6 : Below w.heap.size w w6 := (h.be.alloc h.be.size o).grown hg (by have := h.be.size; simp; omega) (fun k hk => by have := hv k hk; omega)
  exact ⟨RA.own_only o6 (RA.only_cells _ _ _ _) hv', RA.rg_only e6 (RA.only_cells _ _ _ _) (by omega), w6'.put rfl, MA.below_cells (by omega) _ _ _ b6⟩
end LK
theorem Try.infoLK : (Try.prog.info? 59).map (fun i => (i.zero, i.size)) = some (some (.agg #[.int .i64 0, .int .i64 0]), 2) := by kernel_rfl
theorem Try.sizeLK : (Try.prog.info? 59).map (·.size) = some 2 := by kernel_rfl
set_option linter.unusedSimpArgs false in
set_option maxHeartbeats 1600000 in
set_option maxRecDepth 100000 in
theorem then_any (x0 x1 y0 y1 : Int) (w : World) :
    Calls Try.prog 59 #[.agg #[.int .i64 x0, .int .i64 x1], .agg #[.int .i64 y0, .int .i64 y1]] w fun e w' => e = .returned (.tuple #[.agg #[.int .i64 x0, .int .i64 y1], .bool (x1 == y0)]) ∧ Below w.heap.size w w' := by
  go_enter Try.func59, Try.ntmps59
  go_wp2
  go_region_held3 (fun w' => w'.cell? ⟨w.heap.size, 0, none⟩ = some (.int .i64 x0) ∧ w'.cell? ⟨w.heap.size, 1, none⟩ = some (.int .i64 x1) ∧ w'.cell? ⟨w.heap.size + 1, 0, none⟩ = some (.int .i64 y0) ∧ w'.cell? ⟨w.heap.size + 1, 1, none⟩ = some (.int .i64 y1)) (first | go_keep | (simp; done)) (fail)
  have HB2 : Hid (Below w.heap.size w (((w.alloc (.cells #[.int .i64 x0, .int .i64 x1] 59)).alloc (.cells #[.int .i64 y0, .int .i64 y1] 59)).alloc (.cells #[.int .i64 x0, .int .i64 y1] 59)).drew) := ((((Below.refl _ w).alloc (Nat.le_refl _) _).alloc (by simp) _).alloc (by simp; omega) _).drew
  go_wp2
  exact bodyPost_ret (v := .tuple #[.agg #[.int .i64 x0, .int .i64 y1], .bool (x1 == y0)]) (by simp [results, Try.results59, go_sem]) rfl ⟨rfl, HB2.out⟩
set_option linter.unusedSimpArgs false in
set_option maxHeartbeats 3200000 in
set_option maxRecDepth 100000 in
theorem isWay_any (a b : Option Addr) (ca cb : Nat) (xs : List I2) (f t : Int) (way : List Int) (w : World) (_hn : xs.length ≤ 1048576) (hz : way.length ≤ 1048576) (hin : MI2.RowAt w a xs) (hos : M4.IntsAt w b way) (hP : PN.inUp xs.length way way.length) :
    Calls Try.prog 37 #[.slice a xs.length ca, .agg #[.int .i64 f, .int .i64 t], .slice b way.length cb] w fun e w' => e = .returned (.bool (LK.isW xs f t way)) ∧ Below w.heap.size w w' := by
  obtain ⟨i0, hi, hz0, hz1, hz2⟩ := info_parts Try.info3
  have HI : Hid (MI2.RowAt w a xs) := hin
  have HS : Hid (M4.IntsAt w b way) := hos
  have HP : Hid _ := hP
  have ST : Hid (LK.Wb w (((w.alloc (.cells #[.int .i64 f, .int .i64 t] 59)).alloc (.cells #[.int .i64 f, .int .i64 f] 59)).alloc (.cells #[.int .i64 f] 3)) f t f (.slice (some ⟨w.heap.size + 1 + 1, 0, none⟩) 1 1) [f]) := by
    refine ⟨?_, ?_, ?_, ?_⟩
    · have := World.ownsRow_lit (base := w.heap.size + 1 + 1) (e := 3) (size := 1) ((w.alloc (.cells #[.int .i64 f, .int .i64 t] 59)).alloc (.cells #[.int .i64 f, .int .i64 f] 59)) #[.int .i64 f] 1 (by simp) (by unfold maxLen; omega) (by simp)
      simpa [M4.iv] using this
    · exact ((MA.Rg.new w [.int .i64 f, .int .i64 t] 59).alloc _).alloc _
    · exact (MA.Rg.new' (w.alloc (.cells #[.int .i64 f, .int .i64 t] 59)) [.int .i64 f, .int .i64 f] 59 (w.heap.size + 1) (by simp)).alloc _
    · exact (((Below.refl _ w).alloc (Nat.le_refl _) _).alloc (by simp) _).alloc (by simp; omega) _
  have NO : Hid _ := fun (k : Nat) hk h => LK.isW_no (xs := xs) (f := f) (t := t) (way := way) (k := k) hk h
  have EN : Hid _ := fun p s h => LK.isW_end (xs := xs) (f := f) (t := t) (way := way) (p := p) (seen := s) h
  generalize LK.isW xs f t way = R at *
  clear hin hos hP
  go_enter Try.func37, Try.ntmps37
  go_wp2
  go_loopw [8, 23] (fun v iv wr => ∃ (k : Nat) (p : Int) (s : List Int), iv = .int .i64 k ∧ k ≤ way.length ∧ Hid (LK.wyUp xs f way k = some (p, s)) ∧ LK.Wb w wr f t p v s) (fun _ iv _ => (way.length - intOf iv).toNat)
  case atStart => exact ⟨0, f, [f], rfl, by omega, rfl, ST.out⟩
  case round =>
    clear ST
    obtain ⟨k, p, s, rfl, hk, HW, hB⟩ := hrel
    have hsl : s.length = k + 1 := LK.wy_len HW.out
    have hsl2 : s.length ≤ k + 1 := by omega
    clear hsl
    obtain ⟨a3, c3, rfl, _⟩ := M5.own_view hB.own
    have HB : Hid _ := hB
    by_cases hlk : k < way.length
    · have hj0 := HP.out k hlk
      obtain ⟨j, hj, hjx⟩ : ∃ j : Nat, way.getD k 0 = (j : Int) ∧ j < xs.length := ⟨(way.getD k 0).toNat, by omega, by omega⟩
      obtain ⟨b2, off2, rfl, hlt2, d0⟩ := M4.IntsAt.at (M4.IntsAt.below HS.out hB.be) hlk
      rw [hj] at d0
      obtain ⟨b1, off, rfl, hlt, c0, c1⟩ := (HI.out.below hB.be).at hjx
      have WY : Hid _ := fun h0 h1 => LK.wy_yes HW.out h0 h1
      have WN : Hid _ := fun h0 => LK.wy_no HW.out h0
      rw [hj, show ((j : Nat) : Int).toNat = j from by omega] at WY WN
      generalize MI2.at_ xs j = x at *
      obtain ⟨x0, x1⟩ := x
      simp only at WY WN c0 c1
      have NK : Hid _ := fun h => NO.out (k + 1) (by omega) (WN.out h)
      have TH : Hid (∀ W : World, _) := fun W => then_any f p x0 x1 W
      have p0 := hB.wh.cell (j := 0) rfl
      have p1 := hB.wh.cell (j := 1) rfl
      rw [Nat.zero_add] at p0 p1
      have l1 := hB.wh.lt
      have kk0 : (0 : Int) ≤ (j : Int) := by omega
      have kkx : (j : Int) < (xs.length : Int) := by omega
      clear hj hj0 hB WN HI HS HP HW NO EN
      go_wp2_with fail
      refine MR.frame fun A hA => ?_
      have hsz : A.tmps.size = 54 := by rw [hA]; rfl
      have e7 : A.eval (.tmp 7) = .pointer (some ⟨w.heap.size + 1, 0, none⟩) := by rw [hA]; rfl
      have f7 := MR.read (t := 7) (by rw [hsz]; decide) e7
      have e0 : A.eval (.tmp 0) = .slice (some ⟨b1, off, none⟩) xs.length ca := by rw [hA]; rfl
      have f0 := MR.read (t := 0) (by rw [hsz]; decide) e0
      have e10 : A.eval (.tmp 10) = .int .i64 (j : Int) := by rw [hA]; rfl
      have f10 := MR.read (t := 10) (by rw [hsz]; decide) e10
      have HA : Hid (A = _) := hA
      clear hA
      refine MR.cut (fun aa w' => ∃ q, aa = (((((((((((A.put (some 28) (.agg #[.int .i64 f, .int .i64 p])).put (some 29) (.slice (some ⟨b1, off, none⟩) xs.length ca)).put (some 30) (.int .i64 (j : Int))).put (some 31) (.pointer (some ⟨b1, off + j * 2, none⟩))).put (some 32) (.agg #[.int .i64 x0, .int .i64 x1])).put (some 33) (.tuple #[.agg #[.int .i64 f, .int .i64 x1], .bool (p == x0)])).put (some 27) (.tuple #[.agg #[.int .i64 f, .int .i64 x1], .bool (p == x0)])).put (some 34) (.agg #[.int .i64 f, .int .i64 x1])).put (some 35) (.bool (p == x0))).put (some 11) (.pointer (some ⟨q, 0, none⟩))).put (some 12) (.bool (p == x0))) ∧ Hid (Below wr.heap.size wr w' ∧ wr.heap.size ≤ q ∧ MA.Rg w' q 0 [.int .i64 f, .int .i64 x1])) ?_ ?_
      · have hS : (fun w' : World => Below wr.heap.size wr w') (World.drew _) := ((Below.refl _ wr).drew)
        refine wp_region_held (S := fun w' : World => Below wr.heap.size wr w') (by kernel_rfl) ?_
        change wpAnyH _ _ _ _ _ _ _ _ (World.drew _)
        refine MR.takeH (i := 0) (some 28) (.agg #[.int .i64 f, .int .i64 p]) rfl rfl (by kernel_rfl) (by kernel_rfl) (by kernel_rfl) nofun hS (MR.free rfl) (fun wq hw => by simp [execOp, MR.ev, MR.size, hsz, e7, f7, e0, f0, e10, f10, (hw.cell (p := ⟨w.heap.size + 1, 0, none⟩) l1).trans p0, (hw.cell (p := ⟨w.heap.size + 1, 1, none⟩) l1).trans p1, go_sem]) ?_
        refine MR.takeH (i := 1) (some 29) (.slice (some ⟨b1, off, none⟩) xs.length ca) rfl rfl (by kernel_rfl) (by kernel_rfl) (by kernel_rfl) nofun hS (MR.free rfl) (fun wq hw => by simp [execOp, MR.ev, MR.size, hsz, e7, f7, e0, f0, e10, f10, go_sem]) ?_
        refine MR.takeH (i := 2) (some 30) (.int .i64 (j : Int)) rfl rfl (by kernel_rfl) (by kernel_rfl) (by kernel_rfl) nofun hS (MR.free rfl) (fun wq hw => by simp [execOp, MR.ev, MR.size, hsz, e7, f7, e0, f0, e10, f10, go_sem]) ?_
        refine MR.takeH (i := 3) (some 31) (.pointer (some ⟨b1, off + j * 2, none⟩)) rfl rfl (by kernel_rfl) (by kernel_rfl) (by kernel_rfl) nofun hS (MR.free rfl) (fun wq hw => by simp [execOp, MR.ev, MR.size, hsz, e7, f7, e0, f0, e10, f10, kk0, kkx, hjx, go_sem]) ?_
        refine MR.takeH (i := 4) (some 32) (.agg #[.int .i64 x0, .int .i64 x1]) rfl rfl (by kernel_rfl) (by kernel_rfl) (by kernel_rfl) nofun hS (MR.free rfl) (fun wq hw => by simp [execOp, MR.ev, MR.size, hsz, e7, f7, e0, f0, e10, f10, (hw.cell (p := ⟨b1, off + j * 2, none⟩) hlt).trans c0, (hw.cell (p := ⟨b1, off + j * 2 + 1, none⟩) hlt).trans c1, go_sem]) ?_
        generalize hwd : World.drew wr = v0 at hS ⊢
        clear hwd
        refine MR.two (i := 5) (j := 9) (by kernel_rfl) ?_ ?_
        · skip
          refine MR.callW (some 33) (59) (#[.agg #[.int .i64 f, .int .i64 p], .agg #[.int .i64 x0, .int .i64 x1]]) rfl rfl (MR.free rfl) (by simp [execOp, MR.ev, MR.size, hsz, e7, f7, e0, f0, e10, f10, go_sem]) ?_
          refine Calls.mono (TH.out _) ?_
          rintro e v1 ⟨rfl, hb⟩
          have hSv1 : Below wr.heap.size wr v1 := hS.trans (hb.mono hS.size)
          clear hb
          refine ⟨_, rfl, hSv1, ?_⟩
          refine MR.takeH (i := 6) (some 27) (.tuple #[.agg #[.int .i64 f, .int .i64 x1], .bool (p == x0)]) rfl rfl (by kernel_rfl) (by kernel_rfl) (by kernel_rfl) nofun hSv1 (MR.free rfl) (fun wq hw => by simp [execOp, MR.ev, MR.size, hsz, e7, f7, e0, f0, e10, f10, go_sem]) ?_
          refine MR.takeH (i := 7) (some 34) (.agg #[.int .i64 f, .int .i64 x1]) rfl rfl (by kernel_rfl) (by kernel_rfl) (by kernel_rfl) nofun hSv1 (MR.free rfl) (fun wq hw => by simp [execOp, MR.ev, MR.size, hsz, e7, f7, e0, f0, e10, f10, go_sem]) ?_
          refine MR.takeH (i := 8) (some 35) (.bool (p == x0)) rfl rfl (by kernel_rfl) (by kernel_rfl) (by kernel_rfl) nofun hSv1 (MR.free rfl) (fun wq hw => by simp [execOp, MR.ev, MR.size, hsz, e7, f7, e0, f0, e10, f10, go_sem]) ?_
          refine MR.nowH (i := 9) (some 11) (.pointer (some ⟨v1.heap.size, 0, none⟩)) (by kernel_rfl) rfl rfl (MR.free rfl) (MR.ex_alloc _ rfl [.int .i64 0, .int .i64 0] 2 Try.infoLK) ?_
          have hb : Below v1.heap.size v1 (v1.alloc (.cells #[.int .i64 0, .int .i64 0] 59)) := (Below.refl _ v1).alloc (Nat.le_refl _) _
          have hSv2 := hSv1.trans (hb.mono hSv1.size)
          have hq : MA.Rg (v1.alloc (.cells #[.int .i64 0, .int .i64 0] 59)) v1.heap.size 0 [.int .i64 0, .int .i64 0] := MA.Rg.new _ _ _
          have hq0 : wr.heap.size ≤ v1.heap.size := hSv1.size
          refine ⟨hSv2, ?_⟩
          clear hb
          generalize v1.alloc (.cells #[.int .i64 0, .int .i64 0] 59) = v2 at *
          generalize hqe : v1.heap.size = q at hq hq0 ⊢
          have hSz : Below wr.heap.size wr (v2.setCells q 0 [.int .i64 f, .int .i64 x1]) := MA.below_cells hq0 _ _ _ hSv2
          refine MR.storeH (i := 10) (by kernel_rfl) rfl (MR.free rfl) (MA.ex_store (vs := [.int .i64 f, .int .i64 x1]) rfl (by simp [MR.ev, MR.size, hsz, e7, f7, e0, f0, e10, f10]) (by simp [MR.ev, MR.size, hsz, e7, f7, e0, f0, e10, f10]) hq.ok Try.sizeLK rfl (by simp [Value.oneCell'])) ⟨hSz, ?_⟩
          refine MR.takeH (i := 11) (some 12) (.bool (p == x0)) rfl rfl (by kernel_rfl) (by kernel_rfl) (by kernel_rfl) nofun hSz (MR.free rfl) (fun wq hw => by simp [execOp, MR.ev, MR.size, hsz, e7, f7, e0, f0, e10, f10, go_sem]) ?_
          refine wpAnyH_done (by kernel_rfl) ⟨rfl, q, ?_, ⟨hSz, hq0, hq.put rfl⟩⟩ _
          rw [HA.out]
          simp only [Act.put, List.setIfInBounds_toArray, List.set_cons_succ, List.set_cons_zero]
          try rfl
        · skip
          refine MR.nowW (some 11) (.pointer (some ⟨v0.heap.size, 0, none⟩)) rfl rfl (MR.free rfl) (MR.ex_alloc _ rfl [.int .i64 0, .int .i64 0] 2 Try.infoLK) ?_
          have hb : Below v0.heap.size v0 (v0.alloc (.cells #[.int .i64 0, .int .i64 0] 59)) := (Below.refl _ v0).alloc (Nat.le_refl _) _
          have hSv1 := hS.trans (hb.mono hS.size)
          have hq : MA.Rg (v0.alloc (.cells #[.int .i64 0, .int .i64 0] 59)) v0.heap.size 0 [.int .i64 0, .int .i64 0] := MA.Rg.new _ _ _
          have hq0 : wr.heap.size ≤ v0.heap.size := hS.size
          refine ⟨hSv1, ?_⟩
          clear hb
          generalize v0.alloc (.cells #[.int .i64 0, .int .i64 0] 59) = v1 at *
          generalize hqe : v0.heap.size = q at hq hq0 ⊢
          refine MR.callH (i := 5) (some 33) (59) (#[.agg #[.int .i64 f, .int .i64 p], .agg #[.int .i64 x0, .int .i64 x1]]) (by kernel_rfl) rfl rfl (MR.free rfl) (by simp [execOp, MR.ev, MR.size, hsz, e7, f7, e0, f0, e10, f10, go_sem]) ?_
          refine Calls.mono (TH.out _) ?_
          rintro e v2 ⟨rfl, hb⟩
          have hSv2 : Below wr.heap.size wr v2 := hSv1.trans (hb.mono hSv1.size)
          replace hq := hq.below hb hq.lt
          clear hb
          refine ⟨_, rfl, hSv2, ?_⟩
          refine MR.takeH (i := 6) (some 27) (.tuple #[.agg #[.int .i64 f, .int .i64 x1], .bool (p == x0)]) rfl rfl (by kernel_rfl) (by kernel_rfl) (by kernel_rfl) nofun hSv2 (MR.free rfl) (fun wq hw => by simp [execOp, MR.ev, MR.size, hsz, e7, f7, e0, f0, e10, f10, go_sem]) ?_
          refine MR.takeH (i := 7) (some 34) (.agg #[.int .i64 f, .int .i64 x1]) rfl rfl (by kernel_rfl) (by kernel_rfl) (by kernel_rfl) nofun hSv2 (MR.free rfl) (fun wq hw => by simp [execOp, MR.ev, MR.size, hsz, e7, f7, e0, f0, e10, f10, go_sem]) ?_
          refine MR.takeH (i := 8) (some 35) (.bool (p == x0)) rfl rfl (by kernel_rfl) (by kernel_rfl) (by kernel_rfl) nofun hSv2 (MR.free rfl) (fun wq hw => by simp [execOp, MR.ev, MR.size, hsz, e7, f7, e0, f0, e10, f10, go_sem]) ?_
          have hSz : Below wr.heap.size wr (v2.setCells q 0 [.int .i64 f, .int .i64 x1]) := MA.below_cells hq0 _ _ _ hSv2
          refine MR.storeH (i := 10) (by kernel_rfl) rfl (MR.free rfl) (MA.ex_store (vs := [.int .i64 f, .int .i64 x1]) rfl (by simp [MR.ev, MR.size, hsz, e7, f7, e0, f0, e10, f10]) (by simp [MR.ev, MR.size, hsz, e7, f7, e0, f0, e10, f10]) hq.ok Try.sizeLK rfl (by simp [Value.oneCell'])) ⟨hSz, ?_⟩
          refine MR.takeH (i := 11) (some 12) (.bool (p == x0)) rfl rfl (by kernel_rfl) (by kernel_rfl) (by kernel_rfl) nofun hSz (MR.free rfl) (fun wq hw => by simp [execOp, MR.ev, MR.size, hsz, e7, f7, e0, f0, e10, f10, go_sem]) ?_
          refine wpAnyH_done (by kernel_rfl) ⟨rfl, q, ?_, ⟨hSz, hq0, hq.put rfl⟩⟩ _
          rw [HA.out]
          simp only [Act.put, List.setIfInBounds_toArray, List.set_cons_succ, List.set_cons_zero]
          try rfl
      rintro aa w4 ⟨q, rfl, hf⟩
      rw [HA.out]
      clear HA hsz e7 f7 e0 f0 e10 f10
      simp only [Act.put, List.setIfInBounds_toArray, List.set_cons_succ, List.set_cons_zero]
      obtain ⟨hb4, hq0, hq4⟩ := hf.out
      have hB4 := HB.out.below hb4
      have HVQ : Hid (Value.ownBlock (.slice a3 s.length c3) ≠ some q) := fun e => by have := (HB.out.own.lt _ e).2; omega
      have HW4 : Hid (LK.Wb w w4 f t p (.slice a3 s.length c3) s) := hB4
      have CO : Hid _ := containsI_any a3 c3 s x1 w4 (by omega) (M5.own_ints hB4.own)
      have qc0 : w4.cell? ⟨q, 0, none⟩ = some (.int .i64 f) := by have := hq4.cell (j := 0) rfl; rwa [Nat.zero_add] at this
      have qc1 : w4.cell? ⟨q, 1, none⟩ = some (.int .i64 x1) := by have := hq4.cell (j := 1) rfl; rwa [Nat.zero_add] at this
      have HQ4 : Hid (MA.Rg w4 q 0 [.int .i64 f, .int .i64 x1]) := hq4
      have HQN : Hid (q ≠ w.heap.size + 1) := by show q ≠ _; omega
      clear hf hb4 hq0 hq4 hB4 HB TH p0 p1 l1 c0 c1 d0
      by_cases hpx : x0 = p
      · subst hpx
        have ebx : (x0 == x0) = true := by simp
        rw [ebx]
        have ES : Hid (EG.hasB s x1 = true ↔ x1 ∈ s) := by show _ ↔ _; simp [EG.hasB]
        generalize EG.hasB s x1 = m at *
        go_wp2_with fail
        refine Calls.mono CO.out ?_
        rintro e w5 ⟨rfl, rfl⟩
        clear CO
        cases m with
        | true =>
          have hF := NK.out (.inr (ES.out.1 rfl))
          have HE := HW4.out.be
          clear HW4 HVQ WY NK ES HQ4
          subst hF
          go_wp2
          go_ret
          exact ⟨rfl, HE⟩
        | false =>
          have HWY : Hid _ := WY.out (by trivial) (fun h => by have := ES.out.2 h; cases this)
          clear WY NK ES
          go_wp2_with fail
          refine MR.frame fun A hA => ?_
          have hsz : A.tmps.size = 54 := by rw [hA]; rfl
          have e7 : A.eval (.tmp 7) = .pointer (some ⟨w.heap.size + 1, 0, none⟩) := by rw [hA]; rfl
          have f7 := MR.read (t := 7) (by rw [hsz]; decide) e7
          have e8 : A.eval (.tmp 8) = .slice a3 s.length c3 := by rw [hA]; rfl
          have f8 := MR.read (t := 8) (by rw [hsz]; decide) e8
          have e11 : A.eval (.tmp 11) = .pointer (some ⟨q, 0, none⟩) := by rw [hA]; rfl
          have f11 := MR.read (t := 11) (by rw [hsz]; decide) e11
          have HA : Hid (A = _) := hA
          clear hA
          refine MR.cut (fun aa w' => ∃ (v0 : World) (v' : Value), aa = (((((((A.put (some 44) (.agg #[.int .i64 f, .int .i64 x1])).put (some 45) (.slice a3 s.length c3)).put (some 46) (.pointer (some ⟨q, 1, none⟩))).put (some 47) (.int .i64 x1)).put (some 48) (.slice (some ⟨v0.heap.size, 0, none⟩) 1 1)).put (some 49) (v')).put (some 8) (v')) ∧ Hid (LK.Wb w w' f t x1 v' (s ++ [x1]))) ?_ ?_
          · have hS : (fun w' : World => w'.cell? ⟨q, 0, none⟩ = some (.int .i64 f) ∧ w'.cell? ⟨q, 1, none⟩ = some (.int .i64 x1)) (World.drew w4) := ⟨qc0, qc1⟩
            refine wp_region_held (S := fun w' : World => w'.cell? ⟨q, 0, none⟩ = some (.int .i64 f) ∧ w'.cell? ⟨q, 1, none⟩ = some (.int .i64 x1)) (by kernel_rfl) ?_
            change wpAnyH _ _ _ _ _ _ _ _ (World.drew _)
            refine MR.takeH (i := 0) (some 44) (.agg #[.int .i64 f, .int .i64 x1]) rfl rfl (by kernel_rfl) (by kernel_rfl) (by kernel_rfl) nofun hS (MR.free rfl) (fun wq hw => by simp [execOp, MR.ev, MR.size, hsz, e7, f7, e8, f8, e11, f11, hw.1, hw.2, go_sem]) ?_
            refine MR.takeH (i := 1) (some 45) (.slice a3 s.length c3) rfl rfl (by kernel_rfl) (by kernel_rfl) (by kernel_rfl) nofun hS (MR.free rfl) (fun wq hw => by simp [execOp, MR.ev, MR.size, hsz, e7, f7, e8, f8, e11, f11, go_sem]) ?_
            refine MR.takeH (i := 2) (some 46) (.pointer (some ⟨q, 1, none⟩)) rfl rfl (by kernel_rfl) (by kernel_rfl) (by kernel_rfl) nofun hS (MR.free rfl) (fun wq hw => by simp [execOp, MR.ev, MR.size, hsz, e7, f7, e8, f8, e11, f11, go_sem]) ?_
            refine MR.takeH (i := 3) (some 47) (.int .i64 x1) rfl rfl (by kernel_rfl) (by kernel_rfl) (by kernel_rfl) nofun hS (MR.free rfl) (fun wq hw => by simp [execOp, MR.ev, MR.size, hsz, e7, f7, e8, f8, e11, f11, hw.2, go_sem]) ?_
            have HW4d : LK.Wb w (World.drew w4) f t x0 (.slice a3 s.length c3) s := HW4.out.below (Below.refl _ w4).drew
            have hq4d : MA.Rg (World.drew w4) q 0 [.int .i64 f, .int .i64 x1] := HQ4.out.drew
            generalize World.drew w4 = v0 at hS HW4d hq4d ⊢
            have hqa := hq4d.alloc (.cells #[.int .i64 x1] 3)
            refine MR.nowH (w' := v0.alloc (.cells #[.int .i64 x1] 3)) (i := 4) (some 48) (.slice (some ⟨v0.heap.size, 0, none⟩) 1 1) (by kernel_rfl) rfl rfl (MR.free rfl) (by simp [execOp, MR.ev, MR.size, hsz, e7, f7, e8, f8, e11, f11, go_sem]) ⟨⟨hqa.cell (j := 0) rfl, hqa.cell (j := 1) rfl⟩, ?_⟩
            obtain ⟨v', w6, hrun, ho6, hg6, _⟩ := run_append_own (P := Try.prog) (v0.alloc (.cells #[.int .i64 x1] 3)) (w.heap.size + 1 + 1) 29 29 3 i0 (.int .i64 0) 1 8 Try.underlying29 hi hz0 hz1 hz2 rfl (by decide) (.slice a3 s.length c3) s.length (M4.iv s) (HW4d.own.alloc _) ⟨v0.heap.size, 0, none⟩ 1 1 [.int .i64 x1] rfl (M2.new1 _ _ _) (M2.one1 _ _) (by unfold maxLen; omega) (by omega) (by have := HW4d.sz; simp; omega)
            have hq6 : MA.Rg w6 q 0 [.int .i64 f, .int .i64 x1] := RA.rg_grown hqa hg6 (fun e => HVQ.out e.symm)
            have hW6 := HW4d.app ho6 hg6
            have hw6 := RA.rg_grown (HW4d.wh.alloc (.cells #[.int .i64 x1] 3)) hg6 (fun e => by have := (HW4d.own.lt _ e.symm).1; omega)
            refine MR.nowH (w' := w6) (i := 5) (some 49) v' (by kernel_rfl) rfl rfl (MR.free rfl) (RA.app_run rfl (by simp [MR.ev, MR.size, hsz, e7, f7, e8, f8, e11, f11]) (by simp [MR.ev, MR.size, hsz, e7, f7, e8, f8, e11, f11]) hrun) ⟨⟨hq6.cell (j := 0) rfl, hq6.cell (j := 1) rfl⟩, ?_⟩
            have hq7 : MA.Rg (w6.setCells (w.heap.size + 1) 0 [.int .i64 f, .int .i64 x1]) q 0 [.int .i64 f, .int .i64 x1] := RA.rg_only hq6 (RA.only_cells _ _ _ _) HQN.out
            refine MR.storeH (i := 6) (by kernel_rfl) rfl (MR.free rfl) (MA.ex_store (vs := [.int .i64 f, .int .i64 x1]) rfl (by simp [MR.ev, MR.size, hsz, e7, f7, e8, f8, e11, f11]) (by simp [MR.ev, MR.size, hsz, e7, f7, e8, f8, e11, f11]) hw6.ok Try.sizeLK rfl (by simp [Value.oneCell'])) ⟨⟨hq7.cell (j := 0) rfl, hq7.cell (j := 1) rfl⟩, ?_⟩
            refine MR.takeH (i := 7) (some 8) (v') rfl rfl (by kernel_rfl) (by kernel_rfl) (by kernel_rfl) nofun ⟨hq7.cell (j := 0) rfl, hq7.cell (j := 1) rfl⟩ (MR.free rfl) (fun wq hw => by simp [execOp, MR.ev, MR.size, hsz, e7, f7, e8, f8, e11, f11, go_sem]) ?_
            refine wpAnyH_done (by kernel_rfl) ⟨rfl, v0, v', ?_, hW6⟩ _
            rw [HA.out]
            simp only [Act.put, List.setIfInBounds_toArray, List.set_cons_succ, List.set_cons_zero]
            try rfl
          rintro aa w7 ⟨v0, v', rfl, hf⟩
          rw [HA.out]
          clear HA hsz e7 f7 e8 f8 e11 f11
          simp only [Act.put, List.setIfInBounds_toArray, List.set_cons_succ, List.set_cons_zero]
          have HWB := hf.out
          clear hf HW4 HQ4
          generalize s ++ [x1] = s' at *
          go_wp2
          go_roundw
          case rel => exact ⟨k + 1, x1, s', by go_num, by omega, HWY, HWB⟩
          case measure => simp [intOf]; omega
      · have ebx : (p == x0) = false := by simp; exact fun e => hpx e.symm
        rw [ebx]
        have hF := NK.out (.inl hpx)
        have HE := HW4.out.be
        clear HW4 HVQ WY NK HQ4 CO
        subst hF
        go_wp2
        go_ret
        exact ⟨rfl, HE⟩
    · obtain rfl : k = way.length := by omega
      have hF := EN.out p s HW.out
      have p0 := hB.wh.cell (j := 0) rfl
      have p1 := hB.wh.cell (j := 1) rfl
      have r0 := hB.en.cell (j := 0) rfl
      have r1 := hB.en.cell (j := 1) rfl
      rw [Nat.zero_add] at p0 p1 r0 r1
      have HE := hB.be
      clear NO EN HW hB HB HI HS HP
      subst hF
      go_wp2
      all_goals go_ret
      all_goals exact ⟨retB7 (by simp_all), HE⟩
namespace LK
def iwOk (xs : List I2) (f t : Int) (way : List Int) : Bool := FL.ask (pip xs) f t && PN.inP xs.length way
def iwB (xs : List I2) (f t : Int) (way : List Int) : Bool := iwOk xs f t way && isW xs f t way
structure IwC (xs : List I2) (way : List Int) (ask inp ok b w : Bool) : Prop where
  no : ask = false → ok = false ∧ b = false
  no2 : inp = false → ok = false ∧ b = false
  yes : ask = true → inp = true → ok = true ∧ b = w ∧ PN.inUp xs.length way way.length
theorem iwC (xs : List I2) (f t : Int) (way : List Int) : IwC xs way (FL.ask (pip xs) f t) (PN.inP xs.length way) (iwOk xs f t way) (iwB xs f t way) (isW xs f t way) := by
  refine ⟨fun h => ?_, fun h => ?_, fun h h2 => ?_⟩
  · simp [iwB, iwOk, h]
  · simp [iwB, iwOk, h]
  · exact ⟨by simp [iwOk, h, h2], by simp [iwB, iwOk, h, h2], (PN.inP_iff _ _).1 h2⟩
end LK
set_option linter.unusedSimpArgs false in
set_option maxHeartbeats 1600000 in
set_option maxRecDepth 100000 in
theorem implIsWay_any (a b : Option Addr) (ca cb : Nat) (xs : List I2) (f t : Int) (way : List Int) (w : World) (hn : xs.length ≤ 1048576) (hz : way.length ≤ 1048576) (hin : MI2.RowAt w a xs) (hos : M4.IntsAt w b way) :
    Calls Try.prog 13 #[.slice a xs.length ca, .int .i64 f, .int .i64 t, .slice b way.length cb] w fun e w' => e = .returned (.tuple #[.bool (LK.iwB xs f t way), .bool (LK.iwOk xs f t way)]) ∧ Below w.heap.size w w' := by
  have IC : Hid _ := LK.iwC xs f t way
  have PO : Hid _ := pipesOfOne_any a ca xs w hn hin
  have CF : Hid (∀ (g : Nat) (W : World), MI3.RowAt W (some ⟨g, 0, none⟩) (LK.pip xs) → Calls Try.prog 35 #[.slice (some ⟨g, 0, none⟩) xs.length xs.length, .int .i64 f, .int .i64 t] W fun e w' => e = .returned (.bool (FL.ask (LK.pip xs) f t)) ∧ Below W.heap.size W w') := fun g W h => by
    have := canFlow_any (some ⟨g, 0, none⟩) xs.length (LK.pip xs) f t W (by rw [LK.pip_len]; exact hn) h _ rfl
    rwa [LK.pip_len] at this
  have NU : Hid (∀ W : World, M4.IntsAt W b way → Calls Try.prog 36 #[.slice b way.length cb, .int .i64 (xs.length : Int)] W fun e w' => e = .returned (.bool (PN.inP xs.length way)) ∧ W = w') := fun W h => areNumbersOf_any b cb xs.length way W hn hz h _ rfl
  have IW : Hid (PN.inUp xs.length way way.length → ∀ W : World, MI2.RowAt W a xs → M4.IntsAt W b way → Calls Try.prog 37 #[.slice a xs.length ca, .agg #[.int .i64 f, .int .i64 t], .slice b way.length cb] W fun e w' => e = .returned (.bool (LK.isW xs f t way)) ∧ Below W.heap.size W w') := fun h W h1 h2 => isWay_any a b ca cb xs f t way W hn hz h1 h2 h
  have HI : Hid (MI2.RowAt w a xs) := hin
  have HS : Hid (M4.IntsAt w b way) := hos
  generalize LK.iwB xs f t way = B at *
  generalize LK.iwOk xs f t way = ok at *
  generalize LK.isW xs f t way = m at *
  generalize FL.ask (LK.pip xs) f t = p at *
  generalize PN.inP xs.length way = q at *
  clear hin hos
  go_enter Try.func13, Try.ntmps13
  go_wp2_with fail
  refine Calls.mono PO.out ?_
  rintro e w0 ⟨g, rfl, ho, hb0⟩
  have CF2 : Hid _ := CF.out g w0 (MI3.RowAt.of_own ho)
  clear PO CF ho
  go_wp2_with fail
  refine Calls.mono CF2.out ?_
  rintro e w1 ⟨rfl, hb1⟩
  have hB1 := hb0.trans (hb1.mono hb0.size)
  clear CF2 hb0 hb1
  cases p with
  | false =>
    obtain ⟨rfl, rfl⟩ := IC.out.no rfl
    clear IC NU IW HI HS
    go_wp2
    go_ret2
    exact ⟨rfl, hB1⟩
  | true =>
    have NU2 : Hid _ := NU.out w1 (M4.IntsAt.below HS.out hB1)
    clear NU
    go_wp2_with fail
    refine Calls.mono NU2.out ?_
    rintro e w2 ⟨rfl, rfl⟩
    clear NU2
    cases q with
    | false =>
      obtain ⟨rfl, rfl⟩ := IC.out.no2 rfl
      clear IC IW HI HS
      go_wp2
      go_ret2
      exact ⟨rfl, hB1⟩
    | true =>
      obtain ⟨rfl, rfl, h⟩ := IC.out.yes rfl rfl
      have IW2 : Hid _ := IW.out h w1 (HI.out.below hB1) (M4.IntsAt.below HS.out hB1)
      clear IC IW HI HS h
      go_wp2_with fail
      refine Calls.mono IW2.out ?_
      rintro e w2 ⟨rfl, hb2⟩
      clear IW2
      go_wp2
      go_ret2
      exact ⟨rfl, hB1.trans (hb2.mono hB1.size)⟩
end Go.Proofs.Ytpabhjnpbnabiaa
