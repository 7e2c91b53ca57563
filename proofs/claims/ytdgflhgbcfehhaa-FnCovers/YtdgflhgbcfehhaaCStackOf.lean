import Derived.Test.YtdgflhgbcfehhaaRows
import Derived.Test.YtdgflhgbcfehhaaCBeneath
import Derived.WalkKit
import Derived.WalkSpells
import Derived.WalkLawsBesides
import Derived.Outline
import Derived.Deep.RegionHeldLaw
import Derived.Test.YtdgflhgbcfehhaaMRH
import Derived.Deep.RegionHeld3
import Derived.Lib.LazyBuf
import Derived.Test.YtdgflhgbcfehhaaCPiece
import Derived.Test.YtdgflhgbcfehhaaMA2
import Derived.Test.YtdgflhgbcfehhaaCBundleInfo
/- with: a piece laid on a sheet, and whether they agree. -/
namespace Go.Proofs.Ytdgflhgbcfehhaa
open Go.RowKit
/-- The marks with the first i of a piece's. -/
def mkF (f : Nat → Bool) (o i p : Nat) : Bool := f p || (decide (o ≤ p) && decide (p < o + i))
def cpF (g : Nat → Nat) (py : ByteArray) (o p : Nat) : Nat := if o ≤ p ∧ p < o + py.size then M3.gb py (p - o) else g p
/-- What the memory of the call holds. -/
structure WithIn (w W : World) (s : PL.Sh) (o : Nat) (py : ByteArray) (f : Nat → Bool) (g : Nat → Nat) : Prop where
  below : Below w.heap.size w W
  old : MA.Rg W w.heap.size 0 (MA.sF s)
  res : ∃ cs, cs.length = 120 ∧ MA.Rg W (w.heap.size + 1 + 1) 0 cs
  th : MA.Rg W (w.heap.size + 1 + 1 + 1) 0 (MA.tF f)
  by_ : MA.Rg W (w.heap.size + 1 + 1 + 1) 60 (MA.yF g)
  off : W.cell? ⟨w.heap.size + 1, 7, none⟩ = some (.int .i64 (o : Int))
  pay : W.cell? ⟨w.heap.size + 1, 9, none⟩ = some (.string py)
theorem WithIn.drew {w W : World} {s : PL.Sh} {o : Nat} {py : ByteArray} {f : Nat → Bool} {g : Nat → Nat} (h : WithIn w W s o py f g) : WithIn w W.drew s o py f g :=
  ⟨h.below.drew, h.old.drew, (let ⟨c, hc, hr⟩ := h.res; ⟨c, hc, hr.drew⟩), h.th.drew, h.by_.drew, h.off, h.pay⟩
theorem WithIn.cells {w W : World} {s : PL.Sh} {o : Nat} {py : ByteArray} {f : Nat → Bool} {g : Nat → Nat} (h : WithIn w W s o py f g) : W.cell? ⟨w.heap.size + 1, 7, none⟩ = some (.int .i64 (o : Int)) ∧ W.cell? ⟨w.heap.size + 1, 9, none⟩ = some (.string py) ∧ WithIn w W s o py f g := ⟨h.off, h.pay, h⟩
/-- The piece's bytes, copied. -/
theorem WithIn.copied {w W : World} {s : PL.Sh} {o : Nat} {py : ByteArray} {f : Nat → Bool} {g : Nat → Nat} (h : WithIn w W s o py f g) (hs : o + py.size ≤ 60) : WithIn w (W.setCells (w.heap.size + 1 + 1 + 1) (60 + o) (py.data.toList.map fun x => Value.int .u8 (x.toNat : Int))) s o py f (cpF g py o) := by
  have hl : (py.data.toList.map fun x => Value.int .u8 (x.toNat : Int)).length = py.size := by simp
  have m := h.by_.mid (p := o) (vs := py.data.toList.map fun x => Value.int .u8 (x.toNat : Int)) (by rw [hl, MA.yF_len]; omega)
  rw [hl, MA.yF_copy g py o hs] at m
  refine ⟨MA.below_cells (by omega) _ _ _ h.below, h.old.other (.inl (by omega)), (let ⟨c, hc, hr⟩ := h.res; ⟨c, hc, hr.other (.inl (by omega))⟩), h.th.other (.inr (.inl (by rw [MA.tF_len]; omega))), m, ?_, ?_⟩
  · rw [World.cell?_setCells_out _ _ _ _ _ (fun h => by have h' : w.heap.size + 1 = w.heap.size + 1 + 1 + 1 := h; omega)]; exact h.off
  · rw [World.cell?_setCells_out _ _ _ _ _ (fun h => by have h' : w.heap.size + 1 = w.heap.size + 1 + 1 + 1 := h; omega)]; exact h.pay
theorem WithIn.room {w W : World} {s : PL.Sh} {o : Nat} {py : ByteArray} {f : Nat → Bool} {g : Nat → Nat} (h : WithIn w W s o py f g) (hs : o + py.size ≤ 60) : (∀ j, j < py.size → (W.cell? ⟨w.heap.size + 1 + 1 + 1, 60 + o + j, none⟩).isSome = true) ∧ (∀ j, j < py.size → W.frozen? ⟨w.heap.size + 1 + 1 + 1, 60 + o + j, none⟩ = false) :=
  ⟨fun j hj => by rw [Nat.add_assoc 60 o j]; exact (h.by_.ok (o + j) (by rw [MA.yF_len]; omega)).1, fun j hj => by rw [Nat.add_assoc 60 o j]; exact (h.by_.ok (o + j) (by rw [MA.yF_len]; omega)).2⟩
/-- One mark more. -/
theorem WithIn.marked {w W : World} {s : PL.Sh} {o i : Nat} {py : ByteArray} {f : Nat → Bool} {g : Nat → Nat} (h : WithIn w W s o py (mkF f o i) g) (hi : o + i < 60) : WithIn w (W.setCell ⟨w.heap.size + 1 + 1 + 1, o + i, none⟩ (.bool true)) s o py (mkF f o (i + 1)) g := by
  have q := h.th.put1 (j := o + i) (by rw [MA.tF_len]; omega) (.bool true)
  rw [MA.tF_set, MA.tF_ext (f' := mkF f o (i + 1)) (fun p _ => by
    unfold mkF
    by_cases e : p = o + i
    · subst e; simp
    · have : (p < o + (i + 1)) ↔ (p < o + i) := by omega
      simp [e, this]), Nat.zero_add] at q
  refine ⟨h.below.setCell (p := ⟨w.heap.size + 1 + 1 + 1, o + i, none⟩) (by simp; omega) _, h.old.other (k' := w.heap.size + 1 + 1 + 1) (o' := o + i) (vs := [.bool true]) (.inl (by omega)), (let ⟨c, hc, hr⟩ := h.res; ⟨c, hc, hr.other (k' := w.heap.size + 1 + 1 + 1) (o' := o + i) (vs := [.bool true]) (.inl (by omega))⟩), q, h.by_.other (k' := w.heap.size + 1 + 1 + 1) (o' := o + i) (vs := [.bool true]) (.inr (.inr (by simp; omega))), ?_, ?_⟩
  · exact (World.cell?_setCells_out _ [.bool true] (o + i) W _ (fun h => by have h' : w.heap.size + 1 = w.heap.size + 1 + 1 + 1 := h; omega)).trans h.off
  · exact (World.cell?_setCells_out _ [.bool true] (o + i) W _ (fun h => by have h' : w.heap.size + 1 = w.heap.size + 1 + 1 + 1 := h; omega)).trans h.pay
theorem WithIn.kept {w W W' : World} {s : PL.Sh} {o : Nat} {py : ByteArray} {f : Nat → Bool} {g : Nat → Nat} (h : WithIn w W s o py f g) (hb : Below W.heap.size W W') : WithIn w W' s o py f g := by
  have h1 := h.old.lt
  have h2 : w.heap.size + 1 + 1 < W.heap.size := (let ⟨_, _, hr⟩ := h.res; hr.lt)
  have h3 := h.th.lt
  exact ⟨h.below.trans (hb.mono h.below.size), h.old.below hb h1, (let ⟨c, hc, hr⟩ := h.res; ⟨c, hc, hr.below hb h2⟩), h.th.below hb h3, h.by_.below hb h3, (hb.cell (p := ⟨w.heap.size + 1, 7, none⟩) (by simp; omega)).trans h.off, (hb.cell (p := ⟨w.heap.size + 1, 9, none⟩) (by simp; omega)).trans h.pay⟩
theorem WithIn.both {w W : World} {s : PL.Sh} {o : Nat} {py : ByteArray} {f : Nat → Bool} {g : Nat → Nat} (h : WithIn w W s o py f g) : W.rangeAt (w.heap.size + 1 + 1 + 1) 0 (MA.sF ⟨f, g⟩) := (MA.Rg.sheet' (s := ⟨f, g⟩) h.th h.by_).rng
theorem WithIn.room2 {w W : World} {s : PL.Sh} {o : Nat} {py : ByteArray} {f : Nat → Bool} {g : Nat → Nat} (h : WithIn w W s o py f g) : W.there (w.heap.size + 1 + 1) 0 120 := by
  obtain ⟨c, hc, hr⟩ := h.res
  have := hr.ok
  rwa [hc] at this
/-- The result, stored. -/
theorem WithIn.stored {w W : World} {s : PL.Sh} {o : Nat} {py : ByteArray} {f : Nat → Bool} {g : Nat → Nat} (h : WithIn w W s o py f g) (t : PL.Sh) : WithIn w (W.setCells (w.heap.size + 1 + 1) 0 (MA.sF t)) s o py f g ∧ MA.Rg (W.setCells (w.heap.size + 1 + 1) 0 (MA.sF t)) (w.heap.size + 1 + 1) 0 (MA.sF t) := by
  obtain ⟨c, hc, hr⟩ := h.res
  have r := hr.put (vs := MA.sF t) (by rw [MA.sF_len, hc])
  refine ⟨⟨MA.below_cells (by omega) _ _ _ h.below, h.old.other (.inl (by omega)), ⟨_, MA.sF_len _, r⟩, h.th.other (.inl (by omega)), h.by_.other (.inl (by omega)), ?_, ?_⟩, r⟩
  · rw [World.cell?_setCells_out _ _ _ _ _ (fun h => by have h' : w.heap.size + 1 = w.heap.size + 1 + 1 := h; omega)]; exact h.off
  · rw [World.cell?_setCells_out _ _ _ _ _ (fun h => by have h' : w.heap.size + 1 = w.heap.size + 1 + 1 := h; omega)]; exact h.pay
set_option linter.unusedSimpArgs false in
set_option maxHeartbeats 800000 in
set_option maxRecDepth 100000 in
theorem with_raw (s : PL.Sh) (fr to : Int) (gr : Bool) (md no lf hp : Int) (o : Nat) (tl : Int) (py : ByteArray) (w : World) (hs : o + py.size ≤ 60) (h1 : 1 ≤ py.size) (R : Bool) (HR : Hid (PL.upto (fun p => decide (cpF s.by_ py o p = benF ⟨mkF s.th o py.size, cpF s.by_ py o⟩ s 60 p)) 60 = R)) :
    Calls Try.prog 65 #[.agg (MA.sF s).toArray, .agg #[.int .i64 fr, .int .i64 to, .bool gr, .int .i64 md, .int .i64 no, .int .i64 lf, .int .i64 hp, .int .i64 (o : Int), .int .i64 tl, .string py]] w fun e w' => e = .returned (.tuple #[.agg (MA.sF ⟨mkF s.th o py.size, cpF s.by_ py o⟩).toArray, .bool R]) ∧ Below w.heap.size w w' := by
  have R0 : Hid (MA.Rg (((w.alloc (.cells (MA.sF s).toArray 73)).alloc (.cells #[.int .i64 fr, .int .i64 to, .bool gr, .int .i64 md, .int .i64 no, .int .i64 lf, .int .i64 hp, .int .i64 (o : Int), .int .i64 tl, .string py] 62)).alloc (.cells (MA.sF PL.blank).toArray 73)) w.heap.size 0 (MA.sF s)) := ((MA.Rg.new w (MA.sF s) 73).alloc (.cells #[.int .i64 fr, .int .i64 to, .bool gr, .int .i64 md, .int .i64 no, .int .i64 lf, .int .i64 hp, .int .i64 (o : Int), .int .i64 tl, .string py] 62)).alloc (.cells (MA.sF PL.blank).toArray 73)
  have R3 : Hid (MA.Rg ((((w.alloc (.cells (MA.sF s).toArray 73)).alloc (.cells #[.int .i64 fr, .int .i64 to, .bool gr, .int .i64 md, .int .i64 no, .int .i64 lf, .int .i64 hp, .int .i64 (o : Int), .int .i64 tl, .string py] 62)).alloc (.cells (MA.sF PL.blank).toArray 73)).alloc (.cells (MA.sF PL.blank).toArray 73)) (w.heap.size + 1 + 1 + 1) 0 (MA.sF PL.blank)) := MA.Rg.new' (((w.alloc (.cells (MA.sF s).toArray 73)).alloc (.cells #[.int .i64 fr, .int .i64 to, .bool gr, .int .i64 md, .int .i64 no, .int .i64 lf, .int .i64 hp, .int .i64 (o : Int), .int .i64 tl, .string py] 62)).alloc (.cells (MA.sF PL.blank).toArray 73)) (MA.sF PL.blank) 73 (w.heap.size + 1 + 1 + 1) (by simp)
  have HB : Hid (WithIn w (World.setCells ((((w.alloc (.cells (MA.sF s).toArray 73)).alloc (.cells #[.int .i64 fr, .int .i64 to, .bool gr, .int .i64 md, .int .i64 no, .int .i64 lf, .int .i64 hp, .int .i64 (o : Int), .int .i64 tl, .string py] 62)).alloc (.cells (MA.sF PL.blank).toArray 73)).alloc (.cells (MA.sF PL.blank).toArray 73)) (w.heap.size + 1 + 1 + 1) 0 (MA.sF s)) s o py (mkF s.th o 0) s.by_) := by
    have b1 : Below w.heap.size w ((((w.alloc (.cells (MA.sF s).toArray 73)).alloc (.cells #[.int .i64 fr, .int .i64 to, .bool gr, .int .i64 md, .int .i64 no, .int .i64 lf, .int .i64 hp, .int .i64 (o : Int), .int .i64 tl, .string py] 62)).alloc (.cells (MA.sF PL.blank).toArray 73)).alloc (.cells (MA.sF PL.blank).toArray 73)) := ((((Below.refl _ w).alloc (Nat.le_refl _) _).alloc (by simp) _).alloc (by simp; omega) _).alloc (by simp; omega) _
    have r0 := R0.out.alloc (.cells (MA.sF PL.blank).toArray 73)
    have r2 := (MA.Rg.new' ((w.alloc (.cells (MA.sF s).toArray 73)).alloc (.cells #[.int .i64 fr, .int .i64 to, .bool gr, .int .i64 md, .int .i64 no, .int .i64 lf, .int .i64 hp, .int .i64 (o : Int), .int .i64 tl, .string py] 62)) (MA.sF PL.blank) 73 (w.heap.size + 1 + 1) (by simp)).alloc (.cells (MA.sF PL.blank).toArray 73)
    have r3 := R3.out.put (vs := MA.sF s) (by rw [MA.sF_len, MA.sF_len])
    have e : mkF s.th o 0 = s.th := by funext p; simp [mkF]; omega
    have c7 : World.cell? ((((w.alloc (.cells (MA.sF s).toArray 73)).alloc (.cells #[.int .i64 fr, .int .i64 to, .bool gr, .int .i64 md, .int .i64 no, .int .i64 lf, .int .i64 hp, .int .i64 (o : Int), .int .i64 tl, .string py] 62)).alloc (.cells (MA.sF PL.blank).toArray 73)).alloc (.cells (MA.sF PL.blank).toArray 73)) ⟨w.heap.size + 1, 7, none⟩ = some (.int .i64 (o : Int)) := ((((Below.refl _ ((w.alloc (.cells (MA.sF s).toArray 73)).alloc (.cells #[.int .i64 fr, .int .i64 to, .bool gr, .int .i64 md, .int .i64 no, .int .i64 lf, .int .i64 hp, .int .i64 (o : Int), .int .i64 tl, .string py] 62))).alloc (Nat.le_refl _) (.cells (MA.sF PL.blank).toArray 73)).alloc (by simp) (.cells (MA.sF PL.blank).toArray 73)).cell (p := ⟨w.heap.size + 1, 7, none⟩) (by simp)).trans (by simp)
    have c9 : World.cell? ((((w.alloc (.cells (MA.sF s).toArray 73)).alloc (.cells #[.int .i64 fr, .int .i64 to, .bool gr, .int .i64 md, .int .i64 no, .int .i64 lf, .int .i64 hp, .int .i64 (o : Int), .int .i64 tl, .string py] 62)).alloc (.cells (MA.sF PL.blank).toArray 73)).alloc (.cells (MA.sF PL.blank).toArray 73)) ⟨w.heap.size + 1, 9, none⟩ = some (.string py) := ((((Below.refl _ ((w.alloc (.cells (MA.sF s).toArray 73)).alloc (.cells #[.int .i64 fr, .int .i64 to, .bool gr, .int .i64 md, .int .i64 no, .int .i64 lf, .int .i64 hp, .int .i64 (o : Int), .int .i64 tl, .string py] 62))).alloc (Nat.le_refl _) (.cells (MA.sF PL.blank).toArray 73)).alloc (by simp) (.cells (MA.sF PL.blank).toArray 73)).cell (p := ⟨w.heap.size + 1, 9, none⟩) (by simp)).trans (by simp)
    rw [e]
    refine ⟨MA.below_cells (by omega) _ _ _ b1, r0.other (.inl (by omega)), ⟨_, MA.sF_len _, r2.other (.inl (by omega))⟩, r3.sheet.1, r3.sheet.2, ?_, ?_⟩
    · rw [World.cell?_setCells_out _ _ _ _ _ (fun h => by have h' : w.heap.size + 1 = w.heap.size + 1 + 1 + 1 := h; omega)]; exact c7
    · rw [World.cell?_setCells_out _ _ _ _ _ (fun h => by have h' : w.heap.size + 1 = w.heap.size + 1 + 1 + 1 := h; omega)]; exact c9
  go_enter Try.func65, Try.ntmps65
  go_wp2_with (first
    | (refine MA.alloc_z rfl 73 rfl _ _ Try.infoSheet ?_; simp only [MA.sz_alloc])
    | (refine MA.load_m rfl 73 _ rfl rfl (cs := MA.sF s) ?_ Try.underlying73 rfl Try.sizeSheet (MA.sF_len _) ?_; exact R0.out)
    | (refine MA.store_m rfl 73 _ _ rfl rfl rfl (cs := MA.sF PL.blank) ?_ Try.sizeSheet (MA.sF_len _) (MA.sF_len _) (MA.sF_one _) ?_; exact R3.out; clear R0 R3; generalize World.setCells _ _ _ _ = W at *))
  have hI := HB.out.drew
  have c7 := HB.out.off
  have c9 := HB.out.pay
  have ho0 : (0 : Int) ≤ (o : Int) := by omega
  have ho1 : (o : Int) < 60 := by omega
  have hsl : ∀ W, (Instr.sliceAt 71 (.pointer (some ⟨w.heap.size + 1 + 1 + 1, 60, none⟩)) (some (.int .i64 (o : Int))) none none).run Try.prog W = .ok (.slice (some ⟨w.heap.size + 1 + 1 + 1, 60 + o, none⟩) (60 - o) (60 - o)) W := fun W => MA.run_sliceArr Try.underlying71 (by go_simp) (by omega)
  have hcp : (Builtin.copy_ #[22, 9] 3 #[.slice (some ⟨w.heap.size + 1 + 1 + 1, 60 + o, none⟩) (60 - o) (60 - o), .string py]).run Try.prog W.drew = .ok (goInt py.size) (W.drew.setCells (w.heap.size + 1 + 1 + 1) (60 + o) (py.data.toList.map fun x => Value.int .u8 (x.toNat : Int))) := Go.run_copy_string W.drew 22 9 3 5 (w.heap.size + 1 + 1 + 1) (60 + o) (60 - o) (60 - o) py Try.underlying22 (by go_simp) (by omega) (hI.room hs).1 (hI.room hs).2
  have HI : Hid _ := hI.copied hs
  clear HB hI
  generalize World.setCells _ _ _ _ = W1 at *
  go_wp2
  go_region_held_law (fun w' => w'.cell? ⟨w.heap.size + 1, 7, none⟩ = some (.int .i64 (o : Int)) ∧ w'.cell? ⟨w.heap.size + 1, 9, none⟩ = some (.string py)) (first | go_keep | exact ⟨HI.out.off, HI.out.pay⟩) (fail)
  have hI := HI.out
  clear HI hcp hsl c7 c9
  have c9 := hI.pay
  go_wp2
  clear c9
  go_loopw [7, 19] (fun _ iv wr => ∃ k : Nat, iv = .int .i64 k ∧ k ≤ py.size ∧ WithIn w wr s o py (mkF s.th o k) (cpF s.by_ py o)) (fun _ iv _ => (py.size - intOf iv).toNat)
  case atStart => exact ⟨0, rfl, by omega, hI⟩
  case round =>
    clear hI
    obtain ⟨k, rfl, hk, hI⟩ := hrel
    by_cases hl : k < py.size
    · have c7 := hI.off
      have c0 : wr.cell? ⟨w.heap.size + 1 + 1 + 1, o + k, none⟩ = some (.bool (mkF s.th o k (o + k))) := by have := hI.th.cell (MA.tF_get _ (p := o + k) (by omega)); rwa [Nat.zero_add] at this
      have f0 : wr.frozen? ⟨w.heap.size + 1 + 1 + 1, o + k, none⟩ = false := by have := hI.th.free (j := o + k) (by rw [MA.tF_len]; omega); rwa [Nat.zero_add] at this
      have hk0 : (0 : Int) ≤ (o : Int) + (k : Int) := by omega
      have hk1 : (o : Int) + (k : Int) < 60 := by omega
      have HI : Hid _ := hI.marked (i := k) (by omega)
      clear hI
      go_wp2
      go_roundw
      case rel => exact ⟨k + 1, by go_num, by omega, HI.out⟩
      case measure => simp [intOf]; omega
    · obtain rfl : k = py.size := by omega
      have hE : ∀ W, (binOp .eql 71 (.agg (MA.yF (cpF s.by_ py o)).toArray) (.agg (MA.yF (benF ⟨mkF s.th o py.size, cpF s.by_ py o⟩ s 60)).toArray)).run Try.prog W = .ok (.bool R) W := by
        intro W
        have hi5 : ∃ i, Try.prog.info? 5 = some i := by
          have : (Try.prog.info? 5).isSome = true := by kernel_rfl
          exact Option.isSome_iff_exists.1 this
        obtain ⟨i5, hi5⟩ := hi5
        have := MA.eql_arr (P := Try.prog) (w := W) Try.underlying71 hi5 (by kernel_rfl) (by go_simp) (fun p => decide (cpF s.by_ py o p = benF ⟨mkF s.th o py.size, cpF s.by_ py o⟩ s 60 p)) (xs := MA.yF (cpF s.by_ py o)) (ys := MA.yF (benF ⟨mkF s.th o py.size, cpF s.by_ py o⟩ s 60)) (fun p hp => ⟨_, _, MA.yF_get _ hp, MA.yF_get _ hp, by rw [run_equalIn_int W 9998 5 .u8 .u8 _ _ Try.underlying5]; congr 1; rw [Bool.eq_iff_iff]; simp; omega⟩)
        rw [this, HR.out]
      have BN : Hid _ := fun W => beneath_any ⟨mkF s.th o py.size, cpF s.by_ py o⟩ s W
      clear HR
      go_wp2
      refine MR.frame fun A hA => ?_
      have hsz : A.tmps.size = 36 := by rw [hA]; rfl
      have e2 : A.eval (.tmp 2) = .pointer (some ⟨w.heap.size, 0, none⟩) := by rw [hA]; rfl
      have f2 := MR.read (t := 2) (by rw [hsz]; decide) e2
      have e4 : A.eval (.tmp 4) = .pointer (some ⟨w.heap.size + 1 + 1, 0, none⟩) := by rw [hA]; rfl
      have f4 := MR.read (t := 4) (by rw [hsz]; decide) e4
      have e6 : A.eval (.tmp 6) = .pointer (some ⟨w.heap.size + 1 + 1 + 1, 0, none⟩) := by rw [hA]; rfl
      have f6 := MR.read (t := 6) (by rw [hsz]; decide) e6
      have HA : Hid (A = _) := hA
      clear hA
      have hS : (fun w' : World => WithIn w w' s o py (mkF s.th o py.size) (cpF s.by_ py o)) (World.drew _) := hI.drew
      refine wp_region_held (S := fun w' : World => WithIn w w' s o py (mkF s.th o py.size) (cpF s.by_ py o)) (by kernel_rfl) ?_
      change wpAnyH _ _ _ _ _ _ _ _ (World.drew _)
      refine MR.takeH (i := 0) (some 29) (.agg (MA.sF ⟨mkF s.th o py.size, cpF s.by_ py o⟩).toArray) rfl rfl (by kernel_rfl) (by kernel_rfl) (by kernel_rfl) (fun _ _ _ h => h) hS (MR.free rfl) (fun w hw => MA.ex_load rfl (by simp [MR.ev, MR.size, hsz, e2, f2, e4, f4, e6, f6]) (hw.both) Try.underlying73 rfl Try.sizeSheet (MA.sF_len _)) ?_
      refine MR.takeH (i := 1) (some 30) (.pointer (some ⟨w.heap.size + 1 + 1 + 1, 60, none⟩)) rfl rfl (by kernel_rfl) (by kernel_rfl) (by kernel_rfl) (fun _ _ _ h => h) hS (MR.free rfl) (fun w hw => by simp [execOp, MR.ev, MR.size, hsz, e2, f2, e4, f4, e6, f6, go_sem]) ?_
      refine MR.takeH (i := 2) (some 31) (.agg (MA.yF (cpF s.by_ py o)).toArray) rfl rfl (by kernel_rfl) (by kernel_rfl) (by kernel_rfl) (fun _ _ _ h => h) hS (MR.free rfl) (fun w hw => MA.ex_load rfl (by simp [MR.ev, MR.size, hsz, e2, f2, e4, f4, e6, f6]) (hw.by_.rng) Try.underlying71 rfl Try.sizeLetters (MA.yF_len _)) ?_
      refine MR.takeH (i := 3) (some 32) (.agg (MA.sF ⟨mkF s.th o py.size, cpF s.by_ py o⟩).toArray) rfl rfl (by kernel_rfl) (by kernel_rfl) (by kernel_rfl) (fun _ _ _ h => h) hS (MR.free rfl) (fun w hw => MA.ex_load rfl (by simp [MR.ev, MR.size, hsz, e2, f2, e4, f4, e6, f6]) (hw.both) Try.underlying73 rfl Try.sizeSheet (MA.sF_len _)) ?_
      refine MR.takeH (i := 4) (some 33) (.agg (MA.sF s).toArray) rfl rfl (by kernel_rfl) (by kernel_rfl) (by kernel_rfl) (fun _ _ _ h => h) hS (MR.free rfl) (fun w hw => MA.ex_load rfl (by simp [MR.ev, MR.size, hsz, e2, f2, e4, f4, e6, f6]) (hw.old.rng) Try.underlying73 rfl Try.sizeSheet (MA.sF_len _)) ?_
      refine MR.callH (i := 5) (some 34) (71) (#[.agg (MA.sF ⟨mkF s.th o py.size, cpF s.by_ py o⟩).toArray, .agg (MA.sF s).toArray]) (by kernel_rfl) rfl rfl (MR.free rfl) (by simp [execOp, MR.ev, MR.size, hsz, e2, f2, e4, f4, e6, f6, go_sem]) ?_
      refine Calls.mono (BN.out _) ?_
      rintro e w2 ⟨rfl, hb2⟩
      have hS2 := hS.kept hb2
      refine ⟨_, rfl, hS2, ?_⟩
      refine MR.takeH (i := 6) (some 35) (.bool R) rfl rfl (by kernel_rfl) (by kernel_rfl) (by kernel_rfl) (fun _ _ _ h => h) hS2 (MR.free rfl) (fun w hw => by simp [execOp, MR.ev, MR.size, hsz, e2, f2, e4, f4, e6, f6, hE, go_sem]) ?_
      refine MR.storeH (i := 7) (by kernel_rfl) rfl (MR.free rfl) (MA.ex_store rfl (b := w.heap.size + 1 + 1) (o := 0) (vs := MA.sF ⟨mkF s.th o py.size, cpF s.by_ py o⟩) (by simp [MR.ev, MR.size, hsz, e2, f2, e4, f4, e6, f6]) (by simp [MR.ev, MR.size, hsz, e2, f2, e4, f4, e6, f6]) hS2.room2 Try.sizeSheet (MA.sF_len _) (MA.sF_one _)) ⟨(hS2.stored _).1, ?_⟩
      have hS3 := (hS2.stored ⟨mkF s.th o py.size, cpF s.by_ py o⟩).1
      have r3 := (hS2.stored ⟨mkF s.th o py.size, cpF s.by_ py o⟩).2
      refine MR.takeH (i := 8) (some 5) (.bool R) rfl rfl (by kernel_rfl) (by kernel_rfl) (by kernel_rfl) (fun _ _ _ h => h) hS3 (MR.free rfl) (fun w hw => by simp [execOp, MR.ev, MR.size, hsz, e2, f2, e4, f4, e6, f6, go_sem]) ?_
      refine wpAnyH_done (by kernel_rfl) ?_ _
      have hb3 := hS3.below
      rw [HA.out]
      clear hS hS2 hS3 hI HA hb2
      generalize World.setCells _ _ _ _ = W3 at *
      simp only [Act.put, List.setIfInBounds_toArray, List.set_cons_succ, List.set_cons_zero]
      have hld := MA.load_rg (P := Try.prog) r3 Try.underlying73 rfl Try.sizeSheet (MA.sF_len _)
      clear r3 hE BN
      go_wp2
      exact bodyPost_ret (MA.ret_cell2 rfl rfl rfl hld) rfl ⟨rfl, hb3⟩
theorem mkF_lay {s : PL.Sh} {b : Bd} {o : Nat} (ho : b.of = (o : Int)) : mkF s.th o b.py.size = (PL.lay s b).th := by
  funext p
  have : decide (b.of ≤ (p : Int)) = decide (o ≤ p) := by rw [ho]; simp
  have h2 : decide ((p : Int) < b.of + b.py.size) = decide (p < o + b.py.size) := by rw [ho, Bool.eq_iff_iff]; simp; omega
  simp only [mkF, PL.lay, PL.inn, this, h2]
theorem cpF_lay {s : PL.Sh} {b : Bd} {o : Nat} (ho : b.of = (o : Int)) : cpF s.by_ b.py o = (PL.lay s b).by_ := by
  funext p
  simp only [cpF, PL.lay]
  by_cases h : o ≤ p ∧ p < o + b.py.size
  · have h' : PL.inn b p = true := PL.inn_iff.2 (by omega)
    rw [if_pos h, if_pos h', PL.val]
    congr 1; omega
  · have h' : ¬ PL.inn b p = true := fun e => h (by have := PL.inn_iff.1 e; omega)
    rw [if_neg h, if_neg h']
theorem with_any (s : PL.Sh) (b : Bd) (w : World) (hg : PL.pg b = true) :
    Calls Try.prog 65 #[.agg (MA.sF s).toArray, b.v] w fun e w' => e = .returned (.tuple #[.agg (MA.sF (PL.lay s b)).toArray, .bool (PL.fits s b)]) ∧ Below w.heap.size w w' := by
  obtain ⟨h1, h2, h3, h4, h5, h6⟩ := PL.pg_is hg
  obtain ⟨o, ho⟩ := Int.eq_ofNat_of_zero_le h4
  have hf : PL.fits s b = PL.upto (fun p => decide (cpF s.by_ b.py o p = benF ⟨mkF s.th o b.py.size, cpF s.by_ b.py o⟩ s 60 p)) 60 := by
    rw [Bool.eq_iff_iff, PL.fits, PL.upto_iff, PL.upto_iff]
    rw [mkF_lay ho, cpF_lay ho]
    refine forall_congr' fun p => imp_congr_right fun hp => ?_
    simp only [PL.fitAt, benF, Bool.or_eq_true, Bool.not_eq_true', decide_eq_true_eq]
    cases ht : s.th p <;> simp [hp]
  have hL : PL.lay s b = ⟨mkF s.th o b.py.size, cpF s.by_ b.py o⟩ := by rw [mkF_lay ho, cpF_lay ho]
  rw [hL]
  obtain ⟨fr, to, gr, md, no, lf, hp, of, tl, py⟩ := b
  simp only at ho h3 h4 h5 h6
  subst ho
  exact with_raw s fr to gr md no lf hp o tl py w (by omega) (by omega) _ hf.symm
end Go.Proofs.Ytdgflhgbcfehhaa

/- stackUp: parcels laid on one sheet, one by one. -/
namespace Go.Proofs.Ytdgflhgbcfehhaa
open Go.RowKit
/-- A stack's cells. -/
def stF (v : Value) (s : PL.Sh) : List Value := v :: MA.sF s
theorem Try.infoParcel : (Try.prog.info? 62).map (fun i => (i.zero, i.size)) = some (some (.agg (Bd.cs B1.zero).toArray), 10) := by kernel_rfl
theorem Try.sizeParcel : (Try.prog.info? 62).map (·.size) = some 10 := by kernel_rfl
theorem Try.infoStack' : (Try.prog.info? 75).map (fun i => (i.zero, i.size)) = some (some (.agg (stF (.slice none 0 0) PL.blank).toArray), 121) := by kernel_rfl
theorem Try.builtStack0 : Try.prog.built 75 [] = some (stF (.slice none 0 0) PL.blank).toArray := by kernel_rfl
theorem Try.builtStack (a : Option Addr) (n c : Nat) : Try.prog.built 75 [(0, .slice a n c)] = some (stF (.slice a n c) PL.blank).toArray := by kernel_rfl
theorem MA.build_p {P : Program} {ops : Array Oper} {rest : List Oper} {op : Oper} {a : Act} {w : World} {Q : Exit → Act → World → Prop} (hgd : op.guard = none) (ty : TypeId) {parts : Array (Nat × Operand)} (ho : op.op = .build ty parts)
    (ps : List (Nat × Value)) (hps : (parts.map fun (i, x) => (i, a.eval x)).toList = ps) {cs : List Value} (hb : P.built ty ps = some cs.toArray)
    (h : wpList P ops Q rest (a.put op.dst (.agg cs.toArray)) w) : wpList P ops Q (op :: rest) a w := MA.build_m hgd ty ho (by rw [hps]; exact hb) h
/-- What stackUp answers. -/
def upOk (xs : List Bd) : Bool := decide (xs.length ≤ 60) && PL.upto (PL.stepI xs) xs.length
def upV (xs : List Bd) (v : Value) : List Value := if upOk xs = true then stF v (PL.sh xs xs.length) else (stF (.slice none 0 0) PL.blank)
theorem up_no {xs : List Bd} {v : Value} (h : upOk xs = false) : Ending.returned (.tuple #[.agg (stF (.slice none 0 0) PL.blank).toArray, .bool false]) = .returned (.tuple #[.agg (upV xs v).toArray, .bool (upOk xs)]) := by
  simp [upV, h]
theorem up_yes {xs : List Bd} {v : Value} (h : upOk xs = true) : Ending.returned (.tuple #[.agg (stF v (PL.sh xs xs.length)).toArray, .bool true]) = .returned (.tuple #[.agg (upV xs v).toArray, .bool (upOk xs)]) := by
  simp [upV, h]
theorem up_step {xs : List Bd} {k : Nat} (hk : k < xs.length) (h : PL.stepI xs k = false) : upOk xs = false := by
  simp [upOk, PL.upto_no hk h]
theorem Z_len : (stF (.slice none 0 0) PL.blank).length = 121 := by simp [stF, MA.sF_len]
theorem Z_one : ∀ v ∈ (stF (.slice none 0 0) PL.blank), v.oneCell' = true := by
  intro v hv
  rcases List.mem_cons.1 hv with rfl | h
  · rfl
  · exact MA.sF_one _ v h
theorem st_len (a : Option Addr) (n c : Nat) (s : PL.Sh) : (stF (.slice a n c) s).length = 121 := by simp [stF, MA.sF_len]
theorem st_one (a : Option Addr) (n c : Nat) (s : PL.Sh) : ∀ v ∈ (stF (.slice a n c) s), v.oneCell' = true := by
  intro v hv
  rcases List.mem_cons.1 hv with rfl | h
  · rfl
  · exact MA.sF_one _ v h
/-- What the memory of the call holds. -/
structure UpIn (w W : World) (v : Value) (s : PL.Sh) : Prop where
  below : Below w.heap.size w W
  res : MA.Rg W w.heap.size 0 (stF (.slice none 0 0) PL.blank)
  hd : MA.Rg W (w.heap.size + 1) 0 [v]
  sht : MA.Rg W (w.heap.size + 1) 1 (MA.sF s)
theorem UpIn.kept {w W W' : World} {v : Value} {s : PL.Sh} (h : UpIn w W v s) (hb : Below W.heap.size W W') : UpIn w W' v s :=
  ⟨h.below.trans (hb.mono h.below.size), h.res.below hb h.res.lt, h.hd.below hb h.hd.lt, h.sht.below hb h.sht.lt⟩
theorem UpIn.laid {w W : World} {v : Value} {s : PL.Sh} (h : UpIn w W v s) (t : PL.Sh) : UpIn w (W.setCells (w.heap.size + 1) 1 (MA.sF t)) v t :=
  ⟨MA.below_cells (by omega) _ _ _ h.below, h.res.other (.inl (by omega)), h.hd.other (.inr (.inl (by simp))), h.sht.put (by rw [MA.sF_len, MA.sF_len])⟩
theorem UpIn.all {w W : World} {v : Value} {s : PL.Sh} (h : UpIn w W v s) : MA.Rg W (w.heap.size + 1) 0 (stF v s) := MA.Rg.join (xs := [v]) h.hd h.sht
/-- A new variable that holds a parcel. -/
theorem new_parcel (W : World) (x : Bd) (t : TypeId) : Below W.heap.size W ((W.alloc (.cells (Bd.cs B1.zero).toArray t)).setCells W.heap.size 0 x.cs) ∧ MA.Rg ((W.alloc (.cells (Bd.cs B1.zero).toArray t)).setCells W.heap.size 0 x.cs) W.heap.size 0 x.cs :=
  ⟨MA.below_cells (Nat.le_refl _) _ _ _ ((Below.refl _ W).alloc (Nat.le_refl _) _), (MA.Rg.new W (Bd.cs B1.zero) t).put rfl⟩
theorem new_sheet (W : World) (s : PL.Sh) (t : TypeId) : Below W.heap.size W ((W.alloc (.cells (MA.sF PL.blank).toArray t)).setCells W.heap.size 0 (MA.sF s)) ∧ MA.Rg ((W.alloc (.cells (MA.sF PL.blank).toArray t)).setCells W.heap.size 0 (MA.sF s)) W.heap.size 0 (MA.sF s) :=
  ⟨MA.below_cells (Nat.le_refl _) _ _ _ ((Below.refl _ W).alloc (Nat.le_refl _) _), (MA.Rg.new W (MA.sF PL.blank) t).put (by rw [MA.sF_len, MA.sF_len])⟩
set_option linter.unusedSimpArgs false in
set_option maxHeartbeats 1600000 in
set_option maxRecDepth 100000 in
theorem stackUp_any (a : Option Addr) (cap : Nat) (xs : List Bd) (w : World) (hn : xs.length ≤ 1048576) (ht : Hid (∀ k, k < xs.length → (MP.at_ xs k).py.size ≤ 1048576)) (hin : MP.BsAt w a xs) :
    Calls Try.prog 42 #[.slice a xs.length cap] w fun e w' => e = .returned (.tuple #[.agg (upV xs (.slice a xs.length cap)).toArray, .bool (upOk xs)]) ∧ Below w.heap.size w w' := by
  by_cases h60 : xs.length ≤ 60
  · have HB0 : Hid (UpIn w (World.setCells ((w.alloc (.cells (stF (.slice none 0 0) PL.blank).toArray 75)).alloc (.cells (stF (.slice none 0 0) PL.blank).toArray 75)) (w.heap.size + 1) 0 (stF (.slice a xs.length cap) PL.blank)) (.slice a xs.length cap) (PL.sh xs 0)) := by
      have r0 := (MA.Rg.new w (stF (.slice none 0 0) PL.blank) 75).alloc (.cells (stF (.slice none 0 0) PL.blank).toArray 75)
      have r1 := (MA.Rg.new' (w.alloc (.cells (stF (.slice none 0 0) PL.blank).toArray 75)) (stF (.slice none 0 0) PL.blank) 75 (w.heap.size + 1) (by simp)).put (vs := stF (.slice a xs.length cap) PL.blank) (by rw [Z_len, st_len])
      have r2 := MA.Rg.app (xs := [.slice a xs.length cap]) r1
      exact ⟨MA.below_cells (by omega) _ _ _ (((Below.refl _ w).alloc (Nat.le_refl _) _).alloc (by simp) _), r0.other (.inl (by omega)), r2.1, r2.2⟩
    have R1 : Hid (MA.Rg ((w.alloc (.cells (stF (.slice none 0 0) PL.blank).toArray 75)).alloc (.cells (stF (.slice none 0 0) PL.blank).toArray 75)) (w.heap.size + 1) 0 (stF (.slice none 0 0) PL.blank)) := MA.Rg.new' (w.alloc (.cells (stF (.slice none 0 0) PL.blank).toArray 75)) (stF (.slice none 0 0) PL.blank) 75 (w.heap.size + 1) (by simp)
    go_enter Try.func42, Try.ntmps42
    go_wp2_with (first
      | (refine MA.alloc_z rfl 75 rfl _ _ Try.infoStack' ?_; simp only [MA.sz_alloc])
      | (refine MA.build_p rfl 75 rfl [(0, .slice a xs.length cap)] (by simp [Act.eval]) (Try.builtStack _ _ _) ?_)
      | (refine MA.store_m rfl 75 _ _ rfl rfl rfl (cs := (stF (.slice none 0 0) PL.blank)) ?_ Try.sizeStack Z_len (st_len _ _ _ _) (st_one _ _ _ _) ?_; exact R1.out; clear R1; generalize World.setCells _ _ _ _ = W at *))
    go_loopw [17] (fun iv wr => ∃ k : Nat, iv = .int .i64 k ∧ k ≤ xs.length ∧ Hid (PL.upto (PL.stepI xs) k = true) ∧ UpIn w wr (.slice a xs.length cap) (PL.sh xs k)) (fun iv _ => (xs.length - intOf iv).toNat)
    case atStart => exact ⟨0, rfl, by omega, PL.upto_zero _, HB0.out⟩
    case round =>
      clear HB0
      obtain ⟨k, rfl, hk, hU, hI⟩ := hrel
      by_cases hl : k < xs.length
      · obtain ⟨b, off, rfl, hbl0, rg⟩ := MA.row_range (hin.below hI.below) hl
        obtain ⟨x, hx⟩ : ∃ x, MP.at_ xs k = x := ⟨_, rfl⟩
        have hpx : x.py.size ≤ 1048576 := hx ▸ ht.out k hl
        rw [hx] at rg
        have RG : Hid _ := rg
        have HXX : Hid (MP.at_ xs k = x) := hx
        clear hx rg
        have HW : Hid _ := new_parcel wr x 62
        have RN : Hid _ := MA.Rg.new wr (Bd.cs B1.zero) 62
        have hk0 : (0 : Int) ≤ (k : Int) := by omega
        have hkn : (k : Int) < (xs.length : Int) := by omega
        go_wp2_with (first
          | (refine MA.load_r rfl 62 _ rfl rfl (cs := x.cs) ?_ Try.underlying62 rfl Try.sizeParcel rfl ?_; exact RG.out)
          | (refine MA.alloc_z rfl 62 rfl _ _ Try.infoParcel ?_; simp only [MA.sz_alloc])
          | (refine MA.store_m rfl 62 _ _ rfl rfl rfl (cs := Bd.cs B1.zero) ?_ Try.sizeParcel rfl rfl (MA.cs_one x) ?_; exact RN.out; clear RN RG; generalize World.setCells _ _ _ _ = W at *))
        obtain ⟨hW1, hW2⟩ := HW.out
        have hXr := hW2.rng
        have hq := hW2.lt
        have hrow := (hin.below hI.below).below hW1
        replace hI := hI.kept hW1
        clear HW hW1 hW2
        have WI : Hid (∀ W, PL.pg x = true → Calls Try.prog 65 #[.agg (MA.sF (PL.sh xs k)).toArray, .agg x.cs.toArray] W fun e w' => e = .returned (.tuple #[.agg (MA.sF (PL.lay (PL.sh xs k) x)).toArray, .bool (PL.fits (PL.sh xs k) x)]) ∧ Below W.heap.size W w') := fun W h => with_any _ x W h
        cases hg : PL.pg x with
        | false =>
          have GP : Hid _ := fun W => isGoodPiece_any x W hpx false hg
          have OW : Hid True := trivial
          have AO : Hid True := trivial
          have hF : Hid (upOk xs = false) := up_step hl (by simp [PL.stepI, HXX.out, hg])
          clear hg WI HXX
          refine MR.frame fun A hA => ?_
          have hsz : A.tmps.size = 63 := by rw [hA]; rfl
          have e0 : A.eval (.tmp 0) = .slice (some ⟨b, off, none⟩) xs.length cap := by rw [hA]; rfl
          have f0 := MR.read (t := 0) (by rw [hsz]; decide) e0
          have e5 : A.eval (.tmp 5) = .int .i64 (k : Int) := by rw [hA]; rfl
          have f5 := MR.read (t := 5) (by rw [hsz]; decide) e5
          have e6 : A.eval (.tmp 6) = .pointer (some ⟨wr.heap.size, 0, none⟩) := by rw [hA]; rfl
          have f6 := MR.read (t := 6) (by rw [hsz]; decide) e6
          have HA : Hid (A = _) := hA
          clear hA
          have hS : (fun w' : World => Below W.heap.size W w') (World.drew _) := ((Below.refl _ W).drew)
          refine wp_region_held (S := fun w' : World => Below W.heap.size W w') (by kernel_rfl) ?_
          change wpAnyH _ _ _ _ _ _ _ _ (World.drew _)
          refine MR.takeH (i := 0) (some 22) (x.v) rfl rfl (by kernel_rfl) (by kernel_rfl) (by kernel_rfl) (fun _ _ _ h => h) hS (MR.free rfl) (fun w hw => MA.ex_load rfl (by simp [MR.ev, MR.size, hsz, e0, f0, e5, f5, e6, f6]) (MA.range_below hXr hw hq) Try.underlying62 rfl Try.sizeParcel rfl) ?_
          refine MR.callH (i := 1) (some 23) (38) (#[x.v]) (by kernel_rfl) rfl rfl (MR.free rfl) (by simp [execOp, MR.ev, MR.size, hsz, e0, f0, e5, f5, e6, f6, go_sem]) ?_
          refine Calls.mono (GP.out _) ?_
          rintro e w2 ⟨rfl, hb2⟩
          have hS2 : Below W.heap.size W w2 := hS.trans (hb2.mono hS.size)
          refine ⟨_, rfl, hS2, ?_⟩
          refine MR.takeH (i := 2) (some 24) (.bool true) rfl rfl (by kernel_rfl) (by kernel_rfl) (by kernel_rfl) (fun _ _ _ h => h) hS2 (MR.free rfl) (fun w hw => by simp [execOp, MR.ev, MR.size, hsz, e0, f0, e5, f5, e6, f6, go_sem]) ?_
          refine MR.takeH (i := 3) (some 25) (.bool true) rfl rfl (by kernel_rfl) (by kernel_rfl) (by kernel_rfl) (fun _ _ _ h => h) hS2 (MR.free rfl) (fun w hw => by simp [execOp, MR.ev, MR.size, hsz, e0, f0, e5, f5, e6, f6, go_sem]) ?_
          refine MR.skipH (i := 4) (some 26) rfl rfl (by kernel_rfl) (by kernel_rfl) (by kernel_rfl) (fun _ _ _ h => h) hS2 (MR.unwant (d := 25) (b' := true) rfl rfl (by simp [MR.size, hsz]) (by simp [MR.ev, MR.size, hsz, e0, f0, e5, f5, e6, f6]) (by decide)) ?_
          refine MR.skipH (i := 5) (some 27) rfl rfl (by kernel_rfl) (by kernel_rfl) (by kernel_rfl) (fun _ _ _ h => h) hS2 (MR.unwant (d := 25) (b' := true) rfl rfl (by simp [MR.size, hsz]) (by simp [MR.ev, MR.size, hsz, e0, f0, e5, f5, e6, f6]) (by decide)) ?_
          refine MR.skipH (i := 6) (some 28) rfl rfl (by kernel_rfl) (by kernel_rfl) (by kernel_rfl) (fun _ _ _ h => h) hS2 (MR.unwant (d := 25) (b' := true) rfl rfl (by simp [MR.size, hsz]) (by simp [MR.ev, MR.size, hsz, e0, f0, e5, f5, e6, f6]) (by decide)) ?_
          refine MR.skipH (i := 7) (some 29) rfl rfl (by kernel_rfl) (by kernel_rfl) (by kernel_rfl) (fun _ _ _ h => h) hS2 (MR.unwantU (d := 28) rfl rfl (by simp [MR.size, hsz]) (by simp [MR.ev, MR.size, hsz, e0, f0, e5, f5, e6, f6])) ?_
          refine MR.skipH (i := 8) (some 30) rfl rfl (by kernel_rfl) (by kernel_rfl) (by kernel_rfl) (fun _ _ _ h => h) hS2 (MR.unwantU (d := 28) rfl rfl (by simp [MR.size, hsz]) (by simp [MR.ev, MR.size, hsz, e0, f0, e5, f5, e6, f6])) ?_
          refine MR.skipH (i := 9) (some 31) rfl rfl (by kernel_rfl) (by kernel_rfl) (by kernel_rfl) (fun _ _ _ h => h) hS2 (MR.unwantU (d := 28) rfl rfl (by simp [MR.size, hsz]) (by simp [MR.ev, MR.size, hsz, e0, f0, e5, f5, e6, f6])) ?_
          refine MR.skipH (i := 10) (some 32) rfl rfl (by kernel_rfl) (by kernel_rfl) (by kernel_rfl) (fun _ _ _ h => h) hS2 (MR.unwantU (d := 28) rfl rfl (by simp [MR.size, hsz]) (by simp [MR.ev, MR.size, hsz, e0, f0, e5, f5, e6, f6])) ?_
          refine MR.skipH (i := 11) (some 33) rfl rfl (by kernel_rfl) (by kernel_rfl) (by kernel_rfl) (fun _ _ _ h => h) hS2 (MR.unwantU (d := 28) rfl rfl (by simp [MR.size, hsz]) (by simp [MR.ev, MR.size, hsz, e0, f0, e5, f5, e6, f6])) ?_
          refine MR.skipH (i := 12) (some 34) rfl rfl (by kernel_rfl) (by kernel_rfl) (by kernel_rfl) (fun _ _ _ h => h) hS2 (MR.unwantU (d := 28) rfl rfl (by simp [MR.size, hsz]) (by simp [MR.ev, MR.size, hsz, e0, f0, e5, f5, e6, f6])) ?_
          refine MR.skipH (i := 13) (some 35) rfl rfl (by kernel_rfl) (by kernel_rfl) (by kernel_rfl) (fun _ _ _ h => h) hS2 (MR.unwantU (d := 28) rfl rfl (by simp [MR.size, hsz]) (by simp [MR.ev, MR.size, hsz, e0, f0, e5, f5, e6, f6])) ?_
          refine MR.skipH (i := 14) (some 36) rfl rfl (by kernel_rfl) (by kernel_rfl) (by kernel_rfl) (fun _ _ _ h => h) hS2 (MR.unwantU (d := 28) rfl rfl (by simp [MR.size, hsz]) (by simp [MR.ev, MR.size, hsz, e0, f0, e5, f5, e6, f6])) ?_
          refine MR.skipH (i := 15) (some 37) rfl rfl (by kernel_rfl) (by kernel_rfl) (by kernel_rfl) (fun _ _ _ h => h) hS2 (MR.unwantU (d := 36) rfl rfl (by simp [MR.size, hsz]) (by simp [MR.ev, MR.size, hsz, e0, f0, e5, f5, e6, f6])) ?_
          refine MR.skipH (i := 16) (some 38) rfl rfl (by kernel_rfl) (by kernel_rfl) (by kernel_rfl) (fun _ _ _ h => h) hS2 (MR.unwantU (d := 36) rfl rfl (by simp [MR.size, hsz]) (by simp [MR.ev, MR.size, hsz, e0, f0, e5, f5, e6, f6])) ?_
          refine MR.skipH (i := 17) (some 39) rfl rfl (by kernel_rfl) (by kernel_rfl) (by kernel_rfl) (fun _ _ _ h => h) hS2 (MR.unwantU (d := 36) rfl rfl (by simp [MR.size, hsz]) (by simp [MR.ev, MR.size, hsz, e0, f0, e5, f5, e6, f6])) ?_
          refine MR.skipH (i := 18) (some 40) rfl rfl (by kernel_rfl) (by kernel_rfl) (by kernel_rfl) (fun _ _ _ h => h) hS2 (MR.unwantU (d := 36) rfl rfl (by simp [MR.size, hsz]) (by simp [MR.ev, MR.size, hsz, e0, f0, e5, f5, e6, f6])) ?_
          refine MR.skipH (i := 19) (some 41) rfl rfl (by kernel_rfl) (by kernel_rfl) (by kernel_rfl) (fun _ _ _ h => h) hS2 (MR.unwantU (d := 36) rfl rfl (by simp [MR.size, hsz]) (by simp [MR.ev, MR.size, hsz, e0, f0, e5, f5, e6, f6])) ?_
          refine MR.skipH (i := 20) (some 42) rfl rfl (by kernel_rfl) (by kernel_rfl) (by kernel_rfl) (fun _ _ _ h => h) hS2 (MR.unwantU (d := 36) rfl rfl (by simp [MR.size, hsz]) (by simp [MR.ev, MR.size, hsz, e0, f0, e5, f5, e6, f6])) ?_
          refine MR.skipH (i := 21) (some 43) rfl rfl (by kernel_rfl) (by kernel_rfl) (by kernel_rfl) (fun _ _ _ h => h) hS2 (MR.unwantU (d := 36) rfl rfl (by simp [MR.size, hsz]) (by simp [MR.ev, MR.size, hsz, e0, f0, e5, f5, e6, f6])) ?_
          refine MR.skipH (i := 22) (some 44) rfl rfl (by kernel_rfl) (by kernel_rfl) (by kernel_rfl) (fun _ _ _ h => h) hS2 (MR.unwantU (d := 28) rfl rfl (by simp [MR.size, hsz]) (by simp [MR.ev, MR.size, hsz, e0, f0, e5, f5, e6, f6])) ?_
          refine MR.skipH (i := 23) (some 45) rfl rfl (by kernel_rfl) (by kernel_rfl) (by kernel_rfl) (fun _ _ _ h => h) hS2 (MR.unwantU (d := 28) rfl rfl (by simp [MR.size, hsz]) (by simp [MR.ev, MR.size, hsz, e0, f0, e5, f5, e6, f6])) ?_
          refine MR.skipH (i := 24) (some 46) rfl rfl (by kernel_rfl) (by kernel_rfl) (by kernel_rfl) (fun _ _ _ h => h) hS2 (MR.unwant (d := 25) (b' := true) rfl rfl (by simp [MR.size, hsz]) (by simp [MR.ev, MR.size, hsz, e0, f0, e5, f5, e6, f6]) (by decide)) ?_
          refine MR.takeH (i := 25) (some 47) (.bool true) rfl rfl (by kernel_rfl) (by kernel_rfl) (by kernel_rfl) (fun _ _ _ h => h) hS2 (MR.free rfl) (fun w hw => by simp [execOp, MR.ev, MR.size, hsz, e0, f0, e5, f5, e6, f6, go_sem]) ?_
          refine wpAnyH_done (by kernel_rfl) ?_ _
          have hB7 : Below W.heap.size W w2 := hS2
          rw [HA.out]
          clear hS  hS2 HA e0 e5 e6 f0 f5 f6 hsz hb2 GP OW AO
          generalize w2 = W7 at *
          simp only [Act.put, List.setIfInBounds_toArray, List.set_cons_succ, List.set_cons_zero]
          have R0 : Hid _ := (hI.kept hB7).res
          have hb : Hid _ := (hI.kept hB7).below
          clear hI hB7 hXr hU
          go_wp2_with (first
            | (refine MA.build_p rfl 75 rfl [] (by simp) Try.builtStack0 ?_)
            | (refine MA.store_m rfl 75 _ _ rfl rfl rfl (cs := (stF (.slice none 0 0) PL.blank)) ?_ Try.sizeStack Z_len Z_len Z_one ?_; exact R0.out))
          exact bodyPost_ret (MA.ret_cell2 rfl rfl rfl (MA.load_rg (R0.out.put rfl) Try.underlying75 rfl Try.sizeStack Z_len)) rfl ⟨up_no hF.out, MA.below_cells (Nat.le_refl _) _ _ _ hb.out⟩
        | true =>
          have GP : Hid _ := fun W => isGoodPiece_any x W hpx true hg
          have WI2 : Hid (∀ W, Calls Try.prog 65 #[.agg (MA.sF (PL.sh xs k)).toArray, .agg x.cs.toArray] W fun e w' => e = .returned (.tuple #[.agg (MA.sF (PL.lay (PL.sh xs k) x)).toArray, .bool (PL.fits (PL.sh xs k) x)]) ∧ Below W.heap.size W w') := fun W => WI.out W hg
          clear WI
          have HG : Hid _ := hg
          clear hg
          by_cases hz : k = 0
          · have hgt : ¬ (0 : Int) < (k : Int) := by omega
            have OW : Hid True := trivial
            have AO : Hid True := trivial
            have HST : Hid (PL.stepI xs k = PL.fits (PL.sh xs k) x) := by show _ = _; unfold PL.stepI; rw [HXX.out, HG.out]; simp [hz]
            refine MR.frame fun A hA => ?_
            have hsz : A.tmps.size = 63 := by rw [hA]; rfl
            have e0 : A.eval (.tmp 0) = .slice (some ⟨b, off, none⟩) xs.length cap := by rw [hA]; rfl
            have f0 := MR.read (t := 0) (by rw [hsz]; decide) e0
            have e5 : A.eval (.tmp 5) = .int .i64 (k : Int) := by rw [hA]; rfl
            have f5 := MR.read (t := 5) (by rw [hsz]; decide) e5
            have e6 : A.eval (.tmp 6) = .pointer (some ⟨wr.heap.size, 0, none⟩) := by rw [hA]; rfl
            have f6 := MR.read (t := 6) (by rw [hsz]; decide) e6
            have HA : Hid (A = _) := hA
            clear hA
            have hS : (fun w' : World => Below W.heap.size W w') (World.drew _) := ((Below.refl _ W).drew)
            refine wp_region_held (S := fun w' : World => Below W.heap.size W w') (by kernel_rfl) ?_
            change wpAnyH _ _ _ _ _ _ _ _ (World.drew _)
            refine MR.takeH (i := 0) (some 22) (x.v) rfl rfl (by kernel_rfl) (by kernel_rfl) (by kernel_rfl) (fun _ _ _ h => h) hS (MR.free rfl) (fun w hw => MA.ex_load rfl (by simp [MR.ev, MR.size, hsz, e0, f0, e5, f5, e6, f6]) (MA.range_below hXr hw hq) Try.underlying62 rfl Try.sizeParcel rfl) ?_
            refine MR.callH (i := 1) (some 23) (38) (#[x.v]) (by kernel_rfl) rfl rfl (MR.free rfl) (by simp [execOp, MR.ev, MR.size, hsz, e0, f0, e5, f5, e6, f6, go_sem]) ?_
            refine Calls.mono (GP.out _) ?_
            rintro e w2 ⟨rfl, hb2⟩
            have hS2 : Below W.heap.size W w2 := hS.trans (hb2.mono hS.size)
            refine ⟨_, rfl, hS2, ?_⟩
            refine MR.takeH (i := 2) (some 24) (.bool false) rfl rfl (by kernel_rfl) (by kernel_rfl) (by kernel_rfl) (fun _ _ _ h => h) hS2 (MR.free rfl) (fun w hw => by simp [execOp, MR.ev, MR.size, hsz, e0, f0, e5, f5, e6, f6, go_sem]) ?_
            refine MR.takeH (i := 3) (some 25) (.bool false) rfl rfl (by kernel_rfl) (by kernel_rfl) (by kernel_rfl) (fun _ _ _ h => h) hS2 (MR.free rfl) (fun w hw => by simp [execOp, MR.ev, MR.size, hsz, e0, f0, e5, f5, e6, f6, go_sem]) ?_
            refine MR.takeH (i := 4) (some 26) (.int .i64 (k : Int)) rfl rfl (by kernel_rfl) (by kernel_rfl) (by kernel_rfl) (fun _ _ _ h => h) hS2 (MR.want (d := 25) rfl rfl (by simp [MR.size, hsz]) (by simp [MR.ev, MR.size, hsz, e0, f0, e5, f5, e6, f6])) (fun w hw => by simp [execOp, MR.ev, MR.size, hsz, e0, f0, e5, f5, e6, f6, go_sem]) ?_
            refine MR.takeH (i := 5) (some 27) (.bool false) rfl rfl (by kernel_rfl) (by kernel_rfl) (by kernel_rfl) (fun _ _ _ h => h) hS2 (MR.want (d := 25) rfl rfl (by simp [MR.size, hsz]) (by simp [MR.ev, MR.size, hsz, e0, f0, e5, f5, e6, f6])) (fun w hw => by simp [execOp, MR.ev, MR.size, hsz, e0, f0, e5, f5, e6, f6, hz, go_sem]) ?_
            refine MR.takeH (i := 6) (some 28) (.bool false) rfl rfl (by kernel_rfl) (by kernel_rfl) (by kernel_rfl) (fun _ _ _ h => h) hS2 (MR.want (d := 25) rfl rfl (by simp [MR.size, hsz]) (by simp [MR.ev, MR.size, hsz, e0, f0, e5, f5, e6, f6])) (fun w hw => by simp [execOp, MR.ev, MR.size, hsz, e0, f0, e5, f5, e6, f6, go_sem]) ?_
            refine MR.skipH (i := 7) (some 29) rfl rfl (by kernel_rfl) (by kernel_rfl) (by kernel_rfl) (fun _ _ _ h => h) hS2 (MR.unwant (d := 28) (b' := false) rfl rfl (by simp [MR.size, hsz]) (by simp [MR.ev, MR.size, hsz, e0, f0, e5, f5, e6, f6]) (by decide)) ?_
            refine MR.skipH (i := 8) (some 30) rfl rfl (by kernel_rfl) (by kernel_rfl) (by kernel_rfl) (fun _ _ _ h => h) hS2 (MR.unwant (d := 28) (b' := false) rfl rfl (by simp [MR.size, hsz]) (by simp [MR.ev, MR.size, hsz, e0, f0, e5, f5, e6, f6]) (by decide)) ?_
            refine MR.skipH (i := 9) (some 31) rfl rfl (by kernel_rfl) (by kernel_rfl) (by kernel_rfl) (fun _ _ _ h => h) hS2 (MR.unwant (d := 28) (b' := false) rfl rfl (by simp [MR.size, hsz]) (by simp [MR.ev, MR.size, hsz, e0, f0, e5, f5, e6, f6]) (by decide)) ?_
            refine MR.skipH (i := 10) (some 32) rfl rfl (by kernel_rfl) (by kernel_rfl) (by kernel_rfl) (fun _ _ _ h => h) hS2 (MR.unwant (d := 28) (b' := false) rfl rfl (by simp [MR.size, hsz]) (by simp [MR.ev, MR.size, hsz, e0, f0, e5, f5, e6, f6]) (by decide)) ?_
            refine MR.skipH (i := 11) (some 33) rfl rfl (by kernel_rfl) (by kernel_rfl) (by kernel_rfl) (fun _ _ _ h => h) hS2 (MR.unwant (d := 28) (b' := false) rfl rfl (by simp [MR.size, hsz]) (by simp [MR.ev, MR.size, hsz, e0, f0, e5, f5, e6, f6]) (by decide)) ?_
            refine MR.skipH (i := 12) (some 34) rfl rfl (by kernel_rfl) (by kernel_rfl) (by kernel_rfl) (fun _ _ _ h => h) hS2 (MR.unwant (d := 28) (b' := false) rfl rfl (by simp [MR.size, hsz]) (by simp [MR.ev, MR.size, hsz, e0, f0, e5, f5, e6, f6]) (by decide)) ?_
            refine MR.skipH (i := 13) (some 35) rfl rfl (by kernel_rfl) (by kernel_rfl) (by kernel_rfl) (fun _ _ _ h => h) hS2 (MR.unwant (d := 28) (b' := false) rfl rfl (by simp [MR.size, hsz]) (by simp [MR.ev, MR.size, hsz, e0, f0, e5, f5, e6, f6]) (by decide)) ?_
            refine MR.skipH (i := 14) (some 36) rfl rfl (by kernel_rfl) (by kernel_rfl) (by kernel_rfl) (fun _ _ _ h => h) hS2 (MR.unwant (d := 28) (b' := false) rfl rfl (by simp [MR.size, hsz]) (by simp [MR.ev, MR.size, hsz, e0, f0, e5, f5, e6, f6]) (by decide)) ?_
            refine MR.skipH (i := 15) (some 37) rfl rfl (by kernel_rfl) (by kernel_rfl) (by kernel_rfl) (fun _ _ _ h => h) hS2 (MR.unwantU (d := 36) rfl rfl (by simp [MR.size, hsz]) (by simp [MR.ev, MR.size, hsz, e0, f0, e5, f5, e6, f6])) ?_
            refine MR.skipH (i := 16) (some 38) rfl rfl (by kernel_rfl) (by kernel_rfl) (by kernel_rfl) (fun _ _ _ h => h) hS2 (MR.unwantU (d := 36) rfl rfl (by simp [MR.size, hsz]) (by simp [MR.ev, MR.size, hsz, e0, f0, e5, f5, e6, f6])) ?_
            refine MR.skipH (i := 17) (some 39) rfl rfl (by kernel_rfl) (by kernel_rfl) (by kernel_rfl) (fun _ _ _ h => h) hS2 (MR.unwantU (d := 36) rfl rfl (by simp [MR.size, hsz]) (by simp [MR.ev, MR.size, hsz, e0, f0, e5, f5, e6, f6])) ?_
            refine MR.skipH (i := 18) (some 40) rfl rfl (by kernel_rfl) (by kernel_rfl) (by kernel_rfl) (fun _ _ _ h => h) hS2 (MR.unwantU (d := 36) rfl rfl (by simp [MR.size, hsz]) (by simp [MR.ev, MR.size, hsz, e0, f0, e5, f5, e6, f6])) ?_
            refine MR.skipH (i := 19) (some 41) rfl rfl (by kernel_rfl) (by kernel_rfl) (by kernel_rfl) (fun _ _ _ h => h) hS2 (MR.unwantU (d := 36) rfl rfl (by simp [MR.size, hsz]) (by simp [MR.ev, MR.size, hsz, e0, f0, e5, f5, e6, f6])) ?_
            refine MR.skipH (i := 20) (some 42) rfl rfl (by kernel_rfl) (by kernel_rfl) (by kernel_rfl) (fun _ _ _ h => h) hS2 (MR.unwantU (d := 36) rfl rfl (by simp [MR.size, hsz]) (by simp [MR.ev, MR.size, hsz, e0, f0, e5, f5, e6, f6])) ?_
            refine MR.skipH (i := 21) (some 43) rfl rfl (by kernel_rfl) (by kernel_rfl) (by kernel_rfl) (fun _ _ _ h => h) hS2 (MR.unwantU (d := 36) rfl rfl (by simp [MR.size, hsz]) (by simp [MR.ev, MR.size, hsz, e0, f0, e5, f5, e6, f6])) ?_
            refine MR.skipH (i := 22) (some 44) rfl rfl (by kernel_rfl) (by kernel_rfl) (by kernel_rfl) (fun _ _ _ h => h) hS2 (MR.unwant (d := 28) (b' := false) rfl rfl (by simp [MR.size, hsz]) (by simp [MR.ev, MR.size, hsz, e0, f0, e5, f5, e6, f6]) (by decide)) ?_
            refine MR.skipH (i := 23) (some 45) rfl rfl (by kernel_rfl) (by kernel_rfl) (by kernel_rfl) (fun _ _ _ h => h) hS2 (MR.unwant (d := 28) (b' := false) rfl rfl (by simp [MR.size, hsz]) (by simp [MR.ev, MR.size, hsz, e0, f0, e5, f5, e6, f6]) (by decide)) ?_
            refine MR.takeH (i := 24) (some 46) (.bool false) rfl rfl (by kernel_rfl) (by kernel_rfl) (by kernel_rfl) (fun _ _ _ h => h) hS2 (MR.want (d := 25) rfl rfl (by simp [MR.size, hsz]) (by simp [MR.ev, MR.size, hsz, e0, f0, e5, f5, e6, f6])) (fun w hw => by simp [execOp, MR.ev, MR.size, hsz, e0, f0, e5, f5, e6, f6, go_sem]) ?_
            refine MR.takeH (i := 25) (some 47) (.bool false) rfl rfl (by kernel_rfl) (by kernel_rfl) (by kernel_rfl) (fun _ _ _ h => h) hS2 (MR.free rfl) (fun w hw => by simp [execOp, MR.ev, MR.size, hsz, e0, f0, e5, f5, e6, f6, go_sem]) ?_
            refine wpAnyH_done (by kernel_rfl) ?_ _
            have hB7 : Below W.heap.size W w2 := hS2
            rw [HA.out]
            clear hS  hS2 HA e0 e5 e6 f0 f5 f6 hsz hb2 hz hgt GP OW AO
            generalize w2 = W7 at *
            simp only [Act.put, List.setIfInBounds_toArray, List.set_cons_succ, List.set_cons_zero]
            have HI : Hid _ := hI.kept hB7
            have HX7 : Hid _ := MA.range_below hXr hB7 hq
            have hs7 := hB7.size
            clear hI hB7 hXr
            go_wp2_with (first
              | (refine MA.load_m rfl 73 _ rfl rfl (cs := MA.sF (PL.sh xs k)) ?_ Try.underlying73 rfl Try.sizeSheet (MA.sF_len _) ?_; exact HI.out.sht)
              | (refine MA.load_r rfl 62 _ rfl rfl (cs := x.cs) ?_ Try.underlying62 rfl Try.sizeParcel rfl ?_; exact HX7.out))
            refine Calls.mono (WI2.out _) ?_
            rintro e w9 ⟨rfl, hb9⟩
            have HI9 : Hid _ := HI.out.kept hb9
            have HN : Hid _ := new_sheet w9 (PL.lay (PL.sh xs k) x) 73
            have RN : Hid _ := MA.Rg.new w9 (MA.sF PL.blank) 73
            clear HI HX7 WI2 hb9 hs7
            cases hf : PL.fits (PL.sh xs k) x
            · have hF : Hid (upOk xs = false) := up_step hl (HST.out.trans hf)
              clear hf HST HG HXX hU
              go_wp2_with (first
                | (refine MA.alloc_z rfl 73 rfl _ _ Try.infoSheet ?_; simp only [MA.sz_alloc])
                | (refine MA.store_m rfl 73 _ _ rfl rfl rfl (cs := MA.sF PL.blank) ?_ Try.sizeSheet (MA.sF_len _) (MA.sF_len _) (MA.sF_one _) ?_; exact RN.out; clear RN; generalize World.setCells _ _ _ _ = W9 at *)
                | (refine MA.build_p rfl 75 rfl [] (by simp) Try.builtStack0 ?_)
                | (refine MA.store_m rfl 75 _ _ rfl rfl rfl (cs := (stF (.slice none 0 0) PL.blank)) ?_ Try.sizeStack Z_len Z_len Z_one ?_; exact (HI9.out.kept HN.out.1).res))
              exact bodyPost_ret (MA.ret_cell2 rfl rfl rfl (MA.load_rg ((HI9.out.kept HN.out.1).res.put rfl) Try.underlying75 rfl Try.sizeStack Z_len)) rfl ⟨up_no hF.out, MA.below_cells (Nat.le_refl _) _ _ _ (HI9.out.kept HN.out.1).below⟩
            · have hU' : Hid (PL.upto (PL.stepI xs) (k + 1) = true) := PL.upto_succ hU.out (HST.out.trans hf)
              have hsh : Hid (PL.lay (PL.sh xs k) x = PL.sh xs (k + 1)) := by show _ = _; rw [PL.sh_succ xs k hl, HXX.out]
              clear hf HST HG hU HXX
              go_wp2_with (first
                | (refine MA.alloc_z rfl 73 rfl _ _ Try.infoSheet ?_; simp only [MA.sz_alloc])
                | (refine MA.store_m rfl 73 _ _ rfl rfl rfl (cs := MA.sF PL.blank) ?_ Try.sizeSheet (MA.sF_len _) (MA.sF_len _) (MA.sF_one _) ?_; exact RN.out; clear RN; generalize World.setCells _ _ _ _ = W9 at *)
                | (refine MA.load_m rfl 73 _ rfl rfl (cs := MA.sF (PL.lay (PL.sh xs k) x)) ?_ Try.underlying73 rfl Try.sizeSheet (MA.sF_len _) ?_; exact HN.out.2)
                | (refine MA.store_m rfl 73 _ _ rfl rfl rfl (cs := MA.sF (PL.sh xs k)) ?_ Try.sizeSheet (MA.sF_len _) (MA.sF_len _) (MA.sF_one _) ?_; exact (HI9.out.kept HN.out.1).sht; replace HI9 : Hid _ := (HI9.out.kept HN.out.1).laid (PL.lay (PL.sh xs k) x); clear HN; generalize World.setCells _ _ _ _ = W10 at *))
              have hI10 := HI9.out
              rw [hsh.out] at hI10
              go_roundw
              case rel => exact ⟨k + 1, by go_num, by omega, hU', hI10⟩
              case measure => simp [intOf]; omega
          · obtain ⟨k', hk'⟩ : ∃ k', k = k' + 1 := ⟨k - 1, by omega⟩
            obtain ⟨b', off', hab, hbl, hYr⟩ := MA.row_range hrow (k := k') (by omega)
            cases hab
            obtain ⟨y, hy⟩ : ∃ y, MP.at_ xs k' = y := ⟨_, rfl⟩
            have hpy : y.py.size ≤ 1048576 := hy ▸ ht.out k' (by omega)
            rw [hy] at hYr
            have hk1 : (k : Int) - 1 = (k' : Int) := by omega
            have hk2 : IntKind.i64.wrap (k' : Int) = (k' : Int) := M1.i64_wrap k' (by omega)
            have hk3 : (0 : Int) ≤ (k' : Int) := by omega
            have hk4 : k' < xs.length := by omega
            have hgt : 0 < k := by omega
            have HST : Hid (PL.stepI xs k = ((PL.one y x && PL.ahead y x) && PL.fits (PL.sh xs k) x)) := by show _ = _; unfold PL.stepI; rw [HXX.out, HG.out, hk', Nat.add_sub_cancel, hy]; simp
            have hpg := HG.out
            clear hy hk' hz hrow
            cases ho : PL.one y x with
            | false =>
              have OW : Hid _ := fun W => isOfOneWith_any y x W false ho
              have AO : Hid True := trivial
              have hF : Hid (upOk xs = false) := up_step hl (by rw [HST.out, ho]; rfl)
              clear ho HST HG hpg WI2 HXX
              refine MR.frame fun A hA => ?_
              have hsz : A.tmps.size = 63 := by rw [hA]; rfl
              have e0 : A.eval (.tmp 0) = .slice (some ⟨b, off, none⟩) xs.length cap := by rw [hA]; rfl
              have f0 := MR.read (t := 0) (by rw [hsz]; decide) e0
              have e5 : A.eval (.tmp 5) = .int .i64 (k : Int) := by rw [hA]; rfl
              have f5 := MR.read (t := 5) (by rw [hsz]; decide) e5
              have e6 : A.eval (.tmp 6) = .pointer (some ⟨wr.heap.size, 0, none⟩) := by rw [hA]; rfl
              have f6 := MR.read (t := 6) (by rw [hsz]; decide) e6
              have HA : Hid (A = _) := hA
              clear hA
              have hS : (fun w' : World => Below W.heap.size W w') (World.drew _) := ((Below.refl _ W).drew)
              refine wp_region_held (S := fun w' : World => Below W.heap.size W w') (by kernel_rfl) ?_
              change wpAnyH _ _ _ _ _ _ _ _ (World.drew _)
              refine MR.takeH (i := 0) (some 22) (x.v) rfl rfl (by kernel_rfl) (by kernel_rfl) (by kernel_rfl) (fun _ _ _ h => h) hS (MR.free rfl) (fun w hw => MA.ex_load rfl (by simp [MR.ev, MR.size, hsz, e0, f0, e5, f5, e6, f6]) (MA.range_below hXr hw hq) Try.underlying62 rfl Try.sizeParcel rfl) ?_
              refine MR.callH (i := 1) (some 23) (38) (#[x.v]) (by kernel_rfl) rfl rfl (MR.free rfl) (by simp [execOp, MR.ev, MR.size, hsz, e0, f0, e5, f5, e6, f6, go_sem]) ?_
              refine Calls.mono (GP.out _) ?_
              rintro e w2 ⟨rfl, hb2⟩
              have hS2 : Below W.heap.size W w2 := hS.trans (hb2.mono hS.size)
              refine ⟨_, rfl, hS2, ?_⟩
              refine MR.takeH (i := 2) (some 24) (.bool false) rfl rfl (by kernel_rfl) (by kernel_rfl) (by kernel_rfl) (fun _ _ _ h => h) hS2 (MR.free rfl) (fun w hw => by simp [execOp, MR.ev, MR.size, hsz, e0, f0, e5, f5, e6, f6, go_sem]) ?_
              refine MR.takeH (i := 3) (some 25) (.bool false) rfl rfl (by kernel_rfl) (by kernel_rfl) (by kernel_rfl) (fun _ _ _ h => h) hS2 (MR.free rfl) (fun w hw => by simp [execOp, MR.ev, MR.size, hsz, e0, f0, e5, f5, e6, f6, go_sem]) ?_
              refine MR.takeH (i := 4) (some 26) (.int .i64 (k : Int)) rfl rfl (by kernel_rfl) (by kernel_rfl) (by kernel_rfl) (fun _ _ _ h => h) hS2 (MR.want (d := 25) rfl rfl (by simp [MR.size, hsz]) (by simp [MR.ev, MR.size, hsz, e0, f0, e5, f5, e6, f6])) (fun w hw => by simp [execOp, MR.ev, MR.size, hsz, e0, f0, e5, f5, e6, f6, go_sem]) ?_
              refine MR.takeH (i := 5) (some 27) (.bool true) rfl rfl (by kernel_rfl) (by kernel_rfl) (by kernel_rfl) (fun _ _ _ h => h) hS2 (MR.want (d := 25) rfl rfl (by simp [MR.size, hsz]) (by simp [MR.ev, MR.size, hsz, e0, f0, e5, f5, e6, f6])) (fun w hw => by simp [execOp, MR.ev, MR.size, hsz, e0, f0, e5, f5, e6, f6, hgt, go_sem]) ?_
              refine MR.takeH (i := 6) (some 28) (.bool true) rfl rfl (by kernel_rfl) (by kernel_rfl) (by kernel_rfl) (fun _ _ _ h => h) hS2 (MR.want (d := 25) rfl rfl (by simp [MR.size, hsz]) (by simp [MR.ev, MR.size, hsz, e0, f0, e5, f5, e6, f6])) (fun w hw => by simp [execOp, MR.ev, MR.size, hsz, e0, f0, e5, f5, e6, f6, go_sem]) ?_
              refine MR.takeH (i := 7) (some 29) (.slice (some ⟨b, off, none⟩) xs.length cap) rfl rfl (by kernel_rfl) (by kernel_rfl) (by kernel_rfl) (fun _ _ _ h => h) hS2 (MR.want (d := 28) rfl rfl (by simp [MR.size, hsz]) (by simp [MR.ev, MR.size, hsz, e0, f0, e5, f5, e6, f6])) (fun w hw => by simp [execOp, MR.ev, MR.size, hsz, e0, f0, e5, f5, e6, f6, go_sem]) ?_
              refine MR.takeH (i := 8) (some 30) (.int .i64 (k : Int)) rfl rfl (by kernel_rfl) (by kernel_rfl) (by kernel_rfl) (fun _ _ _ h => h) hS2 (MR.want (d := 28) rfl rfl (by simp [MR.size, hsz]) (by simp [MR.ev, MR.size, hsz, e0, f0, e5, f5, e6, f6])) (fun w hw => by simp [execOp, MR.ev, MR.size, hsz, e0, f0, e5, f5, e6, f6, go_sem]) ?_
              refine MR.takeH (i := 9) (some 31) (.int .i64 (k' : Int)) rfl rfl (by kernel_rfl) (by kernel_rfl) (by kernel_rfl) (fun _ _ _ h => h) hS2 (MR.want (d := 28) rfl rfl (by simp [MR.size, hsz]) (by simp [MR.ev, MR.size, hsz, e0, f0, e5, f5, e6, f6])) (fun w hw => by simp [execOp, MR.ev, MR.size, hsz, e0, f0, e5, f5, e6, f6, hk1, hk2, go_sem]) ?_
              refine MR.takeH (i := 10) (some 32) (.pointer (some ⟨b, off + k' * 10, none⟩)) rfl rfl (by kernel_rfl) (by kernel_rfl) (by kernel_rfl) (fun _ _ _ h => h) hS2 (MR.want (d := 28) rfl rfl (by simp [MR.size, hsz]) (by simp [MR.ev, MR.size, hsz, e0, f0, e5, f5, e6, f6])) (fun w hw => by simp [execOp, MR.ev, MR.size, hsz, e0, f0, e5, f5, e6, f6, hk3, hk4, go_sem]) ?_
              refine MR.takeH (i := 11) (some 33) (y.v) rfl rfl (by kernel_rfl) (by kernel_rfl) (by kernel_rfl) (fun _ _ _ h => h) hS2 (MR.want (d := 28) rfl rfl (by simp [MR.size, hsz]) (by simp [MR.ev, MR.size, hsz, e0, f0, e5, f5, e6, f6])) (fun w hw => MA.ex_load rfl (by simp [MR.ev, MR.size, hsz, e0, f0, e5, f5, e6, f6]) (MA.range_below hYr hw hbl) Try.underlying62 rfl Try.sizeParcel rfl) ?_
              refine MR.takeH (i := 12) (some 34) (x.v) rfl rfl (by kernel_rfl) (by kernel_rfl) (by kernel_rfl) (fun _ _ _ h => h) hS2 (MR.want (d := 28) rfl rfl (by simp [MR.size, hsz]) (by simp [MR.ev, MR.size, hsz, e0, f0, e5, f5, e6, f6])) (fun w hw => MA.ex_load rfl (by simp [MR.ev, MR.size, hsz, e0, f0, e5, f5, e6, f6]) (MA.range_below hXr hw hq) Try.underlying62 rfl Try.sizeParcel rfl) ?_
              refine MR.callH (i := 13) (some 35) (63) (#[y.v, x.v]) (by kernel_rfl) rfl rfl (MR.want (d := 28) rfl rfl (by simp [MR.size, hsz]) (by simp [MR.ev, MR.size, hsz, e0, f0, e5, f5, e6, f6])) (by simp [execOp, MR.ev, MR.size, hsz, e0, f0, e5, f5, e6, f6, go_sem]) ?_
              refine Calls.mono (OW.out _) ?_
              rintro e w3 ⟨rfl, hb3⟩
              have hS3 : Below W.heap.size W w3 := hS2.trans (hb3.mono hS2.size)
              refine ⟨_, rfl, hS3, ?_⟩
              refine MR.takeH (i := 14) (some 36) (.bool false) rfl rfl (by kernel_rfl) (by kernel_rfl) (by kernel_rfl) (fun _ _ _ h => h) hS3 (MR.want (d := 28) rfl rfl (by simp [MR.size, hsz]) (by simp [MR.ev, MR.size, hsz, e0, f0, e5, f5, e6, f6])) (fun w hw => by simp [execOp, MR.ev, MR.size, hsz, e0, f0, e5, f5, e6, f6, go_sem]) ?_
              refine MR.skipH (i := 15) (some 37) rfl rfl (by kernel_rfl) (by kernel_rfl) (by kernel_rfl) (fun _ _ _ h => h) hS3 (MR.unwant (d := 36) (b' := false) rfl rfl (by simp [MR.size, hsz]) (by simp [MR.ev, MR.size, hsz, e0, f0, e5, f5, e6, f6]) (by decide)) ?_
              refine MR.skipH (i := 16) (some 38) rfl rfl (by kernel_rfl) (by kernel_rfl) (by kernel_rfl) (fun _ _ _ h => h) hS3 (MR.unwant (d := 36) (b' := false) rfl rfl (by simp [MR.size, hsz]) (by simp [MR.ev, MR.size, hsz, e0, f0, e5, f5, e6, f6]) (by decide)) ?_
              refine MR.skipH (i := 17) (some 39) rfl rfl (by kernel_rfl) (by kernel_rfl) (by kernel_rfl) (fun _ _ _ h => h) hS3 (MR.unwant (d := 36) (b' := false) rfl rfl (by simp [MR.size, hsz]) (by simp [MR.ev, MR.size, hsz, e0, f0, e5, f5, e6, f6]) (by decide)) ?_
              refine MR.skipH (i := 18) (some 40) rfl rfl (by kernel_rfl) (by kernel_rfl) (by kernel_rfl) (fun _ _ _ h => h) hS3 (MR.unwant (d := 36) (b' := false) rfl rfl (by simp [MR.size, hsz]) (by simp [MR.ev, MR.size, hsz, e0, f0, e5, f5, e6, f6]) (by decide)) ?_
              refine MR.skipH (i := 19) (some 41) rfl rfl (by kernel_rfl) (by kernel_rfl) (by kernel_rfl) (fun _ _ _ h => h) hS3 (MR.unwant (d := 36) (b' := false) rfl rfl (by simp [MR.size, hsz]) (by simp [MR.ev, MR.size, hsz, e0, f0, e5, f5, e6, f6]) (by decide)) ?_
              refine MR.skipH (i := 20) (some 42) rfl rfl (by kernel_rfl) (by kernel_rfl) (by kernel_rfl) (fun _ _ _ h => h) hS3 (MR.unwant (d := 36) (b' := false) rfl rfl (by simp [MR.size, hsz]) (by simp [MR.ev, MR.size, hsz, e0, f0, e5, f5, e6, f6]) (by decide)) ?_
              refine MR.skipH (i := 21) (some 43) rfl rfl (by kernel_rfl) (by kernel_rfl) (by kernel_rfl) (fun _ _ _ h => h) hS3 (MR.unwant (d := 36) (b' := false) rfl rfl (by simp [MR.size, hsz]) (by simp [MR.ev, MR.size, hsz, e0, f0, e5, f5, e6, f6]) (by decide)) ?_
              refine MR.takeH (i := 22) (some 44) (.bool false) rfl rfl (by kernel_rfl) (by kernel_rfl) (by kernel_rfl) (fun _ _ _ h => h) hS3 (MR.want (d := 28) rfl rfl (by simp [MR.size, hsz]) (by simp [MR.ev, MR.size, hsz, e0, f0, e5, f5, e6, f6])) (fun w hw => by simp [execOp, MR.ev, MR.size, hsz, e0, f0, e5, f5, e6, f6, go_sem]) ?_
              refine MR.takeH (i := 23) (some 45) (.bool true) rfl rfl (by kernel_rfl) (by kernel_rfl) (by kernel_rfl) (fun _ _ _ h => h) hS3 (MR.want (d := 28) rfl rfl (by simp [MR.size, hsz]) (by simp [MR.ev, MR.size, hsz, e0, f0, e5, f5, e6, f6])) (fun w hw => by simp [execOp, MR.ev, MR.size, hsz, e0, f0, e5, f5, e6, f6, go_sem]) ?_
              refine MR.takeH (i := 24) (some 46) (.bool true) rfl rfl (by kernel_rfl) (by kernel_rfl) (by kernel_rfl) (fun _ _ _ h => h) hS3 (MR.want (d := 25) rfl rfl (by simp [MR.size, hsz]) (by simp [MR.ev, MR.size, hsz, e0, f0, e5, f5, e6, f6])) (fun w hw => by simp [execOp, MR.ev, MR.size, hsz, e0, f0, e5, f5, e6, f6, go_sem]) ?_
              refine MR.takeH (i := 25) (some 47) (.bool true) rfl rfl (by kernel_rfl) (by kernel_rfl) (by kernel_rfl) (fun _ _ _ h => h) hS3 (MR.free rfl) (fun w hw => by simp [execOp, MR.ev, MR.size, hsz, e0, f0, e5, f5, e6, f6, go_sem]) ?_
              refine wpAnyH_done (by kernel_rfl) ?_ _
              have hB7 : Below W.heap.size W w3 := hS3
              rw [HA.out]
              clear hS hS2 hS3 HA e0 e5 e6 f0 f5 f6 hsz hb2 hb3 hk1 hk2 hk3 hk4 hgt hYr GP OW AO
              generalize w3 = W7 at *
              simp only [Act.put, List.setIfInBounds_toArray, List.set_cons_succ, List.set_cons_zero]
              have R0 : Hid _ := (hI.kept hB7).res
              have hb : Hid _ := (hI.kept hB7).below
              clear hI hB7 hXr hU
              go_wp2_with (first
                | (refine MA.build_p rfl 75 rfl [] (by simp) Try.builtStack0 ?_)
                | (refine MA.store_m rfl 75 _ _ rfl rfl rfl (cs := (stF (.slice none 0 0) PL.blank)) ?_ Try.sizeStack Z_len Z_len Z_one ?_; exact R0.out))
              exact bodyPost_ret (MA.ret_cell2 rfl rfl rfl (MA.load_rg (R0.out.put rfl) Try.underlying75 rfl Try.sizeStack Z_len)) rfl ⟨up_no hF.out, MA.below_cells (Nat.le_refl _) _ _ _ hb.out⟩
            | true =>
              have OW : Hid _ := fun W => isOfOneWith_any y x W true ho
              cases hah : PL.ahead y x with
              | false =>
                have AO : Hid _ := fun W => isAheadOf_any y x W hpy hpx false hah
                have hF : Hid (upOk xs = false) := up_step hl (by rw [HST.out, ho, hah]; rfl)
                clear ho hah HST HG hpg WI2 HXX
                refine MR.frame fun A hA => ?_
                have hsz : A.tmps.size = 63 := by rw [hA]; rfl
                have e0 : A.eval (.tmp 0) = .slice (some ⟨b, off, none⟩) xs.length cap := by rw [hA]; rfl
                have f0 := MR.read (t := 0) (by rw [hsz]; decide) e0
                have e5 : A.eval (.tmp 5) = .int .i64 (k : Int) := by rw [hA]; rfl
                have f5 := MR.read (t := 5) (by rw [hsz]; decide) e5
                have e6 : A.eval (.tmp 6) = .pointer (some ⟨wr.heap.size, 0, none⟩) := by rw [hA]; rfl
                have f6 := MR.read (t := 6) (by rw [hsz]; decide) e6
                have HA : Hid (A = _) := hA
                clear hA
                have hS : (fun w' : World => Below W.heap.size W w') (World.drew _) := ((Below.refl _ W).drew)
                refine wp_region_held (S := fun w' : World => Below W.heap.size W w') (by kernel_rfl) ?_
                change wpAnyH _ _ _ _ _ _ _ _ (World.drew _)
                refine MR.takeH (i := 0) (some 22) (x.v) rfl rfl (by kernel_rfl) (by kernel_rfl) (by kernel_rfl) (fun _ _ _ h => h) hS (MR.free rfl) (fun w hw => MA.ex_load rfl (by simp [MR.ev, MR.size, hsz, e0, f0, e5, f5, e6, f6]) (MA.range_below hXr hw hq) Try.underlying62 rfl Try.sizeParcel rfl) ?_
                refine MR.callH (i := 1) (some 23) (38) (#[x.v]) (by kernel_rfl) rfl rfl (MR.free rfl) (by simp [execOp, MR.ev, MR.size, hsz, e0, f0, e5, f5, e6, f6, go_sem]) ?_
                refine Calls.mono (GP.out _) ?_
                rintro e w2 ⟨rfl, hb2⟩
                have hS2 : Below W.heap.size W w2 := hS.trans (hb2.mono hS.size)
                refine ⟨_, rfl, hS2, ?_⟩
                refine MR.takeH (i := 2) (some 24) (.bool false) rfl rfl (by kernel_rfl) (by kernel_rfl) (by kernel_rfl) (fun _ _ _ h => h) hS2 (MR.free rfl) (fun w hw => by simp [execOp, MR.ev, MR.size, hsz, e0, f0, e5, f5, e6, f6, go_sem]) ?_
                refine MR.takeH (i := 3) (some 25) (.bool false) rfl rfl (by kernel_rfl) (by kernel_rfl) (by kernel_rfl) (fun _ _ _ h => h) hS2 (MR.free rfl) (fun w hw => by simp [execOp, MR.ev, MR.size, hsz, e0, f0, e5, f5, e6, f6, go_sem]) ?_
                refine MR.takeH (i := 4) (some 26) (.int .i64 (k : Int)) rfl rfl (by kernel_rfl) (by kernel_rfl) (by kernel_rfl) (fun _ _ _ h => h) hS2 (MR.want (d := 25) rfl rfl (by simp [MR.size, hsz]) (by simp [MR.ev, MR.size, hsz, e0, f0, e5, f5, e6, f6])) (fun w hw => by simp [execOp, MR.ev, MR.size, hsz, e0, f0, e5, f5, e6, f6, go_sem]) ?_
                refine MR.takeH (i := 5) (some 27) (.bool true) rfl rfl (by kernel_rfl) (by kernel_rfl) (by kernel_rfl) (fun _ _ _ h => h) hS2 (MR.want (d := 25) rfl rfl (by simp [MR.size, hsz]) (by simp [MR.ev, MR.size, hsz, e0, f0, e5, f5, e6, f6])) (fun w hw => by simp [execOp, MR.ev, MR.size, hsz, e0, f0, e5, f5, e6, f6, hgt, go_sem]) ?_
                refine MR.takeH (i := 6) (some 28) (.bool true) rfl rfl (by kernel_rfl) (by kernel_rfl) (by kernel_rfl) (fun _ _ _ h => h) hS2 (MR.want (d := 25) rfl rfl (by simp [MR.size, hsz]) (by simp [MR.ev, MR.size, hsz, e0, f0, e5, f5, e6, f6])) (fun w hw => by simp [execOp, MR.ev, MR.size, hsz, e0, f0, e5, f5, e6, f6, go_sem]) ?_
                refine MR.takeH (i := 7) (some 29) (.slice (some ⟨b, off, none⟩) xs.length cap) rfl rfl (by kernel_rfl) (by kernel_rfl) (by kernel_rfl) (fun _ _ _ h => h) hS2 (MR.want (d := 28) rfl rfl (by simp [MR.size, hsz]) (by simp [MR.ev, MR.size, hsz, e0, f0, e5, f5, e6, f6])) (fun w hw => by simp [execOp, MR.ev, MR.size, hsz, e0, f0, e5, f5, e6, f6, go_sem]) ?_
                refine MR.takeH (i := 8) (some 30) (.int .i64 (k : Int)) rfl rfl (by kernel_rfl) (by kernel_rfl) (by kernel_rfl) (fun _ _ _ h => h) hS2 (MR.want (d := 28) rfl rfl (by simp [MR.size, hsz]) (by simp [MR.ev, MR.size, hsz, e0, f0, e5, f5, e6, f6])) (fun w hw => by simp [execOp, MR.ev, MR.size, hsz, e0, f0, e5, f5, e6, f6, go_sem]) ?_
                refine MR.takeH (i := 9) (some 31) (.int .i64 (k' : Int)) rfl rfl (by kernel_rfl) (by kernel_rfl) (by kernel_rfl) (fun _ _ _ h => h) hS2 (MR.want (d := 28) rfl rfl (by simp [MR.size, hsz]) (by simp [MR.ev, MR.size, hsz, e0, f0, e5, f5, e6, f6])) (fun w hw => by simp [execOp, MR.ev, MR.size, hsz, e0, f0, e5, f5, e6, f6, hk1, hk2, go_sem]) ?_
                refine MR.takeH (i := 10) (some 32) (.pointer (some ⟨b, off + k' * 10, none⟩)) rfl rfl (by kernel_rfl) (by kernel_rfl) (by kernel_rfl) (fun _ _ _ h => h) hS2 (MR.want (d := 28) rfl rfl (by simp [MR.size, hsz]) (by simp [MR.ev, MR.size, hsz, e0, f0, e5, f5, e6, f6])) (fun w hw => by simp [execOp, MR.ev, MR.size, hsz, e0, f0, e5, f5, e6, f6, hk3, hk4, go_sem]) ?_
                refine MR.takeH (i := 11) (some 33) (y.v) rfl rfl (by kernel_rfl) (by kernel_rfl) (by kernel_rfl) (fun _ _ _ h => h) hS2 (MR.want (d := 28) rfl rfl (by simp [MR.size, hsz]) (by simp [MR.ev, MR.size, hsz, e0, f0, e5, f5, e6, f6])) (fun w hw => MA.ex_load rfl (by simp [MR.ev, MR.size, hsz, e0, f0, e5, f5, e6, f6]) (MA.range_below hYr hw hbl) Try.underlying62 rfl Try.sizeParcel rfl) ?_
                refine MR.takeH (i := 12) (some 34) (x.v) rfl rfl (by kernel_rfl) (by kernel_rfl) (by kernel_rfl) (fun _ _ _ h => h) hS2 (MR.want (d := 28) rfl rfl (by simp [MR.size, hsz]) (by simp [MR.ev, MR.size, hsz, e0, f0, e5, f5, e6, f6])) (fun w hw => MA.ex_load rfl (by simp [MR.ev, MR.size, hsz, e0, f0, e5, f5, e6, f6]) (MA.range_below hXr hw hq) Try.underlying62 rfl Try.sizeParcel rfl) ?_
                refine MR.callH (i := 13) (some 35) (63) (#[y.v, x.v]) (by kernel_rfl) rfl rfl (MR.want (d := 28) rfl rfl (by simp [MR.size, hsz]) (by simp [MR.ev, MR.size, hsz, e0, f0, e5, f5, e6, f6])) (by simp [execOp, MR.ev, MR.size, hsz, e0, f0, e5, f5, e6, f6, go_sem]) ?_
                refine Calls.mono (OW.out _) ?_
                rintro e w3 ⟨rfl, hb3⟩
                have hS3 : Below W.heap.size W w3 := hS2.trans (hb3.mono hS2.size)
                refine ⟨_, rfl, hS3, ?_⟩
                refine MR.takeH (i := 14) (some 36) (.bool true) rfl rfl (by kernel_rfl) (by kernel_rfl) (by kernel_rfl) (fun _ _ _ h => h) hS3 (MR.want (d := 28) rfl rfl (by simp [MR.size, hsz]) (by simp [MR.ev, MR.size, hsz, e0, f0, e5, f5, e6, f6])) (fun w hw => by simp [execOp, MR.ev, MR.size, hsz, e0, f0, e5, f5, e6, f6, go_sem]) ?_
                refine MR.takeH (i := 15) (some 37) (.slice (some ⟨b, off, none⟩) xs.length cap) rfl rfl (by kernel_rfl) (by kernel_rfl) (by kernel_rfl) (fun _ _ _ h => h) hS3 (MR.want (d := 36) rfl rfl (by simp [MR.size, hsz]) (by simp [MR.ev, MR.size, hsz, e0, f0, e5, f5, e6, f6])) (fun w hw => by simp [execOp, MR.ev, MR.size, hsz, e0, f0, e5, f5, e6, f6, go_sem]) ?_
                refine MR.takeH (i := 16) (some 38) (.int .i64 (k : Int)) rfl rfl (by kernel_rfl) (by kernel_rfl) (by kernel_rfl) (fun _ _ _ h => h) hS3 (MR.want (d := 36) rfl rfl (by simp [MR.size, hsz]) (by simp [MR.ev, MR.size, hsz, e0, f0, e5, f5, e6, f6])) (fun w hw => by simp [execOp, MR.ev, MR.size, hsz, e0, f0, e5, f5, e6, f6, go_sem]) ?_
                refine MR.takeH (i := 17) (some 39) (.int .i64 (k' : Int)) rfl rfl (by kernel_rfl) (by kernel_rfl) (by kernel_rfl) (fun _ _ _ h => h) hS3 (MR.want (d := 36) rfl rfl (by simp [MR.size, hsz]) (by simp [MR.ev, MR.size, hsz, e0, f0, e5, f5, e6, f6])) (fun w hw => by simp [execOp, MR.ev, MR.size, hsz, e0, f0, e5, f5, e6, f6, hk1, hk2, go_sem]) ?_
                refine MR.takeH (i := 18) (some 40) (.pointer (some ⟨b, off + k' * 10, none⟩)) rfl rfl (by kernel_rfl) (by kernel_rfl) (by kernel_rfl) (fun _ _ _ h => h) hS3 (MR.want (d := 36) rfl rfl (by simp [MR.size, hsz]) (by simp [MR.ev, MR.size, hsz, e0, f0, e5, f5, e6, f6])) (fun w hw => by simp [execOp, MR.ev, MR.size, hsz, e0, f0, e5, f5, e6, f6, hk3, hk4, go_sem]) ?_
                refine MR.takeH (i := 19) (some 41) (y.v) rfl rfl (by kernel_rfl) (by kernel_rfl) (by kernel_rfl) (fun _ _ _ h => h) hS3 (MR.want (d := 36) rfl rfl (by simp [MR.size, hsz]) (by simp [MR.ev, MR.size, hsz, e0, f0, e5, f5, e6, f6])) (fun w hw => MA.ex_load rfl (by simp [MR.ev, MR.size, hsz, e0, f0, e5, f5, e6, f6]) (MA.range_below hYr hw hbl) Try.underlying62 rfl Try.sizeParcel rfl) ?_
                refine MR.takeH (i := 20) (some 42) (x.v) rfl rfl (by kernel_rfl) (by kernel_rfl) (by kernel_rfl) (fun _ _ _ h => h) hS3 (MR.want (d := 36) rfl rfl (by simp [MR.size, hsz]) (by simp [MR.ev, MR.size, hsz, e0, f0, e5, f5, e6, f6])) (fun w hw => MA.ex_load rfl (by simp [MR.ev, MR.size, hsz, e0, f0, e5, f5, e6, f6]) (MA.range_below hXr hw hq) Try.underlying62 rfl Try.sizeParcel rfl) ?_
                refine MR.callH (i := 21) (some 43) (64) (#[y.v, x.v]) (by kernel_rfl) rfl rfl (MR.want (d := 36) rfl rfl (by simp [MR.size, hsz]) (by simp [MR.ev, MR.size, hsz, e0, f0, e5, f5, e6, f6])) (by simp [execOp, MR.ev, MR.size, hsz, e0, f0, e5, f5, e6, f6, go_sem]) ?_
                refine Calls.mono (AO.out _) ?_
                rintro e w4 ⟨rfl, hb4⟩
                have hS4 : Below W.heap.size W w4 := hS3.trans (hb4.mono hS3.size)
                refine ⟨_, rfl, hS4, ?_⟩
                refine MR.takeH (i := 22) (some 44) (.bool false) rfl rfl (by kernel_rfl) (by kernel_rfl) (by kernel_rfl) (fun _ _ _ h => h) hS4 (MR.want (d := 28) rfl rfl (by simp [MR.size, hsz]) (by simp [MR.ev, MR.size, hsz, e0, f0, e5, f5, e6, f6])) (fun w hw => by simp [execOp, MR.ev, MR.size, hsz, e0, f0, e5, f5, e6, f6, go_sem]) ?_
                refine MR.takeH (i := 23) (some 45) (.bool true) rfl rfl (by kernel_rfl) (by kernel_rfl) (by kernel_rfl) (fun _ _ _ h => h) hS4 (MR.want (d := 28) rfl rfl (by simp [MR.size, hsz]) (by simp [MR.ev, MR.size, hsz, e0, f0, e5, f5, e6, f6])) (fun w hw => by simp [execOp, MR.ev, MR.size, hsz, e0, f0, e5, f5, e6, f6, go_sem]) ?_
                refine MR.takeH (i := 24) (some 46) (.bool true) rfl rfl (by kernel_rfl) (by kernel_rfl) (by kernel_rfl) (fun _ _ _ h => h) hS4 (MR.want (d := 25) rfl rfl (by simp [MR.size, hsz]) (by simp [MR.ev, MR.size, hsz, e0, f0, e5, f5, e6, f6])) (fun w hw => by simp [execOp, MR.ev, MR.size, hsz, e0, f0, e5, f5, e6, f6, go_sem]) ?_
                refine MR.takeH (i := 25) (some 47) (.bool true) rfl rfl (by kernel_rfl) (by kernel_rfl) (by kernel_rfl) (fun _ _ _ h => h) hS4 (MR.free rfl) (fun w hw => by simp [execOp, MR.ev, MR.size, hsz, e0, f0, e5, f5, e6, f6, go_sem]) ?_
                refine wpAnyH_done (by kernel_rfl) ?_ _
                have hB7 : Below W.heap.size W w4 := hS4
                rw [HA.out]
                clear hS hS2 hS3 hS4 HA e0 e5 e6 f0 f5 f6 hsz hb2 hb3 hb4 hk1 hk2 hk3 hk4 hgt hYr GP OW AO
                generalize w4 = W7 at *
                simp only [Act.put, List.setIfInBounds_toArray, List.set_cons_succ, List.set_cons_zero]
                have R0 : Hid _ := (hI.kept hB7).res
                have hb : Hid _ := (hI.kept hB7).below
                clear hI hB7 hXr hU
                go_wp2_with (first
                  | (refine MA.build_p rfl 75 rfl [] (by simp) Try.builtStack0 ?_)
                  | (refine MA.store_m rfl 75 _ _ rfl rfl rfl (cs := (stF (.slice none 0 0) PL.blank)) ?_ Try.sizeStack Z_len Z_len Z_one ?_; exact R0.out))
                exact bodyPost_ret (MA.ret_cell2 rfl rfl rfl (MA.load_rg (R0.out.put rfl) Try.underlying75 rfl Try.sizeStack Z_len)) rfl ⟨up_no hF.out, MA.below_cells (Nat.le_refl _) _ _ _ hb.out⟩
              | true =>
                have AO : Hid _ := fun W => isAheadOf_any y x W hpy hpx true hah
                replace HST : Hid (PL.stepI xs k = PL.fits (PL.sh xs k) x) := by show _ = _; rw [HST.out, ho, hah]; rfl
                clear ho hah hpg
                refine MR.frame fun A hA => ?_
                have hsz : A.tmps.size = 63 := by rw [hA]; rfl
                have e0 : A.eval (.tmp 0) = .slice (some ⟨b, off, none⟩) xs.length cap := by rw [hA]; rfl
                have f0 := MR.read (t := 0) (by rw [hsz]; decide) e0
                have e5 : A.eval (.tmp 5) = .int .i64 (k : Int) := by rw [hA]; rfl
                have f5 := MR.read (t := 5) (by rw [hsz]; decide) e5
                have e6 : A.eval (.tmp 6) = .pointer (some ⟨wr.heap.size, 0, none⟩) := by rw [hA]; rfl
                have f6 := MR.read (t := 6) (by rw [hsz]; decide) e6
                have HA : Hid (A = _) := hA
                clear hA
                have hS : (fun w' : World => Below W.heap.size W w') (World.drew _) := ((Below.refl _ W).drew)
                refine wp_region_held (S := fun w' : World => Below W.heap.size W w') (by kernel_rfl) ?_
                change wpAnyH _ _ _ _ _ _ _ _ (World.drew _)
                refine MR.takeH (i := 0) (some 22) (x.v) rfl rfl (by kernel_rfl) (by kernel_rfl) (by kernel_rfl) (fun _ _ _ h => h) hS (MR.free rfl) (fun w hw => MA.ex_load rfl (by simp [MR.ev, MR.size, hsz, e0, f0, e5, f5, e6, f6]) (MA.range_below hXr hw hq) Try.underlying62 rfl Try.sizeParcel rfl) ?_
                refine MR.callH (i := 1) (some 23) (38) (#[x.v]) (by kernel_rfl) rfl rfl (MR.free rfl) (by simp [execOp, MR.ev, MR.size, hsz, e0, f0, e5, f5, e6, f6, go_sem]) ?_
                refine Calls.mono (GP.out _) ?_
                rintro e w2 ⟨rfl, hb2⟩
                have hS2 : Below W.heap.size W w2 := hS.trans (hb2.mono hS.size)
                refine ⟨_, rfl, hS2, ?_⟩
                refine MR.takeH (i := 2) (some 24) (.bool false) rfl rfl (by kernel_rfl) (by kernel_rfl) (by kernel_rfl) (fun _ _ _ h => h) hS2 (MR.free rfl) (fun w hw => by simp [execOp, MR.ev, MR.size, hsz, e0, f0, e5, f5, e6, f6, go_sem]) ?_
                refine MR.takeH (i := 3) (some 25) (.bool false) rfl rfl (by kernel_rfl) (by kernel_rfl) (by kernel_rfl) (fun _ _ _ h => h) hS2 (MR.free rfl) (fun w hw => by simp [execOp, MR.ev, MR.size, hsz, e0, f0, e5, f5, e6, f6, go_sem]) ?_
                refine MR.takeH (i := 4) (some 26) (.int .i64 (k : Int)) rfl rfl (by kernel_rfl) (by kernel_rfl) (by kernel_rfl) (fun _ _ _ h => h) hS2 (MR.want (d := 25) rfl rfl (by simp [MR.size, hsz]) (by simp [MR.ev, MR.size, hsz, e0, f0, e5, f5, e6, f6])) (fun w hw => by simp [execOp, MR.ev, MR.size, hsz, e0, f0, e5, f5, e6, f6, go_sem]) ?_
                refine MR.takeH (i := 5) (some 27) (.bool true) rfl rfl (by kernel_rfl) (by kernel_rfl) (by kernel_rfl) (fun _ _ _ h => h) hS2 (MR.want (d := 25) rfl rfl (by simp [MR.size, hsz]) (by simp [MR.ev, MR.size, hsz, e0, f0, e5, f5, e6, f6])) (fun w hw => by simp [execOp, MR.ev, MR.size, hsz, e0, f0, e5, f5, e6, f6, hgt, go_sem]) ?_
                refine MR.takeH (i := 6) (some 28) (.bool true) rfl rfl (by kernel_rfl) (by kernel_rfl) (by kernel_rfl) (fun _ _ _ h => h) hS2 (MR.want (d := 25) rfl rfl (by simp [MR.size, hsz]) (by simp [MR.ev, MR.size, hsz, e0, f0, e5, f5, e6, f6])) (fun w hw => by simp [execOp, MR.ev, MR.size, hsz, e0, f0, e5, f5, e6, f6, go_sem]) ?_
                refine MR.takeH (i := 7) (some 29) (.slice (some ⟨b, off, none⟩) xs.length cap) rfl rfl (by kernel_rfl) (by kernel_rfl) (by kernel_rfl) (fun _ _ _ h => h) hS2 (MR.want (d := 28) rfl rfl (by simp [MR.size, hsz]) (by simp [MR.ev, MR.size, hsz, e0, f0, e5, f5, e6, f6])) (fun w hw => by simp [execOp, MR.ev, MR.size, hsz, e0, f0, e5, f5, e6, f6, go_sem]) ?_
                refine MR.takeH (i := 8) (some 30) (.int .i64 (k : Int)) rfl rfl (by kernel_rfl) (by kernel_rfl) (by kernel_rfl) (fun _ _ _ h => h) hS2 (MR.want (d := 28) rfl rfl (by simp [MR.size, hsz]) (by simp [MR.ev, MR.size, hsz, e0, f0, e5, f5, e6, f6])) (fun w hw => by simp [execOp, MR.ev, MR.size, hsz, e0, f0, e5, f5, e6, f6, go_sem]) ?_
                refine MR.takeH (i := 9) (some 31) (.int .i64 (k' : Int)) rfl rfl (by kernel_rfl) (by kernel_rfl) (by kernel_rfl) (fun _ _ _ h => h) hS2 (MR.want (d := 28) rfl rfl (by simp [MR.size, hsz]) (by simp [MR.ev, MR.size, hsz, e0, f0, e5, f5, e6, f6])) (fun w hw => by simp [execOp, MR.ev, MR.size, hsz, e0, f0, e5, f5, e6, f6, hk1, hk2, go_sem]) ?_
                refine MR.takeH (i := 10) (some 32) (.pointer (some ⟨b, off + k' * 10, none⟩)) rfl rfl (by kernel_rfl) (by kernel_rfl) (by kernel_rfl) (fun _ _ _ h => h) hS2 (MR.want (d := 28) rfl rfl (by simp [MR.size, hsz]) (by simp [MR.ev, MR.size, hsz, e0, f0, e5, f5, e6, f6])) (fun w hw => by simp [execOp, MR.ev, MR.size, hsz, e0, f0, e5, f5, e6, f6, hk3, hk4, go_sem]) ?_
                refine MR.takeH (i := 11) (some 33) (y.v) rfl rfl (by kernel_rfl) (by kernel_rfl) (by kernel_rfl) (fun _ _ _ h => h) hS2 (MR.want (d := 28) rfl rfl (by simp [MR.size, hsz]) (by simp [MR.ev, MR.size, hsz, e0, f0, e5, f5, e6, f6])) (fun w hw => MA.ex_load rfl (by simp [MR.ev, MR.size, hsz, e0, f0, e5, f5, e6, f6]) (MA.range_below hYr hw hbl) Try.underlying62 rfl Try.sizeParcel rfl) ?_
                refine MR.takeH (i := 12) (some 34) (x.v) rfl rfl (by kernel_rfl) (by kernel_rfl) (by kernel_rfl) (fun _ _ _ h => h) hS2 (MR.want (d := 28) rfl rfl (by simp [MR.size, hsz]) (by simp [MR.ev, MR.size, hsz, e0, f0, e5, f5, e6, f6])) (fun w hw => MA.ex_load rfl (by simp [MR.ev, MR.size, hsz, e0, f0, e5, f5, e6, f6]) (MA.range_below hXr hw hq) Try.underlying62 rfl Try.sizeParcel rfl) ?_
                refine MR.callH (i := 13) (some 35) (63) (#[y.v, x.v]) (by kernel_rfl) rfl rfl (MR.want (d := 28) rfl rfl (by simp [MR.size, hsz]) (by simp [MR.ev, MR.size, hsz, e0, f0, e5, f5, e6, f6])) (by simp [execOp, MR.ev, MR.size, hsz, e0, f0, e5, f5, e6, f6, go_sem]) ?_
                refine Calls.mono (OW.out _) ?_
                rintro e w3 ⟨rfl, hb3⟩
                have hS3 : Below W.heap.size W w3 := hS2.trans (hb3.mono hS2.size)
                refine ⟨_, rfl, hS3, ?_⟩
                refine MR.takeH (i := 14) (some 36) (.bool true) rfl rfl (by kernel_rfl) (by kernel_rfl) (by kernel_rfl) (fun _ _ _ h => h) hS3 (MR.want (d := 28) rfl rfl (by simp [MR.size, hsz]) (by simp [MR.ev, MR.size, hsz, e0, f0, e5, f5, e6, f6])) (fun w hw => by simp [execOp, MR.ev, MR.size, hsz, e0, f0, e5, f5, e6, f6, go_sem]) ?_
                refine MR.takeH (i := 15) (some 37) (.slice (some ⟨b, off, none⟩) xs.length cap) rfl rfl (by kernel_rfl) (by kernel_rfl) (by kernel_rfl) (fun _ _ _ h => h) hS3 (MR.want (d := 36) rfl rfl (by simp [MR.size, hsz]) (by simp [MR.ev, MR.size, hsz, e0, f0, e5, f5, e6, f6])) (fun w hw => by simp [execOp, MR.ev, MR.size, hsz, e0, f0, e5, f5, e6, f6, go_sem]) ?_
                refine MR.takeH (i := 16) (some 38) (.int .i64 (k : Int)) rfl rfl (by kernel_rfl) (by kernel_rfl) (by kernel_rfl) (fun _ _ _ h => h) hS3 (MR.want (d := 36) rfl rfl (by simp [MR.size, hsz]) (by simp [MR.ev, MR.size, hsz, e0, f0, e5, f5, e6, f6])) (fun w hw => by simp [execOp, MR.ev, MR.size, hsz, e0, f0, e5, f5, e6, f6, go_sem]) ?_
                refine MR.takeH (i := 17) (some 39) (.int .i64 (k' : Int)) rfl rfl (by kernel_rfl) (by kernel_rfl) (by kernel_rfl) (fun _ _ _ h => h) hS3 (MR.want (d := 36) rfl rfl (by simp [MR.size, hsz]) (by simp [MR.ev, MR.size, hsz, e0, f0, e5, f5, e6, f6])) (fun w hw => by simp [execOp, MR.ev, MR.size, hsz, e0, f0, e5, f5, e6, f6, hk1, hk2, go_sem]) ?_
                refine MR.takeH (i := 18) (some 40) (.pointer (some ⟨b, off + k' * 10, none⟩)) rfl rfl (by kernel_rfl) (by kernel_rfl) (by kernel_rfl) (fun _ _ _ h => h) hS3 (MR.want (d := 36) rfl rfl (by simp [MR.size, hsz]) (by simp [MR.ev, MR.size, hsz, e0, f0, e5, f5, e6, f6])) (fun w hw => by simp [execOp, MR.ev, MR.size, hsz, e0, f0, e5, f5, e6, f6, hk3, hk4, go_sem]) ?_
                refine MR.takeH (i := 19) (some 41) (y.v) rfl rfl (by kernel_rfl) (by kernel_rfl) (by kernel_rfl) (fun _ _ _ h => h) hS3 (MR.want (d := 36) rfl rfl (by simp [MR.size, hsz]) (by simp [MR.ev, MR.size, hsz, e0, f0, e5, f5, e6, f6])) (fun w hw => MA.ex_load rfl (by simp [MR.ev, MR.size, hsz, e0, f0, e5, f5, e6, f6]) (MA.range_below hYr hw hbl) Try.underlying62 rfl Try.sizeParcel rfl) ?_
                refine MR.takeH (i := 20) (some 42) (x.v) rfl rfl (by kernel_rfl) (by kernel_rfl) (by kernel_rfl) (fun _ _ _ h => h) hS3 (MR.want (d := 36) rfl rfl (by simp [MR.size, hsz]) (by simp [MR.ev, MR.size, hsz, e0, f0, e5, f5, e6, f6])) (fun w hw => MA.ex_load rfl (by simp [MR.ev, MR.size, hsz, e0, f0, e5, f5, e6, f6]) (MA.range_below hXr hw hq) Try.underlying62 rfl Try.sizeParcel rfl) ?_
                refine MR.callH (i := 21) (some 43) (64) (#[y.v, x.v]) (by kernel_rfl) rfl rfl (MR.want (d := 36) rfl rfl (by simp [MR.size, hsz]) (by simp [MR.ev, MR.size, hsz, e0, f0, e5, f5, e6, f6])) (by simp [execOp, MR.ev, MR.size, hsz, e0, f0, e5, f5, e6, f6, go_sem]) ?_
                refine Calls.mono (AO.out _) ?_
                rintro e w4 ⟨rfl, hb4⟩
                have hS4 : Below W.heap.size W w4 := hS3.trans (hb4.mono hS3.size)
                refine ⟨_, rfl, hS4, ?_⟩
                refine MR.takeH (i := 22) (some 44) (.bool true) rfl rfl (by kernel_rfl) (by kernel_rfl) (by kernel_rfl) (fun _ _ _ h => h) hS4 (MR.want (d := 28) rfl rfl (by simp [MR.size, hsz]) (by simp [MR.ev, MR.size, hsz, e0, f0, e5, f5, e6, f6])) (fun w hw => by simp [execOp, MR.ev, MR.size, hsz, e0, f0, e5, f5, e6, f6, go_sem]) ?_
                refine MR.takeH (i := 23) (some 45) (.bool false) rfl rfl (by kernel_rfl) (by kernel_rfl) (by kernel_rfl) (fun _ _ _ h => h) hS4 (MR.want (d := 28) rfl rfl (by simp [MR.size, hsz]) (by simp [MR.ev, MR.size, hsz, e0, f0, e5, f5, e6, f6])) (fun w hw => by simp [execOp, MR.ev, MR.size, hsz, e0, f0, e5, f5, e6, f6, go_sem]) ?_
                refine MR.takeH (i := 24) (some 46) (.bool false) rfl rfl (by kernel_rfl) (by kernel_rfl) (by kernel_rfl) (fun _ _ _ h => h) hS4 (MR.want (d := 25) rfl rfl (by simp [MR.size, hsz]) (by simp [MR.ev, MR.size, hsz, e0, f0, e5, f5, e6, f6])) (fun w hw => by simp [execOp, MR.ev, MR.size, hsz, e0, f0, e5, f5, e6, f6, go_sem]) ?_
                refine MR.takeH (i := 25) (some 47) (.bool false) rfl rfl (by kernel_rfl) (by kernel_rfl) (by kernel_rfl) (fun _ _ _ h => h) hS4 (MR.free rfl) (fun w hw => by simp [execOp, MR.ev, MR.size, hsz, e0, f0, e5, f5, e6, f6, go_sem]) ?_
                refine wpAnyH_done (by kernel_rfl) ?_ _
                have hB7 : Below W.heap.size W w4 := hS4
                rw [HA.out]
                clear hS hS2 hS3 hS4 HA e0 e5 e6 f0 f5 f6 hsz hb2 hb3 hb4 hk1 hk2 hk3 hk4 hgt hYr GP OW AO
                generalize w4 = W7 at *
                simp only [Act.put, List.setIfInBounds_toArray, List.set_cons_succ, List.set_cons_zero]
                have HI : Hid _ := hI.kept hB7
                have HX7 : Hid _ := MA.range_below hXr hB7 hq
                have hs7 := hB7.size
                clear hI hB7 hXr
                go_wp2_with (first
                  | (refine MA.load_m rfl 73 _ rfl rfl (cs := MA.sF (PL.sh xs k)) ?_ Try.underlying73 rfl Try.sizeSheet (MA.sF_len _) ?_; exact HI.out.sht)
                  | (refine MA.load_r rfl 62 _ rfl rfl (cs := x.cs) ?_ Try.underlying62 rfl Try.sizeParcel rfl ?_; exact HX7.out))
                refine Calls.mono (WI2.out _) ?_
                rintro e w9 ⟨rfl, hb9⟩
                have HI9 : Hid _ := HI.out.kept hb9
                have HN : Hid _ := new_sheet w9 (PL.lay (PL.sh xs k) x) 73
                have RN : Hid _ := MA.Rg.new w9 (MA.sF PL.blank) 73
                clear HI HX7 WI2 hb9 hs7
                cases hf : PL.fits (PL.sh xs k) x
                · have hF : Hid (upOk xs = false) := up_step hl (HST.out.trans hf)
                  clear hf HST HG HXX hU
                  go_wp2_with (first
                    | (refine MA.alloc_z rfl 73 rfl _ _ Try.infoSheet ?_; simp only [MA.sz_alloc])
                    | (refine MA.store_m rfl 73 _ _ rfl rfl rfl (cs := MA.sF PL.blank) ?_ Try.sizeSheet (MA.sF_len _) (MA.sF_len _) (MA.sF_one _) ?_; exact RN.out; clear RN; generalize World.setCells _ _ _ _ = W9 at *)
                    | (refine MA.build_p rfl 75 rfl [] (by simp) Try.builtStack0 ?_)
                    | (refine MA.store_m rfl 75 _ _ rfl rfl rfl (cs := (stF (.slice none 0 0) PL.blank)) ?_ Try.sizeStack Z_len Z_len Z_one ?_; exact (HI9.out.kept HN.out.1).res))
                  exact bodyPost_ret (MA.ret_cell2 rfl rfl rfl (MA.load_rg ((HI9.out.kept HN.out.1).res.put rfl) Try.underlying75 rfl Try.sizeStack Z_len)) rfl ⟨up_no hF.out, MA.below_cells (Nat.le_refl _) _ _ _ (HI9.out.kept HN.out.1).below⟩
                · have hU' : Hid (PL.upto (PL.stepI xs) (k + 1) = true) := PL.upto_succ hU.out (HST.out.trans hf)
                  have hsh : Hid (PL.lay (PL.sh xs k) x = PL.sh xs (k + 1)) := by show _ = _; rw [PL.sh_succ xs k hl, HXX.out]
                  clear hf HST HG hU HXX
                  go_wp2_with (first
                    | (refine MA.alloc_z rfl 73 rfl _ _ Try.infoSheet ?_; simp only [MA.sz_alloc])
                    | (refine MA.store_m rfl 73 _ _ rfl rfl rfl (cs := MA.sF PL.blank) ?_ Try.sizeSheet (MA.sF_len _) (MA.sF_len _) (MA.sF_one _) ?_; exact RN.out; clear RN; generalize World.setCells _ _ _ _ = W9 at *)
                    | (refine MA.load_m rfl 73 _ rfl rfl (cs := MA.sF (PL.lay (PL.sh xs k) x)) ?_ Try.underlying73 rfl Try.sizeSheet (MA.sF_len _) ?_; exact HN.out.2)
                    | (refine MA.store_m rfl 73 _ _ rfl rfl rfl (cs := MA.sF (PL.sh xs k)) ?_ Try.sizeSheet (MA.sF_len _) (MA.sF_len _) (MA.sF_one _) ?_; exact (HI9.out.kept HN.out.1).sht; replace HI9 : Hid _ := (HI9.out.kept HN.out.1).laid (PL.lay (PL.sh xs k) x); clear HN; generalize World.setCells _ _ _ _ = W10 at *))
                  have hI10 := HI9.out
                  rw [hsh.out] at hI10
                  go_roundw
                  case rel => exact ⟨k + 1, by go_num, by omega, hU', hI10⟩
                  case measure => simp [intOf]; omega
      · obtain rfl : k = xs.length := by omega
        have hT : Hid (upOk xs = true) := by simp [Hid, upOk, h60, hU.out]
        have R0 : Hid _ := hI.res
        have R1 : Hid _ := hI.all
        have hb : Hid _ := hI.below
        clear hI hU
        go_wp2_with (first
          | (refine MA.load_m rfl 75 _ rfl rfl (cs := stF (.slice a xs.length cap) (PL.sh xs xs.length)) ?_ Try.underlying75 rfl Try.sizeStack (st_len _ _ _ _) ?_; exact R1.out)
          | (refine MA.store_m rfl 75 _ _ rfl rfl rfl (cs := stF (.slice none 0 0) PL.blank) ?_ Try.sizeStack Z_len (st_len _ _ _ _) (st_one _ _ _ _) ?_; exact R0.out))
        exact bodyPost_ret (MA.ret_cell2 rfl rfl rfl (MA.load_rg (R0.out.put (by rw [Z_len, st_len])) Try.underlying75 rfl Try.sizeStack (st_len _ _ _ _))) rfl ⟨up_yes hT.out, MA.below_cells (Nat.le_refl _) _ _ _ hb.out⟩
  · have hF : Hid (upOk xs = false) := by simp [Hid, upOk, h60]
    have R0 : Hid (MA.Rg (w.alloc (.cells (stF (.slice none 0 0) PL.blank).toArray 75)) w.heap.size 0 (stF (.slice none 0 0) PL.blank)) := MA.Rg.new w (stF (.slice none 0 0) PL.blank) 75
    go_enter Try.func42, Try.ntmps42
    go_wp2_with (first
      | (refine MA.alloc_z rfl 75 rfl _ _ Try.infoStack' ?_; simp only [MA.sz_alloc])
      | (refine MA.build_p rfl 75 rfl [] (by simp) Try.builtStack0 ?_)
      | (refine MA.store_m rfl 75 _ _ rfl rfl rfl (cs := (stF (.slice none 0 0) PL.blank)) ?_ Try.sizeStack Z_len Z_len Z_one ?_; exact R0.out))
    exact bodyPost_ret (MA.ret_cell2 rfl rfl rfl (MA.load_rg (R0.out.put rfl) Try.underlying75 rfl Try.sizeStack Z_len)) rfl ⟨up_no hF.out, MA.below_cells (Nat.le_refl _) _ _ _ ((Below.refl _ w).alloc (Nat.le_refl _) _)⟩
end Go.Proofs.Ytdgflhgbcfehhaa

/- stackOf: a pile's pieces as parcels, laid on one sheet. -/
namespace Go.Proofs.Ytdgflhgbcfehhaa
open Go.RowKit
theorem Try.infoParcelB : (Try.prog.info? 62).map (fun i => (i.zero, i.size, i.bytes)) = some (some (.agg (Bd.cs B1.zero).toArray), 10, 88) := by kernel_rfl
/-- What the memory of the call holds. -/
structure OfIn (w W : World) (a : Option Addr) (xs : List Bd) (cap : Nat) (cs : List Value) : Prop where
  below : Below w.heap.size w W
  arg : W.cell? ⟨w.heap.size, 0, none⟩ = some (.slice a xs.length cap)
  res : MA.Rg W (w.heap.size + 1) 0 (stF (.slice none 0 0) PL.blank)
  row : MA.Rg W (w.heap.size + 1 + 1) 0 cs
theorem OfIn.kept {w W W' : World} {a : Option Addr} {xs : List Bd} {cap : Nat} {cs : List Value} (h : OfIn w W a xs cap cs) (hb : Below W.heap.size W W') : OfIn w W' a xs cap cs := by
  have := h.res.lt
  exact ⟨h.below.trans (hb.mono h.below.size), (hb.cell (p := ⟨w.heap.size, 0, none⟩) (by show w.heap.size < _; omega)).trans h.arg, h.res.below hb h.res.lt, h.row.below hb h.row.lt⟩
theorem OfIn.put {w W : World} {a : Option Addr} {xs : List Bd} {cap k : Nat} {m : List Value} (h : OfIn w W a xs cap (MP.mix xs m k)) (hm : m.length = xs.length * 10) (hk : k < xs.length) : OfIn w (W.setCells (w.heap.size + 1 + 1) (k * 10) (MP.at_ xs k).cs) a xs cap (MP.mix xs m (k + 1)) := by
  have hl := MP.mix_len xs m k hm (by omega)
  have hc : (MP.at_ xs k).cs.length = 10 := rfl
  have q := h.row.mid (p := k * 10) (vs := (MP.at_ xs k).cs) (by omega)
  rw [MA.mix_mid xs m k hm hk, Nat.zero_add] at q
  refine ⟨MA.below_cells (by omega) _ _ _ h.below, ?_, h.res.other (.inl (by omega)), q⟩
  rw [World.cell?_setCells_out _ _ _ _ _ (fun h => by have h' : w.heap.size = w.heap.size + 1 + 1 := h; omega)]
  exact h.arg
theorem upV_len (xs : List Bd) (a : Option Addr) (n c : Nat) : (upV xs (.slice a n c)).length = 121 := by
  unfold upV; split
  · exact st_len _ _ _ _
  · exact Z_len
theorem upV_one (xs : List Bd) (a : Option Addr) (n c : Nat) : ∀ v ∈ upV xs (.slice a n c), v.oneCell' = true := by
  unfold upV; split
  · exact st_one _ _ _ _
  · exact Z_one
theorem row_other {w : World} {g k o : Nat} {xs : List Bd} {vs : List Value} (h : MP.BsAt w (some ⟨g, 0, none⟩) xs) (hne : g ≠ k) : MP.BsAt (w.setCells k o vs) (some ⟨g, 0, none⟩) xs := by
  rcases h with rfl | ⟨b, off, hab, hlt, hc⟩
  · exact .inl rfl
  · cases hab
    have e : ∀ j, (w.setCells k o vs).cell? ⟨g, j, none⟩ = w.cell? ⟨g, j, none⟩ := fun j => World.cell?_setCells_out _ _ _ _ _ (fun h => absurd h hne)
    refine .inr ⟨g, 0, rfl, by rw [MA.setCells_size]; exact hlt, fun j hj => ?_⟩
    simp only [e]
    exact hc j hj
set_option linter.unusedSimpArgs false in
set_option maxHeartbeats 1600000 in
set_option maxRecDepth 100000 in
theorem stackOfG_any (a : Option Addr) (cap : Nat) (xs : List Bd) (w : World) (hn : xs.length ≤ 1048576) (ht : Hid (∀ k, k < xs.length → (MP.at_ xs k).py.size ≤ 1048576)) (hin : MP.BsAt w a xs) :
    Calls Try.prog 39 #[.agg #[.slice a xs.length cap]] w fun e w' => ∃ g, e = .returned (.tuple #[.agg (upV xs (.slice (some ⟨g, 0, none⟩) xs.length xs.length)).toArray, .bool (upOk xs)]) ∧ (upOk xs = true → w.heap.size ≤ g ∧ MP.BsAt w' (some ⟨g, 0, none⟩) xs ∧ g < w'.heap.size) ∧ Below w.heap.size w w' := by
  by_cases h60 : xs.length ≤ 60
  · obtain ⟨i0, hi, hz0, hz1, hz2⟩ := info_parts Try.infoParcelB
    have UP : Hid _ := fun W (h : MP.BsAt W (some ⟨w.heap.size + 1 + 1, 0, none⟩) xs) => stackUp_any (some ⟨w.heap.size + 1 + 1, 0, none⟩) xs.length xs W hn ht h
    go_enter Try.func39, Try.ntmps39
    go_wp2_with (first
      | (refine MA.alloc_z rfl 75 rfl _ _ Try.infoStack' ?_; simp only [MA.sz_alloc])
      | (at_make; refine wpList_make_full _ rfl _ _ 67 rfl (w.heap.size + 1 + 1) 62 i0 (.agg (Bd.cs B1.zero).toArray) 10 Try.underlying67 hi hz0 hz1 .i64 .i64 _ _ xs.length rfl rfl rfl rfl ?_ ?_ ?_ ?_))
    · rw [hz2]; omega
    · unfold maxLen; omega
    · simp
    intro w1 hown hgrow
    have hb0 : Below w.heap.size w ((w.alloc (.cells #[.slice a xs.length cap] 31)).alloc (.cells (stF (.slice none 0 0) PL.blank).toArray 75)) := ((Below.refl _ w).alloc (Nat.le_refl _) _).alloc (by simp) _
    have hb1 : Below w.heap.size w w1 := hb0.grown hgrow (by simp; omega) (fun k hk => by cases hk)
    have hk1 : Below (w.heap.size + 1 + 1) ((w.alloc (.cells #[.slice a xs.length cap] 31)).alloc (.cells (stF (.slice none 0 0) PL.blank).toArray 75)) w1 := (Below.refl _ _).grown hgrow (by simp) (fun k hk => by cases hk)
    have r0 := (MA.Rg.new' (w.alloc (.cells #[.slice a xs.length cap] 31)) (stF (.slice none 0 0) PL.blank) 75 (w.heap.size + 1) (by simp)).below hk1 (by omega)
    have c0 : w1.cell? ⟨w.heap.size, 0, none⟩ = some (.slice a xs.length cap) := (hk1.cell (p := ⟨w.heap.size, 0, none⟩) (by show w.heap.size < _; omega)).trans (by simp)
    have hml := hown.1
    have r1 := MA.Rg.of_own hown
    generalize (madeCells _ _).toList = m at *
    rw [← MP.mix_zero xs m] at r1
    have HM : Hid (m.length = xs.length * 10) := hml
    have HI : Hid (OfIn w w1 a xs cap (MP.mix xs m 0)) := ⟨hb1, c0, r0, r1⟩
    clear hown hgrow hb0 hb1 hk1 r0 r1 hml hi hz0 hz1 hz2
    go_wp2
    clear c0
    go_loopw [19] (fun iv wr => ∃ k : Nat, iv = .int .i64 k ∧ k ≤ xs.length ∧ OfIn w wr a xs cap (MP.mix xs m k)) (fun iv _ => (xs.length - intOf iv).toNat)
    case atStart => exact ⟨0, rfl, by omega, HI.out⟩
    case round =>
      clear HI
      obtain ⟨k, rfl, hk, hI⟩ := hrel
      by_cases hl : k < xs.length
      · obtain ⟨b, off, rfl, hbl0, rg⟩ := MA.row_range (hin.below hI.below) hl
        have RG : Hid _ := rg
        have HI : Hid _ := hI
        obtain ⟨x, hx⟩ : ∃ x, MP.at_ xs k = x := ⟨_, rfl⟩
        rw [hx] at RG
        have HXX : Hid (MP.at_ xs k = x) := hx
        have HW : Hid _ := new_parcel wr x 24
        have RN : Hid _ := MA.Rg.new wr (Bd.cs B1.zero) 24
        have PO : Hid (∀ W, Calls Try.prog 30 #[.agg x.cs.toArray] W fun e w' => e = .returned (.agg x.cs.toArray) ∧ Below W.heap.size W w') := fun W => parcelOf_any x W
        have hk0 : (0 : Int) ≤ (k : Int) := by omega
        have hkn : (k : Int) < (xs.length : Int) := by omega
        clear hx rg hI
        go_wp2_with (first
          | (refine MA.load_r rfl 24 _ rfl rfl (cs := x.cs) ?_ Try.underlying24 rfl Try.sizeBundle rfl ?_; first | exact RG.out | exact HW.out.2.rng)
          | (refine MA.alloc_z rfl 24 rfl _ _ Try.infoBundle ?_; simp only [MA.sz_alloc])
          | (refine MA.store_m rfl 24 _ _ rfl rfl rfl (cs := Bd.cs B1.zero) ?_ Try.sizeBundle rfl rfl (MA.cs_one x) ?_; exact RN.out; clear RN RG; generalize World.setCells _ _ _ _ = W at *))
        refine Calls.mono (PO.out _) ?_
        rintro e w2 ⟨rfl, hb2⟩
        have hI2 := (HI.out.kept HW.out.1).kept hb2
        have hln := MP.mix_len xs m k HM.out (by omega)
        have R2 : Hid _ := hI2.row.part (p := k * 10) (n := 10) (by omega)
        rw [Nat.zero_add] at R2
        have hp := hI2.put HM.out hl
        rw [HXX.out] at hp
        have HP : Hid _ := hp
        have hle : ((List.drop (k * 10) (MP.mix xs m k)).take 10).length = 10 := by simp; omega
        have HLE : Hid _ := hle
        clear hle hp hI2 hln HI HW hb2 PO HXX
        go_wp2_with (first
          | (refine MA.store_m rfl 62 _ _ rfl rfl rfl (cs := (List.drop (k * 10) (MP.mix xs m k)).take 10) ?_ Try.sizeParcel HLE.out rfl (MA.cs_one x) ?_; exact R2.out; clear R2 HLE; generalize World.setCells _ _ _ _ = W3 at *))
        go_roundw
        case rel => exact ⟨k + 1, by go_num, by omega, HP.out⟩
        case measure => simp [intOf]; omega
      · obtain rfl : k = xs.length := by omega
        have hr := hI.row
        rw [MP.mix_all xs m HM.out] at hr
        have HR : Hid (MP.BsAt wr (some ⟨w.heap.size + 1 + 1, 0, none⟩) xs) := hr.row
        have HI : Hid _ := hI
        clear hr hI
        go_wp2_with fail
        refine Calls.mono (UP.out _ HR.out) ?_
        rintro e w2 ⟨rfl, hb2⟩
        have R2 : Hid _ := (HI.out.kept hb2).res
        have hB2 := (HI.out.kept hb2).below
        have hR2 := HR.out.below hb2
        have HRL : Hid _ := (HI.out.kept hb2).row.lt
        clear HI HR hb2 UP
        obtain ⟨L, hL⟩ : ∃ L, upV xs (.slice (some ⟨w.heap.size + 1 + 1, 0, none⟩) xs.length xs.length) = L := ⟨_, rfl⟩
        have hL1 : L.length = 121 := by rw [← hL]; exact upV_len _ _ _ _
        have hL2 : ∀ v ∈ L, v.oneCell' = true := by rw [← hL]; exact upV_one _ _ _ _
        have HL : Hid _ := hL
        have HL1 : Hid _ := hL1
        have HL2 : Hid _ := hL2
        rw [hL]
        clear hL hL1 hL2
        go_wp2_with (first
          | (refine MA.store_m rfl 75 _ _ rfl rfl rfl (cs := stF (.slice none 0 0) PL.blank) ?_ Try.sizeStack Z_len HL1.out HL2.out ?_; exact R2.out))
        exact bodyPost_ret (MA.ret_cell2 rfl rfl rfl (MA.load_rg (R2.out.put (by rw [Z_len]; exact HL1.out)) Try.underlying75 rfl Try.sizeStack HL1.out)) rfl ⟨w.heap.size + 1 + 1, by rw [HL.out]; rfl, fun _ => ⟨by omega, row_other hR2 (by omega), by rw [MA.setCells_size]; exact HRL.out⟩, MA.below_cells (by omega) _ _ _ hB2⟩
  · have hF : Hid (upOk xs = false) := by simp [Hid, upOk, h60]
    have R0 : Hid (MA.Rg ((w.alloc (.cells #[.slice a xs.length cap] 31)).alloc (.cells (stF (.slice none 0 0) PL.blank).toArray 75)) (w.heap.size + 1) 0 (stF (.slice none 0 0) PL.blank)) := MA.Rg.new' _ _ _ _ (by simp)
    have hb0 : Below w.heap.size w ((w.alloc (.cells #[.slice a xs.length cap] 31)).alloc (.cells (stF (.slice none 0 0) PL.blank).toArray 75)) := ((Below.refl _ w).alloc (Nat.le_refl _) _).alloc (by simp) _
    go_enter Try.func39, Try.ntmps39
    go_wp2_with (first
      | (refine MA.alloc_z rfl 75 rfl _ _ Try.infoStack' ?_; simp only [MA.sz_alloc])
      | (refine MA.build_p rfl 75 rfl [] (by simp) Try.builtStack0 ?_)
      | (refine MA.store_m rfl 75 _ _ rfl rfl rfl (cs := stF (.slice none 0 0) PL.blank) ?_ Try.sizeStack Z_len Z_len Z_one ?_; exact R0.out))
    exact bodyPost_ret (MA.ret_cell2 rfl rfl rfl (MA.load_rg (R0.out.put rfl) Try.underlying75 rfl Try.sizeStack Z_len)) rfl ⟨0, up_no hF.out, (fun h => by rw [hF.out] at h; cases h), MA.below_cells (by omega) _ _ _ hb0⟩
theorem stackOf_any (a : Option Addr) (cap : Nat) (xs : List Bd) (w : World) (hn : xs.length ≤ 1048576) (ht : Hid (∀ k, k < xs.length → (MP.at_ xs k).py.size ≤ 1048576)) (hin : MP.BsAt w a xs) :
    Calls Try.prog 39 #[.agg #[.slice a xs.length cap]] w fun e w' => ∃ g, e = .returned (.tuple #[.agg (upV xs (.slice (some ⟨g, 0, none⟩) xs.length xs.length)).toArray, .bool (upOk xs)]) ∧ (upOk xs = true → w.heap.size ≤ g ∧ MP.BsAt w' (some ⟨g, 0, none⟩) xs) ∧ Below w.heap.size w w' :=
  (stackOfG_any a cap xs w hn ht hin).mono fun _ _ ⟨g, h1, h2, h3⟩ => ⟨g, h1, fun h => ⟨(h2 h).1, (h2 h).2.1⟩, h3⟩
end Go.Proofs.Ytdgflhgbcfehhaa
