/- with: a piece laid on a sheet, and whether they agree. -/
import Derived.Test.YtjekofjhplhemaaRows
import Derived.Test.YtjekofjhplhemaaCBeneath
import Derived.WalkKit
import Derived.WalkSpells
import Derived.WalkLawsBesides
import Derived.Outline
import Derived.Deep.RegionHeldLaw
import Derived.Test.YtjekofjhplhemaaMRH
import Derived.Deep.RegionHeld3
import Derived.Lib.LazyBuf
namespace Go.Proofs.Ytjekofjhplhemaa
open Go.RowKit
/-- The marks with the first i of a piece's. -/
def mkF (f : Nat → Bool) (o i p : Nat) : Bool := f p || (decide (o ≤ p) && decide (p < o + i))
def cpF (g : Nat → Nat) (py : ByteArray) (o p : Nat) : Nat := if o ≤ p ∧ p < o + py.size then M3.gb py (p - o) else g p
/-- What the memory of the call holds. -/
structure WithIn (w W : World) (s : PL.Sh) (o : Nat) (py : ByteArray) (f : Nat → Bool) (g : Nat → Nat) : Prop where
  below : Below w.heap.size w W
  old : MA.Rg W w.heap.size 0 (MA.sF s)
  res : ∃ cs, cs.length = 120 ∧ MA.Rg W (w.heap.size + 1 + 1) 0 cs
  th : MA.Rg W (w.heap.size + 1 + 1 + 1) 0 (MA.tF f)
  by_ : MA.Rg W (w.heap.size + 1 + 1 + 1) 60 (MA.yF g)
  off : W.cell? ⟨w.heap.size + 1, 7, none⟩ = some (.int .i64 (o : Int))
  pay : W.cell? ⟨w.heap.size + 1, 9, none⟩ = some (.string py)
theorem WithIn.drew {w W : World} {s : PL.Sh} {o : Nat} {py : ByteArray} {f : Nat → Bool} {g : Nat → Nat} (h : WithIn w W s o py f g) : WithIn w W.drew s o py f g :=
  ⟨h.below.drew, h.old.drew, (let ⟨c, hc, hr⟩ := h.res; ⟨c, hc, hr.drew⟩), h.th.drew, h.by_.drew, h.off, h.pay⟩
theorem WithIn.cells {w W : World} {s : PL.Sh} {o : Nat} {py : ByteArray} {f : Nat → Bool} {g : Nat → Nat} (h : WithIn w W s o py f g) : W.cell? ⟨w.heap.size + 1, 7, none⟩ = some (.int .i64 (o : Int)) ∧ W.cell? ⟨w.heap.size + 1, 9, none⟩ = some (.string py) ∧ WithIn w W s o py f g := ⟨h.off, h.pay, h⟩
/-- The piece's bytes, copied. -/
theorem WithIn.copied {w W : World} {s : PL.Sh} {o : Nat} {py : ByteArray} {f : Nat → Bool} {g : Nat → Nat} (h : WithIn w W s o py f g) (hs : o + py.size ≤ 60) : WithIn w (W.setCells (w.heap.size + 1 + 1 + 1) (60 + o) (py.data.toList.map fun x => Value.int .u8 (x.toNat : Int))) s o py f (cpF g py o) := by
  have hl : (py.data.toList.map fun x => Value.int .u8 (x.toNat : Int)).length = py.size := by simp
  have m := h.by_.mid (p := o) (vs := py.data.toList.map fun x => Value.int .u8 (x.toNat : Int)) (by rw [hl, MA.yF_len]; omega)
  rw [hl, MA.yF_copy g py o hs] at m
  refine ⟨MA.below_cells (by omega) _ _ _ h.below, h.old.other (.inl (by omega)), (let ⟨c, hc, hr⟩ := h.res; ⟨c, hc, hr.other (.inl (by omega))⟩), h.th.other (.inr (.inl (by rw [MA.tF_len]; omega))), m, ?_, ?_⟩
  · rw [World.cell?_setCells_out _ _ _ _ _ (fun h => by have h' : w.heap.size + 1 = w.heap.size + 1 + 1 + 1 := h; omega)]; exact h.off
  · rw [World.cell?_setCells_out _ _ _ _ _ (fun h => by have h' : w.heap.size + 1 = w.heap.size + 1 + 1 + 1 := h; omega)]; exact h.pay
theorem WithIn.room {w W : World} {s : PL.Sh} {o : Nat} {py : ByteArray} {f : Nat → Bool} {g : Nat → Nat} (h : WithIn w W s o py f g) (hs : o + py.size ≤ 60) : (∀ j, j < py.size → (W.cell? ⟨w.heap.size + 1 + 1 + 1, 60 + o + j, none⟩).isSome = true) ∧ (∀ j, j < py.size → W.frozen? ⟨w.heap.size + 1 + 1 + 1, 60 + o + j, none⟩ = false) :=
  ⟨fun j hj => by rw [Nat.add_assoc 60 o j]; exact (h.by_.ok (o + j) (by rw [MA.yF_len]; omega)).1, fun j hj => by rw [Nat.add_assoc 60 o j]; exact (h.by_.ok (o + j) (by rw [MA.yF_len]; omega)).2⟩
/-- One mark more. -/
theorem WithIn.marked {w W : World} {s : PL.Sh} {o i : Nat} {py : ByteArray} {f : Nat → Bool} {g : Nat → Nat} (h : WithIn w W s o py (mkF f o i) g) (hi : o + i < 60) : WithIn w (W.setCell ⟨w.heap.size + 1 + 1 + 1, o + i, none⟩ (.bool true)) s o py (mkF f o (i + 1)) g := by
  have q := h.th.put1 (j := o + i) (by rw [MA.tF_len]; omega) (.bool true)
  rw [MA.tF_set, MA.tF_ext (f' := mkF f o (i + 1)) (fun p _ => by
    unfold mkF
    by_cases e : p = o + i
    · subst e; simp
    · have : (p < o + (i + 1)) ↔ (p < o + i) := by omega
      simp [e, this]), Nat.zero_add] at q
  refine ⟨h.below.setCell (p := ⟨w.heap.size + 1 + 1 + 1, o + i, none⟩) (by simp; omega) _, h.old.other (k' := w.heap.size + 1 + 1 + 1) (o' := o + i) (vs := [.bool true]) (.inl (by omega)), (let ⟨c, hc, hr⟩ := h.res; ⟨c, hc, hr.other (k' := w.heap.size + 1 + 1 + 1) (o' := o + i) (vs := [.bool true]) (.inl (by omega))⟩), q, h.by_.other (k' := w.heap.size + 1 + 1 + 1) (o' := o + i) (vs := [.bool true]) (.inr (.inr (by simp; omega))), ?_, ?_⟩
  · exact (World.cell?_setCells_out _ [.bool true] (o + i) W _ (fun h => by have h' : w.heap.size + 1 = w.heap.size + 1 + 1 + 1 := h; omega)).trans h.off
  · exact (World.cell?_setCells_out _ [.bool true] (o + i) W _ (fun h => by have h' : w.heap.size + 1 = w.heap.size + 1 + 1 + 1 := h; omega)).trans h.pay
theorem WithIn.kept {w W W' : World} {s : PL.Sh} {o : Nat} {py : ByteArray} {f : Nat → Bool} {g : Nat → Nat} (h : WithIn w W s o py f g) (hb : Below W.heap.size W W') : WithIn w W' s o py f g := by
  have h1 := h.old.lt
  have h2 : w.heap.size + 1 + 1 < W.heap.size := (let ⟨_, _, hr⟩ := h.res; hr.lt)
  have h3 := h.th.lt
  exact ⟨h.below.trans (hb.mono h.below.size), h.old.below hb h1, (let ⟨c, hc, hr⟩ := h.res; ⟨c, hc, hr.below hb h2⟩), h.th.below hb h3, h.by_.below hb h3, (hb.cell (p := ⟨w.heap.size + 1, 7, none⟩) (by simp; omega)).trans h.off, (hb.cell (p := ⟨w.heap.size + 1, 9, none⟩) (by simp; omega)).trans h.pay⟩
theorem WithIn.both {w W : World} {s : PL.Sh} {o : Nat} {py : ByteArray} {f : Nat → Bool} {g : Nat → Nat} (h : WithIn w W s o py f g) : W.rangeAt (w.heap.size + 1 + 1 + 1) 0 (MA.sF ⟨f, g⟩) := (MA.Rg.sheet' (s := ⟨f, g⟩) h.th h.by_).rng
theorem WithIn.room2 {w W : World} {s : PL.Sh} {o : Nat} {py : ByteArray} {f : Nat → Bool} {g : Nat → Nat} (h : WithIn w W s o py f g) : W.there (w.heap.size + 1 + 1) 0 120 := by
  obtain ⟨c, hc, hr⟩ := h.res
  have := hr.ok
  rwa [hc] at this
/-- The result, stored. -/
theorem WithIn.stored {w W : World} {s : PL.Sh} {o : Nat} {py : ByteArray} {f : Nat → Bool} {g : Nat → Nat} (h : WithIn w W s o py f g) (t : PL.Sh) : WithIn w (W.setCells (w.heap.size + 1 + 1) 0 (MA.sF t)) s o py f g ∧ MA.Rg (W.setCells (w.heap.size + 1 + 1) 0 (MA.sF t)) (w.heap.size + 1 + 1) 0 (MA.sF t) := by
  obtain ⟨c, hc, hr⟩ := h.res
  have r := hr.put (vs := MA.sF t) (by rw [MA.sF_len, hc])
  refine ⟨⟨MA.below_cells (by omega) _ _ _ h.below, h.old.other (.inl (by omega)), ⟨_, MA.sF_len _, r⟩, h.th.other (.inl (by omega)), h.by_.other (.inl (by omega)), ?_, ?_⟩, r⟩
  · rw [World.cell?_setCells_out _ _ _ _ _ (fun h => by have h' : w.heap.size + 1 = w.heap.size + 1 + 1 := h; omega)]; exact h.off
  · rw [World.cell?_setCells_out _ _ _ _ _ (fun h => by have h' : w.heap.size + 1 = w.heap.size + 1 + 1 := h; omega)]; exact h.pay
set_option linter.unusedSimpArgs false in
set_option maxHeartbeats 800000 in
set_option maxRecDepth 100000 in
theorem with_raw (s : PL.Sh) (fr to : Int) (gr : Bool) (md no lf hp : Int) (o : Nat) (tl : Int) (py : ByteArray) (w : World) (hs : o + py.size ≤ 60) (h1 : 1 ≤ py.size) (R : Bool) (HR : Hid (PL.upto (fun p => decide (cpF s.by_ py o p = benF ⟨mkF s.th o py.size, cpF s.by_ py o⟩ s 60 p)) 60 = R)) :
    Calls Try.prog 92 #[.agg (MA.sF s).toArray, .agg #[.int .i64 fr, .int .i64 to, .bool gr, .int .i64 md, .int .i64 no, .int .i64 lf, .int .i64 hp, .int .i64 (o : Int), .int .i64 tl, .string py]] w fun e w' => e = .returned (.tuple #[.agg (MA.sF ⟨mkF s.th o py.size, cpF s.by_ py o⟩).toArray, .bool R]) ∧ Below w.heap.size w w' := by
  have R0 : Hid (MA.Rg (((w.alloc (.cells (MA.sF s).toArray 86)).alloc (.cells #[.int .i64 fr, .int .i64 to, .bool gr, .int .i64 md, .int .i64 no, .int .i64 lf, .int .i64 hp, .int .i64 (o : Int), .int .i64 tl, .string py] 94)).alloc (.cells (MA.sF PL.blank).toArray 86)) w.heap.size 0 (MA.sF s)) := ((MA.Rg.new w (MA.sF s) 86).alloc (.cells #[.int .i64 fr, .int .i64 to, .bool gr, .int .i64 md, .int .i64 no, .int .i64 lf, .int .i64 hp, .int .i64 (o : Int), .int .i64 tl, .string py] 94)).alloc (.cells (MA.sF PL.blank).toArray 86)
  have R3 : Hid (MA.Rg ((((w.alloc (.cells (MA.sF s).toArray 86)).alloc (.cells #[.int .i64 fr, .int .i64 to, .bool gr, .int .i64 md, .int .i64 no, .int .i64 lf, .int .i64 hp, .int .i64 (o : Int), .int .i64 tl, .string py] 94)).alloc (.cells (MA.sF PL.blank).toArray 86)).alloc (.cells (MA.sF PL.blank).toArray 86)) (w.heap.size + 1 + 1 + 1) 0 (MA.sF PL.blank)) := MA.Rg.new' (((w.alloc (.cells (MA.sF s).toArray 86)).alloc (.cells #[.int .i64 fr, .int .i64 to, .bool gr, .int .i64 md, .int .i64 no, .int .i64 lf, .int .i64 hp, .int .i64 (o : Int), .int .i64 tl, .string py] 94)).alloc (.cells (MA.sF PL.blank).toArray 86)) (MA.sF PL.blank) 86 (w.heap.size + 1 + 1 + 1) (by simp)
  have HB : Hid (WithIn w (World.setCells ((((w.alloc (.cells (MA.sF s).toArray 86)).alloc (.cells #[.int .i64 fr, .int .i64 to, .bool gr, .int .i64 md, .int .i64 no, .int .i64 lf, .int .i64 hp, .int .i64 (o : Int), .int .i64 tl, .string py] 94)).alloc (.cells (MA.sF PL.blank).toArray 86)).alloc (.cells (MA.sF PL.blank).toArray 86)) (w.heap.size + 1 + 1 + 1) 0 (MA.sF s)) s o py (mkF s.th o 0) s.by_) := by
    have b1 : Below w.heap.size w ((((w.alloc (.cells (MA.sF s).toArray 86)).alloc (.cells #[.int .i64 fr, .int .i64 to, .bool gr, .int .i64 md, .int .i64 no, .int .i64 lf, .int .i64 hp, .int .i64 (o : Int), .int .i64 tl, .string py] 94)).alloc (.cells (MA.sF PL.blank).toArray 86)).alloc (.cells (MA.sF PL.blank).toArray 86)) := ((((Below.refl _ w).alloc (Nat.le_refl _) _).alloc (by simp) _).alloc (by simp; omega) _).alloc (by simp; omega) _
    have r0 := R0.out.alloc (.cells (MA.sF PL.blank).toArray 86)
    have r2 := (MA.Rg.new' ((w.alloc (.cells (MA.sF s).toArray 86)).alloc (.cells #[.int .i64 fr, .int .i64 to, .bool gr, .int .i64 md, .int .i64 no, .int .i64 lf, .int .i64 hp, .int .i64 (o : Int), .int .i64 tl, .string py] 94)) (MA.sF PL.blank) 86 (w.heap.size + 1 + 1) (by simp)).alloc (.cells (MA.sF PL.blank).toArray 86)
    have r3 := R3.out.put (vs := MA.sF s) (by rw [MA.sF_len, MA.sF_len])
    have e : mkF s.th o 0 = s.th := by funext p; simp [mkF]; omega
    have c7 : World.cell? ((((w.alloc (.cells (MA.sF s).toArray 86)).alloc (.cells #[.int .i64 fr, .int .i64 to, .bool gr, .int .i64 md, .int .i64 no, .int .i64 lf, .int .i64 hp, .int .i64 (o : Int), .int .i64 tl, .string py] 94)).alloc (.cells (MA.sF PL.blank).toArray 86)).alloc (.cells (MA.sF PL.blank).toArray 86)) ⟨w.heap.size + 1, 7, none⟩ = some (.int .i64 (o : Int)) := ((((Below.refl _ ((w.alloc (.cells (MA.sF s).toArray 86)).alloc (.cells #[.int .i64 fr, .int .i64 to, .bool gr, .int .i64 md, .int .i64 no, .int .i64 lf, .int .i64 hp, .int .i64 (o : Int), .int .i64 tl, .string py] 94))).alloc (Nat.le_refl _) (.cells (MA.sF PL.blank).toArray 86)).alloc (by simp) (.cells (MA.sF PL.blank).toArray 86)).cell (p := ⟨w.heap.size + 1, 7, none⟩) (by simp)).trans (by simp)
    have c9 : World.cell? ((((w.alloc (.cells (MA.sF s).toArray 86)).alloc (.cells #[.int .i64 fr, .int .i64 to, .bool gr, .int .i64 md, .int .i64 no, .int .i64 lf, .int .i64 hp, .int .i64 (o : Int), .int .i64 tl, .string py] 94)).alloc (.cells (MA.sF PL.blank).toArray 86)).alloc (.cells (MA.sF PL.blank).toArray 86)) ⟨w.heap.size + 1, 9, none⟩ = some (.string py) := ((((Below.refl _ ((w.alloc (.cells (MA.sF s).toArray 86)).alloc (.cells #[.int .i64 fr, .int .i64 to, .bool gr, .int .i64 md, .int .i64 no, .int .i64 lf, .int .i64 hp, .int .i64 (o : Int), .int .i64 tl, .string py] 94))).alloc (Nat.le_refl _) (.cells (MA.sF PL.blank).toArray 86)).alloc (by simp) (.cells (MA.sF PL.blank).toArray 86)).cell (p := ⟨w.heap.size + 1, 9, none⟩) (by simp)).trans (by simp)
    rw [e]
    refine ⟨MA.below_cells (by omega) _ _ _ b1, r0.other (.inl (by omega)), ⟨_, MA.sF_len _, r2.other (.inl (by omega))⟩, r3.sheet.1, r3.sheet.2, ?_, ?_⟩
    · rw [World.cell?_setCells_out _ _ _ _ _ (fun h => by have h' : w.heap.size + 1 = w.heap.size + 1 + 1 + 1 := h; omega)]; exact c7
    · rw [World.cell?_setCells_out _ _ _ _ _ (fun h => by have h' : w.heap.size + 1 = w.heap.size + 1 + 1 + 1 := h; omega)]; exact c9
  go_enter Try.func92, Try.ntmps92
  go_wp2_with (first
    | (refine MA.alloc_z rfl 86 rfl _ _ Try.infoSheet ?_; simp only [MA.sz_alloc])
    | (refine MA.load_m rfl 86 _ rfl rfl (cs := MA.sF s) ?_ Try.underlying86 rfl Try.sizeSheet (MA.sF_len _) ?_; exact R0.out)
    | (refine MA.store_m rfl 86 _ _ rfl rfl rfl (cs := MA.sF PL.blank) ?_ Try.sizeSheet (MA.sF_len _) (MA.sF_len _) (MA.sF_one _) ?_; exact R3.out; clear R0 R3; generalize World.setCells _ _ _ _ = W at *))
  have hI := HB.out.drew
  have c7 := HB.out.off
  have c9 := HB.out.pay
  have ho0 : (0 : Int) ≤ (o : Int) := by omega
  have ho1 : (o : Int) < 60 := by omega
  have hsl : ∀ W, (Instr.sliceAt 84 (.pointer (some ⟨w.heap.size + 1 + 1 + 1, 60, none⟩)) (some (.int .i64 (o : Int))) none none).run Try.prog W = .ok (.slice (some ⟨w.heap.size + 1 + 1 + 1, 60 + o, none⟩) (60 - o) (60 - o)) W := fun W => MA.run_sliceArr Try.underlying84 (by go_simp) (by omega)
  have hcp : (Builtin.copy_ #[142, 9] 3 #[.slice (some ⟨w.heap.size + 1 + 1 + 1, 60 + o, none⟩) (60 - o) (60 - o), .string py]).run Try.prog W.drew = .ok (goInt py.size) (W.drew.setCells (w.heap.size + 1 + 1 + 1) (60 + o) (py.data.toList.map fun x => Value.int .u8 (x.toNat : Int))) := Go.run_copy_string W.drew 142 9 3 5 (w.heap.size + 1 + 1 + 1) (60 + o) (60 - o) (60 - o) py Try.underlying142 (by go_simp) (by omega) (hI.room hs).1 (hI.room hs).2
  have HI : Hid _ := hI.copied hs
  clear HB hI
  generalize World.setCells _ _ _ _ = W1 at *
  go_wp2
  go_region_held_law (fun w' => w'.cell? ⟨w.heap.size + 1, 7, none⟩ = some (.int .i64 (o : Int)) ∧ w'.cell? ⟨w.heap.size + 1, 9, none⟩ = some (.string py)) (first | go_keep | exact ⟨HI.out.off, HI.out.pay⟩) (fail)
  have hI := HI.out
  clear HI hcp hsl c7 c9
  have c9 := hI.pay
  go_wp2
  clear c9
  go_loopw [7, 19] (fun _ iv wr => ∃ k : Nat, iv = .int .i64 k ∧ k ≤ py.size ∧ WithIn w wr s o py (mkF s.th o k) (cpF s.by_ py o)) (fun _ iv _ => (py.size - intOf iv).toNat)
  case atStart => exact ⟨0, rfl, by omega, hI⟩
  case round =>
    clear hI
    obtain ⟨k, rfl, hk, hI⟩ := hrel
    by_cases hl : k < py.size
    · have c7 := hI.off
      have c0 : wr.cell? ⟨w.heap.size + 1 + 1 + 1, o + k, none⟩ = some (.bool (mkF s.th o k (o + k))) := by have := hI.th.cell (MA.tF_get _ (p := o + k) (by omega)); rwa [Nat.zero_add] at this
      have f0 : wr.frozen? ⟨w.heap.size + 1 + 1 + 1, o + k, none⟩ = false := by have := hI.th.free (j := o + k) (by rw [MA.tF_len]; omega); rwa [Nat.zero_add] at this
      have hk0 : (0 : Int) ≤ (o : Int) + (k : Int) := by omega
      have hk1 : (o : Int) + (k : Int) < 60 := by omega
      have HI : Hid _ := hI.marked (i := k) (by omega)
      clear hI
      go_wp2
      go_roundw
      case rel => exact ⟨k + 1, by go_num, by omega, HI.out⟩
      case measure => simp [intOf]; omega
    · obtain rfl : k = py.size := by omega
      have hE : ∀ W, (binOp .eql 84 (.agg (MA.yF (cpF s.by_ py o)).toArray) (.agg (MA.yF (benF ⟨mkF s.th o py.size, cpF s.by_ py o⟩ s 60)).toArray)).run Try.prog W = .ok (.bool R) W := by
        intro W
        have hi5 : ∃ i, Try.prog.info? 5 = some i := by
          have : (Try.prog.info? 5).isSome = true := by kernel_rfl
          exact Option.isSome_iff_exists.1 this
        obtain ⟨i5, hi5⟩ := hi5
        have := MA.eql_arr (P := Try.prog) (w := W) Try.underlying84 hi5 (by kernel_rfl) (by go_simp) (fun p => decide (cpF s.by_ py o p = benF ⟨mkF s.th o py.size, cpF s.by_ py o⟩ s 60 p)) (xs := MA.yF (cpF s.by_ py o)) (ys := MA.yF (benF ⟨mkF s.th o py.size, cpF s.by_ py o⟩ s 60)) (fun p hp => ⟨_, _, MA.yF_get _ hp, MA.yF_get _ hp, by rw [run_equalIn_int W 9998 5 .u8 .u8 _ _ Try.underlying5]; congr 1; rw [Bool.eq_iff_iff]; simp; omega⟩)
        rw [this, HR.out]
      have BN : Hid _ := fun W => beneath_any ⟨mkF s.th o py.size, cpF s.by_ py o⟩ s W
      clear HR
      go_wp2
      refine MR.frame fun A hA => ?_
      have hsz : A.tmps.size = 36 := by rw [hA]; rfl
      have e2 : A.eval (.tmp 2) = .pointer (some ⟨w.heap.size, 0, none⟩) := by rw [hA]; rfl
      have f2 := MR.read (t := 2) (by rw [hsz]; decide) e2
      have e4 : A.eval (.tmp 4) = .pointer (some ⟨w.heap.size + 1 + 1, 0, none⟩) := by rw [hA]; rfl
      have f4 := MR.read (t := 4) (by rw [hsz]; decide) e4
      have e6 : A.eval (.tmp 6) = .pointer (some ⟨w.heap.size + 1 + 1 + 1, 0, none⟩) := by rw [hA]; rfl
      have f6 := MR.read (t := 6) (by rw [hsz]; decide) e6
      have HA : Hid (A = _) := hA
      clear hA
      have hS : (fun w' : World => WithIn w w' s o py (mkF s.th o py.size) (cpF s.by_ py o)) (World.drew _) := hI.drew
      refine wp_region_held (S := fun w' : World => WithIn w w' s o py (mkF s.th o py.size) (cpF s.by_ py o)) (by kernel_rfl) ?_
      change wpAnyH _ _ _ _ _ _ _ _ (World.drew _)
      refine MR.takeH (i := 0) (some 29) (.agg (MA.sF ⟨mkF s.th o py.size, cpF s.by_ py o⟩).toArray) rfl rfl (by kernel_rfl) (by kernel_rfl) (by kernel_rfl) (fun _ _ _ h => h) hS (MR.free rfl) (fun w hw => MA.ex_load rfl (by simp [MR.ev, MR.size, hsz, e2, f2, e4, f4, e6, f6]) (hw.both) Try.underlying86 rfl Try.sizeSheet (MA.sF_len _)) ?_
      refine MR.takeH (i := 1) (some 30) (.pointer (some ⟨w.heap.size + 1 + 1 + 1, 60, none⟩)) rfl rfl (by kernel_rfl) (by kernel_rfl) (by kernel_rfl) (fun _ _ _ h => h) hS (MR.free rfl) (fun w hw => by simp [execOp, MR.ev, MR.size, hsz, e2, f2, e4, f4, e6, f6, go_sem]) ?_
      refine MR.takeH (i := 2) (some 31) (.agg (MA.yF (cpF s.by_ py o)).toArray) rfl rfl (by kernel_rfl) (by kernel_rfl) (by kernel_rfl) (fun _ _ _ h => h) hS (MR.free rfl) (fun w hw => MA.ex_load rfl (by simp [MR.ev, MR.size, hsz, e2, f2, e4, f4, e6, f6]) (hw.by_.rng) Try.underlying84 rfl Try.sizeLetters (MA.yF_len _)) ?_
      refine MR.takeH (i := 3) (some 32) (.agg (MA.sF ⟨mkF s.th o py.size, cpF s.by_ py o⟩).toArray) rfl rfl (by kernel_rfl) (by kernel_rfl) (by kernel_rfl) (fun _ _ _ h => h) hS (MR.free rfl) (fun w hw => MA.ex_load rfl (by simp [MR.ev, MR.size, hsz, e2, f2, e4, f4, e6, f6]) (hw.both) Try.underlying86 rfl Try.sizeSheet (MA.sF_len _)) ?_
      refine MR.takeH (i := 4) (some 33) (.agg (MA.sF s).toArray) rfl rfl (by kernel_rfl) (by kernel_rfl) (by kernel_rfl) (fun _ _ _ h => h) hS (MR.free rfl) (fun w hw => MA.ex_load rfl (by simp [MR.ev, MR.size, hsz, e2, f2, e4, f4, e6, f6]) (hw.old.rng) Try.underlying86 rfl Try.sizeSheet (MA.sF_len _)) ?_
      refine MR.callH (i := 5) (some 34) (130) (#[.agg (MA.sF ⟨mkF s.th o py.size, cpF s.by_ py o⟩).toArray, .agg (MA.sF s).toArray]) (by kernel_rfl) rfl rfl (MR.free rfl) (by simp [execOp, MR.ev, MR.size, hsz, e2, f2, e4, f4, e6, f6, go_sem]) ?_
      refine Calls.mono (BN.out _) ?_
      rintro e w2 ⟨rfl, hb2⟩
      have hS2 := hS.kept hb2
      refine ⟨_, rfl, hS2, ?_⟩
      refine MR.takeH (i := 6) (some 35) (.bool R) rfl rfl (by kernel_rfl) (by kernel_rfl) (by kernel_rfl) (fun _ _ _ h => h) hS2 (MR.free rfl) (fun w hw => by simp [execOp, MR.ev, MR.size, hsz, e2, f2, e4, f4, e6, f6, hE, go_sem]) ?_
      refine MR.storeH (i := 7) (by kernel_rfl) rfl (MR.free rfl) (MA.ex_store rfl (b := w.heap.size + 1 + 1) (o := 0) (vs := MA.sF ⟨mkF s.th o py.size, cpF s.by_ py o⟩) (by simp [MR.ev, MR.size, hsz, e2, f2, e4, f4, e6, f6]) (by simp [MR.ev, MR.size, hsz, e2, f2, e4, f4, e6, f6]) hS2.room2 Try.sizeSheet (MA.sF_len _) (MA.sF_one _)) ⟨(hS2.stored _).1, ?_⟩
      have hS3 := (hS2.stored ⟨mkF s.th o py.size, cpF s.by_ py o⟩).1
      have r3 := (hS2.stored ⟨mkF s.th o py.size, cpF s.by_ py o⟩).2
      refine MR.takeH (i := 8) (some 5) (.bool R) rfl rfl (by kernel_rfl) (by kernel_rfl) (by kernel_rfl) (fun _ _ _ h => h) hS3 (MR.free rfl) (fun w hw => by simp [execOp, MR.ev, MR.size, hsz, e2, f2, e4, f4, e6, f6, go_sem]) ?_
      refine wpAnyH_done (by kernel_rfl) ?_ _
      have hb3 := hS3.below
      rw [HA.out]
      clear hS hS2 hS3 hI HA hb2
      generalize World.setCells _ _ _ _ = W3 at *
      simp only [Act.put, List.setIfInBounds_toArray, List.set_cons_succ, List.set_cons_zero]
      have hld := MA.load_rg (P := Try.prog) r3 Try.underlying86 rfl Try.sizeSheet (MA.sF_len _)
      clear r3 hE BN
      go_wp2
      exact bodyPost_ret (MA.ret_cell2 rfl rfl rfl hld) rfl ⟨rfl, hb3⟩
theorem mkF_lay {s : PL.Sh} {b : Bd} {o : Nat} (ho : b.of = (o : Int)) : mkF s.th o b.py.size = (PL.lay s b).th := by
  funext p
  have : decide (b.of ≤ (p : Int)) = decide (o ≤ p) := by rw [ho]; simp
  have h2 : decide ((p : Int) < b.of + b.py.size) = decide (p < o + b.py.size) := by rw [ho, Bool.eq_iff_iff]; simp; omega
  simp only [mkF, PL.lay, PL.inn, this, h2]
theorem cpF_lay {s : PL.Sh} {b : Bd} {o : Nat} (ho : b.of = (o : Int)) : cpF s.by_ b.py o = (PL.lay s b).by_ := by
  funext p
  simp only [cpF, PL.lay]
  by_cases h : o ≤ p ∧ p < o + b.py.size
  · have h' : PL.inn b p = true := PL.inn_iff.2 (by omega)
    rw [if_pos h, if_pos h', PL.val]
    congr 1; omega
  · have h' : ¬ PL.inn b p = true := fun e => h (by have := PL.inn_iff.1 e; omega)
    rw [if_neg h, if_neg h']
theorem with_any (s : PL.Sh) (b : Bd) (w : World) (hg : PL.pg b = true) :
    Calls Try.prog 92 #[.agg (MA.sF s).toArray, b.v] w fun e w' => e = .returned (.tuple #[.agg (MA.sF (PL.lay s b)).toArray, .bool (PL.fits s b)]) ∧ Below w.heap.size w w' := by
  obtain ⟨h1, h2, h3, h4, h5, h6⟩ := PL.pg_is hg
  obtain ⟨o, ho⟩ := Int.eq_ofNat_of_zero_le h4
  have hf : PL.fits s b = PL.upto (fun p => decide (cpF s.by_ b.py o p = benF ⟨mkF s.th o b.py.size, cpF s.by_ b.py o⟩ s 60 p)) 60 := by
    rw [Bool.eq_iff_iff, PL.fits, PL.upto_iff, PL.upto_iff]
    rw [mkF_lay ho, cpF_lay ho]
    refine forall_congr' fun p => imp_congr_right fun hp => ?_
    simp only [PL.fitAt, benF, Bool.or_eq_true, Bool.not_eq_true', decide_eq_true_eq]
    cases ht : s.th p <;> simp [hp]
  have hL : PL.lay s b = ⟨mkF s.th o b.py.size, cpF s.by_ b.py o⟩ := by rw [mkF_lay ho, cpF_lay ho]
  rw [hL]
  obtain ⟨fr, to, gr, md, no, lf, hp, of, tl, py⟩ := b
  simp only at ho h3 h4 h5 h6
  subst ho
  exact with_raw s fr to gr md no lf hp o tl py w (by omega) (by omega) _ hf.symm
end Go.Proofs.Ytjekofjhplhemaa
