/- A stack's parcels with one more (AddPiece). Laid by gen_addwith.py. -/
import Derived.Test.YtjekofjhplhemaaRows
import Derived.Test.YtjekofjhplhemaaCAddPile
import Derived.Test.YtjekofjhplhemaaCPiece
import Derived.Test.YtjekofjhplhemaaMPC
import Derived.Test.YtjekofjhplhemaaMRH
import Derived.WalkKit
import Derived.WalkSpells
import Derived.WalkLawsBesides
import Derived.Outline
import Derived.Deep.RegionHeld3
import Derived.Test.YtjekofjhplhemaaM1
namespace Go.Proofs.Ytjekofjhplhemaa
open Go.RowKit
/-- What parcelsWith holds. -/
structure PwIn (w W : World) (v : Value) (x : Bd) : Prop where
  below : Below w.heap.size w W
  arg : W.cell? ⟨w.heap.size, 0, none⟩ = some v
  box : MA.Rg W (w.heap.size + 1) 0 x.cs
theorem PwIn.kept {w W W' : World} {v : Value} {x : Bd} (h : PwIn w W v x) (hb : Below W.heap.size W W') : PwIn w W' v x := by
  have := h.box.lt
  exact ⟨h.below.trans (hb.mono h.below.size), (hb.cell (p := ⟨w.heap.size, 0, none⟩) (by show w.heap.size < _; omega)).trans h.arg, h.box.below hb h.box.lt⟩
set_option maxRecDepth 100000 in
theorem Try.cutA (G n k : Nat) (hk : k < n) (W : World) : (Instr.sliceAt 80 (.slice (some ⟨G, 0, none⟩) (n + 1) (n + 1)) (some (.int .i64 ((k : Int) + 1))) none none).run Try.prog W = .ok (.slice (some ⟨G, (k + 1) * 10, none⟩) (n - k) (n - k)) W := by
  have e : ((k : Int) + 1).toNat = k + 1 := by omega
  have h1 : ¬ n = k := by omega
  have h2 : k ≤ n := by omega
  have h3 : (0 : Int) ≤ (k : Int) + 1 := by omega
  go_simp
set_option maxRecDepth 100000 in
theorem Try.cutB (G n k : Nat) (hk : k < n) (W : World) : (Instr.sliceAt 80 (.slice (some ⟨G, 0, none⟩) n n) (some (.int .i64 (k : Int))) none none).run Try.prog W = .ok (.slice (some ⟨G, k * 10, none⟩) (n - k) (n - k)) W := by
  have h1 : ¬ n = k := by omega
  have h2 : k ≤ n := by omega
  go_simp
set_option maxRecDepth 100000 in
theorem Try.cutC (G n : Nat) (W : World) : (Instr.sliceAt 80 (.slice (some ⟨G, 0, none⟩) (n + 1) (n + 1)) (some (.int .i64 ((n : Int) + 1))) none none).run Try.prog W = .ok (.slice (some ⟨G, 0, none⟩) 0 0) W := by
  have e : ((n : Int) + 1).toNat = n + 1 := by omega
  have h3 : (0 : Int) ≤ (n : Int) + 1 := by omega
  go_simp
set_option maxRecDepth 100000 in
theorem Try.cutD (G n : Nat) (W : World) : (Instr.sliceAt 80 (.slice (some ⟨G, 0, none⟩) n n) (some (.int .i64 (n : Int))) none none).run Try.prog W = .ok (.slice (some ⟨G, 0, none⟩) 0 0) W := by
  go_simp
theorem PwIn.cells {w W : World} {v : Value} {x : Bd} (h : PwIn w W v x) {G o : Nat} (hG : w.heap.size + 1 < G) (vs : List Value) : PwIn w (W.setCells G o vs) v x := by
  refine ⟨MA.below_cells (by omega) _ _ _ h.below, ?_, h.box.other (.inl (by omega))⟩
  rw [World.cell?_setCells_out _ _ _ _ _ (fun h => by have h' : w.heap.size = G := h; omega)]
  exact h.arg
/-- What the end of parcelsWith holds. -/
structure PwTail (w W : World) (v : Value) (x : Bd) (xs : List Bd) (g G k : Nat) (m : List Value) : Prop where
  gt : w.heap.size + 1 < G
  le : k ≤ xs.length
  len : m.length = (xs.length + 1) * 10
  row : MA.Rg W G 0 m
  pw : PwIn w W v x
  ins : MP.BsAt W (some ⟨g, 0, none⟩) xs
theorem PwTail.mk' {w W : World} {v : Value} {x : Bd} {xs : List Bd} {g G k : Nat} {m : List Value} (h1 : w.heap.size + 1 < G) (h2 : k ≤ xs.length) (h3 : m.length = (xs.length + 1) * 10) (h4 : MA.Rg W G 0 m) (h5 : PwIn w W v x) (h6 : MP.BsAt W (some ⟨g, 0, none⟩) xs) : PwTail w W v x xs g G k m := ⟨h1, h2, h3, h4, h5, h6⟩
theorem PwTail.copy1 {P : Program} {w W : World} {v : Value} {x : Bd} {xs : List Bd} {g G k : Nat} {m : List Value} (h : PwTail w W v x xs g G k m) (dT sT ty elem : TypeId) (hu : P.underlying dT = some (.slice elem)) (hs : (P.info? elem).map (·.size) = some 10) :
    (Builtin.copy_ #[dT, sT] ty #[.slice (some ⟨G, 0, none⟩) (xs.length + 1) (xs.length + 1), .slice (some ⟨g, 0, none⟩) k xs.length]).run P W = .ok (goInt k) (W.setCells G 0 (MP.flat (xs.take k))) := by
  have hk := h.le
  have hm := h.len
  have hl : (MP.flat (xs.take k)).length = k * 10 := by rw [MP.flat_len]; simp; omega
  exact PC.run_copy W dT sT ty elem G 0 _ _ ⟨g, 0, none⟩ k xs.length k 10 _ m hu hs (Nat.min_eq_left (by omega)) hl (by simpa using PC.row_cells h.ins (k := 0) (m := k) (by omega)) h.row (by omega) (PC.flat_one _)
theorem PwTail.two {w W : World} {v : Value} {x : Bd} {xs : List Bd} {g G k : Nat} {m : List Value} (h : PwTail w W v x xs g G k m) :
    (∃ c, c.length = (xs.length + 1) * 10 ∧ MA.Rg (W.setCells G 0 (MP.flat (xs.take k))) G 0 c) ∧ (splice (splice m 0 (MP.flat (xs.take k))) (k * 10) x.cs).length = (xs.length + 1) * 10 ∧ MA.Rg ((W.setCells G 0 (MP.flat (xs.take k))).setCells G (k * 10) x.cs) G 0 (splice (splice m 0 (MP.flat (xs.take k))) (k * 10) x.cs) := by
  have hk := h.le
  have hm := h.len
  have l1 : (MP.flat (xs.take k)).length = k * 10 := by rw [MP.flat_len]; simp; omega
  have l2 : x.cs.length = 10 := rfl
  have len1 : (splice m 0 (MP.flat (xs.take k))).length = m.length := length_splice _ _ _ (by omega)
  have len2 : (splice (splice m 0 (MP.flat (xs.take k))) (k * 10) x.cs).length = m.length := by rw [length_splice _ _ _ (by omega), len1]
  have q1 : MA.Rg (W.setCells G 0 (MP.flat (xs.take k))) G 0 (splice m 0 (MP.flat (xs.take k))) := h.row.mid (p := 0) (by omega)
  have q2 := q1.mid (p := k * 10) (vs := x.cs) (by omega)
  rw [Nat.zero_add] at q2
  exact ⟨⟨_, len1.trans hm, q1⟩, len2.trans hm, q2⟩
theorem PwTail.part {w W : World} {v : Value} {x : Bd} {xs : List Bd} {g G k : Nat} {m : List Value} (h : PwTail w W v x xs g G k m) : ∃ c, c.length = 10 ∧ MA.Rg (W.setCells G 0 (MP.flat (xs.take k))) G (k * 10) c := by
  have hk := h.le
  obtain ⟨⟨c, hc, hr⟩, _⟩ := h.two
  have := hr.part (p := k * 10) (n := 10) (by omega)
  rw [Nat.zero_add] at this
  exact ⟨_, by simp; omega, this⟩
theorem PwTail.arg2 {w W : World} {v : Value} {x : Bd} {xs : List Bd} {g G k : Nat} {m : List Value} (h : PwTail w W v x xs g G k m) : ((W.setCells G 0 (MP.flat (xs.take k))).setCells G (k * 10) x.cs).cell? ⟨w.heap.size, 0, none⟩ = some v := ((h.pw.cells h.gt _).cells h.gt _).arg
/-- The second copy, at the world behind the draw, and what lies there then. -/
theorem PwTail.ends {w W : World} {v : Value} {x : Bd} {xs : List Bd} {g G k : Nat} {m : List Value} (h : PwTail w W v x xs g G k m) (hg : g ≠ G) (dT sT ty elem : TypeId) {P : Program} (hu : P.underlying dT = some (.slice elem)) (hs : (P.info? elem).map (·.size) = some 10) :
    (Builtin.copy_ #[dT, sT] ty #[.slice (some ⟨G, (k + 1) * 10, none⟩) (xs.length - k) (xs.length - k), .slice (some ⟨g, k * 10, none⟩) (xs.length - k) (xs.length - k)]).run P (((W.setCells G 0 (MP.flat (xs.take k))).setCells G (k * 10) x.cs).drew) = .ok (goInt ((xs.length - k : Nat) : Int)) ((((W.setCells G 0 (MP.flat (xs.take k))).setCells G (k * 10) x.cs).drew).setCells G ((k + 1) * 10) (MP.flat (xs.drop k))) ∧
    MP.BsAt ((((W.setCells G 0 (MP.flat (xs.take k))).setCells G (k * 10) x.cs).drew).setCells G ((k + 1) * 10) (MP.flat (xs.drop k))) (some ⟨G, 0, none⟩) (PD.put xs x k) ∧
    Below w.heap.size w ((((W.setCells G 0 (MP.flat (xs.take k))).setCells G (k * 10) x.cs).drew).setCells G ((k + 1) * 10) (MP.flat (xs.drop k))) := by
  have hk := h.le
  have hm := h.len
  have hgt := h.gt
  obtain ⟨_, hlen, q2⟩ := h.two
  have hP2 := ((h.pw.cells h.gt (o := 0) (MP.flat (xs.take k))).cells h.gt (o := k * 10) x.cs)
  have hins := row_other (row_other h.ins hg (o := 0) (vs := MP.flat (xs.take k))) hg (o := k * 10) (vs := x.cs)
  have l1 : (MP.flat (xs.take k)).length = k * 10 := by rw [MP.flat_len]; simp; omega
  have l3 : (MP.flat (xs.drop k)).length = (xs.length - k) * 10 := by rw [MP.flat_len]; simp
  generalize hW2 : (W.setCells G 0 (MP.flat (xs.take k))).setCells G (k * 10) x.cs = W2 at *
  have hd : Below W2.heap.size W2 W2.drew := (Below.refl _ _).drew
  have q2d := q2.below hd q2.lt
  have hinsd := hins.below hd
  have q3 := q2d.mid (p := k * 10 + 10) (vs := MP.flat (xs.drop k)) (by omega)
  change MA.Rg _ G 0 (splice (splice (splice m 0 (MP.flat (xs.take k))) (k * 10) x.cs) (k * 10 + 10) (MP.flat (xs.drop k))) at q3
  rw [splice_splice_splice m _ _ _ (k * 10) 10 l1 rfl (by omega), Nat.zero_add, show k * 10 + 10 = (k + 1) * 10 by omega] at q3
  have e : MP.flat (PD.put xs x k) = MP.flat (xs.take k) ++ (x.cs ++ MP.flat (xs.drop k)) := by simp [PD.put, MP.flat]
  rw [← e] at q3
  have rp := q2d.part (p := (k + 1) * 10) (n := (xs.length - k) * 10) (by omega)
  rw [Nat.zero_add] at rp
  refine ⟨PC.run_copy _ dT sT ty elem G ((k + 1) * 10) _ _ ⟨g, k * 10, none⟩ _ _ (xs.length - k) 10 _ _ hu hs (Nat.min_self _) l3 ?_ rp (by simp; omega) (PC.flat_one _), q3.row, MA.below_cells (by omega) _ _ _ ((hP2.kept hd).below)⟩
  have := PC.row_cells hinsd (k := k) (m := xs.length - k) (by omega)
  rwa [List.take_of_length_le (by simp)] at this
theorem PwTail.endsE {w W : World} {v : Value} {x : Bd} {xs : List Bd} {g G : Nat} {m : List Value} (h : PwTail w W v x xs g G xs.length m) (hg : g ≠ G) (dT sT ty elem : TypeId) {P : Program} (hu : P.underlying dT = some (.slice elem)) (hs : (P.info? elem).map (·.size) = some 10) :
    (Builtin.copy_ #[dT, sT] ty #[.slice (some ⟨G, 0, none⟩) 0 0, .slice (some ⟨g, 0, none⟩) 0 0]).run P (((W.setCells G 0 (MP.flat (xs.take xs.length))).setCells G (xs.length * 10) x.cs).drew) = .ok (goInt 0) (((W.setCells G 0 (MP.flat (xs.take xs.length))).setCells G (xs.length * 10) x.cs).drew) ∧
    MP.BsAt (((W.setCells G 0 (MP.flat (xs.take xs.length))).setCells G (xs.length * 10) x.cs).drew) (some ⟨G, 0, none⟩) (PD.put xs x xs.length) ∧
    Below w.heap.size w (((W.setCells G 0 (MP.flat (xs.take xs.length))).setCells G (xs.length * 10) x.cs).drew) := by
  have h2 := (h.ends hg dT sT ty elem hu hs).2
  obtain ⟨_, _, q2⟩ := h.two
  have q2d := q2.below (Below.refl _ _).drew q2.lt
  have e : MP.flat (xs.drop xs.length) = [] := by rw [List.drop_length]; rfl
  rw [e] at h2
  exact ⟨PC.run_copy _ dT sT ty elem G 0 0 0 ⟨g, 0, none⟩ 0 0 0 10 [] _ hu hs rfl rfl (fun j v hv => by simp at hv) q2d (by simp) (by simp), h2⟩
set_option linter.unusedSimpArgs false in
set_option maxHeartbeats 800000 in
set_option maxRecDepth 100000 in
theorem withP_any (x : Bd) (g : Nat) (xs : List Bd) (s : PL.Sh) (w : World) (hgw : g < w.heap.size) (hn : xs.length ≤ 60) (hx : x.py.size ≤ 1048576) (ht : Hid (∀ k, k < xs.length → (MP.at_ xs k).py.size ≤ 1048576)) (hin : MP.BsAt w (some ⟨g, 0, none⟩) xs) :
    Calls Try.prog 53 #[.agg (stF (.slice (some ⟨g, 0, none⟩) xs.length xs.length) s).toArray, .agg x.cs.toArray] w fun e w' => ∃ g', e = .returned (.slice (some ⟨g', 0, none⟩) (xs.length + 1) (xs.length + 1)) ∧ w.heap.size ≤ g' ∧ MP.BsAt w' (some ⟨g', 0, none⟩) (PD.put xs x (PD.cut xs x)) ∧ Below w.heap.size w w' := by
  obtain ⟨i0, hi, hz0, hz1, hz2⟩ := info_parts Try.infoParcelB
  have hL0 : (stF (.slice (some ⟨g, 0, none⟩) xs.length xs.length) s)[0]? = some (.slice (some ⟨g, 0, none⟩) xs.length xs.length) := rfl
  generalize stF (.slice (some ⟨g, 0, none⟩) xs.length xs.length) s = L at *
  have hB : Below w.heap.size w ((w.alloc (.cells L.toArray 88)).alloc (.cells x.cs.toArray 94)) := ((Below.refl _ w).alloc (Nat.le_refl _) _).alloc (by simp) _
  have HI : Hid (PwIn w ((w.alloc (.cells L.toArray 88)).alloc (.cells x.cs.toArray 94)) (.slice (some ⟨g, 0, none⟩) xs.length xs.length) x) := ⟨hB, by simp [hL0], MA.Rg.new' _ _ _ _ (by simp)⟩
  clear hB
  go_enter Try.func53, Try.ntmps53
  go_wp2
  clear hL0
  go_loopw [5] (fun iv wr => ∃ k : Nat, iv = .int .i64 k ∧ k ≤ xs.length ∧ PwIn w wr (.slice (some ⟨g, 0, none⟩) xs.length xs.length) x ∧ ∀ i, i < k → PL.ahead (MP.at_ xs i) x = true) (fun iv _ => (xs.length - intOf iv).toNat)
  case atStart => exact ⟨0, rfl, by omega, HI.out, fun i hi => absurd hi (by omega)⟩
  case round =>
    clear HI
    obtain ⟨k, rfl, hk, hI, hno⟩ := hrel
    have HNO : Hid _ := hno
    have HI : Hid _ := hI
    have c0 := hI.arg
    have hxl := hI.box.lt
    have hXr : wr.rangeAt (w.heap.size + 1) 0 x.cs := hI.box.rng
    have hq0 : w.heap.size < wr.heap.size := by omega
    have hk0 : (0 : Int) ≤ (k : Int) := by omega
    have hin2 := hin.below hI.below
    clear hno hI
    by_cases hl : k < xs.length
    · obtain ⟨b, off, hab, hgl, hYr⟩ := MA.row_range hin2 hl
      cases hab
      rw [Nat.zero_add] at hYr
      obtain ⟨y, hy⟩ : ∃ y, MP.at_ xs k = y := ⟨_, rfl⟩
      rw [hy] at hYr
      have hpy : y.py.size ≤ 1048576 := hy ▸ ht.out k hl
      have HY : Hid (MP.at_ xs k = y) := hy
      clear hy
      cases ha : PL.ahead y x with
      | true =>
        have AO : Hid _ := fun W => isAheadOf_any y x W hpy hx true ha
        have HAH : Hid _ := ha
        clear ha
        go_wp2
        refine MR.frame fun A hA => ?_
        have hsz : A.tmps.size = 48 := by rw [hA]; rfl
        have e2 : A.eval (.tmp 2) = .pointer (some ⟨w.heap.size, 0, none⟩) := by rw [hA]; rfl
        have f2 := MR.read (t := 2) (by rw [hsz]; decide) e2
        have e3 : A.eval (.tmp 3) = .pointer (some ⟨w.heap.size + 1, 0, none⟩) := by rw [hA]; rfl
        have f3 := MR.read (t := 3) (by rw [hsz]; decide) e3
        have e5 : A.eval (.tmp 5) = .int .i64 (k : Int) := by rw [hA]; rfl
        have f5 := MR.read (t := 5) (by rw [hsz]; decide) e5
        have HA : Hid (A = _) := hA
        clear hA
        have hS : (fun w' : World => Below wr.heap.size wr w') (World.drew _) := ((Below.refl _ wr).drew)
        refine wp_region_held (S := fun w' : World => Below wr.heap.size wr w') (by kernel_rfl) ?_
        change wpAnyH _ _ _ _ _ _ _ _ (World.drew _)
        refine MR.takeH (i := 0) (some 7) (.int .i64 (k : Int)) rfl rfl (by kernel_rfl) (by kernel_rfl) (by kernel_rfl) (fun _ _ _ h => h) hS (MR.free rfl) (fun wq hw => by simp [execOp, MR.ev, MR.size, hsz, e2, f2, e3, f3, e5, f5, go_sem]) ?_
        refine MR.takeH (i := 1) (some 8) ((.pointer (some ⟨w.heap.size, 0, none⟩))) rfl rfl (by kernel_rfl) (by kernel_rfl) (by kernel_rfl) (fun _ _ _ h => h) hS (MR.free rfl) (fun wq hw => by simp [execOp, MR.ev, MR.size, hsz, e2, f2, e3, f3, e5, f5, go_sem]) ?_
        refine MR.takeH (i := 2) (some 9) ((.slice (some ⟨g, 0, none⟩) xs.length xs.length)) rfl rfl (by kernel_rfl) (by kernel_rfl) (by kernel_rfl) (fun _ _ _ h => h) hS (MR.free rfl) (fun wq hw => by have cq : wq.cell? ⟨w.heap.size, 0, none⟩ = some (.slice (some ⟨g, 0, none⟩) xs.length xs.length) := (hw.cell (p := ⟨w.heap.size, 0, none⟩) hq0).trans c0; simp [execOp, MR.ev, MR.size, hsz, e2, f2, e3, f3, e5, f5, cq, go_sem]) ?_
        refine MR.takeH (i := 3) (some 10) (.int .i64 (xs.length : Int)) rfl rfl (by kernel_rfl) (by kernel_rfl) (by kernel_rfl) (fun _ _ _ h => h) hS (MR.free rfl) (fun wq hw => by simp [execOp, MR.ev, MR.size, hsz, e2, f2, e3, f3, e5, f5, go_sem]) ?_
        refine MR.takeH (i := 4) (some 11) (.bool true) rfl rfl (by kernel_rfl) (by kernel_rfl) (by kernel_rfl) (fun _ _ _ h => h) hS (MR.free rfl) (fun wq hw => by simp [execOp, MR.ev, MR.size, hsz, e2, f2, e3, f3, e5, f5, hl, go_sem]) ?_
        refine MR.takeH (i := 5) (some 12) (.bool true) rfl rfl (by kernel_rfl) (by kernel_rfl) (by kernel_rfl) (fun _ _ _ h => h) hS (MR.free rfl) (fun wq hw => by simp [execOp, MR.ev, MR.size, hsz, e2, f2, e3, f3, e5, f5, go_sem]) ?_
        refine MR.takeH (i := 6) (some 13) ((.pointer (some ⟨w.heap.size, 0, none⟩))) rfl rfl (by kernel_rfl) (by kernel_rfl) (by kernel_rfl) (fun _ _ _ h => h) hS (MR.want (d := 12) rfl rfl (by simp [MR.size, hsz]) (by simp [MR.ev, MR.size, hsz, e2, f2, e3, f3, e5, f5])) (fun wq hw => by simp [execOp, MR.ev, MR.size, hsz, e2, f2, e3, f3, e5, f5, go_sem]) ?_
        refine MR.takeH (i := 7) (some 14) ((.slice (some ⟨g, 0, none⟩) xs.length xs.length)) rfl rfl (by kernel_rfl) (by kernel_rfl) (by kernel_rfl) (fun _ _ _ h => h) hS (MR.want (d := 12) rfl rfl (by simp [MR.size, hsz]) (by simp [MR.ev, MR.size, hsz, e2, f2, e3, f3, e5, f5])) (fun wq hw => by have cq : wq.cell? ⟨w.heap.size, 0, none⟩ = some (.slice (some ⟨g, 0, none⟩) xs.length xs.length) := (hw.cell (p := ⟨w.heap.size, 0, none⟩) hq0).trans c0; simp [execOp, MR.ev, MR.size, hsz, e2, f2, e3, f3, e5, f5, cq, go_sem]) ?_
        refine MR.takeH (i := 8) (some 15) (.int .i64 (k : Int)) rfl rfl (by kernel_rfl) (by kernel_rfl) (by kernel_rfl) (fun _ _ _ h => h) hS (MR.want (d := 12) rfl rfl (by simp [MR.size, hsz]) (by simp [MR.ev, MR.size, hsz, e2, f2, e3, f3, e5, f5])) (fun wq hw => by simp [execOp, MR.ev, MR.size, hsz, e2, f2, e3, f3, e5, f5, go_sem]) ?_
        refine MR.takeH (i := 9) (some 16) (.pointer (some ⟨g, k * 10, none⟩)) rfl rfl (by kernel_rfl) (by kernel_rfl) (by kernel_rfl) (fun _ _ _ h => h) hS (MR.want (d := 12) rfl rfl (by simp [MR.size, hsz]) (by simp [MR.ev, MR.size, hsz, e2, f2, e3, f3, e5, f5])) (fun wq hw => by simp [execOp, MR.ev, MR.size, hsz, e2, f2, e3, f3, e5, f5, hk0, hl, go_sem]) ?_
        refine MR.takeH (i := 10) (some 17) (y.v) rfl rfl (by kernel_rfl) (by kernel_rfl) (by kernel_rfl) (fun _ _ _ h => h) hS (MR.want (d := 12) rfl rfl (by simp [MR.size, hsz]) (by simp [MR.ev, MR.size, hsz, e2, f2, e3, f3, e5, f5])) (fun wq hw => MA.ex_load rfl (by simp [MR.ev, MR.size, hsz, e2, f2, e3, f3, e5, f5]) (MA.range_below hYr hw hgl) Try.underlying94 rfl Try.sizeParcel rfl) ?_
        refine MR.takeH (i := 11) (some 18) (x.v) rfl rfl (by kernel_rfl) (by kernel_rfl) (by kernel_rfl) (fun _ _ _ h => h) hS (MR.want (d := 12) rfl rfl (by simp [MR.size, hsz]) (by simp [MR.ev, MR.size, hsz, e2, f2, e3, f3, e5, f5])) (fun wq hw => MA.ex_load rfl (by simp [MR.ev, MR.size, hsz, e2, f2, e3, f3, e5, f5]) (MA.range_below hXr hw hxl) Try.underlying94 rfl Try.sizeParcel rfl) ?_
        refine MR.callH (i := 12) (some 19) (91) (#[y.v, x.v]) (by kernel_rfl) rfl rfl (MR.want (d := 12) rfl rfl (by simp [MR.size, hsz]) (by simp [MR.ev, MR.size, hsz, e2, f2, e3, f3, e5, f5])) (by simp [execOp, MR.ev, MR.size, hsz, e2, f2, e3, f3, e5, f5, go_sem]) ?_
        refine Calls.mono (AO.out _) ?_
        rintro e w3 ⟨rfl, hb3⟩
        have hS3 : Below wr.heap.size wr w3 := hS.trans (hb3.mono hS.size)
        refine ⟨_, rfl, hS3, ?_⟩
        refine MR.takeH (i := 13) (some 20) (.bool true) rfl rfl (by kernel_rfl) (by kernel_rfl) (by kernel_rfl) (fun _ _ _ h => h) hS3 (MR.free rfl) (fun wq hw => by simp [execOp, MR.ev, MR.size, hsz, e2, f2, e3, f3, e5, f5, go_sem]) ?_
        refine wpAnyH_done (by kernel_rfl) ?_ _
        rw [HA.out]
        have hP := HI.out.kept hS3
        have HP : Hid _ := hP
        clear hP hb3 hS3 HA hS hXr hYr c0 AO e2 e3 e5 f2 f3 f5 hsz HI hin2
        simp only [Act.put, List.setIfInBounds_toArray, List.set_cons_succ, List.set_cons_zero]
        go_wp2
        go_roundw
        case rel => exact ⟨k + 1, by go_num, by omega, HP.out, fun i hi => if e : i = k then by rw [e, HY.out]; exact HAH.out else HNO.out i (by omega)⟩
        case measure => simp [intOf]; omega
      | false =>
        have AO : Hid _ := fun W => isAheadOf_any y x W hpy hx false ha
        have HC : Hid (PD.cut xs x = k) := PD.cut_is hk HNO.out (fun _ => by rw [HY.out]; exact ha)
        clear ha
        go_wp2
        refine MR.frame fun A hA => ?_
        have hsz : A.tmps.size = 48 := by rw [hA]; rfl
        have e2 : A.eval (.tmp 2) = .pointer (some ⟨w.heap.size, 0, none⟩) := by rw [hA]; rfl
        have f2 := MR.read (t := 2) (by rw [hsz]; decide) e2
        have e3 : A.eval (.tmp 3) = .pointer (some ⟨w.heap.size + 1, 0, none⟩) := by rw [hA]; rfl
        have f3 := MR.read (t := 3) (by rw [hsz]; decide) e3
        have e5 : A.eval (.tmp 5) = .int .i64 (k : Int) := by rw [hA]; rfl
        have f5 := MR.read (t := 5) (by rw [hsz]; decide) e5
        have HA : Hid (A = _) := hA
        clear hA
        have hS : (fun w' : World => Below wr.heap.size wr w') (World.drew _) := ((Below.refl _ wr).drew)
        refine wp_region_held (S := fun w' : World => Below wr.heap.size wr w') (by kernel_rfl) ?_
        change wpAnyH _ _ _ _ _ _ _ _ (World.drew _)
        refine MR.takeH (i := 0) (some 7) (.int .i64 (k : Int)) rfl rfl (by kernel_rfl) (by kernel_rfl) (by kernel_rfl) (fun _ _ _ h => h) hS (MR.free rfl) (fun wq hw => by simp [execOp, MR.ev, MR.size, hsz, e2, f2, e3, f3, e5, f5, go_sem]) ?_
        refine MR.takeH (i := 1) (some 8) ((.pointer (some ⟨w.heap.size, 0, none⟩))) rfl rfl (by kernel_rfl) (by kernel_rfl) (by kernel_rfl) (fun _ _ _ h => h) hS (MR.free rfl) (fun wq hw => by simp [execOp, MR.ev, MR.size, hsz, e2, f2, e3, f3, e5, f5, go_sem]) ?_
        refine MR.takeH (i := 2) (some 9) ((.slice (some ⟨g, 0, none⟩) xs.length xs.length)) rfl rfl (by kernel_rfl) (by kernel_rfl) (by kernel_rfl) (fun _ _ _ h => h) hS (MR.free rfl) (fun wq hw => by have cq : wq.cell? ⟨w.heap.size, 0, none⟩ = some (.slice (some ⟨g, 0, none⟩) xs.length xs.length) := (hw.cell (p := ⟨w.heap.size, 0, none⟩) hq0).trans c0; simp [execOp, MR.ev, MR.size, hsz, e2, f2, e3, f3, e5, f5, cq, go_sem]) ?_
        refine MR.takeH (i := 3) (some 10) (.int .i64 (xs.length : Int)) rfl rfl (by kernel_rfl) (by kernel_rfl) (by kernel_rfl) (fun _ _ _ h => h) hS (MR.free rfl) (fun wq hw => by simp [execOp, MR.ev, MR.size, hsz, e2, f2, e3, f3, e5, f5, go_sem]) ?_
        refine MR.takeH (i := 4) (some 11) (.bool true) rfl rfl (by kernel_rfl) (by kernel_rfl) (by kernel_rfl) (fun _ _ _ h => h) hS (MR.free rfl) (fun wq hw => by simp [execOp, MR.ev, MR.size, hsz, e2, f2, e3, f3, e5, f5, hl, go_sem]) ?_
        refine MR.takeH (i := 5) (some 12) (.bool true) rfl rfl (by kernel_rfl) (by kernel_rfl) (by kernel_rfl) (fun _ _ _ h => h) hS (MR.free rfl) (fun wq hw => by simp [execOp, MR.ev, MR.size, hsz, e2, f2, e3, f3, e5, f5, go_sem]) ?_
        refine MR.takeH (i := 6) (some 13) ((.pointer (some ⟨w.heap.size, 0, none⟩))) rfl rfl (by kernel_rfl) (by kernel_rfl) (by kernel_rfl) (fun _ _ _ h => h) hS (MR.want (d := 12) rfl rfl (by simp [MR.size, hsz]) (by simp [MR.ev, MR.size, hsz, e2, f2, e3, f3, e5, f5])) (fun wq hw => by simp [execOp, MR.ev, MR.size, hsz, e2, f2, e3, f3, e5, f5, go_sem]) ?_
        refine MR.takeH (i := 7) (some 14) ((.slice (some ⟨g, 0, none⟩) xs.length xs.length)) rfl rfl (by kernel_rfl) (by kernel_rfl) (by kernel_rfl) (fun _ _ _ h => h) hS (MR.want (d := 12) rfl rfl (by simp [MR.size, hsz]) (by simp [MR.ev, MR.size, hsz, e2, f2, e3, f3, e5, f5])) (fun wq hw => by have cq : wq.cell? ⟨w.heap.size, 0, none⟩ = some (.slice (some ⟨g, 0, none⟩) xs.length xs.length) := (hw.cell (p := ⟨w.heap.size, 0, none⟩) hq0).trans c0; simp [execOp, MR.ev, MR.size, hsz, e2, f2, e3, f3, e5, f5, cq, go_sem]) ?_
        refine MR.takeH (i := 8) (some 15) (.int .i64 (k : Int)) rfl rfl (by kernel_rfl) (by kernel_rfl) (by kernel_rfl) (fun _ _ _ h => h) hS (MR.want (d := 12) rfl rfl (by simp [MR.size, hsz]) (by simp [MR.ev, MR.size, hsz, e2, f2, e3, f3, e5, f5])) (fun wq hw => by simp [execOp, MR.ev, MR.size, hsz, e2, f2, e3, f3, e5, f5, go_sem]) ?_
        refine MR.takeH (i := 9) (some 16) (.pointer (some ⟨g, k * 10, none⟩)) rfl rfl (by kernel_rfl) (by kernel_rfl) (by kernel_rfl) (fun _ _ _ h => h) hS (MR.want (d := 12) rfl rfl (by simp [MR.size, hsz]) (by simp [MR.ev, MR.size, hsz, e2, f2, e3, f3, e5, f5])) (fun wq hw => by simp [execOp, MR.ev, MR.size, hsz, e2, f2, e3, f3, e5, f5, hk0, hl, go_sem]) ?_
        refine MR.takeH (i := 10) (some 17) (y.v) rfl rfl (by kernel_rfl) (by kernel_rfl) (by kernel_rfl) (fun _ _ _ h => h) hS (MR.want (d := 12) rfl rfl (by simp [MR.size, hsz]) (by simp [MR.ev, MR.size, hsz, e2, f2, e3, f3, e5, f5])) (fun wq hw => MA.ex_load rfl (by simp [MR.ev, MR.size, hsz, e2, f2, e3, f3, e5, f5]) (MA.range_below hYr hw hgl) Try.underlying94 rfl Try.sizeParcel rfl) ?_
        refine MR.takeH (i := 11) (some 18) (x.v) rfl rfl (by kernel_rfl) (by kernel_rfl) (by kernel_rfl) (fun _ _ _ h => h) hS (MR.want (d := 12) rfl rfl (by simp [MR.size, hsz]) (by simp [MR.ev, MR.size, hsz, e2, f2, e3, f3, e5, f5])) (fun wq hw => MA.ex_load rfl (by simp [MR.ev, MR.size, hsz, e2, f2, e3, f3, e5, f5]) (MA.range_below hXr hw hxl) Try.underlying94 rfl Try.sizeParcel rfl) ?_
        refine MR.callH (i := 12) (some 19) (91) (#[y.v, x.v]) (by kernel_rfl) rfl rfl (MR.want (d := 12) rfl rfl (by simp [MR.size, hsz]) (by simp [MR.ev, MR.size, hsz, e2, f2, e3, f3, e5, f5])) (by simp [execOp, MR.ev, MR.size, hsz, e2, f2, e3, f3, e5, f5, go_sem]) ?_
        refine Calls.mono (AO.out _) ?_
        rintro e w3 ⟨rfl, hb3⟩
        have hS3 : Below wr.heap.size wr w3 := hS.trans (hb3.mono hS.size)
        refine ⟨_, rfl, hS3, ?_⟩
        refine MR.takeH (i := 13) (some 20) (.bool false) rfl rfl (by kernel_rfl) (by kernel_rfl) (by kernel_rfl) (fun _ _ _ h => h) hS3 (MR.free rfl) (fun wq hw => by simp [execOp, MR.ev, MR.size, hsz, e2, f2, e3, f3, e5, f5, go_sem]) ?_
        refine wpAnyH_done (by kernel_rfl) ?_ _
        rw [HA.out]
        have hP := HI.out.kept hS3
        have hin3 := hin2.below hS3
        clear HA hS hXr hYr c0 AO hb3 hS3 HI e2 e3 e5 f2 f3 f5 hsz
        simp only [Act.put, List.setIfInBounds_toArray, List.set_cons_succ, List.set_cons_zero]
        have hne : ¬ xs.length = k := by omega
        have c1 := hP.arg
        clear hin2 hxl hq0
        go_wp2_with (first
          | (at_make; refine wpList_make_full _ rfl _ _ 80 rfl w3.heap.size 94 i0 (.agg (Bd.cs B1.zero).toArray) 10 Try.underlying80 hi hz0 hz1 .i64 .i64 _ _ (xs.length + 1) rfl rfl rfl rfl ?_ ?_ ?_ ?_))
        · rw [hz2]; omega
        · unfold maxLen; omega
        · exact Nat.le_refl _
        intro w4 hown hgrow
        have hk4 : Below w3.heap.size w3 w4 := (Below.refl _ _).grown hgrow (Nat.le_refl _) (fun j hj => by cases hj)
        have hml := hown.1
        have r1 := MA.Rg.of_own hown
        generalize (madeCells _ _).toList = m at *
        have hP4 := hP.kept hk4
        have hin4 := hin3.below hk4
        have hG : w.heap.size + 1 < w3.heap.size := hP.box.lt
        have c4 := hP4.arg
        have HT : Hid _ := PwTail.mk' hG hk hml r1 hP4 hin4
        clear hown hgrow hk4 hml r1 hP4 hin4 hin3 c1 hi hz0 hz1 hz2 hP
        have cp1 := HT.out.copy1 80 80 3 94 Try.underlying80 Try.sizeParcel
        obtain ⟨pc, hpc, rpc⟩ := HT.out.part
        have HPC : Hid _ := hpc
        have R5 : Hid _ := rpc
        clear hpc rpc
        have X5 : Hid _ := (HT.out.pw.cells HT.out.gt (o := 0) (MP.flat (xs.take k))).box.rng
        have hgG : g ≠ w3.heap.size := by omega
        have HE : Hid _ := HT.out.ends hgG 80 80 3 94 Try.underlying80 Try.sizeParcel
        have C6 : Hid _ := HT.out.arg2
        have hk1 : (0 : Int) ≤ (k : Int) + 1 := by omega
        have hk2 : (k : Int) < (xs.length : Int) + 1 := by omega
        clear HT
        generalize w4.setCells w3.heap.size 0 (MP.flat (xs.take k)) = w5 at *
        go_wp2_with (first
          | (refine MA.load_r rfl 94 _ rfl rfl (cs := x.cs) ?_ Try.underlying94 rfl Try.sizeParcel rfl ?_; exact X5.out)
          | (refine MA.store_m rfl 94 _ _ rfl rfl rfl (cs := pc) ?_ Try.sizeParcel HPC.out rfl (MA.cs_one x) ?_; exact R5.out; clear R5 X5; generalize World.setCells _ _ _ _ = w6 at *))
        have cp2 := HE.out.1
        have c6 : w6.drew.cell? ⟨w.heap.size, 0, none⟩ = some (.slice (some ⟨g, 0, none⟩) xs.length xs.length) := C6.out
        clear cp1 c4 C6
        have sl1 := fun W => Try.cutA w3.heap.size xs.length k hl W
        have sl2 := fun W => Try.cutB g xs.length k hl W
        have cE : (w6.drew.setCells w3.heap.size ((k + 1) * 10) (MP.flat (List.drop k xs))).cell? ⟨w.heap.size, 0, none⟩ = some (.slice (some ⟨g, 0, none⟩) xs.length xs.length) := by rw [World.cell?_setCells_out _ _ _ _ _ (fun h => by have h' : w.heap.size = w3.heap.size := h; omega)]; exact c6
        have hwr : IntKind.i64.wrap ((k : Int) + 1) = (k : Int) + 1 := by have := M1.i64_wrap (k + 1) (by omega); simpa using this
        go_region_held3 (fun w' => w'.cell? ⟨w.heap.size, 0, none⟩ = some (.slice (some ⟨g, 0, none⟩) xs.length xs.length)) (first | exact c6 | exact cE | go_keep) (fail)
        go_wp2
        go_ret
        exact ⟨w3.heap.size, rfl, by omega, by rw [HC.out]; exact HE.out.2.1, HE.out.2.2⟩
    · obtain rfl : k = xs.length := by omega
      have HC : Hid (PD.cut xs x = xs.length) := PD.cut_is hk HNO.out (fun h => absurd h hl)
      go_wp2
      refine MR.frame fun A hA => ?_
      have hsz : A.tmps.size = 48 := by rw [hA]; rfl
      have e2 : A.eval (.tmp 2) = .pointer (some ⟨w.heap.size, 0, none⟩) := by rw [hA]; rfl
      have f2 := MR.read (t := 2) (by rw [hsz]; decide) e2
      have e3 : A.eval (.tmp 3) = .pointer (some ⟨w.heap.size + 1, 0, none⟩) := by rw [hA]; rfl
      have f3 := MR.read (t := 3) (by rw [hsz]; decide) e3
      have e5 : A.eval (.tmp 5) = .int .i64 (xs.length : Int) := by rw [hA]; rfl
      have f5 := MR.read (t := 5) (by rw [hsz]; decide) e5
      have HA : Hid (A = _) := hA
      clear hA
      have hS : (fun w' : World => Below wr.heap.size wr w') (World.drew _) := ((Below.refl _ wr).drew)
      refine wp_region_held (S := fun w' : World => Below wr.heap.size wr w') (by kernel_rfl) ?_
      change wpAnyH _ _ _ _ _ _ _ _ (World.drew _)
      refine MR.takeH (i := 0) (some 7) (.int .i64 (xs.length : Int)) rfl rfl (by kernel_rfl) (by kernel_rfl) (by kernel_rfl) (fun _ _ _ h => h) hS (MR.free rfl) (fun wq hw => by simp [execOp, MR.ev, MR.size, hsz, e2, f2, e3, f3, e5, f5, go_sem]) ?_
      refine MR.takeH (i := 1) (some 8) ((.pointer (some ⟨w.heap.size, 0, none⟩))) rfl rfl (by kernel_rfl) (by kernel_rfl) (by kernel_rfl) (fun _ _ _ h => h) hS (MR.free rfl) (fun wq hw => by simp [execOp, MR.ev, MR.size, hsz, e2, f2, e3, f3, e5, f5, go_sem]) ?_
      refine MR.takeH (i := 2) (some 9) ((.slice (some ⟨g, 0, none⟩) xs.length xs.length)) rfl rfl (by kernel_rfl) (by kernel_rfl) (by kernel_rfl) (fun _ _ _ h => h) hS (MR.free rfl) (fun wq hw => by have cq : wq.cell? ⟨w.heap.size, 0, none⟩ = some (.slice (some ⟨g, 0, none⟩) xs.length xs.length) := (hw.cell (p := ⟨w.heap.size, 0, none⟩) hq0).trans c0; simp [execOp, MR.ev, MR.size, hsz, e2, f2, e3, f3, e5, f5, cq, go_sem]) ?_
      refine MR.takeH (i := 3) (some 10) (.int .i64 (xs.length : Int)) rfl rfl (by kernel_rfl) (by kernel_rfl) (by kernel_rfl) (fun _ _ _ h => h) hS (MR.free rfl) (fun wq hw => by simp [execOp, MR.ev, MR.size, hsz, e2, f2, e3, f3, e5, f5, go_sem]) ?_
      refine MR.takeH (i := 4) (some 11) (.bool false) rfl rfl (by kernel_rfl) (by kernel_rfl) (by kernel_rfl) (fun _ _ _ h => h) hS (MR.free rfl) (fun wq hw => by simp [execOp, MR.ev, MR.size, hsz, e2, f2, e3, f3, e5, f5, hl, go_sem]) ?_
      refine MR.takeH (i := 5) (some 12) (.bool false) rfl rfl (by kernel_rfl) (by kernel_rfl) (by kernel_rfl) (fun _ _ _ h => h) hS (MR.free rfl) (fun wq hw => by simp [execOp, MR.ev, MR.size, hsz, e2, f2, e3, f3, e5, f5, go_sem]) ?_
      refine MR.skipH (i := 6) (some 13) rfl rfl (by kernel_rfl) (by kernel_rfl) (by kernel_rfl) (fun _ _ _ h => h) hS (MR.unwant (d := 12) (b' := false) rfl rfl (by simp [MR.size, hsz]) (by simp [MR.ev, MR.size, hsz, e2, f2, e3, f3, e5, f5]) (by decide)) ?_
      refine MR.skipH (i := 7) (some 14) rfl rfl (by kernel_rfl) (by kernel_rfl) (by kernel_rfl) (fun _ _ _ h => h) hS (MR.unwant (d := 12) (b' := false) rfl rfl (by simp [MR.size, hsz]) (by simp [MR.ev, MR.size, hsz, e2, f2, e3, f3, e5, f5]) (by decide)) ?_
      refine MR.skipH (i := 8) (some 15) rfl rfl (by kernel_rfl) (by kernel_rfl) (by kernel_rfl) (fun _ _ _ h => h) hS (MR.unwant (d := 12) (b' := false) rfl rfl (by simp [MR.size, hsz]) (by simp [MR.ev, MR.size, hsz, e2, f2, e3, f3, e5, f5]) (by decide)) ?_
      refine MR.skipH (i := 9) (some 16) rfl rfl (by kernel_rfl) (by kernel_rfl) (by kernel_rfl) (fun _ _ _ h => h) hS (MR.unwant (d := 12) (b' := false) rfl rfl (by simp [MR.size, hsz]) (by simp [MR.ev, MR.size, hsz, e2, f2, e3, f3, e5, f5]) (by decide)) ?_
      refine MR.skipH (i := 10) (some 17) rfl rfl (by kernel_rfl) (by kernel_rfl) (by kernel_rfl) (fun _ _ _ h => h) hS (MR.unwant (d := 12) (b' := false) rfl rfl (by simp [MR.size, hsz]) (by simp [MR.ev, MR.size, hsz, e2, f2, e3, f3, e5, f5]) (by decide)) ?_
      refine MR.skipH (i := 11) (some 18) rfl rfl (by kernel_rfl) (by kernel_rfl) (by kernel_rfl) (fun _ _ _ h => h) hS (MR.unwant (d := 12) (b' := false) rfl rfl (by simp [MR.size, hsz]) (by simp [MR.ev, MR.size, hsz, e2, f2, e3, f3, e5, f5]) (by decide)) ?_
      refine MR.skipH (i := 12) (some 19) rfl rfl (by kernel_rfl) (by kernel_rfl) (by kernel_rfl) (fun _ _ _ h => h) hS (MR.unwant (d := 12) (b' := false) rfl rfl (by simp [MR.size, hsz]) (by simp [MR.ev, MR.size, hsz, e2, f2, e3, f3, e5, f5]) (by decide)) ?_
      refine MR.takeH (i := 13) (some 20) (.bool false) rfl rfl (by kernel_rfl) (by kernel_rfl) (by kernel_rfl) (fun _ _ _ h => h) hS (MR.free rfl) (fun wq hw => by simp [execOp, MR.ev, MR.size, hsz, e2, f2, e3, f3, e5, f5, go_sem]) ?_
      refine wpAnyH_done (by kernel_rfl) ?_ _
      rw [HA.out]
      have hP := HI.out.kept hS
      have hin3 := hin2.below hS
      clear HA hXr c0 HI e2 e3 e5 f2 f3 f5 hsz
      simp only [Act.put, List.setIfInBounds_toArray, List.set_cons_succ, List.set_cons_zero]
      clear hS
      generalize World.drew _ = w3 at *
      have c1 := hP.arg
      clear hin2 hxl hq0
      go_wp2_with (first
        | (at_make; refine wpList_make_full _ rfl _ _ 80 rfl w3.heap.size 94 i0 (.agg (Bd.cs B1.zero).toArray) 10 Try.underlying80 hi hz0 hz1 .i64 .i64 _ _ (xs.length + 1) rfl rfl rfl rfl ?_ ?_ ?_ ?_))
      · rw [hz2]; omega
      · unfold maxLen; omega
      · exact Nat.le_refl _
      intro w4 hown hgrow
      have hk4 : Below w3.heap.size w3 w4 := (Below.refl _ _).grown hgrow (Nat.le_refl _) (fun j hj => by cases hj)
      have hml := hown.1
      have r1 := MA.Rg.of_own hown
      generalize (madeCells _ _).toList = m at *
      have hP4 := hP.kept hk4
      have hin4 := hin3.below hk4
      have hG : w.heap.size + 1 < w3.heap.size := hP.box.lt
      have c4 := hP4.arg
      have HT : Hid _ := PwTail.mk' hG hk hml r1 hP4 hin4
      clear hown hgrow hk4 hml r1 hP4 hin4 hin3 c1 hi hz0 hz1 hz2 hP
      have cp1 := HT.out.copy1 80 80 3 94 Try.underlying80 Try.sizeParcel
      obtain ⟨pc, hpc, rpc⟩ := HT.out.part
      have HPC : Hid _ := hpc
      have R5 : Hid _ := rpc
      clear hpc rpc
      have X5 : Hid _ := (HT.out.pw.cells HT.out.gt (o := 0) (MP.flat (xs.take xs.length))).box.rng
      have hgG : g ≠ w3.heap.size := by omega
      have HE : Hid _ := HT.out.endsE hgG 80 80 3 94 Try.underlying80 Try.sizeParcel
      have C6 : Hid _ := HT.out.arg2
      have hk1 : (0 : Int) ≤ (xs.length : Int) + 1 := by omega
      have hk2 : (xs.length : Int) < (xs.length : Int) + 1 := by omega
      clear HT
      generalize w4.setCells w3.heap.size 0 (MP.flat (xs.take xs.length)) = w5 at *
      go_wp2_with (first
        | (refine MA.load_r rfl 94 _ rfl rfl (cs := x.cs) ?_ Try.underlying94 rfl Try.sizeParcel rfl ?_; exact X5.out)
        | (refine MA.store_m rfl 94 _ _ rfl rfl rfl (cs := pc) ?_ Try.sizeParcel HPC.out rfl (MA.cs_one x) ?_; exact R5.out; clear R5 X5; generalize World.setCells _ _ _ _ = w6 at *))
      have cp2 := HE.out.1
      have c6 : w6.drew.cell? ⟨w.heap.size, 0, none⟩ = some (.slice (some ⟨g, 0, none⟩) xs.length xs.length) := C6.out
      clear cp1 c4 C6
      have sl1 := fun W => Try.cutC w3.heap.size xs.length W
      have sl2 := fun W => Try.cutD g xs.length W
      have cE := c6
      have hwr : IntKind.i64.wrap ((xs.length : Int) + 1) = (xs.length : Int) + 1 := by have := M1.i64_wrap (xs.length + 1) (by omega); simpa using this
      go_region_held3 (fun w' => w'.cell? ⟨w.heap.size, 0, none⟩ = some (.slice (some ⟨g, 0, none⟩) xs.length xs.length)) (first | exact c6 | exact cE | go_keep) (fail)
      go_wp2
      go_ret
      exact ⟨w3.heap.size, rfl, by omega, by rw [HC.out]; exact HE.out.2.1, HE.out.2.2⟩
end Go.Proofs.Ytjekofjhplhemaa
