/- stackUp: parcels laid on one sheet, one by one. -/
import Derived.Test.YtjekofjhplhemaaRows
import Derived.Test.YtjekofjhplhemaaCWith
import Derived.Test.YtjekofjhplhemaaCPiece
import Derived.WalkKit
import Derived.WalkSpells
import Derived.WalkLawsBesides
import Derived.Outline
namespace Go.Proofs.Ytjekofjhplhemaa
open Go.RowKit
/-- A stack's cells. -/
def stF (v : Value) (s : PL.Sh) : List Value := v :: MA.sF s
theorem Try.infoParcel : (Try.prog.info? 94).map (fun i => (i.zero, i.size)) = some (some (.agg (Bd.cs B1.zero).toArray), 10) := by kernel_rfl
theorem Try.sizeParcel : (Try.prog.info? 94).map (·.size) = some 10 := by kernel_rfl
theorem Try.infoStack' : (Try.prog.info? 88).map (fun i => (i.zero, i.size)) = some (some (.agg (stF (.slice none 0 0) PL.blank).toArray), 121) := by kernel_rfl
theorem Try.builtStack0 : Try.prog.built 88 [] = some (stF (.slice none 0 0) PL.blank).toArray := by kernel_rfl
theorem Try.builtStack (a : Option Addr) (n c : Nat) : Try.prog.built 88 [(0, .slice a n c)] = some (stF (.slice a n c) PL.blank).toArray := by kernel_rfl
theorem MA.build_p {P : Program} {ops : Array Oper} {rest : List Oper} {op : Oper} {a : Act} {w : World} {Q : Exit → Act → World → Prop} (hgd : op.guard = none) (ty : TypeId) {parts : Array (Nat × Operand)} (ho : op.op = .build ty parts)
    (ps : List (Nat × Value)) (hps : (parts.map fun (i, x) => (i, a.eval x)).toList = ps) {cs : List Value} (hb : P.built ty ps = some cs.toArray)
    (h : wpList P ops Q rest (a.put op.dst (.agg cs.toArray)) w) : wpList P ops Q (op :: rest) a w := MA.build_m hgd ty ho (by rw [hps]; exact hb) h
/-- What stackUp answers. -/
def upOk (xs : List Bd) : Bool := decide (xs.length ≤ 60) && PL.upto (PL.stepI xs) xs.length
def upV (xs : List Bd) (v : Value) : List Value := if upOk xs = true then stF v (PL.sh xs xs.length) else (stF (.slice none 0 0) PL.blank)
theorem up_no {xs : List Bd} {v : Value} (h : upOk xs = false) : Ending.returned (.tuple #[.agg (stF (.slice none 0 0) PL.blank).toArray, .bool false]) = .returned (.tuple #[.agg (upV xs v).toArray, .bool (upOk xs)]) := by
  simp [upV, h]
theorem up_yes {xs : List Bd} {v : Value} (h : upOk xs = true) : Ending.returned (.tuple #[.agg (stF v (PL.sh xs xs.length)).toArray, .bool true]) = .returned (.tuple #[.agg (upV xs v).toArray, .bool (upOk xs)]) := by
  simp [upV, h]
theorem up_step {xs : List Bd} {k : Nat} (hk : k < xs.length) (h : PL.stepI xs k = false) : upOk xs = false := by
  simp [upOk, PL.upto_no hk h]
theorem Z_len : (stF (.slice none 0 0) PL.blank).length = 121 := by simp [stF, MA.sF_len]
theorem Z_one : ∀ v ∈ (stF (.slice none 0 0) PL.blank), v.oneCell' = true := by
  intro v hv
  rcases List.mem_cons.1 hv with rfl | h
  · rfl
  · exact MA.sF_one _ v h
theorem st_len (a : Option Addr) (n c : Nat) (s : PL.Sh) : (stF (.slice a n c) s).length = 121 := by simp [stF, MA.sF_len]
theorem st_one (a : Option Addr) (n c : Nat) (s : PL.Sh) : ∀ v ∈ (stF (.slice a n c) s), v.oneCell' = true := by
  intro v hv
  rcases List.mem_cons.1 hv with rfl | h
  · rfl
  · exact MA.sF_one _ v h
/-- What the memory of the call holds. -/
structure UpIn (w W : World) (v : Value) (s : PL.Sh) : Prop where
  below : Below w.heap.size w W
  res : MA.Rg W w.heap.size 0 (stF (.slice none 0 0) PL.blank)
  hd : MA.Rg W (w.heap.size + 1) 0 [v]
  sht : MA.Rg W (w.heap.size + 1) 1 (MA.sF s)
theorem UpIn.kept {w W W' : World} {v : Value} {s : PL.Sh} (h : UpIn w W v s) (hb : Below W.heap.size W W') : UpIn w W' v s :=
  ⟨h.below.trans (hb.mono h.below.size), h.res.below hb h.res.lt, h.hd.below hb h.hd.lt, h.sht.below hb h.sht.lt⟩
theorem UpIn.laid {w W : World} {v : Value} {s : PL.Sh} (h : UpIn w W v s) (t : PL.Sh) : UpIn w (W.setCells (w.heap.size + 1) 1 (MA.sF t)) v t :=
  ⟨MA.below_cells (by omega) _ _ _ h.below, h.res.other (.inl (by omega)), h.hd.other (.inr (.inl (by simp))), h.sht.put (by rw [MA.sF_len, MA.sF_len])⟩
theorem UpIn.all {w W : World} {v : Value} {s : PL.Sh} (h : UpIn w W v s) : MA.Rg W (w.heap.size + 1) 0 (stF v s) := MA.Rg.join (xs := [v]) h.hd h.sht
/-- A new variable that holds a parcel. -/
theorem new_parcel (W : World) (x : Bd) (t : TypeId) : Below W.heap.size W ((W.alloc (.cells (Bd.cs B1.zero).toArray t)).setCells W.heap.size 0 x.cs) ∧ MA.Rg ((W.alloc (.cells (Bd.cs B1.zero).toArray t)).setCells W.heap.size 0 x.cs) W.heap.size 0 x.cs :=
  ⟨MA.below_cells (Nat.le_refl _) _ _ _ ((Below.refl _ W).alloc (Nat.le_refl _) _), (MA.Rg.new W (Bd.cs B1.zero) t).put rfl⟩
theorem new_sheet (W : World) (s : PL.Sh) (t : TypeId) : Below W.heap.size W ((W.alloc (.cells (MA.sF PL.blank).toArray t)).setCells W.heap.size 0 (MA.sF s)) ∧ MA.Rg ((W.alloc (.cells (MA.sF PL.blank).toArray t)).setCells W.heap.size 0 (MA.sF s)) W.heap.size 0 (MA.sF s) :=
  ⟨MA.below_cells (Nat.le_refl _) _ _ _ ((Below.refl _ W).alloc (Nat.le_refl _) _), (MA.Rg.new W (MA.sF PL.blank) t).put (by rw [MA.sF_len, MA.sF_len])⟩
set_option linter.unusedSimpArgs false in
set_option maxHeartbeats 1600000 in
set_option maxRecDepth 100000 in
theorem stackUp_any (a : Option Addr) (cap : Nat) (xs : List Bd) (w : World) (hn : xs.length ≤ 1048576) (ht : Hid (∀ k, k < xs.length → (MP.at_ xs k).py.size ≤ 1048576)) (hin : MP.BsAt w a xs) :
    Calls Try.prog 52 #[.slice a xs.length cap] w fun e w' => e = .returned (.tuple #[.agg (upV xs (.slice a xs.length cap)).toArray, .bool (upOk xs)]) ∧ Below w.heap.size w w' := by
  by_cases h60 : xs.length ≤ 60
  · have HB0 : Hid (UpIn w (World.setCells ((w.alloc (.cells (stF (.slice none 0 0) PL.blank).toArray 88)).alloc (.cells (stF (.slice none 0 0) PL.blank).toArray 88)) (w.heap.size + 1) 0 (stF (.slice a xs.length cap) PL.blank)) (.slice a xs.length cap) (PL.sh xs 0)) := by
      have r0 := (MA.Rg.new w (stF (.slice none 0 0) PL.blank) 88).alloc (.cells (stF (.slice none 0 0) PL.blank).toArray 88)
      have r1 := (MA.Rg.new' (w.alloc (.cells (stF (.slice none 0 0) PL.blank).toArray 88)) (stF (.slice none 0 0) PL.blank) 88 (w.heap.size + 1) (by simp)).put (vs := stF (.slice a xs.length cap) PL.blank) (by rw [Z_len, st_len])
      have r2 := MA.Rg.app (xs := [.slice a xs.length cap]) r1
      exact ⟨MA.below_cells (by omega) _ _ _ (((Below.refl _ w).alloc (Nat.le_refl _) _).alloc (by simp) _), r0.other (.inl (by omega)), r2.1, r2.2⟩
    have R1 : Hid (MA.Rg ((w.alloc (.cells (stF (.slice none 0 0) PL.blank).toArray 88)).alloc (.cells (stF (.slice none 0 0) PL.blank).toArray 88)) (w.heap.size + 1) 0 (stF (.slice none 0 0) PL.blank)) := MA.Rg.new' (w.alloc (.cells (stF (.slice none 0 0) PL.blank).toArray 88)) (stF (.slice none 0 0) PL.blank) 88 (w.heap.size + 1) (by simp)
    go_enter Try.func52, Try.ntmps52
    go_wp2_with (first
      | (refine MA.alloc_z rfl 88 rfl _ _ Try.infoStack' ?_; simp only [MA.sz_alloc])
      | (refine MA.build_p rfl 88 rfl [(0, .slice a xs.length cap)] (by simp [Act.eval]) (Try.builtStack _ _ _) ?_)
      | (refine MA.store_m rfl 88 _ _ rfl rfl rfl (cs := (stF (.slice none 0 0) PL.blank)) ?_ Try.sizeStack Z_len (st_len _ _ _ _) (st_one _ _ _ _) ?_; exact R1.out; clear R1; generalize World.setCells _ _ _ _ = W at *))
    go_loopw [17] (fun iv wr => ∃ k : Nat, iv = .int .i64 k ∧ k ≤ xs.length ∧ Hid (PL.upto (PL.stepI xs) k = true) ∧ UpIn w wr (.slice a xs.length cap) (PL.sh xs k)) (fun iv _ => (xs.length - intOf iv).toNat)
    case atStart => exact ⟨0, rfl, by omega, PL.upto_zero _, HB0.out⟩
    case round =>
      clear HB0
      obtain ⟨k, rfl, hk, hU, hI⟩ := hrel
      by_cases hl : k < xs.length
      · obtain ⟨b, off, rfl, hbl0, rg⟩ := MA.row_range (hin.below hI.below) hl
        obtain ⟨x, hx⟩ : ∃ x, MP.at_ xs k = x := ⟨_, rfl⟩
        have hpx : x.py.size ≤ 1048576 := hx ▸ ht.out k hl
        rw [hx] at rg
        have RG : Hid _ := rg
        have HXX : Hid (MP.at_ xs k = x) := hx
        clear hx rg
        have HW : Hid _ := new_parcel wr x 94
        have RN : Hid _ := MA.Rg.new wr (Bd.cs B1.zero) 94
        have hk0 : (0 : Int) ≤ (k : Int) := by omega
        have hkn : (k : Int) < (xs.length : Int) := by omega
        go_wp2_with (first
          | (refine MA.load_r rfl 94 _ rfl rfl (cs := x.cs) ?_ Try.underlying94 rfl Try.sizeParcel rfl ?_; exact RG.out)
          | (refine MA.alloc_z rfl 94 rfl _ _ Try.infoParcel ?_; simp only [MA.sz_alloc])
          | (refine MA.store_m rfl 94 _ _ rfl rfl rfl (cs := Bd.cs B1.zero) ?_ Try.sizeParcel rfl rfl (MA.cs_one x) ?_; exact RN.out; clear RN RG; generalize World.setCells _ _ _ _ = W at *))
        obtain ⟨hW1, hW2⟩ := HW.out
        have hXr := hW2.rng
        have hq := hW2.lt
        have hrow := (hin.below hI.below).below hW1
        replace hI := hI.kept hW1
        clear HW hW1 hW2
        have WI : Hid (∀ W, PL.pg x = true → Calls Try.prog 92 #[.agg (MA.sF (PL.sh xs k)).toArray, .agg x.cs.toArray] W fun e w' => e = .returned (.tuple #[.agg (MA.sF (PL.lay (PL.sh xs k) x)).toArray, .bool (PL.fits (PL.sh xs k) x)]) ∧ Below W.heap.size W w') := fun W h => with_any _ x W h
        cases hg : PL.pg x with
        | false =>
          have GP : Hid _ := fun W => isGoodPiece_any x W hpx false hg
          have OW : Hid True := trivial
          have AO : Hid True := trivial
          have hF : Hid (upOk xs = false) := up_step hl (by simp [PL.stepI, HXX.out, hg])
          clear hg WI HXX
          refine MR.frame fun A hA => ?_
          have hsz : A.tmps.size = 63 := by rw [hA]; rfl
          have e0 : A.eval (.tmp 0) = .slice (some ⟨b, off, none⟩) xs.length cap := by rw [hA]; rfl
          have f0 := MR.read (t := 0) (by rw [hsz]; decide) e0
          have e5 : A.eval (.tmp 5) = .int .i64 (k : Int) := by rw [hA]; rfl
          have f5 := MR.read (t := 5) (by rw [hsz]; decide) e5
          have e6 : A.eval (.tmp 6) = .pointer (some ⟨wr.heap.size, 0, none⟩) := by rw [hA]; rfl
          have f6 := MR.read (t := 6) (by rw [hsz]; decide) e6
          have HA : Hid (A = _) := hA
          clear hA
          have hS : (fun w' : World => Below W.heap.size W w') (World.drew _) := ((Below.refl _ W).drew)
          refine wp_region_held (S := fun w' : World => Below W.heap.size W w') (by kernel_rfl) ?_
          change wpAnyH _ _ _ _ _ _ _ _ (World.drew _)
          refine MR.takeH (i := 0) (some 22) (x.v) rfl rfl (by kernel_rfl) (by kernel_rfl) (by kernel_rfl) (fun _ _ _ h => h) hS (MR.free rfl) (fun w hw => MA.ex_load rfl (by simp [MR.ev, MR.size, hsz, e0, f0, e5, f5, e6, f6]) (MA.range_below hXr hw hq) Try.underlying94 rfl Try.sizeParcel rfl) ?_
          refine MR.callH (i := 1) (some 23) (49) (#[x.v]) (by kernel_rfl) rfl rfl (MR.free rfl) (by simp [execOp, MR.ev, MR.size, hsz, e0, f0, e5, f5, e6, f6, go_sem]) ?_
          refine Calls.mono (GP.out _) ?_
          rintro e w2 ⟨rfl, hb2⟩
          have hS2 : Below W.heap.size W w2 := hS.trans (hb2.mono hS.size)
          refine ⟨_, rfl, hS2, ?_⟩
          refine MR.takeH (i := 2) (some 24) (.bool true) rfl rfl (by kernel_rfl) (by kernel_rfl) (by kernel_rfl) (fun _ _ _ h => h) hS2 (MR.free rfl) (fun w hw => by simp [execOp, MR.ev, MR.size, hsz, e0, f0, e5, f5, e6, f6, go_sem]) ?_
          refine MR.takeH (i := 3) (some 25) (.bool true) rfl rfl (by kernel_rfl) (by kernel_rfl) (by kernel_rfl) (fun _ _ _ h => h) hS2 (MR.free rfl) (fun w hw => by simp [execOp, MR.ev, MR.size, hsz, e0, f0, e5, f5, e6, f6, go_sem]) ?_
          refine MR.skipH (i := 4) (some 26) rfl rfl (by kernel_rfl) (by kernel_rfl) (by kernel_rfl) (fun _ _ _ h => h) hS2 (MR.unwant (d := 25) (b' := true) rfl rfl (by simp [MR.size, hsz]) (by simp [MR.ev, MR.size, hsz, e0, f0, e5, f5, e6, f6]) (by decide)) ?_
          refine MR.skipH (i := 5) (some 27) rfl rfl (by kernel_rfl) (by kernel_rfl) (by kernel_rfl) (fun _ _ _ h => h) hS2 (MR.unwant (d := 25) (b' := true) rfl rfl (by simp [MR.size, hsz]) (by simp [MR.ev, MR.size, hsz, e0, f0, e5, f5, e6, f6]) (by decide)) ?_
          refine MR.skipH (i := 6) (some 28) rfl rfl (by kernel_rfl) (by kernel_rfl) (by kernel_rfl) (fun _ _ _ h => h) hS2 (MR.unwant (d := 25) (b' := true) rfl rfl (by simp [MR.size, hsz]) (by simp [MR.ev, MR.size, hsz, e0, f0, e5, f5, e6, f6]) (by decide)) ?_
          refine MR.skipH (i := 7) (some 29) rfl rfl (by kernel_rfl) (by kernel_rfl) (by kernel_rfl) (fun _ _ _ h => h) hS2 (MR.unwantU (d := 28) rfl rfl (by simp [MR.size, hsz]) (by simp [MR.ev, MR.size, hsz, e0, f0, e5, f5, e6, f6])) ?_
          refine MR.skipH (i := 8) (some 30) rfl rfl (by kernel_rfl) (by kernel_rfl) (by kernel_rfl) (fun _ _ _ h => h) hS2 (MR.unwantU (d := 28) rfl rfl (by simp [MR.size, hsz]) (by simp [MR.ev, MR.size, hsz, e0, f0, e5, f5, e6, f6])) ?_
          refine MR.skipH (i := 9) (some 31) rfl rfl (by kernel_rfl) (by kernel_rfl) (by kernel_rfl) (fun _ _ _ h => h) hS2 (MR.unwantU (d := 28) rfl rfl (by simp [MR.size, hsz]) (by simp [MR.ev, MR.size, hsz, e0, f0, e5, f5, e6, f6])) ?_
          refine MR.skipH (i := 10) (some 32) rfl rfl (by kernel_rfl) (by kernel_rfl) (by kernel_rfl) (fun _ _ _ h => h) hS2 (MR.unwantU (d := 28) rfl rfl (by simp [MR.size, hsz]) (by simp [MR.ev, MR.size, hsz, e0, f0, e5, f5, e6, f6])) ?_
          refine MR.skipH (i := 11) (some 33) rfl rfl (by kernel_rfl) (by kernel_rfl) (by kernel_rfl) (fun _ _ _ h => h) hS2 (MR.unwantU (d := 28) rfl rfl (by simp [MR.size, hsz]) (by simp [MR.ev, MR.size, hsz, e0, f0, e5, f5, e6, f6])) ?_
          refine MR.skipH (i := 12) (some 34) rfl rfl (by kernel_rfl) (by kernel_rfl) (by kernel_rfl) (fun _ _ _ h => h) hS2 (MR.unwantU (d := 28) rfl rfl (by simp [MR.size, hsz]) (by simp [MR.ev, MR.size, hsz, e0, f0, e5, f5, e6, f6])) ?_
          refine MR.skipH (i := 13) (some 35) rfl rfl (by kernel_rfl) (by kernel_rfl) (by kernel_rfl) (fun _ _ _ h => h) hS2 (MR.unwantU (d := 28) rfl rfl (by simp [MR.size, hsz]) (by simp [MR.ev, MR.size, hsz, e0, f0, e5, f5, e6, f6])) ?_
          refine MR.skipH (i := 14) (some 36) rfl rfl (by kernel_rfl) (by kernel_rfl) (by kernel_rfl) (fun _ _ _ h => h) hS2 (MR.unwantU (d := 28) rfl rfl (by simp [MR.size, hsz]) (by simp [MR.ev, MR.size, hsz, e0, f0, e5, f5, e6, f6])) ?_
          refine MR.skipH (i := 15) (some 37) rfl rfl (by kernel_rfl) (by kernel_rfl) (by kernel_rfl) (fun _ _ _ h => h) hS2 (MR.unwantU (d := 36) rfl rfl (by simp [MR.size, hsz]) (by simp [MR.ev, MR.size, hsz, e0, f0, e5, f5, e6, f6])) ?_
          refine MR.skipH (i := 16) (some 38) rfl rfl (by kernel_rfl) (by kernel_rfl) (by kernel_rfl) (fun _ _ _ h => h) hS2 (MR.unwantU (d := 36) rfl rfl (by simp [MR.size, hsz]) (by simp [MR.ev, MR.size, hsz, e0, f0, e5, f5, e6, f6])) ?_
          refine MR.skipH (i := 17) (some 39) rfl rfl (by kernel_rfl) (by kernel_rfl) (by kernel_rfl) (fun _ _ _ h => h) hS2 (MR.unwantU (d := 36) rfl rfl (by simp [MR.size, hsz]) (by simp [MR.ev, MR.size, hsz, e0, f0, e5, f5, e6, f6])) ?_
          refine MR.skipH (i := 18) (some 40) rfl rfl (by kernel_rfl) (by kernel_rfl) (by kernel_rfl) (fun _ _ _ h => h) hS2 (MR.unwantU (d := 36) rfl rfl (by simp [MR.size, hsz]) (by simp [MR.ev, MR.size, hsz, e0, f0, e5, f5, e6, f6])) ?_
          refine MR.skipH (i := 19) (some 41) rfl rfl (by kernel_rfl) (by kernel_rfl) (by kernel_rfl) (fun _ _ _ h => h) hS2 (MR.unwantU (d := 36) rfl rfl (by simp [MR.size, hsz]) (by simp [MR.ev, MR.size, hsz, e0, f0, e5, f5, e6, f6])) ?_
          refine MR.skipH (i := 20) (some 42) rfl rfl (by kernel_rfl) (by kernel_rfl) (by kernel_rfl) (fun _ _ _ h => h) hS2 (MR.unwantU (d := 36) rfl rfl (by simp [MR.size, hsz]) (by simp [MR.ev, MR.size, hsz, e0, f0, e5, f5, e6, f6])) ?_
          refine MR.skipH (i := 21) (some 43) rfl rfl (by kernel_rfl) (by kernel_rfl) (by kernel_rfl) (fun _ _ _ h => h) hS2 (MR.unwantU (d := 36) rfl rfl (by simp [MR.size, hsz]) (by simp [MR.ev, MR.size, hsz, e0, f0, e5, f5, e6, f6])) ?_
          refine MR.skipH (i := 22) (some 44) rfl rfl (by kernel_rfl) (by kernel_rfl) (by kernel_rfl) (fun _ _ _ h => h) hS2 (MR.unwantU (d := 28) rfl rfl (by simp [MR.size, hsz]) (by simp [MR.ev, MR.size, hsz, e0, f0, e5, f5, e6, f6])) ?_
          refine MR.skipH (i := 23) (some 45) rfl rfl (by kernel_rfl) (by kernel_rfl) (by kernel_rfl) (fun _ _ _ h => h) hS2 (MR.unwantU (d := 28) rfl rfl (by simp [MR.size, hsz]) (by simp [MR.ev, MR.size, hsz, e0, f0, e5, f5, e6, f6])) ?_
          refine MR.skipH (i := 24) (some 46) rfl rfl (by kernel_rfl) (by kernel_rfl) (by kernel_rfl) (fun _ _ _ h => h) hS2 (MR.unwant (d := 25) (b' := true) rfl rfl (by simp [MR.size, hsz]) (by simp [MR.ev, MR.size, hsz, e0, f0, e5, f5, e6, f6]) (by decide)) ?_
          refine MR.takeH (i := 25) (some 47) (.bool true) rfl rfl (by kernel_rfl) (by kernel_rfl) (by kernel_rfl) (fun _ _ _ h => h) hS2 (MR.free rfl) (fun w hw => by simp [execOp, MR.ev, MR.size, hsz, e0, f0, e5, f5, e6, f6, go_sem]) ?_
          refine wpAnyH_done (by kernel_rfl) ?_ _
          have hB7 : Below W.heap.size W w2 := hS2
          rw [HA.out]
          clear hS  hS2 HA e0 e5 e6 f0 f5 f6 hsz hb2 GP OW AO
          generalize w2 = W7 at *
          simp only [Act.put, List.setIfInBounds_toArray, List.set_cons_succ, List.set_cons_zero]
          have R0 : Hid _ := (hI.kept hB7).res
          have hb : Hid _ := (hI.kept hB7).below
          clear hI hB7 hXr hU
          go_wp2_with (first
            | (refine MA.build_p rfl 88 rfl [] (by simp) Try.builtStack0 ?_)
            | (refine MA.store_m rfl 88 _ _ rfl rfl rfl (cs := (stF (.slice none 0 0) PL.blank)) ?_ Try.sizeStack Z_len Z_len Z_one ?_; exact R0.out))
          exact bodyPost_ret (MA.ret_cell2 rfl rfl rfl (MA.load_rg (R0.out.put rfl) Try.underlying88 rfl Try.sizeStack Z_len)) rfl ⟨up_no hF.out, MA.below_cells (Nat.le_refl _) _ _ _ hb.out⟩
        | true =>
          have GP : Hid _ := fun W => isGoodPiece_any x W hpx true hg
          have WI2 : Hid (∀ W, Calls Try.prog 92 #[.agg (MA.sF (PL.sh xs k)).toArray, .agg x.cs.toArray] W fun e w' => e = .returned (.tuple #[.agg (MA.sF (PL.lay (PL.sh xs k) x)).toArray, .bool (PL.fits (PL.sh xs k) x)]) ∧ Below W.heap.size W w') := fun W => WI.out W hg
          clear WI
          have HG : Hid _ := hg
          clear hg
          by_cases hz : k = 0
          · have hgt : ¬ (0 : Int) < (k : Int) := by omega
            have OW : Hid True := trivial
            have AO : Hid True := trivial
            have HST : Hid (PL.stepI xs k = PL.fits (PL.sh xs k) x) := by show _ = _; unfold PL.stepI; rw [HXX.out, HG.out]; simp [hz]
            refine MR.frame fun A hA => ?_
            have hsz : A.tmps.size = 63 := by rw [hA]; rfl
            have e0 : A.eval (.tmp 0) = .slice (some ⟨b, off, none⟩) xs.length cap := by rw [hA]; rfl
            have f0 := MR.read (t := 0) (by rw [hsz]; decide) e0
            have e5 : A.eval (.tmp 5) = .int .i64 (k : Int) := by rw [hA]; rfl
            have f5 := MR.read (t := 5) (by rw [hsz]; decide) e5
            have e6 : A.eval (.tmp 6) = .pointer (some ⟨wr.heap.size, 0, none⟩) := by rw [hA]; rfl
            have f6 := MR.read (t := 6) (by rw [hsz]; decide) e6
            have HA : Hid (A = _) := hA
            clear hA
            have hS : (fun w' : World => Below W.heap.size W w') (World.drew _) := ((Below.refl _ W).drew)
            refine wp_region_held (S := fun w' : World => Below W.heap.size W w') (by kernel_rfl) ?_
            change wpAnyH _ _ _ _ _ _ _ _ (World.drew _)
            refine MR.takeH (i := 0) (some 22) (x.v) rfl rfl (by kernel_rfl) (by kernel_rfl) (by kernel_rfl) (fun _ _ _ h => h) hS (MR.free rfl) (fun w hw => MA.ex_load rfl (by simp [MR.ev, MR.size, hsz, e0, f0, e5, f5, e6, f6]) (MA.range_below hXr hw hq) Try.underlying94 rfl Try.sizeParcel rfl) ?_
            refine MR.callH (i := 1) (some 23) (49) (#[x.v]) (by kernel_rfl) rfl rfl (MR.free rfl) (by simp [execOp, MR.ev, MR.size, hsz, e0, f0, e5, f5, e6, f6, go_sem]) ?_
            refine Calls.mono (GP.out _) ?_
            rintro e w2 ⟨rfl, hb2⟩
            have hS2 : Below W.heap.size W w2 := hS.trans (hb2.mono hS.size)
            refine ⟨_, rfl, hS2, ?_⟩
            refine MR.takeH (i := 2) (some 24) (.bool false) rfl rfl (by kernel_rfl) (by kernel_rfl) (by kernel_rfl) (fun _ _ _ h => h) hS2 (MR.free rfl) (fun w hw => by simp [execOp, MR.ev, MR.size, hsz, e0, f0, e5, f5, e6, f6, go_sem]) ?_
            refine MR.takeH (i := 3) (some 25) (.bool false) rfl rfl (by kernel_rfl) (by kernel_rfl) (by kernel_rfl) (fun _ _ _ h => h) hS2 (MR.free rfl) (fun w hw => by simp [execOp, MR.ev, MR.size, hsz, e0, f0, e5, f5, e6, f6, go_sem]) ?_
            refine MR.takeH (i := 4) (some 26) (.int .i64 (k : Int)) rfl rfl (by kernel_rfl) (by kernel_rfl) (by kernel_rfl) (fun _ _ _ h => h) hS2 (MR.want (d := 25) rfl rfl (by simp [MR.size, hsz]) (by simp [MR.ev, MR.size, hsz, e0, f0, e5, f5, e6, f6])) (fun w hw => by simp [execOp, MR.ev, MR.size, hsz, e0, f0, e5, f5, e6, f6, go_sem]) ?_
            refine MR.takeH (i := 5) (some 27) (.bool false) rfl rfl (by kernel_rfl) (by kernel_rfl) (by kernel_rfl) (fun _ _ _ h => h) hS2 (MR.want (d := 25) rfl rfl (by simp [MR.size, hsz]) (by simp [MR.ev, MR.size, hsz, e0, f0, e5, f5, e6, f6])) (fun w hw => by simp [execOp, MR.ev, MR.size, hsz, e0, f0, e5, f5, e6, f6, hz, go_sem]) ?_
            refine MR.takeH (i := 6) (some 28) (.bool false) rfl rfl (by kernel_rfl) (by kernel_rfl) (by kernel_rfl) (fun _ _ _ h => h) hS2 (MR.want (d := 25) rfl rfl (by simp [MR.size, hsz]) (by simp [MR.ev, MR.size, hsz, e0, f0, e5, f5, e6, f6])) (fun w hw => by simp [execOp, MR.ev, MR.size, hsz, e0, f0, e5, f5, e6, f6, go_sem]) ?_
            refine MR.skipH (i := 7) (some 29) rfl rfl (by kernel_rfl) (by kernel_rfl) (by kernel_rfl) (fun _ _ _ h => h) hS2 (MR.unwant (d := 28) (b' := false) rfl rfl (by simp [MR.size, hsz]) (by simp [MR.ev, MR.size, hsz, e0, f0, e5, f5, e6, f6]) (by decide)) ?_
            refine MR.skipH (i := 8) (some 30) rfl rfl (by kernel_rfl) (by kernel_rfl) (by kernel_rfl) (fun _ _ _ h => h) hS2 (MR.unwant (d := 28) (b' := false) rfl rfl (by simp [MR.size, hsz]) (by simp [MR.ev, MR.size, hsz, e0, f0, e5, f5, e6, f6]) (by decide)) ?_
            refine MR.skipH (i := 9) (some 31) rfl rfl (by kernel_rfl) (by kernel_rfl) (by kernel_rfl) (fun _ _ _ h => h) hS2 (MR.unwant (d := 28) (b' := false) rfl rfl (by simp [MR.size, hsz]) (by simp [MR.ev, MR.size, hsz, e0, f0, e5, f5, e6, f6]) (by decide)) ?_
            refine MR.skipH (i := 10) (some 32) rfl rfl (by kernel_rfl) (by kernel_rfl) (by kernel_rfl) (fun _ _ _ h => h) hS2 (MR.unwant (d := 28) (b' := false) rfl rfl (by simp [MR.size, hsz]) (by simp [MR.ev, MR.size, hsz, e0, f0, e5, f5, e6, f6]) (by decide)) ?_
            refine MR.skipH (i := 11) (some 33) rfl rfl (by kernel_rfl) (by kernel_rfl) (by kernel_rfl) (fun _ _ _ h => h) hS2 (MR.unwant (d := 28) (b' := false) rfl rfl (by simp [MR.size, hsz]) (by simp [MR.ev, MR.size, hsz, e0, f0, e5, f5, e6, f6]) (by decide)) ?_
            refine MR.skipH (i := 12) (some 34) rfl rfl (by kernel_rfl) (by kernel_rfl) (by kernel_rfl) (fun _ _ _ h => h) hS2 (MR.unwant (d := 28) (b' := false) rfl rfl (by simp [MR.size, hsz]) (by simp [MR.ev, MR.size, hsz, e0, f0, e5, f5, e6, f6]) (by decide)) ?_
            refine MR.skipH (i := 13) (some 35) rfl rfl (by kernel_rfl) (by kernel_rfl) (by kernel_rfl) (fun _ _ _ h => h) hS2 (MR.unwant (d := 28) (b' := false) rfl rfl (by simp [MR.size, hsz]) (by simp [MR.ev, MR.size, hsz, e0, f0, e5, f5, e6, f6]) (by decide)) ?_
            refine MR.skipH (i := 14) (some 36) rfl rfl (by kernel_rfl) (by kernel_rfl) (by kernel_rfl) (fun _ _ _ h => h) hS2 (MR.unwant (d := 28) (b' := false) rfl rfl (by simp [MR.size, hsz]) (by simp [MR.ev, MR.size, hsz, e0, f0, e5, f5, e6, f6]) (by decide)) ?_
            refine MR.skipH (i := 15) (some 37) rfl rfl (by kernel_rfl) (by kernel_rfl) (by kernel_rfl) (fun _ _ _ h => h) hS2 (MR.unwantU (d := 36) rfl rfl (by simp [MR.size, hsz]) (by simp [MR.ev, MR.size, hsz, e0, f0, e5, f5, e6, f6])) ?_
            refine MR.skipH (i := 16) (some 38) rfl rfl (by kernel_rfl) (by kernel_rfl) (by kernel_rfl) (fun _ _ _ h => h) hS2 (MR.unwantU (d := 36) rfl rfl (by simp [MR.size, hsz]) (by simp [MR.ev, MR.size, hsz, e0, f0, e5, f5, e6, f6])) ?_
            refine MR.skipH (i := 17) (some 39) rfl rfl (by kernel_rfl) (by kernel_rfl) (by kernel_rfl) (fun _ _ _ h => h) hS2 (MR.unwantU (d := 36) rfl rfl (by simp [MR.size, hsz]) (by simp [MR.ev, MR.size, hsz, e0, f0, e5, f5, e6, f6])) ?_
            refine MR.skipH (i := 18) (some 40) rfl rfl (by kernel_rfl) (by kernel_rfl) (by kernel_rfl) (fun _ _ _ h => h) hS2 (MR.unwantU (d := 36) rfl rfl (by simp [MR.size, hsz]) (by simp [MR.ev, MR.size, hsz, e0, f0, e5, f5, e6, f6])) ?_
            refine MR.skipH (i := 19) (some 41) rfl rfl (by kernel_rfl) (by kernel_rfl) (by kernel_rfl) (fun _ _ _ h => h) hS2 (MR.unwantU (d := 36) rfl rfl (by simp [MR.size, hsz]) (by simp [MR.ev, MR.size, hsz, e0, f0, e5, f5, e6, f6])) ?_
            refine MR.skipH (i := 20) (some 42) rfl rfl (by kernel_rfl) (by kernel_rfl) (by kernel_rfl) (fun _ _ _ h => h) hS2 (MR.unwantU (d := 36) rfl rfl (by simp [MR.size, hsz]) (by simp [MR.ev, MR.size, hsz, e0, f0, e5, f5, e6, f6])) ?_
            refine MR.skipH (i := 21) (some 43) rfl rfl (by kernel_rfl) (by kernel_rfl) (by kernel_rfl) (fun _ _ _ h => h) hS2 (MR.unwantU (d := 36) rfl rfl (by simp [MR.size, hsz]) (by simp [MR.ev, MR.size, hsz, e0, f0, e5, f5, e6, f6])) ?_
            refine MR.skipH (i := 22) (some 44) rfl rfl (by kernel_rfl) (by kernel_rfl) (by kernel_rfl) (fun _ _ _ h => h) hS2 (MR.unwant (d := 28) (b' := false) rfl rfl (by simp [MR.size, hsz]) (by simp [MR.ev, MR.size, hsz, e0, f0, e5, f5, e6, f6]) (by decide)) ?_
            refine MR.skipH (i := 23) (some 45) rfl rfl (by kernel_rfl) (by kernel_rfl) (by kernel_rfl) (fun _ _ _ h => h) hS2 (MR.unwant (d := 28) (b' := false) rfl rfl (by simp [MR.size, hsz]) (by simp [MR.ev, MR.size, hsz, e0, f0, e5, f5, e6, f6]) (by decide)) ?_
            refine MR.takeH (i := 24) (some 46) (.bool false) rfl rfl (by kernel_rfl) (by kernel_rfl) (by kernel_rfl) (fun _ _ _ h => h) hS2 (MR.want (d := 25) rfl rfl (by simp [MR.size, hsz]) (by simp [MR.ev, MR.size, hsz, e0, f0, e5, f5, e6, f6])) (fun w hw => by simp [execOp, MR.ev, MR.size, hsz, e0, f0, e5, f5, e6, f6, go_sem]) ?_
            refine MR.takeH (i := 25) (some 47) (.bool false) rfl rfl (by kernel_rfl) (by kernel_rfl) (by kernel_rfl) (fun _ _ _ h => h) hS2 (MR.free rfl) (fun w hw => by simp [execOp, MR.ev, MR.size, hsz, e0, f0, e5, f5, e6, f6, go_sem]) ?_
            refine wpAnyH_done (by kernel_rfl) ?_ _
            have hB7 : Below W.heap.size W w2 := hS2
            rw [HA.out]
            clear hS  hS2 HA e0 e5 e6 f0 f5 f6 hsz hb2 hz hgt GP OW AO
            generalize w2 = W7 at *
            simp only [Act.put, List.setIfInBounds_toArray, List.set_cons_succ, List.set_cons_zero]
            have HI : Hid _ := hI.kept hB7
            have HX7 : Hid _ := MA.range_below hXr hB7 hq
            have hs7 := hB7.size
            clear hI hB7 hXr
            go_wp2_with (first
              | (refine MA.load_m rfl 86 _ rfl rfl (cs := MA.sF (PL.sh xs k)) ?_ Try.underlying86 rfl Try.sizeSheet (MA.sF_len _) ?_; exact HI.out.sht)
              | (refine MA.load_r rfl 94 _ rfl rfl (cs := x.cs) ?_ Try.underlying94 rfl Try.sizeParcel rfl ?_; exact HX7.out))
            refine Calls.mono (WI2.out _) ?_
            rintro e w9 ⟨rfl, hb9⟩
            have HI9 : Hid _ := HI.out.kept hb9
            have HN : Hid _ := new_sheet w9 (PL.lay (PL.sh xs k) x) 86
            have RN : Hid _ := MA.Rg.new w9 (MA.sF PL.blank) 86
            clear HI HX7 WI2 hb9 hs7
            cases hf : PL.fits (PL.sh xs k) x
            · have hF : Hid (upOk xs = false) := up_step hl (HST.out.trans hf)
              clear hf HST HG HXX hU
              go_wp2_with (first
                | (refine MA.alloc_z rfl 86 rfl _ _ Try.infoSheet ?_; simp only [MA.sz_alloc])
                | (refine MA.store_m rfl 86 _ _ rfl rfl rfl (cs := MA.sF PL.blank) ?_ Try.sizeSheet (MA.sF_len _) (MA.sF_len _) (MA.sF_one _) ?_; exact RN.out; clear RN; generalize World.setCells _ _ _ _ = W9 at *)
                | (refine MA.build_p rfl 88 rfl [] (by simp) Try.builtStack0 ?_)
                | (refine MA.store_m rfl 88 _ _ rfl rfl rfl (cs := (stF (.slice none 0 0) PL.blank)) ?_ Try.sizeStack Z_len Z_len Z_one ?_; exact (HI9.out.kept HN.out.1).res))
              exact bodyPost_ret (MA.ret_cell2 rfl rfl rfl (MA.load_rg ((HI9.out.kept HN.out.1).res.put rfl) Try.underlying88 rfl Try.sizeStack Z_len)) rfl ⟨up_no hF.out, MA.below_cells (Nat.le_refl _) _ _ _ (HI9.out.kept HN.out.1).below⟩
            · have hU' : Hid (PL.upto (PL.stepI xs) (k + 1) = true) := PL.upto_succ hU.out (HST.out.trans hf)
              have hsh : Hid (PL.lay (PL.sh xs k) x = PL.sh xs (k + 1)) := by show _ = _; rw [PL.sh_succ xs k hl, HXX.out]
              clear hf HST HG hU HXX
              go_wp2_with (first
                | (refine MA.alloc_z rfl 86 rfl _ _ Try.infoSheet ?_; simp only [MA.sz_alloc])
                | (refine MA.store_m rfl 86 _ _ rfl rfl rfl (cs := MA.sF PL.blank) ?_ Try.sizeSheet (MA.sF_len _) (MA.sF_len _) (MA.sF_one _) ?_; exact RN.out; clear RN; generalize World.setCells _ _ _ _ = W9 at *)
                | (refine MA.load_m rfl 86 _ rfl rfl (cs := MA.sF (PL.lay (PL.sh xs k) x)) ?_ Try.underlying86 rfl Try.sizeSheet (MA.sF_len _) ?_; exact HN.out.2)
                | (refine MA.store_m rfl 86 _ _ rfl rfl rfl (cs := MA.sF (PL.sh xs k)) ?_ Try.sizeSheet (MA.sF_len _) (MA.sF_len _) (MA.sF_one _) ?_; exact (HI9.out.kept HN.out.1).sht; replace HI9 : Hid _ := (HI9.out.kept HN.out.1).laid (PL.lay (PL.sh xs k) x); clear HN; generalize World.setCells _ _ _ _ = W10 at *))
              have hI10 := HI9.out
              rw [hsh.out] at hI10
              go_roundw
              case rel => exact ⟨k + 1, by go_num, by omega, hU', hI10⟩
              case measure => simp [intOf]; omega
          · obtain ⟨k', hk'⟩ : ∃ k', k = k' + 1 := ⟨k - 1, by omega⟩
            obtain ⟨b', off', hab, hbl, hYr⟩ := MA.row_range hrow (k := k') (by omega)
            cases hab
            obtain ⟨y, hy⟩ : ∃ y, MP.at_ xs k' = y := ⟨_, rfl⟩
            have hpy : y.py.size ≤ 1048576 := hy ▸ ht.out k' (by omega)
            rw [hy] at hYr
            have hk1 : (k : Int) - 1 = (k' : Int) := by omega
            have hk2 : IntKind.i64.wrap (k' : Int) = (k' : Int) := M1.i64_wrap k' (by omega)
            have hk3 : (0 : Int) ≤ (k' : Int) := by omega
            have hk4 : k' < xs.length := by omega
            have hgt : 0 < k := by omega
            have HST : Hid (PL.stepI xs k = ((PL.one y x && PL.ahead y x) && PL.fits (PL.sh xs k) x)) := by show _ = _; unfold PL.stepI; rw [HXX.out, HG.out, hk', Nat.add_sub_cancel, hy]; simp
            have hpg := HG.out
            clear hy hk' hz hrow
            cases ho : PL.one y x with
            | false =>
              have OW : Hid _ := fun W => isOfOneWith_any y x W false ho
              have AO : Hid True := trivial
              have hF : Hid (upOk xs = false) := up_step hl (by rw [HST.out, ho]; rfl)
              clear ho HST HG hpg WI2 HXX
              refine MR.frame fun A hA => ?_
              have hsz : A.tmps.size = 63 := by rw [hA]; rfl
              have e0 : A.eval (.tmp 0) = .slice (some ⟨b, off, none⟩) xs.length cap := by rw [hA]; rfl
              have f0 := MR.read (t := 0) (by rw [hsz]; decide) e0
              have e5 : A.eval (.tmp 5) = .int .i64 (k : Int) := by rw [hA]; rfl
              have f5 := MR.read (t := 5) (by rw [hsz]; decide) e5
              have e6 : A.eval (.tmp 6) = .pointer (some ⟨wr.heap.size, 0, none⟩) := by rw [hA]; rfl
              have f6 := MR.read (t := 6) (by rw [hsz]; decide) e6
              have HA : Hid (A = _) := hA
              clear hA
              have hS : (fun w' : World => Below W.heap.size W w') (World.drew _) := ((Below.refl _ W).drew)
              refine wp_region_held (S := fun w' : World => Below W.heap.size W w') (by kernel_rfl) ?_
              change wpAnyH _ _ _ _ _ _ _ _ (World.drew _)
              refine MR.takeH (i := 0) (some 22) (x.v) rfl rfl (by kernel_rfl) (by kernel_rfl) (by kernel_rfl) (fun _ _ _ h => h) hS (MR.free rfl) (fun w hw => MA.ex_load rfl (by simp [MR.ev, MR.size, hsz, e0, f0, e5, f5, e6, f6]) (MA.range_below hXr hw hq) Try.underlying94 rfl Try.sizeParcel rfl) ?_
              refine MR.callH (i := 1) (some 23) (49) (#[x.v]) (by kernel_rfl) rfl rfl (MR.free rfl) (by simp [execOp, MR.ev, MR.size, hsz, e0, f0, e5, f5, e6, f6, go_sem]) ?_
              refine Calls.mono (GP.out _) ?_
              rintro e w2 ⟨rfl, hb2⟩
              have hS2 : Below W.heap.size W w2 := hS.trans (hb2.mono hS.size)
              refine ⟨_, rfl, hS2, ?_⟩
              refine MR.takeH (i := 2) (some 24) (.bool false) rfl rfl (by kernel_rfl) (by kernel_rfl) (by kernel_rfl) (fun _ _ _ h => h) hS2 (MR.free rfl) (fun w hw => by simp [execOp, MR.ev, MR.size, hsz, e0, f0, e5, f5, e6, f6, go_sem]) ?_
              refine MR.takeH (i := 3) (some 25) (.bool false) rfl rfl (by kernel_rfl) (by kernel_rfl) (by kernel_rfl) (fun _ _ _ h => h) hS2 (MR.free rfl) (fun w hw => by simp [execOp, MR.ev, MR.size, hsz, e0, f0, e5, f5, e6, f6, go_sem]) ?_
              refine MR.takeH (i := 4) (some 26) (.int .i64 (k : Int)) rfl rfl (by kernel_rfl) (by kernel_rfl) (by kernel_rfl) (fun _ _ _ h => h) hS2 (MR.want (d := 25) rfl rfl (by simp [MR.size, hsz]) (by simp [MR.ev, MR.size, hsz, e0, f0, e5, f5, e6, f6])) (fun w hw => by simp [execOp, MR.ev, MR.size, hsz, e0, f0, e5, f5, e6, f6, go_sem]) ?_
              refine MR.takeH (i := 5) (some 27) (.bool true) rfl rfl (by kernel_rfl) (by kernel_rfl) (by kernel_rfl) (fun _ _ _ h => h) hS2 (MR.want (d := 25) rfl rfl (by simp [MR.size, hsz]) (by simp [MR.ev, MR.size, hsz, e0, f0, e5, f5, e6, f6])) (fun w hw => by simp [execOp, MR.ev, MR.size, hsz, e0, f0, e5, f5, e6, f6, hgt, go_sem]) ?_
              refine MR.takeH (i := 6) (some 28) (.bool true) rfl rfl (by kernel_rfl) (by kernel_rfl) (by kernel_rfl) (fun _ _ _ h => h) hS2 (MR.want (d := 25) rfl rfl (by simp [MR.size, hsz]) (by simp [MR.ev, MR.size, hsz, e0, f0, e5, f5, e6, f6])) (fun w hw => by simp [execOp, MR.ev, MR.size, hsz, e0, f0, e5, f5, e6, f6, go_sem]) ?_
              refine MR.takeH (i := 7) (some 29) (.slice (some ⟨b, off, none⟩) xs.length cap) rfl rfl (by kernel_rfl) (by kernel_rfl) (by kernel_rfl) (fun _ _ _ h => h) hS2 (MR.want (d := 28) rfl rfl (by simp [MR.size, hsz]) (by simp [MR.ev, MR.size, hsz, e0, f0, e5, f5, e6, f6])) (fun w hw => by simp [execOp, MR.ev, MR.size, hsz, e0, f0, e5, f5, e6, f6, go_sem]) ?_
              refine MR.takeH (i := 8) (some 30) (.int .i64 (k : Int)) rfl rfl (by kernel_rfl) (by kernel_rfl) (by kernel_rfl) (fun _ _ _ h => h) hS2 (MR.want (d := 28) rfl rfl (by simp [MR.size, hsz]) (by simp [MR.ev, MR.size, hsz, e0, f0, e5, f5, e6, f6])) (fun w hw => by simp [execOp, MR.ev, MR.size, hsz, e0, f0, e5, f5, e6, f6, go_sem]) ?_
              refine MR.takeH (i := 9) (some 31) (.int .i64 (k' : Int)) rfl rfl (by kernel_rfl) (by kernel_rfl) (by kernel_rfl) (fun _ _ _ h => h) hS2 (MR.want (d := 28) rfl rfl (by simp [MR.size, hsz]) (by simp [MR.ev, MR.size, hsz, e0, f0, e5, f5, e6, f6])) (fun w hw => by simp [execOp, MR.ev, MR.size, hsz, e0, f0, e5, f5, e6, f6, hk1, hk2, go_sem]) ?_
              refine MR.takeH (i := 10) (some 32) (.pointer (some ⟨b, off + k' * 10, none⟩)) rfl rfl (by kernel_rfl) (by kernel_rfl) (by kernel_rfl) (fun _ _ _ h => h) hS2 (MR.want (d := 28) rfl rfl (by simp [MR.size, hsz]) (by simp [MR.ev, MR.size, hsz, e0, f0, e5, f5, e6, f6])) (fun w hw => by simp [execOp, MR.ev, MR.size, hsz, e0, f0, e5, f5, e6, f6, hk3, hk4, go_sem]) ?_
              refine MR.takeH (i := 11) (some 33) (y.v) rfl rfl (by kernel_rfl) (by kernel_rfl) (by kernel_rfl) (fun _ _ _ h => h) hS2 (MR.want (d := 28) rfl rfl (by simp [MR.size, hsz]) (by simp [MR.ev, MR.size, hsz, e0, f0, e5, f5, e6, f6])) (fun w hw => MA.ex_load rfl (by simp [MR.ev, MR.size, hsz, e0, f0, e5, f5, e6, f6]) (MA.range_below hYr hw hbl) Try.underlying94 rfl Try.sizeParcel rfl) ?_
              refine MR.takeH (i := 12) (some 34) (x.v) rfl rfl (by kernel_rfl) (by kernel_rfl) (by kernel_rfl) (fun _ _ _ h => h) hS2 (MR.want (d := 28) rfl rfl (by simp [MR.size, hsz]) (by simp [MR.ev, MR.size, hsz, e0, f0, e5, f5, e6, f6])) (fun w hw => MA.ex_load rfl (by simp [MR.ev, MR.size, hsz, e0, f0, e5, f5, e6, f6]) (MA.range_below hXr hw hq) Try.underlying94 rfl Try.sizeParcel rfl) ?_
              refine MR.callH (i := 13) (some 35) (90) (#[y.v, x.v]) (by kernel_rfl) rfl rfl (MR.want (d := 28) rfl rfl (by simp [MR.size, hsz]) (by simp [MR.ev, MR.size, hsz, e0, f0, e5, f5, e6, f6])) (by simp [execOp, MR.ev, MR.size, hsz, e0, f0, e5, f5, e6, f6, go_sem]) ?_
              refine Calls.mono (OW.out _) ?_
              rintro e w3 ⟨rfl, hb3⟩
              have hS3 : Below W.heap.size W w3 := hS2.trans (hb3.mono hS2.size)
              refine ⟨_, rfl, hS3, ?_⟩
              refine MR.takeH (i := 14) (some 36) (.bool false) rfl rfl (by kernel_rfl) (by kernel_rfl) (by kernel_rfl) (fun _ _ _ h => h) hS3 (MR.want (d := 28) rfl rfl (by simp [MR.size, hsz]) (by simp [MR.ev, MR.size, hsz, e0, f0, e5, f5, e6, f6])) (fun w hw => by simp [execOp, MR.ev, MR.size, hsz, e0, f0, e5, f5, e6, f6, go_sem]) ?_
              refine MR.skipH (i := 15) (some 37) rfl rfl (by kernel_rfl) (by kernel_rfl) (by kernel_rfl) (fun _ _ _ h => h) hS3 (MR.unwant (d := 36) (b' := false) rfl rfl (by simp [MR.size, hsz]) (by simp [MR.ev, MR.size, hsz, e0, f0, e5, f5, e6, f6]) (by decide)) ?_
              refine MR.skipH (i := 16) (some 38) rfl rfl (by kernel_rfl) (by kernel_rfl) (by kernel_rfl) (fun _ _ _ h => h) hS3 (MR.unwant (d := 36) (b' := false) rfl rfl (by simp [MR.size, hsz]) (by simp [MR.ev, MR.size, hsz, e0, f0, e5, f5, e6, f6]) (by decide)) ?_
              refine MR.skipH (i := 17) (some 39) rfl rfl (by kernel_rfl) (by kernel_rfl) (by kernel_rfl) (fun _ _ _ h => h) hS3 (MR.unwant (d := 36) (b' := false) rfl rfl (by simp [MR.size, hsz]) (by simp [MR.ev, MR.size, hsz, e0, f0, e5, f5, e6, f6]) (by decide)) ?_
              refine MR.skipH (i := 18) (some 40) rfl rfl (by kernel_rfl) (by kernel_rfl) (by kernel_rfl) (fun _ _ _ h => h) hS3 (MR.unwant (d := 36) (b' := false) rfl rfl (by simp [MR.size, hsz]) (by simp [MR.ev, MR.size, hsz, e0, f0, e5, f5, e6, f6]) (by decide)) ?_
              refine MR.skipH (i := 19) (some 41) rfl rfl (by kernel_rfl) (by kernel_rfl) (by kernel_rfl) (fun _ _ _ h => h) hS3 (MR.unwant (d := 36) (b' := false) rfl rfl (by simp [MR.size, hsz]) (by simp [MR.ev, MR.size, hsz, e0, f0, e5, f5, e6, f6]) (by decide)) ?_
              refine MR.skipH (i := 20) (some 42) rfl rfl (by kernel_rfl) (by kernel_rfl) (by kernel_rfl) (fun _ _ _ h => h) hS3 (MR.unwant (d := 36) (b' := false) rfl rfl (by simp [MR.size, hsz]) (by simp [MR.ev, MR.size, hsz, e0, f0, e5, f5, e6, f6]) (by decide)) ?_
              refine MR.skipH (i := 21) (some 43) rfl rfl (by kernel_rfl) (by kernel_rfl) (by kernel_rfl) (fun _ _ _ h => h) hS3 (MR.unwant (d := 36) (b' := false) rfl rfl (by simp [MR.size, hsz]) (by simp [MR.ev, MR.size, hsz, e0, f0, e5, f5, e6, f6]) (by decide)) ?_
              refine MR.takeH (i := 22) (some 44) (.bool false) rfl rfl (by kernel_rfl) (by kernel_rfl) (by kernel_rfl) (fun _ _ _ h => h) hS3 (MR.want (d := 28) rfl rfl (by simp [MR.size, hsz]) (by simp [MR.ev, MR.size, hsz, e0, f0, e5, f5, e6, f6])) (fun w hw => by simp [execOp, MR.ev, MR.size, hsz, e0, f0, e5, f5, e6, f6, go_sem]) ?_
              refine MR.takeH (i := 23) (some 45) (.bool true) rfl rfl (by kernel_rfl) (by kernel_rfl) (by kernel_rfl) (fun _ _ _ h => h) hS3 (MR.want (d := 28) rfl rfl (by simp [MR.size, hsz]) (by simp [MR.ev, MR.size, hsz, e0, f0, e5, f5, e6, f6])) (fun w hw => by simp [execOp, MR.ev, MR.size, hsz, e0, f0, e5, f5, e6, f6, go_sem]) ?_
              refine MR.takeH (i := 24) (some 46) (.bool true) rfl rfl (by kernel_rfl) (by kernel_rfl) (by kernel_rfl) (fun _ _ _ h => h) hS3 (MR.want (d := 25) rfl rfl (by simp [MR.size, hsz]) (by simp [MR.ev, MR.size, hsz, e0, f0, e5, f5, e6, f6])) (fun w hw => by simp [execOp, MR.ev, MR.size, hsz, e0, f0, e5, f5, e6, f6, go_sem]) ?_
              refine MR.takeH (i := 25) (some 47) (.bool true) rfl rfl (by kernel_rfl) (by kernel_rfl) (by kernel_rfl) (fun _ _ _ h => h) hS3 (MR.free rfl) (fun w hw => by simp [execOp, MR.ev, MR.size, hsz, e0, f0, e5, f5, e6, f6, go_sem]) ?_
              refine wpAnyH_done (by kernel_rfl) ?_ _
              have hB7 : Below W.heap.size W w3 := hS3
              rw [HA.out]
              clear hS hS2 hS3 HA e0 e5 e6 f0 f5 f6 hsz hb2 hb3 hk1 hk2 hk3 hk4 hgt hYr GP OW AO
              generalize w3 = W7 at *
              simp only [Act.put, List.setIfInBounds_toArray, List.set_cons_succ, List.set_cons_zero]
              have R0 : Hid _ := (hI.kept hB7).res
              have hb : Hid _ := (hI.kept hB7).below
              clear hI hB7 hXr hU
              go_wp2_with (first
                | (refine MA.build_p rfl 88 rfl [] (by simp) Try.builtStack0 ?_)
                | (refine MA.store_m rfl 88 _ _ rfl rfl rfl (cs := (stF (.slice none 0 0) PL.blank)) ?_ Try.sizeStack Z_len Z_len Z_one ?_; exact R0.out))
              exact bodyPost_ret (MA.ret_cell2 rfl rfl rfl (MA.load_rg (R0.out.put rfl) Try.underlying88 rfl Try.sizeStack Z_len)) rfl ⟨up_no hF.out, MA.below_cells (Nat.le_refl _) _ _ _ hb.out⟩
            | true =>
              have OW : Hid _ := fun W => isOfOneWith_any y x W true ho
              cases hah : PL.ahead y x with
              | false =>
                have AO : Hid _ := fun W => isAheadOf_any y x W hpy hpx false hah
                have hF : Hid (upOk xs = false) := up_step hl (by rw [HST.out, ho, hah]; rfl)
                clear ho hah HST HG hpg WI2 HXX
                refine MR.frame fun A hA => ?_
                have hsz : A.tmps.size = 63 := by rw [hA]; rfl
                have e0 : A.eval (.tmp 0) = .slice (some ⟨b, off, none⟩) xs.length cap := by rw [hA]; rfl
                have f0 := MR.read (t := 0) (by rw [hsz]; decide) e0
                have e5 : A.eval (.tmp 5) = .int .i64 (k : Int) := by rw [hA]; rfl
                have f5 := MR.read (t := 5) (by rw [hsz]; decide) e5
                have e6 : A.eval (.tmp 6) = .pointer (some ⟨wr.heap.size, 0, none⟩) := by rw [hA]; rfl
                have f6 := MR.read (t := 6) (by rw [hsz]; decide) e6
                have HA : Hid (A = _) := hA
                clear hA
                have hS : (fun w' : World => Below W.heap.size W w') (World.drew _) := ((Below.refl _ W).drew)
                refine wp_region_held (S := fun w' : World => Below W.heap.size W w') (by kernel_rfl) ?_
                change wpAnyH _ _ _ _ _ _ _ _ (World.drew _)
                refine MR.takeH (i := 0) (some 22) (x.v) rfl rfl (by kernel_rfl) (by kernel_rfl) (by kernel_rfl) (fun _ _ _ h => h) hS (MR.free rfl) (fun w hw => MA.ex_load rfl (by simp [MR.ev, MR.size, hsz, e0, f0, e5, f5, e6, f6]) (MA.range_below hXr hw hq) Try.underlying94 rfl Try.sizeParcel rfl) ?_
                refine MR.callH (i := 1) (some 23) (49) (#[x.v]) (by kernel_rfl) rfl rfl (MR.free rfl) (by simp [execOp, MR.ev, MR.size, hsz, e0, f0, e5, f5, e6, f6, go_sem]) ?_
                refine Calls.mono (GP.out _) ?_
                rintro e w2 ⟨rfl, hb2⟩
                have hS2 : Below W.heap.size W w2 := hS.trans (hb2.mono hS.size)
                refine ⟨_, rfl, hS2, ?_⟩
                refine MR.takeH (i := 2) (some 24) (.bool false) rfl rfl (by kernel_rfl) (by kernel_rfl) (by kernel_rfl) (fun _ _ _ h => h) hS2 (MR.free rfl) (fun w hw => by simp [execOp, MR.ev, MR.size, hsz, e0, f0, e5, f5, e6, f6, go_sem]) ?_
                refine MR.takeH (i := 3) (some 25) (.bool false) rfl rfl (by kernel_rfl) (by kernel_rfl) (by kernel_rfl) (fun _ _ _ h => h) hS2 (MR.free rfl) (fun w hw => by simp [execOp, MR.ev, MR.size, hsz, e0, f0, e5, f5, e6, f6, go_sem]) ?_
                refine MR.takeH (i := 4) (some 26) (.int .i64 (k : Int)) rfl rfl (by kernel_rfl) (by kernel_rfl) (by kernel_rfl) (fun _ _ _ h => h) hS2 (MR.want (d := 25) rfl rfl (by simp [MR.size, hsz]) (by simp [MR.ev, MR.size, hsz, e0, f0, e5, f5, e6, f6])) (fun w hw => by simp [execOp, MR.ev, MR.size, hsz, e0, f0, e5, f5, e6, f6, go_sem]) ?_
                refine MR.takeH (i := 5) (some 27) (.bool true) rfl rfl (by kernel_rfl) (by kernel_rfl) (by kernel_rfl) (fun _ _ _ h => h) hS2 (MR.want (d := 25) rfl rfl (by simp [MR.size, hsz]) (by simp [MR.ev, MR.size, hsz, e0, f0, e5, f5, e6, f6])) (fun w hw => by simp [execOp, MR.ev, MR.size, hsz, e0, f0, e5, f5, e6, f6, hgt, go_sem]) ?_
                refine MR.takeH (i := 6) (some 28) (.bool true) rfl rfl (by kernel_rfl) (by kernel_rfl) (by kernel_rfl) (fun _ _ _ h => h) hS2 (MR.want (d := 25) rfl rfl (by simp [MR.size, hsz]) (by simp [MR.ev, MR.size, hsz, e0, f0, e5, f5, e6, f6])) (fun w hw => by simp [execOp, MR.ev, MR.size, hsz, e0, f0, e5, f5, e6, f6, go_sem]) ?_
                refine MR.takeH (i := 7) (some 29) (.slice (some ⟨b, off, none⟩) xs.length cap) rfl rfl (by kernel_rfl) (by kernel_rfl) (by kernel_rfl) (fun _ _ _ h => h) hS2 (MR.want (d := 28) rfl rfl (by simp [MR.size, hsz]) (by simp [MR.ev, MR.size, hsz, e0, f0, e5, f5, e6, f6])) (fun w hw => by simp [execOp, MR.ev, MR.size, hsz, e0, f0, e5, f5, e6, f6, go_sem]) ?_
                refine MR.takeH (i := 8) (some 30) (.int .i64 (k : Int)) rfl rfl (by kernel_rfl) (by kernel_rfl) (by kernel_rfl) (fun _ _ _ h => h) hS2 (MR.want (d := 28) rfl rfl (by simp [MR.size, hsz]) (by simp [MR.ev, MR.size, hsz, e0, f0, e5, f5, e6, f6])) (fun w hw => by simp [execOp, MR.ev, MR.size, hsz, e0, f0, e5, f5, e6, f6, go_sem]) ?_
                refine MR.takeH (i := 9) (some 31) (.int .i64 (k' : Int)) rfl rfl (by kernel_rfl) (by kernel_rfl) (by kernel_rfl) (fun _ _ _ h => h) hS2 (MR.want (d := 28) rfl rfl (by simp [MR.size, hsz]) (by simp [MR.ev, MR.size, hsz, e0, f0, e5, f5, e6, f6])) (fun w hw => by simp [execOp, MR.ev, MR.size, hsz, e0, f0, e5, f5, e6, f6, hk1, hk2, go_sem]) ?_
                refine MR.takeH (i := 10) (some 32) (.pointer (some ⟨b, off + k' * 10, none⟩)) rfl rfl (by kernel_rfl) (by kernel_rfl) (by kernel_rfl) (fun _ _ _ h => h) hS2 (MR.want (d := 28) rfl rfl (by simp [MR.size, hsz]) (by simp [MR.ev, MR.size, hsz, e0, f0, e5, f5, e6, f6])) (fun w hw => by simp [execOp, MR.ev, MR.size, hsz, e0, f0, e5, f5, e6, f6, hk3, hk4, go_sem]) ?_
                refine MR.takeH (i := 11) (some 33) (y.v) rfl rfl (by kernel_rfl) (by kernel_rfl) (by kernel_rfl) (fun _ _ _ h => h) hS2 (MR.want (d := 28) rfl rfl (by simp [MR.size, hsz]) (by simp [MR.ev, MR.size, hsz, e0, f0, e5, f5, e6, f6])) (fun w hw => MA.ex_load rfl (by simp [MR.ev, MR.size, hsz, e0, f0, e5, f5, e6, f6]) (MA.range_below hYr hw hbl) Try.underlying94 rfl Try.sizeParcel rfl) ?_
                refine MR.takeH (i := 12) (some 34) (x.v) rfl rfl (by kernel_rfl) (by kernel_rfl) (by kernel_rfl) (fun _ _ _ h => h) hS2 (MR.want (d := 28) rfl rfl (by simp [MR.size, hsz]) (by simp [MR.ev, MR.size, hsz, e0, f0, e5, f5, e6, f6])) (fun w hw => MA.ex_load rfl (by simp [MR.ev, MR.size, hsz, e0, f0, e5, f5, e6, f6]) (MA.range_below hXr hw hq) Try.underlying94 rfl Try.sizeParcel rfl) ?_
                refine MR.callH (i := 13) (some 35) (90) (#[y.v, x.v]) (by kernel_rfl) rfl rfl (MR.want (d := 28) rfl rfl (by simp [MR.size, hsz]) (by simp [MR.ev, MR.size, hsz, e0, f0, e5, f5, e6, f6])) (by simp [execOp, MR.ev, MR.size, hsz, e0, f0, e5, f5, e6, f6, go_sem]) ?_
                refine Calls.mono (OW.out _) ?_
                rintro e w3 ⟨rfl, hb3⟩
                have hS3 : Below W.heap.size W w3 := hS2.trans (hb3.mono hS2.size)
                refine ⟨_, rfl, hS3, ?_⟩
                refine MR.takeH (i := 14) (some 36) (.bool true) rfl rfl (by kernel_rfl) (by kernel_rfl) (by kernel_rfl) (fun _ _ _ h => h) hS3 (MR.want (d := 28) rfl rfl (by simp [MR.size, hsz]) (by simp [MR.ev, MR.size, hsz, e0, f0, e5, f5, e6, f6])) (fun w hw => by simp [execOp, MR.ev, MR.size, hsz, e0, f0, e5, f5, e6, f6, go_sem]) ?_
                refine MR.takeH (i := 15) (some 37) (.slice (some ⟨b, off, none⟩) xs.length cap) rfl rfl (by kernel_rfl) (by kernel_rfl) (by kernel_rfl) (fun _ _ _ h => h) hS3 (MR.want (d := 36) rfl rfl (by simp [MR.size, hsz]) (by simp [MR.ev, MR.size, hsz, e0, f0, e5, f5, e6, f6])) (fun w hw => by simp [execOp, MR.ev, MR.size, hsz, e0, f0, e5, f5, e6, f6, go_sem]) ?_
                refine MR.takeH (i := 16) (some 38) (.int .i64 (k : Int)) rfl rfl (by kernel_rfl) (by kernel_rfl) (by kernel_rfl) (fun _ _ _ h => h) hS3 (MR.want (d := 36) rfl rfl (by simp [MR.size, hsz]) (by simp [MR.ev, MR.size, hsz, e0, f0, e5, f5, e6, f6])) (fun w hw => by simp [execOp, MR.ev, MR.size, hsz, e0, f0, e5, f5, e6, f6, go_sem]) ?_
                refine MR.takeH (i := 17) (some 39) (.int .i64 (k' : Int)) rfl rfl (by kernel_rfl) (by kernel_rfl) (by kernel_rfl) (fun _ _ _ h => h) hS3 (MR.want (d := 36) rfl rfl (by simp [MR.size, hsz]) (by simp [MR.ev, MR.size, hsz, e0, f0, e5, f5, e6, f6])) (fun w hw => by simp [execOp, MR.ev, MR.size, hsz, e0, f0, e5, f5, e6, f6, hk1, hk2, go_sem]) ?_
                refine MR.takeH (i := 18) (some 40) (.pointer (some ⟨b, off + k' * 10, none⟩)) rfl rfl (by kernel_rfl) (by kernel_rfl) (by kernel_rfl) (fun _ _ _ h => h) hS3 (MR.want (d := 36) rfl rfl (by simp [MR.size, hsz]) (by simp [MR.ev, MR.size, hsz, e0, f0, e5, f5, e6, f6])) (fun w hw => by simp [execOp, MR.ev, MR.size, hsz, e0, f0, e5, f5, e6, f6, hk3, hk4, go_sem]) ?_
                refine MR.takeH (i := 19) (some 41) (y.v) rfl rfl (by kernel_rfl) (by kernel_rfl) (by kernel_rfl) (fun _ _ _ h => h) hS3 (MR.want (d := 36) rfl rfl (by simp [MR.size, hsz]) (by simp [MR.ev, MR.size, hsz, e0, f0, e5, f5, e6, f6])) (fun w hw => MA.ex_load rfl (by simp [MR.ev, MR.size, hsz, e0, f0, e5, f5, e6, f6]) (MA.range_below hYr hw hbl) Try.underlying94 rfl Try.sizeParcel rfl) ?_
                refine MR.takeH (i := 20) (some 42) (x.v) rfl rfl (by kernel_rfl) (by kernel_rfl) (by kernel_rfl) (fun _ _ _ h => h) hS3 (MR.want (d := 36) rfl rfl (by simp [MR.size, hsz]) (by simp [MR.ev, MR.size, hsz, e0, f0, e5, f5, e6, f6])) (fun w hw => MA.ex_load rfl (by simp [MR.ev, MR.size, hsz, e0, f0, e5, f5, e6, f6]) (MA.range_below hXr hw hq) Try.underlying94 rfl Try.sizeParcel rfl) ?_
                refine MR.callH (i := 21) (some 43) (91) (#[y.v, x.v]) (by kernel_rfl) rfl rfl (MR.want (d := 36) rfl rfl (by simp [MR.size, hsz]) (by simp [MR.ev, MR.size, hsz, e0, f0, e5, f5, e6, f6])) (by simp [execOp, MR.ev, MR.size, hsz, e0, f0, e5, f5, e6, f6, go_sem]) ?_
                refine Calls.mono (AO.out _) ?_
                rintro e w4 ⟨rfl, hb4⟩
                have hS4 : Below W.heap.size W w4 := hS3.trans (hb4.mono hS3.size)
                refine ⟨_, rfl, hS4, ?_⟩
                refine MR.takeH (i := 22) (some 44) (.bool false) rfl rfl (by kernel_rfl) (by kernel_rfl) (by kernel_rfl) (fun _ _ _ h => h) hS4 (MR.want (d := 28) rfl rfl (by simp [MR.size, hsz]) (by simp [MR.ev, MR.size, hsz, e0, f0, e5, f5, e6, f6])) (fun w hw => by simp [execOp, MR.ev, MR.size, hsz, e0, f0, e5, f5, e6, f6, go_sem]) ?_
                refine MR.takeH (i := 23) (some 45) (.bool true) rfl rfl (by kernel_rfl) (by kernel_rfl) (by kernel_rfl) (fun _ _ _ h => h) hS4 (MR.want (d := 28) rfl rfl (by simp [MR.size, hsz]) (by simp [MR.ev, MR.size, hsz, e0, f0, e5, f5, e6, f6])) (fun w hw => by simp [execOp, MR.ev, MR.size, hsz, e0, f0, e5, f5, e6, f6, go_sem]) ?_
                refine MR.takeH (i := 24) (some 46) (.bool true) rfl rfl (by kernel_rfl) (by kernel_rfl) (by kernel_rfl) (fun _ _ _ h => h) hS4 (MR.want (d := 25) rfl rfl (by simp [MR.size, hsz]) (by simp [MR.ev, MR.size, hsz, e0, f0, e5, f5, e6, f6])) (fun w hw => by simp [execOp, MR.ev, MR.size, hsz, e0, f0, e5, f5, e6, f6, go_sem]) ?_
                refine MR.takeH (i := 25) (some 47) (.bool true) rfl rfl (by kernel_rfl) (by kernel_rfl) (by kernel_rfl) (fun _ _ _ h => h) hS4 (MR.free rfl) (fun w hw => by simp [execOp, MR.ev, MR.size, hsz, e0, f0, e5, f5, e6, f6, go_sem]) ?_
                refine wpAnyH_done (by kernel_rfl) ?_ _
                have hB7 : Below W.heap.size W w4 := hS4
                rw [HA.out]
                clear hS hS2 hS3 hS4 HA e0 e5 e6 f0 f5 f6 hsz hb2 hb3 hb4 hk1 hk2 hk3 hk4 hgt hYr GP OW AO
                generalize w4 = W7 at *
                simp only [Act.put, List.setIfInBounds_toArray, List.set_cons_succ, List.set_cons_zero]
                have R0 : Hid _ := (hI.kept hB7).res
                have hb : Hid _ := (hI.kept hB7).below
                clear hI hB7 hXr hU
                go_wp2_with (first
                  | (refine MA.build_p rfl 88 rfl [] (by simp) Try.builtStack0 ?_)
                  | (refine MA.store_m rfl 88 _ _ rfl rfl rfl (cs := (stF (.slice none 0 0) PL.blank)) ?_ Try.sizeStack Z_len Z_len Z_one ?_; exact R0.out))
                exact bodyPost_ret (MA.ret_cell2 rfl rfl rfl (MA.load_rg (R0.out.put rfl) Try.underlying88 rfl Try.sizeStack Z_len)) rfl ⟨up_no hF.out, MA.below_cells (Nat.le_refl _) _ _ _ hb.out⟩
              | true =>
                have AO : Hid _ := fun W => isAheadOf_any y x W hpy hpx true hah
                replace HST : Hid (PL.stepI xs k = PL.fits (PL.sh xs k) x) := by show _ = _; rw [HST.out, ho, hah]; rfl
                clear ho hah hpg
                refine MR.frame fun A hA => ?_
                have hsz : A.tmps.size = 63 := by rw [hA]; rfl
                have e0 : A.eval (.tmp 0) = .slice (some ⟨b, off, none⟩) xs.length cap := by rw [hA]; rfl
                have f0 := MR.read (t := 0) (by rw [hsz]; decide) e0
                have e5 : A.eval (.tmp 5) = .int .i64 (k : Int) := by rw [hA]; rfl
                have f5 := MR.read (t := 5) (by rw [hsz]; decide) e5
                have e6 : A.eval (.tmp 6) = .pointer (some ⟨wr.heap.size, 0, none⟩) := by rw [hA]; rfl
                have f6 := MR.read (t := 6) (by rw [hsz]; decide) e6
                have HA : Hid (A = _) := hA
                clear hA
                have hS : (fun w' : World => Below W.heap.size W w') (World.drew _) := ((Below.refl _ W).drew)
                refine wp_region_held (S := fun w' : World => Below W.heap.size W w') (by kernel_rfl) ?_
                change wpAnyH _ _ _ _ _ _ _ _ (World.drew _)
                refine MR.takeH (i := 0) (some 22) (x.v) rfl rfl (by kernel_rfl) (by kernel_rfl) (by kernel_rfl) (fun _ _ _ h => h) hS (MR.free rfl) (fun w hw => MA.ex_load rfl (by simp [MR.ev, MR.size, hsz, e0, f0, e5, f5, e6, f6]) (MA.range_below hXr hw hq) Try.underlying94 rfl Try.sizeParcel rfl) ?_
                refine MR.callH (i := 1) (some 23) (49) (#[x.v]) (by kernel_rfl) rfl rfl (MR.free rfl) (by simp [execOp, MR.ev, MR.size, hsz, e0, f0, e5, f5, e6, f6, go_sem]) ?_
                refine Calls.mono (GP.out _) ?_
                rintro e w2 ⟨rfl, hb2⟩
                have hS2 : Below W.heap.size W w2 := hS.trans (hb2.mono hS.size)
                refine ⟨_, rfl, hS2, ?_⟩
                refine MR.takeH (i := 2) (some 24) (.bool false) rfl rfl (by kernel_rfl) (by kernel_rfl) (by kernel_rfl) (fun _ _ _ h => h) hS2 (MR.free rfl) (fun w hw => by simp [execOp, MR.ev, MR.size, hsz, e0, f0, e5, f5, e6, f6, go_sem]) ?_
                refine MR.takeH (i := 3) (some 25) (.bool false) rfl rfl (by kernel_rfl) (by kernel_rfl) (by kernel_rfl) (fun _ _ _ h => h) hS2 (MR.free rfl) (fun w hw => by simp [execOp, MR.ev, MR.size, hsz, e0, f0, e5, f5, e6, f6, go_sem]) ?_
                refine MR.takeH (i := 4) (some 26) (.int .i64 (k : Int)) rfl rfl (by kernel_rfl) (by kernel_rfl) (by kernel_rfl) (fun _ _ _ h => h) hS2 (MR.want (d := 25) rfl rfl (by simp [MR.size, hsz]) (by simp [MR.ev, MR.size, hsz, e0, f0, e5, f5, e6, f6])) (fun w hw => by simp [execOp, MR.ev, MR.size, hsz, e0, f0, e5, f5, e6, f6, go_sem]) ?_
                refine MR.takeH (i := 5) (some 27) (.bool true) rfl rfl (by kernel_rfl) (by kernel_rfl) (by kernel_rfl) (fun _ _ _ h => h) hS2 (MR.want (d := 25) rfl rfl (by simp [MR.size, hsz]) (by simp [MR.ev, MR.size, hsz, e0, f0, e5, f5, e6, f6])) (fun w hw => by simp [execOp, MR.ev, MR.size, hsz, e0, f0, e5, f5, e6, f6, hgt, go_sem]) ?_
                refine MR.takeH (i := 6) (some 28) (.bool true) rfl rfl (by kernel_rfl) (by kernel_rfl) (by kernel_rfl) (fun _ _ _ h => h) hS2 (MR.want (d := 25) rfl rfl (by simp [MR.size, hsz]) (by simp [MR.ev, MR.size, hsz, e0, f0, e5, f5, e6, f6])) (fun w hw => by simp [execOp, MR.ev, MR.size, hsz, e0, f0, e5, f5, e6, f6, go_sem]) ?_
                refine MR.takeH (i := 7) (some 29) (.slice (some ⟨b, off, none⟩) xs.length cap) rfl rfl (by kernel_rfl) (by kernel_rfl) (by kernel_rfl) (fun _ _ _ h => h) hS2 (MR.want (d := 28) rfl rfl (by simp [MR.size, hsz]) (by simp [MR.ev, MR.size, hsz, e0, f0, e5, f5, e6, f6])) (fun w hw => by simp [execOp, MR.ev, MR.size, hsz, e0, f0, e5, f5, e6, f6, go_sem]) ?_
                refine MR.takeH (i := 8) (some 30) (.int .i64 (k : Int)) rfl rfl (by kernel_rfl) (by kernel_rfl) (by kernel_rfl) (fun _ _ _ h => h) hS2 (MR.want (d := 28) rfl rfl (by simp [MR.size, hsz]) (by simp [MR.ev, MR.size, hsz, e0, f0, e5, f5, e6, f6])) (fun w hw => by simp [execOp, MR.ev, MR.size, hsz, e0, f0, e5, f5, e6, f6, go_sem]) ?_
                refine MR.takeH (i := 9) (some 31) (.int .i64 (k' : Int)) rfl rfl (by kernel_rfl) (by kernel_rfl) (by kernel_rfl) (fun _ _ _ h => h) hS2 (MR.want (d := 28) rfl rfl (by simp [MR.size, hsz]) (by simp [MR.ev, MR.size, hsz, e0, f0, e5, f5, e6, f6])) (fun w hw => by simp [execOp, MR.ev, MR.size, hsz, e0, f0, e5, f5, e6, f6, hk1, hk2, go_sem]) ?_
                refine MR.takeH (i := 10) (some 32) (.pointer (some ⟨b, off + k' * 10, none⟩)) rfl rfl (by kernel_rfl) (by kernel_rfl) (by kernel_rfl) (fun _ _ _ h => h) hS2 (MR.want (d := 28) rfl rfl (by simp [MR.size, hsz]) (by simp [MR.ev, MR.size, hsz, e0, f0, e5, f5, e6, f6])) (fun w hw => by simp [execOp, MR.ev, MR.size, hsz, e0, f0, e5, f5, e6, f6, hk3, hk4, go_sem]) ?_
                refine MR.takeH (i := 11) (some 33) (y.v) rfl rfl (by kernel_rfl) (by kernel_rfl) (by kernel_rfl) (fun _ _ _ h => h) hS2 (MR.want (d := 28) rfl rfl (by simp [MR.size, hsz]) (by simp [MR.ev, MR.size, hsz, e0, f0, e5, f5, e6, f6])) (fun w hw => MA.ex_load rfl (by simp [MR.ev, MR.size, hsz, e0, f0, e5, f5, e6, f6]) (MA.range_below hYr hw hbl) Try.underlying94 rfl Try.sizeParcel rfl) ?_
                refine MR.takeH (i := 12) (some 34) (x.v) rfl rfl (by kernel_rfl) (by kernel_rfl) (by kernel_rfl) (fun _ _ _ h => h) hS2 (MR.want (d := 28) rfl rfl (by simp [MR.size, hsz]) (by simp [MR.ev, MR.size, hsz, e0, f0, e5, f5, e6, f6])) (fun w hw => MA.ex_load rfl (by simp [MR.ev, MR.size, hsz, e0, f0, e5, f5, e6, f6]) (MA.range_below hXr hw hq) Try.underlying94 rfl Try.sizeParcel rfl) ?_
                refine MR.callH (i := 13) (some 35) (90) (#[y.v, x.v]) (by kernel_rfl) rfl rfl (MR.want (d := 28) rfl rfl (by simp [MR.size, hsz]) (by simp [MR.ev, MR.size, hsz, e0, f0, e5, f5, e6, f6])) (by simp [execOp, MR.ev, MR.size, hsz, e0, f0, e5, f5, e6, f6, go_sem]) ?_
                refine Calls.mono (OW.out _) ?_
                rintro e w3 ⟨rfl, hb3⟩
                have hS3 : Below W.heap.size W w3 := hS2.trans (hb3.mono hS2.size)
                refine ⟨_, rfl, hS3, ?_⟩
                refine MR.takeH (i := 14) (some 36) (.bool true) rfl rfl (by kernel_rfl) (by kernel_rfl) (by kernel_rfl) (fun _ _ _ h => h) hS3 (MR.want (d := 28) rfl rfl (by simp [MR.size, hsz]) (by simp [MR.ev, MR.size, hsz, e0, f0, e5, f5, e6, f6])) (fun w hw => by simp [execOp, MR.ev, MR.size, hsz, e0, f0, e5, f5, e6, f6, go_sem]) ?_
                refine MR.takeH (i := 15) (some 37) (.slice (some ⟨b, off, none⟩) xs.length cap) rfl rfl (by kernel_rfl) (by kernel_rfl) (by kernel_rfl) (fun _ _ _ h => h) hS3 (MR.want (d := 36) rfl rfl (by simp [MR.size, hsz]) (by simp [MR.ev, MR.size, hsz, e0, f0, e5, f5, e6, f6])) (fun w hw => by simp [execOp, MR.ev, MR.size, hsz, e0, f0, e5, f5, e6, f6, go_sem]) ?_
                refine MR.takeH (i := 16) (some 38) (.int .i64 (k : Int)) rfl rfl (by kernel_rfl) (by kernel_rfl) (by kernel_rfl) (fun _ _ _ h => h) hS3 (MR.want (d := 36) rfl rfl (by simp [MR.size, hsz]) (by simp [MR.ev, MR.size, hsz, e0, f0, e5, f5, e6, f6])) (fun w hw => by simp [execOp, MR.ev, MR.size, hsz, e0, f0, e5, f5, e6, f6, go_sem]) ?_
                refine MR.takeH (i := 17) (some 39) (.int .i64 (k' : Int)) rfl rfl (by kernel_rfl) (by kernel_rfl) (by kernel_rfl) (fun _ _ _ h => h) hS3 (MR.want (d := 36) rfl rfl (by simp [MR.size, hsz]) (by simp [MR.ev, MR.size, hsz, e0, f0, e5, f5, e6, f6])) (fun w hw => by simp [execOp, MR.ev, MR.size, hsz, e0, f0, e5, f5, e6, f6, hk1, hk2, go_sem]) ?_
                refine MR.takeH (i := 18) (some 40) (.pointer (some ⟨b, off + k' * 10, none⟩)) rfl rfl (by kernel_rfl) (by kernel_rfl) (by kernel_rfl) (fun _ _ _ h => h) hS3 (MR.want (d := 36) rfl rfl (by simp [MR.size, hsz]) (by simp [MR.ev, MR.size, hsz, e0, f0, e5, f5, e6, f6])) (fun w hw => by simp [execOp, MR.ev, MR.size, hsz, e0, f0, e5, f5, e6, f6, hk3, hk4, go_sem]) ?_
                refine MR.takeH (i := 19) (some 41) (y.v) rfl rfl (by kernel_rfl) (by kernel_rfl) (by kernel_rfl) (fun _ _ _ h => h) hS3 (MR.want (d := 36) rfl rfl (by simp [MR.size, hsz]) (by simp [MR.ev, MR.size, hsz, e0, f0, e5, f5, e6, f6])) (fun w hw => MA.ex_load rfl (by simp [MR.ev, MR.size, hsz, e0, f0, e5, f5, e6, f6]) (MA.range_below hYr hw hbl) Try.underlying94 rfl Try.sizeParcel rfl) ?_
                refine MR.takeH (i := 20) (some 42) (x.v) rfl rfl (by kernel_rfl) (by kernel_rfl) (by kernel_rfl) (fun _ _ _ h => h) hS3 (MR.want (d := 36) rfl rfl (by simp [MR.size, hsz]) (by simp [MR.ev, MR.size, hsz, e0, f0, e5, f5, e6, f6])) (fun w hw => MA.ex_load rfl (by simp [MR.ev, MR.size, hsz, e0, f0, e5, f5, e6, f6]) (MA.range_below hXr hw hq) Try.underlying94 rfl Try.sizeParcel rfl) ?_
                refine MR.callH (i := 21) (some 43) (91) (#[y.v, x.v]) (by kernel_rfl) rfl rfl (MR.want (d := 36) rfl rfl (by simp [MR.size, hsz]) (by simp [MR.ev, MR.size, hsz, e0, f0, e5, f5, e6, f6])) (by simp [execOp, MR.ev, MR.size, hsz, e0, f0, e5, f5, e6, f6, go_sem]) ?_
                refine Calls.mono (AO.out _) ?_
                rintro e w4 ⟨rfl, hb4⟩
                have hS4 : Below W.heap.size W w4 := hS3.trans (hb4.mono hS3.size)
                refine ⟨_, rfl, hS4, ?_⟩
                refine MR.takeH (i := 22) (some 44) (.bool true) rfl rfl (by kernel_rfl) (by kernel_rfl) (by kernel_rfl) (fun _ _ _ h => h) hS4 (MR.want (d := 28) rfl rfl (by simp [MR.size, hsz]) (by simp [MR.ev, MR.size, hsz, e0, f0, e5, f5, e6, f6])) (fun w hw => by simp [execOp, MR.ev, MR.size, hsz, e0, f0, e5, f5, e6, f6, go_sem]) ?_
                refine MR.takeH (i := 23) (some 45) (.bool false) rfl rfl (by kernel_rfl) (by kernel_rfl) (by kernel_rfl) (fun _ _ _ h => h) hS4 (MR.want (d := 28) rfl rfl (by simp [MR.size, hsz]) (by simp [MR.ev, MR.size, hsz, e0, f0, e5, f5, e6, f6])) (fun w hw => by simp [execOp, MR.ev, MR.size, hsz, e0, f0, e5, f5, e6, f6, go_sem]) ?_
                refine MR.takeH (i := 24) (some 46) (.bool false) rfl rfl (by kernel_rfl) (by kernel_rfl) (by kernel_rfl) (fun _ _ _ h => h) hS4 (MR.want (d := 25) rfl rfl (by simp [MR.size, hsz]) (by simp [MR.ev, MR.size, hsz, e0, f0, e5, f5, e6, f6])) (fun w hw => by simp [execOp, MR.ev, MR.size, hsz, e0, f0, e5, f5, e6, f6, go_sem]) ?_
                refine MR.takeH (i := 25) (some 47) (.bool false) rfl rfl (by kernel_rfl) (by kernel_rfl) (by kernel_rfl) (fun _ _ _ h => h) hS4 (MR.free rfl) (fun w hw => by simp [execOp, MR.ev, MR.size, hsz, e0, f0, e5, f5, e6, f6, go_sem]) ?_
                refine wpAnyH_done (by kernel_rfl) ?_ _
                have hB7 : Below W.heap.size W w4 := hS4
                rw [HA.out]
                clear hS hS2 hS3 hS4 HA e0 e5 e6 f0 f5 f6 hsz hb2 hb3 hb4 hk1 hk2 hk3 hk4 hgt hYr GP OW AO
                generalize w4 = W7 at *
                simp only [Act.put, List.setIfInBounds_toArray, List.set_cons_succ, List.set_cons_zero]
                have HI : Hid _ := hI.kept hB7
                have HX7 : Hid _ := MA.range_below hXr hB7 hq
                have hs7 := hB7.size
                clear hI hB7 hXr
                go_wp2_with (first
                  | (refine MA.load_m rfl 86 _ rfl rfl (cs := MA.sF (PL.sh xs k)) ?_ Try.underlying86 rfl Try.sizeSheet (MA.sF_len _) ?_; exact HI.out.sht)
                  | (refine MA.load_r rfl 94 _ rfl rfl (cs := x.cs) ?_ Try.underlying94 rfl Try.sizeParcel rfl ?_; exact HX7.out))
                refine Calls.mono (WI2.out _) ?_
                rintro e w9 ⟨rfl, hb9⟩
                have HI9 : Hid _ := HI.out.kept hb9
                have HN : Hid _ := new_sheet w9 (PL.lay (PL.sh xs k) x) 86
                have RN : Hid _ := MA.Rg.new w9 (MA.sF PL.blank) 86
                clear HI HX7 WI2 hb9 hs7
                cases hf : PL.fits (PL.sh xs k) x
                · have hF : Hid (upOk xs = false) := up_step hl (HST.out.trans hf)
                  clear hf HST HG HXX hU
                  go_wp2_with (first
                    | (refine MA.alloc_z rfl 86 rfl _ _ Try.infoSheet ?_; simp only [MA.sz_alloc])
                    | (refine MA.store_m rfl 86 _ _ rfl rfl rfl (cs := MA.sF PL.blank) ?_ Try.sizeSheet (MA.sF_len _) (MA.sF_len _) (MA.sF_one _) ?_; exact RN.out; clear RN; generalize World.setCells _ _ _ _ = W9 at *)
                    | (refine MA.build_p rfl 88 rfl [] (by simp) Try.builtStack0 ?_)
                    | (refine MA.store_m rfl 88 _ _ rfl rfl rfl (cs := (stF (.slice none 0 0) PL.blank)) ?_ Try.sizeStack Z_len Z_len Z_one ?_; exact (HI9.out.kept HN.out.1).res))
                  exact bodyPost_ret (MA.ret_cell2 rfl rfl rfl (MA.load_rg ((HI9.out.kept HN.out.1).res.put rfl) Try.underlying88 rfl Try.sizeStack Z_len)) rfl ⟨up_no hF.out, MA.below_cells (Nat.le_refl _) _ _ _ (HI9.out.kept HN.out.1).below⟩
                · have hU' : Hid (PL.upto (PL.stepI xs) (k + 1) = true) := PL.upto_succ hU.out (HST.out.trans hf)
                  have hsh : Hid (PL.lay (PL.sh xs k) x = PL.sh xs (k + 1)) := by show _ = _; rw [PL.sh_succ xs k hl, HXX.out]
                  clear hf HST HG hU HXX
                  go_wp2_with (first
                    | (refine MA.alloc_z rfl 86 rfl _ _ Try.infoSheet ?_; simp only [MA.sz_alloc])
                    | (refine MA.store_m rfl 86 _ _ rfl rfl rfl (cs := MA.sF PL.blank) ?_ Try.sizeSheet (MA.sF_len _) (MA.sF_len _) (MA.sF_one _) ?_; exact RN.out; clear RN; generalize World.setCells _ _ _ _ = W9 at *)
                    | (refine MA.load_m rfl 86 _ rfl rfl (cs := MA.sF (PL.lay (PL.sh xs k) x)) ?_ Try.underlying86 rfl Try.sizeSheet (MA.sF_len _) ?_; exact HN.out.2)
                    | (refine MA.store_m rfl 86 _ _ rfl rfl rfl (cs := MA.sF (PL.sh xs k)) ?_ Try.sizeSheet (MA.sF_len _) (MA.sF_len _) (MA.sF_one _) ?_; exact (HI9.out.kept HN.out.1).sht; replace HI9 : Hid _ := (HI9.out.kept HN.out.1).laid (PL.lay (PL.sh xs k) x); clear HN; generalize World.setCells _ _ _ _ = W10 at *))
                  have hI10 := HI9.out
                  rw [hsh.out] at hI10
                  go_roundw
                  case rel => exact ⟨k + 1, by go_num, by omega, hU', hI10⟩
                  case measure => simp [intOf]; omega
      · obtain rfl : k = xs.length := by omega
        have hT : Hid (upOk xs = true) := by simp [Hid, upOk, h60, hU.out]
        have R0 : Hid _ := hI.res
        have R1 : Hid _ := hI.all
        have hb : Hid _ := hI.below
        clear hI hU
        go_wp2_with (first
          | (refine MA.load_m rfl 88 _ rfl rfl (cs := stF (.slice a xs.length cap) (PL.sh xs xs.length)) ?_ Try.underlying88 rfl Try.sizeStack (st_len _ _ _ _) ?_; exact R1.out)
          | (refine MA.store_m rfl 88 _ _ rfl rfl rfl (cs := stF (.slice none 0 0) PL.blank) ?_ Try.sizeStack Z_len (st_len _ _ _ _) (st_one _ _ _ _) ?_; exact R0.out))
        exact bodyPost_ret (MA.ret_cell2 rfl rfl rfl (MA.load_rg (R0.out.put (by rw [Z_len, st_len])) Try.underlying88 rfl Try.sizeStack (st_len _ _ _ _))) rfl ⟨up_yes hT.out, MA.below_cells (Nat.le_refl _) _ _ _ hb.out⟩
  · have hF : Hid (upOk xs = false) := by simp [Hid, upOk, h60]
    have R0 : Hid (MA.Rg (w.alloc (.cells (stF (.slice none 0 0) PL.blank).toArray 88)) w.heap.size 0 (stF (.slice none 0 0) PL.blank)) := MA.Rg.new w (stF (.slice none 0 0) PL.blank) 88
    go_enter Try.func52, Try.ntmps52
    go_wp2_with (first
      | (refine MA.alloc_z rfl 88 rfl _ _ Try.infoStack' ?_; simp only [MA.sz_alloc])
      | (refine MA.build_p rfl 88 rfl [] (by simp) Try.builtStack0 ?_)
      | (refine MA.store_m rfl 88 _ _ rfl rfl rfl (cs := (stF (.slice none 0 0) PL.blank)) ?_ Try.sizeStack Z_len Z_len Z_one ?_; exact R0.out))
    exact bodyPost_ret (MA.ret_cell2 rfl rfl rfl (MA.load_rg (R0.out.put rfl) Try.underlying88 rfl Try.sizeStack Z_len)) rfl ⟨up_no hF.out, MA.below_cells (Nat.le_refl _) _ _ _ ((Below.refl _ w).alloc (Nat.le_refl _) _)⟩
end Go.Proofs.Ytjekofjhplhemaa
