/- rowsFrom of the program: the rows of pipes that are found first. -/
import Derived.Test.YtpabhjnpbnabiaaRows
import Derived.Test.YtpabhjnpbnabiaaCRowF
import Derived.Test.YtpabhjnpbnabiaaCStepF
import Derived.Test.YtpabhjnpbnabiaaMRP
import Derived.WalkKit
import Derived.WalkSpells
import Derived.WalkLawsBesides
import Derived.Outline
import Derived.Deep.RegionHeld3
import Derived.Test.YtpabhjnpbnabiaaMRetB
import Derived.Test.YtpabhjnpbnabiaaMInfo
namespace Go.Proofs.Ytpabhjnpbnabiaa
open Go.RowKit
theorem Try.infoR : (Try.prog.info? 88).map (fun i => (i.zero, i.size)) = some (some (.agg FL.nils.toArray), 8) := by kernel_rfl
theorem Try.infoST : (Try.prog.info? 111).map (fun i => (i.zero, i.size)) = some (some (.agg (([.int .i64 0, .bool false, .int .i64 0, .int .i64 0] : List Value)).toArray), 4) := by kernel_rfl
theorem Try.sizeST : (Try.prog.info? 111).map (·.size) = some 4 := by kernel_rfl
theorem Try.sizeR : (Try.prog.info? 88).map (·.size) = some 8 := by kernel_rfl
namespace FL
theorem nils_set (fn : Nat) (v : Value) : nils.set fn v = vl (putF (fun _ => .nilFunc) fn v) := by
  have e0 : nils = vl (fun _ => .nilFunc) := rfl
  rw [e0, vl_set]
theorem rs_new (w : World) (fn : Nat) (hf : fn < 8) :
    RS w (((w.alloc (.cells nils.toArray 88)).alloc (.cells (nils.set fn (.func (.func 79) #[] #[])).toArray 88)).alloc (.cells #[.slice none 0 0] 107)) w.heap.size (start (fn : Int)) [] (putF (fun _ => .nilFunc) fn (.func (.func 79) #[] #[])) := by
  have r1 := (MA.Rg.new w nils 88).alloc (.cells (nils.set fn (.func (.func 79) #[] #[])).toArray 88)
  have r3 := MA.Rg.new' (w.alloc (.cells nils.toArray 88)) (nils.set fn (.func (.func 79) #[] #[])) 88 (w.heap.size + 1) (by simp)
  have hsz : ((w.alloc (.cells nils.toArray 88)).alloc (.cells (nils.set fn (.func (.func 79) #[] #[])).toArray 88)).heap.size = w.heap.size + 2 := by simp
  refine ⟨r1.alloc _, ?_, ⟨none, 0, ?_, Nat.le_refl _, .inl rfl⟩, by rw [MA.sz_alloc, hsz]; omega, ?_, fun m hm => ?_⟩
  · have r4 := r3.alloc (.cells #[.slice none 0 0] 107)
    rw [nils_set] at r4 ⊢
    exact r4
  · show (World.alloc _ _).heap[w.heap.size + 2]? = _
    rw [← hsz]
    exact heap_alloc_new _ _
  · refine Below.alloc ?_ (by rw [hsz]; omega) _
    exact ((Below.refl _ w).alloc (Nat.le_refl _) _).alloc (by simp) _
  · have gs : (start (fn : Int)).by_.getD m 0 = if fn = m then -2 else (List.replicate 8 (-1 : Int)).getD m 0 := by
      show ((List.replicate 8 (-1 : Int)).set (fn : Int).toNat (-2)).getD m 0 = _
      rw [Int.toNat_natCast, getD_set _ _ _ _ _ (by simp; exact hf)]
    by_cases e : fn = m
    · right
      subst e
      refine ⟨by rw [gs, if_pos rfl]; omega, 79, #[], by simp [putF], ?_⟩
      exact .nil
    · left
      refine ⟨?_, by simp [putF, Ne.symm e]⟩
      rw [gs, if_neg e, List.getD_eq_getElem?_getD, List.getElem?_replicate, if_pos hm]; rfl
/-- What a step makes of the search. -/
structure Sd (s s' : St) (nn tn : Nat) (t : Int) (x : Stp) : Prop where
  L1 : s'.L tn = s.L nn ++ [x]
  L2 : ∀ m, m ≠ tn → s'.L m = s.L m
  B1 : s'.by_.getD tn 0 ≠ -1
  B2 : ∀ m, m ≠ tn → s'.by_.getD m 0 = s.by_.getD m 0
  Q : s'.q = s.q ++ [t]
theorem sd_of {xs : List I3} {fs : List Int} {s : St} {nn k : Nat} (hl : s.by_.length = 8) (ht : (nx (MI3.at_ xs k) (nn : Int)).toNat < 8) : Sd s (stepd xs fs (nn : Int) s k) nn (nx (MI3.at_ xs k) (nn : Int)).toNat (nx (MI3.at_ xs k) (nn : Int)) (stp xs fs (nn : Int) k) := by
  have gs : ∀ m, (s.by_.set (nxt xs (nn : Int) k) (k : Int)).getD m 0 = if nxt xs (nn : Int) k = m then (k : Int) else s.by_.getD m 0 := fun m => getD_set _ _ _ _ _ (by unfold nxt; rw [hl]; exact ht)
  refine ⟨?_, ?_, ?_, ?_, rfl⟩
  · show (if (nx (MI3.at_ xs k) (nn : Int)).toNat = nxt xs (nn : Int) k then s.L (nn : Int).toNat ++ [stp xs fs (nn : Int) k] else _) = _
    rw [if_pos (by unfold nxt; rfl), Int.toNat_natCast]
  · intro m hm
    show (if m = nxt xs (nn : Int) k then _ else s.L m) = _
    rw [if_neg (show ¬ m = nxt xs (nn : Int) k from hm)]
  · show (s.by_.set (nxt xs (nn : Int) k) (k : Int)).getD (nx (MI3.at_ xs k) (nn : Int)).toNat 0 ≠ -1
    rw [gs, if_pos (by unfold nxt; rfl)]; omega
  · intro m hm
    show (s.by_.set (nxt xs (nn : Int) k) (k : Int)).getD m 0 = _
    rw [gs, if_neg (fun e => hm e.symm)]
/-- The measure of the search, read out of memory. -/
def isNil : Option Value → Bool
  | some .nilFunc => true
  | _ => false
def nilc (W : World) (b : Nat) : Nat := ((List.range 8).filter fun m => isNil (W.cell? ⟨b, 0 + m, none⟩)).length
def qln (W : World) (b : Nat) : Nat := match W.cell? ⟨b, 0, none⟩ with
  | some (.slice _ n _) => n
  | _ => 0
def okn : Value → Nat
  | .bool true => 1
  | _ => 0
def mR (B : Nat) (v : Value) (W : World) : Nat := nilc W (B + 1) + qln W (B + 2) + okn v
theorem count_range (l : List Int) (k : Nat) (hk : k ≤ l.length) : ((List.range k).filter fun m => decide (l.getD m 0 = -1)).length = (l.take k).count (-1) := by
  induction k with
  | zero => simp
  | succ k ih =>
    have hk' : k < l.length := by omega
    rw [List.range_succ, List.filter_append, List.length_append, ih (by omega), List.take_succ_eq_append_getElem hk', List.count_append]
    have e : l.getD k 0 = l[k] := by rw [List.getD_eq_getElem?_getD, List.getElem?_eq_getElem hk']; rfl
    by_cases h : l[k] = -1
    · rw [List.filter_cons_of_pos (by simp only [e, h, decide_true]), h]; simp
    · rw [List.filter_cons_of_neg (by simp only [e, h, decide_false]; decide)]; simp [h]
theorem RS.nilc {w W : World} {B : Nat} {s : St} {ys : List Int} {vf : Nat → Value} (h : RS w W B s ys vf) (hl : s.by_.length = 8) : FL.nilc W (B + 1) = s.by_.count (-1) := by
  have e : s.by_.count (-1) = ((List.range 8).filter fun m => decide (s.by_.getD m 0 = -1)).length := by rw [count_range _ _ (by omega), ← hl, List.take_length]
  rw [e]; unfold FL.nilc
  congr 1
  apply List.filter_congr
  intro m hm
  have hm8 : m < 8 := by simpa using hm
  rw [h.rows.cell (vl_get vf hm8)]
  rcases h.fn m hm8 with ⟨h1, h2⟩ | ⟨h1, F, cs, h2, _⟩
  · rw [h1, h2]; rfl
  · rw [h2, decide_eq_false h1]; rfl
theorem RS.qln {w W : World} {B : Nat} {s : St} {ys : List Int} {vf : Nat → Value} (h : RS w W B s ys vf) : FL.qln W (B + 2) = ys.length := by
  obtain ⟨a, cap, q⟩ := h.q.is
  have := cell_block (o := 0) q.box
  unfold FL.qln
  rw [this]; rfl
/-- The loop's state: the node that was taken, and whether there was one. -/
structure Lp (w W : World) (B : Nat) (xs : List I3) (fs : List Int) (f : Int) (nv ov : Value) (i : Nat) (vf : Nat → Value) : Prop where
  is : (i < (at8 xs fs f i).q.length ∧ nv = .int .i64 ((at8 xs fs f i).q.getD i 0) ∧ ov = .bool true ∧ RS w W B (at8 xs fs f i) ((at8 xs fs f i).q.drop (i + 1)) vf) ∨ ((at8 xs fs f i).q.length = i ∧ nv = .int .i64 0 ∧ ov = .bool false ∧ RS w W B (at8 xs fs f i) [] vf)
theorem Lp.mr {w W : World} {B : Nat} {xs : List I3} {fs : List Int} {f : Int} {nv ov : Value} {i : Nat} {vf : Nat → Value} (T : Tree xs fs f (at8 xs fs f i)) (h : Lp w W B xs fs f nv ov i vf) : mR B ov W = 8 - i ∧ i ≤ 8 := by
  have hc := T.cnt
  unfold mR
  rcases h.is with ⟨h1, _, rfl, h2⟩ | ⟨h1, _, rfl, h2⟩
  · rw [h2.nilc T.len, h2.qln, List.length_drop]; simp only [okn]; omega
  · rw [h2.nilc T.len, h2.qln]; simp only [okn, List.length_nil]; omega
theorem heap_setCells (b : Nat) : ∀ (vs : List Value) (o : Nat) (w : World) (k : Nat), k ≠ b → (w.setCells b o vs).heap[k]? = w.heap[k]? := by
  intro vs
  induction vs with
  | nil => intro o w k _; rfl
  | cons v vs ih =>
    intro o w k hk
    show ((w.setCell ⟨b, o, none⟩ v).setCells b (o + 1) vs).heap[k]? = _
    rw [ih _ _ _ hk]; exact Below.heap_setCell w ⟨b, o, none⟩ v k hk
structure FnOk (lo : Nat) (W : World) (s : St) (vf : Nat → Value) : Prop where
  is : ∀ m, m < 8 → (s.by_.getD m 0 = -1 ∧ vf m = .nilFunc) ∨ (s.by_.getD m 0 ≠ -1 ∧ ∃ F cs, vf m = .func (.func F) #[] cs ∧ RowF lo W F cs (s.L m))
theorem RS.fin {w W : World} {B : Nat} {s : St} {ys : List Int} {vf : Nat → Value} (h : RS w W B s ys vf) (vs : List Value) : FnOk B (W.setCells B 0 vs) s vf := by
  refine ⟨fun m hm => ?_⟩
  rcases h.fn m hm with h1 | ⟨h1, F, cs, h2, h3⟩
  · exact .inl h1
  · exact .inr ⟨h1, F, cs, h2, (h3.keep fun k _ hk _ => heap_setCells B vs 0 W k (by omega)).mono (by omega)⟩
theorem vl_one {lo : Nat} {W : World} {s : St} {vf : Nat → Value} (h : FnOk lo W s vf) : ∀ v ∈ vl vf, v.oneCell' = true := by
  intro v hv
  simp only [vl, List.mem_map, List.mem_range] at hv
  obtain ⟨m, hm, rfl⟩ := hv
  rcases h.is m hm with ⟨_, h2⟩ | ⟨_, F, cs, h2, _⟩
  · rw [h2]; rfl
  · rw [h2]; rfl
theorem nils_one : ∀ v ∈ nils, v.oneCell' = true := by
  intro v hv; simp only [nils, List.mem_replicate] at hv; rw [hv.2]; rfl
theorem drop_get (l : List Int) (i : Nat) (h : i < l.length) : l.drop i = l.getD i 0 :: l.drop (i + 1) := by
  rw [List.drop_eq_getElem_cons h, List.getD_eq_getElem?_getD, List.getElem?_eq_getElem h]; rfl
end FL
set_option maxRecDepth 100000 in
theorem eqNil8 (W : World) : (binOp .eql 87 .nilFunc .nilFunc).run Try.prog W = .ok (.bool true) W := by kernel_rfl
set_option maxRecDepth 100000 in
theorem eqFun8 (W : World) (F : Nat) (cs : Array Value) : (binOp .eql 87 (.func (.func F) #[] cs) .nilFunc).run Try.prog W = .ok (.bool false) W := by kernel_rfl
set_option linter.unusedSimpArgs false in
set_option maxHeartbeats 3200000 in
set_option maxRecDepth 100000 in
theorem rowsFrom_any (a b : Option Addr) (ca cb : Nat) (xs : List I3) (fs : List Int) (f : Int) (w : World) (hok : FL.okP xs = true) (hf0 : 0 ≤ f) (hf1 : f ≤ 7) (hl : fs.length = xs.length) (hfit : FL.fitUp xs fs xs.length) (hin : MI3.RowAt w a xs) (hos : M4.IntsAt w b fs) :
    Calls Try.prog 63 #[.slice a xs.length ca, .int .i64 f, .slice b fs.length cb] w fun e w' => ∃ vf, e = .returned (.agg (FL.vl vf).toArray) ∧ FL.FnOk w.heap.size w' (FL.srch xs fs f) vf ∧ Below w.heap.size w w' := by
  have HI : Hid (MI3.RowAt w a xs) := hin
  have HO : Hid (M4.IntsAt w b fs) := hos
  have hlen : xs.length ≤ 20 := ((FL.okP_iff xs).1 hok).1
  have GC : Hid (∀ k, k < xs.length → FL.Good (MI3.at_ xs k)) := fun k hk => FL.okP_good hok hk
  have GF : Hid (∀ k, k < xs.length → 0 ≤ fs.getD k 0 ∧ fs.getD k 0 ≤ (MI3.at_ xs k).a2) := fun k hk => hfit k hk
  have TR : Hid (∀ i, FL.Tree xs fs f (FL.at8 xs fs f i)) := fun i => FL.at8_tree hok ⟨hf0, hf1⟩ i
  have SC : Hid (∀ i, i < (FL.at8 xs fs f i).q.length → ∀ k, k ≤ xs.length → FL.Scan xs fs f ((FL.at8 xs fs f i).q.getD i 0) (FL.at8 xs fs f i) (FL.scan xs fs ((FL.at8 xs fs f i).q.getD i 0) (FL.at8 xs fs f i) k)) := fun i h k hk => by
    have T := FL.at8_tree (fs := fs) hok ⟨hf0, hf1⟩ i
    obtain ⟨h1, h2, h3⟩ := T.inq i h
    exact FL.scan_ok hok ⟨hf0, hf1⟩ T ⟨h1, h2⟩ h3 k hk
  rw [hl]
  have HL : Hid _ := hl
  obtain ⟨fn, rfl⟩ := Int.eq_ofNat_of_zero_le hf0
  have hfn : fn < 8 := by omega
  have ff1 : (fn : Int) < 8 := by omega
  have HN : Hid _ := FL.rs_new w fn hfn
  have RZ : Hid (MA.Rg ((w.alloc (.cells FL.nils.toArray 88)).alloc (.cells FL.nils.toArray 88)) (w.heap.size + 1) 0 FL.nils) := MA.Rg.new' _ _ _ _ (by simp)
  have q1 : ((w.alloc (.cells FL.nils.toArray 88)).alloc (.cells FL.nils.toArray 88)).cell? ⟨w.heap.size + 1, fn, none⟩ = some .nilFunc := by have := RZ.out.cell (j := fn) (v := .nilFunc) (by unfold FL.nils; rw [List.getElem?_replicate, if_pos hfn]); rwa [Nat.zero_add] at this
  have z1 : ((w.alloc (.cells FL.nils.toArray 88)).alloc (.cells FL.nils.toArray 88)).frozen? ⟨w.heap.size + 1, fn, none⟩ = false := by have := RZ.out.free (j := fn) (by show fn < 8; exact hfn); rwa [Nat.zero_add] at this
  have SF : ∀ (W : World) (ad : Addr) (F : Nat) (cs : Array Value) (m : Mode), (store ad (.func (.func F) #[] cs) m).run Try.prog W = stored Try.prog W ad (.func (.func F) #[] cs) m := fun W ad F cs m => run_store _ W ad _ m rfl
  clear hin hok hos hfit hl hf0 hf1 RZ
  have hsq : Hid (FL.srch xs fs (fn : Int) = FL.srch xs fs (fn : Int)) := rfl
  go_enter Try.func63, Try.ntmps63
  go_wp2_with (refine MA.alloc_z rfl 88 rfl _ _ Try.infoR ?_; simp only [MA.sz_alloc])
  have hb0 : FL.RS w (((w.alloc (.cells FL.nils.toArray 88)).alloc (.cells (FL.nils.set fn (.func (.func 79) #[] #[])).toArray 88)).alloc (.cells #[.slice none 0 0] 107)) w.heap.size (FL.start (fn : Int)) [] (FL.putF (fun _ => .nilFunc) fn (.func (.func 79) #[] #[])) := HN.out
  generalize ((w.alloc (.cells FL.nils.toArray 88)).alloc (.cells (FL.nils.set fn (.func (.func 79) #[] #[])).toArray 88)).alloc (.cells #[.slice none 0 0] 107) = W0 at *
  clear q1 z1 HN
  refine Calls.mono (put_any (w.heap.size + 2) (w.heap.size + 3) [] (fn : Int) W0 hb0.q (by simp) hb0.sz (by omega)) ?_
  rintro e w1 ⟨rfl, hq1, hk1⟩
  have hR1 := hb0.kp hk1 hq1
  clear hb0 hq1 hk1
  generalize FL.putF (fun _ => .nilFunc) fn (.func (.func 79) #[] #[]) = vf0 at *
  have HR1 : Hid (FL.RS w w1 w.heap.size (FL.start (fn : Int)) [(fn : Int)] vf0) := hR1
  clear hR1
  go_wp2_with fail
  refine Calls.mono (takeCons_any (w.heap.size + 2) (w.heap.size + 3) (fn : Int) [] w1 HR1.out.q (by simp)) ?_
  rintro e w2 ⟨rfl, hq2, hk2⟩
  have HL2 : Hid (FL.Lp w w2 w.heap.size xs fs (fn : Int) (.int .i64 (fn : Int)) (.bool true) 0 vf0) := ⟨.inl ⟨Nat.zero_lt_one, rfl, rfl, HR1.out.kp hk2 hq2⟩⟩
  clear HR1 hq2 hk2
  go_wp2
  go_loopw [9, 10] (fun nv ov wo => ∃ i vf, FL.Lp w wo w.heap.size xs fs (fn : Int) nv ov i vf) (fun _ ov wo => FL.mR w.heap.size ov wo)
  case atStart => exact ⟨0, vf0, HL2.out⟩
  case round =>
    clear HL2
    obtain ⟨i, vf, hLp⟩ := hrel
    have HMU : Hid _ := FL.Lp.mr (TR.out i) hLp
    rcases hLp.is with ⟨hi, rfl, rfl, hR⟩ | ⟨hi, rfl, rfl, hR⟩
    · clear hLp
      have SCi : Hid _ := SC.out i hi
      have TRi := TR.out i
      have hS8 := TRi.short
      have hNX : Hid (FL.at8 xs fs (fn : Int) (i + 1) = FL.scan xs fs ((FL.at8 xs fs (fn : Int) i).q.getD i 0) (FL.at8 xs fs (fn : Int) i) xs.length) := by show _ = _; rw [FL.at8, if_pos hi]
      have TRn : Hid (FL.Tree xs fs (fn : Int) (FL.at8 xs fs (fn : Int) (i + 1))) := TR.out (i + 1)
      obtain ⟨n0, n7, nr⟩ := TRi.inq i hi
      have HQL : Hid (i < (FL.at8 xs fs (fn : Int) i).q.length) := hi
      have HR : Hid _ := hR
      clear hR TRi nr hi
      generalize FL.at8 xs fs (fn : Int) i = s0 at *
      generalize hnn : s0.q.getD i 0 = n at *
      have HNN : Hid _ := hnn
      clear hnn
      obtain ⟨nn, rfl⟩ := Int.eq_ofNat_of_zero_le n0
      have nn8 : (nn : Int) < 8 := by omega
      have hn8 : nn < 8 := by omega
      clear n7
      have HS8 : Hid _ := hS8
      clear hS8
      go_wp2
      go_loopw [31] (fun kv wi => ∃ (k : Nat) (vf : Nat → Value), kv = .int .i64 k ∧ k ≤ xs.length ∧ FL.RS w wi w.heap.size (FL.scan xs fs (nn : Int) s0 k) ((FL.scan xs fs (nn : Int) s0 k).q.drop (i + 1)) vf) (fun kv _ => (xs.length - intOf kv).toNat)
      case atStart => exact ⟨0, vf, rfl, by omega, HR.out⟩
      case round =>
        clear HR
        obtain ⟨k, vf, rfl, hk, hS⟩ := hrel
        by_cases hlk : k < xs.length
        · have Sc := SCi.out k hk
          have hl8 : (FL.scan xs fs (nn : Int) s0 k).by_.length = 8 := Sc.tree.len
          have hqs := Sc.tree.short
          have hmore := (Sc.more i HQL.out).1
          have hkeep := Sc.keep
          rw [Int.toNat_natCast] at hkeep
          have G := GC.out k hlk
          have F := GF.out k hlk
          have hE0 : FL.scan xs fs (nn : Int) s0 (k + 1) = FL.step xs fs (nn : Int) (FL.scan xs fs (nn : Int) s0 k) k := rfl
          have EN : Hid (FL.goes xs fs (FL.scan xs fs (nn : Int) s0 k) (nn : Int) k = false → FL.scan xs fs (nn : Int) s0 (k + 1) = FL.scan xs fs (nn : Int) s0 k) := fun h => by rw [hE0]; unfold FL.step; rw [if_neg (by rw [h]; decide)]
          have EY : Hid (FL.goes xs fs (FL.scan xs fs (nn : Int) s0 k) (nn : Int) k = true → FL.scan xs fs (nn : Int) s0 (k + 1) = FL.stepd xs fs (nn : Int) (FL.scan xs fs (nn : Int) s0 k) k) := fun h => by rw [hE0]; unfold FL.step; rw [if_pos h]
          clear hE0
          obtain ⟨b4, off4, rfl, hlt4, e0, e1, e2⟩ := (HI.out.below hS.bl).at hlk
          obtain ⟨b5, off5, rfl, hlt5, d0⟩ := M4.IntsAt.at (M4.IntsAt.below HO.out hS.bl) (k := k) (by rw [HL.out]; exact hlk)
          have NW : Hid (0 < FL.rm (MI3.at_ xs k) (fs.getD k 0) (nn : Int) → 0 ≤ FL.nx (MI3.at_ xs k) (nn : Int) ∧ FL.nx (MI3.at_ xs k) (nn : Int) ≤ 7) := fun h => ⟨(FL.nx_within G h).1, (FL.nx_within G h).2.1⟩
          have SFM : Hid (∀ W : World, Calls Try.prog 82 #[(MI3.at_ xs k).v, .int .i64 (nn : Int), .int .i64 (k : Int), .int .i64 (fs.getD k 0)] W fun e w' => e = .returned (.tuple #[(FL.sv (MI3.at_ xs k) (fs.getD k 0) (nn : Int) k).v, .bool (decide (0 < FL.rm (MI3.at_ xs k) (fs.getD k 0) (nn : Int)))]) ∧ Below W.heap.size W w') := fun W => stepFrom_any _ _ _ k W G F.1 (by have := G.c1; omega)
          have SVI : Hid (0 < FL.rm (MI3.at_ xs k) (fs.getD k 0) (nn : Int) → FL.sv (MI3.at_ xs k) (fs.getD k 0) (nn : Int) k = FL.stp xs fs (nn : Int) k) := fun h => FL.sv_is h
          have hgo : Hid (FL.goes xs fs (FL.scan xs fs (nn : Int) s0 k) (nn : Int) k = (decide (0 < FL.rm (MI3.at_ xs k) (fs.getD k 0) (nn : Int)) && decide ((FL.scan xs fs (nn : Int) s0 k).by_.getD (FL.nx (MI3.at_ xs k) (nn : Int)).toNat 0 = -1))) := rfl
          have SDD : Hid ((FL.nx (MI3.at_ xs k) (nn : Int)).toNat < 8 → FL.Sd (FL.scan xs fs (nn : Int) s0 k) (FL.stepd xs fs (nn : Int) (FL.scan xs fs (nn : Int) s0 k) k) nn (FL.nx (MI3.at_ xs k) (nn : Int)).toNat (FL.nx (MI3.at_ xs k) (nn : Int)) (FL.stp xs fs (nn : Int) k)) := fun h => FL.sd_of hl8 h
          have hto : Hid ((FL.stp xs fs (nn : Int) k).to = FL.nx (MI3.at_ xs k) (nn : Int)) := rfl
          have hSA := hS.below ((Below.refl _ wr).alloc (Nat.le_refl _) (.cells #[.int .i64 (MI3.at_ xs k).a0, .int .i64 (MI3.at_ xs k).a1, .int .i64 (MI3.at_ xs k).a2] 68))
          have HS : Hid _ := hSA
          have hwB : w.heap.size + 3 ≤ wr.heap.size := hS.sz
          clear hS hSA Sc G F GC GF HI HO SCi
          generalize hs1 : FL.scan xs fs (nn : Int) s0 k = s1 at *
          clear hs1
          generalize hx : MI3.at_ xs k = x at *
          generalize hy : fs.getD k 0 = y at *
          clear hx hy
          obtain ⟨x0, x1, x2⟩ := x
          simp only at e0 e1 e2 HS
          generalize FL.rm ⟨x0, x1, x2⟩ y (nn : Int) = r at *
          generalize FL.nx ⟨x0, x1, x2⟩ (nn : Int) = t at *
          generalize FL.sv ⟨x0, x1, x2⟩ y (nn : Int) k = sv at *
          obtain ⟨sk, sb, st, sr⟩ := sv
          have SFN : Hid (∀ W : World, Calls Try.prog 82 #[.agg #[.int .i64 x0, .int .i64 x1, .int .i64 x2], .int .i64 (nn : Int), .int .i64 (k : Int), .int .i64 y] W fun e w' => e = .returned (.tuple #[.agg #[.int .i64 (sk : Int), .bool sb, .int .i64 st, .int .i64 sr], .bool (decide (0 < r))]) ∧ Below W.heap.size W w') := SFM
          clear SFM
          have q2 : (wr.alloc (.cells #[.int .i64 x0, .int .i64 x1, .int .i64 x2] 68)).cell? ⟨b5, off5 + k, none⟩ = some (.int .i64 y) := by rw [World.cell?_alloc_lt _ _ _ hlt5]; exact d0
          have f0 : (wr.alloc (.cells #[.int .i64 x0, .int .i64 x1, .int .i64 x2] 68)).cell? ⟨wr.heap.size, 0, none⟩ = some (.int .i64 x0) := by simp
          have f1 : (wr.alloc (.cells #[.int .i64 x0, .int .i64 x1, .int .i64 x2] 68)).cell? ⟨wr.heap.size, 1, none⟩ = some (.int .i64 x1) := by simp
          have f2 : (wr.alloc (.cells #[.int .i64 x0, .int .i64 x1, .int .i64 x2] 68)).cell? ⟨wr.heap.size, 2, none⟩ = some (.int .i64 x2) := by simp
          have z0 : wr.heap.size < (wr.alloc (.cells #[.int .i64 x0, .int .i64 x1, .int .i64 x2] 68)).heap.size := by simp
          have z2 : b5 < (wr.alloc (.cells #[.int .i64 x0, .int .i64 x1, .int .i64 x2] 68)).heap.size := by simp; omega
          have Q2 : Hid _ := q2
          have F0 : Hid _ := f0
          have F1 : Hid _ := f1
          have F2 : Hid _ := f2
          have Z0 : Hid _ := z0
          have Z2 : Hid _ := z2
          have HHK : Hid _ := hkeep
          have HHM : Hid _ := hmore
          have HHQ : Hid _ := hqs
          have HH8 : Hid _ := hl8
          clear q2 f0 f1 f2 z0 z2 hkeep hmore hqs hl8
          go_wp2_with fail
          clear e0 e1 e2 d0 hlt4 hlt5
          generalize hW1 : wr.alloc (.cells #[.int .i64 x0, .int .i64 x1, .int .i64 x2] 68) = W1 at *
          clear hW1
          generalize wr.heap.size = q at *
          have q2 := Q2.out
          have f0' := F0.out
          have f1' := F1.out
          have f2' := F2.out
          have kk0 : (0 : Int) ≤ (k : Int) := by omega
          have kkx : (k : Int) < (xs.length : Int) := by omega
          have z0 := Z0.out
          have z2 := Z2.out
          clear Q2 F0 F1 F2 Z0 Z2
          refine MR.frame fun A hA => ?_
          have hsz : A.tmps.size = 68 := by rw [hA]; rfl
          have e12 : A.eval (.tmp 12) = .pointer (some ⟨q, 0, none⟩) := by rw [hA]; rfl
          have f12 := MR.read (t := 12) (by rw [hsz]; decide) e12
          have e9 : A.eval (.tmp 9) = .int .i64 (nn : Int) := by rw [hA]; rfl
          have f9 := MR.read (t := 9) (by rw [hsz]; decide) e9
          have e11 : A.eval (.tmp 11) = .int .i64 (k : Int) := by rw [hA]; rfl
          have f11 := MR.read (t := 11) (by rw [hsz]; decide) e11
          have e2 : A.eval (.tmp 2) = .slice (some ⟨b5, off5, none⟩) xs.length cb := by rw [hA]; rfl
          have f2 := MR.read (t := 2) (by rw [hsz]; decide) e2
          have HA : Hid (A = _) := hA
          clear hA
          refine MR.cut (fun aa w' => ∃ p, aa = (((((((((((((A.put (some 37) (.agg #[.int .i64 x0, .int .i64 x1, .int .i64 x2])).put (some 38) (.int .i64 (nn : Int))).put (some 39) (.int .i64 (k : Int))).put (some 40) (.slice (some ⟨b5, off5, none⟩) xs.length cb)).put (some 41) (.int .i64 (k : Int))).put (some 42) (.pointer (some ⟨b5, off5 + k, none⟩))).put (some 43) (.int .i64 y)).put (some 44) (.tuple #[.agg #[.int .i64 (sk : Int), .bool sb, .int .i64 st, .int .i64 sr], .bool (decide (0 < r))])).put (some 36) (.tuple #[.agg #[.int .i64 (sk : Int), .bool sb, .int .i64 st, .int .i64 sr], .bool (decide (0 < r))])).put (some 45) (.agg #[.int .i64 (sk : Int), .bool sb, .int .i64 st, .int .i64 sr])).put (some 46) (.bool (decide (0 < r)))).put (some 13) (.pointer (some ⟨p, 0, none⟩))).put (some 14) (.bool (decide (0 < r)))) ∧ Hid (Below W1.heap.size W1 w' ∧ W1.heap.size ≤ p ∧ MA.Rg w' p 0 [.int .i64 (sk : Int), .bool sb, .int .i64 st, .int .i64 sr])) ?_ ?_
          · have hS : (fun w' : World => Below W1.heap.size W1 w') (World.drew _) := ((Below.refl _ W1).drew)
            refine wp_region_held (S := fun w' : World => Below W1.heap.size W1 w') (by kernel_rfl) ?_
            change wpAnyH _ _ _ _ _ _ _ _ (World.drew _)
            refine MR.takeH (i := 0) (some 37) ((.agg #[.int .i64 x0, .int .i64 x1, .int .i64 x2])) rfl rfl (by kernel_rfl) (by kernel_rfl) (by kernel_rfl) nofun hS (MR.free rfl) (fun wq hw => by simp [execOp, MR.ev, MR.size, hsz, e12, f12, e9, f9, e11, f11, e2, f2, (hw.cell (p := ⟨q, 0, none⟩) z0).trans f0', (hw.cell (p := ⟨q, 1, none⟩) z0).trans f1', (hw.cell (p := ⟨q, 2, none⟩) z0).trans f2', go_sem]) ?_
            refine MR.takeH (i := 1) (some 38) (.int .i64 (nn : Int)) rfl rfl (by kernel_rfl) (by kernel_rfl) (by kernel_rfl) nofun hS (MR.free rfl) (fun wq hw => by simp [execOp, MR.ev, MR.size, hsz, e12, f12, e9, f9, e11, f11, e2, f2, go_sem]) ?_
            refine MR.takeH (i := 2) (some 39) (.int .i64 (k : Int)) rfl rfl (by kernel_rfl) (by kernel_rfl) (by kernel_rfl) nofun hS (MR.free rfl) (fun wq hw => by simp [execOp, MR.ev, MR.size, hsz, e12, f12, e9, f9, e11, f11, e2, f2, go_sem]) ?_
            refine MR.takeH (i := 3) (some 40) ((.slice (some ⟨b5, off5, none⟩) xs.length cb)) rfl rfl (by kernel_rfl) (by kernel_rfl) (by kernel_rfl) nofun hS (MR.free rfl) (fun wq hw => by simp [execOp, MR.ev, MR.size, hsz, e12, f12, e9, f9, e11, f11, e2, f2, go_sem]) ?_
            refine MR.takeH (i := 4) (some 41) (.int .i64 (k : Int)) rfl rfl (by kernel_rfl) (by kernel_rfl) (by kernel_rfl) nofun hS (MR.free rfl) (fun wq hw => by simp [execOp, MR.ev, MR.size, hsz, e12, f12, e9, f9, e11, f11, e2, f2, go_sem]) ?_
            refine MR.takeH (i := 5) (some 42) (.pointer (some ⟨b5, off5 + k, none⟩)) rfl rfl (by kernel_rfl) (by kernel_rfl) (by kernel_rfl) nofun hS (MR.free rfl) (fun wq hw => by simp [execOp, MR.ev, MR.size, hsz, e12, f12, e9, f9, e11, f11, e2, f2, kk0, kkx, hlk, go_sem]) ?_
            refine MR.takeH (i := 6) (some 43) (.int .i64 y) rfl rfl (by kernel_rfl) (by kernel_rfl) (by kernel_rfl) nofun hS (MR.free rfl) (fun wq hw => by simp [execOp, MR.ev, MR.size, hsz, e12, f12, e9, f9, e11, f11, e2, f2, (hw.cell (p := ⟨b5, off5 + k, none⟩) z2).trans q2, go_sem]) ?_
            generalize hwd : World.drew W1 = v0 at hS ⊢
            clear hwd
            refine MR.two (i := 7) (j := 11) (by kernel_rfl) ?_ ?_
            · skip
              refine MR.callW (some 44) (82) (#[(.agg #[.int .i64 x0, .int .i64 x1, .int .i64 x2]), .int .i64 (nn : Int), .int .i64 (k : Int), .int .i64 y]) rfl rfl (MR.free rfl) (by simp [execOp, MR.ev, MR.size, hsz, e12, f12, e9, f9, e11, f11, e2, f2, go_sem]) ?_
              refine Calls.mono (SFN.out _) ?_
              rintro e v1 ⟨rfl, hb⟩
              have hSv1 : Below W1.heap.size W1 v1 := hS.trans (hb.mono hS.size)
              clear hb
              refine ⟨_, rfl, hSv1, ?_⟩
              refine MR.takeH (i := 8) (some 36) ((.tuple #[.agg #[.int .i64 (sk : Int), .bool sb, .int .i64 st, .int .i64 sr], .bool (decide (0 < r))])) rfl rfl (by kernel_rfl) (by kernel_rfl) (by kernel_rfl) nofun hSv1 (MR.free rfl) (fun wq hw => by simp [execOp, MR.ev, MR.size, hsz, e12, f12, e9, f9, e11, f11, e2, f2, go_sem]) ?_
              refine MR.takeH (i := 9) (some 45) ((.agg #[.int .i64 (sk : Int), .bool sb, .int .i64 st, .int .i64 sr])) rfl rfl (by kernel_rfl) (by kernel_rfl) (by kernel_rfl) nofun hSv1 (MR.free rfl) (fun wq hw => by simp [execOp, MR.ev, MR.size, hsz, e12, f12, e9, f9, e11, f11, e2, f2, go_sem]) ?_
              refine MR.takeH (i := 10) (some 46) (.bool (decide (0 < r))) rfl rfl (by kernel_rfl) (by kernel_rfl) (by kernel_rfl) nofun hSv1 (MR.free rfl) (fun wq hw => by simp [execOp, MR.ev, MR.size, hsz, e12, f12, e9, f9, e11, f11, e2, f2, go_sem]) ?_
              refine MR.nowH (i := 11) (some 13) (.pointer (some ⟨v1.heap.size, 0, none⟩)) (by kernel_rfl) rfl rfl (MR.free rfl) (MR.ex_alloc _ rfl [.int .i64 0, .bool false, .int .i64 0, .int .i64 0] 4 Try.infoST) ?_
              have hb : Below v1.heap.size v1 (v1.alloc (.cells #[.int .i64 0, .bool false, .int .i64 0, .int .i64 0] 111)) := (Below.refl _ v1).alloc (Nat.le_refl _) _
              have hSv2 := hSv1.trans (hb.mono hSv1.size)
              have hq : MA.Rg (v1.alloc (.cells #[.int .i64 0, .bool false, .int .i64 0, .int .i64 0] 111)) v1.heap.size 0 [.int .i64 0, .bool false, .int .i64 0, .int .i64 0] := MA.Rg.new _ _ _
              have hq0 : W1.heap.size ≤ v1.heap.size := hSv1.size
              refine ⟨hSv2, ?_⟩
              clear hb
              generalize v1.alloc (.cells #[.int .i64 0, .bool false, .int .i64 0, .int .i64 0] 111) = v2 at *
              generalize hqe : v1.heap.size = p at hq hq0 ⊢
              have hSz : Below W1.heap.size W1 (v2.setCells p 0 [.int .i64 (sk : Int), .bool sb, .int .i64 st, .int .i64 sr]) := MA.below_cells hq0 _ _ _ hSv2
              refine MR.storeH (i := 12) (by kernel_rfl) rfl (MR.free rfl) (MA.ex_store (vs := [.int .i64 (sk : Int), .bool sb, .int .i64 st, .int .i64 sr]) rfl (by simp [MR.ev, MR.size, hsz, e12, f12, e9, f9, e11, f11, e2, f2]) (by simp [MR.ev, MR.size, hsz, e12, f12, e9, f9, e11, f11, e2, f2]) hq.ok Try.sizeST rfl (by simp [Value.oneCell'])) ⟨hSz, ?_⟩
              refine MR.takeH (i := 13) (some 14) (.bool (decide (0 < r))) rfl rfl (by kernel_rfl) (by kernel_rfl) (by kernel_rfl) nofun hSz (MR.free rfl) (fun wq hw => by simp [execOp, MR.ev, MR.size, hsz, e12, f12, e9, f9, e11, f11, e2, f2, go_sem]) ?_
              refine wpAnyH_done (by kernel_rfl) ⟨rfl, p, ?_, ⟨hSz, hq0, hq.put rfl⟩⟩ _
              rw [HA.out]
              simp only [Act.put, List.setIfInBounds_toArray, List.set_cons_succ, List.set_cons_zero]
              try rfl
            · skip
              refine MR.nowW (some 13) (.pointer (some ⟨v0.heap.size, 0, none⟩)) rfl rfl (MR.free rfl) (MR.ex_alloc _ rfl [.int .i64 0, .bool false, .int .i64 0, .int .i64 0] 4 Try.infoST) ?_
              have hb : Below v0.heap.size v0 (v0.alloc (.cells #[.int .i64 0, .bool false, .int .i64 0, .int .i64 0] 111)) := (Below.refl _ v0).alloc (Nat.le_refl _) _
              have hSv1 := hS.trans (hb.mono hS.size)
              have hq : MA.Rg (v0.alloc (.cells #[.int .i64 0, .bool false, .int .i64 0, .int .i64 0] 111)) v0.heap.size 0 [.int .i64 0, .bool false, .int .i64 0, .int .i64 0] := MA.Rg.new _ _ _
              have hq0 : W1.heap.size ≤ v0.heap.size := hS.size
              refine ⟨hSv1, ?_⟩
              clear hb
              generalize v0.alloc (.cells #[.int .i64 0, .bool false, .int .i64 0, .int .i64 0] 111) = v1 at *
              generalize hqe : v0.heap.size = p at hq hq0 ⊢
              refine MR.callH (i := 7) (some 44) (82) (#[(.agg #[.int .i64 x0, .int .i64 x1, .int .i64 x2]), .int .i64 (nn : Int), .int .i64 (k : Int), .int .i64 y]) (by kernel_rfl) rfl rfl (MR.free rfl) (by simp [execOp, MR.ev, MR.size, hsz, e12, f12, e9, f9, e11, f11, e2, f2, go_sem]) ?_
              refine Calls.mono (SFN.out _) ?_
              rintro e v2 ⟨rfl, hb⟩
              have hSv2 : Below W1.heap.size W1 v2 := hSv1.trans (hb.mono hSv1.size)
              replace hq := hq.below hb hq.lt
              clear hb
              refine ⟨_, rfl, hSv2, ?_⟩
              refine MR.takeH (i := 8) (some 36) ((.tuple #[.agg #[.int .i64 (sk : Int), .bool sb, .int .i64 st, .int .i64 sr], .bool (decide (0 < r))])) rfl rfl (by kernel_rfl) (by kernel_rfl) (by kernel_rfl) nofun hSv2 (MR.free rfl) (fun wq hw => by simp [execOp, MR.ev, MR.size, hsz, e12, f12, e9, f9, e11, f11, e2, f2, go_sem]) ?_
              refine MR.takeH (i := 9) (some 45) ((.agg #[.int .i64 (sk : Int), .bool sb, .int .i64 st, .int .i64 sr])) rfl rfl (by kernel_rfl) (by kernel_rfl) (by kernel_rfl) nofun hSv2 (MR.free rfl) (fun wq hw => by simp [execOp, MR.ev, MR.size, hsz, e12, f12, e9, f9, e11, f11, e2, f2, go_sem]) ?_
              refine MR.takeH (i := 10) (some 46) (.bool (decide (0 < r))) rfl rfl (by kernel_rfl) (by kernel_rfl) (by kernel_rfl) nofun hSv2 (MR.free rfl) (fun wq hw => by simp [execOp, MR.ev, MR.size, hsz, e12, f12, e9, f9, e11, f11, e2, f2, go_sem]) ?_
              have hSz : Below W1.heap.size W1 (v2.setCells p 0 [.int .i64 (sk : Int), .bool sb, .int .i64 st, .int .i64 sr]) := MA.below_cells hq0 _ _ _ hSv2
              refine MR.storeH (i := 12) (by kernel_rfl) rfl (MR.free rfl) (MA.ex_store (vs := [.int .i64 (sk : Int), .bool sb, .int .i64 st, .int .i64 sr]) rfl (by simp [MR.ev, MR.size, hsz, e12, f12, e9, f9, e11, f11, e2, f2]) (by simp [MR.ev, MR.size, hsz, e12, f12, e9, f9, e11, f11, e2, f2]) hq.ok Try.sizeST rfl (by simp [Value.oneCell'])) ⟨hSz, ?_⟩
              refine MR.takeH (i := 13) (some 14) (.bool (decide (0 < r))) rfl rfl (by kernel_rfl) (by kernel_rfl) (by kernel_rfl) nofun hSz (MR.free rfl) (fun wq hw => by simp [execOp, MR.ev, MR.size, hsz, e12, f12, e9, f9, e11, f11, e2, f2, go_sem]) ?_
              refine wpAnyH_done (by kernel_rfl) ⟨rfl, p, ?_, ⟨hSz, hq0, hq.put rfl⟩⟩ _
              rw [HA.out]
              simp only [Act.put, List.setIfInBounds_toArray, List.set_cons_succ, List.set_cons_zero]
              try rfl
          rintro aa w4 ⟨p, rfl, hf⟩
          rw [HA.out]
          obtain ⟨hb4, hp0, hp⟩ := hf.out
          have HS4 : Hid _ := HS.out.below hb4
          have hpB : w.heap.size + 3 ≤ p := by omega
          clear hf HA e12 f12 e9 f9 e11 f11 e2 f2 hsz q2 f0' f1' f2' z0 z2 SFN HS hb4 hp0
          simp only [Act.put, List.setIfInBounds_toArray, List.set_cons_succ, List.set_cons_zero]
          by_cases hr : 0 < r
          · have hE := SVI.out hr
            have hst : st = t := by have h9 := hto.out; rw [← hE] at h9; exact h9
            subst hst
            obtain ⟨t0, t7⟩ := NW.out hr
            obtain ⟨tn, rfl⟩ := Int.eq_ofNat_of_zero_le t0
            have ht8 : tn < 8 := by omega
            have tt8 : (tn : Int) < 8 := by omega
            rw [Int.toNat_natCast] at hgo SDD
            have EQN := eqNil8
            have EQF := eqFun8
            have hgo1 := hgo.out
            rw [decide_eq_true hr, Bool.true_and] at hgo1
            have HGO : Hid _ := hgo1
            have HE : Hid _ := hE
            have hdr : decide (0 < r) = true := decide_eq_true hr
            rw [hdr]
            clear hgo1 hgo NW hto SVI hE hdr t0 t7
            have p2 : w4.cell? ⟨p, 2, none⟩ = some (.int .i64 (tn : Int)) := by have := hp.cell (j := 2) (v := .int .i64 (tn : Int)) rfl; rwa [Nat.zero_add] at this
            have pl : p < w4.heap.size := hp.lt
            have rt : w4.cell? ⟨w.heap.size + 1, tn, none⟩ = some (vf tn) := by have := HS4.out.rows.cell (FL.vl_get vf ht8); rwa [Nat.zero_add] at this
            have hw4 : w.heap.size + 1 < w4.heap.size := by have := HS4.out.sz; omega
            rcases HS4.out.fn tn ht8 with ⟨hby, hvf⟩ | ⟨hby, F, cs, hvf, hRF⟩
            · rw [hvf] at rt
              have hY := EY.out (by rw [HGO.out, hby]; rfl)
              have HY : Hid _ := hY
              clear EY EN HGO hY
              have hnt : nn ≠ tn := fun e => HHK.out (by rw [e]; exact hby)
              have SD : Hid (FL.Sd s1 (FL.stepd xs fs (nn : Int) s1 k) nn tn (tn : Int) (FL.stp xs fs (nn : Int) k)) := SDD.out ht8
              obtain ⟨F, cs, hvn, hRFn⟩ : ∃ F cs, vf nn = .func (.func F) #[] cs ∧ FL.RowF (w.heap.size + 3) w4 F cs (s1.L nn) := by
                rcases HS4.out.fn nn hn8 with ⟨h1, _⟩ | ⟨_, F, cs, h2, h3⟩
                · exact absurd h1 HHK.out
                · exact ⟨F, cs, h2, h3⟩
              have rn : w4.cell? ⟨w.heap.size + 1, nn, none⟩ = some (.func (.func F) #[] cs) := by have := HS4.out.rows.cell (FL.vl_get vf hn8); rw [hvn] at this; rwa [Nat.zero_add] at this
              have p0 : w4.cell? ⟨p, 0, none⟩ = some (.int .i64 (sk : Int)) := by have := hp.cell (j := 0) (v := .int .i64 (sk : Int)) rfl; rwa [Nat.zero_add] at this
              have p1 : w4.cell? ⟨p, 1, none⟩ = some (.bool sb) := by have := hp.cell (j := 1) (v := .bool sb) rfl; rwa [Nat.zero_add] at this
              have p3 : w4.cell? ⟨p, 3, none⟩ = some (.int .i64 sr) := by have := hp.cell (j := 3) (v := .int .i64 sr) rfl; rwa [Nat.zero_add] at this
              have zt : w4.frozen? ⟨w.heap.size + 1, tn, none⟩ = false := by have := HS4.out.rows.free (j := tn) (by rw [FL.vl_len]; exact ht8); rwa [Nat.zero_add] at this
              have HRF : Hid _ := hRFn
              clear hRFn hvn SDD
              go_wp2_with fail
              refine MR.frame fun A hA => ?_
              have hsz : A.tmps.size = 68 := by rw [hA]; rfl
              have e13 : A.eval (.tmp 13) = .pointer (some ⟨p, 0, none⟩) := by rw [hA]; rfl
              have f13 := MR.read (t := 13) (by rw [hsz]; decide) e13
              have e9 : A.eval (.tmp 9) = .int .i64 (nn : Int) := by rw [hA]; rfl
              have f9 := MR.read (t := 9) (by rw [hsz]; decide) e9
              have e7 : A.eval (.tmp 7) = .pointer (some ⟨w.heap.size + 1, 0, none⟩) := by rw [hA]; rfl
              have f7 := MR.read (t := 7) (by rw [hsz]; decide) e7
              have HA : Hid (A = _) := hA
              clear hA
              refine MR.cut (fun aa w' => ∃ v0 : World, aa = ((((((((A.put (some 55) (.pointer (some ⟨p, 2, none⟩))).put (some 56) (.int .i64 (tn : Int))).put (some 57) (.int .i64 (nn : Int))).put (some 58) (.pointer (some ⟨w.heap.size + 1, nn, none⟩))).put (some 59) (.func (.func F) #[] cs)).put (some 60) (.agg #[.int .i64 (sk : Int), .bool sb, .int .i64 (tn : Int), .int .i64 sr])).put (some 61) (.func (.func 93) #[] #[.pointer (some ⟨v0.heap.size, 0, none⟩), .pointer (some ⟨v0.heap.size + 1, 0, none⟩)])).put (some 62) (.pointer (some ⟨w.heap.size + 1, tn, none⟩))) ∧ Hid (Below w4.heap.size w4 v0 ∧ w' = (((v0.alloc (.cells #[.func (.func F) #[] cs] 87)).alloc (.cells #[.int .i64 (sk : Int), .bool sb, .int .i64 (tn : Int), .int .i64 sr] 111)).setCell ⟨w.heap.size + 1, tn, none⟩ (.func (.func 93) #[] #[.pointer (some ⟨v0.heap.size, 0, none⟩), .pointer (some ⟨v0.heap.size + 1, 0, none⟩)])))) ?_ ?_
              · have hS : (fun w' : World => w'.cell? ⟨p, 0, none⟩ = some (.int .i64 (sk : Int)) ∧ w'.cell? ⟨p, 1, none⟩ = some (.bool sb) ∧ w'.cell? ⟨p, 2, none⟩ = some (.int .i64 (tn : Int)) ∧ w'.cell? ⟨p, 3, none⟩ = some (.int .i64 sr) ∧ w'.cell? ⟨w.heap.size + 1, nn, none⟩ = some (.func (.func F) #[] cs)) (World.drew w4) := ⟨p0, p1, p2, p3, rn⟩
                have hSb : Below w4.heap.size w4 (World.drew w4) := ((Below.refl _ w4).drew)
                refine wp_region_held (S := fun w' : World => w'.cell? ⟨p, 0, none⟩ = some (.int .i64 (sk : Int)) ∧ w'.cell? ⟨p, 1, none⟩ = some (.bool sb) ∧ w'.cell? ⟨p, 2, none⟩ = some (.int .i64 (tn : Int)) ∧ w'.cell? ⟨p, 3, none⟩ = some (.int .i64 sr) ∧ w'.cell? ⟨w.heap.size + 1, nn, none⟩ = some (.func (.func F) #[] cs)) (by kernel_rfl) ?_
                change wpAnyH _ _ _ _ _ _ _ _ (World.drew _)
                refine MR.takeH (i := 0) (some 55) (.pointer (some ⟨p, 2, none⟩)) rfl rfl (by kernel_rfl) (by kernel_rfl) (by kernel_rfl) nofun hS (MR.free rfl) (fun wq hw => by simp [execOp, MR.ev, MR.size, hsz, e13, f13, e9, f9, e7, f7, go_sem]) ?_
                refine MR.takeH (i := 1) (some 56) (.int .i64 (tn : Int)) rfl rfl (by kernel_rfl) (by kernel_rfl) (by kernel_rfl) nofun hS (MR.free rfl) (fun wq hw => by simp [execOp, MR.ev, MR.size, hsz, e13, f13, e9, f9, e7, f7, hw.2.2.1, go_sem]) ?_
                refine MR.takeH (i := 2) (some 57) (.int .i64 (nn : Int)) rfl rfl (by kernel_rfl) (by kernel_rfl) (by kernel_rfl) nofun hS (MR.free rfl) (fun wq hw => by simp [execOp, MR.ev, MR.size, hsz, e13, f13, e9, f9, e7, f7, go_sem]) ?_
                refine MR.takeH (i := 3) (some 58) (.pointer (some ⟨w.heap.size + 1, nn, none⟩)) rfl rfl (by kernel_rfl) (by kernel_rfl) (by kernel_rfl) nofun hS (MR.free rfl) (fun wq hw => by simp [execOp, MR.ev, MR.size, hsz, e13, f13, e9, f9, e7, f7, nn8, hn8, go_sem]) ?_
                refine MR.takeH (i := 4) (some 59) (.func (.func F) #[] cs) rfl rfl (by kernel_rfl) (by kernel_rfl) (by kernel_rfl) nofun hS (MR.free rfl) (fun wq hw => by simp [execOp, MR.ev, MR.size, hsz, e13, f13, e9, f9, e7, f7, hw.2.2.2.2, go_sem]) ?_
                refine MR.takeH (i := 5) (some 60) ((.agg #[.int .i64 (sk : Int), .bool sb, .int .i64 (tn : Int), .int .i64 sr])) rfl rfl (by kernel_rfl) (by kernel_rfl) (by kernel_rfl) nofun hS (MR.free rfl) (fun wq hw => by simp [execOp, MR.ev, MR.size, hsz, e13, f13, e9, f9, e7, f7, hw.1, hw.2.1, hw.2.2.1, hw.2.2.2.1, go_sem]) ?_
                generalize hwd : World.drew w4 = v0 at hS hSb ⊢
                clear hwd
                refine MR.callH (i := 6) (some 61) (83) (#[.func (.func F) #[] cs, (.agg #[.int .i64 (sk : Int), .bool sb, .int .i64 (tn : Int), .int .i64 sr])]) (by kernel_rfl) rfl rfl (MR.free rfl) (by simp [execOp, MR.ev, MR.size, hsz, e13, f13, e9, f9, e7, f7, go_sem]) ?_
                refine Calls.mono (and_any F cs ⟨sk, sb, (tn : Int), sr⟩ v0) ?_
                rintro e v1 ⟨rfl, rfl⟩
                have hA1 : Below v0.heap.size v0 ((v0.alloc (.cells #[.func (.func F) #[] cs] 87)).alloc (.cells #[.int .i64 (sk : Int), .bool sb, .int .i64 (tn : Int), .int .i64 sr] 111)) := ((Below.refl _ v0).alloc (Nat.le_refl _) _).alloc (by simp) _
                have hS1 : Below w4.heap.size w4 ((v0.alloc (.cells #[.func (.func F) #[] cs] 87)).alloc (.cells #[.int .i64 (sk : Int), .bool sb, .int .i64 (tn : Int), .int .i64 sr] 111)) := hSb.trans (hA1.mono hSb.size)
                have tc : ((v0.alloc (.cells #[.func (.func F) #[] cs] 87)).alloc (.cells #[.int .i64 (sk : Int), .bool sb, .int .i64 (tn : Int), .int .i64 sr] 111)).cell? ⟨w.heap.size + 1, tn, none⟩ = some .nilFunc := (hS1.cell (p := ⟨w.heap.size + 1, tn, none⟩) hw4).trans rt
                have tz : ((v0.alloc (.cells #[.func (.func F) #[] cs] 87)).alloc (.cells #[.int .i64 (sk : Int), .bool sb, .int .i64 (tn : Int), .int .i64 sr] 111)).frozen? ⟨w.heap.size + 1, tn, none⟩ = false := (hS1.frozen (p := ⟨w.heap.size + 1, tn, none⟩) hw4).trans zt
                have tl : w.heap.size + 1 < ((v0.alloc (.cells #[.func (.func F) #[] cs] 87)).alloc (.cells #[.int .i64 (sk : Int), .bool sb, .int .i64 (tn : Int), .int .i64 sr] 111)).heap.size := Nat.lt_of_lt_of_le hw4 hS1.size
                have hSC : (fun w' : World => w'.cell? ⟨p, 0, none⟩ = some (.int .i64 (sk : Int)) ∧ w'.cell? ⟨p, 1, none⟩ = some (.bool sb) ∧ w'.cell? ⟨p, 2, none⟩ = some (.int .i64 (tn : Int)) ∧ w'.cell? ⟨p, 3, none⟩ = some (.int .i64 sr) ∧ w'.cell? ⟨w.heap.size + 1, nn, none⟩ = some (.func (.func F) #[] cs)) ((v0.alloc (.cells #[.func (.func F) #[] cs] 87)).alloc (.cells #[.int .i64 (sk : Int), .bool sb, .int .i64 (tn : Int), .int .i64 sr] 111)) := ⟨(hS1.cell (p := ⟨p, 0, none⟩) pl).trans p0, (hS1.cell (p := ⟨p, 1, none⟩) pl).trans p1, (hS1.cell (p := ⟨p, 2, none⟩) pl).trans p2, (hS1.cell (p := ⟨p, 3, none⟩) pl).trans p3, (hS1.cell (p := ⟨w.heap.size + 1, nn, none⟩) hw4).trans rn⟩
                refine ⟨_, rfl, hSC, ?_⟩
                refine MR.takeH (i := 7) (some 62) (.pointer (some ⟨w.heap.size + 1, tn, none⟩)) rfl rfl (by kernel_rfl) (by kernel_rfl) (by kernel_rfl) nofun hSC (MR.free rfl) (fun wq hw => by simp [execOp, MR.ev, MR.size, hsz, e13, f13, e9, f9, e7, f7, tt8, ht8, go_sem]) ?_
                generalize hv2 : ((v0.alloc (.cells #[.func (.func F) #[] cs] 87)).alloc (.cells #[.int .i64 (sk : Int), .bool sb, .int .i64 (tn : Int), .int .i64 sr] 111)) = v2 at hSC tc tz tl ⊢
                have hfar : ∀ j, (v2.setCell ⟨w.heap.size + 1, tn, none⟩ (.func (.func 93) #[] #[.pointer (some ⟨v0.heap.size, 0, none⟩), .pointer (some ⟨v0.heap.size + 1, 0, none⟩)])).cell? ⟨p, j, none⟩ = v2.cell? ⟨p, j, none⟩ := fun j => World.cell?_of_block (a := ⟨p, j, none⟩) (Below.heap_setCell _ _ _ _ (by show p ≠ w.heap.size + 1; omega))
                have hnear : (v2.setCell ⟨w.heap.size + 1, tn, none⟩ (.func (.func 93) #[] #[.pointer (some ⟨v0.heap.size, 0, none⟩), .pointer (some ⟨v0.heap.size + 1, 0, none⟩)])).cell? ⟨w.heap.size + 1, nn, none⟩ = v2.cell? ⟨w.heap.size + 1, nn, none⟩ := World.cell?_setCells_out (w.heap.size + 1) [(.func (.func 93) #[] #[.pointer (some ⟨v0.heap.size, 0, none⟩), .pointer (some ⟨v0.heap.size + 1, 0, none⟩)])] tn v2 ⟨w.heap.size + 1, nn, none⟩ (fun _ _ => by simp; omega)
                have hS2 : (fun w' : World => w'.cell? ⟨p, 0, none⟩ = some (.int .i64 (sk : Int)) ∧ w'.cell? ⟨p, 1, none⟩ = some (.bool sb) ∧ w'.cell? ⟨p, 2, none⟩ = some (.int .i64 (tn : Int)) ∧ w'.cell? ⟨p, 3, none⟩ = some (.int .i64 sr) ∧ w'.cell? ⟨w.heap.size + 1, nn, none⟩ = some (.func (.func F) #[] cs)) (v2.setCell ⟨w.heap.size + 1, tn, none⟩ (.func (.func 93) #[] #[.pointer (some ⟨v0.heap.size, 0, none⟩), .pointer (some ⟨v0.heap.size + 1, 0, none⟩)])) := ⟨(hfar 0).trans hSC.1, (hfar 1).trans hSC.2.1, (hfar 2).trans hSC.2.2.1, (hfar 3).trans hSC.2.2.2.1, hnear.trans hSC.2.2.2.2⟩
                refine MR.storeH (w' := v2.setCell ⟨w.heap.size + 1, tn, none⟩ (.func (.func 93) #[] #[.pointer (some ⟨v0.heap.size, 0, none⟩), .pointer (some ⟨v0.heap.size + 1, 0, none⟩)])) (i := 8) (by kernel_rfl) rfl (MR.free rfl) (by simp [execOp, MR.ev, MR.size, hsz, e13, f13, e9, f9, e7, f7, SF, tc, tz, tl, go_sem]) ⟨hS2, ?_⟩
                refine wpAnyH_done (by kernel_rfl) ⟨rfl, v0, ?_, ⟨hSb, by rw [← hv2]⟩⟩ _
                rw [HA.out]
                simp only [Act.put, List.setIfInBounds_toArray, List.set_cons_succ, List.set_cons_zero]
                try rfl
              rintro aa w5 ⟨v0, rfl, hf⟩
              rw [HA.out]
              obtain ⟨hb5, hw5⟩ := hf.out
              have hA1 : Below v0.heap.size v0 ((v0.alloc (.cells #[.func (.func F) #[] cs] 87)).alloc (.cells #[.int .i64 (sk : Int), .bool sb, .int .i64 (tn : Int), .int .i64 sr] 111)) := ((Below.refl _ v0).alloc (Nat.le_refl _) _).alloc (by simp) _
              have hR0 := (HS4.out.below hb5).below hA1
              have hv0 : w.heap.size + 3 ≤ v0.heap.size := Nat.le_trans HS4.out.sz hb5.size
              have hRF2 : FL.RowF (w.heap.size + 3) ((v0.alloc (.cells #[.func (.func F) #[] cs] 87)).alloc (.cells #[.int .i64 (sk : Int), .bool sb, .int .i64 (tn : Int), .int .i64 sr] 111)) 93 #[.pointer (some ⟨v0.heap.size, 0, none⟩), .pointer (some ⟨v0.heap.size + 1, 0, none⟩)] (s1.L nn ++ [⟨sk, sb, (tn : Int), sr⟩]) := by
                have h1 := HRF.out.keep (W' := (v0.alloc (.cells #[.func (.func F) #[] cs] 87)).alloc (.cells #[.int .i64 (sk : Int), .bool sb, .int .i64 (tn : Int), .int .i64 sr] 111)) (fun k' hk' _ _ => (hA1.block k' (Nat.lt_of_lt_of_le hk' hb5.size)).trans (hb5.block k' hk'))
                refine .and ⟨sk, sb, (tn : Int), sr⟩ h1 hv0 (by omega) ?_ ?_
                · rw [Below.heap_alloc _ _ _ (by simp)]; exact heap_alloc_new _ _
                · rw [show v0.heap.size + 1 = (v0.alloc (.cells #[.func (.func F) #[] cs] 87)).heap.size from by simp]; exact heap_alloc_new _ _
              rw [HE.out, ← SD.out.L1] at hRF2
              have hR2 := hR0.put (s' := FL.stepd xs fs (nn : Int) s1 k) ht8 hRF2 SD.out.B1 (fun m _ hm => ⟨SD.out.B2 m hm, SD.out.L2 m hm⟩)
              rw [Nat.zero_add, ← hw5] at hR2
              generalize FL.putF vf tn _ = vf2 at hR2
              have p2' : w5.cell? ⟨p, 2, none⟩ = some (.int .i64 (tn : Int)) := by
                rw [hw5]
                refine (World.cell?_of_block (a := ⟨p, 2, none⟩) (Below.heap_setCell _ _ _ _ (by show p ≠ w.heap.size + 1; omega))).trans ?_
                exact (hA1.cell (p := ⟨p, 2, none⟩) (Nat.lt_of_lt_of_le pl hb5.size)).trans ((hb5.cell (p := ⟨p, 2, none⟩) pl).trans p2)
              have pl' : p < w5.heap.size := by rw [hw5, FL.set_size]; simp; have := hb5.size; omega
              have HR2 : Hid _ := hR2
              clear hf HA e13 f13 e9 f9 e7 f7 hsz hb5 hw5 hA1 hR0 hRF2 hR2 HRF p0 p1 p2 p3 rn rt zt HS4 hp EQN EQF HE hby pl hw4
              simp only [Act.put, List.setIfInBounds_toArray, List.set_cons_succ, List.set_cons_zero]
              clear hv0
              go_wp2_with fail
              refine Calls.mono (put_any (w.heap.size + 2) (w.heap.size + 3) (s1.q.drop (i + 1)) (tn : Int) w5 HR2.out.q (by have := HHQ.out; simp only [List.length_drop]; omega) HR2.out.sz (by omega)) ?_
              rintro e w6 ⟨rfl, hq6, hk6⟩
              have H6 := HR2.out.kp hk6 hq6
              have hqd : s1.q.drop (i + 1) ++ [(tn : Int)] = (FL.stepd xs fs (nn : Int) s1 k).q.drop (i + 1) := by rw [SD.out.Q, List.drop_append_of_le_length (by have := HHM.out; omega)]
              rw [hqd, ← HY.out] at H6
              have H7 : Hid _ := H6
              clear HR2 hq6 hk6 H6 hqd SD HY
              go_wp2
              go_roundw
              case rel => exact ⟨k + 1, vf2, by go_num, by omega, H7.out⟩
              case measure => simp [intOf]; omega
            · rw [hvf] at rt
              have hN := EN.out (by rw [HGO.out, decide_eq_false hby])
              have H7 : Hid (FL.RS w w4 w.heap.size (FL.scan xs fs (nn : Int) s0 (k + 1)) ((FL.scan xs fs (nn : Int) s0 (k + 1)).q.drop (i + 1)) vf) := by rw [hN]; exact HS4.out
              clear EY EN HGO hN HS4 hRF hvf hp SDD HE
              go_wp2
              go_roundw
              case rel => exact ⟨k + 1, vf, by go_num, by omega, H7.out⟩
              case measure => simp [intOf]; omega
          · have hN := EN.out (by rw [hgo.out, decide_eq_false hr]; rfl)
            have H7 : Hid (FL.RS w w4 w.heap.size (FL.scan xs fs (nn : Int) s0 (k + 1)) ((FL.scan xs fs (nn : Int) s0 (k + 1)).q.drop (i + 1)) vf) := by rw [hN]; exact HS4.out
            have hdr : decide (0 < r) = false := decide_eq_false hr
            rw [hdr]
            clear EY EN hgo hN HS4 hp NW SVI hto hdr hr SDD
            go_wp2
            go_roundw
            case rel => exact ⟨k + 1, vf, by go_num, by omega, H7.out⟩
            case measure => simp [intOf]; omega
        · obtain rfl : k = xs.length := by omega
          have hS2 : FL.RS w wr w.heap.size (FL.at8 xs fs (fn : Int) (i + 1)) ((FL.at8 xs fs (fn : Int) (i + 1)).q.drop (i + 1)) vf := by rw [hNX.out]; exact hS
          have hi2 : i + 1 ≤ (FL.at8 xs fs (fn : Int) (i + 1)).q.length := by rw [hNX.out]; exact ((SCi.out xs.length (Nat.le_refl _)).more i HQL.out).1
          have hs2 := TRn.out.short
          have HMU2 : Hid (∀ (W : World) (nv ov : Value) (vf' : Nat → Value), FL.Lp w W w.heap.size xs fs (fn : Int) nv ov (i + 1) vf' → FL.mR w.heap.size ov W = 8 - (i + 1) ∧ i + 1 ≤ 8) := fun W nv ov vf' h => FL.Lp.mr TRn.out h
          have HLP : Hid (∀ (W : World) (nv ov : Value) (vf' : Nat → Value), ((i + 1 < (FL.at8 xs fs (fn : Int) (i + 1)).q.length ∧ nv = .int .i64 ((FL.at8 xs fs (fn : Int) (i + 1)).q.getD (i + 1) 0) ∧ ov = .bool true ∧ FL.RS w W w.heap.size (FL.at8 xs fs (fn : Int) (i + 1)) ((FL.at8 xs fs (fn : Int) (i + 1)).q.drop (i + 1 + 1)) vf') ∨ ((FL.at8 xs fs (fn : Int) (i + 1)).q.length = i + 1 ∧ nv = .int .i64 0 ∧ ov = .bool false ∧ FL.RS w W w.heap.size (FL.at8 xs fs (fn : Int) (i + 1)) [] vf')) → FL.Lp w W w.heap.size xs fs (fn : Int) nv ov (i + 1) vf') := fun W nv ov vf' h => ⟨h⟩
          clear hS SCi hNX TRn HNN HQL GC GF HI HO
          generalize FL.at8 xs fs (fn : Int) (i + 1) = s2 at *
          by_cases hlt : i + 1 < s2.q.length
          · have hd := FL.drop_get s2.q (i + 1) hlt
            rw [hd] at hS2
            have HS2 : Hid _ := hS2
            clear hS2 hd
            generalize hyy : s2.q.getD (i + 1) 0 = yy at *
            have HYY : Hid _ := hyy
            clear hyy
            go_wp2_with fail
            refine Calls.mono (takeCons_any (w.heap.size + 2) (w.heap.size + 3) yy (s2.q.drop (i + 1 + 1)) wr HS2.out.q (by simp only [List.length_drop]; omega)) ?_
            rintro e w7 ⟨rfl, hq7, hk7⟩
            have HL7 : Hid _ := HLP.out w7 (.int .i64 yy) (.bool true) vf (.inl ⟨hlt, rfl, rfl, HS2.out.kp hk7 hq7⟩)
            have HM7 : Hid _ := HMU2.out w7 _ _ vf HL7.out
            clear HS2 hq7 hk7 HLP HMU2 HYY hs2 hi2 hlt
            go_wp2
            go_roundw
            case rel => exact ⟨i + 1, vf, HL7.out⟩
            case measure => have h1 := HM7.out; have h2 := HMU.out; omega
          · have hE2 : s2.q.length = i + 1 := by omega
            have hd : s2.q.drop (i + 1) = [] := List.drop_eq_nil_of_le (by omega)
            rw [hd] at hS2
            have HS2 : Hid _ := hS2
            have HE2 : Hid _ := hE2
            clear hS2 hd hE2 hlt hs2 hi2
            go_wp2_with fail
            refine Calls.mono (takeNil_any (w.heap.size + 2) (w.heap.size + 3) wr HS2.out.q) ?_
            rintro e w7 ⟨rfl, rfl⟩
            have HL7 : Hid _ := HLP.out wr (.int .i64 0) (.bool false) vf (.inr ⟨HE2.out, rfl, rfl, HS2.out⟩)
            have HM7 : Hid _ := HMU2.out wr _ _ vf HL7.out
            clear HS2 HLP HMU2 HE2
            go_wp2
            go_roundw
            case rel => exact ⟨i + 1, vf, HL7.out⟩
            case measure => have h1 := HM7.out; have h2 := HMU.out; omega
    · clear hLp
      have hi8 := HMU.out.2
      have HSR : Hid (FL.srch xs fs (fn : Int) = FL.at8 xs fs (fn : Int) i) := FL.srch_is hi8 (Nat.le_of_eq hi)
      have HFN0 := hR.fin (FL.vl vf)
      have HFN : Hid (FL.FnOk w.heap.size (wr.setCells w.heap.size 0 (FL.vl vf)) (FL.srch xs fs (fn : Int)) vf) := by rw [HSR.out]; exact HFN0
      have ONE : Hid (∀ v ∈ FL.vl vf, v.oneCell' = true) := FL.vl_one HFN0
      have HRJ : Hid (MA.Rg wr (w.heap.size + 1) 0 (FL.vl vf)) := hR.rows
      have HRR : Hid (MA.Rg wr w.heap.size 0 FL.nils) := hR.res
      have HRP : Hid (MA.Rg (wr.setCells w.heap.size 0 (FL.vl vf)) w.heap.size 0 (FL.vl vf)) := hR.res.put (by rw [FL.vl_len]; rfl)
      have HBP : Hid (Below w.heap.size w (wr.setCells w.heap.size 0 (FL.vl vf))) := MA.below_cells (Nat.le_refl _) _ _ _ hR.bl
      clear hR HFN0 HSR HMU TR SC GC GF HI HO hsq
      go_wp2_with (first
        | (refine MA.load_m rfl 88 _ rfl rfl (cs := FL.vl vf) ?_ Try.underlying88 rfl Try.sizeR (FL.vl_len _) ?_; exact HRJ.out; clear HRJ)
        | (refine MA.store_m rfl 88 _ _ rfl rfl rfl (vs := FL.vl vf) (cs := FL.nils) ?_ Try.sizeR rfl (FL.vl_len _) ONE.out ?_; exact HRR.out; clear HRR))
      exact bodyPost_ret (MA.ret_cell rfl rfl (MA.load_rg HRP.out Try.underlying88 rfl Try.sizeR (FL.vl_len _))) rfl ⟨vf, rfl, HFN.out, HBP.out⟩
end Go.Proofs.Ytpabhjnpbnabiaa
