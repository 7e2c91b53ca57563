/- rowsFrom, the program's. What a row of pipes bears more: room of the program. What is put on a row of pipes: putOn of the program. augment, mostThrough, the program's. -/
import Derived.Test.YtdobnplcacaomaaRows
import Derived.Test.YtdobnplcacaomaaCRowF
import Derived.Test.YtdobnplcacaomaaCStepF
import Derived.Test.YtdobnplcacaomaaMRP
import Derived.WalkKit
import Derived.WalkSpells
import Derived.WalkLawsBesides
import Derived.Outline
import Derived.Deep.RegionHeld3
import Derived.Test.YtdobnplcacaomaaCRowCall
import Derived.Test.YtdobnplcacaomaaMRetB
import Derived.Test.YtdobnplcacaomaaCToIntS
namespace Go.Proofs.Ytdobnplcacaomaa
open Go.RowKit
theorem Try.infoR : (Try.prog.info? 86).map (fun i => (i.zero, i.size)) = some (some (.agg FL.nils.toArray), 8) := by kernel_rfl
theorem Try.infoST : (Try.prog.info? 99).map (fun i => (i.zero, i.size)) = some (some (.agg (([.int .i64 0, .bool false, .int .i64 0, .int .i64 0] : List Value)).toArray), 4) := by kernel_rfl
theorem Try.sizeST : (Try.prog.info? 99).map (·.size) = some 4 := by kernel_rfl
theorem Try.sizeR : (Try.prog.info? 86).map (·.size) = some 8 := by kernel_rfl
namespace FL
theorem nils_set (fn : Nat) (v : Value) : nils.set fn v = vl (putF (fun _ => .nilFunc) fn v) := by
  have e0 : nils = vl (fun _ => .nilFunc) := rfl
  rw [e0, vl_set]
theorem rs_new (w : World) (fn : Nat) (hf : fn < 8) :
    RS w (((w.alloc (.cells nils.toArray 86)).alloc (.cells (nils.set fn (.func (.func 76) #[] #[])).toArray 86)).alloc (.cells #[.slice none 0 0] 95)) w.heap.size (start (fn : Int)) [] (putF (fun _ => .nilFunc) fn (.func (.func 76) #[] #[])) := by
  have r1 := (MA.Rg.new w nils 86).alloc (.cells (nils.set fn (.func (.func 76) #[] #[])).toArray 86)
  have r3 := MA.Rg.new' (w.alloc (.cells nils.toArray 86)) (nils.set fn (.func (.func 76) #[] #[])) 86 (w.heap.size + 1) (by simp)
  have hsz : ((w.alloc (.cells nils.toArray 86)).alloc (.cells (nils.set fn (.func (.func 76) #[] #[])).toArray 86)).heap.size = w.heap.size + 2 := by simp
  refine ⟨r1.alloc _, ?_, ⟨none, 0, ?_, Nat.le_refl _, .inl rfl⟩, by rw [MA.sz_alloc, hsz]; omega, ?_, fun m hm => ?_⟩
  · have r4 := r3.alloc (.cells #[.slice none 0 0] 95)
    rw [nils_set] at r4 ⊢
    exact r4
  · show (World.alloc _ _).heap[w.heap.size + 2]? = _
    rw [← hsz]
    exact heap_alloc_new _ _
  · refine Below.alloc ?_ (by rw [hsz]; omega) _
    exact ((Below.refl _ w).alloc (Nat.le_refl _) _).alloc (by simp) _
  · have gs : (start (fn : Int)).by_.getD m 0 = if fn = m then -2 else (List.replicate 8 (-1 : Int)).getD m 0 := by
      show ((List.replicate 8 (-1 : Int)).set (fn : Int).toNat (-2)).getD m 0 = _
      rw [Int.toNat_natCast, getD_set _ _ _ _ _ (by simp; exact hf)]
    by_cases e : fn = m
    · right
      subst e
      refine ⟨by rw [gs, if_pos rfl]; omega, 76, #[], by simp [putF], ?_⟩
      exact .nil
    · left
      refine ⟨?_, by simp [putF, Ne.symm e]⟩
      rw [gs, if_neg e, List.getD_eq_getElem?_getD, List.getElem?_replicate, if_pos hm]; rfl
/-- What a step makes of the search. -/
structure Sd (s s' : St) (nn tn : Nat) (t : Int) (x : Stp) : Prop where
  L1 : s'.L tn = s.L nn ++ [x]
  L2 : ∀ m, m ≠ tn → s'.L m = s.L m
  B1 : s'.by_.getD tn 0 ≠ -1
  B2 : ∀ m, m ≠ tn → s'.by_.getD m 0 = s.by_.getD m 0
  Q : s'.q = s.q ++ [t]
theorem sd_of {xs : List I3} {fs : List Int} {s : St} {nn k : Nat} (hl : s.by_.length = 8) (ht : (nx (MI3.at_ xs k) (nn : Int)).toNat < 8) : Sd s (stepd xs fs (nn : Int) s k) nn (nx (MI3.at_ xs k) (nn : Int)).toNat (nx (MI3.at_ xs k) (nn : Int)) (stp xs fs (nn : Int) k) := by
  have gs : ∀ m, (s.by_.set (nxt xs (nn : Int) k) (k : Int)).getD m 0 = if nxt xs (nn : Int) k = m then (k : Int) else s.by_.getD m 0 := fun m => getD_set _ _ _ _ _ (by unfold nxt; rw [hl]; exact ht)
  refine ⟨?_, ?_, ?_, ?_, rfl⟩
  · show (if (nx (MI3.at_ xs k) (nn : Int)).toNat = nxt xs (nn : Int) k then s.L (nn : Int).toNat ++ [stp xs fs (nn : Int) k] else _) = _
    rw [if_pos (by unfold nxt; rfl), Int.toNat_natCast]
  · intro m hm
    show (if m = nxt xs (nn : Int) k then _ else s.L m) = _
    rw [if_neg (show ¬ m = nxt xs (nn : Int) k from hm)]
  · show (s.by_.set (nxt xs (nn : Int) k) (k : Int)).getD (nx (MI3.at_ xs k) (nn : Int)).toNat 0 ≠ -1
    rw [gs, if_pos (by unfold nxt; rfl)]; omega
  · intro m hm
    show (s.by_.set (nxt xs (nn : Int) k) (k : Int)).getD m 0 = _
    rw [gs, if_neg (fun e => hm e.symm)]
/-- The measure of the search, read out of memory. -/
def isNil : Option Value → Bool
  | some .nilFunc => true
  | _ => false
def nilc (W : World) (b : Nat) : Nat := ((List.range 8).filter fun m => isNil (W.cell? ⟨b, 0 + m, none⟩)).length
def qln (W : World) (b : Nat) : Nat := match W.cell? ⟨b, 0, none⟩ with
  | some (.slice _ n _) => n
  | _ => 0
def okn : Value → Nat
  | .bool true => 1
  | _ => 0
def mR (B : Nat) (v : Value) (W : World) : Nat := nilc W (B + 1) + qln W (B + 2) + okn v
theorem count_range (l : List Int) (k : Nat) (hk : k ≤ l.length) : ((List.range k).filter fun m => decide (l.getD m 0 = -1)).length = (l.take k).count (-1) := by
  induction k with
  | zero => simp
  | succ k ih =>
    have hk' : k < l.length := by omega
    rw [List.range_succ, List.filter_append, List.length_append, ih (by omega), List.take_succ_eq_append_getElem hk', List.count_append]
    have e : l.getD k 0 = l[k] := by rw [List.getD_eq_getElem?_getD, List.getElem?_eq_getElem hk']; rfl
    by_cases h : l[k] = -1
    · rw [List.filter_cons_of_pos (by simp only [e, h, decide_true]), h]; simp
    · rw [List.filter_cons_of_neg (by simp only [e, h, decide_false]; decide)]; simp [h]
theorem RS.nilc {w W : World} {B : Nat} {s : St} {ys : List Int} {vf : Nat → Value} (h : RS w W B s ys vf) (hl : s.by_.length = 8) : FL.nilc W (B + 1) = s.by_.count (-1) := by
  have e : s.by_.count (-1) = ((List.range 8).filter fun m => decide (s.by_.getD m 0 = -1)).length := by rw [count_range _ _ (by omega), ← hl, List.take_length]
  rw [e]; unfold FL.nilc
  congr 1
  apply List.filter_congr
  intro m hm
  have hm8 : m < 8 := by simpa using hm
  rw [h.rows.cell (vl_get vf hm8)]
  rcases h.fn m hm8 with ⟨h1, h2⟩ | ⟨h1, F, cs, h2, _⟩
  · rw [h1, h2]; rfl
  · rw [h2, decide_eq_false h1]; rfl
theorem RS.qln {w W : World} {B : Nat} {s : St} {ys : List Int} {vf : Nat → Value} (h : RS w W B s ys vf) : FL.qln W (B + 2) = ys.length := by
  obtain ⟨a, cap, q⟩ := h.q.is
  have := cell_block (o := 0) q.box
  unfold FL.qln
  rw [this]; rfl
/-- The loop's state: the node that was taken, and whether there was one. -/
structure Lp (w W : World) (B : Nat) (xs : List I3) (fs : List Int) (f : Int) (nv ov : Value) (i : Nat) (vf : Nat → Value) : Prop where
  is : (i < (at8 xs fs f i).q.length ∧ nv = .int .i64 ((at8 xs fs f i).q.getD i 0) ∧ ov = .bool true ∧ RS w W B (at8 xs fs f i) ((at8 xs fs f i).q.drop (i + 1)) vf) ∨ ((at8 xs fs f i).q.length = i ∧ nv = .int .i64 0 ∧ ov = .bool false ∧ RS w W B (at8 xs fs f i) [] vf)
theorem Lp.mr {w W : World} {B : Nat} {xs : List I3} {fs : List Int} {f : Int} {nv ov : Value} {i : Nat} {vf : Nat → Value} (T : Tree xs fs f (at8 xs fs f i)) (h : Lp w W B xs fs f nv ov i vf) : mR B ov W = 8 - i ∧ i ≤ 8 := by
  have hc := T.cnt
  unfold mR
  rcases h.is with ⟨h1, _, rfl, h2⟩ | ⟨h1, _, rfl, h2⟩
  · rw [h2.nilc T.len, h2.qln, List.length_drop]; simp only [okn]; omega
  · rw [h2.nilc T.len, h2.qln]; simp only [okn, List.length_nil]; omega
theorem heap_setCells (b : Nat) : ∀ (vs : List Value) (o : Nat) (w : World) (k : Nat), k ≠ b → (w.setCells b o vs).heap[k]? = w.heap[k]? := by
  intro vs
  induction vs with
  | nil => intro o w k _; rfl
  | cons v vs ih =>
    intro o w k hk
    show ((w.setCell ⟨b, o, none⟩ v).setCells b (o + 1) vs).heap[k]? = _
    rw [ih _ _ _ hk]; exact Below.heap_setCell w ⟨b, o, none⟩ v k hk
structure FnOk (lo : Nat) (W : World) (s : St) (vf : Nat → Value) : Prop where
  is : ∀ m, m < 8 → (s.by_.getD m 0 = -1 ∧ vf m = .nilFunc) ∨ (s.by_.getD m 0 ≠ -1 ∧ ∃ F cs, vf m = .func (.func F) #[] cs ∧ RowF lo W F cs (s.L m))
theorem RS.fin {w W : World} {B : Nat} {s : St} {ys : List Int} {vf : Nat → Value} (h : RS w W B s ys vf) (vs : List Value) : FnOk B (W.setCells B 0 vs) s vf := by
  refine ⟨fun m hm => ?_⟩
  rcases h.fn m hm with h1 | ⟨h1, F, cs, h2, h3⟩
  · exact .inl h1
  · exact .inr ⟨h1, F, cs, h2, (h3.keep fun k _ hk _ => heap_setCells B vs 0 W k (by omega)).mono (by omega)⟩
theorem vl_one {lo : Nat} {W : World} {s : St} {vf : Nat → Value} (h : FnOk lo W s vf) : ∀ v ∈ vl vf, v.oneCell' = true := by
  intro v hv
  simp only [vl, List.mem_map, List.mem_range] at hv
  obtain ⟨m, hm, rfl⟩ := hv
  rcases h.is m hm with ⟨_, h2⟩ | ⟨_, F, cs, h2, _⟩
  · rw [h2]; rfl
  · rw [h2]; rfl
theorem nils_one : ∀ v ∈ nils, v.oneCell' = true := by
  intro v hv; simp only [nils, List.mem_replicate] at hv; rw [hv.2]; rfl
theorem drop_get (l : List Int) (i : Nat) (h : i < l.length) : l.drop i = l.getD i 0 :: l.drop (i + 1) := by
  rw [List.drop_eq_getElem_cons h, List.getD_eq_getElem?_getD, List.getElem?_eq_getElem h]; rfl
end FL
set_option maxRecDepth 100000 in
theorem eqNil8 (W : World) : (binOp .eql 85 .nilFunc .nilFunc).run Try.prog W = .ok (.bool true) W := by kernel_rfl
set_option maxRecDepth 100000 in
theorem eqFun8 (W : World) (F : Nat) (cs : Array Value) : (binOp .eql 85 (.func (.func F) #[] cs) .nilFunc).run Try.prog W = .ok (.bool false) W := by kernel_rfl
set_option linter.unusedSimpArgs false in
set_option maxHeartbeats 3200000 in
set_option maxRecDepth 100000 in
theorem rowsFrom_any (a b : Option Addr) (ca cb : Nat) (xs : List I3) (fs : List Int) (f : Int) (w : World) (hok : FL.okP xs = true) (hf0 : 0 ≤ f) (hf1 : f ≤ 7) (hl : fs.length = xs.length) (hfit : FL.fitUp xs fs xs.length) (hin : MI3.RowAt w a xs) (hos : M4.IntsAt w b fs) :
    Calls Try.prog 67 #[.slice a xs.length ca, .int .i64 f, .slice b fs.length cb] w fun e w' => ∃ vf, e = .returned (.agg (FL.vl vf).toArray) ∧ FL.FnOk w.heap.size w' (FL.srch xs fs f) vf ∧ Below w.heap.size w w' := by
  have HI : Hid (MI3.RowAt w a xs) := hin
  have HO : Hid (M4.IntsAt w b fs) := hos
  have hlen : xs.length ≤ 20 := ((FL.okP_iff xs).1 hok).1
  have GC : Hid (∀ k, k < xs.length → FL.Good (MI3.at_ xs k)) := fun k hk => FL.okP_good hok hk
  have GF : Hid (∀ k, k < xs.length → 0 ≤ fs.getD k 0 ∧ fs.getD k 0 ≤ (MI3.at_ xs k).a2) := fun k hk => hfit k hk
  have TR : Hid (∀ i, FL.Tree xs fs f (FL.at8 xs fs f i)) := fun i => FL.at8_tree hok ⟨hf0, hf1⟩ i
  have SC : Hid (∀ i, i < (FL.at8 xs fs f i).q.length → ∀ k, k ≤ xs.length → FL.Scan xs fs f ((FL.at8 xs fs f i).q.getD i 0) (FL.at8 xs fs f i) (FL.scan xs fs ((FL.at8 xs fs f i).q.getD i 0) (FL.at8 xs fs f i) k)) := fun i h k hk => by
    have T := FL.at8_tree (fs := fs) hok ⟨hf0, hf1⟩ i
    obtain ⟨h1, h2, h3⟩ := T.inq i h
    exact FL.scan_ok hok ⟨hf0, hf1⟩ T ⟨h1, h2⟩ h3 k hk
  rw [hl]
  have HL : Hid _ := hl
  obtain ⟨fn, rfl⟩ := Int.eq_ofNat_of_zero_le hf0
  have hfn : fn < 8 := by omega
  have ff1 : (fn : Int) < 8 := by omega
  have HN : Hid _ := FL.rs_new w fn hfn
  have RZ : Hid (MA.Rg ((w.alloc (.cells FL.nils.toArray 86)).alloc (.cells FL.nils.toArray 86)) (w.heap.size + 1) 0 FL.nils) := MA.Rg.new' _ _ _ _ (by simp)
  have q1 : ((w.alloc (.cells FL.nils.toArray 86)).alloc (.cells FL.nils.toArray 86)).cell? ⟨w.heap.size + 1, fn, none⟩ = some .nilFunc := by have := RZ.out.cell (j := fn) (v := .nilFunc) (by unfold FL.nils; rw [List.getElem?_replicate, if_pos hfn]); rwa [Nat.zero_add] at this
  have z1 : ((w.alloc (.cells FL.nils.toArray 86)).alloc (.cells FL.nils.toArray 86)).frozen? ⟨w.heap.size + 1, fn, none⟩ = false := by have := RZ.out.free (j := fn) (by show fn < 8; exact hfn); rwa [Nat.zero_add] at this
  have SF : ∀ (W : World) (ad : Addr) (F : Nat) (cs : Array Value) (m : Mode), (store ad (.func (.func F) #[] cs) m).run Try.prog W = stored Try.prog W ad (.func (.func F) #[] cs) m := fun W ad F cs m => run_store _ W ad _ m rfl
  clear hin hok hos hfit hl hf0 hf1 RZ
  have hsq : Hid (FL.srch xs fs (fn : Int) = FL.srch xs fs (fn : Int)) := rfl
  go_enter Try.func67, Try.ntmps67
  go_wp2_with (refine MA.alloc_z rfl 86 rfl _ _ Try.infoR ?_; simp only [MA.sz_alloc])
  have hb0 : FL.RS w (((w.alloc (.cells FL.nils.toArray 86)).alloc (.cells (FL.nils.set fn (.func (.func 76) #[] #[])).toArray 86)).alloc (.cells #[.slice none 0 0] 95)) w.heap.size (FL.start (fn : Int)) [] (FL.putF (fun _ => .nilFunc) fn (.func (.func 76) #[] #[])) := HN.out
  generalize ((w.alloc (.cells FL.nils.toArray 86)).alloc (.cells (FL.nils.set fn (.func (.func 76) #[] #[])).toArray 86)).alloc (.cells #[.slice none 0 0] 95) = W0 at *
  clear q1 z1 HN
  refine Calls.mono (put_any (w.heap.size + 2) (w.heap.size + 3) [] (fn : Int) W0 hb0.q (by simp) hb0.sz (by omega)) ?_
  rintro e w1 ⟨rfl, hq1, hk1⟩
  have hR1 := hb0.kp hk1 hq1
  clear hb0 hq1 hk1
  generalize FL.putF (fun _ => .nilFunc) fn (.func (.func 76) #[] #[]) = vf0 at *
  have HR1 : Hid (FL.RS w w1 w.heap.size (FL.start (fn : Int)) [(fn : Int)] vf0) := hR1
  clear hR1
  go_wp2_with fail
  refine Calls.mono (takeCons_any (w.heap.size + 2) (w.heap.size + 3) (fn : Int) [] w1 HR1.out.q (by simp)) ?_
  rintro e w2 ⟨rfl, hq2, hk2⟩
  have HL2 : Hid (FL.Lp w w2 w.heap.size xs fs (fn : Int) (.int .i64 (fn : Int)) (.bool true) 0 vf0) := ⟨.inl ⟨Nat.zero_lt_one, rfl, rfl, HR1.out.kp hk2 hq2⟩⟩
  clear HR1 hq2 hk2
  go_wp2
  go_loopw [9, 10] (fun nv ov wo => ∃ i vf, FL.Lp w wo w.heap.size xs fs (fn : Int) nv ov i vf) (fun _ ov wo => FL.mR w.heap.size ov wo)
  case atStart => exact ⟨0, vf0, HL2.out⟩
  case round =>
    clear HL2
    obtain ⟨i, vf, hLp⟩ := hrel
    have HMU : Hid _ := FL.Lp.mr (TR.out i) hLp
    rcases hLp.is with ⟨hi, rfl, rfl, hR⟩ | ⟨hi, rfl, rfl, hR⟩
    · clear hLp
      have SCi : Hid _ := SC.out i hi
      have TRi := TR.out i
      have hS8 := TRi.short
      have hNX : Hid (FL.at8 xs fs (fn : Int) (i + 1) = FL.scan xs fs ((FL.at8 xs fs (fn : Int) i).q.getD i 0) (FL.at8 xs fs (fn : Int) i) xs.length) := by show _ = _; rw [FL.at8, if_pos hi]
      have TRn : Hid (FL.Tree xs fs (fn : Int) (FL.at8 xs fs (fn : Int) (i + 1))) := TR.out (i + 1)
      obtain ⟨n0, n7, nr⟩ := TRi.inq i hi
      have HQL : Hid (i < (FL.at8 xs fs (fn : Int) i).q.length) := hi
      have HR : Hid _ := hR
      clear hR TRi nr hi
      generalize FL.at8 xs fs (fn : Int) i = s0 at *
      generalize hnn : s0.q.getD i 0 = n at *
      have HNN : Hid _ := hnn
      clear hnn
      obtain ⟨nn, rfl⟩ := Int.eq_ofNat_of_zero_le n0
      have nn8 : (nn : Int) < 8 := by omega
      have hn8 : nn < 8 := by omega
      clear n7
      have HS8 : Hid _ := hS8
      clear hS8
      go_wp2
      go_loopw [31] (fun kv wi => ∃ (k : Nat) (vf : Nat → Value), kv = .int .i64 k ∧ k ≤ xs.length ∧ FL.RS w wi w.heap.size (FL.scan xs fs (nn : Int) s0 k) ((FL.scan xs fs (nn : Int) s0 k).q.drop (i + 1)) vf) (fun kv _ => (xs.length - intOf kv).toNat)
      case atStart => exact ⟨0, vf, rfl, by omega, HR.out⟩
      case round =>
        clear HR
        obtain ⟨k, vf, rfl, hk, hS⟩ := hrel
        by_cases hlk : k < xs.length
        · have Sc := SCi.out k hk
          have hl8 : (FL.scan xs fs (nn : Int) s0 k).by_.length = 8 := Sc.tree.len
          have hqs := Sc.tree.short
          have hmore := (Sc.more i HQL.out).1
          have hkeep := Sc.keep
          rw [Int.toNat_natCast] at hkeep
          have G := GC.out k hlk
          have F := GF.out k hlk
          have hE0 : FL.scan xs fs (nn : Int) s0 (k + 1) = FL.step xs fs (nn : Int) (FL.scan xs fs (nn : Int) s0 k) k := rfl
          have EN : Hid (FL.goes xs fs (FL.scan xs fs (nn : Int) s0 k) (nn : Int) k = false → FL.scan xs fs (nn : Int) s0 (k + 1) = FL.scan xs fs (nn : Int) s0 k) := fun h => by rw [hE0]; unfold FL.step; rw [if_neg (by rw [h]; decide)]
          have EY : Hid (FL.goes xs fs (FL.scan xs fs (nn : Int) s0 k) (nn : Int) k = true → FL.scan xs fs (nn : Int) s0 (k + 1) = FL.stepd xs fs (nn : Int) (FL.scan xs fs (nn : Int) s0 k) k) := fun h => by rw [hE0]; unfold FL.step; rw [if_pos h]
          clear hE0
          obtain ⟨b4, off4, rfl, hlt4, e0, e1, e2⟩ := (HI.out.below hS.bl).at hlk
          obtain ⟨b5, off5, rfl, hlt5, d0⟩ := M4.IntsAt.at (M4.IntsAt.below HO.out hS.bl) (k := k) (by rw [HL.out]; exact hlk)
          have NW : Hid (0 < FL.rm (MI3.at_ xs k) (fs.getD k 0) (nn : Int) → 0 ≤ FL.nx (MI3.at_ xs k) (nn : Int) ∧ FL.nx (MI3.at_ xs k) (nn : Int) ≤ 7) := fun h => ⟨(FL.nx_within G h).1, (FL.nx_within G h).2.1⟩
          have SFM : Hid (∀ W : World, Calls Try.prog 79 #[(MI3.at_ xs k).v, .int .i64 (nn : Int), .int .i64 (k : Int), .int .i64 (fs.getD k 0)] W fun e w' => e = .returned (.tuple #[(FL.sv (MI3.at_ xs k) (fs.getD k 0) (nn : Int) k).v, .bool (decide (0 < FL.rm (MI3.at_ xs k) (fs.getD k 0) (nn : Int)))]) ∧ Below W.heap.size W w') := fun W => stepFrom_any _ _ _ k W G F.1 (by have := G.c1; omega)
          have SVI : Hid (0 < FL.rm (MI3.at_ xs k) (fs.getD k 0) (nn : Int) → FL.sv (MI3.at_ xs k) (fs.getD k 0) (nn : Int) k = FL.stp xs fs (nn : Int) k) := fun h => FL.sv_is h
          have hgo : Hid (FL.goes xs fs (FL.scan xs fs (nn : Int) s0 k) (nn : Int) k = (decide (0 < FL.rm (MI3.at_ xs k) (fs.getD k 0) (nn : Int)) && decide ((FL.scan xs fs (nn : Int) s0 k).by_.getD (FL.nx (MI3.at_ xs k) (nn : Int)).toNat 0 = -1))) := rfl
          have SDD : Hid ((FL.nx (MI3.at_ xs k) (nn : Int)).toNat < 8 → FL.Sd (FL.scan xs fs (nn : Int) s0 k) (FL.stepd xs fs (nn : Int) (FL.scan xs fs (nn : Int) s0 k) k) nn (FL.nx (MI3.at_ xs k) (nn : Int)).toNat (FL.nx (MI3.at_ xs k) (nn : Int)) (FL.stp xs fs (nn : Int) k)) := fun h => FL.sd_of hl8 h
          have hto : Hid ((FL.stp xs fs (nn : Int) k).to = FL.nx (MI3.at_ xs k) (nn : Int)) := rfl
          have hSA := hS.below ((Below.refl _ wr).alloc (Nat.le_refl _) (.cells #[.int .i64 (MI3.at_ xs k).a0, .int .i64 (MI3.at_ xs k).a1, .int .i64 (MI3.at_ xs k).a2] 61))
          have HS : Hid _ := hSA
          have hwB : w.heap.size + 3 ≤ wr.heap.size := hS.sz
          clear hS hSA Sc G F GC GF HI HO SCi
          generalize hs1 : FL.scan xs fs (nn : Int) s0 k = s1 at *
          clear hs1
          generalize hx : MI3.at_ xs k = x at *
          generalize hy : fs.getD k 0 = y at *
          clear hx hy
          obtain ⟨x0, x1, x2⟩ := x
          simp only at e0 e1 e2 HS
          generalize FL.rm ⟨x0, x1, x2⟩ y (nn : Int) = r at *
          generalize FL.nx ⟨x0, x1, x2⟩ (nn : Int) = t at *
          generalize FL.sv ⟨x0, x1, x2⟩ y (nn : Int) k = sv at *
          obtain ⟨sk, sb, st, sr⟩ := sv
          have SFN : Hid (∀ W : World, Calls Try.prog 79 #[.agg #[.int .i64 x0, .int .i64 x1, .int .i64 x2], .int .i64 (nn : Int), .int .i64 (k : Int), .int .i64 y] W fun e w' => e = .returned (.tuple #[.agg #[.int .i64 (sk : Int), .bool sb, .int .i64 st, .int .i64 sr], .bool (decide (0 < r))]) ∧ Below W.heap.size W w') := SFM
          clear SFM
          have q2 : (wr.alloc (.cells #[.int .i64 x0, .int .i64 x1, .int .i64 x2] 61)).cell? ⟨b5, off5 + k, none⟩ = some (.int .i64 y) := by rw [World.cell?_alloc_lt _ _ _ hlt5]; exact d0
          have f0 : (wr.alloc (.cells #[.int .i64 x0, .int .i64 x1, .int .i64 x2] 61)).cell? ⟨wr.heap.size, 0, none⟩ = some (.int .i64 x0) := by simp
          have f1 : (wr.alloc (.cells #[.int .i64 x0, .int .i64 x1, .int .i64 x2] 61)).cell? ⟨wr.heap.size, 1, none⟩ = some (.int .i64 x1) := by simp
          have f2 : (wr.alloc (.cells #[.int .i64 x0, .int .i64 x1, .int .i64 x2] 61)).cell? ⟨wr.heap.size, 2, none⟩ = some (.int .i64 x2) := by simp
          have z0 : wr.heap.size < (wr.alloc (.cells #[.int .i64 x0, .int .i64 x1, .int .i64 x2] 61)).heap.size := by simp
          have z2 : b5 < (wr.alloc (.cells #[.int .i64 x0, .int .i64 x1, .int .i64 x2] 61)).heap.size := by simp; omega
          have Q2 : Hid _ := q2
          have F0 : Hid _ := f0
          have F1 : Hid _ := f1
          have F2 : Hid _ := f2
          have Z0 : Hid _ := z0
          have Z2 : Hid _ := z2
          have HHK : Hid _ := hkeep
          have HHM : Hid _ := hmore
          have HHQ : Hid _ := hqs
          have HH8 : Hid _ := hl8
          clear q2 f0 f1 f2 z0 z2 hkeep hmore hqs hl8
          go_wp2_with fail
          clear e0 e1 e2 d0 hlt4 hlt5
          generalize hW1 : wr.alloc (.cells #[.int .i64 x0, .int .i64 x1, .int .i64 x2] 61) = W1 at *
          clear hW1
          generalize wr.heap.size = q at *
          have q2 := Q2.out
          have f0' := F0.out
          have f1' := F1.out
          have f2' := F2.out
          have kk0 : (0 : Int) ≤ (k : Int) := by omega
          have kkx : (k : Int) < (xs.length : Int) := by omega
          have z0 := Z0.out
          have z2 := Z2.out
          clear Q2 F0 F1 F2 Z0 Z2
          refine MR.frame fun A hA => ?_
          have hsz : A.tmps.size = 68 := by rw [hA]; rfl
          have e12 : A.eval (.tmp 12) = .pointer (some ⟨q, 0, none⟩) := by rw [hA]; rfl
          have f12 := MR.read (t := 12) (by rw [hsz]; decide) e12
          have e9 : A.eval (.tmp 9) = .int .i64 (nn : Int) := by rw [hA]; rfl
          have f9 := MR.read (t := 9) (by rw [hsz]; decide) e9
          have e11 : A.eval (.tmp 11) = .int .i64 (k : Int) := by rw [hA]; rfl
          have f11 := MR.read (t := 11) (by rw [hsz]; decide) e11
          have e2 : A.eval (.tmp 2) = .slice (some ⟨b5, off5, none⟩) xs.length cb := by rw [hA]; rfl
          have f2 := MR.read (t := 2) (by rw [hsz]; decide) e2
          have HA : Hid (A = _) := hA
          clear hA
          refine MR.cut (fun aa w' => ∃ p, aa = (((((((((((((A.put (some 37) (.agg #[.int .i64 x0, .int .i64 x1, .int .i64 x2])).put (some 38) (.int .i64 (nn : Int))).put (some 39) (.int .i64 (k : Int))).put (some 40) (.slice (some ⟨b5, off5, none⟩) xs.length cb)).put (some 41) (.int .i64 (k : Int))).put (some 42) (.pointer (some ⟨b5, off5 + k, none⟩))).put (some 43) (.int .i64 y)).put (some 44) (.tuple #[.agg #[.int .i64 (sk : Int), .bool sb, .int .i64 st, .int .i64 sr], .bool (decide (0 < r))])).put (some 36) (.tuple #[.agg #[.int .i64 (sk : Int), .bool sb, .int .i64 st, .int .i64 sr], .bool (decide (0 < r))])).put (some 45) (.agg #[.int .i64 (sk : Int), .bool sb, .int .i64 st, .int .i64 sr])).put (some 46) (.bool (decide (0 < r)))).put (some 13) (.pointer (some ⟨p, 0, none⟩))).put (some 14) (.bool (decide (0 < r)))) ∧ Hid (Below W1.heap.size W1 w' ∧ W1.heap.size ≤ p ∧ MA.Rg w' p 0 [.int .i64 (sk : Int), .bool sb, .int .i64 st, .int .i64 sr])) ?_ ?_
          · have hS : (fun w' : World => Below W1.heap.size W1 w') (World.drew _) := ((Below.refl _ W1).drew)
            refine wp_region_held (S := fun w' : World => Below W1.heap.size W1 w') (by kernel_rfl) ?_
            change wpAnyH _ _ _ _ _ _ _ _ (World.drew _)
            refine MR.takeH (i := 0) (some 37) ((.agg #[.int .i64 x0, .int .i64 x1, .int .i64 x2])) rfl rfl (by kernel_rfl) (by kernel_rfl) (by kernel_rfl) nofun hS (MR.free rfl) (fun wq hw => by simp [execOp, MR.ev, MR.size, hsz, e12, f12, e9, f9, e11, f11, e2, f2, (hw.cell (p := ⟨q, 0, none⟩) z0).trans f0', (hw.cell (p := ⟨q, 1, none⟩) z0).trans f1', (hw.cell (p := ⟨q, 2, none⟩) z0).trans f2', go_sem]) ?_
            refine MR.takeH (i := 1) (some 38) (.int .i64 (nn : Int)) rfl rfl (by kernel_rfl) (by kernel_rfl) (by kernel_rfl) nofun hS (MR.free rfl) (fun wq hw => by simp [execOp, MR.ev, MR.size, hsz, e12, f12, e9, f9, e11, f11, e2, f2, go_sem]) ?_
            refine MR.takeH (i := 2) (some 39) (.int .i64 (k : Int)) rfl rfl (by kernel_rfl) (by kernel_rfl) (by kernel_rfl) nofun hS (MR.free rfl) (fun wq hw => by simp [execOp, MR.ev, MR.size, hsz, e12, f12, e9, f9, e11, f11, e2, f2, go_sem]) ?_
            refine MR.takeH (i := 3) (some 40) ((.slice (some ⟨b5, off5, none⟩) xs.length cb)) rfl rfl (by kernel_rfl) (by kernel_rfl) (by kernel_rfl) nofun hS (MR.free rfl) (fun wq hw => by simp [execOp, MR.ev, MR.size, hsz, e12, f12, e9, f9, e11, f11, e2, f2, go_sem]) ?_
            refine MR.takeH (i := 4) (some 41) (.int .i64 (k : Int)) rfl rfl (by kernel_rfl) (by kernel_rfl) (by kernel_rfl) nofun hS (MR.free rfl) (fun wq hw => by simp [execOp, MR.ev, MR.size, hsz, e12, f12, e9, f9, e11, f11, e2, f2, go_sem]) ?_
            refine MR.takeH (i := 5) (some 42) (.pointer (some ⟨b5, off5 + k, none⟩)) rfl rfl (by kernel_rfl) (by kernel_rfl) (by kernel_rfl) nofun hS (MR.free rfl) (fun wq hw => by simp [execOp, MR.ev, MR.size, hsz, e12, f12, e9, f9, e11, f11, e2, f2, kk0, kkx, hlk, go_sem]) ?_
            refine MR.takeH (i := 6) (some 43) (.int .i64 y) rfl rfl (by kernel_rfl) (by kernel_rfl) (by kernel_rfl) nofun hS (MR.free rfl) (fun wq hw => by simp [execOp, MR.ev, MR.size, hsz, e12, f12, e9, f9, e11, f11, e2, f2, (hw.cell (p := ⟨b5, off5 + k, none⟩) z2).trans q2, go_sem]) ?_
            generalize hwd : World.drew W1 = v0 at hS ⊢
            clear hwd
            refine MR.two (i := 7) (j := 11) (by kernel_rfl) ?_ ?_
            · skip
              refine MR.callW (some 44) (79) (#[(.agg #[.int .i64 x0, .int .i64 x1, .int .i64 x2]), .int .i64 (nn : Int), .int .i64 (k : Int), .int .i64 y]) rfl rfl (MR.free rfl) (by simp [execOp, MR.ev, MR.size, hsz, e12, f12, e9, f9, e11, f11, e2, f2, go_sem]) ?_
              refine Calls.mono (SFN.out _) ?_
              rintro e v1 ⟨rfl, hb⟩
              have hSv1 : Below W1.heap.size W1 v1 := hS.trans (hb.mono hS.size)
              clear hb
              refine ⟨_, rfl, hSv1, ?_⟩
              refine MR.takeH (i := 8) (some 36) ((.tuple #[.agg #[.int .i64 (sk : Int), .bool sb, .int .i64 st, .int .i64 sr], .bool (decide (0 < r))])) rfl rfl (by kernel_rfl) (by kernel_rfl) (by kernel_rfl) nofun hSv1 (MR.free rfl) (fun wq hw => by simp [execOp, MR.ev, MR.size, hsz, e12, f12, e9, f9, e11, f11, e2, f2, go_sem]) ?_
              refine MR.takeH (i := 9) (some 45) ((.agg #[.int .i64 (sk : Int), .bool sb, .int .i64 st, .int .i64 sr])) rfl rfl (by kernel_rfl) (by kernel_rfl) (by kernel_rfl) nofun hSv1 (MR.free rfl) (fun wq hw => by simp [execOp, MR.ev, MR.size, hsz, e12, f12, e9, f9, e11, f11, e2, f2, go_sem]) ?_
              refine MR.takeH (i := 10) (some 46) (.bool (decide (0 < r))) rfl rfl (by kernel_rfl) (by kernel_rfl) (by kernel_rfl) nofun hSv1 (MR.free rfl) (fun wq hw => by simp [execOp, MR.ev, MR.size, hsz, e12, f12, e9, f9, e11, f11, e2, f2, go_sem]) ?_
              refine MR.nowH (i := 11) (some 13) (.pointer (some ⟨v1.heap.size, 0, none⟩)) (by kernel_rfl) rfl rfl (MR.free rfl) (MR.ex_alloc _ rfl [.int .i64 0, .bool false, .int .i64 0, .int .i64 0] 4 Try.infoST) ?_
              have hb : Below v1.heap.size v1 (v1.alloc (.cells #[.int .i64 0, .bool false, .int .i64 0, .int .i64 0] 99)) := (Below.refl _ v1).alloc (Nat.le_refl _) _
              have hSv2 := hSv1.trans (hb.mono hSv1.size)
              have hq : MA.Rg (v1.alloc (.cells #[.int .i64 0, .bool false, .int .i64 0, .int .i64 0] 99)) v1.heap.size 0 [.int .i64 0, .bool false, .int .i64 0, .int .i64 0] := MA.Rg.new _ _ _
              have hq0 : W1.heap.size ≤ v1.heap.size := hSv1.size
              refine ⟨hSv2, ?_⟩
              clear hb
              generalize v1.alloc (.cells #[.int .i64 0, .bool false, .int .i64 0, .int .i64 0] 99) = v2 at *
              generalize hqe : v1.heap.size = p at hq hq0 ⊢
              have hSz : Below W1.heap.size W1 (v2.setCells p 0 [.int .i64 (sk : Int), .bool sb, .int .i64 st, .int .i64 sr]) := MA.below_cells hq0 _ _ _ hSv2
              refine MR.storeH (i := 12) (by kernel_rfl) rfl (MR.free rfl) (MA.ex_store (vs := [.int .i64 (sk : Int), .bool sb, .int .i64 st, .int .i64 sr]) rfl (by simp [MR.ev, MR.size, hsz, e12, f12, e9, f9, e11, f11, e2, f2]) (by simp [MR.ev, MR.size, hsz, e12, f12, e9, f9, e11, f11, e2, f2]) hq.ok Try.sizeST rfl (by simp [Value.oneCell'])) ⟨hSz, ?_⟩
              refine MR.takeH (i := 13) (some 14) (.bool (decide (0 < r))) rfl rfl (by kernel_rfl) (by kernel_rfl) (by kernel_rfl) nofun hSz (MR.free rfl) (fun wq hw => by simp [execOp, MR.ev, MR.size, hsz, e12, f12, e9, f9, e11, f11, e2, f2, go_sem]) ?_
              refine wpAnyH_done (by kernel_rfl) ⟨rfl, p, ?_, ⟨hSz, hq0, hq.put rfl⟩⟩ _
              rw [HA.out]
              simp only [Act.put, List.setIfInBounds_toArray, List.set_cons_succ, List.set_cons_zero]
              try rfl
            · skip
              refine MR.nowW (some 13) (.pointer (some ⟨v0.heap.size, 0, none⟩)) rfl rfl (MR.free rfl) (MR.ex_alloc _ rfl [.int .i64 0, .bool false, .int .i64 0, .int .i64 0] 4 Try.infoST) ?_
              have hb : Below v0.heap.size v0 (v0.alloc (.cells #[.int .i64 0, .bool false, .int .i64 0, .int .i64 0] 99)) := (Below.refl _ v0).alloc (Nat.le_refl _) _
              have hSv1 := hS.trans (hb.mono hS.size)
              have hq : MA.Rg (v0.alloc (.cells #[.int .i64 0, .bool false, .int .i64 0, .int .i64 0] 99)) v0.heap.size 0 [.int .i64 0, .bool false, .int .i64 0, .int .i64 0] := MA.Rg.new _ _ _
              have hq0 : W1.heap.size ≤ v0.heap.size := hS.size
              refine ⟨hSv1, ?_⟩
              clear hb
              generalize v0.alloc (.cells #[.int .i64 0, .bool false, .int .i64 0, .int .i64 0] 99) = v1 at *
              generalize hqe : v0.heap.size = p at hq hq0 ⊢
              refine MR.callH (i := 7) (some 44) (79) (#[(.agg #[.int .i64 x0, .int .i64 x1, .int .i64 x2]), .int .i64 (nn : Int), .int .i64 (k : Int), .int .i64 y]) (by kernel_rfl) rfl rfl (MR.free rfl) (by simp [execOp, MR.ev, MR.size, hsz, e12, f12, e9, f9, e11, f11, e2, f2, go_sem]) ?_
              refine Calls.mono (SFN.out _) ?_
              rintro e v2 ⟨rfl, hb⟩
              have hSv2 : Below W1.heap.size W1 v2 := hSv1.trans (hb.mono hSv1.size)
              replace hq := hq.below hb hq.lt
              clear hb
              refine ⟨_, rfl, hSv2, ?_⟩
              refine MR.takeH (i := 8) (some 36) ((.tuple #[.agg #[.int .i64 (sk : Int), .bool sb, .int .i64 st, .int .i64 sr], .bool (decide (0 < r))])) rfl rfl (by kernel_rfl) (by kernel_rfl) (by kernel_rfl) nofun hSv2 (MR.free rfl) (fun wq hw => by simp [execOp, MR.ev, MR.size, hsz, e12, f12, e9, f9, e11, f11, e2, f2, go_sem]) ?_
              refine MR.takeH (i := 9) (some 45) ((.agg #[.int .i64 (sk : Int), .bool sb, .int .i64 st, .int .i64 sr])) rfl rfl (by kernel_rfl) (by kernel_rfl) (by kernel_rfl) nofun hSv2 (MR.free rfl) (fun wq hw => by simp [execOp, MR.ev, MR.size, hsz, e12, f12, e9, f9, e11, f11, e2, f2, go_sem]) ?_
              refine MR.takeH (i := 10) (some 46) (.bool (decide (0 < r))) rfl rfl (by kernel_rfl) (by kernel_rfl) (by kernel_rfl) nofun hSv2 (MR.free rfl) (fun wq hw => by simp [execOp, MR.ev, MR.size, hsz, e12, f12, e9, f9, e11, f11, e2, f2, go_sem]) ?_
              have hSz : Below W1.heap.size W1 (v2.setCells p 0 [.int .i64 (sk : Int), .bool sb, .int .i64 st, .int .i64 sr]) := MA.below_cells hq0 _ _ _ hSv2
              refine MR.storeH (i := 12) (by kernel_rfl) rfl (MR.free rfl) (MA.ex_store (vs := [.int .i64 (sk : Int), .bool sb, .int .i64 st, .int .i64 sr]) rfl (by simp [MR.ev, MR.size, hsz, e12, f12, e9, f9, e11, f11, e2, f2]) (by simp [MR.ev, MR.size, hsz, e12, f12, e9, f9, e11, f11, e2, f2]) hq.ok Try.sizeST rfl (by simp [Value.oneCell'])) ⟨hSz, ?_⟩
              refine MR.takeH (i := 13) (some 14) (.bool (decide (0 < r))) rfl rfl (by kernel_rfl) (by kernel_rfl) (by kernel_rfl) nofun hSz (MR.free rfl) (fun wq hw => by simp [execOp, MR.ev, MR.size, hsz, e12, f12, e9, f9, e11, f11, e2, f2, go_sem]) ?_
              refine wpAnyH_done (by kernel_rfl) ⟨rfl, p, ?_, ⟨hSz, hq0, hq.put rfl⟩⟩ _
              rw [HA.out]
              simp only [Act.put, List.setIfInBounds_toArray, List.set_cons_succ, List.set_cons_zero]
              try rfl
          rintro aa w4 ⟨p, rfl, hf⟩
          rw [HA.out]
          obtain ⟨hb4, hp0, hp⟩ := hf.out
          have HS4 : Hid _ := HS.out.below hb4
          have hpB : w.heap.size + 3 ≤ p := by omega
          clear hf HA e12 f12 e9 f9 e11 f11 e2 f2 hsz q2 f0' f1' f2' z0 z2 SFN HS hb4 hp0
          simp only [Act.put, List.setIfInBounds_toArray, List.set_cons_succ, List.set_cons_zero]
          by_cases hr : 0 < r
          · have hE := SVI.out hr
            have hst : st = t := by have h9 := hto.out; rw [← hE] at h9; exact h9
            subst hst
            obtain ⟨t0, t7⟩ := NW.out hr
            obtain ⟨tn, rfl⟩ := Int.eq_ofNat_of_zero_le t0
            have ht8 : tn < 8 := by omega
            have tt8 : (tn : Int) < 8 := by omega
            rw [Int.toNat_natCast] at hgo SDD
            have EQN := eqNil8
            have EQF := eqFun8
            have hgo1 := hgo.out
            rw [decide_eq_true hr, Bool.true_and] at hgo1
            have HGO : Hid _ := hgo1
            have HE : Hid _ := hE
            have hdr : decide (0 < r) = true := decide_eq_true hr
            rw [hdr]
            clear hgo1 hgo NW hto SVI hE hdr t0 t7
            have p2 : w4.cell? ⟨p, 2, none⟩ = some (.int .i64 (tn : Int)) := by have := hp.cell (j := 2) (v := .int .i64 (tn : Int)) rfl; rwa [Nat.zero_add] at this
            have pl : p < w4.heap.size := hp.lt
            have rt : w4.cell? ⟨w.heap.size + 1, tn, none⟩ = some (vf tn) := by have := HS4.out.rows.cell (FL.vl_get vf ht8); rwa [Nat.zero_add] at this
            have hw4 : w.heap.size + 1 < w4.heap.size := by have := HS4.out.sz; omega
            rcases HS4.out.fn tn ht8 with ⟨hby, hvf⟩ | ⟨hby, F, cs, hvf, hRF⟩
            · rw [hvf] at rt
              have hY := EY.out (by rw [HGO.out, hby]; rfl)
              have HY : Hid _ := hY
              clear EY EN HGO hY
              have hnt : nn ≠ tn := fun e => HHK.out (by rw [e]; exact hby)
              have SD : Hid (FL.Sd s1 (FL.stepd xs fs (nn : Int) s1 k) nn tn (tn : Int) (FL.stp xs fs (nn : Int) k)) := SDD.out ht8
              obtain ⟨F, cs, hvn, hRFn⟩ : ∃ F cs, vf nn = .func (.func F) #[] cs ∧ FL.RowF (w.heap.size + 3) w4 F cs (s1.L nn) := by
                rcases HS4.out.fn nn hn8 with ⟨h1, _⟩ | ⟨_, F, cs, h2, h3⟩
                · exact absurd h1 HHK.out
                · exact ⟨F, cs, h2, h3⟩
              have rn : w4.cell? ⟨w.heap.size + 1, nn, none⟩ = some (.func (.func F) #[] cs) := by have := HS4.out.rows.cell (FL.vl_get vf hn8); rw [hvn] at this; rwa [Nat.zero_add] at this
              have p0 : w4.cell? ⟨p, 0, none⟩ = some (.int .i64 (sk : Int)) := by have := hp.cell (j := 0) (v := .int .i64 (sk : Int)) rfl; rwa [Nat.zero_add] at this
              have p1 : w4.cell? ⟨p, 1, none⟩ = some (.bool sb) := by have := hp.cell (j := 1) (v := .bool sb) rfl; rwa [Nat.zero_add] at this
              have p3 : w4.cell? ⟨p, 3, none⟩ = some (.int .i64 sr) := by have := hp.cell (j := 3) (v := .int .i64 sr) rfl; rwa [Nat.zero_add] at this
              have zt : w4.frozen? ⟨w.heap.size + 1, tn, none⟩ = false := by have := HS4.out.rows.free (j := tn) (by rw [FL.vl_len]; exact ht8); rwa [Nat.zero_add] at this
              have HRF : Hid _ := hRFn
              clear hRFn hvn SDD
              go_wp2_with fail
              refine MR.frame fun A hA => ?_
              have hsz : A.tmps.size = 68 := by rw [hA]; rfl
              have e13 : A.eval (.tmp 13) = .pointer (some ⟨p, 0, none⟩) := by rw [hA]; rfl
              have f13 := MR.read (t := 13) (by rw [hsz]; decide) e13
              have e9 : A.eval (.tmp 9) = .int .i64 (nn : Int) := by rw [hA]; rfl
              have f9 := MR.read (t := 9) (by rw [hsz]; decide) e9
              have e7 : A.eval (.tmp 7) = .pointer (some ⟨w.heap.size + 1, 0, none⟩) := by rw [hA]; rfl
              have f7 := MR.read (t := 7) (by rw [hsz]; decide) e7
              have HA : Hid (A = _) := hA
              clear hA
              refine MR.cut (fun aa w' => ∃ v0 : World, aa = ((((((((A.put (some 55) (.pointer (some ⟨p, 2, none⟩))).put (some 56) (.int .i64 (tn : Int))).put (some 57) (.int .i64 (nn : Int))).put (some 58) (.pointer (some ⟨w.heap.size + 1, nn, none⟩))).put (some 59) (.func (.func F) #[] cs)).put (some 60) (.agg #[.int .i64 (sk : Int), .bool sb, .int .i64 (tn : Int), .int .i64 sr])).put (some 61) (.func (.func 84) #[] #[.pointer (some ⟨v0.heap.size, 0, none⟩), .pointer (some ⟨v0.heap.size + 1, 0, none⟩)])).put (some 62) (.pointer (some ⟨w.heap.size + 1, tn, none⟩))) ∧ Hid (Below w4.heap.size w4 v0 ∧ w' = (((v0.alloc (.cells #[.func (.func F) #[] cs] 85)).alloc (.cells #[.int .i64 (sk : Int), .bool sb, .int .i64 (tn : Int), .int .i64 sr] 99)).setCell ⟨w.heap.size + 1, tn, none⟩ (.func (.func 84) #[] #[.pointer (some ⟨v0.heap.size, 0, none⟩), .pointer (some ⟨v0.heap.size + 1, 0, none⟩)])))) ?_ ?_
              · have hS : (fun w' : World => w'.cell? ⟨p, 0, none⟩ = some (.int .i64 (sk : Int)) ∧ w'.cell? ⟨p, 1, none⟩ = some (.bool sb) ∧ w'.cell? ⟨p, 2, none⟩ = some (.int .i64 (tn : Int)) ∧ w'.cell? ⟨p, 3, none⟩ = some (.int .i64 sr) ∧ w'.cell? ⟨w.heap.size + 1, nn, none⟩ = some (.func (.func F) #[] cs)) (World.drew w4) := ⟨p0, p1, p2, p3, rn⟩
                have hSb : Below w4.heap.size w4 (World.drew w4) := ((Below.refl _ w4).drew)
                refine wp_region_held (S := fun w' : World => w'.cell? ⟨p, 0, none⟩ = some (.int .i64 (sk : Int)) ∧ w'.cell? ⟨p, 1, none⟩ = some (.bool sb) ∧ w'.cell? ⟨p, 2, none⟩ = some (.int .i64 (tn : Int)) ∧ w'.cell? ⟨p, 3, none⟩ = some (.int .i64 sr) ∧ w'.cell? ⟨w.heap.size + 1, nn, none⟩ = some (.func (.func F) #[] cs)) (by kernel_rfl) ?_
                change wpAnyH _ _ _ _ _ _ _ _ (World.drew _)
                refine MR.takeH (i := 0) (some 55) (.pointer (some ⟨p, 2, none⟩)) rfl rfl (by kernel_rfl) (by kernel_rfl) (by kernel_rfl) nofun hS (MR.free rfl) (fun wq hw => by simp [execOp, MR.ev, MR.size, hsz, e13, f13, e9, f9, e7, f7, go_sem]) ?_
                refine MR.takeH (i := 1) (some 56) (.int .i64 (tn : Int)) rfl rfl (by kernel_rfl) (by kernel_rfl) (by kernel_rfl) nofun hS (MR.free rfl) (fun wq hw => by simp [execOp, MR.ev, MR.size, hsz, e13, f13, e9, f9, e7, f7, hw.2.2.1, go_sem]) ?_
                refine MR.takeH (i := 2) (some 57) (.int .i64 (nn : Int)) rfl rfl (by kernel_rfl) (by kernel_rfl) (by kernel_rfl) nofun hS (MR.free rfl) (fun wq hw => by simp [execOp, MR.ev, MR.size, hsz, e13, f13, e9, f9, e7, f7, go_sem]) ?_
                refine MR.takeH (i := 3) (some 58) (.pointer (some ⟨w.heap.size + 1, nn, none⟩)) rfl rfl (by kernel_rfl) (by kernel_rfl) (by kernel_rfl) nofun hS (MR.free rfl) (fun wq hw => by simp [execOp, MR.ev, MR.size, hsz, e13, f13, e9, f9, e7, f7, nn8, hn8, go_sem]) ?_
                refine MR.takeH (i := 4) (some 59) (.func (.func F) #[] cs) rfl rfl (by kernel_rfl) (by kernel_rfl) (by kernel_rfl) nofun hS (MR.free rfl) (fun wq hw => by simp [execOp, MR.ev, MR.size, hsz, e13, f13, e9, f9, e7, f7, hw.2.2.2.2, go_sem]) ?_
                refine MR.takeH (i := 5) (some 60) ((.agg #[.int .i64 (sk : Int), .bool sb, .int .i64 (tn : Int), .int .i64 sr])) rfl rfl (by kernel_rfl) (by kernel_rfl) (by kernel_rfl) nofun hS (MR.free rfl) (fun wq hw => by simp [execOp, MR.ev, MR.size, hsz, e13, f13, e9, f9, e7, f7, hw.1, hw.2.1, hw.2.2.1, hw.2.2.2.1, go_sem]) ?_
                generalize hwd : World.drew w4 = v0 at hS hSb ⊢
                clear hwd
                refine MR.callH (i := 6) (some 61) (80) (#[.func (.func F) #[] cs, (.agg #[.int .i64 (sk : Int), .bool sb, .int .i64 (tn : Int), .int .i64 sr])]) (by kernel_rfl) rfl rfl (MR.free rfl) (by simp [execOp, MR.ev, MR.size, hsz, e13, f13, e9, f9, e7, f7, go_sem]) ?_
                refine Calls.mono (and_any F cs ⟨sk, sb, (tn : Int), sr⟩ v0) ?_
                rintro e v1 ⟨rfl, rfl⟩
                have hA1 : Below v0.heap.size v0 ((v0.alloc (.cells #[.func (.func F) #[] cs] 85)).alloc (.cells #[.int .i64 (sk : Int), .bool sb, .int .i64 (tn : Int), .int .i64 sr] 99)) := ((Below.refl _ v0).alloc (Nat.le_refl _) _).alloc (by simp) _
                have hS1 : Below w4.heap.size w4 ((v0.alloc (.cells #[.func (.func F) #[] cs] 85)).alloc (.cells #[.int .i64 (sk : Int), .bool sb, .int .i64 (tn : Int), .int .i64 sr] 99)) := hSb.trans (hA1.mono hSb.size)
                have tc : ((v0.alloc (.cells #[.func (.func F) #[] cs] 85)).alloc (.cells #[.int .i64 (sk : Int), .bool sb, .int .i64 (tn : Int), .int .i64 sr] 99)).cell? ⟨w.heap.size + 1, tn, none⟩ = some .nilFunc := (hS1.cell (p := ⟨w.heap.size + 1, tn, none⟩) hw4).trans rt
                have tz : ((v0.alloc (.cells #[.func (.func F) #[] cs] 85)).alloc (.cells #[.int .i64 (sk : Int), .bool sb, .int .i64 (tn : Int), .int .i64 sr] 99)).frozen? ⟨w.heap.size + 1, tn, none⟩ = false := (hS1.frozen (p := ⟨w.heap.size + 1, tn, none⟩) hw4).trans zt
                have tl : w.heap.size + 1 < ((v0.alloc (.cells #[.func (.func F) #[] cs] 85)).alloc (.cells #[.int .i64 (sk : Int), .bool sb, .int .i64 (tn : Int), .int .i64 sr] 99)).heap.size := Nat.lt_of_lt_of_le hw4 hS1.size
                have hSC : (fun w' : World => w'.cell? ⟨p, 0, none⟩ = some (.int .i64 (sk : Int)) ∧ w'.cell? ⟨p, 1, none⟩ = some (.bool sb) ∧ w'.cell? ⟨p, 2, none⟩ = some (.int .i64 (tn : Int)) ∧ w'.cell? ⟨p, 3, none⟩ = some (.int .i64 sr) ∧ w'.cell? ⟨w.heap.size + 1, nn, none⟩ = some (.func (.func F) #[] cs)) ((v0.alloc (.cells #[.func (.func F) #[] cs] 85)).alloc (.cells #[.int .i64 (sk : Int), .bool sb, .int .i64 (tn : Int), .int .i64 sr] 99)) := ⟨(hS1.cell (p := ⟨p, 0, none⟩) pl).trans p0, (hS1.cell (p := ⟨p, 1, none⟩) pl).trans p1, (hS1.cell (p := ⟨p, 2, none⟩) pl).trans p2, (hS1.cell (p := ⟨p, 3, none⟩) pl).trans p3, (hS1.cell (p := ⟨w.heap.size + 1, nn, none⟩) hw4).trans rn⟩
                refine ⟨_, rfl, hSC, ?_⟩
                refine MR.takeH (i := 7) (some 62) (.pointer (some ⟨w.heap.size + 1, tn, none⟩)) rfl rfl (by kernel_rfl) (by kernel_rfl) (by kernel_rfl) nofun hSC (MR.free rfl) (fun wq hw => by simp [execOp, MR.ev, MR.size, hsz, e13, f13, e9, f9, e7, f7, tt8, ht8, go_sem]) ?_
                generalize hv2 : ((v0.alloc (.cells #[.func (.func F) #[] cs] 85)).alloc (.cells #[.int .i64 (sk : Int), .bool sb, .int .i64 (tn : Int), .int .i64 sr] 99)) = v2 at hSC tc tz tl ⊢
                have hfar : ∀ j, (v2.setCell ⟨w.heap.size + 1, tn, none⟩ (.func (.func 84) #[] #[.pointer (some ⟨v0.heap.size, 0, none⟩), .pointer (some ⟨v0.heap.size + 1, 0, none⟩)])).cell? ⟨p, j, none⟩ = v2.cell? ⟨p, j, none⟩ := fun j => World.cell?_of_block (a := ⟨p, j, none⟩) (Below.heap_setCell _ _ _ _ (by show p ≠ w.heap.size + 1; omega))
                have hnear : (v2.setCell ⟨w.heap.size + 1, tn, none⟩ (.func (.func 84) #[] #[.pointer (some ⟨v0.heap.size, 0, none⟩), .pointer (some ⟨v0.heap.size + 1, 0, none⟩)])).cell? ⟨w.heap.size + 1, nn, none⟩ = v2.cell? ⟨w.heap.size + 1, nn, none⟩ := World.cell?_setCells_out (w.heap.size + 1) [(.func (.func 84) #[] #[.pointer (some ⟨v0.heap.size, 0, none⟩), .pointer (some ⟨v0.heap.size + 1, 0, none⟩)])] tn v2 ⟨w.heap.size + 1, nn, none⟩ (fun _ _ => by simp; omega)
                have hS2 : (fun w' : World => w'.cell? ⟨p, 0, none⟩ = some (.int .i64 (sk : Int)) ∧ w'.cell? ⟨p, 1, none⟩ = some (.bool sb) ∧ w'.cell? ⟨p, 2, none⟩ = some (.int .i64 (tn : Int)) ∧ w'.cell? ⟨p, 3, none⟩ = some (.int .i64 sr) ∧ w'.cell? ⟨w.heap.size + 1, nn, none⟩ = some (.func (.func F) #[] cs)) (v2.setCell ⟨w.heap.size + 1, tn, none⟩ (.func (.func 84) #[] #[.pointer (some ⟨v0.heap.size, 0, none⟩), .pointer (some ⟨v0.heap.size + 1, 0, none⟩)])) := ⟨(hfar 0).trans hSC.1, (hfar 1).trans hSC.2.1, (hfar 2).trans hSC.2.2.1, (hfar 3).trans hSC.2.2.2.1, hnear.trans hSC.2.2.2.2⟩
                refine MR.storeH (w' := v2.setCell ⟨w.heap.size + 1, tn, none⟩ (.func (.func 84) #[] #[.pointer (some ⟨v0.heap.size, 0, none⟩), .pointer (some ⟨v0.heap.size + 1, 0, none⟩)])) (i := 8) (by kernel_rfl) rfl (MR.free rfl) (by simp [execOp, MR.ev, MR.size, hsz, e13, f13, e9, f9, e7, f7, SF, tc, tz, tl, go_sem]) ⟨hS2, ?_⟩
                refine wpAnyH_done (by kernel_rfl) ⟨rfl, v0, ?_, ⟨hSb, by rw [← hv2]⟩⟩ _
                rw [HA.out]
                simp only [Act.put, List.setIfInBounds_toArray, List.set_cons_succ, List.set_cons_zero]
                try rfl
              rintro aa w5 ⟨v0, rfl, hf⟩
              rw [HA.out]
              obtain ⟨hb5, hw5⟩ := hf.out
              have hA1 : Below v0.heap.size v0 ((v0.alloc (.cells #[.func (.func F) #[] cs] 85)).alloc (.cells #[.int .i64 (sk : Int), .bool sb, .int .i64 (tn : Int), .int .i64 sr] 99)) := ((Below.refl _ v0).alloc (Nat.le_refl _) _).alloc (by simp) _
              have hR0 := (HS4.out.below hb5).below hA1
              have hv0 : w.heap.size + 3 ≤ v0.heap.size := Nat.le_trans HS4.out.sz hb5.size
              have hRF2 : FL.RowF (w.heap.size + 3) ((v0.alloc (.cells #[.func (.func F) #[] cs] 85)).alloc (.cells #[.int .i64 (sk : Int), .bool sb, .int .i64 (tn : Int), .int .i64 sr] 99)) 84 #[.pointer (some ⟨v0.heap.size, 0, none⟩), .pointer (some ⟨v0.heap.size + 1, 0, none⟩)] (s1.L nn ++ [⟨sk, sb, (tn : Int), sr⟩]) := by
                have h1 := HRF.out.keep (W' := (v0.alloc (.cells #[.func (.func F) #[] cs] 85)).alloc (.cells #[.int .i64 (sk : Int), .bool sb, .int .i64 (tn : Int), .int .i64 sr] 99)) (fun k' hk' _ _ => (hA1.block k' (Nat.lt_of_lt_of_le hk' hb5.size)).trans (hb5.block k' hk'))
                refine .and ⟨sk, sb, (tn : Int), sr⟩ h1 hv0 (by omega) ?_ ?_
                · rw [Below.heap_alloc _ _ _ (by simp)]; exact heap_alloc_new _ _
                · rw [show v0.heap.size + 1 = (v0.alloc (.cells #[.func (.func F) #[] cs] 85)).heap.size from by simp]; exact heap_alloc_new _ _
              rw [HE.out, ← SD.out.L1] at hRF2
              have hR2 := hR0.put (s' := FL.stepd xs fs (nn : Int) s1 k) ht8 hRF2 SD.out.B1 (fun m _ hm => ⟨SD.out.B2 m hm, SD.out.L2 m hm⟩)
              rw [Nat.zero_add, ← hw5] at hR2
              generalize FL.putF vf tn _ = vf2 at hR2
              have p2' : w5.cell? ⟨p, 2, none⟩ = some (.int .i64 (tn : Int)) := by
                rw [hw5]
                refine (World.cell?_of_block (a := ⟨p, 2, none⟩) (Below.heap_setCell _ _ _ _ (by show p ≠ w.heap.size + 1; omega))).trans ?_
                exact (hA1.cell (p := ⟨p, 2, none⟩) (Nat.lt_of_lt_of_le pl hb5.size)).trans ((hb5.cell (p := ⟨p, 2, none⟩) pl).trans p2)
              have pl' : p < w5.heap.size := by rw [hw5, FL.set_size]; simp; have := hb5.size; omega
              have HR2 : Hid _ := hR2
              clear hf HA e13 f13 e9 f9 e7 f7 hsz hb5 hw5 hA1 hR0 hRF2 hR2 HRF p0 p1 p2 p3 rn rt zt HS4 hp EQN EQF HE hby pl hw4
              simp only [Act.put, List.setIfInBounds_toArray, List.set_cons_succ, List.set_cons_zero]
              clear hv0
              go_wp2_with fail
              refine Calls.mono (put_any (w.heap.size + 2) (w.heap.size + 3) (s1.q.drop (i + 1)) (tn : Int) w5 HR2.out.q (by have := HHQ.out; simp only [List.length_drop]; omega) HR2.out.sz (by omega)) ?_
              rintro e w6 ⟨rfl, hq6, hk6⟩
              have H6 := HR2.out.kp hk6 hq6
              have hqd : s1.q.drop (i + 1) ++ [(tn : Int)] = (FL.stepd xs fs (nn : Int) s1 k).q.drop (i + 1) := by rw [SD.out.Q, List.drop_append_of_le_length (by have := HHM.out; omega)]
              rw [hqd, ← HY.out] at H6
              have H7 : Hid _ := H6
              clear HR2 hq6 hk6 H6 hqd SD HY
              go_wp2
              go_roundw
              case rel => exact ⟨k + 1, vf2, by go_num, by omega, H7.out⟩
              case measure => simp [intOf]; omega
            · rw [hvf] at rt
              have hN := EN.out (by rw [HGO.out, decide_eq_false hby])
              have H7 : Hid (FL.RS w w4 w.heap.size (FL.scan xs fs (nn : Int) s0 (k + 1)) ((FL.scan xs fs (nn : Int) s0 (k + 1)).q.drop (i + 1)) vf) := by rw [hN]; exact HS4.out
              clear EY EN HGO hN HS4 hRF hvf hp SDD HE
              go_wp2
              go_roundw
              case rel => exact ⟨k + 1, vf, by go_num, by omega, H7.out⟩
              case measure => simp [intOf]; omega
          · have hN := EN.out (by rw [hgo.out, decide_eq_false hr]; rfl)
            have H7 : Hid (FL.RS w w4 w.heap.size (FL.scan xs fs (nn : Int) s0 (k + 1)) ((FL.scan xs fs (nn : Int) s0 (k + 1)).q.drop (i + 1)) vf) := by rw [hN]; exact HS4.out
            have hdr : decide (0 < r) = false := decide_eq_false hr
            rw [hdr]
            clear EY EN hgo hN HS4 hp NW SVI hto hdr hr SDD
            go_wp2
            go_roundw
            case rel => exact ⟨k + 1, vf, by go_num, by omega, H7.out⟩
            case measure => simp [intOf]; omega
        · obtain rfl : k = xs.length := by omega
          have hS2 : FL.RS w wr w.heap.size (FL.at8 xs fs (fn : Int) (i + 1)) ((FL.at8 xs fs (fn : Int) (i + 1)).q.drop (i + 1)) vf := by rw [hNX.out]; exact hS
          have hi2 : i + 1 ≤ (FL.at8 xs fs (fn : Int) (i + 1)).q.length := by rw [hNX.out]; exact ((SCi.out xs.length (Nat.le_refl _)).more i HQL.out).1
          have hs2 := TRn.out.short
          have HMU2 : Hid (∀ (W : World) (nv ov : Value) (vf' : Nat → Value), FL.Lp w W w.heap.size xs fs (fn : Int) nv ov (i + 1) vf' → FL.mR w.heap.size ov W = 8 - (i + 1) ∧ i + 1 ≤ 8) := fun W nv ov vf' h => FL.Lp.mr TRn.out h
          have HLP : Hid (∀ (W : World) (nv ov : Value) (vf' : Nat → Value), ((i + 1 < (FL.at8 xs fs (fn : Int) (i + 1)).q.length ∧ nv = .int .i64 ((FL.at8 xs fs (fn : Int) (i + 1)).q.getD (i + 1) 0) ∧ ov = .bool true ∧ FL.RS w W w.heap.size (FL.at8 xs fs (fn : Int) (i + 1)) ((FL.at8 xs fs (fn : Int) (i + 1)).q.drop (i + 1 + 1)) vf') ∨ ((FL.at8 xs fs (fn : Int) (i + 1)).q.length = i + 1 ∧ nv = .int .i64 0 ∧ ov = .bool false ∧ FL.RS w W w.heap.size (FL.at8 xs fs (fn : Int) (i + 1)) [] vf')) → FL.Lp w W w.heap.size xs fs (fn : Int) nv ov (i + 1) vf') := fun W nv ov vf' h => ⟨h⟩
          clear hS SCi hNX TRn HNN HQL GC GF HI HO
          generalize FL.at8 xs fs (fn : Int) (i + 1) = s2 at *
          by_cases hlt : i + 1 < s2.q.length
          · have hd := FL.drop_get s2.q (i + 1) hlt
            rw [hd] at hS2
            have HS2 : Hid _ := hS2
            clear hS2 hd
            generalize hyy : s2.q.getD (i + 1) 0 = yy at *
            have HYY : Hid _ := hyy
            clear hyy
            go_wp2_with fail
            refine Calls.mono (takeCons_any (w.heap.size + 2) (w.heap.size + 3) yy (s2.q.drop (i + 1 + 1)) wr HS2.out.q (by simp only [List.length_drop]; omega)) ?_
            rintro e w7 ⟨rfl, hq7, hk7⟩
            have HL7 : Hid _ := HLP.out w7 (.int .i64 yy) (.bool true) vf (.inl ⟨hlt, rfl, rfl, HS2.out.kp hk7 hq7⟩)
            have HM7 : Hid _ := HMU2.out w7 _ _ vf HL7.out
            clear HS2 hq7 hk7 HLP HMU2 HYY hs2 hi2 hlt
            go_wp2
            go_roundw
            case rel => exact ⟨i + 1, vf, HL7.out⟩
            case measure => have h1 := HM7.out; have h2 := HMU.out; omega
          · have hE2 : s2.q.length = i + 1 := by omega
            have hd : s2.q.drop (i + 1) = [] := List.drop_eq_nil_of_le (by omega)
            rw [hd] at hS2
            have HS2 : Hid _ := hS2
            have HE2 : Hid _ := hE2
            clear hS2 hd hE2 hlt hs2 hi2
            go_wp2_with fail
            refine Calls.mono (takeNil_any (w.heap.size + 2) (w.heap.size + 3) wr HS2.out.q) ?_
            rintro e w7 ⟨rfl, rfl⟩
            have HL7 : Hid _ := HLP.out wr (.int .i64 0) (.bool false) vf (.inr ⟨HE2.out, rfl, rfl, HS2.out⟩)
            have HM7 : Hid _ := HMU2.out wr _ _ vf HL7.out
            clear HS2 HLP HMU2 HE2
            go_wp2
            go_roundw
            case rel => exact ⟨i + 1, vf, HL7.out⟩
            case measure => have h1 := HM7.out; have h2 := HMU.out; omega
    · clear hLp
      have hi8 := HMU.out.2
      have HSR : Hid (FL.srch xs fs (fn : Int) = FL.at8 xs fs (fn : Int) i) := FL.srch_is hi8 (Nat.le_of_eq hi)
      have HFN0 := hR.fin (FL.vl vf)
      have HFN : Hid (FL.FnOk w.heap.size (wr.setCells w.heap.size 0 (FL.vl vf)) (FL.srch xs fs (fn : Int)) vf) := by rw [HSR.out]; exact HFN0
      have ONE : Hid (∀ v ∈ FL.vl vf, v.oneCell' = true) := FL.vl_one HFN0
      have HRJ : Hid (MA.Rg wr (w.heap.size + 1) 0 (FL.vl vf)) := hR.rows
      have HRR : Hid (MA.Rg wr w.heap.size 0 FL.nils) := hR.res
      have HRP : Hid (MA.Rg (wr.setCells w.heap.size 0 (FL.vl vf)) w.heap.size 0 (FL.vl vf)) := hR.res.put (by rw [FL.vl_len]; rfl)
      have HBP : Hid (Below w.heap.size w (wr.setCells w.heap.size 0 (FL.vl vf))) := MA.below_cells (Nat.le_refl _) _ _ _ hR.bl
      clear hR HFN0 HSR HMU TR SC GC GF HI HO hsq
      go_wp2_with (first
        | (refine MA.load_m rfl 86 _ rfl rfl (cs := FL.vl vf) ?_ Try.underlying86 rfl Try.sizeR (FL.vl_len _) ?_; exact HRJ.out; clear HRJ)
        | (refine MA.store_m rfl 86 _ _ rfl rfl rfl (vs := FL.vl vf) (cs := FL.nils) ?_ Try.sizeR rfl (FL.vl_len _) ONE.out ?_; exact HRR.out; clear HRR))
      exact bodyPost_ret (MA.ret_cell rfl rfl (MA.load_rg HRP.out Try.underlying86 rfl Try.sizeR (FL.vl_len _))) rfl ⟨vf, rfl, HFN.out, HBP.out⟩
end Go.Proofs.Ytdobnplcacaomaa
namespace Go.Proofs.Ytdobnplcacaomaa
open Go.RowKit
set_option linter.unusedSimpArgs false in
set_option maxHeartbeats 1600000 in
set_option maxRecDepth 100000 in
theorem roomTell_any (g : Nat) (m : Int) (s : FL.Stp) (W : World) (hg : W.heap[g]? = some (.cells #[.int .i64 m] 3 (0, 0))) :
    Calls Try.prog 85 #[s.v, .pointer (some ⟨g, 0, none⟩)] W fun e w' => e = .returned (.tuple #[]) ∧ w'.heap[g]? = some (.cells #[.int .i64 (min m s.room)] 3 (0, 0)) ∧ MC.Only g W w' := by
  obtain ⟨sk, sb, st, sr⟩ := s
  have c0 : W.cell? ⟨g, 0, none⟩ = some (.int .i64 m) := by rw [FL.cell_block hg]; rfl
  have z0 : W.frozen? ⟨g, 0, none⟩ = false := FL.free_block hg
  have l0 : g < W.heap.size := FL.lt_of_block hg
  have FIN : Hid (∀ x : Int, ((W.setCell ⟨g, 0, none⟩ (.int .i64 x)).alloc (.cells #[.int .i64 (sk : Int), .bool sb, .int .i64 st, .int .i64 sr] 99)).heap[g]? = some (.cells #[.int .i64 x] 3 (0, 0)) ∧ MC.Only g W ((W.setCell ⟨g, 0, none⟩ (.int .i64 x)).alloc (.cells #[.int .i64 (sk : Int), .bool sb, .int .i64 st, .int .i64 sr] 99))) := fun x => by
    have hs : (W.setCell ⟨g, 0, none⟩ (.int .i64 x)).heap.size = W.heap.size := FL.set_size _ _ _
    refine ⟨by rw [Below.heap_alloc _ _ _ (by omega), FL.set_block _ hg]; rfl, ?_⟩
    exact ((MC.Only.refl g W).setCell 0 _).trans (MC.Only.of_below ((Below.refl _ _).alloc (Nat.le_refl _) _))
  clear hg
  go_enter Try.func85, Try.ntmps85
  go_wp2
  · exact bodyPost_end (results_none rfl _ _ _) rfl ⟨rfl, by rw [show min m sr = sr from by omega]; exact FIN.out _⟩
  · exact bodyPost_end (results_none rfl _ _ _) rfl ⟨rfl, by rw [show min m sr = m from by omega]; exact FIN.out _⟩
set_option linter.unusedSimpArgs false in
set_option maxHeartbeats 1600000 in
set_option maxRecDepth 100000 in
theorem room_any (lo F : Nat) (cs : Array Value) (l : List FL.Stp) (w : World) (h : FL.RowF lo w F cs l) :
    Calls Try.prog 81 #[.func (.func F) #[] cs] w fun e w' => e = .returned (.int .i64 (FL.mostOf l)) ∧ Below w.heap.size w w' := by
  have h0 : w.alloc (.cells #[.int .i64 100] 3) = w.alloc (.cells #[.int .i64 100] 3) := rfl
  have RC := rowCallRoom_any lo w.heap.size w l (fun done W => Below w.heap.size w W ∧ W.heap[w.heap.size]? = some (.cells #[.int .i64 (FL.mostOf done)] 3 (0, 0)))
    (fun done s W _ hI => (roomTell_any w.heap.size (FL.mostOf done) s W hI.2).mono (by
      rintro e w' ⟨rfl, h1, h2⟩
      refine ⟨rfl, ?_, by rw [FL.mostOf_snoc]; exact h1⟩
      exact hI.1.trans (h2.below (Nat.le_refl _) hI.1.size)))
    (fun done W hI k hk _ _ => hI.1.block k hk) h [] (w.alloc (.cells #[.int .i64 100] 3)) (by rw [List.nil_append]; exact List.prefix_rfl) ⟨(Below.refl _ w).alloc (Nat.le_refl _) _, heap_alloc_new _ _⟩
  rw [List.nil_append] at RC
  clear h0
  rcases h.which with ⟨rfl, rfl⟩ | ⟨rfl, c1, c2, rfl⟩
  · have RC2 : Hid (Calls Try.prog 76 #[.func (.func 85) #[] #[.pointer (some ⟨w.heap.size, 0, none⟩)]] (w.alloc (.cells #[.int .i64 100] 3)) fun e w' => e = .returned (.tuple #[]) ∧ (Below w.heap.size w w' ∧ w'.heap[w.heap.size]? = some (.cells #[.int .i64 (FL.mostOf l)] 3 (0, 0)))) := RC
    clear RC h
    generalize FL.mostOf l = m at *
    go_enter Try.func81, Try.ntmps81
    go_wp2_with fail
    refine Calls.mono RC2.out ?_
    rintro e w2 ⟨rfl, hb2, hg2⟩
    have c2 : w2.cell? ⟨w.heap.size, 0, none⟩ = some (.int .i64 m) := by rw [FL.cell_block hg2]; rfl
    have l2 : w.heap.size < w2.heap.size := FL.lt_of_block hg2
    clear RC2 hg2
    go_wp2
    go_ret
    exact ⟨rfl, hb2⟩
  · have RC2 : Hid (Calls Try.prog 84 #[.func (.func 85) #[] #[.pointer (some ⟨w.heap.size, 0, none⟩)], .pointer (some ⟨c1, 0, none⟩), .pointer (some ⟨c2, 0, none⟩)] (w.alloc (.cells #[.int .i64 100] 3)) fun e w' => e = .returned (.tuple #[]) ∧ (Below w.heap.size w w' ∧ w'.heap[w.heap.size]? = some (.cells #[.int .i64 (FL.mostOf l)] 3 (0, 0)))) := RC
    clear RC h
    generalize FL.mostOf l = m at *
    go_enter Try.func81, Try.ntmps81
    go_wp2_with fail
    refine Calls.mono RC2.out ?_
    rintro e w2 ⟨rfl, hb2, hg2⟩
    have c2 : w2.cell? ⟨w.heap.size, 0, none⟩ = some (.int .i64 m) := by rw [FL.cell_block hg2]; rfl
    have l2 : w.heap.size < w2.heap.size := FL.lt_of_block hg2
    clear RC2 hg2
    go_wp2
    go_ret
    exact ⟨rfl, hb2⟩
end Go.Proofs.Ytdobnplcacaomaa
namespace Go.Proofs.Ytdobnplcacaomaa
open Go.RowKit
theorem FL.put_defers (a : Act) (d : Option Tmp) (v : Value) : (a.put d v).defers = a.defers := by cases d <;> rfl
set_option linter.unusedSimpArgs false in
set_option maxHeartbeats 1600000 in
set_option maxRecDepth 100000 in
theorem putTell_any (g1 g2 gf n cap : Nat) (o : List Int) (more : Int) (s : FL.Stp) (W : World) (h1 : W.heap[g1]? = some (.cells #[.slice (some ⟨gf, 0, none⟩) n cap] 24 (0, 0))) (h2 : W.heap[g2]? = some (.cells #[.int .i64 more] 3 (0, 0)))
    (ho : W.ownsRow 0 3 1 (.slice (some ⟨gf, 0, none⟩) n cap) n (M4.iv o)) (hk0 : s.k < n) (_hn : n ≤ 1000) (hg2 : gf ≠ g2) (hy0 : 0 ≤ o.getD s.k 0) (hy1 : o.getD s.k 0 ≤ 100) (hm0 : 0 < more) (hm1 : more ≤ 100) :
    Calls Try.prog 86 #[s.v, .pointer (some ⟨g1, 0, none⟩), .pointer (some ⟨g2, 0, none⟩)] W fun e w' => e = .returned (.tuple #[]) ∧ w'.ownsRow 0 3 1 (.slice (some ⟨gf, 0, none⟩) n cap) n (M4.iv (FL.put1 more o s)) ∧ MC.Only gf W w' := by
  obtain ⟨sk, sb, st, sr⟩ := s
  simp only at hk0 hy0 hy1
  have hol : o.length = n := by have := ho.1; simpa [M4.iv] using this
  obtain ⟨cur, hcur⟩ : ∃ cur, W.heap[gf]? = some (.cells cur 3 (0, 0)) := by
    rcases ho.2 with ⟨h, _⟩ | ⟨g, c, cur, h, _, h3, _⟩
    · cases h
    · cases h; exact ⟨cur, h3⟩
  have hg1 : g1 ≠ gf := by
    intro e; subst e
    rw [hcur] at h1
    simp only [Option.some.injEq, Obj.cells.injEq] at h1
    exact absurd h1.2.1 (by decide)
  have cy : W.cell? ⟨gf, sk, none⟩ = some (.int .i64 (o.getD sk 0)) := by rw [ho.cellAt sk (by omega)]; exact M4.iv_get _ _ _ (FL.get_of _ (by omega))
  have lf : gf < W.heap.size := FL.lt_of_block hcur
  have hst : ∀ x : Int, (W.alloc (.cells #[.int .i64 (sk : Int), .bool sb, .int .i64 st, .int .i64 sr] 99)).drew.ownsRow 0 3 1 (.slice (some ⟨gf, 0, none⟩) n cap) n (M4.iv o) := fun _ => ho.alloc _
  have FINA : ∀ x : Int, ((W.alloc (.cells #[.int .i64 (sk : Int), .bool sb, .int .i64 st, .int .i64 sr] 99)).drew.setCell ⟨gf, sk, none⟩ (.int .i64 x)).ownsRow 0 3 1 (.slice (some ⟨gf, 0, none⟩) n cap) n (M4.iv (o.set sk x)) ∧ MC.Only gf W ((W.alloc (.cells #[.int .i64 (sk : Int), .bool sb, .int .i64 st, .int .i64 sr] 99)).drew.setCell ⟨gf, sk, none⟩ (.int .i64 x)) := fun x => by
    have h3 := (hst x).stored sk (.int .i64 x)
    rw [M4.iv_set] at h3
    refine ⟨h3.1, ?_⟩
    refine (MC.Only.trans (MC.Only.of_below (((Below.refl _ W).alloc (Nat.le_refl _) (.cells #[.int .i64 (sk : Int), .bool sb, .int .i64 st, .int .i64 sr] 99)).drew)) (MC.Only.refl gf _)).setCell sk _
  have c1a : W.cell? ⟨g1, 0, none⟩ = some (.slice (some ⟨gf, 0, none⟩) n cap) := by rw [FL.cell_block h1]; rfl
  have c2a : W.cell? ⟨g2, 0, none⟩ = some (.int .i64 more) := by rw [FL.cell_block h2]; rfl
  have l1 : g1 < W.heap.size := FL.lt_of_block h1
  have l2 : g2 < W.heap.size := FL.lt_of_block h2
  have zy : W.frozen? ⟨gf, sk, none⟩ = false := ho.frozenAt sk
  have FIN0 : Hid _ := FINA
  clear FINA hst h1 h2 hcur ho
  have hp1 : FL.put1 more o ⟨sk, sb, st, sr⟩ = o.set sk (o.getD sk 0 + FL.dl more ⟨sk, sb, st, sr⟩) := rfl
  generalize hy : o.getD sk 0 = y at *
  clear hy
  have kk0 : (0 : Int) ≤ (sk : Int) := by omega
  have kkn : (sk : Int) < (n : Int) := by omega
  cases sb with
  | true =>
    rw [show FL.dl more ⟨sk, true, st, sr⟩ = -more from rfl] at hp1
    have FIN1 := FIN0.out (y - more)
    have hp2 : FL.put1 more o ⟨sk, true, st, sr⟩ = o.set sk (y - more) := hp1
    rw [← hp2] at FIN1
    have FIN : Hid _ := FIN1
    have hwr : IntKind.i64.wrap (y - more) = (y - more) := by rw [IntKind.wrap_i64]; omega
    have q1b : (W.alloc (.cells #[.int .i64 (sk : Int), .bool true, .int .i64 st, .int .i64 sr] 99)).cell? ⟨W.heap.size, 0, none⟩ = some (.int .i64 (sk : Int)) := by simp
    have c1b : (W.alloc (.cells #[.int .i64 (sk : Int), .bool true, .int .i64 st, .int .i64 sr] 99)).cell? ⟨g1, 0, none⟩ = some (.slice (some ⟨gf, 0, none⟩) n cap) := by rw [World.cell?_alloc_lt _ _ _ l1]; exact c1a
    have c2b : (W.alloc (.cells #[.int .i64 (sk : Int), .bool true, .int .i64 st, .int .i64 sr] 99)).cell? ⟨g2, 0, none⟩ = some (.int .i64 more) := by rw [World.cell?_alloc_lt _ _ _ l2]; exact c2a
    have cyb : (W.alloc (.cells #[.int .i64 (sk : Int), .bool true, .int .i64 st, .int .i64 sr] 99)).cell? ⟨gf, sk, none⟩ = some (.int .i64 y) := by rw [World.cell?_alloc_lt _ _ _ lf]; exact cy
    have zyb : (W.alloc (.cells #[.int .i64 (sk : Int), .bool true, .int .i64 st, .int .i64 sr] 99)).frozen? ⟨gf, sk, none⟩ = false := (World.frozen?_of_block (a := ⟨gf, sk, none⟩) (Below.heap_alloc _ _ _ lf)).trans zy
    have lfb : gf < (W.alloc (.cells #[.int .i64 (sk : Int), .bool true, .int .i64 st, .int .i64 sr] 99)).heap.size := by simp; omega
    have C1 : Hid _ := c1b
    have C2 : Hid _ := c2b
    have CY : Hid _ := cyb
    have ZY : Hid _ := zyb
    have LF : Hid _ := lfb
    have Q1 : Hid _ := q1b
    have hnq0 : W.heap.size ≠ gf := by omega
    clear FIN1 hp1 hp2 FIN0 c1b c2b cyb zyb lfb q1b c1a c2a cy zy
    go_enter Try.func86, Try.ntmps86
    go_wp2_with fail
    generalize hW1 : W.alloc (.cells #[.int .i64 (sk : Int), .bool true, .int .i64 st, .int .i64 sr] 99) = W1 at *
    generalize hqq : W.heap.size = q at *
    have c1 := C1.out
    have c2 := C2.out
    have cy' : (World.drew W1).cell? ⟨gf, sk, none⟩ = some (.int .i64 y) := CY.out
    have zy' : (World.drew W1).frozen? ⟨gf, sk, none⟩ = false := ZY.out
    have lf' : gf < (World.drew W1).heap.size := LF.out
    have q0 := Q1.out
    have hn1 : g1 ≠ gf := hg1
    have hn2 : g2 ≠ gf := fun e => hg2 e.symm
    have hnq : q ≠ gf := hnq0
    have hk : sk < n := hk0
    clear C1 C2 CY ZY LF Q1 hW1
    refine MR.frame fun A hA => ?_
    have hsz : A.tmps.size = 22 := by rw [hA]; rfl
    have e1 : A.eval (.tmp 1) = .pointer (some ⟨g1, 0, none⟩) := by rw [hA]; rfl
    have f1 := MR.read (t := 1) (by rw [hsz]; decide) e1
    have e2 : A.eval (.tmp 2) = .pointer (some ⟨g2, 0, none⟩) := by rw [hA]; rfl
    have f2 := MR.read (t := 2) (by rw [hsz]; decide) e2
    have e3 : A.eval (.tmp 3) = .pointer (some ⟨q, 0, none⟩) := by rw [hA]; rfl
    have f3 := MR.read (t := 3) (by rw [hsz]; decide) e3
    have HA : Hid (A = _) := hA
    clear hA
    refine MR.cut (fun aa w' => w' = (World.drew W1).setCell ⟨gf, sk, none⟩ (.int .i64 (y - more)) ∧ aa.defers = []) ?_ ?_
    · have hS : (fun w' : World => w'.cell? ⟨g1, 0, none⟩ = some (.slice (some ⟨gf, 0, none⟩) n cap) ∧ w'.cell? ⟨g2, 0, none⟩ = some (.int .i64 more) ∧ w'.cell? ⟨q, 0, none⟩ = some (.int .i64 (sk : Int))) (World.drew W1) := ⟨c1, c2, q0⟩
      have hdf : A.defers = [] := by rw [HA.out]
      refine wp_region_held (S := fun w' : World => w'.cell? ⟨g1, 0, none⟩ = some (.slice (some ⟨gf, 0, none⟩) n cap) ∧ w'.cell? ⟨g2, 0, none⟩ = some (.int .i64 more) ∧ w'.cell? ⟨q, 0, none⟩ = some (.int .i64 (sk : Int))) (by kernel_rfl) ?_
      change wpAnyH _ _ _ _ _ _ _ _ (World.drew W1)
      refine MR.takeH (i := 0) (some 6) (.slice (some ⟨gf, 0, none⟩) n cap) rfl rfl (by kernel_rfl) (by kernel_rfl) (by kernel_rfl) nofun hS (MR.free rfl) (fun wq hw => by simp [execOp, MR.ev, MR.size, hsz, e1, f1, e2, f2, e3, f3, hw.1, go_sem]) ?_
      refine MR.takeH (i := 1) (some 7) (.pointer (some ⟨q, 0, none⟩)) rfl rfl (by kernel_rfl) (by kernel_rfl) (by kernel_rfl) nofun hS (MR.free rfl) (fun wq hw => by simp [execOp, MR.ev, MR.size, hsz, e1, f1, e2, f2, e3, f3, go_sem]) ?_
      refine MR.takeH (i := 2) (some 8) (.int .i64 (sk : Int)) rfl rfl (by kernel_rfl) (by kernel_rfl) (by kernel_rfl) nofun hS (MR.free rfl) (fun wq hw => by simp [execOp, MR.ev, MR.size, hsz, e1, f1, e2, f2, e3, f3, hw.2.2, go_sem]) ?_
      refine MR.takeH (i := 3) (some 9) (.pointer (some ⟨gf, sk, none⟩)) rfl rfl (by kernel_rfl) (by kernel_rfl) (by kernel_rfl) nofun hS (MR.free rfl) (fun wq hw => by simp [execOp, MR.ev, MR.size, hsz, e1, f1, e2, f2, e3, f3, kk0, kkn, hk, go_sem]) ?_
      refine MR.takeH (i := 5) (some 11) (.int .i64 more) rfl rfl (by kernel_rfl) (by kernel_rfl) (by kernel_rfl) nofun hS (MR.free rfl) (fun wq hw => by simp [execOp, MR.ev, MR.size, hsz, e1, f1, e2, f2, e3, f3, hw.2.1, go_sem]) ?_
      refine MR.nowH (i := 4) (some 10) (.int .i64 y) (by kernel_rfl) rfl rfl (MR.free rfl) (by simp [execOp, MR.ev, MR.size, hsz, e1, f1, e2, f2, e3, f3, cy', lf', go_sem]) ⟨hS, ?_⟩
      refine MR.takeH (i := 6) (some 12) (.int .i64 (y - more)) rfl rfl (by kernel_rfl) (by kernel_rfl) (by kernel_rfl) nofun hS (MR.free rfl) (fun wq hw => by simp [execOp, MR.ev, MR.size, hsz, e1, f1, e2, f2, e3, f3, hwr, go_sem]) ?_
      refine MR.takeH (i := 7) (some 13) (.pointer (some ⟨gf, sk, none⟩)) rfl rfl (by kernel_rfl) (by kernel_rfl) (by kernel_rfl) nofun hS (MR.free rfl) (fun wq hw => by simp [execOp, MR.ev, MR.size, hsz, e1, f1, e2, f2, e3, f3, kk0, kkn, hk, go_sem]) ?_
      have hS2 : (fun w' : World => w'.cell? ⟨g1, 0, none⟩ = some (.slice (some ⟨gf, 0, none⟩) n cap) ∧ w'.cell? ⟨g2, 0, none⟩ = some (.int .i64 more) ∧ w'.cell? ⟨q, 0, none⟩ = some (.int .i64 (sk : Int))) ((World.drew W1).setCell ⟨gf, sk, none⟩ (.int .i64 (y - more))) := ⟨(World.cell?_of_block (a := ⟨g1, 0, none⟩) (Below.heap_setCell _ _ _ _ hn1)).trans c1, (World.cell?_of_block (a := ⟨g2, 0, none⟩) (Below.heap_setCell _ _ _ _ hn2)).trans c2, (World.cell?_of_block (a := ⟨q, 0, none⟩) (Below.heap_setCell _ _ _ _ hnq)).trans q0⟩
      refine MR.storeH (w' := (World.drew W1).setCell ⟨gf, sk, none⟩ (.int .i64 (y - more))) (i := 8) (by kernel_rfl) rfl (MR.free rfl) (by simp [execOp, MR.ev, MR.size, hsz, e1, f1, e2, f2, e3, f3, cy', zy', lf', go_sem]) ⟨hS2, ?_⟩
      exact wpAnyH_done (by kernel_rfl) ⟨rfl, rfl, by simp only [FL.put_defers]; exact hdf⟩ _
    rintro aa w2 ⟨rfl, hdf⟩
    exact bodyPost_end (results_none rfl _ _ _) hdf ⟨rfl, FIN.out⟩
  | false =>
    rw [show FL.dl more ⟨sk, false, st, sr⟩ = more from rfl] at hp1
    have FIN1 := FIN0.out (y + more)
    have hp2 : FL.put1 more o ⟨sk, false, st, sr⟩ = o.set sk (y + more) := hp1
    rw [← hp2] at FIN1
    have FIN : Hid _ := FIN1
    have hwr : IntKind.i64.wrap (y + more) = (y + more) := by rw [IntKind.wrap_i64]; omega
    have q1b : (W.alloc (.cells #[.int .i64 (sk : Int), .bool false, .int .i64 st, .int .i64 sr] 99)).cell? ⟨W.heap.size, 0, none⟩ = some (.int .i64 (sk : Int)) := by simp
    have c1b : (W.alloc (.cells #[.int .i64 (sk : Int), .bool false, .int .i64 st, .int .i64 sr] 99)).cell? ⟨g1, 0, none⟩ = some (.slice (some ⟨gf, 0, none⟩) n cap) := by rw [World.cell?_alloc_lt _ _ _ l1]; exact c1a
    have c2b : (W.alloc (.cells #[.int .i64 (sk : Int), .bool false, .int .i64 st, .int .i64 sr] 99)).cell? ⟨g2, 0, none⟩ = some (.int .i64 more) := by rw [World.cell?_alloc_lt _ _ _ l2]; exact c2a
    have cyb : (W.alloc (.cells #[.int .i64 (sk : Int), .bool false, .int .i64 st, .int .i64 sr] 99)).cell? ⟨gf, sk, none⟩ = some (.int .i64 y) := by rw [World.cell?_alloc_lt _ _ _ lf]; exact cy
    have zyb : (W.alloc (.cells #[.int .i64 (sk : Int), .bool false, .int .i64 st, .int .i64 sr] 99)).frozen? ⟨gf, sk, none⟩ = false := (World.frozen?_of_block (a := ⟨gf, sk, none⟩) (Below.heap_alloc _ _ _ lf)).trans zy
    have lfb : gf < (W.alloc (.cells #[.int .i64 (sk : Int), .bool false, .int .i64 st, .int .i64 sr] 99)).heap.size := by simp; omega
    have C1 : Hid _ := c1b
    have C2 : Hid _ := c2b
    have CY : Hid _ := cyb
    have ZY : Hid _ := zyb
    have LF : Hid _ := lfb
    have Q1 : Hid _ := q1b
    have hnq0 : W.heap.size ≠ gf := by omega
    clear FIN1 hp1 hp2 FIN0 c1b c2b cyb zyb lfb q1b c1a c2a cy zy
    go_enter Try.func86, Try.ntmps86
    go_wp2_with fail
    generalize hW1 : W.alloc (.cells #[.int .i64 (sk : Int), .bool false, .int .i64 st, .int .i64 sr] 99) = W1 at *
    generalize hqq : W.heap.size = q at *
    have c1 := C1.out
    have c2 := C2.out
    have cy' : (World.drew W1).cell? ⟨gf, sk, none⟩ = some (.int .i64 y) := CY.out
    have zy' : (World.drew W1).frozen? ⟨gf, sk, none⟩ = false := ZY.out
    have lf' : gf < (World.drew W1).heap.size := LF.out
    have q0 := Q1.out
    have hn1 : g1 ≠ gf := hg1
    have hn2 : g2 ≠ gf := fun e => hg2 e.symm
    have hnq : q ≠ gf := hnq0
    have hk : sk < n := hk0
    clear C1 C2 CY ZY LF Q1 hW1
    refine MR.frame fun A hA => ?_
    have hsz : A.tmps.size = 22 := by rw [hA]; rfl
    have e1 : A.eval (.tmp 1) = .pointer (some ⟨g1, 0, none⟩) := by rw [hA]; rfl
    have f1 := MR.read (t := 1) (by rw [hsz]; decide) e1
    have e2 : A.eval (.tmp 2) = .pointer (some ⟨g2, 0, none⟩) := by rw [hA]; rfl
    have f2 := MR.read (t := 2) (by rw [hsz]; decide) e2
    have e3 : A.eval (.tmp 3) = .pointer (some ⟨q, 0, none⟩) := by rw [hA]; rfl
    have f3 := MR.read (t := 3) (by rw [hsz]; decide) e3
    have HA : Hid (A = _) := hA
    clear hA
    refine MR.cut (fun aa w' => w' = (World.drew W1).setCell ⟨gf, sk, none⟩ (.int .i64 (y + more)) ∧ aa.defers = []) ?_ ?_
    · have hS : (fun w' : World => w'.cell? ⟨g1, 0, none⟩ = some (.slice (some ⟨gf, 0, none⟩) n cap) ∧ w'.cell? ⟨g2, 0, none⟩ = some (.int .i64 more) ∧ w'.cell? ⟨q, 0, none⟩ = some (.int .i64 (sk : Int))) (World.drew W1) := ⟨c1, c2, q0⟩
      have hdf : A.defers = [] := by rw [HA.out]
      refine wp_region_held (S := fun w' : World => w'.cell? ⟨g1, 0, none⟩ = some (.slice (some ⟨gf, 0, none⟩) n cap) ∧ w'.cell? ⟨g2, 0, none⟩ = some (.int .i64 more) ∧ w'.cell? ⟨q, 0, none⟩ = some (.int .i64 (sk : Int))) (by kernel_rfl) ?_
      change wpAnyH _ _ _ _ _ _ _ _ (World.drew W1)
      refine MR.takeH (i := 0) (some 14) (.slice (some ⟨gf, 0, none⟩) n cap) rfl rfl (by kernel_rfl) (by kernel_rfl) (by kernel_rfl) nofun hS (MR.free rfl) (fun wq hw => by simp [execOp, MR.ev, MR.size, hsz, e1, f1, e2, f2, e3, f3, hw.1, go_sem]) ?_
      refine MR.takeH (i := 1) (some 15) (.pointer (some ⟨q, 0, none⟩)) rfl rfl (by kernel_rfl) (by kernel_rfl) (by kernel_rfl) nofun hS (MR.free rfl) (fun wq hw => by simp [execOp, MR.ev, MR.size, hsz, e1, f1, e2, f2, e3, f3, go_sem]) ?_
      refine MR.takeH (i := 2) (some 16) (.int .i64 (sk : Int)) rfl rfl (by kernel_rfl) (by kernel_rfl) (by kernel_rfl) nofun hS (MR.free rfl) (fun wq hw => by simp [execOp, MR.ev, MR.size, hsz, e1, f1, e2, f2, e3, f3, hw.2.2, go_sem]) ?_
      refine MR.takeH (i := 3) (some 17) (.pointer (some ⟨gf, sk, none⟩)) rfl rfl (by kernel_rfl) (by kernel_rfl) (by kernel_rfl) nofun hS (MR.free rfl) (fun wq hw => by simp [execOp, MR.ev, MR.size, hsz, e1, f1, e2, f2, e3, f3, kk0, kkn, hk, go_sem]) ?_
      refine MR.takeH (i := 5) (some 19) (.int .i64 more) rfl rfl (by kernel_rfl) (by kernel_rfl) (by kernel_rfl) nofun hS (MR.free rfl) (fun wq hw => by simp [execOp, MR.ev, MR.size, hsz, e1, f1, e2, f2, e3, f3, hw.2.1, go_sem]) ?_
      refine MR.nowH (i := 4) (some 18) (.int .i64 y) (by kernel_rfl) rfl rfl (MR.free rfl) (by simp [execOp, MR.ev, MR.size, hsz, e1, f1, e2, f2, e3, f3, cy', lf', go_sem]) ⟨hS, ?_⟩
      refine MR.takeH (i := 6) (some 20) (.int .i64 (y + more)) rfl rfl (by kernel_rfl) (by kernel_rfl) (by kernel_rfl) nofun hS (MR.free rfl) (fun wq hw => by simp [execOp, MR.ev, MR.size, hsz, e1, f1, e2, f2, e3, f3, hwr, go_sem]) ?_
      refine MR.takeH (i := 7) (some 21) (.pointer (some ⟨gf, sk, none⟩)) rfl rfl (by kernel_rfl) (by kernel_rfl) (by kernel_rfl) nofun hS (MR.free rfl) (fun wq hw => by simp [execOp, MR.ev, MR.size, hsz, e1, f1, e2, f2, e3, f3, kk0, kkn, hk, go_sem]) ?_
      have hS2 : (fun w' : World => w'.cell? ⟨g1, 0, none⟩ = some (.slice (some ⟨gf, 0, none⟩) n cap) ∧ w'.cell? ⟨g2, 0, none⟩ = some (.int .i64 more) ∧ w'.cell? ⟨q, 0, none⟩ = some (.int .i64 (sk : Int))) ((World.drew W1).setCell ⟨gf, sk, none⟩ (.int .i64 (y + more))) := ⟨(World.cell?_of_block (a := ⟨g1, 0, none⟩) (Below.heap_setCell _ _ _ _ hn1)).trans c1, (World.cell?_of_block (a := ⟨g2, 0, none⟩) (Below.heap_setCell _ _ _ _ hn2)).trans c2, (World.cell?_of_block (a := ⟨q, 0, none⟩) (Below.heap_setCell _ _ _ _ hnq)).trans q0⟩
      refine MR.storeH (w' := (World.drew W1).setCell ⟨gf, sk, none⟩ (.int .i64 (y + more))) (i := 8) (by kernel_rfl) rfl (MR.free rfl) (by simp [execOp, MR.ev, MR.size, hsz, e1, f1, e2, f2, e3, f3, cy', zy', lf', go_sem]) ⟨hS2, ?_⟩
      exact wpAnyH_done (by kernel_rfl) ⟨rfl, rfl, by simp only [FL.put_defers]; exact hdf⟩ _
    rintro aa w2 ⟨rfl, hdf⟩
    exact bodyPost_end (results_none rfl _ _ _) hdf ⟨rfl, FIN.out⟩
set_option linter.unusedSimpArgs false in
set_option maxHeartbeats 1600000 in
set_option maxRecDepth 100000 in
theorem putOn_any (lo F gf n cap : Nat) (cs : Array Value) (l : List FL.Stp) (fs : List Int) (more : Int) (w : World) (h : FL.RowF lo w F cs l) (ho : w.ownsRow 0 3 1 (.slice (some ⟨gf, 0, none⟩) n cap) n (M4.iv fs)) (hn : n ≤ 1000) (hm0 : 0 < more) (hm1 : more ≤ 100)
    (hl : ∀ x ∈ l, x.k < n) (hf : ∀ j, j < n → 0 ≤ fs.getD j 0 ∧ fs.getD j 0 ≤ 100) (hnd : (l.map FL.Stp.k).Nodup) :
    Calls Try.prog 82 #[.func (.func F) #[] cs, .slice (some ⟨gf, 0, none⟩) n cap, .int .i64 more] w fun e w' => e = .returned (.tuple #[]) ∧ w'.ownsRow 0 3 1 (.slice (some ⟨gf, 0, none⟩) n cap) n (M4.iv (FL.putL more fs l)) ∧ MC.Only gf w w' := by
  have hfl : fs.length = n := by have := ho.1; simpa [M4.iv] using this
  have hgf : gf < w.heap.size := (ho.lt gf rfl).2
  obtain ⟨cur, hcur⟩ : ∃ cur, w.heap[gf]? = some (.cells cur 3 (0, 0)) := by
    rcases ho.2 with ⟨h, _⟩ | ⟨g, c, cur, h, _, h3, _⟩
    · cases h
    · cases h; exact ⟨cur, h3⟩
  obtain ⟨W2, hW2⟩ : ∃ W2, (w.alloc (.cells #[.slice (some ⟨gf, 0, none⟩) n cap] 24)).alloc (.cells #[.int .i64 more] 3) = W2 := ⟨_, rfl⟩
  have hs1 : (w.alloc (.cells #[.slice (some ⟨gf, 0, none⟩) n cap] 24)).heap.size = w.heap.size + 1 := by simp
  have hb1 : W2.heap[w.heap.size]? = some (.cells #[.slice (some ⟨gf, 0, none⟩) n cap] 24 (0, 0)) := by rw [← hW2, Below.heap_alloc _ _ _ (by omega)]; exact heap_alloc_new _ _
  have hb2 : W2.heap[w.heap.size + 1]? = some (.cells #[.int .i64 more] 3 (0, 0)) := by rw [← hW2, ← hs1]; exact heap_alloc_new _ _
  have RC := rowCallPut_any lo w.heap.size (w.heap.size + 1) w l (fun done W => W.ownsRow 0 3 1 (.slice (some ⟨gf, 0, none⟩) n cap) n (M4.iv (FL.putL more fs done)) ∧ MC.Only gf w W ∧ W.heap[w.heap.size]? = some (.cells #[.slice (some ⟨gf, 0, none⟩) n cap] 24 (0, 0)) ∧ W.heap[w.heap.size + 1]? = some (.cells #[.int .i64 more] 3 (0, 0)))
    (fun done s W hP hI => by
      obtain ⟨i1, i2, i3, i4⟩ := hI
      obtain ⟨rest, hr⟩ := hP
      have hmem : s ∈ l := by rw [← hr]; simp
      have hdn : ∀ x ∈ done, x.k < fs.length := fun x hx => by rw [hfl]; exact hl x (by rw [← hr]; simp [hx])
      have hsk := hl s hmem
      have hnot : s.k ∉ done.map FL.Stp.k := by
        rw [← hr, List.append_assoc, List.map_append, List.nodup_append] at hnd
        intro hx
        exact hnd.2.2 _ hx _ (by simp) rfl
      have hval : (FL.putL more fs done).getD s.k 0 = fs.getD s.k 0 := FL.putL_not _ _ hdn hnot
      have hb := hf s.k hsk
      refine Calls.mono (putTell_any w.heap.size (w.heap.size + 1) gf n cap (FL.putL more fs done) more s W i3 i4 i1 hsk hn (by omega) (by rw [hval]; exact hb.1) (by rw [hval]; exact hb.2) hm0 hm1) ?_
      rintro e w' ⟨rfl, j1, j2⟩
      refine ⟨rfl, by rw [FL.putL_snoc]; exact j1, i2.trans j2, ?_, ?_⟩
      · rw [j2.block _ (FL.lt_of_block i3) (by omega)]; exact i3
      · rw [j2.block _ (FL.lt_of_block i4) (by omega)]; exact i4)
    (fun done W hI k hk _ ht => hI.2.1.block k hk (fun e => by subst e; exact ht _ _ hcur)) h [] W2 (by rw [List.nil_append]; exact List.prefix_rfl)
    ⟨by rw [← hW2]; exact (ho.alloc _).alloc _, by rw [← hW2]; exact MC.Only.of_below (((Below.refl _ w).alloc (Nat.le_refl _) _).alloc (by simp) _), hb1, hb2⟩
  rw [List.nil_append] at RC
  clear hb1 hb2 hs1 hl hf hnd hcur hfl ho
  rcases h.which with ⟨rfl, rfl⟩ | ⟨rfl, c1, c2, rfl⟩
  · have RC2 : Hid (Calls Try.prog 76 #[.func (.func 86) #[] #[.pointer (some ⟨w.heap.size, 0, none⟩), .pointer (some ⟨w.heap.size + 1, 0, none⟩)]] W2 fun e w' => e = .returned (.tuple #[]) ∧ (w'.ownsRow 0 3 1 (.slice (some ⟨gf, 0, none⟩) n cap) n (M4.iv (FL.putL more fs l)) ∧ MC.Only gf w w')) := by
      refine Calls.mono RC ?_
      rintro e w' ⟨rfl, hI⟩
      exact ⟨rfl, hI.1, hI.2.1⟩
    clear RC h
    go_enter Try.func82, Try.ntmps82
    go_wp2_with fail
    refine Calls.mono RC2.out ?_
    rintro e w2 ⟨rfl, h1, h2⟩
    clear RC2
    go_wp2
    exact bodyPost_end (results_none rfl _ _ _) rfl ⟨rfl, h1, h2⟩
  · have RC2 : Hid (Calls Try.prog 84 #[.func (.func 86) #[] #[.pointer (some ⟨w.heap.size, 0, none⟩), .pointer (some ⟨w.heap.size + 1, 0, none⟩)], .pointer (some ⟨c1, 0, none⟩), .pointer (some ⟨c2, 0, none⟩)] W2 fun e w' => e = .returned (.tuple #[]) ∧ (w'.ownsRow 0 3 1 (.slice (some ⟨gf, 0, none⟩) n cap) n (M4.iv (FL.putL more fs l)) ∧ MC.Only gf w w')) := by
      refine Calls.mono RC ?_
      rintro e w' ⟨rfl, hI⟩
      exact ⟨rfl, hI.1, hI.2.1⟩
    clear RC h
    go_enter Try.func82, Try.ntmps82
    go_wp2_with fail
    refine Calls.mono RC2.out ?_
    rintro e w2 ⟨rfl, h1, h2⟩
    clear RC2
    go_wp2
    exact bodyPost_end (results_none rfl _ _ _) rfl ⟨rfl, h1, h2⟩
end Go.Proofs.Ytdobnplcacaomaa
namespace Go.Proofs.Ytdobnplcacaomaa
open Go.RowKit
namespace FL
structure AugI (fs : List Int) (S : St) (tn : Nat) (N : Int) (LL : List Int) : Prop where
  n : mostOf (S.L tn) = N
  pos : 0 < N
  up : N ≤ 100
  l : putL N fs (S.L tn) = LL
  k : ∀ x ∈ S.L tn, x.k < fs.length
  one : ((S.L tn).map Stp.k).Nodup
  non : S.L tn ≠ []
structure CaseI (fs : List Int) (S : St) (tn : Nat) (N : Int) (LL : List Int) : Prop where
  no : S.by_.getD tn 0 = -1 → N = 0 ∧ LL = fs
  yes : S.by_.getD tn 0 ≠ -1 → AugI fs S tn N LL
theorem caseI_of {xs : List I3} {fs : List Int} {f : Int} {tn : Nat} (A : Ask xs f (tn : Int)) (hl : fs.length = xs.length) (hfit : fitUp xs fs xs.length) : CaseI fs (srch xs fs f) tn (augN xs fs f (tn : Int)) (augL xs fs f (tn : Int)) := by
  have hre : reach xs fs f (tn : Int) = !decide ((srch xs fs f).by_.getD tn 0 = -1) := by unfold reach; rw [Int.toNat_natCast]
  have hrl : rowL xs fs f (tn : Int) = (srch xs fs f).L tn := by unfold rowL; rw [Int.toNat_natCast]
  constructor
  · intro h
    rw [decide_eq_true h] at hre
    have hr : reach xs fs f (tn : Int) = false := hre
    unfold augN augL; rw [hr]; exact ⟨rfl, rfl⟩
  · intro h
    rw [decide_eq_false h] at hre
    have hr : reach xs fs f (tn : Int) = true := hre
    have R := row_of A hfit hr
    have e : augL xs fs f (tn : Int) = putL (mostOf (rowL xs fs f (tn : Int))) fs (rowL xs fs f (tn : Int)) := by unfold augL; rw [if_pos hr]
    rw [e, augN_is hr, hrl]
    have R2 := R.pos; have R3 := R.up; have R4 := R.rooms; have R5 := R.one; have R6 := R.non
    rw [hrl] at R2 R3 R4 R5 R6
    exact ⟨rfl, R2, R3, rfl, fun x hx => by rw [hl]; exact (R4 x hx).1, R5, R6⟩
def pb (a : Option Addr) (n : Nat) : Nat := match a with
  | some x => x.block
  | none => n
end FL
set_option linter.unusedSimpArgs false in
set_option maxHeartbeats 1600000 in
set_option maxRecDepth 100000 in
theorem augment_any (a fa : Option Addr) (ca fc : Nat) (xs : List I3) (fs : List Int) (f t : Int) (w : World) (hA : FL.Ask xs f t) (hfit : FL.fitUp xs fs xs.length) (hin : MI3.RowAt w a xs) (ho : w.ownsRow 0 3 1 (.slice fa xs.length fc) xs.length (M4.iv fs)) :
    Calls Try.prog 68 #[.slice a xs.length ca, .int .i64 f, .int .i64 t, .slice fa xs.length fc] w fun e w' => e = .returned (.int .i64 (FL.augN xs fs f t)) ∧ w'.ownsRow 0 3 1 (.slice fa xs.length fc) xs.length (M4.iv (FL.augL xs fs f t)) ∧ MC.Only (FL.pb fa w.heap.size) w w' := by
  have hl : fs.length = xs.length := by have := ho.1; simpa [M4.iv] using this
  have hlen := hA.len
  have RF := rowsFrom_any a fa ca fc xs fs f w hA.ok hA.f0 hA.f7 hl hfit hin (M5.own_ints ho)
  obtain ⟨tn, rfl⟩ := Int.eq_ofNat_of_zero_le hA.t0
  have htn : tn < 8 := by have := hA.t7; omega
  have CI : Hid _ := FL.caseI_of hA hl hfit
  rw [hl] at RF
  have FB : Hid (∀ j, j < xs.length → 0 ≤ fs.getD j 0 ∧ fs.getD j 0 ≤ 100) := fun j hj => by
    have h1 := hfit j hj; have h2 := (hA.good hj).c1; exact ⟨h1.1, by omega⟩
  have HL : Hid _ := hl
  have HO : Hid (w.ownsRow 0 3 1 (.slice fa xs.length fc) xs.length (M4.iv fs)) := ho
  generalize FL.srch xs fs f = S at *
  generalize FL.augN xs fs f (tn : Int) = N at *
  generalize FL.augL xs fs f (tn : Int) = LL at *
  have RF1 : Hid _ := RF
  clear hin hA hfit hl ho RF
  have tt0 : (0 : Int) ≤ (tn : Int) := by omega
  have tt8 : (tn : Int) < 8 := by omega
  have EQN := eqNil8
  have EQF := eqFun8
  go_enter Try.func68, Try.ntmps68
  go_wp2_with fail
  refine Calls.mono RF1.out ?_
  rintro e w1 ⟨vf, rfl, hFn, hb1⟩
  have IX : ∀ W : World, (Instr.index 86 (.agg (FL.vl vf).toArray) (.int .i64 (tn : Int))).run Try.prog W = .ok (vf tn) W := fun W => MA.run_index Try.underlying86 (by go_simp) (by go_simp) htn (FL.vl_get _ htn)
  have hO1 := M5.own_below HO.out hb1
  have HO1 : Hid (w1.ownsRow 0 3 1 (.slice fa xs.length fc) xs.length (M4.iv fs)) := hO1
  clear RF1 HO hO1
  rcases hFn.is tn htn with ⟨hby, hvf⟩ | ⟨hby, F, cs, hvf, hRF⟩
  · obtain ⟨h1, h2⟩ := CI.out.no hby
    rw [hvf] at IX
    clear hFn hvf hby CI
    subst h1 h2
    go_wp2
    go_ret
    exact ⟨rfl, HO1.out, MC.Only.of_below hb1⟩
  · have AG : Hid _ := CI.out.yes hby
    have RM : Hid _ := room_any w.heap.size F cs (S.L tn) w1 hRF
    rw [AG.out.n] at RM
    have hx0 : 0 < xs.length := by
      cases hc : S.L tn with
      | nil => exact absurd hc AG.out.non
      | cons x l => have := AG.out.k x (by rw [hc]; simp); rw [HL.out] at this; omega
    obtain ⟨gf, rfl⟩ : ∃ gf, fa = some ⟨gf, 0, none⟩ := by
      rcases HO1.out.2 with ⟨h, h0⟩ | ⟨g, c, cur, h, _⟩
      · omega
      · cases h; exact ⟨g, rfl⟩
    have HRF : Hid _ := hRF
    rw [hvf] at IX
    clear hFn hvf hby CI hRF
    go_wp2_with fail
    refine Calls.mono RM.out ?_
    rintro e w2 ⟨rfl, hb2⟩
    have PO : Hid _ := putOn_any w.heap.size F gf xs.length fc cs (S.L tn) fs N w2 (HRF.out.keep fun k hk _ _ => hb2.block k hk) (M5.own_below HO1.out hb2) (by omega) AG.out.pos AG.out.up (fun x hx => by rw [← HL.out]; exact AG.out.k x hx) FB.out AG.out.one
    rw [AG.out.l] at PO
    have hB2 : Below w.heap.size w w2 := hb1.trans (hb2.mono hb1.size)
    clear RM HRF HO1 AG FB IX hb2 hb1
    go_wp2_with fail
    refine Calls.mono PO.out ?_
    rintro e w3 ⟨rfl, h1, h2⟩
    clear PO
    go_wp2
    go_ret
    exact ⟨rfl, h1, (MC.Only.of_below hB2).trans h2⟩
end Go.Proofs.Ytdobnplcacaomaa
