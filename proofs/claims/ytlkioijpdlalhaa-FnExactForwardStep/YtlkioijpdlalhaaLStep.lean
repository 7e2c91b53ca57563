import Derived.Test.YtlkioijpdlalhaaRows
import Derived.Test.YtlkioijpdlalhaaC6Next
import Derived.WalkKit
import Derived.WalkSpells
import Derived.WalkLawsBesides
import Derived.Outline
import Derived.Deep.RegionHeld3
import Derived.Test.YtlkioijpdlalhaaMFit
import Derived.Test.YtlkioijpdlalhaaMWayI
import Derived.Test.YtlkioijpdlalhaaCArrO
import Derived.Test.YtlkioijpdlalhaaMRou
import Derived.Test.YtlkioijpdlalhaaMInfo
import Derived.Test.YtlkioijpdlalhaaCReverse
import Derived.Test.YtlkioijpdlalhaaCArrS
import Derived.Test.YtlkioijpdlalhaaCFloat
import Derived.Test.YtlkioijpdlalhaaMOne
import Derived.Test.YtlkioijpdlalhaaCFits
import Derived.Test.YtlkioijpdlalhaaCRouteS
import Derived.Test.YtlkioijpdlalhaaCArrI
import Derived.Test.YtlkioijpdlalhaaLWStep
/- journeyFrom, the program's. -/
namespace Go.Proofs.Ytlkioijpdlalhaa
open Go.RowKit
namespace PN
/-- The result's box, and the journey that is being made. -/
structure JW (w W : World) (rb jb : Nat) (f : Int) (wf : Nat → Nat) (lf : Nat → Int) : Prop where
  r : MA.Rg W rb 0 (jc 0 (fun _ => 0) (fun _ => 0))
  j : MA.Rg W jb 0 (jc f wf lf)
  ne : rb ≠ jb
  br : w.heap.size ≤ rb
  bj : w.heap.size ≤ jb
  bl : Below w.heap.size w W
theorem JW.kept {w W W' : World} {rb jb : Nat} {f : Int} {wf : Nat → Nat} {lf : Nat → Int} (h : JW w W rb jb f wf lf) (hb : Below W.heap.size W W') : JW w W' rb jb f wf lf :=
  ⟨h.r.below hb h.r.lt, h.j.below hb h.j.lt, h.ne, h.br, h.bj, h.bl.trans (hb.mono h.bl.size)⟩
theorem JW.setw {w W : World} {rb jb : Nat} {f : Int} {wf : Nat → Nat} {lf : Nat → Int} (h : JW w W rb jb f wf lf) {i : Nat} (hi : i < 8) (b : Nat) : JW w (W.setCell ⟨jb, 1 + i, none⟩ (.float .f64 b)) rb jb f (put wf i b) lf :=
  ⟨h.r.other (k' := jb) (o' := 1 + i) (vs := [.float .f64 b]) (.inl h.ne), rg_setw h.j hi b, h.ne, h.br, h.bj, MA.below_cells h.bj [.float .f64 b] (1 + i) W h.bl⟩
theorem JW.setl {w W : World} {rb jb : Nat} {f : Int} {wf : Nat → Nat} {lf : Nat → Int} (h : JW w W rb jb f wf lf) {i : Nat} (hi : i < 8) (b : Int) : JW w (W.setCell ⟨jb, 9 + i, none⟩ (.int .i64 b)) rb jb f wf (put lf i b) :=
  ⟨h.r.other (k' := jb) (o' := 9 + i) (vs := [.int .i64 b]) (.inl h.ne), rg_setl h.j hi b, h.ne, h.br, h.bj, MA.below_cells h.bj [.int .i64 b] (9 + i) W h.bl⟩
theorem jw_new (w : World) (t : TypeId) (f : Int) : JW w (((w.alloc (.cells (jc 0 (fun _ => 0) (fun _ => 0)).toArray t)).alloc (.cells (jc 0 (fun _ => 0) (fun _ => 0)).toArray t)).setCells (w.heap.size + 1) 0 (jc f (fun _ => 0) (fun _ => 0))) w.heap.size (w.heap.size + 1) f (fun _ => 0) (fun _ => 0) := by
  have r1 := (MA.Rg.new w (jc 0 (fun _ => 0) (fun _ => 0)) t).alloc (.cells (jc 0 (fun _ => 0) (fun _ => 0)).toArray t)
  have r2 := MA.Rg.new' (w.alloc (.cells (jc 0 (fun _ => 0) (fun _ => 0)).toArray t)) (jc 0 (fun _ => 0) (fun _ => 0)) t (w.heap.size + 1) (by simp)
  exact ⟨r1.other (.inl (by omega)), r2.put (by rw [jc_len, jc_len]), by omega, Nat.le_refl _, by omega, MA.below_cells (by omega) _ _ _ (((Below.refl _ w).alloc (Nat.le_refl _) _).alloc (by simp) _)⟩
def upB (k : Nat) : Nat → Nat := fun i => if i < k then FL.Mo.inf.b else 0
theorem upB_put (k : Nat) : put (upB k) k FL.Mo.inf.b = upB (k + 1) := by
  funext p
  simp only [put, upB]
  by_cases e : p = k
  · subst e; simp
  · rw [if_neg e]
    by_cases h : p < k
    · rw [if_pos h, if_pos (by omega)]
    · rw [if_neg h, if_neg (by omega)]
theorem upB_all {f : Int} {lf : Nat → Int} : jc f (upB 8) lf = jc f (wb ⟨fun _ => .inf, fun _ => none⟩) lf := jc_ext (fun i hi => by simp [upB, wb, hi]) (fun _ _ => rfl)
end PN
theorem Try.infoJ : (Try.prog.info? 64).map (fun i => (i.zero, i.size)) = some (some (.agg (PN.jc 0 (fun _ => 0) (fun _ => 0)).toArray), 17) := by kernel_rfl
theorem Try.sizeJ : (Try.prog.info? 64).map (·.size) = some 17 := by kernel_rfl
theorem Try.builtJ (f : Int) : Try.prog.built 64 [(0, .int .i64 f)] = some (PN.jc f (fun _ => 0) (fun _ => 0)).toArray := by kernel_rfl
theorem MA.build_pJ {P : Program} {ops : Array Oper} {rest : List Oper} {op : Oper} {a : Act} {w : World} {Q : Exit → Act → World → Prop} (hgd : op.guard = none) (ty : TypeId) {parts : Array (Nat × Operand)} (ho : op.op = .build ty parts)
    (ps : List (Nat × Value)) (hps : (parts.map fun (i, x) => (i, a.eval x)).toList = ps) {cs : List Value} (hb : P.built ty ps = some cs.toArray)
    (h : wpList P ops Q rest (a.put op.dst (.agg cs.toArray)) w) : wpList P ops Q (op :: rest) a w := MA.build_m hgd ty ho (by rw [hps]; exact hb) h
set_option linter.unusedSimpArgs false in
set_option maxHeartbeats 3200000 in
set_option maxRecDepth 100000 in
theorem journeyFrom_any (a : Option Addr) (ca : Nat) (xs : List I5) (f n : Int) (w : World) (hok : PN.okP xs = true) (hf0 : 0 ≤ f) (hf1 : f ≤ 7) (hn0 : 0 ≤ n) (hn1 : n ≤ 1000) (hin : MI5.RowAt w a xs) :
    Calls Try.prog 37 #[.slice a xs.length ca, .int .i64 f, .int .i64 n] w fun e w' => e = .returned (.agg (PN.jc f (PN.wb (PN.fin xs (PN.st0 f n))) (PN.lb (PN.fin xs (PN.st0 f n)))).toArray) ∧ Below w.heap.size w w' := by
  have NV : Hid (∀ W : World, Calls Try.prog 47 #[] W fun e w' => e = .returned (.float .f64 FL.Mo.inf.b) ∧ W = w') := fun W => never_any W
  have SF : ∀ (W : World) (ad : Addr) (b : Nat) (m : Mode), (store ad (.float .f64 b) m).run Try.prog W = stored Try.prog W ad (.float .f64 b) m := fun W ad b m => run_store _ W ad _ m rfl
  have HI : Hid (MI5.RowAt w a xs) := hin
  have hlen : xs.length ≤ 20 := ((PN.okP_iff xs).1 hok).1
  have GC : Hid (∀ k, k < xs.length → PN.Good (MI5.at_ xs k)) := fun k hk => PN.okP_good hok hk
  have HOK : Hid _ := hok
  have NX : Hid (∀ (s : PN.St) (W : World), PN.okS s.wh → MI5.RowAt W a xs → Calls Try.prog 48 #[.agg (PN.jc f (PN.wb s) (PN.lb s)).toArray, .slice a xs.length ca] W fun e w' => e = .returned (.tuple #[.int .i64 (PN.nextN (PN.best xs s.wh xs.length)), .bool (PN.best xs s.wh xs.length).isSome]) ∧ Below W.heap.size W w') := fun s W hs hr => next6_any a ca xs f s W hok hs hr
  obtain ⟨fn, rfl⟩ := Int.eq_ofNat_of_zero_le hf0
  have hfn : fn < 8 := by omega
  have ff1 : (fn : Int) < 8 := by omega
  have HN : Hid _ := PN.jw_new w 64 (fn : Int)
  have RZ : Hid (MA.Rg ((w.alloc (.cells (PN.jc 0 (fun _ => 0) (fun _ => 0)).toArray 64)).alloc (.cells (PN.jc 0 (fun _ => 0) (fun _ => 0)).toArray 64)) (w.heap.size + 1) 0 (PN.jc 0 (fun _ => 0) (fun _ => 0))) := MA.Rg.new' _ _ _ _ (by simp)
  clear hin hok
  go_enter Try.func37, Try.ntmps37
  go_wp2_with (first
    | (refine MA.alloc_z rfl 64 rfl _ _ Try.infoJ ?_; simp only [MA.sz_alloc])
    | (refine MA.build_pJ rfl 64 rfl [(0, .int .i64 (fn : Int))] (by simp [Act.eval]) (Try.builtJ _) ?_)
    | (refine MA.store_m rfl 64 _ _ rfl rfl rfl (vs := PN.jc (fn : Int) (fun _ => 0) (fun _ => 0)) (cs := PN.jc 0 (fun _ => 0) (fun _ => 0)) ?_ Try.sizeJ (PN.jc_len _ _ _) (PN.jc_len _ _ _) (PN.jc_one _ _ _) ?_; exact RZ.out; clear RZ; generalize World.setCells _ _ _ _ = W3 at *))
  generalize w.heap.size + 1 = jb at *
  go_loopw [14] (fun iv wr => ∃ k : Nat, iv = .int .i64 k ∧ k ≤ 8 ∧ PN.JW w wr w.heap.size jb (fn : Int) (PN.upB k) (fun _ => 0)) (fun iv _ => (8 - intOf iv).toNat)
  case atStart => exact ⟨0, rfl, by omega, HN.out⟩
  case round =>
    clear HN
    obtain ⟨k, rfl, hk, hJ⟩ := hrel
    by_cases hl : k < 8
    · obtain ⟨q1, z1⟩ := PN.rg_w hJ.j hl
      have hl1 := hJ.j.lt
      have hJ2 := hJ.setw hl FL.Mo.inf.b
      rw [PN.upB_put] at hJ2
      have HJ2 : Hid _ := hJ2
      have kk : (k : Int) < 8 := by omega
      clear hJ hJ2
      go_wp2_with fail
      refine (NV.out _).mono ?_
      rintro e w' ⟨rfl, rfl⟩
      go_wp2
      go_roundw
      case rel => exact ⟨k + 1, by go_num, by omega, HJ2.out⟩
      case measure => simp [intOf]; omega
    · obtain rfl : k = 8 := by omega
      have hJ0 : PN.JW w wr w.heap.size jb (fn : Int) (PN.wb ⟨fun _ => .inf, fun _ => none⟩) (PN.lb ⟨fun _ => .inf, fun _ => none⟩) := by
        have h := hJ.j
        rw [PN.upB_all] at h
        exact ⟨hJ.r, h, hJ.ne, hJ.br, hJ.bj, hJ.bl⟩
      obtain ⟨q1, z1⟩ := PN.rg_w hJ0.j hfn
      have hl1 := hJ0.j.lt
      have hJ1 := hJ0.setw hfn (FL.Mo.fin n).b
      rw [PN.wb_put _ _ _ (fun _ => none)] at hJ1
      have HS0 : Hid (PN.JW w (wr.setCell ⟨jb, 1 + fn, none⟩ (.float .f64 (floatOfInt .f64 n))) w.heap.size jb (fn : Int) (PN.wb (PN.st0 (fn : Int) n)) (PN.lb (PN.st0 (fn : Int) n))) := hJ1
      have HOS : Hid (PN.okS (PN.st0 (fn : Int) n).wh) := PN.st0_ok hn0 hn1
      clear hJ hJ0 hJ1
      generalize hst : PN.st0 (fn : Int) n = s0 at *
      have HR0 : Hid (MA.Rg (wr.setCell ⟨jb, 1 + fn, none⟩ (.float .f64 (floatOfInt .f64 n))) jb 0 (PN.jc (fn : Int) (PN.wb s0) (PN.lb s0))) := HS0.out.j
      go_wp2_with (refine MA.load_m rfl 64 _ rfl rfl (cs := PN.jc (fn : Int) (PN.wb s0) (PN.lb s0)) ?_ Try.underlying64 rfl Try.sizeJ (PN.jc_len _ _ _) ?_; exact HR0.out; clear HR0)
      generalize wr.setCell ⟨jb, 1 + fn, none⟩ (.float .f64 (floatOfInt .f64 n)) = W4 at *
      clear q1 z1 hl1
      refine (NX.out s0 _ HOS.out (HI.out.below HS0.out.bl)).mono ?_
      rintro e w5 ⟨rfl, hb5⟩
      have HS5 : Hid _ := HS0.out.kept hb5
      clear HS0 hb5
      generalize hbest : PN.best xs s0.wh xs.length = R0 at *
      have HBT : Hid _ := hbest
      clear hbest
      go_wp2
      go_loopw [9, 10] (fun kv ov wr => ∃ s : PN.St, kv = .int .i64 (PN.nextN (PN.best xs s.wh xs.length)) ∧ ov = .bool (PN.best xs s.wh xs.length).isSome ∧ PN.JW w wr w.heap.size jb (fn : Int) (PN.wb s) (PN.lb s) ∧ Hid (PN.okS s.wh) ∧ Hid (PN.fin xs s = PN.fin xs s0)) (fun _ _ wr => PN.MJ jb wr)
      case atStart => exact ⟨s0, by rw [HBT.out], by rw [HBT.out], HS5.out, HOS, rfl⟩
      case round =>
        clear HS5 HOS HBT
        obtain ⟨s, rfl, rfl, hJ, hO, hF⟩ := hrel
        have HM : Hid (PN.MJ jb wr = PN.mu s.wh) := PN.JR.mu hJ.j hO.out
        cases hb : PN.best xs s.wh xs.length with
        | none =>
          have hE : Hid (s = PN.fin xs s0) := by show s = _; rw [← hF.out, PN.fin_none hb]
          have HRJ : Hid (MA.Rg wr jb 0 (PN.jc (fn : Int) (PN.wb s) (PN.lb s))) := hJ.j
          have HRR : Hid (MA.Rg wr w.heap.size 0 (PN.jc 0 (fun _ => 0) (fun _ => 0))) := hJ.r
          have HRP : Hid (MA.Rg (wr.setCells w.heap.size 0 (PN.jc (fn : Int) (PN.wb s) (PN.lb s))) w.heap.size 0 (PN.jc (fn : Int) (PN.wb s) (PN.lb s))) := hJ.r.put (by rw [PN.jc_len, PN.jc_len])
          have HBP : Hid (Below w.heap.size w (wr.setCells w.heap.size 0 (PN.jc (fn : Int) (PN.wb s) (PN.lb s)))) := MA.below_cells (Nat.le_refl _) _ _ _ hJ.bl
          clear hb hF hO hJ HM HOK GC HI NX NV SF
          go_wp2_with (first
            | (refine MA.load_m rfl 64 _ rfl rfl (cs := PN.jc (fn : Int) (PN.wb s) (PN.lb s)) ?_ Try.underlying64 rfl Try.sizeJ (PN.jc_len _ _ _) ?_; exact HRJ.out; clear HRJ)
            | (refine MA.store_m rfl 64 _ _ rfl rfl rfl (vs := PN.jc (fn : Int) (PN.wb s) (PN.lb s)) (cs := PN.jc 0 (fun _ => 0) (fun _ => 0)) ?_ Try.sizeJ (PN.jc_len _ _ _) (PN.jc_len _ _ _) (PN.jc_one _ _ _) ?_; exact HRR.out; clear HRR))
          exact bodyPost_ret (MA.ret_cell rfl rfl (MA.load_rg HRP.out Try.underlying64 rfl Try.sizeJ (PN.jc_len _ _ _))) rfl ⟨by rw [hst, ← hE.out], HBP.out⟩
        | some p =>
          obtain ⟨kb, t⟩ := p
          obtain ⟨hkb, hA, hE⟩ := PN.best_is hb
          obtain ⟨hO2, hmu⟩ := PN.step_ok HOK.out hO.out hb
          have hF2 : Hid (PN.fin xs (PN.take1 xs s kb t) = PN.fin xs s0) := by show _ = _; rw [← hF.out, PN.fin_some HOK.out hO.out hb]
          have G := GC.out kb hkb
          obtain ⟨b4, off4, hab, hlt4, e0, e1, e2, e3, e4⟩ := (HI.out.below hJ.bl).at hkb
          obtain ⟨i, hi⟩ := Int.eq_ofNat_of_zero_le G.f0
          obtain ⟨j, hj⟩ := Int.eq_ofNat_of_zero_le G.t0
          have hi8 : i < 8 := by have := G.f1; omega
          have hj8 : j < 8 := by have := G.t1; omega
          have hij : i ≠ j := by have := G.ne; omega
          have ii0 : (0 : Int) ≤ (i : Int) := by omega
          have ii8 : (i : Int) < 8 := by omega
          have jj0 : (0 : Int) ≤ (j : Int) := by omega
          have jj8 : (j : Int) < 8 := by omega
          have kk0 : (0 : Int) ≤ (kb : Int) := by omega
          have kk1 : (kb : Int) < (xs.length : Int) := by omega
          have hin : (MI5.at_ xs kb).a0.toNat = i := by rw [hi]; rfl
          have hjn : (MI5.at_ xs kb).a1.toNat = j := by rw [hj]; rfl
          rw [hin] at hA
          have AR : Hid (∀ W : World, Calls Try.prog 41 #[(MI5.at_ xs kb).v, .float .f64 (s.wh i).b] W fun e w' => e = .returned (.float .f64 (FL.Mo.fin t).b) ∧ Below W.heap.size W w') := fun W => by
            have := arrival_any (MI5.at_ xs kb) (s.wh i) W G (hO.out i)
            rw [hA] at this; exact this
          have hST : (⟨PN.put s.wh j (.fin t), PN.put s.la j (some kb)⟩ : PN.St) = PN.take1 xs s kb t := by unfold PN.take1; rw [hjn]
          have HST : Hid _ := hST
          have HO2 : Hid _ := hO2
          have HMU : Hid (PN.mu (PN.take1 xs s kb t).wh < PN.mu s.wh) := hmu
          rw [hi] at e0
          rw [hj] at e1
          have HJA : Hid (PN.JW w (wr.alloc (.cells #[.int .i64 (i : Int), .int .i64 (j : Int), .int .i64 (MI5.at_ xs kb).a2, .int .i64 (MI5.at_ xs kb).a3, .int .i64 (MI5.at_ xs kb).a4] 46)) w.heap.size jb (fn : Int) (PN.wb s) (PN.lb s)) := hJ.kept ((Below.refl _ wr).alloc (Nat.le_refl _) _)
          have hjq : jb < wr.heap.size := hJ.j.lt
          clear hb hF hO GC G hjn hin hA hE hST hO2 hmu hJ
          generalize hx : MI5.at_ xs kb = x at *
          obtain ⟨x0, x1, x2, x3, x4⟩ := x
          simp only at hi hj e0 e1 e2 e3 e4
          subst hi hj
          clear hx
          subst hab
          have F0 : Hid ((wr.alloc (.cells #[.int .i64 (i : Int), .int .i64 (j : Int), .int .i64 x2, .int .i64 x3, .int .i64 x4] 46)).cell? ⟨wr.heap.size, 0, none⟩ = some (.int .i64 (i : Int))) := by show _ = _; simp
          have F1 : Hid ((wr.alloc (.cells #[.int .i64 (i : Int), .int .i64 (j : Int), .int .i64 x2, .int .i64 x3, .int .i64 x4] 46)).cell? ⟨wr.heap.size, 1, none⟩ = some (.int .i64 (j : Int))) := by show _ = _; simp
          have F2 : Hid ((wr.alloc (.cells #[.int .i64 (i : Int), .int .i64 (j : Int), .int .i64 x2, .int .i64 x3, .int .i64 x4] 46)).cell? ⟨wr.heap.size, 2, none⟩ = some (.int .i64 x2)) := by show _ = _; simp
          have F3 : Hid ((wr.alloc (.cells #[.int .i64 (i : Int), .int .i64 (j : Int), .int .i64 x2, .int .i64 x3, .int .i64 x4] 46)).cell? ⟨wr.heap.size, 3, none⟩ = some (.int .i64 x3)) := by show _ = _; simp
          have F4 : Hid ((wr.alloc (.cells #[.int .i64 (i : Int), .int .i64 (j : Int), .int .i64 x2, .int .i64 x3, .int .i64 x4] 46)).cell? ⟨wr.heap.size, 4, none⟩ = some (.int .i64 x4)) := by show _ = _; simp
          have HQ : Hid (wr.heap.size < (wr.alloc (.cells #[.int .i64 (i : Int), .int .i64 (j : Int), .int .i64 x2, .int .i64 x3, .int .i64 x4] 46)).heap.size) := by show _ < _; simp
          rw [show PN.nextN (some (kb, t)) = (kb : Int) from rfl, show (some (kb, t)).isSome = true from rfl]
          go_wp2_with fail
          clear e0 e1 e2 e3 e4 hlt4
          generalize (wr.alloc (.cells #[.int .i64 (i : Int), .int .i64 (j : Int), .int .i64 x2, .int .i64 x3, .int .i64 x4] 46)) = W1 at *
          generalize wr.heap.size = q at *
          have f0 := F0.out
          have f1 := F1.out
          have f2 := F2.out
          have f3 := F3.out
          have f4 := F4.out
          have hq := HQ.out
          have hci : W1.cell? ⟨jb, 1 + i, none⟩ = some (.float .f64 (s.wh i).b) := (PN.rg_w HJA.out.j hi8).1
          have hjb := HJA.out.j.lt
          have hqj : q ≠ jb := by omega
          have hqj' : jb ≠ q := by omega
          clear F0 F1 F2 F3 F4 HQ
          go_region_held3 (fun w' => w'.cell? ⟨q, 0, none⟩ = some (.int .i64 (i : Int)) ∧ w'.cell? ⟨q, 1, none⟩ = some (.int .i64 (j : Int)) ∧ w'.cell? ⟨q, 2, none⟩ = some (.int .i64 x2) ∧ w'.cell? ⟨q, 3, none⟩ = some (.int .i64 x3) ∧ w'.cell? ⟨q, 4, none⟩ = some (.int .i64 x4) ∧ w'.cell? ⟨jb, 1 + i, none⟩ = some (.float .f64 (s.wh i).b)) (first | assumption | go_keep) (first | (go_at_call 41; refine Calls.mono (AR.out _) ?_; rintro e w3 ⟨rfl, hb3⟩; have k0 : w3.cell? ⟨q, 0, none⟩ = some (.int .i64 (i : Int)) := (hb3.cell (p := ⟨q, 0, none⟩) (by simpa using hq)).trans (by simpa using f0); have k1 : w3.cell? ⟨q, 1, none⟩ = some (.int .i64 (j : Int)) := (hb3.cell (p := ⟨q, 1, none⟩) (by simpa using hq)).trans (by simpa using f1); have k2 : w3.cell? ⟨q, 2, none⟩ = some (.int .i64 x2) := (hb3.cell (p := ⟨q, 2, none⟩) (by simpa using hq)).trans (by simpa using f2); have k3 : w3.cell? ⟨q, 3, none⟩ = some (.int .i64 x3) := (hb3.cell (p := ⟨q, 3, none⟩) (by simpa using hq)).trans (by simpa using f3); have k4 : w3.cell? ⟨q, 4, none⟩ = some (.int .i64 x4) := (hb3.cell (p := ⟨q, 4, none⟩) (by simpa using hq)).trans (by simpa using f4); have ki : w3.cell? ⟨jb, 1 + i, none⟩ = some (.float .f64 (s.wh i).b) := (hb3.cell (p := ⟨jb, 1 + i, none⟩) (by simpa using hjb)).trans (by simpa using hci); have HJ3 := HJA.out.kept (((Below.refl _ W1).drew).trans hb3); obtain ⟨kj, zj⟩ := PN.rg_w HJ3.j hj8; have HJ4 := HJ3.setw hj8 (FL.Mo.fin t).b; obtain ⟨kl, zl⟩ := PN.rg_l HJ4.j hj8; have HJ5 := HJ4.setl hj8 (kb : Int); have ki4 : (w3.setCell ⟨jb, 1 + j, none⟩ (.float .f64 (FL.Mo.fin t).b)).cell? ⟨jb, 1 + i, none⟩ = some (.float .f64 (s.wh i).b) := (PN.rg_w HJ4.j hi8).1.trans (by rw [PN.put_ne _ _ hij]; rfl); have ki5 : ((w3.setCell ⟨jb, 1 + j, none⟩ (.float .f64 (FL.Mo.fin t).b)).setCell ⟨jb, 9 + j, none⟩ (.int .i64 (kb : Int))).cell? ⟨jb, 1 + i, none⟩ = some (.float .f64 (s.wh i).b) := (PN.rg_w HJ5.j hi8).1.trans (by rw [PN.put_ne _ _ hij]; rfl)))
          rw [PN.wb_put s j (.fin t) (PN.put s.la j (some kb)), PN.lb_put s j kb (PN.put s.wh j (.fin t)), HST.out] at HJ5
          clear k0 k1 k2 k3 k4 ki kj zj kl zl ki4 ki5 HJ3 HJ4 hb3 f0 f1 f2 f3 f4 hq hci hjb HJA AR HST hqj hqj' hjq
          have HJ6 : Hid _ := HJ5
          have HR6 : Hid (MA.Rg ((w3.setCell ⟨jb, 1 + j, none⟩ (.float .f64 (FL.Mo.fin t).b)).setCell ⟨jb, 9 + j, none⟩ (.int .i64 (kb : Int))) jb 0 (PN.jc (fn : Int) (PN.wb (PN.take1 xs s kb t)) (PN.lb (PN.take1 xs s kb t)))) := HJ5.j
          clear HJ5
          generalize (w3.setCell ⟨jb, 1 + j, none⟩ (.float .f64 (FL.Mo.fin t).b)).setCell ⟨jb, 9 + j, none⟩ (.int .i64 (kb : Int)) = W5 at *
          generalize PN.take1 xs s kb t = s' at *
          go_wp2_with (refine MA.load_m rfl 64 _ rfl rfl (cs := PN.jc (fn : Int) (PN.wb s') (PN.lb s')) ?_ Try.underlying64 rfl Try.sizeJ (PN.jc_len _ _ _) ?_; exact HR6.out; clear HR6)
          refine (NX.out s' _ HO2.out (HI.out.below HJ6.out.bl)).mono ?_
          rintro e w6 ⟨rfl, hb6⟩
          have HJ7 : Hid _ := HJ6.out.kept hb6
          have HM7 : Hid (PN.MJ jb w6 = PN.mu s'.wh) := PN.JR.mu HJ7.out.j HO2.out
          clear hb6 HJ6
          go_wp2
          go_roundw
          case rel => exact ⟨s', rfl, rfl, HJ7.out, HO2, hF2⟩
          case measure => rw [HM.out, HM7.out]; exact HMU.out
end Go.Proofs.Ytlkioijpdlalhaa

/- The step that is first on a route: plain facts. -/
namespace Go.Proofs.Ytlkioijpdlalhaa
open Go.RowKit
namespace GP
open PN FL
/-- The first contact of a route leads on from where one is, and can be taken then. -/
theorem first_of {xs : List I5} {f n t : Int} (h : tellB (routeM xs f n t) = true) (hne : routeL xs f n t ≠ []) :
    startOk xs f n = true ∧ 0 < (routeL xs f n t).length ∧ (0 ≤ (routeL xs f n t).getD 0 0 ∧ (routeL xs f n t).getD 0 0 < xs.length) ∧ (ofN xs ((routeL xs f n t).getD 0 0)).a0 = f ∧ ¬ (ofN xs ((routeL xs f n t).getD 0 0)).a3 ≤ n ∧ arrM xs f n [(routeL xs f n t).getD 0 0] = .fin (ov (ofN xs ((routeL xs f n t).getD 0 0)) n) := by
  have ha : askOk xs f n t = true := by
    cases c : askOk xs f n t with
    | true => rfl
    | false => rw [route_no c] at h; cases h
  obtain ⟨hst, t0, t1⟩ := ask_is ha
  obtain ⟨hok, f0, f1, n0, n1⟩ := start_is hst
  have hs0 := st0_ok (f := f) n0 n1
  have hO := ord_st0 hok (f := f) (n := n)
  have hX := vix_fin hok hs0 hO (vix_st0 xs (f := f) (n := n))
  obtain ⟨rk, hV⟩ := via_fin hok hs0 hO (via_st0 xs f0 f1 (n := n))
  have hL := routeL_yes h
  rw [route_yes ha] at h
  obtain ⟨u, hu⟩ : ∃ u, (fin xs (st0 f n)).wh t.toNat = .fin u := by
    cases c : (fin xs (st0 f n)).wh t.toNat with
    | fin u => exact ⟨u, rfl⟩
    | inf => rw [c] at h; cases h
    | ago => rw [c] at h; cases h
  obtain ⟨w1, w2, w3, w4⟩ := way_is hok (fi := f) (by omega : f = (f.toNat : Int)) hX hV 8 t.toNat u hu (Nat.le_trans (hV.top _ _ hu) (cnt_le _))
  rw [← hL] at w1 w2 w3
  generalize routeL xs f n t = L at *
  have hl : 0 < L.length := by cases L with | nil => exact absurd rfl hne | cons _ _ => simp
  have hin := w2 0 hl
  have hgo : (ofN xs (L.getD 0 0)).a0 = f := w3 0 hl
  have hmo : mo xs L n 1 = arr (ofN xs (L.getD 0 0)) (.fin n) := rfl
  have hne2 : ¬ (ofN xs (L.getD 0 0)).a3 ≤ n := fun c => by
    have := mo_inf (xs := xs) (os := L) (n := n) (k := 1) (by rw [hmo, (ov_no c).2]) (L.length - 1)
    rw [show 1 + (L.length - 1) = L.length by omega, w1] at this
    cases this
  refine ⟨hst, hl, ⟨hin.1, hin.2⟩, hgo, hne2, ?_⟩
  have hin1 : inUp xs.length [L.getD 0 0] [L.getD 0 0].length := fun i hi => by
    obtain rfl : i = 0 := by simpa using hi
    exact hin
  have hgo1 : goUp xs f [L.getD 0 0] [L.getD 0 0].length := fun i hi => by
    obtain rfl : i = 0 := by simpa using hi
    exact hgo
  rw [arrM_yes (way_go hst ((inP_iff _ _).2 hin1) (by simp) hgo1), ← ov_yes hne2]; rfl
/-- Whether there is a step that is in time; the contact, and when one is there by it. -/
def stepOk (xs : List I5) (b : Bd) (f n t : Int) : Bool := fitsB xs b && tellB (routeM xs f n t) && decide (routeL xs f n t ≠ []) && decide (ov (ofN xs ((routeL xs f n t).getD 0 0)) n ≤ b.md + b.lf)
def stepK (xs : List I5) (b : Bd) (f n t : Int) : Int := if stepOk xs b f n t = true then (routeL xs f n t).getD 0 0 else 0
def stepT (xs : List I5) (b : Bd) (f n t : Int) : Int := if stepOk xs b f n t = true then ov (ofN xs ((routeL xs f n t).getD 0 0)) n else 0
theorem step_no {xs : List I5} {b : Bd} {f n t : Int} (h : stepOk xs b f n t = false) : stepK xs b f n t = 0 ∧ stepT xs b f n t = 0 := by unfold stepK stepT; rw [h]; exact ⟨rfl, rfl⟩
theorem step_yes {xs : List I5} {b : Bd} {f n t : Int} (h : stepOk xs b f n t = true) : stepK xs b f n t = (routeL xs f n t).getD 0 0 ∧ stepT xs b f n t = ov (ofN xs ((routeL xs f n t).getD 0 0)) n := by unfold stepK stepT; rw [h]; exact ⟨rfl, rfl⟩
end GP
end Go.Proofs.Ytlkioijpdlalhaa

/- RouteTo, the program's. -/
namespace Go.Proofs.Ytlkioijpdlalhaa
open Go.RowKit
set_option linter.unusedSimpArgs false in
set_option maxHeartbeats 3200000 in
set_option maxRecDepth 100000 in
theorem rowTo_any (a : Option Addr) (ca : Nat) (xs : List I5) (fn tn : Nat) (s : PN.St) (L : List Int) (w : World) (hok : PN.okP xs = true) (hf8 : fn < 8) (hBk : PN.Back xs fn s L tn []) (hin : MI5.RowAt w a xs) :
    Calls Try.prog 39 #[.agg (PN.jc (fn : Int) (PN.wb s) (PN.lb s)).toArray, .slice a xs.length ca, .int .i64 (tn : Int)] w fun e w' => ∃ a1 c1, e = .returned (.slice a1 L.length c1) ∧ w'.ownsRow w.heap.size 3 1 (.slice a1 L.length c1) L.length (M4.iv L) ∧ Below w.heap.size w w' := by
  obtain ⟨i0, hi, hz0, hz1, hz2⟩ := info_parts Try.info3
  have HI : Hid (MI5.RowAt w a xs) := hin
  have HOK : Hid _ := hok
  have GC : Hid (∀ k, k < xs.length → PN.Good (MI5.at_ xs k)) := fun k hk => PN.okP_good hok hk
  have HJ : Hid _ := MA.Rg.new w (PN.jc (fn : Int) (PN.wb s) (PN.lb s)) 64
  have HB0 : Hid (Below w.heap.size w (w.alloc (.cells (PN.jc (fn : Int) (PN.wb s) (PN.lb s)).toArray 64))) := (Below.refl _ w).alloc (Nat.le_refl _) _
  have HBK : Hid _ := hBk
  have RV : Hid (∀ (base g cap : Nat) (zs : List Int) (W : World), zs.length ≤ 1048576 → base ≤ W.heap.size → W.ownsRow base 3 1 (.slice (some ⟨g, 0, none⟩) zs.length cap) zs.length (M4.iv zs) → Calls Try.prog 50 #[.slice (some ⟨g, 0, none⟩) zs.length cap] W fun e w' => e = .returned (.tuple #[]) ∧ w'.ownsRow base 3 1 (.slice (some ⟨g, 0, none⟩) zs.length cap) zs.length (M4.iv zs.reverse) ∧ Below base W w') := fun base g cap zs W h1 h2 h3 => reverse_any base g cap zs W h1 h2 h3
  clear hin hok hBk
  go_enter Try.func39, Try.ntmps39
  generalize hW0 : w.alloc (.cells (PN.jc (fn : Int) (PN.wb s) (PN.lb s)).toArray 64) = W0 at HJ HB0
  have HSZ : Hid (W0.heap.size = w.heap.size + 1) := by show _ = _; rw [← hW0]; simp
  have HB1 : Hid (Below W0.heap.size W0 (W0.alloc (.cells #[] 3))) := (Below.refl _ W0).alloc (Nat.le_refl _) _
  go_wp2
  generalize hW1 : W0.alloc (.cells #[] 3) = W1 at *
  go_loopw [7, 8] (fun rv nv wr => ∃ (v : Nat) (acc : List Int) (g cap : Nat), nv = .int .i64 v ∧ rv = .slice (some ⟨g, 0, none⟩) acc.length cap ∧ Hid (PN.Back xs fn s L v acc) ∧ wr.ownsRow W0.heap.size 3 1 (.slice (some ⟨g, 0, none⟩) acc.length cap) acc.length (M4.iv acc.reverse) ∧ Below W0.heap.size W0 wr) (fun rv _ _ => 8 - PN.lenV rv)
  case atStart => exact ⟨tn, [], W0.heap.size, 0, rfl, rfl, HBK, by have h := PN.own_lit0 W0 W0.heap.size (Nat.le_refl _); rw [hW1] at h; exact h, HB1.out⟩
  case round =>
    clear HBK HB1 hW1
    obtain ⟨v, acc, g, cap, rfl, rfl, hB, hown, hb⟩ := hrel
    have hJr := MA.Rg.below HJ.out hb HJ.out.lt
    have cf : wr.cell? ⟨w.heap.size, 0, none⟩ = some (.int .i64 (fn : Int)) := by have := hJr.cell (PN.jc_f _ _ _); rwa [Nat.zero_add] at this
    have hjb := hJr.lt
    by_cases hv : v = fn
    · subst hv
      have hLe := PN.Back.end_ hB.out
      have hlen : acc.length ≤ 8 := by obtain ⟨_, m, _, _, h, _⟩ := hB.out.go; omega
      have HLE : Hid _ := hLe
      have HO : Hid (wr.ownsRow W0.heap.size 3 1 (.slice (some ⟨g, 0, none⟩) acc.length cap) acc.length (M4.iv acc.reverse)) := hown
      clear hB hown HOK GC hLe hi hz0 hz1 hz2 hJr
      have hrl : acc.reverse.length = acc.length := by simp
      have RV1 : Hid (Calls Try.prog 50 #[.slice (some ⟨g, 0, none⟩) acc.length cap] wr fun e w' => e = .returned (.tuple #[]) ∧ w'.ownsRow W0.heap.size 3 1 (.slice (some ⟨g, 0, none⟩) acc.length cap) acc.length (M4.iv acc) ∧ Below W0.heap.size wr w') := by
        have h := RV.out W0.heap.size g cap acc.reverse wr (by rw [hrl]; omega) hb.size (by rw [hrl]; exact HO.out)
        rw [hrl, List.reverse_reverse] at h
        exact h
      clear RV hrl HO
      go_wp2_with fail
      refine Calls.mono RV1.out ?_
      rintro e w3 ⟨rfl, hown3, hb3⟩
      have HO3 : Hid (w3.ownsRow W0.heap.size 3 1 (.slice (some ⟨g, 0, none⟩) acc.length cap) acc.length (M4.iv acc)) := hown3
      have HBB : Hid (Below w.heap.size w w3) := HB0.out.trans ((hb.trans hb3).mono HB0.out.size)
      clear hown3 hb3 RV1 cf
      go_wp2
      go_ret
      exact ⟨some ⟨g, 0, none⟩, cap, by rw [HLE.out]; rfl, by rw [HLE.out]; exact CS6.own_base HO3.out HB0.out.size, HBB.out⟩
    · obtain ⟨k, hk1, hk2, hk3, hk4⟩ := PN.Back.next HOK.out hB.out hv
      have hv8 := hB.out.lt
      have vv8 : (v : Int) < 8 := by omega
      have kk0 : (0 : Int) ≤ (k : Int) := by omega
      have kk1 : (k : Int) < (xs.length : Int) := by omega
      have hvf : ((v : Int) != (fn : Int)) = true := by simp; omega
      have cl : wr.cell? ⟨w.heap.size, 9 + v, none⟩ = some (.int .i64 (k : Int)) := by have := (PN.rg_l hJr hv8).1; simp only [PN.lb, hk1, PN.kI] at this; exact this
      have G := GC.out k hk2
      obtain ⟨i, hii⟩ := Int.eq_ofNat_of_zero_le G.f0
      have hin : (MI5.at_ xs k).a0.toNat = i := by rw [hii]; rfl
      rw [hin] at hk4
      obtain ⟨b4, off4, hab, hlt4, e0, -⟩ := (HI.out.below HB0.out).at hk2
      rw [hii] at e0
      have HB2 : Hid _ := hk4
      have LK : Hid (s.la v = some k) := hk1
      have HOA : Hid (World.ownsRow (wr.alloc (.cells #[.int .i64 (k : Int)] 3)) W0.heap.size 3 1 (.slice (some ⟨g, 0, none⟩) acc.length cap) acc.length (M4.iv acc.reverse)) := World.ownsRow.alloc hown (.cells #[.int .i64 (k : Int)] 3)
      have HO : Hid (World.ownsRow wr W0.heap.size 3 1 (.slice (some ⟨g, 0, none⟩) acc.length cap) acc.length (M4.iv acc.reverse)) := hown
      have hbs := hb.size
      clear hB G hin hk4 hk1 hown hJr
      go_wp2_with (at_builtin; refine wpList_append_own _ rfl _ _ 35 rfl W0.heap.size 3 i0 (.int .i64 0) 1 8 Try.underlying35 hi hz0 hz1 hz2 rfl (by decide) _ _ _ rfl HOA.out ⟨wr.heap.size, 0, none⟩ 1 1 [.int .i64 (k : Int)] rfl rfl ?c1 ?c2 ?c3 ?c4 ?c5 ?_)
      case c1 => exact M2.new1 _ _ _
      case c2 => exact M2.one1 _ _
      case c3 => unfold maxLen; omega
      case c4 => omega
      case c5 => simp; omega
      intro v' w3 hown1 hgrow hnn
      have hb3 : Below W0.heap.size W0 w3 := (hb.alloc hbs _).grown hgrow (by simp; omega) (fun j hj => (World.ownsRow.lt HO.out j hj).1)
      have hJ3 := MA.Rg.below HJ.out hb3 HJ.out.lt
      have cl3 : w3.cell? ⟨w.heap.size, 9 + v, none⟩ = some (.int .i64 (k : Int)) := by have := (PN.rg_l hJ3 hv8).1; simp only [PN.lb, LK.out, PN.kI] at this; exact this
      have hjb3 := hJ3.lt
      have c0 := (hb3.cell (p := ⟨b4, off4 + k * 5, none⟩) hlt4).trans e0
      have hb4 : b4 < w3.heap.size := Nat.lt_of_lt_of_le hlt4 hb3.size
      obtain ⟨g', cap', rfl⟩ : ∃ g' cap', v' = .slice (some ⟨g', 0, none⟩) (acc.length + 1) cap' := by
        rcases hown1.2 with ⟨h1, h2⟩ | ⟨g', cap', cur, h1, _⟩
        · omega
        · exact ⟨g', cap', h1⟩
      have R1 : Hid (w3.ownsRow W0.heap.size 3 1 (.slice (some ⟨g', 0, none⟩) ((k : Int) :: acc).length cap') ((k : Int) :: acc).length (M4.iv ((k : Int) :: acc).reverse)) := by
        show w3.ownsRow _ _ _ _ _ _
        rw [List.reverse_cons, List.length_cons]
        have e : M4.iv (acc.reverse ++ [(k : Int)]) = M4.iv acc.reverse ++ [.int .i64 (k : Int)] := by simp [M4.iv]
        rw [e]; exact hown1
      clear hown1 hgrow hnn HO HOA cl cf e0 hJ3 hb LK
      subst hab
      go_wp2
      go_roundw
      case rel => exact ⟨i, (k : Int) :: acc, g', cap', rfl, rfl, HB2, R1.out, hb3⟩
      case measure => simp [PN.lenV]; omega
set_option linter.unusedSimpArgs false in
set_option maxHeartbeats 3200000 in
set_option maxRecDepth 100000 in
theorem implRoute_any (a : Option Addr) (ca : Nat) (xs : List I5) (f n t : Int) (w : World) (hn : xs.length ≤ 1048576) (hin : MI5.RowAt w a xs) :
    Calls Try.prog 23 #[.slice a xs.length ca, .int .i64 f, .int .i64 n, .int .i64 t] w fun e w' => ∃ a1 c1, e = .returned (.tuple #[.slice a1 (PN.routeL xs f n t).length c1, .int .i64 (PN.tellN (PN.routeM xs f n t)), .bool (PN.tellB (PN.routeM xs f n t))]) ∧ w'.ownsRow w.heap.size 3 1 (.slice a1 (PN.routeL xs f n t).length c1) (PN.routeL xs f n t).length (M4.iv (PN.routeL xs f n t)) ∧ Below w.heap.size w w' := by
  have ST : Hid (∀ W : World, MI5.RowAt W a xs → Calls Try.prog 36 #[.slice a xs.length ca, .int .i64 f, .int .i64 n] W fun e w' => e = .returned (.bool (PN.startOk xs f n)) ∧ Below W.heap.size W w') := fun W h => isStart_any a ca xs f n W hn h
  have NT : Hid (∀ W : World, Calls Try.prog 34 #[.int .i64 t] W fun e w' => e = .returned (.bool (decide (0 ≤ t ∧ t ≤ 7))) ∧ W = w') := fun W => nodeI_any t W
  have HI : Hid (MI5.RowAt w a xs) := hin
  clear hin
  obtain ⟨N, hN⟩ : ∃ N, PN.tellN (PN.routeM xs f n t) = N := ⟨_, rfl⟩
  obtain ⟨T, hT⟩ : ∃ T, PN.tellB (PN.routeM xs f n t) = T := ⟨_, rfl⟩
  obtain ⟨L, hL⟩ : ∃ L, PN.routeL xs f n t = L := ⟨_, rfl⟩
  have NO : Hid (PN.askOk xs f n t = false → N = 0 ∧ T = false ∧ L = []) := fun h => by
    have hT' : PN.tellB (PN.routeM xs f n t) = false := by rw [PN.route_no h]; rfl
    rw [← hN, ← hT, ← hL, PN.routeL_no hT', PN.route_no h]; exact ⟨rfl, rfl, rfl⟩
  have YES : Hid (PN.askOk xs f n t = true → N = PN.tellN ((PN.fin xs (PN.st0 f n)).wh t.toNat) ∧ T = PN.tellB ((PN.fin xs (PN.st0 f n)).wh t.toNat) ∧ (T = false → L = []) ∧ (T = true → L = PN.way xs (PN.fin xs (PN.st0 f n)).la f.toNat 8 t.toNat)) := fun h => by
    rw [← hN, ← hT, ← hL, ← PN.route_yes h]; exact ⟨rfl, rfl, PN.routeL_no, PN.routeL_yes⟩
  rw [hN, hT, hL]
  clear hN hT hL
  obtain ⟨q3, h3⟩ : ∃ q, decide (0 ≤ t ∧ t ≤ 7) = q := ⟨_, rfl⟩
  obtain ⟨q0, h0⟩ : ∃ q, PN.startOk xs f n = q := ⟨_, rfl⟩
  have hS : PN.askOk xs f n t = (q0 && q3) := by rw [← h0, ← h3]; rfl
  rw [h0] at ST
  rw [h3] at NT
  have HS : Hid _ := hS
  clear h0 h3 hS
  go_enter Try.func23, Try.ntmps23
  go_wp2_with fail
  refine (ST.out _ HI.out).mono ?_
  rintro e w1 ⟨rfl, hb1⟩
  have HI1 : Hid (MI5.RowAt w1 a xs) := HI.out.below hb1
  clear ST HI
  cases q0 with
  | false =>
    obtain ⟨rfl, rfl, rfl⟩ := NO.out HS.out
    clear NO YES NT HS HI1
    go_wp2
    go_ret3
    exact ⟨none, 0, rfl, World.ownsRow_nil _ _ _ _, hb1⟩
  | true =>
    go_wp2_with fail
    refine (NT.out _).mono ?_
    rintro e w' ⟨rfl, rfl⟩
    clear NT
    cases q3 with
    | false =>
      obtain ⟨rfl, rfl, rfl⟩ := NO.out HS.out
      clear NO YES HS HI1
      go_wp2
      go_ret3
      exact ⟨none, 0, rfl, World.ownsRow_nil _ _ _ _, hb1⟩
    | true =>
      have hask : PN.askOk xs f n t = true := HS.out
      obtain ⟨hst, ht0, ht1⟩ := PN.ask_is hask
      obtain ⟨hok, hf0, hf1, hn0, hn1⟩ := PN.start_is hst
      have HY : Hid _ := YES.out hask
      have JF : Hid (∀ W : World, MI5.RowAt W a xs → Calls Try.prog 37 #[.slice a xs.length ca, .int .i64 f, .int .i64 n] W fun e w' => e = .returned (.agg (PN.jc f (PN.wb (PN.fin xs (PN.st0 f n))) (PN.lb (PN.fin xs (PN.st0 f n)))).toArray) ∧ Below W.heap.size W w') := fun W hr => journeyFrom_any a ca xs f n W hok hf0 hf1 hn0 hn1 hr
      have HVI : Hid (∃ rk, PN.Via xs f.toNat (PN.fin xs (PN.st0 f n)) rk) := PN.via_fin hok (PN.st0_ok hn0 hn1) (PN.ord_st0 hok) (PN.via_st0 xs hf0 hf1)
      have HOS : Hid (PN.okS (PN.fin xs (PN.st0 f n)).wh) := PN.fin_okS hok (PN.st0_ok hn0 hn1)
      have HOK : Hid _ := hok
      clear NO YES HS hask hst hok
      obtain ⟨tn, rfl⟩ := Int.eq_ofNat_of_zero_le ht0
      obtain ⟨fn, rfl⟩ := Int.eq_ofNat_of_zero_le hf0
      have ht8 : tn < 8 := by omega
      have hf8 : fn < 8 := by omega
      have tt8 : (tn : Int) < 8 := by omega
      generalize PN.fin xs (PN.st0 (fn : Int) n) = s at *
      rw [show ((tn : Int)).toNat = tn from rfl, show ((fn : Int)).toNat = fn from rfl] at HY
      rw [show ((fn : Int)).toNat = fn from rfl] at HVI
      go_wp2_with fail
      refine (JF.out _ HI1.out).mono ?_
      rintro e w2 ⟨rfl, hb2⟩
      have HRN : Hid (MA.Rg (w2.alloc (.cells (PN.jc 0 (fun _ => 0) (fun _ => 0)).toArray 64)) w2.heap.size 0 (PN.jc 0 (fun _ => 0) (fun _ => 0))) := MA.Rg.new _ _ _
      have HRP : Hid (MA.Rg ((w2.alloc (.cells (PN.jc 0 (fun _ => 0) (fun _ => 0)).toArray 64)).setCells w2.heap.size 0 (PN.jc (fn : Int) (PN.wb s) (PN.lb s))) w2.heap.size 0 (PN.jc (fn : Int) (PN.wb s) (PN.lb s))) := HRN.out.put (by rw [PN.jc_len, PN.jc_len])
      have HBP : Hid (Below w2.heap.size w2 ((w2.alloc (.cells (PN.jc 0 (fun _ => 0) (fun _ => 0)).toArray 64)).setCells w2.heap.size 0 (PN.jc (fn : Int) (PN.wb s) (PN.lb s)))) := MA.below_cells (Nat.le_refl _) _ _ _ ((Below.refl _ w2).alloc (Nat.le_refl _) _)
      have HB2 : Hid (Below w.heap.size w w2) := hb1.trans (hb2.mono hb1.size)
      have HI2 : Hid (MI5.RowAt w2 a xs) := HI1.out.below hb2
      clear JF HI1 hb1 hb2
      have TL : Hid (∀ W : World, Calls Try.prog 38 #[.float .f64 (s.wh tn).b] W fun e w' => e = .returned (.tuple #[.int .i64 (PN.tellN (s.wh tn)), .bool (PN.tellB (s.wh tn))]) ∧ W = w') := fun W => tell_any _ W (.inr (HOS.out tn))
      go_wp2_with (first
        | (refine MA.alloc_z rfl 64 rfl _ _ Try.infoJ ?_)
        | (refine MA.store_m rfl 64 _ _ rfl rfl rfl (vs := PN.jc (fn : Int) (PN.wb s) (PN.lb s)) (cs := PN.jc 0 (fun _ => 0) (fun _ => 0)) ?_ Try.sizeJ (PN.jc_len _ _ _) (PN.jc_len _ _ _) (PN.jc_one _ _ _) ?_; exact HRN.out; clear HRN; generalize World.setCells _ _ _ _ = W3 at *; have ct : W3.cell? ⟨w2.heap.size, 1 + tn, none⟩ = some (.float .f64 (s.wh tn).b) := (PN.rg_w HRP.out ht8).1; have hl3 := HRP.out.lt))
      refine (TL.out _).mono ?_
      rintro e w' ⟨rfl, rfl⟩
      have HB3 : Hid (Below w.heap.size w W3) := HB2.out.trans (HBP.out.mono HB2.out.size)
      have HI3 : Hid (MI5.RowAt W3 a xs) := HI2.out.below HBP.out
      clear TL ct HBP HI2 HB2
      generalize w2.heap.size = jb at *
      have okt := HOS.out tn
      cases hm : s.wh tn with
      | ago => rw [hm] at okt; exact absurd okt id
      | inf =>
        rw [hm] at HY
        obtain ⟨rfl, rfl, hLL, -⟩ := HY.out
        obtain rfl := hLL rfl
        clear HY HOK HVI HOS HRP HI3 hm okt
        go_wp2
        go_ret3
        exact ⟨none, 0, rfl, World.ownsRow_nil _ _ _ _, HB3.out⟩
      | fin p =>
        rw [hm] at HY
        obtain ⟨hNp, hTp, -, hLL⟩ := HY.out
        have hTp' : T = true := hTp
        have hLw := hLL hTp'
        obtain ⟨rk, hV⟩ := HVI.out
        have HB : PN.Back xs fn s L tn [] := by rw [hLw]; exact PN.Back.start hV ht8 hm
        have RT : Hid (∀ W : World, MI5.RowAt W a xs → Calls Try.prog 39 #[.agg (PN.jc (fn : Int) (PN.wb s) (PN.lb s)).toArray, .slice a xs.length ca, .int .i64 (tn : Int)] W fun e w' => ∃ a1 c1, e = .returned (.slice a1 L.length c1) ∧ w'.ownsRow W.heap.size 3 1 (.slice a1 L.length c1) L.length (M4.iv L) ∧ Below W.heap.size W w') := fun W hr => rowTo_any a ca xs fn tn s L W HOK.out hf8 HB hr
        have HN : Hid (PN.tellN (.fin p) = N) := hNp.symm
        have HT : Hid (T = true) := hTp'
        clear HY hLL hV HVI HOS hm hLw HB hNp hTp hTp' HOK okt
        rw [show PN.tellB (.fin p) = true from rfl, HN.out]
        go_wp2_with (refine MA.load_m rfl 64 _ rfl rfl (cs := PN.jc (fn : Int) (PN.wb s) (PN.lb s)) ?_ Try.underlying64 rfl Try.sizeJ (PN.jc_len _ _ _) ?_; exact HRP.out; clear HRP)
        refine (RT.out _ HI3.out).mono ?_
        rintro e w4 ⟨a1, c1, rfl, hown4, hb4⟩
        have HO4 : Hid _ := hown4
        have HB4 : Hid (Below w.heap.size w w4) := HB3.out.trans (hb4.mono HB3.out.size)
        clear RT hown4 hb4
        go_wp2
        go_ret3
        exact ⟨a1, c1, by rw [HT.out]; rfl, CS6.own_base HO4.out HB3.out.size, HB4.out⟩
end Go.Proofs.Ytlkioijpdlalhaa

/- ForwardStep, the specification's. -/
namespace Go.Proofs.Ytlkioijpdlalhaa
open Go.RowKit
set_option linter.unusedSimpArgs false in
set_option maxHeartbeats 1600000 in
set_option maxRecDepth 100000 in
theorem stepS_any (a : Option Addr) (cap : Nat) (xs : List I5) (b : Bd) (f n t : Int) (w : World) (hn : xs.length ≤ 1048576) (hs : b.py.size ≤ 1048576) (hin : MI5.RowAt w a xs) :
    Calls Try.prog 7 #[.slice a xs.length cap, b.v, .int .i64 f, .int .i64 n, .int .i64 t] w fun e w' => e = .returned (.tuple #[.int .i64 (GP.stepK xs b f n t), .int .i64 (GP.stepT xs b f n t), .bool (GP.stepOk xs b f n t)]) ∧ Below w.heap.size w w' := by
  have P1 : Hid (∀ W : World, Below w.heap.size w W → Calls Try.prog 18 #[.slice a xs.length cap, b.v] W fun e w' => e = .returned (.bool (GP.fitsB xs b)) ∧ Below W.heap.size W w') := fun W h => fitsS_any a cap xs b W hn hs (hin.below h)
  have P2 : Hid (∀ W : World, Below w.heap.size w W → Calls Try.prog 19 #[.slice a xs.length cap, .int .i64 f, .int .i64 n, .int .i64 t] W fun e w' => ∃ a1 c1, e = .returned (.tuple #[.slice a1 (PN.routeL xs f n t).length c1, .int .i64 (PN.tellN (PN.routeM xs f n t)), .bool (PN.tellB (PN.routeM xs f n t))]) ∧ w'.ownsRow W.heap.size 3 1 (.slice a1 (PN.routeL xs f n t).length c1) (PN.routeL xs f n t).length (M4.iv (PN.routeL xs f n t)) ∧ Below W.heap.size W w') := fun W h => specRoute_any a cap xs f n t W hn (hin.below h)
  have P3 : Hid (PN.tellB (PN.routeM xs f n t) = true → PN.routeL xs f n t ≠ [] → ∃ i : Nat, (PN.routeL xs f n t).getD 0 0 = (i : Int) ∧ i < xs.length ∧ (∀ W : World, Calls Try.prog 20 #[(MI5.at_ xs i).v, .int .i64 n] W fun e w' => e = .returned (.int .i64 (PN.ov (PN.ofN xs ((PN.routeL xs f n t).getD 0 0)) n)) ∧ Below W.heap.size W w')) := fun h1 h2 => by
    obtain ⟨q1, q2, ⟨q3, q4⟩, q5, q6, q7⟩ := GP.first_of h1 h2
    obtain ⟨hok, f0, f1, n0, n1⟩ := PN.start_is q1
    obtain ⟨i, hi⟩ := Int.eq_ofNat_of_zero_le q3
    have hil : i < xs.length := by omega
    refine ⟨i, hi, hil, fun W => ?_⟩
    rw [hi]
    exact l6Over_any _ n W (PN.okP_good hok hil) n0 (by omega)
  have HROW : Hid (MI5.RowAt w a xs) := hin
  have P4 : Hid (GP.fitsB xs b = true → (0 ≤ b.md ∧ b.md ≤ 1000) ∧ (1 ≤ b.lf ∧ b.lf ≤ 1000000)) := fun h => by
    obtain ⟨_, _, _, _, h1, h2, _⟩ := GP.fits_is h
    exact ⟨h1, h2⟩
  have HS : Hid (GP.stepOk xs b f n t = (GP.fitsB xs b && PN.tellB (PN.routeM xs f n t) && decide (PN.routeL xs f n t ≠ []) && decide (PN.ov (PN.ofN xs ((PN.routeL xs f n t).getD 0 0)) n ≤ b.md + b.lf))) := show GP.stepOk xs b f n t = _ from rfl
  have NO : Hid (GP.stepOk xs b f n t = false → GP.stepK xs b f n t = 0 ∧ GP.stepT xs b f n t = 0) := fun h => GP.step_no h
  have YES : Hid (GP.stepOk xs b f n t = true → GP.stepK xs b f n t = (PN.routeL xs f n t).getD 0 0 ∧ GP.stepT xs b f n t = PN.ov (PN.ofN xs ((PN.routeL xs f n t).getD 0 0)) n) := fun h => GP.step_yes h
  have hA := BdAt.box w b 31
  have hB := (Below.refl _ w).alloc (Nat.le_refl _) (.cells #[.int .i64 b.fr, .int .i64 b.to, .bool b.gr, .int .i64 b.md, .int .i64 b.no, .int .i64 b.lf, .int .i64 b.hp, .int .i64 b.of, .int .i64 b.tl, .string b.py] 31)
  clear hin
  generalize GP.stepOk xs b f n t = R at *
  generalize GP.stepK xs b f n t = RK at *
  generalize GP.stepT xs b f n t = RT at *
  generalize PN.ov (PN.ofN xs ((PN.routeL xs f n t).getD 0 0)) n = u at *
  generalize GP.fitsB xs b = q1 at *
  generalize PN.tellB (PN.routeM xs f n t) = T at *
  generalize PN.tellN (PN.routeM xs f n t) = N at *
  generalize PN.routeL xs f n t = L at *
  obtain ⟨fr, to, gr, md, no, lf, hp, of, tl, py⟩ := b
  obtain ⟨hlt, c0, c1, c2, c3, c4, c5, c6, c7, c8, c9⟩ := id hA
  go_enter Try.func7, Try.ntmps7
  go_wp2_with fail
  refine (P1.out _ hB).mono ?_
  rintro e w1 ⟨rfl, hb1⟩
  clear c0 c1 c2 c3 c4 c5 c6 c7 c8 c9 hlt P1
  have hA1 := hA.below hb1 hA.1
  have hB1 := hB.trans (hb1.mono hB.size)
  clear hb1 hA hB
  cases q1 with
  | false =>
    have hR : R = false := HS.out
    obtain ⟨rfl, rfl⟩ := NO.out hR
    subst hR
    clear P2 P3 P4 HS NO YES hA1 HROW
    go_wp2
    go_ret3
    exact ⟨rfl, hB1⟩
  | true =>
    go_wp2_with fail
    refine (P2.out _ hB1).mono ?_
    rintro e w2 ⟨a2, c2, rfl, ho, hb2⟩
    have HO : Hid _ := ho
    clear P2 ho
    have hA2 := hA1.below hb2 hA1.1
    have hB2 := hB1.trans (hb2.mono hB1.size)
    clear hb2 hA1 hB1
    cases T with
    | false =>
      have hR : R = false := HS.out
      obtain ⟨rfl, rfl⟩ := NO.out hR
      subst hR
      clear P3 P4 HS NO YES hA2 HO HROW
      go_wp2
      go_ret3
      exact ⟨rfl, hB2⟩
    | true =>
      by_cases hL : L = []
      · subst hL
        have hR : R = false := HS.out
        obtain ⟨rfl, rfl⟩ := NO.out hR
        subst hR
        clear P3 P4 HS NO YES hA2 HO HROW
        go_wp2
        go_ret3
        exact ⟨rfl, hB2⟩
      · have hl0 : 0 < L.length := List.length_pos_iff.2 hL
        obtain ⟨i, hki, hil, hov⟩ := P3.out (by first | rfl | trivial) hL
        have P3' : Hid _ := hov
        obtain ⟨⟨hm0, hm1⟩, hf0, hf1⟩ := P4.out (by first | rfl | trivial)
        have HS' : Hid (R = decide (u ≤ md + lf)) := by show R = _; rw [HS.out]; simp [hL]
        obtain ⟨b4, off4, rfl, hlt4, e0, e1, e2, e3, e4⟩ := (HROW.out.below hB2).at hil
        clear P3 P4 HS hL HROW hov
        obtain ⟨g, c, hsl, hcap⟩ : ∃ g c, Value.slice a2 L.length c2 = .slice (some ⟨g, 0, none⟩) L.length c ∧ L.length ≤ c ∧ c ≤ maxLen := by
          rcases HO.out.2 with ⟨h1, h2⟩ | ⟨g, c, cur, hv, _, _, h1, h2, _⟩
          · exact absurd h2 (by omega)
          · exact ⟨g, c, hv, h1, h2⟩
        cases hsl
        obtain ⟨hi1, hc1, hg1⟩ := GP.ints_one (M5.own_ints HO.out) hl0
        have HI1 : Hid _ := hi1
        have HC1 : Hid _ := hc1
        clear HO hi1 hc1
        rw [hki] at HC1 YES
        clear HI1 hki
        generalize hln : L.length = ln at *
        clear hln
        have h0 : (ln == 0) = false := by simp; omega
        obtain ⟨hlt, c0, c1, c2_, c3, c4, c5, c6, c7, c8, c9⟩ := id hA2
        clear c0 c1 c2_ c4 c6 c7 c8 c9
        have hc1 := HC1.out
        generalize hcc : MI5.at_ xs i = cc at *
        clear hcc
        obtain ⟨x0, x1, x2, x3, x4⟩ := cc
        clear c3 c5 hlt
        go_wp2_with fail
        refine (P3'.out _).mono ?_
        rintro e w3 ⟨rfl, hb3⟩
        clear P3' e0 e1 e2 e3 e4
        have hc4 : w3.cell? ⟨g, 0, none⟩ = some (.int .i64 (i : Int)) := (hb3.cell (p := ⟨g, 0, none⟩) hg1).trans HC1.out
        have hg4 := Nat.lt_of_lt_of_le hg1 hb3.size
        have hA3 := hA2.below hb3 hA2.1
        have hB3 := hB2.trans (hb3.mono hB2.size)
        clear hb3 hA2 hB2 HC1 hc1 hg1
        obtain ⟨hlt, c0, c1, c2_, c3, c4, c5, c6, c7, c8, c9⟩ := id hA3
        clear c0 c1 c2_ c4 c6 c7 c8 c9 hA3
        by_cases hu : u ≤ md + lf
        · have hR : R = true := by rw [HS'.out]; simp [hu]
          obtain ⟨hk, hT⟩ := YES.out hR
          have hd : decide (md + lf < u) = false := by simp; omega
          subst hR
          subst hT
          subst hk
          clear NO YES HS'
          go_wp2
          go_ret3
          exact ⟨rfl, hB3⟩
        · have hR : R = false := by rw [HS'.out]; simp; omega
          have hd : decide (md + lf < u) = true := by simp; omega
          obtain ⟨rfl, rfl⟩ := NO.out hR
          subst hR
          clear NO YES HS'
          go_wp2
          go_ret3
          exact ⟨rfl, hB3⟩
end Go.Proofs.Ytlkioijpdlalhaa

/- ForwardStep, the program's. -/
namespace Go.Proofs.Ytlkioijpdlalhaa
open Go.RowKit
set_option linter.unusedSimpArgs false in
set_option maxHeartbeats 1600000 in
set_option maxRecDepth 100000 in
theorem stepI_any (a : Option Addr) (cap : Nat) (xs : List I5) (b : Bd) (f n t : Int) (w : World) (hn : xs.length ≤ 1048576) (hs : b.py.size ≤ 1048576) (hin : MI5.RowAt w a xs) :
    Calls Try.prog 10 #[.slice a xs.length cap, b.v, .int .i64 f, .int .i64 n, .int .i64 t] w fun e w' => e = .returned (.tuple #[.int .i64 (GP.stepK xs b f n t), .int .i64 (GP.stepT xs b f n t), .bool (GP.stepOk xs b f n t)]) ∧ Below w.heap.size w w' := by
  have P1 : Hid (∀ W : World, Below w.heap.size w W → Calls Try.prog 22 #[.slice a xs.length cap, b.v] W fun e w' => e = .returned (.bool (GP.fitsB xs b)) ∧ Below W.heap.size W w') := fun W h => fitsI_any a cap xs b W hn hs (hin.below h)
  have P2 : Hid (∀ W : World, Below w.heap.size w W → Calls Try.prog 23 #[.slice a xs.length cap, .int .i64 f, .int .i64 n, .int .i64 t] W fun e w' => ∃ a1 c1, e = .returned (.tuple #[.slice a1 (PN.routeL xs f n t).length c1, .int .i64 (PN.tellN (PN.routeM xs f n t)), .bool (PN.tellB (PN.routeM xs f n t))]) ∧ w'.ownsRow W.heap.size 3 1 (.slice a1 (PN.routeL xs f n t).length c1) (PN.routeL xs f n t).length (M4.iv (PN.routeL xs f n t)) ∧ Below W.heap.size W w') := fun W h => implRoute_any a cap xs f n t W hn (hin.below h)
  have P3 : Hid (PN.tellB (PN.routeM xs f n t) = true → PN.routeL xs f n t ≠ [] → ∀ (W : World) (g c : Nat), Below w.heap.size w W → M4.IntsAt W (some ⟨g, 0, none⟩) [(PN.routeL xs f n t).getD 0 0] → Calls Try.prog 24 #[.slice a xs.length cap, .int .i64 f, .int .i64 n, .slice (some ⟨g, 0, none⟩) 1 c] W fun e w' => e = .returned (.tuple #[.int .i64 (PN.ov (PN.ofN xs ((PN.routeL xs f n t).getD 0 0)) n), .bool true]) ∧ Below W.heap.size W w') := fun h1 h2 W g c hb hi => by
    have h := implArrive_any a (some ⟨g, 0, none⟩) cap c xs f n [(PN.routeL xs f n t).getD 0 0] W hn (by simp) (hin.below hb) hi
    rw [(GP.first_of h1 h2).2.2.2.2.2] at h
    exact h
  have P4 : Hid (GP.fitsB xs b = true → ∀ W : World, Calls Try.prog 25 #[b.v] W fun e w' => e = .returned (.int .i64 (b.md + b.lf)) ∧ Below W.heap.size W w') := fun h W => by
    obtain ⟨_, _, _, _, h1, h2, _⟩ := GP.fits_is h
    exact lastTime_any b W h1 h2
  have HS : Hid (GP.stepOk xs b f n t = (GP.fitsB xs b && PN.tellB (PN.routeM xs f n t) && decide (PN.routeL xs f n t ≠ []) && decide (PN.ov (PN.ofN xs ((PN.routeL xs f n t).getD 0 0)) n ≤ b.md + b.lf))) := show GP.stepOk xs b f n t = _ from rfl
  have NO : Hid (GP.stepOk xs b f n t = false → GP.stepK xs b f n t = 0 ∧ GP.stepT xs b f n t = 0) := fun h => GP.step_no h
  have YES : Hid (GP.stepOk xs b f n t = true → GP.stepK xs b f n t = (PN.routeL xs f n t).getD 0 0 ∧ GP.stepT xs b f n t = PN.ov (PN.ofN xs ((PN.routeL xs f n t).getD 0 0)) n) := fun h => GP.step_yes h
  have hA := BdAt.box w b 31
  have hB := (Below.refl _ w).alloc (Nat.le_refl _) (.cells #[.int .i64 b.fr, .int .i64 b.to, .bool b.gr, .int .i64 b.md, .int .i64 b.no, .int .i64 b.lf, .int .i64 b.hp, .int .i64 b.of, .int .i64 b.tl, .string b.py] 31)
  clear hin
  generalize GP.stepOk xs b f n t = R at *
  generalize GP.stepK xs b f n t = RK at *
  generalize GP.stepT xs b f n t = RT at *
  generalize PN.ov (PN.ofN xs ((PN.routeL xs f n t).getD 0 0)) n = u at *
  generalize GP.fitsB xs b = q1 at *
  generalize PN.tellB (PN.routeM xs f n t) = T at *
  generalize PN.tellN (PN.routeM xs f n t) = N at *
  generalize PN.routeL xs f n t = L at *
  generalize hml : b.md + b.lf = ml at *
  generalize xs.length = m at *
  obtain ⟨fr, to, gr, md, no, lf, hp, of, tl, py⟩ := b
  obtain ⟨hlt, c0, c1, c2, c3, c4, c5, c6, c7, c8, c9⟩ := id hA
  clear hml
  go_enter Try.func10, Try.ntmps10
  go_wp2_with fail
  refine (P1.out _ hB).mono ?_
  rintro e w1 ⟨rfl, hb1⟩
  clear c0 c1 c2 c3 c4 c5 c6 c7 c8 c9 hlt P1
  have hA1 := hA.below hb1 hA.1
  have hB1 := hB.trans (hb1.mono hB.size)
  clear hb1 hA hB
  cases q1 with
  | false =>
    have hR : R = false := HS.out
    obtain ⟨rfl, rfl⟩ := NO.out hR
    subst hR
    clear P2 P3 P4 HS NO YES hA1
    go_wp2
    go_ret3
    exact ⟨rfl, hB1⟩
  | true =>
    go_wp2_with fail
    refine (P2.out _ hB1).mono ?_
    rintro e w2 ⟨a2, c2, rfl, ho, hb2⟩
    have HO : Hid _ := ho
    clear P2 ho
    have hA2 := hA1.below hb2 hA1.1
    have hB2 := hB1.trans (hb2.mono hB1.size)
    clear hb2 hA1 hB1
    cases T with
    | false =>
      have hR : R = false := HS.out
      obtain ⟨rfl, rfl⟩ := NO.out hR
      subst hR
      clear P3 P4 HS NO YES hA2 HO
      go_wp2
      go_ret3
      exact ⟨rfl, hB2⟩
    | true =>
      by_cases hL : L = []
      · subst hL
        have hR : R = false := HS.out
        obtain ⟨rfl, rfl⟩ := NO.out hR
        subst hR
        clear P3 P4 HS NO YES hA2 HO
        go_wp2
        go_ret3
        exact ⟨rfl, hB2⟩
      · have hl0 : 0 < L.length := List.length_pos_iff.2 hL
        have P3' : Hid _ := P3.out (by first | rfl | trivial) hL
        have P4' : Hid _ := P4.out (by first | rfl | trivial)
        have HS' : Hid (R = decide (u ≤ ml)) := by show R = _; rw [HS.out]; simp [hL]
        clear P3 P4 HS hL
        obtain ⟨g, c, hsl, hcap⟩ : ∃ g c, Value.slice a2 L.length c2 = .slice (some ⟨g, 0, none⟩) L.length c ∧ L.length ≤ c ∧ c ≤ maxLen := by
          rcases HO.out.2 with ⟨h1, h2⟩ | ⟨g, c, cur, hv, _, _, h1, h2, _⟩
          · exact absurd h2 (by omega)
          · exact ⟨g, c, hv, h1, h2⟩
        cases hsl
        obtain ⟨hi1, hc1, hg1⟩ := GP.ints_one (M5.own_ints HO.out) hl0
        have HI1 : Hid _ := hi1
        have HC1 : Hid _ := hc1
        clear HO hi1 hc1
        generalize L.getD 0 0 = k at *
        generalize hln : L.length = ln at *
        clear hln
        have h1c : 1 ≤ c2 := by omega
        have h0 : (ln == 0) = false := by simp; omega
        obtain ⟨hlt, c0, c1, c2_, c3, c4, c5, c6, c7, c8, c9⟩ := id hA2
        clear c0 c1 c2_ c3 c4 c5 c6 c7 c8 c9 hlt
        go_wp2_with fail
        refine (P3'.out _ g _ hB2 HI1.out).mono ?_
        rintro e w3 ⟨rfl, hb3⟩
        clear P3' HI1
        have HC3 : Hid (w3.cell? ⟨g, 0, none⟩ = some (.int .i64 k)) := (hb3.cell (p := ⟨g, 0, none⟩) hg1).trans HC1.out
        have hg3 := Nat.lt_of_lt_of_le hg1 hb3.size
        have hA3 := hA2.below hb3 hA2.1
        have hB3 := hB2.trans (hb3.mono hB2.size)
        clear hb3 hA2 hB2 HC1 hg1
        obtain ⟨hlt, c0, c1, c2_, c3, c4, c5, c6, c7, c8, c9⟩ := id hA3
        go_wp2_with fail
        refine (P4'.out _).mono ?_
        rintro e w4 ⟨rfl, hb4⟩
        clear c0 c1 c2_ c3 c4 c5 c6 c7 c8 c9 hlt P4'
        have hc4 : w4.cell? ⟨g, 0, none⟩ = some (.int .i64 k) := (hb4.cell (p := ⟨g, 0, none⟩) hg3).trans HC3.out
        have hg4 := Nat.lt_of_lt_of_le hg3 hb4.size
        have hB4 := hB3.trans (hb4.mono hB3.size)
        clear hb4 hA3 hB3 HC3
        by_cases hu : u ≤ ml
        · have hR : R = true := by rw [HS'.out]; simp [hu]
          obtain ⟨hk, hT⟩ := YES.out hR
          have hd : decide (ml < u) = false := by simp; omega
          subst hR
          subst hk hT
          clear NO YES HS'
          go_wp2
          go_ret3
          exact ⟨rfl, hB4⟩
        · have hR : R = false := by rw [HS'.out]; simp; omega
          have hd : decide (ml < u) = true := by simp; omega
          obtain ⟨rfl, rfl⟩ := NO.out hR
          subst hR
          clear NO YES HS'
          go_wp2
          go_ret3
          exact ⟨rfl, hB4⟩
end Go.Proofs.Ytlkioijpdlalhaa

/- The law FnExactForwardStep answers true, whatever the arguments. -/
namespace Go.Proofs.Ytlkioijpdlalhaa
open Go.RowKit
theorem lawStep_any (a : Option Addr) (cap : Nat) (xs : List I5) (b : Bd) (f n t : Int) (w : World) (hl : xs.length ≤ maxLen) (hi : MI5.RowAt w a xs) (hp : b.py.size ≤ maxLen) :
    Calls Try.prog 3 #[.slice a xs.length cap, b.v, .int .i64 f, .int .i64 n, .int .i64 t] w fun e w' => e = .returned (.bool true) ∧ Below w.heap.size w w' :=
  lawForwardStep_any a cap xs b f n t (GP.stepK xs b f n t) (GP.stepT xs b f n t) (GP.stepOk xs b f n t) (fun hz hy _ W hr => stepS_any _ _ xs b f n t W hz hy hr) (fun hz hy _ W hr => stepI_any _ _ xs b f n t W hz hy hr) w hl hi hp
end Go.Proofs.Ytlkioijpdlalhaa
