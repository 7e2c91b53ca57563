/- FnExactAskCell answers true at every cell and time, where impl.errNotAsSaid and impl.errTooMuch lie as their texts lay them: no other condition. -/
import Derived.Test.YtgmaeelalkfaaaaDoorCards
import Derived.Test.YtgmaeelalkfaaaaDoorTie
import Derived.WalkKit
import Derived.ProofKit
import Derived.OpenShut
import Derived.ShutString
import Derived.ChangeOld
import Derived.Below
import Derived.Deep.DeepHandedRow
import Derived.Lib.LaidTab
import Derived.Stop.LaidErr
import Derived.Stop.LaidTwo
import Derived.LaidHandle
import Derived.SizedLaws
import Derived.Test.YtgmaeelalkfaaaaDoorLAskC
import Derived.Test.YtgmaeelalkfaaaaDoorMRowBk
namespace Go.Proofs.YtgmaeelalkfaaaaDoor.fnExactAskCell
open Go.ChangeShapes Go.WideShapes Go.ChangeAt Go.RowKit
open Go.ChangeMaps (open_string shut_string)
set_option linter.unusedVariables false

theorem own : ownKnob Tryd.prog.godebug = none := by kernel_rfl
theorem laidOut : laidOutB Tryd.prog = true := by kernel_rfl
theorem var_lt {W : World} {nm : String} {g : Nat} {cs : Array Value} (hg : Tryd.prog.globalNamed nm = some g) (h : W.var? Tryd.prog nm = some cs) : g < W.heap.size := by
  unfold World.var? at h
  rw [hg] at h
  simp only [Option.bind_some] at h
  cases e : W.heap[g]? with
  | none => rw [e] at h; cases h
  | some o => exact (Array.getElem?_eq_some_iff.1 e).1
theorem blk_lt {W : World} {b : Nat} {o : Obj} (h : W.heap[b]? = some o) : b < W.heap.size := (Array.getElem?_eq_some_iff.1 h).1
theorem gE0 : Tryd.prog.globalNamed "loop.example/g00315/impl.errNotAsSaid" = some 0 := by kernel_rfl
theorem gET0 : (Tryd.prog.globals[0]?).map (·.type) = some 54 := by kernel_rfl
theorem gE1 : Tryd.prog.globalNamed "loop.example/g00315/impl.errTooMuch" = some 1 := by kernel_rfl
theorem gET1 : (Tryd.prog.globals[1]?).map (·.type) = some 54 := by kernel_rfl
theorem cellsS : Tryd.prog.cellsOf 120 = 1 := by kernel_rfl
theorem cells9 : Tryd.prog.cellsOf 9 = 1 := by kernel_rfl
theorem star : "*" ++ "errors.errorString" = "*errors.errorString" := by decide
theorem rowE (u : TypeId) (h : Tryd.prog.typeName? 3 u = some "*errors.errorString") : u = 98 :=
  typeName_ptr_named (nm := "errors.errorString") (by rw [star]; kernel_rfl) (by kernel_rfl) (by decide) u (by rw [star]; exact h)
set_option maxRecDepth 100000 in
theorem contract (H : Type) (enc : TypeId × Value → H) (W : World) (base : Nat) (args : Array Value) (ds gs : List (DataW H)) (before : List MemPlace)
    (hval : ∀ (j : Nat) t v, Tryd.f5.params[j]? = some t → args[j]? = some v → Value.okWide Tryd.prog W .any base t v)
    (hW : DataW.Whole enc Tryd.prog Tryd.f5.params.toList Rows.fnExactAskCellSpec.vars false W args.toList ds gs before)
    (hsz : (DataW.weightsEach Tryd.prog (Tryd.f5.params.toList ++ (OpenSpec.ofChange Rows.fnExactAskCellSpec).bare.plain.varTypes Tryd.prog) (ds ++ gs)).all (· ≤ reachBytes) = true) (hL : laidMetH Tryd.prog Rows.fnExactAskCellRow.laid W) :
    Calls Tryd.prog 5 args W fun e W' => ∃ v, e = .returned v ∧ Rows.fnExactAskCellSpec.post enc Tryd.prog Tryd.f5 false true false false W args v W' := by
  have hW' := hW
  obtain ⟨p, q, hA0, hV0, rfl, hfz, hnd⟩ := hW
  have hA : DataW.TrodAll enc Tryd.prog W 0 (fun _ => true) true Tryd.f5.params.toList args.toList ds p := hA0
  have hV : DataW.TrodVars enc Tryd.prog W (fun _ => true) ["loop.example/g00315/impl.errNotAsSaid", "loop.example/g00315/impl.errTooMuch"] gs q := hV0
  rw [Tryd.params5] at hA hval hsz
  obtain ⟨v0, vs0, d0, ds0, p0, q0, hargs, rfl, rfl, h0, r0⟩ := trodAll_cons hA
  obtain ⟨v1, vs1, d1, ds1, p1, q1, rfl, rfl, rfl, h1, r1⟩ := trodAll_cons r0
  obtain ⟨rfl, rfl, rfl⟩ := trodAll_nil r1
  obtain rfl : args = #[v0, v1] := by cases args; simp_all
  have k0 := h0
  have lt0 : ∀ x ∈ p0, x.block < W.heap.size := by obtain ⟨m, hm⟩ := k0; exact DataW.trod_lt m _ _ _ hm
  obtain ⟨b0, rfl⟩ := cell_open Tryd.underlying33 (by kernel_rfl) rfl rfl rfl Tryd.underlying3 Tryd.underlying3 Tryd.underlying3 (by kernel_rfl) (by kernel_rfl) (by kernel_rfl) (hval 0 33 v0 rfl rfl) h0
  obtain ⟨a1, rfl, rfl, rfl, w1⟩ := open_int Tryd.underlying3 (hval 1 3 v1 rfl rfl) h1
  have hLm : laidMet Tryd.prog [("loop.example/g00315/impl.errNotAsSaid", Rows.laid_loop_example_g00315_impl_errNotAsSaid), ("loop.example/g00315/impl.errTooMuch", Rows.laid_loop_example_g00315_impl_errTooMuch)] W := hL
  obtain ⟨x0, x1, s0, s1, c0, c1, t0, t1, hv0, hv1, hc0, hs0, hz0, hc1, hs1, hz1, hne, hb0, hb1⟩ := laid_sentinels2 hLm gE0 gET0 gE1 gET1 Tryd.underlying54 rowE Tryd.underlying98 Tryd.underlying120 rfl rfl Tryd.underlying9 cellsS cells9
  have vr : ∀ {X : World}, X.var? Tryd.prog "loop.example/g00315/impl.errNotAsSaid" = some #[.iface 98 (.pointer (some x0))] → X.var? Tryd.prog "loop.example/g00315/impl.errTooMuch" = some #[.iface 98 (.pointer (some x1))] → ∀ sp : Nat → Bool,
      DataW.TrodVars enc Tryd.prog X sp ["loop.example/g00315/impl.errNotAsSaid", "loop.example/g00315/impl.errTooMuch"] [tok enc (.iface 98 (.pointer (some x0))), tok enc (.iface 98 (.pointer (some x1)))] [.cell 0 0, .cell 1 0] :=
    fun y0 y1 sp => vars_read2 enc gE0 gET0 Tryd.underlying54 y0 trivial gE1 gET1 Tryd.underlying54 y1 trivial sp
  obtain ⟨rfl, rfl⟩ := hV.unique (vr hv0 hv1 _)
  have hg0 : W.cell? ⟨0, 0, none⟩ = some (.iface 98 (.pointer (some x0))) := by simpa using World.var?_cell gE0 hv0 0
  have hg1 : W.cell? ⟨1, 0, none⟩ = some (.iface 98 (.pointer (some x1))) := by simpa using World.var?_cell gE1 hv1 0
  have hE : Er2 W x0 x1 := ⟨⟨hg0, var_lt gE0 hv0⟩, hg1, var_lt gE1 hv1, Ne.symm hne, blk_lt hb0, blk_lt hb1, ⟨_, _, hb0⟩, _, _, hb1⟩
  clear hA0 hV0
  refine (lawAskC_any b0 a1 x0 x1 W hE).mono fun e W' ⟨he, bel⟩ => ?_
  subst he
  exact ⟨_, rfl, _, _, _, [], _, [.cell 0 0, .cell 1 0], hW', trodAll_mk1 (shut_bool Tryd.underlying4 _), (trodAll_cons_mk (Below.trod laidOut (by kernel_rfl) (of_decide_eq_true (by kernel_rfl)) k0 bel lt0) (trodAll_cons_mk (shut_int Tryd.underlying3 w1) trodAll_mk0)), vr (var?_below bel gE0 (var_lt gE0 hv0) hv0) (var?_below bel gE1 (var_lt gE1 hv1) hv1) _, bel.frame _, fun h => by cases h⟩

noncomputable def low : Nat := (World.holding Tryd.prog default ⟨#[], #[], []⟩).heap.size
set_option maxRecDepth 100000 in
noncomputable def laidWorld (os : Os) : World :=
  { World.holding Tryd.prog os ⟨#[.cells #[.string { data := #[110, 111, 116, 32, 97, 115, 32, 115, 97, 105, 100] }] 120, .cells #[.string { data := #[116, 111, 111, 32, 109, 117, 99, 104, 32, 97, 116, 32, 111, 110, 99, 101] }] 120], #[], []⟩ with heap := (((World.holding Tryd.prog os ⟨#[.cells #[.string { data := #[110, 111, 116, 32, 97, 115, 32, 115, 97, 105, 100] }] 120, .cells #[.string { data := #[116, 111, 111, 32, 109, 117, 99, 104, 32, 97, 116, 32, 111, 110, 99, 101] }] 120], #[], []⟩).heap.modify 0 fun
      | .cells _ t frozen => .cells #[.iface 98 (.pointer (some ⟨low + 0, 0, none⟩))] t frozen
      | o => o).modify 1 fun
      | .cells _ t frozen => .cells #[.iface 98 (.pointer (some ⟨low + 1, 0, none⟩))] t frozen
      | o => o) }
set_option maxRecDepth 100000 in
theorem laid_met (os : Os) : laidMet Tryd.prog [("loop.example/g00315/impl.errNotAsSaid", Rows.laid_loop_example_g00315_impl_errNotAsSaid), ("loop.example/g00315/impl.errTooMuch", Rows.laid_loop_example_g00315_impl_errTooMuch)] ((laidWorld os).forCall (fun _ _ => 0) ⟨#[], #[.agg #[.int .i64 0, .int .i64 0, .int .i64 0], .int .i64 0], []⟩).memory :=
  laidMet_of_run (ps := [.cell 0 0, .cell (low + 0) 0, .cell 1 0, .cell (low + 1) 0]) 8 (by kernel_rfl) (by kernel_rfl) (by kernel_rfl)
set_option maxRecDepth 100000 in
theorem laid_metH (os : Os) : laidMetH Tryd.prog Rows.fnExactAskCellRow.laid ((laidWorld os).forCall (fun _ _ => 0) ⟨#[], #[.agg #[.int .i64 0, .int .i64 0, .int .i64 0], .int .i64 0], []⟩).memory :=
  laid_met os
set_option maxRecDepth 100000 in
theorem lifted (os : Os) (started : os.Started) (H : Type) (enc : TypeId × Value → H) (F : Stop.Interp) :
    ReturnsInHanded {} Tryd.checked os 5 .any ((OpenSpec.ofChange Rows.fnExactAskCellSpec).preRow enc Tryd.prog Tryd.f5 Rows.fnExactAskCellRow.domain false Rows.fnExactAskCellRow.laid) (((OpenSpec.ofChange Rows.fnExactAskCellSpec).at F).post enc Tryd.prog Tryd.f5 false true false false) := by
  refine returnsInHanded_of_row (C := Tryd.checked) (s := OpenSpec.ofChange Rows.fnExactAskCellSpec) own started (by kernel_rfl) Tryd.func5
    (witness_row_at (enc := enc) (C := Tryd.checked) false (laidWorld os) #[.agg #[.int .i64 0, .int .i64 0, .int .i64 0], .int .i64 0] rfl (by kernel_rfl) (by kernel_rfl) (by kernel_rfl)
      (OpenSpec.preRow_of_B rfl 8 (by kernel_rfl) (by kernel_rfl) (laid_metH os))) ?_
  intro W base args ds gs before hval hW _ _ hsz hL _ _
  exact contract H enc W base args ds gs before hval hW hsz hL

theorem said : Rows.FnExactAskCellSaid :=
  OpenClaim.holds_of_cond 5 Tryd.f5 rfl rfl rfl rfl rfl rfl rfl ⟨rfl, rfl, rfl, rfl, rfl⟩ rfl rfl rfl rfl rfl (by kernel_rfl) Tryd.func5 (by kernel_rfl)
    (of_decide_eq_true (by kernel_rfl)) (by unfold Func.isWrapper; first | (rw [if_pos (by decide +kernel)]; kernel_rfl) | (rw [if_neg (by decide +kernel)]; exact ⟨rfl, rfl⟩))
    (fun os started H enc _ F => by rw [OpenClaim.pre_eq_preRow]; exact lifted os started H enc F)

/-- No parameter wants a stand-in; the program's own looks are as the card says. -/
theorem plain (f : FuncId) (fn : Func) (hf : Tryd.pinned.checked.prog.funcNamed "loop.example/g00315/laws.FnExactAskCell" = some f) (hfn : Tryd.pinned.checked.prog.funcs[f]? = some fn) :
    true = Tryd.pinned.checked.prog.looks [] ∧ ∀ (j : Nat) t, fn.params[j]? = some t → Tryd.pinned.checked.prog.wantsStandIn t = false := by
  obtain rfl : f = 5 := Option.some.inj ((show Tryd.prog.funcNamed "loop.example/g00315/laws.FnExactAskCell" = some 5 by kernel_rfl).symm.trans hf) |>.symm
  obtain rfl : fn = Tryd.f5 := (Option.some.inj (Tryd.func5.symm.trans hfn)).symm
  refine ⟨by kernel_rfl, fun j t ht => ?_⟩
  rw [Tryd.params5] at ht
  have hts : t = 33 ∨ t = 3 := by simpa using Array.mem_of_getElem? ht
  rcases hts with rfl | rfl
  · exact (show Tryd.prog.wantsStandIn 33 = false by kernel_rfl)
  · exact (show Tryd.prog.wantsStandIn 3 = false by kernel_rfl)

end Go.Proofs.YtgmaeelalkfaaaaDoor.fnExactAskCell
namespace Go.Proofs.YtgmaeelalkfaaaaDoor
theorem FnExactAskCell_card : Rows.FnExactAskCellCardSaid :=
  Claim7.holds_tied_plain_at .later [] _ _ _ _ fnExactAskCell.said (fun _ h => by cases h) (by kernel_rfl) (fun _ h => by cases h) fnExactAskCell_row_tie rfl ⟨rfl, rfl⟩ (by kernel_rfl) rfl fnExactAskCell.plain (by kernel_rfl)
end Go.Proofs.YtgmaeelalkfaaaaDoor
#print axioms Go.Proofs.YtgmaeelalkfaaaaDoor.FnExactAskCell_card
