import Derived.Test.YtdgflhgbcfehhaaMRO
import Derived.Test.YtdgflhgbcfehhaaRows
import Derived.Test.YtdgflhgbcfehhaaCSpecPile
import Derived.Test.YtdgflhgbcfehhaaCAddI
import Derived.Test.YtdgflhgbcfehhaaCGoodBundle
import Derived.Test.YtdgflhgbcfehhaaMPD
import Derived.Test.YtdgflhgbcfehhaaMPC
import Derived.Test.YtdgflhgbcfehhaaMCB
import Derived.Test.YtdgflhgbcfehhaaMRH
import Derived.WalkKit
import Derived.WalkSpells
import Derived.WalkLawsBesides
import Derived.Outline
import Derived.Maps.AppendAt
import Derived.Deep.RegionHeld3
/- A cut behind a region; one operation of several that may come up. Plain facts, over whatever program. -/
namespace Go.Proofs.Ytdgflhgbcfehhaa
namespace MR
open Go.RowKit
variable {P : Program} {ops : Array Oper} {Q : Exit → Act → World → Prop}
theorem cut (I : Act → World → Prop) {c : Code} {a : Act} {w : World} (h : Code.wp P c (fun ex a w => ex = .normal ∧ I a w) a w) (k : ∀ a w, I a w → Q .normal a w) : Code.wp P c Q a w :=
  Code.wp_mono (fun e a w he => by obtain ⟨rfl, hi⟩ := he; exact k a w hi) h
theorem callW {i : Nat} (d : Option Tmp) (f : FuncId) (args : Array Value) {o : Oper} {a : Act} {w : World} {K : Act → World → Prop} (hi : ops[i]? = some o) (hd : o.dst = d)
    (hw : Region.wanted o (yielded ops a.tmps) = true) (hx : (execOp a.eval o).run P w = .ok (.enter f args) w)
    (h : Calls P f args w fun e w' => ∃ v, e = .returned v ∧ K (a.put d v) w') : wpOp P ops Q i K a w := by
  subst hd
  refine wpOp_step hi (fun K' hK => ?_)
  rw [if_pos hw]
  unfold Oper.wp
  rw [hx, Oper.upon_enter]
  refine h.mono ?_
  rintro e w' ⟨v, rfl, h⟩
  exact hK _ _ h
theorem nowW {i : Nat} (d : Option Tmp) (v : Value) {w' : World} {o : Oper} {a : Act} {w : World} {K : Act → World → Prop} (hi : ops[i]? = some o) (hd : o.dst = d)
    (hw : Region.wanted o (yielded ops a.tmps) = true) (hx : (execOp a.eval o).run P w = .ok (.value v) w') (h : K (a.put d v) w') : wpOp P ops Q i K a w := by
  subst hd
  refine wpOp_step hi (fun K' hK => ?_)
  rw [if_pos hw]
  unfold Oper.wp
  rw [hx, Oper.upon_value]
  exact hK _ _ h
theorem two {S : World → Prop} {md : Region.Mode} {fuel i j : Nat} {listed : Array Bool} {a : Act} {w : World} (hr : Region.ready md ops listed = [i, j])
    (hi : wpOp P ops Q i (fun a' w' => S w' ∧ wpAnyH P md ops Q S fuel (listed.setIfInBounds i true) a' w') a w)
    (hj : wpOp P ops Q j (fun a' w' => S w' ∧ wpAnyH P md ops Q S fuel (listed.setIfInBounds j true) a' w') a w) : wpAnyH P md ops Q S (fuel + 1) listed a w := by
  refine wpAnyH_all hr (by simp) (fun x hx => ?_)
  simp only [List.mem_cons, List.not_mem_nil, or_false] at hx
  rcases hx with rfl | rfl
  · exact hi
  · exact hj
end MR
end Go.Proofs.Ytdgflhgbcfehhaa

/- AddPiece of the specification. -/
namespace Go.Proofs.Ytdgflhgbcfehhaa
open Go.RowKit
theorem Try.infoBundleS : (Try.prog.info? 24).map (fun i => (i.zero, i.size, i.bytes)) = some (some (.agg (Bd.cs B1.zero).toArray), 10, 88) := by kernel_rfl
theorem Try.sizePileAS : (Try.prog.info? 31).map (·.size) = some 1 := by kernel_rfl
/-- What the specification's AddPiece holds. -/
structure SdIn (w W : World) (v : Value) (b : Bd) : Prop where
  below : Below w.heap.size w W
  arg : W.cell? ⟨w.heap.size, 0, none⟩ = some v
  bx : MA.Rg W (w.heap.size + 1) 0 b.cs
  res : MA.Rg W (w.heap.size + 1 + 1) 0 [.slice none 0 0]
theorem SdIn.kept {w W W' : World} {v : Value} {b : Bd} (h : SdIn w W v b) (hb : Below W.heap.size W W') : SdIn w W' v b := by
  have := h.bx.lt
  exact ⟨h.below.trans (hb.mono h.below.size), (hb.cell (p := ⟨w.heap.size, 0, none⟩) (by show w.heap.size < _; omega)).trans h.arg, h.bx.below hb h.bx.lt, h.res.below hb h.res.lt⟩
theorem SdIn.start (w : World) (v : Value) (b : Bd) (t1 t2 : TypeId) : SdIn w (((w.alloc (.cells #[v] t1)).alloc (.cells b.cs.toArray t2)).alloc (.cells #[.slice none 0 0] t1)) v b := by
  have hb : Below (w.heap.size + 1 + 1) ((w.alloc (.cells #[v] t1)).alloc (.cells b.cs.toArray t2)) (((w.alloc (.cells #[v] t1)).alloc (.cells b.cs.toArray t2)).alloc (.cells #[.slice none 0 0] t1)) := (Below.refl _ _).alloc (by simp) _
  have hb1 : Below (w.heap.size + 1) (w.alloc (.cells #[v] t1)) (((w.alloc (.cells #[v] t1)).alloc (.cells b.cs.toArray t2)).alloc (.cells #[.slice none 0 0] t1)) := ((Below.refl _ _).alloc (by simp) _).alloc (by simp) _
  refine ⟨(((Below.refl _ w).alloc (Nat.le_refl _) _).alloc (by simp) _).alloc (by simp; omega) _, ?_, (MA.Rg.new' (w.alloc (.cells #[v] t1)) b.cs t2 (w.heap.size + 1) (by simp)).below hb (by omega), MA.Rg.new' ((w.alloc (.cells #[v] t1)).alloc (.cells b.cs.toArray t2)) [.slice none 0 0] t1 (w.heap.size + 1 + 1) (by simp)⟩
  exact (hb1.cell (p := ⟨w.heap.size, 0, none⟩) (by show w.heap.size < _; omega)).trans (by simp)
/-- .. with the pile that it builds: its box, its row. -/
structure OdIn (w W : World) (v : Value) (b : Bd) (o : Nat) (u : Value) (zs : List Bd) : Prop where
  sd : SdIn w W v b
  ob : MA.Rg W o 0 [u]
  ow : W.ownsRow (w.heap.size + 1 + 1 + 1) 24 10 u zs.length (MP.flat zs)
  ne : u.ownBlock ≠ some o
  lo : w.heap.size + 1 + 1 < o
theorem OdIn.kept {w W W' : World} {v : Value} {b : Bd} {o : Nat} {u : Value} {zs : List Bd} (h : OdIn w W v b o u zs) (hb : Below W.heap.size W W') : OdIn w W' v b o u zs := ⟨h.sd.kept hb, h.ob.below hb h.ob.lt, MP.own_below h.ow hb, h.ne, h.lo⟩
theorem OdIn.start {w W : World} {v : Value} {b : Bd} {u : Value} {zs : List Bd} (h : SdIn w W v b) (ho : W.ownsRow (w.heap.size + 1 + 1 + 1) 24 10 u zs.length (MP.flat zs)) : OdIn w (W.alloc (.cells #[u] 31)) v b W.heap.size u zs :=
  ⟨h.kept ((Below.refl _ W).alloc (Nat.le_refl _) _), MA.Rg.new W [u] 31, ho.alloc _, fun e => by have := (ho.lt _ e).2; omega, h.res.lt⟩
theorem SdIn.kept3 {w W W' : World} {v : Value} {b : Bd} (h : SdIn w W v b) (hb : Below (w.heap.size + 1 + 1 + 1) W W') : SdIn w W' v b :=
  ⟨h.below.trans (hb.mono (by omega)), (hb.cell (p := ⟨w.heap.size, 0, none⟩) (by show w.heap.size < _; omega)).trans h.arg, h.bx.below hb (by omega), h.res.below hb (by omega)⟩
theorem rg_grown {w w' : World} {k o : Nat} {cs : List Value} {row : Option Nat} (h : MA.Rg w k o cs) (hg : w.grownBy w' row) (hne : some k ≠ row) : MA.Rg w' k o cs := by
  obtain ⟨h0, h1, h2⟩ := h
  have e := hg.block k h0 hne
  refine ⟨Nat.lt_of_lt_of_le h0 hg.size, fun j v hv => (World.cell?_of_block (a := ⟨k, o + j, none⟩) e).trans (h1 j v hv), fun j hj => ?_⟩
  obtain ⟨q1, q2⟩ := h2 j hj
  exact ⟨by rw [World.cell?_of_block (a := ⟨k, o + j, none⟩) e]; exact q1, by rw [World.frozen?_of_block (a := ⟨k, o + j, none⟩) e]; exact q2⟩
theorem app_run {P : Program} {o : Oper} {a : Act} {w w' : World} {s x : Operand} {t : TypeId} {v u v' : Value} (ho : o.op = .call { callee := .builtin .append, args := #[s, x], argTypes := #[t, t] }) (hs : a.eval s = v) (hx : a.eval x = u) (hr : (Builtin.append_ #[t, t] o.type #[v, u]).run P w = .ok v' w') : (execOp a.eval o).run P w = .ok (.value v') w' := by
  unfold execOp
  simp only [ho, resolve, invoke, builtin, Sem.run_bind, Sem.run_pure, Result.andThen_ok, List.map_toArray, List.map_cons, List.map_nil, hs, hx, hr]
/-- The row grew, and the box was set. -/
theorem OdIn.app {w W W1 w8 : World} {v : Value} {b : Bd} {o k0 : Nat} {u u' : Value} {zs ys : List Bd} (h : OdIn w W v b o u zs) (hb : Below W.heap.size W W1) (hown : w8.ownsRow (w.heap.size + 1 + 1 + 1) 24 10 u' ys.length (MP.flat ys)) (hgrow : W1.grownBy w8 u.ownBlock)
    (loc : u'.ownBlock = u.ownBlock ∨ u'.ownBlock = some k0) (hk : W.heap.size ≤ k0) : OdIn w (w8.setCell ⟨o, 0, none⟩ u') v b o u' ys := by
  have h3 := h.sd.res.lt
  have hol := h.ob.lt
  have hlo := h.lo
  have hne : u'.ownBlock ≠ some o := by
    rcases loc with l | l
    · rw [l]; exact h.ne
    · rw [l]; simp; omega
  have b1 : Below (w.heap.size + 1 + 1 + 1) W W1 := hb.mono (by omega)
  have b2 : Below (w.heap.size + 1 + 1 + 1) W w8 := b1.grown hgrow (by have := hb.size; omega) (fun j hj => (h.ow.lt j hj).1)
  have b3 : Below (w.heap.size + 1 + 1 + 1) W (w8.setCell ⟨o, 0, none⟩ u') := b2.setCell (p := ⟨o, 0, none⟩) (by show _ ≤ o; omega) _
  have r1 := rg_grown (h.ob.below hb hol) hgrow (fun e => h.ne e.symm)
  have r2 := r1.put1 (j := 0) (by simp) u'
  refine ⟨h.sd.kept3 b3, r2, ?_, hne, hlo⟩
  have g : w8.grownBy (w8.setCell ⟨o, 0, none⟩ u') (some o) := ⟨rfl, rfl, rfl, by simp, fun k _ hk => Below.heap_setCell w8 ⟨o, 0, none⟩ u' k (fun e => hk (by rw [e]))⟩
  exact hown.kept g (.inr hne)

/-- What the pile's row is. -/
theorem OdIn.row {w W : World} {v : Value} {b : Bd} {o c : Nat} {a : Option Addr} {zs : List Bd} (h : OdIn w W v b o (.slice a zs.length c) zs) : MP.BsAt W a zs ∧ zs.length ≤ c := by
  have h0 := h.ow
  obtain ⟨a1, c1, e1, hb⟩ := CB.view h0
  refine ⟨by injection e1 with e _ _; rw [e]; exact hb, ?_⟩
  rcases h0.2 with ⟨e, _⟩ | ⟨g, cap, cur, e, _, hg, hc1, hc2, hc3, hc4⟩
  · injection e with _ e2 _; omega
  · injection e with _ _ e3; subst e3; omega
theorem OdIn.blk {w W : World} {v : Value} {b : Bd} {o c n : Nat} {a : Option Addr} {zs : List Bd} (h : OdIn w W v b o (.slice a n c) zs) : ∀ p, a = some p → w.heap.size ≤ p.block := fun p e => by
  have := (h.ow.lt p.block (by rw [e]; simp [Value.ownBlock])).1
  omega
theorem OdIn.ret {w W : World} {v u : Value} {b : Bd} {o c : Nat} {a : Option Addr} {zs : List Bd} (h : OdIn w W v b o (.slice a zs.length c) zs) : (W.setCells (w.heap.size + 1 + 1) 0 [u]).ownsRow w.heap.size 24 10 (.slice a zs.length c) zs.length (MP.flat zs) := by
  have g : W.grownBy (W.setCells (w.heap.size + 1 + 1) 0 [u]) (some (w.heap.size + 1 + 1)) := ⟨rfl, rfl, rfl, by simp [World.setCells], fun k _ hk => Below.heap_setCell W ⟨w.heap.size + 1 + 1, 0, none⟩ u k (fun e => hk (by rw [e]))⟩
  have h1 := h.ow.kept g (.inr (fun e => by have := (h.ow.lt _ e).1; omega))
  exact CB.own_mono h1 (by omega)

set_option linter.unusedSimpArgs false in
set_option maxHeartbeats 25600000 in
set_option maxRecDepth 100000 in
theorem specAddC_any (cx : Nat) (g : Nat) (xs : List Bd) (b : Bd) (w : World) (hcx : xs.length ≤ cx) (hn : xs.length ≤ 1048576) (hs : b.py.size ≤ 1048576) (ht : Hid (∀ k, k < xs.length → (MP.at_ xs k).py.size ≤ 1048576)) (hin : MP.BsAt w (some ⟨g, 0, none⟩) xs) :
    Calls Try.prog 18 #[.agg #[.slice (some ⟨g, 0, none⟩) xs.length cx], .agg b.cs.toArray] w fun e w' => ∃ a1 c1, e = .returned (.tuple #[.agg #[.slice a1 (PD.ansS xs b).1.length c1], .bool (PD.ansS xs b).2]) ∧ w'.ownsRow w.heap.size 24 10 (.slice a1 (PD.ansS xs b).1.length c1) (PD.ansS xs b).1.length (MP.flat (PD.ansS xs b).1) ∧ Below w.heap.size w w' := by
  obtain ⟨i0, hi, hz0, hz1, hz2⟩ := info_parts Try.infoBundleS
  have HW : Hid _ := SdIn.start w (.slice (some ⟨g, 0, none⟩) xs.length cx) b 31 24
  have GP : Hid _ := fun W h => specGoodPile_any (some ⟨g, 0, none⟩) cx xs W hn ht h hcx
  have GB : Hid _ := fun W R hR => specGoodBundle_any b W hs R hR
  have HI : Hid (MP.BsAt w (some ⟨g, 0, none⟩) xs) := hin
  clear hin
  go_enter Try.func18, Try.ntmps18
  go_wp2_with fail
  refine (GP.out _ (MP.BsAt.below HI.out HW.out.below)).mono ?_
  rintro e w2 ⟨rfl, hb2⟩
  replace HW : Hid _ := HW.out.kept hb2
  clear GP hb2
  cases hg : PL.good xs with
  | false =>
    have HANS : Hid (PD.ansS xs b = ([], false)) := by show _ = _; simp [PD.ansS, hg]
    clear hg HI GB
    go_wp2_with (refine MA.store_m rfl 31 _ _ rfl rfl rfl (cs := [.slice none 0 0]) ?_ Try.sizePileAS rfl rfl (by simp [Value.oneCell']) ?_; exact HW.out.res)
    exact bodyPost_ret (MA.ret_cell2 rfl rfl rfl (MA.load_rg (HW.out.res.put (vs := [.slice none 0 0]) rfl) Try.underlying31 rfl Try.sizePileAS rfl)) rfl ⟨none, 0, by rw [HANS.out]; rfl, by rw [HANS.out]; exact World.ownsRow_nil _ _ _ _, MA.below_cells (by omega) _ _ _ HW.out.below⟩
  | true =>
    have HGD : Hid _ := hg
    have hx60 : xs.length ≤ 60 := by
      have : upOk xs = true := by rw [upOk_gd]; exact hg
      simp [upOk] at this; exact this.1
    have HBX : Hid _ := HW.out.bx.rng
    clear hg
    go_wp2_with (refine MA.load_g rfl 24 _ rfl rfl (cs := b.cs) ?_ Try.underlying24 rfl Try.sizeBundle rfl ?_; exact HBX.out)
    refine (GB.out _ _ rfl).mono ?_
    rintro e w3 ⟨rfl, hb3⟩
    replace HW : Hid _ := HW.out.kept hb3
    clear GB hb3 HBX
    cases hgb : B1.good b with
    | false =>
      have HANS : Hid (PD.ansS xs b = ([], false)) := by show _ = _; simp [PD.ansS, PL.pg, hgb]
      clear hgb HGD HI
      go_wp2_with (refine MA.store_m rfl 31 _ _ rfl rfl rfl (cs := [.slice none 0 0]) ?_ Try.sizePileAS rfl rfl (by simp [Value.oneCell']) ?_; exact HW.out.res)
      exact bodyPost_ret (MA.ret_cell2 rfl rfl rfl (MA.load_rg (HW.out.res.put (vs := [.slice none 0 0]) rfl) Try.underlying31 rfl Try.sizePileAS rfl)) rfl ⟨none, 0, by rw [HANS.out]; rfl, by rw [HANS.out]; exact World.ownsRow_nil _ _ _ _, MA.below_cells (by omega) _ _ _ HW.out.below⟩
    | true =>
      have c8 : w3.cell? ⟨w.heap.size + 1, 8, none⟩ = some (.int .i64 b.tl) := by
        have := HW.out.bx.cell (j := 8) (v := .int .i64 b.tl) rfl
        rwa [Nat.zero_add] at this
      have l8 := HW.out.bx.lt
      by_cases htl : b.tl = 0
      · have HANS : Hid (PD.ansS xs b = ([], false)) := by show _ = _; simp [PD.ansS, PL.pg, htl]
        have htb : (b.tl == 0) = true := by simp [htl]
        clear hgb HGD HI htl
        generalize b.tl = tl at *
        go_wp2_with (refine MA.store_m rfl 31 _ _ rfl rfl rfl (cs := [.slice none 0 0]) ?_ Try.sizePileAS rfl rfl (by simp [Value.oneCell']) ?_; exact HW.out.res)
        exact bodyPost_ret (MA.ret_cell2 rfl rfl rfl (MA.load_rg (HW.out.res.put (vs := [.slice none 0 0]) rfl) Try.underlying31 rfl Try.sizePileAS rfl)) rfl ⟨none, 0, by rw [HANS.out]; rfl, by rw [HANS.out]; exact World.ownsRow_nil _ _ _ _, MA.below_cells (by omega) _ _ _ HW.out.below⟩
      · have HPG : Hid (PL.pg b = true) := by show _ = _; simp [PL.pg, hgb, htl]
        have htb : (b.tl == 0) = false := by simp [htl]
        clear hgb htl
        generalize b.tl = tl at *
        go_wp2
        clear c8
        go_loopw [6] (fun iv wr => ∃ k : Nat, iv = .int .i64 k ∧ k ≤ xs.length ∧ SdIn w wr (.slice (some ⟨g, 0, none⟩) xs.length cx) b ∧ ∀ i, i < k → PL.ahead (MP.at_ xs i) b = true) (fun iv _ => (xs.length - intOf iv).toNat)
        case atStart => exact ⟨0, rfl, by omega, HW.out, fun i hi => absurd hi (by omega)⟩
        case round =>
          clear HW l8
          obtain ⟨k, rfl, hk, hI, hno⟩ := hrel
          have HNO : Hid _ := hno
          have HW : Hid _ := hI
          have c0 := hI.arg
          have hxl := hI.bx.lt
          have hXr : wr.rangeAt (w.heap.size + 1) 0 b.cs := hI.bx.rng
          have hq0 : w.heap.size < wr.heap.size := by omega
          have hk0 : (0 : Int) ≤ (k : Int) := by omega
          have hin2 : MP.BsAt wr (some ⟨g, 0, none⟩) xs := MP.BsAt.below HI.out hI.below
          clear hno hI
          by_cases hl : k < xs.length
          · obtain ⟨b0, off, hab, hgl, hYr⟩ := MA.row_range hin2 hl
            cases hab
            rw [Nat.zero_add] at hYr
            obtain ⟨y, hy⟩ : ∃ y, MP.at_ xs k = y := ⟨_, rfl⟩
            rw [hy] at hYr
            have hpy : y.py.size ≤ 1048576 := hy ▸ ht.out k hl
            have HY : Hid (MP.at_ xs k = y) := hy
            clear hy
            cases ha : PL.ahead y b with
            | true =>
              have AO : Hid _ := fun W => l4Before_any y b W hpy hs true ha
              have HAH : Hid _ := ha
              clear ha
              go_wp2
              refine MR.frame fun A hA => ?_
              have hsz : A.tmps.size = 98 := by rw [hA]; rfl
              have e2 : A.eval (.tmp 2) = .pointer (some ⟨w.heap.size, 0, none⟩) := by rw [hA]; rfl
              have f2 := MR.read (t := 2) (by rw [hsz]; decide) e2
              have e3 : A.eval (.tmp 3) = .pointer (some ⟨w.heap.size + 1, 0, none⟩) := by rw [hA]; rfl
              have f3 := MR.read (t := 3) (by rw [hsz]; decide) e3
              have e6 : A.eval (.tmp 6) = .int .i64 (k : Int) := by rw [hA]; rfl
              have f6 := MR.read (t := 6) (by rw [hsz]; decide) e6
              have HA : Hid (A = _) := hA
              clear hA
              have hS : (fun w' : World => Below wr.heap.size wr w') (World.drew _) := ((Below.refl _ wr).drew)
              refine wp_region_held (S := fun w' : World => Below wr.heap.size wr w') (by kernel_rfl) ?_
              change wpAnyH _ _ _ _ _ _ _ _ (World.drew _)
              refine MR.takeH (i := 0) (some 22) (.int .i64 (k : Int)) rfl rfl (by kernel_rfl) (by kernel_rfl) (by kernel_rfl) (fun _ _ _ h => h) hS (MR.free rfl) (fun wq hw => by simp [execOp, MR.ev, MR.size, hsz, e2, f2, e3, f3, e6, f6, go_sem]) ?_
              refine MR.takeH (i := 1) (some 23) ((.pointer (some ⟨w.heap.size, 0, none⟩))) rfl rfl (by kernel_rfl) (by kernel_rfl) (by kernel_rfl) (fun _ _ _ h => h) hS (MR.free rfl) (fun wq hw => by simp [execOp, MR.ev, MR.size, hsz, e2, f2, e3, f3, e6, f6, go_sem]) ?_
              refine MR.takeH (i := 2) (some 24) ((.slice (some ⟨g, 0, none⟩) xs.length cx)) rfl rfl (by kernel_rfl) (by kernel_rfl) (by kernel_rfl) (fun _ _ _ h => h) hS (MR.free rfl) (fun wq hw => by have cq : wq.cell? ⟨w.heap.size, 0, none⟩ = some (.slice (some ⟨g, 0, none⟩) xs.length cx) := (hw.cell (p := ⟨w.heap.size, 0, none⟩) hq0).trans c0; simp [execOp, MR.ev, MR.size, hsz, e2, f2, e3, f3, e6, f6, cq, go_sem]) ?_
              refine MR.takeH (i := 3) (some 25) (.int .i64 (xs.length : Int)) rfl rfl (by kernel_rfl) (by kernel_rfl) (by kernel_rfl) (fun _ _ _ h => h) hS (MR.free rfl) (fun wq hw => by simp [execOp, MR.ev, MR.size, hsz, e2, f2, e3, f3, e6, f6, go_sem]) ?_
              refine MR.takeH (i := 4) (some 26) (.bool true) rfl rfl (by kernel_rfl) (by kernel_rfl) (by kernel_rfl) (fun _ _ _ h => h) hS (MR.free rfl) (fun wq hw => by simp [execOp, MR.ev, MR.size, hsz, e2, f2, e3, f3, e6, f6, hl, go_sem]) ?_
              refine MR.takeH (i := 5) (some 27) (.bool true) rfl rfl (by kernel_rfl) (by kernel_rfl) (by kernel_rfl) (fun _ _ _ h => h) hS (MR.free rfl) (fun wq hw => by simp [execOp, MR.ev, MR.size, hsz, e2, f2, e3, f3, e6, f6, go_sem]) ?_
              refine MR.takeH (i := 6) (some 28) ((.pointer (some ⟨w.heap.size, 0, none⟩))) rfl rfl (by kernel_rfl) (by kernel_rfl) (by kernel_rfl) (fun _ _ _ h => h) hS (MR.want (d := 27) rfl rfl (by simp [MR.size, hsz]) (by simp [MR.ev, MR.size, hsz, e2, f2, e3, f3, e6, f6])) (fun wq hw => by simp [execOp, MR.ev, MR.size, hsz, e2, f2, e3, f3, e6, f6, go_sem]) ?_
              refine MR.takeH (i := 7) (some 29) ((.slice (some ⟨g, 0, none⟩) xs.length cx)) rfl rfl (by kernel_rfl) (by kernel_rfl) (by kernel_rfl) (fun _ _ _ h => h) hS (MR.want (d := 27) rfl rfl (by simp [MR.size, hsz]) (by simp [MR.ev, MR.size, hsz, e2, f2, e3, f3, e6, f6])) (fun wq hw => by have cq : wq.cell? ⟨w.heap.size, 0, none⟩ = some (.slice (some ⟨g, 0, none⟩) xs.length cx) := (hw.cell (p := ⟨w.heap.size, 0, none⟩) hq0).trans c0; simp [execOp, MR.ev, MR.size, hsz, e2, f2, e3, f3, e6, f6, cq, go_sem]) ?_
              refine MR.takeH (i := 8) (some 30) (.int .i64 (k : Int)) rfl rfl (by kernel_rfl) (by kernel_rfl) (by kernel_rfl) (fun _ _ _ h => h) hS (MR.want (d := 27) rfl rfl (by simp [MR.size, hsz]) (by simp [MR.ev, MR.size, hsz, e2, f2, e3, f3, e6, f6])) (fun wq hw => by simp [execOp, MR.ev, MR.size, hsz, e2, f2, e3, f3, e6, f6, go_sem]) ?_
              refine MR.takeH (i := 9) (some 31) (.pointer (some ⟨g, k * 10, none⟩)) rfl rfl (by kernel_rfl) (by kernel_rfl) (by kernel_rfl) (fun _ _ _ h => h) hS (MR.want (d := 27) rfl rfl (by simp [MR.size, hsz]) (by simp [MR.ev, MR.size, hsz, e2, f2, e3, f3, e6, f6])) (fun wq hw => by simp [execOp, MR.ev, MR.size, hsz, e2, f2, e3, f3, e6, f6, hk0, hl, go_sem]) ?_
              refine MR.takeH (i := 10) (some 32) (y.v) rfl rfl (by kernel_rfl) (by kernel_rfl) (by kernel_rfl) (fun _ _ _ h => h) hS (MR.want (d := 27) rfl rfl (by simp [MR.size, hsz]) (by simp [MR.ev, MR.size, hsz, e2, f2, e3, f3, e6, f6])) (fun wq hw => MA.ex_load rfl (by simp [MR.ev, MR.size, hsz, e2, f2, e3, f3, e6, f6]) (MA.range_below hYr hw hgl) Try.underlying24 rfl Try.sizeBundle rfl) ?_
              refine MR.takeH (i := 11) (some 33) (b.v) rfl rfl (by kernel_rfl) (by kernel_rfl) (by kernel_rfl) (fun _ _ _ h => h) hS (MR.want (d := 27) rfl rfl (by simp [MR.size, hsz]) (by simp [MR.ev, MR.size, hsz, e2, f2, e3, f3, e6, f6])) (fun wq hw => MA.ex_load rfl (by simp [MR.ev, MR.size, hsz, e2, f2, e3, f3, e6, f6]) (MA.range_below hXr hw hxl) Try.underlying24 rfl Try.sizeBundle rfl) ?_
              refine MR.callH (i := 12) (some 34) (51) (#[y.v, b.v]) (by kernel_rfl) rfl rfl (MR.want (d := 27) rfl rfl (by simp [MR.size, hsz]) (by simp [MR.ev, MR.size, hsz, e2, f2, e3, f3, e6, f6])) (by simp [execOp, MR.ev, MR.size, hsz, e2, f2, e3, f3, e6, f6, go_sem]) ?_
              refine Calls.mono (AO.out _) ?_
              rintro e w4 ⟨rfl, hb4⟩
              have hS3 : Below wr.heap.size wr w4 := hS.trans (hb4.mono hS.size)
              refine ⟨_, rfl, hS3, ?_⟩
              refine MR.takeH (i := 13) (some 35) (.bool true) rfl rfl (by kernel_rfl) (by kernel_rfl) (by kernel_rfl) (fun _ _ _ h => h) hS3 (MR.free rfl) (fun wq hw => by simp [execOp, MR.ev, MR.size, hsz, e2, f2, e3, f3, e6, f6, go_sem]) ?_
              refine wpAnyH_done (by kernel_rfl) ?_ _
              rw [HA.out]
              have hP := HW.out.kept hS3
              have HP : Hid _ := hP
              clear hP hb4 hS3 HA hS hXr hYr c0 AO e2 e3 e6 f2 f3 f6 hsz HW hin2
              simp only [Act.put, List.setIfInBounds_toArray, List.set_cons_succ, List.set_cons_zero]
              go_wp2
              go_roundw
              case rel => exact ⟨k + 1, by go_num, by omega, HP.out, fun i hi => if e : i = k then by rw [e, HY.out]; exact HAH.out else HNO.out i (by omega)⟩
              case measure => simp [intOf]; omega
            | false =>
              have AO : Hid _ := fun W => l4Before_any y b W hpy hs false ha
              have HCUT : Hid (PD.cut xs b = k) := PD.cut_is hk HNO.out (fun _ => by rw [HY.out]; exact ha)
              clear ha
              go_wp2
              refine MR.frame fun A hA => ?_
              have hsz : A.tmps.size = 98 := by rw [hA]; rfl
              have e2 : A.eval (.tmp 2) = .pointer (some ⟨w.heap.size, 0, none⟩) := by rw [hA]; rfl
              have f2 := MR.read (t := 2) (by rw [hsz]; decide) e2
              have e3 : A.eval (.tmp 3) = .pointer (some ⟨w.heap.size + 1, 0, none⟩) := by rw [hA]; rfl
              have f3 := MR.read (t := 3) (by rw [hsz]; decide) e3
              have e6 : A.eval (.tmp 6) = .int .i64 (k : Int) := by rw [hA]; rfl
              have f6 := MR.read (t := 6) (by rw [hsz]; decide) e6
              have HA : Hid (A = _) := hA
              clear hA
              have hS : (fun w' : World => Below wr.heap.size wr w') (World.drew _) := ((Below.refl _ wr).drew)
              refine wp_region_held (S := fun w' : World => Below wr.heap.size wr w') (by kernel_rfl) ?_
              change wpAnyH _ _ _ _ _ _ _ _ (World.drew _)
              refine MR.takeH (i := 0) (some 22) (.int .i64 (k : Int)) rfl rfl (by kernel_rfl) (by kernel_rfl) (by kernel_rfl) (fun _ _ _ h => h) hS (MR.free rfl) (fun wq hw => by simp [execOp, MR.ev, MR.size, hsz, e2, f2, e3, f3, e6, f6, go_sem]) ?_
              refine MR.takeH (i := 1) (some 23) ((.pointer (some ⟨w.heap.size, 0, none⟩))) rfl rfl (by kernel_rfl) (by kernel_rfl) (by kernel_rfl) (fun _ _ _ h => h) hS (MR.free rfl) (fun wq hw => by simp [execOp, MR.ev, MR.size, hsz, e2, f2, e3, f3, e6, f6, go_sem]) ?_
              refine MR.takeH (i := 2) (some 24) ((.slice (some ⟨g, 0, none⟩) xs.length cx)) rfl rfl (by kernel_rfl) (by kernel_rfl) (by kernel_rfl) (fun _ _ _ h => h) hS (MR.free rfl) (fun wq hw => by have cq : wq.cell? ⟨w.heap.size, 0, none⟩ = some (.slice (some ⟨g, 0, none⟩) xs.length cx) := (hw.cell (p := ⟨w.heap.size, 0, none⟩) hq0).trans c0; simp [execOp, MR.ev, MR.size, hsz, e2, f2, e3, f3, e6, f6, cq, go_sem]) ?_
              refine MR.takeH (i := 3) (some 25) (.int .i64 (xs.length : Int)) rfl rfl (by kernel_rfl) (by kernel_rfl) (by kernel_rfl) (fun _ _ _ h => h) hS (MR.free rfl) (fun wq hw => by simp [execOp, MR.ev, MR.size, hsz, e2, f2, e3, f3, e6, f6, go_sem]) ?_
              refine MR.takeH (i := 4) (some 26) (.bool true) rfl rfl (by kernel_rfl) (by kernel_rfl) (by kernel_rfl) (fun _ _ _ h => h) hS (MR.free rfl) (fun wq hw => by simp [execOp, MR.ev, MR.size, hsz, e2, f2, e3, f3, e6, f6, hl, go_sem]) ?_
              refine MR.takeH (i := 5) (some 27) (.bool true) rfl rfl (by kernel_rfl) (by kernel_rfl) (by kernel_rfl) (fun _ _ _ h => h) hS (MR.free rfl) (fun wq hw => by simp [execOp, MR.ev, MR.size, hsz, e2, f2, e3, f3, e6, f6, go_sem]) ?_
              refine MR.takeH (i := 6) (some 28) ((.pointer (some ⟨w.heap.size, 0, none⟩))) rfl rfl (by kernel_rfl) (by kernel_rfl) (by kernel_rfl) (fun _ _ _ h => h) hS (MR.want (d := 27) rfl rfl (by simp [MR.size, hsz]) (by simp [MR.ev, MR.size, hsz, e2, f2, e3, f3, e6, f6])) (fun wq hw => by simp [execOp, MR.ev, MR.size, hsz, e2, f2, e3, f3, e6, f6, go_sem]) ?_
              refine MR.takeH (i := 7) (some 29) ((.slice (some ⟨g, 0, none⟩) xs.length cx)) rfl rfl (by kernel_rfl) (by kernel_rfl) (by kernel_rfl) (fun _ _ _ h => h) hS (MR.want (d := 27) rfl rfl (by simp [MR.size, hsz]) (by simp [MR.ev, MR.size, hsz, e2, f2, e3, f3, e6, f6])) (fun wq hw => by have cq : wq.cell? ⟨w.heap.size, 0, none⟩ = some (.slice (some ⟨g, 0, none⟩) xs.length cx) := (hw.cell (p := ⟨w.heap.size, 0, none⟩) hq0).trans c0; simp [execOp, MR.ev, MR.size, hsz, e2, f2, e3, f3, e6, f6, cq, go_sem]) ?_
              refine MR.takeH (i := 8) (some 30) (.int .i64 (k : Int)) rfl rfl (by kernel_rfl) (by kernel_rfl) (by kernel_rfl) (fun _ _ _ h => h) hS (MR.want (d := 27) rfl rfl (by simp [MR.size, hsz]) (by simp [MR.ev, MR.size, hsz, e2, f2, e3, f3, e6, f6])) (fun wq hw => by simp [execOp, MR.ev, MR.size, hsz, e2, f2, e3, f3, e6, f6, go_sem]) ?_
              refine MR.takeH (i := 9) (some 31) (.pointer (some ⟨g, k * 10, none⟩)) rfl rfl (by kernel_rfl) (by kernel_rfl) (by kernel_rfl) (fun _ _ _ h => h) hS (MR.want (d := 27) rfl rfl (by simp [MR.size, hsz]) (by simp [MR.ev, MR.size, hsz, e2, f2, e3, f3, e6, f6])) (fun wq hw => by simp [execOp, MR.ev, MR.size, hsz, e2, f2, e3, f3, e6, f6, hk0, hl, go_sem]) ?_
              refine MR.takeH (i := 10) (some 32) (y.v) rfl rfl (by kernel_rfl) (by kernel_rfl) (by kernel_rfl) (fun _ _ _ h => h) hS (MR.want (d := 27) rfl rfl (by simp [MR.size, hsz]) (by simp [MR.ev, MR.size, hsz, e2, f2, e3, f3, e6, f6])) (fun wq hw => MA.ex_load rfl (by simp [MR.ev, MR.size, hsz, e2, f2, e3, f3, e6, f6]) (MA.range_below hYr hw hgl) Try.underlying24 rfl Try.sizeBundle rfl) ?_
              refine MR.takeH (i := 11) (some 33) (b.v) rfl rfl (by kernel_rfl) (by kernel_rfl) (by kernel_rfl) (fun _ _ _ h => h) hS (MR.want (d := 27) rfl rfl (by simp [MR.size, hsz]) (by simp [MR.ev, MR.size, hsz, e2, f2, e3, f3, e6, f6])) (fun wq hw => MA.ex_load rfl (by simp [MR.ev, MR.size, hsz, e2, f2, e3, f3, e6, f6]) (MA.range_below hXr hw hxl) Try.underlying24 rfl Try.sizeBundle rfl) ?_
              refine MR.callH (i := 12) (some 34) (51) (#[y.v, b.v]) (by kernel_rfl) rfl rfl (MR.want (d := 27) rfl rfl (by simp [MR.size, hsz]) (by simp [MR.ev, MR.size, hsz, e2, f2, e3, f3, e6, f6])) (by simp [execOp, MR.ev, MR.size, hsz, e2, f2, e3, f3, e6, f6, go_sem]) ?_
              refine Calls.mono (AO.out _) ?_
              rintro e w4 ⟨rfl, hb4⟩
              have hS3 : Below wr.heap.size wr w4 := hS.trans (hb4.mono hS.size)
              refine ⟨_, rfl, hS3, ?_⟩
              refine MR.takeH (i := 13) (some 35) (.bool false) rfl rfl (by kernel_rfl) (by kernel_rfl) (by kernel_rfl) (fun _ _ _ h => h) hS3 (MR.free rfl) (fun wq hw => by simp [execOp, MR.ev, MR.size, hsz, e2, f2, e3, f3, e6, f6, go_sem]) ?_
              refine wpAnyH_done (by kernel_rfl) ?_ _
              rw [HA.out]
              have hP := HW.out.kept hS3
              have HP : Hid _ := hP
              clear hP hb4 hS3 HA hS hXr hYr c0 AO e2 e3 e6 f2 f3 f6 hsz HW hin2 HNO
              simp only [Act.put, List.setIfInBounds_toArray, List.set_cons_succ, List.set_cons_zero]
              have OWN0 : Hid ((w4.alloc (.cells #[] 24)).ownsRow (w.heap.size + 1 + 1 + 1) 24 10 (.slice (some ⟨w4.heap.size, 0, none⟩) 0 0) ([] : List Bd).length (MP.flat [])) := by
                show World.ownsRow _ _ _ _ _ _ _
                have := World.ownsRow_lit (base := w.heap.size + 1 + 1 + 1) (e := 24) (size := 10) w4 #[] 0 HP.out.res.lt (by unfold maxLen; omega) (by simp)
                simpa [MP.flat] using this
              have HBA : Hid (Below w4.heap.size w4 (w4.alloc (.cells #[] 24))) := (Below.refl _ w4).alloc (Nat.le_refl _) _
              have HRW : Hid (MP.BsAt (w4.alloc (.cells #[] 24)) (some ⟨g, 0, none⟩) xs) := MP.BsAt.below (MP.BsAt.below HI.out HP.out.below) HBA.out
              have N1 : Hid (∀ j u, (MP.flat (xs.take k))[j]? = some u → (w4.alloc (.cells #[] 24)).cell? ((⟨g, 0, none⟩ : Addr).add j) = some u) := fun j u hj => by
                have := PC.row_cells HRW.out (k := 0) (m := k) (by omega) j u (by simpa using hj)
                simpa using this
              have hs4 := HP.out.below.size
              have c0 := HP.out.arg
              have l0 : w.heap.size < w4.heap.size := by have := HP.out.bx.lt; omega
              have HTK : Hid ((MP.flat (xs.take k)).length = k * 10) := by show _ = _; rw [MP.flat_len, List.length_take]; congr 1; omega
              go_wp2_with (at_builtin; go_loud (refine wpList_append_own _ rfl _ _ 27 rfl (w.heap.size + 1 + 1 + 1) 24 i0 (.agg (Bd.cs B1.zero).toArray) 10 88 Try.underlying27 hi hz0 hz1 hz2 rfl (by decide) _ _ _ rfl OWN0.out ⟨g, 0, none⟩ k cx (MP.flat (xs.take k)) rfl ?a0 ?a1 ?a2 ?a3 ?a4 ?a5 ?_))
              case a0 => exact HTK.out
              case a1 => exact N1.out
              case a2 => exact PC.flat_one _
              case a3 => unfold maxLen; simp; omega
              case a4 => simp; omega
              case a5 => have := HP.out.res.lt; simp; omega
              intro v1 w5 hown5 hgrow5 _
              have O5 : w5.ownsRow (w.heap.size + 1 + 1 + 1) 24 10 v1 (xs.take k).length (MP.flat (xs.take k)) := by
                have e : (xs.take k).length = ([] : List Bd).length + k := by simp; omega
                rw [e]; simpa [MP.flat] using hown5
              have B45 : Below w4.heap.size w4 w5 := HBA.out.grown hgrow5 (by simp) (fun j hj => by simp [Value.ownBlock] at hj; omega)
              have HP5 : Hid _ := HP.out.kept B45
              generalize htk : xs.take k = tk at *
              have HTE : Hid _ := htk
              have htl1 : tk.length ≤ 60 := by rw [← htk, List.length_take]; omega
              have HTL : Hid (tk.length = k) := by show _ = _; rw [← htk, List.length_take]; omega
              obtain ⟨va, vc, rfl, _⟩ := CB.view O5
              have HOD : Hid _ := OdIn.start HP5.out O5
              have HO5 : Hid _ := O5
              clear hown5 hgrow5 O5 B45 OWN0 HBA HRW N1 HTK c0 l0 hs4 HP htk HO5 HP5
              go_wp2_with fail
              generalize (w5.alloc (.cells #[.slice va tk.length vc] 31)) = w6 at *
              generalize w5.heap.size = ob at *
              have c0 := HOD.out.sd.arg
              have hxl := HOD.out.sd.bx.lt
              have hXr : w6.rangeAt (w.heap.size + 1) 0 b.cs := HOD.out.sd.bx.rng
              have hq0 : w.heap.size < w6.heap.size := by omega
              have hin2 : MP.BsAt w6 (some ⟨g, 0, none⟩) xs := MP.BsAt.below HI.out HOD.out.sd.below
              obtain ⟨b0, off, hab, hgl, hYr⟩ := MA.row_range hin2 hl
              cases hab
              rw [Nat.zero_add, HY.out] at hYr
              have hne1 : ((k : Int) == (xs.length : Int)) = false := by rw [beq_eq_false_iff_ne]; omega
              have hne2 : ¬ k = xs.length := by omega
              cases ha : PL.ahead b y with
              | true =>
                have AO : Hid _ := fun W => l4Before_any b y W hs hpy true ha
                have HPUT : Hid (PD.cut xs b = xs.length ∨ PL.ahead b (MP.at_ xs (PD.cut xs b)) = true) := .inr (by rw [HCUT.out, HY.out]; exact ha)
                clear ha
                refine MR.frame fun A hA => ?_
                have hsz : A.tmps.size = 98 := by rw [hA]; rfl
                have e2 : A.eval (.tmp 2) = .pointer (some ⟨w.heap.size, 0, none⟩) := by rw [hA]; rfl
                have f2 := MR.read (t := 2) (by rw [hsz]; decide) e2
                have e3 : A.eval (.tmp 3) = .pointer (some ⟨w.heap.size + 1, 0, none⟩) := by rw [hA]; rfl
                have f3 := MR.read (t := 3) (by rw [hsz]; decide) e3
                have e6 : A.eval (.tmp 6) = .int .i64 (k : Int) := by rw [hA]; rfl
                have f6 := MR.read (t := 6) (by rw [hsz]; decide) e6
                have HA : Hid (A = _) := hA
                clear hA
                have hS : (fun w' : World => Below w6.heap.size w6 w') (World.drew _) := ((Below.refl _ w6).drew)
                refine wp_region_held (S := fun w' : World => Below w6.heap.size w6 w') (by kernel_rfl) ?_
                change wpAnyH _ _ _ _ _ _ _ _ (World.drew _)
                refine MR.takeH (i := 0) (some 45) (.int .i64 (k : Int)) rfl rfl (by kernel_rfl) (by kernel_rfl) (by kernel_rfl) (fun _ _ _ h => h) hS (MR.free rfl) (fun wq hw => by simp [execOp, MR.ev, MR.size, hsz, e2, f2, e3, f3, e6, f6, go_sem]) ?_
                refine MR.takeH (i := 1) (some 46) ((.pointer (some ⟨w.heap.size, 0, none⟩))) rfl rfl (by kernel_rfl) (by kernel_rfl) (by kernel_rfl) (fun _ _ _ h => h) hS (MR.free rfl) (fun wq hw => by simp [execOp, MR.ev, MR.size, hsz, e2, f2, e3, f3, e6, f6, go_sem]) ?_
                refine MR.takeH (i := 2) (some 47) ((.slice (some ⟨g, 0, none⟩) xs.length cx)) rfl rfl (by kernel_rfl) (by kernel_rfl) (by kernel_rfl) (fun _ _ _ h => h) hS (MR.free rfl) (fun wq hw => by have cq : wq.cell? ⟨w.heap.size, 0, none⟩ = some (.slice (some ⟨g, 0, none⟩) xs.length cx) := (hw.cell (p := ⟨w.heap.size, 0, none⟩) hq0).trans c0; simp [execOp, MR.ev, MR.size, hsz, e2, f2, e3, f3, e6, f6, cq, go_sem]) ?_
                refine MR.takeH (i := 3) (some 48) (.int .i64 (xs.length : Int)) rfl rfl (by kernel_rfl) (by kernel_rfl) (by kernel_rfl) (fun _ _ _ h => h) hS (MR.free rfl) (fun wq hw => by simp [execOp, MR.ev, MR.size, hsz, e2, f2, e3, f3, e6, f6, go_sem]) ?_
                refine MR.takeH (i := 4) (some 49) (.bool false) rfl rfl (by kernel_rfl) (by kernel_rfl) (by kernel_rfl) (fun _ _ _ h => h) hS (MR.free rfl) (fun wq hw => by simp [execOp, MR.ev, MR.size, hsz, e2, f2, e3, f3, e6, f6, hne1, hne2, go_sem]) ?_
                refine MR.takeH (i := 5) (some 50) (.bool false) rfl rfl (by kernel_rfl) (by kernel_rfl) (by kernel_rfl) (fun _ _ _ h => h) hS (MR.free rfl) (fun wq hw => by simp [execOp, MR.ev, MR.size, hsz, e2, f2, e3, f3, e6, f6, go_sem]) ?_
                refine MR.takeH (i := 6) (some 51) (b.v) rfl rfl (by kernel_rfl) (by kernel_rfl) (by kernel_rfl) (fun _ _ _ h => h) hS (MR.want (d := 50) rfl rfl (by simp [MR.size, hsz]) (by simp [MR.ev, MR.size, hsz, e2, f2, e3, f3, e6, f6])) (fun wq hw => MA.ex_load rfl (by simp [MR.ev, MR.size, hsz, e2, f2, e3, f3, e6, f6]) (MA.range_below hXr hw hxl) Try.underlying24 rfl Try.sizeBundle rfl) ?_
                refine MR.takeH (i := 7) (some 52) ((.pointer (some ⟨w.heap.size, 0, none⟩))) rfl rfl (by kernel_rfl) (by kernel_rfl) (by kernel_rfl) (fun _ _ _ h => h) hS (MR.want (d := 50) rfl rfl (by simp [MR.size, hsz]) (by simp [MR.ev, MR.size, hsz, e2, f2, e3, f3, e6, f6])) (fun wq hw => by simp [execOp, MR.ev, MR.size, hsz, e2, f2, e3, f3, e6, f6, go_sem]) ?_
                refine MR.takeH (i := 8) (some 53) ((.slice (some ⟨g, 0, none⟩) xs.length cx)) rfl rfl (by kernel_rfl) (by kernel_rfl) (by kernel_rfl) (fun _ _ _ h => h) hS (MR.want (d := 50) rfl rfl (by simp [MR.size, hsz]) (by simp [MR.ev, MR.size, hsz, e2, f2, e3, f3, e6, f6])) (fun wq hw => by have cq : wq.cell? ⟨w.heap.size, 0, none⟩ = some (.slice (some ⟨g, 0, none⟩) xs.length cx) := (hw.cell (p := ⟨w.heap.size, 0, none⟩) hq0).trans c0; simp [execOp, MR.ev, MR.size, hsz, e2, f2, e3, f3, e6, f6, cq, go_sem]) ?_
                refine MR.takeH (i := 9) (some 54) (.int .i64 (k : Int)) rfl rfl (by kernel_rfl) (by kernel_rfl) (by kernel_rfl) (fun _ _ _ h => h) hS (MR.want (d := 50) rfl rfl (by simp [MR.size, hsz]) (by simp [MR.ev, MR.size, hsz, e2, f2, e3, f3, e6, f6])) (fun wq hw => by simp [execOp, MR.ev, MR.size, hsz, e2, f2, e3, f3, e6, f6, go_sem]) ?_
                refine MR.takeH (i := 10) (some 55) (.pointer (some ⟨g, k * 10, none⟩)) rfl rfl (by kernel_rfl) (by kernel_rfl) (by kernel_rfl) (fun _ _ _ h => h) hS (MR.want (d := 50) rfl rfl (by simp [MR.size, hsz]) (by simp [MR.ev, MR.size, hsz, e2, f2, e3, f3, e6, f6])) (fun wq hw => by simp [execOp, MR.ev, MR.size, hsz, e2, f2, e3, f3, e6, f6, hk0, hl, go_sem]) ?_
                refine MR.takeH (i := 11) (some 56) (y.v) rfl rfl (by kernel_rfl) (by kernel_rfl) (by kernel_rfl) (fun _ _ _ h => h) hS (MR.want (d := 50) rfl rfl (by simp [MR.size, hsz]) (by simp [MR.ev, MR.size, hsz, e2, f2, e3, f3, e6, f6])) (fun wq hw => MA.ex_load rfl (by simp [MR.ev, MR.size, hsz, e2, f2, e3, f3, e6, f6]) (MA.range_below hYr hw hgl) Try.underlying24 rfl Try.sizeBundle rfl) ?_
                refine MR.callH (i := 12) (some 57) (51) (#[b.v, y.v]) (by kernel_rfl) rfl rfl (MR.want (d := 50) rfl rfl (by simp [MR.size, hsz]) (by simp [MR.ev, MR.size, hsz, e2, f2, e3, f3, e6, f6])) (by simp [execOp, MR.ev, MR.size, hsz, e2, f2, e3, f3, e6, f6, go_sem]) ?_
                refine Calls.mono (AO.out _) ?_
                rintro e w7 ⟨rfl, hb7⟩
                have hS3 : Below w6.heap.size w6 w7 := hS.trans (hb7.mono hS.size)
                refine ⟨_, rfl, hS3, ?_⟩
                refine MR.takeH (i := 13) (some 58) (.bool true) rfl rfl (by kernel_rfl) (by kernel_rfl) (by kernel_rfl) (fun _ _ _ h => h) hS3 (MR.free rfl) (fun wq hw => by simp [execOp, MR.ev, MR.size, hsz, e2, f2, e3, f3, e6, f6, go_sem]) ?_
                refine wpAnyH_done (by kernel_rfl) ?_ _
                rw [HA.out]
                replace HOD : Hid _ := HOD.out.kept hS3
                clear hb7 hS3 HA hS hXr hYr c0 AO e2 e3 e6 f2 f3 f6 hsz hin2 hgl
                simp only [Act.put, List.setIfInBounds_toArray, List.set_cons_succ, List.set_cons_zero]
                have o0 := CB.c_of HOD.out.ob (j := 0) (v := .slice va tk.length vc) rfl
                have z0 := CB.f_of HOD.out.ob (j := 0) (by simp)
                have ol := HOD.out.ob.lt
                have hs7 := HOD.out.sd.res.lt
                obtain ⟨q00, q0, q1, q2, q3, q4, q5, q6, q7, q8, q9⟩ := HOD.out.sd.bx.bd
                go_wp2_with (first
                  | (refine CB.bslice_m rfl 27 _ rfl rfl 24 (Try.bsliceA b) ?_)
                  | (at_builtin; go_loud (refine wpList_append_own_at _ rfl _ _ 27 rfl (w.heap.size + 1 + 1 + 1) 24 i0 (.agg (Bd.cs B1.zero).toArray) 10 88 Try.underlying27 hi hz0 hz1 hz2 rfl (by decide) _ _ _ rfl (HOD.out.ow.alloc _) ⟨w7.heap.size, 0, none⟩ 1 1 b.cs rfl rfl (CB.newN _ _ _) (MA.cs_one _) ?m3 ?m4 ?m5 ?_)))
                case m3 => unfold maxLen; omega
                case m4 => omega
                case m5 => simp; omega
                intro v8 w8 hown8 hgrow8 _ hloc8
                have O8 : w8.ownsRow (w.heap.size + 1 + 1 + 1) 24 10 v8 (tk ++ [b]).length (MP.flat (tk ++ [b])) := by
                  have := hown8
                  simpa [MP.flat] using this
                have HOD8 := HOD.out.app ((Below.refl _ w7).alloc (Nat.le_refl _) _) O8 hgrow8 hloc8 (by omega)
                have hz8 : (tk ++ [b]).length ≤ 61 := by simp; omega
                obtain ⟨va8, vc8, rfl, _⟩ := CB.view O8
                have HTE8 : Hid (xs.take k ++ [b] = tk ++ [b]) := by show _ = _; rw [HTE.out]
                have HOD8' : Hid _ := HOD8
                have o8 := (rg_grown (HOD.out.ob.below ((Below.refl _ w7).alloc (Nat.le_refl _) (.cells b.cs.toArray 24)) HOD.out.ob.lt) hgrow8 (fun e => HOD.out.ne e.symm)).cell (j := 0) (v := .slice va tk.length vc) rfl
                have z8 := (rg_grown (HOD.out.ob.below ((Below.refl _ w7).alloc (Nat.le_refl _) (.cells b.cs.toArray 24)) HOD.out.ob.lt) hgrow8 (fun e => HOD.out.ne e.symm)).free (j := 0) (by simp)
                have l8 : ob < w8.heap.size := by have := hgrow8.size; simp at this; omega
                rw [Nat.zero_add] at o8 z8
                generalize tk ++ [b] = zs at *
                clear hown8 hgrow8 hloc8 O8 HOD8 HOD q00 q0 q1 q2 q3 q4 q5 q6 q7 q8 q9 o0 z0 ol hs7
                go_wp2_with fail
                generalize (w8.setCell ⟨ob, 0, none⟩ (.slice va8 zs.length vc8)) = w9 at *
                have c9 := HOD8'.out.sd.arg
                have o9 := CB.c_of HOD8'.out.ob (j := 0) (v := (.slice va8 zs.length vc8)) rfl
                have z9 := CB.f_of HOD8'.out.ob (j := 0) (by simp)
                have l9 := HOD8'.out.ob.lt
                have h9 : w.heap.size < w9.heap.size := by have := HOD8'.out.sd.bx.lt; omega
                have r9 := HOD8'.out.sd.res.lt
                have hin9 : MP.BsAt w9 (some ⟨g, 0, none⟩) xs := MP.BsAt.below HI.out HOD8'.out.sd.below
                have hdl : (xs.drop k).length = xs.length - k := List.length_drop
                have N9 : ∀ j u, (MP.flat (xs.drop k))[j]? = some u → w9.drew.cell? ((⟨g, k * 10, none⟩ : Addr).add j) = some u := fun j u hj => by
                  have := PC.row_cells hin9 (k := k) (m := xs.length - k) (by omega) j u (by rw [List.take_of_length_le (by omega)]; exact hj)
                  exact this
                obtain ⟨v12, w12, hrun, hown12, hgrow12, _, hloc12⟩ := run_append_own_at (P := Try.prog) w9.drew (w.heap.size + 1 + 1 + 1) 27 27 24 i0 (.agg (Bd.cs B1.zero).toArray) 10 88 Try.underlying27 hi hz0 hz1 hz2 rfl (by decide) (.slice va8 zs.length vc8) zs.length (MP.flat zs) (MP.own_below HOD8'.out.ow ((Below.refl _ w9).drew)) ⟨g, k * 10, none⟩ (xs.length - k) (cx - k) (MP.flat (xs.drop k)) (by rw [MP.flat_len, hdl]) N9 (PC.flat_one _) (by unfold maxLen; omega) (by omega) (by show _ ≤ w9.heap.size; omega)
                have O12 : w12.ownsRow (w.heap.size + 1 + 1 + 1) 24 10 v12 (zs ++ xs.drop k).length (MP.flat (zs ++ xs.drop k)) := by
                  rw [List.length_append, hdl, MP.flat_app]; exact hown12
                have hyl12 : (zs ++ xs.drop k).length ≤ 1000 := by rw [List.length_append, hdl]; omega
                generalize hys : zs ++ xs.drop k = ys at *
                have HYS : Hid _ := hys
                clear hys
                obtain ⟨va12, vc12, rfl, _⟩ := CB.view O12
                have HOD12 : Hid _ := HOD8'.out.app ((Below.refl _ w9).drew) O12 hgrow12 hloc12 (Nat.le_refl _)
                have rg12 := rg_grown (HOD8'.out.ob.below ((Below.refl _ w9).drew) HOD8'.out.ob.lt) hgrow12 (fun e => HOD8'.out.ne e.symm)
                have o12 := CB.c_of rg12 (j := 0) (v := (.slice va8 zs.length vc8)) rfl
                have z12 := CB.f_of rg12 (j := 0) (by simp)
                have l12 := rg12.lt
                have hcut : ∀ W : World, (Instr.sliceAt 27 (.slice (some ⟨g, 0, none⟩) xs.length cx) (some (.int .i64 (k : Int))) none none).run Try.prog W = .ok (.slice (some ⟨g, k * 10, none⟩) (xs.length - k) (cx - k)) W := fun W => by
                  have h1 : ¬ cx = k := by omega
                  have h2 : k ≤ xs.length := by omega
                  have h4 : xs.length ≤ cx := hcx
                  have h3 : (0 : Int) ≤ (k : Int) := by omega
                  go_simp
                refine MR.frame fun A hA => ?_
                have hsz : A.tmps.size = 98 := by rw [hA]; rfl
                have e2 : A.eval (.tmp 2) = .pointer (some ⟨w.heap.size, 0, none⟩) := by rw [hA]; rfl
                have f2 := MR.read (t := 2) (by rw [hsz]; decide) e2
                have e6 : A.eval (.tmp 6) = .int .i64 (k : Int) := by rw [hA]; rfl
                have f6 := MR.read (t := 6) (by rw [hsz]; decide) e6
                have e7 : A.eval (.tmp 7) = .pointer (some ⟨ob, 0, none⟩) := by rw [hA]; rfl
                have f7 := MR.read (t := 7) (by rw [hsz]; decide) e7
                have HA : Hid (A = _) := hA
                clear hA
                refine wp_region_held (S := fun _ : World => True) (by kernel_rfl) ?_
                change wpAnyH _ _ _ _ _ _ _ _ (World.drew _)
                refine MR.takeH (i := 0) (some 85) (.pointer (some ⟨ob, 0, none⟩)) rfl rfl (by kernel_rfl) (by kernel_rfl) (by kernel_rfl) (fun _ _ _ h => h) trivial (MR.free rfl) (fun wq hw => by simp [execOp, MR.ev, MR.size, hsz, e2, f2, e6, f6, e7, f7, go_sem]) ?_
                refine MR.takeH (i := 2) (some 87) (.pointer (some ⟨w.heap.size, 0, none⟩)) rfl rfl (by kernel_rfl) (by kernel_rfl) (by kernel_rfl) (fun _ _ _ h => h) trivial (MR.free rfl) (fun wq hw => by simp [execOp, MR.ev, MR.size, hsz, e2, f2, e6, f6, e7, f7, go_sem]) ?_
                refine MR.takeH (i := 4) (some 89) (.int .i64 (k : Int)) rfl rfl (by kernel_rfl) (by kernel_rfl) (by kernel_rfl) (fun _ _ _ h => h) trivial (MR.free rfl) (fun wq hw => by simp [execOp, MR.ev, MR.size, hsz, e2, f2, e6, f6, e7, f7, go_sem]) ?_
                refine MR.two (i := 1) (j := 3) (by kernel_rfl) ?_ ?_
                · refine MR.nowW (w' := World.drew w9) (some 86) ((.slice va8 zs.length vc8)) rfl rfl (MR.free rfl) (by simp [execOp, MR.ev, MR.size, hsz, e2, f2, e6, f6, e7, f7, o9, l9, go_sem]) ⟨trivial, ?_⟩
                  refine MR.nowH (w' := World.drew w9) (i := 3) (some 88) ((.slice (some ⟨g, 0, none⟩) xs.length cx)) (by kernel_rfl) rfl rfl (MR.free rfl) (by simp [execOp, MR.ev, MR.size, hsz, e2, f2, e6, f6, e7, f7, c9, h9, go_sem]) ⟨trivial, ?_⟩
                  refine MR.nowH (w' := World.drew w9) (i := 5) (some 90) ((.slice (some ⟨g, k * 10, none⟩) (xs.length - k) (cx - k))) (by kernel_rfl) rfl rfl (MR.free rfl) (by simp [execOp, MR.ev, MR.size, hsz, e2, f2, e6, f6, e7, f7, hcut, go_sem]) ⟨trivial, ?_⟩
                  refine MR.nowH (w' := w12) (i := 6) (some 91) (.slice va12 ys.length vc12) (by kernel_rfl) rfl rfl (MR.free rfl) (app_run rfl (by simp [MR.ev, MR.size, hsz, e2, f2, e6, f6, e7, f7]) (by simp [MR.ev, MR.size, hsz, e2, f2, e6, f6, e7, f7]) hrun) ⟨trivial, ?_⟩
                  refine MR.takeH (i := 7) (some 92) (.pointer (some ⟨ob, 0, none⟩)) rfl rfl (by kernel_rfl) (by kernel_rfl) (by kernel_rfl) (fun _ _ _ h => h) trivial (MR.free rfl) (fun wq hw => by simp [execOp, MR.ev, MR.size, hsz, e2, f2, e6, f6, e7, f7, go_sem]) ?_
                  refine MR.storeH (w' := w12.setCell ⟨ob, 0, none⟩ (.slice va12 ys.length vc12)) (i := 8) (by kernel_rfl) rfl (MR.free rfl) (by simp [execOp, MR.ev, MR.size, hsz, e2, f2, e6, f6, e7, f7, o12, z12, l12, go_sem]) ⟨trivial, ?_⟩
                  refine wpAnyH_done (by kernel_rfl) ?_ _
                  rw [HA.out]
                  simp only [Act.put, List.setIfInBounds_toArray, List.set_cons_succ, List.set_cons_zero, List.getElem_toArray, List.getElem_cons_succ, List.getElem_cons_zero]
                  go_wp2_with fail
                  generalize w12.setCell ⟨ob, 0, none⟩ (.slice va12 ys.length vc12) = w13 at *
                  have hysq : ys = PD.put xs b k := by rw [← HYS.out, ← HTE8.out]; simp [PD.put]
                  have HYT : Hid (∀ k, k < ys.length → (MP.at_ ys k).py.size ≤ 1048576) := by
                    have := put_small ht hs
                    rw [HCUT.out, ← hysq] at this
                    exact this
                  have HANG : Hid (PL.good ys = true → PD.ansS xs b = (ys, true)) := fun h => by
                    unfold PD.ansS
                    rw [if_neg (by simp [HGD.out, HPG.out]), if_pos HPUT.out, HCUT.out, ← hysq, if_pos h]
                  have HANB : Hid (PL.good ys = false → PD.ansS xs b = ([], false)) := fun h => by
                    unfold PD.ansS
                    rw [if_neg (by simp [HGD.out, HPG.out]), if_pos HPUT.out, HCUT.out, ← hysq, if_neg (by simp [h])]
                  obtain ⟨hrow, hcap⟩ := HOD12.out.row
                  have GP13 : Hid _ := specGoodPile_any va12 vc12 ys w13 (by omega) HYT hrow hcap
                  have HOR : Hid _ := HOD12.out.ob.rng
                  have hsr := HOD12.out.sd.res.lt
                  clear hrow hysq HYS HTE8 HPUT HCUT HGD HPG HYT rg12 o12 z12 l12 hcut hrun hown12 hgrow12 hloc12 O12 N9 HOD8' hin9 o9 z9 c9 l9 h9 r9 HA e2 e6 e7 f2 f6 f7 hsz
                  go_wp2_with (refine MA.load_g rfl 31 _ rfl rfl (cs := [.slice va12 ys.length vc12]) ?_ Try.underlying31 rfl Try.sizePileAS rfl ?_; exact HOR.out)
                  refine Calls.mono GP13.out ?_
                  rintro e w14 ⟨rfl, hb14⟩
                  replace HOD12 : Hid _ := HOD12.out.kept hb14
                  clear GP13 HOR hb14
                  cases hgy : PL.good ys with
                  | false =>
                    have HANS : Hid _ := HANB.out hgy
                    clear hgy HANB HANG
                    go_wp2_with (refine MA.store_m rfl 31 _ _ rfl rfl rfl (cs := [.slice none 0 0]) ?_ Try.sizePileAS rfl rfl (by simp [Value.oneCell']) ?_; exact HOD12.out.sd.res)
                    exact bodyPost_ret (MA.ret_cell2 rfl rfl rfl (MA.load_rg (HOD12.out.sd.res.put (vs := [.slice none 0 0]) rfl) Try.underlying31 rfl Try.sizePileAS rfl)) rfl ⟨none, 0, by rw [HANS.out]; rfl, by rw [HANS.out]; exact World.ownsRow_nil _ _ _ _, MA.below_cells (by omega) _ _ _ HOD12.out.sd.below⟩
                  | true =>
                    have HANS : Hid _ := HANG.out hgy
                    have HOR : Hid _ := HOD12.out.ob.rng
                    clear hgy HANB HANG
                    go_wp2_with (first
                      | (refine MA.load_g rfl 31 _ rfl rfl (cs := [.slice va12 ys.length vc12]) ?_ Try.underlying31 rfl Try.sizePileAS rfl ?_; exact HOR.out)
                      | (refine MA.store_m rfl 31 _ _ rfl rfl rfl (cs := [.slice none 0 0]) ?_ Try.sizePileAS rfl rfl (by simp [Value.oneCell']) ?_; exact HOD12.out.sd.res))
                    exact bodyPost_ret (MA.ret_cell2 rfl rfl rfl (MA.load_rg (HOD12.out.sd.res.put (vs := [.slice va12 ys.length vc12]) rfl) Try.underlying31 rfl Try.sizePileAS rfl)) rfl ⟨va12, vc12, by rw [HANS.out]; rfl, by rw [HANS.out]; exact HOD12.out.ret, MA.below_cells (by omega) _ _ _ HOD12.out.sd.below⟩
                · refine MR.nowW (w' := World.drew w9) (some 88) ((.slice (some ⟨g, 0, none⟩) xs.length cx)) rfl rfl (MR.free rfl) (by simp [execOp, MR.ev, MR.size, hsz, e2, f2, e6, f6, e7, f7, c9, h9, go_sem]) ⟨trivial, ?_⟩
                  refine MR.takeH (i := 5) (some 90) ((.slice (some ⟨g, k * 10, none⟩) (xs.length - k) (cx - k))) rfl rfl (by kernel_rfl) (by kernel_rfl) (by kernel_rfl) (fun _ _ _ h => h) trivial (MR.free rfl) (fun wq hw => by simp [execOp, MR.ev, MR.size, hsz, e2, f2, e6, f6, e7, f7, hcut, go_sem]) ?_
                  refine MR.nowH (w' := World.drew w9) (i := 1) (some 86) ((.slice va8 zs.length vc8)) (by kernel_rfl) rfl rfl (MR.free rfl) (by simp [execOp, MR.ev, MR.size, hsz, e2, f2, e6, f6, e7, f7, o9, l9, go_sem]) ⟨trivial, ?_⟩
                  refine MR.nowH (w' := w12) (i := 6) (some 91) (.slice va12 ys.length vc12) (by kernel_rfl) rfl rfl (MR.free rfl) (app_run rfl (by simp [MR.ev, MR.size, hsz, e2, f2, e6, f6, e7, f7]) (by simp [MR.ev, MR.size, hsz, e2, f2, e6, f6, e7, f7]) hrun) ⟨trivial, ?_⟩
                  refine MR.takeH (i := 7) (some 92) (.pointer (some ⟨ob, 0, none⟩)) rfl rfl (by kernel_rfl) (by kernel_rfl) (by kernel_rfl) (fun _ _ _ h => h) trivial (MR.free rfl) (fun wq hw => by simp [execOp, MR.ev, MR.size, hsz, e2, f2, e6, f6, e7, f7, go_sem]) ?_
                  refine MR.storeH (w' := w12.setCell ⟨ob, 0, none⟩ (.slice va12 ys.length vc12)) (i := 8) (by kernel_rfl) rfl (MR.free rfl) (by simp [execOp, MR.ev, MR.size, hsz, e2, f2, e6, f6, e7, f7, o12, z12, l12, go_sem]) ⟨trivial, ?_⟩
                  refine wpAnyH_done (by kernel_rfl) ?_ _
                  rw [HA.out]
                  simp only [Act.put, List.setIfInBounds_toArray, List.set_cons_succ, List.set_cons_zero, List.getElem_toArray, List.getElem_cons_succ, List.getElem_cons_zero]
                  go_wp2_with fail
                  generalize w12.setCell ⟨ob, 0, none⟩ (.slice va12 ys.length vc12) = w13 at *
                  have hysq : ys = PD.put xs b k := by rw [← HYS.out, ← HTE8.out]; simp [PD.put]
                  have HYT : Hid (∀ k, k < ys.length → (MP.at_ ys k).py.size ≤ 1048576) := by
                    have := put_small ht hs
                    rw [HCUT.out, ← hysq] at this
                    exact this
                  have HANG : Hid (PL.good ys = true → PD.ansS xs b = (ys, true)) := fun h => by
                    unfold PD.ansS
                    rw [if_neg (by simp [HGD.out, HPG.out]), if_pos HPUT.out, HCUT.out, ← hysq, if_pos h]
                  have HANB : Hid (PL.good ys = false → PD.ansS xs b = ([], false)) := fun h => by
                    unfold PD.ansS
                    rw [if_neg (by simp [HGD.out, HPG.out]), if_pos HPUT.out, HCUT.out, ← hysq, if_neg (by simp [h])]
                  obtain ⟨hrow, hcap⟩ := HOD12.out.row
                  have GP13 : Hid _ := specGoodPile_any va12 vc12 ys w13 (by omega) HYT hrow hcap
                  have HOR : Hid _ := HOD12.out.ob.rng
                  have hsr := HOD12.out.sd.res.lt
                  clear hrow hysq HYS HTE8 HPUT HCUT HGD HPG HYT rg12 o12 z12 l12 hcut hrun hown12 hgrow12 hloc12 O12 N9 HOD8' hin9 o9 z9 c9 l9 h9 r9 HA e2 e6 e7 f2 f6 f7 hsz
                  go_wp2_with (refine MA.load_g rfl 31 _ rfl rfl (cs := [.slice va12 ys.length vc12]) ?_ Try.underlying31 rfl Try.sizePileAS rfl ?_; exact HOR.out)
                  refine Calls.mono GP13.out ?_
                  rintro e w14 ⟨rfl, hb14⟩
                  replace HOD12 : Hid _ := HOD12.out.kept hb14
                  clear GP13 HOR hb14
                  cases hgy : PL.good ys with
                  | false =>
                    have HANS : Hid _ := HANB.out hgy
                    clear hgy HANB HANG
                    go_wp2_with (refine MA.store_m rfl 31 _ _ rfl rfl rfl (cs := [.slice none 0 0]) ?_ Try.sizePileAS rfl rfl (by simp [Value.oneCell']) ?_; exact HOD12.out.sd.res)
                    exact bodyPost_ret (MA.ret_cell2 rfl rfl rfl (MA.load_rg (HOD12.out.sd.res.put (vs := [.slice none 0 0]) rfl) Try.underlying31 rfl Try.sizePileAS rfl)) rfl ⟨none, 0, by rw [HANS.out]; rfl, by rw [HANS.out]; exact World.ownsRow_nil _ _ _ _, MA.below_cells (by omega) _ _ _ HOD12.out.sd.below⟩
                  | true =>
                    have HANS : Hid _ := HANG.out hgy
                    have HOR : Hid _ := HOD12.out.ob.rng
                    clear hgy HANB HANG
                    go_wp2_with (first
                      | (refine MA.load_g rfl 31 _ rfl rfl (cs := [.slice va12 ys.length vc12]) ?_ Try.underlying31 rfl Try.sizePileAS rfl ?_; exact HOR.out)
                      | (refine MA.store_m rfl 31 _ _ rfl rfl rfl (cs := [.slice none 0 0]) ?_ Try.sizePileAS rfl rfl (by simp [Value.oneCell']) ?_; exact HOD12.out.sd.res))
                    exact bodyPost_ret (MA.ret_cell2 rfl rfl rfl (MA.load_rg (HOD12.out.sd.res.put (vs := [.slice va12 ys.length vc12]) rfl) Try.underlying31 rfl Try.sizePileAS rfl)) rfl ⟨va12, vc12, by rw [HANS.out]; rfl, by rw [HANS.out]; exact HOD12.out.ret, MA.below_cells (by omega) _ _ _ HOD12.out.sd.below⟩
              | false =>
                have AO : Hid _ := fun W => l4Before_any b y W hs hpy false ha
                have HNP : Hid (¬ (PD.cut xs b = xs.length ∨ PL.ahead b (MP.at_ xs (PD.cut xs b)) = true)) := by
                  show ¬ _
                  rw [HCUT.out, HY.out, ha]; simp; omega
                clear ha
                refine MR.frame fun A hA => ?_
                have hsz : A.tmps.size = 98 := by rw [hA]; rfl
                have e2 : A.eval (.tmp 2) = .pointer (some ⟨w.heap.size, 0, none⟩) := by rw [hA]; rfl
                have f2 := MR.read (t := 2) (by rw [hsz]; decide) e2
                have e3 : A.eval (.tmp 3) = .pointer (some ⟨w.heap.size + 1, 0, none⟩) := by rw [hA]; rfl
                have f3 := MR.read (t := 3) (by rw [hsz]; decide) e3
                have e6 : A.eval (.tmp 6) = .int .i64 (k : Int) := by rw [hA]; rfl
                have f6 := MR.read (t := 6) (by rw [hsz]; decide) e6
                have HA : Hid (A = _) := hA
                clear hA
                have hS : (fun w' : World => Below w6.heap.size w6 w') (World.drew _) := ((Below.refl _ w6).drew)
                refine wp_region_held (S := fun w' : World => Below w6.heap.size w6 w') (by kernel_rfl) ?_
                change wpAnyH _ _ _ _ _ _ _ _ (World.drew _)
                refine MR.takeH (i := 0) (some 45) (.int .i64 (k : Int)) rfl rfl (by kernel_rfl) (by kernel_rfl) (by kernel_rfl) (fun _ _ _ h => h) hS (MR.free rfl) (fun wq hw => by simp [execOp, MR.ev, MR.size, hsz, e2, f2, e3, f3, e6, f6, go_sem]) ?_
                refine MR.takeH (i := 1) (some 46) ((.pointer (some ⟨w.heap.size, 0, none⟩))) rfl rfl (by kernel_rfl) (by kernel_rfl) (by kernel_rfl) (fun _ _ _ h => h) hS (MR.free rfl) (fun wq hw => by simp [execOp, MR.ev, MR.size, hsz, e2, f2, e3, f3, e6, f6, go_sem]) ?_
                refine MR.takeH (i := 2) (some 47) ((.slice (some ⟨g, 0, none⟩) xs.length cx)) rfl rfl (by kernel_rfl) (by kernel_rfl) (by kernel_rfl) (fun _ _ _ h => h) hS (MR.free rfl) (fun wq hw => by have cq : wq.cell? ⟨w.heap.size, 0, none⟩ = some (.slice (some ⟨g, 0, none⟩) xs.length cx) := (hw.cell (p := ⟨w.heap.size, 0, none⟩) hq0).trans c0; simp [execOp, MR.ev, MR.size, hsz, e2, f2, e3, f3, e6, f6, cq, go_sem]) ?_
                refine MR.takeH (i := 3) (some 48) (.int .i64 (xs.length : Int)) rfl rfl (by kernel_rfl) (by kernel_rfl) (by kernel_rfl) (fun _ _ _ h => h) hS (MR.free rfl) (fun wq hw => by simp [execOp, MR.ev, MR.size, hsz, e2, f2, e3, f3, e6, f6, go_sem]) ?_
                refine MR.takeH (i := 4) (some 49) (.bool false) rfl rfl (by kernel_rfl) (by kernel_rfl) (by kernel_rfl) (fun _ _ _ h => h) hS (MR.free rfl) (fun wq hw => by simp [execOp, MR.ev, MR.size, hsz, e2, f2, e3, f3, e6, f6, hne1, hne2, go_sem]) ?_
                refine MR.takeH (i := 5) (some 50) (.bool false) rfl rfl (by kernel_rfl) (by kernel_rfl) (by kernel_rfl) (fun _ _ _ h => h) hS (MR.free rfl) (fun wq hw => by simp [execOp, MR.ev, MR.size, hsz, e2, f2, e3, f3, e6, f6, go_sem]) ?_
                refine MR.takeH (i := 6) (some 51) (b.v) rfl rfl (by kernel_rfl) (by kernel_rfl) (by kernel_rfl) (fun _ _ _ h => h) hS (MR.want (d := 50) rfl rfl (by simp [MR.size, hsz]) (by simp [MR.ev, MR.size, hsz, e2, f2, e3, f3, e6, f6])) (fun wq hw => MA.ex_load rfl (by simp [MR.ev, MR.size, hsz, e2, f2, e3, f3, e6, f6]) (MA.range_below hXr hw hxl) Try.underlying24 rfl Try.sizeBundle rfl) ?_
                refine MR.takeH (i := 7) (some 52) ((.pointer (some ⟨w.heap.size, 0, none⟩))) rfl rfl (by kernel_rfl) (by kernel_rfl) (by kernel_rfl) (fun _ _ _ h => h) hS (MR.want (d := 50) rfl rfl (by simp [MR.size, hsz]) (by simp [MR.ev, MR.size, hsz, e2, f2, e3, f3, e6, f6])) (fun wq hw => by simp [execOp, MR.ev, MR.size, hsz, e2, f2, e3, f3, e6, f6, go_sem]) ?_
                refine MR.takeH (i := 8) (some 53) ((.slice (some ⟨g, 0, none⟩) xs.length cx)) rfl rfl (by kernel_rfl) (by kernel_rfl) (by kernel_rfl) (fun _ _ _ h => h) hS (MR.want (d := 50) rfl rfl (by simp [MR.size, hsz]) (by simp [MR.ev, MR.size, hsz, e2, f2, e3, f3, e6, f6])) (fun wq hw => by have cq : wq.cell? ⟨w.heap.size, 0, none⟩ = some (.slice (some ⟨g, 0, none⟩) xs.length cx) := (hw.cell (p := ⟨w.heap.size, 0, none⟩) hq0).trans c0; simp [execOp, MR.ev, MR.size, hsz, e2, f2, e3, f3, e6, f6, cq, go_sem]) ?_
                refine MR.takeH (i := 9) (some 54) (.int .i64 (k : Int)) rfl rfl (by kernel_rfl) (by kernel_rfl) (by kernel_rfl) (fun _ _ _ h => h) hS (MR.want (d := 50) rfl rfl (by simp [MR.size, hsz]) (by simp [MR.ev, MR.size, hsz, e2, f2, e3, f3, e6, f6])) (fun wq hw => by simp [execOp, MR.ev, MR.size, hsz, e2, f2, e3, f3, e6, f6, go_sem]) ?_
                refine MR.takeH (i := 10) (some 55) (.pointer (some ⟨g, k * 10, none⟩)) rfl rfl (by kernel_rfl) (by kernel_rfl) (by kernel_rfl) (fun _ _ _ h => h) hS (MR.want (d := 50) rfl rfl (by simp [MR.size, hsz]) (by simp [MR.ev, MR.size, hsz, e2, f2, e3, f3, e6, f6])) (fun wq hw => by simp [execOp, MR.ev, MR.size, hsz, e2, f2, e3, f3, e6, f6, hk0, hl, go_sem]) ?_
                refine MR.takeH (i := 11) (some 56) (y.v) rfl rfl (by kernel_rfl) (by kernel_rfl) (by kernel_rfl) (fun _ _ _ h => h) hS (MR.want (d := 50) rfl rfl (by simp [MR.size, hsz]) (by simp [MR.ev, MR.size, hsz, e2, f2, e3, f3, e6, f6])) (fun wq hw => MA.ex_load rfl (by simp [MR.ev, MR.size, hsz, e2, f2, e3, f3, e6, f6]) (MA.range_below hYr hw hgl) Try.underlying24 rfl Try.sizeBundle rfl) ?_
                refine MR.callH (i := 12) (some 57) (51) (#[b.v, y.v]) (by kernel_rfl) rfl rfl (MR.want (d := 50) rfl rfl (by simp [MR.size, hsz]) (by simp [MR.ev, MR.size, hsz, e2, f2, e3, f3, e6, f6])) (by simp [execOp, MR.ev, MR.size, hsz, e2, f2, e3, f3, e6, f6, go_sem]) ?_
                refine Calls.mono (AO.out _) ?_
                rintro e w7 ⟨rfl, hb7⟩
                have hS3 : Below w6.heap.size w6 w7 := hS.trans (hb7.mono hS.size)
                refine ⟨_, rfl, hS3, ?_⟩
                refine MR.takeH (i := 13) (some 58) (.bool false) rfl rfl (by kernel_rfl) (by kernel_rfl) (by kernel_rfl) (fun _ _ _ h => h) hS3 (MR.free rfl) (fun wq hw => by simp [execOp, MR.ev, MR.size, hsz, e2, f2, e3, f3, e6, f6, go_sem]) ?_
                refine wpAnyH_done (by kernel_rfl) ?_ _
                rw [HA.out]
                replace HOD : Hid _ := HOD.out.kept hS3
                clear hb7 hS3 HA hS hXr hYr c0 AO e2 e3 e6 f2 f3 f6 hsz hin2 hgl
                simp only [Act.put, List.setIfInBounds_toArray, List.set_cons_succ, List.set_cons_zero]
                go_wp2_with fail
                have c0 := HOD.out.sd.arg
                have hxl := HOD.out.sd.bx.lt
                have hXr : w7.rangeAt (w.heap.size + 1) 0 b.cs := HOD.out.sd.bx.rng
                have hq0 : w.heap.size < w7.heap.size := by omega
                have hin2 : MP.BsAt w7 (some ⟨g, 0, none⟩) xs := MP.BsAt.below HI.out HOD.out.sd.below
                obtain ⟨b0, off, hab, hgl, hYr⟩ := MA.row_range hin2 hl
                cases hab
                rw [Nat.zero_add, HY.out] at hYr
                have hres := HOD.out.sd.res.lt
                cases ho : PL.one b y with
                | false =>
                  have LS : Hid _ := fun W => l4Same_any b y W false ho
                  have HANS : Hid (PD.ansS xs b = ([], false)) := by
                    show _ = _
                    unfold PD.ansS
                    rw [if_neg (by simp [HGD.out, HPG.out]), if_neg HNP.out, HCUT.out, HY.out, if_pos (by simp [ho])]
                  clear ho
                  refine MR.frame fun A hA => ?_
                  have hsz : A.tmps.size = 98 := by rw [hA]; rfl
                  have e2 : A.eval (.tmp 2) = .pointer (some ⟨w.heap.size, 0, none⟩) := by rw [hA]; rfl
                  have f2 := MR.read (t := 2) (by rw [hsz]; decide) e2
                  have e3 : A.eval (.tmp 3) = .pointer (some ⟨w.heap.size + 1, 0, none⟩) := by rw [hA]; rfl
                  have f3 := MR.read (t := 3) (by rw [hsz]; decide) e3
                  have e6 : A.eval (.tmp 6) = .int .i64 (k : Int) := by rw [hA]; rfl
                  have f6 := MR.read (t := 6) (by rw [hsz]; decide) e6
                  have HA : Hid (A = _) := hA
                  clear hA
                  have hS : (fun w' : World => Below w7.heap.size w7 w') (World.drew _) := ((Below.refl _ w7).drew)
                  refine wp_region_held (S := fun w' : World => Below w7.heap.size w7 w') (by kernel_rfl) ?_
                  change wpAnyH _ _ _ _ _ _ _ _ (World.drew _)
                  refine MR.takeH (i := 0) (some 65) (b.v) rfl rfl (by kernel_rfl) (by kernel_rfl) (by kernel_rfl) (fun _ _ _ h => h) hS (MR.free rfl) (fun wq hw => MA.ex_load rfl (by simp [MR.ev, MR.size, hsz, e2, f2, e3, f3, e6, f6]) (MA.range_below hXr hw hxl) Try.underlying24 rfl Try.sizeBundle rfl) ?_
                  refine MR.takeH (i := 1) (some 66) ((.pointer (some ⟨w.heap.size, 0, none⟩))) rfl rfl (by kernel_rfl) (by kernel_rfl) (by kernel_rfl) (fun _ _ _ h => h) hS (MR.free rfl) (fun wq hw => by simp [execOp, MR.ev, MR.size, hsz, e2, f2, e3, f3, e6, f6, go_sem]) ?_
                  refine MR.takeH (i := 2) (some 67) ((.slice (some ⟨g, 0, none⟩) xs.length cx)) rfl rfl (by kernel_rfl) (by kernel_rfl) (by kernel_rfl) (fun _ _ _ h => h) hS (MR.free rfl) (fun wq hw => by have cq : wq.cell? ⟨w.heap.size, 0, none⟩ = some (.slice (some ⟨g, 0, none⟩) xs.length cx) := (hw.cell (p := ⟨w.heap.size, 0, none⟩) hq0).trans c0; simp [execOp, MR.ev, MR.size, hsz, e2, f2, e3, f3, e6, f6, cq, go_sem]) ?_
                  refine MR.takeH (i := 3) (some 68) (.int .i64 (k : Int)) rfl rfl (by kernel_rfl) (by kernel_rfl) (by kernel_rfl) (fun _ _ _ h => h) hS (MR.free rfl) (fun wq hw => by simp [execOp, MR.ev, MR.size, hsz, e2, f2, e3, f3, e6, f6, go_sem]) ?_
                  refine MR.takeH (i := 4) (some 69) (.pointer (some ⟨g, k * 10, none⟩)) rfl rfl (by kernel_rfl) (by kernel_rfl) (by kernel_rfl) (fun _ _ _ h => h) hS (MR.free rfl) (fun wq hw => by simp [execOp, MR.ev, MR.size, hsz, e2, f2, e3, f3, e6, f6, hk0, hl, go_sem]) ?_
                  refine MR.takeH (i := 5) (some 70) (y.v) rfl rfl (by kernel_rfl) (by kernel_rfl) (by kernel_rfl) (fun _ _ _ h => h) hS (MR.free rfl) (fun wq hw => MA.ex_load rfl (by simp [MR.ev, MR.size, hsz, e2, f2, e3, f3, e6, f6]) (MA.range_below hYr hw hgl) Try.underlying24 rfl Try.sizeBundle rfl) ?_
                  refine MR.callH (i := 6) (some 71) (52) (#[b.v, y.v]) (by kernel_rfl) rfl rfl (MR.free rfl) (by simp [execOp, MR.ev, MR.size, hsz, e2, f2, e3, f3, e6, f6, go_sem]) ?_
                  refine Calls.mono (LS.out _) ?_
                  rintro e w9 ⟨rfl, hb9⟩
                  have hS3 : Below w7.heap.size w7 w9 := hS.trans (hb9.mono hS.size)
                  refine ⟨_, rfl, hS3, ?_⟩
                  refine MR.takeH (i := 7) (some 72) (.bool true) rfl rfl (by kernel_rfl) (by kernel_rfl) (by kernel_rfl) (fun _ _ _ h => h) hS3 (MR.free rfl) (fun wq hw => by simp [execOp, MR.ev, MR.size, hsz, e2, f2, e3, f3, e6, f6, go_sem]) ?_
                  refine MR.takeH (i := 8) (some 73) (.bool true) rfl rfl (by kernel_rfl) (by kernel_rfl) (by kernel_rfl) (fun _ _ _ h => h) hS3 (MR.free rfl) (fun wq hw => by simp [execOp, MR.ev, MR.size, hsz, e2, f2, e3, f3, e6, f6, go_sem]) ?_
                  refine MR.skipH (i := 9) (some 74) rfl rfl (by kernel_rfl) (by kernel_rfl) (by kernel_rfl) (fun _ _ _ h => h) hS3 (MR.unwant (d := 73) (b' := true) rfl rfl (by simp [MR.size, hsz]) (by simp [MR.ev, MR.size, hsz, e2, f2, e3, f3, e6, f6]) (by decide)) ?_
                  refine MR.skipH (i := 10) (some 75) rfl rfl (by kernel_rfl) (by kernel_rfl) (by kernel_rfl) (fun _ _ _ h => h) hS3 (MR.unwant (d := 73) (b' := true) rfl rfl (by simp [MR.size, hsz]) (by simp [MR.ev, MR.size, hsz, e2, f2, e3, f3, e6, f6]) (by decide)) ?_
                  refine MR.skipH (i := 11) (some 76) rfl rfl (by kernel_rfl) (by kernel_rfl) (by kernel_rfl) (fun _ _ _ h => h) hS3 (MR.unwant (d := 73) (b' := true) rfl rfl (by simp [MR.size, hsz]) (by simp [MR.ev, MR.size, hsz, e2, f2, e3, f3, e6, f6]) (by decide)) ?_
                  refine MR.skipH (i := 12) (some 77) rfl rfl (by kernel_rfl) (by kernel_rfl) (by kernel_rfl) (fun _ _ _ h => h) hS3 (MR.unwant (d := 73) (b' := true) rfl rfl (by simp [MR.size, hsz]) (by simp [MR.ev, MR.size, hsz, e2, f2, e3, f3, e6, f6]) (by decide)) ?_
                  refine MR.skipH (i := 13) (some 78) rfl rfl (by kernel_rfl) (by kernel_rfl) (by kernel_rfl) (fun _ _ _ h => h) hS3 (MR.unwant (d := 73) (b' := true) rfl rfl (by simp [MR.size, hsz]) (by simp [MR.ev, MR.size, hsz, e2, f2, e3, f3, e6, f6]) (by decide)) ?_
                  refine MR.skipH (i := 14) (some 79) rfl rfl (by kernel_rfl) (by kernel_rfl) (by kernel_rfl) (fun _ _ _ h => h) hS3 (MR.unwant (d := 73) (b' := true) rfl rfl (by simp [MR.size, hsz]) (by simp [MR.ev, MR.size, hsz, e2, f2, e3, f3, e6, f6]) (by decide)) ?_
                  refine MR.skipH (i := 15) (some 80) rfl rfl (by kernel_rfl) (by kernel_rfl) (by kernel_rfl) (fun _ _ _ h => h) hS3 (MR.unwant (d := 73) (b' := true) rfl rfl (by simp [MR.size, hsz]) (by simp [MR.ev, MR.size, hsz, e2, f2, e3, f3, e6, f6]) (by decide)) ?_
                  refine MR.skipH (i := 16) (some 81) rfl rfl (by kernel_rfl) (by kernel_rfl) (by kernel_rfl) (fun _ _ _ h => h) hS3 (MR.unwant (d := 73) (b' := true) rfl rfl (by simp [MR.size, hsz]) (by simp [MR.ev, MR.size, hsz, e2, f2, e3, f3, e6, f6]) (by decide)) ?_
                  refine MR.skipH (i := 17) (some 82) rfl rfl (by kernel_rfl) (by kernel_rfl) (by kernel_rfl) (fun _ _ _ h => h) hS3 (MR.unwant (d := 73) (b' := true) rfl rfl (by simp [MR.size, hsz]) (by simp [MR.ev, MR.size, hsz, e2, f2, e3, f3, e6, f6]) (by decide)) ?_
                  refine MR.takeH (i := 18) (some 83) (.bool true) rfl rfl (by kernel_rfl) (by kernel_rfl) (by kernel_rfl) (fun _ _ _ h => h) hS3 (MR.free rfl) (fun wq hw => by simp [execOp, MR.ev, MR.size, hsz, e2, f2, e3, f3, e6, f6, go_sem]) ?_
                  refine wpAnyH_done (by kernel_rfl) ?_ _
                  rw [HA.out]
                  replace HOD : Hid _ := HOD.out.kept hS3
                  clear hb9 hS3 HA hS hXr hYr c0 LS e2 e3 e6 f2 f3 f6 hsz hin2 hgl
                  simp only [Act.put, List.setIfInBounds_toArray, List.set_cons_succ, List.set_cons_zero]
                  go_wp2_with (refine MA.store_m rfl 31 _ _ rfl rfl rfl (cs := [.slice none 0 0]) ?_ Try.sizePileAS rfl rfl (by simp [Value.oneCell']) ?_; exact HOD.out.sd.res)
                  exact bodyPost_ret (MA.ret_cell2 rfl rfl rfl (MA.load_rg (HOD.out.sd.res.put (vs := [.slice none 0 0]) rfl) Try.underlying31 rfl Try.sizePileAS rfl)) rfl ⟨none, 0, by rw [HANS.out]; rfl, by rw [HANS.out]; exact World.ownsRow_nil _ _ _ _, MA.below_cells (by omega) _ _ _ HOD.out.sd.below⟩
                | true =>
                  have LS : Hid _ := fun W => l4Same_any b y W true ho
                  have q9 := CB.c_of HOD.out.sd.bx (j := 9) (v := .string b.py) rfl
                  have p9 := hYr 9 (.string y.py) rfl
                  by_cases hp : b.py = y.py
                  · have HSM : Hid (¬ (!PL.one b y || !decide (b.py = y.py)) = true) := by show ¬ _; simp [ho, hp]
                    have hpq := hp
                    clear ho hp
                    refine MR.frame fun A hA => ?_
                    have hsz : A.tmps.size = 98 := by rw [hA]; rfl
                    have e2 : A.eval (.tmp 2) = .pointer (some ⟨w.heap.size, 0, none⟩) := by rw [hA]; rfl
                    have f2 := MR.read (t := 2) (by rw [hsz]; decide) e2
                    have e3 : A.eval (.tmp 3) = .pointer (some ⟨w.heap.size + 1, 0, none⟩) := by rw [hA]; rfl
                    have f3 := MR.read (t := 3) (by rw [hsz]; decide) e3
                    have e6 : A.eval (.tmp 6) = .int .i64 (k : Int) := by rw [hA]; rfl
                    have f6 := MR.read (t := 6) (by rw [hsz]; decide) e6
                    have HA : Hid (A = _) := hA
                    clear hA
                    have hS : (fun w' : World => Below w7.heap.size w7 w') (World.drew _) := ((Below.refl _ w7).drew)
                    refine wp_region_held (S := fun w' : World => Below w7.heap.size w7 w') (by kernel_rfl) ?_
                    change wpAnyH _ _ _ _ _ _ _ _ (World.drew _)
                    refine MR.takeH (i := 0) (some 65) (b.v) rfl rfl (by kernel_rfl) (by kernel_rfl) (by kernel_rfl) (fun _ _ _ h => h) hS (MR.free rfl) (fun wq hw => MA.ex_load rfl (by simp [MR.ev, MR.size, hsz, e2, f2, e3, f3, e6, f6]) (MA.range_below hXr hw hxl) Try.underlying24 rfl Try.sizeBundle rfl) ?_
                    refine MR.takeH (i := 1) (some 66) ((.pointer (some ⟨w.heap.size, 0, none⟩))) rfl rfl (by kernel_rfl) (by kernel_rfl) (by kernel_rfl) (fun _ _ _ h => h) hS (MR.free rfl) (fun wq hw => by simp [execOp, MR.ev, MR.size, hsz, e2, f2, e3, f3, e6, f6, go_sem]) ?_
                    refine MR.takeH (i := 2) (some 67) ((.slice (some ⟨g, 0, none⟩) xs.length cx)) rfl rfl (by kernel_rfl) (by kernel_rfl) (by kernel_rfl) (fun _ _ _ h => h) hS (MR.free rfl) (fun wq hw => by have cq : wq.cell? ⟨w.heap.size, 0, none⟩ = some (.slice (some ⟨g, 0, none⟩) xs.length cx) := (hw.cell (p := ⟨w.heap.size, 0, none⟩) hq0).trans c0; simp [execOp, MR.ev, MR.size, hsz, e2, f2, e3, f3, e6, f6, cq, go_sem]) ?_
                    refine MR.takeH (i := 3) (some 68) (.int .i64 (k : Int)) rfl rfl (by kernel_rfl) (by kernel_rfl) (by kernel_rfl) (fun _ _ _ h => h) hS (MR.free rfl) (fun wq hw => by simp [execOp, MR.ev, MR.size, hsz, e2, f2, e3, f3, e6, f6, go_sem]) ?_
                    refine MR.takeH (i := 4) (some 69) (.pointer (some ⟨g, k * 10, none⟩)) rfl rfl (by kernel_rfl) (by kernel_rfl) (by kernel_rfl) (fun _ _ _ h => h) hS (MR.free rfl) (fun wq hw => by simp [execOp, MR.ev, MR.size, hsz, e2, f2, e3, f3, e6, f6, hk0, hl, go_sem]) ?_
                    refine MR.takeH (i := 5) (some 70) (y.v) rfl rfl (by kernel_rfl) (by kernel_rfl) (by kernel_rfl) (fun _ _ _ h => h) hS (MR.free rfl) (fun wq hw => MA.ex_load rfl (by simp [MR.ev, MR.size, hsz, e2, f2, e3, f3, e6, f6]) (MA.range_below hYr hw hgl) Try.underlying24 rfl Try.sizeBundle rfl) ?_
                    refine MR.callH (i := 6) (some 71) (52) (#[b.v, y.v]) (by kernel_rfl) rfl rfl (MR.free rfl) (by simp [execOp, MR.ev, MR.size, hsz, e2, f2, e3, f3, e6, f6, go_sem]) ?_
                    refine Calls.mono (LS.out _) ?_
                    rintro e w9 ⟨rfl, hb9⟩
                    have hS3 : Below w7.heap.size w7 w9 := hS.trans (hb9.mono hS.size)
                    refine ⟨_, rfl, hS3, ?_⟩
                    refine MR.takeH (i := 7) (some 72) (.bool false) rfl rfl (by kernel_rfl) (by kernel_rfl) (by kernel_rfl) (fun _ _ _ h => h) hS3 (MR.free rfl) (fun wq hw => by simp [execOp, MR.ev, MR.size, hsz, e2, f2, e3, f3, e6, f6, go_sem]) ?_
                    refine MR.takeH (i := 8) (some 73) (.bool false) rfl rfl (by kernel_rfl) (by kernel_rfl) (by kernel_rfl) (fun _ _ _ h => h) hS3 (MR.free rfl) (fun wq hw => by simp [execOp, MR.ev, MR.size, hsz, e2, f2, e3, f3, e6, f6, go_sem]) ?_
                    refine MR.takeH (i := 9) (some 74) (.pointer (some ⟨w.heap.size + 1, 9, none⟩)) rfl rfl (by kernel_rfl) (by kernel_rfl) (by kernel_rfl) (fun _ _ _ h => h) hS3 (MR.want (d := 73) rfl rfl (by simp [MR.size, hsz]) (by simp [MR.ev, MR.size, hsz, e2, f2, e3, f3, e6, f6])) (fun wq hw => by simp [execOp, MR.ev, MR.size, hsz, e2, f2, e3, f3, e6, f6, go_sem]) ?_
                    refine MR.takeH (i := 10) (some 75) (.string b.py) rfl rfl (by kernel_rfl) (by kernel_rfl) (by kernel_rfl) (fun _ _ _ h => h) hS3 (MR.want (d := 73) rfl rfl (by simp [MR.size, hsz]) (by simp [MR.ev, MR.size, hsz, e2, f2, e3, f3, e6, f6])) (fun wq hw => by have cq : wq.cell? ⟨w.heap.size + 1, 9, none⟩ = some (.string b.py) := (hw.cell (p := ⟨w.heap.size + 1, 9, none⟩) hxl).trans q9; simp [execOp, MR.ev, MR.size, hsz, e2, f2, e3, f3, e6, f6, cq, go_sem]) ?_
                    refine MR.takeH (i := 11) (some 76) ((.pointer (some ⟨w.heap.size, 0, none⟩))) rfl rfl (by kernel_rfl) (by kernel_rfl) (by kernel_rfl) (fun _ _ _ h => h) hS3 (MR.want (d := 73) rfl rfl (by simp [MR.size, hsz]) (by simp [MR.ev, MR.size, hsz, e2, f2, e3, f3, e6, f6])) (fun wq hw => by simp [execOp, MR.ev, MR.size, hsz, e2, f2, e3, f3, e6, f6, go_sem]) ?_
                    refine MR.takeH (i := 12) (some 77) ((.slice (some ⟨g, 0, none⟩) xs.length cx)) rfl rfl (by kernel_rfl) (by kernel_rfl) (by kernel_rfl) (fun _ _ _ h => h) hS3 (MR.want (d := 73) rfl rfl (by simp [MR.size, hsz]) (by simp [MR.ev, MR.size, hsz, e2, f2, e3, f3, e6, f6])) (fun wq hw => by have cq : wq.cell? ⟨w.heap.size, 0, none⟩ = some (.slice (some ⟨g, 0, none⟩) xs.length cx) := (hw.cell (p := ⟨w.heap.size, 0, none⟩) hq0).trans c0; simp [execOp, MR.ev, MR.size, hsz, e2, f2, e3, f3, e6, f6, cq, go_sem]) ?_
                    refine MR.takeH (i := 13) (some 78) (.int .i64 (k : Int)) rfl rfl (by kernel_rfl) (by kernel_rfl) (by kernel_rfl) (fun _ _ _ h => h) hS3 (MR.want (d := 73) rfl rfl (by simp [MR.size, hsz]) (by simp [MR.ev, MR.size, hsz, e2, f2, e3, f3, e6, f6])) (fun wq hw => by simp [execOp, MR.ev, MR.size, hsz, e2, f2, e3, f3, e6, f6, go_sem]) ?_
                    refine MR.takeH (i := 14) (some 79) (.pointer (some ⟨g, k * 10, none⟩)) rfl rfl (by kernel_rfl) (by kernel_rfl) (by kernel_rfl) (fun _ _ _ h => h) hS3 (MR.want (d := 73) rfl rfl (by simp [MR.size, hsz]) (by simp [MR.ev, MR.size, hsz, e2, f2, e3, f3, e6, f6])) (fun wq hw => by simp [execOp, MR.ev, MR.size, hsz, e2, f2, e3, f3, e6, f6, hk0, hl, go_sem]) ?_
                    refine MR.takeH (i := 15) (some 80) (.pointer (some ⟨g, k * 10 + 9, none⟩)) rfl rfl (by kernel_rfl) (by kernel_rfl) (by kernel_rfl) (fun _ _ _ h => h) hS3 (MR.want (d := 73) rfl rfl (by simp [MR.size, hsz]) (by simp [MR.ev, MR.size, hsz, e2, f2, e3, f3, e6, f6])) (fun wq hw => by simp [execOp, MR.ev, MR.size, hsz, e2, f2, e3, f3, e6, f6, go_sem]) ?_
                    refine MR.takeH (i := 16) (some 81) (.string y.py) rfl rfl (by kernel_rfl) (by kernel_rfl) (by kernel_rfl) (fun _ _ _ h => h) hS3 (MR.want (d := 73) rfl rfl (by simp [MR.size, hsz]) (by simp [MR.ev, MR.size, hsz, e2, f2, e3, f3, e6, f6])) (fun wq hw => by have cq : wq.cell? ⟨g, k * 10 + 9, none⟩ = some (.string y.py) := (hw.cell (p := ⟨g, k * 10 + 9, none⟩) hgl).trans p9; simp [execOp, MR.ev, MR.size, hsz, e2, f2, e3, f3, e6, f6, cq, go_sem]) ?_
                    refine MR.takeH (i := 17) (some 82) (.bool false) rfl rfl (by kernel_rfl) (by kernel_rfl) (by kernel_rfl) (fun _ _ _ h => h) hS3 (MR.want (d := 73) rfl rfl (by simp [MR.size, hsz]) (by simp [MR.ev, MR.size, hsz, e2, f2, e3, f3, e6, f6])) (fun wq hw => by simp [execOp, MR.ev, MR.size, hsz, e2, f2, e3, f3, e6, f6, hpq, go_sem]) ?_
                    refine MR.takeH (i := 18) (some 83) (.bool false) rfl rfl (by kernel_rfl) (by kernel_rfl) (by kernel_rfl) (fun _ _ _ h => h) hS3 (MR.free rfl) (fun wq hw => by simp [execOp, MR.ev, MR.size, hsz, e2, f2, e3, f3, e6, f6, go_sem]) ?_
                    refine wpAnyH_done (by kernel_rfl) ?_ _
                    rw [HA.out]
                    have HOD8' : Hid _ := HOD.out.kept hS3
                    clear hb9 hS3 HA hS hXr hYr c0 LS e2 e3 e6 f2 f3 f6 hsz hin2 hgl q9 p9 HOD
                    simp only [Act.put, List.setIfInBounds_toArray, List.set_cons_succ, List.set_cons_zero]
                    go_wp2_with fail
                    have c9 := HOD8'.out.sd.arg
                    have o9 := CB.c_of HOD8'.out.ob (j := 0) (v := (.slice va tk.length vc)) rfl
                    have z9 := CB.f_of HOD8'.out.ob (j := 0) (by simp)
                    have l9 := HOD8'.out.ob.lt
                    have h9 : w.heap.size < w9.heap.size := by have := HOD8'.out.sd.bx.lt; omega
                    have r9 := HOD8'.out.sd.res.lt
                    have hin9 : MP.BsAt w9 (some ⟨g, 0, none⟩) xs := MP.BsAt.below HI.out HOD8'.out.sd.below
                    have hdl : (xs.drop k).length = xs.length - k := List.length_drop
                    have N9 : ∀ j u, (MP.flat (xs.drop k))[j]? = some u → w9.drew.cell? ((⟨g, k * 10, none⟩ : Addr).add j) = some u := fun j u hj => by
                      have := PC.row_cells hin9 (k := k) (m := xs.length - k) (by omega) j u (by rw [List.take_of_length_le (by omega)]; exact hj)
                      exact this
                    obtain ⟨v12, w12, hrun, hown12, hgrow12, _, hloc12⟩ := run_append_own_at (P := Try.prog) w9.drew (w.heap.size + 1 + 1 + 1) 27 27 24 i0 (.agg (Bd.cs B1.zero).toArray) 10 88 Try.underlying27 hi hz0 hz1 hz2 rfl (by decide) (.slice va tk.length vc) tk.length (MP.flat tk) (MP.own_below HOD8'.out.ow ((Below.refl _ w9).drew)) ⟨g, k * 10, none⟩ (xs.length - k) (cx - k) (MP.flat (xs.drop k)) (by rw [MP.flat_len, hdl]) N9 (PC.flat_one _) (by unfold maxLen; omega) (by omega) (by show _ ≤ w9.heap.size; omega)
                    have O12 : w12.ownsRow (w.heap.size + 1 + 1 + 1) 24 10 v12 (tk ++ xs.drop k).length (MP.flat (tk ++ xs.drop k)) := by
                      rw [List.length_append, hdl, MP.flat_app]; exact hown12
                    have hyl12 : (tk ++ xs.drop k).length ≤ 1000 := by rw [List.length_append, hdl]; omega
                    generalize hys : tk ++ xs.drop k = ys at *
                    have HYS : Hid _ := hys
                    clear hys
                    obtain ⟨va12, vc12, rfl, _⟩ := CB.view O12
                    have HOD12 : Hid _ := HOD8'.out.app ((Below.refl _ w9).drew) O12 hgrow12 hloc12 (Nat.le_refl _)
                    have rg12 := rg_grown (HOD8'.out.ob.below ((Below.refl _ w9).drew) HOD8'.out.ob.lt) hgrow12 (fun e => HOD8'.out.ne e.symm)
                    have o12 := CB.c_of rg12 (j := 0) (v := (.slice va tk.length vc)) rfl
                    have z12 := CB.f_of rg12 (j := 0) (by simp)
                    have l12 := rg12.lt
                    have hcut : ∀ W : World, (Instr.sliceAt 27 (.slice (some ⟨g, 0, none⟩) xs.length cx) (some (.int .i64 (k : Int))) none none).run Try.prog W = .ok (.slice (some ⟨g, k * 10, none⟩) (xs.length - k) (cx - k)) W := fun W => by
                      have h1 : ¬ cx = k := by omega
                      have h2 : k ≤ xs.length := by omega
                      have h4 : xs.length ≤ cx := hcx
                      have h3 : (0 : Int) ≤ (k : Int) := by omega
                      go_simp
                    refine MR.frame fun A hA => ?_
                    have hsz : A.tmps.size = 98 := by rw [hA]; rfl
                    have e2 : A.eval (.tmp 2) = .pointer (some ⟨w.heap.size, 0, none⟩) := by rw [hA]; rfl
                    have f2 := MR.read (t := 2) (by rw [hsz]; decide) e2
                    have e6 : A.eval (.tmp 6) = .int .i64 (k : Int) := by rw [hA]; rfl
                    have f6 := MR.read (t := 6) (by rw [hsz]; decide) e6
                    have e7 : A.eval (.tmp 7) = .pointer (some ⟨ob, 0, none⟩) := by rw [hA]; rfl
                    have f7 := MR.read (t := 7) (by rw [hsz]; decide) e7
                    have HA : Hid (A = _) := hA
                    clear hA
                    refine wp_region_held (S := fun _ : World => True) (by kernel_rfl) ?_
                    change wpAnyH _ _ _ _ _ _ _ _ (World.drew _)
                    refine MR.takeH (i := 0) (some 85) (.pointer (some ⟨ob, 0, none⟩)) rfl rfl (by kernel_rfl) (by kernel_rfl) (by kernel_rfl) (fun _ _ _ h => h) trivial (MR.free rfl) (fun wq hw => by simp [execOp, MR.ev, MR.size, hsz, e2, f2, e6, f6, e7, f7, go_sem]) ?_
                    refine MR.takeH (i := 2) (some 87) (.pointer (some ⟨w.heap.size, 0, none⟩)) rfl rfl (by kernel_rfl) (by kernel_rfl) (by kernel_rfl) (fun _ _ _ h => h) trivial (MR.free rfl) (fun wq hw => by simp [execOp, MR.ev, MR.size, hsz, e2, f2, e6, f6, e7, f7, go_sem]) ?_
                    refine MR.takeH (i := 4) (some 89) (.int .i64 (k : Int)) rfl rfl (by kernel_rfl) (by kernel_rfl) (by kernel_rfl) (fun _ _ _ h => h) trivial (MR.free rfl) (fun wq hw => by simp [execOp, MR.ev, MR.size, hsz, e2, f2, e6, f6, e7, f7, go_sem]) ?_
                    refine MR.two (i := 1) (j := 3) (by kernel_rfl) ?_ ?_
                    · refine MR.nowW (w' := World.drew w9) (some 86) ((.slice va tk.length vc)) rfl rfl (MR.free rfl) (by simp [execOp, MR.ev, MR.size, hsz, e2, f2, e6, f6, e7, f7, o9, l9, go_sem]) ⟨trivial, ?_⟩
                      refine MR.nowH (w' := World.drew w9) (i := 3) (some 88) ((.slice (some ⟨g, 0, none⟩) xs.length cx)) (by kernel_rfl) rfl rfl (MR.free rfl) (by simp [execOp, MR.ev, MR.size, hsz, e2, f2, e6, f6, e7, f7, c9, h9, go_sem]) ⟨trivial, ?_⟩
                      refine MR.nowH (w' := World.drew w9) (i := 5) (some 90) ((.slice (some ⟨g, k * 10, none⟩) (xs.length - k) (cx - k))) (by kernel_rfl) rfl rfl (MR.free rfl) (by simp [execOp, MR.ev, MR.size, hsz, e2, f2, e6, f6, e7, f7, hcut, go_sem]) ⟨trivial, ?_⟩
                      refine MR.nowH (w' := w12) (i := 6) (some 91) (.slice va12 ys.length vc12) (by kernel_rfl) rfl rfl (MR.free rfl) (app_run rfl (by simp [MR.ev, MR.size, hsz, e2, f2, e6, f6, e7, f7]) (by simp [MR.ev, MR.size, hsz, e2, f2, e6, f6, e7, f7]) hrun) ⟨trivial, ?_⟩
                      refine MR.takeH (i := 7) (some 92) (.pointer (some ⟨ob, 0, none⟩)) rfl rfl (by kernel_rfl) (by kernel_rfl) (by kernel_rfl) (fun _ _ _ h => h) trivial (MR.free rfl) (fun wq hw => by simp [execOp, MR.ev, MR.size, hsz, e2, f2, e6, f6, e7, f7, go_sem]) ?_
                      refine MR.storeH (w' := w12.setCell ⟨ob, 0, none⟩ (.slice va12 ys.length vc12)) (i := 8) (by kernel_rfl) rfl (MR.free rfl) (by simp [execOp, MR.ev, MR.size, hsz, e2, f2, e6, f6, e7, f7, o12, z12, l12, go_sem]) ⟨trivial, ?_⟩
                      refine wpAnyH_done (by kernel_rfl) ?_ _
                      rw [HA.out]
                      simp only [Act.put, List.setIfInBounds_toArray, List.set_cons_succ, List.set_cons_zero, List.getElem_toArray, List.getElem_cons_succ, List.getElem_cons_zero]
                      go_wp2_with fail
                      generalize w12.setCell ⟨ob, 0, none⟩ (.slice va12 ys.length vc12) = w13 at *
                      have hysq : ys = xs := by rw [← HYS.out, ← HTE.out]; simp
                      have HYT : Hid (∀ k, k < ys.length → (MP.at_ ys k).py.size ≤ 1048576) := by rw [hysq]; exact ht
                      have HANG : Hid (PL.good ys = true → PD.ansS xs b = (ys, true)) := fun h => by
                        unfold PD.ansS
                        rw [if_neg (by simp [HGD.out, HPG.out]), if_neg HNP.out, HCUT.out, HY.out, if_neg HSM.out, hysq]
                      have HANB : Hid (PL.good ys = false → PD.ansS xs b = ([], false)) := fun h => by
                        rw [hysq, HGD.out] at h; cases h
                      obtain ⟨hrow, hcap⟩ := HOD12.out.row
                      have GP13 : Hid _ := specGoodPile_any va12 vc12 ys w13 (by omega) HYT hrow hcap
                      have HOR : Hid _ := HOD12.out.ob.rng
                      have hsr := HOD12.out.sd.res.lt
                      clear hrow hysq HYS HTE HNP HSM HY HCUT HGD HPG HYT rg12 o12 z12 l12 hcut hrun hown12 hgrow12 hloc12 O12 N9 HOD8' hin9 o9 z9 c9 l9 h9 r9 HA e2 e6 e7 f2 f6 f7 hsz
                      go_wp2_with (refine MA.load_g rfl 31 _ rfl rfl (cs := [.slice va12 ys.length vc12]) ?_ Try.underlying31 rfl Try.sizePileAS rfl ?_; exact HOR.out)
                      refine Calls.mono GP13.out ?_
                      rintro e w14 ⟨rfl, hb14⟩
                      replace HOD12 : Hid _ := HOD12.out.kept hb14
                      clear GP13 HOR hb14
                      cases hgy : PL.good ys with
                      | false =>
                        have HANS : Hid _ := HANB.out hgy
                        clear hgy HANB HANG
                        go_wp2_with (refine MA.store_m rfl 31 _ _ rfl rfl rfl (cs := [.slice none 0 0]) ?_ Try.sizePileAS rfl rfl (by simp [Value.oneCell']) ?_; exact HOD12.out.sd.res)
                        exact bodyPost_ret (MA.ret_cell2 rfl rfl rfl (MA.load_rg (HOD12.out.sd.res.put (vs := [.slice none 0 0]) rfl) Try.underlying31 rfl Try.sizePileAS rfl)) rfl ⟨none, 0, by rw [HANS.out]; rfl, by rw [HANS.out]; exact World.ownsRow_nil _ _ _ _, MA.below_cells (by omega) _ _ _ HOD12.out.sd.below⟩
                      | true =>
                        have HANS : Hid _ := HANG.out hgy
                        have HOR : Hid _ := HOD12.out.ob.rng
                        clear hgy HANB HANG
                        go_wp2_with (first
                          | (refine MA.load_g rfl 31 _ rfl rfl (cs := [.slice va12 ys.length vc12]) ?_ Try.underlying31 rfl Try.sizePileAS rfl ?_; exact HOR.out)
                          | (refine MA.store_m rfl 31 _ _ rfl rfl rfl (cs := [.slice none 0 0]) ?_ Try.sizePileAS rfl rfl (by simp [Value.oneCell']) ?_; exact HOD12.out.sd.res))
                        exact bodyPost_ret (MA.ret_cell2 rfl rfl rfl (MA.load_rg (HOD12.out.sd.res.put (vs := [.slice va12 ys.length vc12]) rfl) Try.underlying31 rfl Try.sizePileAS rfl)) rfl ⟨va12, vc12, by rw [HANS.out]; rfl, by rw [HANS.out]; exact HOD12.out.ret, MA.below_cells (by omega) _ _ _ HOD12.out.sd.below⟩
                    · refine MR.nowW (w' := World.drew w9) (some 88) ((.slice (some ⟨g, 0, none⟩) xs.length cx)) rfl rfl (MR.free rfl) (by simp [execOp, MR.ev, MR.size, hsz, e2, f2, e6, f6, e7, f7, c9, h9, go_sem]) ⟨trivial, ?_⟩
                      refine MR.takeH (i := 5) (some 90) ((.slice (some ⟨g, k * 10, none⟩) (xs.length - k) (cx - k))) rfl rfl (by kernel_rfl) (by kernel_rfl) (by kernel_rfl) (fun _ _ _ h => h) trivial (MR.free rfl) (fun wq hw => by simp [execOp, MR.ev, MR.size, hsz, e2, f2, e6, f6, e7, f7, hcut, go_sem]) ?_
                      refine MR.nowH (w' := World.drew w9) (i := 1) (some 86) ((.slice va tk.length vc)) (by kernel_rfl) rfl rfl (MR.free rfl) (by simp [execOp, MR.ev, MR.size, hsz, e2, f2, e6, f6, e7, f7, o9, l9, go_sem]) ⟨trivial, ?_⟩
                      refine MR.nowH (w' := w12) (i := 6) (some 91) (.slice va12 ys.length vc12) (by kernel_rfl) rfl rfl (MR.free rfl) (app_run rfl (by simp [MR.ev, MR.size, hsz, e2, f2, e6, f6, e7, f7]) (by simp [MR.ev, MR.size, hsz, e2, f2, e6, f6, e7, f7]) hrun) ⟨trivial, ?_⟩
                      refine MR.takeH (i := 7) (some 92) (.pointer (some ⟨ob, 0, none⟩)) rfl rfl (by kernel_rfl) (by kernel_rfl) (by kernel_rfl) (fun _ _ _ h => h) trivial (MR.free rfl) (fun wq hw => by simp [execOp, MR.ev, MR.size, hsz, e2, f2, e6, f6, e7, f7, go_sem]) ?_
                      refine MR.storeH (w' := w12.setCell ⟨ob, 0, none⟩ (.slice va12 ys.length vc12)) (i := 8) (by kernel_rfl) rfl (MR.free rfl) (by simp [execOp, MR.ev, MR.size, hsz, e2, f2, e6, f6, e7, f7, o12, z12, l12, go_sem]) ⟨trivial, ?_⟩
                      refine wpAnyH_done (by kernel_rfl) ?_ _
                      rw [HA.out]
                      simp only [Act.put, List.setIfInBounds_toArray, List.set_cons_succ, List.set_cons_zero, List.getElem_toArray, List.getElem_cons_succ, List.getElem_cons_zero]
                      go_wp2_with fail
                      generalize w12.setCell ⟨ob, 0, none⟩ (.slice va12 ys.length vc12) = w13 at *
                      have hysq : ys = xs := by rw [← HYS.out, ← HTE.out]; simp
                      have HYT : Hid (∀ k, k < ys.length → (MP.at_ ys k).py.size ≤ 1048576) := by rw [hysq]; exact ht
                      have HANG : Hid (PL.good ys = true → PD.ansS xs b = (ys, true)) := fun h => by
                        unfold PD.ansS
                        rw [if_neg (by simp [HGD.out, HPG.out]), if_neg HNP.out, HCUT.out, HY.out, if_neg HSM.out, hysq]
                      have HANB : Hid (PL.good ys = false → PD.ansS xs b = ([], false)) := fun h => by
                        rw [hysq, HGD.out] at h; cases h
                      obtain ⟨hrow, hcap⟩ := HOD12.out.row
                      have GP13 : Hid _ := specGoodPile_any va12 vc12 ys w13 (by omega) HYT hrow hcap
                      have HOR : Hid _ := HOD12.out.ob.rng
                      have hsr := HOD12.out.sd.res.lt
                      clear hrow hysq HYS HTE HNP HSM HY HCUT HGD HPG HYT rg12 o12 z12 l12 hcut hrun hown12 hgrow12 hloc12 O12 N9 HOD8' hin9 o9 z9 c9 l9 h9 r9 HA e2 e6 e7 f2 f6 f7 hsz
                      go_wp2_with (refine MA.load_g rfl 31 _ rfl rfl (cs := [.slice va12 ys.length vc12]) ?_ Try.underlying31 rfl Try.sizePileAS rfl ?_; exact HOR.out)
                      refine Calls.mono GP13.out ?_
                      rintro e w14 ⟨rfl, hb14⟩
                      replace HOD12 : Hid _ := HOD12.out.kept hb14
                      clear GP13 HOR hb14
                      cases hgy : PL.good ys with
                      | false =>
                        have HANS : Hid _ := HANB.out hgy
                        clear hgy HANB HANG
                        go_wp2_with (refine MA.store_m rfl 31 _ _ rfl rfl rfl (cs := [.slice none 0 0]) ?_ Try.sizePileAS rfl rfl (by simp [Value.oneCell']) ?_; exact HOD12.out.sd.res)
                        exact bodyPost_ret (MA.ret_cell2 rfl rfl rfl (MA.load_rg (HOD12.out.sd.res.put (vs := [.slice none 0 0]) rfl) Try.underlying31 rfl Try.sizePileAS rfl)) rfl ⟨none, 0, by rw [HANS.out]; rfl, by rw [HANS.out]; exact World.ownsRow_nil _ _ _ _, MA.below_cells (by omega) _ _ _ HOD12.out.sd.below⟩
                      | true =>
                        have HANS : Hid _ := HANG.out hgy
                        have HOR : Hid _ := HOD12.out.ob.rng
                        clear hgy HANB HANG
                        go_wp2_with (first
                          | (refine MA.load_g rfl 31 _ rfl rfl (cs := [.slice va12 ys.length vc12]) ?_ Try.underlying31 rfl Try.sizePileAS rfl ?_; exact HOR.out)
                          | (refine MA.store_m rfl 31 _ _ rfl rfl rfl (cs := [.slice none 0 0]) ?_ Try.sizePileAS rfl rfl (by simp [Value.oneCell']) ?_; exact HOD12.out.sd.res))
                        exact bodyPost_ret (MA.ret_cell2 rfl rfl rfl (MA.load_rg (HOD12.out.sd.res.put (vs := [.slice va12 ys.length vc12]) rfl) Try.underlying31 rfl Try.sizePileAS rfl)) rfl ⟨va12, vc12, by rw [HANS.out]; rfl, by rw [HANS.out]; exact HOD12.out.ret, MA.below_cells (by omega) _ _ _ HOD12.out.sd.below⟩
                  · have HANS : Hid (PD.ansS xs b = ([], false)) := by
                      show _ = _
                      unfold PD.ansS
                      rw [if_neg (by simp [HGD.out, HPG.out]), if_neg HNP.out, HCUT.out, HY.out, if_pos (by simp [hp])]
                    have hpq : ¬ b.py.toList = y.py.toList := fun e => hp (of_decide_eq_true (by rw [← list_eqB, e]; simp))
                    clear ho hp
                    refine MR.frame fun A hA => ?_
                    have hsz : A.tmps.size = 98 := by rw [hA]; rfl
                    have e2 : A.eval (.tmp 2) = .pointer (some ⟨w.heap.size, 0, none⟩) := by rw [hA]; rfl
                    have f2 := MR.read (t := 2) (by rw [hsz]; decide) e2
                    have e3 : A.eval (.tmp 3) = .pointer (some ⟨w.heap.size + 1, 0, none⟩) := by rw [hA]; rfl
                    have f3 := MR.read (t := 3) (by rw [hsz]; decide) e3
                    have e6 : A.eval (.tmp 6) = .int .i64 (k : Int) := by rw [hA]; rfl
                    have f6 := MR.read (t := 6) (by rw [hsz]; decide) e6
                    have HA : Hid (A = _) := hA
                    clear hA
                    have hS : (fun w' : World => Below w7.heap.size w7 w') (World.drew _) := ((Below.refl _ w7).drew)
                    refine wp_region_held (S := fun w' : World => Below w7.heap.size w7 w') (by kernel_rfl) ?_
                    change wpAnyH _ _ _ _ _ _ _ _ (World.drew _)
                    refine MR.takeH (i := 0) (some 65) (b.v) rfl rfl (by kernel_rfl) (by kernel_rfl) (by kernel_rfl) (fun _ _ _ h => h) hS (MR.free rfl) (fun wq hw => MA.ex_load rfl (by simp [MR.ev, MR.size, hsz, e2, f2, e3, f3, e6, f6]) (MA.range_below hXr hw hxl) Try.underlying24 rfl Try.sizeBundle rfl) ?_
                    refine MR.takeH (i := 1) (some 66) ((.pointer (some ⟨w.heap.size, 0, none⟩))) rfl rfl (by kernel_rfl) (by kernel_rfl) (by kernel_rfl) (fun _ _ _ h => h) hS (MR.free rfl) (fun wq hw => by simp [execOp, MR.ev, MR.size, hsz, e2, f2, e3, f3, e6, f6, go_sem]) ?_
                    refine MR.takeH (i := 2) (some 67) ((.slice (some ⟨g, 0, none⟩) xs.length cx)) rfl rfl (by kernel_rfl) (by kernel_rfl) (by kernel_rfl) (fun _ _ _ h => h) hS (MR.free rfl) (fun wq hw => by have cq : wq.cell? ⟨w.heap.size, 0, none⟩ = some (.slice (some ⟨g, 0, none⟩) xs.length cx) := (hw.cell (p := ⟨w.heap.size, 0, none⟩) hq0).trans c0; simp [execOp, MR.ev, MR.size, hsz, e2, f2, e3, f3, e6, f6, cq, go_sem]) ?_
                    refine MR.takeH (i := 3) (some 68) (.int .i64 (k : Int)) rfl rfl (by kernel_rfl) (by kernel_rfl) (by kernel_rfl) (fun _ _ _ h => h) hS (MR.free rfl) (fun wq hw => by simp [execOp, MR.ev, MR.size, hsz, e2, f2, e3, f3, e6, f6, go_sem]) ?_
                    refine MR.takeH (i := 4) (some 69) (.pointer (some ⟨g, k * 10, none⟩)) rfl rfl (by kernel_rfl) (by kernel_rfl) (by kernel_rfl) (fun _ _ _ h => h) hS (MR.free rfl) (fun wq hw => by simp [execOp, MR.ev, MR.size, hsz, e2, f2, e3, f3, e6, f6, hk0, hl, go_sem]) ?_
                    refine MR.takeH (i := 5) (some 70) (y.v) rfl rfl (by kernel_rfl) (by kernel_rfl) (by kernel_rfl) (fun _ _ _ h => h) hS (MR.free rfl) (fun wq hw => MA.ex_load rfl (by simp [MR.ev, MR.size, hsz, e2, f2, e3, f3, e6, f6]) (MA.range_below hYr hw hgl) Try.underlying24 rfl Try.sizeBundle rfl) ?_
                    refine MR.callH (i := 6) (some 71) (52) (#[b.v, y.v]) (by kernel_rfl) rfl rfl (MR.free rfl) (by simp [execOp, MR.ev, MR.size, hsz, e2, f2, e3, f3, e6, f6, go_sem]) ?_
                    refine Calls.mono (LS.out _) ?_
                    rintro e w9 ⟨rfl, hb9⟩
                    have hS3 : Below w7.heap.size w7 w9 := hS.trans (hb9.mono hS.size)
                    refine ⟨_, rfl, hS3, ?_⟩
                    refine MR.takeH (i := 7) (some 72) (.bool false) rfl rfl (by kernel_rfl) (by kernel_rfl) (by kernel_rfl) (fun _ _ _ h => h) hS3 (MR.free rfl) (fun wq hw => by simp [execOp, MR.ev, MR.size, hsz, e2, f2, e3, f3, e6, f6, go_sem]) ?_
                    refine MR.takeH (i := 8) (some 73) (.bool false) rfl rfl (by kernel_rfl) (by kernel_rfl) (by kernel_rfl) (fun _ _ _ h => h) hS3 (MR.free rfl) (fun wq hw => by simp [execOp, MR.ev, MR.size, hsz, e2, f2, e3, f3, e6, f6, go_sem]) ?_
                    refine MR.takeH (i := 9) (some 74) (.pointer (some ⟨w.heap.size + 1, 9, none⟩)) rfl rfl (by kernel_rfl) (by kernel_rfl) (by kernel_rfl) (fun _ _ _ h => h) hS3 (MR.want (d := 73) rfl rfl (by simp [MR.size, hsz]) (by simp [MR.ev, MR.size, hsz, e2, f2, e3, f3, e6, f6])) (fun wq hw => by simp [execOp, MR.ev, MR.size, hsz, e2, f2, e3, f3, e6, f6, go_sem]) ?_
                    refine MR.takeH (i := 10) (some 75) (.string b.py) rfl rfl (by kernel_rfl) (by kernel_rfl) (by kernel_rfl) (fun _ _ _ h => h) hS3 (MR.want (d := 73) rfl rfl (by simp [MR.size, hsz]) (by simp [MR.ev, MR.size, hsz, e2, f2, e3, f3, e6, f6])) (fun wq hw => by have cq : wq.cell? ⟨w.heap.size + 1, 9, none⟩ = some (.string b.py) := (hw.cell (p := ⟨w.heap.size + 1, 9, none⟩) hxl).trans q9; simp [execOp, MR.ev, MR.size, hsz, e2, f2, e3, f3, e6, f6, cq, go_sem]) ?_
                    refine MR.takeH (i := 11) (some 76) ((.pointer (some ⟨w.heap.size, 0, none⟩))) rfl rfl (by kernel_rfl) (by kernel_rfl) (by kernel_rfl) (fun _ _ _ h => h) hS3 (MR.want (d := 73) rfl rfl (by simp [MR.size, hsz]) (by simp [MR.ev, MR.size, hsz, e2, f2, e3, f3, e6, f6])) (fun wq hw => by simp [execOp, MR.ev, MR.size, hsz, e2, f2, e3, f3, e6, f6, go_sem]) ?_
                    refine MR.takeH (i := 12) (some 77) ((.slice (some ⟨g, 0, none⟩) xs.length cx)) rfl rfl (by kernel_rfl) (by kernel_rfl) (by kernel_rfl) (fun _ _ _ h => h) hS3 (MR.want (d := 73) rfl rfl (by simp [MR.size, hsz]) (by simp [MR.ev, MR.size, hsz, e2, f2, e3, f3, e6, f6])) (fun wq hw => by have cq : wq.cell? ⟨w.heap.size, 0, none⟩ = some (.slice (some ⟨g, 0, none⟩) xs.length cx) := (hw.cell (p := ⟨w.heap.size, 0, none⟩) hq0).trans c0; simp [execOp, MR.ev, MR.size, hsz, e2, f2, e3, f3, e6, f6, cq, go_sem]) ?_
                    refine MR.takeH (i := 13) (some 78) (.int .i64 (k : Int)) rfl rfl (by kernel_rfl) (by kernel_rfl) (by kernel_rfl) (fun _ _ _ h => h) hS3 (MR.want (d := 73) rfl rfl (by simp [MR.size, hsz]) (by simp [MR.ev, MR.size, hsz, e2, f2, e3, f3, e6, f6])) (fun wq hw => by simp [execOp, MR.ev, MR.size, hsz, e2, f2, e3, f3, e6, f6, go_sem]) ?_
                    refine MR.takeH (i := 14) (some 79) (.pointer (some ⟨g, k * 10, none⟩)) rfl rfl (by kernel_rfl) (by kernel_rfl) (by kernel_rfl) (fun _ _ _ h => h) hS3 (MR.want (d := 73) rfl rfl (by simp [MR.size, hsz]) (by simp [MR.ev, MR.size, hsz, e2, f2, e3, f3, e6, f6])) (fun wq hw => by simp [execOp, MR.ev, MR.size, hsz, e2, f2, e3, f3, e6, f6, hk0, hl, go_sem]) ?_
                    refine MR.takeH (i := 15) (some 80) (.pointer (some ⟨g, k * 10 + 9, none⟩)) rfl rfl (by kernel_rfl) (by kernel_rfl) (by kernel_rfl) (fun _ _ _ h => h) hS3 (MR.want (d := 73) rfl rfl (by simp [MR.size, hsz]) (by simp [MR.ev, MR.size, hsz, e2, f2, e3, f3, e6, f6])) (fun wq hw => by simp [execOp, MR.ev, MR.size, hsz, e2, f2, e3, f3, e6, f6, go_sem]) ?_
                    refine MR.takeH (i := 16) (some 81) (.string y.py) rfl rfl (by kernel_rfl) (by kernel_rfl) (by kernel_rfl) (fun _ _ _ h => h) hS3 (MR.want (d := 73) rfl rfl (by simp [MR.size, hsz]) (by simp [MR.ev, MR.size, hsz, e2, f2, e3, f3, e6, f6])) (fun wq hw => by have cq : wq.cell? ⟨g, k * 10 + 9, none⟩ = some (.string y.py) := (hw.cell (p := ⟨g, k * 10 + 9, none⟩) hgl).trans p9; simp [execOp, MR.ev, MR.size, hsz, e2, f2, e3, f3, e6, f6, cq, go_sem]) ?_
                    refine MR.takeH (i := 17) (some 82) (.bool true) rfl rfl (by kernel_rfl) (by kernel_rfl) (by kernel_rfl) (fun _ _ _ h => h) hS3 (MR.want (d := 73) rfl rfl (by simp [MR.size, hsz]) (by simp [MR.ev, MR.size, hsz, e2, f2, e3, f3, e6, f6])) (fun wq hw => by simp [execOp, MR.ev, MR.size, hsz, e2, f2, e3, f3, e6, f6, hpq, go_sem]) ?_
                    refine MR.takeH (i := 18) (some 83) (.bool true) rfl rfl (by kernel_rfl) (by kernel_rfl) (by kernel_rfl) (fun _ _ _ h => h) hS3 (MR.free rfl) (fun wq hw => by simp [execOp, MR.ev, MR.size, hsz, e2, f2, e3, f3, e6, f6, go_sem]) ?_
                    refine wpAnyH_done (by kernel_rfl) ?_ _
                    rw [HA.out]
                    replace HOD : Hid _ := HOD.out.kept hS3
                    clear hb9 hS3 HA hS hXr hYr c0 LS e2 e3 e6 f2 f3 f6 hsz hin2 hgl q9 p9
                    simp only [Act.put, List.setIfInBounds_toArray, List.set_cons_succ, List.set_cons_zero]
                    go_wp2_with (refine MA.store_m rfl 31 _ _ rfl rfl rfl (cs := [.slice none 0 0]) ?_ Try.sizePileAS rfl rfl (by simp [Value.oneCell']) ?_; exact HOD.out.sd.res)
                    exact bodyPost_ret (MA.ret_cell2 rfl rfl rfl (MA.load_rg (HOD.out.sd.res.put (vs := [.slice none 0 0]) rfl) Try.underlying31 rfl Try.sizePileAS rfl)) rfl ⟨none, 0, by rw [HANS.out]; rfl, by rw [HANS.out]; exact World.ownsRow_nil _ _ _ _, MA.below_cells (by omega) _ _ _ HOD.out.sd.below⟩
          · have HKE : Hid (k = xs.length) := by show _ = _; omega
            have HCUT : Hid (PD.cut xs b = k) := PD.cut_is hk HNO.out (fun h => absurd h hl)
            go_wp2
            refine MR.frame fun A hA => ?_
            have hsz : A.tmps.size = 98 := by rw [hA]; rfl
            have e2 : A.eval (.tmp 2) = .pointer (some ⟨w.heap.size, 0, none⟩) := by rw [hA]; rfl
            have f2 := MR.read (t := 2) (by rw [hsz]; decide) e2
            have e3 : A.eval (.tmp 3) = .pointer (some ⟨w.heap.size + 1, 0, none⟩) := by rw [hA]; rfl
            have f3 := MR.read (t := 3) (by rw [hsz]; decide) e3
            have e6 : A.eval (.tmp 6) = .int .i64 (k : Int) := by rw [hA]; rfl
            have f6 := MR.read (t := 6) (by rw [hsz]; decide) e6
            have HA : Hid (A = _) := hA
            clear hA
            have hS : (fun w' : World => Below wr.heap.size wr w') (World.drew _) := ((Below.refl _ wr).drew)
            refine wp_region_held (S := fun w' : World => Below wr.heap.size wr w') (by kernel_rfl) ?_
            change wpAnyH _ _ _ _ _ _ _ _ (World.drew _)
            refine MR.takeH (i := 0) (some 22) (.int .i64 (k : Int)) rfl rfl (by kernel_rfl) (by kernel_rfl) (by kernel_rfl) (fun _ _ _ h => h) hS (MR.free rfl) (fun wq hw => by simp [execOp, MR.ev, MR.size, hsz, e2, f2, e3, f3, e6, f6, go_sem]) ?_
            refine MR.takeH (i := 1) (some 23) ((.pointer (some ⟨w.heap.size, 0, none⟩))) rfl rfl (by kernel_rfl) (by kernel_rfl) (by kernel_rfl) (fun _ _ _ h => h) hS (MR.free rfl) (fun wq hw => by simp [execOp, MR.ev, MR.size, hsz, e2, f2, e3, f3, e6, f6, go_sem]) ?_
            refine MR.takeH (i := 2) (some 24) ((.slice (some ⟨g, 0, none⟩) xs.length cx)) rfl rfl (by kernel_rfl) (by kernel_rfl) (by kernel_rfl) (fun _ _ _ h => h) hS (MR.free rfl) (fun wq hw => by have cq : wq.cell? ⟨w.heap.size, 0, none⟩ = some (.slice (some ⟨g, 0, none⟩) xs.length cx) := (hw.cell (p := ⟨w.heap.size, 0, none⟩) hq0).trans c0; simp [execOp, MR.ev, MR.size, hsz, e2, f2, e3, f3, e6, f6, cq, go_sem]) ?_
            refine MR.takeH (i := 3) (some 25) (.int .i64 (xs.length : Int)) rfl rfl (by kernel_rfl) (by kernel_rfl) (by kernel_rfl) (fun _ _ _ h => h) hS (MR.free rfl) (fun wq hw => by simp [execOp, MR.ev, MR.size, hsz, e2, f2, e3, f3, e6, f6, go_sem]) ?_
            refine MR.takeH (i := 4) (some 26) (.bool false) rfl rfl (by kernel_rfl) (by kernel_rfl) (by kernel_rfl) (fun _ _ _ h => h) hS (MR.free rfl) (fun wq hw => by simp [execOp, MR.ev, MR.size, hsz, e2, f2, e3, f3, e6, f6, hl, go_sem]) ?_
            refine MR.takeH (i := 5) (some 27) (.bool false) rfl rfl (by kernel_rfl) (by kernel_rfl) (by kernel_rfl) (fun _ _ _ h => h) hS (MR.free rfl) (fun wq hw => by simp [execOp, MR.ev, MR.size, hsz, e2, f2, e3, f3, e6, f6, go_sem]) ?_
            refine MR.skipH (i := 6) (some 28) rfl rfl (by kernel_rfl) (by kernel_rfl) (by kernel_rfl) (fun _ _ _ h => h) hS (MR.unwant (d := 27) (b' := false) rfl rfl (by simp [MR.size, hsz]) (by simp [MR.ev, MR.size, hsz, e2, f2, e3, f3, e6, f6]) (by decide)) ?_
            refine MR.skipH (i := 7) (some 29) rfl rfl (by kernel_rfl) (by kernel_rfl) (by kernel_rfl) (fun _ _ _ h => h) hS (MR.unwant (d := 27) (b' := false) rfl rfl (by simp [MR.size, hsz]) (by simp [MR.ev, MR.size, hsz, e2, f2, e3, f3, e6, f6]) (by decide)) ?_
            refine MR.skipH (i := 8) (some 30) rfl rfl (by kernel_rfl) (by kernel_rfl) (by kernel_rfl) (fun _ _ _ h => h) hS (MR.unwant (d := 27) (b' := false) rfl rfl (by simp [MR.size, hsz]) (by simp [MR.ev, MR.size, hsz, e2, f2, e3, f3, e6, f6]) (by decide)) ?_
            refine MR.skipH (i := 9) (some 31) rfl rfl (by kernel_rfl) (by kernel_rfl) (by kernel_rfl) (fun _ _ _ h => h) hS (MR.unwant (d := 27) (b' := false) rfl rfl (by simp [MR.size, hsz]) (by simp [MR.ev, MR.size, hsz, e2, f2, e3, f3, e6, f6]) (by decide)) ?_
            refine MR.skipH (i := 10) (some 32) rfl rfl (by kernel_rfl) (by kernel_rfl) (by kernel_rfl) (fun _ _ _ h => h) hS (MR.unwant (d := 27) (b' := false) rfl rfl (by simp [MR.size, hsz]) (by simp [MR.ev, MR.size, hsz, e2, f2, e3, f3, e6, f6]) (by decide)) ?_
            refine MR.skipH (i := 11) (some 33) rfl rfl (by kernel_rfl) (by kernel_rfl) (by kernel_rfl) (fun _ _ _ h => h) hS (MR.unwant (d := 27) (b' := false) rfl rfl (by simp [MR.size, hsz]) (by simp [MR.ev, MR.size, hsz, e2, f2, e3, f3, e6, f6]) (by decide)) ?_
            refine MR.skipH (i := 12) (some 34) rfl rfl (by kernel_rfl) (by kernel_rfl) (by kernel_rfl) (fun _ _ _ h => h) hS (MR.unwant (d := 27) (b' := false) rfl rfl (by simp [MR.size, hsz]) (by simp [MR.ev, MR.size, hsz, e2, f2, e3, f3, e6, f6]) (by decide)) ?_
            refine MR.takeH (i := 13) (some 35) (.bool false) rfl rfl (by kernel_rfl) (by kernel_rfl) (by kernel_rfl) (fun _ _ _ h => h) hS (MR.free rfl) (fun wq hw => by simp [execOp, MR.ev, MR.size, hsz, e2, f2, e3, f3, e6, f6, go_sem]) ?_
            refine wpAnyH_done (by kernel_rfl) ?_ _
            rw [HA.out]
            have hP := HW.out.kept hS
            have HP : Hid _ := hP
            clear hP HA hS hXr c0 e2 e3 e6 f2 f3 f6 hsz HW hin2 HNO
            generalize World.drew wr = w4 at *
            simp only [Act.put, List.setIfInBounds_toArray, List.set_cons_succ, List.set_cons_zero]
            have OWN0 : Hid ((w4.alloc (.cells #[] 24)).ownsRow (w.heap.size + 1 + 1 + 1) 24 10 (.slice (some ⟨w4.heap.size, 0, none⟩) 0 0) ([] : List Bd).length (MP.flat [])) := by
              show World.ownsRow _ _ _ _ _ _ _
              have := World.ownsRow_lit (base := w.heap.size + 1 + 1 + 1) (e := 24) (size := 10) w4 #[] 0 HP.out.res.lt (by unfold maxLen; omega) (by simp)
              simpa [MP.flat] using this
            have HBA : Hid (Below w4.heap.size w4 (w4.alloc (.cells #[] 24))) := (Below.refl _ w4).alloc (Nat.le_refl _) _
            have HRW : Hid (MP.BsAt (w4.alloc (.cells #[] 24)) (some ⟨g, 0, none⟩) xs) := MP.BsAt.below (MP.BsAt.below HI.out HP.out.below) HBA.out
            have N1 : Hid (∀ j u, (MP.flat (xs.take k))[j]? = some u → (w4.alloc (.cells #[] 24)).cell? ((⟨g, 0, none⟩ : Addr).add j) = some u) := fun j u hj => by
              have := PC.row_cells HRW.out (k := 0) (m := k) (by omega) j u (by simpa using hj)
              simpa using this
            have hs4 := HP.out.below.size
            have c0 := HP.out.arg
            have l0 : w.heap.size < w4.heap.size := by have := HP.out.bx.lt; omega
            have HTK : Hid ((MP.flat (xs.take k)).length = k * 10) := by show _ = _; rw [MP.flat_len, List.length_take]; congr 1; omega
            go_wp2_with (at_builtin; go_loud (refine wpList_append_own _ rfl _ _ 27 rfl (w.heap.size + 1 + 1 + 1) 24 i0 (.agg (Bd.cs B1.zero).toArray) 10 88 Try.underlying27 hi hz0 hz1 hz2 rfl (by decide) _ _ _ rfl OWN0.out ⟨g, 0, none⟩ k cx (MP.flat (xs.take k)) rfl ?b0 ?b1 ?b2 ?b3 ?b4 ?b5 ?_))
            case b0 => exact HTK.out
            case b1 => exact N1.out
            case b2 => exact PC.flat_one _
            case b3 => unfold maxLen; simp; omega
            case b4 => simp; omega
            case b5 => have := HP.out.res.lt; simp; omega
            intro v1 w5 hown5 hgrow5 _
            have O5 : w5.ownsRow (w.heap.size + 1 + 1 + 1) 24 10 v1 (xs.take k).length (MP.flat (xs.take k)) := by
              have e : (xs.take k).length = ([] : List Bd).length + k := by simp; omega
              rw [e]; simpa [MP.flat] using hown5
            have B45 : Below w4.heap.size w4 w5 := HBA.out.grown hgrow5 (by simp) (fun j hj => by simp [Value.ownBlock] at hj; omega)
            have HP5 : Hid _ := HP.out.kept B45
            generalize htk : xs.take k = tk at *
            have HTE : Hid _ := htk
            have htl1 : tk.length ≤ 60 := by rw [← htk, List.length_take]; omega
            have HTL : Hid (tk.length = k) := by show _ = _; rw [← htk, List.length_take]; omega
            obtain ⟨va, vc, rfl, _⟩ := CB.view O5
            have HOD : Hid _ := OdIn.start HP5.out O5
            have HO5 : Hid _ := O5
            clear hown5 hgrow5 O5 B45 OWN0 HBA HRW N1 HTK c0 l0 hs4 HP htk HO5 HP5
            go_wp2_with fail
            generalize (w5.alloc (.cells #[.slice va tk.length vc] 31)) = w6 at *
            generalize w5.heap.size = ob at *
            have c0 := HOD.out.sd.arg
            have hxl := HOD.out.sd.bx.lt
            have hXr : w6.rangeAt (w.heap.size + 1) 0 b.cs := HOD.out.sd.bx.rng
            have hq0 : w.heap.size < w6.heap.size := by omega
            have hin2 : MP.BsAt w6 (some ⟨g, 0, none⟩) xs := MP.BsAt.below HI.out HOD.out.sd.below
            skip
            have HPUT : Hid (PD.cut xs b = xs.length ∨ PL.ahead b (MP.at_ xs (PD.cut xs b)) = true) := .inl (HCUT.out.trans HKE.out)
            have HQ : True ∧ True := ⟨trivial, trivial⟩
            cases HQ with
            | intro _ _ =>
              refine MR.frame fun A hA => ?_
              have hsz : A.tmps.size = 98 := by rw [hA]; rfl
              have e2 : A.eval (.tmp 2) = .pointer (some ⟨w.heap.size, 0, none⟩) := by rw [hA]; rfl
              have f2 := MR.read (t := 2) (by rw [hsz]; decide) e2
              have e3 : A.eval (.tmp 3) = .pointer (some ⟨w.heap.size + 1, 0, none⟩) := by rw [hA]; rfl
              have f3 := MR.read (t := 3) (by rw [hsz]; decide) e3
              have e6 : A.eval (.tmp 6) = .int .i64 (k : Int) := by rw [hA]; rfl
              have f6 := MR.read (t := 6) (by rw [hsz]; decide) e6
              have HA : Hid (A = _) := hA
              clear hA
              have hS : (fun w' : World => Below w6.heap.size w6 w') (World.drew _) := ((Below.refl _ w6).drew)
              refine wp_region_held (S := fun w' : World => Below w6.heap.size w6 w') (by kernel_rfl) ?_
              change wpAnyH _ _ _ _ _ _ _ _ (World.drew _)
              refine MR.takeH (i := 0) (some 45) (.int .i64 (k : Int)) rfl rfl (by kernel_rfl) (by kernel_rfl) (by kernel_rfl) (fun _ _ _ h => h) hS (MR.free rfl) (fun wq hw => by simp [execOp, MR.ev, MR.size, hsz, e2, f2, e3, f3, e6, f6, go_sem]) ?_
              refine MR.takeH (i := 1) (some 46) ((.pointer (some ⟨w.heap.size, 0, none⟩))) rfl rfl (by kernel_rfl) (by kernel_rfl) (by kernel_rfl) (fun _ _ _ h => h) hS (MR.free rfl) (fun wq hw => by simp [execOp, MR.ev, MR.size, hsz, e2, f2, e3, f3, e6, f6, go_sem]) ?_
              refine MR.takeH (i := 2) (some 47) ((.slice (some ⟨g, 0, none⟩) xs.length cx)) rfl rfl (by kernel_rfl) (by kernel_rfl) (by kernel_rfl) (fun _ _ _ h => h) hS (MR.free rfl) (fun wq hw => by have cq : wq.cell? ⟨w.heap.size, 0, none⟩ = some (.slice (some ⟨g, 0, none⟩) xs.length cx) := (hw.cell (p := ⟨w.heap.size, 0, none⟩) hq0).trans c0; simp [execOp, MR.ev, MR.size, hsz, e2, f2, e3, f3, e6, f6, cq, go_sem]) ?_
              refine MR.takeH (i := 3) (some 48) (.int .i64 (xs.length : Int)) rfl rfl (by kernel_rfl) (by kernel_rfl) (by kernel_rfl) (fun _ _ _ h => h) hS (MR.free rfl) (fun wq hw => by simp [execOp, MR.ev, MR.size, hsz, e2, f2, e3, f3, e6, f6, go_sem]) ?_
              refine MR.takeH (i := 4) (some 49) (.bool true) rfl rfl (by kernel_rfl) (by kernel_rfl) (by kernel_rfl) (fun _ _ _ h => h) hS (MR.free rfl) (fun wq hw => by simp [execOp, MR.ev, MR.size, hsz, e2, f2, e3, f3, e6, f6, HKE.out, go_sem]) ?_
              refine MR.takeH (i := 5) (some 50) (.bool true) rfl rfl (by kernel_rfl) (by kernel_rfl) (by kernel_rfl) (fun _ _ _ h => h) hS (MR.free rfl) (fun wq hw => by simp [execOp, MR.ev, MR.size, hsz, e2, f2, e3, f3, e6, f6, go_sem]) ?_
              refine MR.skipH (i := 6) (some 51) rfl rfl (by kernel_rfl) (by kernel_rfl) (by kernel_rfl) (fun _ _ _ h => h) hS (MR.unwant (d := 50) (b' := true) rfl rfl (by simp [MR.size, hsz]) (by simp [MR.ev, MR.size, hsz, e2, f2, e3, f3, e6, f6]) (by decide)) ?_
              refine MR.skipH (i := 7) (some 52) rfl rfl (by kernel_rfl) (by kernel_rfl) (by kernel_rfl) (fun _ _ _ h => h) hS (MR.unwant (d := 50) (b' := true) rfl rfl (by simp [MR.size, hsz]) (by simp [MR.ev, MR.size, hsz, e2, f2, e3, f3, e6, f6]) (by decide)) ?_
              refine MR.skipH (i := 8) (some 53) rfl rfl (by kernel_rfl) (by kernel_rfl) (by kernel_rfl) (fun _ _ _ h => h) hS (MR.unwant (d := 50) (b' := true) rfl rfl (by simp [MR.size, hsz]) (by simp [MR.ev, MR.size, hsz, e2, f2, e3, f3, e6, f6]) (by decide)) ?_
              refine MR.skipH (i := 9) (some 54) rfl rfl (by kernel_rfl) (by kernel_rfl) (by kernel_rfl) (fun _ _ _ h => h) hS (MR.unwant (d := 50) (b' := true) rfl rfl (by simp [MR.size, hsz]) (by simp [MR.ev, MR.size, hsz, e2, f2, e3, f3, e6, f6]) (by decide)) ?_
              refine MR.skipH (i := 10) (some 55) rfl rfl (by kernel_rfl) (by kernel_rfl) (by kernel_rfl) (fun _ _ _ h => h) hS (MR.unwant (d := 50) (b' := true) rfl rfl (by simp [MR.size, hsz]) (by simp [MR.ev, MR.size, hsz, e2, f2, e3, f3, e6, f6]) (by decide)) ?_
              refine MR.skipH (i := 11) (some 56) rfl rfl (by kernel_rfl) (by kernel_rfl) (by kernel_rfl) (fun _ _ _ h => h) hS (MR.unwant (d := 50) (b' := true) rfl rfl (by simp [MR.size, hsz]) (by simp [MR.ev, MR.size, hsz, e2, f2, e3, f3, e6, f6]) (by decide)) ?_
              refine MR.skipH (i := 12) (some 57) rfl rfl (by kernel_rfl) (by kernel_rfl) (by kernel_rfl) (fun _ _ _ h => h) hS (MR.unwant (d := 50) (b' := true) rfl rfl (by simp [MR.size, hsz]) (by simp [MR.ev, MR.size, hsz, e2, f2, e3, f3, e6, f6]) (by decide)) ?_
              refine MR.takeH (i := 13) (some 58) (.bool true) rfl rfl (by kernel_rfl) (by kernel_rfl) (by kernel_rfl) (fun _ _ _ h => h) hS (MR.free rfl) (fun wq hw => by simp [execOp, MR.ev, MR.size, hsz, e2, f2, e3, f3, e6, f6, go_sem]) ?_
              refine wpAnyH_done (by kernel_rfl) ?_ _
              rw [HA.out]
              replace HOD : Hid _ := HOD.out.kept hS
              clear HA hS hXr c0 e2 e3 e6 f2 f3 f6 hsz hin2
              generalize World.drew w6 = w7 at *
              simp only [Act.put, List.setIfInBounds_toArray, List.set_cons_succ, List.set_cons_zero]
              have o0 := CB.c_of HOD.out.ob (j := 0) (v := .slice va tk.length vc) rfl
              have z0 := CB.f_of HOD.out.ob (j := 0) (by simp)
              have ol := HOD.out.ob.lt
              have hs7 := HOD.out.sd.res.lt
              obtain ⟨q00, q0, q1, q2, q3, q4, q5, q6, q7, q8, q9⟩ := HOD.out.sd.bx.bd
              go_wp2_with (first
                | (refine CB.bslice_m rfl 27 _ rfl rfl 24 (Try.bsliceA b) ?_)
                | (at_builtin; go_loud (refine wpList_append_own_at _ rfl _ _ 27 rfl (w.heap.size + 1 + 1 + 1) 24 i0 (.agg (Bd.cs B1.zero).toArray) 10 88 Try.underlying27 hi hz0 hz1 hz2 rfl (by decide) _ _ _ rfl (HOD.out.ow.alloc _) ⟨w7.heap.size, 0, none⟩ 1 1 b.cs rfl rfl (CB.newN _ _ _) (MA.cs_one _) ?n3 ?n4 ?n5 ?_)))
              case n3 => unfold maxLen; omega
              case n4 => omega
              case n5 => simp; omega
              intro v8 w8 hown8 hgrow8 _ hloc8
              have O8 : w8.ownsRow (w.heap.size + 1 + 1 + 1) 24 10 v8 (tk ++ [b]).length (MP.flat (tk ++ [b])) := by
                have := hown8
                simpa [MP.flat] using this
              have HOD8 := HOD.out.app ((Below.refl _ w7).alloc (Nat.le_refl _) _) O8 hgrow8 hloc8 (by omega)
              have hz8 : (tk ++ [b]).length ≤ 61 := by simp; omega
              obtain ⟨va8, vc8, rfl, _⟩ := CB.view O8
              have HTE8 : Hid (xs.take k ++ [b] = tk ++ [b]) := by show _ = _; rw [HTE.out]
              have HOD8' : Hid _ := HOD8
              have o8 := (rg_grown (HOD.out.ob.below ((Below.refl _ w7).alloc (Nat.le_refl _) (.cells b.cs.toArray 24)) HOD.out.ob.lt) hgrow8 (fun e => HOD.out.ne e.symm)).cell (j := 0) (v := .slice va tk.length vc) rfl
              have z8 := (rg_grown (HOD.out.ob.below ((Below.refl _ w7).alloc (Nat.le_refl _) (.cells b.cs.toArray 24)) HOD.out.ob.lt) hgrow8 (fun e => HOD.out.ne e.symm)).free (j := 0) (by simp)
              have l8 : ob < w8.heap.size := by have := hgrow8.size; simp at this; omega
              rw [Nat.zero_add] at o8 z8
              generalize tk ++ [b] = zs at *
              clear hown8 hgrow8 hloc8 O8 HOD8 HOD q00 q0 q1 q2 q3 q4 q5 q6 q7 q8 q9 o0 z0 ol hs7
              go_wp2_with fail
              obtain ⟨ad, hcut⟩ : ∃ ad : Addr, ∀ W : World, (Instr.sliceAt 27 (.slice (some ⟨g, 0, none⟩) xs.length cx) (some (.int .i64 (k : Int))) none none).run Try.prog W = .ok (.slice (some ad) (xs.length - k) (cx - k)) W := by
                have h1 : xs.length = k := by omega
                have h3 : (0 : Int) ≤ (k : Int) := by omega
                have h4 : k ≤ cx := by omega
                by_cases h5 : cx = k
                · exact ⟨⟨g, 0, none⟩, fun W => by rw [h1]; go_simp⟩
                · exact ⟨⟨g, k * 10, none⟩, fun W => by rw [h1]; go_simp⟩
              generalize (w8.setCell ⟨ob, 0, none⟩ (.slice va8 zs.length vc8)) = w9 at *
              have c9 := HOD8'.out.sd.arg
              have o9 := CB.c_of HOD8'.out.ob (j := 0) (v := (.slice va8 zs.length vc8)) rfl
              have z9 := CB.f_of HOD8'.out.ob (j := 0) (by simp)
              have l9 := HOD8'.out.ob.lt
              have h9 : w.heap.size < w9.heap.size := by have := HOD8'.out.sd.bx.lt; omega
              have r9 := HOD8'.out.sd.res.lt
              have hin9 : MP.BsAt w9 (some ⟨g, 0, none⟩) xs := MP.BsAt.below HI.out HOD8'.out.sd.below
              have hdl : (xs.drop k).length = xs.length - k := List.length_drop
              have N9 : ∀ j u, (MP.flat (xs.drop k))[j]? = some u → w9.drew.cell? ((ad : Addr).add j) = some u := fun j u hj => by
                rw [List.drop_of_length_le (by omega)] at hj; simp [MP.flat] at hj
              obtain ⟨v12, w12, hrun, hown12, hgrow12, _, hloc12⟩ := run_append_own_at (P := Try.prog) w9.drew (w.heap.size + 1 + 1 + 1) 27 27 24 i0 (.agg (Bd.cs B1.zero).toArray) 10 88 Try.underlying27 hi hz0 hz1 hz2 rfl (by decide) (.slice va8 zs.length vc8) zs.length (MP.flat zs) (MP.own_below HOD8'.out.ow ((Below.refl _ w9).drew)) ad (xs.length - k) (cx - k) (MP.flat (xs.drop k)) (by rw [MP.flat_len, hdl]) N9 (PC.flat_one _) (by unfold maxLen; omega) (by omega) (by show _ ≤ w9.heap.size; omega)
              have O12 : w12.ownsRow (w.heap.size + 1 + 1 + 1) 24 10 v12 (zs ++ xs.drop k).length (MP.flat (zs ++ xs.drop k)) := by
                rw [List.length_append, hdl, MP.flat_app]; exact hown12
              have hyl12 : (zs ++ xs.drop k).length ≤ 1000 := by rw [List.length_append, hdl]; omega
              generalize hys : zs ++ xs.drop k = ys at *
              have HYS : Hid _ := hys
              clear hys
              obtain ⟨va12, vc12, rfl, _⟩ := CB.view O12
              have HOD12 : Hid _ := HOD8'.out.app ((Below.refl _ w9).drew) O12 hgrow12 hloc12 (Nat.le_refl _)
              have rg12 := rg_grown (HOD8'.out.ob.below ((Below.refl _ w9).drew) HOD8'.out.ob.lt) hgrow12 (fun e => HOD8'.out.ne e.symm)
              have o12 := CB.c_of rg12 (j := 0) (v := (.slice va8 zs.length vc8)) rfl
              have z12 := CB.f_of rg12 (j := 0) (by simp)
              have l12 := rg12.lt
              refine MR.frame fun A hA => ?_
              have hsz : A.tmps.size = 98 := by rw [hA]; rfl
              have e2 : A.eval (.tmp 2) = .pointer (some ⟨w.heap.size, 0, none⟩) := by rw [hA]; rfl
              have f2 := MR.read (t := 2) (by rw [hsz]; decide) e2
              have e6 : A.eval (.tmp 6) = .int .i64 (k : Int) := by rw [hA]; rfl
              have f6 := MR.read (t := 6) (by rw [hsz]; decide) e6
              have e7 : A.eval (.tmp 7) = .pointer (some ⟨ob, 0, none⟩) := by rw [hA]; rfl
              have f7 := MR.read (t := 7) (by rw [hsz]; decide) e7
              have HA : Hid (A = _) := hA
              clear hA
              refine wp_region_held (S := fun _ : World => True) (by kernel_rfl) ?_
              change wpAnyH _ _ _ _ _ _ _ _ (World.drew _)
              refine MR.takeH (i := 0) (some 85) (.pointer (some ⟨ob, 0, none⟩)) rfl rfl (by kernel_rfl) (by kernel_rfl) (by kernel_rfl) (fun _ _ _ h => h) trivial (MR.free rfl) (fun wq hw => by simp [execOp, MR.ev, MR.size, hsz, e2, f2, e6, f6, e7, f7, go_sem]) ?_
              refine MR.takeH (i := 2) (some 87) (.pointer (some ⟨w.heap.size, 0, none⟩)) rfl rfl (by kernel_rfl) (by kernel_rfl) (by kernel_rfl) (fun _ _ _ h => h) trivial (MR.free rfl) (fun wq hw => by simp [execOp, MR.ev, MR.size, hsz, e2, f2, e6, f6, e7, f7, go_sem]) ?_
              refine MR.takeH (i := 4) (some 89) (.int .i64 (k : Int)) rfl rfl (by kernel_rfl) (by kernel_rfl) (by kernel_rfl) (fun _ _ _ h => h) trivial (MR.free rfl) (fun wq hw => by simp [execOp, MR.ev, MR.size, hsz, e2, f2, e6, f6, e7, f7, go_sem]) ?_
              refine MR.two (i := 1) (j := 3) (by kernel_rfl) ?_ ?_
              · refine MR.nowW (w' := World.drew w9) (some 86) ((.slice va8 zs.length vc8)) rfl rfl (MR.free rfl) (by simp [execOp, MR.ev, MR.size, hsz, e2, f2, e6, f6, e7, f7, o9, l9, go_sem]) ⟨trivial, ?_⟩
                refine MR.nowH (w' := World.drew w9) (i := 3) (some 88) ((.slice (some ⟨g, 0, none⟩) xs.length cx)) (by kernel_rfl) rfl rfl (MR.free rfl) (by simp [execOp, MR.ev, MR.size, hsz, e2, f2, e6, f6, e7, f7, c9, h9, go_sem]) ⟨trivial, ?_⟩
                refine MR.nowH (w' := World.drew w9) (i := 5) (some 90) ((.slice (some ad) (xs.length - k) (cx - k))) (by kernel_rfl) rfl rfl (MR.free rfl) (by simp [execOp, MR.ev, MR.size, hsz, e2, f2, e6, f6, e7, f7, hcut, go_sem]) ⟨trivial, ?_⟩
                refine MR.nowH (w' := w12) (i := 6) (some 91) (.slice va12 ys.length vc12) (by kernel_rfl) rfl rfl (MR.free rfl) (app_run rfl (by simp [MR.ev, MR.size, hsz, e2, f2, e6, f6, e7, f7]) (by simp [MR.ev, MR.size, hsz, e2, f2, e6, f6, e7, f7]) hrun) ⟨trivial, ?_⟩
                refine MR.takeH (i := 7) (some 92) (.pointer (some ⟨ob, 0, none⟩)) rfl rfl (by kernel_rfl) (by kernel_rfl) (by kernel_rfl) (fun _ _ _ h => h) trivial (MR.free rfl) (fun wq hw => by simp [execOp, MR.ev, MR.size, hsz, e2, f2, e6, f6, e7, f7, go_sem]) ?_
                refine MR.storeH (w' := w12.setCell ⟨ob, 0, none⟩ (.slice va12 ys.length vc12)) (i := 8) (by kernel_rfl) rfl (MR.free rfl) (by simp [execOp, MR.ev, MR.size, hsz, e2, f2, e6, f6, e7, f7, o12, z12, l12, go_sem]) ⟨trivial, ?_⟩
                refine wpAnyH_done (by kernel_rfl) ?_ _
                rw [HA.out]
                simp only [Act.put, List.setIfInBounds_toArray, List.set_cons_succ, List.set_cons_zero, List.getElem_toArray, List.getElem_cons_succ, List.getElem_cons_zero]
                go_wp2_with fail
                generalize w12.setCell ⟨ob, 0, none⟩ (.slice va12 ys.length vc12) = w13 at *
                have hysq : ys = PD.put xs b k := by rw [← HYS.out, ← HTE8.out]; simp [PD.put]
                have HYT : Hid (∀ k, k < ys.length → (MP.at_ ys k).py.size ≤ 1048576) := by
                  have := put_small ht hs
                  rw [HCUT.out, ← hysq] at this
                  exact this
                have HANG : Hid (PL.good ys = true → PD.ansS xs b = (ys, true)) := fun h => by
                  unfold PD.ansS
                  rw [if_neg (by simp [HGD.out, HPG.out]), if_pos HPUT.out, HCUT.out, ← hysq, if_pos h]
                have HANB : Hid (PL.good ys = false → PD.ansS xs b = ([], false)) := fun h => by
                  unfold PD.ansS
                  rw [if_neg (by simp [HGD.out, HPG.out]), if_pos HPUT.out, HCUT.out, ← hysq, if_neg (by simp [h])]
                obtain ⟨hrow, hcap⟩ := HOD12.out.row
                have GP13 : Hid _ := specGoodPile_any va12 vc12 ys w13 (by omega) HYT hrow hcap
                have HOR : Hid _ := HOD12.out.ob.rng
                have hsr := HOD12.out.sd.res.lt
                clear hrow hysq HYS HTE8 HPUT HCUT HGD HPG HYT rg12 o12 z12 l12 hcut hrun hown12 hgrow12 hloc12 O12 N9 HOD8' hin9 o9 z9 c9 l9 h9 r9 HA e2 e6 e7 f2 f6 f7 hsz
                go_wp2_with (refine MA.load_g rfl 31 _ rfl rfl (cs := [.slice va12 ys.length vc12]) ?_ Try.underlying31 rfl Try.sizePileAS rfl ?_; exact HOR.out)
                refine Calls.mono GP13.out ?_
                rintro e w14 ⟨rfl, hb14⟩
                replace HOD12 : Hid _ := HOD12.out.kept hb14
                clear GP13 HOR hb14
                cases hgy : PL.good ys with
                | false =>
                  have HANS : Hid _ := HANB.out hgy
                  clear hgy HANB HANG
                  go_wp2_with (refine MA.store_m rfl 31 _ _ rfl rfl rfl (cs := [.slice none 0 0]) ?_ Try.sizePileAS rfl rfl (by simp [Value.oneCell']) ?_; exact HOD12.out.sd.res)
                  exact bodyPost_ret (MA.ret_cell2 rfl rfl rfl (MA.load_rg (HOD12.out.sd.res.put (vs := [.slice none 0 0]) rfl) Try.underlying31 rfl Try.sizePileAS rfl)) rfl ⟨none, 0, by rw [HANS.out]; rfl, by rw [HANS.out]; exact World.ownsRow_nil _ _ _ _, MA.below_cells (by omega) _ _ _ HOD12.out.sd.below⟩
                | true =>
                  have HANS : Hid _ := HANG.out hgy
                  have HOR : Hid _ := HOD12.out.ob.rng
                  clear hgy HANB HANG
                  go_wp2_with (first
                    | (refine MA.load_g rfl 31 _ rfl rfl (cs := [.slice va12 ys.length vc12]) ?_ Try.underlying31 rfl Try.sizePileAS rfl ?_; exact HOR.out)
                    | (refine MA.store_m rfl 31 _ _ rfl rfl rfl (cs := [.slice none 0 0]) ?_ Try.sizePileAS rfl rfl (by simp [Value.oneCell']) ?_; exact HOD12.out.sd.res))
                  exact bodyPost_ret (MA.ret_cell2 rfl rfl rfl (MA.load_rg (HOD12.out.sd.res.put (vs := [.slice va12 ys.length vc12]) rfl) Try.underlying31 rfl Try.sizePileAS rfl)) rfl ⟨va12, vc12, by rw [HANS.out]; rfl, by rw [HANS.out]; exact HOD12.out.ret, MA.below_cells (by omega) _ _ _ HOD12.out.sd.below⟩
              · refine MR.nowW (w' := World.drew w9) (some 88) ((.slice (some ⟨g, 0, none⟩) xs.length cx)) rfl rfl (MR.free rfl) (by simp [execOp, MR.ev, MR.size, hsz, e2, f2, e6, f6, e7, f7, c9, h9, go_sem]) ⟨trivial, ?_⟩
                refine MR.takeH (i := 5) (some 90) ((.slice (some ad) (xs.length - k) (cx - k))) rfl rfl (by kernel_rfl) (by kernel_rfl) (by kernel_rfl) (fun _ _ _ h => h) trivial (MR.free rfl) (fun wq hw => by simp [execOp, MR.ev, MR.size, hsz, e2, f2, e6, f6, e7, f7, hcut, go_sem]) ?_
                refine MR.nowH (w' := World.drew w9) (i := 1) (some 86) ((.slice va8 zs.length vc8)) (by kernel_rfl) rfl rfl (MR.free rfl) (by simp [execOp, MR.ev, MR.size, hsz, e2, f2, e6, f6, e7, f7, o9, l9, go_sem]) ⟨trivial, ?_⟩
                refine MR.nowH (w' := w12) (i := 6) (some 91) (.slice va12 ys.length vc12) (by kernel_rfl) rfl rfl (MR.free rfl) (app_run rfl (by simp [MR.ev, MR.size, hsz, e2, f2, e6, f6, e7, f7]) (by simp [MR.ev, MR.size, hsz, e2, f2, e6, f6, e7, f7]) hrun) ⟨trivial, ?_⟩
                refine MR.takeH (i := 7) (some 92) (.pointer (some ⟨ob, 0, none⟩)) rfl rfl (by kernel_rfl) (by kernel_rfl) (by kernel_rfl) (fun _ _ _ h => h) trivial (MR.free rfl) (fun wq hw => by simp [execOp, MR.ev, MR.size, hsz, e2, f2, e6, f6, e7, f7, go_sem]) ?_
                refine MR.storeH (w' := w12.setCell ⟨ob, 0, none⟩ (.slice va12 ys.length vc12)) (i := 8) (by kernel_rfl) rfl (MR.free rfl) (by simp [execOp, MR.ev, MR.size, hsz, e2, f2, e6, f6, e7, f7, o12, z12, l12, go_sem]) ⟨trivial, ?_⟩
                refine wpAnyH_done (by kernel_rfl) ?_ _
                rw [HA.out]
                simp only [Act.put, List.setIfInBounds_toArray, List.set_cons_succ, List.set_cons_zero, List.getElem_toArray, List.getElem_cons_succ, List.getElem_cons_zero]
                go_wp2_with fail
                generalize w12.setCell ⟨ob, 0, none⟩ (.slice va12 ys.length vc12) = w13 at *
                have hysq : ys = PD.put xs b k := by rw [← HYS.out, ← HTE8.out]; simp [PD.put]
                have HYT : Hid (∀ k, k < ys.length → (MP.at_ ys k).py.size ≤ 1048576) := by
                  have := put_small ht hs
                  rw [HCUT.out, ← hysq] at this
                  exact this
                have HANG : Hid (PL.good ys = true → PD.ansS xs b = (ys, true)) := fun h => by
                  unfold PD.ansS
                  rw [if_neg (by simp [HGD.out, HPG.out]), if_pos HPUT.out, HCUT.out, ← hysq, if_pos h]
                have HANB : Hid (PL.good ys = false → PD.ansS xs b = ([], false)) := fun h => by
                  unfold PD.ansS
                  rw [if_neg (by simp [HGD.out, HPG.out]), if_pos HPUT.out, HCUT.out, ← hysq, if_neg (by simp [h])]
                obtain ⟨hrow, hcap⟩ := HOD12.out.row
                have GP13 : Hid _ := specGoodPile_any va12 vc12 ys w13 (by omega) HYT hrow hcap
                have HOR : Hid _ := HOD12.out.ob.rng
                have hsr := HOD12.out.sd.res.lt
                clear hrow hysq HYS HTE8 HPUT HCUT HGD HPG HYT rg12 o12 z12 l12 hcut hrun hown12 hgrow12 hloc12 O12 N9 HOD8' hin9 o9 z9 c9 l9 h9 r9 HA e2 e6 e7 f2 f6 f7 hsz
                go_wp2_with (refine MA.load_g rfl 31 _ rfl rfl (cs := [.slice va12 ys.length vc12]) ?_ Try.underlying31 rfl Try.sizePileAS rfl ?_; exact HOR.out)
                refine Calls.mono GP13.out ?_
                rintro e w14 ⟨rfl, hb14⟩
                replace HOD12 : Hid _ := HOD12.out.kept hb14
                clear GP13 HOR hb14
                cases hgy : PL.good ys with
                | false =>
                  have HANS : Hid _ := HANB.out hgy
                  clear hgy HANB HANG
                  go_wp2_with (refine MA.store_m rfl 31 _ _ rfl rfl rfl (cs := [.slice none 0 0]) ?_ Try.sizePileAS rfl rfl (by simp [Value.oneCell']) ?_; exact HOD12.out.sd.res)
                  exact bodyPost_ret (MA.ret_cell2 rfl rfl rfl (MA.load_rg (HOD12.out.sd.res.put (vs := [.slice none 0 0]) rfl) Try.underlying31 rfl Try.sizePileAS rfl)) rfl ⟨none, 0, by rw [HANS.out]; rfl, by rw [HANS.out]; exact World.ownsRow_nil _ _ _ _, MA.below_cells (by omega) _ _ _ HOD12.out.sd.below⟩
                | true =>
                  have HANS : Hid _ := HANG.out hgy
                  have HOR : Hid _ := HOD12.out.ob.rng
                  clear hgy HANB HANG
                  go_wp2_with (first
                    | (refine MA.load_g rfl 31 _ rfl rfl (cs := [.slice va12 ys.length vc12]) ?_ Try.underlying31 rfl Try.sizePileAS rfl ?_; exact HOR.out)
                    | (refine MA.store_m rfl 31 _ _ rfl rfl rfl (cs := [.slice none 0 0]) ?_ Try.sizePileAS rfl rfl (by simp [Value.oneCell']) ?_; exact HOD12.out.sd.res))
                  exact bodyPost_ret (MA.ret_cell2 rfl rfl rfl (MA.load_rg (HOD12.out.sd.res.put (vs := [.slice va12 ys.length vc12]) rfl) Try.underlying31 rfl Try.sizePileAS rfl)) rfl ⟨va12, vc12, by rw [HANS.out]; rfl, by rw [HANS.out]; exact HOD12.out.ret, MA.below_cells (by omega) _ _ _ HOD12.out.sd.below⟩
end Go.Proofs.Ytdgflhgbcfehhaa
