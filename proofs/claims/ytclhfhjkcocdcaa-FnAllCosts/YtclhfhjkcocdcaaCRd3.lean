/- Costs that settle: settled, potentials, costsFrom of the program. -/
import Derived.Test.YtclhfhjkcocdcaaRows
import Derived.Test.YtclhfhjkcocdcaaCRd2
import Derived.WalkKit
import Derived.WalkSpells
import Derived.WalkLawsBesides
import Derived.Outline
namespace Go.Proofs.Ytclhfhjkcocdcaa
open Go.RowKit
namespace RD
/-- The costs and the result's box. -/
structure N2 (w W : World) (b0 b1 : Nat) (c : Cs) : Prop where
  c : MA.Rg W b0 0 (il c)
  r : MA.Rg W b1 0 (il zero)
  n1 : b0 ≠ b1
  g0 : w.heap.size ≤ b0
  g1 : w.heap.size ≤ b1
  bl : Below w.heap.size w W
theorem N2.kept {w W W' : World} {b0 b1 : Nat} {c : Cs} (h : N2 w W b0 b1 c) (hb : Below W.heap.size W W') : N2 w W' b0 b1 c :=
  ⟨h.c.below hb h.c.lt, h.r.below hb h.r.lt, h.n1, h.g0, h.g1, h.bl.trans (hb.mono h.bl.size)⟩
theorem N2.setc {w W : World} {b0 b1 : Nat} {c : Cs} (h : N2 w W b0 b1 c) (d : Cs) : N2 w (W.setCells b0 0 (il d)) b0 b1 d :=
  ⟨h.c.put (by rw [il_len, il_len]), h.r.other (.inl (fun e => h.n1 e.symm)), h.n1, h.g0, h.g1, MA.below_cells h.g0 _ _ _ h.bl⟩
theorem N2.set1 {w W : World} {b0 b1 : Nat} {c : Cs} (h : N2 w W b0 b1 c) {i : Nat} (hi : i < 8) (z : Int) : N2 w (W.setCell ⟨b0, i, none⟩ (.int .i64 z)) b0 b1 (put c i z) :=
  ⟨rg_set h.c hi z, h.r.other (k' := b0) (o' := i) (vs := [.int .i64 z]) (.inl (fun e => h.n1 e.symm)), h.n1, h.g0, h.g1, MA.below_cells h.g0 [.int .i64 z] i W h.bl⟩
/-- A new variable's cells, put there. -/
theorem N2.box {w W : World} {b0 b1 : Nat} {c : Cs} (h : N2 w W b0 b1 c) (t : TypeId) (d : Cs) : N2 w ((W.alloc (.cells (il zero).toArray t)).setCells W.heap.size 0 (il d)) b0 b1 c ∧ MA.Rg ((W.alloc (.cells (il zero).toArray t)).setCells W.heap.size 0 (il d)) W.heap.size 0 (il d) := by
  have h1 := h.kept ((Below.refl _ W).alloc (Nat.le_refl _) (.cells (il zero).toArray t))
  refine ⟨⟨h1.c.other (.inl (Nat.ne_of_lt h.c.lt)), h1.r.other (.inl (Nat.ne_of_lt h.r.lt)), h.n1, h.g0, h.g1, MA.below_cells h.bl.size _ _ _ h1.bl⟩, (MA.Rg.new W (il zero) t).put (by rw [il_len, il_len])⟩
theorem n2_new (w : World) (t : TypeId) (c : Cs) : N2 w ((w.alloc (.cells (il c).toArray t)).alloc (.cells (il zero).toArray t)) w.heap.size (w.heap.size + 1) c := by
  have r1 := (MA.Rg.new w (il c) t).alloc (.cells (il zero).toArray t)
  have r2 := MA.Rg.new' (w.alloc (.cells (il c).toArray t)) (il zero) t (w.heap.size + 1) (by simp)
  exact ⟨r1, r2, by omega, Nat.le_refl _, by omega, ((Below.refl _ w).alloc (Nat.le_refl _) _).alloc (by simp) _⟩
theorem n2_new' (w : World) (t : TypeId) : N2 w ((w.alloc (.cells (il zero).toArray t)).alloc (.cells (il zero).toArray t)) (w.heap.size + 1) w.heap.size zero := by
  have h := n2_new w t zero
  exact ⟨h.r, h.c, by omega, by omega, Nat.le_refl _, h.bl⟩
end RD
set_option linter.unusedSimpArgs false in
set_option maxHeartbeats 1600000 in
set_option maxRecDepth 100000 in
theorem settled_any (c : RD.Cs) (a : Option Addr) (cap : Nat) (xs : List I3) (w : World) (hn : xs.length ≤ 1048576) (hg : RD.Gd xs) (hc : RD.Bd 0 c) (hin : MI3.RowAt w a xs) (F : RD.Cs) (B : Bool) (hF : Hid (RD.settle xs 8 c = (F, B))) :
    Calls Try.prog 39 #[.agg (RD.il c).toArray, .slice a xs.length cap] w fun e w' => e = .returned (.tuple #[.agg (RD.il F).toArray, .bool B]) ∧ Below w.heap.size w w' := by
  have HI : Hid (MI3.RowAt w a xs) := hin
  have ON : Hid _ := fun (d : RD.Cs) (hd : RD.Sm d) (W : World) (hr : MI3.RowAt W a xs) => oneRoadOn_any d a cap xs W hn hg hd hr
  have HG : Hid _ := hg
  have HC : Hid _ := hc
  have hi3 : ∃ i, Try.prog.info? 3 = some i := by
    obtain ⟨i0, hi, _⟩ := info_parts Try.info3
    exact ⟨i0, hi⟩
  obtain ⟨i3, hi3⟩ := hi3
  have EQ : Hid (∀ (x y : RD.Cs) (W : World), (binOp .eql 47 (.agg (RD.il x).toArray) (.agg (RD.il y).toArray)).run Try.prog W = .ok (.bool (RD.same8 x y)) W) := fun x y W => by
    have := MA.eql_arr (P := Try.prog) (w := W) Try.underlying47 hi3 (by kernel_rfl) (by go_simp) (fun p => x p == y p) (xs := RD.il x) (ys := RD.il y) (fun p hp => ⟨_, _, RD.il_get _ hp, RD.il_get _ hp, by rw [run_equalIn_int W 9998 3 .i64 .i64 _ _ Try.underlying3]⟩)
    exact this
  have HN0 : Hid _ := RD.n2_new w 47 c
  clear hin hg hc hi3 i3
  go_enter Try.func39, Try.ntmps39
  go_wp2_with (refine MA.alloc_z rfl 47 rfl _ _ Try.infoNC ?_; simp only [MA.sz_alloc])
  generalize (w.alloc (.cells (RD.il c).toArray 47)).alloc (.cells (RD.il RD.zero).toArray 47) = W0 at *
  generalize w.heap.size + 1 = b1 at *
  go_loopw [7] (fun iv wr => ∃ (k : Nat) (d : RD.Cs), iv = .int .i64 k ∧ k ≤ 8 ∧ Hid (RD.Bd (100 * k) d) ∧ Hid (RD.settle xs (8 - k) d = (F, B)) ∧ RD.N2 w wr w.heap.size b1 d) (fun iv _ => (8 - intOf iv).toNat)
  case atStart => exact ⟨0, c, rfl, by omega, HC.out, hF, HN0.out⟩
  case round =>
    clear HN0 HC hF
    obtain ⟨k, d, rfl, hk, hD, hF, hN⟩ := hrel
    by_cases hl : k < 8
    · have kk : (k : Int) < 8 := by omega
      have HS : Hid (RD.settle xs (8 - k) d = if RD.same8 (RD.jac xs d) d then (d, true) else RD.settle xs (8 - (k + 1)) (RD.jac xs d)) := by
        show _ = _
        rw [show 8 - k = (8 - (k + 1)) + 1 from by omega]; rfl
      rw [hF.out] at HS
      have HD2 : Hid (RD.Bd (100 * ((k + 1 : Nat) : Int)) (RD.jac xs d)) := by
        show RD.Bd _ _
        exact (RD.jac_bd HG.out hD.out).mono (by omega)
      have ON1 : Hid _ := ON.out d (hD.out.sm (by omega))
      have EQ1 : Hid _ := fun W => EQ.out (RD.jac xs d) d W
      clear hF hD
      generalize RD.jac xs d = J at *
      have HRc : Hid (MA.Rg wr w.heap.size 0 (RD.il d)) := hN.c
      have HI1 : Hid _ := HI.out.below hN.bl
      go_wp2_with (refine MA.load_m rfl 47 _ rfl rfl (cs := RD.il d) ?_ Try.underlying47 rfl Try.sizeNC (RD.il_len _) ?_; exact HRc.out; clear HRc)
      refine (ON1.out _ HI1.out).mono ?_
      rintro e w2 ⟨rfl, hb2⟩
      have hN2 := hN.kept hb2
      obtain ⟨hN3, hR3⟩ := hN2.box 47 J
      have HZ : Hid (MA.Rg (w2.alloc (.cells (RD.il RD.zero).toArray 47)) w2.heap.size 0 (RD.il RD.zero)) := MA.Rg.new _ _ _
      have HN3 : Hid _ := hN3
      have HRj : Hid _ := hR3
      have HRd : Hid _ := hN3.c
      have HRd2 : Hid _ := hN3.c
      have HRr : Hid _ := hN3.r
      have HRj2 : Hid _ := hR3
      clear hN hb2 hN2 hN3 hR3 ON1 HI1
      obtain ⟨q, hq⟩ : ∃ q, RD.same8 J d = q := ⟨_, rfl⟩
      rw [hq] at HS
      have eq1 : ∀ W : World, (binOp .eql 47 (.agg (RD.il J).toArray) (.agg (RD.il d).toArray)).run Try.prog W = .ok (.bool q) W := fun W => by rw [EQ1.out W, hq]
      clear hq EQ1 EQ
      cases q with
      | true =>
        obtain ⟨rfl, rfl⟩ : F = d ∧ B = true := by
          have := HS.out
          simp only [if_true, Prod.mk.injEq] at this
          exact this
        clear HS HRj2
        go_wp2_with (first
          | (refine MA.alloc_z rfl 47 rfl _ _ Try.infoNC ?_; simp only [MA.sz_alloc])
          | (refine MA.store_m rfl 47 _ _ rfl rfl rfl (vs := RD.il J) (cs := RD.il RD.zero) ?_ Try.sizeNC (RD.il_len _) (RD.il_len _) (RD.il_one _) ?_; exact HZ.out; clear HZ; generalize World.setCells _ _ _ _ = W3 at *)
          | (refine MA.load_m rfl 47 _ rfl rfl (cs := RD.il J) ?_ Try.underlying47 rfl Try.sizeNC (RD.il_len _) ?_; exact HRj.out; clear HRj)
          | (refine MA.load_m rfl 47 _ rfl rfl (cs := RD.il F) ?_ Try.underlying47 rfl Try.sizeNC (RD.il_len _) ?_; exact HRd.out; clear HRd)
          | (refine MA.load_m rfl 47 _ rfl rfl (cs := RD.il F) ?_ Try.underlying47 rfl Try.sizeNC (RD.il_len _) ?_; exact HRd2.out; clear HRd2)
          | (refine MA.store_m rfl 47 _ _ rfl rfl rfl (vs := RD.il F) (cs := RD.il RD.zero) ?_ Try.sizeNC (RD.il_len _) (RD.il_len _) (RD.il_one _) ?_; exact HRr.out; clear HRr))
        have HRP : Hid (MA.Rg (W3.setCells b1 0 (RD.il F)) b1 0 (RD.il F)) := HN3.out.r.put (by rw [RD.il_len, RD.il_len])
        have HBP : Hid (Below w.heap.size w (W3.setCells b1 0 (RD.il F))) := MA.below_cells HN3.out.g1 _ _ _ HN3.out.bl
        exact bodyPost_ret (MA.ret_cell2 rfl rfl rfl (MA.load_rg HRP.out Try.underlying47 rfl Try.sizeNC (RD.il_len _))) rfl ⟨rfl, HBP.out⟩
      | false =>
        have HS2 : Hid (RD.settle xs (8 - (k + 1)) J = (F, B)) := by
          have := HS.out
          simp only [Bool.false_eq_true, if_false] at this
          exact this.symm
        clear HS HRd2 HRr
        go_wp2_with (first
          | (refine MA.alloc_z rfl 47 rfl _ _ Try.infoNC ?_; simp only [MA.sz_alloc])
          | (refine MA.store_m rfl 47 _ _ rfl rfl rfl (vs := RD.il J) (cs := RD.il RD.zero) ?_ Try.sizeNC (RD.il_len _) (RD.il_len _) (RD.il_one _) ?_; exact HZ.out; clear HZ; generalize World.setCells _ _ _ _ = W3 at *)
          | (refine MA.load_m rfl 47 _ rfl rfl (cs := RD.il J) ?_ Try.underlying47 rfl Try.sizeNC (RD.il_len _) ?_; exact HRj.out; clear HRj)
          | (refine MA.load_m rfl 47 _ rfl rfl (cs := RD.il d) ?_ Try.underlying47 rfl Try.sizeNC (RD.il_len _) ?_; exact HRd.out; clear HRd)
          | (refine MA.load_m rfl 47 _ rfl rfl (cs := RD.il J) ?_ Try.underlying47 rfl Try.sizeNC (RD.il_len _) ?_; exact HRj2.out; clear HRj2)
          | (refine MA.store_m rfl 47 _ _ rfl rfl rfl (vs := RD.il J) (cs := RD.il d) ?_ Try.sizeNC (RD.il_len _) (RD.il_len _) (RD.il_one _) ?_; exact HN3.out.c))
        have HN4 : Hid _ := HN3.out.setc J
        clear HN3 eq1
        generalize World.setCells _ _ _ _ = W4 at *
        go_roundw
        case rel => exact ⟨k + 1, J, by go_num, by omega, HD2, HS2, HN4.out⟩
        case measure => simp [intOf]; omega
    · obtain rfl : k = 8 := by omega
      obtain ⟨rfl, rfl⟩ : F = d ∧ B = false := by
        have := hF.out
        simp only [RD.settle, Nat.sub_self, Prod.mk.injEq] at this
        exact ⟨this.1.symm, this.2.symm⟩
      have HRd : Hid _ := hN.c
      have HRr : Hid _ := hN.r
      have HRP : Hid (MA.Rg (wr.setCells b1 0 (RD.il F)) b1 0 (RD.il F)) := hN.r.put (by rw [RD.il_len, RD.il_len])
      have HBP : Hid (Below w.heap.size w (wr.setCells b1 0 (RD.il F))) := MA.below_cells hN.g1 _ _ _ hN.bl
      clear hF hD hN EQ ON HI HG
      go_wp2_with (first
        | (refine MA.load_m rfl 47 _ rfl rfl (cs := RD.il F) ?_ Try.underlying47 rfl Try.sizeNC (RD.il_len _) ?_; exact HRd.out; clear HRd)
        | (refine MA.store_m rfl 47 _ _ rfl rfl rfl (vs := RD.il F) (cs := RD.il RD.zero) ?_ Try.sizeNC (RD.il_len _) (RD.il_len _) (RD.il_one _) ?_; exact HRr.out; clear HRr))
      exact bodyPost_ret (MA.ret_cell2 rfl rfl rfl (MA.load_rg HRP.out Try.underlying47 rfl Try.sizeNC (RD.il_len _))) rfl ⟨rfl, HBP.out⟩
end Go.Proofs.Ytclhfhjkcocdcaa
