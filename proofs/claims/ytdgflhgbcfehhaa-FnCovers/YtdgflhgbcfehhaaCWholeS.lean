/- spec.WholeOf at any pile. -/
import Derived.Test.YtdgflhgbcfehhaaRows
import Derived.Test.YtdgflhgbcfehhaaMPW
import Derived.WalkKit
import Derived.WalkSpells
import Derived.WalkLawsBesides
import Derived.Outline
namespace Go.Proofs.Ytdgflhgbcfehhaa
open Go.RowKit
/-- What the memory of the call holds. -/
structure WhIn (w W : World) (v : Value) : Prop where
  below : Below w.heap.size w W
  arg : W.cell? ⟨w.heap.size, 0, none⟩ = some v
  res : MA.Rg W (w.heap.size + 1) 0 (Bd.cs B1.zero)
theorem WhIn.kept {w W W' : World} {v : Value} (h : WhIn w W v) (hb : Below W.heap.size W W') : WhIn w W' v := by
  have := h.res.lt
  exact ⟨h.below.trans (hb.mono h.below.size), (hb.cell (p := ⟨w.heap.size, 0, none⟩) (by show w.heap.size < _; omega)).trans h.arg, h.res.below hb h.res.lt⟩
theorem WhIn.set {w W : World} {v : Value} (h : WhIn w W v) (q j : Nat) (u : Value) (hq : w.heap.size + 1 < q) : WhIn w (W.setCell ⟨q, j, none⟩ u) v :=
  ⟨h.below.setCell (p := ⟨q, j, none⟩) (by simp; omega) u, (World.cell?_setCells_out _ [u] j W ⟨w.heap.size, 0, none⟩ (fun h => by have h' : w.heap.size = q := h; omega)).trans h.arg, h.res.other (k' := q) (o' := j) (vs := [u]) (.inl (by omega))⟩
theorem wh_start (w : World) (v : Value) (t t' : TypeId) : WhIn w ((w.alloc (.cells #[v] t)).alloc (.cells (Bd.cs B1.zero).toArray t')) v :=
  ⟨((Below.refl _ w).alloc (Nat.le_refl _) _).alloc (by simp) _, by simp, MA.Rg.new' (w.alloc (.cells #[v] t)) (Bd.cs B1.zero) t' (w.heap.size + 1) (by simp)⟩
theorem new_bw (W : World) (x : Bd) (t : TypeId) : Below W.heap.size W ((W.alloc (.cells (Bd.cs B1.zero).toArray t)).setCells W.heap.size 0 x.cs) ∧ MA.Rg ((W.alloc (.cells (Bd.cs B1.zero).toArray t)).setCells W.heap.size 0 x.cs) W.heap.size 0 x.cs :=
  ⟨MA.below_cells (Nat.le_refl _) _ _ _ ((Below.refl _ W).alloc (Nat.le_refl _) _), (MA.Rg.new W (Bd.cs B1.zero) t).put rfl⟩
theorem cell6 {W : World} {k : Nat} {x : Bd} (h : MA.Rg W k 0 x.cs) : W.cell? ⟨k, 6, none⟩ = some (.int .i64 x.hp) := by have := h.cell (j := 6) (v := .int .i64 x.hp) rfl; rwa [Nat.zero_add] at this
theorem free6 {W : World} {k : Nat} {x : Bd} (h : MA.Rg W k 0 x.cs) : W.frozen? ⟨k, 6, none⟩ = false := by have := h.free (j := 6) (by simp [Bd.cs]); rwa [Nat.zero_add] at this
theorem cell7w {W : World} {k : Nat} {x : Bd} (h : MA.Rg W k 0 x.cs) : W.cell? ⟨k, 7, none⟩ = some (.int .i64 x.of) := by have := h.cell (j := 7) (v := .int .i64 x.of) rfl; rwa [Nat.zero_add] at this
theorem free7w {W : World} {k : Nat} {x : Bd} (h : MA.Rg W k 0 x.cs) : W.frozen? ⟨k, 7, none⟩ = false := by have := h.free (j := 7) (by simp [Bd.cs]); rwa [Nat.zero_add] at this
theorem cell8w {W : World} {k : Nat} {x : Bd} (h : MA.Rg W k 0 x.cs) : W.cell? ⟨k, 8, none⟩ = some (.int .i64 x.tl) := by have := h.cell (j := 8) (v := .int .i64 x.tl) rfl; rwa [Nat.zero_add] at this
theorem free8w {W : World} {k : Nat} {x : Bd} (h : MA.Rg W k 0 x.cs) : W.frozen? ⟨k, 8, none⟩ = false := by have := h.free (j := 8) (by simp [Bd.cs]); rwa [Nat.zero_add] at this
theorem cell9w {W : World} {k : Nat} {x : Bd} (h : MA.Rg W k 0 x.cs) : W.cell? ⟨k, 9, none⟩ = some (.string x.py) := by have := h.cell (j := 9) (v := .string x.py) rfl; rwa [Nat.zero_add] at this
theorem free9w {W : World} {k : Nat} {x : Bd} (h : MA.Rg W k 0 x.cs) : W.frozen? ⟨k, 9, none⟩ = false := by have := h.free (j := 9) (by simp [Bd.cs]); rwa [Nat.zero_add] at this
def withH (x : Bd) (h : Int) : Bd := ⟨x.fr, x.to, x.gr, x.md, x.no, x.lf, h, x.of, x.tl, x.py⟩
set_option linter.unusedSimpArgs false in
set_option maxHeartbeats 1600000 in
set_option maxRecDepth 100000 in
theorem specWhole_any (a : Option Addr) (cap : Nat) (xs : List Bd) (w : World) (hn : xs.length ≤ 1048576) (ht : Hid (∀ k, k < xs.length → (MP.at_ xs k).py.size ≤ 1048576)) (hin : MP.BsAt w a xs) (hcap : xs.length ≤ cap) :
    Calls Try.prog 24 #[.agg #[.slice a xs.length cap]] w fun e w' => e = .returned (.tuple #[.agg (wholeB xs).cs.toArray, .bool (wholeOk xs)]) ∧ Below w.heap.size w w' := by
  have MI : Hid _ := fun W h => specMissing_any a cap xs W hn ht h hcap
  have HW0 : Hid _ := wh_start w (.slice a xs.length cap) 31 24
  have HI : Hid (MP.BsAt ((w.alloc (.cells #[.slice a xs.length cap] 31)).alloc (.cells (Bd.cs B1.zero).toArray 24)) a xs) := hin.below HW0.out.below
  go_enter Try.func24, Try.ntmps24
  go_wp2_with (refine MA.alloc_z rfl 24 rfl _ _ Try.infoBundle ?_; simp only [MA.sz_alloc])
  have c00 : World.cell? ((w.alloc (.cells #[.slice a xs.length cap] 31)).alloc (.cells (Bd.cs B1.zero).toArray 24)) ⟨w.heap.size, 0, none⟩ = some (.slice a xs.length cap) := HW0.out.arg
  go_wp2_with fail
  refine (MI.out _ HI.out).mono ?_
  rintro e w1 ⟨rfl, hb1⟩
  have hI := HW0.out.kept hb1
  have hRow := MP.BsAt.below HI.out hb1
  have c1 := hI.arg
  have HII : Hid _ := hI
  clear MI HW0 HI hb1 hI c00
  cases hg : PL.good xs with
  | false =>
    have hok : Hid (wholeOk xs = false) := by simp [Hid, wholeOk, hg]
    clear hg
    generalize missN xs = mm at *
    have hr := HII.out.res
    have HRR : Hid _ := hr
    clear hr
    go_wp2_with (refine MA.store_m rfl 24 _ _ rfl rfl rfl (vs := Bd.cs B1.zero) (cs := Bd.cs B1.zero) ?_ Try.sizeBundle rfl rfl (MA.cs_one _) ?_; exact HRR.out)
    exact bodyPost_ret (MA.ret_cell2 rfl rfl rfl (MA.load_rg (HRR.out.put (vs := Bd.cs B1.zero) rfl) Try.underlying24 rfl Try.sizeBundle rfl)) rfl ⟨by rw [hok.out, whole_no hok.out]; rfl, MA.below_cells (by omega) _ _ _ HII.out.below⟩
  | true =>
    by_cases h0 : xs = []
    · subst h0
      have hok : Hid (wholeOk [] = false) := by simp [Hid, wholeOk]
      clear hg
      have hm0 : missN [] = 0 := missN_nil
      rw [hm0]
      clear hm0
      have hr := HII.out.res
      have HRR : Hid _ := hr
      clear hr
      go_wp2_with (refine MA.store_m rfl 24 _ _ rfl rfl rfl (vs := Bd.cs B1.zero) (cs := Bd.cs B1.zero) ?_ Try.sizeBundle rfl rfl (MA.cs_one _) ?_; exact HRR.out)
      exact bodyPost_ret (MA.ret_cell2 rfl rfl rfl (MA.load_rg (HRR.out.put (vs := Bd.cs B1.zero) rfl) Try.underlying24 rfl Try.sizeBundle rfl)) rfl ⟨by rw [hok.out, whole_no hok.out]; rfl, MA.below_cells (by omega) _ _ _ HII.out.below⟩
    · have hn0 : 0 < xs.length := by cases xs with | nil => exact absurd rfl h0 | cons x l => simp
      have hne : ¬ xs.length = 0 := by omega
      by_cases hm : 0 < missN xs
      · have hok : Hid (wholeOk xs = false) := by show _ = _; unfold wholeOk; rw [decide_eq_false (show ¬ missN xs ≤ 0 by omega)]; simp
        clear hg
        generalize missN xs = mm at *
        have hr := HII.out.res
        have HRR : Hid _ := hr
        clear hr
        go_wp2_with (refine MA.store_m rfl 24 _ _ rfl rfl rfl (vs := Bd.cs B1.zero) (cs := Bd.cs B1.zero) ?_ Try.sizeBundle rfl rfl (MA.cs_one _) ?_; exact HRR.out)
        exact bodyPost_ret (MA.ret_cell2 rfl rfl rfl (MA.load_rg (HRR.out.put (vs := Bd.cs B1.zero) rfl) Try.underlying24 rfl Try.sizeBundle rfl)) rfl ⟨by rw [hok.out, whole_no hok.out]; rfl, MA.below_cells (by omega) _ _ _ HII.out.below⟩
      · have hok : Hid (wholeOk xs = true) := by simp [Hid, wholeOk, hg, h0]; omega
        have LB : Hid _ := fun W h => l4Bytes_any a cap xs W hg h
        have HT : Hid _ := PL.total_le hg
        clear hg
        generalize missN xs = mm at *
        have hmb : decide (0 < mm) = false := decide_eq_false hm
        have hnb : ((xs.length : Int) == 0) = false := by simp; omega
        clear hm
        go_wp2_with fail
        refine (LB.out _ hRow).mono ?_
        rintro e w2 ⟨a1, a2, rfl, hoy, _, hb2⟩
        replace HII : Hid _ := HII.out.kept hb2
        have hR2 := hRow.below hb2
        rw [yN_bv _ _ (by_lt xs xs.length)] at hoy
        have HOY : Hid _ := hoy
        have c2 := HII.out.arg
        clear LB hb2 hRow c1 hoy
        obtain ⟨b, off, rfl, hbl, rg⟩ := MA.row_range hR2 hn0
        rw [Nat.zero_mul, Nat.add_zero] at rg
        obtain ⟨x0, hx0⟩ : ∃ x0, MP.at_ xs 0 = x0 := ⟨_, rfl⟩
        rw [hx0] at rg
        have HX0 : Hid (MP.at_ xs 0 = x0) := hx0
        have RG : Hid _ := rg
        have HX : Hid _ := new_bw w2 x0 24
        have HRN : Hid _ := MA.Rg.new w2 (Bd.cs B1.zero) 24
        have hr1 : w.heap.size + 1 < w2.heap.size := HII.out.res.lt
        clear hx0 rg hbl
        have hWB : Hid (wholeB xs = ⟨x0.fr, x0.to, x0.gr, x0.md, x0.no, x0.lf, minH xs xs.length, 0, 0, textN (PL.total xs) (PL.sh xs xs.length).by_⟩) := by show _ = _; rw [whole_yes hok.out, HX0.out]
        generalize PL.total xs = n at *
        go_wp2_with (first
          | (refine MA.load_r rfl 24 _ rfl rfl (cs := x0.cs) ?_ Try.underlying24 rfl Try.sizeBundle rfl ?_; exact RG.out)
          | (refine MA.alloc_z rfl 24 rfl _ _ Try.infoBundle ?_; simp only [MA.sz_alloc])
          | (refine MA.store_m rfl 24 _ _ rfl rfl rfl (vs := x0.cs) (cs := Bd.cs B1.zero) ?_ Try.sizeBundle rfl rfl (MA.cs_one _) ?_; exact HRN.out; clear HRN RG c2; generalize World.setCells _ _ _ _ = W3 at *; replace HII : Hid _ := HII.out.kept HX.out.1; have c2 := HII.out.arg))
        have hq8 : Hid (MA.Rg W3 w2.heap.size 0 (withH x0 (minH xs 0)).cs) := by
          have e : (withH x0 (minH xs 0)).cs = x0.cs := by simp [withH, minH, HX0.out, Bd.cs]
          show MA.Rg _ _ _ _
          rw [e]; exact HX.out.2
        have HOY3 : Hid _ := MP.own_below HOY.out HX.out.1
        have hyb : Hid (∀ gb, (Value.slice a1 n n).ownBlock = some gb → gb < w2.heap.size) := fun gb h => by
          exact (World.ownsRow.lt HOY.out gb h).2
        clear HX HOY c2
        generalize w2.heap.size = q8 at *
        have hr1' : w.heap.size + 1 < q8 := hr1
        go_wp2
        go_loopw [41] (fun iv wr => ∃ k : Nat, iv = .int .i64 k ∧ k ≤ xs.length ∧ WhIn w wr (.slice (some ⟨b, off, none⟩) xs.length cap) ∧ MA.Rg wr q8 0 (withH x0 (minH xs k)).cs ∧ wr.ownsRow w1.heap.size 5 1 (.slice a1 n n) n (M2.bv ((List.range n).map fun p => UInt8.ofNat ((PL.sh xs xs.length).by_ p)))) (fun iv _ => (xs.length - intOf iv).toNat)
        case atStart => exact ⟨0, rfl, by omega, HII.out, hq8.out, HOY3.out⟩
        case round =>
          clear HII hq8 HOY3
          obtain ⟨k, rfl, hk, hI, h8, hoy⟩ := hrel
          by_cases hl : k < xs.length
          · obtain ⟨b', off', hab, hbl, rg⟩ := MA.row_range (hin.below hI.below) hl
            cases hab
            obtain ⟨x, hx⟩ : ∃ x, MP.at_ xs k = x := ⟨_, rfl⟩
            rw [hx] at rg
            have HXK : Hid (minH xs (k + 1) = if x.hp < minH xs k then x.hp else minH xs k) := by show _ = _; rw [← hx]; rfl
            have RG : Hid _ := rg
            have HX : Hid _ := new_bw wr x 24
            have HRN : Hid _ := MA.Rg.new wr (Bd.cs B1.zero) 24
            have HI : Hid _ := hI
            have H8 : Hid _ := h8
            have HY : Hid _ := hoy
            have hk0 : (0 : Int) ≤ (k : Int) := by omega
            have hkn : (k : Int) < (xs.length : Int) := by omega
            clear hx rg hbl hI h8 hoy
            by_cases hlt : x.hp < minH xs k
            · have e : Hid (minH xs (k + 1) = x.hp) := by show _ = _; rw [HXK.out, if_pos hlt]
              clear HXK
              generalize minH xs k = mk at *
              go_wp2_with (first
                | (refine MA.load_r rfl 24 _ rfl rfl (cs := x.cs) ?_ Try.underlying24 rfl Try.sizeBundle rfl ?_; exact RG.out)
                | (refine MA.alloc_z rfl 24 rfl _ _ Try.infoBundle ?_; simp only [MA.sz_alloc])
                | (refine MA.store_m rfl 24 _ _ rfl rfl rfl (vs := x.cs) (cs := Bd.cs B1.zero) ?_ Try.sizeBundle rfl rfl (MA.cs_one _) ?_; exact HRN.out; clear HRN RG; generalize World.setCells _ _ _ _ = W5 at *; have hI5 := HI.out.kept HX.out.1; have h85 := H8.out.below HX.out.1 H8.out.lt; have hy5 := MP.own_below HY.out HX.out.1; have cx6 := cell6 HX.out.2; have c86 : W5.cell? ⟨q8, 6, none⟩ = some (.int .i64 mk) := cell6 h85; have f86 := free6 h85; have HI5 : Hid _ := hI5; have H85 : Hid _ := h85; have HY5 : Hid _ := hy5; clear hI5 h85 hy5 HI H8 HY HX))
              have h86 := H85.out.put1 (j := 6) (by simp [Bd.cs]) (.int .i64 x.hp)
              rw [Nat.zero_add] at h86
              have e6 : (withH x0 mk).cs.set 6 (.int .i64 x.hp) = (withH x0 x.hp).cs := by simp [withH, Bd.cs]
              rw [e6] at h86
              replace h86 : MA.Rg (W5.setCell ⟨q8, 6, none⟩ (.int .i64 x.hp)) q8 0 (withH x0 (minH xs (k + 1))).cs := by rw [e.out]; exact h86
              have hI6 := HI5.out.set q8 6 (.int .i64 x.hp) (by omega)
              have hy6 := ownsRow_setCell_other HY5.out (a := ⟨q8, 6, none⟩) (fun h => by have := hyb.out q8 h; omega) (.int .i64 x.hp)
              go_roundw
              case rel => exact ⟨k + 1, by go_num, by omega, hI6, h86, hy6⟩
              case measure => simp [intOf]; omega
            · have e : Hid (minH xs (k + 1) = minH xs k) := by show _ = _; rw [HXK.out, if_neg hlt]
              clear HXK
              go_wp2_with (first
                | (refine MA.load_r rfl 24 _ rfl rfl (cs := x.cs) ?_ Try.underlying24 rfl Try.sizeBundle rfl ?_; exact RG.out)
                | (refine MA.alloc_z rfl 24 rfl _ _ Try.infoBundle ?_; simp only [MA.sz_alloc])
                | (refine MA.store_m rfl 24 _ _ rfl rfl rfl (vs := x.cs) (cs := Bd.cs B1.zero) ?_ Try.sizeBundle rfl rfl (MA.cs_one _) ?_; exact HRN.out; clear HRN RG; generalize World.setCells _ _ _ _ = W5 at *; have hI5 := HI.out.kept HX.out.1; have h85 := H8.out.below HX.out.1 H8.out.lt; have hy5 := MP.own_below HY.out HX.out.1; have cx6 := cell6 HX.out.2; have c86 : W5.cell? ⟨q8, 6, none⟩ = some (.int .i64 (minH xs k)) := cell6 h85; have f86 := free6 h85; have HI5 : Hid _ := hI5; have H85 : Hid _ := h85; have HY5 : Hid _ := hy5; clear hI5 h85 hy5 HI H8 HY HX))
              have h86 := H85.out
              rw [← e.out] at h86
              go_roundw
              case rel => exact ⟨k + 1, by go_num, by omega, HI5.out, h86, HY5.out⟩
              case measure => simp [intOf]; omega
          · obtain rfl : k = xs.length := by omega
            have HI : Hid _ := hI
            have HWB : Hid _ := hWB.out
            generalize minH xs xs.length = mk at *
            have c7 : wr.cell? ⟨q8, 7, none⟩ = some (.int .i64 x0.of) := cell7w (x := withH x0 mk) h8
            have f7 := free7w h8
            have c8 : wr.cell? ⟨q8, 8, none⟩ = some (.int .i64 x0.tl) := cell8w (x := withH x0 mk) h8
            have f8 := free8w h8
            have c9 : wr.cell? ⟨q8, 9, none⟩ = some (.string x0.py) := cell9w (x := withH x0 mk) h8
            have f9 := free9w h8
            have HCV : Hid (∀ W : World, W.ownsRow w1.heap.size 5 1 (.slice a1 n n) n (M2.bv ((List.range n).map fun p => UInt8.ofNat ((PL.sh xs xs.length).by_ p))) → (convert 22 9 (.slice a1 n n)).run Try.prog W = .ok (.string (textN n (PL.sh xs xs.length).by_)) W) := fun W h => M2.conv_own (P := Try.prog) 22 9 5 Try.underlying22 Try.underlying5 Try.underlying9 (by simpa using h)
            have hcv1 := HCV.out _ (ownsRow_setCell_other (ownsRow_setCell_other hoy (a := ⟨q8, 7, none⟩) (fun h => by have := hyb.out q8 h; omega) (.int .i64 0)) (a := ⟨q8, 8, none⟩) (fun h => by have := hyb.out q8 h; omega) (.int .i64 0))
            have r7 := h8.put1 (j := 7) (by simp [Bd.cs]) (.int .i64 0)
            have r8 := r7.put1 (j := 8) (by simp [Bd.cs]) (.int .i64 0)
            have r9 := r8.put1 (j := 9) (by simp [Bd.cs]) (.string (textN n (PL.sh xs xs.length).by_))
            have e9 : (((withH x0 mk).cs.set 7 (.int .i64 0)).set 8 (.int .i64 0)).set 9 (.string (textN n (PL.sh xs xs.length).by_)) = Bd.cs ⟨x0.fr, x0.to, x0.gr, x0.md, x0.no, x0.lf, mk, 0, 0, textN n (PL.sh xs xs.length).by_⟩ := by simp [withH, Bd.cs]
            rw [e9] at r9
            simp only [Nat.zero_add] at r9
            have hI9 := ((HI.out.set q8 7 (.int .i64 0) (by omega)).set q8 8 (.int .i64 0) (by omega)).set q8 9 (.string (textN n (PL.sh xs xs.length).by_)) (by omega)
            have HR9 : Hid _ := r9
            have HI9 : Hid _ := hI9
            have HOB : Hid (wholeB xs = ⟨x0.fr, x0.to, x0.gr, x0.md, x0.no, x0.lf, mk, 0, 0, textN n (PL.sh xs xs.length).by_⟩) := HWB.out
            clear r7 r8 r9 e9 hI9 hI h8 hoy HI HCV HWB
            generalize textN n (PL.sh xs xs.length).by_ = tx at *
            go_wp2_with (first
              | (refine MA.load_r rfl 24 _ rfl rfl (cs := Bd.cs ⟨x0.fr, x0.to, x0.gr, x0.md, x0.no, x0.lf, mk, 0, 0, tx⟩) ?_ Try.underlying24 rfl Try.sizeBundle rfl ?_; exact HR9.out.rng)
              | (refine MA.store_m rfl 24 _ _ rfl rfl rfl (vs := Bd.cs ⟨x0.fr, x0.to, x0.gr, x0.md, x0.no, x0.lf, mk, 0, 0, tx⟩) (cs := Bd.cs B1.zero) ?_ Try.sizeBundle rfl rfl (MA.cs_one _) ?_; exact HI9.out.res))
            exact bodyPost_ret (MA.ret_cell2 rfl rfl rfl (MA.load_rg (HI9.out.res.put (vs := Bd.cs ⟨x0.fr, x0.to, x0.gr, x0.md, x0.no, x0.lf, mk, 0, 0, tx⟩) rfl) Try.underlying24 rfl Try.sizeBundle rfl)) rfl ⟨by rw [hok.out, HOB.out]; rfl, MA.below_cells (by omega) _ _ _ HI9.out.below⟩
end Go.Proofs.Ytdgflhgbcfehhaa
