/- The program's whole and WholeOf, at any pile. -/
import Derived.Test.YthpmlefaloiapaaRows
import Derived.Test.YthpmlefaloiapaaCWholeI
import Derived.WalkKit
import Derived.WalkSpells
import Derived.WalkLawsBesides
import Derived.Outline
namespace Go.Proofs.Ythpmlefaloiapaa
open Go.RowKit
set_option linter.unusedSimpArgs false in
theorem run_sliceHi {P : Program} {w : World} {t e : TypeId} {m o b f : Nat} (hu : P.underlying t = some (.array m e)) (hsz : ∀ w, (sizeOf e).run P w = .ok 1 w) (ho : o ≤ m) (hm : 0 < m) :
    (Instr.sliceAt t (.pointer (some ⟨b, f, none⟩)) none (some (.int .i64 (o : Int))) none).run P w = .ok (.slice (some ⟨b, f, none⟩) o m) w := by
  have h1 : (0 : Int) ≤ (o : Int) := by omega
  have h2 : (o : Int) ≤ (m : Int) := by omega
  have h3 : ¬ (m = 0) := by omega
  simp [Instr.sliceAt, run_underlying hu, Instr.sureAddr, Instr.sliceBounds, go_sem, h1, h2, hsz, Addr.add_mid]
/-- What the memory of the call holds. -/
structure WpIn (w W : World) (L : List Value) : Prop where
  below : Below w.heap.size w W
  arg : MA.Rg W w.heap.size 0 L
  res : MA.Rg W (w.heap.size + 1) 0 (Bd.cs B1.zero)
theorem WpIn.kept {w W W' : World} {L : List Value} (h : WpIn w W L) (hb : Below W.heap.size W W') : WpIn w W' L :=
  ⟨h.below.trans (hb.mono h.below.size), h.arg.below hb h.arg.lt, h.res.below hb h.res.lt⟩
theorem WpIn.set {w W : World} {L : List Value} (h : WpIn w W L) (q j : Nat) (u : Value) (hq : w.heap.size + 1 < q) : WpIn w (W.setCell ⟨q, j, none⟩ u) L :=
  ⟨h.below.setCell (p := ⟨q, j, none⟩) (by simp; omega) u, h.arg.other (k' := q) (o' := j) (vs := [u]) (.inl (by omega)), h.res.other (k' := q) (o' := j) (vs := [u]) (.inl (by omega))⟩
set_option linter.unusedSimpArgs false in
set_option maxHeartbeats 1600000 in
set_option maxRecDepth 100000 in
theorem whole_any (g : Nat) (xs : List Bd) (w : World) (hn : xs.length ≤ 1048576) (hg : PL.good xs = true) (hok : wholeOk xs = true) (hin : MP.BsAt w (some ⟨g, 0, none⟩) xs) :
    Calls Try.prog 56 #[.agg (stF (.slice (some ⟨g, 0, none⟩) xs.length xs.length) (PL.sh xs xs.length)).toArray] w fun e w' => e = .returned (.agg (wholeB xs).cs.toArray) ∧ Below w.heap.size w w' := by
  have h0 : xs ≠ [] := by intro h; subst h; simp [wholeOk] at hok
  have hn0 : 0 < xs.length := by cases xs with | nil => exact absurd rfl h0 | cons x l => simp
  have htl : (MP.at_ xs 0).tl = (PL.total xs : Int) := by
    have p0 := PL.pg_is ((PL.good_inv hg).1.2.2.2 0 hn0)
    unfold PL.total; rw [if_neg h0]; omega
  have hT := PL.total_le hg
  have HW0 : Hid (WpIn w ((w.alloc (.cells (stF (.slice (some ⟨g, 0, none⟩) xs.length xs.length) (PL.sh xs xs.length)).toArray 76)).alloc (.cells (Bd.cs B1.zero).toArray 60)) (stF (.slice (some ⟨g, 0, none⟩) xs.length xs.length) (PL.sh xs xs.length))) := ⟨((Below.refl _ w).alloc (Nat.le_refl _) _).alloc (by simp) _, (MA.Rg.new w (stF (.slice (some ⟨g, 0, none⟩) xs.length xs.length) (PL.sh xs xs.length)) 76).alloc _, MA.Rg.new' _ (Bd.cs B1.zero) 60 (w.heap.size + 1) (by simp)⟩
  have hrow := hin.below HW0.out.below
  obtain ⟨b, off, hab, hbl, rg⟩ := MA.row_range hrow hn0
  cases hab
  rw [Nat.zero_mul, Nat.add_zero] at rg
  obtain ⟨x0, hx0⟩ : ∃ x0, MP.at_ xs 0 = x0 := ⟨_, rfl⟩
  rw [hx0] at rg htl
  have HX0 : Hid (MP.at_ xs 0 = x0) := hx0
  have hWB : Hid (wholeB xs = ⟨x0.fr, x0.to, x0.gr, x0.md, x0.no, x0.lf, minH xs xs.length, 0, 0, textN (PL.total xs) (PL.sh xs xs.length).by_⟩) := by show _ = _; rw [whole_yes hok, HX0.out]
  have HTX : Hid _ := htl
  have HB60 : Hid (∀ p, (PL.sh xs xs.length).by_ p < 256) := by_lt xs xs.length
  have hc0 : World.cell? ((w.alloc (.cells (stF (.slice (some ⟨g, 0, none⟩) xs.length xs.length) (PL.sh xs xs.length)).toArray 76)).alloc (.cells (Bd.cs B1.zero).toArray 60)) ⟨w.heap.size, 0, none⟩ = some (.slice (some ⟨g, 0, none⟩) xs.length xs.length) := (st_parts HW0.out.arg).2.2.cell (j := 0) rfl
  have HC0 : Hid _ := hc0
  have RG0 : Hid _ := rg
  clear hx0 rg hbl hrow hok h0 htl hg hc0
  generalize PL.total xs = n at *
  go_enter Try.func56, Try.ntmps56
  go_wp2_with (first
    | (refine MA.alloc_z rfl 60 rfl _ _ Try.infoParcel ?_; simp only [MA.sz_alloc]; generalize World.alloc (World.alloc _ _) _ = W1 at *; have c0 := HC0.out; have hr1 : w.heap.size + 1 < W1.heap.size := HW0.out.res.lt; have RG : Hid _ := RG0.out; have HX : Hid _ := new_bw W1 x0 60; have HRN : Hid _ := MA.Rg.new W1 (Bd.cs B1.zero) 60; clear HC0 RG0)
    | (refine MA.load_r rfl 60 _ rfl rfl (cs := x0.cs) ?_ Try.underlying60 rfl Try.sizeParcel rfl ?_; exact RG.out)
    | (refine MA.alloc_z rfl 60 rfl _ _ Try.infoParcel ?_; simp only [MA.sz_alloc])
    | (refine MA.store_m rfl 60 _ _ rfl rfl rfl (vs := x0.cs) (cs := Bd.cs B1.zero) ?_ Try.sizeParcel rfl rfl (MA.cs_one _) ?_; exact HRN.out; clear HRN RG c0; generalize World.setCells _ _ _ _ = W3 at *; replace HW0 : Hid _ := HW0.out.kept HX.out.1; have c0 : W3.cell? ⟨w.heap.size, 0, none⟩ = some (.slice (some ⟨g, 0, none⟩) xs.length xs.length) := (st_parts HW0.out.arg).2.2.cell (j := 0) rfl))
  have hq8 : Hid (MA.Rg W3 W1.heap.size 0 (withH x0 (minH xs 0)).cs) := by
    have e : (withH x0 (minH xs 0)).cs = x0.cs := by simp [withH, minH, HX0.out, Bd.cs]
    show MA.Rg _ _ _ _
    rw [e]; exact HX.out.2
  clear HX c0
  generalize W1.heap.size = q8 at *
  go_loopw [13] (fun iv wr => ∃ k : Nat, iv = .int .i64 k ∧ k ≤ xs.length ∧ WpIn w wr (stF (.slice (some ⟨g, 0, none⟩) xs.length xs.length) (PL.sh xs xs.length)) ∧ MA.Rg wr q8 0 (withH x0 (minH xs k)).cs) (fun iv _ => (xs.length - intOf iv).toNat)
  case atStart => exact ⟨0, rfl, by omega, HW0.out, hq8.out⟩
  case round =>
    clear HW0 hq8
    obtain ⟨k, rfl, hk, hI, h8⟩ := hrel
    by_cases hl : k < xs.length
    · obtain ⟨b', off', hab, hbl, rg⟩ := MA.row_range (hin.below hI.below) hl
      cases hab
      obtain ⟨x, hx⟩ : ∃ x, MP.at_ xs k = x := ⟨_, rfl⟩
      rw [hx, Nat.zero_add] at rg
      have HXK : Hid (minH xs (k + 1) = if x.hp < minH xs k then x.hp else minH xs k) := by show _ = _; rw [← hx]; rfl
      have RG : Hid _ := rg
      have HX : Hid _ := new_bw wr x 60
      have HRN : Hid _ := MA.Rg.new wr (Bd.cs B1.zero) 60
      have HI : Hid _ := hI
      have H8 : Hid _ := h8
      have hk0 : (0 : Int) ≤ (k : Int) := by omega
      have hkn : (k : Int) < (xs.length : Int) := by omega
      clear hx rg hbl hI h8
      by_cases hlt : x.hp < minH xs k
      · have e : Hid (minH xs (k + 1) = x.hp) := by show _ = _; rw [HXK.out, if_pos hlt]
        clear HXK
        generalize minH xs k = mk at *
        go_wp2_with (first
          | (refine MA.load_r rfl 60 _ rfl rfl (cs := x.cs) ?_ Try.underlying60 rfl Try.sizeParcel rfl ?_; exact RG.out)
          | (refine MA.alloc_z rfl 60 rfl _ _ Try.infoParcel ?_; simp only [MA.sz_alloc])
          | (refine MA.store_m rfl 60 _ _ rfl rfl rfl (vs := x.cs) (cs := Bd.cs B1.zero) ?_ Try.sizeParcel rfl rfl (MA.cs_one _) ?_; exact HRN.out; clear HRN RG; generalize World.setCells _ _ _ _ = W5 at *; have hI5 := HI.out.kept HX.out.1; have h85 := H8.out.below HX.out.1 H8.out.lt; have cx6 := cell6 HX.out.2; have c86 : W5.cell? ⟨q8, 6, none⟩ = some (.int .i64 mk) := cell6 h85; have f86 := free6 h85; have HI5 : Hid _ := hI5; have H85 : Hid _ := h85; clear hI5 h85 HI H8 HX))
        have h86 := H85.out.put1 (j := 6) (by simp [Bd.cs]) (.int .i64 x.hp)
        rw [Nat.zero_add] at h86
        have e6 : (withH x0 mk).cs.set 6 (.int .i64 x.hp) = (withH x0 x.hp).cs := by simp [withH, Bd.cs]
        rw [e6] at h86
        replace h86 : MA.Rg (W5.setCell ⟨q8, 6, none⟩ (.int .i64 x.hp)) q8 0 (withH x0 (minH xs (k + 1))).cs := by rw [e.out]; exact h86
        have hI6 := HI5.out.set q8 6 (.int .i64 x.hp) (by omega)
        go_roundw
        case rel => exact ⟨k + 1, by go_num, by omega, hI6, h86⟩
        case measure => simp [intOf]; omega
      · have e : Hid (minH xs (k + 1) = minH xs k) := by show _ = _; rw [HXK.out, if_neg hlt]
        clear HXK
        obtain ⟨mk, hmk⟩ : ∃ mk, minH xs k = mk := ⟨_, rfl⟩
        rw [hmk] at H8 hlt e
        clear hmk
        go_wp2_with (first
          | (refine MA.load_r rfl 60 _ rfl rfl (cs := x.cs) ?_ Try.underlying60 rfl Try.sizeParcel rfl ?_; exact RG.out)
          | (refine MA.alloc_z rfl 60 rfl _ _ Try.infoParcel ?_; simp only [MA.sz_alloc])
          | (refine MA.store_m rfl 60 _ _ rfl rfl rfl (vs := x.cs) (cs := Bd.cs B1.zero) ?_ Try.sizeParcel rfl rfl (MA.cs_one _) ?_; exact HRN.out; clear HRN RG; generalize World.setCells _ _ _ _ = W5 at *; have hI5 := HI.out.kept HX.out.1; have h85 := H8.out.below HX.out.1 H8.out.lt; have cx6 := cell6 HX.out.2; have c86 : W5.cell? ⟨q8, 6, none⟩ = some (.int .i64 mk) := cell6 h85; have f86 := free6 h85; have HI5 : Hid _ := hI5; have H85 : Hid _ := h85; clear hI5 h85 HI H8 HX))
        have h86 := H85.out.put1 (j := 6) (by simp [Bd.cs]) (.int .i64 mk)
        rw [Nat.zero_add] at h86
        have e6 : (withH x0 mk).cs.set 6 (.int .i64 mk) = (withH x0 mk).cs := by simp [withH, Bd.cs]
        rw [e6] at h86
        replace h86 : MA.Rg (W5.setCell ⟨q8, 6, none⟩ (.int .i64 mk)) q8 0 (withH x0 (minH xs (k + 1))).cs := by rw [e.out]; exact h86
        have hI6 := HI5.out.set q8 6 (.int .i64 mk) (by omega)
        go_roundw
        case rel => exact ⟨k + 1, by go_num, by omega, hI6, h86⟩
        case measure => simp [intOf]; omega
    · obtain rfl : k = xs.length := by omega
      have hya := (st_parts hI.arg).2.1
      have hcv : ∀ W : World, MA.Rg W w.heap.size 61 (MA.yF (PL.sh xs xs.length).by_) → (convert 83 9 (.slice (some ⟨w.heap.size, 61, none⟩) n 60)).run Try.prog W = .ok (.string (textN n (PL.sh xs xs.length).by_)) W := fun W hW => by
        have := run_convert_bytes_arg (P := Try.prog) W 83 5 Try.underlying83 Try.underlying5 w.heap.size 61 n 60 ((List.range n).map fun p => ((PL.sh xs xs.length).by_ p : Int)) (by simp) (fun i hi => by
          have h := hW.cell (MA.yF_get (PL.sh xs xs.length).by_ (p := i) (by omega))
          rw [h]; simp [hi]) 9 Try.underlying9
        rw [this]
        unfold textN
        congr 2
        apply ByteArray.ext
        show (((List.range n).map fun p => ((PL.sh xs xs.length).by_ p : Int)).map (fun n => UInt8.ofNat n.toNat)).toArray = _
        rw [List.map_map]
        rfl
      have hsl : ∀ W, (Instr.sliceAt 72 (.pointer (some ⟨w.heap.size, 61, none⟩)) none (some (.int .i64 (n : Int))) none).run Try.prog W = .ok (.slice (some ⟨w.heap.size, 61, none⟩) n 60) W := fun W => run_sliceHi Try.underlying72 (by go_simp) (by omega) (by omega)
      have hcv1 := hcv wr hya
      have HI : Hid _ := hI
      generalize minH xs xs.length = mk at *
      generalize textN n (PL.sh xs xs.length).by_ = tx at *
      have c7 : wr.cell? ⟨q8, 7, none⟩ = some (.int .i64 x0.of) := cell7w (x := withH x0 mk) h8
      have f7 := free7w h8
      have c8 : wr.cell? ⟨q8, 8, none⟩ = some (.int .i64 (n : Int)) := by rw [← HTX.out]; exact cell8w (x := withH x0 mk) h8
      have f8 := free8w h8
      have c9 : wr.cell? ⟨q8, 9, none⟩ = some (.string x0.py) := cell9w (x := withH x0 mk) h8
      have f9 := free9w h8
      have r9 := ((h8.put1 (j := 9) (by simp [Bd.cs]) (.string tx)).put1 (j := 7) (by simp [Bd.cs]) (.int .i64 0)).put1 (j := 8) (by simp [Bd.cs]) (.int .i64 0)
      have e9 : (((withH x0 mk).cs.set 9 (.string tx)).set 7 (.int .i64 0)).set 8 (.int .i64 0) = Bd.cs ⟨x0.fr, x0.to, x0.gr, x0.md, x0.no, x0.lf, mk, 0, 0, tx⟩ := by simp [withH, Bd.cs]
      rw [e9] at r9
      simp only [Nat.zero_add] at r9
      have HI9 : Hid _ := ((HI.out.set q8 9 (.string tx) (by omega)).set q8 7 (.int .i64 0) (by omega)).set q8 8 (.int .i64 0) (by omega)
      have HR9 : Hid _ := r9
      clear r9 e9 hI h8 HI hya hcv
      go_wp2_with (first
        | (refine MA.load_r rfl 60 _ rfl rfl (cs := Bd.cs ⟨x0.fr, x0.to, x0.gr, x0.md, x0.no, x0.lf, mk, 0, 0, tx⟩) ?_ Try.underlying60 rfl Try.sizeParcel rfl ?_; exact HR9.out.rng)
        | (refine MA.store_m rfl 60 _ _ rfl rfl rfl (vs := Bd.cs ⟨x0.fr, x0.to, x0.gr, x0.md, x0.no, x0.lf, mk, 0, 0, tx⟩) (cs := Bd.cs B1.zero) ?_ Try.sizeParcel rfl rfl (MA.cs_one _) ?_; exact HI9.out.res))
      exact bodyPost_ret (MA.ret_cell rfl rfl (MA.load_rg (HI9.out.res.put (vs := Bd.cs ⟨x0.fr, x0.to, x0.gr, x0.md, x0.no, x0.lf, mk, 0, 0, tx⟩) rfl) Try.underlying60 rfl Try.sizeParcel rfl)) rfl ⟨by rw [hWB.out], MA.below_cells (by omega) _ _ _ HI9.out.below⟩
theorem MA.load_g {P : Program} {ops : Array Oper} {rest : List Oper} {op : Oper} {a : Act} {w : World} {Q : Exit → Act → World → Prop} (hw : Region.wanted op (yielded ops a.tmps) = true) (ty : TypeId) (x : Operand) (ho : op.op = .load ty x)
    {b o : Nat} (hx : a.eval x = .pointer (some ⟨b, o, none⟩)) {cs : List Value} {d : TypeDesc} (hc : w.rangeAt b o cs)
    (hu : P.underlying ty = some d) (hd : d.isRow = true) {n : Nat} (hi : (P.info? ty).map (·.size) = some n) (hn : cs.length = n)
    (h : wpList P ops Q rest (a.put op.dst (.agg cs.toArray)) w) : wpList P ops Q (op :: rest) a w :=
  wpList_step fun K hK => by rw [if_pos hw]; exact wp_load_mid ty x ho b o hx cs d hc hu hd (hn ▸ hi) (hK _ _ h)
set_option linter.unusedSimpArgs false in
set_option maxHeartbeats 800000 in
set_option maxRecDepth 100000 in
theorem implWhole_any (a : Option Addr) (cap : Nat) (xs : List Bd) (w : World) (hn : xs.length ≤ 1048576) (ht : Hid (∀ k, k < xs.length → (MP.at_ xs k).py.size ≤ 1048576)) (hin : MP.BsAt w a xs) :
    Calls Try.prog 30 #[.agg #[.slice a xs.length cap]] w fun e w' => e = .returned (.tuple #[.agg (wholeB xs).cs.toArray, .bool (wholeOk xs)]) ∧ Below w.heap.size w w' := by
  have SO : Hid _ := fun W h => stackOf_any a cap xs W hn ht h
  have HW0 : Hid _ := wh_start w (.slice a xs.length cap) 39 28
  have HI : Hid (MP.BsAt ((w.alloc (.cells #[.slice a xs.length cap] 39)).alloc (.cells (Bd.cs B1.zero).toArray 28)) a xs) := hin.below HW0.out.below
  go_enter Try.func30, Try.ntmps30
  go_wp2_with (refine MA.alloc_z rfl 28 rfl _ _ Try.infoBundle ?_; simp only [MA.sz_alloc]; have c00 := HW0.out.arg)
  refine (SO.out _ HI.out).mono ?_
  rintro e w2 ⟨g, rfl, hrw, hb2⟩
  replace HW0 : Hid _ := HW0.out.kept hb2
  clear SO HI hb2 c00
  rw [upOk_good'] at hrw ⊢
  obtain ⟨L, hL⟩ : ∃ L, upV xs (.slice (some ⟨g, 0, none⟩) xs.length xs.length) = L := ⟨_, rfl⟩
  have HL : Hid _ := hL
  have HL1 : Hid (L.length = 121) := by rw [← hL]; exact upV_len _ _ _ _
  have HL2 : Hid (∀ v ∈ L, v.oneCell' = true) := by rw [← hL]; exact upV_one _ _ _ _
  rw [hL]
  clear hL
  have RN : Hid _ := MA.Rg.new w2 (stF (.slice none 0 0) PL.blank) 76
  have RP : Hid (MA.Rg (World.setCells (w2.alloc (.cells (stF (.slice none 0 0) PL.blank).toArray 76)) w2.heap.size 0 L) w2.heap.size 0 L) := RN.out.put (by rw [Z_len]; exact HL1.out)
  have HB2 : Hid (Below w2.heap.size w2 (World.setCells (w2.alloc (.cells (stF (.slice none 0 0) PL.blank).toArray 76)) w2.heap.size 0 L)) := MA.below_cells (b := w2.heap.size) (Nat.le_refl _) L 0 _ ((Below.refl _ w2).alloc (Nat.le_refl _) _)
  cases hg : PL.good xs with
  | false =>
    have hok : Hid (wholeOk xs = false) := by simp [Hid, wholeOk, hg]
    clear hg hrw RP
    go_wp2_with (first
      | (refine MA.alloc_z rfl 76 rfl _ _ Try.infoStack' ?_; simp only [MA.sz_alloc])
      | (refine MA.store_m rfl 76 _ _ rfl rfl rfl (cs := stF (.slice none 0 0) PL.blank) ?_ Try.sizeStack Z_len HL1.out HL2.out ?_; exact RN.out; clear RN; generalize World.setCells _ _ _ _ = W3 at *; replace HW0 : Hid _ := HW0.out.kept HB2.out; clear HB2)
      | (refine MA.store_m rfl 28 _ _ rfl rfl rfl (vs := Bd.cs B1.zero) (cs := Bd.cs B1.zero) ?_ Try.sizeBundle rfl rfl (MA.cs_one _) ?_; exact HW0.out.res))
    exact bodyPost_ret (MA.ret_cell2 rfl rfl rfl (MA.load_rg (HW0.out.res.put (vs := Bd.cs B1.zero) rfl) Try.underlying28 rfl Try.sizeBundle rfl)) rfl ⟨by rw [hok.out, whole_no hok.out]; rfl, MA.below_cells (by omega) _ _ _ HW0.out.below⟩
  | true =>
    have hr2 := (hrw hg).2
    have eL : L = stF (.slice (some ⟨g, 0, none⟩) xs.length xs.length) (PL.sh xs xs.length) := by rw [← HL.out, upV_good _ hg]
    subst eL
    have IW : Hid _ := fun W h => isWhole_any g xs W hn hg h
    have WH : Hid _ := fun W (hok : wholeOk xs = true) h => whole_any g xs W hn hg hok h
    clear hg hrw HL
    go_wp2_with (first
      | (refine MA.alloc_z rfl 76 rfl _ _ Try.infoStack' ?_; simp only [MA.sz_alloc])
      | (refine MA.store_m rfl 76 _ _ rfl rfl rfl (cs := stF (.slice none 0 0) PL.blank) ?_ Try.sizeStack Z_len HL1.out HL2.out ?_; exact RN.out; clear RN; generalize World.setCells _ _ _ _ = W3 at *; replace HW0 : Hid _ := HW0.out.kept HB2.out; have HRW : Hid (MP.BsAt W3 (some ⟨g, 0, none⟩) xs) := MP.BsAt.below hr2 HB2.out; clear HB2)
      | (refine MA.load_g rfl 76 _ rfl rfl (cs := stF (.slice (some ⟨g, 0, none⟩) xs.length xs.length) (PL.sh xs xs.length)) ?_ Try.underlying76 rfl Try.sizeStack (st_len _ _ _ _) ?_; exact RP.out.rng))
    refine (IW.out _ HRW.out).mono ?_
    rintro e w4 ⟨rfl, hb4⟩
    replace HW0 : Hid _ := HW0.out.kept hb4
    replace HRW : Hid (MP.BsAt w4 (some ⟨g, 0, none⟩) xs) := MP.BsAt.below HRW.out hb4
    replace RP : Hid _ := RP.out.below hb4 RP.out.lt
    clear IW hb4 hr2
    generalize w2.heap.size = q at *
    cases hok : wholeOk xs with
    | false =>
      have HOK : Hid _ := hok
      clear hok WH
      go_wp2_with (refine MA.store_m rfl 28 _ _ rfl rfl rfl (vs := Bd.cs B1.zero) (cs := Bd.cs B1.zero) ?_ Try.sizeBundle rfl rfl (MA.cs_one _) ?_; exact HW0.out.res)
      exact bodyPost_ret (MA.ret_cell2 rfl rfl rfl (MA.load_rg (HW0.out.res.put (vs := Bd.cs B1.zero) rfl) Try.underlying28 rfl Try.sizeBundle rfl)) rfl ⟨by rw [HOK.out, whole_no HOK.out]; rfl, MA.below_cells (by omega) _ _ _ HW0.out.below⟩
    | true =>
      have HOK : Hid _ := hok
      have hsz : (wholeB xs).py.size ≤ 1048576 := by
        rw [whole_yes hok]
        have hg : PL.good xs = true := by simp [wholeOk] at hok; exact hok.1.1
        have := PL.total_le hg
        show (textN (PL.total xs) (PL.sh xs xs.length).by_).size ≤ _
        have e : (textN (PL.total xs) (PL.sh xs xs.length).by_).size = PL.total xs := by simp [textN, ByteArray.size]
        omega
      have PB : Hid (∀ W : World, Calls Try.prog 39 #[.agg (wholeB xs).cs.toArray] W fun e w' => e = .returned (.agg (wholeB xs).cs.toArray) ∧ Below W.heap.size W w') := fun W => parcelBundle_any (wholeB xs) W hsz
      clear hok hsz
      go_wp2_with (refine MA.load_r rfl 76 _ rfl rfl (cs := stF (.slice (some ⟨g, 0, none⟩) xs.length xs.length) (PL.sh xs xs.length)) ?_ Try.underlying76 rfl Try.sizeStack (st_len _ _ _ _) ?_; exact RP.out.rng)
      refine (WH.out _ HOK.out HRW.out).mono ?_
      rintro e w5 ⟨rfl, hb5⟩
      replace HW0 : Hid _ := HW0.out.kept hb5
      clear WH hb5 HRW RP
      obtain ⟨O, hO⟩ : ∃ O, wholeB xs = O := ⟨_, rfl⟩
      have HO : Hid _ := hO
      rw [hO] at PB ⊢
      clear hO
      go_wp2_with fail
      refine (PB.out _).mono ?_
      rintro e w6 ⟨rfl, hb6⟩
      replace HW0 : Hid _ := HW0.out.kept hb6
      clear PB hb6
      go_wp2_with (refine MA.store_m rfl 28 _ _ rfl rfl rfl (vs := O.cs) (cs := Bd.cs B1.zero) ?_ Try.sizeBundle rfl rfl (MA.cs_one _) ?_; exact HW0.out.res)
      exact bodyPost_ret (MA.ret_cell2 rfl rfl rfl (MA.load_rg (HW0.out.res.put (vs := O.cs) rfl) Try.underlying28 rfl Try.sizeBundle rfl)) rfl ⟨by rw [HOK.out, HO.out]; rfl, MA.below_cells (by omega) _ _ _ HW0.out.below⟩
end Go.Proofs.Ythpmlefaloiapaa
