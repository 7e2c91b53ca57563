/- AddPiece of the program. -/
import Derived.Test.YtjekofjhplhemaaRows
import Derived.Test.YtjekofjhplhemaaCAddWith
import Derived.Test.YtjekofjhplhemaaCAddPile
import Derived.Test.YtjekofjhplhemaaCHas
import Derived.Test.YtjekofjhplhemaaCStackOf
import Derived.Test.YtjekofjhplhemaaCPiece
import Derived.WalkKit
import Derived.WalkSpells
import Derived.WalkLawsBesides
import Derived.Outline
namespace Go.Proofs.Ytjekofjhplhemaa
open Go.RowKit
theorem upOk_gd (xs : List Bd) : upOk xs = PL.good xs := PL.good_same xs
theorem MA.load_g {P : Program} {ops : Array Oper} {rest : List Oper} {op : Oper} {a : Act} {w : World} {Q : Exit → Act → World → Prop} (hw : Region.wanted op (yielded ops a.tmps) = true) (ty : TypeId) (x : Operand) (ho : op.op = .load ty x)
    {b o : Nat} (hx : a.eval x = .pointer (some ⟨b, o, none⟩)) {cs : List Value} {d : TypeDesc} (hc : w.rangeAt b o cs)
    (hu : P.underlying ty = some d) (hd : d.isRow = true) {n : Nat} (hi : (P.info? ty).map (·.size) = some n) (hn : cs.length = n)
    (h : wpList P ops Q rest (a.put op.dst (.agg cs.toArray)) w) : wpList P ops Q (op :: rest) a w :=
  wpList_step fun K hK => by rw [if_pos hw]; exact wp_load_mid ty x ho b o hx cs d hc hu hd (hn ▸ hi) (hK _ _ h)
/-- What AddPiece holds. -/
structure AdIn (w W : World) (b : Bd) : Prop where
  below : Below w.heap.size w W
  bx : MA.Rg W (w.heap.size + 1) 0 b.cs
  res : MA.Rg W (w.heap.size + 1 + 1) 0 [.slice none 0 0]
theorem AdIn.kept {w W W' : World} {b : Bd} (h : AdIn w W b) (hb : Below W.heap.size W W') : AdIn w W' b :=
  ⟨h.below.trans (hb.mono h.below.size), h.bx.below hb h.bx.lt, h.res.below hb h.res.lt⟩
theorem AdIn.start (w : World) (v : Value) (b : Bd) (t1 t2 : TypeId) : AdIn w (((w.alloc (.cells #[v] t1)).alloc (.cells b.cs.toArray t2)).alloc (.cells #[.slice none 0 0] t1)) b := by
  have hb : Below (w.heap.size + 1 + 1) ((w.alloc (.cells #[v] t1)).alloc (.cells b.cs.toArray t2)) (((w.alloc (.cells #[v] t1)).alloc (.cells b.cs.toArray t2)).alloc (.cells #[.slice none 0 0] t1)) := (Below.refl _ _).alloc (by simp) _
  exact ⟨(((Below.refl _ w).alloc (Nat.le_refl _) _).alloc (by simp) _).alloc (by simp; omega) _, (MA.Rg.new' (w.alloc (.cells #[v] t1)) b.cs t2 (w.heap.size + 1) (by simp)).below hb (by omega), MA.Rg.new' ((w.alloc (.cells #[v] t1)).alloc (.cells b.cs.toArray t2)) [.slice none 0 0] t1 (w.heap.size + 1 + 1) (by simp)⟩
theorem Try.infoParcelC : (Try.prog.info? 94).map (fun i => (i.zero, i.size)) = some (some (.agg (Bd.cs B1.zero).toArray), 10) := by kernel_rfl
theorem upV_gd {xs : List Bd} (v : Value) (h : PL.good xs = true) : upV xs v = stF v (PL.sh xs xs.length) := by
  have : upOk xs = true := by rw [upOk_gd]; exact h
  unfold upV; rw [if_pos this]
theorem put_small {xs : List Bd} {b : Bd} (ht : Hid (∀ k, k < xs.length → (MP.at_ xs k).py.size ≤ 1048576)) (hs : b.py.size ≤ 1048576) : ∀ k, k < (PD.put xs b (PD.cut xs b)).length → (MP.at_ (PD.put xs b (PD.cut xs b)) k).py.size ≤ 1048576 := by
  have hm : ∀ x, x ∈ xs → x.py.size ≤ 1048576 := fun x hx => by
    obtain ⟨i, hi, rfl⟩ := List.getElem_of_mem hx
    rw [← MP.at_eq xs i hi]; exact ht.out i hi
  intro k hk
  rw [MP.at_eq _ k hk]
  have hmem := List.getElem_mem hk
  generalize (PD.put xs b (PD.cut xs b))[k] = x at *
  unfold PD.put at hmem
  rcases List.mem_append.1 hmem with h | h
  · exact hm x (List.mem_of_mem_take h)
  · rcases List.mem_cons.1 h with rfl | h
    · exact hs
    · exact hm x (List.mem_of_mem_drop h)
set_option linter.unusedSimpArgs false in
set_option maxHeartbeats 1600000 in
set_option maxRecDepth 100000 in
theorem implAdd_any (a : Option Addr) (cap : Nat) (xs : List Bd) (b : Bd) (w : World) (hn : xs.length ≤ 1048576) (hs : b.py.size ≤ 1048576) (ht : Hid (∀ k, k < xs.length → (MP.at_ xs k).py.size ≤ 1048576)) (hin : MP.BsAt w a xs) :
    Calls Try.prog 14 #[.agg #[.slice a xs.length cap], .agg b.cs.toArray] w fun e w' => ∃ a1 c1 g', e = .returned (.tuple #[.agg #[.slice a1 (PD.ans xs b).1.length c1], .bool (PD.ans xs b).2]) ∧ w.heap.size ≤ g' ∧ ((PD.ans xs b).1.length = 0 ∨ (a1 = some ⟨g', 0, none⟩ ∧ MA.Rg w' g' 0 (MP.flat (PD.ans xs b).1))) ∧ Below w.heap.size w w' := by
  have SO : Hid _ := fun W h => stackOfG_any a cap xs W hn ht h
  have HW : Hid _ := AdIn.start w (.slice a xs.length cap) b 31 35
  have HI : Hid _ := hin.below HW.out.below
  clear hin
  go_enter Try.func14, Try.ntmps14
  go_wp2_with fail
  refine (SO.out _ HI.out).mono ?_
  rintro e w2 ⟨g, rfl, hrw, hb2⟩
  replace HW : Hid _ := HW.out.kept hb2
  clear SO HI hb2
  rw [upOk_gd] at hrw ⊢
  obtain ⟨L, hL⟩ : ∃ L, upV xs (.slice (some ⟨g, 0, none⟩) xs.length xs.length) = L := ⟨_, rfl⟩
  have HL : Hid _ := hL
  have HL1 : Hid (L.length = 121) := by rw [← hL]; exact upV_len _ _ _ _
  have HL2 : Hid (∀ v ∈ L, v.oneCell' = true) := by rw [← hL]; exact upV_one _ _ _ _
  rw [hL]
  clear hL
  have RN : Hid _ := MA.Rg.new w2 (stF (.slice none 0 0) PL.blank) 88
  have RP : Hid (MA.Rg (World.setCells (w2.alloc (.cells (stF (.slice none 0 0) PL.blank).toArray 88)) w2.heap.size 0 L) w2.heap.size 0 L) := RN.out.put (by rw [Z_len]; exact HL1.out)
  have HB2 : Hid (Below w2.heap.size w2 (World.setCells (w2.alloc (.cells (stF (.slice none 0 0) PL.blank).toArray 88)) w2.heap.size 0 L)) := MA.below_cells (b := w2.heap.size) (Nat.le_refl _) L 0 _ ((Below.refl _ w2).alloc (Nat.le_refl _) _)
  have PO : Hid (∀ W, Calls Try.prog 48 #[.agg b.cs.toArray] W fun e w' => e = .returned (.agg b.cs.toArray) ∧ Below W.heap.size W w') := fun W => parcelOf_any b W
  go_wp2_with (first
      | (refine MA.alloc_z rfl 88 rfl _ _ Try.infoStack' ?_; simp only [MA.sz_alloc])
      | (refine MA.store_m rfl 88 _ _ rfl rfl rfl (cs := stF (.slice none 0 0) PL.blank) ?_ Try.sizeStack Z_len HL1.out HL2.out ?_; exact RN.out; clear RN; generalize World.setCells _ _ _ _ = W3 at *; replace HW : Hid _ := HW.out.kept HB2.out; have HBX : Hid _ := HW.out.bx.rng)
      | (refine MA.load_r rfl 35 _ rfl rfl (cs := b.cs) ?_ Try.underlying35 rfl Try.sizeBundle rfl ?_; exact HBX.out))
  refine (PO.out _).mono ?_
  rintro e w4 ⟨rfl, hb4⟩
  replace HW : Hid _ := HW.out.kept hb4
  replace RP : Hid _ := RP.out.below hb4 RP.out.lt
  have H24 : Hid (Below w2.heap.size w2 w4) := HB2.out.trans (hb4.mono HB2.out.size)
  clear PO hb4 HB2 HBX
  have QN : Hid _ := MA.Rg.new w4 (Bd.cs B1.zero) 94
  have QP : Hid (MA.Rg (World.setCells (w4.alloc (.cells (Bd.cs B1.zero).toArray 94)) w4.heap.size 0 b.cs) w4.heap.size 0 b.cs) := QN.out.put rfl
  have HB4 : Hid (Below w4.heap.size w4 (World.setCells (w4.alloc (.cells (Bd.cs B1.zero).toArray 94)) w4.heap.size 0 b.cs)) := MA.below_cells (b := w4.heap.size) (Nat.le_refl _) b.cs 0 _ ((Below.refl _ w4).alloc (Nat.le_refl _) _)
  cases hg : PL.good xs with
  | false =>
    have HANS : Hid (PD.ans xs b = ([], false)) := by show _ = _; simp [PD.ans, hg]
    clear hg hrw HL RP H24 QP HL1 HL2
    go_wp2_with (first
      | (refine MA.alloc_z rfl 94 rfl _ _ Try.infoParcelC ?_; simp only [MA.sz_alloc])
      | (refine MA.store_m rfl 94 _ _ rfl rfl rfl (cs := Bd.cs B1.zero) ?_ Try.sizeParcel rfl rfl (MA.cs_one b) ?_; exact QN.out; clear QN; generalize World.setCells _ _ _ _ = W5 at *; replace HW : Hid _ := HW.out.kept HB4.out; clear HB4)
      | (refine MA.store_m rfl 31 _ _ rfl rfl rfl (cs := [.slice none 0 0]) ?_ Try.sizePileAP rfl rfl (by simp [Value.oneCell']) ?_; exact HW.out.res))
    exact bodyPost_ret (MA.ret_cell2 rfl rfl rfl (MA.load_rg (HW.out.res.put (vs := [.slice none 0 0]) rfl) Try.underlying31 rfl Try.sizePileAP rfl)) rfl ⟨none, 0, w.heap.size, by rw [HANS.out]; rfl, Nat.le_refl _, .inl (by rw [HANS.out]; rfl), MA.below_cells (by omega) _ _ _ HW.out.below⟩
  | true =>
    have hr2 := hrw hg
    have eL : L = stF (.slice (some ⟨g, 0, none⟩) xs.length xs.length) (PL.sh xs xs.length) := by rw [← HL.out, upV_gd _ hg]
    subst eL
    have hx60 : xs.length ≤ 60 := by
      have : upOk xs = true := by rw [upOk_gd]; exact hg
      simp [upOk] at this; exact this.1
    have HROW : Hid (MP.BsAt w2 (some ⟨g, 0, none⟩) xs ∧ g < w2.heap.size) := ⟨hr2.2.1, hr2.2.2⟩
    have IGP : Hid _ := fun W R hR => isGoodPiece_any b W hs R hR
    have HGD : Hid _ := hg
    clear hg hrw HL hr2
    generalize PL.sh xs xs.length = sh at *
    go_wp2_with (first
      | (refine MA.alloc_z rfl 94 rfl _ _ Try.infoParcelC ?_; simp only [MA.sz_alloc])
      | (refine MA.store_m rfl 94 _ _ rfl rfl rfl (cs := Bd.cs B1.zero) ?_ Try.sizeParcel rfl rfl (MA.cs_one b) ?_; exact QN.out; clear QN; generalize World.setCells _ _ _ _ = W5 at *; replace HW : Hid _ := HW.out.kept HB4.out; replace H24 : Hid (Below w2.heap.size w2 W5) := H24.out.trans (HB4.out.mono H24.out.size); replace RP : Hid _ := RP.out.below HB4.out RP.out.lt; clear HB4; have QR : Hid _ := QP.out.rng)
      | (refine MA.load_r rfl 94 _ rfl rfl (cs := b.cs) ?_ Try.underlying94 rfl Try.sizeParcel rfl ?_; exact QR.out)
      | (refine MA.load_g rfl 94 _ rfl rfl (cs := b.cs) ?_ Try.underlying94 rfl Try.sizeParcel rfl ?_; exact QR.out))
    refine (IGP.out _ _ rfl).mono ?_
    rintro e w6 ⟨rfl, hb6⟩
    replace HW : Hid _ := HW.out.kept hb6
    replace H24 : Hid (Below w2.heap.size w2 w6) := H24.out.trans (hb6.mono H24.out.size)
    replace RP : Hid _ := RP.out.below hb6 RP.out.lt
    replace QP : Hid _ := QP.out.below hb6 QP.out.lt
    clear IGP hb6 QR
    cases hpg : PL.pg b with
    | false =>
      have HANS : Hid (PD.ans xs b = ([], false)) := by show _ = _; simp [PD.ans, hpg]
      clear hpg RP QP H24 HROW HGD HL1 HL2
      go_wp2_with (refine MA.store_m rfl 31 _ _ rfl rfl rfl (cs := [.slice none 0 0]) ?_ Try.sizePileAP rfl rfl (by simp [Value.oneCell']) ?_; exact HW.out.res)
      exact bodyPost_ret (MA.ret_cell2 rfl rfl rfl (MA.load_rg (HW.out.res.put (vs := [.slice none 0 0]) rfl) Try.underlying31 rfl Try.sizePileAP rfl)) rfl ⟨none, 0, w.heap.size, by rw [HANS.out]; rfl, Nat.le_refl _, .inl (by rw [HANS.out]; rfl), MA.below_cells (by omega) _ _ _ HW.out.below⟩
    | true =>
      have HR6 : Hid (MP.BsAt w6 (some ⟨g, 0, none⟩) xs) := HROW.out.1.below H24.out
      have HG6 : Hid (g < w6.heap.size) := Nat.lt_of_lt_of_le HROW.out.2 H24.out.size
      have HPG : Hid _ := hpg
      have HA : Hid _ := hasP_any b g xs sh w6 hx60 HR6.out
      have SR : Hid _ := RP.out.rng
      have QR : Hid _ := QP.out.rng
      have hq6 := RP.out.lt
      have hq7 := QP.out.lt
      clear hpg HROW
      go_wp2_with (first
        | (refine MA.load_r rfl 88 _ rfl rfl (cs := stF (.slice (some ⟨g, 0, none⟩) xs.length xs.length) sh) ?_ Try.underlying88 rfl Try.sizeStack (st_len _ _ _ _) ?_; exact SR.out)
        | (refine MA.load_r rfl 94 _ rfl rfl (cs := b.cs) ?_ Try.underlying94 rfl Try.sizeParcel rfl ?_; exact QR.out))
      refine Calls.mono HA.out ?_
      rintro e w7 ⟨rfl, hb7⟩
      replace HW : Hid _ := HW.out.kept hb7
      replace RP : Hid _ := RP.out.below hb7 RP.out.lt
      replace QP : Hid _ := QP.out.below hb7 QP.out.lt
      have HR7 : Hid _ := HR6.out.below hb7
      have HG7 : Hid (g < w7.heap.size) := Nat.lt_of_lt_of_le HG6.out hb7.size
      clear HA SR QR hb7 HR6 HG6 hq6 hq7
      cases hany : xs.any (sameP b) with
      | true =>
        have HANS : Hid (PD.ans xs b = (xs, true)) := by
          show _ = _
          have h1 := HGD.out
          have h2 := HPG.out
          have h3 : xs.any (PD.same b) = true := hany
          simp [PD.ans, h1, h2, h3]
        have PL7 : Hid _ := pile_any g xs sh w7 hx60 ht HR7.out
        have HW7 := HW.out.res.lt
        have SR : Hid _ := RP.out.rng
        have hq6 := RP.out.lt
        clear hany HR7 HG7 HGD HPG
        go_wp2_with (refine MA.load_r rfl 88 _ rfl rfl (cs := stF (.slice (some ⟨g, 0, none⟩) xs.length xs.length) sh) ?_ Try.underlying88 rfl Try.sizeStack (st_len _ _ _ _) ?_; exact SR.out)
        refine Calls.mono PL7.out ?_
        rintro e w8 ⟨g', rfl, hgg, hrg, hb8⟩
        replace HW : Hid _ := HW.out.kept hb8
        have HRG : Hid _ := hrg
        have HGG : Hid (w.heap.size + 1 + 1 < g') := by show _ < _; have := HW7; omega
        clear PL7 SR RP QP hrg hb8 hq6
        go_wp2_with (refine MA.store_m rfl 31 _ _ rfl rfl rfl (cs := [.slice none 0 0]) ?_ Try.sizePileAP rfl rfl (by simp [Value.oneCell']) ?_; exact HW.out.res)
        exact bodyPost_ret (MA.ret_cell2 rfl rfl rfl (MA.load_rg (HW.out.res.put (vs := [.slice (some ⟨g', 0, none⟩) xs.length xs.length]) rfl) Try.underlying31 rfl Try.sizePileAP rfl)) rfl ⟨some ⟨g', 0, none⟩, xs.length, g', by rw [HANS.out]; rfl, by have := HGG.out; omega, .inr (by rw [HANS.out]; exact ⟨rfl, HRG.out.other (.inl (by have := HGG.out; omega))⟩), MA.below_cells (by omega) _ _ _ HW.out.below⟩
      | false =>
        have HAN : Hid (xs.any (PD.same b) = false) := hany
        have PW : Hid _ := withP_any b g xs sh w7 HG7.out hx60 hs ht HR7.out
        have SR : Hid _ := RP.out.rng
        have QR : Hid _ := QP.out.rng
        have hq6 := RP.out.lt
        have hq7 := QP.out.lt
        clear hany HR7 HG7
        go_wp2_with (first
          | (refine MA.load_r rfl 88 _ rfl rfl (cs := stF (.slice (some ⟨g, 0, none⟩) xs.length xs.length) sh) ?_ Try.underlying88 rfl Try.sizeStack (st_len _ _ _ _) ?_; exact SR.out)
          | (refine MA.load_r rfl 94 _ rfl rfl (cs := b.cs) ?_ Try.underlying94 rfl Try.sizeParcel rfl ?_; exact QR.out))
        refine Calls.mono PW.out ?_
        rintro e w8 ⟨g2, rfl, hgg2, hin8, hb8⟩
        replace HW : Hid _ := HW.out.kept hb8
        clear PW SR QR RP QP hb8 hq6 hq7
        have hyl := PD.put_len (xs := xs) (b := b) (k := PD.cut xs b) (PD.cut_spec xs b).1
        have hyt : Hid (∀ k, k < (PD.put xs b (PD.cut xs b)).length → (MP.at_ (PD.put xs b (PD.cut xs b)) k).py.size ≤ 1048576) := put_small ht hs
        have HANG : Hid (PL.good (PD.put xs b (PD.cut xs b)) = true → PD.ans xs b = (PD.put xs b (PD.cut xs b), true)) := fun h => by
          have h1 := HGD.out
          have h2 := HPG.out
          have h3 := HAN.out
          simp [PD.ans, h1, h2, h3, h]
        have HANB : Hid (PL.good (PD.put xs b (PD.cut xs b)) = false → PD.ans xs b = ([], false)) := fun h => by
          have h1 := HGD.out
          have h2 := HPG.out
          have h3 := HAN.out
          simp [PD.ans, h1, h2, h3, h]
        generalize PD.put xs b (PD.cut xs b) = ys at *
        have UP := stackUp_any (some ⟨g2, 0, none⟩) ys.length ys w8 (by omega) hyt hin8
        rw [upOk_gd] at UP
        have HUP : Hid _ := UP
        have HIN : Hid _ := hin8
        rw [← hyl]
        clear UP hin8 HGD HPG HAN hyl
        go_wp2_with fail
        refine Calls.mono HUP.out ?_
        rintro e w9 ⟨rfl, hb9⟩
        replace HW : Hid _ := HW.out.kept hb9
        have HIN9 : Hid (MP.BsAt w9 (some ⟨g2, 0, none⟩) ys) := MP.BsAt.below HIN.out hb9
        obtain ⟨L2, hL2⟩ : ∃ L, upV ys (.slice (some ⟨g2, 0, none⟩) ys.length ys.length) = L := ⟨_, rfl⟩
        have HLL : Hid _ := hL2
        have HM1 : Hid (L2.length = 121) := by rw [← hL2]; exact upV_len _ _ _ _
        have HM2 : Hid (∀ v ∈ L2, v.oneCell' = true) := by rw [← hL2]; exact upV_one _ _ _ _
        rw [hL2]
        have TN : Hid _ := MA.Rg.new w9 (stF (.slice none 0 0) PL.blank) 88
        have TP : Hid (MA.Rg (World.setCells (w9.alloc (.cells (stF (.slice none 0 0) PL.blank).toArray 88)) w9.heap.size 0 L2) w9.heap.size 0 L2) := TN.out.put (by rw [Z_len]; exact HM1.out)
        have HB9 : Hid (Below w9.heap.size w9 (World.setCells (w9.alloc (.cells (stF (.slice none 0 0) PL.blank).toArray 88)) w9.heap.size 0 L2)) := MA.below_cells (b := w9.heap.size) (Nat.le_refl _) L2 0 _ ((Below.refl _ w9).alloc (Nat.le_refl _) _)
        clear hL2 HUP HIN hb9
        cases hgy : PL.good ys with
        | false =>
          have HANS : Hid _ := HANB.out hgy
          clear hgy HANB HANG TP HLL HIN9
          go_wp2_with (first
            | (refine MA.alloc_z rfl 88 rfl _ _ Try.infoStack' ?_; simp only [MA.sz_alloc])
            | (refine MA.store_m rfl 88 _ _ rfl rfl rfl (cs := stF (.slice none 0 0) PL.blank) ?_ Try.sizeStack Z_len HM1.out HM2.out ?_; exact TN.out; clear TN; generalize World.setCells _ _ _ _ = W10 at *; replace HW : Hid _ := HW.out.kept HB9.out; clear HB9)
            | (refine MA.store_m rfl 31 _ _ rfl rfl rfl (cs := [.slice none 0 0]) ?_ Try.sizePileAP rfl rfl (by simp [Value.oneCell']) ?_; exact HW.out.res))
          exact bodyPost_ret (MA.ret_cell2 rfl rfl rfl (MA.load_rg (HW.out.res.put (vs := [.slice none 0 0]) rfl) Try.underlying31 rfl Try.sizePileAP rfl)) rfl ⟨none, 0, w.heap.size, by rw [HANS.out]; rfl, Nat.le_refl _, .inl (by rw [HANS.out]; rfl), MA.below_cells (by omega) _ _ _ HW.out.below⟩
        | true =>
          have HANS : Hid _ := HANG.out hgy
          have eL2 : L2 = stF (.slice (some ⟨g2, 0, none⟩) ys.length ys.length) (PL.sh ys ys.length) := by rw [← HLL.out, upV_gd _ hgy]
          subst eL2
          have hy60 : ys.length ≤ 60 := by
            have : upOk ys = true := by rw [upOk_gd]; exact hgy
            simp [upOk] at this; exact this.1
          clear hgy HANB HANG HLL
          generalize PL.sh ys ys.length = sh2 at *
          go_wp2_with (first
            | (refine MA.alloc_z rfl 88 rfl _ _ Try.infoStack' ?_; simp only [MA.sz_alloc])
            | (refine MA.store_m rfl 88 _ _ rfl rfl rfl (cs := stF (.slice none 0 0) PL.blank) ?_ Try.sizeStack Z_len HM1.out HM2.out ?_; exact TN.out; clear TN; generalize World.setCells _ _ _ _ = W10 at *; replace HW : Hid _ := HW.out.kept HB9.out; replace HIN9 : Hid (MP.BsAt W10 (some ⟨g2, 0, none⟩) ys) := MP.BsAt.below HIN9.out HB9.out; clear HB9; have SR2 : Hid _ := TP.out.rng)
            | (refine MA.load_r rfl 88 _ rfl rfl (cs := stF (.slice (some ⟨g2, 0, none⟩) ys.length ys.length) sh2) ?_ Try.underlying88 rfl Try.sizeStack (st_len _ _ _ _) ?_; exact SR2.out))
          have PL9 : Hid _ := pile_any g2 ys sh2 W10 hy60 hyt HIN9.out
          have HW7 := HW.out.res.lt
          refine Calls.mono PL9.out ?_
          rintro e w11 ⟨g', rfl, hgg, hrg, hb11⟩
          replace HW : Hid _ := HW.out.kept hb11
          have HRG : Hid _ := hrg
          have HGG : Hid (w.heap.size + 1 + 1 < g') := by show _ < _; omega
          clear PL9 SR2 TP hrg hb11
          go_wp2_with (refine MA.store_m rfl 31 _ _ rfl rfl rfl (cs := [.slice none 0 0]) ?_ Try.sizePileAP rfl rfl (by simp [Value.oneCell']) ?_; exact HW.out.res)
          exact bodyPost_ret (MA.ret_cell2 rfl rfl rfl (MA.load_rg (HW.out.res.put (vs := [.slice (some ⟨g', 0, none⟩) ys.length ys.length]) rfl) Try.underlying31 rfl Try.sizePileAP rfl)) rfl ⟨some ⟨g', 0, none⟩, ys.length, g', by rw [HANS.out]; rfl, by have := HGG.out; omega, .inr (by rw [HANS.out]; exact ⟨rfl, HRG.out.other (.inl (by have := HGG.out; omega))⟩), MA.below_cells (by omega) _ _ _ HW.out.below⟩
end Go.Proofs.Ytjekofjhplhemaa
