import Derived.Test.YtdgflhgbcfehhaaRows
import Derived.Test.YtdgflhgbcfehhaaCStackOf
import Derived.Test.YtdgflhgbcfehhaaMPD
import Derived.Test.YtdgflhgbcfehhaaCPiece
import Derived.WalkKit
import Derived.WalkSpells
import Derived.WalkLawsBesides
import Derived.Outline
import Derived.Test.YtdgflhgbcfehhaaCParcelBundle
import Derived.Test.YtdgflhgbcfehhaaMPC
import Derived.Test.YtdgflhgbcfehhaaMRH
import Derived.Deep.RegionHeld3
import Derived.Test.YtdgflhgbcfehhaaM1
/- Whether a stack has a piece (AddPiece). -/
namespace Go.Proofs.Ytdgflhgbcfehhaa
open Go.RowKit
theorem list_eqB (a b : ByteArray) : (a.toList == b.toList) = decide (a = b) := by
  by_cases h : a = b
  · subst h; simp
  · rw [decide_eq_false h, beq_eq_false_iff_ne, ByteArray.toList_eq, ByteArray.toList_eq]
    intro e
    exact h (ByteArray.ext (by rw [← Array.toList_inj]; exact e))
/-- The same piece. -/
abbrev sameP (a b : Bd) : Bool := PD.same a b
set_option linter.unusedSimpArgs false in
set_option maxHeartbeats 400000 in
set_option maxRecDepth 100000 in
theorem isSameP_any (a b : Bd) (w : World) (R : Bool) (hR : Hid (sameP a b = R)) :
    Calls Try.prog 62 #[a.v, b.v] w fun e w' => e = .returned (.bool R) ∧ Below w.heap.size w w' := by
  have hA0 := BdAt.box w a 62
  have hA := hA0.below ((Below.refl _ _).alloc (Nat.le_refl _) (.cells #[.int .i64 b.fr, .int .i64 b.to, .bool b.gr, .int .i64 b.md, .int .i64 b.no, .int .i64 b.lf, .int .i64 b.hp, .int .i64 b.of, .int .i64 b.tl, .string b.py] 62)) hA0.1
  have hC : BdAt _ (w.heap.size + 1) b := BdAt.box' (w.alloc (.cells #[.int .i64 a.fr, .int .i64 a.to, .bool a.gr, .int .i64 a.md, .int .i64 a.no, .int .i64 a.lf, .int .i64 a.hp, .int .i64 a.of, .int .i64 a.tl, .string a.py] 62)) b 62 (w.heap.size + 1) (by simp)
  have hB : Below w.heap.size w _ := ((Below.refl _ w).alloc (Nat.le_refl _) (.cells #[.int .i64 a.fr, .int .i64 a.to, .bool a.gr, .int .i64 a.md, .int .i64 a.no, .int .i64 a.lf, .int .i64 a.hp, .int .i64 a.of, .int .i64 a.tl, .string a.py] 62)).alloc (by simp) (.cells #[.int .i64 b.fr, .int .i64 b.to, .bool b.gr, .int .i64 b.md, .int .i64 b.no, .int .i64 b.lf, .int .i64 b.hp, .int .i64 b.of, .int .i64 b.tl, .string b.py] 62)
  have HS : Hid _ := And.intro hB (And.intro hA hC)
  obtain ⟨r, hr⟩ : ∃ r, PL.one a b = r := ⟨_, rfl⟩
  have OW : Hid _ := fun W => isOfOneWith_any a b W r hr
  have HR : Hid ((r && decide (a.of = b.of) && decide (a.py = b.py)) = R) := by have := hR.out; rw [sameP, PD.same, hr] at this; exact this
  clear hA0 hA hC hB hr hR
  go_enter Try.func62, Try.ntmps62
  go_wp2_with fail
  refine Calls.mono (OW.out _) ?_
  rintro e w2 ⟨rfl, hb2⟩
  have hS := keep2 HS.out hb2
  have hB2 := hS.1
  have c7 := hS.2.1.2.2.2.2.2.2.2.2.1
  have c9 := hS.2.1.2.2.2.2.2.2.2.2.2.2
  have d7 := hS.2.2.2.2.2.2.2.2.2.2.1
  have d9 := hS.2.2.2.2.2.2.2.2.2.2.2.2
  clear hS hb2 OW HS
  cases r with
  | false =>
    go_wp2
    go_ret
    refine ⟨?_, hB2⟩
    rw [← HR.out]; simp
  | true =>
    go_wp2
    · rename_i ho
      go_ret
      refine ⟨?_, hB2⟩
      rw [← HR.out, ho, list_eqB]; simp
    · rename_i ho
      go_ret
      refine ⟨?_, hB2⟩
      rw [← HR.out]; simp [ho]
set_option linter.unusedSimpArgs false in
set_option maxHeartbeats 800000 in
set_option maxRecDepth 100000 in
/-- The first place at which a piece is the same, at a row of pieces. -/
theorem indexP_any (x : Bd) (g cap : Nat) (xs : List Bd) (w : World) (hn : xs.length ≤ 60) (hin : MP.BsAt w (some ⟨g, 0, none⟩) xs) :
    Calls Try.prog 69 #[.slice (some ⟨g, 0, none⟩) xs.length cap, .func (.func 62) #[.agg x.cs.toArray] #[]] w fun e w' => (∃ r : Int, e = .returned (.int .i64 r) ∧ (decide (0 ≤ r) = xs.any (sameP x))) ∧ Below w.heap.size w w' := by
  go_enter Try.func69, Try.ntmps69
  go_wp2
  go_loopw [8] (fun iv wr => ∃ k : Nat, iv = .int .i64 k ∧ k ≤ xs.length ∧ Below w.heap.size w wr ∧ ∀ i, i < k → sameP x (MP.at_ xs i) = false) (fun iv _ => (xs.length - intOf iv).toNat)
  case atStart => exact ⟨0, rfl, by omega, Below.refl _ _, fun i hi => absurd hi (by omega)⟩
  case round =>
    obtain ⟨k, rfl, hk, hB, hno⟩ := hrel
    have HNO : Hid _ := hno
    clear hno
    by_cases hl : k < xs.length
    · obtain ⟨b, off, hab, hbl0, rg⟩ := MA.row_range (hin.below hB) hl
      cases hab
      rw [Nat.zero_add] at rg
      have RG : Hid _ := rg
      obtain ⟨y, hy⟩ : ∃ y, MP.at_ xs k = y := ⟨_, rfl⟩
      rw [hy] at RG
      have HY : Hid (MP.at_ xs k = y) := hy
      obtain ⟨r, hr⟩ : ∃ r, sameP x y = r := ⟨_, rfl⟩
      have SP : Hid (∀ W, Calls Try.prog 62 #[.agg x.cs.toArray, .agg y.cs.toArray] W fun e w' => e = .returned (.bool r) ∧ Below W.heap.size W w') := fun W => isSameP_any x y W r hr
      have HR : Hid _ := hr
      have hk0 : (0 : Int) ≤ (k : Int) := by omega
      have hkn : (k : Int) < (xs.length : Int) := by omega
      clear hy rg hr
      go_wp2_with (first
        | (refine MA.load_r rfl 62 _ rfl rfl (cs := y.cs) ?_ Try.underlying62 rfl Try.sizeParcel rfl ?_; exact RG.out))
      refine Calls.mono (SP.out _) ?_
      rintro e w2 ⟨rfl, hb2⟩
      have hB2 := hB.trans (hb2.mono hB.size)
      clear hb2 SP RG
      cases r with
      | true =>
        have hany : Hid (xs.any (sameP x) = true) := List.any_eq_true.2 ⟨xs[k], List.getElem_mem hl, by rw [← MP.at_eq xs k hl, HY.out]; exact HR.out⟩
        go_wp2
        go_ret
        exact ⟨⟨k, rfl, by rw [hany.out]; simp⟩, hB2⟩
      | false =>
        go_wp2
        go_roundw
        case rel => exact ⟨k + 1, by go_num, by omega, hB2, fun i hi => if e : i = k then by rw [e, HY.out]; exact HR.out else HNO.out i (by omega)⟩
        case measure => simp [intOf]; omega
    · obtain rfl : k = xs.length := by omega
      have hany : Hid (xs.any (sameP x) = false) := by
        show _ = _
        rw [List.any_eq_false]
        intro y hy
        obtain ⟨i, hi, rfl⟩ := List.getElem_of_mem hy
        have := HNO.out i hi
        rw [MP.at_eq xs i hi] at this
        simp [this]
      go_wp2
      go_ret
      exact ⟨⟨-1, rfl, by rw [hany.out]; rfl⟩, hB⟩
set_option linter.unusedSimpArgs false in
set_option maxHeartbeats 800000 in
set_option maxRecDepth 100000 in
theorem containsP_any (x : Bd) (g cap : Nat) (xs : List Bd) (w : World) (hn : xs.length ≤ 60) (hin : MP.BsAt w (some ⟨g, 0, none⟩) xs) :
    Calls Try.prog 61 #[.slice (some ⟨g, 0, none⟩) xs.length cap, .func (.func 62) #[.agg x.cs.toArray] #[]] w fun e w' => e = .returned (.bool (xs.any (sameP x))) ∧ Below w.heap.size w w' := by
  have IX : Hid _ := indexP_any x g cap xs w hn hin
  go_enter Try.func61, Try.ntmps61
  go_wp2_with fail
  refine Calls.mono IX.out ?_
  rintro e w2 ⟨⟨r, rfl, hr⟩, hb2⟩
  have HR : Hid _ := hr
  clear hr IX
  go_wp2
  go_ret
  refine ⟨?_, hb2⟩
  rw [← HR.out]; rfl
set_option linter.unusedSimpArgs false in
set_option maxHeartbeats 800000 in
set_option maxRecDepth 100000 in
theorem hasP_any (x : Bd) (g : Nat) (xs : List Bd) (s : PL.Sh) (w : World) (hn : xs.length ≤ 60) (hin : MP.BsAt w (some ⟨g, 0, none⟩) xs) :
    Calls Try.prog 40 #[.agg (stF (.slice (some ⟨g, 0, none⟩) xs.length xs.length) s).toArray, .agg x.cs.toArray] w fun e w' => e = .returned (.bool (xs.any (sameP x))) ∧ Below w.heap.size w w' := by
  have hL0 : (stF (.slice (some ⟨g, 0, none⟩) xs.length xs.length) s)[0]? = some (.slice (some ⟨g, 0, none⟩) xs.length xs.length) := rfl
  generalize stF (.slice (some ⟨g, 0, none⟩) xs.length xs.length) s = L at *
  have hB : Below w.heap.size w ((w.alloc (.cells L.toArray 75)).alloc (.cells x.cs.toArray 62)) := ((Below.refl _ w).alloc (Nat.le_refl _) _).alloc (by simp) _
  have CO : Hid _ := containsP_any x g xs.length xs _ hn (hin.below hB)
  have RX := MA.Rg.new' (w.alloc (.cells L.toArray 75)) x.cs 62 (w.heap.size + 1) (by simp)
  have HX : Hid _ := RX
  clear RX
  go_enter Try.func40, Try.ntmps40
  go_wp2_with (first
    | (refine MA.load_r rfl 62 _ rfl rfl (cs := x.cs) ?_ Try.underlying62 rfl Try.sizeParcel rfl ?_; exact HX.out.rng))
  refine Calls.mono CO.out ?_
  rintro e w2 ⟨rfl, hb2⟩
  have hB2 := hB.trans (hb2.mono hB.size)
  clear hb2 CO HX hB
  go_wp2
  go_ret
  exact ⟨rfl, hB2⟩
end Go.Proofs.Ytdgflhgbcfehhaa

/- A stack's pile (AddPiece), at any stack. -/
namespace Go.Proofs.Ytdgflhgbcfehhaa
open Go.RowKit
theorem Try.infoBundleAP : (Try.prog.info? 24).map (fun i => (i.zero, i.size, i.bytes)) = some (some (.agg (Bd.cs B1.zero).toArray), 10, 88) := by kernel_rfl
theorem Try.infoParcelAP : (Try.prog.info? 62).map (fun i => (i.zero, i.size)) = some (some (.agg (Bd.cs B1.zero).toArray), 10) := by kernel_rfl
theorem Try.sizePileAP : (Try.prog.info? 31).map (·.size) = some 1 := by kernel_rfl
/-- What the loop holds: the row that is being made lies at G, the result's cell at K. -/
structure PlIn (w W : World) (G K : Nat) (cs : List Value) : Prop where
  below : Below w.heap.size w W
  res : MA.Rg W K 0 [.slice none 0 0]
  row : MA.Rg W G 0 cs
theorem PlIn.kept {w W W' : World} {G K : Nat} {cs : List Value} (h : PlIn w W G K cs) (hb : Below W.heap.size W W') : PlIn w W' G K cs :=
  ⟨h.below.trans (hb.mono h.below.size), h.res.below hb h.res.lt, h.row.below hb h.row.lt⟩
theorem PlIn.put {w W : World} {G K k : Nat} {xs : List Bd} {m : List Value} (h : PlIn w W G K (MP.mix xs m k)) (hG : w.heap.size ≤ G) (hK : K ≠ G) (hm : m.length = xs.length * 10) (hk : k < xs.length) : PlIn w (W.setCells G (k * 10) (MP.at_ xs k).cs) G K (MP.mix xs m (k + 1)) := by
  have hl := MP.mix_len xs m k hm (by omega)
  have hc : (MP.at_ xs k).cs.length = 10 := rfl
  have q := h.row.mid (p := k * 10) (vs := (MP.at_ xs k).cs) (by omega)
  rw [MA.mix_mid xs m k hm hk, Nat.zero_add] at q
  exact ⟨MA.below_cells hG _ _ _ h.below, h.res.other (.inl hK), q⟩
set_option linter.unusedSimpArgs false in
set_option maxHeartbeats 1600000 in
set_option maxRecDepth 100000 in
theorem pile_any (g : Nat) (xs : List Bd) (s : PL.Sh) (w : World) (hn : xs.length ≤ 60) (ht : Hid (∀ k, k < xs.length → (MP.at_ xs k).py.size ≤ 1048576)) (hin : MP.BsAt w (some ⟨g, 0, none⟩) xs) :
    Calls Try.prog 41 #[.agg (stF (.slice (some ⟨g, 0, none⟩) xs.length xs.length) s).toArray] w fun e w' => ∃ g', e = .returned (.agg #[.slice (some ⟨g', 0, none⟩) xs.length xs.length]) ∧ w.heap.size ≤ g' ∧ MA.Rg w' g' 0 (MP.flat xs) ∧ Below w.heap.size w w' := by
  obtain ⟨i0, hi, hz0, hz1, hz2⟩ := info_parts Try.infoBundleAP
  have r0 := MA.Rg.new w (stF (.slice (some ⟨g, 0, none⟩) xs.length xs.length) s) 75
  have c0 : (w.alloc (.cells (stF (.slice (some ⟨g, 0, none⟩) xs.length xs.length) s).toArray 75)).cell? ⟨w.heap.size, 0, none⟩ = some (.slice (some ⟨g, 0, none⟩) xs.length xs.length) := r0.cell (j := 0) rfl
  have hB : Below w.heap.size w (w.alloc (.cells (stF (.slice (some ⟨g, 0, none⟩) xs.length xs.length) s).toArray 75)) := (Below.refl _ w).alloc (Nat.le_refl _) _
  have hL0 : (stF (.slice (some ⟨g, 0, none⟩) xs.length xs.length) s)[0]? = some (.slice (some ⟨g, 0, none⟩) xs.length xs.length) := rfl
  clear r0
  generalize stF (.slice (some ⟨g, 0, none⟩) xs.length xs.length) s = L at *
  go_enter Try.func41, Try.ntmps41
  go_wp2_with (first
    | (at_make; refine wpList_make_full _ rfl _ _ 27 rfl (w.heap.size + 1 + 1) 24 i0 (.agg (Bd.cs B1.zero).toArray) 10 Try.underlying27 hi hz0 hz1 .i64 .i64 _ _ xs.length rfl rfl rfl rfl ?_ ?_ ?_ ?_))
  · rw [hz2]; omega
  · unfold maxLen; omega
  · simp
  intro w1 hown hgrow
  have hb0 : Below w.heap.size w ((w.alloc (.cells L.toArray 75)).alloc (.cells #[.slice none 0 0] 31)) := hB.alloc (by simp) _
  have hb1 : Below w.heap.size w w1 := hb0.grown hgrow (by simp; omega) (fun k hk => by cases hk)
  have hk1 : Below (w.heap.size + 1 + 1) ((w.alloc (.cells L.toArray 75)).alloc (.cells #[.slice none 0 0] 31)) w1 := (Below.refl _ _).grown hgrow (by simp) (fun k hk => by cases hk)
  have r0 := (MA.Rg.new' (w.alloc (.cells L.toArray 75)) [.slice none 0 0] 31 (w.heap.size + 1) (by simp)).below hk1 (by omega)
  have c1 : w1.cell? ⟨w.heap.size, 0, none⟩ = some (.slice (some ⟨g, 0, none⟩) xs.length xs.length) := (hk1.cell (p := ⟨w.heap.size, 0, none⟩) (by show w.heap.size < _; omega)).trans (by simp [hL0])
  have hml := hown.1
  have r1 := MA.Rg.of_own hown
  generalize (madeCells _ _).toList = m at *
  rw [← MP.mix_zero xs m] at r1
  have HM : Hid (m.length = xs.length * 10) := hml
  have HI : Hid (PlIn w w1 (w.heap.size + 1 + 1) (w.heap.size + 1) (MP.mix xs m 0)) := ⟨hb1, r0, r1⟩
  clear hown hgrow hb0 hb1 hk1 r0 r1 hml hi hz0 hz1 hz2 c0 hB hL0
  go_wp2
  clear c1
  go_loopw [13] (fun iv wr => ∃ k : Nat, iv = .int .i64 k ∧ k ≤ xs.length ∧ PlIn w wr (w.heap.size + 1 + 1) (w.heap.size + 1) (MP.mix xs m k)) (fun iv _ => (xs.length - intOf iv).toNat)
  case atStart => exact ⟨0, rfl, by omega, HI.out⟩
  case round =>
    clear HI
    obtain ⟨k, rfl, hk, hI⟩ := hrel
    by_cases hl : k < xs.length
    · obtain ⟨b, off, hab, hbl0, rg⟩ := MA.row_range (hin.below hI.below) hl
      cases hab
      rw [Nat.zero_add] at rg
      have RG : Hid _ := rg
      have HI : Hid _ := hI
      obtain ⟨x, hx⟩ : ∃ x, MP.at_ xs k = x := ⟨_, rfl⟩
      rw [hx] at RG
      have hpy : x.py.size ≤ 1048576 := hx ▸ ht.out k hl
      have HXX : Hid (MP.at_ xs k = x) := hx
      have HW : Hid _ := new_parcel wr x 62
      have RN : Hid _ := MA.Rg.new wr (Bd.cs B1.zero) 62
      have PO : Hid (∀ W, Calls Try.prog 35 #[.agg x.cs.toArray] W fun e w' => e = .returned (.agg x.cs.toArray) ∧ Below W.heap.size W w') := fun W => parcelBundle_any x W hpy
      have hk0 : (0 : Int) ≤ (k : Int) := by omega
      have hkn : (k : Int) < (xs.length : Int) := by omega
      clear hx rg hI hpy
      go_wp2_with (first
        | (refine MA.load_r rfl 62 _ rfl rfl (cs := x.cs) ?_ Try.underlying62 rfl Try.sizeParcel rfl ?_; first | exact RG.out | exact HW.out.2.rng)
        | (refine MA.alloc_z rfl 62 rfl _ _ Try.infoParcelAP ?_; simp only [MA.sz_alloc])
        | (refine MA.store_m rfl 62 _ _ rfl rfl rfl (cs := Bd.cs B1.zero) ?_ Try.sizeParcel rfl rfl (MA.cs_one x) ?_; exact RN.out; clear RN RG; generalize World.setCells _ _ _ _ = W at *))
      refine Calls.mono (PO.out _) ?_
      rintro e w2 ⟨rfl, hb2⟩
      have hI2 := (HI.out.kept HW.out.1).kept hb2
      have hln := MP.mix_len xs m k HM.out (by omega)
      have R2 : Hid _ := hI2.row.part (p := k * 10) (n := 10) (by omega)
      rw [Nat.zero_add] at R2
      have hp := hI2.put (by omega) (by omega) HM.out hl
      rw [HXX.out] at hp
      have HP : Hid _ := hp
      have hle : ((List.drop (k * 10) (MP.mix xs m k)).take 10).length = 10 := by simp; omega
      have HLE : Hid _ := hle
      clear hle hp hI2 hln HI HW hb2 PO HXX
      go_wp2_with (first
        | (refine MA.store_m rfl 24 _ _ rfl rfl rfl (cs := (List.drop (k * 10) (MP.mix xs m k)).take 10) ?_ Try.sizeBundle HLE.out rfl (MA.cs_one x) ?_; exact R2.out; clear R2 HLE; generalize World.setCells _ _ _ _ = W3 at *))
      go_roundw
      case rel => exact ⟨k + 1, by go_num, by omega, HP.out⟩
      case measure => simp [intOf]; omega
    · obtain rfl : k = xs.length := by omega
      have hr := hI.row
      rw [MP.mix_all xs m HM.out] at hr
      have HI : Hid _ := hI
      have HR : Hid _ := hr
      have e1 : wr.cell? ⟨w.heap.size + 1, 0, none⟩ = some (.slice none 0 0) := hI.res.cell (j := 0) rfl
      have f1 : wr.frozen? ⟨w.heap.size + 1, 0, none⟩ = false := hI.res.free (j := 0) (by simp)
      have hq1 := hI.res.lt
      clear hr hI
      go_wp2
      change bodyPost _ _ _ _ _ (wr.setCells (w.heap.size + 1) 0 [.slice (some ⟨w.heap.size + 1 + 1, 0, none⟩) xs.length xs.length])
      exact bodyPost_ret (MA.ret_cell rfl rfl (MA.load_rg (HI.out.res.put rfl) Try.underlying31 rfl Try.sizePileAP rfl)) rfl ⟨w.heap.size + 1 + 1, rfl, by omega, HR.out.other (.inl (by omega)), MA.below_cells (by omega) _ _ _ HI.out.below⟩
end Go.Proofs.Ytdgflhgbcfehhaa

/- A stack's parcels with one more (AddPiece). Laid by gen_addwith.py. -/
namespace Go.Proofs.Ytdgflhgbcfehhaa
open Go.RowKit
/-- What parcelsWith holds. -/
structure PwIn (w W : World) (v : Value) (x : Bd) : Prop where
  below : Below w.heap.size w W
  arg : W.cell? ⟨w.heap.size, 0, none⟩ = some v
  box : MA.Rg W (w.heap.size + 1) 0 x.cs
theorem PwIn.kept {w W W' : World} {v : Value} {x : Bd} (h : PwIn w W v x) (hb : Below W.heap.size W W') : PwIn w W' v x := by
  have := h.box.lt
  exact ⟨h.below.trans (hb.mono h.below.size), (hb.cell (p := ⟨w.heap.size, 0, none⟩) (by show w.heap.size < _; omega)).trans h.arg, h.box.below hb h.box.lt⟩
set_option maxRecDepth 100000 in
theorem Try.cutA (G n k : Nat) (hk : k < n) (W : World) : (Instr.sliceAt 67 (.slice (some ⟨G, 0, none⟩) (n + 1) (n + 1)) (some (.int .i64 ((k : Int) + 1))) none none).run Try.prog W = .ok (.slice (some ⟨G, (k + 1) * 10, none⟩) (n - k) (n - k)) W := by
  have e : ((k : Int) + 1).toNat = k + 1 := by omega
  have h1 : ¬ n = k := by omega
  have h2 : k ≤ n := by omega
  have h3 : (0 : Int) ≤ (k : Int) + 1 := by omega
  go_simp
set_option maxRecDepth 100000 in
theorem Try.cutB (G n k : Nat) (hk : k < n) (W : World) : (Instr.sliceAt 67 (.slice (some ⟨G, 0, none⟩) n n) (some (.int .i64 (k : Int))) none none).run Try.prog W = .ok (.slice (some ⟨G, k * 10, none⟩) (n - k) (n - k)) W := by
  have h1 : ¬ n = k := by omega
  have h2 : k ≤ n := by omega
  go_simp
set_option maxRecDepth 100000 in
theorem Try.cutC (G n : Nat) (W : World) : (Instr.sliceAt 67 (.slice (some ⟨G, 0, none⟩) (n + 1) (n + 1)) (some (.int .i64 ((n : Int) + 1))) none none).run Try.prog W = .ok (.slice (some ⟨G, 0, none⟩) 0 0) W := by
  have e : ((n : Int) + 1).toNat = n + 1 := by omega
  have h3 : (0 : Int) ≤ (n : Int) + 1 := by omega
  go_simp
set_option maxRecDepth 100000 in
theorem Try.cutD (G n : Nat) (W : World) : (Instr.sliceAt 67 (.slice (some ⟨G, 0, none⟩) n n) (some (.int .i64 (n : Int))) none none).run Try.prog W = .ok (.slice (some ⟨G, 0, none⟩) 0 0) W := by
  go_simp
theorem PwIn.cells {w W : World} {v : Value} {x : Bd} (h : PwIn w W v x) {G o : Nat} (hG : w.heap.size + 1 < G) (vs : List Value) : PwIn w (W.setCells G o vs) v x := by
  refine ⟨MA.below_cells (by omega) _ _ _ h.below, ?_, h.box.other (.inl (by omega))⟩
  rw [World.cell?_setCells_out _ _ _ _ _ (fun h => by have h' : w.heap.size = G := h; omega)]
  exact h.arg
/-- What the end of parcelsWith holds. -/
structure PwTail (w W : World) (v : Value) (x : Bd) (xs : List Bd) (g G k : Nat) (m : List Value) : Prop where
  gt : w.heap.size + 1 < G
  le : k ≤ xs.length
  len : m.length = (xs.length + 1) * 10
  row : MA.Rg W G 0 m
  pw : PwIn w W v x
  ins : MP.BsAt W (some ⟨g, 0, none⟩) xs
theorem PwTail.mk' {w W : World} {v : Value} {x : Bd} {xs : List Bd} {g G k : Nat} {m : List Value} (h1 : w.heap.size + 1 < G) (h2 : k ≤ xs.length) (h3 : m.length = (xs.length + 1) * 10) (h4 : MA.Rg W G 0 m) (h5 : PwIn w W v x) (h6 : MP.BsAt W (some ⟨g, 0, none⟩) xs) : PwTail w W v x xs g G k m := ⟨h1, h2, h3, h4, h5, h6⟩
theorem PwTail.copy1 {P : Program} {w W : World} {v : Value} {x : Bd} {xs : List Bd} {g G k : Nat} {m : List Value} (h : PwTail w W v x xs g G k m) (dT sT ty elem : TypeId) (hu : P.underlying dT = some (.slice elem)) (hs : (P.info? elem).map (·.size) = some 10) :
    (Builtin.copy_ #[dT, sT] ty #[.slice (some ⟨G, 0, none⟩) (xs.length + 1) (xs.length + 1), .slice (some ⟨g, 0, none⟩) k xs.length]).run P W = .ok (goInt k) (W.setCells G 0 (MP.flat (xs.take k))) := by
  have hk := h.le
  have hm := h.len
  have hl : (MP.flat (xs.take k)).length = k * 10 := by rw [MP.flat_len]; simp; omega
  exact PC.run_copy W dT sT ty elem G 0 _ _ ⟨g, 0, none⟩ k xs.length k 10 _ m hu hs (Nat.min_eq_left (by omega)) hl (by simpa using PC.row_cells h.ins (k := 0) (m := k) (by omega)) h.row (by omega) (PC.flat_one _)
theorem PwTail.two {w W : World} {v : Value} {x : Bd} {xs : List Bd} {g G k : Nat} {m : List Value} (h : PwTail w W v x xs g G k m) :
    (∃ c, c.length = (xs.length + 1) * 10 ∧ MA.Rg (W.setCells G 0 (MP.flat (xs.take k))) G 0 c) ∧ (splice (splice m 0 (MP.flat (xs.take k))) (k * 10) x.cs).length = (xs.length + 1) * 10 ∧ MA.Rg ((W.setCells G 0 (MP.flat (xs.take k))).setCells G (k * 10) x.cs) G 0 (splice (splice m 0 (MP.flat (xs.take k))) (k * 10) x.cs) := by
  have hk := h.le
  have hm := h.len
  have l1 : (MP.flat (xs.take k)).length = k * 10 := by rw [MP.flat_len]; simp; omega
  have l2 : x.cs.length = 10 := rfl
  have len1 : (splice m 0 (MP.flat (xs.take k))).length = m.length := length_splice _ _ _ (by omega)
  have len2 : (splice (splice m 0 (MP.flat (xs.take k))) (k * 10) x.cs).length = m.length := by rw [length_splice _ _ _ (by omega), len1]
  have q1 : MA.Rg (W.setCells G 0 (MP.flat (xs.take k))) G 0 (splice m 0 (MP.flat (xs.take k))) := h.row.mid (p := 0) (by omega)
  have q2 := q1.mid (p := k * 10) (vs := x.cs) (by omega)
  rw [Nat.zero_add] at q2
  exact ⟨⟨_, len1.trans hm, q1⟩, len2.trans hm, q2⟩
theorem PwTail.part {w W : World} {v : Value} {x : Bd} {xs : List Bd} {g G k : Nat} {m : List Value} (h : PwTail w W v x xs g G k m) : ∃ c, c.length = 10 ∧ MA.Rg (W.setCells G 0 (MP.flat (xs.take k))) G (k * 10) c := by
  have hk := h.le
  obtain ⟨⟨c, hc, hr⟩, _⟩ := h.two
  have := hr.part (p := k * 10) (n := 10) (by omega)
  rw [Nat.zero_add] at this
  exact ⟨_, by simp; omega, this⟩
theorem PwTail.arg2 {w W : World} {v : Value} {x : Bd} {xs : List Bd} {g G k : Nat} {m : List Value} (h : PwTail w W v x xs g G k m) : ((W.setCells G 0 (MP.flat (xs.take k))).setCells G (k * 10) x.cs).cell? ⟨w.heap.size, 0, none⟩ = some v := ((h.pw.cells h.gt _).cells h.gt _).arg
/-- The second copy, at the world behind the draw, and what lies there then. -/
theorem PwTail.ends {w W : World} {v : Value} {x : Bd} {xs : List Bd} {g G k : Nat} {m : List Value} (h : PwTail w W v x xs g G k m) (hg : g ≠ G) (dT sT ty elem : TypeId) {P : Program} (hu : P.underlying dT = some (.slice elem)) (hs : (P.info? elem).map (·.size) = some 10) :
    (Builtin.copy_ #[dT, sT] ty #[.slice (some ⟨G, (k + 1) * 10, none⟩) (xs.length - k) (xs.length - k), .slice (some ⟨g, k * 10, none⟩) (xs.length - k) (xs.length - k)]).run P (((W.setCells G 0 (MP.flat (xs.take k))).setCells G (k * 10) x.cs).drew) = .ok (goInt ((xs.length - k : Nat) : Int)) ((((W.setCells G 0 (MP.flat (xs.take k))).setCells G (k * 10) x.cs).drew).setCells G ((k + 1) * 10) (MP.flat (xs.drop k))) ∧
    MP.BsAt ((((W.setCells G 0 (MP.flat (xs.take k))).setCells G (k * 10) x.cs).drew).setCells G ((k + 1) * 10) (MP.flat (xs.drop k))) (some ⟨G, 0, none⟩) (PD.put xs x k) ∧
    Below w.heap.size w ((((W.setCells G 0 (MP.flat (xs.take k))).setCells G (k * 10) x.cs).drew).setCells G ((k + 1) * 10) (MP.flat (xs.drop k))) := by
  have hk := h.le
  have hm := h.len
  have hgt := h.gt
  obtain ⟨_, hlen, q2⟩ := h.two
  have hP2 := ((h.pw.cells h.gt (o := 0) (MP.flat (xs.take k))).cells h.gt (o := k * 10) x.cs)
  have hins := row_other (row_other h.ins hg (o := 0) (vs := MP.flat (xs.take k))) hg (o := k * 10) (vs := x.cs)
  have l1 : (MP.flat (xs.take k)).length = k * 10 := by rw [MP.flat_len]; simp; omega
  have l3 : (MP.flat (xs.drop k)).length = (xs.length - k) * 10 := by rw [MP.flat_len]; simp
  generalize hW2 : (W.setCells G 0 (MP.flat (xs.take k))).setCells G (k * 10) x.cs = W2 at *
  have hd : Below W2.heap.size W2 W2.drew := (Below.refl _ _).drew
  have q2d := q2.below hd q2.lt
  have hinsd := hins.below hd
  have q3 := q2d.mid (p := k * 10 + 10) (vs := MP.flat (xs.drop k)) (by omega)
  change MA.Rg _ G 0 (splice (splice (splice m 0 (MP.flat (xs.take k))) (k * 10) x.cs) (k * 10 + 10) (MP.flat (xs.drop k))) at q3
  rw [splice_splice_splice m _ _ _ (k * 10) 10 l1 rfl (by omega), Nat.zero_add, show k * 10 + 10 = (k + 1) * 10 by omega] at q3
  have e : MP.flat (PD.put xs x k) = MP.flat (xs.take k) ++ (x.cs ++ MP.flat (xs.drop k)) := by simp [PD.put, MP.flat]
  rw [← e] at q3
  have rp := q2d.part (p := (k + 1) * 10) (n := (xs.length - k) * 10) (by omega)
  rw [Nat.zero_add] at rp
  refine ⟨PC.run_copy _ dT sT ty elem G ((k + 1) * 10) _ _ ⟨g, k * 10, none⟩ _ _ (xs.length - k) 10 _ _ hu hs (Nat.min_self _) l3 ?_ rp (by simp; omega) (PC.flat_one _), q3.row, MA.below_cells (by omega) _ _ _ ((hP2.kept hd).below)⟩
  have := PC.row_cells hinsd (k := k) (m := xs.length - k) (by omega)
  rwa [List.take_of_length_le (by simp)] at this
theorem PwTail.endsE {w W : World} {v : Value} {x : Bd} {xs : List Bd} {g G : Nat} {m : List Value} (h : PwTail w W v x xs g G xs.length m) (hg : g ≠ G) (dT sT ty elem : TypeId) {P : Program} (hu : P.underlying dT = some (.slice elem)) (hs : (P.info? elem).map (·.size) = some 10) :
    (Builtin.copy_ #[dT, sT] ty #[.slice (some ⟨G, 0, none⟩) 0 0, .slice (some ⟨g, 0, none⟩) 0 0]).run P (((W.setCells G 0 (MP.flat (xs.take xs.length))).setCells G (xs.length * 10) x.cs).drew) = .ok (goInt 0) (((W.setCells G 0 (MP.flat (xs.take xs.length))).setCells G (xs.length * 10) x.cs).drew) ∧
    MP.BsAt (((W.setCells G 0 (MP.flat (xs.take xs.length))).setCells G (xs.length * 10) x.cs).drew) (some ⟨G, 0, none⟩) (PD.put xs x xs.length) ∧
    Below w.heap.size w (((W.setCells G 0 (MP.flat (xs.take xs.length))).setCells G (xs.length * 10) x.cs).drew) := by
  have h2 := (h.ends hg dT sT ty elem hu hs).2
  obtain ⟨_, _, q2⟩ := h.two
  have q2d := q2.below (Below.refl _ _).drew q2.lt
  have e : MP.flat (xs.drop xs.length) = [] := by rw [List.drop_length]; rfl
  rw [e] at h2
  exact ⟨PC.run_copy _ dT sT ty elem G 0 0 0 ⟨g, 0, none⟩ 0 0 0 10 [] _ hu hs rfl rfl (fun j v hv => by simp at hv) q2d (by simp) (by simp), h2⟩
set_option linter.unusedSimpArgs false in
set_option maxHeartbeats 800000 in
set_option maxRecDepth 100000 in
theorem withP_any (x : Bd) (g : Nat) (xs : List Bd) (s : PL.Sh) (w : World) (hgw : g < w.heap.size) (hn : xs.length ≤ 60) (hx : x.py.size ≤ 1048576) (ht : Hid (∀ k, k < xs.length → (MP.at_ xs k).py.size ≤ 1048576)) (hin : MP.BsAt w (some ⟨g, 0, none⟩) xs) :
    Calls Try.prog 43 #[.agg (stF (.slice (some ⟨g, 0, none⟩) xs.length xs.length) s).toArray, .agg x.cs.toArray] w fun e w' => ∃ g', e = .returned (.slice (some ⟨g', 0, none⟩) (xs.length + 1) (xs.length + 1)) ∧ w.heap.size ≤ g' ∧ MP.BsAt w' (some ⟨g', 0, none⟩) (PD.put xs x (PD.cut xs x)) ∧ Below w.heap.size w w' := by
  obtain ⟨i0, hi, hz0, hz1, hz2⟩ := info_parts Try.infoParcelB
  have hL0 : (stF (.slice (some ⟨g, 0, none⟩) xs.length xs.length) s)[0]? = some (.slice (some ⟨g, 0, none⟩) xs.length xs.length) := rfl
  generalize stF (.slice (some ⟨g, 0, none⟩) xs.length xs.length) s = L at *
  have hB : Below w.heap.size w ((w.alloc (.cells L.toArray 75)).alloc (.cells x.cs.toArray 62)) := ((Below.refl _ w).alloc (Nat.le_refl _) _).alloc (by simp) _
  have HI : Hid (PwIn w ((w.alloc (.cells L.toArray 75)).alloc (.cells x.cs.toArray 62)) (.slice (some ⟨g, 0, none⟩) xs.length xs.length) x) := ⟨hB, by simp [hL0], MA.Rg.new' _ _ _ _ (by simp)⟩
  clear hB
  go_enter Try.func43, Try.ntmps43
  go_wp2
  clear hL0
  go_loopw [5] (fun iv wr => ∃ k : Nat, iv = .int .i64 k ∧ k ≤ xs.length ∧ PwIn w wr (.slice (some ⟨g, 0, none⟩) xs.length xs.length) x ∧ ∀ i, i < k → PL.ahead (MP.at_ xs i) x = true) (fun iv _ => (xs.length - intOf iv).toNat)
  case atStart => exact ⟨0, rfl, by omega, HI.out, fun i hi => absurd hi (by omega)⟩
  case round =>
    clear HI
    obtain ⟨k, rfl, hk, hI, hno⟩ := hrel
    have HNO : Hid _ := hno
    have HI : Hid _ := hI
    have c0 := hI.arg
    have hxl := hI.box.lt
    have hXr : wr.rangeAt (w.heap.size + 1) 0 x.cs := hI.box.rng
    have hq0 : w.heap.size < wr.heap.size := by omega
    have hk0 : (0 : Int) ≤ (k : Int) := by omega
    have hin2 := hin.below hI.below
    clear hno hI
    by_cases hl : k < xs.length
    · obtain ⟨b, off, hab, hgl, hYr⟩ := MA.row_range hin2 hl
      cases hab
      rw [Nat.zero_add] at hYr
      obtain ⟨y, hy⟩ : ∃ y, MP.at_ xs k = y := ⟨_, rfl⟩
      rw [hy] at hYr
      have hpy : y.py.size ≤ 1048576 := hy ▸ ht.out k hl
      have HY : Hid (MP.at_ xs k = y) := hy
      clear hy
      cases ha : PL.ahead y x with
      | true =>
        have AO : Hid _ := fun W => isAheadOf_any y x W hpy hx true ha
        have HAH : Hid _ := ha
        clear ha
        go_wp2
        refine MR.frame fun A hA => ?_
        have hsz : A.tmps.size = 48 := by rw [hA]; rfl
        have e2 : A.eval (.tmp 2) = .pointer (some ⟨w.heap.size, 0, none⟩) := by rw [hA]; rfl
        have f2 := MR.read (t := 2) (by rw [hsz]; decide) e2
        have e3 : A.eval (.tmp 3) = .pointer (some ⟨w.heap.size + 1, 0, none⟩) := by rw [hA]; rfl
        have f3 := MR.read (t := 3) (by rw [hsz]; decide) e3
        have e5 : A.eval (.tmp 5) = .int .i64 (k : Int) := by rw [hA]; rfl
        have f5 := MR.read (t := 5) (by rw [hsz]; decide) e5
        have HA : Hid (A = _) := hA
        clear hA
        have hS : (fun w' : World => Below wr.heap.size wr w') (World.drew _) := ((Below.refl _ wr).drew)
        refine wp_region_held (S := fun w' : World => Below wr.heap.size wr w') (by kernel_rfl) ?_
        change wpAnyH _ _ _ _ _ _ _ _ (World.drew _)
        refine MR.takeH (i := 0) (some 7) (.int .i64 (k : Int)) rfl rfl (by kernel_rfl) (by kernel_rfl) (by kernel_rfl) (fun _ _ _ h => h) hS (MR.free rfl) (fun wq hw => by simp [execOp, MR.ev, MR.size, hsz, e2, f2, e3, f3, e5, f5, go_sem]) ?_
        refine MR.takeH (i := 1) (some 8) ((.pointer (some ⟨w.heap.size, 0, none⟩))) rfl rfl (by kernel_rfl) (by kernel_rfl) (by kernel_rfl) (fun _ _ _ h => h) hS (MR.free rfl) (fun wq hw => by simp [execOp, MR.ev, MR.size, hsz, e2, f2, e3, f3, e5, f5, go_sem]) ?_
        refine MR.takeH (i := 2) (some 9) ((.slice (some ⟨g, 0, none⟩) xs.length xs.length)) rfl rfl (by kernel_rfl) (by kernel_rfl) (by kernel_rfl) (fun _ _ _ h => h) hS (MR.free rfl) (fun wq hw => by have cq : wq.cell? ⟨w.heap.size, 0, none⟩ = some (.slice (some ⟨g, 0, none⟩) xs.length xs.length) := (hw.cell (p := ⟨w.heap.size, 0, none⟩) hq0).trans c0; simp [execOp, MR.ev, MR.size, hsz, e2, f2, e3, f3, e5, f5, cq, go_sem]) ?_
        refine MR.takeH (i := 3) (some 10) (.int .i64 (xs.length : Int)) rfl rfl (by kernel_rfl) (by kernel_rfl) (by kernel_rfl) (fun _ _ _ h => h) hS (MR.free rfl) (fun wq hw => by simp [execOp, MR.ev, MR.size, hsz, e2, f2, e3, f3, e5, f5, go_sem]) ?_
        refine MR.takeH (i := 4) (some 11) (.bool true) rfl rfl (by kernel_rfl) (by kernel_rfl) (by kernel_rfl) (fun _ _ _ h => h) hS (MR.free rfl) (fun wq hw => by simp [execOp, MR.ev, MR.size, hsz, e2, f2, e3, f3, e5, f5, hl, go_sem]) ?_
        refine MR.takeH (i := 5) (some 12) (.bool true) rfl rfl (by kernel_rfl) (by kernel_rfl) (by kernel_rfl) (fun _ _ _ h => h) hS (MR.free rfl) (fun wq hw => by simp [execOp, MR.ev, MR.size, hsz, e2, f2, e3, f3, e5, f5, go_sem]) ?_
        refine MR.takeH (i := 6) (some 13) ((.pointer (some ⟨w.heap.size, 0, none⟩))) rfl rfl (by kernel_rfl) (by kernel_rfl) (by kernel_rfl) (fun _ _ _ h => h) hS (MR.want (d := 12) rfl rfl (by simp [MR.size, hsz]) (by simp [MR.ev, MR.size, hsz, e2, f2, e3, f3, e5, f5])) (fun wq hw => by simp [execOp, MR.ev, MR.size, hsz, e2, f2, e3, f3, e5, f5, go_sem]) ?_
        refine MR.takeH (i := 7) (some 14) ((.slice (some ⟨g, 0, none⟩) xs.length xs.length)) rfl rfl (by kernel_rfl) (by kernel_rfl) (by kernel_rfl) (fun _ _ _ h => h) hS (MR.want (d := 12) rfl rfl (by simp [MR.size, hsz]) (by simp [MR.ev, MR.size, hsz, e2, f2, e3, f3, e5, f5])) (fun wq hw => by have cq : wq.cell? ⟨w.heap.size, 0, none⟩ = some (.slice (some ⟨g, 0, none⟩) xs.length xs.length) := (hw.cell (p := ⟨w.heap.size, 0, none⟩) hq0).trans c0; simp [execOp, MR.ev, MR.size, hsz, e2, f2, e3, f3, e5, f5, cq, go_sem]) ?_
        refine MR.takeH (i := 8) (some 15) (.int .i64 (k : Int)) rfl rfl (by kernel_rfl) (by kernel_rfl) (by kernel_rfl) (fun _ _ _ h => h) hS (MR.want (d := 12) rfl rfl (by simp [MR.size, hsz]) (by simp [MR.ev, MR.size, hsz, e2, f2, e3, f3, e5, f5])) (fun wq hw => by simp [execOp, MR.ev, MR.size, hsz, e2, f2, e3, f3, e5, f5, go_sem]) ?_
        refine MR.takeH (i := 9) (some 16) (.pointer (some ⟨g, k * 10, none⟩)) rfl rfl (by kernel_rfl) (by kernel_rfl) (by kernel_rfl) (fun _ _ _ h => h) hS (MR.want (d := 12) rfl rfl (by simp [MR.size, hsz]) (by simp [MR.ev, MR.size, hsz, e2, f2, e3, f3, e5, f5])) (fun wq hw => by simp [execOp, MR.ev, MR.size, hsz, e2, f2, e3, f3, e5, f5, hk0, hl, go_sem]) ?_
        refine MR.takeH (i := 10) (some 17) (y.v) rfl rfl (by kernel_rfl) (by kernel_rfl) (by kernel_rfl) (fun _ _ _ h => h) hS (MR.want (d := 12) rfl rfl (by simp [MR.size, hsz]) (by simp [MR.ev, MR.size, hsz, e2, f2, e3, f3, e5, f5])) (fun wq hw => MA.ex_load rfl (by simp [MR.ev, MR.size, hsz, e2, f2, e3, f3, e5, f5]) (MA.range_below hYr hw hgl) Try.underlying62 rfl Try.sizeParcel rfl) ?_
        refine MR.takeH (i := 11) (some 18) (x.v) rfl rfl (by kernel_rfl) (by kernel_rfl) (by kernel_rfl) (fun _ _ _ h => h) hS (MR.want (d := 12) rfl rfl (by simp [MR.size, hsz]) (by simp [MR.ev, MR.size, hsz, e2, f2, e3, f3, e5, f5])) (fun wq hw => MA.ex_load rfl (by simp [MR.ev, MR.size, hsz, e2, f2, e3, f3, e5, f5]) (MA.range_below hXr hw hxl) Try.underlying62 rfl Try.sizeParcel rfl) ?_
        refine MR.callH (i := 12) (some 19) (64) (#[y.v, x.v]) (by kernel_rfl) rfl rfl (MR.want (d := 12) rfl rfl (by simp [MR.size, hsz]) (by simp [MR.ev, MR.size, hsz, e2, f2, e3, f3, e5, f5])) (by simp [execOp, MR.ev, MR.size, hsz, e2, f2, e3, f3, e5, f5, go_sem]) ?_
        refine Calls.mono (AO.out _) ?_
        rintro e w3 ⟨rfl, hb3⟩
        have hS3 : Below wr.heap.size wr w3 := hS.trans (hb3.mono hS.size)
        refine ⟨_, rfl, hS3, ?_⟩
        refine MR.takeH (i := 13) (some 20) (.bool true) rfl rfl (by kernel_rfl) (by kernel_rfl) (by kernel_rfl) (fun _ _ _ h => h) hS3 (MR.free rfl) (fun wq hw => by simp [execOp, MR.ev, MR.size, hsz, e2, f2, e3, f3, e5, f5, go_sem]) ?_
        refine wpAnyH_done (by kernel_rfl) ?_ _
        rw [HA.out]
        have hP := HI.out.kept hS3
        have HP : Hid _ := hP
        clear hP hb3 hS3 HA hS hXr hYr c0 AO e2 e3 e5 f2 f3 f5 hsz HI hin2
        simp only [Act.put, List.setIfInBounds_toArray, List.set_cons_succ, List.set_cons_zero]
        go_wp2
        go_roundw
        case rel => exact ⟨k + 1, by go_num, by omega, HP.out, fun i hi => if e : i = k then by rw [e, HY.out]; exact HAH.out else HNO.out i (by omega)⟩
        case measure => simp [intOf]; omega
      | false =>
        have AO : Hid _ := fun W => isAheadOf_any y x W hpy hx false ha
        have HC : Hid (PD.cut xs x = k) := PD.cut_is hk HNO.out (fun _ => by rw [HY.out]; exact ha)
        clear ha
        go_wp2
        refine MR.frame fun A hA => ?_
        have hsz : A.tmps.size = 48 := by rw [hA]; rfl
        have e2 : A.eval (.tmp 2) = .pointer (some ⟨w.heap.size, 0, none⟩) := by rw [hA]; rfl
        have f2 := MR.read (t := 2) (by rw [hsz]; decide) e2
        have e3 : A.eval (.tmp 3) = .pointer (some ⟨w.heap.size + 1, 0, none⟩) := by rw [hA]; rfl
        have f3 := MR.read (t := 3) (by rw [hsz]; decide) e3
        have e5 : A.eval (.tmp 5) = .int .i64 (k : Int) := by rw [hA]; rfl
        have f5 := MR.read (t := 5) (by rw [hsz]; decide) e5
        have HA : Hid (A = _) := hA
        clear hA
        have hS : (fun w' : World => Below wr.heap.size wr w') (World.drew _) := ((Below.refl _ wr).drew)
        refine wp_region_held (S := fun w' : World => Below wr.heap.size wr w') (by kernel_rfl) ?_
        change wpAnyH _ _ _ _ _ _ _ _ (World.drew _)
        refine MR.takeH (i := 0) (some 7) (.int .i64 (k : Int)) rfl rfl (by kernel_rfl) (by kernel_rfl) (by kernel_rfl) (fun _ _ _ h => h) hS (MR.free rfl) (fun wq hw => by simp [execOp, MR.ev, MR.size, hsz, e2, f2, e3, f3, e5, f5, go_sem]) ?_
        refine MR.takeH (i := 1) (some 8) ((.pointer (some ⟨w.heap.size, 0, none⟩))) rfl rfl (by kernel_rfl) (by kernel_rfl) (by kernel_rfl) (fun _ _ _ h => h) hS (MR.free rfl) (fun wq hw => by simp [execOp, MR.ev, MR.size, hsz, e2, f2, e3, f3, e5, f5, go_sem]) ?_
        refine MR.takeH (i := 2) (some 9) ((.slice (some ⟨g, 0, none⟩) xs.length xs.length)) rfl rfl (by kernel_rfl) (by kernel_rfl) (by kernel_rfl) (fun _ _ _ h => h) hS (MR.free rfl) (fun wq hw => by have cq : wq.cell? ⟨w.heap.size, 0, none⟩ = some (.slice (some ⟨g, 0, none⟩) xs.length xs.length) := (hw.cell (p := ⟨w.heap.size, 0, none⟩) hq0).trans c0; simp [execOp, MR.ev, MR.size, hsz, e2, f2, e3, f3, e5, f5, cq, go_sem]) ?_
        refine MR.takeH (i := 3) (some 10) (.int .i64 (xs.length : Int)) rfl rfl (by kernel_rfl) (by kernel_rfl) (by kernel_rfl) (fun _ _ _ h => h) hS (MR.free rfl) (fun wq hw => by simp [execOp, MR.ev, MR.size, hsz, e2, f2, e3, f3, e5, f5, go_sem]) ?_
        refine MR.takeH (i := 4) (some 11) (.bool true) rfl rfl (by kernel_rfl) (by kernel_rfl) (by kernel_rfl) (fun _ _ _ h => h) hS (MR.free rfl) (fun wq hw => by simp [execOp, MR.ev, MR.size, hsz, e2, f2, e3, f3, e5, f5, hl, go_sem]) ?_
        refine MR.takeH (i := 5) (some 12) (.bool true) rfl rfl (by kernel_rfl) (by kernel_rfl) (by kernel_rfl) (fun _ _ _ h => h) hS (MR.free rfl) (fun wq hw => by simp [execOp, MR.ev, MR.size, hsz, e2, f2, e3, f3, e5, f5, go_sem]) ?_
        refine MR.takeH (i := 6) (some 13) ((.pointer (some ⟨w.heap.size, 0, none⟩))) rfl rfl (by kernel_rfl) (by kernel_rfl) (by kernel_rfl) (fun _ _ _ h => h) hS (MR.want (d := 12) rfl rfl (by simp [MR.size, hsz]) (by simp [MR.ev, MR.size, hsz, e2, f2, e3, f3, e5, f5])) (fun wq hw => by simp [execOp, MR.ev, MR.size, hsz, e2, f2, e3, f3, e5, f5, go_sem]) ?_
        refine MR.takeH (i := 7) (some 14) ((.slice (some ⟨g, 0, none⟩) xs.length xs.length)) rfl rfl (by kernel_rfl) (by kernel_rfl) (by kernel_rfl) (fun _ _ _ h => h) hS (MR.want (d := 12) rfl rfl (by simp [MR.size, hsz]) (by simp [MR.ev, MR.size, hsz, e2, f2, e3, f3, e5, f5])) (fun wq hw => by have cq : wq.cell? ⟨w.heap.size, 0, none⟩ = some (.slice (some ⟨g, 0, none⟩) xs.length xs.length) := (hw.cell (p := ⟨w.heap.size, 0, none⟩) hq0).trans c0; simp [execOp, MR.ev, MR.size, hsz, e2, f2, e3, f3, e5, f5, cq, go_sem]) ?_
        refine MR.takeH (i := 8) (some 15) (.int .i64 (k : Int)) rfl rfl (by kernel_rfl) (by kernel_rfl) (by kernel_rfl) (fun _ _ _ h => h) hS (MR.want (d := 12) rfl rfl (by simp [MR.size, hsz]) (by simp [MR.ev, MR.size, hsz, e2, f2, e3, f3, e5, f5])) (fun wq hw => by simp [execOp, MR.ev, MR.size, hsz, e2, f2, e3, f3, e5, f5, go_sem]) ?_
        refine MR.takeH (i := 9) (some 16) (.pointer (some ⟨g, k * 10, none⟩)) rfl rfl (by kernel_rfl) (by kernel_rfl) (by kernel_rfl) (fun _ _ _ h => h) hS (MR.want (d := 12) rfl rfl (by simp [MR.size, hsz]) (by simp [MR.ev, MR.size, hsz, e2, f2, e3, f3, e5, f5])) (fun wq hw => by simp [execOp, MR.ev, MR.size, hsz, e2, f2, e3, f3, e5, f5, hk0, hl, go_sem]) ?_
        refine MR.takeH (i := 10) (some 17) (y.v) rfl rfl (by kernel_rfl) (by kernel_rfl) (by kernel_rfl) (fun _ _ _ h => h) hS (MR.want (d := 12) rfl rfl (by simp [MR.size, hsz]) (by simp [MR.ev, MR.size, hsz, e2, f2, e3, f3, e5, f5])) (fun wq hw => MA.ex_load rfl (by simp [MR.ev, MR.size, hsz, e2, f2, e3, f3, e5, f5]) (MA.range_below hYr hw hgl) Try.underlying62 rfl Try.sizeParcel rfl) ?_
        refine MR.takeH (i := 11) (some 18) (x.v) rfl rfl (by kernel_rfl) (by kernel_rfl) (by kernel_rfl) (fun _ _ _ h => h) hS (MR.want (d := 12) rfl rfl (by simp [MR.size, hsz]) (by simp [MR.ev, MR.size, hsz, e2, f2, e3, f3, e5, f5])) (fun wq hw => MA.ex_load rfl (by simp [MR.ev, MR.size, hsz, e2, f2, e3, f3, e5, f5]) (MA.range_below hXr hw hxl) Try.underlying62 rfl Try.sizeParcel rfl) ?_
        refine MR.callH (i := 12) (some 19) (64) (#[y.v, x.v]) (by kernel_rfl) rfl rfl (MR.want (d := 12) rfl rfl (by simp [MR.size, hsz]) (by simp [MR.ev, MR.size, hsz, e2, f2, e3, f3, e5, f5])) (by simp [execOp, MR.ev, MR.size, hsz, e2, f2, e3, f3, e5, f5, go_sem]) ?_
        refine Calls.mono (AO.out _) ?_
        rintro e w3 ⟨rfl, hb3⟩
        have hS3 : Below wr.heap.size wr w3 := hS.trans (hb3.mono hS.size)
        refine ⟨_, rfl, hS3, ?_⟩
        refine MR.takeH (i := 13) (some 20) (.bool false) rfl rfl (by kernel_rfl) (by kernel_rfl) (by kernel_rfl) (fun _ _ _ h => h) hS3 (MR.free rfl) (fun wq hw => by simp [execOp, MR.ev, MR.size, hsz, e2, f2, e3, f3, e5, f5, go_sem]) ?_
        refine wpAnyH_done (by kernel_rfl) ?_ _
        rw [HA.out]
        have hP := HI.out.kept hS3
        have hin3 := hin2.below hS3
        clear HA hS hXr hYr c0 AO hb3 hS3 HI e2 e3 e5 f2 f3 f5 hsz
        simp only [Act.put, List.setIfInBounds_toArray, List.set_cons_succ, List.set_cons_zero]
        have hne : ¬ xs.length = k := by omega
        have c1 := hP.arg
        clear hin2 hxl hq0
        go_wp2_with (first
          | (at_make; refine wpList_make_full _ rfl _ _ 67 rfl w3.heap.size 62 i0 (.agg (Bd.cs B1.zero).toArray) 10 Try.underlying67 hi hz0 hz1 .i64 .i64 _ _ (xs.length + 1) rfl rfl rfl rfl ?_ ?_ ?_ ?_))
        · rw [hz2]; omega
        · unfold maxLen; omega
        · exact Nat.le_refl _
        intro w4 hown hgrow
        have hk4 : Below w3.heap.size w3 w4 := (Below.refl _ _).grown hgrow (Nat.le_refl _) (fun j hj => by cases hj)
        have hml := hown.1
        have r1 := MA.Rg.of_own hown
        generalize (madeCells _ _).toList = m at *
        have hP4 := hP.kept hk4
        have hin4 := hin3.below hk4
        have hG : w.heap.size + 1 < w3.heap.size := hP.box.lt
        have c4 := hP4.arg
        have HT : Hid _ := PwTail.mk' hG hk hml r1 hP4 hin4
        clear hown hgrow hk4 hml r1 hP4 hin4 hin3 c1 hi hz0 hz1 hz2 hP
        have cp1 := HT.out.copy1 67 67 3 62 Try.underlying67 Try.sizeParcel
        obtain ⟨pc, hpc, rpc⟩ := HT.out.part
        have HPC : Hid _ := hpc
        have R5 : Hid _ := rpc
        clear hpc rpc
        have X5 : Hid _ := (HT.out.pw.cells HT.out.gt (o := 0) (MP.flat (xs.take k))).box.rng
        have hgG : g ≠ w3.heap.size := by omega
        have HE : Hid _ := HT.out.ends hgG 67 67 3 62 Try.underlying67 Try.sizeParcel
        have C6 : Hid _ := HT.out.arg2
        have hk1 : (0 : Int) ≤ (k : Int) + 1 := by omega
        have hk2 : (k : Int) < (xs.length : Int) + 1 := by omega
        clear HT
        generalize w4.setCells w3.heap.size 0 (MP.flat (xs.take k)) = w5 at *
        go_wp2_with (first
          | (refine MA.load_r rfl 62 _ rfl rfl (cs := x.cs) ?_ Try.underlying62 rfl Try.sizeParcel rfl ?_; exact X5.out)
          | (refine MA.store_m rfl 62 _ _ rfl rfl rfl (cs := pc) ?_ Try.sizeParcel HPC.out rfl (MA.cs_one x) ?_; exact R5.out; clear R5 X5; generalize World.setCells _ _ _ _ = w6 at *))
        have cp2 := HE.out.1
        have c6 : w6.drew.cell? ⟨w.heap.size, 0, none⟩ = some (.slice (some ⟨g, 0, none⟩) xs.length xs.length) := C6.out
        clear cp1 c4 C6
        have sl1 := fun W => Try.cutA w3.heap.size xs.length k hl W
        have sl2 := fun W => Try.cutB g xs.length k hl W
        have cE : (w6.drew.setCells w3.heap.size ((k + 1) * 10) (MP.flat (List.drop k xs))).cell? ⟨w.heap.size, 0, none⟩ = some (.slice (some ⟨g, 0, none⟩) xs.length xs.length) := by rw [World.cell?_setCells_out _ _ _ _ _ (fun h => by have h' : w.heap.size = w3.heap.size := h; omega)]; exact c6
        have hwr : IntKind.i64.wrap ((k : Int) + 1) = (k : Int) + 1 := by have := M1.i64_wrap (k + 1) (by omega); simpa using this
        go_region_held3 (fun w' => w'.cell? ⟨w.heap.size, 0, none⟩ = some (.slice (some ⟨g, 0, none⟩) xs.length xs.length)) (first | exact c6 | exact cE | go_keep) (fail)
        go_wp2
        go_ret
        exact ⟨w3.heap.size, rfl, by omega, by rw [HC.out]; exact HE.out.2.1, HE.out.2.2⟩
    · obtain rfl : k = xs.length := by omega
      have HC : Hid (PD.cut xs x = xs.length) := PD.cut_is hk HNO.out (fun h => absurd h hl)
      go_wp2
      refine MR.frame fun A hA => ?_
      have hsz : A.tmps.size = 48 := by rw [hA]; rfl
      have e2 : A.eval (.tmp 2) = .pointer (some ⟨w.heap.size, 0, none⟩) := by rw [hA]; rfl
      have f2 := MR.read (t := 2) (by rw [hsz]; decide) e2
      have e3 : A.eval (.tmp 3) = .pointer (some ⟨w.heap.size + 1, 0, none⟩) := by rw [hA]; rfl
      have f3 := MR.read (t := 3) (by rw [hsz]; decide) e3
      have e5 : A.eval (.tmp 5) = .int .i64 (xs.length : Int) := by rw [hA]; rfl
      have f5 := MR.read (t := 5) (by rw [hsz]; decide) e5
      have HA : Hid (A = _) := hA
      clear hA
      have hS : (fun w' : World => Below wr.heap.size wr w') (World.drew _) := ((Below.refl _ wr).drew)
      refine wp_region_held (S := fun w' : World => Below wr.heap.size wr w') (by kernel_rfl) ?_
      change wpAnyH _ _ _ _ _ _ _ _ (World.drew _)
      refine MR.takeH (i := 0) (some 7) (.int .i64 (xs.length : Int)) rfl rfl (by kernel_rfl) (by kernel_rfl) (by kernel_rfl) (fun _ _ _ h => h) hS (MR.free rfl) (fun wq hw => by simp [execOp, MR.ev, MR.size, hsz, e2, f2, e3, f3, e5, f5, go_sem]) ?_
      refine MR.takeH (i := 1) (some 8) ((.pointer (some ⟨w.heap.size, 0, none⟩))) rfl rfl (by kernel_rfl) (by kernel_rfl) (by kernel_rfl) (fun _ _ _ h => h) hS (MR.free rfl) (fun wq hw => by simp [execOp, MR.ev, MR.size, hsz, e2, f2, e3, f3, e5, f5, go_sem]) ?_
      refine MR.takeH (i := 2) (some 9) ((.slice (some ⟨g, 0, none⟩) xs.length xs.length)) rfl rfl (by kernel_rfl) (by kernel_rfl) (by kernel_rfl) (fun _ _ _ h => h) hS (MR.free rfl) (fun wq hw => by have cq : wq.cell? ⟨w.heap.size, 0, none⟩ = some (.slice (some ⟨g, 0, none⟩) xs.length xs.length) := (hw.cell (p := ⟨w.heap.size, 0, none⟩) hq0).trans c0; simp [execOp, MR.ev, MR.size, hsz, e2, f2, e3, f3, e5, f5, cq, go_sem]) ?_
      refine MR.takeH (i := 3) (some 10) (.int .i64 (xs.length : Int)) rfl rfl (by kernel_rfl) (by kernel_rfl) (by kernel_rfl) (fun _ _ _ h => h) hS (MR.free rfl) (fun wq hw => by simp [execOp, MR.ev, MR.size, hsz, e2, f2, e3, f3, e5, f5, go_sem]) ?_
      refine MR.takeH (i := 4) (some 11) (.bool false) rfl rfl (by kernel_rfl) (by kernel_rfl) (by kernel_rfl) (fun _ _ _ h => h) hS (MR.free rfl) (fun wq hw => by simp [execOp, MR.ev, MR.size, hsz, e2, f2, e3, f3, e5, f5, hl, go_sem]) ?_
      refine MR.takeH (i := 5) (some 12) (.bool false) rfl rfl (by kernel_rfl) (by kernel_rfl) (by kernel_rfl) (fun _ _ _ h => h) hS (MR.free rfl) (fun wq hw => by simp [execOp, MR.ev, MR.size, hsz, e2, f2, e3, f3, e5, f5, go_sem]) ?_
      refine MR.skipH (i := 6) (some 13) rfl rfl (by kernel_rfl) (by kernel_rfl) (by kernel_rfl) (fun _ _ _ h => h) hS (MR.unwant (d := 12) (b' := false) rfl rfl (by simp [MR.size, hsz]) (by simp [MR.ev, MR.size, hsz, e2, f2, e3, f3, e5, f5]) (by decide)) ?_
      refine MR.skipH (i := 7) (some 14) rfl rfl (by kernel_rfl) (by kernel_rfl) (by kernel_rfl) (fun _ _ _ h => h) hS (MR.unwant (d := 12) (b' := false) rfl rfl (by simp [MR.size, hsz]) (by simp [MR.ev, MR.size, hsz, e2, f2, e3, f3, e5, f5]) (by decide)) ?_
      refine MR.skipH (i := 8) (some 15) rfl rfl (by kernel_rfl) (by kernel_rfl) (by kernel_rfl) (fun _ _ _ h => h) hS (MR.unwant (d := 12) (b' := false) rfl rfl (by simp [MR.size, hsz]) (by simp [MR.ev, MR.size, hsz, e2, f2, e3, f3, e5, f5]) (by decide)) ?_
      refine MR.skipH (i := 9) (some 16) rfl rfl (by kernel_rfl) (by kernel_rfl) (by kernel_rfl) (fun _ _ _ h => h) hS (MR.unwant (d := 12) (b' := false) rfl rfl (by simp [MR.size, hsz]) (by simp [MR.ev, MR.size, hsz, e2, f2, e3, f3, e5, f5]) (by decide)) ?_
      refine MR.skipH (i := 10) (some 17) rfl rfl (by kernel_rfl) (by kernel_rfl) (by kernel_rfl) (fun _ _ _ h => h) hS (MR.unwant (d := 12) (b' := false) rfl rfl (by simp [MR.size, hsz]) (by simp [MR.ev, MR.size, hsz, e2, f2, e3, f3, e5, f5]) (by decide)) ?_
      refine MR.skipH (i := 11) (some 18) rfl rfl (by kernel_rfl) (by kernel_rfl) (by kernel_rfl) (fun _ _ _ h => h) hS (MR.unwant (d := 12) (b' := false) rfl rfl (by simp [MR.size, hsz]) (by simp [MR.ev, MR.size, hsz, e2, f2, e3, f3, e5, f5]) (by decide)) ?_
      refine MR.skipH (i := 12) (some 19) rfl rfl (by kernel_rfl) (by kernel_rfl) (by kernel_rfl) (fun _ _ _ h => h) hS (MR.unwant (d := 12) (b' := false) rfl rfl (by simp [MR.size, hsz]) (by simp [MR.ev, MR.size, hsz, e2, f2, e3, f3, e5, f5]) (by decide)) ?_
      refine MR.takeH (i := 13) (some 20) (.bool false) rfl rfl (by kernel_rfl) (by kernel_rfl) (by kernel_rfl) (fun _ _ _ h => h) hS (MR.free rfl) (fun wq hw => by simp [execOp, MR.ev, MR.size, hsz, e2, f2, e3, f3, e5, f5, go_sem]) ?_
      refine wpAnyH_done (by kernel_rfl) ?_ _
      rw [HA.out]
      have hP := HI.out.kept hS
      have hin3 := hin2.below hS
      clear HA hXr c0 HI e2 e3 e5 f2 f3 f5 hsz
      simp only [Act.put, List.setIfInBounds_toArray, List.set_cons_succ, List.set_cons_zero]
      clear hS
      generalize World.drew _ = w3 at *
      have c1 := hP.arg
      clear hin2 hxl hq0
      go_wp2_with (first
        | (at_make; refine wpList_make_full _ rfl _ _ 67 rfl w3.heap.size 62 i0 (.agg (Bd.cs B1.zero).toArray) 10 Try.underlying67 hi hz0 hz1 .i64 .i64 _ _ (xs.length + 1) rfl rfl rfl rfl ?_ ?_ ?_ ?_))
      · rw [hz2]; omega
      · unfold maxLen; omega
      · exact Nat.le_refl _
      intro w4 hown hgrow
      have hk4 : Below w3.heap.size w3 w4 := (Below.refl _ _).grown hgrow (Nat.le_refl _) (fun j hj => by cases hj)
      have hml := hown.1
      have r1 := MA.Rg.of_own hown
      generalize (madeCells _ _).toList = m at *
      have hP4 := hP.kept hk4
      have hin4 := hin3.below hk4
      have hG : w.heap.size + 1 < w3.heap.size := hP.box.lt
      have c4 := hP4.arg
      have HT : Hid _ := PwTail.mk' hG hk hml r1 hP4 hin4
      clear hown hgrow hk4 hml r1 hP4 hin4 hin3 c1 hi hz0 hz1 hz2 hP
      have cp1 := HT.out.copy1 67 67 3 62 Try.underlying67 Try.sizeParcel
      obtain ⟨pc, hpc, rpc⟩ := HT.out.part
      have HPC : Hid _ := hpc
      have R5 : Hid _ := rpc
      clear hpc rpc
      have X5 : Hid _ := (HT.out.pw.cells HT.out.gt (o := 0) (MP.flat (xs.take xs.length))).box.rng
      have hgG : g ≠ w3.heap.size := by omega
      have HE : Hid _ := HT.out.endsE hgG 67 67 3 62 Try.underlying67 Try.sizeParcel
      have C6 : Hid _ := HT.out.arg2
      have hk1 : (0 : Int) ≤ (xs.length : Int) + 1 := by omega
      have hk2 : (xs.length : Int) < (xs.length : Int) + 1 := by omega
      clear HT
      generalize w4.setCells w3.heap.size 0 (MP.flat (xs.take xs.length)) = w5 at *
      go_wp2_with (first
        | (refine MA.load_r rfl 62 _ rfl rfl (cs := x.cs) ?_ Try.underlying62 rfl Try.sizeParcel rfl ?_; exact X5.out)
        | (refine MA.store_m rfl 62 _ _ rfl rfl rfl (cs := pc) ?_ Try.sizeParcel HPC.out rfl (MA.cs_one x) ?_; exact R5.out; clear R5 X5; generalize World.setCells _ _ _ _ = w6 at *))
      have cp2 := HE.out.1
      have c6 : w6.drew.cell? ⟨w.heap.size, 0, none⟩ = some (.slice (some ⟨g, 0, none⟩) xs.length xs.length) := C6.out
      clear cp1 c4 C6
      have sl1 := fun W => Try.cutC w3.heap.size xs.length W
      have sl2 := fun W => Try.cutD g xs.length W
      have cE := c6
      have hwr : IntKind.i64.wrap ((xs.length : Int) + 1) = (xs.length : Int) + 1 := by have := M1.i64_wrap (xs.length + 1) (by omega); simpa using this
      go_region_held3 (fun w' => w'.cell? ⟨w.heap.size, 0, none⟩ = some (.slice (some ⟨g, 0, none⟩) xs.length xs.length)) (first | exact c6 | exact cE | go_keep) (fail)
      go_wp2
      go_ret
      exact ⟨w3.heap.size, rfl, by omega, by rw [HC.out]; exact HE.out.2.1, HE.out.2.2⟩
end Go.Proofs.Ytdgflhgbcfehhaa

/- AddPiece of the program. -/
namespace Go.Proofs.Ytdgflhgbcfehhaa
open Go.RowKit
theorem upOk_gd (xs : List Bd) : upOk xs = PL.good xs := PL.good_same xs
theorem MA.load_g {P : Program} {ops : Array Oper} {rest : List Oper} {op : Oper} {a : Act} {w : World} {Q : Exit → Act → World → Prop} (hw : Region.wanted op (yielded ops a.tmps) = true) (ty : TypeId) (x : Operand) (ho : op.op = .load ty x)
    {b o : Nat} (hx : a.eval x = .pointer (some ⟨b, o, none⟩)) {cs : List Value} {d : TypeDesc} (hc : w.rangeAt b o cs)
    (hu : P.underlying ty = some d) (hd : d.isRow = true) {n : Nat} (hi : (P.info? ty).map (·.size) = some n) (hn : cs.length = n)
    (h : wpList P ops Q rest (a.put op.dst (.agg cs.toArray)) w) : wpList P ops Q (op :: rest) a w :=
  wpList_step fun K hK => by rw [if_pos hw]; exact wp_load_mid ty x ho b o hx cs d hc hu hd (hn ▸ hi) (hK _ _ h)
/-- What AddPiece holds. -/
structure AdIn (w W : World) (b : Bd) : Prop where
  below : Below w.heap.size w W
  bx : MA.Rg W (w.heap.size + 1) 0 b.cs
  res : MA.Rg W (w.heap.size + 1 + 1) 0 [.slice none 0 0]
theorem AdIn.kept {w W W' : World} {b : Bd} (h : AdIn w W b) (hb : Below W.heap.size W W') : AdIn w W' b :=
  ⟨h.below.trans (hb.mono h.below.size), h.bx.below hb h.bx.lt, h.res.below hb h.res.lt⟩
theorem AdIn.start (w : World) (v : Value) (b : Bd) (t1 t2 : TypeId) : AdIn w (((w.alloc (.cells #[v] t1)).alloc (.cells b.cs.toArray t2)).alloc (.cells #[.slice none 0 0] t1)) b := by
  have hb : Below (w.heap.size + 1 + 1) ((w.alloc (.cells #[v] t1)).alloc (.cells b.cs.toArray t2)) (((w.alloc (.cells #[v] t1)).alloc (.cells b.cs.toArray t2)).alloc (.cells #[.slice none 0 0] t1)) := (Below.refl _ _).alloc (by simp) _
  exact ⟨(((Below.refl _ w).alloc (Nat.le_refl _) _).alloc (by simp) _).alloc (by simp; omega) _, (MA.Rg.new' (w.alloc (.cells #[v] t1)) b.cs t2 (w.heap.size + 1) (by simp)).below hb (by omega), MA.Rg.new' ((w.alloc (.cells #[v] t1)).alloc (.cells b.cs.toArray t2)) [.slice none 0 0] t1 (w.heap.size + 1 + 1) (by simp)⟩
theorem Try.infoParcelC : (Try.prog.info? 62).map (fun i => (i.zero, i.size)) = some (some (.agg (Bd.cs B1.zero).toArray), 10) := by kernel_rfl
theorem upV_gd {xs : List Bd} (v : Value) (h : PL.good xs = true) : upV xs v = stF v (PL.sh xs xs.length) := by
  have : upOk xs = true := by rw [upOk_gd]; exact h
  unfold upV; rw [if_pos this]
theorem put_small {xs : List Bd} {b : Bd} (ht : Hid (∀ k, k < xs.length → (MP.at_ xs k).py.size ≤ 1048576)) (hs : b.py.size ≤ 1048576) : ∀ k, k < (PD.put xs b (PD.cut xs b)).length → (MP.at_ (PD.put xs b (PD.cut xs b)) k).py.size ≤ 1048576 := by
  have hm : ∀ x, x ∈ xs → x.py.size ≤ 1048576 := fun x hx => by
    obtain ⟨i, hi, rfl⟩ := List.getElem_of_mem hx
    rw [← MP.at_eq xs i hi]; exact ht.out i hi
  intro k hk
  rw [MP.at_eq _ k hk]
  have hmem := List.getElem_mem hk
  generalize (PD.put xs b (PD.cut xs b))[k] = x at *
  unfold PD.put at hmem
  rcases List.mem_append.1 hmem with h | h
  · exact hm x (List.mem_of_mem_take h)
  · rcases List.mem_cons.1 h with rfl | h
    · exact hs
    · exact hm x (List.mem_of_mem_drop h)
set_option linter.unusedSimpArgs false in
set_option maxHeartbeats 1600000 in
set_option maxRecDepth 100000 in
theorem implAdd_any (a : Option Addr) (cap : Nat) (xs : List Bd) (b : Bd) (w : World) (hn : xs.length ≤ 1048576) (hs : b.py.size ≤ 1048576) (ht : Hid (∀ k, k < xs.length → (MP.at_ xs k).py.size ≤ 1048576)) (hin : MP.BsAt w a xs) :
    Calls Try.prog 10 #[.agg #[.slice a xs.length cap], .agg b.cs.toArray] w fun e w' => ∃ a1 c1 g', e = .returned (.tuple #[.agg #[.slice a1 (PD.ans xs b).1.length c1], .bool (PD.ans xs b).2]) ∧ w.heap.size ≤ g' ∧ ((PD.ans xs b).1.length = 0 ∨ (a1 = some ⟨g', 0, none⟩ ∧ MA.Rg w' g' 0 (MP.flat (PD.ans xs b).1))) ∧ Below w.heap.size w w' := by
  have SO : Hid _ := fun W h => stackOfG_any a cap xs W hn ht h
  have HW : Hid _ := AdIn.start w (.slice a xs.length cap) b 31 24
  have HI : Hid _ := hin.below HW.out.below
  clear hin
  go_enter Try.func10, Try.ntmps10
  go_wp2_with fail
  refine (SO.out _ HI.out).mono ?_
  rintro e w2 ⟨g, rfl, hrw, hb2⟩
  replace HW : Hid _ := HW.out.kept hb2
  clear SO HI hb2
  rw [upOk_gd] at hrw ⊢
  obtain ⟨L, hL⟩ : ∃ L, upV xs (.slice (some ⟨g, 0, none⟩) xs.length xs.length) = L := ⟨_, rfl⟩
  have HL : Hid _ := hL
  have HL1 : Hid (L.length = 121) := by rw [← hL]; exact upV_len _ _ _ _
  have HL2 : Hid (∀ v ∈ L, v.oneCell' = true) := by rw [← hL]; exact upV_one _ _ _ _
  rw [hL]
  clear hL
  have RN : Hid _ := MA.Rg.new w2 (stF (.slice none 0 0) PL.blank) 75
  have RP : Hid (MA.Rg (World.setCells (w2.alloc (.cells (stF (.slice none 0 0) PL.blank).toArray 75)) w2.heap.size 0 L) w2.heap.size 0 L) := RN.out.put (by rw [Z_len]; exact HL1.out)
  have HB2 : Hid (Below w2.heap.size w2 (World.setCells (w2.alloc (.cells (stF (.slice none 0 0) PL.blank).toArray 75)) w2.heap.size 0 L)) := MA.below_cells (b := w2.heap.size) (Nat.le_refl _) L 0 _ ((Below.refl _ w2).alloc (Nat.le_refl _) _)
  have PO : Hid (∀ W, Calls Try.prog 30 #[.agg b.cs.toArray] W fun e w' => e = .returned (.agg b.cs.toArray) ∧ Below W.heap.size W w') := fun W => parcelOf_any b W
  go_wp2_with (first
      | (refine MA.alloc_z rfl 75 rfl _ _ Try.infoStack' ?_; simp only [MA.sz_alloc])
      | (refine MA.store_m rfl 75 _ _ rfl rfl rfl (cs := stF (.slice none 0 0) PL.blank) ?_ Try.sizeStack Z_len HL1.out HL2.out ?_; exact RN.out; clear RN; generalize World.setCells _ _ _ _ = W3 at *; replace HW : Hid _ := HW.out.kept HB2.out; have HBX : Hid _ := HW.out.bx.rng)
      | (refine MA.load_r rfl 24 _ rfl rfl (cs := b.cs) ?_ Try.underlying24 rfl Try.sizeBundle rfl ?_; exact HBX.out))
  refine (PO.out _).mono ?_
  rintro e w4 ⟨rfl, hb4⟩
  replace HW : Hid _ := HW.out.kept hb4
  replace RP : Hid _ := RP.out.below hb4 RP.out.lt
  have H24 : Hid (Below w2.heap.size w2 w4) := HB2.out.trans (hb4.mono HB2.out.size)
  clear PO hb4 HB2 HBX
  have QN : Hid _ := MA.Rg.new w4 (Bd.cs B1.zero) 62
  have QP : Hid (MA.Rg (World.setCells (w4.alloc (.cells (Bd.cs B1.zero).toArray 62)) w4.heap.size 0 b.cs) w4.heap.size 0 b.cs) := QN.out.put rfl
  have HB4 : Hid (Below w4.heap.size w4 (World.setCells (w4.alloc (.cells (Bd.cs B1.zero).toArray 62)) w4.heap.size 0 b.cs)) := MA.below_cells (b := w4.heap.size) (Nat.le_refl _) b.cs 0 _ ((Below.refl _ w4).alloc (Nat.le_refl _) _)
  cases hg : PL.good xs with
  | false =>
    have HANS : Hid (PD.ans xs b = ([], false)) := by show _ = _; simp [PD.ans, hg]
    clear hg hrw HL RP H24 QP HL1 HL2
    go_wp2_with (first
      | (refine MA.alloc_z rfl 62 rfl _ _ Try.infoParcelC ?_; simp only [MA.sz_alloc])
      | (refine MA.store_m rfl 62 _ _ rfl rfl rfl (cs := Bd.cs B1.zero) ?_ Try.sizeParcel rfl rfl (MA.cs_one b) ?_; exact QN.out; clear QN; generalize World.setCells _ _ _ _ = W5 at *; replace HW : Hid _ := HW.out.kept HB4.out; clear HB4)
      | (refine MA.store_m rfl 31 _ _ rfl rfl rfl (cs := [.slice none 0 0]) ?_ Try.sizePileAP rfl rfl (by simp [Value.oneCell']) ?_; exact HW.out.res))
    exact bodyPost_ret (MA.ret_cell2 rfl rfl rfl (MA.load_rg (HW.out.res.put (vs := [.slice none 0 0]) rfl) Try.underlying31 rfl Try.sizePileAP rfl)) rfl ⟨none, 0, w.heap.size, by rw [HANS.out]; rfl, Nat.le_refl _, .inl (by rw [HANS.out]; rfl), MA.below_cells (by omega) _ _ _ HW.out.below⟩
  | true =>
    have hr2 := hrw hg
    have eL : L = stF (.slice (some ⟨g, 0, none⟩) xs.length xs.length) (PL.sh xs xs.length) := by rw [← HL.out, upV_gd _ hg]
    subst eL
    have hx60 : xs.length ≤ 60 := by
      have : upOk xs = true := by rw [upOk_gd]; exact hg
      simp [upOk] at this; exact this.1
    have HROW : Hid (MP.BsAt w2 (some ⟨g, 0, none⟩) xs ∧ g < w2.heap.size) := ⟨hr2.2.1, hr2.2.2⟩
    have IGP : Hid _ := fun W R hR => isGoodPiece_any b W hs R hR
    have HGD : Hid _ := hg
    clear hg hrw HL hr2
    generalize PL.sh xs xs.length = sh at *
    go_wp2_with (first
      | (refine MA.alloc_z rfl 62 rfl _ _ Try.infoParcelC ?_; simp only [MA.sz_alloc])
      | (refine MA.store_m rfl 62 _ _ rfl rfl rfl (cs := Bd.cs B1.zero) ?_ Try.sizeParcel rfl rfl (MA.cs_one b) ?_; exact QN.out; clear QN; generalize World.setCells _ _ _ _ = W5 at *; replace HW : Hid _ := HW.out.kept HB4.out; replace H24 : Hid (Below w2.heap.size w2 W5) := H24.out.trans (HB4.out.mono H24.out.size); replace RP : Hid _ := RP.out.below HB4.out RP.out.lt; clear HB4; have QR : Hid _ := QP.out.rng)
      | (refine MA.load_r rfl 62 _ rfl rfl (cs := b.cs) ?_ Try.underlying62 rfl Try.sizeParcel rfl ?_; exact QR.out)
      | (refine MA.load_g rfl 62 _ rfl rfl (cs := b.cs) ?_ Try.underlying62 rfl Try.sizeParcel rfl ?_; exact QR.out))
    refine (IGP.out _ _ rfl).mono ?_
    rintro e w6 ⟨rfl, hb6⟩
    replace HW : Hid _ := HW.out.kept hb6
    replace H24 : Hid (Below w2.heap.size w2 w6) := H24.out.trans (hb6.mono H24.out.size)
    replace RP : Hid _ := RP.out.below hb6 RP.out.lt
    replace QP : Hid _ := QP.out.below hb6 QP.out.lt
    clear IGP hb6 QR
    cases hpg : PL.pg b with
    | false =>
      have HANS : Hid (PD.ans xs b = ([], false)) := by show _ = _; simp [PD.ans, hpg]
      clear hpg RP QP H24 HROW HGD HL1 HL2
      go_wp2_with (refine MA.store_m rfl 31 _ _ rfl rfl rfl (cs := [.slice none 0 0]) ?_ Try.sizePileAP rfl rfl (by simp [Value.oneCell']) ?_; exact HW.out.res)
      exact bodyPost_ret (MA.ret_cell2 rfl rfl rfl (MA.load_rg (HW.out.res.put (vs := [.slice none 0 0]) rfl) Try.underlying31 rfl Try.sizePileAP rfl)) rfl ⟨none, 0, w.heap.size, by rw [HANS.out]; rfl, Nat.le_refl _, .inl (by rw [HANS.out]; rfl), MA.below_cells (by omega) _ _ _ HW.out.below⟩
    | true =>
      have HR6 : Hid (MP.BsAt w6 (some ⟨g, 0, none⟩) xs) := HROW.out.1.below H24.out
      have HG6 : Hid (g < w6.heap.size) := Nat.lt_of_lt_of_le HROW.out.2 H24.out.size
      have HPG : Hid _ := hpg
      have HA : Hid _ := hasP_any b g xs sh w6 hx60 HR6.out
      have SR : Hid _ := RP.out.rng
      have QR : Hid _ := QP.out.rng
      have hq6 := RP.out.lt
      have hq7 := QP.out.lt
      clear hpg HROW
      go_wp2_with (first
        | (refine MA.load_r rfl 75 _ rfl rfl (cs := stF (.slice (some ⟨g, 0, none⟩) xs.length xs.length) sh) ?_ Try.underlying75 rfl Try.sizeStack (st_len _ _ _ _) ?_; exact SR.out)
        | (refine MA.load_r rfl 62 _ rfl rfl (cs := b.cs) ?_ Try.underlying62 rfl Try.sizeParcel rfl ?_; exact QR.out))
      refine Calls.mono HA.out ?_
      rintro e w7 ⟨rfl, hb7⟩
      replace HW : Hid _ := HW.out.kept hb7
      replace RP : Hid _ := RP.out.below hb7 RP.out.lt
      replace QP : Hid _ := QP.out.below hb7 QP.out.lt
      have HR7 : Hid _ := HR6.out.below hb7
      have HG7 : Hid (g < w7.heap.size) := Nat.lt_of_lt_of_le HG6.out hb7.size
      clear HA SR QR hb7 HR6 HG6 hq6 hq7
      cases hany : xs.any (sameP b) with
      | true =>
        have HANS : Hid (PD.ans xs b = (xs, true)) := by
          show _ = _
          have h1 := HGD.out
          have h2 := HPG.out
          have h3 : xs.any (PD.same b) = true := hany
          simp [PD.ans, h1, h2, h3]
        have PL7 : Hid _ := pile_any g xs sh w7 hx60 ht HR7.out
        have HW7 := HW.out.res.lt
        have SR : Hid _ := RP.out.rng
        have hq6 := RP.out.lt
        clear hany HR7 HG7 HGD HPG
        go_wp2_with (refine MA.load_r rfl 75 _ rfl rfl (cs := stF (.slice (some ⟨g, 0, none⟩) xs.length xs.length) sh) ?_ Try.underlying75 rfl Try.sizeStack (st_len _ _ _ _) ?_; exact SR.out)
        refine Calls.mono PL7.out ?_
        rintro e w8 ⟨g', rfl, hgg, hrg, hb8⟩
        replace HW : Hid _ := HW.out.kept hb8
        have HRG : Hid _ := hrg
        have HGG : Hid (w.heap.size + 1 + 1 < g') := by show _ < _; have := HW7; omega
        clear PL7 SR RP QP hrg hb8 hq6
        go_wp2_with (refine MA.store_m rfl 31 _ _ rfl rfl rfl (cs := [.slice none 0 0]) ?_ Try.sizePileAP rfl rfl (by simp [Value.oneCell']) ?_; exact HW.out.res)
        exact bodyPost_ret (MA.ret_cell2 rfl rfl rfl (MA.load_rg (HW.out.res.put (vs := [.slice (some ⟨g', 0, none⟩) xs.length xs.length]) rfl) Try.underlying31 rfl Try.sizePileAP rfl)) rfl ⟨some ⟨g', 0, none⟩, xs.length, g', by rw [HANS.out]; rfl, by have := HGG.out; omega, .inr (by rw [HANS.out]; exact ⟨rfl, HRG.out.other (.inl (by have := HGG.out; omega))⟩), MA.below_cells (by omega) _ _ _ HW.out.below⟩
      | false =>
        have HAN : Hid (xs.any (PD.same b) = false) := hany
        have PW : Hid _ := withP_any b g xs sh w7 HG7.out hx60 hs ht HR7.out
        have SR : Hid _ := RP.out.rng
        have QR : Hid _ := QP.out.rng
        have hq6 := RP.out.lt
        have hq7 := QP.out.lt
        clear hany HR7 HG7
        go_wp2_with (first
          | (refine MA.load_r rfl 75 _ rfl rfl (cs := stF (.slice (some ⟨g, 0, none⟩) xs.length xs.length) sh) ?_ Try.underlying75 rfl Try.sizeStack (st_len _ _ _ _) ?_; exact SR.out)
          | (refine MA.load_r rfl 62 _ rfl rfl (cs := b.cs) ?_ Try.underlying62 rfl Try.sizeParcel rfl ?_; exact QR.out))
        refine Calls.mono PW.out ?_
        rintro e w8 ⟨g2, rfl, hgg2, hin8, hb8⟩
        replace HW : Hid _ := HW.out.kept hb8
        clear PW SR QR RP QP hb8 hq6 hq7
        have hyl := PD.put_len (xs := xs) (b := b) (k := PD.cut xs b) (PD.cut_spec xs b).1
        have hyt : Hid (∀ k, k < (PD.put xs b (PD.cut xs b)).length → (MP.at_ (PD.put xs b (PD.cut xs b)) k).py.size ≤ 1048576) := put_small ht hs
        have HANG : Hid (PL.good (PD.put xs b (PD.cut xs b)) = true → PD.ans xs b = (PD.put xs b (PD.cut xs b), true)) := fun h => by
          have h1 := HGD.out
          have h2 := HPG.out
          have h3 := HAN.out
          simp [PD.ans, h1, h2, h3, h]
        have HANB : Hid (PL.good (PD.put xs b (PD.cut xs b)) = false → PD.ans xs b = ([], false)) := fun h => by
          have h1 := HGD.out
          have h2 := HPG.out
          have h3 := HAN.out
          simp [PD.ans, h1, h2, h3, h]
        generalize PD.put xs b (PD.cut xs b) = ys at *
        have UP := stackUp_any (some ⟨g2, 0, none⟩) ys.length ys w8 (by omega) hyt hin8
        rw [upOk_gd] at UP
        have HUP : Hid _ := UP
        have HIN : Hid _ := hin8
        rw [← hyl]
        clear UP hin8 HGD HPG HAN hyl
        go_wp2_with fail
        refine Calls.mono HUP.out ?_
        rintro e w9 ⟨rfl, hb9⟩
        replace HW : Hid _ := HW.out.kept hb9
        have HIN9 : Hid (MP.BsAt w9 (some ⟨g2, 0, none⟩) ys) := MP.BsAt.below HIN.out hb9
        obtain ⟨L2, hL2⟩ : ∃ L, upV ys (.slice (some ⟨g2, 0, none⟩) ys.length ys.length) = L := ⟨_, rfl⟩
        have HLL : Hid _ := hL2
        have HM1 : Hid (L2.length = 121) := by rw [← hL2]; exact upV_len _ _ _ _
        have HM2 : Hid (∀ v ∈ L2, v.oneCell' = true) := by rw [← hL2]; exact upV_one _ _ _ _
        rw [hL2]
        have TN : Hid _ := MA.Rg.new w9 (stF (.slice none 0 0) PL.blank) 75
        have TP : Hid (MA.Rg (World.setCells (w9.alloc (.cells (stF (.slice none 0 0) PL.blank).toArray 75)) w9.heap.size 0 L2) w9.heap.size 0 L2) := TN.out.put (by rw [Z_len]; exact HM1.out)
        have HB9 : Hid (Below w9.heap.size w9 (World.setCells (w9.alloc (.cells (stF (.slice none 0 0) PL.blank).toArray 75)) w9.heap.size 0 L2)) := MA.below_cells (b := w9.heap.size) (Nat.le_refl _) L2 0 _ ((Below.refl _ w9).alloc (Nat.le_refl _) _)
        clear hL2 HUP HIN hb9
        cases hgy : PL.good ys with
        | false =>
          have HANS : Hid _ := HANB.out hgy
          clear hgy HANB HANG TP HLL HIN9
          go_wp2_with (first
            | (refine MA.alloc_z rfl 75 rfl _ _ Try.infoStack' ?_; simp only [MA.sz_alloc])
            | (refine MA.store_m rfl 75 _ _ rfl rfl rfl (cs := stF (.slice none 0 0) PL.blank) ?_ Try.sizeStack Z_len HM1.out HM2.out ?_; exact TN.out; clear TN; generalize World.setCells _ _ _ _ = W10 at *; replace HW : Hid _ := HW.out.kept HB9.out; clear HB9)
            | (refine MA.store_m rfl 31 _ _ rfl rfl rfl (cs := [.slice none 0 0]) ?_ Try.sizePileAP rfl rfl (by simp [Value.oneCell']) ?_; exact HW.out.res))
          exact bodyPost_ret (MA.ret_cell2 rfl rfl rfl (MA.load_rg (HW.out.res.put (vs := [.slice none 0 0]) rfl) Try.underlying31 rfl Try.sizePileAP rfl)) rfl ⟨none, 0, w.heap.size, by rw [HANS.out]; rfl, Nat.le_refl _, .inl (by rw [HANS.out]; rfl), MA.below_cells (by omega) _ _ _ HW.out.below⟩
        | true =>
          have HANS : Hid _ := HANG.out hgy
          have eL2 : L2 = stF (.slice (some ⟨g2, 0, none⟩) ys.length ys.length) (PL.sh ys ys.length) := by rw [← HLL.out, upV_gd _ hgy]
          subst eL2
          have hy60 : ys.length ≤ 60 := by
            have : upOk ys = true := by rw [upOk_gd]; exact hgy
            simp [upOk] at this; exact this.1
          clear hgy HANB HANG HLL
          generalize PL.sh ys ys.length = sh2 at *
          go_wp2_with (first
            | (refine MA.alloc_z rfl 75 rfl _ _ Try.infoStack' ?_; simp only [MA.sz_alloc])
            | (refine MA.store_m rfl 75 _ _ rfl rfl rfl (cs := stF (.slice none 0 0) PL.blank) ?_ Try.sizeStack Z_len HM1.out HM2.out ?_; exact TN.out; clear TN; generalize World.setCells _ _ _ _ = W10 at *; replace HW : Hid _ := HW.out.kept HB9.out; replace HIN9 : Hid (MP.BsAt W10 (some ⟨g2, 0, none⟩) ys) := MP.BsAt.below HIN9.out HB9.out; clear HB9; have SR2 : Hid _ := TP.out.rng)
            | (refine MA.load_r rfl 75 _ rfl rfl (cs := stF (.slice (some ⟨g2, 0, none⟩) ys.length ys.length) sh2) ?_ Try.underlying75 rfl Try.sizeStack (st_len _ _ _ _) ?_; exact SR2.out))
          have PL9 : Hid _ := pile_any g2 ys sh2 W10 hy60 hyt HIN9.out
          have HW7 := HW.out.res.lt
          refine Calls.mono PL9.out ?_
          rintro e w11 ⟨g', rfl, hgg, hrg, hb11⟩
          replace HW : Hid _ := HW.out.kept hb11
          have HRG : Hid _ := hrg
          have HGG : Hid (w.heap.size + 1 + 1 < g') := by show _ < _; omega
          clear PL9 SR2 TP hrg hb11
          go_wp2_with (refine MA.store_m rfl 31 _ _ rfl rfl rfl (cs := [.slice none 0 0]) ?_ Try.sizePileAP rfl rfl (by simp [Value.oneCell']) ?_; exact HW.out.res)
          exact bodyPost_ret (MA.ret_cell2 rfl rfl rfl (MA.load_rg (HW.out.res.put (vs := [.slice (some ⟨g', 0, none⟩) ys.length ys.length]) rfl) Try.underlying31 rfl Try.sizePileAP rfl)) rfl ⟨some ⟨g', 0, none⟩, ys.length, g', by rw [HANS.out]; rfl, by have := HGG.out; omega, .inr (by rw [HANS.out]; exact ⟨rfl, HRG.out.other (.inl (by have := HGG.out; omega))⟩), MA.below_cells (by omega) _ _ _ HW.out.below⟩
end Go.Proofs.Ytdgflhgbcfehhaa
