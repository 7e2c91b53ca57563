/- A stack's pile (AddPiece), at any stack. -/
import Derived.Test.YtepgmmigacafeaaRows
import Derived.Test.YtepgmmigacafeaaCStackOf
import Derived.Test.YtepgmmigacafeaaCParcelBundle
import Derived.WalkKit
import Derived.WalkSpells
import Derived.WalkLawsBesides
import Derived.Outline
namespace Go.Proofs.Ytepgmmigacafeaa
open Go.RowKit
theorem Try.infoBundleAP : (Try.prog.info? 24).map (fun i => (i.zero, i.size, i.bytes)) = some (some (.agg (Bd.cs B1.zero).toArray), 10, 88) := by kernel_rfl
theorem Try.infoParcelAP : (Try.prog.info? 62).map (fun i => (i.zero, i.size)) = some (some (.agg (Bd.cs B1.zero).toArray), 10) := by kernel_rfl
theorem Try.sizePileAP : (Try.prog.info? 31).map (·.size) = some 1 := by kernel_rfl
/-- What the loop holds: the row that is being made lies at G, the result's cell at K. -/
structure PlIn (w W : World) (G K : Nat) (cs : List Value) : Prop where
  below : Below w.heap.size w W
  res : MA.Rg W K 0 [.slice none 0 0]
  row : MA.Rg W G 0 cs
theorem PlIn.kept {w W W' : World} {G K : Nat} {cs : List Value} (h : PlIn w W G K cs) (hb : Below W.heap.size W W') : PlIn w W' G K cs :=
  ⟨h.below.trans (hb.mono h.below.size), h.res.below hb h.res.lt, h.row.below hb h.row.lt⟩
theorem PlIn.put {w W : World} {G K k : Nat} {xs : List Bd} {m : List Value} (h : PlIn w W G K (MP.mix xs m k)) (hG : w.heap.size ≤ G) (hK : K ≠ G) (hm : m.length = xs.length * 10) (hk : k < xs.length) : PlIn w (W.setCells G (k * 10) (MP.at_ xs k).cs) G K (MP.mix xs m (k + 1)) := by
  have hl := MP.mix_len xs m k hm (by omega)
  have hc : (MP.at_ xs k).cs.length = 10 := rfl
  have q := h.row.mid (p := k * 10) (vs := (MP.at_ xs k).cs) (by omega)
  rw [MA.mix_mid xs m k hm hk, Nat.zero_add] at q
  exact ⟨MA.below_cells hG _ _ _ h.below, h.res.other (.inl hK), q⟩
set_option linter.unusedSimpArgs false in
set_option maxHeartbeats 1600000 in
set_option maxRecDepth 100000 in
theorem pile_any (g : Nat) (xs : List Bd) (s : PL.Sh) (w : World) (hn : xs.length ≤ 60) (ht : Hid (∀ k, k < xs.length → (MP.at_ xs k).py.size ≤ 1048576)) (hin : MP.BsAt w (some ⟨g, 0, none⟩) xs) :
    Calls Try.prog 41 #[.agg (stF (.slice (some ⟨g, 0, none⟩) xs.length xs.length) s).toArray] w fun e w' => ∃ g', e = .returned (.agg #[.slice (some ⟨g', 0, none⟩) xs.length xs.length]) ∧ w.heap.size ≤ g' ∧ MA.Rg w' g' 0 (MP.flat xs) ∧ Below w.heap.size w w' := by
  obtain ⟨i0, hi, hz0, hz1, hz2⟩ := info_parts Try.infoBundleAP
  have r0 := MA.Rg.new w (stF (.slice (some ⟨g, 0, none⟩) xs.length xs.length) s) 75
  have c0 : (w.alloc (.cells (stF (.slice (some ⟨g, 0, none⟩) xs.length xs.length) s).toArray 75)).cell? ⟨w.heap.size, 0, none⟩ = some (.slice (some ⟨g, 0, none⟩) xs.length xs.length) := r0.cell (j := 0) rfl
  have hB : Below w.heap.size w (w.alloc (.cells (stF (.slice (some ⟨g, 0, none⟩) xs.length xs.length) s).toArray 75)) := (Below.refl _ w).alloc (Nat.le_refl _) _
  have hL0 : (stF (.slice (some ⟨g, 0, none⟩) xs.length xs.length) s)[0]? = some (.slice (some ⟨g, 0, none⟩) xs.length xs.length) := rfl
  clear r0
  generalize stF (.slice (some ⟨g, 0, none⟩) xs.length xs.length) s = L at *
  go_enter Try.func41, Try.ntmps41
  go_wp2_with (first
    | (at_make; refine wpList_make_full _ rfl _ _ 27 rfl (w.heap.size + 1 + 1) 24 i0 (.agg (Bd.cs B1.zero).toArray) 10 Try.underlying27 hi hz0 hz1 .i64 .i64 _ _ xs.length rfl rfl rfl rfl ?_ ?_ ?_ ?_))
  · rw [hz2]; omega
  · unfold maxLen; omega
  · simp
  intro w1 hown hgrow
  have hb0 : Below w.heap.size w ((w.alloc (.cells L.toArray 75)).alloc (.cells #[.slice none 0 0] 31)) := hB.alloc (by simp) _
  have hb1 : Below w.heap.size w w1 := hb0.grown hgrow (by simp; omega) (fun k hk => by cases hk)
  have hk1 : Below (w.heap.size + 1 + 1) ((w.alloc (.cells L.toArray 75)).alloc (.cells #[.slice none 0 0] 31)) w1 := (Below.refl _ _).grown hgrow (by simp) (fun k hk => by cases hk)
  have r0 := (MA.Rg.new' (w.alloc (.cells L.toArray 75)) [.slice none 0 0] 31 (w.heap.size + 1) (by simp)).below hk1 (by omega)
  have c1 : w1.cell? ⟨w.heap.size, 0, none⟩ = some (.slice (some ⟨g, 0, none⟩) xs.length xs.length) := (hk1.cell (p := ⟨w.heap.size, 0, none⟩) (by show w.heap.size < _; omega)).trans (by simp [hL0])
  have hml := hown.1
  have r1 := MA.Rg.of_own hown
  generalize (madeCells _ _).toList = m at *
  rw [← MP.mix_zero xs m] at r1
  have HM : Hid (m.length = xs.length * 10) := hml
  have HI : Hid (PlIn w w1 (w.heap.size + 1 + 1) (w.heap.size + 1) (MP.mix xs m 0)) := ⟨hb1, r0, r1⟩
  clear hown hgrow hb0 hb1 hk1 r0 r1 hml hi hz0 hz1 hz2 c0 hB hL0
  go_wp2
  clear c1
  go_loopw [13] (fun iv wr => ∃ k : Nat, iv = .int .i64 k ∧ k ≤ xs.length ∧ PlIn w wr (w.heap.size + 1 + 1) (w.heap.size + 1) (MP.mix xs m k)) (fun iv _ => (xs.length - intOf iv).toNat)
  case atStart => exact ⟨0, rfl, by omega, HI.out⟩
  case round =>
    clear HI
    obtain ⟨k, rfl, hk, hI⟩ := hrel
    by_cases hl : k < xs.length
    · obtain ⟨b, off, hab, hbl0, rg⟩ := MA.row_range (hin.below hI.below) hl
      cases hab
      rw [Nat.zero_add] at rg
      have RG : Hid _ := rg
      have HI : Hid _ := hI
      obtain ⟨x, hx⟩ : ∃ x, MP.at_ xs k = x := ⟨_, rfl⟩
      rw [hx] at RG
      have hpy : x.py.size ≤ 1048576 := hx ▸ ht.out k hl
      have HXX : Hid (MP.at_ xs k = x) := hx
      have HW : Hid _ := new_parcel wr x 62
      have RN : Hid _ := MA.Rg.new wr (Bd.cs B1.zero) 62
      have PO : Hid (∀ W, Calls Try.prog 35 #[.agg x.cs.toArray] W fun e w' => e = .returned (.agg x.cs.toArray) ∧ Below W.heap.size W w') := fun W => parcelBundle_any x W hpy
      have hk0 : (0 : Int) ≤ (k : Int) := by omega
      have hkn : (k : Int) < (xs.length : Int) := by omega
      clear hx rg hI hpy
      go_wp2_with (first
        | (refine MA.load_r rfl 62 _ rfl rfl (cs := x.cs) ?_ Try.underlying62 rfl Try.sizeParcel rfl ?_; first | exact RG.out | exact HW.out.2.rng)
        | (refine MA.alloc_z rfl 62 rfl _ _ Try.infoParcelAP ?_; simp only [MA.sz_alloc])
        | (refine MA.store_m rfl 62 _ _ rfl rfl rfl (cs := Bd.cs B1.zero) ?_ Try.sizeParcel rfl rfl (MA.cs_one x) ?_; exact RN.out; clear RN RG; generalize World.setCells _ _ _ _ = W at *))
      refine Calls.mono (PO.out _) ?_
      rintro e w2 ⟨rfl, hb2⟩
      have hI2 := (HI.out.kept HW.out.1).kept hb2
      have hln := MP.mix_len xs m k HM.out (by omega)
      have R2 : Hid _ := hI2.row.part (p := k * 10) (n := 10) (by omega)
      rw [Nat.zero_add] at R2
      have hp := hI2.put (by omega) (by omega) HM.out hl
      rw [HXX.out] at hp
      have HP : Hid _ := hp
      have hle : ((List.drop (k * 10) (MP.mix xs m k)).take 10).length = 10 := by simp; omega
      have HLE : Hid _ := hle
      clear hle hp hI2 hln HI HW hb2 PO HXX
      go_wp2_with (first
        | (refine MA.store_m rfl 24 _ _ rfl rfl rfl (cs := (List.drop (k * 10) (MP.mix xs m k)).take 10) ?_ Try.sizeBundle HLE.out rfl (MA.cs_one x) ?_; exact R2.out; clear R2 HLE; generalize World.setCells _ _ _ _ = W3 at *))
      go_roundw
      case rel => exact ⟨k + 1, by go_num, by omega, HP.out⟩
      case measure => simp [intOf]; omega
    · obtain rfl : k = xs.length := by omega
      have hr := hI.row
      rw [MP.mix_all xs m HM.out] at hr
      have HI : Hid _ := hI
      have HR : Hid _ := hr
      have e1 : wr.cell? ⟨w.heap.size + 1, 0, none⟩ = some (.slice none 0 0) := hI.res.cell (j := 0) rfl
      have f1 : wr.frozen? ⟨w.heap.size + 1, 0, none⟩ = false := hI.res.free (j := 0) (by simp)
      have hq1 := hI.res.lt
      clear hr hI
      go_wp2
      change bodyPost _ _ _ _ _ (wr.setCells (w.heap.size + 1) 0 [.slice (some ⟨w.heap.size + 1 + 1, 0, none⟩) xs.length xs.length])
      exact bodyPost_ret (MA.ret_cell rfl rfl (MA.load_rg (HI.out.res.put rfl) Try.underlying31 rfl Try.sizePileAP rfl)) rfl ⟨w.heap.size + 1 + 1, rfl, by omega, HR.out.other (.inl (by omega)), MA.below_cells (by omega) _ _ _ HI.out.below⟩
end Go.Proofs.Ytepgmmigacafeaa
