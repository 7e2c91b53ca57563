/- stackOf: a pile's pieces as parcels, laid on one sheet. -/
import Derived.Test.YtjekofjhplhemaaRows
import Derived.Test.YtjekofjhplhemaaCUp
import Derived.Test.YtjekofjhplhemaaMA2
import Derived.Test.YtjekofjhplhemaaCBundleInfo
import Derived.WalkKit
import Derived.WalkSpells
import Derived.WalkLawsBesides
import Derived.Outline
namespace Go.Proofs.Ytjekofjhplhemaa
open Go.RowKit
theorem Try.infoParcelB : (Try.prog.info? 94).map (fun i => (i.zero, i.size, i.bytes)) = some (some (.agg (Bd.cs B1.zero).toArray), 10, 88) := by kernel_rfl
/-- What the memory of the call holds. -/
structure OfIn (w W : World) (a : Option Addr) (xs : List Bd) (cap : Nat) (cs : List Value) : Prop where
  below : Below w.heap.size w W
  arg : W.cell? ⟨w.heap.size, 0, none⟩ = some (.slice a xs.length cap)
  res : MA.Rg W (w.heap.size + 1) 0 (stF (.slice none 0 0) PL.blank)
  row : MA.Rg W (w.heap.size + 1 + 1) 0 cs
theorem OfIn.kept {w W W' : World} {a : Option Addr} {xs : List Bd} {cap : Nat} {cs : List Value} (h : OfIn w W a xs cap cs) (hb : Below W.heap.size W W') : OfIn w W' a xs cap cs := by
  have := h.res.lt
  exact ⟨h.below.trans (hb.mono h.below.size), (hb.cell (p := ⟨w.heap.size, 0, none⟩) (by show w.heap.size < _; omega)).trans h.arg, h.res.below hb h.res.lt, h.row.below hb h.row.lt⟩
theorem OfIn.put {w W : World} {a : Option Addr} {xs : List Bd} {cap k : Nat} {m : List Value} (h : OfIn w W a xs cap (MP.mix xs m k)) (hm : m.length = xs.length * 10) (hk : k < xs.length) : OfIn w (W.setCells (w.heap.size + 1 + 1) (k * 10) (MP.at_ xs k).cs) a xs cap (MP.mix xs m (k + 1)) := by
  have hl := MP.mix_len xs m k hm (by omega)
  have hc : (MP.at_ xs k).cs.length = 10 := rfl
  have q := h.row.mid (p := k * 10) (vs := (MP.at_ xs k).cs) (by omega)
  rw [MA.mix_mid xs m k hm hk, Nat.zero_add] at q
  refine ⟨MA.below_cells (by omega) _ _ _ h.below, ?_, h.res.other (.inl (by omega)), q⟩
  rw [World.cell?_setCells_out _ _ _ _ _ (fun h => by have h' : w.heap.size = w.heap.size + 1 + 1 := h; omega)]
  exact h.arg
theorem upV_len (xs : List Bd) (a : Option Addr) (n c : Nat) : (upV xs (.slice a n c)).length = 121 := by
  unfold upV; split
  · exact st_len _ _ _ _
  · exact Z_len
theorem upV_one (xs : List Bd) (a : Option Addr) (n c : Nat) : ∀ v ∈ upV xs (.slice a n c), v.oneCell' = true := by
  unfold upV; split
  · exact st_one _ _ _ _
  · exact Z_one
theorem row_other {w : World} {g k o : Nat} {xs : List Bd} {vs : List Value} (h : MP.BsAt w (some ⟨g, 0, none⟩) xs) (hne : g ≠ k) : MP.BsAt (w.setCells k o vs) (some ⟨g, 0, none⟩) xs := by
  rcases h with rfl | ⟨b, off, hab, hlt, hc⟩
  · exact .inl rfl
  · cases hab
    have e : ∀ j, (w.setCells k o vs).cell? ⟨g, j, none⟩ = w.cell? ⟨g, j, none⟩ := fun j => World.cell?_setCells_out _ _ _ _ _ (fun h => absurd h hne)
    refine .inr ⟨g, 0, rfl, by rw [MA.setCells_size]; exact hlt, fun j hj => ?_⟩
    simp only [e]
    exact hc j hj
set_option linter.unusedSimpArgs false in
set_option maxHeartbeats 1600000 in
set_option maxRecDepth 100000 in
theorem stackOfG_any (a : Option Addr) (cap : Nat) (xs : List Bd) (w : World) (hn : xs.length ≤ 1048576) (ht : Hid (∀ k, k < xs.length → (MP.at_ xs k).py.size ≤ 1048576)) (hin : MP.BsAt w a xs) :
    Calls Try.prog 47 #[.agg #[.slice a xs.length cap]] w fun e w' => ∃ g, e = .returned (.tuple #[.agg (upV xs (.slice (some ⟨g, 0, none⟩) xs.length xs.length)).toArray, .bool (upOk xs)]) ∧ (upOk xs = true → w.heap.size ≤ g ∧ MP.BsAt w' (some ⟨g, 0, none⟩) xs ∧ g < w'.heap.size) ∧ Below w.heap.size w w' := by
  by_cases h60 : xs.length ≤ 60
  · obtain ⟨i0, hi, hz0, hz1, hz2⟩ := info_parts Try.infoParcelB
    have UP : Hid _ := fun W (h : MP.BsAt W (some ⟨w.heap.size + 1 + 1, 0, none⟩) xs) => stackUp_any (some ⟨w.heap.size + 1 + 1, 0, none⟩) xs.length xs W hn ht h
    go_enter Try.func47, Try.ntmps47
    go_wp2_with (first
      | (refine MA.alloc_z rfl 88 rfl _ _ Try.infoStack' ?_; simp only [MA.sz_alloc])
      | (at_make; refine wpList_make_full _ rfl _ _ 80 rfl (w.heap.size + 1 + 1) 94 i0 (.agg (Bd.cs B1.zero).toArray) 10 Try.underlying80 hi hz0 hz1 .i64 .i64 _ _ xs.length rfl rfl rfl rfl ?_ ?_ ?_ ?_))
    · rw [hz2]; omega
    · unfold maxLen; omega
    · simp
    intro w1 hown hgrow
    have hb0 : Below w.heap.size w ((w.alloc (.cells #[.slice a xs.length cap] 31)).alloc (.cells (stF (.slice none 0 0) PL.blank).toArray 88)) := ((Below.refl _ w).alloc (Nat.le_refl _) _).alloc (by simp) _
    have hb1 : Below w.heap.size w w1 := hb0.grown hgrow (by simp; omega) (fun k hk => by cases hk)
    have hk1 : Below (w.heap.size + 1 + 1) ((w.alloc (.cells #[.slice a xs.length cap] 31)).alloc (.cells (stF (.slice none 0 0) PL.blank).toArray 88)) w1 := (Below.refl _ _).grown hgrow (by simp) (fun k hk => by cases hk)
    have r0 := (MA.Rg.new' (w.alloc (.cells #[.slice a xs.length cap] 31)) (stF (.slice none 0 0) PL.blank) 88 (w.heap.size + 1) (by simp)).below hk1 (by omega)
    have c0 : w1.cell? ⟨w.heap.size, 0, none⟩ = some (.slice a xs.length cap) := (hk1.cell (p := ⟨w.heap.size, 0, none⟩) (by show w.heap.size < _; omega)).trans (by simp)
    have hml := hown.1
    have r1 := MA.Rg.of_own hown
    generalize (madeCells _ _).toList = m at *
    rw [← MP.mix_zero xs m] at r1
    have HM : Hid (m.length = xs.length * 10) := hml
    have HI : Hid (OfIn w w1 a xs cap (MP.mix xs m 0)) := ⟨hb1, c0, r0, r1⟩
    clear hown hgrow hb0 hb1 hk1 r0 r1 hml hi hz0 hz1 hz2
    go_wp2
    clear c0
    go_loopw [19] (fun iv wr => ∃ k : Nat, iv = .int .i64 k ∧ k ≤ xs.length ∧ OfIn w wr a xs cap (MP.mix xs m k)) (fun iv _ => (xs.length - intOf iv).toNat)
    case atStart => exact ⟨0, rfl, by omega, HI.out⟩
    case round =>
      clear HI
      obtain ⟨k, rfl, hk, hI⟩ := hrel
      by_cases hl : k < xs.length
      · obtain ⟨b, off, rfl, hbl0, rg⟩ := MA.row_range (hin.below hI.below) hl
        have RG : Hid _ := rg
        have HI : Hid _ := hI
        obtain ⟨x, hx⟩ : ∃ x, MP.at_ xs k = x := ⟨_, rfl⟩
        rw [hx] at RG
        have HXX : Hid (MP.at_ xs k = x) := hx
        have HW : Hid _ := new_parcel wr x 35
        have RN : Hid _ := MA.Rg.new wr (Bd.cs B1.zero) 35
        have PO : Hid (∀ W, Calls Try.prog 48 #[.agg x.cs.toArray] W fun e w' => e = .returned (.agg x.cs.toArray) ∧ Below W.heap.size W w') := fun W => parcelOf_any x W
        have hk0 : (0 : Int) ≤ (k : Int) := by omega
        have hkn : (k : Int) < (xs.length : Int) := by omega
        clear hx rg hI
        go_wp2_with (first
          | (refine MA.load_r rfl 35 _ rfl rfl (cs := x.cs) ?_ Try.underlying35 rfl Try.sizeBundle rfl ?_; first | exact RG.out | exact HW.out.2.rng)
          | (refine MA.alloc_z rfl 35 rfl _ _ Try.infoBundle ?_; simp only [MA.sz_alloc])
          | (refine MA.store_m rfl 35 _ _ rfl rfl rfl (cs := Bd.cs B1.zero) ?_ Try.sizeBundle rfl rfl (MA.cs_one x) ?_; exact RN.out; clear RN RG; generalize World.setCells _ _ _ _ = W at *))
        refine Calls.mono (PO.out _) ?_
        rintro e w2 ⟨rfl, hb2⟩
        have hI2 := (HI.out.kept HW.out.1).kept hb2
        have hln := MP.mix_len xs m k HM.out (by omega)
        have R2 : Hid _ := hI2.row.part (p := k * 10) (n := 10) (by omega)
        rw [Nat.zero_add] at R2
        have hp := hI2.put HM.out hl
        rw [HXX.out] at hp
        have HP : Hid _ := hp
        have hle : ((List.drop (k * 10) (MP.mix xs m k)).take 10).length = 10 := by simp; omega
        have HLE : Hid _ := hle
        clear hle hp hI2 hln HI HW hb2 PO HXX
        go_wp2_with (first
          | (refine MA.store_m rfl 94 _ _ rfl rfl rfl (cs := (List.drop (k * 10) (MP.mix xs m k)).take 10) ?_ Try.sizeParcel HLE.out rfl (MA.cs_one x) ?_; exact R2.out; clear R2 HLE; generalize World.setCells _ _ _ _ = W3 at *))
        go_roundw
        case rel => exact ⟨k + 1, by go_num, by omega, HP.out⟩
        case measure => simp [intOf]; omega
      · obtain rfl : k = xs.length := by omega
        have hr := hI.row
        rw [MP.mix_all xs m HM.out] at hr
        have HR : Hid (MP.BsAt wr (some ⟨w.heap.size + 1 + 1, 0, none⟩) xs) := hr.row
        have HI : Hid _ := hI
        clear hr hI
        go_wp2_with fail
        refine Calls.mono (UP.out _ HR.out) ?_
        rintro e w2 ⟨rfl, hb2⟩
        have R2 : Hid _ := (HI.out.kept hb2).res
        have hB2 := (HI.out.kept hb2).below
        have hR2 := HR.out.below hb2
        have HRL : Hid _ := (HI.out.kept hb2).row.lt
        clear HI HR hb2 UP
        obtain ⟨L, hL⟩ : ∃ L, upV xs (.slice (some ⟨w.heap.size + 1 + 1, 0, none⟩) xs.length xs.length) = L := ⟨_, rfl⟩
        have hL1 : L.length = 121 := by rw [← hL]; exact upV_len _ _ _ _
        have hL2 : ∀ v ∈ L, v.oneCell' = true := by rw [← hL]; exact upV_one _ _ _ _
        have HL : Hid _ := hL
        have HL1 : Hid _ := hL1
        have HL2 : Hid _ := hL2
        rw [hL]
        clear hL hL1 hL2
        go_wp2_with (first
          | (refine MA.store_m rfl 88 _ _ rfl rfl rfl (cs := stF (.slice none 0 0) PL.blank) ?_ Try.sizeStack Z_len HL1.out HL2.out ?_; exact R2.out))
        exact bodyPost_ret (MA.ret_cell2 rfl rfl rfl (MA.load_rg (R2.out.put (by rw [Z_len]; exact HL1.out)) Try.underlying88 rfl Try.sizeStack HL1.out)) rfl ⟨w.heap.size + 1 + 1, by rw [HL.out]; rfl, fun _ => ⟨by omega, row_other hR2 (by omega), by rw [MA.setCells_size]; exact HRL.out⟩, MA.below_cells (by omega) _ _ _ hB2⟩
  · have hF : Hid (upOk xs = false) := by simp [Hid, upOk, h60]
    have R0 : Hid (MA.Rg ((w.alloc (.cells #[.slice a xs.length cap] 31)).alloc (.cells (stF (.slice none 0 0) PL.blank).toArray 88)) (w.heap.size + 1) 0 (stF (.slice none 0 0) PL.blank)) := MA.Rg.new' _ _ _ _ (by simp)
    have hb0 : Below w.heap.size w ((w.alloc (.cells #[.slice a xs.length cap] 31)).alloc (.cells (stF (.slice none 0 0) PL.blank).toArray 88)) := ((Below.refl _ w).alloc (Nat.le_refl _) _).alloc (by simp) _
    go_enter Try.func47, Try.ntmps47
    go_wp2_with (first
      | (refine MA.alloc_z rfl 88 rfl _ _ Try.infoStack' ?_; simp only [MA.sz_alloc])
      | (refine MA.build_p rfl 88 rfl [] (by simp) Try.builtStack0 ?_)
      | (refine MA.store_m rfl 88 _ _ rfl rfl rfl (cs := stF (.slice none 0 0) PL.blank) ?_ Try.sizeStack Z_len Z_len Z_one ?_; exact R0.out))
    exact bodyPost_ret (MA.ret_cell2 rfl rfl rfl (MA.load_rg (R0.out.put rfl) Try.underlying88 rfl Try.sizeStack Z_len)) rfl ⟨0, up_no hF.out, (fun h => by rw [hF.out] at h; cases h), MA.below_cells (by omega) _ _ _ hb0⟩
theorem stackOf_any (a : Option Addr) (cap : Nat) (xs : List Bd) (w : World) (hn : xs.length ≤ 1048576) (ht : Hid (∀ k, k < xs.length → (MP.at_ xs k).py.size ≤ 1048576)) (hin : MP.BsAt w a xs) :
    Calls Try.prog 47 #[.agg #[.slice a xs.length cap]] w fun e w' => ∃ g, e = .returned (.tuple #[.agg (upV xs (.slice (some ⟨g, 0, none⟩) xs.length xs.length)).toArray, .bool (upOk xs)]) ∧ (upOk xs = true → w.heap.size ≤ g ∧ MP.BsAt w' (some ⟨g, 0, none⟩) xs) ∧ Below w.heap.size w w' :=
  (stackOfG_any a cap xs w hn ht hin).mono fun _ _ ⟨g, h1, h2, h3⟩ => ⟨g, h1, fun h => ⟨(h2 h).1, (h2 h).2.1⟩, h3⟩
end Go.Proofs.Ytjekofjhplhemaa
