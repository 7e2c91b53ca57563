/- The laws' toPile copies a pile, szPile bounds what it holds, eqPile tells that a pile is itself. -/
import Derived.Test.YtjekofjhplhemaaRows
import Derived.Test.YtjekofjhplhemaaCBundleLaw
import Derived.Test.YtjekofjhplhemaaCEqBundle
import Derived.Test.YtjekofjhplhemaaCBundleInfo
import Derived.Test.YtjekofjhplhemaaMA3
import Derived.Test.YtjekofjhplhemaaMRH
import Derived.WalkKit
import Derived.WalkSpells
import Derived.WalkLawsBesides
import Derived.Outline
import Derived.Lib.Buffer
namespace Go.Proofs.Ytjekofjhplhemaa
open Go.RowKit
theorem Try.infoBundleB : (Try.prog.info? 35).map (fun i => (i.zero, i.size, i.bytes)) = some (some (.agg (Bd.cs B1.zero).toArray), 10, 88) := by kernel_rfl
theorem Try.sizeLBundle : (Try.prog.info? 26).map (·.size) = some 10 := by kernel_rfl
/-- A row that is being filled. -/
structure FillIn (w W : World) (g : Nat) (cs : List Value) : Prop where
  below : Below w.heap.size w W
  row : MA.Rg W g 0 cs
set_option linter.unusedSimpArgs false in
set_option maxHeartbeats 800000 in
set_option maxRecDepth 100000 in
theorem toBundleS_any (a : Option Addr) (cap : Nat) (xs : List Bd) (w : World) (hz : xs.length ≤ 1048576) (hin : MP.BsAt w a xs) :
    Calls Try.prog 46 #[.slice a xs.length cap] w fun e w' => e = .returned (.slice (some ⟨w.heap.size, 0, none⟩) xs.length xs.length) ∧ w'.ownsRow w.heap.size 35 10 (.slice (some ⟨w.heap.size, 0, none⟩) xs.length xs.length) xs.length (MP.flat xs) ∧ Below w.heap.size w w' := by
  obtain ⟨i0, hi, hz0, hz1, hz2⟩ := info_parts Try.infoBundleB
  go_enter Try.func46, Try.ntmps46
  go_wp2_with (at_make; refine wpList_make_full _ rfl _ _ 29 rfl w.heap.size 35 i0 (.agg (Bd.cs B1.zero).toArray) 10 Try.underlying29 hi hz0 hz1 .i64 .i64 _ _ xs.length rfl rfl rfl rfl ?_ ?_ ?_ ?_)
  · rw [hz2]; omega
  · unfold maxLen; omega
  · omega
  intro w1 hown hgrow
  have hb1 : Below w.heap.size w w1 := (Below.refl _ _).grown hgrow (Nat.le_refl _) (fun k hk => by cases hk)
  have hml := hown.1
  generalize (madeCells _ _).toList = m at *
  rw [← MP.mix_zero xs m] at hown
  have HM : Hid (m.length = xs.length * 10) := hml
  clear hgrow hi hz0 hz1 hz2 hml
  go_wp2_with fail
  go_loopw [4] (fun iv wr => ∃ k : Nat, iv = .int .i64 k ∧ k ≤ xs.length ∧ wr.ownsRow w.heap.size 35 10 (.slice (some ⟨w.heap.size, 0, none⟩) xs.length xs.length) xs.length (MP.mix xs m k) ∧ Below w.heap.size w wr) (fun iv _ => (xs.length - intOf iv).toNat)
  case atStart => exact ⟨0, rfl, by omega, hown, hb1⟩
  case round =>
    clear hown hb1
    obtain ⟨k, rfl, hk, hown, hb⟩ := hrel
    by_cases hl : k < xs.length
    · obtain ⟨b, off, rfl, hlt, rg⟩ := MA.row_range (hin.below hb) hl
      obtain ⟨x, hx⟩ : ∃ x, MP.at_ xs k = x := ⟨_, rfl⟩
      rw [hx] at rg
      have RG : Hid _ := rg
      have HX : Hid (MP.at_ xs k = x) := hx
      have TB : Hid (∀ W, Calls Try.prog 13 #[.agg x.cs.toArray] W fun e w' => e = .returned (.agg x.cs.toArray) ∧ Below W.heap.size W w') := fun W => toBundle_any x W
      clear hx rg
      have HO : Hid _ := hown
      clear hown
      have hk0 : (0 : Int) ≤ (k : Int) := by omega
      have hkn : (k : Int) < (xs.length : Int) := by omega
      go_wp2_with (refine MA.load_r rfl 26 _ rfl rfl (cs := x.cs) ?_ Try.underlying26 rfl Try.sizeLBundle rfl ?_; exact RG.out)
      refine (TB.out _).mono ?_
      rintro e w2 ⟨rfl, hb2⟩
      have hown2 := MP.own_below HO.out hb2
      have hB2 := hb.trans (hb2.mono hb.size)
      have hlen := MP.mix_len xs m k HM.out (by omega)
      have R2 : Hid _ := (MA.Rg.of_own hown2).part (p := k * 10) (n := 10) (by omega)
      rw [Nat.zero_add] at R2
      have hle : ((List.drop (k * 10) (MP.mix xs m k)).take 10).length = 10 := by simp; omega
      have HLE : Hid _ := hle
      have HP : Hid ((w2.setCells w.heap.size (k * 10) x.cs).ownsRow w.heap.size 35 10 (.slice (some ⟨w.heap.size, 0, none⟩) xs.length xs.length) xs.length (MP.mix xs m (k + 1))) := by
        have := MA.own_cells hown2 (p := k * 10) (vs := x.cs) (by have : x.cs.length = 10 := rfl; omega)
        rw [← HX.out, MA.mix_mid xs m k HM.out hl] at this
        rw [← HX.out]
        exact this
      have HB : Hid (Below w.heap.size w (w2.setCells w.heap.size (k * 10) x.cs)) := MA.below_cells (Nat.le_refl _) _ _ _ hB2
      clear hle hown2 hlen HO hb2 hB2 hb TB HX
      go_wp2_with (refine MA.store_m rfl 35 _ _ rfl rfl rfl (cs := (List.drop (k * 10) (MP.mix xs m k)).take 10) ?_ Try.sizeBundle HLE.out rfl (MA.cs_one x) ?_; exact R2.out; clear R2 HLE; generalize World.setCells _ _ _ _ = W3 at *)
      go_roundw
      case rel => exact ⟨k + 1, by go_num, by omega, HP.out, HB.out⟩
      case measure => simp [intOf]; omega
    · obtain rfl : k = xs.length := by omega
      rw [MP.mix_all _ _ HM.out] at hown
      have HO : Hid _ := hown
      clear hown hin
      go_wp2
      go_ret
      exact ⟨rfl, HO.out, hb⟩
set_option maxHeartbeats 400000 in
set_option maxRecDepth 100000 in
theorem toPile_any (a : Option Addr) (cap : Nat) (xs : List Bd) (w : World) (hz : xs.length ≤ 1048576) (hin : MP.BsAt w a xs) :
    Calls Try.prog 12 #[.agg #[.slice a xs.length cap]] w fun e w' => ∃ g, e = .returned (.agg #[.slice (some ⟨g, 0, none⟩) xs.length xs.length]) ∧ w'.ownsRow w.heap.size 35 10 (.slice (some ⟨g, 0, none⟩) xs.length xs.length) xs.length (MP.flat xs) ∧ Below w.heap.size w w' := by
  have TB : Hid (∀ W, MP.BsAt W a xs → Calls Try.prog 46 #[.slice a xs.length cap] W fun e w' => e = .returned (.slice (some ⟨W.heap.size, 0, none⟩) xs.length xs.length) ∧ w'.ownsRow W.heap.size 35 10 (.slice (some ⟨W.heap.size, 0, none⟩) xs.length xs.length) xs.length (MP.flat xs) ∧ Below W.heap.size W w') := fun W h => toBundleS_any a cap xs W hz h
  have hB : Below w.heap.size w (((w.alloc (.cells #[.slice a xs.length cap] 24)).alloc (.cells #[.slice none 0 0] 31)).alloc (.cells #[.slice none 0 0] 31)) := (((Below.refl _ w).alloc (Nat.le_refl _) _).alloc (by simp) _).alloc (by simp; omega) _
  have HI : Hid _ := hin.below hB
  go_enter Try.func12, Try.ntmps12
  go_wp2_with fail
  refine (TB.out _ HI.out).mono ?_
  rintro e w2 ⟨rfl, hown, hb2⟩
  have hB2 := hB.trans (hb2.mono hB.size)
  have r0 := ((MA.Rg.new' (w.alloc (.cells #[.slice a xs.length cap] 24)) [.slice none 0 0] 31 (w.heap.size + 1) (by simp)).alloc (.cells #[.slice none 0 0] 31)).below hb2 (by simp)
  have r1 := (MA.Rg.new' ((w.alloc (.cells #[.slice a xs.length cap] 24)).alloc (.cells #[.slice none 0 0] 31)) [.slice none 0 0] 31 (w.heap.size + 1 + 1) (by simp)).below hb2 (by simp)
  have c0 : w2.cell? ⟨w.heap.size + 1, 0, none⟩ = some (.slice none 0 0) := r0.cell (j := 0) rfl
  have c1 : w2.cell? ⟨w.heap.size + 1 + 1, 0, none⟩ = some (.slice none 0 0) := r1.cell (j := 0) rfl
  have f0 : w2.frozen? ⟨w.heap.size + 1, 0, none⟩ = false := r0.free (j := 0) (by simp)
  have f1 : w2.frozen? ⟨w.heap.size + 1 + 1, 0, none⟩ = false := r1.free (j := 0) (by simp)
  clear r0 r1
  have e3 : (((w.alloc (.cells #[.slice a xs.length cap] 24)).alloc (.cells #[.slice none 0 0] 31)).alloc (.cells #[.slice none 0 0] 31)).heap.size = w.heap.size + 1 + 1 + 1 := by simp
  rw [e3] at hown
  have HO : Hid _ := hown
  clear TB HI hown hb2 hB e3
  go_wp2
  refine bodyPost_ret (v := .agg #[.slice (some ⟨w.heap.size + 1 + 1 + 1, 0, none⟩) xs.length xs.length]) (by simp [results, Try.results12, go_sem, c0]) rfl ⟨w.heap.size + 1 + 1 + 1, rfl, ?_, (hB2.setCell (by simp; omega) _).setCell (by simp) _⟩
  have h1 := ownsRow_setCell_below HO.out (a := ⟨w.heap.size + 1 + 1, 0, none⟩) (by simp) (.slice (some ⟨w.heap.size + 1 + 1 + 1, 0, none⟩) xs.length xs.length)
  have h2 := ownsRow_setCell_below h1 (a := ⟨w.heap.size + 1, 0, none⟩) (by simp) (.slice (some ⟨w.heap.size + 1 + 1 + 1, 0, none⟩) xs.length xs.length)
  exact MA.own_base h2 (by omega)
set_option linter.unusedSimpArgs false in
set_option maxHeartbeats 800000 in
set_option maxRecDepth 100000 in
theorem szBundleS_any (a : Option Addr) (cap : Nat) (xs : List Bd) (w : World) (l0 : Int) (hl0 : 0 ≤ l0 ∧ l0 ≤ 1048576) (hl : xs.length ≤ maxLen) (ht : Hid (∀ k, k < xs.length → (MP.at_ xs k).py.size ≤ maxLen)) (hin : MP.BsAt w a xs) :
    Calls Try.prog 41 #[.slice a xs.length cap, .int .i64 l0] w fun e w' => ∃ r : Int, e = .returned (.int .i64 r) ∧ (r < 0 ∨ (0 ≤ r ∧ r ≤ 1048576 ∧ xs.length ≤ 1048576 ∧ Hid (∀ k, k < xs.length → (MP.at_ xs k).py.size ≤ 1048576))) ∧ Below w.heap.size w w' := by
  unfold maxLen at hl
  by_cases h : l0 - xs.length < 0
  · go_enter Try.func41, Try.ntmps41
    go_wp2
    go_ret
    exact ⟨-1, rfl, .inl (by omega), Below.refl _ _⟩
  · have hl2 : xs.length ≤ 1048576 := by omega
    go_enter Try.func41, Try.ntmps41
    go_wp2
    go_loopw [1, 5] (fun lv iv wr => ∃ (k : Nat) (left : Int), lv = .int .i64 left ∧ iv = .int .i64 k ∧ k ≤ xs.length ∧ 0 ≤ left ∧ left ≤ 1048576 ∧ Hid (∀ j, j < k → (MP.at_ xs j).py.size ≤ 1048576) ∧ Below w.heap.size w wr) (fun _ iv _ => (xs.length - intOf iv).toNat)
    case atStart => exact ⟨0, _, rfl, rfl, by omega, by omega, by omega, show Hid _ from fun j hj => by omega, Below.refl _ _⟩
    case round =>
      obtain ⟨k, left, rfl, rfl, hk, hl0, hl1, hT, hb⟩ := hrel
      by_cases hlk : k < xs.length
      · obtain ⟨b, off, rfl, hlt, rg⟩ := MA.row_range (hin.below hb) hlk
        have hts := ht.out k hlk
        have HS : Hid _ := fun (h : (MP.at_ xs k).py.size ≤ 1048576) j (hj : j < k + 1) => (if e : j = k then e ▸ h else hT.out j (by omega) : (MP.at_ xs j).py.size ≤ 1048576)
        clear hT
        generalize MP.at_ xs k = x at *
        have RG : Hid _ := rg
        have SZ : Hid (∀ W, Calls Try.prog 10 #[.agg x.cs.toArray, .int .i64 left] W fun e w' => (∃ r : Int, e = .returned (.int .i64 r) ∧ (r < 0 ∨ (r = left - x.py.size ∧ 0 ≤ r))) ∧ Below W.heap.size W w') := fun W => szBundle_any x left W hts ⟨hl0, hl1⟩
        have hk0 : (0 : Int) ≤ (k : Int) := by omega
        have hkn : (k : Int) < (xs.length : Int) := by omega
        clear hts rg
        go_wp2_with (refine MA.load_r rfl 26 _ rfl rfl (cs := x.cs) ?_ Try.underlying26 rfl Try.sizeLBundle rfl ?_; exact RG.out)
        refine (SZ.out _).mono ?_
        rintro e w2 ⟨⟨r, rfl, hr⟩, hb2⟩
        have hB2 := hb.trans (hb2.mono hb.size)
        clear hb2 hb SZ RG
        rcases hr with hr | ⟨rfl, hr⟩
        · go_wp2
          go_ret
          exact ⟨-1, rfl, .inl (by omega), hB2⟩
        · have HS2 : Hid _ := HS.out (by omega)
          clear HS
          go_wp2
          go_roundw
          case rel => exact ⟨k + 1, _, rfl, by go_num, by omega, by omega, by omega, HS2, hB2⟩
          case measure => simp [intOf]; omega
      · obtain rfl : k = xs.length := by omega
        clear hin
        go_wp2
        go_ret
        exact ⟨left, rfl, .inr ⟨hl0, hl1, hl2, hT⟩, hb⟩
set_option maxHeartbeats 400000 in
set_option maxRecDepth 100000 in
theorem szPile_any (a : Option Addr) (cap : Nat) (xs : List Bd) (w : World) (hl : xs.length ≤ maxLen) (ht : Hid (∀ k, k < xs.length → (MP.at_ xs k).py.size ≤ maxLen)) (hin : MP.BsAt w a xs) :
    Calls Try.prog 9 #[.agg #[.slice a xs.length cap], .int .i64 1048576] w fun e w' => ∃ r : Int, e = .returned (.int .i64 r) ∧ (r < 0 ∨ (0 ≤ r ∧ r ≤ 1048576 ∧ xs.length ≤ 1048576 ∧ Hid (∀ k, k < xs.length → (MP.at_ xs k).py.size ≤ 1048576))) ∧ Below w.heap.size w w' := by
  have SZ : Hid _ := fun W h => szBundleS_any a cap xs W 1048576 (by omega) hl ht h
  have hB : Below w.heap.size w (w.alloc (.cells #[.slice a xs.length cap] 24)) := (Below.refl _ w).alloc (Nat.le_refl _) _
  have HI : Hid (MP.BsAt (w.alloc (.cells #[.slice a xs.length cap] 24)) a xs) := hin.below hB
  go_enter Try.func9, Try.ntmps9
  go_wp2_with fail
  refine (SZ.out _ HI.out).mono ?_
  rintro e w2 ⟨r, rfl, hr, hb2⟩
  have hB2 := hB.trans (hb2.mono hB.size)
  clear SZ HI hb2 hB
  by_cases h0 : r < 0
  · clear hr
    go_wp2
    go_ret
    exact ⟨-1, rfl, .inl (by omega), hB2⟩
  · have HR : Hid _ := hr
    clear hr
    go_wp2
    go_ret
    exact ⟨r, rfl, HR.out, hB2⟩
end Go.Proofs.Ytjekofjhplhemaa
