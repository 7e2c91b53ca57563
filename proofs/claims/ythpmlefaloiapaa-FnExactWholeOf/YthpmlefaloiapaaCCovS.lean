/- spec.Covered and spec.MissingIn at any pile. -/
import Derived.Test.YthpmlefaloiapaaRows
import Derived.Test.YthpmlefaloiapaaCBytesS
import Derived.Test.YthpmlefaloiapaaCPlaces
import Derived.WalkKit
import Derived.WalkSpells
import Derived.WalkLawsBesides
import Derived.Outline
namespace Go.Proofs.Ythpmlefaloiapaa
open Go.RowKit
/-- What Covered answers. -/
def covL (xs : List Bd) : List Int := if PL.good xs = true then plF (PL.sh xs xs.length).th 60 else []
theorem covL_no {xs : List Bd} (h : PL.good xs = false) : covL xs = [] := by simp [covL, h]
theorem covL_yes {xs : List Bd} (h : PL.good xs = true) : covL xs = plF (PL.sh xs xs.length).th 60 := by simp [covL, h]
theorem covL_spec {xs : List Bd} (h : PL.good xs = true) : plF (PL.sh xs xs.length).th (PL.total xs) = covL xs := by
  rw [covL_yes h]
  have := PL.places_good h
  unfold PL.places at this
  unfold plF
  rw [this]
theorem covL_len (xs : List Bd) : (covL xs).length ≤ 60 := by
  unfold covL; split
  · exact plF_len _ _
  · simp
set_option linter.unusedSimpArgs false in
set_option maxHeartbeats 800000 in
set_option maxRecDepth 100000 in
theorem specCovered_any (a : Option Addr) (cap : Nat) (xs : List Bd) (w : World) (hn : xs.length ≤ 1048576) (ht : Hid (∀ k, k < xs.length → (MP.at_ xs k).py.size ≤ 1048576)) (hin : MP.BsAt w a xs) (hcap : xs.length ≤ cap) :
    Calls Try.prog 24 #[.agg #[.slice a xs.length cap]] w fun e w' => ∃ a1 c1, e = .returned (.tuple #[.slice a1 (covL xs).length c1, .bool (PL.good xs)]) ∧ w'.ownsRow w.heap.size 3 1 (.slice a1 (covL xs).length c1) (covL xs).length (M4.iv (covL xs)) ∧ Below w.heap.size w w' := by
  obtain ⟨i0, hi, hz0, hz1, hz2⟩ := info_parts Try.infoInt
  have GP : Hid _ := fun W h => specGoodPile_any a cap xs W hn ht h hcap
  have hB : Below w.heap.size w (w.alloc (.cells #[.slice a xs.length cap] 39)) := (Below.refl _ w).alloc (Nat.le_refl _) _
  have HI : Hid (MP.BsAt (w.alloc (.cells #[.slice a xs.length cap] 39)) a xs) := hin.below hB
  go_enter Try.func24, Try.ntmps24
  go_wp2_with fail
  refine (GP.out _ HI.out).mono ?_
  rintro e w1 ⟨rfl, hb1⟩
  have hB1 := hB.trans (hb1.mono hB.size)
  have hR1 := MP.BsAt.below HI.out hb1
  have c1 : w1.cell? ⟨w.heap.size, 0, none⟩ = some (.slice a xs.length cap) := (hb1.cell (p := ⟨w.heap.size, 0, none⟩) (by simp)).trans (by simp)
  clear GP HI hb1 hB
  cases hg : PL.good xs with
  | false =>
    have hC : Hid _ := covL_no hg
    have HG : Hid _ := hg
    clear hg
    go_wp2
    go_ret2
    exact ⟨none, 0, by rw [hC.out, HG.out]; rfl, by rw [hC.out]; exact World.ownsRow_nil _ _ _ _, hB1⟩
  | true =>
    have LB : Hid _ := fun W h => l4Bytes_any a cap xs W hg h
    have hC : Hid _ := covL_spec hg
    have hT := PL.total_le hg
    have HG : Hid _ := hg
    clear hg
    go_wp2_with fail
    refine (LB.out _ hR1).mono ?_
    rintro e w2 ⟨a1, a2, rfl, _, ho2, hb2⟩
    have hB2 := hB1.trans (hb2.mono hB1.size)
    have HO2 : Hid _ := MA.own_base ho2 hB1.size
    clear LB hb2 hB1 hR1 c1 ho2
    generalize PL.total xs = n at *
    generalize (PL.sh xs xs.length).th = f at *
    go_wp2
    go_loopw [6, 7, 8, 19] (fun v _ _ iv wr => ∃ k : Nat, iv = .int .i64 k ∧ k ≤ n ∧ wr.ownsRow w2.heap.size 3 1 v (plF f k).length (M4.iv (plF f k)) ∧ Below w2.heap.size w2 wr) (fun _ _ _ iv _ => (n - intOf iv).toNat)
    case atStart => exact ⟨0, rfl, by omega, World.ownsRow_nil _ _ _ _, Below.refl _ _⟩
    case round =>
      obtain ⟨k, rfl, hk, hown, hb⟩ := hrel
      have hbs := hb.size
      have hln := plF_len f k
      by_cases hl : k < n
      · have hS : Hid _ := plF_succ f k
        have hO := MP.own_below HO2.out hb
        obtain ⟨g, rfl⟩ : ∃ g, a2 = some ⟨g, 0, none⟩ := by
          rcases hO.2 with ⟨h1, h2⟩ | ⟨g, cp, cur, h1, _⟩
          · omega
          · simp at h1; exact ⟨g, h1.1⟩
        have ck : wr.cell? ⟨g, k, none⟩ = some (.bool (f k)) := by rw [hO.cellAt k (by omega), MA.tN_get _ hl]
        have hk0 : (0 : Int) ≤ (k : Int) := by omega
        have hkn : (k : Int) < (n : Int) := by omega
        clear hO
        cases hf : f k with
        | false =>
          rw [hf] at ck
          have e : plF f (k + 1) = plF f k := by rw [hS.out, hf]; simp
          rw [← e] at hown
          clear e hS hf hln
          go_wp2
          go_roundw
          case rel => exact ⟨k + 1, by go_num, by omega, hown, hb⟩
          case measure => simp [intOf]; omega
        | true =>
          rw [hf] at ck
          have HE : Hid (plF f (k + 1) = plF f k ++ [(k : Int)]) := by rw [hS.out, hf]; rfl
          clear hS hf
          go_wp2_with (at_builtin; refine wpList_append_own _ rfl _ _ 47 rfl w2.heap.size 3 i0 (.int .i64 0) 1 8 Try.underlying47 hi hz0 hz1 hz2 rfl (by decide) _ _ _ rfl (hown.alloc _) ⟨wr.heap.size, 0, none⟩ 1 1 [.int .i64 (k : Int)] rfl rfl ?c1 ?c2 ?c3 ?c4 ?c5 ?_)
          case c1 => exact M2.new1 _ _ _
          case c2 => exact M2.one1 _ _
          case c3 => unfold maxLen; omega
          case c4 => omega
          case c5 => simp; omega
          intro v' w3 hown1 hgrow _
          have R := M5.growI hown hb (by omega) (by exact hown1) hgrow
          have R1 := R.1
          have R2 := R.2
          rw [← HE.out] at R1
          clear hown1 hgrow hown R HE ck hln
          go_wp2
          go_roundw
          case rel => exact ⟨k + 1, by go_num, by omega, R1, R2⟩
          case measure => simp [intOf]; omega
      · obtain rfl : k = n := by omega
        obtain ⟨a3, c3, hv, _⟩ := M5.own_view hown
        rw [hv] at hown ⊢
        have HO : Hid _ := hown
        clear hln hv hown
        go_wp2
        go_ret2
        have HO' := HO.out
        rw [hC.out] at HO'
        exact ⟨a3, c3, by rw [hC.out, HG.out]; rfl, MA.own_base HO' hB2.size, hB2.trans (hb.mono hB2.size)⟩
/-- What MissingIn answers. -/
def missN (xs : List Bd) : Int := if PL.good xs = true then (PL.total xs : Int) - (covL xs).length else 0
theorem missN_no {xs : List Bd} (h : PL.good xs = false) : missN xs = 0 := by simp [missN, h]
theorem missN_nil : missN [] = 0 := by
  unfold missN; split
  · simp [PL.total, covL, PL.sh, plF, PL.blank]
  · rfl
theorem missN_yes {xs : List Bd} (h : PL.good xs = true) : missN xs = (PL.total xs : Int) - (covL xs).length := by simp [missN, h]
set_option linter.unusedSimpArgs false in
set_option maxHeartbeats 800000 in
set_option maxRecDepth 100000 in
theorem specMissing_any (a : Option Addr) (cap : Nat) (xs : List Bd) (w : World) (hn : xs.length ≤ 1048576) (ht : Hid (∀ k, k < xs.length → (MP.at_ xs k).py.size ≤ 1048576)) (hin : MP.BsAt w a xs) (hcap : xs.length ≤ cap) :
    Calls Try.prog 54 #[.agg #[.slice a xs.length cap]] w fun e w' => e = .returned (.tuple #[.int .i64 (missN xs), .bool (PL.good xs)]) ∧ Below w.heap.size w w' := by
  have CV : Hid _ := fun W h => specCovered_any a cap xs W hn ht h hcap
  have hB : Below w.heap.size w (w.alloc (.cells #[.slice a xs.length cap] 39)) := (Below.refl _ w).alloc (Nat.le_refl _) _
  have HI : Hid (MP.BsAt (w.alloc (.cells #[.slice a xs.length cap] 39)) a xs) := hin.below hB
  go_enter Try.func54, Try.ntmps54
  go_wp2_with fail
  refine (CV.out _ HI.out).mono ?_
  rintro e w1 ⟨a1, c1, rfl, _, hb1⟩
  have hB1 := hB.trans (hb1.mono hB.size)
  have hR1 := MP.BsAt.below HI.out hb1
  have c1 : w1.cell? ⟨w.heap.size, 0, none⟩ = some (.slice a xs.length cap) := (hb1.cell (p := ⟨w.heap.size, 0, none⟩) (by simp)).trans (by simp)
  clear CV HI hb1 hB
  cases hg : PL.good xs with
  | false =>
    have hM : Hid _ := missN_no hg
    have HG : Hid _ := hg
    clear hg
    go_wp2
    go_ret2
    exact ⟨by rw [hM.out, HG.out]; rfl, hB1⟩
  | true =>
    have HG : Hid _ := hg
    have hM : Hid _ := missN_yes hg
    have hT := PL.total_le hg
    have hcl := covL_len xs
    by_cases h0 : xs = []
    · subst h0
      have hM0 : Hid _ := missN_nil
      clear hg hM
      go_wp2
      go_ret2
      exact ⟨by rw [hM0.out, HG.out]; rfl, hB1⟩
    · have hn0 : 0 < xs.length := by cases xs with | nil => exact absurd rfl h0 | cons x l => simp
      have hne : ¬ xs.length = 0 := by omega
      have htl : (MP.at_ xs 0).tl = (PL.total xs : Int) := by
        have p0 := PL.pg_is ((PL.good_inv hg).1.2.2.2 0 hn0)
        unfold PL.total; rw [if_neg h0]; omega
      obtain ⟨b, off, rfl, hbl, rg⟩ := MA.row_range hR1 hn0
      have ctl : w1.cell? ⟨b, off + 8, none⟩ = some (.int .i64 (PL.total xs : Int)) := by
        rw [Nat.zero_mul, Nat.add_zero] at rg
        have := rg 8 (.int .i64 (MP.at_ xs 0).tl) rfl
        rwa [htl] at this
      clear rg htl hg
      generalize PL.total xs = n at *
      generalize (covL xs).length = m at *
      go_wp2
      go_ret2
      exact ⟨by rw [hM.out, HG.out]; rfl, hB1⟩
end Go.Proofs.Ythpmlefaloiapaa
