/- The laws' markItemS writes marks into a row of items that the caller owns; heldItemS tells that a row of items still holds them. -/
import Derived.Test.YtkpkahhhmoaafaaRows
import Derived.Test.YtkpkahhhmoaafaaCMarkText
import Derived.WalkKit
import Derived.WalkSpells
import Derived.WalkLawsBesides
import Derived.Outline
import Derived.Deep.QuietTactic
import Derived.BigQuiet
import Derived.Deep.RegionHeld3
namespace Go.Proofs.Ytkpkahhhmoaafaa
open Go.RowKit
set_option maxHeartbeats 1600000 in
set_option maxRecDepth 100000 in
theorem markItemS_any (base : Nat) (v : Value) (xs : List It) (k : Nat) (w : World) (hz : xs.length ≤ 1048576) (hk : k ≤ 1000000) (hbase : base ≤ w.heap.size) (hown : w.ownsRow base 43 4 v xs.length (M11.flat xs)) :
    Calls Try.prog 26 #[v, .int .i64 k] w fun e w' => e = .returned (.int .i64 ((k + 4 * xs.length : Nat) : Int)) ∧ w'.ownsRow base 43 4 v xs.length (M11.flat (M18.mkI k xs.length)) ∧ Below base w w' := by
  rcases hown.2 with ⟨rfl, h0⟩ | ⟨g, cap, cur, rfl, hg, hrest⟩
  · obtain rfl : xs = [] := List.eq_nil_of_length_eq_zero h0
    go_enter Try.func26, Try.ntmps26
    go_wp2
    refine wp_loop_rounds 1 ?_
    rw [rounds_succ]
    go_wp2
    go_ret
    exact ⟨by simp, World.ownsRow_nil _ _ _ _, Below.refl _ _⟩
  · clear hrest
    have hml : (M11.flat xs).length = (M18.mkI k xs.length).length * 4 := by rw [M18.mkI_len, M11.flat_len]
    have hms := M18.mkI_len k xs.length
    have HM : Hid _ := hml
    have HS : Hid (∀ i, i < xs.length → ∀ m : List Value, m = M11.flat xs → ((((M11.mix (M18.mkI k xs.length) m i).set (i * 4) (.int .i64 ((k + 4 * i : Nat) : Int))).set (i * 4 + 1) (.int .i64 ((k + 4 * i + 1 : Nat) : Int))).set (i * 4 + 2) (.string (M18.mt (k + 4 * i + 2)))).set (i * 4 + 3) (.int .i64 ((k + 4 * i + 3 : Nat) : Int)) = M11.mix (M18.mkI k xs.length) m (i + 1)) := fun i hi m hm => by
      have := M11.mix_set (M18.mkI k xs.length) m i (by rw [hm]; exact hml) (by rw [hms]; exact hi)
      rw [M18.mkI_at k _ i hi] at this
      exact this
    rw [← M11.mix_zero (M18.mkI k xs.length) (M11.flat xs)] at hown
    have HF : Hid (M11.mix (M18.mkI k xs.length) (M11.flat xs) xs.length = M11.flat (M18.mkI k xs.length)) := by
      show _ = _
      have := M11.mix_all (M18.mkI k xs.length) (M11.flat xs) hml
      rwa [hms] at this
    have HLen : Hid (∀ i, i ≤ xs.length → (M11.mix (M18.mkI k xs.length) (M11.flat xs) i).length = xs.length * 4) := fun i hi => by
      have := M11.mix_len (M18.mkI k xs.length) (M11.flat xs) i hml (by omega)
      rwa [hms] at this
    obtain ⟨F, hF⟩ : ∃ F : Nat → List Value, F = fun i => M11.mix (M18.mkI k xs.length) (M11.flat xs) i := ⟨_, rfl⟩
    have HS2 : Hid (∀ i, i < xs.length → ((((F i).set (i * 4) (.int .i64 ((k + 4 * i : Nat) : Int))).set (i * 4 + 1) (.int .i64 ((k + 4 * i + 1 : Nat) : Int))).set (i * 4 + 2) (.string (M18.mt (k + 4 * i + 2)))).set (i * 4 + 3) (.int .i64 ((k + 4 * i + 3 : Nat) : Int)) = F (i + 1)) := fun i hi => by rw [hF]; exact HS.out i hi _ rfl
    have HF2 : Hid (F xs.length = M11.flat (M18.mkI k xs.length)) := by rw [hF]; exact HF.out
    have hown' : w.ownsRow base 43 4 (.slice (some ⟨g, 0, none⟩) xs.length cap) xs.length (F 0) := by rw [hF]; exact hown
    clear HS HF hown HM HLen hF hml
    generalize M11.flat (M18.mkI k xs.length) = Z at *
    go_enter Try.func26, Try.ntmps26
    go_wp2
    go_loopw [1, 5] (fun kv iv wr => ∃ (i : Nat) (K : Int), kv = .int .i64 K ∧ Hid (K = ((k + 4 * i : Nat) : Int)) ∧ 0 ≤ K ∧ K ≤ 6000000 ∧ iv = .int .i64 i ∧ i ≤ xs.length ∧ wr.ownsRow base 43 4 (.slice (some ⟨g, 0, none⟩) xs.length cap) xs.length (F i) ∧ Below base w wr) (fun _ iv _ => (xs.length - intOf iv).toNat)
    case atStart => exact ⟨0, (k : Int), rfl, show Hid _ from by simp [Hid], by omega, by omega, rfl, by omega, hown', Below.refl _ _⟩
    case round =>
      clear hown'
      obtain ⟨i, K, rfl, hK, hK0, hK1, rfl, hi, hown, hb⟩ := hrel
      by_cases hl : i < xs.length
      · have hKe := hK.out
        have HS3 : Hid (((((F i).set (i * 4) (.int .i64 K)).set (i * 4 + 1) (.int .i64 (K + 1))).set (i * 4 + 2) (.string (M18.mt (k + 4 * i + 2)))).set (i * 4 + 3) (.int .i64 (K + 1 + 1 + 1)) = F (i + 1)) := by
          have := HS2.out i hl
          rw [show ((k + 4 * i : Nat) : Int) = K from hKe.symm, show ((k + 4 * i + 1 : Nat) : Int) = K + 1 from by omega, show ((k + 4 * i + 3 : Nat) : Int) = K + 1 + 1 + 1 from by omega] at this
          exact this
        have hK2 : Hid (K + 1 + 1 + 1 + 1 = ((k + 4 * (i + 1) : Nat) : Int)) := by show _ = _; omega
        have hK3 : K + 1 + 1 + 1 + 1 ≤ 6000000 := by omega
        have CC : Hid _ := fun W => markText_int (K + 1 + 1) (k + 4 * i + 2) W (by omega) (by omega)
        generalize M18.mt (k + 4 * i + 2) = X at *
        have hbs := hb.size
        have hgb := (hown.lt g rfl).1
        have hlt : g < wr.heap.size := (hown.lt g rfl).2
        obtain ⟨y0, q0⟩ : ∃ y, wr.cell? ⟨g, i * 4, none⟩ = some y := M11.some_at hown _ (by omega)
        obtain ⟨y1, q1⟩ : ∃ y, wr.cell? ⟨g, i * 4 + 1, none⟩ = some y := M11.some_at hown _ (by omega)
        have z0 := hown.frozenAt (i * 4)
        have z1 := hown.frozenAt (i * 4 + 1)
        have s0 := hown.stored (i * 4) (.int .i64 K)
        have s1 := s0.1.stored (i * 4 + 1) (.int .i64 (K + 1))
        have hB1 := (hb.grown s0.2 (Nat.le_trans hbase hbs) (fun j hj => by simp at hj; omega)).grown s1.2 (Nat.le_trans (Nat.le_trans hbase hbs) s0.2.size) (fun j hj => by simp at hj; omega)
        have hown1 := s1.1
        have hgs := Nat.le_trans s0.2.size s1.2.size
        clear s0 s1 hown HS2 hKe hK
        go_wp2_with fail
        refine Calls.mono (CC.out _) ?_
        rintro e w2 ⟨rfl, hb2⟩
        have hown2 := M11.own_below hown1 hb2
        have hB2 := hB1.trans (hb2.mono (by omega))
        obtain ⟨y2, q2⟩ : ∃ y, w2.cell? ⟨g, i * 4 + 2, none⟩ = some y := M11.some_at hown2 _ (by omega)
        obtain ⟨y3, q3⟩ : ∃ y, w2.cell? ⟨g, i * 4 + 3, none⟩ = some y := M11.some_at hown2 _ (by omega)
        have z2 := hown2.frozenAt (i * 4 + 2)
        have z3 := hown2.frozenAt (i * 4 + 3)
        have hbs2 : base ≤ w2.heap.size := Nat.le_trans hbase hB2.size
        have s2 := hown2.stored (i * 4 + 2) (.string X)
        have s3 := s2.1.stored (i * 4 + 3) (.int .i64 (K + 1 + 1 + 1))
        have R2 := (hB2.grown s2.2 hbs2 (fun j hj => by simp at hj; omega)).grown s3.2 (Nat.le_trans hbs2 s2.2.size) (fun j hj => by simp at hj; omega)
        have R1 := s3.1
        rw [HS3.out] at R1
        clear s2 s3 hown2 hown1 hB1 hb2 hB2 CC HS3 q0 q1 z0 z1
        go_wp2
        go_roundw
        case rel => exact ⟨i + 1, K + 1 + 1 + 1 + 1, rfl, hK2, by omega, hK3, by go_num, by omega, R1, R2⟩
        case measure => simp [intOf]; omega
      · obtain rfl : i = xs.length := by omega
        rw [HF2.out] at hown
        have hKe := hK.out
        subst hKe
        clear HS2 HF2 hK
        go_wp2
        go_ret
        exact ⟨rfl, hown, hb⟩
set_option maxHeartbeats 1600000 in
set_option maxRecDepth 100000 in
theorem heldItemS_any (a : Option Addr) (cap : Nat) (n k : Nat) (w : World) (hz : n ≤ 1048576) (hk : k ≤ 1000000) (hin : M11.ItemsAt w a (M18.mkI k n)) :
    Calls Try.prog 27 #[.slice a n cap, .int .i64 k] w fun e w' => e = .returned (.int .i64 ((k + 4 * n : Nat) : Int)) ∧ Below w.heap.size w w' := by
  have HA : Hid (∀ (wr : World) (i : Nat), i < n → Below w.heap.size w wr → ∃ b off, a = some ⟨b, off, none⟩ ∧ b < w.heap.size ∧ wr.cell? ⟨b, off + i * 4, none⟩ = some (.int .i64 ((k + 4 * i : Nat) : Int)) ∧ wr.cell? ⟨b, off + i * 4 + 1, none⟩ = some (.int .i64 ((k + 4 * i + 1 : Nat) : Int)) ∧ wr.cell? ⟨b, off + i * 4 + 2, none⟩ = some (.string (M18.mt (k + 4 * i + 2))) ∧ wr.cell? ⟨b, off + i * 4 + 3, none⟩ = some (.int .i64 ((k + 4 * i + 3 : Nat) : Int))) := fun wr i hi hb => by
    obtain ⟨b, off, e, hlt, c0, c1, c2, c3⟩ := hin.at (k := i) (by rw [M18.mkI_len]; exact hi)
    rw [M18.mkI_at k n i hi] at c0 c1 c2 c3
    exact ⟨b, off, e, hlt, (hb.cell hlt).trans c0, (hb.cell hlt).trans c1, (hb.cell hlt).trans c2, (hb.cell hlt).trans c3⟩
  clear hin
  go_enter Try.func27, Try.ntmps27
  go_wp2
  go_loopw [1, 5] (fun kv iv wr => ∃ (i : Nat) (K : Int), kv = .int .i64 K ∧ Hid (K = ((k + 4 * i : Nat) : Int)) ∧ 0 ≤ K ∧ K ≤ 6000000 ∧ iv = .int .i64 i ∧ i ≤ n ∧ Below w.heap.size w wr) (fun _ iv _ => (n - intOf iv).toNat)
  case atStart => exact ⟨0, (k : Int), rfl, show Hid _ from by simp [Hid], by omega, by omega, rfl, by omega, Below.refl _ _⟩
  case round =>
    obtain ⟨i, K, rfl, hK, hK0, hK1, rfl, hi, hb⟩ := hrel
    by_cases hl : i < n
    · have hKe := hK.out
      obtain ⟨b, off, rfl, hlt, c0, c1, c2, c3⟩ := HA.out wr i hl hb
      rw [show ((k + 4 * i : Nat) : Int) = K from hKe.symm] at c0
      rw [show ((k + 4 * i + 1 : Nat) : Int) = K + 1 from by omega] at c1
      rw [show ((k + 4 * i + 3 : Nat) : Int) = K + 1 + 1 + 1 from by omega] at c3
      have hK2 : Hid (K + 1 + 1 + 1 + 1 = ((k + 4 * (i + 1) : Nat) : Int)) := by show _ = _; omega
      have hK3 : K + 1 + 1 + 1 + 1 ≤ 6000000 := by omega
      have CC : Hid _ := fun W => markText_int (K + 1 + 1) (k + 4 * i + 2) W (by omega) (by omega)
      generalize M18.mt (k + 4 * i + 2) = X at *
      have hbs := hb.size
      clear hKe hK
      go_wp2
      go_region_held3 (fun w' => w'.cell? ⟨b, off + i * 4 + 2, none⟩ = some (.string X)) (go_keep) (first | (go_at_call 53; refine Calls.mono (CC.out _) ?_; rintro e w2 ⟨rfl, hb2⟩; have p2 : w2.cell? ⟨b, off + i * 4 + 2, none⟩ = some (.string X) := (hb2.cell (by simp; omega)).trans (by simpa using c2)))
      have hB2 : Below w.heap.size w w2 := hb.drew.trans (hb2.mono (by simp; omega))
      have p3 : w2.cell? ⟨b, off + i * 4 + 3, none⟩ = some (.int .i64 (K + 1 + 1 + 1)) := (hb2.cell (by simp; omega)).trans (by simpa using c3)
      clear hb2 c0 c1 c2 c3 CC hb
      go_wp2
      go_roundw
      case rel => exact ⟨i + 1, K + 1 + 1 + 1 + 1, rfl, hK2, by omega, hK3, by go_num, by omega, hB2⟩
      case measure => simp [intOf]; omega
    · obtain rfl : i = n := by omega
      have hKe := hK.out
      subst hKe
      clear HA hK
      go_wp2
      go_ret
      exact ⟨rfl, hb⟩
end Go.Proofs.Ytkpkahhhmoaafaa
