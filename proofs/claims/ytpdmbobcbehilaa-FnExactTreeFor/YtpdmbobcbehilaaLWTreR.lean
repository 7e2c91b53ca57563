import Derived.Test.YtpdmbobcbehilaaRows
import Derived.Test.YtpdmbobcbehilaaM5
import Derived.WalkKit
import Derived.WalkSpells
import Derived.WalkLawsBesides
import Derived.Outline
import Derived.Test.YtpdmbobcbehilaaMI5
import Derived.Test.YtpdmbobcbehilaaMCur
import Derived.Test.YtpdmbobcbehilaaMInfo
import Derived.Test.YtpdmbobcbehilaaCBundleLaw
import Derived.Test.YtpdmbobcbehilaaCEqIntS
import Derived.Test.YtpdmbobcbehilaaCToContact
import Derived.Test.YtpdmbobcbehilaaCEqContact
import Derived.Deep.RegionHeld3
/- The laws' markIntS writes the marks k, k + 1, .. into a row of numbers that the caller owns; heldIntS tells that a row of numbers still holds these marks. -/
namespace Go.Proofs.Ytpdmbobcbehilaa
open Go.RowKit
set_option maxHeartbeats 800000 in
set_option maxRecDepth 100000 in
theorem markIntS_e (te : TypeId) (base : Nat) (v : Value) (zs : List Int) (k : Int) (w : World) (hz : zs.length ≤ 1048576) (hk0 : 0 ≤ k) (hk : k ≤ 1073741824) (hbase : base ≤ w.heap.size) (hown : w.ownsRow base te 1 v zs.length (M4.iv zs)) :
    Calls Try.prog 17 #[v, .int .i64 k] w fun e w' => e = .returned (.int .i64 (k + zs.length)) ∧ w'.ownsRow base te 1 v zs.length (M4.iv (M5.marks k zs.length)) ∧ Below base w w' := by
  rcases hown.2 with ⟨rfl, h0⟩ | ⟨g, cap, cur, rfl, hg, hrest⟩
  · obtain rfl : zs = [] := List.eq_nil_of_length_eq_zero h0
    go_enter Try.func17, Try.ntmps17
    go_wp2
    refine wp_loop_rounds 1 ?_
    rw [rounds_succ]
    go_wp2
    go_ret
    exact ⟨by simp, World.ownsRow_nil _ _ _ _, Below.refl _ _⟩
  · clear hrest
    go_enter Try.func17, Try.ntmps17
    go_wp2
    go_loopw [1, 5] (fun kv iv wr => ∃ i : Nat, kv = .int .i64 (k + i) ∧ iv = .int .i64 i ∧ i ≤ zs.length ∧ wr.ownsRow base te 1 (.slice (some ⟨g, 0, none⟩) zs.length cap) zs.length (M4.iv (M5.mk zs k i)) ∧ Below base w wr) (fun _ iv _ => (zs.length - intOf iv).toNat)
    case atStart => exact ⟨0, by simp, rfl, by omega, by rw [M5.mk_zero]; exact hown, Below.refl _ _⟩
    case round =>
      clear hown
      obtain ⟨i, rfl, rfl, hi, hown, hb⟩ := hrel
      by_cases hl : i < zs.length
      · have hcell : ∃ u, wr.cell? ⟨g, i, none⟩ = some u := by
          rw [hown.cellAt i (by omega)]
          have hlen : i < (M4.iv (M5.mk zs k i)).length := by simp [M4.iv, M5.mk_len zs k i hi]; exact hl
          exact ⟨_, List.getElem?_eq_getElem hlen⟩
        obtain ⟨u, hcell⟩ := hcell
        have hfz := hown.frozenAt i
        have hst := hown.stored i (.int .i64 (k + i))
        rw [M4.iv_set, M5.mk_set zs k i hl] at hst
        have R1 := hst.1
        have R2 := hb.grown hst.2 (Nat.le_trans hbase hb.size) (fun j hj => by simp at hj; omega)
        clear hst hown
        go_wp2
        go_roundw
        case rel => exact ⟨i + 1, by go_num, by go_num, by omega, R1, R2⟩
        case measure => simp [intOf]; omega
      · obtain rfl : i = zs.length := by omega
        rw [M5.mk_all] at hown
        go_wp2
        go_ret
        exact ⟨rfl, hown, hb⟩
theorem markIntS_any (base : Nat) (v : Value) (zs : List Int) (k : Int) (w : World) (hz : zs.length ≤ 1048576) (hk0 : 0 ≤ k) (hk : k ≤ 1073741824) (hbase : base ≤ w.heap.size) (hown : w.ownsRow base 3 1 v zs.length (M4.iv zs)) :
    Calls Try.prog 17 #[v, .int .i64 k] w fun e w' => e = .returned (.int .i64 (k + zs.length)) ∧ w'.ownsRow base 3 1 v zs.length (M4.iv (M5.marks k zs.length)) ∧ Below base w w' := markIntS_e 3 base v zs k w hz hk0 hk hbase hown
set_option maxHeartbeats 800000 in
set_option maxRecDepth 100000 in
theorem heldIntS_any (a : Option Addr) (cap : Nat) (n : Nat) (k : Int) (w : World) (hz : n ≤ 1048576) (hk0 : 0 ≤ k) (hk : k ≤ 1073741824) (hin : M4.IntsAt w a (M5.marks k n)) :
    Calls Try.prog 22 #[.slice a n cap, .int .i64 k] w fun e w' => e = .returned (.int .i64 (k + n)) ∧ w = w' := by
  go_enter Try.func22, Try.ntmps22
  go_wp2
  go_loop [1, 5] (fun kv iv => ∃ i : Nat, kv = .int .i64 (k + i) ∧ iv = .int .i64 i ∧ i ≤ n) (fun _ iv => (n - intOf iv).toNat)
  case atStart => exact ⟨0, by simp, rfl, by omega⟩
  case round =>
    obtain ⟨i, rfl, rfl, hi⟩ := hrel
    by_cases hl : i < n
    · obtain ⟨b, off, rfl, hlt, hc⟩ := hin.at (k := i) (by rw [M5.marks_len]; exact hl)
      rw [M5.marks_get k n i hl] at hc
      clear hin
      go_wp2
      go_round
      case rel => exact ⟨i + 1, by go_num, by go_num, by omega⟩
      case measure => simp [intOf]; omega
    · obtain rfl : i = n := by omega
      go_wp2
      go_ret
      exact ⟨rfl, rfl⟩
end Go.Proofs.Ytpdmbobcbehilaa

/- The laws' markContactS writes into one row alone. -/
namespace Go.Proofs.Ytpdmbobcbehilaa
open Go.RowKit
set_option maxHeartbeats 1600000 in
set_option maxRecDepth 100000 in
theorem markContactS_only (base g n : Nat) (k : Int) (w : World) (hz : n ≤ 1048576) (hk0 : 0 ≤ k) (hk : k ≤ 1073741824) (hown : ∃ vs, w.ownsRow base 50 5 (.slice (some ⟨g, 0, none⟩) n n) n vs) :
    Calls Try.prog 16 #[.slice (some ⟨g, 0, none⟩) n n, .int .i64 k] w fun e w' => e = .returned (.int .i64 (k + 5 * n)) ∧ MC.Only g w w' := by
  go_enter Try.func16, Try.ntmps16
  go_wp2
  go_loopw [1, 5] (fun kv iv wr => ∃ i : Nat, kv = .int .i64 (k + 5 * i) ∧ iv = .int .i64 i ∧ i ≤ n ∧ (∃ vs, wr.ownsRow base 50 5 (.slice (some ⟨g, 0, none⟩) n n) n vs) ∧ MC.Only g w wr) (fun _ iv _ => (n - intOf iv).toNat)
  case atStart => exact ⟨0, by simp, rfl, by omega, hown, MC.Only.refl _ _⟩
  case round =>
    clear hown
    obtain ⟨i, rfl, rfl, hi, ⟨vs, hown⟩, hO⟩ := hrel
    by_cases hl : i < n
    · have hlen := hown.1
      obtain ⟨y0, q0⟩ : ∃ y, wr.cell? ⟨g, i * 5, none⟩ = some y := MI5.some_at hown _ (by omega)
      obtain ⟨y1, q1⟩ : ∃ y, wr.cell? ⟨g, i * 5 + 1, none⟩ = some y := MI5.some_at hown _ (by omega)
      obtain ⟨y2, q2⟩ : ∃ y, wr.cell? ⟨g, i * 5 + 2, none⟩ = some y := MI5.some_at hown _ (by omega)
      obtain ⟨y3, q3⟩ : ∃ y, wr.cell? ⟨g, i * 5 + 3, none⟩ = some y := MI5.some_at hown _ (by omega)
      obtain ⟨y4, q4⟩ : ∃ y, wr.cell? ⟨g, i * 5 + 4, none⟩ = some y := MI5.some_at hown _ (by omega)
      have z0 := hown.frozenAt (i * 5)
      have z1 := hown.frozenAt (i * 5 + 1)
      have z2 := hown.frozenAt (i * 5 + 2)
      have z3 := hown.frozenAt (i * 5 + 3)
      have z4 := hown.frozenAt (i * 5 + 4)
      have s0 := World.ownsRow.stored hown (i * 5) (.int .i64 (k + 5 * i))
      have s1 := s0.1.stored (i * 5 + 1) (.int .i64 (k + 5 * i + 1))
      have s2 := s1.1.stored (i * 5 + 2) (.int .i64 (k + 5 * i + 1 + 1))
      have s3 := s2.1.stored (i * 5 + 3) (.int .i64 (k + 5 * i + 1 + 1 + 1))
      have s4 := s3.1.stored (i * 5 + 4) (.int .i64 (k + 5 * i + 1 + 1 + 1 + 1))
      have R1 := s4.1
      have R2 := (((((hO.setCell (i * 5) (.int .i64 (k + 5 * i))).setCell (i * 5 + 1) (.int .i64 (k + 5 * i + 1))).setCell (i * 5 + 2) (.int .i64 (k + 5 * i + 1 + 1))).setCell (i * 5 + 3) (.int .i64 (k + 5 * i + 1 + 1 + 1))).setCell (i * 5 + 4) (.int .i64 (k + 5 * i + 1 + 1 + 1 + 1)))
      clear s0 s1 s2 s3 s4 hown hO hlen
      go_wp2
      go_roundw
      case rel => exact ⟨i + 1, by go_num, by go_num, by omega, ⟨_, R1⟩, R2⟩
      case measure => simp [intOf]; omega
    · obtain rfl : i = n := by omega
      clear hown
      go_wp2
      go_ret
      exact ⟨rfl, hO⟩
end Go.Proofs.Ytpdmbobcbehilaa

/- The laws' toIntS copies a slice of numbers, into a row of its own; markIntS writes into one row alone. -/
namespace Go.Proofs.Ytpdmbobcbehilaa
open Go.RowKit
set_option maxHeartbeats 800000 in
set_option maxRecDepth 100000 in
theorem toIntS_own (a : Option Addr) (cap : Nat) (zs : List Int) (w : World) (hz : zs.length ≤ 1048576) (hin : M4.IntsAt w a zs) :
    Calls Try.prog 11 #[.slice a zs.length cap] w fun e w' => ∃ g, e = .returned (.slice (some ⟨g, 0, none⟩) zs.length zs.length) ∧ w'.ownsRow w.heap.size 3 1 (.slice (some ⟨g, 0, none⟩) zs.length zs.length) zs.length (M4.iv zs) ∧ Below w.heap.size w w' := by
  obtain ⟨i0, hi, hz0, hz1, hz2⟩ := info_parts Try.info3
  go_enter Try.func11, Try.ntmps11
  go_wp2_with (at_make; refine wpList_make_full _ rfl _ _ 25 rfl w.heap.size 3 i0 (.int .i64 0) 1 Try.underlying25 hi hz0 hz1 .i64 .i64 _ _ zs.length rfl rfl rfl rfl ?_ ?_ ?_ ?_)
  · rw [hz2]; omega
  · unfold maxLen; omega
  · omega
  intro w1 hown hgrow
  rw [M4.made_iv, ← M4.mix_zero] at hown
  have hb1 : Below w.heap.size w w1 := (Below.refl _ _).grown hgrow (Nat.le_refl _) (fun k hk => by cases hk)
  have hin1 := hin.below hb1
  clear hgrow hi hz0 hz1 hz2
  go_wp2_with fail
  go_loopw [4] (fun iv wr => ∃ k : Nat, iv = .int .i64 k ∧ k ≤ zs.length ∧ wr.ownsRow w.heap.size 3 1 (.slice (some ⟨w.heap.size, 0, none⟩) zs.length zs.length) zs.length (M4.iv (M4.mix zs k)) ∧ Below w.heap.size w wr) (fun iv _ => (zs.length - intOf iv).toNat)
  case atStart => exact ⟨0, rfl, by omega, hown, hb1⟩
  case round =>
    clear hown hb1 hin1
    obtain ⟨k, rfl, hk, hown, hb⟩ := hrel
    by_cases hl : k < zs.length
    · obtain ⟨b, off, rfl, hlt, hc⟩ := (hin.below hb).at hl
      have hcell : wr.cell? ⟨w.heap.size, k, none⟩ = some (.int .i64 0) := by
        rw [hown.cellAt k (by omega)]; exact M4.iv_get _ _ _ (M4.mix_get zs k hl)
      have hfz := hown.frozenAt k
      have hst := hown.stored k (.int .i64 (zs[k]'hl))
      have e : zs.getD k 0 = zs[k]'hl := by simp [List.getD_eq_getElem?_getD, List.getElem?_eq_getElem hl]
      rw [M4.iv_set, ← e, M4.mix_set zs k hl, e] at hst
      have R1 := hst.1
      have R2 := hb.grown hst.2 hb.size (fun j hj => by simp at hj; omega)
      clear hst e hown
      go_wp2
      go_roundw
      case rel => exact ⟨k + 1, by go_num, by omega, R1, R2⟩
      case measure => simp [intOf]; omega
    · obtain rfl : k = zs.length := by omega
      have hown' := hown
      rw [M4.mix_all] at hown'
      clear hown hin
      go_wp2
      go_ret
      exact ⟨w.heap.size, rfl, hown', hb⟩
end Go.Proofs.Ytpdmbobcbehilaa

/- The laws' markIntS writes into one row alone. -/
namespace Go.Proofs.Ytpdmbobcbehilaa
open Go.RowKit
set_option maxHeartbeats 800000 in
set_option maxRecDepth 100000 in
theorem markIntS_only (base g n : Nat) (k : Int) (w : World) (hz : n ≤ 1048576) (hk0 : 0 ≤ k) (hk : k ≤ 1073741824) (hown : ∃ vs, w.ownsRow base 3 1 (.slice (some ⟨g, 0, none⟩) n n) n vs) :
    Calls Try.prog 17 #[.slice (some ⟨g, 0, none⟩) n n, .int .i64 k] w fun e w' => e = .returned (.int .i64 (k + n)) ∧ MC.Only g w w' := by
  go_enter Try.func17, Try.ntmps17
  go_wp2
  go_loopw [1, 5] (fun kv iv wr => ∃ i : Nat, kv = .int .i64 (k + i) ∧ iv = .int .i64 i ∧ i ≤ n ∧ (∃ vs, wr.ownsRow base 3 1 (.slice (some ⟨g, 0, none⟩) n n) n vs) ∧ MC.Only g w wr) (fun _ iv _ => (n - intOf iv).toNat)
  case atStart => exact ⟨0, by simp, rfl, by omega, hown, MC.Only.refl _ _⟩
  case round =>
    clear hown
    obtain ⟨i, rfl, rfl, hi, ⟨vs, hown⟩, hO⟩ := hrel
    by_cases hl : i < n
    · have hlen := hown.1
      have hcell : ∃ u, wr.cell? ⟨g, i, none⟩ = some u := by
        rw [hown.cellAt i (by omega)]
        exact ⟨_, List.getElem?_eq_getElem (by omega)⟩
      obtain ⟨u, hcell⟩ := hcell
      have hfz := hown.frozenAt i
      have hst := hown.stored i (.int .i64 (k + i))
      have R1 := hst.1
      have R2 := hO.setCell i (.int .i64 (k + i))
      clear hst hown hlen hO
      go_wp2
      go_roundw
      case rel => exact ⟨i + 1, by go_num, by go_num, by omega, ⟨_, R1⟩, R2⟩
      case measure => simp [intOf]; omega
    · obtain rfl : i = n := by omega
      clear hown
      go_wp2
      go_ret
      exact ⟨rfl, hO⟩
end Go.Proofs.Ytpdmbobcbehilaa

/- The law FnExactTreeFor answers true, whatever the arguments, by contracts of the two functions. -/
namespace Go.Proofs.Ytpdmbobcbehilaa
open Go.RowKit
set_option linter.unusedSimpArgs false in
set_option maxHeartbeats 3200000 in
set_option maxRecDepth 100000 in
theorem lawTreeFor_any (a0 : Option Addr) (cap0 : Nat) (xs0 : List I5) (b1 : Bd) (a2 : Option Addr) (cap2 : Nat) (xs2 : List Int) (L : List Int) (hL : L.length ≤ 1048576) (r1 : Bool)
    (SG0 : xs0.length ≤ 1048576 → xs2.length ≤ 1048576 → b1.py.size ≤ 1048576 → ∀ (g0 g2 : Nat) (W : World), MI5.RowAt W (some ⟨g0, 0, none⟩) xs0 → M4.IntsAt W (some ⟨g2, 0, none⟩) xs2 → Calls Try.prog 23 #[.slice (some ⟨g0, 0, none⟩) xs0.length xs0.length, b1.v, .slice (some ⟨g2, 0, none⟩) xs2.length xs2.length] W fun e w' => ∃ a1 c1, e = .returned (.tuple #[.slice a1 L.length c1, .bool r1]) ∧ w'.ownsRow W.heap.size 3 1 (.slice a1 L.length c1) L.length (M4.iv L) ∧ Below W.heap.size W w')
    (IG0 : xs0.length ≤ 1048576 → xs2.length ≤ 1048576 → b1.py.size ≤ 1048576 → ∀ (g0 g2 : Nat) (W : World), MI5.RowAt W (some ⟨g0, 0, none⟩) xs0 → M4.IntsAt W (some ⟨g2, 0, none⟩) xs2 → Calls Try.prog 24 #[.slice (some ⟨g0, 0, none⟩) xs0.length xs0.length, b1.v, .slice (some ⟨g2, 0, none⟩) xs2.length xs2.length] W fun e w' => ∃ a1 c1, e = .returned (.tuple #[.slice a1 L.length c1, .bool r1]) ∧ w'.ownsRow W.heap.size 3 1 (.slice a1 L.length c1) L.length (M4.iv L) ∧ Below W.heap.size W w')
    (w : World) (hl0 : xs0.length ≤ maxLen) (hl2 : xs2.length ≤ maxLen) (hi0 : MI5.RowAt w a0 xs0) (hi2 : M4.IntsAt w a2 xs2) (hp : b1.py.size ≤ maxLen) :
    Calls Try.prog 5 #[.slice a0 xs0.length cap0, b1.v, .slice a2 xs2.length cap2] w fun e w' => e = .returned (.bool true) ∧ Below w.heap.size w w' := by
  have H0 : Hid (MI5.RowAt w a0 xs0) := hi0
  have H2 : Hid (M4.IntsAt w a2 xs2) := hi2
  clear hi0 hi2
  unfold maxLen at hl2
  by_cases hz2 : xs2.length ≤ 1048576
  · clear hl2
    have SG1 : Hid _ := SG0
    have IG1 : Hid _ := IG0
    clear SG0 IG0
    have SZ0 : Hid _ := fun (left : Int) (h0 : 0 ≤ left) (h1 : left ≤ 1048576) W => szContactS_any a0 cap0 xs0.length W left h0 h1 hl0
    have SZB : Hid (∀ (left : Int) (W : World), 0 ≤ left ∧ left ≤ 1048576 → _) := fun (left : Int) W (h : 0 ≤ left ∧ left ≤ 1048576) => szBundle_any b1 left W hp h
    have TB : Hid _ := fun W => toBundle_any b1 W
    have BX : Hid (BdAt _ _ b1) := BdAt.box w b1 24
    have B := (Below.refl _ w).alloc (Nat.le_refl _) (.cells #[.int .i64 b1.fr, .int .i64 b1.to, .bool b1.gr, .int .i64 b1.md, .int .i64 b1.no, .int .i64 b1.lf, .int .i64 b1.hp, .int .i64 b1.of, .int .i64 b1.tl, .string b1.py] 24)
    clear hl0
    clear hp
    obtain ⟨fr, to, gr, md, no, lf, hp, of, tl, py⟩ := b1
    have hS0 := B.size
    go_enter Try.func5, Try.ntmps5
    go_wp2_with fail
    refine (SZ0.out 1048576 (by omega) (by omega) _).mono ?_
    rintro e w1 ⟨l0, rfl, hr0, rfl⟩
    clear SZ0
    by_cases h0 : l0 < 0
    · clear hr0
      go_wp2
      go_ret
      exact ⟨rfl, B⟩
    · have hz0 : xs0.length ≤ 1048576 := by omega
      have hl00 : 0 ≤ l0 := by omega
      have hl01 : l0 ≤ 1048576 := by omega
      clear hr0
      obtain ⟨hlt, c0, c1, c2, c3, c4, c5, c6, c7, c8, c9⟩ := id BX.out
      go_wp2_with fail
      refine (SZB.out l0 _ ⟨by omega, by omega⟩).mono ?_
      rintro e w1 ⟨⟨r, rfl, hr⟩, hb1⟩
      clear hlt c0 c1 c2 c3 c4 c5 c6 c7 c8 c9
      replace BX : Hid (BdAt w1 w.heap.size ⟨fr, to, gr, md, no, lf, hp, of, tl, py⟩) := BdAt.below BX.out hb1 BX.out.1
      replace B := B.trans (hb1.mono B.size)
      clear SZB hb1
      rcases hr with hr | ⟨hr1, hr2⟩
      · go_wp2
        go_ret
        exact ⟨rfl, B⟩
      · have hpy : py.size ≤ 1048576 := by omega
        have hr3 : 0 ≤ r ∧ r ≤ 1048576 := by omega
        clear hr1
        have SG : Hid _ := SG1.out hz0 hz2 hpy
        have IG : Hid _ := IG1.out hz0 hz2 hpy
        clear SG1 IG1
        have TP0 : Hid _ := fun W h => toContactS_any a0 cap0 xs0 W hz0 h
        have EQ0 : Hid _ := fun g g2 W h1 h2 => eqContactS_any (some ⟨g, 0, none⟩) (some ⟨g2, 0, none⟩) xs0.length xs0.length xs0 xs0 W hz0 hz0 h1 h2
        have TP2 : Hid _ := fun W h => toIntS_own a2 cap2 xs2 W hz2 h
        have EQ2 : Hid _ := fun g g2 W h1 h2 => eqIntS_any (some ⟨g, 0, none⟩) (some ⟨g2, 0, none⟩) xs2.length xs2.length xs2 xs2 W (by omega) (by omega) h1 h2
        have hq : w.heap.size < w1.heap.size := BX.out.1
        have KP : ∀ V1 V2 : World, (Below w1.heap.size w1 V1 ∧ V1.cell? ⟨w.heap.size, 0, none⟩ = some (.int .i64 fr) ∧ V1.cell? ⟨w.heap.size, 1, none⟩ = some (.int .i64 to) ∧ V1.cell? ⟨w.heap.size, 2, none⟩ = some (.bool gr) ∧ V1.cell? ⟨w.heap.size, 3, none⟩ = some (.int .i64 md) ∧ V1.cell? ⟨w.heap.size, 4, none⟩ = some (.int .i64 no) ∧ V1.cell? ⟨w.heap.size, 5, none⟩ = some (.int .i64 lf) ∧ V1.cell? ⟨w.heap.size, 6, none⟩ = some (.int .i64 hp) ∧ V1.cell? ⟨w.heap.size, 7, none⟩ = some (.int .i64 of) ∧ V1.cell? ⟨w.heap.size, 8, none⟩ = some (.int .i64 tl) ∧ V1.cell? ⟨w.heap.size, 9, none⟩ = some (.string py)) → Below V1.heap.size V1 V2 → (Below w1.heap.size w1 V2 ∧ V2.cell? ⟨w.heap.size, 0, none⟩ = some (.int .i64 fr) ∧ V2.cell? ⟨w.heap.size, 1, none⟩ = some (.int .i64 to) ∧ V2.cell? ⟨w.heap.size, 2, none⟩ = some (.bool gr) ∧ V2.cell? ⟨w.heap.size, 3, none⟩ = some (.int .i64 md) ∧ V2.cell? ⟨w.heap.size, 4, none⟩ = some (.int .i64 no) ∧ V2.cell? ⟨w.heap.size, 5, none⟩ = some (.int .i64 lf) ∧ V2.cell? ⟨w.heap.size, 6, none⟩ = some (.int .i64 hp) ∧ V2.cell? ⟨w.heap.size, 7, none⟩ = some (.int .i64 of) ∧ V2.cell? ⟨w.heap.size, 8, none⟩ = some (.int .i64 tl) ∧ V2.cell? ⟨w.heap.size, 9, none⟩ = some (.string py)) := fun V1 V2 ⟨h, h0, h1, h2, h3, h4, h5, h6, h7, h8, h9⟩ hb => ⟨h.trans (hb.mono h.size), (hb.cell (p := ⟨w.heap.size, 0, none⟩) (Nat.lt_of_lt_of_le hq h.size)).trans h0, (hb.cell (p := ⟨w.heap.size, 1, none⟩) (Nat.lt_of_lt_of_le hq h.size)).trans h1, (hb.cell (p := ⟨w.heap.size, 2, none⟩) (Nat.lt_of_lt_of_le hq h.size)).trans h2, (hb.cell (p := ⟨w.heap.size, 3, none⟩) (Nat.lt_of_lt_of_le hq h.size)).trans h3, (hb.cell (p := ⟨w.heap.size, 4, none⟩) (Nat.lt_of_lt_of_le hq h.size)).trans h4, (hb.cell (p := ⟨w.heap.size, 5, none⟩) (Nat.lt_of_lt_of_le hq h.size)).trans h5, (hb.cell (p := ⟨w.heap.size, 6, none⟩) (Nat.lt_of_lt_of_le hq h.size)).trans h6, (hb.cell (p := ⟨w.heap.size, 7, none⟩) (Nat.lt_of_lt_of_le hq h.size)).trans h7, (hb.cell (p := ⟨w.heap.size, 8, none⟩) (Nat.lt_of_lt_of_le hq h.size)).trans h8, (hb.cell (p := ⟨w.heap.size, 9, none⟩) (Nat.lt_of_lt_of_le hq h.size)).trans h9⟩
        have TQ0 : Hid (∀ W' : World, (Below w1.heap.size w1 W' ∧ W'.cell? ⟨w.heap.size, 0, none⟩ = some (.int .i64 fr) ∧ W'.cell? ⟨w.heap.size, 1, none⟩ = some (.int .i64 to) ∧ W'.cell? ⟨w.heap.size, 2, none⟩ = some (.bool gr) ∧ W'.cell? ⟨w.heap.size, 3, none⟩ = some (.int .i64 md) ∧ W'.cell? ⟨w.heap.size, 4, none⟩ = some (.int .i64 no) ∧ W'.cell? ⟨w.heap.size, 5, none⟩ = some (.int .i64 lf) ∧ W'.cell? ⟨w.heap.size, 6, none⟩ = some (.int .i64 hp) ∧ W'.cell? ⟨w.heap.size, 7, none⟩ = some (.int .i64 of) ∧ W'.cell? ⟨w.heap.size, 8, none⟩ = some (.int .i64 tl) ∧ W'.cell? ⟨w.heap.size, 9, none⟩ = some (.string py)) → Calls Try.prog 9 #[.slice a0 xs0.length cap0] W' fun e w' => ∃ g : Nat, e = .returned (.slice (some ⟨g, 0, none⟩) xs0.length xs0.length) ∧ MI5.RowAt w' (some ⟨g, 0, none⟩) xs0 ∧ Below W'.heap.size W' w' ∧ (Below w1.heap.size w1 w' ∧ w'.cell? ⟨w.heap.size, 0, none⟩ = some (.int .i64 fr) ∧ w'.cell? ⟨w.heap.size, 1, none⟩ = some (.int .i64 to) ∧ w'.cell? ⟨w.heap.size, 2, none⟩ = some (.bool gr) ∧ w'.cell? ⟨w.heap.size, 3, none⟩ = some (.int .i64 md) ∧ w'.cell? ⟨w.heap.size, 4, none⟩ = some (.int .i64 no) ∧ w'.cell? ⟨w.heap.size, 5, none⟩ = some (.int .i64 lf) ∧ w'.cell? ⟨w.heap.size, 6, none⟩ = some (.int .i64 hp) ∧ w'.cell? ⟨w.heap.size, 7, none⟩ = some (.int .i64 of) ∧ w'.cell? ⟨w.heap.size, 8, none⟩ = some (.int .i64 tl) ∧ w'.cell? ⟨w.heap.size, 9, none⟩ = some (.string py))) := fun W' h => (TP0.out W' (MI5.RowAt.below H0.out (B.trans (h.1.mono B.size)))).mono fun e w' ⟨g, e1, ho, hb⟩ => ⟨g, e1, MI5.RowAt.of_own ho, hb, KP _ _ h hb⟩
        have TBQ : Hid (∀ W' : World, (Below w1.heap.size w1 W' ∧ W'.cell? ⟨w.heap.size, 0, none⟩ = some (.int .i64 fr) ∧ W'.cell? ⟨w.heap.size, 1, none⟩ = some (.int .i64 to) ∧ W'.cell? ⟨w.heap.size, 2, none⟩ = some (.bool gr) ∧ W'.cell? ⟨w.heap.size, 3, none⟩ = some (.int .i64 md) ∧ W'.cell? ⟨w.heap.size, 4, none⟩ = some (.int .i64 no) ∧ W'.cell? ⟨w.heap.size, 5, none⟩ = some (.int .i64 lf) ∧ W'.cell? ⟨w.heap.size, 6, none⟩ = some (.int .i64 hp) ∧ W'.cell? ⟨w.heap.size, 7, none⟩ = some (.int .i64 of) ∧ W'.cell? ⟨w.heap.size, 8, none⟩ = some (.int .i64 tl) ∧ W'.cell? ⟨w.heap.size, 9, none⟩ = some (.string py)) → Calls Try.prog 10 #[Bd.v ⟨fr, to, gr, md, no, lf, hp, of, tl, py⟩] W' fun e w' => e = .returned (Bd.v ⟨fr, to, gr, md, no, lf, hp, of, tl, py⟩) ∧ Below W'.heap.size W' w' ∧ (Below w1.heap.size w1 w' ∧ w'.cell? ⟨w.heap.size, 0, none⟩ = some (.int .i64 fr) ∧ w'.cell? ⟨w.heap.size, 1, none⟩ = some (.int .i64 to) ∧ w'.cell? ⟨w.heap.size, 2, none⟩ = some (.bool gr) ∧ w'.cell? ⟨w.heap.size, 3, none⟩ = some (.int .i64 md) ∧ w'.cell? ⟨w.heap.size, 4, none⟩ = some (.int .i64 no) ∧ w'.cell? ⟨w.heap.size, 5, none⟩ = some (.int .i64 lf) ∧ w'.cell? ⟨w.heap.size, 6, none⟩ = some (.int .i64 hp) ∧ w'.cell? ⟨w.heap.size, 7, none⟩ = some (.int .i64 of) ∧ w'.cell? ⟨w.heap.size, 8, none⟩ = some (.int .i64 tl) ∧ w'.cell? ⟨w.heap.size, 9, none⟩ = some (.string py))) := fun W' h => (TB.out W').mono fun e w' ⟨e1, hb⟩ => ⟨e1, hb, KP _ _ h hb⟩
        have TQ2 : Hid (∀ W' : World, (Below w1.heap.size w1 W' ∧ W'.cell? ⟨w.heap.size, 0, none⟩ = some (.int .i64 fr) ∧ W'.cell? ⟨w.heap.size, 1, none⟩ = some (.int .i64 to) ∧ W'.cell? ⟨w.heap.size, 2, none⟩ = some (.bool gr) ∧ W'.cell? ⟨w.heap.size, 3, none⟩ = some (.int .i64 md) ∧ W'.cell? ⟨w.heap.size, 4, none⟩ = some (.int .i64 no) ∧ W'.cell? ⟨w.heap.size, 5, none⟩ = some (.int .i64 lf) ∧ W'.cell? ⟨w.heap.size, 6, none⟩ = some (.int .i64 hp) ∧ W'.cell? ⟨w.heap.size, 7, none⟩ = some (.int .i64 of) ∧ W'.cell? ⟨w.heap.size, 8, none⟩ = some (.int .i64 tl) ∧ W'.cell? ⟨w.heap.size, 9, none⟩ = some (.string py)) → Calls Try.prog 11 #[.slice a2 xs2.length cap2] W' fun e w' => ∃ g : Nat, e = .returned (.slice (some ⟨g, 0, none⟩) xs2.length xs2.length) ∧ M4.IntsAt w' (some ⟨g, 0, none⟩) xs2 ∧ Below W'.heap.size W' w' ∧ (Below w1.heap.size w1 w' ∧ w'.cell? ⟨w.heap.size, 0, none⟩ = some (.int .i64 fr) ∧ w'.cell? ⟨w.heap.size, 1, none⟩ = some (.int .i64 to) ∧ w'.cell? ⟨w.heap.size, 2, none⟩ = some (.bool gr) ∧ w'.cell? ⟨w.heap.size, 3, none⟩ = some (.int .i64 md) ∧ w'.cell? ⟨w.heap.size, 4, none⟩ = some (.int .i64 no) ∧ w'.cell? ⟨w.heap.size, 5, none⟩ = some (.int .i64 lf) ∧ w'.cell? ⟨w.heap.size, 6, none⟩ = some (.int .i64 hp) ∧ w'.cell? ⟨w.heap.size, 7, none⟩ = some (.int .i64 of) ∧ w'.cell? ⟨w.heap.size, 8, none⟩ = some (.int .i64 tl) ∧ w'.cell? ⟨w.heap.size, 9, none⟩ = some (.string py))) := fun W' h => (TP2.out W' (M4.IntsAt.below H2.out (B.trans (h.1.mono B.size)))).mono fun e w' ⟨g, e1, ho, hb⟩ => ⟨g, e1, M4.IntsAt.of_own ho, hb, KP _ _ h hb⟩
        have SQ : Hid (∀ (g0 g2 : Nat) (W' : World), (Below w1.heap.size w1 W' ∧ W'.cell? ⟨w.heap.size, 0, none⟩ = some (.int .i64 fr) ∧ W'.cell? ⟨w.heap.size, 1, none⟩ = some (.int .i64 to) ∧ W'.cell? ⟨w.heap.size, 2, none⟩ = some (.bool gr) ∧ W'.cell? ⟨w.heap.size, 3, none⟩ = some (.int .i64 md) ∧ W'.cell? ⟨w.heap.size, 4, none⟩ = some (.int .i64 no) ∧ W'.cell? ⟨w.heap.size, 5, none⟩ = some (.int .i64 lf) ∧ W'.cell? ⟨w.heap.size, 6, none⟩ = some (.int .i64 hp) ∧ W'.cell? ⟨w.heap.size, 7, none⟩ = some (.int .i64 of) ∧ W'.cell? ⟨w.heap.size, 8, none⟩ = some (.int .i64 tl) ∧ W'.cell? ⟨w.heap.size, 9, none⟩ = some (.string py)) → MI5.RowAt W' (some ⟨g0, 0, none⟩) xs0 → M4.IntsAt W' (some ⟨g2, 0, none⟩) xs2 → Calls Try.prog 23 #[.slice (some ⟨g0, 0, none⟩) xs0.length xs0.length, Bd.v ⟨fr, to, gr, md, no, lf, hp, of, tl, py⟩, .slice (some ⟨g2, 0, none⟩) xs2.length xs2.length] W' fun e w' => (∃ a1 c1, e = .returned (.tuple #[.slice a1 L.length c1, .bool r1]) ∧ M4.IntsAt w' a1 L) ∧ (Below w1.heap.size w1 w' ∧ w'.cell? ⟨w.heap.size, 0, none⟩ = some (.int .i64 fr) ∧ w'.cell? ⟨w.heap.size, 1, none⟩ = some (.int .i64 to) ∧ w'.cell? ⟨w.heap.size, 2, none⟩ = some (.bool gr) ∧ w'.cell? ⟨w.heap.size, 3, none⟩ = some (.int .i64 md) ∧ w'.cell? ⟨w.heap.size, 4, none⟩ = some (.int .i64 no) ∧ w'.cell? ⟨w.heap.size, 5, none⟩ = some (.int .i64 lf) ∧ w'.cell? ⟨w.heap.size, 6, none⟩ = some (.int .i64 hp) ∧ w'.cell? ⟨w.heap.size, 7, none⟩ = some (.int .i64 of) ∧ w'.cell? ⟨w.heap.size, 8, none⟩ = some (.int .i64 tl) ∧ w'.cell? ⟨w.heap.size, 9, none⟩ = some (.string py))) := fun g0 g2 W' h q0 q2 => (SG.out g0 g2 W' q0 q2).mono (by rintro e w' ⟨a1, c1, rfl, ho, hb⟩; exact ⟨⟨a1, c1, rfl, M5.own_ints ho⟩, KP _ _ h hb⟩)
        have hSd : Below w1.heap.size w1 w1.drew ∧ w1.drew.cell? ⟨w.heap.size, 0, none⟩ = some (.int .i64 fr) ∧ w1.drew.cell? ⟨w.heap.size, 1, none⟩ = some (.int .i64 to) ∧ w1.drew.cell? ⟨w.heap.size, 2, none⟩ = some (.bool gr) ∧ w1.drew.cell? ⟨w.heap.size, 3, none⟩ = some (.int .i64 md) ∧ w1.drew.cell? ⟨w.heap.size, 4, none⟩ = some (.int .i64 no) ∧ w1.drew.cell? ⟨w.heap.size, 5, none⟩ = some (.int .i64 lf) ∧ w1.drew.cell? ⟨w.heap.size, 6, none⟩ = some (.int .i64 hp) ∧ w1.drew.cell? ⟨w.heap.size, 7, none⟩ = some (.int .i64 of) ∧ w1.drew.cell? ⟨w.heap.size, 8, none⟩ = some (.int .i64 tl) ∧ w1.drew.cell? ⟨w.heap.size, 9, none⟩ = some (.string py) := ⟨(Below.refl _ _).drew, BX.out.2⟩
        clear KP hq
        go_wp2
        go_region_held3 (fun w' => Below w1.heap.size w1 w' ∧ w'.cell? ⟨w.heap.size, 0, none⟩ = some (.int .i64 fr) ∧ w'.cell? ⟨w.heap.size, 1, none⟩ = some (.int .i64 to) ∧ w'.cell? ⟨w.heap.size, 2, none⟩ = some (.bool gr) ∧ w'.cell? ⟨w.heap.size, 3, none⟩ = some (.int .i64 md) ∧ w'.cell? ⟨w.heap.size, 4, none⟩ = some (.int .i64 no) ∧ w'.cell? ⟨w.heap.size, 5, none⟩ = some (.int .i64 lf) ∧ w'.cell? ⟨w.heap.size, 6, none⟩ = some (.int .i64 hp) ∧ w'.cell? ⟨w.heap.size, 7, none⟩ = some (.int .i64 of) ∧ w'.cell? ⟨w.heap.size, 8, none⟩ = some (.int .i64 tl) ∧ w'.cell? ⟨w.heap.size, 9, none⟩ = some (.string py)) (first | assumption | (show _ ∧ _; assumption)) (first | (go_at_call 9; refine Calls.mono (TQ0.out _ (by assumption)) ?_; (rintro e ws0 ⟨g0s, rfl, hr0s, hbq0, hSq0⟩)) | (go_at_call 10; refine Calls.mono (TBQ.out _ (by assumption)) ?_; (rintro e ws1 ⟨rfl, hbq1, hSq1⟩); (replace hr0s := MI5.RowAt.below hr0s hbq1)) | (go_at_call 11; refine Calls.mono (TQ2.out _ (by assumption)) ?_; (rintro e ws2 ⟨g2s, rfl, hr2s, hbq2, hSq2⟩); (replace hr0s := MI5.RowAt.below hr0s hbq2)) | (go_at_call 23; refine Calls.mono (SQ.out g0s g2s _ (by assumption) hr0s hr2s) ?_; (rintro e w2 ⟨⟨az, cz, rfl, owns⟩, hSr⟩)))
        have hb := hSr.1
        clear hSd hSr SQ TBQ hSq0 hbq0 hSq1 hbq1 hSq2 hbq2 TQ0 hr0s TQ2 hr2s
        replace B := B.trans (hb.mono B.size)
        replace BX : Hid (BdAt w2 w.heap.size ⟨fr, to, gr, md, no, lf, hp, of, tl, py⟩) := BdAt.below BX.out hb BX.out.1
        clear hb
        clear SG
        have IN0 : Hid (M4.IntsAt w2 az L) := owns
        clear owns
        have C : Below w2.heap.size w2 w2 := Below.refl _ _
        have BS : w.heap.size ≤ w2.heap.size := B.size
        have hQ0 : w.heap.size < w2.heap.size := BX.out.1
        go_wp2_with fail
        refine (TP0.out _ (MI5.RowAt.below H0.out B)).mono ?_
        rintro e w3 ⟨g0x, rfl, ho, hb⟩
        have hG0 : w2.heap.size ≤ g0x ∧ g0x < w3.heap.size := ho.lt g0x rfl
        replace B := B.trans (hb.mono B.size)
        replace C := C.trans (hb.mono C.size)
        replace BX : Hid (BdAt w3 w.heap.size ⟨fr, to, gr, md, no, lf, hp, of, tl, py⟩) := BdAt.below BX.out hb BX.out.1
        clear hb
        have X0x : Hid (World.ownsRow w3 w2.heap.size 50 5 (.slice (some ⟨g0x, 0, none⟩) xs0.length xs0.length) xs0.length (MI5.flat xs0)) := ho
        clear ho
        have hQ2 : w.heap.size < w3.heap.size := BX.out.1
        go_wp2_with fail
        refine (TP2.out _ (M4.IntsAt.below H2.out B)).mono ?_
        rintro e w4 ⟨g2x, rfl, ho, hb⟩
        have hG2 : w3.heap.size ≤ g2x ∧ g2x < w4.heap.size := ho.lt g2x rfl
        replace B := B.trans (hb.mono B.size)
        replace C := C.trans (hb.mono C.size)
        replace BX : Hid (BdAt w4 w.heap.size ⟨fr, to, gr, md, no, lf, hp, of, tl, py⟩) := BdAt.below BX.out hb BX.out.1
        replace X0x : Hid (World.ownsRow w4 w2.heap.size 50 5 (.slice (some ⟨g0x, 0, none⟩) xs0.length xs0.length) xs0.length (MI5.flat xs0)) := M5.own_below X0x.out hb
        clear hb
        have X2x : Hid (World.ownsRow w4 w3.heap.size 3 1 (.slice (some ⟨g2x, 0, none⟩) xs2.length xs2.length) xs2.length (M4.iv xs2)) := ho
        clear ho
        obtain ⟨hlt, c0, c1, c2, c3, c4, c5, c6, c7, c8, c9⟩ := id BX.out
        go_wp2_with fail
        refine (TB.out _).mono ?_
        rintro e w5 ⟨rfl, hb⟩
        clear hlt c0 c1 c2 c3 c4 c5 c6 c7 c8 c9
        have hTB : w4.heap.size ≤ w5.heap.size := hb.size
        replace B := B.trans (hb.mono B.size)
        replace C := C.trans (hb.mono C.size)
        replace BX : Hid (BdAt w5 w.heap.size ⟨fr, to, gr, md, no, lf, hp, of, tl, py⟩) := BdAt.below BX.out hb BX.out.1
        replace X0x : Hid (World.ownsRow w5 w2.heap.size 50 5 (.slice (some ⟨g0x, 0, none⟩) xs0.length xs0.length) xs0.length (MI5.flat xs0)) := M5.own_below X0x.out hb
        replace X2x : Hid (World.ownsRow w5 w3.heap.size 3 1 (.slice (some ⟨g2x, 0, none⟩) xs2.length xs2.length) xs2.length (M4.iv xs2)) := M5.own_below X2x.out hb
        clear hb
        go_wp2_with fail
        refine (IG.out g0x g2x _ (MI5.RowAt.of_own X0x.out) (M4.IntsAt.of_own X2x.out)).mono ?_
        rintro e w6 ⟨ai, ci, rfl, owni, hb⟩
        have SC : w2.heap.size ≤ w5.heap.size := C.size
        have SW : w5.heap.size ≤ w6.heap.size := hb.size
        replace B := B.trans (hb.mono B.size)
        replace C := C.trans (hb.mono C.size)
        replace BX : Hid (BdAt w6 w.heap.size ⟨fr, to, gr, md, no, lf, hp, of, tl, py⟩) := BdAt.below BX.out hb BX.out.1
        replace X0x : Hid (World.ownsRow w6 w2.heap.size 50 5 (.slice (some ⟨g0x, 0, none⟩) xs0.length xs0.length) xs0.length (MI5.flat xs0)) := M5.own_below X0x.out hb
        replace X2x : Hid (World.ownsRow w6 w3.heap.size 3 1 (.slice (some ⟨g2x, 0, none⟩) xs2.length xs2.length) xs2.length (M4.iv xs2)) := M5.own_below X2x.out hb
        clear hb
        have OG : Hid (World.ownsRow w6 w5.heap.size 3 1 (.slice ai L.length ci) L.length (M4.iv L)) := owni
        clear owni
        go_wp2_with fail
        refine (eqIntS_any _ _ _ _ L L _ (by omega) (by omega) (M5.own_ints OG.out) (M4.IntsAt.below IN0.out C)).mono ?_
        rintro e w7 ⟨rfl, hb⟩
        replace SW : w5.heap.size ≤ w7.heap.size := Nat.le_trans SW hb.size
        replace B := B.trans (hb.mono B.size)
        replace C := C.trans (hb.mono C.size)
        replace BX : Hid (BdAt w7 w.heap.size ⟨fr, to, gr, md, no, lf, hp, of, tl, py⟩) := BdAt.below BX.out hb BX.out.1
        replace X0x : Hid (World.ownsRow w7 w2.heap.size 50 5 (.slice (some ⟨g0x, 0, none⟩) xs0.length xs0.length) xs0.length (MI5.flat xs0)) := M5.own_below X0x.out hb
        replace X2x : Hid (World.ownsRow w7 w3.heap.size 3 1 (.slice (some ⟨g2x, 0, none⟩) xs2.length xs2.length) xs2.length (M4.iv xs2)) := M5.own_below X2x.out hb
        replace OG : Hid (World.ownsRow w7 w5.heap.size 3 1 (.slice ai L.length ci) L.length (M4.iv L)) := M5.own_below OG.out hb
        clear hb
        go_wp2_with fail
        refine (TP0.out _ (MI5.RowAt.below H0.out B)).mono ?_
        rintro e w8 ⟨gq0, rfl, ho, hb⟩
        replace SW : w5.heap.size ≤ w8.heap.size := Nat.le_trans SW hb.size
        replace B := B.trans (hb.mono B.size)
        replace C := C.trans (hb.mono C.size)
        replace BX : Hid (BdAt w8 w.heap.size ⟨fr, to, gr, md, no, lf, hp, of, tl, py⟩) := BdAt.below BX.out hb BX.out.1
        replace X0x : Hid (World.ownsRow w8 w2.heap.size 50 5 (.slice (some ⟨g0x, 0, none⟩) xs0.length xs0.length) xs0.length (MI5.flat xs0)) := M5.own_below X0x.out hb
        replace X2x : Hid (World.ownsRow w8 w3.heap.size 3 1 (.slice (some ⟨g2x, 0, none⟩) xs2.length xs2.length) xs2.length (M4.iv xs2)) := M5.own_below X2x.out hb
        replace OG : Hid (World.ownsRow w8 w5.heap.size 3 1 (.slice ai L.length ci) L.length (M4.iv L)) := M5.own_below OG.out hb
        clear hb
        have XQ : Hid (MI5.RowAt w8 (some ⟨gq0, 0, none⟩) xs0) := MI5.RowAt.of_own ho
        clear ho
        go_wp2_with fail
        refine (EQ0.out g0x gq0 _ (MI5.RowAt.of_own X0x.out) XQ.out).mono ?_
        rintro e w9 ⟨rfl, hb⟩
        replace SW : w5.heap.size ≤ w9.heap.size := Nat.le_trans SW hb.size
        replace B := B.trans (hb.mono B.size)
        replace C := C.trans (hb.mono C.size)
        replace BX : Hid (BdAt w9 w.heap.size ⟨fr, to, gr, md, no, lf, hp, of, tl, py⟩) := BdAt.below BX.out hb BX.out.1
        replace X0x : Hid (World.ownsRow w9 w2.heap.size 50 5 (.slice (some ⟨g0x, 0, none⟩) xs0.length xs0.length) xs0.length (MI5.flat xs0)) := M5.own_below X0x.out hb
        replace X2x : Hid (World.ownsRow w9 w3.heap.size 3 1 (.slice (some ⟨g2x, 0, none⟩) xs2.length xs2.length) xs2.length (M4.iv xs2)) := M5.own_below X2x.out hb
        replace OG : Hid (World.ownsRow w9 w5.heap.size 3 1 (.slice ai L.length ci) L.length (M4.iv L)) := M5.own_below OG.out hb
        clear hb
        clear XQ
        go_wp2_with fail
        refine (TP2.out _ (M4.IntsAt.below H2.out B)).mono ?_
        rintro e w10 ⟨gq2, rfl, ho, hb⟩
        replace SW : w5.heap.size ≤ w10.heap.size := Nat.le_trans SW hb.size
        replace B := B.trans (hb.mono B.size)
        replace C := C.trans (hb.mono C.size)
        replace BX : Hid (BdAt w10 w.heap.size ⟨fr, to, gr, md, no, lf, hp, of, tl, py⟩) := BdAt.below BX.out hb BX.out.1
        replace X0x : Hid (World.ownsRow w10 w2.heap.size 50 5 (.slice (some ⟨g0x, 0, none⟩) xs0.length xs0.length) xs0.length (MI5.flat xs0)) := M5.own_below X0x.out hb
        replace X2x : Hid (World.ownsRow w10 w3.heap.size 3 1 (.slice (some ⟨g2x, 0, none⟩) xs2.length xs2.length) xs2.length (M4.iv xs2)) := M5.own_below X2x.out hb
        replace OG : Hid (World.ownsRow w10 w5.heap.size 3 1 (.slice ai L.length ci) L.length (M4.iv L)) := M5.own_below OG.out hb
        clear hb
        have XQ : Hid (M4.IntsAt w10 (some ⟨gq2, 0, none⟩) xs2) := M4.IntsAt.of_own ho
        clear ho
        go_wp2_with fail
        refine (EQ2.out g2x gq2 _ (M4.IntsAt.of_own X2x.out) XQ.out).mono ?_
        rintro e w11 ⟨rfl, hb⟩
        replace SW : w5.heap.size ≤ w11.heap.size := Nat.le_trans SW hb.size
        replace B := B.trans (hb.mono B.size)
        replace C := C.trans (hb.mono C.size)
        replace BX : Hid (BdAt w11 w.heap.size ⟨fr, to, gr, md, no, lf, hp, of, tl, py⟩) := BdAt.below BX.out hb BX.out.1
        replace X0x : Hid (World.ownsRow w11 w2.heap.size 50 5 (.slice (some ⟨g0x, 0, none⟩) xs0.length xs0.length) xs0.length (MI5.flat xs0)) := M5.own_below X0x.out hb
        replace X2x : Hid (World.ownsRow w11 w3.heap.size 3 1 (.slice (some ⟨g2x, 0, none⟩) xs2.length xs2.length) xs2.length (M4.iv xs2)) := M5.own_below X2x.out hb
        replace OG : Hid (World.ownsRow w11 w5.heap.size 3 1 (.slice ai L.length ci) L.length (M4.iv L)) := M5.own_below OG.out hb
        clear hb
        clear XQ
        replace BX : Hid (BdAt w11 w.heap.size ⟨fr, to, gr, md, no, lf, hp, of, tl, py⟩) := BX
        go_wp2_with fail
        refine (markContactS_only _ g0x xs0.length 1 _ hz0 (by omega) (by omega) ⟨_, X0x.out⟩).mono ?_
        rintro e w12 ⟨rfl, hO⟩
        replace SW : w5.heap.size ≤ w12.heap.size := Nat.le_trans SW hO.size
        replace B := B.trans (hO.below (by omega) B.size)
        replace C := C.trans (hO.below (by omega) C.size)
        replace BX : Hid (BdAt w12 w.heap.size ⟨fr, to, gr, md, no, lf, hp, of, tl, py⟩) := by obtain ⟨hk, q⟩ := BX.out; exact ⟨Nat.lt_of_lt_of_le hk hO.size, (hO.cell (x := ⟨w.heap.size, 0, none⟩) hk (by simp; omega)).trans q.1, (hO.cell (x := ⟨w.heap.size, 1, none⟩) hk (by simp; omega)).trans q.2.1, (hO.cell (x := ⟨w.heap.size, 2, none⟩) hk (by simp; omega)).trans q.2.2.1, (hO.cell (x := ⟨w.heap.size, 3, none⟩) hk (by simp; omega)).trans q.2.2.2.1, (hO.cell (x := ⟨w.heap.size, 4, none⟩) hk (by simp; omega)).trans q.2.2.2.2.1, (hO.cell (x := ⟨w.heap.size, 5, none⟩) hk (by simp; omega)).trans q.2.2.2.2.2.1, (hO.cell (x := ⟨w.heap.size, 6, none⟩) hk (by simp; omega)).trans q.2.2.2.2.2.2.1, (hO.cell (x := ⟨w.heap.size, 7, none⟩) hk (by simp; omega)).trans q.2.2.2.2.2.2.2.1, (hO.cell (x := ⟨w.heap.size, 8, none⟩) hk (by simp; omega)).trans q.2.2.2.2.2.2.2.2.1, (hO.cell (x := ⟨w.heap.size, 9, none⟩) hk (by simp; omega)).trans q.2.2.2.2.2.2.2.2.2⟩
        replace X2x : Hid (World.ownsRow w12 w3.heap.size 3 1 (.slice (some ⟨g2x, 0, none⟩) xs2.length xs2.length) xs2.length (M4.iv xs2)) := MC.own_only X2x.out hO (by omega)
        replace OG : Hid (World.ownsRow w12 w5.heap.size 3 1 (.slice ai L.length ci) L.length (M4.iv L)) := MC.own_only OG.out hO (by omega)
        clear hO X0x
        replace BX : Hid (BdAt w12 w.heap.size ⟨fr, to, gr, md, no, lf, hp, of, tl, py⟩) := BX
        go_wp2_with fail
        refine (markIntS_only _ g2x xs2.length (1 + 5 * xs0.length) _ hz2 (by omega) (by omega) ⟨_, X2x.out⟩).mono ?_
        rintro e w13 ⟨rfl, hO⟩
        replace SW : w5.heap.size ≤ w13.heap.size := Nat.le_trans SW hO.size
        replace B := B.trans (hO.below (by omega) B.size)
        replace C := C.trans (hO.below (by omega) C.size)
        replace BX : Hid (BdAt w13 w.heap.size ⟨fr, to, gr, md, no, lf, hp, of, tl, py⟩) := by obtain ⟨hk, q⟩ := BX.out; exact ⟨Nat.lt_of_lt_of_le hk hO.size, (hO.cell (x := ⟨w.heap.size, 0, none⟩) hk (by simp; omega)).trans q.1, (hO.cell (x := ⟨w.heap.size, 1, none⟩) hk (by simp; omega)).trans q.2.1, (hO.cell (x := ⟨w.heap.size, 2, none⟩) hk (by simp; omega)).trans q.2.2.1, (hO.cell (x := ⟨w.heap.size, 3, none⟩) hk (by simp; omega)).trans q.2.2.2.1, (hO.cell (x := ⟨w.heap.size, 4, none⟩) hk (by simp; omega)).trans q.2.2.2.2.1, (hO.cell (x := ⟨w.heap.size, 5, none⟩) hk (by simp; omega)).trans q.2.2.2.2.2.1, (hO.cell (x := ⟨w.heap.size, 6, none⟩) hk (by simp; omega)).trans q.2.2.2.2.2.2.1, (hO.cell (x := ⟨w.heap.size, 7, none⟩) hk (by simp; omega)).trans q.2.2.2.2.2.2.2.1, (hO.cell (x := ⟨w.heap.size, 8, none⟩) hk (by simp; omega)).trans q.2.2.2.2.2.2.2.2.1, (hO.cell (x := ⟨w.heap.size, 9, none⟩) hk (by simp; omega)).trans q.2.2.2.2.2.2.2.2.2⟩
        replace OG : Hid (World.ownsRow w13 w5.heap.size 3 1 (.slice ai L.length ci) L.length (M4.iv L)) := MC.own_only OG.out hO (by omega)
        clear hO X2x
        go_wp2_with fail
        refine (eqIntS_any _ _ _ _ L L _ (by omega) (by omega) (M5.own_ints OG.out) (M4.IntsAt.below IN0.out C)).mono ?_
        rintro e w14 ⟨rfl, hb⟩
        replace SW : w5.heap.size ≤ w14.heap.size := Nat.le_trans SW hb.size
        replace B := B.trans (hb.mono B.size)
        replace C := C.trans (hb.mono C.size)
        replace BX : Hid (BdAt w14 w.heap.size ⟨fr, to, gr, md, no, lf, hp, of, tl, py⟩) := BdAt.below BX.out hb BX.out.1
        replace OG : Hid (World.ownsRow w14 w5.heap.size 3 1 (.slice ai L.length ci) L.length (M4.iv L)) := M5.own_below OG.out hb
        clear hb
        go_wp2_with fail
        refine (markIntS_any w5.heap.size _ L 1 _ hL (by omega) (by omega) SW OG.out).mono ?_
        rintro e w15 ⟨rfl, ownm, hbm⟩
        replace B := B.trans (hbm.mono (by omega))
        replace C := C.trans (hbm.mono SC)
        replace BX : Hid (BdAt w15 w.heap.size ⟨fr, to, gr, md, no, lf, hp, of, tl, py⟩) := BdAt.below BX.out hbm (by omega)
        have INM : Hid (M4.IntsAt w15 ai (M5.marks 1 L.length)) := M5.own_ints ownm
        clear OG ownm hbm SW
        go_wp2_with fail
        refine (heldIntS_any _ _ L.length 1 _ hL (by omega) (by omega) INM.out).mono ?_
        rintro e w' ⟨rfl, rfl⟩
        have hq : w.heap.size < w15.heap.size := BX.out.1
        have KP : ∀ V1 V2 : World, (Below w15.heap.size w15 V1 ∧ V1.cell? ⟨w.heap.size, 0, none⟩ = some (.int .i64 fr) ∧ V1.cell? ⟨w.heap.size, 1, none⟩ = some (.int .i64 to) ∧ V1.cell? ⟨w.heap.size, 2, none⟩ = some (.bool gr) ∧ V1.cell? ⟨w.heap.size, 3, none⟩ = some (.int .i64 md) ∧ V1.cell? ⟨w.heap.size, 4, none⟩ = some (.int .i64 no) ∧ V1.cell? ⟨w.heap.size, 5, none⟩ = some (.int .i64 lf) ∧ V1.cell? ⟨w.heap.size, 6, none⟩ = some (.int .i64 hp) ∧ V1.cell? ⟨w.heap.size, 7, none⟩ = some (.int .i64 of) ∧ V1.cell? ⟨w.heap.size, 8, none⟩ = some (.int .i64 tl) ∧ V1.cell? ⟨w.heap.size, 9, none⟩ = some (.string py)) → Below V1.heap.size V1 V2 → (Below w15.heap.size w15 V2 ∧ V2.cell? ⟨w.heap.size, 0, none⟩ = some (.int .i64 fr) ∧ V2.cell? ⟨w.heap.size, 1, none⟩ = some (.int .i64 to) ∧ V2.cell? ⟨w.heap.size, 2, none⟩ = some (.bool gr) ∧ V2.cell? ⟨w.heap.size, 3, none⟩ = some (.int .i64 md) ∧ V2.cell? ⟨w.heap.size, 4, none⟩ = some (.int .i64 no) ∧ V2.cell? ⟨w.heap.size, 5, none⟩ = some (.int .i64 lf) ∧ V2.cell? ⟨w.heap.size, 6, none⟩ = some (.int .i64 hp) ∧ V2.cell? ⟨w.heap.size, 7, none⟩ = some (.int .i64 of) ∧ V2.cell? ⟨w.heap.size, 8, none⟩ = some (.int .i64 tl) ∧ V2.cell? ⟨w.heap.size, 9, none⟩ = some (.string py)) := fun V1 V2 ⟨h, h0, h1, h2, h3, h4, h5, h6, h7, h8, h9⟩ hb => ⟨h.trans (hb.mono h.size), (hb.cell (p := ⟨w.heap.size, 0, none⟩) (Nat.lt_of_lt_of_le hq h.size)).trans h0, (hb.cell (p := ⟨w.heap.size, 1, none⟩) (Nat.lt_of_lt_of_le hq h.size)).trans h1, (hb.cell (p := ⟨w.heap.size, 2, none⟩) (Nat.lt_of_lt_of_le hq h.size)).trans h2, (hb.cell (p := ⟨w.heap.size, 3, none⟩) (Nat.lt_of_lt_of_le hq h.size)).trans h3, (hb.cell (p := ⟨w.heap.size, 4, none⟩) (Nat.lt_of_lt_of_le hq h.size)).trans h4, (hb.cell (p := ⟨w.heap.size, 5, none⟩) (Nat.lt_of_lt_of_le hq h.size)).trans h5, (hb.cell (p := ⟨w.heap.size, 6, none⟩) (Nat.lt_of_lt_of_le hq h.size)).trans h6, (hb.cell (p := ⟨w.heap.size, 7, none⟩) (Nat.lt_of_lt_of_le hq h.size)).trans h7, (hb.cell (p := ⟨w.heap.size, 8, none⟩) (Nat.lt_of_lt_of_le hq h.size)).trans h8, (hb.cell (p := ⟨w.heap.size, 9, none⟩) (Nat.lt_of_lt_of_le hq h.size)).trans h9⟩
        have TQ0 : Hid (∀ W' : World, (Below w15.heap.size w15 W' ∧ W'.cell? ⟨w.heap.size, 0, none⟩ = some (.int .i64 fr) ∧ W'.cell? ⟨w.heap.size, 1, none⟩ = some (.int .i64 to) ∧ W'.cell? ⟨w.heap.size, 2, none⟩ = some (.bool gr) ∧ W'.cell? ⟨w.heap.size, 3, none⟩ = some (.int .i64 md) ∧ W'.cell? ⟨w.heap.size, 4, none⟩ = some (.int .i64 no) ∧ W'.cell? ⟨w.heap.size, 5, none⟩ = some (.int .i64 lf) ∧ W'.cell? ⟨w.heap.size, 6, none⟩ = some (.int .i64 hp) ∧ W'.cell? ⟨w.heap.size, 7, none⟩ = some (.int .i64 of) ∧ W'.cell? ⟨w.heap.size, 8, none⟩ = some (.int .i64 tl) ∧ W'.cell? ⟨w.heap.size, 9, none⟩ = some (.string py)) → Calls Try.prog 9 #[.slice a0 xs0.length cap0] W' fun e w' => ∃ g : Nat, e = .returned (.slice (some ⟨g, 0, none⟩) xs0.length xs0.length) ∧ MI5.RowAt w' (some ⟨g, 0, none⟩) xs0 ∧ Below W'.heap.size W' w' ∧ (Below w15.heap.size w15 w' ∧ w'.cell? ⟨w.heap.size, 0, none⟩ = some (.int .i64 fr) ∧ w'.cell? ⟨w.heap.size, 1, none⟩ = some (.int .i64 to) ∧ w'.cell? ⟨w.heap.size, 2, none⟩ = some (.bool gr) ∧ w'.cell? ⟨w.heap.size, 3, none⟩ = some (.int .i64 md) ∧ w'.cell? ⟨w.heap.size, 4, none⟩ = some (.int .i64 no) ∧ w'.cell? ⟨w.heap.size, 5, none⟩ = some (.int .i64 lf) ∧ w'.cell? ⟨w.heap.size, 6, none⟩ = some (.int .i64 hp) ∧ w'.cell? ⟨w.heap.size, 7, none⟩ = some (.int .i64 of) ∧ w'.cell? ⟨w.heap.size, 8, none⟩ = some (.int .i64 tl) ∧ w'.cell? ⟨w.heap.size, 9, none⟩ = some (.string py))) := fun W' h => (TP0.out W' (MI5.RowAt.below H0.out (B.trans (h.1.mono B.size)))).mono fun e w' ⟨g, e1, ho, hb⟩ => ⟨g, e1, MI5.RowAt.of_own ho, hb, KP _ _ h hb⟩
        have TBQ : Hid (∀ W' : World, (Below w15.heap.size w15 W' ∧ W'.cell? ⟨w.heap.size, 0, none⟩ = some (.int .i64 fr) ∧ W'.cell? ⟨w.heap.size, 1, none⟩ = some (.int .i64 to) ∧ W'.cell? ⟨w.heap.size, 2, none⟩ = some (.bool gr) ∧ W'.cell? ⟨w.heap.size, 3, none⟩ = some (.int .i64 md) ∧ W'.cell? ⟨w.heap.size, 4, none⟩ = some (.int .i64 no) ∧ W'.cell? ⟨w.heap.size, 5, none⟩ = some (.int .i64 lf) ∧ W'.cell? ⟨w.heap.size, 6, none⟩ = some (.int .i64 hp) ∧ W'.cell? ⟨w.heap.size, 7, none⟩ = some (.int .i64 of) ∧ W'.cell? ⟨w.heap.size, 8, none⟩ = some (.int .i64 tl) ∧ W'.cell? ⟨w.heap.size, 9, none⟩ = some (.string py)) → Calls Try.prog 10 #[Bd.v ⟨fr, to, gr, md, no, lf, hp, of, tl, py⟩] W' fun e w' => e = .returned (Bd.v ⟨fr, to, gr, md, no, lf, hp, of, tl, py⟩) ∧ Below W'.heap.size W' w' ∧ (Below w15.heap.size w15 w' ∧ w'.cell? ⟨w.heap.size, 0, none⟩ = some (.int .i64 fr) ∧ w'.cell? ⟨w.heap.size, 1, none⟩ = some (.int .i64 to) ∧ w'.cell? ⟨w.heap.size, 2, none⟩ = some (.bool gr) ∧ w'.cell? ⟨w.heap.size, 3, none⟩ = some (.int .i64 md) ∧ w'.cell? ⟨w.heap.size, 4, none⟩ = some (.int .i64 no) ∧ w'.cell? ⟨w.heap.size, 5, none⟩ = some (.int .i64 lf) ∧ w'.cell? ⟨w.heap.size, 6, none⟩ = some (.int .i64 hp) ∧ w'.cell? ⟨w.heap.size, 7, none⟩ = some (.int .i64 of) ∧ w'.cell? ⟨w.heap.size, 8, none⟩ = some (.int .i64 tl) ∧ w'.cell? ⟨w.heap.size, 9, none⟩ = some (.string py))) := fun W' h => (TB.out W').mono fun e w' ⟨e1, hb⟩ => ⟨e1, hb, KP _ _ h hb⟩
        have TQ2 : Hid (∀ W' : World, (Below w15.heap.size w15 W' ∧ W'.cell? ⟨w.heap.size, 0, none⟩ = some (.int .i64 fr) ∧ W'.cell? ⟨w.heap.size, 1, none⟩ = some (.int .i64 to) ∧ W'.cell? ⟨w.heap.size, 2, none⟩ = some (.bool gr) ∧ W'.cell? ⟨w.heap.size, 3, none⟩ = some (.int .i64 md) ∧ W'.cell? ⟨w.heap.size, 4, none⟩ = some (.int .i64 no) ∧ W'.cell? ⟨w.heap.size, 5, none⟩ = some (.int .i64 lf) ∧ W'.cell? ⟨w.heap.size, 6, none⟩ = some (.int .i64 hp) ∧ W'.cell? ⟨w.heap.size, 7, none⟩ = some (.int .i64 of) ∧ W'.cell? ⟨w.heap.size, 8, none⟩ = some (.int .i64 tl) ∧ W'.cell? ⟨w.heap.size, 9, none⟩ = some (.string py)) → Calls Try.prog 11 #[.slice a2 xs2.length cap2] W' fun e w' => ∃ g : Nat, e = .returned (.slice (some ⟨g, 0, none⟩) xs2.length xs2.length) ∧ M4.IntsAt w' (some ⟨g, 0, none⟩) xs2 ∧ Below W'.heap.size W' w' ∧ (Below w15.heap.size w15 w' ∧ w'.cell? ⟨w.heap.size, 0, none⟩ = some (.int .i64 fr) ∧ w'.cell? ⟨w.heap.size, 1, none⟩ = some (.int .i64 to) ∧ w'.cell? ⟨w.heap.size, 2, none⟩ = some (.bool gr) ∧ w'.cell? ⟨w.heap.size, 3, none⟩ = some (.int .i64 md) ∧ w'.cell? ⟨w.heap.size, 4, none⟩ = some (.int .i64 no) ∧ w'.cell? ⟨w.heap.size, 5, none⟩ = some (.int .i64 lf) ∧ w'.cell? ⟨w.heap.size, 6, none⟩ = some (.int .i64 hp) ∧ w'.cell? ⟨w.heap.size, 7, none⟩ = some (.int .i64 of) ∧ w'.cell? ⟨w.heap.size, 8, none⟩ = some (.int .i64 tl) ∧ w'.cell? ⟨w.heap.size, 9, none⟩ = some (.string py))) := fun W' h => (TP2.out W' (M4.IntsAt.below H2.out (B.trans (h.1.mono B.size)))).mono fun e w' ⟨g, e1, ho, hb⟩ => ⟨g, e1, M4.IntsAt.of_own ho, hb, KP _ _ h hb⟩
        have SQ : Hid (∀ (g0 g2 : Nat) (W' : World), (Below w15.heap.size w15 W' ∧ W'.cell? ⟨w.heap.size, 0, none⟩ = some (.int .i64 fr) ∧ W'.cell? ⟨w.heap.size, 1, none⟩ = some (.int .i64 to) ∧ W'.cell? ⟨w.heap.size, 2, none⟩ = some (.bool gr) ∧ W'.cell? ⟨w.heap.size, 3, none⟩ = some (.int .i64 md) ∧ W'.cell? ⟨w.heap.size, 4, none⟩ = some (.int .i64 no) ∧ W'.cell? ⟨w.heap.size, 5, none⟩ = some (.int .i64 lf) ∧ W'.cell? ⟨w.heap.size, 6, none⟩ = some (.int .i64 hp) ∧ W'.cell? ⟨w.heap.size, 7, none⟩ = some (.int .i64 of) ∧ W'.cell? ⟨w.heap.size, 8, none⟩ = some (.int .i64 tl) ∧ W'.cell? ⟨w.heap.size, 9, none⟩ = some (.string py)) → MI5.RowAt W' (some ⟨g0, 0, none⟩) xs0 → M4.IntsAt W' (some ⟨g2, 0, none⟩) xs2 → Calls Try.prog 24 #[.slice (some ⟨g0, 0, none⟩) xs0.length xs0.length, Bd.v ⟨fr, to, gr, md, no, lf, hp, of, tl, py⟩, .slice (some ⟨g2, 0, none⟩) xs2.length xs2.length] W' fun e w' => (∃ a1 c1, e = .returned (.tuple #[.slice a1 L.length c1, .bool r1]) ∧ M4.IntsAt w' a1 L) ∧ (Below w15.heap.size w15 w' ∧ w'.cell? ⟨w.heap.size, 0, none⟩ = some (.int .i64 fr) ∧ w'.cell? ⟨w.heap.size, 1, none⟩ = some (.int .i64 to) ∧ w'.cell? ⟨w.heap.size, 2, none⟩ = some (.bool gr) ∧ w'.cell? ⟨w.heap.size, 3, none⟩ = some (.int .i64 md) ∧ w'.cell? ⟨w.heap.size, 4, none⟩ = some (.int .i64 no) ∧ w'.cell? ⟨w.heap.size, 5, none⟩ = some (.int .i64 lf) ∧ w'.cell? ⟨w.heap.size, 6, none⟩ = some (.int .i64 hp) ∧ w'.cell? ⟨w.heap.size, 7, none⟩ = some (.int .i64 of) ∧ w'.cell? ⟨w.heap.size, 8, none⟩ = some (.int .i64 tl) ∧ w'.cell? ⟨w.heap.size, 9, none⟩ = some (.string py))) := fun g0 g2 W' h q0 q2 => (IG.out g0 g2 W' q0 q2).mono (by rintro e w' ⟨a1, c1, rfl, ho, hb⟩; exact ⟨⟨a1, c1, rfl, M5.own_ints ho⟩, KP _ _ h hb⟩)
        have hSd : Below w15.heap.size w15 w15.drew ∧ w15.drew.cell? ⟨w.heap.size, 0, none⟩ = some (.int .i64 fr) ∧ w15.drew.cell? ⟨w.heap.size, 1, none⟩ = some (.int .i64 to) ∧ w15.drew.cell? ⟨w.heap.size, 2, none⟩ = some (.bool gr) ∧ w15.drew.cell? ⟨w.heap.size, 3, none⟩ = some (.int .i64 md) ∧ w15.drew.cell? ⟨w.heap.size, 4, none⟩ = some (.int .i64 no) ∧ w15.drew.cell? ⟨w.heap.size, 5, none⟩ = some (.int .i64 lf) ∧ w15.drew.cell? ⟨w.heap.size, 6, none⟩ = some (.int .i64 hp) ∧ w15.drew.cell? ⟨w.heap.size, 7, none⟩ = some (.int .i64 of) ∧ w15.drew.cell? ⟨w.heap.size, 8, none⟩ = some (.int .i64 tl) ∧ w15.drew.cell? ⟨w.heap.size, 9, none⟩ = some (.string py) := ⟨(Below.refl _ _).drew, BX.out.2⟩
        clear KP hq
        go_wp2
        go_region_held3 (fun w' => Below w15.heap.size w15 w' ∧ w'.cell? ⟨w.heap.size, 0, none⟩ = some (.int .i64 fr) ∧ w'.cell? ⟨w.heap.size, 1, none⟩ = some (.int .i64 to) ∧ w'.cell? ⟨w.heap.size, 2, none⟩ = some (.bool gr) ∧ w'.cell? ⟨w.heap.size, 3, none⟩ = some (.int .i64 md) ∧ w'.cell? ⟨w.heap.size, 4, none⟩ = some (.int .i64 no) ∧ w'.cell? ⟨w.heap.size, 5, none⟩ = some (.int .i64 lf) ∧ w'.cell? ⟨w.heap.size, 6, none⟩ = some (.int .i64 hp) ∧ w'.cell? ⟨w.heap.size, 7, none⟩ = some (.int .i64 of) ∧ w'.cell? ⟨w.heap.size, 8, none⟩ = some (.int .i64 tl) ∧ w'.cell? ⟨w.heap.size, 9, none⟩ = some (.string py)) (first | assumption | (show _ ∧ _; assumption)) (first | (go_at_call 9; refine Calls.mono (TQ0.out _ (by assumption)) ?_; (rintro e wy0 ⟨g0y, rfl, hr0y, hbq0, hSq0⟩)) | (go_at_call 10; refine Calls.mono (TBQ.out _ (by assumption)) ?_; (rintro e wy1 ⟨rfl, hbq1, hSq1⟩); (replace hr0y := MI5.RowAt.below hr0y hbq1)) | (go_at_call 11; refine Calls.mono (TQ2.out _ (by assumption)) ?_; (rintro e wy2 ⟨g2y, rfl, hr2y, hbq2, hSq2⟩); (replace hr0y := MI5.RowAt.below hr0y hbq2)) | (go_at_call 24; refine Calls.mono (SQ.out g0y g2y _ (by assumption) hr0y hr2y) ?_; (rintro e w16 ⟨⟨ay, cy, rfl, owny⟩, hSr⟩)))
        have hb := hSr.1
        clear hSd hSr SQ TBQ hSq0 hbq0 hSq1 hbq1 hSq2 hbq2 TQ0 hr0y TQ2 hr2y
        replace B := B.trans (hb.mono B.size)
        replace C := C.trans (hb.mono C.size)
        replace BX : Hid (BdAt w16 w.heap.size ⟨fr, to, gr, md, no, lf, hp, of, tl, py⟩) := BdAt.below BX.out hb BX.out.1
        replace INM : Hid (M4.IntsAt w16 ai (M5.marks 1 L.length)) := M4.IntsAt.below INM.out hb
        clear hb
        clear IG
        have INY : Hid (M4.IntsAt w16 ay L) := owny
        go_wp2_with fail
        refine (eqIntS_any _ _ _ _ L L _ (by omega) (by omega) (INY.out) (M4.IntsAt.below IN0.out C)).mono ?_
        rintro e w17 ⟨rfl, hb⟩
        replace B := B.trans (hb.mono B.size)
        replace C := C.trans (hb.mono C.size)
        replace BX : Hid (BdAt w17 w.heap.size ⟨fr, to, gr, md, no, lf, hp, of, tl, py⟩) := BdAt.below BX.out hb BX.out.1
        replace INM : Hid (M4.IntsAt w17 ai (M5.marks 1 L.length)) := M4.IntsAt.below INM.out hb
        replace INY : Hid (M4.IntsAt w17 ay L) := M4.IntsAt.below INY.out hb
        clear hb
        go_wp2_with fail
        refine (heldIntS_any _ _ L.length 1 _ hL (by omega) (by omega) INM.out).mono ?_
        rintro e w' ⟨rfl, rfl⟩
        clear TB BX H0 TP0 EQ0 H2 TP2 EQ2
        go_wp2
        go_ret
        exact ⟨rfl, B⟩
  · clear SG0 IG0
    go_enter Try.func5, Try.ntmps5
    go_wp2
    go_ret
    exact ⟨rfl, (Below.refl _ w).alloc (Nat.le_refl _) _⟩
end Go.Proofs.Ytpdmbobcbehilaa
