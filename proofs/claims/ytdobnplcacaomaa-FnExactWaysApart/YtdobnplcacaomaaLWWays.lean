import Derived.Test.YtdobnplcacaomaaRows
import Derived.Test.YtdobnplcacaomaaMI2
import Derived.WalkKit
import Derived.WalkSpells
import Derived.WalkLawsBesides
import Derived.Outline
import Derived.Deep.RegionWith
import Derived.Test.YtdobnplcacaomaaMCur
import Derived.Test.YtdobnplcacaomaaM5
import Derived.Test.YtdobnplcacaomaaCNest
/- The laws' toLinkS copies a slice; szLinkS is a bound on it. -/
namespace Go.Proofs.Ytdobnplcacaomaa
open Go.RowKit
theorem Try.infoLink : (Try.prog.info? 68).map (fun i => (i.zero, i.size, i.bytes)) = some (some (.agg #[.int .i64 0, .int .i64 0]), 2, 16) := by kernel_rfl
set_option maxHeartbeats 1600000 in
set_option maxRecDepth 100000 in
theorem toLink_any (x : I2) (w : World) : Calls Try.prog 51 #[x.v] w fun e w' => e = .returned x.v ∧ Below w.heap.size w w' := by
  obtain ⟨x0, x1⟩ := x
  go_enter Try.func51, Try.ntmps51
  go_wp2
  exact bodyPost_ret (v := .agg #[.int .i64 x0, .int .i64 x1]) (by simp [results, Try.results51, go_sem]) rfl ⟨rfl, (((Below.refl _ w).alloc (Nat.le_refl _) _).alloc (by simp) _).alloc (by simp; omega) _⟩
set_option maxHeartbeats 1600000 in
set_option maxRecDepth 100000 in
theorem toLinkS_any (a : Option Addr) (cap : Nat) (xs : List I2) (w : World) (hz : xs.length ≤ 1048576) (hin : MI2.RowAt w a xs) :
    Calls Try.prog 23 #[.slice a xs.length cap] w fun e w' => ∃ g, e = .returned (.slice (some ⟨g, 0, none⟩) xs.length xs.length) ∧ w'.ownsRow w.heap.size 68 2 (.slice (some ⟨g, 0, none⟩) xs.length xs.length) xs.length (MI2.flat xs) ∧ Below w.heap.size w w' := by
  obtain ⟨i0, hi, hz0, hz1, hz2⟩ := info_parts Try.infoLink
  go_enter Try.func23, Try.ntmps23
  go_wp2_with (at_make; refine wpList_make_full _ rfl _ _ 41 rfl w.heap.size 68 i0 (.agg #[.int .i64 0, .int .i64 0]) 2 Try.underlying41 hi hz0 hz1 .i64 .i64 _ _ xs.length rfl rfl rfl rfl ?_ ?_ ?_ ?_)
  · rw [hz2]; omega
  · unfold maxLen; omega
  · omega
  intro w1 hown hgrow
  have hb1 : Below w.heap.size w w1 := (Below.refl _ _).grown hgrow (Nat.le_refl _) (fun k hk => by cases hk)
  have hml := hown.1
  generalize (madeCells _ _).toList = m at *
  rw [← MI2.mix_zero xs m] at hown
  have HM : Hid (m.length = xs.length * 2) := hml
  clear hgrow hi hz0 hz1 hz2 hml
  go_wp2_with fail
  go_loopw [4] (fun iv wr => ∃ k : Nat, iv = .int .i64 k ∧ k ≤ xs.length ∧ wr.ownsRow w.heap.size 68 2 (.slice (some ⟨w.heap.size, 0, none⟩) xs.length xs.length) xs.length (MI2.mix xs m k) ∧ Below w.heap.size w wr) (fun iv _ => (xs.length - intOf iv).toNat)
  case atStart => exact ⟨0, rfl, by omega, hown, hb1⟩
  case round =>
    clear hown hb1
    obtain ⟨k, rfl, hk, hown, hb⟩ := hrel
    by_cases hl : k < xs.length
    · obtain ⟨b, off, rfl, hlt, c0, c1⟩ := (hin.below hb).at hl
      obtain ⟨x, hx⟩ : ∃ x, MI2.at_ xs k = x := ⟨_, rfl⟩
      rw [hx] at c0 c1
      have HX : Hid (MI2.at_ xs k = x) := hx
      clear hx
      obtain ⟨x0, x1⟩ := x
      go_wp2_with fail
      refine (toLink_any ⟨x0, x1⟩ _).mono ?_
      rintro e w2 ⟨rfl, hb2⟩
      have hown2 := MI2.own_below hown hb2
      have hB2 := hb.trans (hb2.mono hb.size)
      have hlen := MI2.mix_len xs m k HM.out (by omega)
      obtain ⟨y0, q0⟩ : ∃ y, w2.cell? ⟨w.heap.size, k * 2, none⟩ = some y := MI2.some_at hown2 _ (by omega)
      obtain ⟨y1, q1⟩ : ∃ y, w2.cell? ⟨w.heap.size, k * 2 + 1, none⟩ = some y := MI2.some_at hown2 _ (by omega)
      have z0 := hown2.frozenAt (k * 2)
      have z1 := hown2.frozenAt (k * 2 + 1)
      have HO : Hid _ := hown2
      clear hown hown2 hb2 hb hlen c0 c1 hin
      have s0 := World.ownsRow.stored HO.out (k * 2) (.int .i64 x0)
      have s1 := s0.1.stored (k * 2 + 1) (.int .i64 x1)
      have hm := MI2.mix_set xs m k HM.out hl
      rw [HX.out] at hm
      have R1 := s1.1
      rw [hm] at R1
      have R2 := ((hB2.grown s0.2 (hB2.size) (fun j hj => by simp at hj; omega)).grown s1.2 (Nat.le_trans (hB2.size) s0.2.size) (fun j hj => by simp at hj; omega))
      clear s0 s1 hm HO hB2
      go_wp2
      go_roundw
      case rel => exact ⟨k + 1, by go_num, by omega, R1, R2⟩
      case measure => simp [intOf]; omega
    · obtain rfl : k = xs.length := by omega
      have hown' := hown
      rw [MI2.mix_all _ _ HM.out] at hown'
      clear hown hin
      go_wp2
      go_ret
      exact ⟨w.heap.size, rfl, hown', hb⟩
set_option maxHeartbeats 1600000 in
set_option maxRecDepth 100000 in
theorem szLinkS_any (a : Option Addr) (cap : Nat) (n : Nat) (w : World) (left : Int) (h0 : 0 ≤ left) (h1 : left ≤ 1048576) (hl : n ≤ maxLen) :
    Calls Try.prog 21 #[.slice a n cap, .int .i64 left] w fun e w' => ∃ r : Int, e = .returned (.int .i64 r) ∧ (r < 0 ∨ (0 ≤ r ∧ r ≤ left ∧ (n : Int) ≤ left)) ∧ w = w' := by
  unfold maxLen at hl
  by_cases h : left - (n : Int) < 0
  · go_enter Try.func21, Try.ntmps21
    go_wp2
    go_ret
    exact ⟨-1, rfl, .inl (by omega), rfl⟩
  · go_enter Try.func21, Try.ntmps21
    go_wp2
    go_ret
    exact ⟨left - n, rfl, .inr (by omega), rfl⟩
end Go.Proofs.Ytdobnplcacaomaa

/- The laws' eqLinkS tells whether two slices hold the same. -/
namespace Go.Proofs.Ytdobnplcacaomaa
open Go.RowKit
set_option maxHeartbeats 1600000 in
set_option maxRecDepth 100000 in
theorem eqLink_any (x y : I2) (w : World) : Calls Try.prog 53 #[x.v, y.v] w fun e w' => e = .returned (.bool (decide (x = y))) ∧ Below w.heap.size w w' := by
  obtain ⟨x0, x1⟩ := x
  obtain ⟨y0, y1⟩ := y
  have hB : ∀ o1 o2, Below w.heap.size w ((w.alloc o1).alloc o2) := fun o1 o2 => ((Below.refl _ w).alloc (Nat.le_refl _) o1).alloc (by simp) o2
  by_cases h0 : x0 = y0
  · subst h0
    by_cases h1 : x1 = y1
    · subst h1
      go_enter Try.func53, Try.ntmps53
      go_wp2
      go_ret
      exact ⟨by simp, hB _ _⟩
    · have hF : Hid (decide ((⟨x0, x1⟩ : I2) = ⟨x0, y1⟩) = false) := by show _ = _; simp [h1]
      have hne : (x1 != y1) = true := by simp [h1]
      go_enter Try.func53, Try.ntmps53
      go_wp2
      go_ret
      exact ⟨M4.ret_bool hF.out.symm, hB _ _⟩
  · have hF : Hid (decide ((⟨x0, x1⟩ : I2) = ⟨y0, y1⟩) = false) := by show _ = _; simp [h0]
    have hne : (x0 != y0) = true := by simp [h0]
    go_enter Try.func53, Try.ntmps53
    go_wp2
    go_ret
    exact ⟨M4.ret_bool hF.out.symm, hB _ _⟩
set_option maxHeartbeats 1600000 in
set_option maxRecDepth 100000 in
theorem eqLinkS_any (a b : Option Addr) (ca cb : Nat) (xs ys : List I2) (w : World) (hx : xs.length ≤ 1048576) (hy : ys.length ≤ 1048576) (hax : MI2.RowAt w a xs) (hay : MI2.RowAt w b ys) :
    Calls Try.prog 25 #[.slice a xs.length ca, .slice b ys.length cb] w fun e w' => e = .returned (.bool (decide (xs = ys))) ∧ Below w.heap.size w w' := by
  by_cases hl : xs.length = ys.length
  · have hne : ((xs.length : Int) != (ys.length : Int)) = false := by simp [hl]
    have l1 : xs.length ≤ ys.length := by omega
    have HL : Hid (xs.length = ys.length) := hl
    clear hl
    go_enter Try.func25, Try.ntmps25
    go_wp2
    go_loopw [5] (fun iv wr => ∃ k : Nat, iv = .int .i64 k ∧ k ≤ xs.length ∧ Hid (xs.take k = ys.take k) ∧ Below w.heap.size w wr) (fun iv _ => (xs.length - intOf iv).toNat)
    case atStart => exact ⟨0, rfl, by omega, rfl, Below.refl _ _⟩
    case round =>
      obtain ⟨k, rfl, hk, hT, hb⟩ := hrel
      by_cases hl : k < xs.length
      · have hly : k < ys.length := by omega
        obtain ⟨b1, off1, rfl, hlt1, c0, c1⟩ := (hax.below hb).at hl
        obtain ⟨b2, off2, rfl, hlt2, d0, d1⟩ := (hay.below hb).at hly
        clear hax hay
        have hT' : Hid _ := fun e => MI2.take_eq hl hly hT.out e
        have hF : Hid _ := fun e => MI2.take_ne (xs := xs) (ys := ys) (k := k) e
        generalize MI2.at_ xs k = x at *
        generalize MI2.at_ ys k = y at *
        obtain ⟨x0, x1⟩ := x
        obtain ⟨y0, y1⟩ := y
        have EQ : Hid (∀ W : World, Calls Try.prog 53 #[.agg #[.int .i64 x0, .int .i64 x1], .agg #[.int .i64 y0, .int .i64 y1]] W fun e w' => e = .returned (.bool (decide ((⟨x0, x1⟩ : I2) = ⟨y0, y1⟩))) ∧ Below W.heap.size W w') := fun W => eqLink_any ⟨x0, x1⟩ ⟨y0, y1⟩ W
        obtain ⟨bq, hbq⟩ : ∃ bq, decide ((⟨x0, x1⟩ : I2) = ⟨y0, y1⟩) = bq := ⟨_, rfl⟩
        rw [hbq] at EQ
        have HBQ : Hid _ := hbq
        clear hbq
        go_wp2
        go_region_with (go_at_call 53; refine (EQ.out _).mono ?_; rintro e w1 ⟨rfl, hb1⟩)
        all_goals (
          have hB1 : Below w.heap.size w w1 := hb.drew.trans (hb1.mono (by have := hb.size; simpa using this))
          clear hb1 hb EQ c0 c1 d0 d1
          cases bq
          · have hE : Hid (decide (xs = ys) = false) := by
              show _ = _
              simp only [decide_eq_false_iff_not]
              exact hF.out (of_decide_eq_false HBQ.out)
            clear hT hT' hF HBQ
            go_wp2
            go_ret
            exact ⟨M4.ret_bool hE.out.symm, hB1⟩
          · have hE : Hid _ := hT'.out (of_decide_eq_true HBQ.out)
            clear hT hT' hF HBQ
            go_wp2
            go_roundw
            case rel => exact ⟨k + 1, by go_num, by omega, hE, hB1⟩
            case measure => simp [intOf]; omega)
      · obtain rfl : k = xs.length := by omega
        have hF : Hid (decide (xs = ys) = true) := by
          show _ = _
          simp only [decide_eq_true_eq]
          have := hT.out
          rw [List.take_length, HL.out, List.take_length] at this
          exact this
        go_wp2
        go_ret
        exact ⟨M4.ret_bool hF.out.symm, hb⟩
  · have hne : ((xs.length : Int) != (ys.length : Int)) = true := by simp; omega
    have hF : Hid (decide (xs = ys) = false) := by
      show _ = _
      simp only [decide_eq_false_iff_not]
      exact fun e => hl (by rw [e])
    clear hl
    go_enter Try.func25, Try.ntmps25
    go_wp2
    go_ret
    exact ⟨M4.ret_bool hF.out.symm, Below.refl _ _⟩
end Go.Proofs.Ytdobnplcacaomaa

/- The laws' markLinkS writes into one row alone. -/
namespace Go.Proofs.Ytdobnplcacaomaa
open Go.RowKit
set_option maxHeartbeats 1600000 in
set_option maxRecDepth 100000 in
theorem markLinkS_only (base g n : Nat) (k : Int) (w : World) (hz : n ≤ 1048576) (hk0 : 0 ≤ k) (hk : k ≤ 1073741824) (hown : ∃ vs, w.ownsRow base 68 2 (.slice (some ⟨g, 0, none⟩) n n) n vs) :
    Calls Try.prog 29 #[.slice (some ⟨g, 0, none⟩) n n, .int .i64 k] w fun e w' => e = .returned (.int .i64 (k + 2 * n)) ∧ MC.Only g w w' := by
  go_enter Try.func29, Try.ntmps29
  go_wp2
  go_loopw [1, 5] (fun kv iv wr => ∃ i : Nat, kv = .int .i64 (k + 2 * i) ∧ iv = .int .i64 i ∧ i ≤ n ∧ (∃ vs, wr.ownsRow base 68 2 (.slice (some ⟨g, 0, none⟩) n n) n vs) ∧ MC.Only g w wr) (fun _ iv _ => (n - intOf iv).toNat)
  case atStart => exact ⟨0, by simp, rfl, by omega, hown, MC.Only.refl _ _⟩
  case round =>
    clear hown
    obtain ⟨i, rfl, rfl, hi, ⟨vs, hown⟩, hO⟩ := hrel
    by_cases hl : i < n
    · have hlen := hown.1
      obtain ⟨y0, q0⟩ : ∃ y, wr.cell? ⟨g, i * 2, none⟩ = some y := MI2.some_at hown _ (by omega)
      obtain ⟨y1, q1⟩ : ∃ y, wr.cell? ⟨g, i * 2 + 1, none⟩ = some y := MI2.some_at hown _ (by omega)
      have z0 := hown.frozenAt (i * 2)
      have z1 := hown.frozenAt (i * 2 + 1)
      have s0 := World.ownsRow.stored hown (i * 2) (.int .i64 (k + 2 * i))
      have s1 := s0.1.stored (i * 2 + 1) (.int .i64 (k + 2 * i + 1))
      have R1 := s1.1
      have R2 := ((hO.setCell (i * 2) (.int .i64 (k + 2 * i))).setCell (i * 2 + 1) (.int .i64 (k + 2 * i + 1)))
      clear s0 s1 hown hO hlen
      go_wp2
      go_roundw
      case rel => exact ⟨i + 1, by go_num, by go_num, by omega, ⟨_, R1⟩, R2⟩
      case measure => simp [intOf]; omega
    · obtain rfl : i = n := by omega
      clear hown
      go_wp2
      go_ret
      exact ⟨rfl, hO⟩
end Go.Proofs.Ytdobnplcacaomaa

/- The law FnExactWaysApart answers true, whatever the arguments, by contracts of the two functions. -/
namespace Go.Proofs.Ytdobnplcacaomaa
open Go.RowKit
set_option linter.unusedSimpArgs false in
set_option maxHeartbeats 3200000 in
set_option maxRecDepth 100000 in
theorem lawWaysApart_any (a0 : Option Addr) (cap0 : Nat) (xs0 : List I2) (n1 : Int) (n2 : Int) (L : List (List Int)) (hL : L.length ≤ 1048576) (hT : NR.tot L ≤ 1048576) (r1 : Bool)
    (SG0 : xs0.length ≤ 1048576 → ∀ (g0 : Nat) (W : World), MI2.RowAt W (some ⟨g0, 0, none⟩) xs0 → Calls Try.prog 26 #[.slice (some ⟨g0, 0, none⟩) xs0.length xs0.length, .int .i64 n1, .int .i64 n2] W fun e w' => ∃ a1 c1, e = .returned (.tuple #[.slice a1 L.length c1, .bool r1]) ∧ NR.RowsAt w' a1 L ∧ Below W.heap.size W w')
    (IG0 : xs0.length ≤ 1048576 → ∀ (g0 : Nat) (W : World), MI2.RowAt W (some ⟨g0, 0, none⟩) xs0 → Calls Try.prog 27 #[.slice (some ⟨g0, 0, none⟩) xs0.length xs0.length, .int .i64 n1, .int .i64 n2] W fun e w' => ∃ a1 c1 AA CC, e = .returned (.tuple #[.slice a1 L.length c1, .bool r1]) ∧ NR.Own 24 w' W.heap.size (.slice a1 L.length c1) L AA CC ∧ Below W.heap.size W w')
    (w : World) (hl0 : xs0.length ≤ maxLen) (hi0 : MI2.RowAt w a0 xs0) :
    Calls Try.prog 6 #[.slice a0 xs0.length cap0, .int .i64 n1, .int .i64 n2] w fun e w' => e = .returned (.bool true) ∧ Below w.heap.size w w' := by
  have H0 : Hid (MI2.RowAt w a0 xs0) := hi0
  clear hi0
  have SG1 : Hid _ := SG0
  have IG1 : Hid _ := IG0
  clear SG0 IG0
  have SZ0 : Hid _ := fun (left : Int) (h0 : 0 ≤ left) (h1 : left ≤ 1048576) W => szLinkS_any a0 cap0 xs0.length W left h0 h1 hl0
  clear hl0
  go_enter Try.func6, Try.ntmps6
  go_wp2_with fail
  refine (SZ0.out 1048576 (by omega) (by omega) _).mono ?_
  rintro e w1 ⟨l0, rfl, hr0, rfl⟩
  clear SZ0
  by_cases h0 : l0 < 0
  · clear hr0
    go_wp2
    go_ret
    exact ⟨rfl, Below.refl _ _⟩
  · have hz0 : xs0.length ≤ 1048576 := by omega
    have hl00 : 0 ≤ l0 := by omega
    have hl01 : l0 ≤ 1048576 := by omega
    clear hr0
    have SG : Hid _ := SG1.out hz0
    have IG : Hid _ := IG1.out hz0
    clear SG1 IG1
    have TP0 : Hid _ := fun W h => toLinkS_any a0 cap0 xs0 W hz0 h
    have EQ0 : Hid _ := fun g g2 W h1 h2 => eqLinkS_any (some ⟨g, 0, none⟩) (some ⟨g2, 0, none⟩) xs0.length xs0.length xs0 xs0 W hz0 hz0 h1 h2
    have B : Below w.heap.size w w := Below.refl _ _
    go_wp2_with fail
    refine (TP0.out _ (MI2.RowAt.below H0.out B)).mono ?_
    rintro e w2 ⟨g0s, rfl, ho, hb⟩
    replace B := B.trans (hb.mono B.size)
    clear hb
    have X0s : Hid (MI2.RowAt w2 (some ⟨g0s, 0, none⟩) xs0) := MI2.RowAt.of_own ho
    clear ho
    go_wp2_with fail
    refine (SG.out g0s _ X0s.out).mono ?_
    rintro e w3 ⟨az, cz, rfl, owns, hb⟩
    replace B := B.trans (hb.mono B.size)
    clear hb
    clear X0s SG
    have IN0 : Hid (NR.RowsAt w3 az L) := owns
    clear owns
    have C : Below w3.heap.size w3 w3 := Below.refl _ _
    have BS : w.heap.size ≤ w3.heap.size := B.size
    go_wp2_with fail
    refine (TP0.out _ (MI2.RowAt.below H0.out B)).mono ?_
    rintro e w4 ⟨g0x, rfl, ho, hb⟩
    have hG0 : w3.heap.size ≤ g0x ∧ g0x < w4.heap.size := ho.lt g0x rfl
    replace B := B.trans (hb.mono B.size)
    replace C := C.trans (hb.mono C.size)
    clear hb
    have X0x : Hid (World.ownsRow w4 w3.heap.size 68 2 (.slice (some ⟨g0x, 0, none⟩) xs0.length xs0.length) xs0.length (MI2.flat xs0)) := ho
    clear ho
    go_wp2_with fail
    refine (IG.out g0x _ (MI2.RowAt.of_own X0x.out)).mono ?_
    rintro e w5 ⟨ai, ci, AA, CC, rfl, owni, hb⟩
    have SC : w3.heap.size ≤ w4.heap.size := C.size
    have SW : w4.heap.size ≤ w5.heap.size := hb.size
    replace B := B.trans (hb.mono B.size)
    replace C := C.trans (hb.mono C.size)
    replace X0x : Hid (World.ownsRow w5 w3.heap.size 68 2 (.slice (some ⟨g0x, 0, none⟩) xs0.length xs0.length) xs0.length (MI2.flat xs0)) := M5.own_below X0x.out hb
    clear hb
    have OG : Hid (NR.Own 24 w5 w4.heap.size (.slice ai L.length ci) L AA CC) := owni
    clear owni
    go_wp2_with fail
    refine (eqIntSS_any _ _ _ _ L L _ hL hL hT hT (NR.Own.rows OG.out) (NR.RowsAt.below IN0.out C)).mono ?_
    rintro e w6 ⟨rfl, hb⟩
    replace SW : w4.heap.size ≤ w6.heap.size := Nat.le_trans SW hb.size
    replace B := B.trans (hb.mono B.size)
    replace C := C.trans (hb.mono C.size)
    replace X0x : Hid (World.ownsRow w6 w3.heap.size 68 2 (.slice (some ⟨g0x, 0, none⟩) xs0.length xs0.length) xs0.length (MI2.flat xs0)) := M5.own_below X0x.out hb
    replace OG : Hid (NR.Own 24 w6 w4.heap.size (.slice ai L.length ci) L AA CC) := NR.Own.below OG.out hb
    clear hb
    go_wp2_with fail
    refine (TP0.out _ (MI2.RowAt.below H0.out B)).mono ?_
    rintro e w7 ⟨gq0, rfl, ho, hb⟩
    replace SW : w4.heap.size ≤ w7.heap.size := Nat.le_trans SW hb.size
    replace B := B.trans (hb.mono B.size)
    replace C := C.trans (hb.mono C.size)
    replace X0x : Hid (World.ownsRow w7 w3.heap.size 68 2 (.slice (some ⟨g0x, 0, none⟩) xs0.length xs0.length) xs0.length (MI2.flat xs0)) := M5.own_below X0x.out hb
    replace OG : Hid (NR.Own 24 w7 w4.heap.size (.slice ai L.length ci) L AA CC) := NR.Own.below OG.out hb
    clear hb
    have XQ : Hid (MI2.RowAt w7 (some ⟨gq0, 0, none⟩) xs0) := MI2.RowAt.of_own ho
    clear ho
    go_wp2_with fail
    refine (EQ0.out g0x gq0 _ (MI2.RowAt.of_own X0x.out) XQ.out).mono ?_
    rintro e w8 ⟨rfl, hb⟩
    replace SW : w4.heap.size ≤ w8.heap.size := Nat.le_trans SW hb.size
    replace B := B.trans (hb.mono B.size)
    replace C := C.trans (hb.mono C.size)
    replace X0x : Hid (World.ownsRow w8 w3.heap.size 68 2 (.slice (some ⟨g0x, 0, none⟩) xs0.length xs0.length) xs0.length (MI2.flat xs0)) := M5.own_below X0x.out hb
    replace OG : Hid (NR.Own 24 w8 w4.heap.size (.slice ai L.length ci) L AA CC) := NR.Own.below OG.out hb
    clear hb
    clear XQ
    go_wp2_with fail
    refine (markLinkS_only _ g0x xs0.length 1 _ hz0 (by omega) (by omega) ⟨_, X0x.out⟩).mono ?_
    rintro e w9 ⟨rfl, hO⟩
    replace SW : w4.heap.size ≤ w9.heap.size := Nat.le_trans SW hO.size
    replace B := B.trans (hO.below (by omega) B.size)
    replace C := C.trans (hO.below (by omega) C.size)
    replace OG : Hid (NR.Own 24 w9 w4.heap.size (.slice ai L.length ci) L AA CC) := NR.Own.only OG.out hO (by omega)
    clear hO X0x
    go_wp2_with fail
    refine (eqIntSS_any _ _ _ _ L L _ hL hL hT hT (NR.Own.rows OG.out) (NR.RowsAt.below IN0.out C)).mono ?_
    rintro e w10 ⟨rfl, hb⟩
    replace SW : w4.heap.size ≤ w10.heap.size := Nat.le_trans SW hb.size
    replace B := B.trans (hb.mono B.size)
    replace C := C.trans (hb.mono C.size)
    replace OG : Hid (NR.Own 24 w10 w4.heap.size (.slice ai L.length ci) L AA CC) := NR.Own.below OG.out hb
    clear hb
    go_wp2_with fail
    refine (markIntSS_any w4.heap.size _ _ L AA CC 1 _ hL hT (by omega) (by omega) SW OG.out).mono ?_
    rintro e w11 ⟨rfl, ownm, hbm⟩
    replace B := B.trans (hbm.mono (by omega))
    replace C := C.trans (hbm.mono SC)
    have INM : Hid (NR.RowsAt w11 ai (NR.mkUp 1 L L.length)) := NR.Own.rows ownm
    clear OG ownm hbm SW
    go_wp2_with fail
    refine (heldIntSS_any _ _ L 1 _ hL hT (by omega) (by omega) INM.out).mono ?_
    rintro e w' ⟨rfl, rfl⟩
    go_wp2_with fail
    refine (TP0.out _ (MI2.RowAt.below H0.out B)).mono ?_
    rintro e w12 ⟨g0y, rfl, ho, hb⟩
    replace B := B.trans (hb.mono B.size)
    replace C := C.trans (hb.mono C.size)
    replace INM : Hid (NR.RowsAt w12 ai (NR.mkUp 1 L L.length)) := NR.RowsAt.below INM.out hb
    clear hb
    have X0y : Hid (MI2.RowAt w12 (some ⟨g0y, 0, none⟩) xs0) := MI2.RowAt.of_own ho
    clear ho
    go_wp2_with fail
    refine (IG.out g0y _ X0y.out).mono ?_
    rintro e w13 ⟨ay, cy, AY, CY, rfl, owny, hb⟩
    replace B := B.trans (hb.mono B.size)
    replace C := C.trans (hb.mono C.size)
    replace INM : Hid (NR.RowsAt w13 ai (NR.mkUp 1 L L.length)) := NR.RowsAt.below INM.out hb
    clear hb
    clear X0y IG
    have INY : Hid (NR.RowsAt w13 ay L) := NR.Own.rows owny
    clear owny
    go_wp2_with fail
    refine (eqIntSS_any _ _ _ _ L L _ hL hL hT hT (INY.out) (NR.RowsAt.below IN0.out C)).mono ?_
    rintro e w14 ⟨rfl, hb⟩
    replace B := B.trans (hb.mono B.size)
    replace C := C.trans (hb.mono C.size)
    replace INM : Hid (NR.RowsAt w14 ai (NR.mkUp 1 L L.length)) := NR.RowsAt.below INM.out hb
    replace INY : Hid (NR.RowsAt w14 ay L) := NR.RowsAt.below INY.out hb
    clear hb
    go_wp2_with fail
    refine (heldIntSS_any _ _ L 1 _ hL hT (by omega) (by omega) INM.out).mono ?_
    rintro e w' ⟨rfl, rfl⟩
    clear H0 TP0 EQ0
    go_wp2
    go_ret
    exact ⟨rfl, B⟩
end Go.Proofs.Ytdobnplcacaomaa
