import Derived.Test.YtndaapidfiocoaaRows
import Derived.Test.YtndaapidfiocoaaM4
import Derived.WalkKit
import Derived.WalkSpells
import Derived.WalkLawsBesides
import Derived.Outline
import Derived.Deep.QuietTactic
import Derived.BigQuiet
import Derived.Test.YtndaapidfiocoaaCFlow
import Derived.Test.YtndaapidfiocoaaCMaxI
import Derived.Test.YtndaapidfiocoaaMI3
import Derived.Test.YtndaapidfiocoaaMCur
import Derived.Test.YtndaapidfiocoaaCAmong
import Derived.Test.YtndaapidfiocoaaM5
import Derived.Test.YtndaapidfiocoaaMInfo
import Derived.Test.YtndaapidfiocoaaCFlowD
import Derived.Test.YtndaapidfiocoaaMFA
import Derived.Test.YtndaapidfiocoaaCOnceS
import Derived.Test.YtndaapidfiocoaaCCutSize
/- The laws' sameInts tells whether two slices hold the same numbers. -/
namespace Go.Proofs.Ytndaapidfiocoaa
open Go.RowKit
set_option maxHeartbeats 800000 in
set_option maxRecDepth 100000 in
theorem sameInts_any (a b : Option Addr) (ca cb : Nat) (xs ys : List Int) (w : World) (hx : xs.length ≤ 140737488355328) (hy : ys.length ≤ 140737488355328) (hax : M4.IntsAt w a xs) (hay : M4.IntsAt w b ys) :
    Calls Try.prog 10 #[.slice a xs.length ca, .slice b ys.length cb] w fun e w' => e = .returned (.bool (decide (xs = ys))) ∧ Below w.heap.size w w' := by
  by_cases hl : xs.length = ys.length
  · have hne : ((xs.length : Int) != (ys.length : Int)) = false := by simp [hl]
    have l1 : xs.length ≤ ys.length := by omega
    have HL : Hid (xs.length = ys.length) := hl
    clear hl
    go_enter Try.func10, Try.ntmps10
    go_wp2
    go_loopw [5, 13] (fun _ iv wr => ∃ k : Nat, iv = .int .i64 k ∧ k ≤ xs.length ∧ Hid (xs.take k = ys.take k) ∧ Below w.heap.size w wr) (fun _ iv _ => (xs.length - intOf iv).toNat)
    case atStart => exact ⟨0, rfl, by omega, rfl, Below.refl _ _⟩
    case round =>
      obtain ⟨k, rfl, hk, hT, hb⟩ := hrel
      by_cases hl : k < xs.length
      · have hly : k < ys.length := by omega
        obtain ⟨b1, off1, rfl, hlt1, hc1⟩ := (hax.below hb).at hl
        obtain ⟨b2, off2, rfl, hlt2, hc2⟩ := (hay.below hb).at hly
        clear hax hay
        obtain ⟨x, hx'⟩ : ∃ x, x = xs.getD k 0 := ⟨_, rfl⟩
        obtain ⟨y, hy'⟩ : ∃ y, y = ys.getD k 0 := ⟨_, rfl⟩
        rw [← hx'] at hc1
        rw [← hy'] at hc2
        have HX : Hid (x = xs.getD k 0) := hx'
        have HY : Hid (y = ys.getD k 0) := hy'
        clear hx' hy'
        by_cases hxy : x = y
        · have hT' : Hid (xs.take (k + 1) = ys.take (k + 1)) := by
            show _ = _
            rw [M4.take_snoc xs k hl, M4.take_snoc ys k hly, hT.out, ← HX.out, ← HY.out, hxy]
          subst hxy
          go_wp2
          go_quiet (fail)
          go_wp2
          go_roundw
          case rel => exact ⟨k + 1, by go_num, by omega, hT', below_drewN hb _⟩
          case measure => simp [intOf]; omega
        · have hbe : (x != y) = true := by simp [hxy]
          have hF : Hid (decide (xs = ys) = false) := by
            show _ = _
            simp only [decide_eq_false_iff_not]
            exact M4.take_ne xs ys k (by rw [← HX.out, ← HY.out]; exact hxy)
          clear hxy
          go_wp2
          go_quiet (fail)
          go_wp2
          go_ret
          exact ⟨M4.ret_bool hF.out.symm, below_drewN hb _⟩
      · obtain rfl : k = xs.length := by omega
        have hF : Hid (decide (xs = ys) = true) := by
          show _ = _
          simp only [decide_eq_true_eq]
          exact M4.take_eq xs ys HL.out hT.out
        go_wp2
        go_ret
        exact ⟨M4.ret_bool hF.out.symm, hb⟩
  · have hne : ((xs.length : Int) != (ys.length : Int)) = true := by simp; omega
    have hF : Hid (decide (xs = ys) = false) := by
      show _ = _
      simp only [decide_eq_false_iff_not]
      exact fun e => hl (by rw [e])
    clear hl
    go_enter Try.func10, Try.ntmps10
    go_wp2
    go_ret
    exact ⟨M4.ret_bool hF.out.symm, Below.refl _ _⟩
end Go.Proofs.Ytndaapidfiocoaa

/- AugmentOnce of the program. -/
namespace Go.Proofs.Ytndaapidfiocoaa
open Go.RowKit
set_option linter.unusedSimpArgs false in
set_option maxHeartbeats 800000 in
set_option maxRecDepth 100000 in
theorem cloneI_any (g n c : Nat) (l : List Int) (w : World) (hl : l.length = n) (hn : n ≤ 1048576) (hr : M4.IntsAt w (some ⟨g, 0, none⟩) l) :
    Calls Try.prog 40 #[.slice (some ⟨g, 0, none⟩) n c] w fun e w' => ∃ a cap, e = .returned (.slice a n cap) ∧ w'.ownsRow w.heap.size 3 1 (.slice a n cap) n (M4.iv l) ∧ Below w.heap.size w w' := by
  obtain ⟨i0, hi, hz0, hz1, hz2⟩ := info_parts Try.info3
  have own00 : (w.alloc (.cells #[] 3)).ownsRow w.heap.size 3 1 (.slice (some ⟨w.heap.size, 0, none⟩) 0 0) 0 [] := by
    have := World.ownsRow_lit (base := w.heap.size) (e := 3) (size := 1) w #[] 0 (by simp) (by unfold maxLen; omega) (by simp)
    simpa using this
  have own0 : Hid ((w.alloc (.cells #[] 3)).ownsRow w.heap.size 3 1 (.slice (some ⟨w.heap.size, 0, none⟩) 0 0) 0 []) := own00
  clear own00
  have HN : Hid (∀ (j : Nat) (u : Value), (M4.iv l)[j]? = some u → (w.alloc (.cells #[] 3)).cell? ((⟨g, 0, none⟩ : Addr).add j) = some u) := fun j u hu => by
    have hjl : j < l.length := by have := (List.getElem?_eq_some_iff.1 hu).1; simpa [M4.iv] using this
    obtain ⟨b6, off6, hb6, hlt6, hc6⟩ := M4.IntsAt.at (M4.IntsAt.below hr ((Below.refl _ w).alloc (Nat.le_refl _) (.cells #[] 3))) (k := j) hjl
    simp only [Option.some.injEq, Addr.mk.injEq] at hb6
    obtain ⟨rfl, rfl, -⟩ := hb6
    rw [Addr.add_lit, Nat.zero_add] at *
    rw [hc6]
    rw [M4.iv_get _ _ _ (FL.get_of l hjl)] at hu; exact hu
  have HL : Hid ((M4.iv l).length = n * 1) := by show _ = _; simp [M4.iv, hl]
  clear hr
  have hE : ∀ W : World, (binOp .eql 26 (.slice (some ⟨g, 0, none⟩) n c) (.slice none 0 0)).run Try.prog W = .ok (.bool false) W := fun W => by simpa using Lib.run_eql_slice_nil (P := Try.prog) W 26 3 (some ⟨g, 0, none⟩) n c 0 0 Try.underlying26
  have ONE : Hid (∀ u ∈ M4.iv l, u.oneCell' = true) := fun u hu => by simp only [M4.iv, List.mem_map] at hu; obtain ⟨z, _, rfl⟩ := hu; rfl
  go_enter Try.func40, Try.ntmps40
  go_wp2_with (at_builtin; refine wpList_append_own _ rfl _ _ 26 rfl w.heap.size 3 i0 (.int .i64 0) 1 8 Try.underlying26 hi hz0 hz1 hz2 rfl (by decide) _ _ _ rfl own0.out ⟨g, 0, none⟩ n c (M4.iv l) rfl HL.out HN.out ONE.out ?c3 ?c4 ?c5 ?_)
  case c3 => unfold maxLen; omega
  case c4 => omega
  case c5 => simp
  intro v' w1 hown1 hgrow _
  have hB : Below w.heap.size w w1 := ((Below.refl _ w).alloc (Nat.le_refl _) _).grown hgrow (by simp) (fun j hj => (own0.out.lt j hj).1)
  replace hown1 : w1.ownsRow w.heap.size 3 1 v' n (M4.iv l) := by simpa using hown1
  obtain ⟨a, cap, rfl⟩ : ∃ a cap, v' = .slice a n cap := by
    rcases hown1.2 with ⟨rfl, h0⟩ | ⟨g', cap, cur, rfl, _⟩
    · exact ⟨none, 0, by rw [h0]⟩
    · exact ⟨_, cap, rfl⟩
  have HO : Hid (w1.ownsRow w.heap.size 3 1 (.slice a n cap) n (M4.iv l)) := hown1
  clear hown1 hgrow own0 HN HL ONE
  go_wp2
  go_ret
  exact ⟨a, cap, rfl, HO.out, hB⟩
namespace FL
theorem pb_le {w : World} {base e sz n cap : Nat} {a : Option Addr} {xs : List Value} (h : w.ownsRow base e sz (.slice a n cap) n xs) (hb : base ≤ w.heap.size) : base ≤ pb a w.heap.size := by
  rcases h.2 with ⟨h', _⟩ | ⟨g, c, cur, h1, h2, _⟩
  · cases h'; exact hb
  · cases h1; exact h2
theorem own_again {w w' : World} {base e sz n cap : Nat} {a : Option Addr} {xs ys : List Value} (h : w.ownsRow base e sz (.slice a n cap) n xs) (h' : w'.ownsRow 0 e sz (.slice a n cap) n ys) : w'.ownsRow base e sz (.slice a n cap) n ys := by
  rcases h'.2 with ⟨h1, h2⟩ | ⟨g, c, cur, h1, h2, h3⟩
  · exact ⟨h'.1, .inl ⟨h1, h2⟩⟩
  · cases h1
    rcases h.2 with ⟨h5, _⟩ | ⟨g', c', cur', h5, h6, _⟩
    · cases h5
    · cases h5; exact ⟨h'.1, .inr ⟨g, cap, cur, rfl, h6, h3⟩⟩
theorem ans_of {xs : List I3} {f t : Int} {fs : List Int} (A : Ask xs f t) (hfit : fitUp xs fs xs.length) : 0 ≤ augN xs fs f t ∧ (augN xs fs f t = 0 → ansL xs fs f t = []) ∧ (augN xs fs f t ≠ 0 → ansL xs fs f t = augL xs fs f t) := by
  rcases aug_zero (t := t) A hfit with ⟨_, e, e2⟩ | ⟨_, p, _, e2⟩
  · exact ⟨by omega, fun _ => e2, fun h => absurd e h⟩
  · exact ⟨by omega, fun h => by omega, fun _ => e2⟩
end FL
set_option linter.unusedSimpArgs false in
set_option maxHeartbeats 1600000 in
set_option maxRecDepth 100000 in
theorem implAugmentG_any (a b : Option Addr) (ca cb : Nat) (xs : List I3) (fs : List Int) (f t : Int) (w : World) (hn : xs.length ≤ 1048576) (hm : fs.length ≤ 1048576) (hin : MI3.RowAt w a xs) (hos : M4.IntsAt w b fs) (hCL : ∀ W : World, M4.IntsAt W b fs → Calls Try.prog 40 #[.slice b fs.length cb] W fun e w' => ∃ a cap, e = .returned (.slice a fs.length cap) ∧ w'.ownsRow W.heap.size 3 1 (.slice a fs.length cap) fs.length (M4.iv fs) ∧ Below W.heap.size W w') :
    Calls Try.prog 15 #[.slice a xs.length ca, .int .i64 f, .int .i64 t, .slice b fs.length cb] w fun e w' => ∃ a1 c1, e = .returned (.tuple #[.slice a1 (FL.agL xs f t fs).length c1, .int .i64 (FL.agN xs f t fs), .bool (FL.agB xs f t fs)]) ∧ w'.ownsRow w.heap.size 3 1 (.slice a1 (FL.agL xs f t fs).length c1) (FL.agL xs f t fs).length (M4.iv (FL.agL xs f t fs)) ∧ Below w.heap.size w w' := by
  have AC : Hid _ := FL.agC xs f t fs
  have IS : Hid _ := implIsFlow_any a b ca cb xs fs f t w hn hm hin hos
  have HI : Hid (MI3.RowAt w a xs) := hin
  have HO : Hid (M4.IntsAt w b fs) := hos
  have CLN : Hid (∀ W : World, M4.IntsAt W b fs → Calls Try.prog 40 #[.slice b fs.length cb] W fun e w' => ∃ a cap, e = .returned (.slice a fs.length cap) ∧ w'.ownsRow W.heap.size 3 1 (.slice a fs.length cap) fs.length (M4.iv fs) ∧ Below W.heap.size W w') := hCL
  have AU : Hid (FL.isR xs f t fs = true → fs.length = xs.length ∧ (0 ≤ FL.augN xs fs f t ∧ (FL.augN xs fs f t = 0 → FL.ansL xs fs f t = []) ∧ (FL.augN xs fs f t ≠ 0 → FL.ansL xs fs f t = FL.augL xs fs f t)) ∧ ∀ (W : World) (fa : Option Addr) (fc : Nat), MI3.RowAt W a xs → W.ownsRow 0 3 1 (.slice fa xs.length fc) xs.length (M4.iv fs) → Calls Try.prog 41 #[.slice a xs.length ca, .int .i64 f, .int .i64 t, .slice fa xs.length fc] W fun e w' => e = .returned (.int .i64 (FL.augN xs fs f t)) ∧ w'.ownsRow 0 3 1 (.slice fa xs.length fc) xs.length (M4.iv (FL.augL xs fs f t)) ∧ MC.Only (FL.pb fa W.heap.size) W w') := fun h => by
    obtain ⟨A, hl, hf⟩ := FL.isR_ask h
    exact ⟨hl, FL.ans_of A hf, fun W fa fc h1 h2 => augment_any a fa ca fc xs fs f t W A hf h1 h2⟩
  have OK : Hid (FL.isR xs f t fs = true → FL.askF xs f t fs = true) := fun h => FL.isR_ok h
  generalize FL.agL xs f t fs = L at *
  generalize FL.agN xs f t fs = N at *
  generalize FL.agB xs f t fs = B at *
  generalize FL.augN xs fs f t = n at *
  generalize FL.ansL xs fs f t = l at *
  generalize FL.augL xs fs f t = ll at *
  generalize FL.isR xs f t fs = is at *
  generalize FL.askF xs f t fs = ok at *
  clear hin hos
  go_enter Try.func15, Try.ntmps15
  go_wp2_with fail
  refine Calls.mono IS.out ?_
  rintro e w0 ⟨rfl, hb0⟩
  clear IS
  cases is with
  | false =>
    obtain ⟨h1, h2, h3⟩ := AC.out.no rfl
    clear AC AU OK HI HO CLN
    subst h1 h2 h3
    go_wp2
    go_ret3
    exact ⟨none, 0, rfl, World.ownsRow_nil _ _ _ _, hb0⟩
  | true =>
    obtain ⟨h1, h2, h3⟩ := AC.out.yes rfl
    obtain ⟨hfl, ⟨n0, nz, nnz⟩, AU2⟩ := AU.out rfl
    have CL2 : Hid _ := CLN.out w0 (M4.IntsAt.below HO.out hb0)
    obtain rfl : ok = true := OK.out rfl
    have AU3 : Hid _ := AU2
    have NZ : Hid _ := nz
    have NNZ : Hid _ := nnz
    rw [hfl] at CL2 ⊢
    clear AC AU OK AU2 CLN hfl nz nnz HO
    subst h1 h2 h3
    go_wp2_with fail
    refine Calls.mono CL2.out ?_
    rintro e w1 ⟨a1, c1, rfl, ho, hb1⟩
    have hB1 := hb0.trans (hb1.mono hb0.size)
    have HO1 : Hid (w1.ownsRow w.heap.size 3 1 (.slice a1 xs.length c1) xs.length (M4.iv fs)) := FL.own_base ho hb0.size
    have AU4 : Hid _ := AU3.out w1 a1 c1 (HI.out.below hB1) (FL.own_zero ho)
    clear CL2 AU3 HI ho hb1 hb0
    go_wp2_with fail
    refine Calls.mono AU4.out ?_
    rintro e w2 ⟨rfl, ho2, hon⟩
    have hB2 : Below w.heap.size w w2 := hB1.trans (hon.below (FL.pb_le HO1.out hB1.size) hB1.size)
    have HO2 : Hid (w2.ownsRow w.heap.size 3 1 (.slice a1 xs.length c1) xs.length (M4.iv ll)) := FL.own_again HO1.out ho2
    clear AU4 ho2 hon HO1
    by_cases hz : N = 0
    · have hE := NZ.out hz
      subst hE
      subst hz
      clear NZ NNZ HO2
      go_wp2
      go_ret3
      exact ⟨none, 0, rfl, World.ownsRow_nil _ _ _ _, hB2⟩
    · have hE := NNZ.out hz
      have hp : 0 < N := by omega
      have hd : Hid (decide (0 < N) = true) := decide_eq_true hp
      have hlen : Hid (L.length = xs.length) := by have := HO2.out.1; rw [← hE] at this; show _ = _; simpa [M4.iv] using this
      rw [← hE] at HO2
      clear NZ NNZ hE n0
      go_wp2
      go_ret3
      exact ⟨a1, c1, by rw [hlen.out, hd.out]; rfl, by rw [hlen.out]; exact HO2.out, hB2⟩
theorem implAugment_any (a : Option Addr) (g ca cb : Nat) (xs : List I3) (fs : List Int) (f t : Int) (w : World) (hn : xs.length ≤ 1048576) (hm : fs.length ≤ 1048576) (hin : MI3.RowAt w a xs) (hos : M4.IntsAt w (some ⟨g, 0, none⟩) fs) :
    Calls Try.prog 15 #[.slice a xs.length ca, .int .i64 f, .int .i64 t, .slice (some ⟨g, 0, none⟩) fs.length cb] w fun e w' => ∃ a1 c1, e = .returned (.tuple #[.slice a1 (FL.agL xs f t fs).length c1, .int .i64 (FL.agN xs f t fs), .bool (FL.agB xs f t fs)]) ∧ w'.ownsRow w.heap.size 3 1 (.slice a1 (FL.agL xs f t fs).length c1) (FL.agL xs f t fs).length (M4.iv (FL.agL xs f t fs)) ∧ Below w.heap.size w w' :=
  implAugmentG_any a (some ⟨g, 0, none⟩) ca cb xs fs f t w hn hm hin hos (fun W h => cloneI_any g fs.length cb fs W rfl hm h)
end Go.Proofs.Ytndaapidfiocoaa

/- Pipes that are drawn (laid by tools/gen_pipes.py). -/
namespace Go.Proofs.Ytndaapidfiocoaa
open Go.RowKit
theorem Try.infoPipeD : (Try.prog.info? 56).map (fun i => (i.zero, i.size, i.bytes)) = some (some (.agg #[.int .i64 0, .int .i64 0, .int .i64 0]), 3, 24) := by kernel_rfl
namespace PD8
theorem flat_to : ∀ (xs : List I3) (z : Int), 0 < xs.length → ∃ ys : List I3, ys.length = xs.length ∧ (MI3.flat xs).set 2 (.int .i64 z) = MI3.flat ys
  | x :: xs, z, _ => ⟨⟨x.a0, x.a1, z⟩ :: xs, rfl, by simp [MI3.flat, I3.cs]⟩
theorem own_row3 {w : World} {base e n : Nat} {v : Value} {xs : List I3} (h : w.ownsRow base e 3 v n (MI3.flat xs)) : ∃ a cap, v = .slice a n cap ∧ MI3.RowAt w a xs := by
  have hlen : xs.length = n := by have := h.1; rw [MI3.flat_len] at this; omega
  rcases h.2 with ⟨rfl, h0⟩ | ⟨g, cap, cur, rfl, hb, hg, hc1, hc2, hc3, hc4⟩
  · subst h0
    exact ⟨none, 0, rfl, ⟨.inl (List.eq_nil_of_length_eq_zero hlen)⟩⟩
  · exact ⟨_, cap, rfl, MI3.RowAt.of_own h⟩
theorem own_some {w : World} {base e sz n : Nat} {v : Value} {xs : List Value} (h : w.ownsRow base e sz v n xs) (hn : 0 < n) : ∃ g cap, v = .slice (some ⟨g, 0, none⟩) n cap := by
  rcases h.2 with ⟨-, h0⟩ | ⟨g, cap, cur, rfl, -⟩
  · omega
  · exact ⟨g, cap, rfl⟩
theorem new3 (W : World) (cs : List Value) (e : TypeId) (n : Nat) (hn : W.heap.size = n) : ∀ (j : Nat) (u : Value), cs[j]? = some u → (W.alloc (.cells cs.toArray e)).cell? ((⟨n, 0, none⟩ : Addr).add j) = some u := by
  intro j u h
  subst hn
  have hadd : (⟨W.heap.size, 0, none⟩ : Addr).add j = ⟨W.heap.size, j, none⟩ := by unfold Addr.add; split <;> simp_all
  rw [hadd, World.cell?_alloc_at _ _ _ _ (by rfl)]
  simpa using h
theorem one3 (x y z : Int) : ∀ u ∈ [Value.int .i64 x, .int .i64 y, .int .i64 z], u.oneCell' = true := by intro u hu; simp at hu; rcases hu with rfl | rfl | rfl <;> rfl
theorem flat_snoc (l : List I3) (x y z : Int) : MI3.flat l ++ [Value.int .i64 x, .int .i64 y, .int .i64 z] = MI3.flat (l ++ [⟨x, y, z⟩]) := by rw [MI3.flat_app]; rfl
end PD8
set_option linter.unusedSimpArgs false in
set_option maxHeartbeats 3200000 in
set_option maxRecDepth 100000 in
theorem pipes_any (p : Nat) (a : Option Addr) (zs : List Int) (cap M : Nat) (w : World) (hz : zs.length ≤ 140737488355328) (hM : M ≤ 140737488340000) (hc : MC.Cur w p a zs cap M) :
    Calls Try.prog 24 #[.pointer (some ⟨p, 0, none⟩)] w fun e w' => ∃ a1 c1 l, e = .returned (.slice a1 (List.length l) c1) ∧ l.length ≤ 21 ∧ w'.ownsRow w.heap.size 56 3 (.slice a1 l.length c1) l.length (MI3.flat l) ∧ MC.Cur w' p a zs cap (M + 140) ∧ MC.Only p w w' := by
  obtain ⟨i2, hi', hz0', hz1', hz2'⟩ := info_parts Try.infoPipeD
  have hplt := hc.lt
  go_enter Try.func24, Try.ntmps24
  go_wp2_with fail
  refine (pick_any p a zs cap M _ _ hz (by omega) hc).mono ?_
  rintro e w1 ⟨r, rfl, hr, _, hc1, ho1⟩
  have hr6 : r < 14 := by omega
  clear hr hc
  go_wp2_with fail
  refine (one_any p a zs cap (M + 2) _ _ hz (by omega) hc1).mono ?_
  rintro e w2 ⟨b, rfl, hc2, ho2⟩
  have hoA := ho1.trans ho2
  clear ho1 ho2 hc1
  cases b with
  | false =>
    go_wp2_with fail
    go_loopw [3, 4, 5] (fun lv nv kv wr => ∃ (m : Nat) (l : List I3) (M' : Nat), nv = .int .i64 m ∧ l.length + m ≤ 21 ∧ wr.ownsRow w.heap.size 56 3 lv l.length (MI3.flat l) ∧ MC.Cur wr p a zs cap M' ∧ M' + 6 * m ≤ M + 132 ∧ MC.Only p w wr) (fun _ nv _ _ => (intOf nv).toNat)
    case atStart => exact ⟨r, [], M + 4, rfl, by simp; omega, World.ownsRow_nil _ _ _ _, hc2, by omega, hoA⟩
    case round =>
      clear hc2 hoA
      obtain ⟨m, l, M', rfl, hm, hown, hcr, hMr, hor⟩ := hrel
      have hows := hor.size
      by_cases hm0 : 0 < m
      · have m0 : (0 : Int) < (m : Int) := by omega
        go_wp2_with fail
        refine (pick_any p a zs cap M' _ _ hz (by omega) hcr).mono ?_
        rintro e w3 ⟨r1, rfl, hr1, _, hc3, ho3⟩
        have hown3 := MC.own_only hown ho3 hplt
        have hor3 := hor.trans ho3
        have h15 : r1 < 5 := by omega
        clear hown ho3 hcr hr1 hor
        go_wp2_with fail
        refine (pick_any p a zs cap (M' + 2) _ _ hz (by omega) hc3).mono ?_
        rintro e w5 ⟨r2, rfl, hr2, _, hc5, ho5⟩
        have hown5 := MC.own_only hown3 ho5 hplt
        have hor5 := hor3.trans ho5
        have h25 : r2 < 5 := by omega
        clear hown3 ho5 hc3 hr2 hor3
        go_wp2_with fail
        refine (pick_any p a zs cap (M' + 4) _ _ hz (by omega) hc5).mono ?_
        rintro e w4 ⟨r3, rfl, hr3, _, hc4, ho4⟩
        have hownW := MC.own_only hown5 ho4 hplt
        have hor4 := hor5.trans ho4
        have hs4 := hor4.size
        have h35 : r3 < 9 := by omega
        clear hown5 ho4 hc5 hr3 hor5
        by_cases h12 : r1 = r2
        · subst h12
          go_wp2_with (at_builtin; refine wpList_append_own _ rfl _ _ 23 rfl w.heap.size 56 i2 (.agg #[.int .i64 0, .int .i64 0, .int .i64 0]) 3 24 Try.underlying23 hi' hz0' hz1' hz2' rfl (by decide) _ _ _ rfl ((hownW.alloc _).alloc _) ⟨w4.heap.size + 1, 0, none⟩ 1 1 [.int .i64 (r1 : Int), .int .i64 (((r1 : Int) + 1) % 5), .int .i64 (r3 : Int)] rfl rfl ?c1 ?c2 ?c3 ?c4 ?c5 ?_)
          case c1 => exact PD8.new3 _ _ _ _ (by simp)
          case c2 => exact PD8.one3 _ _ _
          case c3 => unfold maxLen; omega
          case c4 => omega
          case c5 => simp; omega
          intro v' wn hown1 hgrow _
          have R1 : wn.ownsRow w.heap.size 56 3 v' (l ++ [(⟨(r1 : Int), (((r1 : Int) + 1) % 5), (r3 : Int)⟩ : I3)]).length (MI3.flat (l ++ [⟨(r1 : Int), (((r1 : Int) + 1) % 5), (r3 : Int)⟩])) := by rw [← PD8.flat_snoc, List.length_append]; exact hown1
          have R2 := ((hc4.alloc _).alloc _).grown hgrow (fun j hj => by have := (hownW.lt j hj).1; omega)
          have R3 := ((hor4.alloc _).alloc _).grown hgrow (fun j hj => (hownW.lt j hj).1)
          have hl2 : (l ++ [(⟨(r1 : Int), (((r1 : Int) + 1) % 5), (r3 : Int)⟩ : I3)]).length = l.length + 1 := by simp
          clear hown1 hgrow hownW
          generalize l ++ [(⟨(r1 : Int), (((r1 : Int) + 1) % 5), (r3 : Int)⟩ : I3)] = l2 at *
          go_wp2
          go_roundw
          case rel => exact ⟨m - 1, l2, _, by go_num, by omega, R1, R2, by omega, R3⟩
          case measure => simp [intOf]; omega
        · have e12 : ((r1 : Int) == (r2 : Int)) = false := by simp; omega
          clear h12
          go_wp2_with (at_builtin; refine wpList_append_own _ rfl _ _ 23 rfl w.heap.size 56 i2 (.agg #[.int .i64 0, .int .i64 0, .int .i64 0]) 3 24 Try.underlying23 hi' hz0' hz1' hz2' rfl (by decide) _ _ _ rfl ((hownW.alloc _).alloc _) ⟨w4.heap.size + 1, 0, none⟩ 1 1 [.int .i64 (r1 : Int), .int .i64 (r2 : Int), .int .i64 (r3 : Int)] rfl rfl ?c1 ?c2 ?c3 ?c4 ?c5 ?_)
          case c1 => exact PD8.new3 _ _ _ _ (by simp)
          case c2 => exact PD8.one3 _ _ _
          case c3 => unfold maxLen; omega
          case c4 => omega
          case c5 => simp; omega
          intro v' wn hown1 hgrow _
          have R1 : wn.ownsRow w.heap.size 56 3 v' (l ++ [(⟨(r1 : Int), (r2 : Int), (r3 : Int)⟩ : I3)]).length (MI3.flat (l ++ [⟨(r1 : Int), (r2 : Int), (r3 : Int)⟩])) := by rw [← PD8.flat_snoc, List.length_append]; exact hown1
          have R2 := ((hc4.alloc _).alloc _).grown hgrow (fun j hj => by have := (hownW.lt j hj).1; omega)
          have R3 := ((hor4.alloc _).alloc _).grown hgrow (fun j hj => (hownW.lt j hj).1)
          have hl2 : (l ++ [(⟨(r1 : Int), (r2 : Int), (r3 : Int)⟩ : I3)]).length = l.length + 1 := by simp
          clear hown1 hgrow hownW
          generalize l ++ [(⟨(r1 : Int), (r2 : Int), (r3 : Int)⟩ : I3)] = l2 at *
          go_wp2
          go_roundw
          case rel => exact ⟨m - 1, l2, _, by go_num, by omega, R1, R2, by omega, R3⟩
          case measure => simp [intOf]; omega
      · obtain rfl : m = 0 := by omega
        by_cases h0 : l.length = 0
        · obtain ⟨av, lc, hv, -⟩ := PD8.own_row3 hown
          rw [hv] at hown ⊢
          rw [h0] at hown ⊢
          clear hv
          go_wp2
          go_ret
          exact ⟨av, lc, l, by rw [h0]; rfl, by omega, by rw [h0]; exact hown, hcr.more (by omega), hor⟩
        · have h0' : (0 : Int) < (l.length : Int) := by omega
          obtain ⟨g, lc, hv⟩ := PD8.own_some hown (by omega)
          rw [hv] at hown ⊢
          clear hv
          go_wp2_with fail
          refine (one_any p a zs cap M' _ _ hz (by omega) hcr).mono ?_
          rintro e w3 ⟨b, rfl, hc3, ho3⟩
          have hown3 := MC.own_only hown ho3 hplt
          have hor3 := hor.trans ho3
          have hs3 := hor3.size
          clear hown ho3 hcr hor
          cases b with
          | false =>
            go_wp2
            go_ret
            exact ⟨_, lc, l, rfl, by omega, hown3, hc3.more (by omega), hor3⟩
          | true =>
            have hgl := hown3.lt g rfl
            go_wp2_with fail
            refine (among_any p a zs cap (M' + 2) (some ⟨w3.heap.size, 0, none⟩) [-1, 100, 101] 3 _ hz (by omega) (hc3.alloc _) (by simp) (by simp) ?_ ?_).mono ?_
            · exact .inr ⟨w3.heap.size, 0, rfl, by simp, fun j hj => by
                rw [Nat.zero_add]
                have h3 : j < 3 := hj
                rcases (show j = 0 ∨ j = 1 ∨ j = 2 by omega) with rfl | rfl | rfl <;> exact World.cell?_alloc_at _ _ _ _ (by rfl)⟩
            · intro b off hb; cases hb; have := hc3.lt; omega
            rintro e w4 ⟨z, rfl, -, hc4, ho4⟩
            have hown4 := MC.own_only (hown3.alloc (.cells #[.int .i64 (-1), .int .i64 100, .int .i64 101] 3)) ho4 hplt
            have hor4 := (hor3.alloc (.cells #[.int .i64 (-1), .int .i64 100, .int .i64 101] 3)).trans ho4
            have hs4 := ho4.size
            obtain ⟨-, -, -, hx4⟩ := (MI3.RowAt.of_own hown4).at0 (j := 0) (by omega)
            generalize (MI3.at_ l 0).a2 = z4 at hx4
            simp only [Nat.zero_mul, Nat.zero_add] at hx4
            have hf4 := hown4.frozenAt 2
            obtain ⟨ys, hyl, hys⟩ := PD8.flat_to l z (by omega)
            have R1 := (hown4.stored 2 (.int .i64 z)).1
            have R0 := (hown4.stored 2 (.int .i64 z)).2
            have R2 := hc4.grown R0 (fun j hj => by cases hj; omega)
            have R3 := hor4.grown R0 (fun j hj => by cases hj; exact hgl.1)
            rw [hys, ← hyl] at R1
            have hy21 : ys.length ≤ 21 := by omega
            have hy0 : (0 : Int) < (ys.length : Int) := by omega
            rw [← hyl]
            clear hown4 hown3 hor4 hc4 R0 hc3 hor3 ho4 hys hyl h0 h0'
            go_wp2
            go_ret
            exact ⟨_, lc, ys, rfl, hy21, R1, R2.more (by omega), R3⟩
  | true =>
    go_wp2_with fail
    refine (pick_any p a zs cap (M + 4) _ _ hz (by omega) hc2).mono ?_
    rintro e w2' ⟨r2, rfl, hr2, _, hc2', ho2'⟩
    have hr22 : r2 < 2 := by omega
    have hoB := hoA.trans ho2'
    clear hr2 hc2 hoA ho2'
    go_wp2_with fail
    go_loopw [3, 4, 5] (fun lv nv kv wr => ∃ (m : Nat) (l : List I3) (M' : Nat), nv = .int .i64 m ∧ l.length + m ≤ 21 ∧ wr.ownsRow w.heap.size 56 3 lv l.length (MI3.flat l) ∧ MC.Cur wr p a zs cap M' ∧ M' + 6 * m ≤ M + 132 ∧ MC.Only p w wr) (fun _ nv _ _ => (intOf nv).toNat)
    case atStart => exact ⟨20 + r2, [], M + 6, by go_num, by simp; omega, World.ownsRow_nil _ _ _ _, hc2', by omega, hoB⟩
    case round =>
      clear hc2' hoB
      obtain ⟨m, l, M', rfl, hm, hown, hcr, hMr, hor⟩ := hrel
      have hows := hor.size
      by_cases hm0 : 0 < m
      · have m0 : (0 : Int) < (m : Int) := by omega
        go_wp2_with fail
        refine (pick_any p a zs cap M' _ _ hz (by omega) hcr).mono ?_
        rintro e w3 ⟨r1, rfl, hr1, _, hc3, ho3⟩
        have hown3 := MC.own_only hown ho3 hplt
        have hor3 := hor.trans ho3
        have h15 : r1 < 5 := by omega
        clear hown ho3 hcr hr1 hor
        go_wp2_with fail
        refine (pick_any p a zs cap (M' + 2) _ _ hz (by omega) hc3).mono ?_
        rintro e w5 ⟨r2, rfl, hr2, _, hc5, ho5⟩
        have hown5 := MC.own_only hown3 ho5 hplt
        have hor5 := hor3.trans ho5
        have h25 : r2 < 5 := by omega
        clear hown3 ho5 hc3 hr2 hor3
        go_wp2_with fail
        refine (pick_any p a zs cap (M' + 4) _ _ hz (by omega) hc5).mono ?_
        rintro e w4 ⟨r3, rfl, hr3, _, hc4, ho4⟩
        have hownW := MC.own_only hown5 ho4 hplt
        have hor4 := hor5.trans ho4
        have hs4 := hor4.size
        have h35 : r3 < 9 := by omega
        clear hown5 ho4 hc5 hr3 hor5
        by_cases h12 : r1 = r2
        · subst h12
          go_wp2_with (at_builtin; refine wpList_append_own _ rfl _ _ 23 rfl w.heap.size 56 i2 (.agg #[.int .i64 0, .int .i64 0, .int .i64 0]) 3 24 Try.underlying23 hi' hz0' hz1' hz2' rfl (by decide) _ _ _ rfl ((hownW.alloc _).alloc _) ⟨w4.heap.size + 1, 0, none⟩ 1 1 [.int .i64 (r1 : Int), .int .i64 (((r1 : Int) + 1) % 5), .int .i64 (r3 : Int)] rfl rfl ?c1 ?c2 ?c3 ?c4 ?c5 ?_)
          case c1 => exact PD8.new3 _ _ _ _ (by simp)
          case c2 => exact PD8.one3 _ _ _
          case c3 => unfold maxLen; omega
          case c4 => omega
          case c5 => simp; omega
          intro v' wn hown1 hgrow _
          have R1 : wn.ownsRow w.heap.size 56 3 v' (l ++ [(⟨(r1 : Int), (((r1 : Int) + 1) % 5), (r3 : Int)⟩ : I3)]).length (MI3.flat (l ++ [⟨(r1 : Int), (((r1 : Int) + 1) % 5), (r3 : Int)⟩])) := by rw [← PD8.flat_snoc, List.length_append]; exact hown1
          have R2 := ((hc4.alloc _).alloc _).grown hgrow (fun j hj => by have := (hownW.lt j hj).1; omega)
          have R3 := ((hor4.alloc _).alloc _).grown hgrow (fun j hj => (hownW.lt j hj).1)
          have hl2 : (l ++ [(⟨(r1 : Int), (((r1 : Int) + 1) % 5), (r3 : Int)⟩ : I3)]).length = l.length + 1 := by simp
          clear hown1 hgrow hownW
          generalize l ++ [(⟨(r1 : Int), (((r1 : Int) + 1) % 5), (r3 : Int)⟩ : I3)] = l2 at *
          go_wp2
          go_roundw
          case rel => exact ⟨m - 1, l2, _, by go_num, by omega, R1, R2, by omega, R3⟩
          case measure => simp [intOf]; omega
        · have e12 : ((r1 : Int) == (r2 : Int)) = false := by simp; omega
          clear h12
          go_wp2_with (at_builtin; refine wpList_append_own _ rfl _ _ 23 rfl w.heap.size 56 i2 (.agg #[.int .i64 0, .int .i64 0, .int .i64 0]) 3 24 Try.underlying23 hi' hz0' hz1' hz2' rfl (by decide) _ _ _ rfl ((hownW.alloc _).alloc _) ⟨w4.heap.size + 1, 0, none⟩ 1 1 [.int .i64 (r1 : Int), .int .i64 (r2 : Int), .int .i64 (r3 : Int)] rfl rfl ?c1 ?c2 ?c3 ?c4 ?c5 ?_)
          case c1 => exact PD8.new3 _ _ _ _ (by simp)
          case c2 => exact PD8.one3 _ _ _
          case c3 => unfold maxLen; omega
          case c4 => omega
          case c5 => simp; omega
          intro v' wn hown1 hgrow _
          have R1 : wn.ownsRow w.heap.size 56 3 v' (l ++ [(⟨(r1 : Int), (r2 : Int), (r3 : Int)⟩ : I3)]).length (MI3.flat (l ++ [⟨(r1 : Int), (r2 : Int), (r3 : Int)⟩])) := by rw [← PD8.flat_snoc, List.length_append]; exact hown1
          have R2 := ((hc4.alloc _).alloc _).grown hgrow (fun j hj => by have := (hownW.lt j hj).1; omega)
          have R3 := ((hor4.alloc _).alloc _).grown hgrow (fun j hj => (hownW.lt j hj).1)
          have hl2 : (l ++ [(⟨(r1 : Int), (r2 : Int), (r3 : Int)⟩ : I3)]).length = l.length + 1 := by simp
          clear hown1 hgrow hownW
          generalize l ++ [(⟨(r1 : Int), (r2 : Int), (r3 : Int)⟩ : I3)] = l2 at *
          go_wp2
          go_roundw
          case rel => exact ⟨m - 1, l2, _, by go_num, by omega, R1, R2, by omega, R3⟩
          case measure => simp [intOf]; omega
      · obtain rfl : m = 0 := by omega
        by_cases h0 : l.length = 0
        · obtain ⟨av, lc, hv, -⟩ := PD8.own_row3 hown
          rw [hv] at hown ⊢
          rw [h0] at hown ⊢
          clear hv
          go_wp2
          go_ret
          exact ⟨av, lc, l, by rw [h0]; rfl, by omega, by rw [h0]; exact hown, hcr.more (by omega), hor⟩
        · have h0' : (0 : Int) < (l.length : Int) := by omega
          obtain ⟨g, lc, hv⟩ := PD8.own_some hown (by omega)
          rw [hv] at hown ⊢
          clear hv
          go_wp2_with fail
          refine (one_any p a zs cap M' _ _ hz (by omega) hcr).mono ?_
          rintro e w3 ⟨b, rfl, hc3, ho3⟩
          have hown3 := MC.own_only hown ho3 hplt
          have hor3 := hor.trans ho3
          have hs3 := hor3.size
          clear hown ho3 hcr hor
          cases b with
          | false =>
            go_wp2
            go_ret
            exact ⟨_, lc, l, rfl, by omega, hown3, hc3.more (by omega), hor3⟩
          | true =>
            have hgl := hown3.lt g rfl
            go_wp2_with fail
            refine (among_any p a zs cap (M' + 2) (some ⟨w3.heap.size, 0, none⟩) [-1, 100, 101] 3 _ hz (by omega) (hc3.alloc _) (by simp) (by simp) ?_ ?_).mono ?_
            · exact .inr ⟨w3.heap.size, 0, rfl, by simp, fun j hj => by
                rw [Nat.zero_add]
                have h3 : j < 3 := hj
                rcases (show j = 0 ∨ j = 1 ∨ j = 2 by omega) with rfl | rfl | rfl <;> exact World.cell?_alloc_at _ _ _ _ (by rfl)⟩
            · intro b off hb; cases hb; have := hc3.lt; omega
            rintro e w4 ⟨z, rfl, -, hc4, ho4⟩
            have hown4 := MC.own_only (hown3.alloc (.cells #[.int .i64 (-1), .int .i64 100, .int .i64 101] 3)) ho4 hplt
            have hor4 := (hor3.alloc (.cells #[.int .i64 (-1), .int .i64 100, .int .i64 101] 3)).trans ho4
            have hs4 := ho4.size
            obtain ⟨-, -, -, hx4⟩ := (MI3.RowAt.of_own hown4).at0 (j := 0) (by omega)
            generalize (MI3.at_ l 0).a2 = z4 at hx4
            simp only [Nat.zero_mul, Nat.zero_add] at hx4
            have hf4 := hown4.frozenAt 2
            obtain ⟨ys, hyl, hys⟩ := PD8.flat_to l z (by omega)
            have R1 := (hown4.stored 2 (.int .i64 z)).1
            have R0 := (hown4.stored 2 (.int .i64 z)).2
            have R2 := hc4.grown R0 (fun j hj => by cases hj; omega)
            have R3 := hor4.grown R0 (fun j hj => by cases hj; exact hgl.1)
            rw [hys, ← hyl] at R1
            have hy21 : ys.length ≤ 21 := by omega
            have hy0 : (0 : Int) < (ys.length : Int) := by omega
            rw [← hyl]
            clear hown4 hown3 hor4 hc4 R0 hc3 hor3 ho4 hys hyl h0 h0'
            go_wp2
            go_ret
            exact ⟨_, lc, ys, rfl, hy21, R1, R2.more (by omega), R3⟩
end Go.Proofs.Ytndaapidfiocoaa

/- Some of a row's numbers, drawn. -/
namespace Go.Proofs.Ytndaapidfiocoaa
open Go.RowKit
set_option linter.unusedSimpArgs false in
set_option maxHeartbeats 1600000 in
set_option maxRecDepth 100000 in
theorem someOf_any (p : Nat) (a : Option Addr) (zs : List Int) (cap M n : Nat) (w : World) (hz : zs.length ≤ 140737488355328) (hM : M ≤ 140737488340000) (hn : n ≤ 1000) (hc : MC.Cur w p a zs cap M) :
    Calls Try.prog 46 #[.pointer (some ⟨p, 0, none⟩), .int .i64 (n : Int)] w fun e w' => ∃ a1 c1 l, e = .returned (.slice a1 (List.length l) c1) ∧ l.length ≤ n + 1 ∧ w'.ownsRow w.heap.size 3 1 (.slice a1 l.length c1) l.length (M4.iv l) ∧ MC.Cur w' p a zs cap (M + 2 * n + 2) ∧ MC.Only p w w' := by
  obtain ⟨i0, hi, hz0, hz1, hz2⟩ := info_parts Try.info3
  have hplt := hc.lt
  go_enter Try.func46, Try.ntmps46
  go_wp2
  go_loopw [5, 6] (fun v iv wr => ∃ (k : Nat) (l : List Int), iv = .int .i64 k ∧ k ≤ n ∧ l.length ≤ k ∧ wr.ownsRow w.heap.size 3 1 v l.length (M4.iv l) ∧ MC.Cur wr p a zs cap (M + 2 * k) ∧ MC.Only p w wr) (fun _ iv _ => (n - intOf iv).toNat)
  case atStart => exact ⟨0, [], rfl, by omega, by simp, World.ownsRow_nil _ _ _ _, hc, MC.Only.refl _ _⟩
  case round =>
    clear hc
    obtain ⟨k, l, rfl, hk, hl, hown, hcr, hon⟩ := hrel
    have hws := hon.size
    by_cases hkn : k < n
    · have kn : (k : Int) < (n : Int) := by omega
      go_wp2_with fail
      refine (one_any p a zs cap (M + 2 * k) _ _ hz (by omega) hcr).mono ?_
      rintro e w1 ⟨b, rfl, hc1, ho1⟩
      have hownW := MC.own_only hown ho1 hplt
      have hon1 := hon.trans ho1
      have hs1 := hon1.size
      clear ho1 hown hcr hon
      cases b with
      | false =>
        go_wp2
        go_roundw
        case rel => exact ⟨k + 1, l, by go_num, by omega, by omega, hownW, hc1, hon1⟩
        case measure => simp [intOf]; omega
      | true =>
        go_wp2_with (at_builtin; refine wpList_append_own _ rfl _ _ 26 rfl w.heap.size 3 i0 (.int .i64 0) 1 8 Try.underlying26 hi hz0 hz1 hz2 rfl (by decide) _ _ _ rfl (hownW.alloc _) ⟨w1.heap.size, 0, none⟩ 1 1 [.int .i64 (k : Int)] rfl rfl ?c1 ?c2 ?c3 ?c4 ?c5 ?_)
        case c1 => exact M2.new1 _ _ _
        case c2 => exact M2.one1 _ _
        case c3 => unfold maxLen; omega
        case c4 => omega
        case c5 => simp; omega
        intro v' wn hown1 hgrow _
        have R1 : wn.ownsRow w.heap.size 3 1 v' (l ++ [(k : Int)]).length (M4.iv (l ++ [(k : Int)])) := by simpa [M4.iv] using hown1
        have R2 := (hc1.alloc _).grown hgrow (fun j hj => by have := (hownW.lt j hj).1; omega)
        have R3 := (hon1.alloc _).grown hgrow (fun j hj => (hownW.lt j hj).1)
        have hl2 : (l ++ [(k : Int)]).length ≤ k + 1 := by simp; omega
        clear hown1 hgrow hownW
        generalize l ++ [(k : Int)] = l2 at *
        go_wp2
        go_roundw
        case rel => exact ⟨k + 1, l2, by go_num, by omega, by omega, R1, R2, R3⟩
        case measure => simp [intOf]; omega
    · obtain rfl : k = n := by omega
      go_wp2_with fail
      refine (one_any p a zs cap (M + 2 * k) _ _ hz (by omega) hcr).mono ?_
      rintro e w1 ⟨b, rfl, hc1, ho1⟩
      have hownW := MC.own_only hown ho1 hplt
      have hon1 := hon.trans ho1
      have hs1 := hon1.size
      clear ho1 hown hcr hon
      cases b with
      | false =>
        obtain ⟨av, lc, hv⟩ := M5.own_view hownW
        rw [hv.1] at hownW ⊢
        go_wp2
        go_ret
        exact ⟨av, lc, l, rfl, by omega, hownW, hc1, hon1⟩
      | true =>
        go_wp2_with (at_builtin; refine wpList_append_own _ rfl _ _ 26 rfl w.heap.size 3 i0 (.int .i64 0) 1 8 Try.underlying26 hi hz0 hz1 hz2 rfl (by decide) _ _ _ rfl (hownW.alloc _) ⟨w1.heap.size, 0, none⟩ 1 1 [.int .i64 (k : Int)] rfl rfl ?c1 ?c2 ?c3 ?c4 ?c5 ?_)
        case c1 => exact M2.new1 _ _ _
        case c2 => exact M2.one1 _ _
        case c3 => unfold maxLen; omega
        case c4 => omega
        case c5 => simp; omega
        intro v' wn hown1 hgrow _
        have R1 : wn.ownsRow w.heap.size 3 1 v' (l ++ [(k : Int)]).length (M4.iv (l ++ [(k : Int)])) := by simpa [M4.iv] using hown1
        have R2 := (hc1.alloc _).grown hgrow (fun j hj => by have := (hownW.lt j hj).1; omega)
        have R3 := (hon1.alloc _).grown hgrow (fun j hj => (hownW.lt j hj).1)
        have hl2 : (l ++ [(k : Int)]).length ≤ k + 1 := by simp; omega
        clear hown1 hgrow hownW
        generalize l ++ [(k : Int)] = l2 at *
        obtain ⟨av, lc, hv⟩ := M5.own_view R1
        rw [hv.1] at R1 ⊢
        go_wp2
        go_ret
        exact ⟨av, lc, l2, rfl, by omega, R1, R2, R3⟩
end Go.Proofs.Ytndaapidfiocoaa

/- A new cursor, over whatever program. -/
namespace Go.Proofs.Ytndaapidfiocoaa
open Go.RowKit
/-- A new cursor. -/
theorem cur_new {w : World} {T : TypeId} {a : Option Addr} {zs : List Int} {cap : Nat} (h : MC.BytesAt w w.heap.size a zs) : MC.Cur (w.alloc (.cells #[.slice a zs.length cap, .int .i64 0, .int .u64 0] T)) w.heap.size a zs cap 0 := by
  have hc : ∀ j, (w.alloc (.cells #[.slice a zs.length cap, .int .i64 0, .int .u64 0] T)).cell? ⟨w.heap.size, j, none⟩ = (#[.slice a zs.length cap, .int .i64 0, .int .u64 0] : Array Value)[j]? := fun j => World.cell?_alloc_at _ _ _ _ (by rfl)
  refine ⟨by simp, hc 0, ⟨0, hc 1, by omega⟩, ⟨0, hc 2, by omega⟩, World.frozen?_alloc_at _ _ _ _ (by rfl), World.frozen?_alloc_at _ _ _ _ (by rfl), ?_⟩
  exact h.only (q := w.heap.size) (MC.Only.of_below ((Below.refl _ _).alloc (Nat.le_refl _) _)) (Nat.le_refl _) (Nat.le_refl _)
theorem new_below {p : Nat} {w w' : World} {o : Obj} (hp : p = w.heap.size) (h : MC.Only p (w.alloc o) w') : Below w.heap.size w w' :=
  ((Below.refl _ _).alloc (Nat.le_refl _) o).trans (h.below (by omega) (by simp))
theorem MC.BytesAt.up {w : World} {p q : Nat} {a : Option Addr} {zs : List Int} (h : MC.BytesAt w p a zs) (hp : p ≤ q) : MC.BytesAt w q a zs := by
  refine ⟨h.1, ?_⟩
  rcases h.2 with rfl | ⟨b, off, rfl, hlt, hc⟩
  · exact .inl rfl
  · exact .inr ⟨b, off, rfl, by omega, hc⟩
end Go.Proofs.Ytndaapidfiocoaa

/- DrawIsFlow, DrawAugmentOnce, DrawCutSize: pipes with a flow, or with some nodes, drawn. -/
namespace Go.Proofs.Ytndaapidfiocoaa
open Go.RowKit
theorem results_tmp4F {fn : Func} {t u v x : Tmp} (h : fn.results = #[.tmp t, .tmp u, .tmp v, .tmp x]) (tmps : Array Value) (P : Program) (w : World) :
    (results fn tmps).run P w = .ok (.tuple #[tmps.getD t undef, tmps.getD u undef, tmps.getD v undef, tmps.getD x undef]) w := by
  simp [results, h]
theorem PD8.row_keeps {w w1 : World} {e : Nat} {a1 : Option Addr} {c1 : Nat} {xs : List I3} {o : Obj} (hX : w1.ownsRow (w.alloc o).heap.size e 3 (.slice a1 xs.length c1) xs.length (MI3.flat xs)) : ∀ W : World, MC.Only w.heap.size w1 W → MI3.RowAt W a1 xs := fun W h => by
  obtain ⟨a9, c9, e9, hR9⟩ := PD8.own_row3 (MC.own_only hX h (by simp))
  simp only [Value.slice.injEq] at e9
  obtain ⟨rfl, -, -⟩ := e9
  exact hR9
set_option linter.unusedSimpArgs false in
set_option maxHeartbeats 1600000 in
set_option maxRecDepth 100000 in
theorem drawIsFlow_any (a : Option Addr) (zs : List Int) (cap : Nat) (w : World) (hz : zs.length ≤ 140737488355328) (hb : MC.BytesAt w w.heap.size a zs) :
    Calls Try.prog 43 #[.slice a zs.length cap] w fun e w' => ∃ a1 c1 xs f t a2 c2 fs, e = .returned (.tuple #[.slice a1 (List.length xs) c1, .int .i64 f, .int .i64 t, .slice a2 (List.length fs) c2]) ∧ xs.length ≤ 21 ∧ fs.length ≤ 22 ∧ MI3.RowAt w' a1 xs ∧ w'.ownsRow w.heap.size 3 1 (.slice a2 fs.length c2) fs.length (M4.iv fs) ∧ Below w.heap.size w w' := by
  go_enter Try.func43, Try.ntmps43
  go_wp2_with fail
  refine (pipes_any w.heap.size a zs cap 0 _ hz (by omega) (cur_new hb)).mono ?_
  rintro e w1 ⟨a1, c1, xs, rfl, hxl, hX, hc1, ho1⟩
  have hplt := hc1.lt
  have HX : Hid (∀ W : World, MC.Only w.heap.size w1 W → MI3.RowAt W a1 xs) := PD8.row_keeps hX
  have hB1 := new_below rfl ho1
  clear hX ho1 hb
  go_wp2_with fail
  refine (pick_any w.heap.size a zs cap 140 _ _ hz (by omega) (hc1.more (by omega))).mono ?_
  rintro e w2 ⟨f, rfl, _, _, hc2, ho2⟩
  clear hc1
  go_wp2_with fail
  refine (pick_any w.heap.size a zs cap 142 _ _ hz (by omega) hc2).mono ?_
  rintro e w3 ⟨t, rfl, _, _, hc3, ho3⟩
  have ho13 := ho2.trans ho3
  have FD : Hid _ := flowD_any w.heap.size a zs cap 144 a1 c1 xs (f : Int) (t : Int) w3 hz (by omega) hc3 hxl (fun W h => HX.out W (ho13.trans h))
  have hs13 := ho13.size
  clear hc2 ho2 ho3 hc3
  go_wp2_with fail
  refine Calls.mono FD.out ?_
  rintro e w4 ⟨a4, c4, fs, rfl, hfl, o4, _, ho4⟩
  have ho14 := ho13.trans ho4
  have hR := HX.out w4 ho14
  have hB := hB1.trans (ho14.below (Nat.le_refl _) (by omega))
  have HO : Hid (World.ownsRow w4 w.heap.size 3 1 (.slice a4 fs.length c4) fs.length (M4.iv fs)) := FL.own_base o4 (by omega)
  clear FD HX o4 ho13 ho4 ho14 hB1
  go_wp2
  refine bodyPost_ret (results_tmp4F rfl _ _ _) rfl ?_
  exact ⟨a1, c1, xs, (f : Int), (t : Int), a4, c4, fs, rfl, hxl, hfl, hR, HO.out, hB⟩
set_option linter.unusedSimpArgs false in
set_option maxHeartbeats 1600000 in
set_option maxRecDepth 100000 in
theorem drawAugment_any (a : Option Addr) (zs : List Int) (cap : Nat) (w : World) (hz : zs.length ≤ 140737488355328) (hb : MC.BytesAt w w.heap.size a zs) :
    Calls Try.prog 18 #[.slice a zs.length cap] w fun e w' => ∃ a1 c1 xs f t a2 c2 fs, e = .returned (.tuple #[.slice a1 (List.length xs) c1, .int .i64 f, .int .i64 t, .slice a2 (List.length fs) c2]) ∧ xs.length ≤ 21 ∧ fs.length ≤ 22 ∧ MI3.RowAt w' a1 xs ∧ w'.ownsRow w.heap.size 3 1 (.slice a2 fs.length c2) fs.length (M4.iv fs) ∧ Below w.heap.size w w' := by
  go_enter Try.func18, Try.ntmps18
  go_wp2_with fail
  refine (drawIsFlow_any a zs cap _ hz hb).mono ?_
  rintro e w1 ⟨a1, c1, xs, f, t, a2, c2, fs, rfl, h1, h2, h3, h4, h5⟩
  have H4 : Hid _ := h4
  clear h4
  go_wp2
  refine bodyPost_ret (results_tmp4F rfl _ _ _) rfl ?_
  exact ⟨a1, c1, xs, f, t, a2, c2, fs, rfl, h1, h2, h3, H4.out, h5⟩
set_option linter.unusedSimpArgs false in
set_option maxHeartbeats 1600000 in
set_option maxRecDepth 100000 in
theorem drawCutSize_any (a : Option Addr) (zs : List Int) (cap : Nat) (w : World) (hz : zs.length ≤ 140737488355328) (hb : MC.BytesAt w w.heap.size a zs) :
    Calls Try.prog 22 #[.slice a zs.length cap] w fun e w' => ∃ a1 c1 xs a2 c2 os, e = .returned (.tuple #[.slice a1 (List.length xs) c1, .slice a2 (List.length os) c2]) ∧ xs.length ≤ 21 ∧ os.length ≤ 9 ∧ MI3.RowAt w' a1 xs ∧ M4.IntsAt w' a2 os ∧ Below w.heap.size w w' := by
  go_enter Try.func22, Try.ntmps22
  go_wp2_with fail
  refine (pipes_any w.heap.size a zs cap 0 _ hz (by omega) (cur_new hb)).mono ?_
  rintro e w1 ⟨a1, c1, xs, rfl, hxl, hX, hc1, ho1⟩
  have hplt := hc1.lt
  have HX : Hid (∀ W : World, MC.Only w.heap.size w1 W → MI3.RowAt W a1 xs) := PD8.row_keeps hX
  have hB1 := new_below rfl ho1
  have SO : Hid _ := someOf_any w.heap.size a zs cap 140 8 w1 hz (by omega) (by omega) (hc1.more (by omega))
  clear hX ho1 hb hc1
  go_wp2_with fail
  refine Calls.mono SO.out ?_
  rintro e w2 ⟨a2, c2, os, rfl, hol, o2, _, ho2⟩
  have hR := HX.out w2 ho2
  have hI := M5.own_ints o2
  have hB := hB1.trans (ho2.below (Nat.le_refl _) (by omega))
  clear SO HX o2 ho2 hB1
  go_wp2
  go_ret2
  exact ⟨a1, c1, xs, a2, c2, os, rfl, hxl, by omega, hR, hI, hB⟩
end Go.Proofs.Ytndaapidfiocoaa

/- The law FnAugment answers true at every argument. -/
namespace Go.Proofs.Ytndaapidfiocoaa
open Go.RowKit
set_option maxRecDepth 100000 in
theorem cloneA_any (w : World) : Calls Try.prog 40 #[.slice none 0 0] w fun e w' => e = .returned (.slice none 0 0) ∧ w = w' := by
  have hE : ∀ W, Sem.run Try.prog (binOp BinOp.eql 26 (.slice none 0 0) (.slice none 0 0)) W = .ok (.bool true) W := fun W => rfl
  go_enter Try.func40, Try.ntmps40
  go_wp2
  go_ret
  exact ⟨rfl, rfl⟩
theorem augOwnA_any (a b : Option Addr) (ca cb base : Nat) (xs : List I3) (fs : List Int) (f t : Int) (w : World) (hn : xs.length ≤ 1048576) (hm : fs.length ≤ 1048576) (hin : MI3.RowAt w a xs) (ho : w.ownsRow base 3 1 (.slice b fs.length cb) fs.length (M4.iv fs)) :
    Calls Try.prog 15 #[.slice a xs.length ca, .int .i64 f, .int .i64 t, .slice b fs.length cb] w fun e w' => ∃ a1 c1, e = .returned (.tuple #[.slice a1 (FL.agL xs f t fs).length c1, .int .i64 (FL.agN xs f t fs), .bool (FL.agB xs f t fs)]) ∧ w'.ownsRow w.heap.size 3 1 (.slice a1 (FL.agL xs f t fs).length c1) (FL.agL xs f t fs).length (M4.iv (FL.agL xs f t fs)) ∧ Below w.heap.size w w' := by
  rcases ho.2 with ⟨hv, h0⟩ | ⟨g, cap, cur, hv, _⟩
  · simp only [Value.slice.injEq] at hv
    obtain ⟨rfl, -, rfl⟩ := hv
    obtain rfl := List.eq_nil_of_length_eq_zero h0
    refine implAugmentG_any a none ca 0 xs [] f t w hn (by simp) hin (.inl rfl) (fun W _ => ?_)
    refine (cloneA_any W).mono ?_
    rintro e w' ⟨rfl, rfl⟩
    exact ⟨none, 0, rfl, World.ownsRow_nil _ _ _ _, Below.refl _ _⟩
  · simp only [Value.slice.injEq] at hv
    obtain ⟨rfl, -, rfl⟩ := hv
    exact implAugment_any a g ca cb xs fs f t w hn hm hin (M4.IntsAt.of_own ho)
theorem FL.agL_bd {xs : List I3} {f t : Int} {fs : List Int} (h : fs.length ≤ 22) : (FL.agL xs f t fs).length ≤ 1048576 := FL.agL_len (by omega)
set_option linter.unusedSimpArgs false in
set_option maxHeartbeats 3200000 in
set_option maxRecDepth 100000 in
theorem lawFnAugment_any (a b : Option Addr) (zs ys : List Int) (ca cb : Nat) (w : World) (hz : zs.length ≤ 140737488355328) (hy : ys.length ≤ 140737488355328) (hbz : MC.BytesAt w w.heap.size a zs) (hby : MC.BytesAt w w.heap.size b ys) :
    Calls Try.prog 4 #[.slice a zs.length ca, .slice b ys.length cb] w fun e w' => e = .returned (.bool true) ∧ Below w.heap.size w w' := by
  by_cases h20 : zs.length + ys.length ≤ 1048576
  · have HBY : Hid (∀ W : World, Below w.heap.size w W → MC.BytesAt W W.heap.size b ys) := fun W h => (hby.only (q := w.heap.size) (MC.Only.of_below h) (Nat.le_refl _) (Nat.le_refl _)).up h.size
    clear hby
    go_enter Try.func4, Try.ntmps4
    go_wp2_with fail
    refine (drawAugment_any a zs ca _ hz hbz).mono ?_
    rintro e w1 ⟨a1, c1, xs, f, t, a2, c2, fs, rfl, hx, hfl, hR, o1, B1⟩
    clear hbz
    have HO1 : Hid (World.ownsRow w1 w.heap.size 3 1 (.slice a2 fs.length c2) fs.length (M4.iv fs)) := o1
    have hIf := M5.own_ints o1
    have AI : Hid _ := augOwnA_any a1 a2 c1 c2 _ xs fs f t w1 (by omega) (by omega) hR o1
    have AS : Hid (∀ W : World, Below w1.heap.size w1 W → _) := fun W h => specAugment_any a1 a2 c1 c2 xs fs f t W (by omega) (by omega) (hR.below h) (hIf.below h)
    have OI : Hid (∀ W : World, Below w1.heap.size w1 W → _) := fun W h => implFlowOf_any a1 a2 c1 c2 xs fs f t W (by omega) (by omega) (hR.below h) (hIf.below h)
    have OS : Hid (∀ W : World, Below w1.heap.size w1 W → _) := fun W h => specFlowOf_any a1 a2 c1 c2 xs fs f t W (by omega) (by omega) (hR.below h) (hIf.below h)
    have II : Hid (∀ W : World, Below w1.heap.size w1 W → _) := fun W h => implIsFlow_any a1 a2 c1 c2 xs fs f t W (by omega) (by omega) (hR.below h) (hIf.below h)
    have IS : Hid (∀ W : World, Below w1.heap.size w1 W → _) := fun W h => specIsFlow_any a1 a2 c1 c2 xs fs f t W (by omega) (by omega) (hR.below h) (hIf.below h)
    have MX : Hid (∀ W : World, Below w1.heap.size w1 W → _) := fun W h => implMaxFlow_any a1 c1 xs f t W (by omega) (hR.below h)
    have OX : Hid (∀ W : World, Below w1.heap.size w1 W → ∀ a3 c3, M4.IntsAt W a3 (FL.agL xs f t fs) → _) := fun W h a3 c3 h3 => implFlowOf_any a1 a3 c1 c3 xs (FL.agL xs f t fs) f t W (by omega) (FL.agL_bd hfl) (hR.below h) h3
    have FC : Hid (FL.agB xs f t fs = true → FL.isR xs f t fs = true ∧ FL.isR xs f t (FL.agL xs f t fs) = true ∧ FL.flR xs f t (FL.agL xs f t fs) = FL.flR xs f t fs + FL.agN xs f t fs ∧ 1 ≤ FL.agN xs f t fs ∧ FL.agN xs f t fs ≤ 100) := fun h => by
      have h1 : FL.isR xs f t fs = true := by simp only [FL.agB, Bool.and_eq_true] at h; exact h.1
      obtain ⟨k1, k2, k3⟩ := FL.aug_flow h1 h
      obtain ⟨A, _, hf⟩ := FL.isR_ask h1
      refine ⟨h1, k1, k2, k3, ?_⟩
      rw [FL.agN, if_pos h1]
      rcases FL.aug_zero A hf with ⟨_, h2, _⟩ | ⟨_, _, h3, _⟩
      · omega
      · exact h3
    have FM : Hid (FL.isR xs f t fs = true → FL.ask xs f t = true ∧ FL.flR xs f t fs ≤ FL.mxN xs f t ∧ 0 - 2100 ≤ FL.flR xs f t fs ∧ FL.flR xs f t fs ≤ 2100) := fun h => by
      obtain ⟨A, _, hf⟩ := FL.isR_ask h
      have k := FL.outUp_within (n := f) A.ok hf xs.length (Nat.le_refl _)
      refine ⟨(FL.flow_most h).1, (FL.flow_most h).2, ?_, ?_⟩ <;> rw [FL.flR, if_pos h] <;> omega
    have hAl : (FL.agL xs f t fs).length ≤ 1048576 := FL.agL_bd hfl
    have B0 : Below w1.heap.size w1 w1 := Below.refl _ _
    clear hR hIf o1
    go_wp2_with fail
    refine Calls.mono AI.out ?_
    rintro e w2 ⟨a3, c3, rfl, o2, b2⟩
    have AS1 : Hid _ := AS.out w2 b2
    clear AI AS
    go_wp2_with fail
    refine Calls.mono AS1.out ?_
    rintro e w3 ⟨a4, c4, rfl, o3, b3⟩
    have b13 : Below w1.heap.size w1 w3 := b2.trans (b3.mono b2.size)
    have HIx : Hid (M4.IntsAt w3 a3 (FL.agL xs f t fs)) := M5.own_ints (M5.own_below o2 b3)
    have HIy : Hid (M4.IntsAt w3 a4 (FL.agL xs f t fs)) := M5.own_ints o3
    have OI1 : Hid _ := OI.out w3 b13
    clear AS1 OI o2 o3 b2 b3
    go_wp2_with fail
    refine Calls.mono OI1.out ?_
    rintro e w4 ⟨rfl, b4⟩
    have b14 : Below w1.heap.size w1 w4 := b13.trans (b4.mono b13.size)
    have OS1 : Hid _ := OS.out w4 b14
    clear OI1 OS
    go_wp2_with fail
    refine Calls.mono OS1.out ?_
    rintro e w5 ⟨rfl, b5⟩
    have b15 : Below w1.heap.size w1 w5 := b14.trans (b5.mono b14.size)
    have II1 : Hid _ := II.out w5 b15
    clear OS1 II
    go_wp2_with fail
    refine Calls.mono II1.out ?_
    rintro e w6 ⟨rfl, b6⟩
    have b16 : Below w1.heap.size w1 w6 := b15.trans (b6.mono b15.size)
    have IS1 : Hid _ := IS.out w6 b16
    clear II1 IS
    go_wp2_with fail
    refine Calls.mono IS1.out ?_
    rintro e w7 ⟨rfl, b7⟩
    have b17 : Below w1.heap.size w1 w7 := b16.trans (b7.mono b16.size)
    have q37 : Below w3.heap.size w3 w7 := b4.trans ((b5.trans ((b6.trans (b7.mono b6.size)).mono b5.size)).mono b4.size)
    have HIx7 : Hid (M4.IntsAt w7 a3 (FL.agL xs f t fs)) := HIx.out.below q37
    have SI : Hid _ := sameInts_any a3 a4 c3 c4 (FL.agL xs f t fs) (FL.agL xs f t fs) w7 (by omega) (by omega) HIx7.out (HIy.out.below q37)
    clear IS1 HIx HIy q37 b4 b5 b6 b7 b13 b14 b15 b16
    generalize FL.agL xs f t fs = X at *
    generalize FL.agN xs f t fs = nn at *
    generalize FL.flR xs f t fs = aa at *
    generalize FL.askF xs f t fs = af at *
    go_wp2_with fail
    refine Calls.mono SI.out ?_
    rintro e w8 ⟨rfl, b8⟩
    have b18 : Below w1.heap.size w1 w8 := b17.trans (b8.mono b17.size)
    have HIx8 : Hid (M4.IntsAt w8 a3 X) := HIx7.out.below b8
    clear SI b8 b17 HIx7
    generalize FL.agB xs f t fs = bb at *
    cases hir : FL.isR xs f t fs with
    | true =>
      obtain ⟨hask, hmx, lo, hi2⟩ := FM.out hir
      cases bb with
      | true =>
        obtain ⟨-, k1, k2, k3, k4⟩ := FC.out rfl
        have OX1 : Hid _ := OX.out w8 b18 a3 c3 HIx8.out
        rw [k1, k2] at OX1
        have hwr : IntKind.i64.wrap (aa + nn) = aa + nn := by rw [IntKind.wrap_i64]; omega
        have hn1 : ¬ nn < 1 := by omega
        clear FC FM OX k1 k2 hir HIx8
        go_wp2_with fail
        refine Calls.mono OX1.out ?_
        rintro e w9 ⟨rfl, b9⟩
        have bX : Below w1.heap.size w1 w9 := b18.trans (b9.mono b18.size)
        have BX := B1.trans (bX.mono B1.size)
        clear OX1 b9 b18 B1
        go_wp2_with fail
        refine (drawCutSize_any b ys cb _ hy (HBY.out _ BX)).mono ?_
        rintro e v1 ⟨p1, d1, us, p2, d2, os, rfl, hu, hos, hRu, hIo, k1⟩
        have CI : Hid _ := implCutSize_any p1 p2 d1 d2 us os v1 (by omega) (by omega) hRu hIo
        have CS : Hid (∀ W : World, Below v1.heap.size v1 W → _) := fun W h => specCutSize_any p1 p2 d1 d2 us os W (by omega) (by omega) (hRu.below h) (hIo.below h)
        have bv1 : Below w1.heap.size w1 v1 := bX.trans (k1.mono bX.size)
        have BV1 := BX.trans (k1.mono BX.size)
        clear hRu hIo k1 BX bX HBY
        generalize FL.szN us os = sn at *
        generalize FL.szOk us os = so at *
        go_wp2_with fail
        refine Calls.mono CI.out ?_
        rintro e v2 ⟨rfl, k2⟩
        have CS1 : Hid _ := CS.out v2 k2
        have bv2 : Below w1.heap.size w1 v2 := bv1.trans (k2.mono bv1.size)
        have BV2 := BV1.trans (k2.mono BV1.size)
        clear CI CS k2 bv1 BV1
        go_wp2_with fail
        refine Calls.mono CS1.out ?_
        rintro e v3 ⟨rfl, k3⟩
        have bv3 : Below w1.heap.size w1 v3 := bv2.trans (k3.mono bv2.size)
        have BV3 := BV2.trans (k3.mono BV2.size)
        clear CS1 k3 bv2 BV2
        have MX1 : Hid _ := MX.out v3 bv3
        rw [hask] at MX1
        clear MX bv3
        generalize FL.mxL xs f t = ML at *
        generalize FL.mxN xs f t = MN at *
        go_wp2_with fail
        refine Calls.mono MX1.out ?_
        rintro e v4 ⟨p4, d4, rfl, -, k4⟩
        have BV4 := BV3.trans (k4.mono BV3.size)
        clear MX1 k4 BV3
        go_wp2
        go_ret
        exact ⟨rfl, BV4⟩
      | false =>
        have bX := b18
        have BX := B1.trans (b18.mono B1.size)
        clear FC FM OX hir HIx8 b18 B1
        go_wp2_with fail
        refine (drawCutSize_any b ys cb _ hy (HBY.out _ BX)).mono ?_
        rintro e v1 ⟨p1, d1, us, p2, d2, os, rfl, hu, hos, hRu, hIo, k1⟩
        have CI : Hid _ := implCutSize_any p1 p2 d1 d2 us os v1 (by omega) (by omega) hRu hIo
        have CS : Hid (∀ W : World, Below v1.heap.size v1 W → _) := fun W h => specCutSize_any p1 p2 d1 d2 us os W (by omega) (by omega) (hRu.below h) (hIo.below h)
        have bv1 : Below w1.heap.size w1 v1 := bX.trans (k1.mono bX.size)
        have BV1 := BX.trans (k1.mono BX.size)
        clear hRu hIo k1 BX bX HBY
        generalize FL.szN us os = sn at *
        generalize FL.szOk us os = so at *
        go_wp2_with fail
        refine Calls.mono CI.out ?_
        rintro e v2 ⟨rfl, k2⟩
        have CS1 : Hid _ := CS.out v2 k2
        have bv2 : Below w1.heap.size w1 v2 := bv1.trans (k2.mono bv1.size)
        have BV2 := BV1.trans (k2.mono BV1.size)
        clear CI CS k2 bv1 BV1
        go_wp2_with fail
        refine Calls.mono CS1.out ?_
        rintro e v3 ⟨rfl, k3⟩
        have bv3 : Below w1.heap.size w1 v3 := bv2.trans (k3.mono bv2.size)
        have BV3 := BV2.trans (k3.mono BV2.size)
        clear CS1 k3 bv2 BV2
        have MX1 : Hid _ := MX.out v3 bv3
        rw [hask] at MX1
        clear MX bv3
        generalize FL.mxL xs f t = ML at *
        generalize FL.mxN xs f t = MN at *
        go_wp2_with fail
        refine Calls.mono MX1.out ?_
        rintro e v4 ⟨p4, d4, rfl, -, k4⟩
        have BV4 := BV3.trans (k4.mono BV3.size)
        clear MX1 k4 BV3
        go_wp2
        go_ret
        exact ⟨rfl, BV4⟩
    | false =>
      cases bb with
      | true =>
        have := (FC.out rfl).1
        rw [hir] at this; cases this
      | false =>
        have bX := b18
        have BX := B1.trans (b18.mono B1.size)
        clear FC FM OX hir HIx8 b18 B1
        go_wp2_with fail
        refine (drawCutSize_any b ys cb _ hy (HBY.out _ BX)).mono ?_
        rintro e v1 ⟨p1, d1, us, p2, d2, os, rfl, hu, hos, hRu, hIo, k1⟩
        have CI : Hid _ := implCutSize_any p1 p2 d1 d2 us os v1 (by omega) (by omega) hRu hIo
        have CS : Hid (∀ W : World, Below v1.heap.size v1 W → _) := fun W h => specCutSize_any p1 p2 d1 d2 us os W (by omega) (by omega) (hRu.below h) (hIo.below h)
        have bv1 : Below w1.heap.size w1 v1 := bX.trans (k1.mono bX.size)
        have BV1 := BX.trans (k1.mono BX.size)
        clear hRu hIo k1 BX bX HBY
        generalize FL.szN us os = sn at *
        generalize FL.szOk us os = so at *
        go_wp2_with fail
        refine Calls.mono CI.out ?_
        rintro e v2 ⟨rfl, k2⟩
        have CS1 : Hid _ := CS.out v2 k2
        have bv2 : Below w1.heap.size w1 v2 := bv1.trans (k2.mono bv1.size)
        have BV2 := BV1.trans (k2.mono BV1.size)
        clear CI CS k2 bv1 BV1
        go_wp2_with fail
        refine Calls.mono CS1.out ?_
        rintro e v3 ⟨rfl, k3⟩
        have bv3 : Below w1.heap.size w1 v3 := bv2.trans (k3.mono bv2.size)
        have BV3 := BV2.trans (k3.mono BV2.size)
        clear CS1 k3 bv2 BV2
        clear MX bv3
        go_wp2
        go_ret
        exact ⟨rfl, BV3⟩
  · go_enter Try.func4, Try.ntmps4
    go_wp2
    go_ret
    exact ⟨rfl, Below.refl _ _⟩
end Go.Proofs.Ytndaapidfiocoaa
