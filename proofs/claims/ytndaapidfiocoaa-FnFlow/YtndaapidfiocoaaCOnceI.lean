/- AugmentOnce of the program. -/
import Derived.Test.YtndaapidfiocoaaRows
import Derived.Test.YtndaapidfiocoaaCFlow
import Derived.Test.YtndaapidfiocoaaCMaxI
import Derived.WalkKit
import Derived.WalkSpells
import Derived.WalkLawsBesides
import Derived.Outline
namespace Go.Proofs.Ytndaapidfiocoaa
open Go.RowKit
set_option linter.unusedSimpArgs false in
set_option maxHeartbeats 800000 in
set_option maxRecDepth 100000 in
theorem cloneI_any (g n c : Nat) (l : List Int) (w : World) (hl : l.length = n) (hn : n ≤ 1048576) (hr : M4.IntsAt w (some ⟨g, 0, none⟩) l) :
    Calls Try.prog 40 #[.slice (some ⟨g, 0, none⟩) n c] w fun e w' => ∃ a cap, e = .returned (.slice a n cap) ∧ w'.ownsRow w.heap.size 3 1 (.slice a n cap) n (M4.iv l) ∧ Below w.heap.size w w' := by
  obtain ⟨i0, hi, hz0, hz1, hz2⟩ := info_parts Try.info3
  have own00 : (w.alloc (.cells #[] 3)).ownsRow w.heap.size 3 1 (.slice (some ⟨w.heap.size, 0, none⟩) 0 0) 0 [] := by
    have := World.ownsRow_lit (base := w.heap.size) (e := 3) (size := 1) w #[] 0 (by simp) (by unfold maxLen; omega) (by simp)
    simpa using this
  have own0 : Hid ((w.alloc (.cells #[] 3)).ownsRow w.heap.size 3 1 (.slice (some ⟨w.heap.size, 0, none⟩) 0 0) 0 []) := own00
  clear own00
  have HN : Hid (∀ (j : Nat) (u : Value), (M4.iv l)[j]? = some u → (w.alloc (.cells #[] 3)).cell? ((⟨g, 0, none⟩ : Addr).add j) = some u) := fun j u hu => by
    have hjl : j < l.length := by have := (List.getElem?_eq_some_iff.1 hu).1; simpa [M4.iv] using this
    obtain ⟨b6, off6, hb6, hlt6, hc6⟩ := M4.IntsAt.at (M4.IntsAt.below hr ((Below.refl _ w).alloc (Nat.le_refl _) (.cells #[] 3))) (k := j) hjl
    simp only [Option.some.injEq, Addr.mk.injEq] at hb6
    obtain ⟨rfl, rfl, -⟩ := hb6
    rw [Addr.add_lit, Nat.zero_add] at *
    rw [hc6]
    rw [M4.iv_get _ _ _ (FL.get_of l hjl)] at hu; exact hu
  have HL : Hid ((M4.iv l).length = n * 1) := by show _ = _; simp [M4.iv, hl]
  clear hr
  have hE : ∀ W : World, (binOp .eql 26 (.slice (some ⟨g, 0, none⟩) n c) (.slice none 0 0)).run Try.prog W = .ok (.bool false) W := fun W => by simpa using Lib.run_eql_slice_nil (P := Try.prog) W 26 3 (some ⟨g, 0, none⟩) n c 0 0 Try.underlying26
  have ONE : Hid (∀ u ∈ M4.iv l, u.oneCell' = true) := fun u hu => by simp only [M4.iv, List.mem_map] at hu; obtain ⟨z, _, rfl⟩ := hu; rfl
  go_enter Try.func40, Try.ntmps40
  go_wp2_with (at_builtin; refine wpList_append_own _ rfl _ _ 26 rfl w.heap.size 3 i0 (.int .i64 0) 1 8 Try.underlying26 hi hz0 hz1 hz2 rfl (by decide) _ _ _ rfl own0.out ⟨g, 0, none⟩ n c (M4.iv l) rfl HL.out HN.out ONE.out ?c3 ?c4 ?c5 ?_)
  case c3 => unfold maxLen; omega
  case c4 => omega
  case c5 => simp
  intro v' w1 hown1 hgrow _
  have hB : Below w.heap.size w w1 := ((Below.refl _ w).alloc (Nat.le_refl _) _).grown hgrow (by simp) (fun j hj => (own0.out.lt j hj).1)
  replace hown1 : w1.ownsRow w.heap.size 3 1 v' n (M4.iv l) := by simpa using hown1
  obtain ⟨a, cap, rfl⟩ : ∃ a cap, v' = .slice a n cap := by
    rcases hown1.2 with ⟨rfl, h0⟩ | ⟨g', cap, cur, rfl, _⟩
    · exact ⟨none, 0, by rw [h0]⟩
    · exact ⟨_, cap, rfl⟩
  have HO : Hid (w1.ownsRow w.heap.size 3 1 (.slice a n cap) n (M4.iv l)) := hown1
  clear hown1 hgrow own0 HN HL ONE
  go_wp2
  go_ret
  exact ⟨a, cap, rfl, HO.out, hB⟩
namespace FL
theorem pb_le {w : World} {base e sz n cap : Nat} {a : Option Addr} {xs : List Value} (h : w.ownsRow base e sz (.slice a n cap) n xs) (hb : base ≤ w.heap.size) : base ≤ pb a w.heap.size := by
  rcases h.2 with ⟨h', _⟩ | ⟨g, c, cur, h1, h2, _⟩
  · cases h'; exact hb
  · cases h1; exact h2
theorem own_again {w w' : World} {base e sz n cap : Nat} {a : Option Addr} {xs ys : List Value} (h : w.ownsRow base e sz (.slice a n cap) n xs) (h' : w'.ownsRow 0 e sz (.slice a n cap) n ys) : w'.ownsRow base e sz (.slice a n cap) n ys := by
  rcases h'.2 with ⟨h1, h2⟩ | ⟨g, c, cur, h1, h2, h3⟩
  · exact ⟨h'.1, .inl ⟨h1, h2⟩⟩
  · cases h1
    rcases h.2 with ⟨h5, _⟩ | ⟨g', c', cur', h5, h6, _⟩
    · cases h5
    · cases h5; exact ⟨h'.1, .inr ⟨g, cap, cur, rfl, h6, h3⟩⟩
theorem ans_of {xs : List I3} {f t : Int} {fs : List Int} (A : Ask xs f t) (hfit : fitUp xs fs xs.length) : 0 ≤ augN xs fs f t ∧ (augN xs fs f t = 0 → ansL xs fs f t = []) ∧ (augN xs fs f t ≠ 0 → ansL xs fs f t = augL xs fs f t) := by
  rcases aug_zero (t := t) A hfit with ⟨_, e, e2⟩ | ⟨_, p, _, e2⟩
  · exact ⟨by omega, fun _ => e2, fun h => absurd e h⟩
  · exact ⟨by omega, fun h => by omega, fun _ => e2⟩
end FL
set_option linter.unusedSimpArgs false in
set_option maxHeartbeats 1600000 in
set_option maxRecDepth 100000 in
theorem implAugmentG_any (a b : Option Addr) (ca cb : Nat) (xs : List I3) (fs : List Int) (f t : Int) (w : World) (hn : xs.length ≤ 1048576) (hm : fs.length ≤ 1048576) (hin : MI3.RowAt w a xs) (hos : M4.IntsAt w b fs) (hCL : ∀ W : World, M4.IntsAt W b fs → Calls Try.prog 40 #[.slice b fs.length cb] W fun e w' => ∃ a cap, e = .returned (.slice a fs.length cap) ∧ w'.ownsRow W.heap.size 3 1 (.slice a fs.length cap) fs.length (M4.iv fs) ∧ Below W.heap.size W w') :
    Calls Try.prog 15 #[.slice a xs.length ca, .int .i64 f, .int .i64 t, .slice b fs.length cb] w fun e w' => ∃ a1 c1, e = .returned (.tuple #[.slice a1 (FL.agL xs f t fs).length c1, .int .i64 (FL.agN xs f t fs), .bool (FL.agB xs f t fs)]) ∧ w'.ownsRow w.heap.size 3 1 (.slice a1 (FL.agL xs f t fs).length c1) (FL.agL xs f t fs).length (M4.iv (FL.agL xs f t fs)) ∧ Below w.heap.size w w' := by
  have AC : Hid _ := FL.agC xs f t fs
  have IS : Hid _ := implIsFlow_any a b ca cb xs fs f t w hn hm hin hos
  have HI : Hid (MI3.RowAt w a xs) := hin
  have HO : Hid (M4.IntsAt w b fs) := hos
  have CLN : Hid (∀ W : World, M4.IntsAt W b fs → Calls Try.prog 40 #[.slice b fs.length cb] W fun e w' => ∃ a cap, e = .returned (.slice a fs.length cap) ∧ w'.ownsRow W.heap.size 3 1 (.slice a fs.length cap) fs.length (M4.iv fs) ∧ Below W.heap.size W w') := hCL
  have AU : Hid (FL.isR xs f t fs = true → fs.length = xs.length ∧ (0 ≤ FL.augN xs fs f t ∧ (FL.augN xs fs f t = 0 → FL.ansL xs fs f t = []) ∧ (FL.augN xs fs f t ≠ 0 → FL.ansL xs fs f t = FL.augL xs fs f t)) ∧ ∀ (W : World) (fa : Option Addr) (fc : Nat), MI3.RowAt W a xs → W.ownsRow 0 3 1 (.slice fa xs.length fc) xs.length (M4.iv fs) → Calls Try.prog 41 #[.slice a xs.length ca, .int .i64 f, .int .i64 t, .slice fa xs.length fc] W fun e w' => e = .returned (.int .i64 (FL.augN xs fs f t)) ∧ w'.ownsRow 0 3 1 (.slice fa xs.length fc) xs.length (M4.iv (FL.augL xs fs f t)) ∧ MC.Only (FL.pb fa W.heap.size) W w') := fun h => by
    obtain ⟨A, hl, hf⟩ := FL.isR_ask h
    exact ⟨hl, FL.ans_of A hf, fun W fa fc h1 h2 => augment_any a fa ca fc xs fs f t W A hf h1 h2⟩
  have OK : Hid (FL.isR xs f t fs = true → FL.askF xs f t fs = true) := fun h => FL.isR_ok h
  generalize FL.agL xs f t fs = L at *
  generalize FL.agN xs f t fs = N at *
  generalize FL.agB xs f t fs = B at *
  generalize FL.augN xs fs f t = n at *
  generalize FL.ansL xs fs f t = l at *
  generalize FL.augL xs fs f t = ll at *
  generalize FL.isR xs f t fs = is at *
  generalize FL.askF xs f t fs = ok at *
  clear hin hos
  go_enter Try.func15, Try.ntmps15
  go_wp2_with fail
  refine Calls.mono IS.out ?_
  rintro e w0 ⟨rfl, hb0⟩
  clear IS
  cases is with
  | false =>
    obtain ⟨h1, h2, h3⟩ := AC.out.no rfl
    clear AC AU OK HI HO CLN
    subst h1 h2 h3
    go_wp2
    go_ret3
    exact ⟨none, 0, rfl, World.ownsRow_nil _ _ _ _, hb0⟩
  | true =>
    obtain ⟨h1, h2, h3⟩ := AC.out.yes rfl
    obtain ⟨hfl, ⟨n0, nz, nnz⟩, AU2⟩ := AU.out rfl
    have CL2 : Hid _ := CLN.out w0 (M4.IntsAt.below HO.out hb0)
    obtain rfl : ok = true := OK.out rfl
    have AU3 : Hid _ := AU2
    have NZ : Hid _ := nz
    have NNZ : Hid _ := nnz
    rw [hfl] at CL2 ⊢
    clear AC AU OK AU2 CLN hfl nz nnz HO
    subst h1 h2 h3
    go_wp2_with fail
    refine Calls.mono CL2.out ?_
    rintro e w1 ⟨a1, c1, rfl, ho, hb1⟩
    have hB1 := hb0.trans (hb1.mono hb0.size)
    have HO1 : Hid (w1.ownsRow w.heap.size 3 1 (.slice a1 xs.length c1) xs.length (M4.iv fs)) := FL.own_base ho hb0.size
    have AU4 : Hid _ := AU3.out w1 a1 c1 (HI.out.below hB1) (FL.own_zero ho)
    clear CL2 AU3 HI ho hb1 hb0
    go_wp2_with fail
    refine Calls.mono AU4.out ?_
    rintro e w2 ⟨rfl, ho2, hon⟩
    have hB2 : Below w.heap.size w w2 := hB1.trans (hon.below (FL.pb_le HO1.out hB1.size) hB1.size)
    have HO2 : Hid (w2.ownsRow w.heap.size 3 1 (.slice a1 xs.length c1) xs.length (M4.iv ll)) := FL.own_again HO1.out ho2
    clear AU4 ho2 hon HO1
    by_cases hz : N = 0
    · have hE := NZ.out hz
      subst hE
      subst hz
      clear NZ NNZ HO2
      go_wp2
      go_ret3
      exact ⟨none, 0, rfl, World.ownsRow_nil _ _ _ _, hB2⟩
    · have hE := NNZ.out hz
      have hp : 0 < N := by omega
      have hd : Hid (decide (0 < N) = true) := decide_eq_true hp
      have hlen : Hid (L.length = xs.length) := by have := HO2.out.1; rw [← hE] at this; show _ = _; simpa [M4.iv] using this
      rw [← hE] at HO2
      clear NZ NNZ hE n0
      go_wp2
      go_ret3
      exact ⟨a1, c1, by rw [hlen.out, hd.out]; rfl, by rw [hlen.out]; exact HO2.out, hB2⟩
theorem implAugment_any (a : Option Addr) (g ca cb : Nat) (xs : List I3) (fs : List Int) (f t : Int) (w : World) (hn : xs.length ≤ 1048576) (hm : fs.length ≤ 1048576) (hin : MI3.RowAt w a xs) (hos : M4.IntsAt w (some ⟨g, 0, none⟩) fs) :
    Calls Try.prog 15 #[.slice a xs.length ca, .int .i64 f, .int .i64 t, .slice (some ⟨g, 0, none⟩) fs.length cb] w fun e w' => ∃ a1 c1, e = .returned (.tuple #[.slice a1 (FL.agL xs f t fs).length c1, .int .i64 (FL.agN xs f t fs), .bool (FL.agB xs f t fs)]) ∧ w'.ownsRow w.heap.size 3 1 (.slice a1 (FL.agL xs f t fs).length c1) (FL.agL xs f t fs).length (M4.iv (FL.agL xs f t fs)) ∧ Below w.heap.size w w' :=
  implAugmentG_any a (some ⟨g, 0, none⟩) ca cb xs fs f t w hn hm hin hos (fun W h => cloneI_any g fs.length cb fs W rfl hm h)
end Go.Proofs.Ytndaapidfiocoaa
