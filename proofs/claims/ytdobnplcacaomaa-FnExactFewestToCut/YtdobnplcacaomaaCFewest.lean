/- FewestToCut of the program and of the specification. -/
import Derived.Test.YtdobnplcacaomaaRows
import Derived.Test.YtdobnplcacaomaaCLinks
import Derived.Test.YtdobnplcacaomaaCMinI
import Derived.Test.YtdobnplcacaomaaCMinS
import Derived.WalkKit
import Derived.WalkSpells
import Derived.WalkLawsBesides
import Derived.Outline
namespace Go.Proofs.Ytdobnplcacaomaa
open Go.RowKit
set_option linter.unusedSimpArgs false in
set_option maxHeartbeats 1600000 in
set_option maxRecDepth 100000 in
theorem implFewest_any (a : Option Addr) (ca : Nat) (xs : List I2) (f t : Int) (w : World) (hn : xs.length ≤ 1048576) (hin : MI2.RowAt w a xs) :
    Calls Try.prog 33 #[.slice a xs.length ca, .int .i64 f, .int .i64 t] w fun e w' => ∃ a1 c1, e = .returned (.tuple #[.slice a1 (LK.fcL xs f t).length c1, .bool (FL.ask (LK.pip xs) f t)]) ∧ w'.ownsRow w.heap.size 3 1 (.slice a1 (LK.fcL xs f t).length c1) (LK.fcL xs f t).length (M4.iv (LK.fcL xs f t)) ∧ Below w.heap.size w w' := by
  have FC : Hid _ := LK.fcC xs f t
  have PO : Hid _ := pipesOfOne_any a ca xs w hn hin
  have ML : Hid _ := FL.mcL_len (LK.pip xs) f t
  have MI : Hid (∀ (g : Nat) (W : World), MI3.RowAt W (some ⟨g, 0, none⟩) (LK.pip xs) → Calls Try.prog 12 #[.slice (some ⟨g, 0, none⟩) xs.length xs.length, .int .i64 f, .int .i64 t] W fun e w' => ∃ a1 c1, e = .returned (.tuple #[.slice a1 (FL.mcL (LK.pip xs) f t).length c1, .int .i64 (FL.mcN (LK.pip xs) f t), .bool (FL.ask (LK.pip xs) f t)]) ∧ w'.ownsRow W.heap.size 3 1 (.slice a1 (FL.mcL (LK.pip xs) f t).length c1) (FL.mcL (LK.pip xs) f t).length (M4.iv (FL.mcL (LK.pip xs) f t)) ∧ Below W.heap.size W w') := fun g W h => by
    have := implMinCut_any (some ⟨g, 0, none⟩) xs.length (LK.pip xs) f t W (by rw [LK.pip_len]; exact hn) h
    rwa [LK.pip_len] at this
  have OO : Hid (∀ (g : Nat) (b : Option Addr) (cb : Nat) (M : List Int) (W : World), M.length ≤ 1048576 → MI3.RowAt W (some ⟨g, 0, none⟩) (LK.pip xs) → M4.IntsAt W b M → ∀ L, L = FL.outK (LK.pip xs) M xs.length → Calls Try.prog 62 #[.slice (some ⟨g, 0, none⟩) xs.length xs.length, .slice b M.length cb] W fun e w' => ∃ a1 c1, e = .returned (.slice a1 L.length c1) ∧ w'.ownsRow W.heap.size 3 1 (.slice a1 L.length c1) L.length (M4.iv L) ∧ Below W.heap.size W w') := fun g b cb M W h1 h2 h3 L hL => by
    have := pipesOutOf_any (some ⟨g, 0, none⟩) b xs.length cb (LK.pip xs) M W (by rw [LK.pip_len]; exact hn) h1 h2 h3 L (by show _ = _; rw [LK.pip_len, hL])
    rwa [LK.pip_len] at this
  generalize LK.fcL xs f t = L at *
  generalize FL.mcL (LK.pip xs) f t = M at *
  generalize FL.mcN (LK.pip xs) f t = N at *
  generalize FL.ask (LK.pip xs) f t = is at *
  clear hin
  go_enter Try.func33, Try.ntmps33
  go_wp2_with fail
  refine Calls.mono PO.out ?_
  rintro e w0 ⟨g, rfl, ho, hb0⟩
  have HI : Hid (MI3.RowAt w0 (some ⟨g, 0, none⟩) (LK.pip xs)) := MI3.RowAt.of_own ho
  have MI2 : Hid _ := MI.out g w0 HI.out
  clear PO MI ho
  go_wp2_with fail
  refine Calls.mono MI2.out ?_
  rintro e w1 ⟨a1, c1, rfl, ho, hb1⟩
  have hB1 := hb0.trans (hb1.mono hb0.size)
  have HM : Hid (M4.IntsAt w1 a1 M) := M5.own_ints ho
  have HI1 : Hid (MI3.RowAt w1 (some ⟨g, 0, none⟩) (LK.pip xs)) := HI.out.below hb1
  clear MI2 HI ho hb0 hb1
  cases is with
  | false =>
    obtain ⟨h1, _⟩ := FC.out.no rfl
    subst h1
    clear FC OO HM HI1 ML
    go_wp2
    go_ret2
    exact ⟨none, 0, rfl, World.ownsRow_nil _ _ _ _, hB1⟩
  | true =>
    obtain ⟨h1, _, _⟩ := FC.out.yes rfl
    have O2 : Hid _ := OO.out g a1 c1 M w1 ML.out HI1.out HM.out L h1
    clear FC OO HM HI1 ML h1
    generalize hml : M.length = ml at *
    clear hml
    generalize hll : L.length = ll at *
    have HLL : Hid _ := hll
    clear hll
    go_wp2_with fail
    refine Calls.mono O2.out ?_
    rintro e w2 ⟨a2, c2, rfl, ho, hb2⟩
    have HO : Hid _ := FL.own_base ho hB1.size
    clear O2 ho
    go_wp2
    go_ret2
    exact ⟨a2, c2, by rw [HLL.out]; rfl, by rw [HLL.out]; exact HO.out, hB1.trans (hb2.mono hB1.size)⟩
set_option linter.unusedSimpArgs false in
set_option maxHeartbeats 1600000 in
set_option maxRecDepth 100000 in
theorem specFewest_any (a : Option Addr) (ca : Nat) (xs : List I2) (f t : Int) (w : World) (hn : xs.length ≤ 1048576) (hin : MI2.RowAt w a xs) :
    Calls Try.prog 32 #[.slice a xs.length ca, .int .i64 f, .int .i64 t] w fun e w' => ∃ a1 c1, e = .returned (.tuple #[.slice a1 (LK.fcL xs f t).length c1, .bool (FL.ask (LK.pip xs) f t)]) ∧ w'.ownsRow w.heap.size 3 1 (.slice a1 (LK.fcL xs f t).length c1) (LK.fcL xs f t).length (M4.iv (LK.fcL xs f t)) ∧ Below w.heap.size w w' := by
  obtain ⟨i0, hi, hz0, hz1, hz2⟩ := info_parts Try.info3
  have FC : Hid _ := LK.fcC xs f t
  have AK : Hid _ := l9Ask_any a ca xs f t w hn hin _ rfl
  have HI : Hid (MI2.RowAt w a xs) := hin
  have PO : Hid (∀ W : World, MI2.RowAt W a xs → _) := fun W h => l9Pipes_any a ca xs W hn h
  have ML : Hid _ := FL.mcL_len (LK.pip xs) f t
  have MI : Hid (∀ (b : Option Addr) (cb : Nat) (W : World), MI3.RowAt W b (LK.pip xs) → Calls Try.prog 10 #[.slice b xs.length cb, .int .i64 f, .int .i64 t] W fun e w' => ∃ a1 c1, e = .returned (.tuple #[.slice a1 (FL.mcL (LK.pip xs) f t).length c1, .int .i64 (FL.mcN (LK.pip xs) f t), .bool (FL.ask (LK.pip xs) f t)]) ∧ w'.ownsRow W.heap.size 3 1 (.slice a1 (FL.mcL (LK.pip xs) f t).length c1) (FL.mcL (LK.pip xs) f t).length (M4.iv (FL.mcL (LK.pip xs) f t)) ∧ Below W.heap.size W w') := fun b cb W h => by
    have := specMinCut_any b cb (LK.pip xs) f t W (by rw [LK.pip_len]; exact hn) h
    rwa [LK.pip_len] at this
  generalize LK.fcL xs f t = L at *
  generalize FL.mcL (LK.pip xs) f t = M at *
  generalize FL.mcN (LK.pip xs) f t = N at *
  generalize FL.ask (LK.pip xs) f t = is at *
  clear hin
  go_enter Try.func32, Try.ntmps32
  go_wp2_with fail
  refine Calls.mono AK.out ?_
  rintro e w0 ⟨rfl, hb0⟩
  clear AK
  cases is with
  | false =>
    obtain ⟨h1, _⟩ := FC.out.no rfl
    subst h1
    clear FC PO MI ML HI
    go_wp2
    go_ret2
    exact ⟨none, 0, rfl, World.ownsRow_nil _ _ _ _, hb0⟩
  | true =>
    obtain ⟨h1, h20, _⟩ := FC.out.yes rfl
    have HL : Hid (L = FL.outK (LK.pip xs) M xs.length) := h1
    have PO2 : Hid _ := PO.out w0 (HI.out.below hb0)
    clear FC PO h1
    go_wp2_with fail
    refine Calls.mono PO2.out ?_
    rintro e w1 ⟨b1, cb1, rfl, hr, hb1⟩
    have hB1 := hb0.trans (hb1.mono hb0.size)
    have MI2 : Hid _ := MI.out b1 cb1 w1 hr
    clear PO2 MI hr hb0 hb1
    go_wp2_with fail
    refine Calls.mono MI2.out ?_
    rintro e w2 ⟨a1, cM, rfl, ho, hb2⟩
    have hB2 := hB1.trans (hb2.mono hB1.size)
    have HM : Hid (M4.IntsAt w2 a1 M) := M5.own_ints ho
    have hm := ML.out
    clear MI2 ho hb2 hB1 ML
    go_wp2
    go_loopw [11, 30] (fun v iv wr => ∃ k : Nat, iv = .int .i64 k ∧ k ≤ xs.length ∧ (∃ s : List Int, Hid (FL.outK (LK.pip xs) M k = s) ∧ wr.ownsRow w2.heap.size 3 1 v s.length (M4.iv s)) ∧ Below w2.heap.size w2 wr) (fun _ iv _ => (xs.length - intOf iv).toNat)
    case atStart => exact ⟨0, rfl, by omega, ⟨[], rfl, World.ownsRow_nil _ _ _ _⟩, Below.refl _ _⟩
    case round =>
      obtain ⟨k, rfl, hk, ⟨s, hs, hown⟩, hb⟩ := hrel
      have hsl : s.length ≤ k := by rw [← hs.out]; exact FL.outK_len (LK.pip xs) M k
      have hbs := hb.size
      by_cases hlk : k < xs.length
      · have hbW := hB2.trans (hb.mono hB2.size)
        obtain ⟨b1, off, rfl, hlt, c0, c1⟩ := (HI.out.below hbW).at hlk
        have HY : Hid _ := fun h0 h1 => FL.outK_yes (xs := LK.pip xs) (zs := M) (k := k) h0 h1
        have HN : Hid _ := fun h => FL.outK_no (xs := LK.pip xs) (zs := M) (k := k) h
        rw [hs.out, LK.pip_at xs k hlk] at HY HN
        generalize MI2.at_ xs k = x at *
        obtain ⟨x0, x1⟩ := x
        have HB : Hid (Below w2.heap.size w2 (wr.alloc (.cells #[.int .i64 x0, .int .i64 x1] 68))) := hb.alloc hb.size _
        have HO : Hid (World.ownsRow (wr.alloc (.cells #[.int .i64 x0, .int .i64 x1] 68)) w2.heap.size 3 1 _ s.length (M4.iv s)) := hown.alloc _
        clear hown hb hbW
        have HCA : Hid (∀ y : Int, Calls Try.prog 61 #[.slice a1 M.length cM, .int .i64 y] (wr.alloc (.cells #[.int .i64 x0, .int .i64 x1] 68)) fun e w' => e = .returned (.bool (EG.hasB M y)) ∧ (wr.alloc (.cells #[.int .i64 x0, .int .i64 x1] 68)) = w') := fun y => l1Has_any _ _ M y _ hm (M4.IntsAt.below HM.out HB.out)
        clear hs HI HM HL
        have H0 : Hid _ := HCA.out x0
        have H1 : Hid _ := HCA.out x1
        clear HCA
        simp only [show FL.hasN = EG.hasB from rfl, LK.pip1] at HY HN
        generalize EG.hasB M x0 = p at *
        generalize EG.hasB M x1 = q at *
        generalize hml : M.length = ml at *
        clear hml
        go_wp2_with fail
        refine Calls.mono H0.out ?_
        rintro e w3 ⟨rfl, rfl⟩
        clear H0
        cases p with
        | false =>
          have HE : Hid _ := HN.out (.inl rfl)
          clear HY HN H1
          go_wp2
          go_roundw
          case rel => exact ⟨k + 1, by go_num, by omega, ⟨s, HE, HO.out⟩, HB.out⟩
          case measure => simp [intOf]; omega
        | true =>
          go_wp2_with fail
          refine Calls.mono H1.out ?_
          rintro e w3 ⟨rfl, rfl⟩
          clear H1
          cases q with
          | true =>
            have HE : Hid _ := HN.out (.inr rfl)
            clear HY HN
            go_wp2
            go_roundw
            case rel => exact ⟨k + 1, by go_num, by omega, ⟨s, HE, HO.out⟩, HB.out⟩
            case measure => simp [intOf]; omega
          | false =>
            have HE : Hid _ := HY.out (by trivial) (by trivial)
            clear HY HN c0 c1
            have hbs2 := HB.out.size
            generalize wr.alloc (.cells #[.int .i64 x0, .int .i64 x1] 68) = W1 at *
            go_wp2_with (at_builtin; go_loud (refine wpList_append_own _ rfl _ _ 24 rfl w2.heap.size 3 i0 (.int .i64 0) 1 8 Try.underlying24 hi hz0 hz1 hz2 rfl (by decide) _ _ _ rfl (World.ownsRow.alloc HO.out _) ⟨W1.heap.size, 0, none⟩ 1 1 [.int .i64 (k : Int)] rfl rfl ?c1 ?c2 ?c3 ?c4 ?c5 ?_))
            all_goals try (first | rfl | omega | exact M2.new1 _ _ _ | exact M2.one1 _ _ | (unfold maxLen; omega) | (simp; omega))
            intro v' w3 hown1 hgrow _
            have R := M5.growI HO.out HB.out hbs2 (by exact hown1) hgrow
            have R1 := R.1
            have R2 := R.2
            clear hown1 hgrow R HO
            go_wp2
            go_roundw
            case rel => exact ⟨k + 1, by go_num, by omega, ⟨s ++ [(k : Int)], HE, R1⟩, R2⟩
            case measure => simp [intOf]; omega
      · obtain rfl : k = xs.length := by omega
        have hE : s = L := by rw [← hs.out, ← HL.out]
        subst hE
        clear hs HI HM HL
        obtain ⟨a3, c3, hv, hiv⟩ := M5.own_view hown
        rw [hv] at hown ⊢
        have HO : Hid _ := FL.own_base hown hB2.size
        clear hown hv hiv
        generalize hsll : s.length = sl at *
        have HSL : Hid _ := hsll
        clear hsll
        generalize hml : M.length = ml at *
        clear hml
        go_wp2
        go_ret2
        exact ⟨a3, c3, by rw [HSL.out]; rfl, by rw [HSL.out]; exact HO.out, hB2.trans (hb.mono hB2.size)⟩
end Go.Proofs.Ytdobnplcacaomaa
