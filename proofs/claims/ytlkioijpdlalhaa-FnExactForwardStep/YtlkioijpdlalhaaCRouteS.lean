/- RouteTo, the specification's. -/
import Derived.Test.YtlkioijpdlalhaaRows
import Derived.Test.YtlkioijpdlalhaaC6Search
import Derived.Test.YtlkioijpdlalhaaCPlan
import Derived.Test.YtlkioijpdlalhaaCSmall6
import Derived.Test.YtlkioijpdlalhaaM6R
import Derived.Test.YtlkioijpdlalhaaMRou
import Derived.WalkKit
import Derived.WalkSpells
import Derived.WalkLawsBesides
import Derived.Outline
import Derived.Deep.QuietTactic
import Derived.BigQuiet
import Derived.Laws.AppendOwnNone
namespace Go.Proofs.Ytlkioijpdlalhaa
open Go.RowKit
namespace PN
theorem SR.grown {base : Nat} {w W W' : World} {g1 g2 c1 c2 : Nat} {s : St} {o : Obj} (h : SR base w W g1 g2 c1 c2 s) (hB : base ≤ w.heap.size) (hg : (W.alloc o).grownBy W' (some W.heap.size)) : SR base w W' g1 g2 c1 c2 s := by
  have l1 := h.l1
  have l2 := h.l2
  have hs := h.bl.size
  exact ⟨own_grown (h.a.alloc o) hg (fun g e => by simp only [Value.ownBlock, Option.some.injEq] at e; simp only [ne_eq, Option.some.injEq]; omega), own_grown (h.b.alloc o) hg (fun g e => by simp only [Value.ownBlock, Option.some.injEq] at e; simp only [ne_eq, Option.some.injEq]; omega), h.ne, (h.bl.alloc (Nat.le_trans hB hs) o).grown hg (by simp; omega) (fun k hk => by simp at hk; omega)⟩
end PN
set_option linter.unusedSimpArgs false in
set_option maxHeartbeats 3200000 in
set_option maxRecDepth 100000 in
theorem specRoute_any (a : Option Addr) (ca : Nat) (xs : List I5) (f n t : Int) (w : World) (hn : xs.length ≤ 1048576) (hin : MI5.RowAt w a xs) :
    Calls Try.prog 19 #[.slice a xs.length ca, .int .i64 f, .int .i64 n, .int .i64 t] w fun e w' => ∃ a1 c1, e = .returned (.tuple #[.slice a1 (PN.routeL xs f n t).length c1, .int .i64 (PN.tellN (PN.routeM xs f n t)), .bool (PN.tellB (PN.routeM xs f n t))]) ∧ w'.ownsRow w.heap.size 3 1 (.slice a1 (PN.routeL xs f n t).length c1) (PN.routeL xs f n t).length (M4.iv (PN.routeL xs f n t)) ∧ Below w.heap.size w w' := by
  obtain ⟨i0, hi, hz0, hz1, hz2⟩ := info_parts Try.info3
  have GP : Hid (∀ W : World, MI5.RowAt W a xs → Calls Try.prog 28 #[.slice a xs.length ca] W fun e w' => e = .returned (.bool (PN.okP xs)) ∧ Below W.heap.size W w') := fun W h => specGoodPlan_any a ca xs W hn h _ rfl
  have NI : Hid (∀ W : World, Calls Try.prog 27 #[.int .i64 f] W fun e w' => e = .returned (.bool (decide (0 ≤ f ∧ f ≤ 7))) ∧ W = w') := fun W => nodeS_any f W
  have NT : Hid (∀ W : World, Calls Try.prog 27 #[.int .i64 t] W fun e w' => e = .returned (.bool (decide (0 ≤ t ∧ t ≤ 7))) ∧ W = w') := fun W => nodeS_any t W
  have WI : Hid (∀ W : World, Calls Try.prog 30 #[.int .i64 n] W fun e w' => e = .returned (.bool (decide (0 ≤ n ∧ n ≤ 1000))) ∧ W = w') := fun W => whenS_any n W
  have HI : Hid (MI5.RowAt w a xs) := hin
  clear hin
  obtain ⟨N, hN⟩ : ∃ N, PN.tellN (PN.routeM xs f n t) = N := ⟨_, rfl⟩
  obtain ⟨T, hT⟩ : ∃ T, PN.tellB (PN.routeM xs f n t) = T := ⟨_, rfl⟩
  obtain ⟨L, hL⟩ : ∃ L, PN.routeL xs f n t = L := ⟨_, rfl⟩
  have NO : Hid (PN.askOk xs f n t = false → N = 0 ∧ T = false ∧ L = []) := fun h => by
    have hT' : PN.tellB (PN.routeM xs f n t) = false := by rw [PN.route_no h]; rfl
    rw [← hN, ← hT, ← hL, PN.routeL_no hT', PN.route_no h]; exact ⟨rfl, rfl, rfl⟩
  have YES : Hid (PN.askOk xs f n t = true → N = PN.tellN ((PN.fin xs (PN.st0 f n)).wh t.toNat) ∧ T = PN.tellB ((PN.fin xs (PN.st0 f n)).wh t.toNat) ∧ (T = false → L = []) ∧ (T = true → L = PN.way xs (PN.fin xs (PN.st0 f n)).la f.toNat 8 t.toNat)) := fun h => by
    rw [← hN, ← hT, ← hL, ← PN.route_yes h]; exact ⟨rfl, rfl, PN.routeL_no, PN.routeL_yes⟩
  have CS0 : Hid (PN.askOk xs f n t = true → ∀ W : World, MI5.RowAt W a xs → Calls Try.prog 31 #[.slice a xs.length ca, .int .i64 f, .int .i64 n] W fun e w' => ∃ g1 g2 c1 c2, e = .returned (.tuple #[.slice (some ⟨g1, 0, none⟩) 8 c1, .slice (some ⟨g2, 0, none⟩) 8 c2]) ∧ PN.SR W.heap.size W w' g1 g2 c1 c2 (PN.fin xs (PN.st0 f n))) := fun h W hr => by
    obtain ⟨h0, h1, h2, h3, h4⟩ := PN.start_is (PN.ask_is h).1
    exact l6Search_any a ca xs f n W h0 h1 h2 h3 h4 hr
  rw [hN, hT, hL]
  clear hN hT hL
  obtain ⟨q1, h1⟩ : ∃ q, decide (0 ≤ f ∧ f ≤ 7) = q := ⟨_, rfl⟩
  obtain ⟨q2, h2⟩ : ∃ q, decide (0 ≤ n ∧ n ≤ 1000) = q := ⟨_, rfl⟩
  obtain ⟨q3, h3⟩ : ∃ q, decide (0 ≤ t ∧ t ≤ 7) = q := ⟨_, rfl⟩
  obtain ⟨q0, h0⟩ : ∃ q, PN.okP xs = q := ⟨_, rfl⟩
  have hS : PN.askOk xs f n t = (q0 && q1 && q2 && q3) := by rw [← h0, ← h1, ← h2, ← h3]; rfl
  rw [h0] at GP
  rw [h1] at NI
  rw [h2] at WI
  rw [h3] at NT
  have HS : Hid _ := hS
  clear h0 h1 h2 h3 hS
  go_enter Try.func19, Try.ntmps19
  go_wp2_with fail
  refine (GP.out _ HI.out).mono ?_
  rintro e w1 ⟨rfl, hb1⟩
  have HI1 : Hid (MI5.RowAt w1 a xs) := HI.out.below hb1
  clear GP HI
  cases q0 with
  | false =>
    obtain ⟨rfl, rfl, rfl⟩ := NO.out HS.out
    clear NO YES CS0 NI NT WI HS HI1
    go_wp2
    go_ret3
    exact ⟨none, 0, rfl, World.ownsRow_nil _ _ _ _, hb1⟩
  | true =>
    go_wp2_with fail
    refine (NI.out _).mono ?_
    rintro e w' ⟨rfl, rfl⟩
    clear NI
    cases q1 with
    | false =>
      obtain ⟨rfl, rfl, rfl⟩ := NO.out HS.out
      clear NO YES CS0 NT WI HS HI1
      go_wp2
      go_ret3
      exact ⟨none, 0, rfl, World.ownsRow_nil _ _ _ _, hb1⟩
    | true =>
      go_wp2_with fail
      refine (WI.out _).mono ?_
      rintro e w' ⟨rfl, rfl⟩
      clear WI
      cases q2 with
      | false =>
        obtain ⟨rfl, rfl, rfl⟩ := NO.out HS.out
        clear NO YES CS0 NT HS HI1
        go_wp2
        go_ret3
        exact ⟨none, 0, rfl, World.ownsRow_nil _ _ _ _, hb1⟩
      | true =>
        go_wp2_with fail
        refine (NT.out _).mono ?_
        rintro e w' ⟨rfl, rfl⟩
        clear NT
        cases q3 with
        | false =>
          obtain ⟨rfl, rfl, rfl⟩ := NO.out HS.out
          clear NO YES CS0 HS HI1
          go_wp2
          go_ret3
          exact ⟨none, 0, rfl, World.ownsRow_nil _ _ _ _, hb1⟩
        | true =>
          have hask : PN.askOk xs f n t = true := HS.out
          obtain ⟨hst, ht0, ht1⟩ := PN.ask_is hask
          obtain ⟨hok, hf0, hf1, hn0, hn1⟩ := PN.start_is hst
          have CS : Hid _ := CS0.out hask
          have HY : Hid _ := YES.out hask
          have HOK : Hid _ := hok
          have GC : Hid (∀ k, k < xs.length → PN.Good (MI5.at_ xs k)) := fun k hk => PN.okP_good hok hk
          have HVI : Hid (∃ rk, PN.Via xs f.toNat (PN.fin xs (PN.st0 f n)) rk) := PN.via_fin hok (PN.st0_ok hn0 hn1) (PN.ord_st0 hok) (PN.via_st0 xs hf0 hf1)
          have HOS : Hid (PN.okS (PN.fin xs (PN.st0 f n)).wh) := PN.fin_okS hok (PN.st0_ok hn0 hn1)
          clear NO YES CS0 HS hask hst hok
          obtain ⟨tn, rfl⟩ := Int.eq_ofNat_of_zero_le ht0
          obtain ⟨fn, rfl⟩ := Int.eq_ofNat_of_zero_le hf0
          have ht8 : tn < 8 := by omega
          have tt8 : (tn : Int) < 8 := by omega
          generalize PN.fin xs (PN.st0 (fn : Int) n) = s at *
          rw [show ((tn : Int)).toNat = tn from rfl, show ((fn : Int)).toNat = fn from rfl] at HY
          rw [show ((fn : Int)).toNat = fn from rfl] at HVI
          go_wp2_with fail
          refine (CS.out _ HI1.out).mono ?_
          rintro e w2 ⟨g1, g2, c1, c2, rfl, hR⟩
          have hci := hR.cellA ht8
          have l1 := hR.l1
          have HR : Hid _ := hR
          have hB2 : Below w.heap.size w w2 := hb1.trans (hR.bl.mono hb1.size)
          clear CS hR
          have okt := HOS.out tn
          cases hm : s.wh tn with
          | ago => rw [hm] at okt; exact absurd okt id
          | inf =>
            rw [hm] at hci HY
            obtain ⟨rfl, rfl, hLL, -⟩ := HY.out
            obtain rfl := hLL rfl
            simp only [PN.tS] at hci
            clear HY HOK GC HVI HOS HR HI1 hm okt
            go_wp2
            go_ret3
            exact ⟨none, 0, rfl, World.ownsRow_nil _ _ _ _, hB2⟩
          | fin p =>
            rw [hm] at hci HY okt
            obtain ⟨p0, p1⟩ : 0 ≤ p ∧ p ≤ 1048576 := okt
            obtain ⟨rfl, rfl, -, hLL⟩ := HY.out
            have hLw := hLL rfl
            obtain ⟨rk, hV⟩ := HVI.out
            have HB : Hid (PN.Back xs fn s L tn []) := by show PN.Back _ _ _ _ _ _; rw [hLw]; exact PN.Back.start hV ht8 hm
            have hl8 : L.length ≤ 8 := by rw [hLw]; exact PN.way_len xs s.la fn 8 tn
            clear hLw
            have HI2 : Hid (MI5.RowAt w1 a xs) := HI1.out
            simp only [PN.tS] at hci
            have HM : Hid (s.wh tn = .fin N) := hm
            clear HY hLL hV HVI HOS HI1 hm
            go_wp2
            go_loopw [13, 14] (fun ov nv wr => ∃ (v : Nat) (acc : List Int), nv = .int .i64 v ∧ Hid (PN.Back xs fn s L v acc) ∧ wr.ownsRow w1.heap.size 3 1 ov acc.length (M4.iv acc) ∧ PN.SR w1.heap.size w1 wr g1 g2 c1 c2 s) (fun ov _ _ => 8 - PN.lenV ov)
            case atStart => exact ⟨tn, [], rfl, HB, World.ownsRow_nil _ _ _ _, HR.out⟩
            case round =>
              clear HB HR hB2 hci l1
              obtain ⟨v, acc, rfl, hB, hown, hS⟩ := hrel
              by_cases hv : v = fn
              · obtain rfl := hv
                have hLe := PN.Back.end_ hB.out
                have hci : wr.cell? ⟨g1, tn, none⟩ = some (.int .i64 N) := by have := hS.cellA ht8; rw [HM.out] at this; exact this
                have l1 := hS.l1
                obtain ⟨a3, c3, hov, _⟩ := M5.own_view hown
                rw [hov] at hown ⊢
                have HO : Hid _ := hown
                have HBL : Hid (Below w.heap.size w wr) := hb1.trans (hS.bl.mono hb1.size)
                have HLE : Hid _ := hLe
                clear hB hown hS HOK GC HI2 hov hLe hi hz0 hz1 hz2
                go_wp2
                go_quiet (fail)
                go_wp2
                go_ret3
                exact ⟨a3, c3, by rw [HLE.out]; rfl, by rw [HLE.out]; exact M5.own_below (CS6.own_base HO.out hb1.size) (below_drewN (Below.refl _ wr) _), below_drewN HBL.out _⟩
              · obtain ⟨k, hk1, hk2, hk3, hk4⟩ := PN.Back.next HOK.out hB.out hv
                have hv8 := hB.out.lt
                have vv8 : (v : Int) < 8 := by omega
                have kk0 : (0 : Int) ≤ (k : Int) := by omega
                have kk1 : (k : Int) < (xs.length : Int) := by omega
                have hvf : ((v : Int) != (fn : Int)) = true := by simp; omega
                have cb : wr.cell? ⟨g2, v, none⟩ = some (.int .i64 (k : Int)) := by have := hS.cellB hv8; rw [hk1] at this; exact this
                have l2 := hS.l2
                have G := GC.out k hk2
                obtain ⟨i, hii⟩ := Int.eq_ofNat_of_zero_le G.f0
                have hin : (MI5.at_ xs k).a0.toNat = i := by rw [hii]; rfl
                rw [hin] at hk4
                obtain ⟨b4, off4, hab, hlt4, e0, -⟩ := HI2.out.at hk2
                have HB2 : Hid _ := hk4
                have hbs := hS.bl.size
                have hown0 : (wr.alloc (.cells #[.int .i64 (k : Int)] 3)).ownsRow w1.heap.size 3 1 (.slice (some ⟨wr.heap.size, 0, none⟩) 1 1) 1 [.int .i64 (k : Int)] := PN.own_lit1 wr _ _ hbs
                have HO0 : Hid _ := hown0
                have HOA : Hid _ := World.ownsRow.alloc hown (.cells #[.int .i64 (k : Int)] 3)
                have hl8' : acc.length < 8 := hk3
                have HS : Hid _ := hS
                have e0' := fun (W' : World) (h : PN.SR w1.heap.size w1 W' g1 g2 c1 c2 s) => (h.bl.cell (p := ⟨b4, off4 + k * 5, none⟩) hlt4).trans e0
                clear hB G hin hown0 hk4 e0
                rw [hii] at e0'
                have E0 : Hid _ := e0'
                have LA : Hid (s.la v = some k) := hk1
                clear e0' hk1
                rcases hown.2 with ⟨hov, hac⟩ | ⟨g, cap, cur, hov, hg, hgc⟩
                · subst hov
                  obtain rfl : acc = [] := List.eq_nil_of_length_eq_zero hac
                  have hS1 : PN.SR w1.heap.size w1 (wr.alloc (.cells #[.int .i64 (k : Int)] 3)) g1 g2 c1 c2 s := HS.out.kept (Nat.le_refl _) ((Below.refl _ wr).alloc (Nat.le_refl _) _)
                  have c0 := E0.out _ hS1
                  have cb1 : (wr.alloc (.cells #[.int .i64 (k : Int)] 3)).cell? ⟨g2, v, none⟩ = some (.int .i64 (k : Int)) := by have := hS1.cellB hv8; rw [LA.out] at this; exact this
                  have hb4 : b4 < (wr.alloc (.cells #[.int .i64 (k : Int)] 3)).heap.size := Nat.lt_of_lt_of_le hlt4 hS1.bl.size
                  have HS1 : Hid _ := hS1
                  clear hown HS hS hS1 HOA E0 LA
                  subst hab
                  go_wp2_with (at_builtin; refine wpList_append_own_none rfl _ _ 35 rfl w1.heap.size 3 i0 1 Try.underlying35 hi _ _ _ rfl HO0.out rfl ?_)
                  go_roundw
                  case rel => exact ⟨i, [(k : Int)], rfl, HB2, HO0.out, HS1.out⟩
                  case measure => simp [PN.lenV]
                · subst hov
                  have HRN : Hid (∀ j u, (M4.iv acc)[j]? = some u → (wr.alloc (.cells #[.int .i64 (k : Int)] 3)).cell? ((⟨g, 0, none⟩ : Addr).add j) = some u) := fun j u hj => by
                    have hjl : j < acc.length := by have := (List.getElem?_eq_some_iff.1 hj).1; simpa [M4.iv] using this
                    have hadd : (⟨g, 0, none⟩ : Addr).add j = ⟨g, j, none⟩ := by unfold Addr.add; split <;> simp_all
                    rw [hadd, World.ownsRow.cellAt HOA.out j (by omega)]; exact hj
                  clear hown hS hgc hg
                  subst hab
                  go_wp2_with (at_builtin; refine wpList_append_own _ rfl _ _ 35 rfl w1.heap.size 3 i0 (.int .i64 0) 1 8 Try.underlying35 hi hz0 hz1 hz2 rfl (by decide) _ _ _ rfl HO0.out ⟨g, 0, none⟩ acc.length cap (M4.iv acc) rfl ?c0 ?c1 ?c2 ?c3 ?c4 ?c5 ?_)
                  case c0 => simp [M4.iv]
                  case c1 => exact HRN.out
                  case c2 => intro u hu; simp only [M4.iv, List.mem_map] at hu; obtain ⟨z, _, rfl⟩ := hu; rfl
                  case c3 => unfold maxLen; omega
                  case c4 => omega
                  case c5 => simp; omega
                  intro v' w3 hown1 hgrow _
                  have hS3 : PN.SR w1.heap.size w1 w3 g1 g2 c1 c2 s := HS.out.grown (Nat.le_refl _) hgrow
                  have R1 : Hid (w3.ownsRow w1.heap.size 3 1 v' ((k : Int) :: acc).length (M4.iv ((k : Int) :: acc))) := by
                    show w3.ownsRow _ _ _ _ _ _
                    rw [List.length_cons, Nat.add_comm acc.length 1]; exact hown1
                  have hlv := PN.own_len R1.out
                  have c0 := E0.out _ hS3
                  have cb1 : w3.cell? ⟨g2, v, none⟩ = some (.int .i64 (k : Int)) := by have := hS3.cellB hv8; rw [LA.out] at this; exact this
                  have hb4 : b4 < w3.heap.size := Nat.lt_of_lt_of_le hlt4 hS3.bl.size
                  have l23 := hS3.l2
                  have HS3 : Hid _ := hS3
                  clear hown1 hgrow HS HOA HO0 E0 LA HRN hS3 l2 cb
                  go_wp2
                  go_roundw
                  case rel => exact ⟨i, (k : Int) :: acc, rfl, HB2, R1.out, HS3.out⟩
                  case measure => simp only [PN.lenV] at *; rw [hlv]; simp; omega
end Go.Proofs.Ytlkioijpdlalhaa
