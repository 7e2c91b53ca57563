/- The law FnFlood answers true, whatever the bytes. -/
import Derived.Test.YtdimdhiknjimaaaRows
import Derived.Test.YtdimdhiknjimaaaCEarF
import Derived.Test.YtdimdhiknjimaaaCWhenTo
import Derived.Test.YtdimdhiknjimaaaMCurNew
import Derived.Test.YtdimdhiknjimaaaCHasM
import Derived.Test.YtdimdhiknjimaaaCSameInts
import Derived.WalkKit
import Derived.WalkSpells
import Derived.WalkLawsBesides
import Derived.Outline
import Derived.Deep.QuietTactic
import Derived.BigQuiet
namespace Go.Proofs.Ytdimdhiknjimaaa
open Go.RowKit
namespace PN
theorem fr_mem (E : Nat → FL.Mo) (u : Int) (n k : Nat) : ((k : Int) ∈ frL E u n) ↔ k < n ∧ inB u (E k) = true := by
  induction n with
  | zero => simp [frL]
  | succ n ih =>
    rw [frL]
    split
    · rename_i h
      rw [List.mem_append, ih]
      simp only [List.mem_singleton]
      constructor
      · rintro (⟨h1, h2⟩ | h1)
        · exact ⟨by omega, h2⟩
        · have : k = n := by omega
          subst this; exact ⟨by omega, h⟩
      · rintro ⟨h1, h2⟩
        by_cases e : k = n
        · exact .inr (by omega)
        · exact .inl ⟨by omega, h2⟩
    · rename_i h
      rw [ih]
      constructor
      · rintro ⟨h1, h2⟩; exact ⟨by omega, h2⟩
      · rintro ⟨h1, h2⟩
        refine ⟨?_, h2⟩
        by_cases e : k = n
        · subst e; exact absurd h2 h
        · omega
theorem in_tS {u : Int} {m : FL.Mo} (hm : okT m) : inB u m = (decide (0 ≤ tS m) && decide (tS m ≤ u)) := by
  cases m with
  | fin e => have h0 : 0 ≤ e := hm.1; show decide (e ≤ u) = (decide (0 ≤ e) && decide (e ≤ u)); rw [decide_eq_true h0]; simp
  | inf => rfl
  | ago => exact absurd hm id
theorem fr_has {E : Nat → FL.Mo} {u : Int} {k : Nat} (hk : k < 8) (hm : okT (E k)) : EG.hasB (frL E u 8) (k : Int) = (decide (0 ≤ tS (E k)) && decide (tS (E k) ≤ u)) := by
  rw [← in_tS hm]
  cases h : inB u (E k) with
  | true => exact decide_eq_true ((fr_mem E u 8 k).2 ⟨hk, h⟩)
  | false => exact decide_eq_false (fun hm2 => by have := ((fr_mem E u 8 k).1 hm2).2; rw [h] at this; cases this)
end PN
set_option maxHeartbeats 1600000 in
set_option maxRecDepth 100000 in
theorem drawFlood_any (a : Option Addr) (zs : List Int) (cap : Nat) (w : World) (hz : zs.length ≤ 140737488355328) (hb : MC.BytesAt w w.heap.size a zs) :
    Calls Try.prog 4 #[.slice a zs.length cap] w fun e w' => ∃ (a1 : Option Addr) (c1 : Nat) (xs : List I5) (f n u : Int), e = .returned (.tuple #[.slice a1 xs.length c1, .int .i64 f, .int .i64 n, .int .i64 u]) ∧ xs.length ≤ 21 ∧ MI5.RowAt w' a1 xs ∧ Below w.heap.size w w' := by
  go_enter Try.func4, Try.ntmps4
  go_wp2_with fail
  refine (plan_any w.heap.size a zs cap 0 _ hz (by omega) (cur_new hb)).mono ?_
  rintro e w1 ⟨a1, c1, xs, rfl, hxl, hX, hc1, ho1⟩
  have hplt := hc1.lt
  clear hb
  go_wp2_with fail
  refine (pick_any w.heap.size a zs cap (0 + 300) _ _ hz (by omega) hc1).mono ?_
  rintro e w2 ⟨f, rfl, _, _, hc2, ho2⟩
  go_wp2_with fail
  refine (whenTo_any w.heap.size a zs cap (0 + 300 + 2) _ hz (by omega) hc2).mono ?_
  rintro e w3 ⟨n, rfl, _, hc3, ho3⟩
  go_wp2_with fail
  refine (whenTo_any w.heap.size a zs cap (0 + 300 + 2 + 4) _ hz (by omega) hc3).mono ?_
  rintro e w4 ⟨u, rfl, _, hc4, ho4⟩
  have hB := new_below rfl (((ho1.trans ho2).trans ho3).trans ho4)
  have hXo := MC.own_only hX ((ho2.trans ho3).trans ho4) (by simp)
  have hR : MI5.RowAt w4 a1 xs := by
    obtain ⟨a9, c9, e9, hR9⟩ := PLD.own_row5 hXo
    simp only [Value.slice.injEq] at e9
    obtain ⟨rfl, -, -⟩ := e9
    exact hR9
  have HF : Hid _ := And.intro hR hB
  clear hX hXo hR hB ho1 ho2 ho3 ho4 hc1 hc2 hc3 hc4
  go_wp2
  exact bodyPost_ret (v := .tuple #[.slice a1 xs.length c1, .int .i64 (f : Int), .int .i64 n, .int .i64 u]) (by simp [results, Try.results4, go_sem]) rfl ⟨a1, c1, xs, (f : Int), n, u, rfl, hxl, HF.out.1, HF.out.2⟩
set_option linter.unusedSimpArgs false in
set_option maxHeartbeats 3200000 in
set_option maxRecDepth 100000 in
theorem lawFnFlood_any (a : Option Addr) (zs : List Int) (ca : Nat) (w : World) (hz : zs.length ≤ 140737488355328) (hbz : MC.BytesAt w w.heap.size a zs) :
    Calls Try.prog 3 #[.slice a zs.length ca] w fun e w' => e = .returned (.bool true) ∧ Below w.heap.size w w' := by
  by_cases h20 : zs.length ≤ 1048576
  · have DL : Hid (Calls _ _ _ _ _) := drawFlood_any a zs ca w hz hbz
    clear hbz
    go_enter Try.func3, Try.ntmps3
    go_wp2_with fail
    refine Calls.mono DL.out ?_
    rintro e w1 ⟨a1, c1, xs, f, n, u, rfl, hxl, hR, B⟩
    clear DL
    have IF : Hid (∀ W : World, Below w1.heap.size w1 W → Calls Try.prog 5 #[.slice a1 xs.length c1, .int .i64 f, .int .i64 n, .int .i64 u] W fun e w' => ∃ a1 c1, e = .returned (.tuple #[.slice a1 (PN.fdL xs f n u).length c1, .bool (PN.fdOk xs f n u)]) ∧ w'.ownsRow W.heap.size 3 1 (.slice a1 (PN.fdL xs f n u).length c1) (PN.fdL xs f n u).length (M4.iv (PN.fdL xs f n u)) ∧ Below W.heap.size W w') := fun W hb => implFlood_any a1 c1 xs f n u W (by omega) (hR.below hb)
    have SF : Hid (∀ W : World, Below w1.heap.size w1 W → Calls Try.prog 6 #[.slice a1 xs.length c1, .int .i64 f, .int .i64 n, .int .i64 u] W fun e w' => ∃ a1 c1, e = .returned (.tuple #[.slice a1 (PN.fdL xs f n u).length c1, .bool (PN.fdOk xs f n u)]) ∧ w'.ownsRow W.heap.size 3 1 (.slice a1 (PN.fdL xs f n u).length c1) (PN.fdL xs f n u).length (M4.iv (PN.fdL xs f n u)) ∧ Below W.heap.size W w') := fun W hb => specFlood_any a1 c1 xs f n u W (by omega) (hR.below hb)
    have EF : Hid (∀ W : World, Below w1.heap.size w1 W → Calls Try.prog 8 #[.slice a1 xs.length c1, .int .i64 f, .int .i64 n] W fun e w' => ∃ a1 c1, e = .returned (.tuple #[.slice a1 (PN.earF xs f n).length c1, .bool (PN.stOk xs f n)]) ∧ w'.ownsRow W.heap.size 3 1 (.slice a1 (PN.earF xs f n).length c1) (PN.earF xs f n).length (M4.iv (PN.earF xs f n)) ∧ Below W.heap.size W w') := fun W hb => implEarF_any a1 c1 xs f n W (by omega) (hR.below hb)
    have HK : Hid (PN.fdOk xs f n u = true → PN.stOk xs f n = true ∧ (PN.earF xs f n).length = 8 ∧ ∀ k : Nat, k < 8 → EG.hasB (PN.fdL xs f n u) (k : Int) = (decide (0 ≤ (PN.earF xs f n).getD k 0) && decide ((PN.earF xs f n).getD k 0 ≤ u))) := fun h => by
      have h1 : PN.stOk xs f n = true ∧ PN.whenOk u = true := by
        have h' : (PN.stOk xs f n && PN.whenOk u) = true := h
        simpa [Bool.and_eq_true] using h'
      obtain ⟨hok, f0, f1, n0, n1⟩ := PN.stOk_is h1.1
      have hE := PN.earF_yes h1.1
      have hL : PN.fdL xs f n u = PN.frL (PN.eaW xs f n) u 8 := if_pos h
      refine ⟨h1.1, by rw [hE, PN.whL_len], fun k hk => ?_⟩
      rw [hL, hE, List.getD_eq_getElem?_getD, PN.whL_get _ hk]
      exact PN.fr_has hk ((PN.fin_okS hok (PN.st0_ok (f := f) n0 n1)) k)
    have HN : Hid (PN.fdOk xs f n u = false → PN.fdL xs f n u = []) := fun h => by unfold PN.fdL; rw [h]; rfl
    have hL8 := PN.fdL_len xs f n u
    clear hR
    generalize PN.fdL xs f n u = L at *
    generalize PN.fdOk xs f n u = K at *
    generalize PN.earF xs f n = E at *
    generalize PN.stOk xs f n = K2 at *
    have hKK : (K == K) = true := by simp
    go_wp2_with fail
    refine Calls.mono (IF.out _ (Below.refl _ _)) ?_
    rintro e w2 ⟨a2, c2, rfl, ho, hb2⟩
    have r2 : Hid (M4.IntsAt w2 a2 L) := M5.own_ints ho
    clear ho IF
    go_wp2_with fail
    refine Calls.mono (SF.out _ hb2) ?_
    rintro e w3 ⟨a3, c3, rfl, ho, hb3⟩
    have r3 : Hid (M4.IntsAt w3 a3 L) := M5.own_ints ho
    replace r2 : Hid (M4.IntsAt w3 a2 L) := M4.IntsAt.below r2.out hb3
    have B3 := hb2.trans (hb3.mono hb2.size)
    clear ho SF hb2 hb3
    go_wp2_with fail
    refine (sameInts_any a2 a3 c2 c3 L L w3 (by omega) (by omega) r2.out r3.out).mono ?_
    rintro e w4 ⟨rfl, hb4⟩
    replace r2 : Hid (M4.IntsAt w4 a2 L) := M4.IntsAt.below r2.out hb4
    replace B3 := B3.trans (hb4.mono B3.size)
    clear hb4 r3
    cases K with
    | false =>
      obtain rfl := HN.out rfl
      have HB : Hid _ := B.trans (B3.mono B.size)
      clear HN HK EF B B3 r2
      go_wp2
      go_ret
      exact ⟨rfl, HB.out⟩
    | true =>
      obtain ⟨rfl, hE8, hH⟩ := HK.out rfl
      clear HK HN
      go_wp2_with fail
      refine Calls.mono (EF.out _ B3) ?_
      rintro e w5 ⟨a5, c5, rfl, ho, hb5⟩
      have r5 : Hid (M4.IntsAt w5 a5 E) := M5.own_ints ho
      replace r2 : Hid (M4.IntsAt w5 a2 L) := M4.IntsAt.below r2.out hb5
      have HB : Hid _ := B.trans ((B3.trans (hb5.mono B3.size)).mono B.size)
      have HAS : Hid (∀ z : Int, Calls Try.prog 9 #[.slice a2 L.length c2, .int .i64 z] w5 fun e w' => e = .returned (.bool (EG.hasB L z)) ∧ w5 = w') := fun z => hasL_any a2 c2 L z w5 (by omega) r2.out
      have HH : Hid _ := hH
      clear ho hb5 B3 B EF r2 hH
      rw [hE8]
      have HE8 : Hid _ := hE8
      clear hE8
      go_wp2
      go_loopw [66] (fun iv wr => ∃ k : Nat, iv = .int .i64 k ∧ k ≤ 8 ∧ w5 = wr) (fun iv _ => (8 - intOf iv).toNat)
      case atStart => exact ⟨0, rfl, by omega, rfl⟩
      case round =>
        obtain ⟨k, rfl, hk, rfl⟩ := hrel
        by_cases hl : k < 8
        · obtain ⟨b6, off6, rfl, hlt6, hc6⟩ := M4.IntsAt.at r5.out (k := k) (by rw [HE8.out]; exact hl)
          have hh := HH.out k hl
          have hH1 : Hid (Calls _ _ _ _ _) := HAS.out (k : Int)
          clear HH HAS r5 HE8
          generalize E.getD k 0 = t at *
          rw [hh] at hH1
          clear hh
          by_cases h0 : 0 ≤ t
          · have b1 : decide (0 ≤ t) = true := decide_eq_true h0
            by_cases hu : t ≤ u
            · have b2 : decide (t ≤ u) = true := decide_eq_true hu
              rw [b1, b2] at hH1
              clear h0 hu
              go_wp2_with fail
              refine Calls.mono hH1.out ?_
              rintro e w6 ⟨rfl, rfl⟩
              clear hH1
              go_wp2
              go_roundw
              case rel => exact ⟨k + 1, by go_num, by omega, trivial⟩
              case measure => simp [intOf]; omega
            · have b2 : decide (t ≤ u) = false := decide_eq_false hu
              rw [b1, b2] at hH1
              clear h0 hu
              go_wp2_with fail
              refine Calls.mono hH1.out ?_
              rintro e w6 ⟨rfl, rfl⟩
              clear hH1
              go_wp2
              go_roundw
              case rel => exact ⟨k + 1, by go_num, by omega, trivial⟩
              case measure => simp [intOf]; omega
          · have b1 : decide (0 ≤ t) = false := decide_eq_false h0
            rw [b1, Bool.false_and] at hH1
            clear h0
            go_wp2_with fail
            refine Calls.mono hH1.out ?_
            rintro e w6 ⟨rfl, rfl⟩
            clear hH1
            go_wp2
            go_roundw
            case rel => exact ⟨k + 1, by go_num, by omega, trivial⟩
            case measure => simp [intOf]; omega
        · obtain rfl : k = 8 := by omega
          clear HH HAS r5 HE8
          go_wp2
          go_ret
          exact ⟨rfl, HB.out⟩
  · clear hbz
    go_enter Try.func3, Try.ntmps3
    go_wp2
    go_ret
    exact ⟨rfl, Below.refl _ _⟩
end Go.Proofs.Ytdimdhiknjimaaa
