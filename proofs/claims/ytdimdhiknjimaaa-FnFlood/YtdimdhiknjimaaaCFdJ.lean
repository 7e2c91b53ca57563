/- impl.FloodUntil, and the specification's in the same words. -/
import Derived.Test.YtdimdhiknjimaaaRows
import Derived.Test.YtdimdhiknjimaaaCFdI
import Derived.Test.YtdimdhiknjimaaaCFdS
import Derived.Test.YtdimdhiknjimaaaCColl
import Derived.WalkKit
import Derived.WalkSpells
import Derived.WalkLawsBesides
import Derived.Outline
namespace Go.Proofs.Ytdimdhiknjimaaa
open Go.RowKit
namespace PN
theorem nv_fr {E : Nat → FL.Mo} {u : Int} (k : Nat) (hk : k ≤ 8) : SP.nv (SP.up 8 (fun k => inB u (E k)) k) = frL E u k := by
  induction k with
  | zero => rfl
  | succ k ih =>
    have ih := ih (by omega)
    cases hb : inB u (E k) with
    | true => rw [SP.up_yes (by omega : k < 8) hb, SP.nv_snoc, frL_yes hb, ih]
    | false => rw [SP.up_no hb, frL_no hb, ih]
end PN
set_option maxHeartbeats 800000 in
set_option maxRecDepth 100000 in
theorem isStartB_any (a : Option Addr) (ca : Nat) (xs : List I5) (f n : Int) (w : World) (hn : xs.length ≤ 1048576) (hin : MI5.RowAt w a xs) :
    Calls Try.prog 13 #[.slice a xs.length ca, .int .i64 f, .int .i64 n] w fun e w' => e = .returned (.bool (PN.okP xs && PN.nodeOk f && PN.whenOk n)) ∧ Below w.heap.size w w' := by
  have GP : Hid (Calls _ _ _ _ _) := implGoodPlan_any a ca xs w hn hin _ rfl
  have NI : Hid (∀ W : World, Calls Try.prog 26 #[.int .i64 f] W fun e w' => e = .returned (.bool (PN.nodeOk f)) ∧ W = w') := fun W => nodeI_any f W
  have WI : Hid (∀ W : World, Calls Try.prog 14 #[.int .i64 n] W fun e w' => e = .returned (.bool (PN.whenOk n)) ∧ W = w') := fun W => whenI_any n W
  clear hin
  generalize PN.nodeOk f = q1 at *
  generalize PN.whenOk n = q2 at *
  generalize PN.okP xs = q0 at *
  go_enter Try.func13, Try.ntmps13
  go_wp2_with fail
  refine Calls.mono GP.out ?_
  rintro e w1 ⟨rfl, hb1⟩
  clear GP
  cases q0 with
  | false =>
    go_wp2
    go_ret
    exact ⟨rfl, hb1⟩
  | true =>
    go_wp2_with fail
    refine (NI.out _).mono ?_
    rintro e w2 ⟨rfl, rfl⟩
    cases q1 with
    | false =>
      go_wp2
      go_ret
      exact ⟨rfl, hb1⟩
    | true =>
      go_wp2_with fail
      refine (WI.out _).mono ?_
      rintro e w2 ⟨rfl, rfl⟩
      go_wp2
      go_ret
      exact ⟨by cases q2 <;> rfl, hb1⟩
set_option maxHeartbeats 1600000 in
set_option maxRecDepth 100000 in
theorem implFlood_any (a : Option Addr) (ca : Nat) (xs : List I5) (f n u : Int) (w : World) (hz : xs.length ≤ 1048576) (hin : MI5.RowAt w a xs) :
    Calls Try.prog 5 #[.slice a xs.length ca, .int .i64 f, .int .i64 n, .int .i64 u] w fun e w' => ∃ a1 c1, e = .returned (.tuple #[.slice a1 (PN.fdL xs f n u).length c1, .bool (PN.fdOk xs f n u)]) ∧ w'.ownsRow w.heap.size 3 1 (.slice a1 (PN.fdL xs f n u).length c1) (PN.fdL xs f n u).length (M4.iv (PN.fdL xs f n u)) ∧ Below w.heap.size w w' := by
  have IS : Hid (Calls _ _ _ _ _) := isStartB_any a ca xs f n w hz hin
  have WI : Hid (∀ W : World, Calls Try.prog 14 #[.int .i64 u] W fun e w' => e = .returned (.bool (PN.whenOk u)) ∧ W = w') := fun W => whenI_any u W
  have hfd : PN.fdOk xs f n u = ((PN.okP xs && PN.nodeOk f && PN.whenOk n) && PN.whenOk u) := rfl
  have hL : PN.fdL xs f n u = if PN.fdOk xs f n u = true then PN.frL (PN.eaW xs f n) u 8 else [] := rfl
  rw [hL, hfd]
  clear hL hfd
  cases hs : (PN.okP xs && PN.nodeOk f && PN.whenOk n) with
  | false =>
    rw [hs] at IS
    simp only [Bool.false_and, Bool.false_eq_true, if_false]
    clear hs hin hz
    go_enter Try.func5, Try.ntmps5
    go_wp2_with fail
    refine Calls.mono IS.out ?_
    rintro e w1 ⟨rfl, hb1⟩
    clear IS
    go_wp2
    go_ret2
    exact ⟨none, 0, rfl, World.ownsRow_nil _ _ _ _, hb1⟩
  | true =>
    cases hu : PN.whenOk u with
    | false =>
      rw [hs] at IS
      rw [hu] at WI
      simp only [Bool.and_false, Bool.false_eq_true, if_false]
      clear hs hu hin hz
      go_enter Try.func5, Try.ntmps5
      go_wp2_with fail
      refine Calls.mono IS.out ?_
      rintro e w1 ⟨rfl, hb1⟩
      clear IS
      go_wp2_with fail
      refine (WI.out _).mono ?_
      rintro e w2 ⟨rfl, rfl⟩
      go_wp2
      go_ret2
      exact ⟨none, 0, rfl, World.ownsRow_nil _ _ _ _, hb1⟩
    | true =>
      have hs' := hs
      simp only [Bool.and_eq_true] at hs'
      obtain ⟨⟨hok, hf⟩, hn⟩ := hs'
      obtain ⟨f0, f1⟩ := PN.node_yes hf
      obtain ⟨n0, n1⟩ := PN.when_yes hn
      obtain ⟨u0, u1⟩ := PN.when_yes hu
      rw [hs] at IS
      rw [hu] at WI
      simp only [Bool.and_true, if_true]
      have JF : Hid (∀ W : World, Below w.heap.size w W → Calls Try.prog 16 #[.slice a xs.length ca, .int .i64 f, .int .i64 n] W fun e w' => e = .returned (.agg (PN.jc f (PN.wb (PN.fin xs (PN.st0 f n))) (PN.lb (PN.fin xs (PN.st0 f n)))).toArray) ∧ Below W.heap.size W w') := fun W hb => journeyFrom_any a ca xs f n W hok f0 f1 n0 n1 (hin.below hb)
      have hokS := PN.fin_okS hok (PN.st0_ok (f := f) n0 n1)
      have CO : Hid (∀ W1 : World, Calls Try.prog 15 #[.func (.func 38) #[] #[.pointer (some ⟨W1.heap.size + 1 + 1, 0, none⟩), .pointer (some ⟨W1.heap.size + 1 + 1 + 1, 0, none⟩)]] (PN.jW W1 (PN.jc f (PN.wb (PN.fin xs (PN.st0 f n))) (PN.lb (PN.fin xs (PN.st0 f n)))).toArray u) fun e w' => ∃ v, e = .returned v ∧ w'.ownsRow (PN.jW W1 (PN.jc f (PN.wb (PN.fin xs (PN.st0 f n))) (PN.lb (PN.fin xs (PN.st0 f n)))).toArray u).heap.size 3 1 v (PN.frL (PN.eaW xs f n) u 8).length (M4.iv (PN.frL (PN.eaW xs f n) u 8)) ∧ Below (PN.jW W1 (PN.jc f (PN.wb (PN.fin xs (PN.st0 f n))) (PN.lb (PN.fin xs (PN.st0 f n)))).toArray u).heap.size (PN.jW W1 (PN.jc f (PN.wb (PN.fin xs (PN.st0 f n))) (PN.lb (PN.fin xs (PN.st0 f n)))).toArray u) w') := fun W1 => by
        have ST := thereBy_stops 9 (by omega) W1.heap.size f (PN.fin xs (PN.st0 f n)) u u0 u1 hokS (W1.heap.size + 4) (W1.heap.size + 4) W1 _ rfl rfl (.inr (Nat.le_refl _)) (.inr (Nat.le_refl _))
        have hN : W1.heap.size + 4 ≤ (PN.jW W1 (PN.jc f (PN.wb (PN.fin xs (PN.st0 f n))) (PN.lb (PN.fin xs (PN.st0 f n)))).toArray u).heap.size := by simp [PN.jW]
        have := collect_any (by omega) _ _ _ _ (Below.refl _ _) hN ST
        rw [PN.nv_fr 8 (by omega)] at this
        exact this
      have HJW : Hid (∀ W1 : World, Below W1.heap.size W1 (PN.jW W1 (PN.jc f (PN.wb (PN.fin xs (PN.st0 f n))) (PN.lb (PN.fin xs (PN.st0 f n)))).toArray u)) := fun W1 => ((((Below.refl _ _).alloc (Nat.le_refl _) _).alloc (by simp) _).alloc (by simp; omega) _).alloc (by simp; omega) _
      have THB : Hid (∀ W : World, Calls Try.prog 17 #[.agg (PN.jc f (PN.wb (PN.fin xs (PN.st0 f n))) (PN.lb (PN.fin xs (PN.st0 f n)))).toArray, .int .i64 u] W fun e w' => e = .returned (.func (.func 38) #[] #[.pointer (some ⟨W.heap.size + 1 + 1, 0, none⟩), .pointer (some ⟨W.heap.size + 1 + 1 + 1, 0, none⟩)]) ∧ w' = PN.jW W (PN.jc f (PN.wb (PN.fin xs (PN.st0 f n))) (PN.lb (PN.fin xs (PN.st0 f n)))).toArray u) := fun W => thereBy_any _ u W
      clear hs hu hok hf hn hokS hin
      generalize PN.frL (PN.eaW xs f n) u 8 = L at *
      generalize (PN.jc f (PN.wb (PN.fin xs (PN.st0 f n))) (PN.lb (PN.fin xs (PN.st0 f n)))).toArray = jv at *
      go_enter Try.func5, Try.ntmps5
      go_wp2_with fail
      refine Calls.mono IS.out ?_
      rintro e w1 ⟨rfl, hb1⟩
      clear IS
      go_wp2_with fail
      refine (WI.out _).mono ?_
      rintro e w2 ⟨rfl, rfl⟩
      clear WI
      go_wp2_with fail
      refine Calls.mono (JF.out _ hb1) ?_
      rintro e w2 ⟨rfl, hb2⟩
      have B2 := hb1.trans (hb2.mono hb1.size)
      clear JF hb1 hb2
      go_wp2_with fail
      refine Calls.mono (THB.out _) ?_
      rintro e w3 ⟨rfl, hw3⟩
      have hjw := HJW.out w2
      rw [← hw3] at hjw
      have COL := CO.out w2
      rw [← hw3] at COL
      have HCOL : Hid (Calls _ _ _ _ _) := COL
      have B3 := B2.trans (hjw.mono B2.size)
      clear CO HJW THB hw3 hjw COL B2
      go_wp2_with fail
      refine Calls.mono HCOL.out ?_
      rintro e w4 ⟨v, rfl, ho, hb⟩
      have B4 := B3.trans (hb.mono B3.size)
      obtain ⟨a1, c1, rfl, -⟩ := M5.own_view ho
      have HO := CS6.own_base ho B3.size
      have HOH : Hid _ := And.intro HO B4
      clear HCOL ho hb B3 B4 HO
      go_wp2
      go_ret2
      exact ⟨a1, c1, rfl, HOH.out.1, HOH.out.2⟩
theorem specFlood_any (a : Option Addr) (ca : Nat) (xs : List I5) (f n u : Int) (w : World) (hz : xs.length ≤ 1048576) (hin : MI5.RowAt w a xs) :
    Calls Try.prog 6 #[.slice a xs.length ca, .int .i64 f, .int .i64 n, .int .i64 u] w fun e w' => ∃ a1 c1, e = .returned (.tuple #[.slice a1 (PN.fdL xs f n u).length c1, .bool (PN.fdOk xs f n u)]) ∧ w'.ownsRow w.heap.size 3 1 (.slice a1 (PN.fdL xs f n u).length c1) (PN.fdL xs f n u).length (M4.iv (PN.fdL xs f n u)) ∧ Below w.heap.size w w' := by
  cases h : PN.fdOk xs f n u with
  | true => exact specFlood_yes a ca xs f n u w hz hin h
  | false =>
    have hL : PN.fdL xs f n u = [] := by unfold PN.fdL; rw [h]; rfl
    rw [hL]
    refine (specFlood_no a ca xs f n u w hz hin h).mono ?_
    rintro e w' ⟨rfl, hb⟩
    exact ⟨none, 0, rfl, World.ownsRow_nil _ _ _ _, hb⟩
end Go.Proofs.Ytdimdhiknjimaaa
