/- What FnLatest asks: plain facts. -/
import Derived.Test.YtobdgmopflccfaaM6L
import Derived.Test.YtobdgmopflccfaaCEarliest
import Derived.Test.YtobdgmopflccfaaCLatestS
namespace Go.Proofs.Ytobdgmopflccfaa
open Go.RowKit
namespace PN
open FL
/-- The latest time: who starts then is there in time, and who starts later is not. -/
structure LQ (xs : List I5) (f t b m : Int) : Prop where
  m0 : 0 ≤ m
  m1 : m ≤ 1000
  t0 : 0 ≤ t
  t1 : t ≤ 7
  now : startOk xs f m = true ∧ (earL xs f m).length = 8 ∧ 0 ≤ (earL xs f m).getD t.toNat 0 ∧ (earL xs f m).getD t.toNat 0 ≤ b
  late : m < 1000 → startOk xs f (m + 1) = true ∧ (earL xs f (m + 1)).length = 8 ∧ ((earL xs f (m + 1)).getD t.toNat 0 < 0 ∨ b < (earL xs f (m + 1)).getD t.toNat 0)
theorem earL_get {xs : List I5} {f n : Int} (h : startOk xs f n = true) {i : Nat} (hi : i < 8) : (earL xs f n).getD i 0 = tS ((fin xs (st0 f n)).wh i) := by
  rw [earL_yes h, List.getD_eq_getElem?_getD, whL_get _ hi]; rfl
theorem lq_of {xs : List I5} {f t b m : Int} (h : latR xs f t b = some m) : LQ xs f t b m := by
  have ha : askL xs f t b = true := by
    cases c : askL xs f t b with
    | true => rfl
    | false => rw [latR_no c] at h; cases h
  rw [latR_yes ha] at h
  obtain ⟨hok, f0, f1, t0, t1, b0, b1⟩ := askL_is ha
  have hL : Lst xs t.toNat b f.toNat m := by
    unfold latA at h
    split at h
    · rename_i he
      have := Option.some.inj h
      rw [← this]; exact he.choose_spec
    · cases h
  obtain ⟨m0, m1, hR, hN⟩ := hL
  have ht8 : t.toNat < 8 := by omega
  have hs : ∀ n, 0 ≤ n → n ≤ 1000 → startOk xs f n = true := fun n h0 h1 => by
    rw [startOk, hok, decide_eq_true (show 0 ≤ f ∧ f ≤ 7 from ⟨f0, f1⟩), decide_eq_true (show 0 ≤ n ∧ n ≤ 1000 from ⟨h0, h1⟩)]; rfl
  refine ⟨m0, m1, t0, t1, ⟨hs m m0 m1, by rw [earL_yes (hs m m0 m1), whL_len], ?_⟩, fun hlt => ⟨hs (m + 1) (by omega) (by omega), by rw [earL_yes (hs (m + 1) (by omega) (by omega)), whL_len], ?_⟩⟩
  · obtain ⟨y, hy, hyb⟩ := (front_iff hok (t := t.toNat) (by_ := b) (f := f) (n := m) m0 m1).2 hR
    have ho := fin_okS hok (st0_ok (f := f) m0 m1) t.toNat
    rw [hy] at ho
    rw [earL_get (hs m m0 m1) ht8, hy]
    exact ⟨ho.1, hyb⟩
  · have hn := hN (m + 1) (by omega) (by omega)
    rw [earL_get (hs (m + 1) (by omega) (by omega)) ht8]
    cases hc : (fin xs (st0 f (m + 1))).wh t.toNat with
    | fin y =>
      right
      refine Int.not_le.1 fun hle => hn ?_
      exact (front_iff hok (t := t.toNat) (by_ := b) (f := f) (n := m + 1) (by omega) (by omega)).1 ⟨y, hc, hle⟩
    | inf => left; show tS .inf < 0; decide
    | ago =>
      have ho := fin_okS hok (st0_ok (f := f) (n := m + 1) (by omega) (by omega)) t.toNat
      rw [hc] at ho; exact absurd ho id
end PN
end Go.Proofs.Ytobdgmopflccfaa
