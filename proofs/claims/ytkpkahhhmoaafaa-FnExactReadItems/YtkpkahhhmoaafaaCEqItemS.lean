/- The laws' eqItemS tells whether two slices hold the same items. -/
import Derived.Test.YtkpkahhhmoaafaaRows
import Derived.Test.YtkpkahhhmoaafaaM11
import Derived.Test.YtkpkahhhmoaafaaCEqItem
import Derived.WalkKit
import Derived.WalkSpells
import Derived.WalkLawsBesides
import Derived.Outline
import Derived.Deep.RegionWith
namespace Go.Proofs.Ytkpkahhhmoaafaa
open Go.RowKit
theorem items_take_ne {xs ys : List It} {k : Nat} (h : M11.at_ xs k ≠ M11.at_ ys k) : xs ≠ ys := fun e => h (by rw [e])
theorem items_take_eq {xs ys : List It} {k : Nat} (hx : k < xs.length) (hy : k < ys.length) (h : xs.take k = ys.take k) (e : M11.at_ xs k = M11.at_ ys k) : xs.take (k + 1) = ys.take (k + 1) := by
  rw [List.take_succ_eq_append_getElem hx, List.take_succ_eq_append_getElem hy, h, ← M11.at_eq xs k hx, ← M11.at_eq ys k hy, e]
open Classical in
set_option maxHeartbeats 1600000 in
set_option maxRecDepth 100000 in
theorem eqItemS_any (a b : Option Addr) (ca cb : Nat) (xs ys : List It) (w : World) (hx : xs.length ≤ 140737488355328) (hy : ys.length ≤ 140737488355328) (hax : M11.ItemsAt w a xs) (hay : M11.ItemsAt w b ys) :
    Calls Try.prog 25 #[.slice a xs.length ca, .slice b ys.length cb] w fun e w' => e = .returned (.bool (decide (xs = ys))) ∧ Below w.heap.size w w' := by
  by_cases hl : xs.length = ys.length
  · have hne : ((xs.length : Int) != (ys.length : Int)) = false := by simp [hl]
    have l1 : xs.length ≤ ys.length := by omega
    have HL : Hid (xs.length = ys.length) := hl
    clear hl
    go_enter Try.func25, Try.ntmps25
    go_wp2
    go_loopw [5] (fun iv wr => ∃ k : Nat, iv = .int .i64 k ∧ k ≤ xs.length ∧ Hid (xs.take k = ys.take k) ∧ Below w.heap.size w wr) (fun iv _ => (xs.length - intOf iv).toNat)
    case atStart => exact ⟨0, rfl, by omega, rfl, Below.refl _ _⟩
    case round =>
      obtain ⟨k, rfl, hk, hT, hb⟩ := hrel
      by_cases hl : k < xs.length
      · have hly : k < ys.length := by omega
        obtain ⟨b1, off1, rfl, hlt1, c0, c1, c2, c3⟩ := (hax.below hb).at hl
        obtain ⟨b2, off2, rfl, hlt2, d0, d1, d2, d3⟩ := (hay.below hb).at hly
        clear hax hay
        have hT' : Hid _ := fun e => items_take_eq hl hly hT.out e
        have hF : Hid _ := fun e => items_take_ne (xs := xs) (ys := ys) (k := k) e
        generalize M11.at_ xs k = x at *
        generalize M11.at_ ys k = y at *
        obtain ⟨x0, x1, x2, x3⟩ := x
        obtain ⟨y0, y1, y2, y3⟩ := y
        have EQ : Hid (∀ W : World, Calls Try.prog 52 #[.agg #[.int .i64 x0, .int .i64 x1, .string x2, .int .i64 x3], .agg #[.int .i64 y0, .int .i64 y1, .string y2, .int .i64 y3]] W fun e w' => e = .returned (.bool (M8.same ⟨x0, x1, x2, x3⟩ ⟨y0, y1, y2, y3⟩)) ∧ Below W.heap.size W w') := fun W => eqItem_any ⟨x0, x1, x2, x3⟩ ⟨y0, y1, y2, y3⟩ W
        obtain ⟨bq, hbq⟩ : ∃ bq, M8.same ⟨x0, x1, x2, x3⟩ ⟨y0, y1, y2, y3⟩ = bq := ⟨_, rfl⟩
        rw [hbq] at EQ
        have HBQ : Hid _ := hbq
        clear hbq
        go_wp2
        go_region_with (go_at_call 52; refine (EQ.out _).mono ?_; rintro e w1 ⟨rfl, hb1⟩)
        all_goals (
          have hB1 : Below w.heap.size w w1 := hb.drew.trans (hb1.mono (by have := hb.size; simpa using this))
          clear hb1 hb EQ c0 c1 c2 c3 d0 d1 d2 d3
          cases bq
          · have hE : Hid (decide (xs = ys) = false) := by
              show _ = _
              simp only [decide_eq_false_iff_not]
              exact hF.out (fun e => by have := HBQ.out; rw [e, M8.same_self] at this; cases this)
            clear hT hT' hF HBQ
            go_wp2
            go_ret
            exact ⟨M4.ret_bool hE.out.symm, hB1⟩
          · have hE : Hid _ := hT'.out ((M8.same_iff _ _).1 HBQ.out)
            clear hT hT' hF HBQ
            go_wp2
            go_roundw
            case rel => exact ⟨k + 1, by go_num, by omega, hE, hB1⟩
            case measure => simp [intOf]; omega)
      · obtain rfl : k = xs.length := by omega
        have hF : Hid (decide (xs = ys) = true) := by
          show _ = _
          simp only [decide_eq_true_eq]
          have := hT.out
          rw [List.take_length, HL.out, List.take_length] at this
          exact this
        go_wp2
        go_ret
        exact ⟨M4.ret_bool hF.out.symm, hb⟩
  · have hne : ((xs.length : Int) != (ys.length : Int)) = true := by simp; omega
    have hF : Hid (decide (xs = ys) = false) := by
      show _ = _
      simp only [decide_eq_false_iff_not]
      exact fun e => hl (by rw [e])
    clear hl
    go_enter Try.func25, Try.ntmps25
    go_wp2
    go_ret
    exact ⟨M4.ret_bool hF.out.symm, Below.refl _ _⟩
end Go.Proofs.Ytkpkahhhmoaafaa
