/- Some of a row's numbers, drawn. -/
import Derived.Test.YtgenmljnhlcpcaaRows
import Derived.Test.YtgenmljnhlcpcaaCAmong
import Derived.Test.YtgenmljnhlcpcaaMInfo
import Derived.WalkKit
import Derived.WalkSpells
import Derived.WalkLawsBesides
import Derived.Outline
import Derived.Test.YtgenmljnhlcpcaaM5
namespace Go.Proofs.Ytgenmljnhlcpcaa
open Go.RowKit
set_option linter.unusedSimpArgs false in
set_option maxHeartbeats 1600000 in
set_option maxRecDepth 100000 in
theorem someOf_any (p : Nat) (a : Option Addr) (zs : List Int) (cap M n : Nat) (w : World) (hz : zs.length ≤ 140737488355328) (hM : M ≤ 140737488340000) (hn : n ≤ 1000) (hc : MC.Cur w p a zs cap M) :
    Calls Try.prog 38 #[.pointer (some ⟨p, 0, none⟩), .int .i64 (n : Int)] w fun e w' => ∃ a1 c1 l, e = .returned (.slice a1 (List.length l) c1) ∧ l.length ≤ n + 1 ∧ w'.ownsRow w.heap.size 3 1 (.slice a1 l.length c1) l.length (M4.iv l) ∧ MC.Cur w' p a zs cap (M + 2 * n + 2) ∧ MC.Only p w w' := by
  obtain ⟨i0, hi, hz0, hz1, hz2⟩ := info_parts Try.info3
  have hplt := hc.lt
  go_enter Try.func38, Try.ntmps38
  go_wp2
  go_loopw [5, 6] (fun v iv wr => ∃ (k : Nat) (l : List Int), iv = .int .i64 k ∧ k ≤ n ∧ l.length ≤ k ∧ wr.ownsRow w.heap.size 3 1 v l.length (M4.iv l) ∧ MC.Cur wr p a zs cap (M + 2 * k) ∧ MC.Only p w wr) (fun _ iv _ => (n - intOf iv).toNat)
  case atStart => exact ⟨0, [], rfl, by omega, by simp, World.ownsRow_nil _ _ _ _, hc, MC.Only.refl _ _⟩
  case round =>
    clear hc
    obtain ⟨k, l, rfl, hk, hl, hown, hcr, hon⟩ := hrel
    have hws := hon.size
    by_cases hkn : k < n
    · have kn : (k : Int) < (n : Int) := by omega
      go_wp2_with fail
      refine (one_any p a zs cap (M + 2 * k) _ _ hz (by omega) hcr).mono ?_
      rintro e w1 ⟨b, rfl, hc1, ho1⟩
      have hownW := MC.own_only hown ho1 hplt
      have hon1 := hon.trans ho1
      have hs1 := hon1.size
      clear ho1 hown hcr hon
      cases b with
      | false =>
        go_wp2
        go_roundw
        case rel => exact ⟨k + 1, l, by go_num, by omega, by omega, hownW, hc1, hon1⟩
        case measure => simp [intOf]; omega
      | true =>
        go_wp2_with (at_builtin; refine wpList_append_own _ rfl _ _ 24 rfl w.heap.size 3 i0 (.int .i64 0) 1 8 Try.underlying24 hi hz0 hz1 hz2 rfl (by decide) _ _ _ rfl (hownW.alloc _) ⟨w1.heap.size, 0, none⟩ 1 1 [.int .i64 (k : Int)] rfl rfl ?c1 ?c2 ?c3 ?c4 ?c5 ?_)
        case c1 => exact M2.new1 _ _ _
        case c2 => exact M2.one1 _ _
        case c3 => unfold maxLen; omega
        case c4 => omega
        case c5 => simp; omega
        intro v' wn hown1 hgrow _
        have R1 : wn.ownsRow w.heap.size 3 1 v' (l ++ [(k : Int)]).length (M4.iv (l ++ [(k : Int)])) := by simpa [M4.iv] using hown1
        have R2 := (hc1.alloc _).grown hgrow (fun j hj => by have := (hownW.lt j hj).1; omega)
        have R3 := (hon1.alloc _).grown hgrow (fun j hj => (hownW.lt j hj).1)
        have hl2 : (l ++ [(k : Int)]).length ≤ k + 1 := by simp; omega
        clear hown1 hgrow hownW
        generalize l ++ [(k : Int)] = l2 at *
        go_wp2
        go_roundw
        case rel => exact ⟨k + 1, l2, by go_num, by omega, by omega, R1, R2, R3⟩
        case measure => simp [intOf]; omega
    · obtain rfl : k = n := by omega
      go_wp2_with fail
      refine (one_any p a zs cap (M + 2 * k) _ _ hz (by omega) hcr).mono ?_
      rintro e w1 ⟨b, rfl, hc1, ho1⟩
      have hownW := MC.own_only hown ho1 hplt
      have hon1 := hon.trans ho1
      have hs1 := hon1.size
      clear ho1 hown hcr hon
      cases b with
      | false =>
        obtain ⟨av, lc, hv⟩ := M5.own_view hownW
        rw [hv.1] at hownW ⊢
        go_wp2
        go_ret
        exact ⟨av, lc, l, rfl, by omega, hownW, hc1, hon1⟩
      | true =>
        go_wp2_with (at_builtin; refine wpList_append_own _ rfl _ _ 24 rfl w.heap.size 3 i0 (.int .i64 0) 1 8 Try.underlying24 hi hz0 hz1 hz2 rfl (by decide) _ _ _ rfl (hownW.alloc _) ⟨w1.heap.size, 0, none⟩ 1 1 [.int .i64 (k : Int)] rfl rfl ?c1 ?c2 ?c3 ?c4 ?c5 ?_)
        case c1 => exact M2.new1 _ _ _
        case c2 => exact M2.one1 _ _
        case c3 => unfold maxLen; omega
        case c4 => omega
        case c5 => simp; omega
        intro v' wn hown1 hgrow _
        have R1 : wn.ownsRow w.heap.size 3 1 v' (l ++ [(k : Int)]).length (M4.iv (l ++ [(k : Int)])) := by simpa [M4.iv] using hown1
        have R2 := (hc1.alloc _).grown hgrow (fun j hj => by have := (hownW.lt j hj).1; omega)
        have R3 := (hon1.alloc _).grown hgrow (fun j hj => (hownW.lt j hj).1)
        have hl2 : (l ++ [(k : Int)]).length ≤ k + 1 := by simp; omega
        clear hown1 hgrow hownW
        generalize l ++ [(k : Int)] = l2 at *
        obtain ⟨av, lc, hv⟩ := M5.own_view R1
        rw [hv.1] at R1 ⊢
        go_wp2
        go_ret
        exact ⟨av, lc, l2, rfl, by omega, R1, R2, R3⟩
end Go.Proofs.Ytgenmljnhlcpcaa
