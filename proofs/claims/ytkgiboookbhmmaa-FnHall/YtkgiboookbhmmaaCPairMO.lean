/- ImproveMatch of the program, for a row that its own call made (none too). -/
import Derived.Test.YtkgiboookbhmmaaRows
import Derived.Test.YtkgiboookbhmmaaCPairMI
import Derived.WalkKit
import Derived.WalkSpells
import Derived.WalkLawsBesides
import Derived.Outline
namespace Go.Proofs.Ytkgiboookbhmmaa
open Go.RowKit
set_option linter.unusedSimpArgs false in
set_option maxHeartbeats 1600000 in
set_option maxRecDepth 100000 in
theorem implImpNo_any (l r : Int) (a : Option Addr) (cap : Nat) (ws : List (List Int)) (w : World) (hz : ws.length ≤ 1048576) (ht : NR.tot ws ≤ 1048576) (hin : NR.RowsAt w a ws) :
    Calls Try.prog 14 #[PG.pv l r (.slice a ws.length cap), .slice none 0 0] w fun e w' => e = .returned (.tuple #[.slice none 0 0, .bool false]) ∧ Below w.heap.size w w' := by
  have hB : Below w.heap.size w (w.alloc (Obj.cells #[.int .i64 l, .int .i64 r, .slice a ws.length cap] 25)) := (Below.refl _ _).alloc (Nat.le_refl _) _
  have IM : Hid _ := implIsMatch_any l r a none cap 0 ws [] _ hz (by simp) ht (by simp) (hin.below hB) (.inl rfl)
  have hn : PG.okB l r ws [] = false := by
    cases c : PG.okB l r ws [] with
    | false => rfl
    | true =>
      obtain ⟨h1, h2⟩ := PG.okB_is c
      have := (PG.good_is h1).1
      simp at h2; omega
  have hn2 : PG.imB l r ws [] = false := by rw [PG.imB, hn]; rfl
  rw [hn, hn2] at IM
  clear hin hn hn2
  go_enter Try.func14, Try.ntmps14
  simp only [PG.pv] at *
  go_wp2_with fail
  refine Calls.mono IM.out ?_
  rintro e w2 ⟨rfl, b2⟩
  have B := hB.trans (b2.mono hB.size)
  clear IM b2 hB
  go_wp2
  go_ret2
  exact ⟨rfl, B⟩
theorem impOwn_any (l r : Int) (a b : Option Addr) (cap cb base : Nat) (ws : List (List Int)) (m : List Int) (w : World) (hz : ws.length ≤ 1048576) (hzm : m.length ≤ 1048576) (ht : NR.tot ws ≤ 1048576) (hin : NR.RowsAt w a ws) (ho : w.ownsRow base 3 1 (.slice b m.length cb) m.length (M4.iv m)) (q : Option (List Int)) (hq : Hid (PG.impL l r ws m = q)) :
    Calls Try.prog 14 #[PG.pv l r (.slice a ws.length cap), .slice b m.length cb] w fun e w' => ∃ a1 c1, e = .returned (.tuple #[.slice a1 (q.getD []).length c1, .bool q.isSome]) ∧ w'.ownsRow w.heap.size 3 1 (.slice a1 (q.getD []).length c1) (q.getD []).length (M4.iv (q.getD [])) ∧ Below w.heap.size w w' := by
  rcases ho.2 with ⟨hv, h0⟩ | ⟨g, cap', cur, hv, _, _, hge, _⟩
  · simp only [Value.slice.injEq] at hv
    obtain ⟨rfl, -, rfl⟩ := hv
    obtain rfl := List.eq_nil_of_length_eq_zero h0
    have hq0 : q = none := by
      rw [← hq.out]
      cases c : PG.imB l r ws [] with
      | false => exact (PG.impL_no c).symm
      | true =>
        obtain ⟨h1, h2, _⟩ := PG.imB_is c
        have := (PG.good_is h1).1
        simp at h2; omega
    subst hq0
    refine (implImpNo_any l r a cap ws w hz ht hin).mono ?_
    rintro e w' ⟨rfl, hb⟩
    exact ⟨none, 0, rfl, World.ownsRow_nil _ _ _ _, hb⟩
  · simp only [Value.slice.injEq] at hv
    obtain ⟨rfl, -, rfl⟩ := hv
    exact implImp_any l r a cap cb g ws m w hz hzm ht hge hin (M5.own_ints ho) q hq
end Go.Proofs.Ytkgiboookbhmmaa
