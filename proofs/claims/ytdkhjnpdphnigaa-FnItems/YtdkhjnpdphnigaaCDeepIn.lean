/- impl.deepIn tells how deep a value is. -/
import Derived.Test.YtdkhjnpdphnigaaRows
import Derived.Test.YtdkhjnpdphnigaaCAssertL
import Derived.Test.YtdkhjnpdphnigaaM14
import Derived.WalkKit
import Derived.WalkSpells
import Derived.WalkLawsBesides
import Derived.Outline
namespace Go.Proofs.Ytdkhjnpdphnigaa
open Go.RowKit
set_option maxHeartbeats 800000 in
set_option maxRecDepth 100000 in
theorem deepIn_any (r : Nat) : ∀ (w : World) (S : Nat → Prop) (v : Value) (L : List It) (D : Nat), M14.VAt r w S v L D → D ≤ 1000 →
    Calls Try.prog 28 #[v] w fun e w' => e = .returned (.int .i64 (D : Int)) ∧ w = w' := by
  induction r with
  | zero =>
    intro w S v L D h _
    rcases h with h | h | h
    · obtain ⟨n, rfl, rfl, rfl⟩ := h
      have ta := Try.taNL n
      go_enter Try.func28, Try.ntmps28
      go_wp2
      go_ret
      exact ⟨rfl, rfl⟩
    · obtain ⟨s, rfl, rfl, rfl⟩ := h
      have ta := Try.taBL s
      go_enter Try.func28, Try.ntmps28
      go_wp2
      go_ret
      exact ⟨rfl, rfl⟩
    · obtain ⟨s, rfl, rfl, rfl⟩ := h
      have ta := Try.taTL s
      go_enter Try.func28, Try.ntmps28
      go_wp2
      go_ret
      exact ⟨rfl, rfl⟩
  | succ r ih =>
    intro w S v L D h hD
    rcases h with h | h | h | ⟨a, cap, vs, Ls, Ds, rfl, h2, h3, h4, h5, h6, rfl, h8⟩
    · obtain ⟨n, rfl, rfl, rfl⟩ := h
      have ta := Try.taNL n
      go_enter Try.func28, Try.ntmps28
      go_wp2
      go_ret
      exact ⟨rfl, rfl⟩
    · obtain ⟨s, rfl, rfl, rfl⟩ := h
      have ta := Try.taBL s
      go_enter Try.func28, Try.ntmps28
      go_wp2
      go_ret
      exact ⟨rfl, rfl⟩
    · obtain ⟨s, rfl, rfl, rfl⟩ := h
      have ta := Try.taTL s
      go_enter Try.func28, Try.ntmps28
      go_wp2
      go_ret
      exact ⟨rfl, rfl⟩
    · have ta := Try.taLL (.slice a vs.length cap)
      go_enter Try.func28, Try.ntmps28
      go_wp2
      go_loop [5, 17] (fun mv iv => ∃ j M : Nat, mv = .int .i64 (M : Int) ∧ iv = .int .i64 (j : Int) ∧ j ≤ vs.length ∧ Hid ((Ds.take j).foldl max 0 = M) ∧ M ≤ 1000) (fun _ iv => (vs.length - intOf iv).toNat)
      case atStart => exact ⟨0, 0, rfl, rfl, by omega, show Hid _ from rfl, by omega⟩
      case round =>
        obtain ⟨j, M, rfl, rfl, hj, hM, hM1⟩ := hrel
        by_cases hjl : j < vs.length
        · obtain ⟨g, rfl, hg, hc⟩ := h4.at hjl
          obtain ⟨u, hu, hv⟩ := h5 j hjl
          rw [hu] at hc
          have hms := M14.max_take (Ds := Ds) (j := j) (by omega)
          have hml := M14.max_le (Ds := Ds) (j := j + 1)
          rw [hM.out] at hms
          have hdj : Ds.getD j 0 ≤ 1000 := by omega
          have hmm : max M (Ds.getD j 0) ≤ 1000 := by omega
          have CC : Hid _ := ih w S u _ _ hv hdj
          obtain ⟨tu, xu, rfl⟩ := hv.shape
          have HMS : Hid _ := hms
          clear hms hml hM hv hu h4 h5 hdj
          generalize Ds.getD j 0 = E at *
          go_wp2_with fail
          refine Calls.mono CC.out ?_
          rintro e w2 ⟨rfl, rfl⟩
          clear CC
          by_cases hME : M < E
          · have hx : max M E = E := by omega
            rw [hx] at HMS
            go_wp2
            go_round
            case rel => exact ⟨j + 1, E, by go_num, by go_num, by omega, HMS, by omega⟩
            case measure => simp [intOf]; omega
          · have hx : max M E = M := by omega
            rw [hx] at HMS
            go_wp2
            go_round
            case rel => exact ⟨j + 1, M, by go_num, by go_num, by omega, HMS, by omega⟩
            case measure => simp [intOf]; omega
        · obtain rfl : j = vs.length := by omega
          have hfin : Hid (M = Ds.foldl max 0) := by have := hM.out; rw [← h3, List.take_length] at this; exact this.symm
          clear hM h4 h5 ih
          go_wp2
          go_ret
          exact ⟨by rw [← hfin.out]; rfl, rfl⟩
end Go.Proofs.Ytdkhjnpdphnigaa
