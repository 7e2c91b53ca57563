/- impl.appendHead onto nothing, made into a text. -/
import Derived.Test.YtdkhjnpdphnigaaRows
import Derived.Test.YtdkhjnpdphnigaaCAppendHead
namespace Go.Proofs.Ytdkhjnpdphnigaa
open Go.RowKit
theorem headNil_any (m n : Nat) (w : World) (hm : m ≤ 7) (hn : n ≤ 4294967295) :
    Calls Try.prog 39 #[.slice none 0 0, .int .i64 m, .int .i64 n] w fun e w' => ∃ v', e = .returned v' ∧ (convert 22 9 v').run Try.prog w' = .ok (.string ⟨(M7.hb m n).toArray⟩) w' ∧ Below w.heap.size w w' := by
  refine (appendHead_any m n w.heap.size (.slice none 0 0) [] w hm hn (by simp) (Nat.le_refl _) ⟨by simp [M2.bv], .inl ⟨rfl, rfl⟩⟩).mono ?_
  rintro e w1 ⟨v', rfl, hown, hb⟩
  rw [List.nil_append] at hown
  exact ⟨v', rfl, M2.conv_own (P := Try.prog) 22 9 5 Try.underlying22 Try.underlying5 Try.underlying9 hown, hb⟩
end Go.Proofs.Ytdkhjnpdphnigaa
