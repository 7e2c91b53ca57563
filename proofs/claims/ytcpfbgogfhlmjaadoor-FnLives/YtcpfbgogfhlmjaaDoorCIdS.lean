/- The specification's l3Id: three numbers with dots between. -/
import Derived.Test.YtcpfbgogfhlmjaaDoorRows
import Derived.Test.YtcpfbgogfhlmjaaDoorMB1
import Derived.Test.YtcpfbgogfhlmjaaDoorCL1Num
import Derived.WalkKit
import Derived.WalkSpells
import Derived.WalkLawsBesides
import Derived.Outline
import Derived.Deep.QuietTactic
import Derived.BigQuiet
import Derived.Deep.RegionHeld3
namespace Go.Proofs.YtcpfbgogfhlmjaaDoor
open Go.RowKit
/-- A bundle's id. -/
def idOf (fr md no : Nat) : List UInt8 := Lib.decDigits fr ++ [46] ++ Lib.decDigits md ++ [46] ++ Lib.decDigits no
theorem id_app (a b c : List UInt8) : (⟨a.toArray⟩ : ByteArray) ++ ⟨#[46]⟩ ++ ⟨b.toArray⟩ ++ ⟨#[46]⟩ ++ ⟨c.toArray⟩ = ⟨(a ++ [46] ++ b ++ [46] ++ c).toArray⟩ := by apply ByteArray.ext; simp
theorem id_keep {w W w2 : World} {k : Nat} {a b c : Value} (hb2 : Below W.heap.size W w2) (hS : Below k w W ∧ k < W.heap.size ∧ W.cell? ⟨k, 0, none⟩ = some a ∧ W.cell? ⟨k, 3, none⟩ = some b ∧ W.cell? ⟨k, 4, none⟩ = some c) (hk : k = w.heap.size) :
    Below k w w2 ∧ k < w2.heap.size ∧ w2.cell? ⟨k, 0, none⟩ = some a ∧ w2.cell? ⟨k, 3, none⟩ = some b ∧ w2.cell? ⟨k, 4, none⟩ = some c := by
  obtain ⟨hB, hlt, p0, p3, p4⟩ := hS
  subst hk
  exact ⟨hB.trans (hb2.mono hB.size), Nat.lt_of_lt_of_le hlt hb2.size, (hb2.cell (p := ⟨_, 0, none⟩) hlt).trans p0, (hb2.cell (p := ⟨_, 3, none⟩) hlt).trans p3, (hb2.cell (p := ⟨_, 4, none⟩) hlt).trans p4⟩
set_option maxHeartbeats 3200000 in
set_option maxRecDepth 100000 in
theorem l3Id_any (fr md no : Nat) (to : Int) (gr : Bool) (lf hp of tl : Int) (py : ByteArray) (w : World) (h1 : fr ≤ 1000000) (h2 : md ≤ 1000000) (h3 : no ≤ 1000000) :
    Calls Tryd.prog 45 #[Bd.v ⟨(fr : Int), to, gr, (md : Int), (no : Int), lf, hp, of, tl, py⟩] w fun e w' => e = .returned (.string ⟨(idOf fr md no).toArray⟩) ∧ Below w.heap.size w w' := by
  have k1 := dd_len fr
  have k2 := dd_len md
  have k3 := dd_len no
  have g1 : ¬ 9223372036854775807 < (Lib.decDigits fr).length + 1 := by omega
  have g2 : ¬ 9223372036854775807 < (Lib.decDigits fr).length + 1 + (Lib.decDigits md).length := by omega
  have g3 : ¬ 9223372036854775807 < (Lib.decDigits fr).length + 1 + (Lib.decDigits md).length + 1 := by omega
  have g4 : ¬ 9223372036854775807 < (Lib.decDigits fr).length + 1 + (Lib.decDigits md).length + 1 + (Lib.decDigits no).length := by omega
  clear k1 k2 k3
  unfold idOf
  have hB : Below w.heap.size w (w.alloc (.cells #[.int .i64 (fr : Int), .int .i64 to, .bool gr, .int .i64 (md : Int), .int .i64 (no : Int), .int .i64 lf, .int .i64 hp, .int .i64 of, .int .i64 tl, .string py] 24)).drew := ((Below.refl _ w).alloc (Nat.le_refl _) _).drew
  go_enter Tryd.func45, Tryd.ntmps45
  go_wp2
  go_region_held3 (fun w' => Below w.heap.size w w' ∧ w.heap.size < w'.heap.size ∧ w'.cell? ⟨w.heap.size, 0, none⟩ = some (.int .i64 (fr : Int)) ∧ w'.cell? ⟨w.heap.size, 3, none⟩ = some (.int .i64 (md : Int)) ∧ w'.cell? ⟨w.heap.size, 4, none⟩ = some (.int .i64 (no : Int))) (first | assumption | (show _ ∧ _; assumption) | go_keep) (first | (go_at_call 65; refine Calls.mono (l1Num_any _ _ (by omega)) ?_; (rintro e w2 ⟨rfl, hb2⟩; have hS2 := id_keep hb2 (by assumption) rfl; clear hb2)))
  all_goals (have hB2 := hS2.1; clear hS2)
  all_goals go_wp2
  all_goals go_ret
  all_goals exact ⟨congrArg (fun x => Ending.returned (.string x)) (id_app _ _ _), hB2⟩
end Go.Proofs.YtcpfbgogfhlmjaaDoor
