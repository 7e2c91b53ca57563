/- impl.appendItems at a value that is no list: its item behind a row of items that its caller owns. -/
import Derived.Test.YtcpfbgogfhlmjaaDoorRows
import Derived.Test.YtcpfbgogfhlmjaaDoorCAppendValue
import Derived.Test.YtcpfbgogfhlmjaaDoorCInfoItem
import Derived.WalkKit
import Derived.WalkSpells
import Derived.WalkLawsBesides
import Derived.Outline
namespace Go.Proofs.YtcpfbgogfhlmjaaDoor
open Go.RowKit
theorem Tryd.taNN (n : Int) (w : World) : (Instr.typeAssert (.iface 102 (.int .i64 n)) 71 102 true).run Tryd.prog w = .ok (.tuple #[.int .i64 n, .bool true]) w := by kernel_rfl
theorem Tryd.taBN (s : ByteArray) (w : World) : (Instr.typeAssert (.iface 96 (.string s)) 71 102 true).run Tryd.prog w = .ok (.tuple #[.int .i64 0, .bool false]) w := by kernel_rfl
theorem Tryd.taTN (s : ByteArray) (w : World) : (Instr.typeAssert (.iface 97 (.string s)) 71 102 true).run Tryd.prog w = .ok (.tuple #[.int .i64 0, .bool false]) w := by kernel_rfl
theorem Tryd.taLN (v : Value) (w : World) : (Instr.typeAssert (.iface 99 (v)) 71 102 true).run Tryd.prog w = .ok (.tuple #[.int .i64 0, .bool false]) w := by kernel_rfl
theorem It.cs_one (x : It) : ∀ u ∈ x.cs, u.oneCell' = true := by
  intro u hu
  simp [It.cs] at hu
  rcases hu with rfl | rfl | rfl | rfl <;> rfl
set_option maxHeartbeats 800000 in
set_option maxRecDepth 100000 in
theorem appendItems_num (n : Int) (base : Nat) (ov : Value) (L : List It) (w : World) (hL : L.length ≤ 1000000) (hbase : base ≤ w.heap.size) (hown : w.ownsRow base 65 4 ov L.length (M11.flat L)) :
    Calls Tryd.prog 56 #[ov, .iface 102 (.int .i64 n)] w fun e w' => ∃ v', e = .returned v' ∧ w'.ownsRow base 65 4 v' (L ++ [(⟨1, n, ⟨#[]⟩, 0⟩ : It)]).length (M11.flat (L ++ [(⟨1, n, ⟨#[]⟩, 0⟩ : It)])) ∧ Below base w w' := by
  obtain ⟨i0, hi, hz0, hz1, hz2⟩ := info_parts Tryd.infoItem
  have a0 := Tryd.taNN n
  have h63 : L.length + 1 ≤ maxLen := by unfold maxLen; omega
  have H63 : Hid _ := h63
  clear h63
  go_enter Tryd.func56, Tryd.ntmps56
  go_wp2_with (at_builtin; refine wpList_append_own _ rfl _ _ 49 rfl base 65 i0 _ 4 40 Tryd.underlying49 hi hz0 hz1 hz2 rfl (by decide) _ _ _ rfl (hown.alloc _) ⟨w.heap.size, 0, none⟩ 1 1 (It.cs (⟨1, n, ⟨#[]⟩, 0⟩ : It)) rfl rfl (M9.newN w (It.cs (⟨1, n, ⟨#[]⟩, 0⟩ : It)) 65) (It.cs_one _) H63.out (by omega) (by simp; omega) ?_)
  intro v' w1 hown1 hgrow _
  have R1 : w1.ownsRow base 65 4 v' (L ++ [(⟨1, n, ⟨#[]⟩, 0⟩ : It)]).length (M11.flat (L ++ [(⟨1, n, ⟨#[]⟩, 0⟩ : It)])) := by
    rw [M11.flat_app, List.length_append]
    simpa [M11.flat] using hown1
  have R2 : Below base w w1 := ((Below.refl base w).alloc hbase _).grown hgrow (by simp; omega) (fun g hg => (hown.lt g hg).1)
  clear hown1 hgrow hown
  go_wp2
  go_ret
  exact ⟨_, rfl, R1, R2⟩
set_option maxHeartbeats 800000 in
set_option maxRecDepth 100000 in
theorem appendItems_byt (s : ByteArray) (base : Nat) (ov : Value) (L : List It) (w : World) (hL : L.length ≤ 1000000) (hbase : base ≤ w.heap.size) (hown : w.ownsRow base 65 4 ov L.length (M11.flat L)) :
    Calls Tryd.prog 56 #[ov, .iface 96 (.string s)] w fun e w' => ∃ v', e = .returned v' ∧ w'.ownsRow base 65 4 v' (L ++ [(⟨2, 0, s, 0⟩ : It)]).length (M11.flat (L ++ [(⟨2, 0, s, 0⟩ : It)])) ∧ Below base w w' := by
  obtain ⟨i0, hi, hz0, hz1, hz2⟩ := info_parts Tryd.infoItem
  have a0 := Tryd.taBN s
  have a1 := Tryd.taBB s
  have h63 : L.length + 1 ≤ maxLen := by unfold maxLen; omega
  have H63 : Hid _ := h63
  clear h63
  go_enter Tryd.func56, Tryd.ntmps56
  go_wp2_with (at_builtin; refine wpList_append_own _ rfl _ _ 49 rfl base 65 i0 _ 4 40 Tryd.underlying49 hi hz0 hz1 hz2 rfl (by decide) _ _ _ rfl (hown.alloc _) ⟨w.heap.size, 0, none⟩ 1 1 (It.cs (⟨2, 0, s, 0⟩ : It)) rfl rfl (M9.newN w (It.cs (⟨2, 0, s, 0⟩ : It)) 65) (It.cs_one _) H63.out (by omega) (by simp; omega) ?_)
  intro v' w1 hown1 hgrow _
  have R1 : w1.ownsRow base 65 4 v' (L ++ [(⟨2, 0, s, 0⟩ : It)]).length (M11.flat (L ++ [(⟨2, 0, s, 0⟩ : It)])) := by
    rw [M11.flat_app, List.length_append]
    simpa [M11.flat] using hown1
  have R2 : Below base w w1 := ((Below.refl base w).alloc hbase _).grown hgrow (by simp; omega) (fun g hg => (hown.lt g hg).1)
  clear hown1 hgrow hown
  go_wp2
  go_ret
  exact ⟨_, rfl, R1, R2⟩
set_option maxHeartbeats 800000 in
set_option maxRecDepth 100000 in
theorem appendItems_txt (s : ByteArray) (base : Nat) (ov : Value) (L : List It) (w : World) (hL : L.length ≤ 1000000) (hbase : base ≤ w.heap.size) (hown : w.ownsRow base 65 4 ov L.length (M11.flat L)) :
    Calls Tryd.prog 56 #[ov, .iface 97 (.string s)] w fun e w' => ∃ v', e = .returned v' ∧ w'.ownsRow base 65 4 v' (L ++ [(⟨3, 0, s, 0⟩ : It)]).length (M11.flat (L ++ [(⟨3, 0, s, 0⟩ : It)])) ∧ Below base w w' := by
  obtain ⟨i0, hi, hz0, hz1, hz2⟩ := info_parts Tryd.infoItem
  have a0 := Tryd.taTN s
  have a1 := Tryd.taTB s
  have a2 := Tryd.taTT s
  have h63 : L.length + 1 ≤ maxLen := by unfold maxLen; omega
  have H63 : Hid _ := h63
  clear h63
  go_enter Tryd.func56, Tryd.ntmps56
  go_wp2_with (at_builtin; refine wpList_append_own _ rfl _ _ 49 rfl base 65 i0 _ 4 40 Tryd.underlying49 hi hz0 hz1 hz2 rfl (by decide) _ _ _ rfl (hown.alloc _) ⟨w.heap.size, 0, none⟩ 1 1 (It.cs (⟨3, 0, s, 0⟩ : It)) rfl rfl (M9.newN w (It.cs (⟨3, 0, s, 0⟩ : It)) 65) (It.cs_one _) H63.out (by omega) (by simp; omega) ?_)
  intro v' w1 hown1 hgrow _
  have R1 : w1.ownsRow base 65 4 v' (L ++ [(⟨3, 0, s, 0⟩ : It)]).length (M11.flat (L ++ [(⟨3, 0, s, 0⟩ : It)])) := by
    rw [M11.flat_app, List.length_append]
    simpa [M11.flat] using hown1
  have R2 : Below base w w1 := ((Below.refl base w).alloc hbase _).grown hgrow (by simp; omega) (fun g hg => (hown.lt g hg).1)
  clear hown1 hgrow hown
  go_wp2
  go_ret
  exact ⟨_, rfl, R1, R2⟩
end Go.Proofs.YtcpfbgogfhlmjaaDoor
