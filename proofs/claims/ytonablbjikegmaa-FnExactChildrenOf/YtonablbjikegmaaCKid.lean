/- The children of a node: ChildrenOf of both. -/
import Derived.Test.YtonablbjikegmaaRows
import Derived.Test.YtonablbjikegmaaCTrI
import Derived.Test.YtonablbjikegmaaCTrS
import Derived.Test.YtonablbjikegmaaCKidI
import Derived.Test.YtonablbjikegmaaCKidS
import Derived.WalkKit
import Derived.WalkSpells
import Derived.WalkLawsBesides
import Derived.Outline
namespace Go.Proofs.Ytonablbjikegmaa
open Go.RowKit
namespace TR
/-- Whether ChildrenOf answers. -/
def kidsOk (xs : List Int) (node : Int) : Bool := tree xs && (decide (0 ≤ node) && decide (node < xs.length))
def kidsL (xs : List Int) (node : Int) : List Int := if kidsOk xs node = true then kids xs node else []
theorem kidsL_len (xs : List Int) (node : Int) : (kidsL xs node).length ≤ 1048576 := by
  unfold kidsL
  split
  · next h =>
    have h1 : tree xs = true := by simp only [kidsOk, Bool.and_eq_true] at h; exact h.1
    have := ((tree_iff xs).1 h1).1.2
    have h2 := those_len xs.length (fun i => decide (0 < i) && decide (xs.getD i 0 = node))
    unfold kids
    omega
  · simp
theorem kids_no {xs : List Int} {node : Int} (h : kidsOk xs node = false) : kidsL xs node = [] := by unfold kidsL; rw [h]; rfl
theorem kids_yes {xs : List Int} {node : Int} (h : kidsOk xs node = true) : kidsL xs node = kids xs node := by unfold kidsL; rw [if_pos h]
theorem nil_own (w : World) (B : Nat) : w.ownsRow B 3 1 (.slice none ([] : List Int).length 0) ([] : List Int).length (M4.iv []) := World.ownsRow_nil _ _ _ _
end TR
set_option maxHeartbeats 1600000 in
set_option maxRecDepth 100000 in
theorem implChildren_any (a : Option Addr) (ca : Nat) (xs : List Int) (node : Int) (w : World) (hz : xs.length ≤ 1048576) (hin : M4.IntsAt w a xs) :
    Calls Try.prog 14 #[.slice a xs.length ca, .int .i64 node] w fun e w' => ∃ a1 c1, e = .returned (.tuple #[.slice a1 (TR.kidsL xs node).length c1, .bool (TR.kidsOk xs node)]) ∧ w'.ownsRow w.heap.size 3 1 (.slice a1 (TR.kidsL xs node).length c1) (TR.kidsL xs node).length (M4.iv (TR.kidsL xs node)) ∧ Below w.heap.size w w' := by
  have IT : Hid _ := isTree_any a ca xs w hz hin
  cases ht : TR.tree xs with
  | false =>
    have hk : Hid (TR.kidsOk xs node = false) := show TR.kidsOk xs node = false by unfold TR.kidsOk; rw [ht]; rfl
    clear hin
    go_enter Try.func14, Try.ntmps14
    go_wp2_with (go_at_call 17; refine Calls.mono IT.out ?_; rintro e w2 ⟨rfl, rfl⟩; try rw [ht])
    rw [hk.out, TR.kids_no hk.out]
    exact bodyPost_ret (v := .tuple #[.slice none 0 0, .bool false]) (by simp [results, Try.results14, go_sem]) rfl ⟨none, 0, rfl, TR.nil_own _ _, Below.refl _ _⟩
  | true =>
    have hl8 := ((TR.tree_iff xs).1 ht).1
    by_cases hn : 0 ≤ node ∧ node < xs.length
    · have hk : Hid (TR.kidsOk xs node = true) := show TR.kidsOk xs node = true by unfold TR.kidsOk; rw [ht]; simp [hn.1, hn.2]
      have h1 : decide (0 ≤ node ∧ node ≤ (xs.length : Int) - 1) = true := by simp; omega
      have CH : Hid _ := childrenOf_any a ca xs node w hl8.2 hin (TR.kids xs node) (TR.kids_is ht hn.1)
      clear hin
      go_enter Try.func14, Try.ntmps14
      go_wp2_with (first | (go_at_call 17; refine Calls.mono IT.out ?_; rintro e w2 ⟨rfl, rfl⟩; try rw [ht]) | (go_at_call 26; refine (within7_any _ _ _ _).mono ?_; rintro e w2 ⟨rfl, rfl⟩; rw [h1]) | (go_at_call 27; refine Calls.mono CH.out ?_; rintro e w2 ⟨a1, c1, rfl, ho, hb⟩))
      rw [hk.out, TR.kids_yes hk.out]
      exact bodyPost_ret (v := .tuple #[.slice a1 (TR.kids xs node).length c1, .bool true]) (by simp [results, Try.results14, go_sem]) rfl ⟨a1, c1, rfl, ho, hb⟩
    · have hk : Hid (TR.kidsOk xs node = false) := show TR.kidsOk xs node = false by unfold TR.kidsOk; rw [ht]; simp; omega
      have h1 : decide (0 ≤ node ∧ node ≤ (xs.length : Int) - 1) = false := by simp; omega
      clear hin
      go_enter Try.func14, Try.ntmps14
      go_wp2_with (first | (go_at_call 17; refine Calls.mono IT.out ?_; rintro e w2 ⟨rfl, rfl⟩; try rw [ht]) | (go_at_call 26; refine (within7_any _ _ _ _).mono ?_; rintro e w2 ⟨rfl, rfl⟩; rw [h1]))
      rw [hk.out, TR.kids_no hk.out]
      exact bodyPost_ret (v := .tuple #[.slice none 0 0, .bool false]) (by simp [results, Try.results14, go_sem]) rfl ⟨none, 0, rfl, TR.nil_own _ _, Below.refl _ _⟩
set_option maxHeartbeats 1600000 in
set_option maxRecDepth 100000 in
theorem specChildren_any (a : Option Addr) (ca : Nat) (xs : List Int) (node : Int) (w : World) (hz : xs.length ≤ 1048576) (hin : M4.IntsAt w a xs) :
    Calls Try.prog 13 #[.slice a xs.length ca, .int .i64 node] w fun e w' => ∃ a1 c1, e = .returned (.tuple #[.slice a1 (TR.kidsL xs node).length c1, .bool (TR.kidsOk xs node)]) ∧ w'.ownsRow w.heap.size 3 1 (.slice a1 (TR.kidsL xs node).length c1) (TR.kidsL xs node).length (M4.iv (TR.kidsL xs node)) ∧ Below w.heap.size w w' := by
  have IT : Hid _ := l16Tree_any a ca xs w hz hin
  cases ht : TR.tree xs with
  | false =>
    have hk : Hid (TR.kidsOk xs node = false) := show TR.kidsOk xs node = false by unfold TR.kidsOk; rw [ht]; rfl
    clear hin
    go_enter Try.func13, Try.ntmps13
    go_wp2_with (go_at_call 16; refine Calls.mono IT.out ?_; rintro e w2 ⟨rfl, rfl⟩; try rw [ht])
    rw [hk.out, TR.kids_no hk.out]
    exact bodyPost_ret (v := .tuple #[.slice none 0 0, .bool false]) (by simp [results, Try.results13, go_sem]) rfl ⟨none, 0, rfl, TR.nil_own _ _, Below.refl _ _⟩
  | true =>
    have hl8 := ((TR.tree_iff xs).1 ht).1
    by_cases hn : 0 ≤ node ∧ node < xs.length
    · have hk : Hid (TR.kidsOk xs node = true) := show TR.kidsOk xs node = true by unfold TR.kidsOk; rw [ht]; simp [hn.1, hn.2]
      have h1 : decide (node < 0) = false := by simp; omega
      have h2 : decide ((xs.length : Int) ≤ node) = false := by simp; omega
      have CH : Hid _ := l16Children_any a ca xs node w hl8.2 hin (TR.kids xs node) rfl
      clear hin
      go_enter Try.func13, Try.ntmps13
      go_wp2_with (first | (go_at_call 16; refine Calls.mono IT.out ?_; rintro e w2 ⟨rfl, rfl⟩; try rw [ht]) | (go_at_call 25; refine Calls.mono CH.out ?_; rintro e w2 ⟨a1, c1, rfl, ho, hb⟩))
      rw [hk.out, TR.kids_yes hk.out]
      exact bodyPost_ret (v := .tuple #[.slice a1 (TR.kids xs node).length c1, .bool true]) (by simp [results, Try.results13, go_sem]) rfl ⟨a1, c1, rfl, ho, hb⟩
    · have hk : Hid (TR.kidsOk xs node = false) := show TR.kidsOk xs node = false by unfold TR.kidsOk; rw [ht]; simp; omega
      clear hin
      by_cases h3 : node < 0
      · go_enter Try.func13, Try.ntmps13
        go_wp2_with (first | (go_at_call 16; refine Calls.mono IT.out ?_; rintro e w2 ⟨rfl, rfl⟩; try rw [ht]))
        rw [hk.out, TR.kids_no hk.out]
        exact bodyPost_ret (v := .tuple #[.slice none 0 0, .bool false]) (by simp [results, Try.results13, go_sem]) rfl ⟨none, 0, rfl, TR.nil_own _ _, Below.refl _ _⟩
      · have h1 : decide (node < 0) = false := by simp; omega
        have h2 : decide ((xs.length : Int) ≤ node) = true := by simp; omega
        go_enter Try.func13, Try.ntmps13
        go_wp2_with (first | (go_at_call 16; refine Calls.mono IT.out ?_; rintro e w2 ⟨rfl, rfl⟩; try rw [ht]))
        rw [hk.out, TR.kids_no hk.out]
        exact bodyPost_ret (v := .tuple #[.slice none 0 0, .bool false]) (by simp [results, Try.results13, go_sem]) rfl ⟨none, 0, rfl, TR.nil_own _ _, Below.refl _ _⟩
end Go.Proofs.Ytonablbjikegmaa
