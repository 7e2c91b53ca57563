/- slices.Clone of a row of numbers that is not nil. -/
import Derived.Test.YtgajfpohlemahaaRows
import Derived.Test.YtgajfpohlemahaaM5
import Derived.Test.YtgajfpohlemahaaMInfo
import Derived.Lib.SliceRun
import Derived.WalkKit
import Derived.WalkSpells
import Derived.WalkLawsBesides
import Derived.Outline
namespace Go.Proofs.Ytgajfpohlemahaa
open Go.RowKit
set_option linter.unusedSimpArgs false in
set_option maxHeartbeats 800000 in
set_option maxRecDepth 100000 in
theorem cloneJ_any (g n c : Nat) (l : List Int) (w : World) (hl : l.length = n) (hn : n ≤ 1048576) (hr : M4.IntsAt w (some ⟨g, 0, none⟩) l) :
    Calls Try.prog 28 #[.slice (some ⟨g, 0, none⟩) n c] w fun e w' => ∃ g1 cap, e = .returned (.slice (some ⟨g1, 0, none⟩) n cap) ∧ w'.ownsRow w.heap.size 3 1 (.slice (some ⟨g1, 0, none⟩) n cap) n (M4.iv l) ∧ Below w.heap.size w w' := by
  obtain ⟨i0, hi, hz0, hz1, hz2⟩ := info_parts Try.info3
  have own00 : (w.alloc (.cells #[] 3)).ownsRow w.heap.size 3 1 (.slice (some ⟨w.heap.size, 0, none⟩) 0 0) 0 [] := by
    have := World.ownsRow_lit (base := w.heap.size) (e := 3) (size := 1) w #[] 0 (by simp) (by unfold maxLen; omega) (by simp)
    simpa using this
  have own0 : Hid ((w.alloc (.cells #[] 3)).ownsRow w.heap.size 3 1 (.slice (some ⟨w.heap.size, 0, none⟩) 0 0) 0 []) := own00
  clear own00
  have HN : Hid (∀ (j : Nat) (u : Value), (M4.iv l)[j]? = some u → (w.alloc (.cells #[] 3)).cell? ((⟨g, 0, none⟩ : Addr).add j) = some u) := fun j u hu => by
    have hjl : j < l.length := by have := (List.getElem?_eq_some_iff.1 hu).1; simpa [M4.iv] using this
    obtain ⟨b6, off6, hb6, hlt6, hc6⟩ := M4.IntsAt.at (M4.IntsAt.below hr ((Below.refl _ w).alloc (Nat.le_refl _) (.cells #[] 3))) (k := j) hjl
    simp only [Option.some.injEq, Addr.mk.injEq] at hb6
    obtain ⟨rfl, rfl, -⟩ := hb6
    rw [Addr.add_lit, Nat.zero_add] at *
    rw [hc6]
    rw [M4.iv_get _ _ _ (show l[j]? = some (l.getD j 0) by rw [List.getD_eq_getElem?_getD, List.getElem?_eq_getElem hjl]; rfl)] at hu; exact hu
  have HL : Hid ((M4.iv l).length = n * 1) := by show _ = _; simp [M4.iv, hl]
  clear hr
  have hE : ∀ W : World, (binOp .eql 26 (.slice (some ⟨g, 0, none⟩) n c) (.slice none 0 0)).run Try.prog W = .ok (.bool false) W := fun W => by simpa using Lib.run_eql_slice_nil (P := Try.prog) W 26 3 (some ⟨g, 0, none⟩) n c 0 0 Try.underlying26
  have ONE : Hid (∀ u ∈ M4.iv l, u.oneCell' = true) := fun u hu => by simp only [M4.iv, List.mem_map] at hu; obtain ⟨z, _, rfl⟩ := hu; rfl
  go_enter Try.func28, Try.ntmps28
  go_wp2_with (at_builtin; refine wpList_append_own _ rfl _ _ 26 rfl w.heap.size 3 i0 (.int .i64 0) 1 8 Try.underlying26 hi hz0 hz1 hz2 rfl (by decide) _ _ _ rfl own0.out ⟨g, 0, none⟩ n c (M4.iv l) rfl HL.out HN.out ONE.out ?c3 ?c4 ?c5 ?_)
  case c3 => unfold maxLen; omega
  case c4 => omega
  case c5 => simp
  intro v' w1 hown1 hgrow hnil
  have hB : Below w.heap.size w w1 := ((Below.refl _ w).alloc (Nat.le_refl _) _).grown hgrow (by simp) (fun j hj => (own0.out.lt j hj).1)
  replace hown1 : w1.ownsRow w.heap.size 3 1 v' n (M4.iv l) := by simpa using hown1
  obtain ⟨g1, cap, rfl⟩ : ∃ g1 cap, v' = .slice (some ⟨g1, 0, none⟩) n cap := by
    rcases hown1.2 with ⟨rfl, h0⟩ | ⟨g', cap, cur, rfl, _⟩
    · simp at hnil
    · exact ⟨g', cap, rfl⟩
  have HO : Hid (w1.ownsRow w.heap.size 3 1 (.slice (some ⟨g1, 0, none⟩) n cap) n (M4.iv l)) := hown1
  clear hown1 hgrow own0 HN HL ONE hnil
  go_wp2
  go_ret
  exact ⟨g1, cap, rfl, HO.out, hB⟩
end Go.Proofs.Ytgajfpohlemahaa
