/- Talks: a tally as a row of its own; all; whether it is done. -/
import Derived.Test.YtjlombnjmpejjaaRows
import Derived.Test.YtjlombnjmpejjaaCS1
import Derived.Test.YtjlombnjmpejjaaMRH
import Derived.Lib.SliceRun
import Derived.WalkKit
import Derived.WalkSpells
import Derived.WalkLawsBesides
import Derived.Outline
namespace Go.Proofs.Ytjlombnjmpejjaa
open Go.RowKit
theorem Try.infoBool : (Try.prog.info? 4).map (fun i => (i.zero, i.size, i.bytes)) = some (some (.bool false), 1, 1) := by kernel_rfl
theorem Try.sizeTally : (Try.prog.info? 125).map (·.size) = some 5 := by kernel_rfl
theorem Try.infoTally : (Try.prog.info? 125).map (fun i => (i.zero, i.size)) = some (some (.agg (SE.t5 fun _ => false).toArray), 5) := by kernel_rfl
set_option linter.unusedSimpArgs false in
set_option maxHeartbeats 800000 in
set_option maxRecDepth 100000 in
theorem cloneB_any (g n c : Nat) (l : List Bool) (w : World) (hl : l.length = n) (hn : n ≤ 1048576) (hr : w.rangeAt g 0 (SE.bl l)) (hg : g < w.heap.size) :
    Calls Try.prog 126 #[.slice (some ⟨g, 0, none⟩) n c] w fun e w' => ∃ a cap, e = .returned (.slice a n cap) ∧ w'.ownsRow w.heap.size 4 1 (.slice a n cap) n (SE.bl l) ∧ Below w.heap.size w w' := by
  obtain ⟨i0, hi, hz0, hz1, hz2⟩ := info_parts Try.infoBool
  have own00 : (w.alloc (.cells #[] 4)).ownsRow w.heap.size 4 1 (.slice (some ⟨w.heap.size, 0, none⟩) 0 0) 0 [] := by
    have := World.ownsRow_lit (base := w.heap.size) (e := 4) (size := 1) w #[] 0 (by simp) (by unfold maxLen; omega) (by simp)
    simpa using this
  have own0 : Hid ((w.alloc (.cells #[] 4)).ownsRow w.heap.size 4 1 (.slice (some ⟨w.heap.size, 0, none⟩) 0 0) 0 []) := own00
  clear own00
  have HN : Hid (∀ (j : Nat) (u : Value), (SE.bl l)[j]? = some u → (w.alloc (.cells #[] 4)).cell? ((⟨g, 0, none⟩ : Addr).add j) = some u) := fun j u hu => by
    have := (MA.range_below hr ((Below.refl _ w).alloc (Nat.le_refl _) (.cells #[] 4)) hg) j u hu
    rwa [Addr.add_mid]
  have HL : Hid ((SE.bl l).length = n * 1) := by show _ = _; rw [SE.bl_len]; omega
  clear hr
  have hE : ∀ W : World, (binOp .eql 40 (.slice (some ⟨g, 0, none⟩) n c) (.slice none 0 0)).run Try.prog W = .ok (.bool false) W := fun W => by simpa using Lib.run_eql_slice_nil (P := Try.prog) W 40 4 (some ⟨g, 0, none⟩) n c 0 0 Try.underlying40
  go_enter Try.func126, Try.ntmps126
  go_wp2_with (at_builtin; refine wpList_append_own _ rfl _ _ 40 rfl w.heap.size 4 i0 (.bool false) 1 1 Try.underlying40 hi hz0 hz1 hz2 rfl (by decide) _ _ _ rfl own0.out ⟨g, 0, none⟩ n c (SE.bl l) rfl HL.out HN.out (SE.bl_one l) ?c3 ?c4 ?c5 ?_)
  case c3 => unfold maxLen; omega
  case c4 => omega
  case c5 => simp
  intro v' w1 hown1 hgrow _
  have hB : Below w.heap.size w w1 := ((Below.refl _ w).alloc (Nat.le_refl _) _).grown hgrow (by simp) (fun j hj => (own0.out.lt j hj).1)
  replace hown1 : w1.ownsRow w.heap.size 4 1 v' n (SE.bl l) := by simpa using hown1
  obtain ⟨a, cap, rfl⟩ : ∃ a cap, v' = .slice a n cap := by
    rcases hown1.2 with ⟨rfl, h0⟩ | ⟨g', cap, cur, rfl, _⟩
    · exact ⟨none, 0, by rw [h0]⟩
    · exact ⟨_, cap, rfl⟩
  have HO : Hid (w1.ownsRow w.heap.size 4 1 (.slice a n cap) n (SE.bl l)) := hown1
  clear hown1 hgrow own0 HN HL
  go_wp2
  go_ret
  exact ⟨a, cap, rfl, HO.out, hB⟩
set_option linter.unusedSimpArgs false in
set_option maxHeartbeats 800000 in
set_option maxRecDepth 100000 in
theorem list_any (k : Nat) (b : ByteArray) (f : Nat → Bool) (w : World) (hs : b.size ≤ 40) (hc : w.cell? ⟨k, 0, none⟩ = some (.string b)) (hk : k < w.heap.size) :
    Calls Try.prog 94 #[.pointer (some ⟨k, 0, none⟩), .agg (SE.t5 f).toArray] w fun e w' => ∃ a cap, e = .returned (.slice a (SE.many b) cap) ∧ w'.ownsRow w.heap.size 4 1 (.slice a (SE.many b) cap) (SE.many b) (SE.bl ((List.range (SE.many b)).map f)) ∧ Below w.heap.size w w' := by
  have hm := SE.many_le hs
  have hB : Below w.heap.size w (w.alloc (.cells (SE.t5 f).toArray 125)) := (Below.refl _ w).alloc (Nat.le_refl _) _
  have hc1 : (w.alloc (.cells (SE.t5 f).toArray 125)).cell? ⟨k, 0, none⟩ = some (.string b) := (hB.cell (p := ⟨k, 0, none⟩) hk).trans hc
  have MN : Hid (∀ W : World, W.cell? ⟨k, 0, none⟩ = some (.string b) → Calls Try.prog 118 #[.pointer (some ⟨k, 0, none⟩)] W fun e w' => e = .returned (.int .i64 (SE.many b : Int)) ∧ W = w') := fun W h => many_any k b W (by omega) h
  have hr : (w.alloc (.cells (SE.t5 f).toArray 125)).rangeAt w.heap.size 0 (SE.bl ((List.range (SE.many b)).map f)) := fun j v hv => (MA.Rg.new w (SE.t5 f) 125).rng j v (by
    have hj : j < SE.many b := by have := (List.getElem?_eq_some_iff.1 hv).1; simpa [SE.bl] using this
    rw [SE.bl_get (by simpa using hj)] at hv
    unfold SE.t5
    rw [SE.bl_get (by simp; omega), ← hv]
    simp [show j < 5 by omega, hj])
  have CL : Hid (∀ c, Calls Try.prog 126 #[.slice (some ⟨w.heap.size, 0, none⟩) (SE.many b) c] (w.alloc (.cells (SE.t5 f).toArray 125)) fun e w' => ∃ a cap, e = .returned (.slice a (SE.many b) cap) ∧ w'.ownsRow (w.alloc (.cells (SE.t5 f).toArray 125)).heap.size 4 1 (.slice a (SE.many b) cap) (SE.many b) (SE.bl ((List.range (SE.many b)).map f)) ∧ Below (w.alloc (.cells (SE.t5 f).toArray 125)).heap.size (w.alloc (.cells (SE.t5 f).toArray 125)) w') := fun c => cloneB_any w.heap.size (SE.many b) c _ _ (by simp) (by omega) hr (by simp)
  clear hr
  generalize (List.range (SE.many b)).map f = L at *
  generalize SE.many b = n at *
  generalize SE.t5 f = C at *
  clear hs hc
  go_enter Try.func94, Try.ntmps94
  go_wp2_with fail
  refine (MN.out _ hc1).mono ?_
  rintro e w1 ⟨rfl, rfl⟩
  have h5 : (n : Int) ≤ 5 := by omega
  have h0 : (0 : Int) ≤ (n : Int) := by omega
  clear MN
  go_wp2_with fail
  refine (CL.out _).mono ?_
  rintro e w2 ⟨a, cap, rfl, own2, hb2⟩
  have HO : Hid (w2.ownsRow w.heap.size 4 1 (.slice a n cap) n (SE.bl L)) := CB.own_mono own2 hB.size
  have hB2 := hB.trans (hb2.mono hB.size)
  clear CL own2 hb2
  go_wp2
  go_ret
  exact ⟨a, cap, rfl, HO.out, hB2⟩
end Go.Proofs.Ytjlombnjmpejjaa
