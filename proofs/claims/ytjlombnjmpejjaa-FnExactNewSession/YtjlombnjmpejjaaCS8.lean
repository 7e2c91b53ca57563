/- The laws' markSession and heldSession over sessions whose links are empty. -/
import Derived.Test.YtjlombnjmpejjaaRows
import Derived.Test.YtjlombnjmpejjaaCS7
import Derived.WalkKit
import Derived.WalkSpells
import Derived.WalkLawsBesides
import Derived.Outline
namespace Go.Proofs.Ytjlombnjmpejjaa
open Go.RowKit
theorem rg_only {w w' : World} {g k : Nat} {cs : List Value} (h : MA.Rg w g 0 cs) (ho : MC.Only k w w') (hn : g ≠ k) : MA.Rg w' g 0 cs := by
  have hg := ho.block g h.lt hn
  refine ⟨Nat.lt_of_lt_of_le h.lt ho.size, fun j v hv => (ho.cell (x := ⟨g, 0 + j, none⟩) h.lt hn).trans (h.rng j v hv), fun j hj => ⟨?_, ?_⟩⟩
  · rw [ho.cell (x := ⟨g, 0 + j, none⟩) h.lt hn]; exact (h.ok j hj).1
  · have := (h.ok j hj).2
    unfold World.frozen? at this ⊢
    rw [hg]; exact this
/-- All blocks but two are as they were. -/
structure Off2 (g g' : Nat) (w w' : World) : Prop where
  size : w.heap.size ≤ w'.heap.size
  block : ∀ k, k < w.heap.size → k ≠ g → k ≠ g' → w'.heap[k]? = w.heap[k]?
theorem rg_off2 {w w' : World} {g k k' : Nat} {cs : List Value} (h : MA.Rg w g 0 cs) (ho : Off2 k k' w w') (hn : g ≠ k) (hn' : g ≠ k') : MA.Rg w' g 0 cs := by
  have hg := ho.block g h.lt hn hn'
  have hc : ∀ j, w'.cell? ⟨g, 0 + j, none⟩ = w.cell? ⟨g, 0 + j, none⟩ := fun j => World.cell?_of_block (w := w) hg
  refine ⟨Nat.lt_of_lt_of_le h.lt ho.size, fun j v hv => (hc j).trans (h.rng j v hv), fun j hj => ⟨?_, ?_⟩⟩
  · rw [hc j]; exact (h.ok j hj).1
  · have := (h.ok j hj).2
    unfold World.frozen? at this ⊢
    rw [hg]; exact this
/-- Two rows that are marked from k on. -/
def Marked (w : World) (a1 a2 : Option Addr) (g g' n k : Nat) : Prop := n = 0 ∨ (a1 = some ⟨g, 0, none⟩ ∧ MA.Rg w g 0 (SE.bl (mkT k n)) ∧ a2 = some ⟨g', 0, none⟩ ∧ MA.Rg w g' 0 (SE.bl (mkT (k + n) n)))
theorem Marked.below {w w' : World} {a1 a2 : Option Addr} {g g' n k : Nat} (h : Marked w a1 a2 g g' n k) (hb : Below w.heap.size w w') : Marked w' a1 a2 g g' n k := h.imp id fun h => ⟨h.1, h.2.1.below hb h.2.1.lt, h.2.2.1, h.2.2.2.below hb h.2.2.2.lt⟩
set_option linter.unusedSimpArgs false in
set_option maxHeartbeats 800000 in
set_option maxRecDepth 100000 in
theorem markSession_nil (B Y : ByteArray) (D : Bool) (a1 a2 : Option Addr) (g g' k1 k2 n base : Nat) (w : World) (hn : n ≤ 1048576) (hg : base ≤ g) (hg' : base ≤ g') (hB : base ≤ w.heap.size) (hne : n = 0 ∨ g ≠ g') (hx : g ≠ w.heap.size) (hx' : g' ≠ w.heap.size)
    (hin : n = 0 ∨ (a1 = some ⟨g, 0, none⟩ ∧ MA.Rg w g 0 (SE.bl (List.replicate n false)) ∧ a2 = some ⟨g', 0, none⟩ ∧ MA.Rg w g' 0 (SE.bl (List.replicate n false)))) :
    Calls Try.prog 21 #[.agg (SE.sv B (.slice a1 n k1) (.slice a2 n k2) Y D (.slice none 0 0) (.slice none 0 0)).toArray, .int .i64 1] w fun e w' => e = .returned (.int .i64 ((1 + n + n : Nat) : Int)) ∧ Below base w w' ∧ Marked w' a1 a2 g g' n 1 ∧ Off2 g g' w w' := by
  have M1 : Hid (∀ W : World, (n = 0 ∨ (a1 = some ⟨g, 0, none⟩ ∧ MA.Rg W g 0 (SE.bl (List.replicate n false)))) → Calls Try.prog 37 #[.slice a1 n k1, .int .i64 1] W fun e w' => e = .returned (.int .i64 ((1 + n : Nat) : Int)) ∧ MC.Only g W w' ∧ (n = 0 ∨ MA.Rg w' g 0 (SE.bl (mkT 1 n)))) := fun W h => by
    have := markT_any a1 g k1 1 (List.replicate n false) W (by simpa using hn) (by omega) (by simpa using h)
    simpa using this
  have M2 : Hid (∀ W : World, (n = 0 ∨ (a2 = some ⟨g', 0, none⟩ ∧ MA.Rg W g' 0 (SE.bl (List.replicate n false)))) → Calls Try.prog 37 #[.slice a2 n k2, .int .i64 ((1 + n : Nat) : Int)] W fun e w' => e = .returned (.int .i64 ((1 + n + n : Nat) : Int)) ∧ MC.Only g' W w' ∧ (n = 0 ∨ MA.Rg w' g' 0 (SE.bl (mkT (1 + n) n)))) := fun W h => by
    have := markT_any a2 g' k2 (1 + n) (List.replicate n false) W (by simpa using hn) (by omega) (by simpa using h)
    simpa using this
  have MS : Hid (∀ (k : Int) (W : World), Calls Try.prog 62 #[.slice none 0 0, .int .i64 k] W fun e w' => e = .returned (.int .i64 k) ∧ W = w') := fun k W => markSegmentS_nil k W
  have r0 := MA.Rg.new w (SE.sv B (.slice a1 n k1) (.slice a2 n k2) Y D (.slice none 0 0) (.slice none 0 0)) 43
  have hb : Below w.heap.size w (w.alloc (.cells (SE.sv B (.slice a1 n k1) (.slice a2 n k2) Y D (.slice none 0 0) (.slice none 0 0)).toArray 43)) := (Below.refl _ w).alloc (Nat.le_refl _) _
  have HI : Hid (n = 0 ∨ (a1 = some ⟨g, 0, none⟩ ∧ MA.Rg (w.alloc (.cells (SE.sv B (.slice a1 n k1) (.slice a2 n k2) Y D (.slice none 0 0) (.slice none 0 0)).toArray 43)) g 0 (SE.bl (List.replicate n false)) ∧ a2 = some ⟨g', 0, none⟩ ∧ MA.Rg (w.alloc (.cells (SE.sv B (.slice a1 n k1) (.slice a2 n k2) Y D (.slice none 0 0) (.slice none 0 0)).toArray 43)) g' 0 (SE.bl (List.replicate n false)))) := hin.imp id fun h => ⟨h.1, h.2.1.below hb h.2.1.lt, h.2.2.1, h.2.2.2.below hb h.2.2.2.lt⟩
  have HR : Hid _ := And.intro r0 (Below.trans (Below.refl base w) (hb.mono hB))
  have HOF : Hid (Off2 g g' w (w.alloc (.cells (SE.sv B (.slice a1 n k1) (.slice a2 n k2) Y D (.slice none 0 0) (.slice none 0 0)).toArray 43))) := ⟨hb.size, fun k hk _ _ => hb.block k hk⟩
  have HNE : Hid (n = 0 ∨ g ≠ g') := hne
  have HX : Hid (g ≠ w.heap.size ∧ g' ≠ w.heap.size ∧ base ≤ g ∧ base ≤ g') := ⟨hx, hx', hg, hg'⟩
  clear r0 hb hin hne hx hx' hg hg' hn
  go_enter Try.func21, Try.ntmps21
  generalize hW : w.alloc (.cells (SE.sv B (.slice a1 n k1) (.slice a2 n k2) Y D (.slice none 0 0) (.slice none 0 0)).toArray 43) = W0 at HR HI HOF
  have c1 := CB.c_of HR.out.1 (j := 1) rfl
  have c2 := CB.c_of HR.out.1 (j := 2) rfl
  have c5 := CB.c_of HR.out.1 (j := 5) rfl
  have c6 := CB.c_of HR.out.1 (j := 6) rfl
  go_wp2_with fail
  clear hW
  refine (M1.out _ (HI.out.imp id fun h => ⟨h.1, h.2.1⟩)).mono ?_
  rintro e w1 ⟨rfl, hO, hm⟩
  replace HOF : Hid (Off2 g g' w w1) := ⟨Nat.le_trans HOF.out.size hO.size, fun k hk h1 h2 => (hO.block k (Nat.lt_of_lt_of_le hk HOF.out.size) h1).trans (HOF.out.block k hk h1 h2)⟩
  have HI1 : Hid (n = 0 ∨ (a1 = some ⟨g, 0, none⟩ ∧ MA.Rg w1 g 0 (SE.bl (mkT 1 n)) ∧ a2 = some ⟨g', 0, none⟩ ∧ MA.Rg w1 g' 0 (SE.bl (List.replicate n false)))) := by
    rcases HI.out with h0 | h
    · exact .inl h0
    rcases HNE.out with h0 | h1
    · exact .inl h0
    rcases hm with h0 | h2
    · exact .inl h0
    exact .inr ⟨h.1, h2, h.2.2.1, rg_only h.2.2.2 hO (Ne.symm h1)⟩
  replace HR : Hid _ := And.intro (rg_only HR.out.1 hO (Ne.symm HX.out.1)) (HR.out.2.trans (hO.below HX.out.2.2.1 (HR.out.2.size |> Nat.le_trans hB)))
  clear c1 c2 c5 c6
  clear hO hm HI M1
  have c1 := CB.c_of HR.out.1 (j := 1) rfl
  have c2 := CB.c_of HR.out.1 (j := 2) rfl
  have c5 := CB.c_of HR.out.1 (j := 5) rfl
  have c6 := CB.c_of HR.out.1 (j := 6) rfl
  go_wp2_with fail
  refine (M2.out _ (HI1.out.imp id fun h => ⟨h.2.2.1, h.2.2.2⟩)).mono ?_
  rintro e w2 ⟨rfl, hO, hm⟩
  replace HOF : Hid (Off2 g g' w w2) := ⟨Nat.le_trans HOF.out.size hO.size, fun k hk h1 h2 => (hO.block k (Nat.lt_of_lt_of_le hk HOF.out.size) h2).trans (HOF.out.block k hk h1 h2)⟩
  have HI2 : Hid (Marked w2 a1 a2 g g' n 1) := by
    rcases HI1.out with h0 | h
    · exact .inl h0
    rcases HNE.out with h0 | h1
    · exact .inl h0
    rcases hm with h0 | h2
    · exact .inl h0
    exact .inr ⟨h.1, rg_only h.2.1 hO h1, h.2.2.1, h2⟩
  replace HR : Hid _ := And.intro (rg_only HR.out.1 hO (Ne.symm HX.out.2.1)) (HR.out.2.trans (hO.below HX.out.2.2.2 (HR.out.2.size |> Nat.le_trans hB)))
  clear c1 c2 c5 c6
  clear hO hm HI1 M2
  have c1 := CB.c_of HR.out.1 (j := 1) rfl
  have c2 := CB.c_of HR.out.1 (j := 2) rfl
  have c5 := CB.c_of HR.out.1 (j := 5) rfl
  have c6 := CB.c_of HR.out.1 (j := 6) rfl
  go_wp2_with fail
  refine (MS.out _ _).mono ?_
  rintro e w3 ⟨rfl, rfl⟩
  go_wp2_with fail
  refine (MS.out _ _).mono ?_
  rintro e w3 ⟨rfl, rfl⟩
  go_wp2
  go_ret
  exact ⟨rfl, HR.out.2, HI2.out, HOF.out⟩
set_option linter.unusedSimpArgs false in
set_option maxHeartbeats 800000 in
set_option maxRecDepth 100000 in
theorem heldSession_nil (B Y : ByteArray) (D : Bool) (a1 a2 : Option Addr) (g g' k1 k2 n : Nat) (w : World) (hn : n ≤ 1048576) (hin : Marked w a1 a2 g g' n 1) :
    Calls Try.prog 22 #[.agg (SE.sv B (.slice a1 n k1) (.slice a2 n k2) Y D (.slice none 0 0) (.slice none 0 0)).toArray, .int .i64 1] w fun e w' => e = .returned (.int .i64 ((1 + n + n : Nat) : Int)) ∧ Below w.heap.size w w' := by
  have M1 : Hid (∀ W : World, Marked W a1 a2 g g' n 1 → Calls Try.prog 38 #[.slice a1 n k1, .int .i64 1] W fun e w' => e = .returned (.int .i64 ((1 + n : Nat) : Int)) ∧ W = w') := fun W h => heldT_any a1 g n k1 1 W hn (by omega) (h.imp id fun h => ⟨h.1, h.2.1⟩)
  have M2 : Hid (∀ W : World, Marked W a1 a2 g g' n 1 → Calls Try.prog 38 #[.slice a2 n k2, .int .i64 ((1 + n : Nat) : Int)] W fun e w' => e = .returned (.int .i64 ((1 + n + n : Nat) : Int)) ∧ W = w') := fun W h => heldT_any a2 g' n k2 (1 + n) W hn (by omega) (h.imp id fun h => ⟨h.2.2.1, h.2.2.2⟩)
  have MS : Hid (∀ (k : Int) (W : World), Calls Try.prog 63 #[.slice none 0 0, .int .i64 k] W fun e w' => e = .returned (.int .i64 k) ∧ W = w') := fun k W => heldSegmentS_nil k W
  have r0 := MA.Rg.new w (SE.sv B (.slice a1 n k1) (.slice a2 n k2) Y D (.slice none 0 0) (.slice none 0 0)) 43
  have hb : Below w.heap.size w (w.alloc (.cells (SE.sv B (.slice a1 n k1) (.slice a2 n k2) Y D (.slice none 0 0) (.slice none 0 0)).toArray 43)) := (Below.refl _ w).alloc (Nat.le_refl _) _
  have HI : Hid (Marked (w.alloc (.cells (SE.sv B (.slice a1 n k1) (.slice a2 n k2) Y D (.slice none 0 0) (.slice none 0 0)).toArray 43)) a1 a2 g g' n 1) := hin.below hb
  have HR : Hid _ := And.intro r0 hb
  clear r0 hb hin
  go_enter Try.func22, Try.ntmps22
  generalize hW : w.alloc (.cells (SE.sv B (.slice a1 n k1) (.slice a2 n k2) Y D (.slice none 0 0) (.slice none 0 0)).toArray 43) = W0 at HR HI
  have c1 := CB.c_of HR.out.1 (j := 1) rfl
  have c2 := CB.c_of HR.out.1 (j := 2) rfl
  have c5 := CB.c_of HR.out.1 (j := 5) rfl
  have c6 := CB.c_of HR.out.1 (j := 6) rfl
  go_wp2_with fail
  clear hW
  refine (M1.out _ HI.out).mono ?_
  rintro e w1 ⟨rfl, rfl⟩
  go_wp2_with fail
  refine (M2.out _ HI.out).mono ?_
  rintro e w1 ⟨rfl, rfl⟩
  go_wp2_with fail
  refine (MS.out _ _).mono ?_
  rintro e w1 ⟨rfl, rfl⟩
  go_wp2_with fail
  refine (MS.out _ _).mono ?_
  rintro e w1 ⟨rfl, rfl⟩
  go_wp2
  go_ret
  exact ⟨rfl, HR.out.2⟩
end Go.Proofs.Ytjlombnjmpejjaa
