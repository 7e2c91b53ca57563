/- A row of pipes is gone through: each of its steps is told, in their order. -/
import Derived.Test.YtndaapidfiocoaaRows
import Derived.Test.YtndaapidfiocoaaCRowF
import Derived.WalkKit
import Derived.WalkSpells
import Derived.WalkLawsBesides
import Derived.Outline
namespace Go.Proofs.Ytndaapidfiocoaa
open Go.RowKit
theorem FL.RowF.which {lo : Nat} {W : World} {F : Nat} {cs : Array Value} {l : List FL.Stp} (h : FL.RowF lo W F cs l) : (F = 60 ∧ cs = #[]) ∨ (F = 68 ∧ ∃ b1 b2, cs = #[.pointer (some ⟨b1, 0, none⟩), .pointer (some ⟨b2, 0, none⟩)]) := by
  cases h with
  | nil => exact .inl ⟨rfl, rfl⟩
  | and s h l1 l2 h1 h2 => exact .inr ⟨rfl, _, _, rfl⟩
set_option linter.unusedSimpArgs false in
set_option maxHeartbeats 1600000 in
set_option maxRecDepth 100000 in
theorem rowCallRoom_any (lo : Nat) (g1 : Nat) (W0 : World) (L : List FL.Stp) (I : List FL.Stp → World → Prop)
    (hT : ∀ done s W, (done ++ [s]) <+: L → I done W → Calls Try.prog 66 #[s.v, .pointer (some ⟨g1, 0, none⟩)] W fun e w' => e = .returned (.tuple #[]) ∧ I (done ++ [s]) w')
    (hK : ∀ done W, I done W → ∀ k, k < W0.heap.size → lo ≤ k → (∀ cs fr, W0.heap[k]? ≠ some (.cells cs 3 fr)) → W.heap[k]? = W0.heap[k]?)
    {F : Nat} {cs : Array Value} {l : List FL.Stp} (h : FL.RowF lo W0 F cs l) :
    ∀ done W, (done ++ l) <+: L → I done W → Calls Try.prog F (#[.func (.func 66) #[] #[.pointer (some ⟨g1, 0, none⟩)]] ++ cs) W fun e w' => e = .returned (.tuple #[]) ∧ I (done ++ l) w' := by
  induction h with
  | nil =>
    intro done W _ hI
    rw [List.append_nil]
    go_enter Try.func60, Try.ntmps60
    go_wp2
    exact bodyPost_end (results_none rfl _ _ _) rfl ⟨rfl, hI⟩
  | @and F cs l s b1 b2 h l1 l2 h1 h2 ih =>
    intro done W hP hI
    have k1 := hK done W hI b1 (FL.lt_of_block h1) l1 (fun c r e => by rw [h1] at e; simp only [Option.some.injEq, Obj.cells.injEq] at e; exact absurd e.2.1 (by decide))
    have c1 : W.cell? ⟨b1, 0, none⟩ = some (.func (.func F) #[] cs) := by rw [FL.cell_block (k1.trans h1)]; rfl
    have hl1 : b1 < W.heap.size := FL.lt_of_block (k1.trans h1)
    have IH := ih done W (List.IsPrefix.trans ⟨[s], by simp⟩ hP) hI
    clear ih k1
    rcases h.which with ⟨rfl, rfl⟩ | ⟨rfl, c1', c2', rfl⟩
    · clear h
      have IH2 : Hid (Calls Try.prog 60 #[.func (.func 66) #[] #[.pointer (some ⟨g1, 0, none⟩)]] W fun e w' => e = .returned (.tuple #[]) ∧ I (done ++ l) w') := IH
      clear IH
      go_enter Try.func68, Try.ntmps68
      go_wp2_with fail
      refine Calls.mono IH2.out ?_
      rintro e w1 ⟨rfl, hI1⟩
      have k2 := hK _ w1 hI1 b2 (FL.lt_of_block h2) l2 (fun c r e => by rw [h2] at e; simp only [Option.some.injEq, Obj.cells.injEq] at e; exact absurd e.2.1 (by decide))
      have B2 := k2.trans h2
      have d0 : w1.cell? ⟨b2, 0, none⟩ = some (.int .i64 (s.k : Int)) := by rw [FL.cell_block B2]; rfl
      have d1 : w1.cell? ⟨b2, 1, none⟩ = some (.bool s.back) := by rw [FL.cell_block B2]; rfl
      have d2 : w1.cell? ⟨b2, 2, none⟩ = some (.int .i64 s.to) := by rw [FL.cell_block B2]; rfl
      have d3 : w1.cell? ⟨b2, 3, none⟩ = some (.int .i64 s.room) := by rw [FL.cell_block B2]; rfl
      have hl2 : b2 < w1.heap.size := FL.lt_of_block B2
      have TL : Hid _ := hT _ s w1 (by rw [List.append_assoc]; exact hP) hI1
      obtain ⟨sk, sb, st, sr⟩ := s
      clear IH2 k2 B2 h2 hT hK hI1 c1 hl1 h1 hP
      simp only at d0 d1 d2 d3
      go_wp2_with fail
      refine Calls.mono TL.out ?_
      rintro e w2 ⟨rfl, hI2⟩
      clear TL
      go_wp2
      exact bodyPost_end (results_none rfl _ _ _) rfl ⟨rfl, by rw [← List.append_assoc]; exact hI2⟩

    · clear h
      have IH2 : Hid (Calls Try.prog 68 #[.func (.func 66) #[] #[.pointer (some ⟨g1, 0, none⟩)], .pointer (some ⟨c1', 0, none⟩), .pointer (some ⟨c2', 0, none⟩)] W fun e w' => e = .returned (.tuple #[]) ∧ I (done ++ l) w') := IH
      clear IH
      go_enter Try.func68, Try.ntmps68
      go_wp2_with fail
      refine Calls.mono IH2.out ?_
      rintro e w1 ⟨rfl, hI1⟩
      have k2 := hK _ w1 hI1 b2 (FL.lt_of_block h2) l2 (fun c r e => by rw [h2] at e; simp only [Option.some.injEq, Obj.cells.injEq] at e; exact absurd e.2.1 (by decide))
      have B2 := k2.trans h2
      have d0 : w1.cell? ⟨b2, 0, none⟩ = some (.int .i64 (s.k : Int)) := by rw [FL.cell_block B2]; rfl
      have d1 : w1.cell? ⟨b2, 1, none⟩ = some (.bool s.back) := by rw [FL.cell_block B2]; rfl
      have d2 : w1.cell? ⟨b2, 2, none⟩ = some (.int .i64 s.to) := by rw [FL.cell_block B2]; rfl
      have d3 : w1.cell? ⟨b2, 3, none⟩ = some (.int .i64 s.room) := by rw [FL.cell_block B2]; rfl
      have hl2 : b2 < w1.heap.size := FL.lt_of_block B2
      have TL : Hid _ := hT _ s w1 (by rw [List.append_assoc]; exact hP) hI1
      obtain ⟨sk, sb, st, sr⟩ := s
      clear IH2 k2 B2 h2 hT hK hI1 c1 hl1 h1 hP
      simp only at d0 d1 d2 d3
      go_wp2_with fail
      refine Calls.mono TL.out ?_
      rintro e w2 ⟨rfl, hI2⟩
      clear TL
      go_wp2
      exact bodyPost_end (results_none rfl _ _ _) rfl ⟨rfl, by rw [← List.append_assoc]; exact hI2⟩

set_option linter.unusedSimpArgs false in
set_option maxHeartbeats 1600000 in
set_option maxRecDepth 100000 in
theorem rowCallPut_any (lo : Nat) (g1 g2 : Nat) (W0 : World) (L : List FL.Stp) (I : List FL.Stp → World → Prop)
    (hT : ∀ done s W, (done ++ [s]) <+: L → I done W → Calls Try.prog 67 #[s.v, .pointer (some ⟨g1, 0, none⟩), .pointer (some ⟨g2, 0, none⟩)] W fun e w' => e = .returned (.tuple #[]) ∧ I (done ++ [s]) w')
    (hK : ∀ done W, I done W → ∀ k, k < W0.heap.size → lo ≤ k → (∀ cs fr, W0.heap[k]? ≠ some (.cells cs 3 fr)) → W.heap[k]? = W0.heap[k]?)
    {F : Nat} {cs : Array Value} {l : List FL.Stp} (h : FL.RowF lo W0 F cs l) :
    ∀ done W, (done ++ l) <+: L → I done W → Calls Try.prog F (#[.func (.func 67) #[] #[.pointer (some ⟨g1, 0, none⟩), .pointer (some ⟨g2, 0, none⟩)]] ++ cs) W fun e w' => e = .returned (.tuple #[]) ∧ I (done ++ l) w' := by
  induction h with
  | nil =>
    intro done W _ hI
    rw [List.append_nil]
    go_enter Try.func60, Try.ntmps60
    go_wp2
    exact bodyPost_end (results_none rfl _ _ _) rfl ⟨rfl, hI⟩
  | @and F cs l s b1 b2 h l1 l2 h1 h2 ih =>
    intro done W hP hI
    have k1 := hK done W hI b1 (FL.lt_of_block h1) l1 (fun c r e => by rw [h1] at e; simp only [Option.some.injEq, Obj.cells.injEq] at e; exact absurd e.2.1 (by decide))
    have c1 : W.cell? ⟨b1, 0, none⟩ = some (.func (.func F) #[] cs) := by rw [FL.cell_block (k1.trans h1)]; rfl
    have hl1 : b1 < W.heap.size := FL.lt_of_block (k1.trans h1)
    have IH := ih done W (List.IsPrefix.trans ⟨[s], by simp⟩ hP) hI
    clear ih k1
    rcases h.which with ⟨rfl, rfl⟩ | ⟨rfl, c1', c2', rfl⟩
    · clear h
      have IH2 : Hid (Calls Try.prog 60 #[.func (.func 67) #[] #[.pointer (some ⟨g1, 0, none⟩), .pointer (some ⟨g2, 0, none⟩)]] W fun e w' => e = .returned (.tuple #[]) ∧ I (done ++ l) w') := IH
      clear IH
      go_enter Try.func68, Try.ntmps68
      go_wp2_with fail
      refine Calls.mono IH2.out ?_
      rintro e w1 ⟨rfl, hI1⟩
      have k2 := hK _ w1 hI1 b2 (FL.lt_of_block h2) l2 (fun c r e => by rw [h2] at e; simp only [Option.some.injEq, Obj.cells.injEq] at e; exact absurd e.2.1 (by decide))
      have B2 := k2.trans h2
      have d0 : w1.cell? ⟨b2, 0, none⟩ = some (.int .i64 (s.k : Int)) := by rw [FL.cell_block B2]; rfl
      have d1 : w1.cell? ⟨b2, 1, none⟩ = some (.bool s.back) := by rw [FL.cell_block B2]; rfl
      have d2 : w1.cell? ⟨b2, 2, none⟩ = some (.int .i64 s.to) := by rw [FL.cell_block B2]; rfl
      have d3 : w1.cell? ⟨b2, 3, none⟩ = some (.int .i64 s.room) := by rw [FL.cell_block B2]; rfl
      have hl2 : b2 < w1.heap.size := FL.lt_of_block B2
      have TL : Hid _ := hT _ s w1 (by rw [List.append_assoc]; exact hP) hI1
      obtain ⟨sk, sb, st, sr⟩ := s
      clear IH2 k2 B2 h2 hT hK hI1 c1 hl1 h1 hP
      simp only at d0 d1 d2 d3
      go_wp2_with fail
      refine Calls.mono TL.out ?_
      rintro e w2 ⟨rfl, hI2⟩
      clear TL
      go_wp2
      exact bodyPost_end (results_none rfl _ _ _) rfl ⟨rfl, by rw [← List.append_assoc]; exact hI2⟩

    · clear h
      have IH2 : Hid (Calls Try.prog 68 #[.func (.func 67) #[] #[.pointer (some ⟨g1, 0, none⟩), .pointer (some ⟨g2, 0, none⟩)], .pointer (some ⟨c1', 0, none⟩), .pointer (some ⟨c2', 0, none⟩)] W fun e w' => e = .returned (.tuple #[]) ∧ I (done ++ l) w') := IH
      clear IH
      go_enter Try.func68, Try.ntmps68
      go_wp2_with fail
      refine Calls.mono IH2.out ?_
      rintro e w1 ⟨rfl, hI1⟩
      have k2 := hK _ w1 hI1 b2 (FL.lt_of_block h2) l2 (fun c r e => by rw [h2] at e; simp only [Option.some.injEq, Obj.cells.injEq] at e; exact absurd e.2.1 (by decide))
      have B2 := k2.trans h2
      have d0 : w1.cell? ⟨b2, 0, none⟩ = some (.int .i64 (s.k : Int)) := by rw [FL.cell_block B2]; rfl
      have d1 : w1.cell? ⟨b2, 1, none⟩ = some (.bool s.back) := by rw [FL.cell_block B2]; rfl
      have d2 : w1.cell? ⟨b2, 2, none⟩ = some (.int .i64 s.to) := by rw [FL.cell_block B2]; rfl
      have d3 : w1.cell? ⟨b2, 3, none⟩ = some (.int .i64 s.room) := by rw [FL.cell_block B2]; rfl
      have hl2 : b2 < w1.heap.size := FL.lt_of_block B2
      have TL : Hid _ := hT _ s w1 (by rw [List.append_assoc]; exact hP) hI1
      obtain ⟨sk, sb, st, sr⟩ := s
      clear IH2 k2 B2 h2 hT hK hI1 c1 hl1 h1 hP
      simp only at d0 d1 d2 d3
      go_wp2_with fail
      refine Calls.mono TL.out ?_
      rintro e w2 ⟨rfl, hI2⟩
      clear TL
      go_wp2
      exact bodyPost_end (results_none rfl _ _ _) rfl ⟨rfl, by rw [← List.append_assoc]; exact hI2⟩

end Go.Proofs.Ytndaapidfiocoaa
