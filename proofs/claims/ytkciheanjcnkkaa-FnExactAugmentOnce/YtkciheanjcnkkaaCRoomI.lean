/- What a row of pipes bears more: room of the program. -/
import Derived.Test.YtkciheanjcnkkaaRows
import Derived.Test.YtkciheanjcnkkaaCRowCall
import Derived.Test.YtkciheanjcnkkaaMRetB
import Derived.WalkKit
import Derived.WalkSpells
import Derived.WalkLawsBesides
import Derived.Outline
namespace Go.Proofs.Ytkciheanjcnkkaa
open Go.RowKit
set_option linter.unusedSimpArgs false in
set_option maxHeartbeats 1600000 in
set_option maxRecDepth 100000 in
theorem roomTell_any (g : Nat) (m : Int) (s : FL.Stp) (W : World) (hg : W.heap[g]? = some (.cells #[.int .i64 m] 3 (0, 0))) :
    Calls Try.prog 61 #[s.v, .pointer (some ⟨g, 0, none⟩)] W fun e w' => e = .returned (.tuple #[]) ∧ w'.heap[g]? = some (.cells #[.int .i64 (min m s.room)] 3 (0, 0)) ∧ MC.Only g W w' := by
  obtain ⟨sk, sb, st, sr⟩ := s
  have c0 : W.cell? ⟨g, 0, none⟩ = some (.int .i64 m) := by rw [FL.cell_block hg]; rfl
  have z0 : W.frozen? ⟨g, 0, none⟩ = false := FL.free_block hg
  have l0 : g < W.heap.size := FL.lt_of_block hg
  have FIN : Hid (∀ x : Int, ((W.setCell ⟨g, 0, none⟩ (.int .i64 x)).alloc (.cells #[.int .i64 (sk : Int), .bool sb, .int .i64 st, .int .i64 sr] 75)).heap[g]? = some (.cells #[.int .i64 x] 3 (0, 0)) ∧ MC.Only g W ((W.setCell ⟨g, 0, none⟩ (.int .i64 x)).alloc (.cells #[.int .i64 (sk : Int), .bool sb, .int .i64 st, .int .i64 sr] 75))) := fun x => by
    have hs : (W.setCell ⟨g, 0, none⟩ (.int .i64 x)).heap.size = W.heap.size := FL.set_size _ _ _
    refine ⟨by rw [Below.heap_alloc _ _ _ (by omega), FL.set_block _ hg]; rfl, ?_⟩
    exact ((MC.Only.refl g W).setCell 0 _).trans (MC.Only.of_below ((Below.refl _ _).alloc (Nat.le_refl _) _))
  clear hg
  go_enter Try.func61, Try.ntmps61
  go_wp2
  · exact bodyPost_end (results_none rfl _ _ _) rfl ⟨rfl, by rw [show min m sr = sr from by omega]; exact FIN.out _⟩
  · exact bodyPost_end (results_none rfl _ _ _) rfl ⟨rfl, by rw [show min m sr = m from by omega]; exact FIN.out _⟩
set_option linter.unusedSimpArgs false in
set_option maxHeartbeats 1600000 in
set_option maxRecDepth 100000 in
theorem room_any (lo F : Nat) (cs : Array Value) (l : List FL.Stp) (w : World) (h : FL.RowF lo w F cs l) :
    Calls Try.prog 52 #[.func (.func F) #[] cs] w fun e w' => e = .returned (.int .i64 (FL.mostOf l)) ∧ Below w.heap.size w w' := by
  have h0 : w.alloc (.cells #[.int .i64 100] 3) = w.alloc (.cells #[.int .i64 100] 3) := rfl
  have RC := rowCallRoom_any lo w.heap.size w l (fun done W => Below w.heap.size w W ∧ W.heap[w.heap.size]? = some (.cells #[.int .i64 (FL.mostOf done)] 3 (0, 0)))
    (fun done s W _ hI => (roomTell_any w.heap.size (FL.mostOf done) s W hI.2).mono (by
      rintro e w' ⟨rfl, h1, h2⟩
      refine ⟨rfl, ?_, by rw [FL.mostOf_snoc]; exact h1⟩
      exact hI.1.trans (h2.below (Nat.le_refl _) hI.1.size)))
    (fun done W hI k hk _ _ => hI.1.block k hk) h [] (w.alloc (.cells #[.int .i64 100] 3)) (by rw [List.nil_append]; exact List.prefix_rfl) ⟨(Below.refl _ w).alloc (Nat.le_refl _) _, heap_alloc_new _ _⟩
  rw [List.nil_append] at RC
  clear h0
  rcases h.which with ⟨rfl, rfl⟩ | ⟨rfl, c1, c2, rfl⟩
  · have RC2 : Hid (Calls Try.prog 55 #[.func (.func 61) #[] #[.pointer (some ⟨w.heap.size, 0, none⟩)]] (w.alloc (.cells #[.int .i64 100] 3)) fun e w' => e = .returned (.tuple #[]) ∧ (Below w.heap.size w w' ∧ w'.heap[w.heap.size]? = some (.cells #[.int .i64 (FL.mostOf l)] 3 (0, 0)))) := RC
    clear RC h
    generalize FL.mostOf l = m at *
    go_enter Try.func52, Try.ntmps52
    go_wp2_with fail
    refine Calls.mono RC2.out ?_
    rintro e w2 ⟨rfl, hb2, hg2⟩
    have c2 : w2.cell? ⟨w.heap.size, 0, none⟩ = some (.int .i64 m) := by rw [FL.cell_block hg2]; rfl
    have l2 : w.heap.size < w2.heap.size := FL.lt_of_block hg2
    clear RC2 hg2
    go_wp2
    go_ret
    exact ⟨rfl, hb2⟩
  · have RC2 : Hid (Calls Try.prog 63 #[.func (.func 61) #[] #[.pointer (some ⟨w.heap.size, 0, none⟩)], .pointer (some ⟨c1, 0, none⟩), .pointer (some ⟨c2, 0, none⟩)] (w.alloc (.cells #[.int .i64 100] 3)) fun e w' => e = .returned (.tuple #[]) ∧ (Below w.heap.size w w' ∧ w'.heap[w.heap.size]? = some (.cells #[.int .i64 (FL.mostOf l)] 3 (0, 0)))) := RC
    clear RC h
    generalize FL.mostOf l = m at *
    go_enter Try.func52, Try.ntmps52
    go_wp2_with fail
    refine Calls.mono RC2.out ?_
    rintro e w2 ⟨rfl, hb2, hg2⟩
    have c2 : w2.cell? ⟨w.heap.size, 0, none⟩ = some (.int .i64 m) := by rw [FL.cell_block hg2]; rfl
    have l2 : w.heap.size < w2.heap.size := FL.lt_of_block hg2
    clear RC2 hg2
    go_wp2
    go_ret
    exact ⟨rfl, hb2⟩
end Go.Proofs.Ytkciheanjcnkkaa
