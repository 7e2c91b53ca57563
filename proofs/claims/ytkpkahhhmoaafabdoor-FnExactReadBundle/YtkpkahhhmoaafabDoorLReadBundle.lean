import Derived.Test.YtkpkahhhmoaafabDoorRows
import Derived.Test.YtkpkahhhmoaafabDoorMB1
import Derived.WalkKit
import Derived.WalkSpells
import Derived.WalkLawsBesides
import Derived.Outline
import Derived.Test.YtkpkahhhmoaafabDoorCReadBundleS
/- The laws' eqBundle tells that a bundle is itself. -/
namespace Go.Proofs.YtkpkahhhmoaafabDoor
open Go.RowKit
set_option maxHeartbeats 800000 in
set_option maxRecDepth 100000 in
theorem eqBundle_self (b : Bd) (w : World) : Calls Tryd.prog 13 #[b.v, b.v] w fun e w' => e = .returned (.bool true) ∧ Below w.heap.size w w' := by
  obtain ⟨fr, to, gr, md, no, lf, hp, of, tl, py⟩ := b
  go_enter Tryd.func13, Tryd.ntmps13
  go_wp2
  go_ret
  exact ⟨rfl, ((Below.refl _ w).alloc (Nat.le_refl _) _).alloc (by simp) _⟩
end Go.Proofs.YtkpkahhhmoaafabDoor

/- The law FnExactReadBundle answers true at every text, where impl.crcTable is as its text lays it. -/
namespace Go.Proofs.YtkpkahhhmoaafabDoor
open Go.RowKit
/-- The answer's two parts. -/
theorem rb_one (s : ByteArray) : ∃ (O1 : Bd) (O2 : Bool), ∀ e, RB s e → e = .returned (.tuple #[O1.v, .bool O2]) := by
  by_cases h : B3.P s
  · exact ⟨B3.bOf (B3.L s), true, fun e he => he.elim (fun h' => h'.2) (fun h' => absurd h h'.1)⟩
  · exact ⟨B1.zero, false, fun e he => he.elim (fun h' => absurd h'.1 h) (fun h' => h'.2)⟩
set_option maxHeartbeats 800000 in
set_option maxRecDepth 100000 in
theorem lawReadBundle_any (s : ByteArray) (w : World) (hs0 : s.size ≤ maxLen) (hT : Tab w) :
    Calls Tryd.prog 4 #[.string s] w fun e w' => e = .returned (.bool true) ∧ Below w.heap.size w w' := by
  obtain ⟨O1, O2, hO⟩ := rb_one s
  have EQ : Hid _ := fun W => eqBundle_self O1 W
  have SG : Hid (∀ W : World, Calls Tryd.prog 11 #[.string s] W fun e w' => e = .returned (.tuple #[O1.v, .bool O2]) ∧ Below W.heap.size W w') := fun W => (specReadBundle_any s W hs0).mono fun e w' h => ⟨hO e h.1, h.2⟩
  have IG : Hid (∀ W : World, Below w.heap.size w W → Calls Tryd.prog 12 #[.string s] W fun e w' => e = .returned (.tuple #[O1.v, .bool O2]) ∧ Below W.heap.size W w') := fun W hb => (implReadBundle_any s W hs0 (hT.below hb)).mono fun e w' h => ⟨hO e h.1, h.2⟩
  clear hO hT
  have hs := hs0
  unfold maxLen at hs
  by_cases h1 : s.size ≤ 1048576
  · go_enter Tryd.func4, Tryd.ntmps4
    go_wp2_with fail
    refine Calls.mono (SG.out _) ?_
    rintro e w3 ⟨rfl, hB3⟩
    have hx3 : Below w3.heap.size w3 _ := (Below.refl _ w3).alloc (Nat.le_refl _) (.cells #[.int .i64 O1.fr, .int .i64 O1.to, .bool O1.gr, .int .i64 O1.md, .int .i64 O1.no, .int .i64 O1.lf, .int .i64 O1.hp, .int .i64 O1.of, .int .i64 O1.tl, .string O1.py] 27)
    have hB3a := hB3.trans (hx3.mono hB3.size)
    have hW3 : BdAt _ _ O1 := BdAt.box w3 O1 27
    clear SG hB3 hx3
    go_wp2_with fail
    refine Calls.mono (IG.out _ hB3a) ?_
    rintro e w5 ⟨rfl, hb5⟩
    have hB5 := hB3a.trans (hb5.mono hB3a.size)
    have hW5 := hW3.below hb5 hW3.1
    have hx5 : Below w5.heap.size w5 _ := (Below.refl _ w5).alloc (Nat.le_refl _) (.cells #[.int .i64 O1.fr, .int .i64 O1.to, .bool O1.gr, .int .i64 O1.md, .int .i64 O1.no, .int .i64 O1.lf, .int .i64 O1.hp, .int .i64 O1.of, .int .i64 O1.tl, .string O1.py] 27)
    have hB5a := hB5.trans (hx5.mono hB5.size)
    have hW5a := hW5.below hx5 hW5.1
    clear IG hb5 hB3a hW3 hW5 hB5 hx5
    obtain ⟨hlt, q0, q1, q2, q3, q4, q5, q6, q7, q8, q9⟩ := id hW5a
    go_wp2_with fail
    refine Calls.mono (EQ.out _) ?_
    rintro e w6 ⟨rfl, hb6⟩
    have hB6 := hB5a.trans (hb6.mono hB5a.size)
    clear EQ hb6 hB5a hW5a hlt q0 q1 q2 q3 q4 q5 q6 q7 q8 q9
    go_wp2
    go_ret
    exact ⟨rfl, hB6⟩
  · go_enter Tryd.func4, Tryd.ntmps4
    go_wp2
    go_ret
    exact ⟨rfl, Below.refl _ _⟩
end Go.Proofs.YtkpkahhhmoaafabDoor
