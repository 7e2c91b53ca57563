/- The law FnExactTokensIn answers true at every spray. -/
import Derived.Test.YtgbneidgokjbbaaRows
import Derived.Test.YtgbneidgokjbbaaCSprT
import Derived.Test.YtgbneidgokjbbaaCSprU
import Derived.Test.YtgbneidgokjbbaaCSprL
import Derived.WalkKit
import Derived.WalkSpells
import Derived.WalkLawsBesides
import Derived.Outline
import Derived.Deep.RegionWith
import Derived.Deep.RegionHeld3
namespace Go.Proofs.Ytgbneidgokjbbaa
open Go.RowKit
set_option maxHeartbeats 1600000 in
set_option maxRecDepth 100000 in
theorem lawTokSpr_any (a : Option Addr) (cap : Nat) (zs : List Int) (t : Int) (th : Bool) (w : World) (hl : zs.length ≤ maxLen) (hi : M4.IntsAt w a zs) :
    Calls Try.prog 8 #[SP.sv (.slice a zs.length cap) t th] w fun e w' => e = .returned (.bool true) ∧ Below w.heap.size w w' := by
  unfold maxLen at hl
  have SZ : Hid (∀ W : World, Calls Try.prog 14 #[SP.sv (.slice a zs.length cap) t th, .int .i64 1048576] W fun e w' => ∃ r : Int, e = .returned (.int .i64 r) ∧ (r < 0 ∨ 0 ≤ r ∧ zs.length ≤ 1048576) ∧ Below W.heap.size W w') := fun W => szSpray_any a zs.length cap t th W (by omega)
  have TO : Hid (zs.length ≤ 1048576 → ∀ W : World, Below w.heap.size w W → Calls Try.prog 16 #[SP.sv (.slice a zs.length cap) t th] W fun e w' => ∃ g, e = .returned (SP.sv (.slice (some ⟨g, 0, none⟩) zs.length zs.length) t th) ∧ M4.IntsAt w' (some ⟨g, 0, none⟩) zs ∧ Below W.heap.size W w') := fun hz W hb => (toSpray_own a cap zs t th W hz (hi.below hb)).mono fun e w' ⟨g, h1, h2, h3⟩ => ⟨g, h1, M4.IntsAt.of_own h2, h3⟩
  have SG : Hid (zs.length ≤ 1048576 → ∀ (g : Nat) (W : World), M4.IntsAt W (some ⟨g, 0, none⟩) zs → Calls Try.prog 32 #[SP.sv (.slice (some ⟨g, 0, none⟩) zs.length zs.length) t th] W fun e w' => e = .returned (.tuple #[.int .i64 (if SP.good zs t = true then SP.sm zs zs.length else 0), .bool (SP.good zs t)]) ∧ Below W.heap.size W w') := fun hz g W h => specTokens_any _ _ zs t th W h hz
  have IG : Hid (zs.length ≤ 1048576 → ∀ (g : Nat) (W : World), M4.IntsAt W (some ⟨g, 0, none⟩) zs → Calls Try.prog 33 #[SP.sv (.slice (some ⟨g, 0, none⟩) zs.length zs.length) t th] W fun e w' => e = .returned (.tuple #[.int .i64 (if SP.good zs t = true then SP.sm zs zs.length else 0), .bool (SP.good zs t)]) ∧ Below W.heap.size W w') := fun hz g W h => implTokens_any _ _ zs t th W h hz
  have EQ : Hid (zs.length ≤ 1048576 → ∀ (g g' : Nat) (W : World), M4.IntsAt W (some ⟨g, 0, none⟩) zs → M4.IntsAt W (some ⟨g', 0, none⟩) zs → Calls Try.prog 11 #[SP.sv (.slice (some ⟨g, 0, none⟩) zs.length zs.length) t th, SP.sv (.slice (some ⟨g', 0, none⟩) zs.length zs.length) t th] W fun e w' => e = .returned (.bool true) ∧ Below W.heap.size W w') := fun hz g g' W h h' => eqSpray_any _ _ _ _ zs t th W hz h h'
  generalize (if SP.good zs t = true then SP.sm zs zs.length else 0) = R at *
  generalize SP.good zs t = G at *
  have hRR : (R == R) = true := by simp
  clear hi hl
  have BX : Below w.heap.size w (w.alloc (.cells #[.slice a zs.length cap, .int .i64 t, .bool th] 30)) := (Below.refl _ _).alloc (Nat.le_refl _) _
  have b0 := SP.B3.new w (.slice a zs.length cap) (.int .i64 t) (.bool th) 30 rfl
  go_enter Try.func8, Try.ntmps8
  go_wp2_with fail
  refine (SZ.out _).mono ?_
  rintro e w1 ⟨r, rfl, hr, hb1⟩
  have B1 := BX.trans (hb1.mono BX.size)
  replace b0 := b0.below hb1 b0.lt
  clear SZ BX hb1
  by_cases h0 : r < 0
  · clear hr TO SG IG EQ b0
    go_wp2
    go_ret
    exact ⟨rfl, B1⟩
  · have hz : zs.length ≤ 1048576 := by omega
    have hr0 : 0 ≤ r := by omega
    replace TO : Hid _ := TO.out hz
    replace SG : Hid _ := SG.out hz
    replace IG : Hid _ := IG.out hz
    replace EQ : Hid _ := EQ.out hz
    clear hr hz
    generalize zs.length = m at *
    obtain ⟨c0, c1, c2⟩ := b0.cells
    go_wp2_with fail
    clear c0 c1 c2
    refine (TO.out _ B1).mono ?_
    rintro e w2 ⟨g, rfl, i2, hb⟩
    have B2 := B1.trans (hb.mono B1.size)
    replace b0 := b0.below hb b0.lt
    clear hb B1
    go_wp2_with fail
    refine (SG.out g _ i2).mono ?_
    rintro e w3 ⟨rfl, hb⟩
    have B3 := B2.trans (hb.mono B2.size)
    replace b0 := b0.below hb b0.lt
    clear hb B2 SG i2
    obtain ⟨c0, c1, c2⟩ := b0.cells
    go_wp2_with fail
    clear c0 c1 c2
    refine (TO.out _ B3).mono ?_
    rintro e w4 ⟨g', rfl, i4, hb⟩
    have B4 := B3.trans (hb.mono B3.size)
    replace b0 := (b0.below hb b0.lt).alloc (.cells #[.slice (some ⟨g', 0, none⟩) m m, .int .i64 t, .bool th] 24)
    have b1 := SP.B3.new w4 (.slice (some ⟨g', 0, none⟩) m m) (.int .i64 t) (.bool th) 24 rfl
    have hb4 : Below w4.heap.size w4 (w4.alloc (.cells #[.slice (some ⟨g', 0, none⟩) m m, .int .i64 t, .bool th] 24)) := (Below.refl _ _).alloc (Nat.le_refl _) _
    replace B4 := B4.trans (hb4.mono B4.size)
    replace i4 := i4.below hb4
    clear hb B3 hb4
    go_wp2_with fail
    refine (IG.out g' _ i4).mono ?_
    rintro e w5 ⟨rfl, hb⟩
    have B5 := B4.trans (hb.mono B4.size)
    replace b0 := b0.below hb b0.lt
    replace b1 := b1.below hb b1.lt
    replace i4 := i4.below hb
    clear hb B4 IG
    generalize w4.heap.size = p at *
    have hp : p < w5.heap.size := b1.lt
    have h0 := b0.lt
    have KP : ∀ w1 w2 : World, (Below w5.heap.size w5 w1 ∧ (w1.cell? ⟨w.heap.size, 0, none⟩ = some (.slice a m cap) ∧ w1.cell? ⟨w.heap.size, 1, none⟩ = some (.int .i64 t) ∧ w1.cell? ⟨w.heap.size, 2, none⟩ = some (.bool th)) ∧ w1.cell? ⟨p, 0, none⟩ = some (.slice (some ⟨g', 0, none⟩) m m) ∧ w1.cell? ⟨p, 1, none⟩ = some (.int .i64 t) ∧ w1.cell? ⟨p, 2, none⟩ = some (.bool th)) → Below w1.heap.size w1 w2 → (Below w5.heap.size w5 w2 ∧ (w2.cell? ⟨w.heap.size, 0, none⟩ = some (.slice a m cap) ∧ w2.cell? ⟨w.heap.size, 1, none⟩ = some (.int .i64 t) ∧ w2.cell? ⟨w.heap.size, 2, none⟩ = some (.bool th)) ∧ w2.cell? ⟨p, 0, none⟩ = some (.slice (some ⟨g', 0, none⟩) m m) ∧ w2.cell? ⟨p, 1, none⟩ = some (.int .i64 t) ∧ w2.cell? ⟨p, 2, none⟩ = some (.bool th)) := fun w1 w2 h hb => ⟨h.1.trans (hb.mono h.1.size), ⟨(hb.cell (p := ⟨w.heap.size, 0, none⟩) (Nat.lt_of_lt_of_le h0 h.1.size)).trans h.2.1.1, (hb.cell (p := ⟨w.heap.size, 1, none⟩) (Nat.lt_of_lt_of_le h0 h.1.size)).trans h.2.1.2.1, (hb.cell (p := ⟨w.heap.size, 2, none⟩) (Nat.lt_of_lt_of_le h0 h.1.size)).trans h.2.1.2.2⟩, (hb.cell (p := ⟨p, 0, none⟩) (Nat.lt_of_lt_of_le hp h.1.size)).trans h.2.2.1, (hb.cell (p := ⟨p, 1, none⟩) (Nat.lt_of_lt_of_le hp h.1.size)).trans h.2.2.2.1, (hb.cell (p := ⟨p, 2, none⟩) (Nat.lt_of_lt_of_le hp h.1.size)).trans h.2.2.2.2⟩
    have TQ : Hid (∀ W' : World, (Below w5.heap.size w5 W' ∧ (W'.cell? ⟨w.heap.size, 0, none⟩ = some (.slice a m cap) ∧ W'.cell? ⟨w.heap.size, 1, none⟩ = some (.int .i64 t) ∧ W'.cell? ⟨w.heap.size, 2, none⟩ = some (.bool th)) ∧ W'.cell? ⟨p, 0, none⟩ = some (.slice (some ⟨g', 0, none⟩) m m) ∧ W'.cell? ⟨p, 1, none⟩ = some (.int .i64 t) ∧ W'.cell? ⟨p, 2, none⟩ = some (.bool th)) → Calls Try.prog 16 #[SP.sv (.slice a m cap) t th] W' fun e w' => ∃ g, e = .returned (SP.sv (.slice (some ⟨g, 0, none⟩) m m) t th) ∧ M4.IntsAt w' (some ⟨g, 0, none⟩) zs ∧ (Below w5.heap.size w5 w' ∧ (w'.cell? ⟨w.heap.size, 0, none⟩ = some (.slice a m cap) ∧ w'.cell? ⟨w.heap.size, 1, none⟩ = some (.int .i64 t) ∧ w'.cell? ⟨w.heap.size, 2, none⟩ = some (.bool th)) ∧ w'.cell? ⟨p, 0, none⟩ = some (.slice (some ⟨g', 0, none⟩) m m) ∧ w'.cell? ⟨p, 1, none⟩ = some (.int .i64 t) ∧ w'.cell? ⟨p, 2, none⟩ = some (.bool th))) := fun W' h => (TO.out W' (B5.trans (h.1.mono B5.size))).mono fun e w' ⟨g, e1, hi, hb⟩ => ⟨g, e1, hi, KP _ _ h hb⟩
    have EQQ : Hid (∀ (g : Nat) (W' : World), (Below w5.heap.size w5 W' ∧ (W'.cell? ⟨w.heap.size, 0, none⟩ = some (.slice a m cap) ∧ W'.cell? ⟨w.heap.size, 1, none⟩ = some (.int .i64 t) ∧ W'.cell? ⟨w.heap.size, 2, none⟩ = some (.bool th)) ∧ W'.cell? ⟨p, 0, none⟩ = some (.slice (some ⟨g', 0, none⟩) m m) ∧ W'.cell? ⟨p, 1, none⟩ = some (.int .i64 t) ∧ W'.cell? ⟨p, 2, none⟩ = some (.bool th)) → M4.IntsAt W' (some ⟨g, 0, none⟩) zs → Calls Try.prog 11 #[SP.sv (.slice (some ⟨g', 0, none⟩) m m) t th, SP.sv (.slice (some ⟨g, 0, none⟩) m m) t th] W' fun e w' => e = .returned (.bool true) ∧ (Below w5.heap.size w5 w' ∧ (w'.cell? ⟨w.heap.size, 0, none⟩ = some (.slice a m cap) ∧ w'.cell? ⟨w.heap.size, 1, none⟩ = some (.int .i64 t) ∧ w'.cell? ⟨w.heap.size, 2, none⟩ = some (.bool th)) ∧ w'.cell? ⟨p, 0, none⟩ = some (.slice (some ⟨g', 0, none⟩) m m) ∧ w'.cell? ⟨p, 1, none⟩ = some (.int .i64 t) ∧ w'.cell? ⟨p, 2, none⟩ = some (.bool th))) := fun g W' h h2 => (EQ.out g' g W' (i4.below h.1) h2).mono fun e w' ⟨e1, hb⟩ => ⟨e1, KP _ _ h hb⟩
    obtain ⟨c0, c1, c2⟩ := b0.cells
    obtain ⟨d0, d1, d2⟩ := b1.cells
    have hSd : Below w5.heap.size w5 w5.drew ∧ (w5.drew.cell? ⟨w.heap.size, 0, none⟩ = some (.slice a m cap) ∧ w5.drew.cell? ⟨w.heap.size, 1, none⟩ = some (.int .i64 t) ∧ w5.drew.cell? ⟨w.heap.size, 2, none⟩ = some (.bool th)) ∧ w5.drew.cell? ⟨p, 0, none⟩ = some (.slice (some ⟨g', 0, none⟩) m m) ∧ w5.drew.cell? ⟨p, 1, none⟩ = some (.int .i64 t) ∧ w5.drew.cell? ⟨p, 2, none⟩ = some (.bool th) := ⟨(Below.refl _ _).drew, ⟨c0, c1, c2⟩, d0, d1, d2⟩
    have HB5 : Hid _ := B5
    clear KP TO EQ i4 b0 b1 B5
    cases G
    all_goals
      go_wp2
      go_region_held3 (fun w' => Below w5.heap.size w5 w' ∧ (w'.cell? ⟨w.heap.size, 0, none⟩ = some (.slice a m cap) ∧ w'.cell? ⟨w.heap.size, 1, none⟩ = some (.int .i64 t) ∧ w'.cell? ⟨w.heap.size, 2, none⟩ = some (.bool th)) ∧ w'.cell? ⟨p, 0, none⟩ = some (.slice (some ⟨g', 0, none⟩) m m) ∧ w'.cell? ⟨p, 1, none⟩ = some (.int .i64 t) ∧ w'.cell? ⟨p, 2, none⟩ = some (.bool th)) (first | assumption | (show _ ∧ _; assumption)) (first | (go_at_call 16; refine Calls.mono (TQ.out _ (by assumption)) ?_; (rintro e wq ⟨gq, rfl, hrq, hSq⟩)) | (go_at_call 11; refine Calls.mono (EQQ.out _ _ (by assumption) (by assumption)) ?_; (rintro e w6 ⟨rfl, hSr⟩)))
      have hb := hSr.1
      clear hSd hSq hSr hrq TQ EQQ c0 c1 c2 d0 d1 d2
      go_wp2
      go_ret
      exact ⟨rfl, HB5.out.trans (hb.mono HB5.out.size)⟩
end Go.Proofs.Ytgbneidgokjbbaa
