/- The law FnExactCarriersIn answers true at every spray. -/
import Derived.Test.YtgbneidgokjbbaaRows
import Derived.Test.YtgbneidgokjbbaaCSprC
import Derived.Test.YtgbneidgokjbbaaCSprU
import Derived.Test.YtgbneidgokjbbaaCSprL
import Derived.Test.YtgbneidgokjbbaaLNewSpr
import Derived.WalkKit
import Derived.WalkSpells
import Derived.WalkLawsBesides
import Derived.Outline
import Derived.Deep.RegionWith
import Derived.Deep.RegionHeld3
namespace Go.Proofs.Ytgbneidgokjbbaa
open Go.RowKit
set_option maxHeartbeats 3200000 in
set_option maxRecDepth 100000 in
theorem lawCarSpr_any (a : Option Addr) (cap : Nat) (zs : List Int) (t : Int) (th : Bool) (w : World) (hl : zs.length ≤ maxLen) (hi : M4.IntsAt w a zs) :
    Calls Try.prog 7 #[SP.sv (.slice a zs.length cap) t th] w fun e w' => e = .returned (.bool true) ∧ Below w.heap.size w w' := by
  unfold maxLen at hl
  have SZ : Hid (∀ W : World, Calls Try.prog 14 #[SP.sv (.slice a zs.length cap) t th, .int .i64 1048576] W fun e w' => ∃ r : Int, e = .returned (.int .i64 r) ∧ (r < 0 ∨ 0 ≤ r ∧ zs.length ≤ 1048576) ∧ Below W.heap.size W w') := fun W => szSpray_any a zs.length cap t th W (by omega)
  have TO : Hid (zs.length ≤ 1048576 → ∀ W : World, Below w.heap.size w W → Calls Try.prog 16 #[SP.sv (.slice a zs.length cap) t th] W fun e w' => ∃ g, e = .returned (SP.sv (.slice (some ⟨g, 0, none⟩) zs.length zs.length) t th) ∧ w'.ownsRow W.heap.size 3 1 (.slice (some ⟨g, 0, none⟩) zs.length zs.length) zs.length (M4.iv zs) ∧ Below W.heap.size W w') := fun hz W hb => toSpray_own a cap zs t th W hz (hi.below hb)
  have SG : Hid (zs.length ≤ 1048576 → ∀ (g : Nat) (W : World), M4.IntsAt W (some ⟨g, 0, none⟩) zs → Calls Try.prog 27 #[SP.sv (.slice (some ⟨g, 0, none⟩) zs.length zs.length) t th] W fun e w' => ∃ b c, e = .returned (.tuple #[.slice b (if SP.good zs t = true then SP.cr zs zs.length else []).length c, .bool (SP.good zs t)]) ∧ w'.ownsRow W.heap.size 3 1 (.slice b (if SP.good zs t = true then SP.cr zs zs.length else []).length c) (if SP.good zs t = true then SP.cr zs zs.length else []).length (M4.iv (if SP.good zs t = true then SP.cr zs zs.length else [])) ∧ Below W.heap.size W w') := fun hz g W h => specCarriers_any _ _ zs t th W h hz
  have IG : Hid (zs.length ≤ 1048576 → ∀ (g : Nat) (W : World), M4.IntsAt W (some ⟨g, 0, none⟩) zs → Calls Try.prog 28 #[SP.sv (.slice (some ⟨g, 0, none⟩) zs.length zs.length) t th] W fun e w' => ∃ b c, e = .returned (.tuple #[.slice b (if SP.good zs t = true then SP.cr zs zs.length else []).length c, .bool (SP.good zs t)]) ∧ w'.ownsRow W.heap.size 3 1 (.slice b (if SP.good zs t = true then SP.cr zs zs.length else []).length c) (if SP.good zs t = true then SP.cr zs zs.length else []).length (M4.iv (if SP.good zs t = true then SP.cr zs zs.length else [])) ∧ Below W.heap.size W w') := fun hz g W h => implCarriers_any _ _ zs t th W h hz
  have EX : Hid (zs.length ≤ 1048576 → ∀ (g g' : Nat) (W : World), M4.IntsAt W (some ⟨g, 0, none⟩) zs → M4.IntsAt W (some ⟨g', 0, none⟩) zs → Calls Try.prog 11 #[SP.sv (.slice (some ⟨g, 0, none⟩) zs.length zs.length) t th, SP.sv (.slice (some ⟨g', 0, none⟩) zs.length zs.length) t th] W fun e w' => e = .returned (.bool true) ∧ Below W.heap.size W w') := fun hz g g' W h h' => eqSpray_any _ _ _ _ zs t th W hz h h'
  have MX : Hid (zs.length ≤ 1048576 → ∀ (base g : Nat) (W : World), W.ownsRow base 3 1 (.slice (some ⟨g, 0, none⟩) zs.length zs.length) zs.length (M4.iv zs) → Calls Try.prog 12 #[SP.sv (.slice (some ⟨g, 0, none⟩) zs.length zs.length) t th, .int .i64 1] W fun e w' => e = .returned (.int .i64 (1 + zs.length)) ∧ W.grownBy w' (some g)) := fun hz base g W h => (markSpray_any base _ _ zs t th W hz h).mono fun e w' ⟨h1, _, h3⟩ => ⟨h1, h3⟩
  have hLl : (if SP.good zs t = true then SP.cr zs zs.length else []).length ≤ 1048576 ∨ 1048576 < zs.length := by
    by_cases hz : zs.length ≤ 1048576
    · left; split
      · exact Nat.le_trans (SP.cr_len _ _) hz
      · simp
    · right; omega
  generalize (if SP.good zs t = true then SP.cr zs zs.length else []) = L at *
  generalize SP.good zs t = K at *
  have hzn : Hid (L ≠ [] ∨ L.length = 0) := by
    cases L with
    | nil => exact .inr rfl
    | cons x l => exact .inl (by simp)
  have hKK : (K == K) = true := by simp
  clear hi hl
  have B : Below w.heap.size w (w.alloc (.cells #[.slice a zs.length cap, .int .i64 t, .bool th] 30)) := (Below.refl _ _).alloc (Nat.le_refl _) _
  have b_a := SP.B3.new w (.slice a zs.length cap) (.int .i64 t) (.bool th) 30 rfl
  have zL : w.heap.size ≤ w.heap.size := Nat.le_refl _
  go_enter Try.func7, Try.ntmps7
  go_wp2_with fail
  refine (SZ.out _).mono ?_
  rintro e w1 ⟨r, rfl, hr, hb⟩
  replace B := B.trans (hb.mono B.size)
  replace b_a := b_a.below hb b_a.lt
  clear SZ hb
  by_cases h0 : r < 0
  · clear hr TO SG IG EX MX b_a
    go_wp2
    go_ret
    exact ⟨rfl, B⟩
  · have hz : zs.length ≤ 1048576 := by omega
    have hr0 : decide (r < 0) = false := decide_eq_false h0
    have hL : L.length ≤ 1048576 := by omega
    replace TO : Hid _ := TO.out hz
    replace SG : Hid _ := SG.out hz
    replace IG : Hid _ := IG.out hz
    replace EX : Hid _ := EX.out hz
    replace MX : Hid _ := MX.out hz
    have ER : Hid (∀ (a b : Option Addr) (ca cb : Nat) (W : World), M4.IntsAt W a L → M4.IntsAt W b L → Calls Try.prog 29 #[.slice a L.length ca, .slice b L.length cb] W fun e w' => e = .returned (.bool true) ∧ Below W.heap.size W w') := fun a b ca cb W h h' => by
      have := eqIntS_any a b ca cb L L W (by omega) (by omega) h h'
      simpa using this
    have MR : Hid (∀ (base : Nat) (v : Value) (W : World), W.ownsRow base 3 1 v L.length (M4.iv L) → Calls Try.prog 30 #[v, .int .i64 1] W fun e w' => e = .returned (.int .i64 (1 + L.length)) ∧ w'.ownsRow base 3 1 v L.length (M4.iv (M5.marks 1 L.length)) ∧ W.grownBy w' v.ownBlock) := fun base v W h => markIntS_g base v L 1 W hL (by omega) (by omega) h
    have HR : Hid (∀ (a : Option Addr) (cp : Nat) (W : World), M4.IntsAt W a (M5.marks 1 L.length) → Calls Try.prog 31 #[.slice a L.length cp, .int .i64 1] W fun e w' => e = .returned (.int .i64 (1 + L.length)) ∧ W = w') := fun a cp W h => heldIntS_any a cp L.length 1 W hL (by omega) (by omega) h
    have hMM : (((1 : Int) + L.length) == 1 + L.length) = true := by simp
    have hM0 : decide ((1 : Int) + L.length < 0) = false := decide_eq_false (by omega)
    generalize hml : zs.length = m at *
    have hMx : decide ((1 : Int) + m < 0) = false := decide_eq_false (by omega)
    clear hr hLl h0
    have HML : Hid _ := hml
    clear hml
    obtain ⟨c_a0, c_a1, c_a2⟩ := b_a.cells
    have l_a := b_a.lt
    go_wp2_with fail
    clear c_a0 c_a1 c_a2 l_a
    refine Calls.mono (TO.out _ B) ?_
    rintro e w2 ⟨g1, rfl, ho, hb⟩
    have r_1 : Hid (M4.IntsAt w2 (some ⟨g1, 0, none⟩) zs) := M4.IntsAt.of_own ho
    clear ho
    replace B := B.trans (hb.mono B.size)
    replace b_a : SP.B3 w2 (w.heap.size) (.slice a m cap) (.int .i64 t) (.bool th) 30 := b_a.below hb b_a.lt
    clear hb
    go_wp2_with fail
    refine Calls.mono (SG.out g1 _ r_1.out) ?_
    rintro e w3 ⟨aw, cw, rfl, ho, hb⟩
    have r_w : Hid (M4.IntsAt w3 aw L) := M5.own_ints ho
    clear ho r_1 SG
    replace B := B.trans (hb.mono B.size)
    replace b_a : SP.B3 w3 (w.heap.size) (.slice a m cap) (.int .i64 t) (.bool th) 30 := b_a.below hb b_a.lt
    clear hb
    have HiW : Hid (L ≠ [] → ∀ g off, aw = some ⟨g, off, none⟩ → g < w3.heap.size) := fun h g off e => SP.ints_lt r_w.out h e
    have lA : w.heap.size < w3.heap.size := b_a.lt
    obtain ⟨c_a0, c_a1, c_a2⟩ := b_a.cells
    have l_a := b_a.lt
    go_wp2_with fail
    clear c_a0 c_a1 c_a2 l_a
    refine Calls.mono (TO.out _ B) ?_
    rintro e w4 ⟨gx, rfl, ho, hb⟩
    have hGX : w3.heap.size ≤ gx ∧ gx < w4.heap.size := ho.lt gx rfl
    replace B := B.trans (hb.mono B.size)
    replace b_a : SP.B3 w4 (w.heap.size) (.slice a m cap) (.int .i64 t) (.bool th) 30 := b_a.below hb b_a.lt
    replace r_w : Hid (M4.IntsAt w4 aw L) := M4.IntsAt.below r_w.out hb
    clear hb
    have r_x : Hid (World.ownsRow w4 w3.heap.size 3 1 (.slice (some ⟨gx, 0, none⟩) m m) m (M4.iv zs)) := ho
    clear ho
    go_wp2_with fail
    have hb : Below w4.heap.size w4 (w4.alloc (.cells #[.slice (some ⟨gx, 0, none⟩) m m, .int .i64 t, .bool th] 24)) := (Below.refl _ _).alloc (Nat.le_refl _) _
    have b_x := SP.B3.new w4 (.slice (some ⟨gx, 0, none⟩) m m) (.int .i64 t) (.bool th) 24 rfl
    generalize w4.alloc (.cells #[.slice (some ⟨gx, 0, none⟩) m m, .int .i64 t, .bool th] 24) = w5 at *
    replace B := B.trans (hb.mono B.size)
    replace b_a : SP.B3 w5 (w.heap.size) (.slice a m cap) (.int .i64 t) (.bool th) 30 := b_a.below hb b_a.lt
    replace r_w : Hid (M4.IntsAt w5 aw L) := M4.IntsAt.below r_w.out hb
    replace r_x : Hid (World.ownsRow w5 w3.heap.size 3 1 (.slice (some ⟨gx, 0, none⟩) m m) m (M4.iv zs)) := M5.own_below r_x.out hb
    clear hb
    obtain ⟨p_x, hp_x⟩ : ∃ p, w4.heap.size = p := ⟨_, rfl⟩
    rw [hp_x] at b_x
    rw [hp_x] at hGX
    have hX2 : p_x < w5.heap.size := b_x.lt
    refine Calls.mono (IG.out gx _ (M4.IntsAt.of_own r_x.out)) ?_
    rintro e w6 ⟨ag, cg, rfl, ho, hb⟩
    have HtG : Hid (∀ k, (Value.slice ag L.length cg).ownBlock = some k → w5.heap.size ≤ k ∧ k < w6.heap.size) := fun k e => SP.own_lt ho e
    replace B := B.trans (hb.mono B.size)
    replace b_a : SP.B3 w6 (w.heap.size) (.slice a m cap) (.int .i64 t) (.bool th) 30 := b_a.below hb b_a.lt
    replace b_x : SP.B3 w6 (p_x) (.slice (some ⟨gx, 0, none⟩) m m) (.int .i64 t) (.bool th) 24 := b_x.below hb b_x.lt
    replace r_w : Hid (M4.IntsAt w6 aw L) := M4.IntsAt.below r_w.out hb
    replace r_x : Hid (World.ownsRow w6 w3.heap.size 3 1 (.slice (some ⟨gx, 0, none⟩) m m) m (M4.iv zs)) := M5.own_below r_x.out hb
    clear hb
    have r_g : Hid (World.ownsRow w6 w5.heap.size 3 1 (.slice ag L.length cg) L.length (M4.iv L)) := ho
    clear ho
    go_wp2_with fail
    refine Calls.mono (ER.out ag aw cg cw _ (M5.own_ints r_g.out) r_w.out) ?_
    rintro e w7 ⟨rfl, hb⟩
    replace B := B.trans (hb.mono B.size)
    replace b_a : SP.B3 w7 (w.heap.size) (.slice a m cap) (.int .i64 t) (.bool th) 30 := b_a.below hb b_a.lt
    replace b_x : SP.B3 w7 (p_x) (.slice (some ⟨gx, 0, none⟩) m m) (.int .i64 t) (.bool th) 24 := b_x.below hb b_x.lt
    replace r_w : Hid (M4.IntsAt w7 aw L) := M4.IntsAt.below r_w.out hb
    replace r_x : Hid (World.ownsRow w7 w3.heap.size 3 1 (.slice (some ⟨gx, 0, none⟩) m m) m (M4.iv zs)) := M5.own_below r_x.out hb
    replace r_g : Hid (World.ownsRow w7 w5.heap.size 3 1 (.slice ag L.length cg) L.length (M4.iv L)) := M5.own_below r_g.out hb
    clear hb
    have la := b_a.lt
    have lx := b_x.lt
    have KP : ∀ w1 w2 : World, (Below w7.heap.size w7 w1 ∧ (w1.cell? ⟨w.heap.size, 0, none⟩ = some (.slice a m cap) ∧ w1.cell? ⟨w.heap.size, 1, none⟩ = some (.int .i64 t) ∧ w1.cell? ⟨w.heap.size, 2, none⟩ = some (.bool th)) ∧ w1.cell? ⟨p_x, 0, none⟩ = some (.slice (some ⟨gx, 0, none⟩) m m) ∧ w1.cell? ⟨p_x, 1, none⟩ = some (.int .i64 t) ∧ w1.cell? ⟨p_x, 2, none⟩ = some (.bool th)) → Below w1.heap.size w1 w2 → (Below w7.heap.size w7 w2 ∧ (w2.cell? ⟨w.heap.size, 0, none⟩ = some (.slice a m cap) ∧ w2.cell? ⟨w.heap.size, 1, none⟩ = some (.int .i64 t) ∧ w2.cell? ⟨w.heap.size, 2, none⟩ = some (.bool th)) ∧ w2.cell? ⟨p_x, 0, none⟩ = some (.slice (some ⟨gx, 0, none⟩) m m) ∧ w2.cell? ⟨p_x, 1, none⟩ = some (.int .i64 t) ∧ w2.cell? ⟨p_x, 2, none⟩ = some (.bool th)) := fun w1 w2 h hb => ⟨h.1.trans (hb.mono h.1.size), ⟨(hb.cell (p := ⟨w.heap.size, 0, none⟩) (Nat.lt_of_lt_of_le la h.1.size)).trans h.2.1.1, (hb.cell (p := ⟨w.heap.size, 1, none⟩) (Nat.lt_of_lt_of_le la h.1.size)).trans h.2.1.2.1, (hb.cell (p := ⟨w.heap.size, 2, none⟩) (Nat.lt_of_lt_of_le la h.1.size)).trans h.2.1.2.2⟩, (hb.cell (p := ⟨p_x, 0, none⟩) (Nat.lt_of_lt_of_le lx h.1.size)).trans h.2.2.1, (hb.cell (p := ⟨p_x, 1, none⟩) (Nat.lt_of_lt_of_le lx h.1.size)).trans h.2.2.2.1, (hb.cell (p := ⟨p_x, 2, none⟩) (Nat.lt_of_lt_of_le lx h.1.size)).trans h.2.2.2.2⟩
    have TQ : Hid (∀ W' : World, (Below w7.heap.size w7 W' ∧ (W'.cell? ⟨w.heap.size, 0, none⟩ = some (.slice a m cap) ∧ W'.cell? ⟨w.heap.size, 1, none⟩ = some (.int .i64 t) ∧ W'.cell? ⟨w.heap.size, 2, none⟩ = some (.bool th)) ∧ W'.cell? ⟨p_x, 0, none⟩ = some (.slice (some ⟨gx, 0, none⟩) m m) ∧ W'.cell? ⟨p_x, 1, none⟩ = some (.int .i64 t) ∧ W'.cell? ⟨p_x, 2, none⟩ = some (.bool th)) → Calls Try.prog 16 #[SP.sv (.slice a m cap) t th] W' fun e w' => ∃ g, e = .returned (SP.sv (.slice (some ⟨g, 0, none⟩) m m) t th) ∧ M4.IntsAt w' (some ⟨g, 0, none⟩) zs ∧ (Below w7.heap.size w7 w' ∧ (w'.cell? ⟨w.heap.size, 0, none⟩ = some (.slice a m cap) ∧ w'.cell? ⟨w.heap.size, 1, none⟩ = some (.int .i64 t) ∧ w'.cell? ⟨w.heap.size, 2, none⟩ = some (.bool th)) ∧ w'.cell? ⟨p_x, 0, none⟩ = some (.slice (some ⟨gx, 0, none⟩) m m) ∧ w'.cell? ⟨p_x, 1, none⟩ = some (.int .i64 t) ∧ w'.cell? ⟨p_x, 2, none⟩ = some (.bool th))) := fun W' h => (TO.out W' (B.trans (h.1.mono B.size))).mono fun e w' ⟨g, e1, hi, hb⟩ => ⟨g, e1, M4.IntsAt.of_own hi, KP _ _ h hb⟩
    have EQQ : Hid (∀ (g : Nat) (W' : World), (Below w7.heap.size w7 W' ∧ (W'.cell? ⟨w.heap.size, 0, none⟩ = some (.slice a m cap) ∧ W'.cell? ⟨w.heap.size, 1, none⟩ = some (.int .i64 t) ∧ W'.cell? ⟨w.heap.size, 2, none⟩ = some (.bool th)) ∧ W'.cell? ⟨p_x, 0, none⟩ = some (.slice (some ⟨gx, 0, none⟩) m m) ∧ W'.cell? ⟨p_x, 1, none⟩ = some (.int .i64 t) ∧ W'.cell? ⟨p_x, 2, none⟩ = some (.bool th)) → M4.IntsAt W' (some ⟨g, 0, none⟩) zs → Calls Try.prog 11 #[SP.sv (.slice (some ⟨gx, 0, none⟩) m m) t th, SP.sv (.slice (some ⟨g, 0, none⟩) m m) t th] W' fun e w' => e = .returned (.bool true) ∧ (Below w7.heap.size w7 w' ∧ (w'.cell? ⟨w.heap.size, 0, none⟩ = some (.slice a m cap) ∧ w'.cell? ⟨w.heap.size, 1, none⟩ = some (.int .i64 t) ∧ w'.cell? ⟨w.heap.size, 2, none⟩ = some (.bool th)) ∧ w'.cell? ⟨p_x, 0, none⟩ = some (.slice (some ⟨gx, 0, none⟩) m m) ∧ w'.cell? ⟨p_x, 1, none⟩ = some (.int .i64 t) ∧ w'.cell? ⟨p_x, 2, none⟩ = some (.bool th))) := fun g W' h h2 => (EX.out gx g W' ((M4.IntsAt.of_own r_x.out).below h.1) h2).mono fun e w' ⟨e1, hb⟩ => ⟨e1, KP _ _ h hb⟩
    obtain ⟨c0, c1, c2⟩ := b_a.cells
    obtain ⟨d0, d1, d2⟩ := b_x.cells
    have hSd : Below w7.heap.size w7 w7.drew ∧ (w7.drew.cell? ⟨w.heap.size, 0, none⟩ = some (.slice a m cap) ∧ w7.drew.cell? ⟨w.heap.size, 1, none⟩ = some (.int .i64 t) ∧ w7.drew.cell? ⟨w.heap.size, 2, none⟩ = some (.bool th)) ∧ w7.drew.cell? ⟨p_x, 0, none⟩ = some (.slice (some ⟨gx, 0, none⟩) m m) ∧ w7.drew.cell? ⟨p_x, 1, none⟩ = some (.int .i64 t) ∧ w7.drew.cell? ⟨p_x, 2, none⟩ = some (.bool th) := ⟨(Below.refl _ _).drew, ⟨c0, c1, c2⟩, d0, d1, d2⟩
    have HB : Hid _ := B
    have HBA : Hid _ := b_a
    have HBX : Hid _ := b_x
    clear KP B b_a b_x la lx
    go_wp2
    go_region_held3 (fun w' => Below w7.heap.size w7 w' ∧ (w'.cell? ⟨w.heap.size, 0, none⟩ = some (.slice a m cap) ∧ w'.cell? ⟨w.heap.size, 1, none⟩ = some (.int .i64 t) ∧ w'.cell? ⟨w.heap.size, 2, none⟩ = some (.bool th)) ∧ w'.cell? ⟨p_x, 0, none⟩ = some (.slice (some ⟨gx, 0, none⟩) m m) ∧ w'.cell? ⟨p_x, 1, none⟩ = some (.int .i64 t) ∧ w'.cell? ⟨p_x, 2, none⟩ = some (.bool th)) (first | assumption | (show _ ∧ _; assumption)) (first | (go_at_call 16; refine Calls.mono (TQ.out _ (by assumption)) ?_; (rintro e wq ⟨gq, rfl, hrq, hSq⟩)) | (go_at_call 11; refine Calls.mono (EQQ.out _ _ (by assumption) (by assumption)) ?_; (rintro e w8 ⟨rfl, hSr⟩)))
    have hb := hSr.1
    have B := HB.out
    have b_a := HBA.out
    have b_x := HBX.out
    clear hSd hSq hSr hrq TQ EQQ c0 c1 c2 d0 d1 d2 EX HB HBA HBX
    replace B := B.trans (hb.mono B.size)
    replace b_a : SP.B3 w8 (w.heap.size) (.slice a m cap) (.int .i64 t) (.bool th) 30 := b_a.below hb b_a.lt
    replace b_x : SP.B3 w8 (p_x) (.slice (some ⟨gx, 0, none⟩) m m) (.int .i64 t) (.bool th) 24 := b_x.below hb b_x.lt
    replace r_w : Hid (M4.IntsAt w8 aw L) := M4.IntsAt.below r_w.out hb
    replace r_x : Hid (World.ownsRow w8 w3.heap.size 3 1 (.slice (some ⟨gx, 0, none⟩) m m) m (M4.iv zs)) := M5.own_below r_x.out hb
    replace r_g : Hid (World.ownsRow w8 w5.heap.size 3 1 (.slice ag L.length cg) L.length (M4.iv L)) := M5.own_below r_g.out hb
    clear hb
    obtain ⟨c_x0, c_x1, c_x2⟩ := b_x.cells
    have l_x := b_x.lt
    go_wp2_with fail
    clear c_x0 c_x1 c_x2 l_x
    refine Calls.mono (MX.out _ gx _ r_x.out) ?_
    rintro e w9 ⟨rfl, hg⟩
    replace hg : World.grownBy w8 w9 (Value.slice (some ⟨gx, 0, none⟩) m m).ownBlock := hg
    replace B := B.grown hg B.size (fun k e => by simp [Value.ownBlock] at e; have := B.size; omega)
    replace b_a : SP.B3 w9 (w.heap.size) (.slice a m cap) (.int .i64 t) (.bool th) 30 := b_a.grown hg (by simp [Value.ownBlock]; omega)
    replace r_w : Hid (M4.IntsAt w9 aw L) := by
      rcases hzn.out with h | h
      · exact SP.ints_grown r_w.out hg (fun g off e e' => by have := HiW.out h g off e; simp [Value.ownBlock] at e'; omega)
      · exact .inl (List.eq_nil_of_length_eq_zero h)
    replace r_g : Hid (World.ownsRow w9 w5.heap.size 3 1 (.slice ag L.length cg) L.length (M4.iv L)) := r_g.out.kept hg (by by_cases e : (Value.slice ag L.length cg).ownBlock = none; exact .inl e; right; intro e'; have := (HtG.out gx (by rw [e']; rfl)).1; omega)
    clear hg r_x b_x MX
    go_wp2_with fail
    refine Calls.mono (ER.out ag aw cg cw _ (M5.own_ints r_g.out) r_w.out) ?_
    rintro e w10 ⟨rfl, hb⟩
    replace B := B.trans (hb.mono B.size)
    replace b_a : SP.B3 w10 (w.heap.size) (.slice a m cap) (.int .i64 t) (.bool th) 30 := b_a.below hb b_a.lt
    replace r_w : Hid (M4.IntsAt w10 aw L) := M4.IntsAt.below r_w.out hb
    replace r_g : Hid (World.ownsRow w10 w5.heap.size 3 1 (.slice ag L.length cg) L.length (M4.iv L)) := M5.own_below r_g.out hb
    clear hb
    go_wp2_with fail
    refine Calls.mono (MR.out _ _ _ r_g.out) ?_
    rintro e w11 ⟨rfl, ho, hg⟩
    have nA : (Value.slice ag L.length cg).ownBlock ≠ some w.heap.size := fun e => by have := (HtG.out _ e).1; omega
    replace B := B.grown hg B.size (fun k e => by have := (HtG.out k e).1; omega)
    replace b_a : SP.B3 w11 (w.heap.size) (.slice a m cap) (.int .i64 t) (.bool th) 30 := b_a.grown hg nA
    replace r_w : Hid (M4.IntsAt w11 aw L) := by
      rcases hzn.out with h | h
      · exact SP.ints_grown r_w.out hg (fun g off e e' => by have := HiW.out h g off e; have := (HtG.out _ e').1; omega)
      · exact .inl (List.eq_nil_of_length_eq_zero h)
    replace r_g : Hid (World.ownsRow w11 w5.heap.size 3 1 (.slice ag L.length cg) L.length (M4.iv (M5.marks 1 L.length))) := ho
    clear ho hg nA MR HtG HiW
    go_wp2_with fail
    refine Calls.mono (HR.out ag cg _ (M5.own_ints r_g.out)) ?_
    rintro e w12 ⟨rfl, rfl⟩
    obtain ⟨c_a0, c_a1, c_a2⟩ := b_a.cells
    have l_a := b_a.lt
    go_wp2_with fail
    clear c_a0 c_a1 c_a2 l_a
    refine Calls.mono (TO.out _ B) ?_
    rintro e w13 ⟨g2, rfl, ho, hb⟩
    have r_1 : Hid (M4.IntsAt w13 (some ⟨g2, 0, none⟩) zs) := M4.IntsAt.of_own ho
    clear ho
    replace B := B.trans (hb.mono B.size)
    replace b_a : SP.B3 w13 (w.heap.size) (.slice a m cap) (.int .i64 t) (.bool th) 30 := b_a.below hb b_a.lt
    replace r_w : Hid (M4.IntsAt w13 aw L) := M4.IntsAt.below r_w.out hb
    replace r_g : Hid (World.ownsRow w13 w5.heap.size 3 1 (.slice ag L.length cg) L.length (M4.iv (M5.marks 1 L.length))) := M5.own_below r_g.out hb
    clear hb
    go_wp2_with fail
    refine Calls.mono (IG.out g2 _ r_1.out) ?_
    rintro e w14 ⟨ah, ch, rfl, ho, hb⟩
    have r_h : Hid (M4.IntsAt w14 ah L) := M5.own_ints ho
    clear ho r_1 IG TO
    replace B := B.trans (hb.mono B.size)
    replace b_a : SP.B3 w14 (w.heap.size) (.slice a m cap) (.int .i64 t) (.bool th) 30 := b_a.below hb b_a.lt
    replace r_w : Hid (M4.IntsAt w14 aw L) := M4.IntsAt.below r_w.out hb
    replace r_g : Hid (World.ownsRow w14 w5.heap.size 3 1 (.slice ag L.length cg) L.length (M4.iv (M5.marks 1 L.length))) := M5.own_below r_g.out hb
    clear hb
    go_wp2_with fail
    refine Calls.mono (ER.out ah aw ch cw _ r_h.out r_w.out) ?_
    rintro e w15 ⟨rfl, hb⟩
    replace B := B.trans (hb.mono B.size)
    replace b_a : SP.B3 w15 (w.heap.size) (.slice a m cap) (.int .i64 t) (.bool th) 30 := b_a.below hb b_a.lt
    replace r_w : Hid (M4.IntsAt w15 aw L) := M4.IntsAt.below r_w.out hb
    replace r_g : Hid (World.ownsRow w15 w5.heap.size 3 1 (.slice ag L.length cg) L.length (M4.iv (M5.marks 1 L.length))) := M5.own_below r_g.out hb
    replace r_h : Hid (M4.IntsAt w15 ah L) := M4.IntsAt.below r_h.out hb
    clear hb
    go_wp2_with fail
    refine Calls.mono (HR.out ag cg _ (M5.own_ints r_g.out)) ?_
    rintro e w16 ⟨rfl, rfl⟩
    clear r_w r_g r_h b_a ER HR
    go_wp2
    go_ret
    exact ⟨rfl, B⟩
end Go.Proofs.Ytgbneidgokjbbaa
