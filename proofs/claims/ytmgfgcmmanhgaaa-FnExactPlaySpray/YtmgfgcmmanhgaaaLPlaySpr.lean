/- The law FnExactPlaySpray answers true at every argument. -/
import Derived.Test.YtmgfgcmmanhgaaaRows
import Derived.Test.YtmgfgcmmanhgaaaCSprP
import Derived.Test.YtmgfgcmmanhgaaaCSprL
import Derived.Test.YtmgfgcmmanhgaaaCToMeet
import Derived.Test.YtmgfgcmmanhgaaaCEqMeet
import Derived.Test.YtmgfgcmmanhgaaaCMarkMeet
import Derived.Test.YtmgfgcmmanhgaaaMRA
import Derived.WalkKit
import Derived.WalkSpells
import Derived.WalkLawsBesides
import Derived.Outline
namespace Go.Proofs.Ytmgfgcmmanhgaaa
open Go.RowKit
theorem SP.own_grown2 {w w' : World} {b e sz n : Nat} {v : Value} {xs : List Value} {row : Option Nat} (h : w.ownsRow b e sz v n xs) (hg : w.grownBy w' row) (hne : ∀ k, v.ownBlock = some k → some k ≠ row) : w'.ownsRow b e sz v n xs := by
  refine ⟨h.1, ?_⟩
  rcases h.2 with h' | ⟨g1, cap, cur, rfl, hb, hgg, rest⟩
  · exact .inl h'
  · exact .inr ⟨g1, cap, cur, rfl, hb, (hg.block g1 (Array.getElem?_eq_some_iff.1 hgg).1 (hne g1 rfl)).trans hgg, rest⟩
theorem SP.own_only3 {w w' : World} {base e sz n k : Nat} {v : Value} {xs : List Value} (h : w.ownsRow base e sz v n xs) (ho : MC.Only k w w') (hn : ∀ j, v.ownBlock = some j → j ≠ k) : w'.ownsRow base e sz v n xs := SP.own_only2 h ho (fun e => hn k e rfl)
set_option linter.unusedSimpArgs false in
set_option maxHeartbeats 6400000 in
set_option maxRecDepth 100000 in
theorem lawPlaySpr_any (n f t c : Int) (a : Option Addr) (cap : Nat) (ms : List I2) (w : World) (hl : ms.length ≤ maxLen) (hi : MI2.RowAt w a ms) :
    Calls Try.prog 4 #[.int .i64 n, .int .i64 f, .int .i64 t, .int .i64 c, .slice a ms.length cap] w fun e w' => e = .returned (.bool true) ∧ Below w.heap.size w w' := by
  have SZ : Hid (∀ W : World, Calls Try.prog 13 #[.slice a ms.length cap, .int .i64 1048576] W fun e w' => ∃ r : Int, e = .returned (.int .i64 r) ∧ (r < 0 ∨ (0 ≤ r ∧ r ≤ 1048576 ∧ (ms.length : Int) ≤ 1048576)) ∧ W = w') := fun W => szMeetS_any a cap ms.length W 1048576 (by omega) (by omega) hl
  have TO : Hid (ms.length ≤ 1048576 → ∀ W : World, Below w.heap.size w W → Calls Try.prog 15 #[.slice a ms.length cap] W fun e w' => ∃ g, e = .returned (.slice (some ⟨g, 0, none⟩) ms.length ms.length) ∧ w'.ownsRow W.heap.size 32 2 (.slice (some ⟨g, 0, none⟩) ms.length ms.length) ms.length (MI2.flat ms) ∧ Below W.heap.size W w') := fun hz W hb => toMeetS_any a cap ms W hz (hi.below hb)
  have SM : Hid (ms.length ≤ 1048576 → ∀ (g : Nat) (W : World), MI2.RowAt W (some ⟨g, 0, none⟩) ms → Calls Try.prog 14 #[.int .i64 n, .int .i64 f, .int .i64 t, .int .i64 c, .slice (some ⟨g, 0, none⟩) ms.length ms.length] W fun e w' => ∃ a1 c1, e = .returned (.tuple #[.agg #[.slice a1 (SP.pL (SP.plA n f t c ms)).length c1, .int .i64 (SP.pT t (SP.plA n f t c ms)), .bool (SP.pH (SP.plA n f t c ms))], .int .i64 (SP.pM (SP.plA n f t c ms)), .bool (SP.plA n f t c ms).isSome]) ∧ w'.ownsRow W.heap.size 3 1 (.slice a1 (SP.pL (SP.plA n f t c ms)).length c1) (SP.pL (SP.plA n f t c ms)).length (M4.iv (SP.pL (SP.plA n f t c ms))) ∧ Below W.heap.size W w') := fun hz g W h => playS_any n f t c (some ⟨g, 0, none⟩) ms.length ms W hz h
  have IM : Hid (ms.length ≤ 1048576 → ∀ (g : Nat) (W : World), MI2.RowAt W (some ⟨g, 0, none⟩) ms → Calls Try.prog 16 #[.int .i64 n, .int .i64 f, .int .i64 t, .int .i64 c, .slice (some ⟨g, 0, none⟩) ms.length ms.length] W fun e w' => ∃ a1 c1, e = .returned (.tuple #[.agg #[.slice a1 (SP.pL (SP.plA n f t c ms)).length c1, .int .i64 (SP.pT t (SP.plA n f t c ms)), .bool (SP.pH (SP.plA n f t c ms))], .int .i64 (SP.pM (SP.plA n f t c ms)), .bool (SP.plA n f t c ms).isSome]) ∧ w'.ownsRow W.heap.size 3 1 (.slice a1 (SP.pL (SP.plA n f t c ms)).length c1) (SP.pL (SP.plA n f t c ms)).length (M4.iv (SP.pL (SP.plA n f t c ms))) ∧ Below W.heap.size W w') := fun hz g W h => playI_any n f t c (some ⟨g, 0, none⟩) ms.length ms W hz h
  have hLz : (SP.pL (SP.plA n f t c ms)).length ≤ 1048576 := by have := SP.pL_len (n := n) (f := f) (t := t) (c := c) (ms := ms); omega
  generalize SP.pL (SP.plA n f t c ms) = L at *
  generalize SP.pT t (SP.plA n f t c ms) = T at *
  generalize SP.pH (SP.plA n f t c ms) = H at *
  generalize SP.pM (SP.plA n f t c ms) = M at *
  generalize (SP.plA n f t c ms).isSome = K at *
  clear hi hl
  have B : Below w.heap.size w w := Below.refl _ _
  go_enter Try.func4, Try.ntmps4
  go_wp2_with fail
  refine (SZ.out _).mono ?_
  rintro e w0 ⟨r, rfl, hr, rfl⟩
  clear SZ
  by_cases h0 : r < 0
  · clear hr TO SM IM hLz
    go_wp2
    go_ret
    exact ⟨rfl, B⟩
  have hz : ms.length ≤ 1048576 := by omega
  have hr0 : 0 ≤ r := by omega
  replace TO : Hid _ := TO.out hz
  replace SM : Hid _ := SM.out hz
  replace IM : Hid _ := IM.out hz
  have EQ : Hid (∀ (a b : Option Addr) (ca cb : Nat) (W : World), M4.IntsAt W a L → M4.IntsAt W b L → Calls Try.prog 10 #[.agg #[.slice a L.length ca, .int .i64 T, .bool H], .agg #[.slice b L.length cb, .int .i64 T, .bool H]] W fun e w' => e = .returned (.bool true) ∧ Below W.heap.size W w') := fun a b ca cb W h1 h2 => eqSpray_any a b ca cb L T H W hLz h1 h2
  have EX : Hid (∀ (a b : Option Addr) (W : World), MI2.RowAt W a ms → MI2.RowAt W b ms → Calls Try.prog 17 #[.slice a ms.length ms.length, .slice b ms.length ms.length] W fun e w' => e = .returned (.bool true) ∧ Below W.heap.size W w') := fun a b W h1 h2 => by have := eqMeetS_any a b ms.length ms.length ms ms W hz hz h1 h2; rwa [show decide (ms = ms) = true by simp] at this
  have MX : Hid (∀ (base g : Nat) (W : World), W.ownsRow base 32 2 (.slice (some ⟨g, 0, none⟩) ms.length ms.length) ms.length (MI2.flat ms) → Calls Try.prog 18 #[.slice (some ⟨g, 0, none⟩) ms.length ms.length, .int .i64 1] W fun e w' => e = .returned (.int .i64 (1 + 2 * ms.length)) ∧ MC.Only g W w') := fun base g W h => markMeetS_only base g ms.length 1 W hz (by omega) (by omega) ⟨_, h⟩
  have MK : Hid (∀ (base : Nat) (a : Option Addr) (cp : Nat) (W : World), W.ownsRow base 3 1 (.slice a L.length cp) L.length (M4.iv L) → Calls Try.prog 11 #[.agg #[.slice a L.length cp, .int .i64 T, .bool H], .int .i64 1] W fun e w' => e = .returned (.int .i64 (1 + L.length)) ∧ w'.ownsRow base 3 1 (.slice a L.length cp) L.length (M4.iv (M5.marks 1 L.length)) ∧ W.grownBy w' (Value.slice a L.length cp).ownBlock) := fun base a cp W h => markSpray_any base a cp L T H W hLz h
  have HD : Hid (∀ (a : Option Addr) (cp : Nat) (W : World), M4.IntsAt W a (M5.marks 1 L.length) → Calls Try.prog 12 #[.agg #[.slice a L.length cp, .int .i64 T, .bool H], .int .i64 1] W fun e w' => e = .returned (.int .i64 (1 + L.length)) ∧ Below W.heap.size W w') := fun a cp W h => heldSpray_any a cp L.length T H W hLz h
  have hKK : (K == K) = true := by simp
  have hM1 : (M == M) = true := by simp
  have hMM : (((1 : Int) + L.length) == 1 + L.length) = true := by simp
  have hM0 : decide ((1 : Int) + L.length < 0) = false := decide_eq_false (by omega)
  have hX0 : decide ((1 : Int) + 2 * ms.length < 0) = false := decide_eq_false (by omega)
  clear hr
  go_wp2_with fail
  refine Calls.mono (TO.out _ B) ?_
  rintro e w1 ⟨g_s, rfl, ho, hb⟩
  have hg_s := ho.lt g_s rfl
  replace B := B.trans (hb.mono B.size)
  have hsw1 := hb.size
  clear hb
  have r_s : Hid (World.ownsRow w1 w.heap.size 32 2 (.slice (some ⟨g_s, 0, none⟩) ms.length ms.length) ms.length (MI2.flat ms)) := ho
  clear ho
  go_wp2_with fail
  refine Calls.mono (SM.out g_s _ (MI2.RowAt.of_own r_s.out)) ?_
  rintro e w2 ⟨a1, q1, rfl, ho, hb⟩
  have Hlt_S : Hid (∀ k, (Value.slice a1 L.length q1).ownBlock = some k → w1.heap.size ≤ k ∧ k < w2.heap.size) := fun k e => ho.lt k e
  replace r_s : Hid (World.ownsRow w2 w.heap.size 32 2 (.slice (some ⟨g_s, 0, none⟩) ms.length ms.length) ms.length (MI2.flat ms)) := M5.own_below r_s.out hb
  replace B := B.trans (hb.mono B.size)
  have hsw2 := hb.size
  clear hb
  have r_S : Hid (World.ownsRow w2 w1.heap.size 3 1 (.slice a1 L.length q1) L.length (M4.iv L)) := ho
  clear ho
  go_wp2_with fail
  have hb : Below w2.heap.size w2 (w2.alloc (.cells #[.slice a1 L.length q1, .int .i64 T, .bool H] 28)) := (Below.refl _ _).alloc (Nat.le_refl _) _
  have b_S := MA.Rg.new w2 [.slice a1 L.length q1, .int .i64 T, .bool H] 28
  obtain ⟨q_S, hq_S⟩ : ∃ q, w2.heap.size = q := ⟨_, rfl⟩
  rw [hq_S] at b_S ⊢
  change MA.Rg (w2.alloc (.cells #[.slice a1 L.length q1, .int .i64 T, .bool H] 28)) q_S 0 [.slice a1 L.length q1, .int .i64 T, .bool H] at b_S
  generalize w2.alloc (.cells #[.slice a1 L.length q1, .int .i64 T, .bool H] 28) = w3 at *
  have lb_S := b_S.lt
  replace r_s : Hid (World.ownsRow w3 w.heap.size 32 2 (.slice (some ⟨g_s, 0, none⟩) ms.length ms.length) ms.length (MI2.flat ms)) := M5.own_below r_s.out hb
  replace r_S : Hid (World.ownsRow w3 w1.heap.size 3 1 (.slice a1 L.length q1) L.length (M4.iv L)) := M5.own_below r_S.out hb
  replace B := B.trans (hb.mono B.size)
  have hsw3 := hb.size
  clear hb
  clear r_s
  clear SM
  go_wp2_with fail
  refine Calls.mono (TO.out _ B) ?_
  rintro e w4 ⟨g_x, rfl, ho, hb⟩
  have hg_x := ho.lt g_x rfl
  replace b_S : MA.Rg w4 q_S 0 [.slice a1 L.length q1, .int .i64 T, .bool H] := b_S.below hb b_S.lt
  replace r_S : Hid (World.ownsRow w4 w1.heap.size 3 1 (.slice a1 L.length q1) L.length (M4.iv L)) := M5.own_below r_S.out hb
  replace B := B.trans (hb.mono B.size)
  have hsw4 := hb.size
  clear hb
  have r_x : Hid (World.ownsRow w4 w3.heap.size 32 2 (.slice (some ⟨g_x, 0, none⟩) ms.length ms.length) ms.length (MI2.flat ms)) := ho
  clear ho
  go_wp2_with fail
  refine Calls.mono (IM.out g_x _ (MI2.RowAt.of_own r_x.out)) ?_
  rintro e w5 ⟨a2, q2, rfl, ho, hb⟩
  have Hlt_G : Hid (∀ k, (Value.slice a2 L.length q2).ownBlock = some k → w4.heap.size ≤ k ∧ k < w5.heap.size) := fun k e => ho.lt k e
  replace b_S : MA.Rg w5 q_S 0 [.slice a1 L.length q1, .int .i64 T, .bool H] := b_S.below hb b_S.lt
  replace r_S : Hid (World.ownsRow w5 w1.heap.size 3 1 (.slice a1 L.length q1) L.length (M4.iv L)) := M5.own_below r_S.out hb
  replace r_x : Hid (World.ownsRow w5 w3.heap.size 32 2 (.slice (some ⟨g_x, 0, none⟩) ms.length ms.length) ms.length (MI2.flat ms)) := M5.own_below r_x.out hb
  replace B := B.trans (hb.mono B.size)
  have hsw5 := hb.size
  clear hb
  have r_G : Hid (World.ownsRow w5 w4.heap.size 3 1 (.slice a2 L.length q2) L.length (M4.iv L)) := ho
  clear ho
  have c_S0 : w5.cell? ⟨q_S, 0, none⟩ = some (.slice a1 L.length q1) := by have := b_S.cell (j := 0) rfl; rwa [Nat.zero_add] at this
  have c_S1 : w5.cell? ⟨q_S, 1, none⟩ = some (.int .i64 T) := by have := b_S.cell (j := 1) rfl; rwa [Nat.zero_add] at this
  have c_S2 : w5.cell? ⟨q_S, 2, none⟩ = some (.bool H) := by have := b_S.cell (j := 2) rfl; rwa [Nat.zero_add] at this
  have l_S := b_S.lt
  go_wp2_with fail
  clear c_S0 c_S1 c_S2 l_S
  have hb : Below w5.heap.size w5 (w5.alloc (.cells #[.slice a2 L.length q2, .int .i64 T, .bool H] 28)) := (Below.refl _ _).alloc (Nat.le_refl _) _
  have b_G := MA.Rg.new w5 [.slice a2 L.length q2, .int .i64 T, .bool H] 28
  obtain ⟨q_G, hq_G⟩ : ∃ q, w5.heap.size = q := ⟨_, rfl⟩
  rw [hq_G] at b_G ⊢
  change MA.Rg (w5.alloc (.cells #[.slice a2 L.length q2, .int .i64 T, .bool H] 28)) q_G 0 [.slice a2 L.length q2, .int .i64 T, .bool H] at b_G
  generalize w5.alloc (.cells #[.slice a2 L.length q2, .int .i64 T, .bool H] 28) = w6 at *
  have lb_G := b_G.lt
  replace b_S : MA.Rg w6 q_S 0 [.slice a1 L.length q1, .int .i64 T, .bool H] := b_S.below hb b_S.lt
  replace r_S : Hid (World.ownsRow w6 w1.heap.size 3 1 (.slice a1 L.length q1) L.length (M4.iv L)) := M5.own_below r_S.out hb
  replace r_x : Hid (World.ownsRow w6 w3.heap.size 32 2 (.slice (some ⟨g_x, 0, none⟩) ms.length ms.length) ms.length (MI2.flat ms)) := M5.own_below r_x.out hb
  replace r_G : Hid (World.ownsRow w6 w4.heap.size 3 1 (.slice a2 L.length q2) L.length (M4.iv L)) := M5.own_below r_G.out hb
  replace B := B.trans (hb.mono B.size)
  have hsw6 := hb.size
  clear hb
  have c_G0 : w6.cell? ⟨q_G, 0, none⟩ = some (.slice a2 L.length q2) := by have := b_G.cell (j := 0) rfl; rwa [Nat.zero_add] at this
  have c_G1 : w6.cell? ⟨q_G, 1, none⟩ = some (.int .i64 T) := by have := b_G.cell (j := 1) rfl; rwa [Nat.zero_add] at this
  have c_G2 : w6.cell? ⟨q_G, 2, none⟩ = some (.bool H) := by have := b_G.cell (j := 2) rfl; rwa [Nat.zero_add] at this
  have l_G := b_G.lt
  have c_S0 : w6.cell? ⟨q_S, 0, none⟩ = some (.slice a1 L.length q1) := by have := b_S.cell (j := 0) rfl; rwa [Nat.zero_add] at this
  have c_S1 : w6.cell? ⟨q_S, 1, none⟩ = some (.int .i64 T) := by have := b_S.cell (j := 1) rfl; rwa [Nat.zero_add] at this
  have c_S2 : w6.cell? ⟨q_S, 2, none⟩ = some (.bool H) := by have := b_S.cell (j := 2) rfl; rwa [Nat.zero_add] at this
  have l_S := b_S.lt
  go_wp2_with fail
  refine Calls.mono (EQ.out a2 a1 q2 q1 _ (M5.own_ints r_G.out) (M5.own_ints r_S.out)) ?_
  rintro e w7 ⟨rfl, hb⟩
  clear c_G0 c_G1 c_G2 l_G
  clear c_S0 c_S1 c_S2 l_S
  replace b_S : MA.Rg w7 q_S 0 [.slice a1 L.length q1, .int .i64 T, .bool H] := b_S.below hb b_S.lt
  replace b_G : MA.Rg w7 q_G 0 [.slice a2 L.length q2, .int .i64 T, .bool H] := b_G.below hb b_G.lt
  replace r_S : Hid (World.ownsRow w7 w1.heap.size 3 1 (.slice a1 L.length q1) L.length (M4.iv L)) := M5.own_below r_S.out hb
  replace r_x : Hid (World.ownsRow w7 w3.heap.size 32 2 (.slice (some ⟨g_x, 0, none⟩) ms.length ms.length) ms.length (MI2.flat ms)) := M5.own_below r_x.out hb
  replace r_G : Hid (World.ownsRow w7 w4.heap.size 3 1 (.slice a2 L.length q2) L.length (M4.iv L)) := M5.own_below r_G.out hb
  replace B := B.trans (hb.mono B.size)
  have hsw7 := hb.size
  clear hb
  go_wp2_with fail
  refine Calls.mono (TO.out _ B) ?_
  rintro e w8 ⟨g_q, rfl, ho, hb⟩
  have hg_q := ho.lt g_q rfl
  replace b_S : MA.Rg w8 q_S 0 [.slice a1 L.length q1, .int .i64 T, .bool H] := b_S.below hb b_S.lt
  replace b_G : MA.Rg w8 q_G 0 [.slice a2 L.length q2, .int .i64 T, .bool H] := b_G.below hb b_G.lt
  replace r_S : Hid (World.ownsRow w8 w1.heap.size 3 1 (.slice a1 L.length q1) L.length (M4.iv L)) := M5.own_below r_S.out hb
  replace r_x : Hid (World.ownsRow w8 w3.heap.size 32 2 (.slice (some ⟨g_x, 0, none⟩) ms.length ms.length) ms.length (MI2.flat ms)) := M5.own_below r_x.out hb
  replace r_G : Hid (World.ownsRow w8 w4.heap.size 3 1 (.slice a2 L.length q2) L.length (M4.iv L)) := M5.own_below r_G.out hb
  replace B := B.trans (hb.mono B.size)
  have hsw8 := hb.size
  clear hb
  have r_q : Hid (World.ownsRow w8 w7.heap.size 32 2 (.slice (some ⟨g_q, 0, none⟩) ms.length ms.length) ms.length (MI2.flat ms)) := ho
  clear ho
  go_wp2_with fail
  refine Calls.mono (EX.out _ _ _ (MI2.RowAt.of_own r_x.out) (MI2.RowAt.of_own r_q.out)) ?_
  rintro e w9 ⟨rfl, hb⟩
  replace b_S : MA.Rg w9 q_S 0 [.slice a1 L.length q1, .int .i64 T, .bool H] := b_S.below hb b_S.lt
  replace b_G : MA.Rg w9 q_G 0 [.slice a2 L.length q2, .int .i64 T, .bool H] := b_G.below hb b_G.lt
  replace r_S : Hid (World.ownsRow w9 w1.heap.size 3 1 (.slice a1 L.length q1) L.length (M4.iv L)) := M5.own_below r_S.out hb
  replace r_x : Hid (World.ownsRow w9 w3.heap.size 32 2 (.slice (some ⟨g_x, 0, none⟩) ms.length ms.length) ms.length (MI2.flat ms)) := M5.own_below r_x.out hb
  replace r_G : Hid (World.ownsRow w9 w4.heap.size 3 1 (.slice a2 L.length q2) L.length (M4.iv L)) := M5.own_below r_G.out hb
  replace r_q : Hid (World.ownsRow w9 w7.heap.size 32 2 (.slice (some ⟨g_q, 0, none⟩) ms.length ms.length) ms.length (MI2.flat ms)) := M5.own_below r_q.out hb
  replace B := B.trans (hb.mono B.size)
  have hsw9 := hb.size
  clear hb
  clear r_q
  clear EX
  go_wp2_with fail
  refine Calls.mono (MX.out _ g_x _ r_x.out) ?_
  rintro e w10 ⟨rfl, hO⟩
  clear r_x
  clear MX
  have hBs := B.size
  replace b_S : MA.Rg w10 q_S 0 [.slice a1 L.length q1, .int .i64 T, .bool H] := RA.rg_only b_S hO (by omega)
  replace b_G : MA.Rg w10 q_G 0 [.slice a2 L.length q2, .int .i64 T, .bool H] := RA.rg_only b_G hO (by omega)
  replace r_S : Hid (World.ownsRow w10 w1.heap.size 3 1 (.slice a1 L.length q1) L.length (M4.iv L)) := SP.own_only3 r_S.out hO (fun k e => by have := Hlt_S.out _ e; omega)
  replace r_G : Hid (World.ownsRow w10 w4.heap.size 3 1 (.slice a2 L.length q2) L.length (M4.iv L)) := SP.own_only3 r_G.out hO (fun k e => by have := Hlt_G.out _ e; omega)
  replace B := B.trans (hO.below (by have := B.size; omega) B.size)
  have hsw10 := hO.size
  clear hO
  have c_G0 : w10.cell? ⟨q_G, 0, none⟩ = some (.slice a2 L.length q2) := by have := b_G.cell (j := 0) rfl; rwa [Nat.zero_add] at this
  have c_G1 : w10.cell? ⟨q_G, 1, none⟩ = some (.int .i64 T) := by have := b_G.cell (j := 1) rfl; rwa [Nat.zero_add] at this
  have c_G2 : w10.cell? ⟨q_G, 2, none⟩ = some (.bool H) := by have := b_G.cell (j := 2) rfl; rwa [Nat.zero_add] at this
  have l_G := b_G.lt
  have c_S0 : w10.cell? ⟨q_S, 0, none⟩ = some (.slice a1 L.length q1) := by have := b_S.cell (j := 0) rfl; rwa [Nat.zero_add] at this
  have c_S1 : w10.cell? ⟨q_S, 1, none⟩ = some (.int .i64 T) := by have := b_S.cell (j := 1) rfl; rwa [Nat.zero_add] at this
  have c_S2 : w10.cell? ⟨q_S, 2, none⟩ = some (.bool H) := by have := b_S.cell (j := 2) rfl; rwa [Nat.zero_add] at this
  have l_S := b_S.lt
  go_wp2_with fail
  refine Calls.mono (EQ.out a2 a1 q2 q1 _ (M5.own_ints r_G.out) (M5.own_ints r_S.out)) ?_
  rintro e w11 ⟨rfl, hb⟩
  clear c_G0 c_G1 c_G2 l_G
  clear c_S0 c_S1 c_S2 l_S
  replace b_S : MA.Rg w11 q_S 0 [.slice a1 L.length q1, .int .i64 T, .bool H] := b_S.below hb b_S.lt
  replace b_G : MA.Rg w11 q_G 0 [.slice a2 L.length q2, .int .i64 T, .bool H] := b_G.below hb b_G.lt
  replace r_S : Hid (World.ownsRow w11 w1.heap.size 3 1 (.slice a1 L.length q1) L.length (M4.iv L)) := M5.own_below r_S.out hb
  replace r_G : Hid (World.ownsRow w11 w4.heap.size 3 1 (.slice a2 L.length q2) L.length (M4.iv L)) := M5.own_below r_G.out hb
  replace B := B.trans (hb.mono B.size)
  have hsw11 := hb.size
  clear hb
  have c_G0 : w11.cell? ⟨q_G, 0, none⟩ = some (.slice a2 L.length q2) := by have := b_G.cell (j := 0) rfl; rwa [Nat.zero_add] at this
  have c_G1 : w11.cell? ⟨q_G, 1, none⟩ = some (.int .i64 T) := by have := b_G.cell (j := 1) rfl; rwa [Nat.zero_add] at this
  have c_G2 : w11.cell? ⟨q_G, 2, none⟩ = some (.bool H) := by have := b_G.cell (j := 2) rfl; rwa [Nat.zero_add] at this
  have l_G := b_G.lt
  go_wp2_with fail
  refine Calls.mono (MK.out _ a2 q2 _ r_G.out) ?_
  rintro e w12 ⟨rfl, ho, hg⟩
  clear c_G0 c_G1 c_G2 l_G
  have hBs2 := B.size
  replace b_S : MA.Rg w12 q_S 0 [.slice a1 L.length q1, .int .i64 T, .bool H] := RA.rg_grown b_S hg (fun e => by have := Hlt_G.out _ e.symm; omega)
  replace b_G : MA.Rg w12 q_G 0 [.slice a2 L.length q2, .int .i64 T, .bool H] := RA.rg_grown b_G hg (fun e => by have := Hlt_G.out _ e.symm; omega)
  replace r_S : Hid (World.ownsRow w12 w1.heap.size 3 1 (.slice a1 L.length q1) L.length (M4.iv L)) := SP.own_grown2 r_S.out hg (fun k e h => by have h1 := Hlt_S.out _ e; have h2 := Hlt_G.out _ h.symm; omega)
  replace B := B.grown hg B.size (fun k e => by have := Hlt_G.out _ e; omega)
  have hsw12 := hg.size
  clear hg
  clear r_G MK
  have r_G : Hid (World.ownsRow w12 w4.heap.size 3 1 (.slice a2 L.length q2) L.length (M4.iv (M5.marks 1 L.length))) := ho
  clear ho
  have c_G0 : w12.cell? ⟨q_G, 0, none⟩ = some (.slice a2 L.length q2) := by have := b_G.cell (j := 0) rfl; rwa [Nat.zero_add] at this
  have c_G1 : w12.cell? ⟨q_G, 1, none⟩ = some (.int .i64 T) := by have := b_G.cell (j := 1) rfl; rwa [Nat.zero_add] at this
  have c_G2 : w12.cell? ⟨q_G, 2, none⟩ = some (.bool H) := by have := b_G.cell (j := 2) rfl; rwa [Nat.zero_add] at this
  have l_G := b_G.lt
  go_wp2_with fail
  refine Calls.mono (HD.out a2 q2 _ (M5.own_ints r_G.out)) ?_
  rintro e w13 ⟨rfl, hb⟩
  clear c_G0 c_G1 c_G2 l_G
  replace b_S : MA.Rg w13 q_S 0 [.slice a1 L.length q1, .int .i64 T, .bool H] := b_S.below hb b_S.lt
  replace b_G : MA.Rg w13 q_G 0 [.slice a2 L.length q2, .int .i64 T, .bool H] := b_G.below hb b_G.lt
  replace r_S : Hid (World.ownsRow w13 w1.heap.size 3 1 (.slice a1 L.length q1) L.length (M4.iv L)) := M5.own_below r_S.out hb
  replace r_G : Hid (World.ownsRow w13 w4.heap.size 3 1 (.slice a2 L.length q2) L.length (M4.iv (M5.marks 1 L.length))) := M5.own_below r_G.out hb
  replace B := B.trans (hb.mono B.size)
  have hsw13 := hb.size
  clear hb
  go_wp2_with fail
  refine Calls.mono (TO.out _ B) ?_
  rintro e w14 ⟨g_h, rfl, ho, hb⟩
  have hg_h := ho.lt g_h rfl
  replace b_S : MA.Rg w14 q_S 0 [.slice a1 L.length q1, .int .i64 T, .bool H] := b_S.below hb b_S.lt
  replace b_G : MA.Rg w14 q_G 0 [.slice a2 L.length q2, .int .i64 T, .bool H] := b_G.below hb b_G.lt
  replace r_S : Hid (World.ownsRow w14 w1.heap.size 3 1 (.slice a1 L.length q1) L.length (M4.iv L)) := M5.own_below r_S.out hb
  replace r_G : Hid (World.ownsRow w14 w4.heap.size 3 1 (.slice a2 L.length q2) L.length (M4.iv (M5.marks 1 L.length))) := M5.own_below r_G.out hb
  replace B := B.trans (hb.mono B.size)
  have hsw14 := hb.size
  clear hb
  have r_h : Hid (World.ownsRow w14 w13.heap.size 32 2 (.slice (some ⟨g_h, 0, none⟩) ms.length ms.length) ms.length (MI2.flat ms)) := ho
  clear ho
  go_wp2_with fail
  refine Calls.mono (IM.out g_h _ (MI2.RowAt.of_own r_h.out)) ?_
  rintro e w15 ⟨a4, q4, rfl, ho, hb⟩
  have Hlt_H : Hid (∀ k, (Value.slice a4 L.length q4).ownBlock = some k → w14.heap.size ≤ k ∧ k < w15.heap.size) := fun k e => ho.lt k e
  replace b_S : MA.Rg w15 q_S 0 [.slice a1 L.length q1, .int .i64 T, .bool H] := b_S.below hb b_S.lt
  replace b_G : MA.Rg w15 q_G 0 [.slice a2 L.length q2, .int .i64 T, .bool H] := b_G.below hb b_G.lt
  replace r_S : Hid (World.ownsRow w15 w1.heap.size 3 1 (.slice a1 L.length q1) L.length (M4.iv L)) := M5.own_below r_S.out hb
  replace r_G : Hid (World.ownsRow w15 w4.heap.size 3 1 (.slice a2 L.length q2) L.length (M4.iv (M5.marks 1 L.length))) := M5.own_below r_G.out hb
  replace r_h : Hid (World.ownsRow w15 w13.heap.size 32 2 (.slice (some ⟨g_h, 0, none⟩) ms.length ms.length) ms.length (MI2.flat ms)) := M5.own_below r_h.out hb
  replace B := B.trans (hb.mono B.size)
  have hsw15 := hb.size
  clear hb
  have r_H : Hid (World.ownsRow w15 w14.heap.size 3 1 (.slice a4 L.length q4) L.length (M4.iv L)) := ho
  clear ho
  have c_S0 : w15.cell? ⟨q_S, 0, none⟩ = some (.slice a1 L.length q1) := by have := b_S.cell (j := 0) rfl; rwa [Nat.zero_add] at this
  have c_S1 : w15.cell? ⟨q_S, 1, none⟩ = some (.int .i64 T) := by have := b_S.cell (j := 1) rfl; rwa [Nat.zero_add] at this
  have c_S2 : w15.cell? ⟨q_S, 2, none⟩ = some (.bool H) := by have := b_S.cell (j := 2) rfl; rwa [Nat.zero_add] at this
  have l_S := b_S.lt
  go_wp2_with fail
  clear c_S0 c_S1 c_S2 l_S
  have hb : Below w15.heap.size w15 (w15.alloc (.cells #[.slice a4 L.length q4, .int .i64 T, .bool H] 28)) := (Below.refl _ _).alloc (Nat.le_refl _) _
  have b_H := MA.Rg.new w15 [.slice a4 L.length q4, .int .i64 T, .bool H] 28
  obtain ⟨q_H, hq_H⟩ : ∃ q, w15.heap.size = q := ⟨_, rfl⟩
  rw [hq_H] at b_H ⊢
  change MA.Rg (w15.alloc (.cells #[.slice a4 L.length q4, .int .i64 T, .bool H] 28)) q_H 0 [.slice a4 L.length q4, .int .i64 T, .bool H] at b_H
  generalize w15.alloc (.cells #[.slice a4 L.length q4, .int .i64 T, .bool H] 28) = w16 at *
  have lb_H := b_H.lt
  replace b_S : MA.Rg w16 q_S 0 [.slice a1 L.length q1, .int .i64 T, .bool H] := b_S.below hb b_S.lt
  replace b_G : MA.Rg w16 q_G 0 [.slice a2 L.length q2, .int .i64 T, .bool H] := b_G.below hb b_G.lt
  replace r_S : Hid (World.ownsRow w16 w1.heap.size 3 1 (.slice a1 L.length q1) L.length (M4.iv L)) := M5.own_below r_S.out hb
  replace r_G : Hid (World.ownsRow w16 w4.heap.size 3 1 (.slice a2 L.length q2) L.length (M4.iv (M5.marks 1 L.length))) := M5.own_below r_G.out hb
  replace r_h : Hid (World.ownsRow w16 w13.heap.size 32 2 (.slice (some ⟨g_h, 0, none⟩) ms.length ms.length) ms.length (MI2.flat ms)) := M5.own_below r_h.out hb
  replace r_H : Hid (World.ownsRow w16 w14.heap.size 3 1 (.slice a4 L.length q4) L.length (M4.iv L)) := M5.own_below r_H.out hb
  replace B := B.trans (hb.mono B.size)
  have hsw16 := hb.size
  clear hb
  clear r_h
  clear IM TO
  have c_H0 : w16.cell? ⟨q_H, 0, none⟩ = some (.slice a4 L.length q4) := by have := b_H.cell (j := 0) rfl; rwa [Nat.zero_add] at this
  have c_H1 : w16.cell? ⟨q_H, 1, none⟩ = some (.int .i64 T) := by have := b_H.cell (j := 1) rfl; rwa [Nat.zero_add] at this
  have c_H2 : w16.cell? ⟨q_H, 2, none⟩ = some (.bool H) := by have := b_H.cell (j := 2) rfl; rwa [Nat.zero_add] at this
  have l_H := b_H.lt
  have c_S0 : w16.cell? ⟨q_S, 0, none⟩ = some (.slice a1 L.length q1) := by have := b_S.cell (j := 0) rfl; rwa [Nat.zero_add] at this
  have c_S1 : w16.cell? ⟨q_S, 1, none⟩ = some (.int .i64 T) := by have := b_S.cell (j := 1) rfl; rwa [Nat.zero_add] at this
  have c_S2 : w16.cell? ⟨q_S, 2, none⟩ = some (.bool H) := by have := b_S.cell (j := 2) rfl; rwa [Nat.zero_add] at this
  have l_S := b_S.lt
  go_wp2_with fail
  refine Calls.mono (EQ.out a4 a1 q4 q1 _ (M5.own_ints r_H.out) (M5.own_ints r_S.out)) ?_
  rintro e w17 ⟨rfl, hb⟩
  clear c_H0 c_H1 c_H2 l_H
  clear c_S0 c_S1 c_S2 l_S
  replace b_S : MA.Rg w17 q_S 0 [.slice a1 L.length q1, .int .i64 T, .bool H] := b_S.below hb b_S.lt
  replace b_G : MA.Rg w17 q_G 0 [.slice a2 L.length q2, .int .i64 T, .bool H] := b_G.below hb b_G.lt
  replace b_H : MA.Rg w17 q_H 0 [.slice a4 L.length q4, .int .i64 T, .bool H] := b_H.below hb b_H.lt
  replace r_S : Hid (World.ownsRow w17 w1.heap.size 3 1 (.slice a1 L.length q1) L.length (M4.iv L)) := M5.own_below r_S.out hb
  replace r_G : Hid (World.ownsRow w17 w4.heap.size 3 1 (.slice a2 L.length q2) L.length (M4.iv (M5.marks 1 L.length))) := M5.own_below r_G.out hb
  replace r_H : Hid (World.ownsRow w17 w14.heap.size 3 1 (.slice a4 L.length q4) L.length (M4.iv L)) := M5.own_below r_H.out hb
  replace B := B.trans (hb.mono B.size)
  have hsw17 := hb.size
  clear hb
  have c_G0 : w17.cell? ⟨q_G, 0, none⟩ = some (.slice a2 L.length q2) := by have := b_G.cell (j := 0) rfl; rwa [Nat.zero_add] at this
  have c_G1 : w17.cell? ⟨q_G, 1, none⟩ = some (.int .i64 T) := by have := b_G.cell (j := 1) rfl; rwa [Nat.zero_add] at this
  have c_G2 : w17.cell? ⟨q_G, 2, none⟩ = some (.bool H) := by have := b_G.cell (j := 2) rfl; rwa [Nat.zero_add] at this
  have l_G := b_G.lt
  go_wp2_with fail
  refine Calls.mono (HD.out a2 q2 _ (M5.own_ints r_G.out)) ?_
  rintro e w18 ⟨rfl, hb⟩
  clear c_G0 c_G1 c_G2 l_G
  replace b_S : MA.Rg w18 q_S 0 [.slice a1 L.length q1, .int .i64 T, .bool H] := b_S.below hb b_S.lt
  replace b_G : MA.Rg w18 q_G 0 [.slice a2 L.length q2, .int .i64 T, .bool H] := b_G.below hb b_G.lt
  replace b_H : MA.Rg w18 q_H 0 [.slice a4 L.length q4, .int .i64 T, .bool H] := b_H.below hb b_H.lt
  replace r_S : Hid (World.ownsRow w18 w1.heap.size 3 1 (.slice a1 L.length q1) L.length (M4.iv L)) := M5.own_below r_S.out hb
  replace r_G : Hid (World.ownsRow w18 w4.heap.size 3 1 (.slice a2 L.length q2) L.length (M4.iv (M5.marks 1 L.length))) := M5.own_below r_G.out hb
  replace r_H : Hid (World.ownsRow w18 w14.heap.size 3 1 (.slice a4 L.length q4) L.length (M4.iv L)) := M5.own_below r_H.out hb
  replace B := B.trans (hb.mono B.size)
  have hsw18 := hb.size
  clear hb
  have HB : Hid _ := B
  clear B b_S b_G b_H r_S r_G r_H
  go_wp2
  go_ret
  exact ⟨rfl, HB.out⟩
end Go.Proofs.Ytmgfgcmmanhgaaa
