/- The law FnExactNewSpray answers true at every argument. -/
import Derived.Test.YtgbneidgokjbbaaRows
import Derived.Test.YtgbneidgokjbbaaCSprN
import Derived.WalkKit
import Derived.WalkSpells
import Derived.WalkLawsBesides
import Derived.Outline
namespace Go.Proofs.Ytgbneidgokjbbaa
open Go.RowKit
/-- Rows and boxes over a step that writes one row alone. -/
theorem SP.ints_grown {w w' : World} {v : Value} {a : Option Addr} {zs : List Int} (h : M4.IntsAt w a zs) (hg : w.grownBy w' v.ownBlock) (hne : ∀ g off, a = some ⟨g, off, none⟩ → v.ownBlock ≠ some g) : M4.IntsAt w' a zs := by
  rcases h with rfl | ⟨g, off, rfl, h1, h2⟩
  · exact .inl rfl
  · exact .inr ⟨g, off, rfl, Nat.lt_of_lt_of_le h1 hg.size, fun j hj => (World.cell?_of_block (w := w) (hg.block g h1 (fun e => hne g off rfl e.symm))).trans (h2 j hj)⟩
theorem SP.B3.grown {w w' : World} {k : Nat} {a b c v : Value} {t : TypeId} (h : SP.B3 w k a b c t) (hg : w.grownBy w' v.ownBlock) (hne : v.ownBlock ≠ some k) : SP.B3 w' k a b c t := ⟨(hg.block k h.lt (fun e => hne e.symm)).trans h.is⟩
theorem SP.own_lt {w : World} {base n : Nat} {v : Value} {xs : List Value} (h : w.ownsRow base 3 1 v n xs) {k : Nat} (hk : v.ownBlock = some k) : base ≤ k ∧ k < w.heap.size := by
  rcases h.2 with ⟨rfl, _⟩ | ⟨g, c, cur, rfl, hb, hg, _⟩
  · cases hk
  · simp [Value.ownBlock] at hk
    subst hk
    exact ⟨hb, (Array.getElem?_eq_some_iff.1 hg).1⟩
theorem SP.ints_lt {w : World} {a : Option Addr} {zs : List Int} (h : M4.IntsAt w a zs) (hz : zs ≠ []) {g off : Nat} (e : a = some ⟨g, off, none⟩) : g < w.heap.size := by
  rcases h with h | ⟨g', off', e', h1, _⟩
  · exact absurd h hz
  · rw [e] at e'; cases e'; exact h1
set_option maxHeartbeats 3200000 in
set_option maxRecDepth 100000 in
theorem lawNewSpr_any (n f t c : Int) (w : World) : Calls Try.prog 3 #[.int .i64 n, .int .i64 f, .int .i64 t, .int .i64 c] w fun e w' => e = .returned (.bool true) ∧ Below w.heap.size w w' := by
  have hL : (SP.nL n f t c).length ≤ 1048576 := by
    unfold SP.nL
    split
    · rename_i h
      have := (of_decide_eq_true h).1
      simp; omega
    · simp
  have SG : Hid (∀ W : World, Calls Try.prog 9 #[.int .i64 n, .int .i64 f, .int .i64 t, .int .i64 c] W fun e w' => ∃ a cap, e = .returned (.tuple #[SP.sv (.slice a (SP.nL n f t c).length cap) (SP.nT n f t c) false, .bool (SP.nok n f t c)]) ∧ w'.ownsRow W.heap.size 3 1 (.slice a (SP.nL n f t c).length cap) (SP.nL n f t c).length (M4.iv (SP.nL n f t c)) ∧ Below W.heap.size W w') := fun W => newSprayS_any n f t c W
  have IG : Hid (∀ W : World, Calls Try.prog 10 #[.int .i64 n, .int .i64 f, .int .i64 t, .int .i64 c] W fun e w' => ∃ a cap, e = .returned (.tuple #[SP.sv (.slice a (SP.nL n f t c).length cap) (SP.nT n f t c) false, .bool (SP.nok n f t c)]) ∧ w'.ownsRow W.heap.size 3 1 (.slice a (SP.nL n f t c).length cap) (SP.nL n f t c).length (M4.iv (SP.nL n f t c)) ∧ Below W.heap.size W w') := fun W => newSprayI_any n f t c W
  generalize SP.nok n f t c = K at *
  generalize SP.nT n f t c = T at *
  generalize SP.nL n f t c = L at *
  have EQ : Hid (∀ (a b : Option Addr) (ca cb : Nat) (W : World), M4.IntsAt W a L → M4.IntsAt W b L → Calls Try.prog 11 #[SP.sv (.slice a L.length ca) T false, SP.sv (.slice b L.length cb) T false] W fun e w' => e = .returned (.bool true) ∧ Below W.heap.size W w') := fun a b ca cb W h h' => eqSpray_any a b ca cb L T false W hL h h'
  have MK : Hid (∀ (base : Nat) (a : Option Addr) (cp : Nat) (W : World), W.ownsRow base 3 1 (.slice a L.length cp) L.length (M4.iv L) → Calls Try.prog 12 #[SP.sv (.slice a L.length cp) T false, .int .i64 1] W fun e w' => e = .returned (.int .i64 (1 + L.length)) ∧ w'.ownsRow base 3 1 (.slice a L.length cp) L.length (M4.iv (M5.marks 1 L.length)) ∧ W.grownBy w' (Value.slice a L.length cp).ownBlock) := fun base a cp W h => markSpray_any base a cp L T false W hL h
  have HD : Hid (∀ (a : Option Addr) (cp : Nat) (W : World), M4.IntsAt W a (M5.marks 1 L.length) → Calls Try.prog 13 #[SP.sv (.slice a L.length cp) T false, .int .i64 1] W fun e w' => e = .returned (.int .i64 (1 + L.length)) ∧ Below W.heap.size W w') := fun a cp W h => heldSpray_any a cp L.length T false W hL h
  have hzn : Hid (L ≠ [] ∨ L.length = 0) := by
    cases L with
    | nil => exact .inr rfl
    | cons x l => exact .inl (by simp)
  have hKK : (K == K) = true := by simp
  have hMM : (((1 : Int) + L.length) == 1 + L.length) = true := by simp
  have hM0 : decide ((1 : Int) + L.length < 0) = false := decide_eq_false (by omega)
  have B : Below w.heap.size w w := Below.refl _ _
  go_enter Try.func3, Try.ntmps3
  go_wp2_with fail
  refine Calls.mono (SG.out _) ?_
  rintro e w1 ⟨a1, q1, rfl, ho, hb⟩
  replace B := B.trans (hb.mono B.size)
  clear hb
  have r_s : Hid (M4.IntsAt w1 a1 L) := M5.own_ints ho
  clear ho SG
  go_wp2_with fail
  have hb : Below w1.heap.size w1 (w1.alloc (.cells #[.slice a1 L.length q1, .int .i64 T, .bool false] 24)) := (Below.refl _ _).alloc (Nat.le_refl _) _
  have b_s := SP.B3.new w1 (.slice a1 L.length q1) (.int .i64 T) (.bool false) 24 rfl
  generalize w1.alloc (.cells #[.slice a1 L.length q1, .int .i64 T, .bool false] 24) = w2 at *
  replace B := B.trans (hb.mono B.size)
  replace r_s : Hid (M4.IntsAt w2 a1 L) := M4.IntsAt.below r_s.out hb
  clear hb
  obtain ⟨p_s, hp_s⟩ : ∃ p, w1.heap.size = p := ⟨_, rfl⟩
  rw [hp_s] at b_s
  have lS : p_s < w2.heap.size := b_s.lt
  have iS : L ≠ [] → ∀ g off, a1 = some ⟨g, off, none⟩ → g < w2.heap.size := fun h g off e => SP.ints_lt r_s.out h e
  have HiS : Hid _ := iS
  clear iS
  have hB0 : w.heap.size ≤ w2.heap.size := B.size
  refine Calls.mono (IG.out _) ?_
  rintro e w3 ⟨a2, q2, rfl, ho, hb⟩
  have tG : ∀ k, (Value.slice a2 L.length q2).ownBlock = some k → w2.heap.size ≤ k ∧ k < w3.heap.size := fun k e => SP.own_lt ho e
  have HtG : Hid _ := tG
  clear tG
  replace B := B.trans (hb.mono B.size)
  replace b_s : SP.B3 w3 (p_s) (.slice a1 L.length q1) (.int .i64 T) (.bool false) 24 := b_s.below hb b_s.lt
  replace r_s : Hid (M4.IntsAt w3 a1 L) := M4.IntsAt.below r_s.out hb
  clear hb
  obtain ⟨bs, hbs⟩ : ∃ bs, w2.heap.size = bs := ⟨_, rfl⟩
  rw [hbs] at HtG ho hB0 lS HiS
  clear hbs
  have r_g : Hid (World.ownsRow w3 bs 3 1 (.slice a2 L.length q2) L.length (M4.iv L)) := ho
  clear ho
  obtain ⟨c_s0, c_s1, c_s2⟩ := b_s.cells
  have l_s := b_s.lt
  go_wp2_with fail
  clear c_s0 c_s1 c_s2 l_s
  have hb : Below w3.heap.size w3 (w3.alloc (.cells #[.slice a2 L.length q2, .int .i64 T, .bool false] 24)) := (Below.refl _ _).alloc (Nat.le_refl _) _
  have b_g := SP.B3.new w3 (.slice a2 L.length q2) (.int .i64 T) (.bool false) 24 rfl
  generalize w3.alloc (.cells #[.slice a2 L.length q2, .int .i64 T, .bool false] 24) = w4 at *
  replace B := B.trans (hb.mono B.size)
  replace b_s : SP.B3 w4 (p_s) (.slice a1 L.length q1) (.int .i64 T) (.bool false) 24 := b_s.below hb b_s.lt
  replace r_s : Hid (M4.IntsAt w4 a1 L) := M4.IntsAt.below r_s.out hb
  replace r_g : Hid (World.ownsRow w4 bs 3 1 (.slice a2 L.length q2) L.length (M4.iv L)) := M5.own_below r_g.out hb
  clear hb
  obtain ⟨p_g, hp_g⟩ : ∃ p, w3.heap.size = p := ⟨_, rfl⟩
  rw [hp_g] at b_g
  rw [hp_g] at HtG
  refine Calls.mono (EQ.out a2 a1 q2 q1 _ (M5.own_ints r_g.out) r_s.out) ?_
  rintro e w5 ⟨rfl, hb⟩
  replace B := B.trans (hb.mono B.size)
  replace b_s : SP.B3 w5 (p_s) (.slice a1 L.length q1) (.int .i64 T) (.bool false) 24 := b_s.below hb b_s.lt
  replace b_g : SP.B3 w5 (p_g) (.slice a2 L.length q2) (.int .i64 T) (.bool false) 24 := b_g.below hb b_g.lt
  replace r_s : Hid (M4.IntsAt w5 a1 L) := M4.IntsAt.below r_s.out hb
  replace r_g : Hid (World.ownsRow w5 bs 3 1 (.slice a2 L.length q2) L.length (M4.iv L)) := M5.own_below r_g.out hb
  clear hb
  obtain ⟨c_g0, c_g1, c_g2⟩ := b_g.cells
  have l_g := b_g.lt
  obtain ⟨c_s0, c_s1, c_s2⟩ := b_s.cells
  have l_s := b_s.lt
  go_wp2_with fail
  clear c_g0 c_g1 c_g2 l_g
  clear c_s0 c_s1 c_s2 l_s
  refine Calls.mono (MK.out bs a2 q2 _ r_g.out) ?_
  rintro e w6 ⟨rfl, ho, hg⟩
  have nS : (Value.slice a2 L.length q2).ownBlock ≠ some p_s := fun e => by have := (HtG.out _ e).1; omega
  have nG : (Value.slice a2 L.length q2).ownBlock ≠ some p_g := fun e => by have := (HtG.out _ e).2; omega
  replace B := B.grown hg B.size (fun k e => by have := (HtG.out k e).1; omega)
  replace b_s : SP.B3 w6 (p_s) (.slice a1 L.length q1) (.int .i64 T) (.bool false) 24 := b_s.grown hg nS
  replace b_g : SP.B3 w6 (p_g) (.slice a2 L.length q2) (.int .i64 T) (.bool false) 24 := b_g.grown hg nG
  replace r_s : Hid (M4.IntsAt w6 a1 L) := by
    rcases hzn.out with h | h
    · exact SP.ints_grown r_s.out hg (fun g off e e' => by have := HiS.out h g off e; have := (HtG.out _ e').1; omega)
    · exact .inl (List.eq_nil_of_length_eq_zero h)
  replace r_g : Hid (World.ownsRow w6 bs 3 1 (.slice a2 L.length q2) L.length (M4.iv (M5.marks 1 L.length))) := ho
  clear ho hg nS nG MK HtG HiS
  obtain ⟨c_g0, c_g1, c_g2⟩ := b_g.cells
  have l_g := b_g.lt
  go_wp2_with fail
  clear c_g0 c_g1 c_g2 l_g
  refine Calls.mono (HD.out a2 q2 _ (M5.own_ints r_g.out)) ?_
  rintro e w7 ⟨rfl, hb⟩
  replace B := B.trans (hb.mono B.size)
  replace b_s : SP.B3 w7 (p_s) (.slice a1 L.length q1) (.int .i64 T) (.bool false) 24 := b_s.below hb b_s.lt
  replace b_g : SP.B3 w7 (p_g) (.slice a2 L.length q2) (.int .i64 T) (.bool false) 24 := b_g.below hb b_g.lt
  replace r_s : Hid (M4.IntsAt w7 a1 L) := M4.IntsAt.below r_s.out hb
  replace r_g : Hid (World.ownsRow w7 bs 3 1 (.slice a2 L.length q2) L.length (M4.iv (M5.marks 1 L.length))) := M5.own_below r_g.out hb
  clear hb
  go_wp2_with fail
  refine Calls.mono (IG.out _) ?_
  rintro e w8 ⟨a3, q3, rfl, ho, hb⟩
  replace B := B.trans (hb.mono B.size)
  replace b_s : SP.B3 w8 (p_s) (.slice a1 L.length q1) (.int .i64 T) (.bool false) 24 := b_s.below hb b_s.lt
  replace b_g : SP.B3 w8 (p_g) (.slice a2 L.length q2) (.int .i64 T) (.bool false) 24 := b_g.below hb b_g.lt
  replace r_s : Hid (M4.IntsAt w8 a1 L) := M4.IntsAt.below r_s.out hb
  replace r_g : Hid (World.ownsRow w8 bs 3 1 (.slice a2 L.length q2) L.length (M4.iv (M5.marks 1 L.length))) := M5.own_below r_g.out hb
  clear hb
  have r_h : Hid (M4.IntsAt w8 a3 L) := M5.own_ints ho
  clear ho IG
  obtain ⟨c_s0, c_s1, c_s2⟩ := b_s.cells
  have l_s := b_s.lt
  go_wp2_with fail
  clear c_s0 c_s1 c_s2 l_s
  have hb : Below w8.heap.size w8 (w8.alloc (.cells #[.slice a3 L.length q3, .int .i64 T, .bool false] 24)) := (Below.refl _ _).alloc (Nat.le_refl _) _
  have b_h := SP.B3.new w8 (.slice a3 L.length q3) (.int .i64 T) (.bool false) 24 rfl
  generalize w8.alloc (.cells #[.slice a3 L.length q3, .int .i64 T, .bool false] 24) = w9 at *
  replace B := B.trans (hb.mono B.size)
  replace b_s : SP.B3 w9 (p_s) (.slice a1 L.length q1) (.int .i64 T) (.bool false) 24 := b_s.below hb b_s.lt
  replace b_g : SP.B3 w9 (p_g) (.slice a2 L.length q2) (.int .i64 T) (.bool false) 24 := b_g.below hb b_g.lt
  replace r_s : Hid (M4.IntsAt w9 a1 L) := M4.IntsAt.below r_s.out hb
  replace r_g : Hid (World.ownsRow w9 bs 3 1 (.slice a2 L.length q2) L.length (M4.iv (M5.marks 1 L.length))) := M5.own_below r_g.out hb
  replace r_h : Hid (M4.IntsAt w9 a3 L) := M4.IntsAt.below r_h.out hb
  clear hb
  obtain ⟨p_h, hp_h⟩ : ∃ p, w8.heap.size = p := ⟨_, rfl⟩
  rw [hp_h] at b_h
  refine Calls.mono (EQ.out a3 a1 q3 q1 _ r_h.out r_s.out) ?_
  rintro e w10 ⟨rfl, hb⟩
  replace B := B.trans (hb.mono B.size)
  replace b_s : SP.B3 w10 (p_s) (.slice a1 L.length q1) (.int .i64 T) (.bool false) 24 := b_s.below hb b_s.lt
  replace b_g : SP.B3 w10 (p_g) (.slice a2 L.length q2) (.int .i64 T) (.bool false) 24 := b_g.below hb b_g.lt
  replace b_h : SP.B3 w10 (p_h) (.slice a3 L.length q3) (.int .i64 T) (.bool false) 24 := b_h.below hb b_h.lt
  replace r_s : Hid (M4.IntsAt w10 a1 L) := M4.IntsAt.below r_s.out hb
  replace r_g : Hid (World.ownsRow w10 bs 3 1 (.slice a2 L.length q2) L.length (M4.iv (M5.marks 1 L.length))) := M5.own_below r_g.out hb
  replace r_h : Hid (M4.IntsAt w10 a3 L) := M4.IntsAt.below r_h.out hb
  clear hb
  obtain ⟨c_g0, c_g1, c_g2⟩ := b_g.cells
  have l_g := b_g.lt
  go_wp2_with fail
  clear c_g0 c_g1 c_g2 l_g
  refine Calls.mono (HD.out a2 q2 _ (M5.own_ints r_g.out)) ?_
  rintro e w11 ⟨rfl, hb⟩
  replace B := B.trans (hb.mono B.size)
  replace b_s : SP.B3 w11 (p_s) (.slice a1 L.length q1) (.int .i64 T) (.bool false) 24 := b_s.below hb b_s.lt
  replace b_g : SP.B3 w11 (p_g) (.slice a2 L.length q2) (.int .i64 T) (.bool false) 24 := b_g.below hb b_g.lt
  replace b_h : SP.B3 w11 (p_h) (.slice a3 L.length q3) (.int .i64 T) (.bool false) 24 := b_h.below hb b_h.lt
  replace r_s : Hid (M4.IntsAt w11 a1 L) := M4.IntsAt.below r_s.out hb
  replace r_g : Hid (World.ownsRow w11 bs 3 1 (.slice a2 L.length q2) L.length (M4.iv (M5.marks 1 L.length))) := M5.own_below r_g.out hb
  replace r_h : Hid (M4.IntsAt w11 a3 L) := M4.IntsAt.below r_h.out hb
  clear hb
  clear r_s r_g r_h b_s b_g b_h
  go_wp2
  go_ret
  exact ⟨rfl, B⟩
end Go.Proofs.Ytgbneidgokjbbaa
