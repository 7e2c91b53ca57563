/- The laws' toCustody copies a custody, each row of it; szCustody is a bound on it. -/
import Derived.Test.YtfkmnmiolnijaaaRows
import Derived.Test.YtfkmnmiolnijaaaMKp
import Derived.Test.YtfkmnmiolnijaaaMBxN
import Derived.Test.YtfkmnmiolnijaaaCToKp
import Derived.Test.YtfkmnmiolnijaaaCToSlip
import Derived.WalkKit
import Derived.WalkSpells
import Derived.WalkLawsBesides
import Derived.Outline
namespace Go.Proofs.Ytfkmnmiolnijaaa
open Go.RowKit
/-- Nothing of a custody is longer than a call of a law looks at. -/
structure CuLen (c : Cu) : Prop where
  u : c.us.length ≤ 1048576
  k : c.ks.length ≤ 1048576
  l : c.ls.length ≤ 1048576
  n : c.ns.length ≤ 1048576
  r : ∀ j, j < c.ks.length → (KP.at_ c.ks j).ss.length ≤ 1048576 ∧ (KP.at_ c.ks j).hs.length ≤ 1048576 ∧ (KP.at_ c.ks j).ts.length ≤ 1048576
namespace KP
/-- Keepers from a block on, and the rows of theirs. -/
structure KA (w : World) (B : Nat) (a : Option Addr) (l : List Kp) : Prop where
  at_ : RowAt w B a l
  lo : ∀ b off, a = some ⟨b, off, none⟩ → B ≤ b
theorem KA.below {w w' : World} {B : Nat} {a : Option Addr} {l : List Kp} (h : KA w B a l) (hb : Below w.heap.size w w') : KA w' B a l := ⟨h.at_.below hb, h.lo⟩
theorem KA.only {w w' : World} {B g : Nat} {a : Option Addr} {l : List Kp} (h : KA w B a l) (ho : MC.Only g w w') (hg : g < B) : KA w' B a l := by
  refine ⟨⟨?_, fun j hj => (h.at_.row j hj).only ho hg⟩, h.lo⟩
  rcases h.at_.is with e | ⟨b, off, rfl, hlt, hc⟩
  · exact .inl e
  · have := h.lo b off rfl
    refine .inr ⟨b, off, rfl, Nat.lt_of_lt_of_le hlt ho.size, fun j hj => ?_⟩
    obtain ⟨c0, c1, c2⟩ := hc j hj
    exact ⟨(ho.cell (x := ⟨b, _, none⟩) hlt (by show b ≠ g; omega)).trans c0, (ho.cell (x := ⟨b, _, none⟩) hlt (by show b ≠ g; omega)).trans c1, (ho.cell (x := ⟨b, _, none⟩) hlt (by show b ≠ g; omega)).trans c2⟩
/-- Slips from a block on. -/
structure LA (w : World) (B : Nat) (a : Option Addr) (l : List I4) : Prop where
  at_ : MI4.RowAt w a l
  lo : ∀ b off, a = some ⟨b, off, none⟩ → B ≤ b
theorem LA.below {w w' : World} {B : Nat} {a : Option Addr} {l : List I4} (h : LA w B a l) (hb : Below w.heap.size w w') : LA w' B a l := ⟨h.at_.below hb, h.lo⟩
theorem LA.only {w w' : World} {B g : Nat} {a : Option Addr} {l : List I4} (h : LA w B a l) (ho : MC.Only g w w') (hg : g < B) : LA w' B a l := by
  refine ⟨⟨?_⟩, h.lo⟩
  rcases h.at_.is with e | ⟨b, off, rfl, hlt, hc⟩
  · exact .inl e
  · have := h.lo b off rfl
    refine .inr ⟨b, off, rfl, Nat.lt_of_lt_of_le hlt ho.size, fun j hj => ?_⟩
    obtain ⟨c0, c1, c2, c3⟩ := hc j hj
    exact ⟨(ho.cell (x := ⟨b, _, none⟩) hlt (by show b ≠ g; omega)).trans c0, (ho.cell (x := ⟨b, _, none⟩) hlt (by show b ≠ g; omega)).trans c1, (ho.cell (x := ⟨b, _, none⟩) hlt (by show b ≠ g; omega)).trans c2, (ho.cell (x := ⟨b, _, none⟩) hlt (by show b ≠ g; omega)).trans c3⟩
theorem LA.of_own {w : World} {B base e g n cap : Nat} {l : List I4} (h : w.ownsRow base e 4 (.slice (some ⟨g, 0, none⟩) n cap) n (MI4.flat l)) (hB : B ≤ base) : LA w B (some ⟨g, 0, none⟩) l := ⟨MI4.RowAt.of_own h, fun b off e => by simp only [Option.some.injEq, Addr.mk.injEq] at e; have := (h.lt g rfl).1; omega⟩
end KP
set_option linter.unusedSimpArgs false in
set_option maxHeartbeats 3200000 in
set_option maxRecDepth 100000 in
theorem toCustody_any (c : Cu) (w : World) (hc : CuAt w c) (hl : CuLen c) :
    Calls Try.prog 7 #[c.v] w fun e w' => ∃ d : Cu, e = .returned d.v ∧ d.said = c.said ∧ CuAt w' d ∧ Below w.heap.size w w' := by
  obtain ⟨us, ks, ls, ns, ua, ka, la, na, uc, kc, lc, nc⟩ := c
  obtain ⟨hu, hk, hls, hn⟩ := hc
  obtain ⟨m1, m2, m3, m4, m5⟩ := hl
  simp only at hu hk hls hn m1 m2 m3 m4 m5
  have S1 : Hid (∀ W : World, Below w.heap.size w W → Calls Try.prog 21 #[.slice ua us.length uc] W fun e w' => e = .returned (.slice (some ⟨W.heap.size, 0, none⟩) us.length us.length) ∧ M4.IntsAt w' (some ⟨W.heap.size, 0, none⟩) us ∧ Below W.heap.size W w') := fun W h => toIntS_any ua uc us W m1 (M4.IntsAt.below hu h)
  have S2 : Hid (∀ W : World, Below w.heap.size w W → Calls Try.prog 22 #[.slice ka ks.length kc] W fun e w' => ∃ g qs, e = .returned (.slice (some ⟨g, 0, none⟩) ks.length ks.length) ∧ (List.length qs = ks.length ∧ qs.map Kp.said = ks.map Kp.said ∧ KP.RowAt w' W.heap.size (some ⟨g, 0, none⟩) qs ∧ W.heap.size ≤ g) ∧ Below W.heap.size W w') := fun W h => (toKeeperS_any ka kc ks W m2 m5 (hk.below h)).mono (by rintro e w' ⟨g, qs, rfl, h1, h2, h3, h4, h5⟩; exact ⟨g, qs, rfl, ⟨h1, h2, h3, h4⟩, h5⟩)
  have S3 : Hid (∀ W : World, Below w.heap.size w W → Calls Try.prog 23 #[.slice la ls.length lc] W fun e w' => ∃ g, e = .returned (.slice (some ⟨g, 0, none⟩) ls.length ls.length) ∧ w'.ownsRow W.heap.size 45 4 (.slice (some ⟨g, 0, none⟩) ls.length ls.length) ls.length (MI4.flat ls) ∧ Below W.heap.size W w') := fun W h => toSlipS_any la lc ls W m3 (hls.below h)
  have S4 : Hid (∀ W : World, Below w.heap.size w W → Calls Try.prog 21 #[.slice na ns.length nc] W fun e w' => e = .returned (.slice (some ⟨W.heap.size, 0, none⟩) ns.length ns.length) ∧ M4.IntsAt w' (some ⟨W.heap.size, 0, none⟩) ns ∧ Below W.heap.size W w') := fun W h => toIntS_any na nc ns W m4 (M4.IntsAt.below hn h)
  clear hu hk hls hn m1 m2 m3 m4 m5
  go_enter Try.func7, Try.ntmps7
  go_wp2_with fail
  have hB : Below w.heap.size w (((w.alloc (.cells #[.slice ua us.length uc, .slice ka ks.length kc, .slice la ls.length lc, .slice na ns.length nc] 26)).alloc (.cells #[.slice none 0 0, .slice none 0 0, .slice none 0 0, .slice none 0 0] 32)).alloc (.cells #[.slice none 0 0, .slice none 0 0, .slice none 0 0, .slice none 0 0] 32)) := (((Below.refl _ w).alloc (Nat.le_refl _) _).alloc (by simp) _).alloc (by simp; omega) _
  have x0 : BxN (((w.alloc (.cells #[.slice ua us.length uc, .slice ka ks.length kc, .slice la ls.length lc, .slice na ns.length nc] 26)).alloc (.cells #[.slice none 0 0, .slice none 0 0, .slice none 0 0, .slice none 0 0] 32)).alloc (.cells #[.slice none 0 0, .slice none 0 0, .slice none 0 0, .slice none 0 0] 32)) w.heap.size [.slice ua us.length uc, .slice ka ks.length kc, .slice la ls.length lc, .slice na ns.length nc] 26 := ((BxN.new w _ _ rfl).alloc _).alloc _
  have x1 : BxN (((w.alloc (.cells #[.slice ua us.length uc, .slice ka ks.length kc, .slice la ls.length lc, .slice na ns.length nc] 26)).alloc (.cells #[.slice none 0 0, .slice none 0 0, .slice none 0 0, .slice none 0 0] 32)).alloc (.cells #[.slice none 0 0, .slice none 0 0, .slice none 0 0, .slice none 0 0] 32)) (w.heap.size + 1) [.slice none 0 0, .slice none 0 0, .slice none 0 0, .slice none 0 0] 32 := (BxN.new _ _ _ (by simp)).alloc _
  have x2 : BxN (((w.alloc (.cells #[.slice ua us.length uc, .slice ka ks.length kc, .slice la ls.length lc, .slice na ns.length nc] 26)).alloc (.cells #[.slice none 0 0, .slice none 0 0, .slice none 0 0, .slice none 0 0] 32)).alloc (.cells #[.slice none 0 0, .slice none 0 0, .slice none 0 0, .slice none 0 0] 32)) (w.heap.size + 1 + 1) [.slice none 0 0, .slice none 0 0, .slice none 0 0, .slice none 0 0] 32 := BxN.new _ _ _ (by simp)
  generalize (((w.alloc (.cells #[.slice ua us.length uc, .slice ka ks.length kc, .slice la ls.length lc, .slice na ns.length nc] 26)).alloc (.cells #[.slice none 0 0, .slice none 0 0, .slice none 0 0, .slice none 0 0] 32)).alloc (.cells #[.slice none 0 0, .slice none 0 0, .slice none 0 0, .slice none 0 0] 32)) = W0 at *
  refine (S1.out W0 hB).mono ?_
  rintro e w1 ⟨rfl, i0, hb⟩
  have hq := x2.lt
  have I0 : KP.IA w1 (w.heap.size + 1 + 1 + 1) (some ⟨W0.heap.size, 0, none⟩) us := KP.IA.new i0 (by omega)
  replace hB := hB.trans (hb.mono hB.size)
  replace x0 := x0.below hb x0.lt
  replace x1 := x1.below hb x1.lt
  replace x2 := x2.below hb x2.lt
  obtain ⟨g0, hg0⟩ : ∃ g, W0.heap.size = g := ⟨_, rfl⟩
  rw [hg0] at I0 ⊢
  clear hg0
  clear hb hq S1
  have k1 := x0.cell 1 rfl
  have k2 := x2.cell 0 rfl
  have k3 := x2.free 0
  have on := (MC.Only.refl (w.heap.size + 1 + 1) w1).setCell 0 (.slice (some ⟨g0, 0, none⟩) us.length us.length)
  go_wp2_with fail
  replace I0 := I0.only on (by omega)
  replace hB := hB.trans (on.below (B := w.heap.size) (by omega) hB.size)
  replace x0 := x0.only on (by omega)
  replace x1 := x1.only on (by omega)
  replace x2 := x2.set 0 (.slice (some ⟨g0, 0, none⟩) us.length us.length)
  clear k1 k2 k3 on
  generalize w1.setCell ⟨w.heap.size + 1 + 1, 0, none⟩ (.slice (some ⟨g0, 0, none⟩) us.length us.length) = W1 at *
  refine (S2.out W1 hB).mono ?_
  rintro e w2 ⟨g1, qs, rfl, ho, hb⟩
  have hq := x2.lt
  replace I0 := I0.below hb
  have I1 : KP.KA w2 (w.heap.size + 1 + 1 + 1) (some ⟨g1, 0, none⟩) qs := ⟨ho.2.2.1.mono (by omega), fun b off e => by simp only [Option.some.injEq, Addr.mk.injEq] at e; have := ho.2.2.2; omega⟩
  have HQ : Hid (List.length qs = ks.length ∧ qs.map Kp.said = ks.map Kp.said) := ⟨ho.1, ho.2.1⟩
  replace hB := hB.trans (hb.mono hB.size)
  replace x0 := x0.below hb x0.lt
  replace x1 := x1.below hb x1.lt
  replace x2 := x2.below hb x2.lt
  clear hb hq S2 ho
  have k1 := x0.cell 2 rfl
  have k2 := x2.cell 1 rfl
  have k3 := x2.free 1
  have on := (MC.Only.refl (w.heap.size + 1 + 1) w2).setCell 1 (.slice (some ⟨g1, 0, none⟩) ks.length ks.length)
  go_wp2_with fail
  replace I0 := I0.only on (by omega)
  replace I1 := I1.only on (by omega)
  replace hB := hB.trans (on.below (B := w.heap.size) (by omega) hB.size)
  replace x0 := x0.only on (by omega)
  replace x1 := x1.only on (by omega)
  replace x2 := x2.set 1 (.slice (some ⟨g1, 0, none⟩) ks.length ks.length)
  clear k1 k2 k3 on
  generalize w2.setCell ⟨w.heap.size + 1 + 1, 1, none⟩ (.slice (some ⟨g1, 0, none⟩) ks.length ks.length) = W2 at *
  refine (S3.out W2 hB).mono ?_
  rintro e w3 ⟨g2, rfl, ho, hb⟩
  have hq := x2.lt
  replace I0 := I0.below hb
  replace I1 := I1.below hb
  have I2 : KP.LA w3 (w.heap.size + 1 + 1 + 1) (some ⟨g2, 0, none⟩) ls := KP.LA.of_own ho (by omega)
  replace hB := hB.trans (hb.mono hB.size)
  replace x0 := x0.below hb x0.lt
  replace x1 := x1.below hb x1.lt
  replace x2 := x2.below hb x2.lt
  clear hb hq S3 ho
  have k1 := x0.cell 3 rfl
  have k2 := x2.cell 2 rfl
  have k3 := x2.free 2
  have on := (MC.Only.refl (w.heap.size + 1 + 1) w3).setCell 2 (.slice (some ⟨g2, 0, none⟩) ls.length ls.length)
  go_wp2_with fail
  replace I0 := I0.only on (by omega)
  replace I1 := I1.only on (by omega)
  replace I2 := I2.only on (by omega)
  replace hB := hB.trans (on.below (B := w.heap.size) (by omega) hB.size)
  replace x0 := x0.only on (by omega)
  replace x1 := x1.only on (by omega)
  replace x2 := x2.set 2 (.slice (some ⟨g2, 0, none⟩) ls.length ls.length)
  clear k1 k2 k3 on
  generalize w3.setCell ⟨w.heap.size + 1 + 1, 2, none⟩ (.slice (some ⟨g2, 0, none⟩) ls.length ls.length) = W3 at *
  refine (S4.out W3 hB).mono ?_
  rintro e w4 ⟨rfl, i3, hb⟩
  have hq := x2.lt
  replace I0 := I0.below hb
  replace I1 := I1.below hb
  replace I2 := I2.below hb
  have I3 : KP.IA w4 (w.heap.size + 1 + 1 + 1) (some ⟨W3.heap.size, 0, none⟩) ns := KP.IA.new i3 (by omega)
  replace hB := hB.trans (hb.mono hB.size)
  replace x0 := x0.below hb x0.lt
  replace x1 := x1.below hb x1.lt
  replace x2 := x2.below hb x2.lt
  obtain ⟨g3, hg3⟩ : ∃ g, W3.heap.size = g := ⟨_, rfl⟩
  rw [hg3] at I3 ⊢
  clear hg3
  clear hb hq S4
  have k10 := x2.cell 0 rfl
  have k11 := x2.cell 1 rfl
  have k12 := x2.cell 2 rfl
  have j0 := x1.cell 0 rfl
  have f0 := x1.free 0
  have j1 := x1.cell 1 rfl
  have f1 := x1.free 1
  have j2 := x1.cell 2 rfl
  have f2 := x1.free 2
  have j3 := x1.cell 3 rfl
  have f3 := x1.free 3
  have k2 := x2.cell 3 rfl
  have k3 := x2.free 3
  have on := (MC.Only.refl (w.heap.size + 1 + 1) w4).setCell 3 (.slice (some ⟨g3, 0, none⟩) ns.length ns.length)
  replace I0 := I0.only on (by omega)
  replace I1 := I1.only on (by omega)
  replace I2 := I2.only on (by omega)
  replace I3 := I3.only on (by omega)
  replace hB := hB.trans (on.below (B := w.heap.size) (by omega) hB.size)
  have on2 := (((((MC.Only.refl (w.heap.size + 1) (w4.setCell ⟨w.heap.size + 1 + 1, 3, none⟩ (.slice (some ⟨g3, 0, none⟩) ns.length ns.length))).setCell 0 (.slice (some ⟨g0, 0, none⟩) us.length us.length)).setCell 1 (.slice (some ⟨g1, 0, none⟩) ks.length ks.length)).setCell 2 (.slice (some ⟨g2, 0, none⟩) ls.length ls.length)).setCell 3 (.slice (some ⟨g3, 0, none⟩) ns.length ns.length))
  have RX := (((((x1.only on (by omega)).set 0 (.slice (some ⟨g0, 0, none⟩) us.length us.length)).set 1 (.slice (some ⟨g1, 0, none⟩) ks.length ks.length)).set 2 (.slice (some ⟨g2, 0, none⟩) ls.length ls.length)).set 3 (.slice (some ⟨g3, 0, none⟩) ns.length ns.length))
  have RB := hB.trans (on2.below (B := w.heap.size) (by omega) hB.size)
  obtain ⟨WF, hWF⟩ : ∃ W, (((((w4.setCell ⟨w.heap.size + 1 + 1, 3, none⟩ (.slice (some ⟨g3, 0, none⟩) ns.length ns.length)).setCell ⟨w.heap.size + 1, 0, none⟩ (.slice (some ⟨g0, 0, none⟩) us.length us.length)).setCell ⟨w.heap.size + 1, 1, none⟩ (.slice (some ⟨g1, 0, none⟩) ks.length ks.length)).setCell ⟨w.heap.size + 1, 2, none⟩ (.slice (some ⟨g2, 0, none⟩) ls.length ls.length)).setCell ⟨w.heap.size + 1, 3, none⟩ (.slice (some ⟨g3, 0, none⟩) ns.length ns.length)) = W := ⟨_, rfl⟩
  rw [hWF] at on2 RX RB
  have R0 := I0.only on2 (by omega)
  have R1 := I1.only on2 (by omega)
  have R2 := I2.only on2 (by omega)
  have R3 := I3.only on2 (by omega)
  have HR : Hid (CuAt WF ⟨us, qs, ls, ns, some ⟨g0, 0, none⟩, some ⟨g1, 0, none⟩, some ⟨g2, 0, none⟩, some ⟨g3, 0, none⟩, us.length, ks.length, ls.length, ns.length⟩) := ⟨R0.at_, R1.at_.mono (Nat.zero_le _), R2.at_, R3.at_, ⟨Nat.le_refl _, Nat.le_of_eq HQ.out.1, Nat.le_refl _, Nat.le_refl _⟩⟩
  clear I0 I1 I2 I3 R0 R1 R2 R3
  have r0 := RX.cell 0 rfl
  have r1 := RX.cell 1 rfl
  have r2 := RX.cell 2 rfl
  have r3 := RX.cell 3 rfl
  clear hB on on2 RX
  go_wp2
  exact bodyPost_ret (v := .agg #[.slice (some ⟨g0, 0, none⟩) us.length us.length, .slice (some ⟨g1, 0, none⟩) ks.length ks.length, .slice (some ⟨g2, 0, none⟩) ls.length ls.length, .slice (some ⟨g3, 0, none⟩) ns.length ns.length]) (by simp [results, Try.results7, go_sem, r0, r1, r2, r3]) rfl ⟨⟨us, qs, ls, ns, some ⟨g0, 0, none⟩, some ⟨g1, 0, none⟩, some ⟨g2, 0, none⟩, some ⟨g3, 0, none⟩, us.length, ks.length, ls.length, ns.length⟩, by rw [← HQ.out.1], by simp only [Cu.said, HQ.out.2], HR.out, RB⟩
set_option linter.unusedSimpArgs false in
set_option maxHeartbeats 3200000 in
set_option maxRecDepth 100000 in
theorem szCustody_any (c : Cu) (w : World) (left : Int) (h0 : 0 ≤ left) (h1 : left ≤ 1048576) (hc : CuAt w c) (hp : c.us.length ≤ maxLen ∧ c.ks.length ≤ maxLen ∧ c.ls.length ≤ maxLen ∧ c.ns.length ≤ maxLen) :
    Calls Try.prog 5 #[c.v, .int .i64 left] w fun e w' => ∃ r : Int, e = .returned (.int .i64 r) ∧ (r < 0 ∨ (0 ≤ r ∧ r ≤ left ∧ CuLen c)) ∧ Below w.heap.size w w' := by
  obtain ⟨us, ks, ls, ns, ua, ka, la, na, uc, kc, lc, nc⟩ := c
  obtain ⟨hu, hk, hls, hn⟩ := hc
  obtain ⟨m1, m2, m3, m4⟩ := hp
  simp only at hu hk hls hn m1 m2 m3 m4
  have S0 : Hid (∀ (W : World) (left : Int), 0 ≤ left → left ≤ 1048576 → Below w.heap.size w W → Calls Try.prog 12 #[.slice ua us.length uc, .int .i64 left] W fun e w' => ∃ r : Int, e = .returned (.int .i64 r) ∧ (r < 0 ∨ (0 ≤ r ∧ r ≤ left ∧ (us.length : Int) ≤ left)) ∧ W = w') := fun W left h0 h1 h => szInts_any ua uc us.length W left h0 h1 m1
  have S1 : Hid (∀ (W : World) (left : Int), 0 ≤ left → left ≤ 1048576 → Below w.heap.size w W → Calls Try.prog 13 #[.slice ka ks.length kc, .int .i64 left] W fun e w' => ∃ r : Int, e = .returned (.int .i64 r) ∧ (r < 0 ∨ (0 ≤ r ∧ r ≤ left ∧ ((ks.length : Int) ≤ left ∧ ∀ j, j < ks.length → ((KP.at_ ks j).ss.length : Int) ≤ left ∧ ((KP.at_ ks j).hs.length : Int) ≤ left ∧ ((KP.at_ ks j).ts.length : Int) ≤ left))) ∧ Below W.heap.size W w') := fun W left h0 h1 h => szKeeperS_any ka kc ks W left h0 h1 m2 (hk.below h)
  have S2 : Hid (∀ (W : World) (left : Int), 0 ≤ left → left ≤ 1048576 → Below w.heap.size w W → Calls Try.prog 14 #[.slice la ls.length lc, .int .i64 left] W fun e w' => ∃ r : Int, e = .returned (.int .i64 r) ∧ (r < 0 ∨ (0 ≤ r ∧ r ≤ left ∧ (ls.length : Int) ≤ left)) ∧ W = w') := fun W left h0 h1 h => szSlipS_any la lc ls.length W left h0 h1 m3
  have S3 : Hid (∀ (W : World) (left : Int), 0 ≤ left → left ≤ 1048576 → Below w.heap.size w W → Calls Try.prog 12 #[.slice na ns.length nc, .int .i64 left] W fun e w' => ∃ r : Int, e = .returned (.int .i64 r) ∧ (r < 0 ∨ (0 ≤ r ∧ r ≤ left ∧ (ns.length : Int) ≤ left)) ∧ W = w') := fun W left h0 h1 h => szInts_any na nc ns.length W left h0 h1 m4
  clear m1 m2 m3 m4 hu hk hls hn
  have hB0 : Below w.heap.size w (w.alloc (.cells #[.slice ua us.length uc, .slice ka ks.length kc, .slice la ls.length lc, .slice na ns.length nc] 26)) := (Below.refl _ w).alloc (Nat.le_refl _) _
  have x0 : BxN (w.alloc (.cells #[.slice ua us.length uc, .slice ka ks.length kc, .slice la ls.length lc, .slice na ns.length nc] 26)) w.heap.size [.slice ua us.length uc, .slice ka ks.length kc, .slice la ls.length lc, .slice na ns.length nc] 26 := BxN.new w _ _ rfl
  go_enter Try.func5, Try.ntmps5
  go_wp2_with fail
  generalize w.alloc (.cells #[.slice ua us.length uc, .slice ka ks.length kc, .slice la ls.length lc, .slice na ns.length nc] 26) = W0 at *
  refine (S0.out W0 left (by omega) (by omega) hB0).mono ?_
  rintro e w0 ⟨l0, rfl, hr0, rfl⟩
  have k0 := x0.cell 1 rfl
  by_cases h0 : l0 < 0
  · clear hr0 S0 S1 S2 S3
    go_wp2
    go_ret
    exact ⟨-1, rfl, .inl (by omega), hB0⟩
  · have hs0 := hr0.resolve_left (by omega)
    have hu0 := hs0.1
    have hv0 := hs0.2.1
    have HS0 : Hid (_ ∧ True) := ⟨hs0.2.2, trivial⟩
    clear hr0 hs0 S0
    go_wp2_with fail
    refine (S1.out W0 l0 (by omega) (by omega) hB0).mono ?_
    rintro e W1 ⟨l1, rfl, hr1, hbk⟩
    have hB1 := hB0.trans (hbk.mono hB0.size)
    replace x0 := x0.below hbk x0.lt
    clear hbk
    have k1 := x0.cell 2 rfl
    by_cases h1 : l1 < 0
    · clear hr1 S1 S2 S3
      go_wp2
      go_ret
      exact ⟨-1, rfl, .inl (by omega), hB1⟩
    · have hs1 := hr1.resolve_left (by omega)
      have hu1 := hs1.1
      have hv1 := hs1.2.1
      have HS1 : Hid (_ ∧ True) := ⟨hs1.2.2, trivial⟩
      clear hr1 hs1 S1
      go_wp2_with fail
      refine (S2.out W1 l1 (by omega) (by omega) hB1).mono ?_
      rintro e w2 ⟨l2, rfl, hr2, rfl⟩
      have k2 := x0.cell 3 rfl
      by_cases h2 : l2 < 0
      · clear hr2 S2 S3
        go_wp2
        go_ret
        exact ⟨-1, rfl, .inl (by omega), hB1⟩
      · have hs2 := hr2.resolve_left (by omega)
        have hu2 := hs2.1
        have hv2 := hs2.2.1
        have HS2 : Hid (_ ∧ True) := ⟨hs2.2.2, trivial⟩
        clear hr2 hs2 S2
        go_wp2_with fail
        refine (S3.out W1 l2 (by omega) (by omega) hB1).mono ?_
        rintro e w3 ⟨l3, rfl, hr3, rfl⟩
        by_cases h3 : l3 < 0
        · clear hr3 S3
          go_wp2
          go_ret
          exact ⟨-1, rfl, .inl (by omega), hB1⟩
        · have hs3 := hr3.resolve_left (by omega)
          have hu3 := hs3.1
          have hv3 := hs3.2.1
          have HS3 : Hid (_ ∧ True) := ⟨hs3.2.2, trivial⟩
          clear hr3 hs3 S3
          go_wp2
          go_ret
          exact ⟨l3, rfl, .inr ⟨hu3, by omega, ⟨by have := HS0.out.1; show us.length ≤ 1048576; omega, by have := HS1.out.1.1; show ks.length ≤ 1048576; omega, by have := HS2.out.1; show ls.length ≤ 1048576; omega, by have := HS3.out.1; show ns.length ≤ 1048576; omega, fun j hj => by have := HS1.out.1.2 j hj; simp only; omega⟩⟩, hB1⟩
end Go.Proofs.Ytfkmnmiolnijaaa
