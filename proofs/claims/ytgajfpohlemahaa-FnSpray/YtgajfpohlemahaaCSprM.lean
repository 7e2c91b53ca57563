/- impl.MeetBoth. -/
import Derived.Test.YtgajfpohlemahaaRows
import Derived.Test.YtgajfpohlemahaaCSprH
import Derived.Test.YtgajfpohlemahaaCSprG
import Derived.Test.YtgajfpohlemahaaCSprN
import Derived.Test.YtgajfpohlemahaaCCloneJ
import Derived.WalkKit
import Derived.WalkSpells
import Derived.WalkLawsBesides
import Derived.Outline
namespace Go.Proofs.Ytgajfpohlemahaa
open Go.RowKit
namespace SP
/-- A box of two cells. -/
structure B2 (w : World) (k : Nat) (a b : Value) (t : TypeId) : Prop where
  is : w.heap[k]? = some (.cells #[a, b] t (0, 0))
theorem B2.new (w : World) (a b : Value) (t : TypeId) {k : Nat} (hk : k = w.heap.size) : B2 (w.alloc (.cells #[a, b] t)) k a b t := ⟨by rw [hk]; exact World.alloc_heap_new w _⟩
theorem B2.lt {w : World} {k : Nat} {a b : Value} {t : TypeId} (h : B2 w k a b t) : k < w.heap.size := (Array.getElem?_eq_some_iff.1 h.is).1
theorem B2.below {w w' : World} {k n : Nat} {a b : Value} {t : TypeId} (h : B2 w k a b t) (hb : Below n w w') (hk : k < n) : B2 w' k a b t := ⟨(hb.block k hk).trans h.is⟩
theorem B2.only {w w' : World} {k p : Nat} {a b : Value} {t : TypeId} (h : B2 w k a b t) (ho : MC.Only p w w') (hk : k ≠ p) : B2 w' k a b t := ⟨(ho.block k h.lt hk).trans h.is⟩
theorem B2.t2 {w w' : World} {k p g : Nat} {a b : Value} {t : TypeId} (h : B2 w k a b t) (ho : T2 p g w w') (hp : k ≠ p) (hg : k ≠ g) : B2 w' k a b t := ⟨(ho.block k h.lt hp hg).trans h.is⟩
theorem B3.t2 {w w' : World} {k p g : Nat} {a b c : Value} {t : TypeId} (h : B3 w k a b c t) (ho : T2 p g w w') (hp : k ≠ p) (hg : k ≠ g) : B3 w' k a b c t := ⟨(ho.block k h.lt hp hg).trans h.is⟩
theorem B2.alloc {w : World} {k : Nat} {a b : Value} {t : TypeId} (h : B2 w k a b t) (o : Obj) : B2 (w.alloc o) k a b t := h.below ((Below.refl _ w).alloc (Nat.le_refl _) o) h.lt
theorem B2.cells {w : World} {k : Nat} {a b : Value} {t : TypeId} (h : B2 w k a b t) : w.cell? ⟨k, 0, none⟩ = some a ∧ w.cell? ⟨k, 1, none⟩ = some b := by
  refine ⟨?_, ?_⟩ <;> simp [World.cell?, h.is]
def mk (zs : List Int) (t x y : Int) : Bool := good zs t && two zs.length x y
def mL (zs : List Int) (t : Int) (th : Bool) (x y : Int) : List Int := if mk zs t x y = true then (meetS zs t th x.toNat y.toNat).1 else []
def mT (zs : List Int) (t x y : Int) : Int := if mk zs t x y = true then t else 0
def mH (zs : List Int) (t : Int) (th : Bool) (x y : Int) : Bool := if mk zs t x y = true then (meetS zs t th x.toNat y.toNat).2 else false
theorem getD_set_bd {zs : List Int} {a : Nat} {x : Int} (h : ∀ j : Nat, 0 ≤ zs.getD j 0 ∧ zs.getD j 0 ≤ 64) (hx : 0 ≤ x ∧ x ≤ 64) : ∀ j : Nat, 0 ≤ (zs.set a x).getD j 0 ∧ (zs.set a x).getD j 0 ≤ 64 := fun j => by
  by_cases e : a = j
  · subst e
    by_cases hl : a < zs.length
    · rw [getD_set_eq _ _ _ hl]; exact hx
    · rw [List.getD_eq_getElem?_getD, List.getElem?_eq_none (by simp; omega)]; simp
  · rw [getD_set_ne _ _ _ _ e]; exact h j
theorem hand_bd {zs : List Int} {t : Int} {th : Bool} {a b : Nat} (h : ∀ j : Nat, 0 ≤ zs.getD j 0 ∧ zs.getD j 0 ≤ 64) : ∀ j : Nat, 0 ≤ (hand zs t th a b).1.getD j 0 ∧ (hand zs t th a b).1.getD j 0 ≤ 64 := by
  have ha := h a
  unfold hand
  split
  · exact h
  · split
    · exact getD_set_bd (getD_set_bd h ⟨by omega, by omega⟩) ⟨by omega, by omega⟩
    · exact h
theorem good_all {zs : List Int} {t : Int} (h : good zs t = true) : ∀ j : Nat, 0 ≤ zs.getD j 0 ∧ zs.getD j 0 ≤ 64 := fun j => by
  by_cases hj : j < zs.length
  · exact good_each h j hj
  · rw [List.getD_eq_getElem?_getD, List.getElem?_eq_none (by omega)]; simp
end SP
set_option maxHeartbeats 1600000 in
set_option maxRecDepth 100000 in
theorem implMeet_any (g c : Nat) (zs : List Int) (t x y : Int) (th : Bool) (w : World) (hz : M4.IntsAt w (some ⟨g, 0, none⟩) zs) (hl : zs.length ≤ 1048576) :
    Calls Try.prog 13 #[SP.sv (.slice (some ⟨g, 0, none⟩) zs.length c) t th, .agg #[.int .i64 x, .int .i64 y]] w fun e w' => ∃ a cap, e = .returned (.tuple #[SP.sv (.slice a (SP.mL zs t th x y).length cap) (SP.mT zs t x y) (SP.mH zs t th x y), .bool (SP.mk zs t x y)]) ∧ w'.ownsRow w.heap.size 3 1 (.slice a (SP.mL zs t th x y).length cap) (SP.mL zs t th x y).length (M4.iv (SP.mL zs t th x y)) ∧ Below w.heap.size w w' := by
  have BX : Below w.heap.size w (((w.alloc (.cells #[.slice (some ⟨g, 0, none⟩) zs.length c, .int .i64 t, .bool th] 28)).alloc (.cells #[.int .i64 x, .int .i64 y] 39)).alloc (.cells #[.slice none 0 0, .int .i64 0, .bool false] 28)) := (((Below.refl _ _).alloc (Nat.le_refl _) _).alloc (by simp) _).alloc (by simp; omega) _
  have b0 := ((SP.B3.new w (.slice (some ⟨g, 0, none⟩) zs.length c) (.int .i64 t) (.bool th) 28 rfl).alloc (.cells #[.int .i64 x, .int .i64 y] 39)).alloc (.cells #[.slice none 0 0, .int .i64 0, .bool false] 28)
  have b1 := (SP.B2.new (w.alloc (.cells #[.slice (some ⟨g, 0, none⟩) zs.length c, .int .i64 t, .bool th] 28)) (.int .i64 x) (.int .i64 y) 39 (k := w.heap.size + 1) (by simp)).alloc (.cells #[.slice none 0 0, .int .i64 0, .bool false] 28)
  have b2 := SP.B3.new ((w.alloc (.cells #[.slice (some ⟨g, 0, none⟩) zs.length c, .int .i64 t, .bool th] 28)).alloc (.cells #[.int .i64 x, .int .i64 y] 39)) (.slice none 0 0) (.int .i64 0) (.bool false) 28 (k := w.heap.size + 1 + 1) (by simp)
  have GD : Hid (Calls _ _ _ _ _) := implGoodSpray_any (some ⟨g, 0, none⟩) c zs t th _ (hz.below BX) hl
  by_cases hg : SP.good zs t = true
  · have h8 := SP.good_len hg
    by_cases h2 : SP.two zs.length x y = true
    · have hk : SP.mk zs t x y = true := by rw [SP.mk, hg, h2]; rfl
      have h2' := of_decide_eq_true h2
      obtain ⟨i, rfl⟩ : ∃ i : Nat, x = i := ⟨x.toNat, by omega⟩
      obtain ⟨j, rfl⟩ : ∃ j : Nat, y = j := ⟨y.toNat, by omega⟩
      have hi : i < zs.length := by omega
      have hj : j < zs.length := by omega
      have hij : i ≠ j := fun e => h2'.2.2 (by rw [e])
      have eL : SP.mL zs t th i j = (SP.meetI zs t th i j).1 := by rw [SP.mL, if_pos hk, Int.toNat_natCast, Int.toNat_natCast, SP.meet_same th hg hi hj hij]
      have eH : SP.mH zs t th i j = (SP.meetI zs t th i j).2 := by rw [SP.mH, if_pos hk, Int.toNat_natCast, Int.toNat_natCast, SP.meet_same th hg hi hj hij]
      have eT : SP.mT zs t i j = t := by rw [SP.mT, if_pos hk]
      have hlen : (SP.meetI zs t th i j).1.length = zs.length := by rw [SP.meetI, SP.hand_len, SP.hand_len]
      rw [eL, eH, eT, hk, hlen]
      have AT : Hid (∀ W : World, Calls Try.prog 27 #[.int .i64 zs.length, .int .i64 i, .int .i64 j] W fun e w' => e = .returned (.bool true) ∧ W = w') := fun W => by
        have := areTwoOf_any zs.length i j W (by omega) (by omega); rw [h2] at this; exact this
      have CL : Hid (∀ W : World, Below w.heap.size w W → Calls Try.prog 28 #[.slice (some ⟨g, 0, none⟩) zs.length c] W fun e w' => ∃ g1 cap, e = .returned (.slice (some ⟨g1, 0, none⟩) zs.length cap) ∧ w'.ownsRow W.heap.size 3 1 (.slice (some ⟨g1, 0, none⟩) zs.length cap) zs.length (M4.iv zs) ∧ Below W.heap.size W w') := fun W hb => cloneJ_any g zs.length c zs W rfl hl (hz.below hb)
      have H1 : Hid (∀ (p g1 cap base : Nat) (W : World), p ≠ g1 → SP.B3 W p (.slice (some ⟨g1, 0, none⟩) zs.length cap) (.int .i64 t) (.bool th) 28 → W.ownsRow base 3 1 (.slice (some ⟨g1, 0, none⟩) zs.length cap) zs.length (M4.iv zs) → Calls Try.prog 29 #[.pointer (some ⟨p, 0, none⟩), .int .i64 i, .int .i64 j] W fun e w' => (∃ v, e = .returned v) ∧ SP.B3 w' p (.slice (some ⟨g1, 0, none⟩) zs.length cap) (.int .i64 t) (.bool (SP.hand zs t th i j).2) 28 ∧ w'.ownsRow base 3 1 (.slice (some ⟨g1, 0, none⟩) zs.length cap) zs.length (M4.iv (SP.hand zs t th i j).1) ∧ SP.T2 p g1 W w') := fun p g1 cap base W hp h1 h2 => handOn_any p g1 zs.length cap base i j zs t th W rfl hi hj (SP.good_all hg i).1 (by have := (SP.good_all hg i).2; omega) hp h1 h2
      have H2 : Hid (∀ (p g1 cap base : Nat) (W : World), p ≠ g1 → SP.B3 W p (.slice (some ⟨g1, 0, none⟩) zs.length cap) (.int .i64 t) (.bool (SP.hand zs t th i j).2) 28 → W.ownsRow base 3 1 (.slice (some ⟨g1, 0, none⟩) zs.length cap) zs.length (M4.iv (SP.hand zs t th i j).1) → Calls Try.prog 29 #[.pointer (some ⟨p, 0, none⟩), .int .i64 j, .int .i64 i] W fun e w' => (∃ v, e = .returned v) ∧ SP.B3 w' p (.slice (some ⟨g1, 0, none⟩) zs.length cap) (.int .i64 t) (.bool (SP.meetI zs t th i j).2) 28 ∧ w'.ownsRow base 3 1 (.slice (some ⟨g1, 0, none⟩) zs.length cap) zs.length (M4.iv (SP.meetI zs t th i j).1) ∧ SP.T2 p g1 W w') := fun p g1 cap base W hp h1 h2 => handOn_any p g1 zs.length cap base j i (SP.hand zs t th i j).1 t (SP.hand zs t th i j).2 W (SP.hand_len _ _ _ _ _) hj hi (SP.hand_bd (SP.good_all hg) j).1 (by have := (SP.hand_bd (t := t) (th := th) (a := i) (b := j) (SP.good_all hg) j).2; omega) hp h1 h2
      rw [hg] at GD
      generalize (SP.meetI zs t th i j).1 = R1 at *
      generalize (SP.meetI zs t th i j).2 = R2 at *
      generalize (SP.hand zs t th i j).1 = Q1 at *
      generalize (SP.hand zs t th i j).2 = Q2 at *
      clear hg h2 hk h2' hi hj hij eL eH eT hlen hz hl
      generalize zs.length = n at *
      go_enter Try.func13, Try.ntmps13
      go_wp2_with fail
      refine Calls.mono GD.out ?_
      rintro e w1 ⟨rfl, hb⟩
      have B := BX.trans (hb.mono BX.size)
      replace b0 := b0.below hb b0.lt
      replace b1 := b1.below hb b1.lt
      replace b2 := b2.below hb b2.lt
      have hlt := b2.lt
      clear GD BX hb
      obtain ⟨c0, c1, c2⟩ := b0.cells
      obtain ⟨d0, d1⟩ := b1.cells
      go_wp2_with fail
      refine Calls.mono (AT.out _) ?_
      rintro e w2 ⟨rfl, rfl⟩
      clear AT
      go_wp2_with fail
      clear c0 c1 c2 d0 d1
      refine Calls.mono (CL.out _ B) ?_
      rintro e w2 ⟨g1, cap, rfl, ho, hb⟩
      have hg1 : w1.heap.size ≤ g1 := (ho.lt g1 rfl).1
      have B2 := B.trans (hb.mono B.size)
      replace b0 := (b0.below hb b0.lt)
      replace b1 := b1.below hb b1.lt
      replace b2 := b2.below hb b2.lt
      have f0 := b0.free 0
      obtain ⟨c0, c1, c2⟩ := b0.cells
      have on := (MC.Only.refl w.heap.size w2).setCell 0 (.slice (some ⟨g1, 0, none⟩) n cap)
      have s0 := b0.set0 (.slice (some ⟨g1, 0, none⟩) n cap)
      have s1 := b1.only on (by omega)
      have s2 := b2.only on (by omega)
      have so : (w2.setCell ⟨w.heap.size, 0, none⟩ (.slice (some ⟨g1, 0, none⟩) n cap)).ownsRow w1.heap.size 3 1 (.slice (some ⟨g1, 0, none⟩) n cap) n (M4.iv zs) := MC.own_only ho on (by omega)
      have B3 := B2.setCell (p := ⟨w.heap.size, 0, none⟩) (Nat.le_refl _) (.slice (some ⟨g1, 0, none⟩) n cap)
      obtain ⟨d0, d1⟩ := s1.cells
      have hl3 := s2.lt
      have HS : Hid _ := And.intro s0 (And.intro s1 (And.intro s2 (And.intro so B3)))
      clear CL hb B B2 b0 b1 b2 ho on s0 s1 s2 so B3
      go_wp2_with fail
      obtain ⟨s0, s1, s2, so, B3⟩ := HS.out
      clear HS c0 c1 c2 d0 d1 f0
      generalize w2.setCell ⟨w.heap.size, 0, none⟩ (.slice (some ⟨g1, 0, none⟩) n cap) = W3 at *
      refine Calls.mono (H1.out w.heap.size g1 cap w1.heap.size _ (by omega) s0 so) ?_
      rintro e w4 ⟨⟨v, rfl⟩, q0, qo, qt⟩
      have q1 := s1.t2 qt (by omega) (by omega)
      have q2 := s2.t2 qt (by omega) (by omega)
      have B4 := B3.trans (qt.below (Nat.le_refl _) (by omega) B3.size)
      obtain ⟨d0, d1⟩ := q1.cells
      have hl4 := q2.lt
      clear H1 s0 s1 s2 so B3 qt
      have HQ : Hid _ := And.intro q0 (And.intro q1 (And.intro q2 (And.intro qo B4)))
      clear q0 q1 q2 qo B4
      go_wp2_with fail
      obtain ⟨q0, q1, q2, qo, B4⟩ := HQ.out
      clear HQ d0 d1
      refine Calls.mono (H2.out w.heap.size g1 cap w1.heap.size _ (by omega) q0 qo) ?_
      rintro e w5 ⟨⟨v', rfl⟩, r0, ro, rt⟩
      have r2 := q2.t2 rt (by omega) (by omega)
      have B5 := B4.trans (rt.below (Nat.le_refl _) (by omega) B4.size)
      obtain ⟨d0, d1, d2⟩ := r0.cells
      obtain ⟨k0, k1, k2⟩ := r2.cells
      have f0 := r2.free 0
      have f1 := r2.free 1
      have f2 := r2.free 2
      have hl5 := r2.lt
      clear H2 q0 q1 q2 qo B4 rt
      have HR : Hid _ := And.intro r2 (And.intro ro B5)
      clear r0 r2 ro B5
      go_wp2
      obtain ⟨r2, ro, B5⟩ := HR.out
      have on2 := (((MC.Only.refl (w.heap.size + 1 + 1) w5).setCell 0 (.slice (some ⟨g1, 0, none⟩) n cap)).setCell 1 (.int .i64 t)).setCell 2 (.bool R2)
      have z2 := ((r2.set0 (.slice (some ⟨g1, 0, none⟩) n cap)).set1 (.int .i64 t)).set2 (.bool R2)
      obtain ⟨e0, e1, e2⟩ := z2.cells
      have hO := MC.own_only ro on2 (by omega)
      have hB := ((B5.setCell (p := ⟨w.heap.size + 1 + 1, 0, none⟩) (by simp; omega) (.slice (some ⟨g1, 0, none⟩) n cap)).setCell (p := ⟨w.heap.size + 1 + 1, 1, none⟩) (by simp; omega) (.int .i64 t)).setCell (p := ⟨w.heap.size + 1 + 1, 2, none⟩) (by simp; omega) (.bool R2)
      exact bodyPost_ret (v := .tuple #[SP.sv (.slice (some ⟨g1, 0, none⟩) n cap) t R2, .bool true]) (by simp [results, Try.results13, go_sem, e0, e1, e2]) rfl ⟨_, _, rfl, SP.own_le hO (by omega), hB⟩
    · have hk : SP.mk zs t x y = false := by rw [SP.mk, hg]; simpa using h2
      have eL : SP.mL zs t th x y = [] := by rw [SP.mL, if_neg (by rw [hk]; simp)]
      have eH : SP.mH zs t th x y = false := by rw [SP.mH, if_neg (by rw [hk]; simp)]
      have eT : SP.mT zs t x y = 0 := by rw [SP.mT, if_neg (by rw [hk]; simp)]
      rw [eL, eH, eT, hk]
      rw [hg] at GD
      have AT : Hid (∀ W : World, Calls Try.prog 27 #[.int .i64 zs.length, .int .i64 x, .int .i64 y] W fun e w' => e = .returned (.bool false) ∧ W = w') := fun W => by have := areTwoOf_any zs.length x y W (by omega) (by omega); rw [show SP.two zs.length x y = false by simpa using h2] at this; exact this
      clear h2 hg
      clear hk eL eH eT hz
      generalize zs.length = n at *
      go_enter Try.func13, Try.ntmps13
      go_wp2_with fail
      refine Calls.mono GD.out ?_
      rintro e w1 ⟨rfl, hb⟩
      have B := BX.trans (hb.mono BX.size)
      replace b0 := b0.below hb b0.lt
      replace b1 := b1.below hb b1.lt
      replace b2 := b2.below hb b2.lt
      have hlt := b2.lt
      clear GD BX hb
      obtain ⟨c0, c1, c2⟩ := b0.cells
      obtain ⟨d0, d1⟩ := b1.cells
      obtain ⟨k0, k1, k2⟩ := b2.cells
      have f0 := b2.free 0
      have f1 := b2.free 1
      have f2 := b2.free 2
      go_wp2_with fail
      refine Calls.mono (AT.out _) ?_
      rintro e w2 ⟨rfl, rfl⟩
      clear AT
      have HR : Hid _ := And.intro b2 B
      clear b0 b1 b2 B
      go_wp2
      obtain ⟨r2, B5⟩ := HR.out
      have z2 := ((r2.set0 (.slice none 0 0)).set1 (.int .i64 0)).set2 (.bool false)
      obtain ⟨e0, e1, e2⟩ := z2.cells
      have hB := ((B5.setCell (p := ⟨w.heap.size + 1 + 1, 0, none⟩) (by simp; omega) (.slice none 0 0)).setCell (p := ⟨w.heap.size + 1 + 1, 1, none⟩) (by simp; omega) (.int .i64 0)).setCell (p := ⟨w.heap.size + 1 + 1, 2, none⟩) (by simp; omega) (.bool false)
      exact bodyPost_ret (v := .tuple #[SP.sv (.slice none 0 0) 0 false, .bool false]) (by simp [results, Try.results13, go_sem, e0, e1, e2]) rfl ⟨none, 0, rfl, World.ownsRow_nil _ _ _ _, hB⟩
  · have hk : SP.mk zs t x y = false := by rw [SP.mk, show SP.good zs t = false by simpa using hg]; rfl
    have eL : SP.mL zs t th x y = [] := by rw [SP.mL, if_neg (by rw [hk]; simp)]
    have eH : SP.mH zs t th x y = false := by rw [SP.mH, if_neg (by rw [hk]; simp)]
    have eT : SP.mT zs t x y = 0 := by rw [SP.mT, if_neg (by rw [hk]; simp)]
    rw [eL, eH, eT, hk]
    rw [show SP.good zs t = false by simpa using hg] at GD
    clear hg
    clear hk eL eH eT hz
    generalize zs.length = n at *
    go_enter Try.func13, Try.ntmps13
    go_wp2_with fail
    refine Calls.mono GD.out ?_
    rintro e w1 ⟨rfl, hb⟩
    have B := BX.trans (hb.mono BX.size)
    replace b0 := b0.below hb b0.lt
    replace b1 := b1.below hb b1.lt
    replace b2 := b2.below hb b2.lt
    have hlt := b2.lt
    clear GD BX hb
    obtain ⟨c0, c1, c2⟩ := b0.cells
    obtain ⟨d0, d1⟩ := b1.cells
    obtain ⟨k0, k1, k2⟩ := b2.cells
    have f0 := b2.free 0
    have f1 := b2.free 1
    have f2 := b2.free 2
    have HR : Hid _ := And.intro b2 B
    clear b0 b1 b2 B
    go_wp2
    obtain ⟨r2, B5⟩ := HR.out
    have z2 := ((r2.set0 (.slice none 0 0)).set1 (.int .i64 0)).set2 (.bool false)
    obtain ⟨e0, e1, e2⟩ := z2.cells
    have hB := ((B5.setCell (p := ⟨w.heap.size + 1 + 1, 0, none⟩) (by simp; omega) (.slice none 0 0)).setCell (p := ⟨w.heap.size + 1 + 1, 1, none⟩) (by simp; omega) (.int .i64 0)).setCell (p := ⟨w.heap.size + 1 + 1, 2, none⟩) (by simp; omega) (.bool false)
    exact bodyPost_ret (v := .tuple #[SP.sv (.slice none 0 0) 0 false, .bool false]) (by simp [results, Try.results13, go_sem, e0, e1, e2]) rfl ⟨none, 0, rfl, World.ownsRow_nil _ _ _ _, hB⟩
end Go.Proofs.Ytgajfpohlemahaa
