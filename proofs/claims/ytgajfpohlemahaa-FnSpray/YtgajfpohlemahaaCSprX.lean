/- spec.MeetBoth. -/
import Derived.Test.YtgajfpohlemahaaRows
import Derived.Test.YtgajfpohlemahaaCSprW
import Derived.Test.YtgajfpohlemahaaCSprS
import Derived.WalkKit
import Derived.WalkSpells
import Derived.WalkLawsBesides
import Derived.Outline
namespace Go.Proofs.Ytgajfpohlemahaa
open Go.RowKit
theorem SP.own_only2 {w w' : World} {base e sz n k : Nat} {v : Value} {xs : List Value} (h : w.ownsRow base e sz v n xs) (ho : MC.Only k w w') (hn : v.ownBlock ≠ some k) : w'.ownsRow base e sz v n xs := by
  refine ⟨h.1, ?_⟩
  rcases h.2 with h' | ⟨g, cap', cur, rfl, hb, hg, rest⟩
  · exact .inl h'
  · refine .inr ⟨g, cap', cur, rfl, hb, (ho.block g (Array.getElem?_eq_some_iff.1 hg).1 (fun e => hn (by rw [← e]; rfl))).trans hg, rest⟩
/-- spec.l15Meet of a good spray. -/
theorem l15Meet_any (a0 : Option Addr) (c : Nat) (zs : List Int) (t x y : Int) (th : Bool) (w : World) (hz : M4.IntsAt w a0 zs) (hl : zs.length ≤ 1048576) (hg : SP.good zs t = true) :
    Calls Try.prog 20 #[SP.sv (.slice a0 zs.length c) t th, .agg #[.int .i64 x, .int .i64 y]] w fun e w' => ∃ a cap, e = .returned (.tuple #[SP.sv (.slice a (SP.mL zs t th x y).length cap) (SP.mT zs t x y) (SP.mH zs t th x y), .bool (SP.mk zs t x y)]) ∧ w'.ownsRow w.heap.size 3 1 (.slice a (SP.mL zs t th x y).length cap) (SP.mL zs t th x y).length (M4.iv (SP.mL zs t th x y)) ∧ Below w.heap.size w w' := by
  by_cases h2 : SP.two zs.length x y = true
  · have hk : SP.mk zs t x y = true := by rw [SP.mk, hg, h2]; rfl
    have h2' := of_decide_eq_true h2
    obtain ⟨i, rfl⟩ : ∃ i : Nat, x = i := ⟨x.toNat, by omega⟩
    obtain ⟨j, rfl⟩ : ∃ j : Nat, y = j := ⟨y.toNat, by omega⟩
    have eL : SP.mL zs t th i j = (SP.meetS zs t th i j).1 := by rw [SP.mL, if_pos hk, Int.toNat_natCast, Int.toNat_natCast]
    have eH : SP.mH zs t th i j = (SP.meetS zs t th i j).2 := by rw [SP.mH, if_pos hk, Int.toNat_natCast, Int.toNat_natCast]
    have eT : SP.mT zs t i j = t := by rw [SP.mT, if_pos hk]
    have hlen : (SP.meetS zs t th i j).1.length = zs.length := by
      unfold SP.meetS
      split <;> exact SP.give_len _ _ _ _ _
    rw [eL, eH, eT, hk, hlen]
    refine (l15Meet_yes a0 zs.length c i j zs t th w rfl hl hz (SP.good_all hg) (by omega) (by omega) (fun e => h2'.2.2 (by rw [e]))).mono ?_
    rintro e w' ⟨g, cap, rfl, h1, h3⟩
    exact ⟨_, cap, rfl, h1, h3⟩
  · have h2f : SP.two zs.length x y = false := by simpa using h2
    have hk : SP.mk zs t x y = false := by rw [SP.mk, hg, h2f]; rfl
    have eL : SP.mL zs t th x y = [] := by rw [SP.mL, if_neg (by rw [hk]; simp)]
    have eH : SP.mH zs t th x y = false := by rw [SP.mH, if_neg (by rw [hk]; simp)]
    have eT : SP.mT zs t x y = 0 := by rw [SP.mT, if_neg (by rw [hk]; simp)]
    rw [eL, eH, eT, hk]
    refine (l15Meet_no a0 zs.length c t x y th w h2f).mono ?_
    rintro e w' ⟨rfl, h3⟩
    exact ⟨none, 0, rfl, World.ownsRow_nil _ _ _ _, h3⟩
set_option maxHeartbeats 1600000 in
set_option maxRecDepth 100000 in
theorem specMeet_any (g c : Nat) (zs : List Int) (t x y : Int) (th : Bool) (w : World) (hz : M4.IntsAt w (some ⟨g, 0, none⟩) zs) (hl : zs.length ≤ 1048576) :
    Calls Try.prog 14 #[SP.sv (.slice (some ⟨g, 0, none⟩) zs.length c) t th, .agg #[.int .i64 x, .int .i64 y]] w fun e w' => ∃ a cap, e = .returned (.tuple #[SP.sv (.slice a (SP.mL zs t th x y).length cap) (SP.mT zs t x y) (SP.mH zs t th x y), .bool (SP.mk zs t x y)]) ∧ w'.ownsRow w.heap.size 3 1 (.slice a (SP.mL zs t th x y).length cap) (SP.mL zs t th x y).length (M4.iv (SP.mL zs t th x y)) ∧ Below w.heap.size w w' := by
  have BX : Below w.heap.size w (((w.alloc (.cells #[.slice (some ⟨g, 0, none⟩) zs.length c, .int .i64 t, .bool th] 28)).alloc (.cells #[.int .i64 x, .int .i64 y] 39)).alloc (.cells #[.slice none 0 0, .int .i64 0, .bool false] 28)) := (((Below.refl _ _).alloc (Nat.le_refl _) _).alloc (by simp) _).alloc (by simp; omega) _
  have b0 := ((SP.B3.new w (.slice (some ⟨g, 0, none⟩) zs.length c) (.int .i64 t) (.bool th) 28 rfl).alloc (.cells #[.int .i64 x, .int .i64 y] 39)).alloc (.cells #[.slice none 0 0, .int .i64 0, .bool false] 28)
  have b1 := (SP.B2.new (w.alloc (.cells #[.slice (some ⟨g, 0, none⟩) zs.length c, .int .i64 t, .bool th] 28)) (.int .i64 x) (.int .i64 y) 39 (k := w.heap.size + 1) (by simp)).alloc (.cells #[.slice none 0 0, .int .i64 0, .bool false] 28)
  have b2 := SP.B3.new ((w.alloc (.cells #[.slice (some ⟨g, 0, none⟩) zs.length c, .int .i64 t, .bool th] 28)).alloc (.cells #[.int .i64 x, .int .i64 y] 39)) (.slice none 0 0) (.int .i64 0) (.bool false) 28 (k := w.heap.size + 1 + 1) (by simp)
  have GD : Hid (Calls _ _ _ _ _) := specGoodSpray_any (some ⟨g, 0, none⟩) c zs t th _ (hz.below BX) hl
  have LM : Hid (SP.good zs t = true → ∀ W : World, Below w.heap.size w W → Calls Try.prog 20 #[.agg #[.slice (some ⟨g, 0, none⟩) zs.length c, .int .i64 t, .bool th], .agg #[.int .i64 x, .int .i64 y]] W fun e w' => ∃ a cap, e = .returned (.tuple #[.agg #[.slice a (SP.mL zs t th x y).length cap, .int .i64 (SP.mT zs t x y), .bool (SP.mH zs t th x y)], .bool (SP.mk zs t x y)]) ∧ w'.ownsRow W.heap.size 3 1 (.slice a (SP.mL zs t th x y).length cap) (SP.mL zs t th x y).length (M4.iv (SP.mL zs t th x y)) ∧ Below W.heap.size W w') := fun hg W hb => l15Meet_any (some ⟨g, 0, none⟩) c zs t x y th W (hz.below hb) hl hg
  by_cases hg : SP.good zs t = true
  · rw [hg] at GD
    have LM2 : Hid _ := LM.out hg
    clear LM hz hl hg
    generalize SP.mk zs t x y = K at *
    generalize SP.mT zs t x y = T2 at *
    generalize SP.mH zs t th x y = H2 at *
    generalize SP.mL zs t th x y = L at *
    generalize zs.length = n at *
    go_enter Try.func14, Try.ntmps14
    go_wp2_with fail
    refine Calls.mono GD.out ?_
    rintro e w1 ⟨rfl, hb⟩
    have B := BX.trans (hb.mono BX.size)
    replace b0 := b0.below hb b0.lt
    replace b1 := b1.below hb b1.lt
    replace b2 := b2.below hb b2.lt
    have hlt := b2.lt
    clear GD BX hb
    obtain ⟨c0, c1, c2⟩ := b0.cells
    obtain ⟨d0, d1⟩ := b1.cells
    go_wp2_with fail
    refine Calls.mono (LM2.out _ B) ?_
    rintro e w2 ⟨a, cap, rfl, ho, hb⟩
    have B2 := B.trans (hb.mono B.size)
    replace b2 := b2.below hb b2.lt
    have hgl : ∀ k, (Value.slice a L.length cap).ownBlock = some k → w1.heap.size ≤ k := fun k e => (ho.lt k e).1
    clear LM2 hb B b0 b1 c0 c1 c2 d0 d1
    obtain ⟨k0, k1, k2⟩ := b2.cells
    have f0 := b2.free 0
    have f1 := b2.free 1
    have f2 := b2.free 2
    have hl2 := b2.lt
    have HR : Hid _ := And.intro b2 (And.intro ho B2)
    clear b2 ho B2
    have HGL : Hid _ := hgl
    clear hgl
    go_wp2
    obtain ⟨r2, ro, B5⟩ := HR.out
    have on2 := (((MC.Only.refl (w.heap.size + 1 + 1) w2).setCell 0 (.slice a L.length cap)).setCell 1 (.int .i64 T2)).setCell 2 (.bool H2)
    have z2 := ((r2.set0 (.slice a L.length cap)).set1 (.int .i64 T2)).set2 (.bool H2)
    obtain ⟨e0, e1, e2⟩ := z2.cells
    have hO := SP.own_only2 ro on2 (fun e => by have := HGL.out _ e; omega)
    have hB := ((B5.setCell (p := ⟨w.heap.size + 1 + 1, 0, none⟩) (by simp; omega) (.slice a L.length cap)).setCell (p := ⟨w.heap.size + 1 + 1, 1, none⟩) (by simp; omega) (.int .i64 T2)).setCell (p := ⟨w.heap.size + 1 + 1, 2, none⟩) (by simp; omega) (.bool H2)
    exact bodyPost_ret (v := .tuple #[SP.sv (.slice a L.length cap) T2 H2, .bool K]) (by simp [results, Try.results14, go_sem, e0, e1, e2, SP.sv]) rfl ⟨_, _, rfl, SP.own_le hO (by omega), hB⟩
  · have hk : SP.mk zs t x y = false := by rw [SP.mk, show SP.good zs t = false by simpa using hg]; rfl
    have eL : SP.mL zs t th x y = [] := by rw [SP.mL, if_neg (by rw [hk]; simp)]
    have eH : SP.mH zs t th x y = false := by rw [SP.mH, if_neg (by rw [hk]; simp)]
    have eT : SP.mT zs t x y = 0 := by rw [SP.mT, if_neg (by rw [hk]; simp)]
    rw [eL, eH, eT, hk]
    rw [show SP.good zs t = false by simpa using hg] at GD
    clear hg LM hl
    clear hk eL eH eT hz
    generalize zs.length = n at *
    go_enter Try.func14, Try.ntmps14
    go_wp2_with fail
    refine Calls.mono GD.out ?_
    rintro e w1 ⟨rfl, hb⟩
    have B := BX.trans (hb.mono BX.size)
    replace b0 := b0.below hb b0.lt
    replace b1 := b1.below hb b1.lt
    replace b2 := b2.below hb b2.lt
    have hlt := b2.lt
    clear GD BX hb
    obtain ⟨c0, c1, c2⟩ := b0.cells
    obtain ⟨d0, d1⟩ := b1.cells
    obtain ⟨k0, k1, k2⟩ := b2.cells
    have f0 := b2.free 0
    have f1 := b2.free 1
    have f2 := b2.free 2
    have HR : Hid _ := And.intro b2 B
    clear b0 b1 b2 B
    go_wp2
    obtain ⟨r2, B5⟩ := HR.out
    have z2 := ((r2.set0 (.slice none 0 0)).set1 (.int .i64 0)).set2 (.bool false)
    obtain ⟨e0, e1, e2⟩ := z2.cells
    have hB := ((B5.setCell (p := ⟨w.heap.size + 1 + 1, 0, none⟩) (by simp; omega) (.slice none 0 0)).setCell (p := ⟨w.heap.size + 1 + 1, 1, none⟩) (by simp; omega) (.int .i64 0)).setCell (p := ⟨w.heap.size + 1 + 1, 2, none⟩) (by simp; omega) (.bool false)
    exact bodyPost_ret (v := .tuple #[SP.sv (.slice none 0 0) 0 false, .bool false]) (by simp [results, Try.results14, go_sem, e0, e1, e2]) rfl ⟨none, 0, rfl, World.ownsRow_nil _ _ _ _, hB⟩
end Go.Proofs.Ytgajfpohlemahaa
