/- spec.l15Meet and spec.MeetBoth. -/
import Derived.Test.YtgajfpohlemahaaRows
import Derived.Test.YtgajfpohlemahaaCSprV
import Derived.Test.YtgajfpohlemahaaCSprM
import Derived.Test.YtgajfpohlemahaaCSprS
import Derived.Test.YtgajfpohlemahaaMInfo
import Derived.WalkKit
import Derived.WalkSpells
import Derived.WalkLawsBesides
import Derived.Outline
import Derived.Deep.QuietTactic
import Derived.BigQuiet
import Derived.Deep.RegionHeld3
namespace Go.Proofs.Ytgajfpohlemahaa
open Go.RowKit
set_option maxHeartbeats 1600000 in
set_option maxRecDepth 100000 in
theorem l15Meet_no (a0 : Option Addr) (n c : Nat) (t x y : Int) (th : Bool) (w : World) (h2 : SP.two n x y = false) :
    Calls Try.prog 20 #[SP.sv (.slice a0 n c) t th, .agg #[.int .i64 x, .int .i64 y]] w fun e w' => e = .returned (.tuple #[SP.sv (.slice none 0 0) 0 false, .bool false]) ∧ Below w.heap.size w w' := by
  have H : x < 0 ∨ (¬ x < 0 ∧ (n : Int) ≤ x) ∨ (¬ x < 0 ∧ ¬ (n : Int) ≤ x ∧ y < 0) ∨ (¬ x < 0 ∧ ¬ (n : Int) ≤ x ∧ ¬ y < 0 ∧ (n : Int) ≤ y) ∨ (¬ x < 0 ∧ ¬ (n : Int) ≤ x ∧ ¬ y < 0 ∧ ¬ (n : Int) ≤ y ∧ x = y) := by
    have := of_decide_eq_false h2
    by_cases p1 : x < 0
    · exact .inl p1
    · by_cases p2 : (n : Int) ≤ x
      · exact .inr (.inl ⟨p1, p2⟩)
      · by_cases p3 : y < 0
        · exact .inr (.inr (.inl ⟨p1, p2, p3⟩))
        · by_cases p4 : (n : Int) ≤ y
          · exact .inr (.inr (.inr (.inl ⟨p1, p2, p3, p4⟩)))
          · by_cases p5 : x = y
            · exact .inr (.inr (.inr (.inr ⟨p1, p2, p3, p4, p5⟩)))
            · exact absurd ⟨⟨by omega, by omega⟩, ⟨by omega, by omega⟩, p5⟩ this
  clear h2
  rcases H with p1 | ⟨p1, p2⟩ | ⟨p1, p2, p3⟩ | ⟨p1, p2, p3, p4⟩ | ⟨p1, p2, p3, p4, p5⟩
  · have q1 : decide (x < 0) = true := decide_eq_true p1
    go_enter Try.func20, Try.ntmps20
    go_wp2
    exact bodyPost_ret (v := .tuple #[SP.sv (.slice none 0 0) 0 false, .bool false]) (by simp [results, Try.results20, go_sem, SP.sv]) rfl ⟨rfl, (((Below.refl _ _).alloc (Nat.le_refl _) _).alloc (by simp) _).alloc (by simp; omega) _⟩
  · have q1 : decide (x < 0) = false := decide_eq_false p1
    have q2 : decide ((n : Int) ≤ x) = true := decide_eq_true p2
    go_enter Try.func20, Try.ntmps20
    go_wp2
    exact bodyPost_ret (v := .tuple #[SP.sv (.slice none 0 0) 0 false, .bool false]) (by simp [results, Try.results20, go_sem, SP.sv]) rfl ⟨rfl, (((Below.refl _ _).alloc (Nat.le_refl _) _).alloc (by simp) _).alloc (by simp; omega) _⟩
  · have q1 : decide (x < 0) = false := decide_eq_false p1
    have q2 : decide ((n : Int) ≤ x) = false := decide_eq_false p2
    have q3 : decide (y < 0) = true := decide_eq_true p3
    go_enter Try.func20, Try.ntmps20
    go_wp2
    exact bodyPost_ret (v := .tuple #[SP.sv (.slice none 0 0) 0 false, .bool false]) (by simp [results, Try.results20, go_sem, SP.sv]) rfl ⟨rfl, (((Below.refl _ _).alloc (Nat.le_refl _) _).alloc (by simp) _).alloc (by simp; omega) _⟩
  · have q1 : decide (x < 0) = false := decide_eq_false p1
    have q2 : decide ((n : Int) ≤ x) = false := decide_eq_false p2
    have q3 : decide (y < 0) = false := decide_eq_false p3
    have q4 : decide ((n : Int) ≤ y) = true := decide_eq_true p4
    go_enter Try.func20, Try.ntmps20
    go_wp2
    exact bodyPost_ret (v := .tuple #[SP.sv (.slice none 0 0) 0 false, .bool false]) (by simp [results, Try.results20, go_sem, SP.sv]) rfl ⟨rfl, (((Below.refl _ _).alloc (Nat.le_refl _) _).alloc (by simp) _).alloc (by simp; omega) _⟩
  · have q1 : decide (x < 0) = false := decide_eq_false p1
    have q2 : decide ((n : Int) ≤ x) = false := decide_eq_false p2
    have q3 : decide (y < 0) = false := decide_eq_false p3
    have q4 : decide ((n : Int) ≤ y) = false := decide_eq_false p4
    have q5 : (x == y) = true := by simp [p5]
    go_enter Try.func20, Try.ntmps20
    go_wp2
    exact bodyPost_ret (v := .tuple #[SP.sv (.slice none 0 0) 0 false, .bool false]) (by simp [results, Try.results20, go_sem, SP.sv]) rfl ⟨rfl, (((Below.refl _ _).alloc (Nat.le_refl _) _).alloc (by simp) _).alloc (by simp; omega) _⟩
set_option maxHeartbeats 3200000 in
set_option maxRecDepth 100000 in
theorem l15Meet_yes (a0 : Option Addr) (n c i j : Nat) (zs : List Int) (t : Int) (th : Bool) (w : World) (hn : zs.length = n) (hl : n ≤ 1048576) (hz : M4.IntsAt w a0 zs) (hb : ∀ k : Nat, 0 ≤ zs.getD k 0 ∧ zs.getD k 0 ≤ 64) (hi : i < n) (hj : j < n) (hij : i ≠ j) :
    Calls Try.prog 20 #[SP.sv (.slice a0 n c) t th, .agg #[.int .i64 i, .int .i64 j]] w fun e w' => ∃ g cap, e = .returned (.tuple #[SP.sv (.slice (some ⟨g, 0, none⟩) n cap) t (SP.meetS zs t th i j).2, .bool true]) ∧ w'.ownsRow w.heap.size 3 1 (.slice (some ⟨g, 0, none⟩) n cap) n (M4.iv (SP.meetS zs t th i j).1) ∧ Below w.heap.size w w' := by
  obtain ⟨i0, hi0, hz0, hz1, hz2⟩ := info_parts Try.info3
  obtain ⟨b5, off5, rfl, hlt5, _⟩ := hz.at (k := 0) (by omega)
  have BX : Below w.heap.size w (((w.alloc (.cells #[.slice (some ⟨b5, off5, none⟩) n c, .int .i64 t, .bool th] 28)).alloc (.cells #[.int .i64 i, .int .i64 j] 39)).alloc (.cells #[.slice none 0 0, .int .i64 0, .bool false] 28)) := (((Below.refl _ _).alloc (Nat.le_refl _) _).alloc (by simp) _).alloc (by simp; omega) _
  have b0 := ((SP.B3.new w (.slice (some ⟨b5, off5, none⟩) n c) (.int .i64 t) (.bool th) 28 rfl).alloc (.cells #[.int .i64 i, .int .i64 j] 39)).alloc (.cells #[.slice none 0 0, .int .i64 0, .bool false] 28)
  have b1 := (SP.B2.new (w.alloc (.cells #[.slice (some ⟨b5, off5, none⟩) n c, .int .i64 t, .bool th] 28)) (.int .i64 i) (.int .i64 j) 39 (k := w.heap.size + 1) (by simp)).alloc (.cells #[.slice none 0 0, .int .i64 0, .bool false] 28)
  have b2 := SP.B3.new ((w.alloc (.cells #[.slice (some ⟨b5, off5, none⟩) n c, .int .i64 t, .bool th] 28)).alloc (.cells #[.int .i64 i, .int .i64 j] 39)) (.slice none 0 0) (.int .i64 0) (.bool false) 28 (k := w.heap.size + 1 + 1) (by simp)
  have hX := b2.lt
  obtain ⟨X, eX⟩ : ∃ X, (((w.alloc (.cells #[.slice (some ⟨b5, off5, none⟩) n c, .int .i64 t, .bool th] 28)).alloc (.cells #[.int .i64 i, .int .i64 j] 39)).alloc (.cells #[.slice none 0 0, .int .i64 0, .bool false] 28)) = X := ⟨_, rfl⟩
  have sX : X.heap.size = w.heap.size + 1 + 1 + 1 := by rw [← eX]; simp
  rw [eX] at BX b0 b1 b2 hX
  have hzX := hz.below BX
  have HS : Hid (∀ k u, (M4.iv zs)[k]? = some u → (X.alloc (.cells #[] 3)).cell? (Addr.add ⟨b5, off5, none⟩ k) = some u) := fun k u hu => by
    have hk : k < zs.length := by
      have := (List.getElem?_eq_some_iff.1 hu).1
      simpa [M4.iv] using this
    obtain ⟨b6, off6, he, hlt6, h⟩ := hzX.at hk
    simp only [Option.some.injEq, Addr.mk.injEq, and_true] at he
    obtain ⟨rfl, rfl⟩ := he
    rw [M4.iv_get zs k (zs.getD k 0) (by rw [List.getD_eq_getElem?_getD, List.getElem?_eq_getElem hk]; rfl)] at hu
    cases hu
    have : Addr.add ⟨b5, off5, none⟩ k = ⟨b5, off5 + k, none⟩ := by simp [Addr.add_mid]
    rw [this, World.cell?_alloc_lt _ _ _ hlt6]; exact h
  have OWN0 : Hid ((X.alloc (.cells #[] 3)).ownsRow X.heap.size 3 1 (.slice (some ⟨X.heap.size, 0, none⟩) 0 0) 0 []) := by
    have := World.ownsRow_lit (base := X.heap.size) (e := 3) (size := 1) X #[] 0 (by simp) (by unfold maxLen; omega) (by simp)
    simpa [Hid] using this
  rw [sX] at OWN0
  have HN : Hid (Below X.heap.size X (X.alloc (.cells #[] 3))) := (Below.refl _ X).alloc (Nat.le_refl _) _
  have H1 : Hid (∀ u ∈ M4.iv zs, u.oneCell' = true) := fun u hu => by
    obtain ⟨z, _, rfl⟩ := List.mem_map.1 hu
    rfl
  have HL8 : Hid ((M4.iv zs).length = n * 1) := by show _ = _; simp [M4.iv, hn]
  have GV : Hid (∀ (g cap a b : Nat) (W : World), a < n → b < n → a ≠ b → W.ownsRow X.heap.size 3 1 (.slice (some ⟨g, 0, none⟩) n cap) n (M4.iv zs) → Calls Try.prog 33 #[.agg #[.slice (some ⟨g, 0, none⟩) n cap, .int .i64 t, .bool th], .int .i64 a, .int .i64 b] W fun e w' => e = .returned (.agg #[.slice (some ⟨g, 0, none⟩) n cap, .int .i64 t, .bool (SP.give zs t th a b).2]) ∧ w'.ownsRow X.heap.size 3 1 (.slice (some ⟨g, 0, none⟩) n cap) n (M4.iv (SP.give zs t th a b).1) ∧ SP.T2 g g W w') := fun g cap a b W h1 h2 h3 ho => give_any g n cap X.heap.size a b zs t th W hn h1 h2 h3 (hb a).1 (by have := hb a; omega) ho
  have HM : Hid (SP.meetS zs t th i j = if zs.getD j 0 ≤ zs.getD i 0 then SP.give zs t th i j else SP.give zs t th j i) := rfl
  obtain ⟨c0, c1, c2⟩ := b0.cells
  obtain ⟨d0, d1⟩ := b1.cells
  have q1 : decide ((i : Int) < 0) = false := decide_eq_false (by omega)
  have q2 : decide ((n : Int) ≤ (i : Int)) = false := decide_eq_false (by omega)
  have q3 : decide ((j : Int) < 0) = false := decide_eq_false (by omega)
  have q4 : decide ((n : Int) ≤ (j : Int)) = false := decide_eq_false (by omega)
  have q5 : ((i : Int) == (j : Int)) = false := by simp; omega
  have HB : Hid (Below w.heap.size w X ∧ SP.B3 X w.heap.size (.slice (some ⟨b5, off5, none⟩) n c) (.int .i64 t) (.bool th) 28 ∧ SP.B2 X (w.heap.size + 1) (.int .i64 i) (.int .i64 j) 39 ∧ SP.B3 X (w.heap.size + 1 + 1) (.slice none 0 0) (.int .i64 0) (.bool false) 28) := ⟨BX, b0, b1, b2⟩
  have Hbd : Hid _ := hb
  clear hz hzX BX b0 b1 b2 hb hlt5
  generalize SP.meetS zs t th i j = M at *
  subst eX
  go_enter Try.func20, Try.ntmps20
  go_wp2_with (at_builtin; refine wpList_append_own _ rfl _ _ 26 rfl (w.heap.size + 1 + 1 + 1) 3 i0 (.int .i64 0) 1 8 Try.underlying26 hi0 hz0 hz1 hz2 rfl (by decide) _ _ _ rfl OWN0.out ⟨b5, off5, none⟩ n c (M4.iv zs) rfl HL8.out HS.out H1.out ?c3 ?c4 ?c5 ?_)
  case c3 => unfold maxLen; omega
  case c4 => omega
  case c5 => simp
  intro v1 w1 hown1 hgrow1 _
  generalize eX : (((w.alloc (.cells #[.slice (some ⟨b5, off5, none⟩) n c, .int .i64 t, .bool th] 28)).alloc (.cells #[.int .i64 i, .int .i64 j] 39)).alloc (.cells #[.slice none 0 0, .int .i64 0, .bool false] 28)) = X at *
  have HB1 : Below X.heap.size X w1 := HN.out.grown hgrow1 (by simp [sX]) (fun j hj => by simp [Value.ownBlock] at hj; omega)
  obtain ⟨g, cg, rfl⟩ : ∃ g cg, v1 = .slice (some ⟨g, 0, none⟩) n cg := by
    rcases hown1.2 with ⟨_, h⟩ | ⟨g, cg, cur, h, _⟩
    · omega
    · exact ⟨g, cg, by simpa using h⟩
  have ho1 : w1.ownsRow X.heap.size 3 1 (.slice (some ⟨g, 0, none⟩) n cg) n (M4.iv zs) := by rw [sX]; simpa using hown1
  have hg1 : X.heap.size ≤ g := (ho1.lt g rfl).1
  obtain ⟨BX, b0, b1, b2⟩ := HB.out
  replace b0 := b0.below HB1 b0.lt
  replace b1 := b1.below HB1 b1.lt
  replace b2 := b2.below HB1 b2.lt
  have B1 := BX.trans (HB1.mono BX.size)
  clear hown1 hgrow1 HN HB OWN0 HS H1 HL8 HB1 BX c0 c1 c2 d0 d1
  have on := (MC.Only.refl w.heap.size w1).setCell 0 (.slice (some ⟨g, 0, none⟩) n cg)
  have f0 := b0.free 0
  obtain ⟨c0, c1, c2⟩ := b0.cells
  have s0 := b0.set0 (.slice (some ⟨g, 0, none⟩) n cg)
  have s1 := b1.only on (by omega)
  have s2 := b2.only on (by omega)
  have so : (w1.setCell ⟨w.heap.size, 0, none⟩ (.slice (some ⟨g, 0, none⟩) n cg)).ownsRow X.heap.size 3 1 (.slice (some ⟨g, 0, none⟩) n cg) n (M4.iv zs) := MC.own_only ho1 on (by omega)
  have B2 := B1.setCell (p := ⟨w.heap.size, 0, none⟩) (Nat.le_refl _) (.slice (some ⟨g, 0, none⟩) n cg)
  have ca : (w1.setCell ⟨w.heap.size, 0, none⟩ (.slice (some ⟨g, 0, none⟩) n cg)).cell? ⟨g, i, none⟩ = some (.int .i64 (zs.getD i 0)) := by
    have := so.cellAt i (by omega)
    rw [M4.iv_get zs i (zs.getD i 0) (by rw [List.getD_eq_getElem?_getD, List.getElem?_eq_getElem (by omega)]; rfl)] at this
    exact this
  have cb : (w1.setCell ⟨w.heap.size, 0, none⟩ (.slice (some ⟨g, 0, none⟩) n cg)).cell? ⟨g, j, none⟩ = some (.int .i64 (zs.getD j 0)) := by
    have := so.cellAt j (by omega)
    rw [M4.iv_get zs j (zs.getD j 0) (by rw [List.getD_eq_getElem?_getD, List.getElem?_eq_getElem (by omega)]; rfl)] at this
    exact this
  obtain ⟨zi, hzi⟩ : ∃ z, zs.getD i 0 = z := ⟨_, rfl⟩
  obtain ⟨zj, hzj⟩ : ∃ z, zs.getD j 0 = z := ⟨_, rfl⟩
  rw [hzi] at ca HM
  rw [hzj] at cb HM
  clear hzi hzj
  obtain ⟨k0, k1, k2⟩ := s0.cells
  obtain ⟨d0, d1⟩ := s1.cells
  have HH : Hid (SP.B3 _ (w.heap.size + 1 + 1) (.slice none 0 0) (.int .i64 0) (.bool false) 28 ∧ World.ownsRow _ X.heap.size 3 1 (.slice (some ⟨g, 0, none⟩) n cg) n (M4.iv zs) ∧ Below w.heap.size w _) := ⟨s2, so, B2⟩
  clear on b0 b1 b2 s0 s1 s2 so B1 B2 ho1
  clear q1 q2 q3 q4 q5
  go_wp2_with fail
  clear c0 c1 c2 f0
  have W2s : (w1.setCell ⟨w.heap.size, 0, none⟩ (.slice (some ⟨g, 0, none⟩) n cg)).heap.size = w1.heap.size := by simp
  have W2h : Hid (g < (w1.setCell ⟨w.heap.size, 0, none⟩ (.slice (some ⟨g, 0, none⟩) n cg)).heap.size) := (HH.out.2.1.lt g rfl).2
  generalize w1.setCell ⟨w.heap.size, 0, none⟩ (.slice (some ⟨g, 0, none⟩) n cg) = W2 at *
  have hw0 : w.heap.size < W2.heap.size := by have := HH.out.1.lt; omega
  have hw1 : w.heap.size + 1 < W2.heap.size := by have := HH.out.1.lt; omega
  clear W2s
  by_cases hle : zj ≤ zi
  · rw [if_pos hle] at HM
    have qd : decide (zj ≤ zi) = true := decide_eq_true hle
    have GV1 : Hid (∀ (W : World), W.ownsRow X.heap.size 3 1 (.slice (some ⟨g, 0, none⟩) n cg) n (M4.iv zs) → Calls Try.prog 33 #[.agg #[.slice (some ⟨g, 0, none⟩) n cg, .int .i64 t, .bool th], .int .i64 i, .int .i64 j] W fun e w' => e = .returned (.agg #[.slice (some ⟨g, 0, none⟩) n cg, .int .i64 t, .bool M.2]) ∧ w'.ownsRow X.heap.size 3 1 (.slice (some ⟨g, 0, none⟩) n cg) n (M4.iv M.1) ∧ SP.T2 g g W w') := fun W ho => by rw [HM.out]; exact GV.out g cg i j W (by omega) (by omega) (by omega) ho
    clear GV HM
    obtain ⟨M1, M2⟩ := M
    simp only at GV1 ⊢
    have hgs := W2h.out
    go_quiet (fail)
    obtain ⟨s2, so, B2⟩ := HH.out
    have hbD := below_drewN (Below.refl W2.heap.size W2) nq
    have HH2 : Hid (SP.B3 (W2.drewN nq) (w.heap.size + 1 + 1) (.slice none 0 0) (.int .i64 0) (.bool false) 28 ∧ World.ownsRow (W2.drewN nq) X.heap.size 3 1 (.slice (some ⟨g, 0, none⟩) n cg) n (M4.iv zs) ∧ Below w.heap.size w (W2.drewN nq)) := ⟨s2.below hbD s2.lt, M5.own_below so hbD, below_drewN B2 nq⟩
    have m0 := (hbD.cell (p := ⟨w.heap.size, 0, none⟩) hw0).trans k0
    have m1 := (hbD.cell (p := ⟨w.heap.size, 1, none⟩) hw0).trans k1
    have m2 := (hbD.cell (p := ⟨w.heap.size, 2, none⟩) hw0).trans k2
    have e0 := (hbD.cell (p := ⟨w.heap.size + 1, 0, none⟩) hw1).trans d0
    have e1 := (hbD.cell (p := ⟨w.heap.size + 1, 1, none⟩) hw1).trans d1
    clear HH s2 so B2 hbD k0 k1 k2 d0 d1 ca cb
    generalize W2.drewN nq = W3 at *
    go_wp2_with fail
    refine Calls.mono (GV1.out _ HH2.out.2.1) ?_
    rintro e w4 ⟨rfl, qo, qt⟩
    obtain ⟨s2, so, B2⟩ := HH2.out
    have r2 := s2.t2 qt (by omega) (by omega)
    have B5 := B2.trans (qt.below (by omega) (by omega) B2.size)
    obtain ⟨u0, u1, u2⟩ := r2.cells
    have f0 := r2.free 0
    have f1 := r2.free 1
    have f2 := r2.free 2
    have hl5 := r2.lt
    have HR : Hid _ := And.intro r2 (And.intro qo B5)
    clear GV1 HH2 s2 so B2 qt r2 qo B5 m0 m1 m2 e0 e1
    go_wp2
    obtain ⟨r2, ro, B5⟩ := HR.out
    have on2 := (((MC.Only.refl (w.heap.size + 1 + 1) w4).setCell 0 (.slice (some ⟨g, 0, none⟩) n cg)).setCell 1 (.int .i64 t)).setCell 2 (.bool M2)
    have z2 := ((r2.set0 (.slice (some ⟨g, 0, none⟩) n cg)).set1 (.int .i64 t)).set2 (.bool M2)
    obtain ⟨e0, e1, e2⟩ := z2.cells
    have hO := MC.own_only ro on2 (by omega)
    have hB := ((B5.setCell (p := ⟨w.heap.size + 1 + 1, 0, none⟩) (by simp; omega) (.slice (some ⟨g, 0, none⟩) n cg)).setCell (p := ⟨w.heap.size + 1 + 1, 1, none⟩) (by simp; omega) (.int .i64 t)).setCell (p := ⟨w.heap.size + 1 + 1, 2, none⟩) (by simp; omega) (.bool M2)
    exact bodyPost_ret (v := .tuple #[SP.sv (.slice (some ⟨g, 0, none⟩) n cg) t M2, .bool true]) (by simp [results, Try.results20, go_sem, e0, e1, e2, SP.sv]) rfl ⟨_, _, rfl, SP.own_le hO (by omega), hB⟩
  · rw [if_neg hle] at HM
    have qd : decide (zj ≤ zi) = false := decide_eq_false hle
    clear hle
    have GV1 : Hid (∀ (W : World), W.ownsRow X.heap.size 3 1 (.slice (some ⟨g, 0, none⟩) n cg) n (M4.iv zs) → Calls Try.prog 33 #[.agg #[.slice (some ⟨g, 0, none⟩) n cg, .int .i64 t, .bool th], .int .i64 j, .int .i64 i] W fun e w' => e = .returned (.agg #[.slice (some ⟨g, 0, none⟩) n cg, .int .i64 t, .bool M.2]) ∧ w'.ownsRow X.heap.size 3 1 (.slice (some ⟨g, 0, none⟩) n cg) n (M4.iv M.1) ∧ SP.T2 g g W w') := fun W ho => by rw [HM.out]; exact GV.out g cg j i W (by omega) (by omega) (by omega) ho
    clear GV HM
    obtain ⟨M1, M2⟩ := M
    simp only at GV1 ⊢
    have hgs := W2h.out
    go_quiet (fail)
    obtain ⟨s2, so, B2⟩ := HH.out
    have hbD := below_drewN (Below.refl W2.heap.size W2) nq
    have HH2 : Hid (SP.B3 (W2.drewN nq) (w.heap.size + 1 + 1) (.slice none 0 0) (.int .i64 0) (.bool false) 28 ∧ World.ownsRow (W2.drewN nq) X.heap.size 3 1 (.slice (some ⟨g, 0, none⟩) n cg) n (M4.iv zs) ∧ Below w.heap.size w (W2.drewN nq)) := ⟨s2.below hbD s2.lt, M5.own_below so hbD, below_drewN B2 nq⟩
    have m0 := (hbD.cell (p := ⟨w.heap.size, 0, none⟩) hw0).trans k0
    have m1 := (hbD.cell (p := ⟨w.heap.size, 1, none⟩) hw0).trans k1
    have m2 := (hbD.cell (p := ⟨w.heap.size, 2, none⟩) hw0).trans k2
    have e0 := (hbD.cell (p := ⟨w.heap.size + 1, 0, none⟩) hw1).trans d0
    have e1 := (hbD.cell (p := ⟨w.heap.size + 1, 1, none⟩) hw1).trans d1
    clear HH s2 so B2 hbD k0 k1 k2 d0 d1 ca cb
    generalize W2.drewN nq = W3 at *
    go_wp2_with (go_at_call 33; refine Calls.mono (GV1.out _ HH2.out.2.1) ?_; rintro e w4 ⟨rfl, qo, qt⟩; refine Hid.out ?_)
    unfold Hid
    
    obtain ⟨s2, so, B2⟩ := HH2.out
    have r2 := s2.t2 qt (by omega) (by omega)
    have B5 := B2.trans (qt.below (by omega) (by omega) B2.size)
    obtain ⟨u0, u1, u2⟩ := r2.cells
    have f0 := r2.free 0
    have f1 := r2.free 1
    have f2 := r2.free 2
    have hl5 := r2.lt
    have HR : Hid _ := And.intro r2 (And.intro qo B5)
    clear GV1 HH2 s2 so B2 qt r2 qo B5 m0 m1 m2 e0 e1
    go_wp2
    obtain ⟨r2, ro, B5⟩ := HR.out
    have on2 := (((MC.Only.refl (w.heap.size + 1 + 1) w4).setCell 0 (.slice (some ⟨g, 0, none⟩) n cg)).setCell 1 (.int .i64 t)).setCell 2 (.bool M2)
    have z2 := ((r2.set0 (.slice (some ⟨g, 0, none⟩) n cg)).set1 (.int .i64 t)).set2 (.bool M2)
    obtain ⟨e0, e1, e2⟩ := z2.cells
    have hO := MC.own_only ro on2 (by omega)
    have hB := ((B5.setCell (p := ⟨w.heap.size + 1 + 1, 0, none⟩) (by simp; omega) (.slice (some ⟨g, 0, none⟩) n cg)).setCell (p := ⟨w.heap.size + 1 + 1, 1, none⟩) (by simp; omega) (.int .i64 t)).setCell (p := ⟨w.heap.size + 1 + 1, 2, none⟩) (by simp; omega) (.bool M2)
    exact bodyPost_ret (v := .tuple #[SP.sv (.slice (some ⟨g, 0, none⟩) n cg) t M2, .bool true]) (by simp [results, Try.results20, go_sem, e0, e1, e2, SP.sv]) rfl ⟨_, _, rfl, SP.own_le hO (by omega), hB⟩
end Go.Proofs.Ytgajfpohlemahaa
