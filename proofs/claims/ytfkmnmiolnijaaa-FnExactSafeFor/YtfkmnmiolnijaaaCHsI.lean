/- Keepers of the program: hasSeen, holds, checkHolds. -/
import Derived.Test.YtfkmnmiolnijaaaRows
import Derived.Test.YtfkmnmiolnijaaaMCg
import Derived.Test.YtfkmnmiolnijaaaCHasJ
import Derived.Test.YtfkmnmiolnijaaaCFault
import Derived.Test.YtfkmnmiolnijaaaMBxN
import Derived.Deep.QuietTactic
import Derived.BigQuiet
import Derived.WalkKit
import Derived.WalkSmall
import Derived.WalkSpells
import Derived.WalkLawsBesides
import Derived.Outline
namespace Go.Proofs.Ytfkmnmiolnijaaa
open Go.RowKit
namespace CG
def noH (hs : List I2) (h : I2) (k : Nat) : Prop := ∀ j, j < k → MI2.at_ hs j ≠ h
theorem hasH_yes {hs : List I2} {h : I2} {k : Nat} (hk : k < hs.length) (e : MI2.at_ hs k = h) : hasH hs h = true := by
  rw [hasH, decide_eq_true_eq, ← e, MI2.at_eq _ _ hk]; exact List.getElem_mem hk
theorem hasH_no {hs : List I2} {h : I2} (e : noH hs h hs.length) : hasH hs h = false := by
  rw [hasH, decide_eq_false_iff_not]; intro hx
  obtain ⟨i, hi, rfl⟩ := List.mem_iff_getElem.1 hx
  exact e i hi (MI2.at_eq _ _ hi)
theorem noH_succ {hs : List I2} {h : I2} {k : Nat} (e : noH hs h k) (h1 : MI2.at_ hs k ≠ h) : noH hs h (k + 1) := by
  intro j hj
  by_cases c : j = k
  · subst c; exact h1
  · exact e j (by omega)
theorem all_no {hs : List I2} {f : I2 → Bool} {k : Nat} (hk : k < hs.length) (h : f (MI2.at_ hs k) = false) : hs.all f = false := by
  rw [Bool.eq_false_iff]; intro e; rw [all_at.1 e k hk] at h; cases h
theorem all_succ {hs : List I2} {f : I2 → Bool} {k : Nat} (h : ∀ j, j < k → f (MI2.at_ hs j) = true) (h1 : f (MI2.at_ hs k) = true) : ∀ j, j < k + 1 → f (MI2.at_ hs j) = true := fun j hj => by
  by_cases c : j = k
  · subst c; exact h1
  · exact h j (by omega)
end CG
set_option maxHeartbeats 1600000 in
set_option maxRecDepth 100000 in
theorem indexH_any (a : Option Addr) (cap : Nat) (hs : List I2) (h : I2) (w : World) (ho : hs.length ≤ 1048576) (hos : MI2.RowAt w a hs) :
    Calls Try.prog 74 #[.slice a hs.length cap, h.v] w fun e w' => ∃ i : Int, e = .returned (.int .i64 i) ∧ decide (0 ≤ i) = CG.hasH hs h ∧ Below w.heap.size w w' := by
  obtain ⟨x0, x1⟩ := h
  have HI : Hid _ := hos
  clear hos
  have hB0 : Below w.heap.size w (w.alloc (.cells #[.int .i64 x0, .int .i64 x1] 61)) := (Below.refl _ w).alloc (Nat.le_refl _) _
  have b0 : BxN (w.alloc (.cells #[.int .i64 x0, .int .i64 x1] 61)) w.heap.size [.int .i64 x0, .int .i64 x1] 61 := BxN.new w _ _ rfl
  have l0 := b0.lt
  go_enter Try.func74, Try.ntmps74
  go_wp2
  generalize w.alloc (.cells #[.int .i64 x0, .int .i64 x1] 61) = W0 at *
  go_loopw [8] (fun iv wr => ∃ k : Nat, iv = .int .i64 k ∧ k ≤ hs.length ∧ Hid (CG.noH hs ⟨x0, x1⟩ k) ∧ Below W0.heap.size W0 wr) (fun iv _ => (hs.length - intOf iv).toNat)
  case atStart => exact ⟨0, rfl, by omega, show Hid _ from fun j hj => by omega, Below.refl _ _⟩
  case round =>
    obtain ⟨k, rfl, hk, hT, hb⟩ := hrel
    by_cases hlk : k < hs.length
    · obtain ⟨b1, off1, rfl, hlt1, c0, c1⟩ := ((HI.out.below hB0).below hb).at hlk
      have HY : Hid _ := fun e => CG.hasH_yes (h := ⟨x0, x1⟩) hlk e
      have HN : Hid _ := fun e => CG.noH_succ hT.out (k := k) e
      have b2 := b0.below hb l0
      have d0 := b2.cell 0 rfl
      have d1 := b2.cell 1 rfl
      clear HI hT b0 b2
      generalize MI2.at_ hs k = y at *
      obtain ⟨y0, y1⟩ := y
      by_cases hxy : (⟨y0, y1⟩ : I2) = ⟨x0, x1⟩
      · have hF : Hid _ := HY.out hxy
        cases hxy
        clear HY HN
        go_wp2
        go_quiet (fail)
        all_goals (
          go_wp2
          go_ret
          exact ⟨k, rfl, by rw [hF.out]; simp, hB0.trans (below_drewN (hb.mono hB0.size) _)⟩)
      · have hT : Hid _ := HN.out hxy
        have hq : (x0 == y0) = false ∨ (x0 = y0 ∧ (x1 == y1) = false) := by
          by_cases e : x0 = y0
          · refine .inr ⟨e, ?_⟩
            rw [beq_eq_false_iff_ne]; intro e2; exact hxy (by rw [e, e2])
          · exact .inl (by rw [beq_eq_false_iff_ne]; exact e)
        clear HY HN hxy
        rcases hq with hq | ⟨rfl, hq⟩
        all_goals (
          go_wp2
          go_quiet (fail)
          all_goals (
            go_wp2
            go_roundw
            case rel => exact ⟨k + 1, by go_num, by omega, hT, below_drewN hb _⟩
            case measure => simp [intOf]; omega))
    · obtain rfl : k = hs.length := by omega
      have hF : Hid _ := CG.hasH_no hT.out
      clear HI hT
      go_wp2
      go_ret
      exact ⟨-1, rfl, by rw [hF.out]; rfl, hB0.trans (hb.mono hB0.size)⟩
set_option maxHeartbeats 1600000 in
set_option maxRecDepth 100000 in
theorem containsH_any (a : Option Addr) (cap : Nat) (hs : List I2) (h : I2) (w : World) (ho : hs.length ≤ 1048576) (hos : MI2.RowAt w a hs) :
    Calls Try.prog 66 #[.slice a hs.length cap, h.v] w fun e w' => e = .returned (.bool (CG.hasH hs h)) ∧ Below w.heap.size w w' := by
  obtain ⟨x0, x1⟩ := h
  have hB0 : Below w.heap.size w (w.alloc (.cells #[.int .i64 x0, .int .i64 x1] 61)) := (Below.refl _ w).alloc (Nat.le_refl _) _
  have IX : Hid (∀ W, Below w.heap.size w W → Calls Try.prog 74 #[.slice a hs.length cap, .agg #[.int .i64 x0, .int .i64 x1]] W fun e w' => ∃ i : Int, e = .returned (.int .i64 i) ∧ decide (0 ≤ i) = CG.hasH hs ⟨x0, x1⟩ ∧ Below W.heap.size W w') := fun W hW => indexH_any a cap hs ⟨x0, x1⟩ W ho (hos.below hW)
  obtain ⟨B, hB⟩ : ∃ B, CG.hasH hs ⟨x0, x1⟩ = B := ⟨_, rfl⟩
  rw [hB] at IX ⊢
  clear hos hB
  go_enter Try.func66, Try.ntmps66
  go_wp2_with fail
  generalize w.alloc (.cells #[.int .i64 x0, .int .i64 x1] 61) = W0 at *
  refine (IX.out W0 hB0).mono ?_
  rintro e w1 ⟨i, rfl, hi, hb⟩
  clear IX
  go_wp2
  go_ret
  exact ⟨retB7 (by first | rfl | exact hi), hB0.trans (hb.mono hB0.size)⟩
set_option maxHeartbeats 1600000 in
set_option maxRecDepth 100000 in
theorem hasSeen_any (p : Kp) (id : Int) (w : World) (hp : KP.In w 0 p) (hl : p.ss.length ≤ 1048576) :
    Calls Try.prog 32 #[p.v, .int .i64 id] w fun e w' => e = .returned (.bool (EG.hasB p.ss id)) ∧ Below w.heap.size w w' := by
  obtain ⟨ss, hs, ts, sa, ha, ta, sc, hc, tc⟩ := p
  have HS : Hid (∀ W, Below w.heap.size w W → Calls Try.prog 51 #[.slice sa ss.length sc, .int .i64 id] W fun e w' => e = .returned (.bool (EG.hasB ss id)) ∧ W = w') := fun W hW => containsI_any sa sc ss id W hl (M4.IntsAt.below hp.s.at_ hW)
  obtain ⟨B, hB⟩ : ∃ B, EG.hasB ss id = B := ⟨_, rfl⟩
  simp only at *
  rw [hB] at HS ⊢
  clear hp hB
  have hB0 : ∀ o, Below w.heap.size w (w.alloc o) := fun o => (Below.refl _ w).alloc (Nat.le_refl _) o
  go_enter Try.func32, Try.ntmps32
  go_wp2_with fail
  refine (HS.out _ (hB0 _)).mono ?_
  rintro e w1 ⟨rfl, rfl⟩
  clear HS
  go_wp2
  go_ret
  exact ⟨rfl, hB0 _⟩
set_option maxHeartbeats 1600000 in
set_option maxRecDepth 100000 in
theorem holds_any (p : Kp) (id child : Int) (w : World) (hp : KP.In w 0 p) (hl : p.hs.length ≤ 1048576) :
    Calls Try.prog 52 #[p.v, .int .i64 id, .int .i64 child] w fun e w' => e = .returned (.bool (CG.hasH p.hs ⟨id, child⟩)) ∧ Below w.heap.size w w' := by
  obtain ⟨ss, hs, ts, sa, ha, ta, sc, hc, tc⟩ := p
  have HS : Hid (∀ W, Below w.heap.size w W → Calls Try.prog 66 #[.slice ha hs.length hc, .agg #[.int .i64 id, .int .i64 child]] W fun e w' => e = .returned (.bool (CG.hasH hs ⟨id, child⟩)) ∧ Below W.heap.size W w') := fun W hW => containsH_any ha hc hs ⟨id, child⟩ W hl (hp.h.at_.below hW)
  obtain ⟨B, hB⟩ : ∃ B, CG.hasH hs ⟨id, child⟩ = B := ⟨_, rfl⟩
  simp only at *
  rw [hB] at HS ⊢
  clear hp hB
  have hB0 : ∀ o, Below w.heap.size w (w.alloc o) := fun o => (Below.refl _ w).alloc (Nat.le_refl _) o
  go_enter Try.func52, Try.ntmps52
  go_wp2_with fail
  refine (HS.out _ (hB0 _)).mono ?_
  rintro e w1 ⟨rfl, hb⟩
  clear HS
  go_wp2
  go_ret
  exact ⟨rfl, (hB0 _).trans (hb.mono (hB0 _).size)⟩
set_option maxHeartbeats 3200000 in
set_option maxRecDepth 100000 in
theorem checkHolds_any (p : Kp) (a : Option Addr) (ca : Nat) (kd : List Int) (w : World) (hp : KP.In w 0 p) (hl : p.ss.length ≤ 1048576 ∧ p.hs.length ≤ 1048576) (hk : kd.length ≤ 1048576) (hka : M4.IntsAt w a kd) :
    Calls Try.prog 44 #[p.v, .slice a kd.length ca] w fun e w' => e = Try.out (CG.holdsI kd p.said) ∧ Below w.heap.size w w' := by
  obtain ⟨ss, hs, ts, sa, ha, ta, sc, hc, tc⟩ := p
  obtain ⟨hl1, hl2⟩ := hl
  simp only at hl1 hl2
  have HS : Hid (∀ (W : World) (id : Int), Below w.heap.size w W → Calls Try.prog 32 #[.agg #[.slice sa ss.length sc, .slice ha hs.length hc, .slice ta ts.length tc], .int .i64 id] W fun e w' => e = .returned (.bool (EG.hasB ss id)) ∧ Below W.heap.size W w') := fun W id hW => hasSeen_any ⟨ss, hs, ts, sa, ha, ta, sc, hc, tc⟩ id W (hp.below hW) hl1
  have HC : Hid (∀ (W : World) (x : Int), Below w.heap.size w W → Calls Try.prog 51 #[.slice a kd.length ca, .int .i64 x] W fun e w' => e = .returned (.bool (EG.hasB kd x)) ∧ W = w') := fun W x hW => containsI_any a ca kd x W hk (M4.IntsAt.below hka hW)
  have HI : Hid (∀ W : World, Below w.heap.size w W → MI2.RowAt W ha hs) := fun W hW => hp.h.at_.below hW
  have HT : Hid (∀ k, k < hs.length → (EG.hasB ss (MI2.at_ hs k).a0 && EG.hasB kd (MI2.at_ hs k).a1) = false → CG.holdsI kd (Kp.said ⟨ss, hs, ts, sa, ha, ta, sc, hc, tc⟩) = false) := fun k hk e => CG.all_no hk (f := fun h => EG.hasB ss h.a0 && EG.hasB kd h.a1) e
  have HY : Hid ((∀ j, j < hs.length → (EG.hasB ss (MI2.at_ hs j).a0 && EG.hasB kd (MI2.at_ hs j).a1) = true) → CG.holdsI kd (Kp.said ⟨ss, hs, ts, sa, ha, ta, sc, hc, tc⟩) = true) := fun e => CG.all_at.2 e
  obtain ⟨B, hB⟩ : ∃ B, CG.holdsI kd (Kp.said ⟨ss, hs, ts, sa, ha, ta, sc, hc, tc⟩) = B := ⟨_, rfl⟩
  rw [hB] at HT HY ⊢
  clear hB hp hka hl1
  have hB0 : Below w.heap.size w (w.alloc (.cells #[.slice sa ss.length sc, .slice ha hs.length hc, .slice ta ts.length tc] 50)) := (Below.refl _ w).alloc (Nat.le_refl _) _
  have b0 : BxN (w.alloc (.cells #[.slice sa ss.length sc, .slice ha hs.length hc, .slice ta ts.length tc] 50)) w.heap.size [.slice sa ss.length sc, .slice ha hs.length hc, .slice ta ts.length tc] 50 := BxN.new w _ _ rfl
  have l0 := b0.lt
  go_enter Try.func44, Try.ntmps44
  go_wp2
  generalize w.alloc (.cells #[.slice sa ss.length sc, .slice ha hs.length hc, .slice ta ts.length tc] 50) = W0 at *
  go_loopw [9] (fun iv wr => ∃ k : Nat, iv = .int .i64 k ∧ k ≤ hs.length ∧ Hid (∀ j, j < k → (EG.hasB ss (MI2.at_ hs j).a0 && EG.hasB kd (MI2.at_ hs j).a1) = true) ∧ Below W0.heap.size W0 wr) (fun iv _ => (hs.length - intOf iv).toNat)
  case atStart => exact ⟨0, rfl, by omega, show Hid _ from fun j hj => by omega, Below.refl _ _⟩
  case round =>
    obtain ⟨k, rfl, hk, hT, hb⟩ := hrel
    by_cases hlk : k < hs.length
    · have hB1 := hB0.trans (hb.mono hB0.size)
      obtain ⟨b1, off1, rfl, hlt1, c0, c1⟩ := (HI.out wr hB1).at hlk
      have HN : Hid _ := HT.out k hlk
      have HU : Hid _ := fun e => CG.all_succ (f := fun h => EG.hasB ss h.a0 && EG.hasB kd h.a1) hT.out (k := k) e
      have b2 := b0.below hb l0
      have d0 := b2.cell 0 rfl
      have d1 := b2.cell 1 rfl
      have d2 := b2.cell 2 rfl
      clear HI hT b0 HT HY
      generalize MI2.at_ hs k = y at *
      obtain ⟨y0, y1⟩ := y
      have HS1 : Hid _ := fun W hW => HS.out W y0 hW
      have HC1 : Hid _ := fun W hW => HC.out W y1 hW
      simp only at HN HU
      obtain ⟨b1', hb1'⟩ : ∃ b, EG.hasB ss y0 = b := ⟨_, rfl⟩
      obtain ⟨b2', hb2'⟩ : ∃ b, EG.hasB kd y1 = b := ⟨_, rfl⟩
      rw [hb1'] at HS1 HN HU
      rw [hb2'] at HC1 HN HU
      clear HS HC hb1' hb2'
      have hB2 : Below w.heap.size w (wr.alloc (.cells #[.int .i64 y0, .int .i64 y1] 61)) := hB1.alloc hB1.size _
      have hb2 : Below W0.heap.size W0 (wr.alloc (.cells #[.int .i64 y0, .int .i64 y1] 61)) := hb.alloc hb.size _
      have b3 := b2.alloc (.cells #[.int .i64 y0, .int .i64 y1] 61)
      have x3 : BxN (wr.alloc (.cells #[.int .i64 y0, .int .i64 y1] 61)) wr.heap.size [.int .i64 y0, .int .i64 y1] 61 := BxN.new wr _ _ rfl
      have e0 := b3.cell 0 rfl
      have e1 := b3.cell 1 rfl
      have e2 := b3.cell 2 rfl
      clear b2 b3 d0 d1 d2
      go_wp2_with fail
      refine (HS1.out _ hB2).mono ?_
      rintro e w1 ⟨rfl, hc1⟩
      have x4 := x3.below hc1 x3.lt
      have g1 := x4.cell 1 rfl
      have hB3 := hB2.trans (hc1.mono hB2.size)
      have hb3 := hb2.trans (hc1.mono hb2.size)
      clear HS1 x3 x4 e0 e1 e2 hB2 hb2 hc1
      cases b1'
      · have hF : Hid _ := HN.out rfl
        clear HC1 HN HU g1
        go_wp2_with fail
        refine (need_no w1).mono ?_
        rintro e w2 ⟨rfl, rfl⟩
        go_wp2
        exact ⟨rfl, by rw [hF.out]; rfl, hB3⟩
      · go_wp2_with fail
        refine (HC1.out w1 hB3).mono ?_
        rintro e w2 ⟨rfl, rfl⟩
        clear HC1 g1
        cases b2'
        · have hF : Hid _ := HN.out rfl
          clear HN HU
          go_wp2_with fail
          refine (need_no w1).mono ?_
          rintro e w2 ⟨rfl, rfl⟩
          go_wp2
          exact ⟨rfl, by rw [hF.out]; rfl, hB3⟩
        · have hF : Hid _ := HU.out rfl
          clear HN HU
          go_wp2_with fail
          refine (need_yes w1).mono ?_
          rintro e w2 ⟨rfl, rfl⟩
          go_wp2
          go_roundw
          case rel => exact ⟨k + 1, by go_num, by omega, hF, hb3⟩
          case measure => simp [intOf]; omega
    · obtain rfl : k = hs.length := by omega
      have hF : Hid _ := HY.out hT.out
      clear HI hT HT HY HS HC
      go_wp2
      first | go_end0 | refine bodyPost_ret (results_none rfl _ _ _) rfl ?_
      exact ⟨by rw [hF.out]; rfl, hB0.trans (hb.mono hB0.size)⟩
end Go.Proofs.Ytfkmnmiolnijaaa
