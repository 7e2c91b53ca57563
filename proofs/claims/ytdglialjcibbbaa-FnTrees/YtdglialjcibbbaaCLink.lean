/- Two parts become one: link. -/
import Derived.Test.YtdglialjcibbbaaRows
import Derived.Test.YtdglialjcibbbaaCInOrder
import Derived.WalkKit
import Derived.WalkSpells
import Derived.WalkLawsBesides
import Derived.Outline
import Derived.Deep.QuietTactic
import Derived.BigQuiet
namespace Go.Proofs.Ytdglialjcibbbaa
open Go.RowKit
namespace EG
theorem mrg_id {f : Nat → Nat} {x y : Nat} (h : f x = f y) : mrg f x y = f := by
  funext n; unfold mrg; split <;> omega
theorem eight_get {j : Nat} (h : j < 8) : (M4.iv eight)[j]? = some (.int .i64 (j : Int)) := by
  have : j = 0 ∨ j = 1 ∨ j = 2 ∨ j = 3 ∨ j = 4 ∨ j = 5 ∨ j = 6 ∨ j = 7 := by omega
  rcases this with rfl | rfl | rfl | rfl | rfl | rfl | rfl | rfl <;> rfl
theorem imin (p q : Nat) : (if q < p then (q : Int) else (p : Int)) = ((min p q : Nat) : Int) := by split <;> omega
theorem imax (p q : Nat) : (if p < q then (q : Int) else (p : Int)) = ((max p q : Nat) : Int) := by split <;> omega
theorem ne_is {p q : Nat} : (!(p == q)) = (!(min p q == max p q)) := by
  by_cases h : p = q
  · subst h; simp
  · have : min p q ≠ max p q := by omega
    rw [beq_eq_false_iff_ne.2 h, beq_eq_false_iff_ne.2 this]
end EG
theorem PMn.congr {w : World} {b n : Nat} {f g : Nat → Nat} (h : PMn w b n f) (hfg : ∀ i, i < n → f i = g i) : PMn w b n g := by
  obtain ⟨D, h1, h2, h3, h4⟩ := h.is
  exact ⟨D, h1, h2, fun i hi z => by rw [← hfg i hi]; exact h3 i hi z, h4⟩
set_option linter.unusedSimpArgs false in
set_option maxHeartbeats 1600000 in
set_option maxRecDepth 100000 in
theorem link_any (SRT : SortsI) (b : Nat) (f : Nat → Nat) (x y : Nat) (c : Int) (w : World) (hP : PMn w b 8 f) (hx : x < 8) (hy : y < 8) (hf : ∀ i, i < 8 → f i < 8) :
    Calls Try.prog 33 #[.map (some b), .agg #[.int .i64 (x : Int), .int .i64 (y : Int), .int .i64 c]] w fun e w' => e = .returned (.bool (!(f x == f y))) ∧ PMn w' b 8 (EG.mrg f x y) ∧ w.grownBy w' (some b) := by
  have hPA : PMn (w.alloc (.cells #[.int .i64 (x : Int), .int .i64 (y : Int), .int .i64 c] 33)) b 8 f := hP.below ((Below.refl _ _).alloc (Nat.le_refl _) _)
  have L0 : ∀ m, (Instr.lookup 52 (.map (some b)) (.int .i64 (x : Int)) false).run Try.prog ((w.alloc (.cells #[.int .i64 (x : Int), .int .i64 (y : Int), .int .i64 c] 33)).drewN m) = .ok (.int .i64 (f x : Int)) ((w.alloc (.cells #[.int .i64 (x : Int), .int .i64 (y : Int), .int .i64 c] 33)).drewN m) := fun m => (hPA.drewN m).look hx (by omega)
  have L1 : ∀ m, (Instr.lookup 52 (.map (some b)) (.int .i64 (y : Int)) false).run Try.prog ((w.alloc (.cells #[.int .i64 (x : Int), .int .i64 (y : Int), .int .i64 c] 33)).drewN m) = .ok (.int .i64 (f y : Int)) ((w.alloc (.cells #[.int .i64 (x : Int), .int .i64 (y : Int), .int .i64 c] 33)).drewN m) := fun m => (hPA.drewN m).look hy (by omega)
  have HPA : Hid _ := hPA
  go_enter Try.func33, Try.ntmps33
  go_wp2_with fail
  go_quiet (fail)
  rw [EG.imin, EG.imax]
  have hPQ : PMn _ b 8 f := hPA.drewN nq
  have hB0 : Below w.heap.size w _ := below_drewN ((Below.refl _ w).alloc (Nat.le_refl _) (.cells #[.int .i64 (x : Int), .int .i64 (y : Int), .int .i64 c] 33)) nq
  clear L0 L1 hPA HPA
  generalize ((w.alloc (.cells #[.int .i64 (x : Int), .int .i64 (y : Int), .int .i64 c] 33)).drewN nq) = w1 at *
  obtain ⟨lo, hlo⟩ : ∃ lo, min (f x) (f y) = lo := ⟨_, rfl⟩
  obtain ⟨hi, hhi⟩ : ∃ hi, max (f x) (f y) = hi := ⟨_, rfl⟩
  have hlo8 : lo < 8 := by have := hf x hx; have := hf y hy; omega
  have hG : Hid ((!(f x == f y)) = (!(lo == hi))) := by rw [← hlo, ← hhi]; exact EG.ne_is
  rw [hlo, hhi]
  have hbl := hP.lt
  by_cases hlh : lo = hi
  · have hR : Hid ((!(f x == f y)) = false) := by show _ = _; rw [hG.out, hlh]; simp
    have hM : Hid (EG.mrg f x y = f) := EG.mrg_id (by omega)
    subst hlh
    clear hlo hhi hG
    go_wp2
    go_ret
    refine ⟨by rw [hR.out]; rfl, by rw [hM.out]; exact hPQ, ⟨hB0.os, hB0.tape, hB0.output, hB0.size, fun k hk _ => hB0.block k hk⟩⟩
  · have hR : Hid ((!(f x == f y)) = true) := by show _ = _; rw [hG.out]; simp [hlh]
    have HLO : Hid _ := hlo
    have HHI : Hid _ := hhi
    clear hlo hhi hG
    have IO : Hid _ := inOrder_any SRT b f w1 hPQ
    have HPQ : Hid _ := hPQ
    have HB0 : Hid _ := hB0
    have HS1 : Hid (b < w1.heap.size) := Nat.lt_of_lt_of_le hbl hB0.size
    clear hPQ hB0
    go_wp2_with fail
    refine Calls.mono IO.out ?_
    rintro e w2 ⟨g, c1, rfl, ho, hb2⟩
    have hP2 := HPQ.out.below hb2
    have hB2 := HB0.out.trans (hb2.mono HB0.out.size)
    have hg0 : w1.heap.size ≤ g := (ho.lt g rfl).1
    clear IO HPQ HB0 hb2
    have hge : g ≠ b := by have := HS1.out; omega
    have hcell : ∀ j, j < 8 → w2.cell? ⟨g, j, none⟩ = some (.int .i64 (j : Int)) := fun j hj => by
      have := ho.cellAt j (by omega)
      rw [this, EG.eight_get hj]
    have hgs : g < w2.heap.size := (ho.lt g rfl).2
    have HC : Hid _ := hcell
    have HP2 : Hid (PMn w2 b 8 (EG.tun f x y 0)) := by show PMn w2 b 8 _; rw [EG.tun_zero]; exact hP2
    have HB2 : Hid _ := hB2
    clear hcell ho hP2 hB2 HS1 hg0
    go_wp2
    go_loopw [33] (fun iv wr => ∃ j : Nat, iv = .int .i64 j ∧ j ≤ 8 ∧ Hid (PMn wr b 8 (EG.tun f x y j)) ∧ Hid (w2.grownBy wr (some b))) (fun iv _ => (8 - intOf iv).toNat)
    case atStart => exact ⟨0, rfl, by omega, HP2, show Hid _ from ⟨rfl, rfl, rfl, Nat.le_refl _, fun _ _ _ => rfl⟩⟩
    case round =>
      obtain ⟨j, rfl, hj, hT, hG⟩ := hrel
      by_cases hlj : j < 8
      · have hc : wr.cell? ⟨g, j, none⟩ = some (.int .i64 (j : Int)) := by
          have := hG.out.block g hgs (by simp [hge])
          rw [World.cell?_of_block (w := w2) this]; exact HC.out j hlj
        have hL := hT.out.look hlj (Nat.le_refl 8)
        have htj : EG.tun f x y j j = f j := by simp [EG.tun]
        rw [htj] at hL
        by_cases hfj : f j = hi
        · obtain ⟨w4, hrun, hP4, hg4⟩ := hT.out.put (i := j) (v := lo) (by omega) hlj (Nat.le_refl 8) (by omega)
          have e1 : (fun n => if n = j then lo else EG.tun f x y j n) = EG.tun f x y (j + 1) := by
            have := EG.tun_put f x y j (by rw [hfj]; exact HHI.out.symm)
            rw [HLO.out] at this; exact this
          rw [e1, show max 8 (j + 1) = 8 by omega] at hP4
          have HP4 : Hid _ := hP4
          have HG4 : Hid (w2.grownBy w4 (some b)) := hG.out.andThen hg4 (fun k hk => .inr hk)
          have hq : ((f j : Int) == (hi : Int)) = true := by rw [hfj]; simp
          clear hP4 hg4 e1 htj hT hG HC hfj
          generalize f j = v at *
          go_wp2
          go_roundw
          case rel => exact ⟨j + 1, by go_num, by omega, HP4, HG4⟩
          case measure => simp [intOf]; omega
        · have e1 := EG.tun_keep f x y j (by rw [HHI.out]; exact hfj)
          have HP4 : Hid (PMn wr b 8 (EG.tun f x y (j + 1))) := by show PMn wr b 8 _; rw [← e1]; exact hT.out
          have hq : ((f j : Int) == (hi : Int)) = false := by rw [beq_eq_false_iff_ne]; omega
          clear e1 htj hT HC hfj
          generalize f j = v at *
          go_wp2
          go_roundw
          case rel => exact ⟨j + 1, by go_num, by omega, HP4, hG⟩
          case measure => simp [intOf]; omega
      · obtain rfl : j = 8 := by omega
        clear HC
        go_wp2
        go_ret
        refine ⟨by rw [hR.out]; rfl, hT.out.congr (fun i hi => by simp [EG.tun, hi]), ⟨hG.out.os.trans HB2.out.os, hG.out.tape.trans HB2.out.tape, hG.out.output.trans HB2.out.output, Nat.le_trans HB2.out.size hG.out.size, fun k hk hne => (hG.out.block k (Nat.lt_of_lt_of_le hk HB2.out.size) hne).trans (HB2.out.block k hk)⟩⟩
end Go.Proofs.Ytdglialjcibbbaa
