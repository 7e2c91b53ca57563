/- Whether it is a cover: isCover, IsCover of both. -/
import Derived.Test.YtjfnmhkhjaafkaaRows
import Derived.Test.YtjfnmhkhjaafkaaCPairGood
import Derived.Test.YtjfnmhkhjaafkaaCHasI
import Derived.WalkKit
import Derived.WalkSpells
import Derived.WalkLawsBesides
import Derived.Outline
namespace Go.Proofs.Ytjfnmhkhjaafkaa
open Go.RowKit
namespace PG
/-- The first j wants of one are met. -/
def metUp (x : Bool) (b ws : List Int) (j : Nat) : Prop := ∀ i, i < j → x = true ∨ EG.hasB b (ws.getD i 0) = true
def cvUp (ws : List (List Int)) (a b : List Int) (k : Nat) : Prop := ∀ i, i < k → metUp (EG.hasB a i) b (NR.rw_ ws i) (NR.rw_ ws i).length
open Classical in
noncomputable def cvB (ws : List (List Int)) (a b : List Int) : Bool := decide (cvUp ws a b ws.length)
theorem cvB_yes {ws : List (List Int)} {a b : List Int} (h : cvUp ws a b ws.length) : cvB ws a b = true := by simpa only [cvB, decide_eq_true_eq] using h
theorem cvB_no {ws : List (List Int)} {a b : List Int} {k j : Nat} (hk : k < ws.length) (hj : j < (NR.rw_ ws k).length) (h1 : EG.hasB a k = false) (h2 : EG.hasB b ((NR.rw_ ws k).getD j 0) = false) : cvB ws a b = false := by
  simp only [cvB, decide_eq_false_iff_not]
  intro e
  rcases e k hk j hj with h | h
  · rw [h1] at h; cases h
  · rw [h2] at h; cases h
theorem cvUp_succ {ws : List (List Int)} {a b : List Int} {k : Nat} (h : cvUp ws a b k) (h1 : metUp (EG.hasB a k) b (NR.rw_ ws k) (NR.rw_ ws k).length) : cvUp ws a b (k + 1) := fun j hj => by
  by_cases e : j = k
  · rw [e]; exact h1
  · exact h j (by omega)
theorem metUp_succ {x : Bool} {b ws : List Int} {j : Nat} (h : metUp x b ws j) (h1 : x = true ∨ EG.hasB b (ws.getD j 0) = true) : metUp x b ws (j + 1) := fun i hi => by
  by_cases e : i = j
  · rw [e]; exact h1
  · exact h i (by omega)
noncomputable def ocB (l r : Int) (ws : List (List Int)) (a b : List Int) : Bool := good l r ws && EG.rises l.toNat a && EG.rises r.toNat b
noncomputable def icB (l r : Int) (ws : List (List Int)) (a b : List Int) : Bool := ocB l r ws a b && cvB ws a b
theorem retBB {a b c d : Bool} (h : a = c) (k : b = d) : Ending.returned (.tuple #[.bool a, .bool b]) = .returned (.tuple #[.bool c, .bool d]) := by rw [h, k]
end PG
set_option maxHeartbeats 1600000 in
set_option maxRecDepth 100000 in
theorem implIsC_any (l r : Int) (a b c : Option Addr) (cap cb cc : Nat) (ws : List (List Int)) (ls rs : List Int) (w : World) (hz : ws.length ≤ 8) (ht : NR.tot ws ≤ 1048576) (hl1 : ls.length ≤ 1048576) (hl2 : rs.length ≤ 1048576) (hin : NR.RowsAt w a ws) (hos : M4.IntsAt w b ls) (hor : M4.IntsAt w c rs) (R : Bool) (hR : Hid (PG.cvB ws ls rs = R)) :
    Calls Try.prog 35 #[PG.pv l r (.slice a ws.length cap), .slice b ls.length cb, .slice c rs.length cc] w fun e w' => e = .returned (.bool R) ∧ Below w.heap.size w w' := by
  have hB : Below w.heap.size w (w.alloc (Obj.cells #[.int .i64 l, .int .i64 r, .slice a ws.length cap] 25)) := (Below.refl _ _).alloc (Nat.le_refl _) _
  have HI : Hid (NR.RowsAt _ a ws) := hin.below hB
  have HA : Hid _ := fun x => containsI_any b cb ls x _ hl1 (hos.below hB)
  have HC : Hid _ := fun x => containsI_any c cc rs x _ hl2 (hor.below hB)
  clear hin hos hor
  go_enter Try.func35, Try.ntmps35
  go_wp2
  generalize w.alloc (Obj.cells #[.int .i64 l, .int .i64 r, .slice a ws.length cap] 25) = W at *
  go_loopw [14] (fun iv wr => ∃ k : Nat, iv = .int .i64 k ∧ k ≤ ws.length ∧ Hid (PG.cvUp ws ls rs k) ∧ W = wr) (fun iv _ => (ws.length - intOf iv).toNat)
  case atStart => exact ⟨0, rfl, by omega, fun j hj => by omega, rfl⟩
  case round =>
    obtain ⟨k, rfl, hk, hT, rfl⟩ := hrel
    by_cases hl : k < ws.length
    · obtain ⟨b2, off2, a1, d1, rfl, hlt2, e1, _, i1⟩ := HI.out.at hl
      have hrt := NR.tot_row ws hl
      have HY : Hid _ := fun h1 => PG.cvUp_succ hT.out (k := k) h1
      have HX : Hid (∀ j, _ → _ → _ → R = false) := fun j hj h1 h2 => by rw [← hR.out]; exact PG.cvB_no (a := ls) (b := rs) hl (j := j) hj h1 h2
      have CA : Hid _ := HA.out k
      have I1 : Hid (M4.IntsAt W a1 (NR.rw_ ws k)) := i1
      clear hT i1
      generalize EG.hasB ls k = q1 at *
      generalize NR.rw_ ws k = x at *
      cases q1
      · go_wp2_with (go_at_call 50; refine Calls.mono CA.out ?_; rintro e w2 ⟨rfl, rfl⟩; clear CA)
        go_loopw [24] (fun jv wr => ∃ j : Nat, jv = .int .i64 j ∧ j ≤ x.length ∧ Hid (PG.metUp false rs x j) ∧ W = wr) (fun jv _ => (x.length - intOf jv).toNat)
        case atStart => exact ⟨0, rfl, by omega, fun j hj => by omega, rfl⟩
        case round =>
          obtain ⟨j, rfl, hj, hM, rfl⟩ := hrel
          by_cases hlj : j < x.length
          · obtain ⟨b3, off3, rfl, hlt3, hc3⟩ := M4.IntsAt.at I1.out hlj
            have CC : Hid _ := HC.out (x.getD j 0)
            have HM : Hid _ := fun h => PG.metUp_succ hM.out (j := j) h
            have HF : Hid _ := fun h => HX.out j hlj trivial h
            clear HX HY hM hR HA HC
            generalize EG.hasB rs (x.getD j 0) = q2 at *
            generalize x.getD j 0 = y at *
            cases q2
            · have HF2 : Hid _ := HF.out rfl
              clear HF HM
              go_wp2_with (go_at_call 50; refine Calls.mono CC.out ?_; rintro e w2 ⟨rfl, rfl⟩; clear CC)
              go_ret
              exact ⟨retB7 HF2.out.symm, hB⟩
            · have HM2 : Hid _ := HM.out (.inr rfl)
              clear HF HM
              go_wp2_with (go_at_call 50; refine Calls.mono CC.out ?_; rintro e w2 ⟨rfl, rfl⟩; clear CC)
              go_roundw
              case rel => exact ⟨j + 1, by go_num, by omega, HM2, trivial⟩
              case measure => simp [intOf]; omega
          · obtain rfl : j = x.length := by omega
            have HT : Hid _ := HY.out hM.out
            clear HX HY hM hR HA HC
            go_wp2
            go_roundw
            case rel => exact ⟨k + 1, by go_num, by omega, HT, trivial⟩
            case measure => simp [intOf]; omega
      · have HT : Hid _ := HY.out (fun i hi => .inl rfl)
        clear HX HY hR HA HC
        go_wp2_with (go_at_call 50; refine Calls.mono CA.out ?_; rintro e w2 ⟨rfl, rfl⟩; clear CA)
        go_roundw
        case rel => exact ⟨k + 1, by go_num, by omega, HT, trivial⟩
        case measure => simp [intOf]; omega
    · obtain rfl : k = ws.length := by omega
      have HF : Hid (R = true) := by show _ = _; rw [← hR.out]; exact PG.cvB_yes hT.out
      clear hT hR HA HC
      go_wp2
      go_ret
      exact ⟨retB7 HF.out.symm, hB⟩
set_option maxHeartbeats 1600000 in
set_option maxRecDepth 100000 in
theorem implIsCover_any (l r : Int) (a b c : Option Addr) (cap cb cc : Nat) (ws : List (List Int)) (ls rs : List Int) (w : World) (hz : ws.length ≤ 1048576) (hl1 : ls.length ≤ 1048576) (hl2 : rs.length ≤ 1048576) (ht : NR.tot ws ≤ 1048576) (hin : NR.RowsAt w a ws) (hos : M4.IntsAt w b ls) (hor : M4.IntsAt w c rs) :
    Calls Try.prog 13 #[PG.pv l r (.slice a ws.length cap), .slice b ls.length cb, .slice c rs.length cc] w fun e w' => e = .returned (.tuple #[.bool (PG.icB l r ws ls rs), .bool (PG.ocB l r ws ls rs)]) ∧ Below w.heap.size w w' := by
  have hB : Below w.heap.size w (w.alloc (Obj.cells #[.int .i64 l, .int .i64 r, .slice a ws.length cap] 25)) := (Below.refl _ _).alloc (Nat.le_refl _) _
  have hC : (w.alloc (Obj.cells #[.int .i64 l, .int .i64 r, .slice a ws.length cap] 25)).cell? ⟨w.heap.size, 0, none⟩ = some (.int .i64 l) ∧ (w.alloc (Obj.cells #[.int .i64 l, .int .i64 r, .slice a ws.length cap] 25)).cell? ⟨w.heap.size, 1, none⟩ = some (.int .i64 r) ∧ (w.alloc (Obj.cells #[.int .i64 l, .int .i64 r, .slice a ws.length cap] 25)).cell? ⟨w.heap.size, 2, none⟩ = some (.slice a ws.length cap) := by simp
  have hS : w.heap.size < (w.alloc (Obj.cells #[.int .i64 l, .int .i64 r, .slice a ws.length cap] 25)).heap.size := by simp
  have GD : Hid _ := implGoodP_any l r a cap ws _ hz ht (hin.below hB) _ rfl
  have HI : Hid (NR.RowsAt w a ws) := hin
  have HO : Hid (M4.IntsAt w b ls) := hos
  have HR : Hid (M4.IntsAt w c rs) := hor
  clear hin hos hor
  have HG : Hid (PG.good l r ws = true → 1 ≤ l ∧ l ≤ 8 ∧ 1 ≤ r ∧ r ≤ 8 ∧ (ws.length : Int) = l) := fun h => (PG.good_is h).1
  have RA : Hid (1 ≤ l ∧ l ≤ 8 → ∀ W : World, Below w.heap.size w W → Calls Try.prog 33 #[.slice b ls.length cb, .int .i64 (l - 1)] W fun e w' => e = .returned (.bool (EG.rises l.toNat ls)) ∧ Below W.heap.size W w') := fun h W hb => by
    have := areRising_any b cb l.toNat ls W (by omega) hl1 (M4.IntsAt.below HO.out hb) _ rfl
    rw [show ((l.toNat : Nat) : Int) = l from by omega] at this
    exact this.mono fun e w' h => ⟨h.1, h.2 ▸ Below.refl _ _⟩
  have RB : Hid (1 ≤ r ∧ r ≤ 8 → ∀ W : World, Below w.heap.size w W → Calls Try.prog 33 #[.slice c rs.length cc, .int .i64 (r - 1)] W fun e w' => e = .returned (.bool (EG.rises r.toNat rs)) ∧ Below W.heap.size W w') := fun h W hb => by
    have := areRising_any c cc r.toNat rs W (by omega) hl2 (M4.IntsAt.below HR.out hb) _ rfl
    rw [show ((r.toNat : Nat) : Int) = r from by omega] at this
    exact this.mono fun e w' h => ⟨h.1, h.2 ▸ Below.refl _ _⟩
  have IC : Hid (ws.length ≤ 8 → ∀ W : World, Below w.heap.size w W → Calls Try.prog 35 #[PG.pv l r (.slice a ws.length cap), .slice b ls.length cb, .slice c rs.length cc] W fun e w' => e = .returned (.bool (PG.cvB ws ls rs)) ∧ Below W.heap.size W w') := fun h W hb => implIsC_any l r a b c cap cb cc ws ls rs W h ht hl1 hl2 (HI.out.below hb) (M4.IntsAt.below HO.out hb) (M4.IntsAt.below HR.out hb) _ rfl
  unfold PG.icB PG.ocB
  generalize PG.good l r ws = g at *
  generalize EG.rises l.toNat ls = q1 at *
  generalize EG.rises r.toNat rs = q2 at *
  generalize PG.cvB ws ls rs = R at *
  clear HI HO HR
  go_enter Try.func13, Try.ntmps13
  go_wp2_with fail
  generalize w.alloc (Obj.cells #[.int .i64 l, .int .i64 r, .slice a ws.length cap] 25) = W at *
  refine Calls.mono GD.out ?_
  rintro e w2 ⟨rfl, hb2⟩
  have c0 := (hb2.cell (p := ⟨w.heap.size, 0, none⟩) hS).trans hC.1
  have c1 := (hb2.cell (p := ⟨w.heap.size, 1, none⟩) hS).trans hC.2.1
  have c2 := (hb2.cell (p := ⟨w.heap.size, 2, none⟩) hS).trans hC.2.2
  have hB2 := hB.trans (hb2.mono hB.size)
  have hS2 := Nat.lt_of_lt_of_le hS hb2.size
  clear GD hb2 hC hS hB
  cases g
  · clear HG RA RB
    go_wp2
    go_ret2
    exact ⟨PG.retBB rfl rfl, hB2⟩
  · obtain ⟨g1, g2, g3, g4, g5⟩ := HG.out rfl
    clear HG
    have RA2 : Hid _ := RA.out ⟨g1, g2⟩ w2 hB2
    clear RA
    go_wp2_with fail
    refine Calls.mono RA2.out ?_
    rintro e w3 ⟨rfl, hb3⟩
    replace c0 := (hb3.cell (p := ⟨w.heap.size, 0, none⟩) hS2).trans c0
    replace c1 := (hb3.cell (p := ⟨w.heap.size, 1, none⟩) hS2).trans c1
    replace c2 := (hb3.cell (p := ⟨w.heap.size, 2, none⟩) hS2).trans c2
    have hB3 := hB2.trans (hb3.mono hB2.size)
    have hS3 := Nat.lt_of_lt_of_le hS2 hb3.size
    clear RA2 hb3 hB2 hS2
    cases q1
    · clear RB
      go_wp2
      go_ret2
      exact ⟨PG.retBB rfl rfl, hB3⟩
    · have RB2 : Hid _ := RB.out ⟨g3, g4⟩ w3 hB3
      clear RB
      go_wp2_with fail
      refine Calls.mono RB2.out ?_
      rintro e w4 ⟨rfl, hb4⟩
      replace c0 := (hb4.cell (p := ⟨w.heap.size, 0, none⟩) hS3).trans c0
      replace c1 := (hb4.cell (p := ⟨w.heap.size, 1, none⟩) hS3).trans c1
      replace c2 := (hb4.cell (p := ⟨w.heap.size, 2, none⟩) hS3).trans c2
      have hB4 := hB3.trans (hb4.mono hB3.size)
      have hS4 := Nat.lt_of_lt_of_le hS3 hb4.size
      clear RB2 hb4 hB3 hS3
      cases q2
      · go_wp2
        go_ret2
        exact ⟨PG.retBB rfl rfl, hB4⟩
      · have IC2 : Hid _ := IC.out (by omega) w4 hB4
        clear IC
        go_wp2_with fail
        refine Calls.mono IC2.out ?_
        rintro e w5 ⟨rfl, hb5⟩
        have hB5 := hB4.trans (hb5.mono hB4.size)
        clear IC2 hb5
        go_wp2
        go_ret2
        exact ⟨PG.retBB rfl rfl, hB5⟩
set_option maxHeartbeats 1600000 in
set_option maxRecDepth 100000 in
theorem specIsCover_any (l r : Int) (a b c : Option Addr) (cap cb cc : Nat) (ws : List (List Int)) (ls rs : List Int) (w : World) (hz : ws.length ≤ 1048576) (hl1 : ls.length ≤ 1048576) (hl2 : rs.length ≤ 1048576) (ht : NR.tot ws ≤ 1048576) (hin : NR.RowsAt w a ws) (hos : M4.IntsAt w b ls) (hor : M4.IntsAt w c rs) :
    Calls Try.prog 22 #[PG.pv l r (.slice a ws.length cap), .slice b ls.length cb, .slice c rs.length cc] w fun e w' => e = .returned (.tuple #[.bool (PG.icB l r ws ls rs), .bool (PG.ocB l r ws ls rs)]) ∧ Below w.heap.size w w' := by
  have hB : Below w.heap.size w (w.alloc (Obj.cells #[.int .i64 l, .int .i64 r, .slice a ws.length cap] 25)) := (Below.refl _ _).alloc (Nat.le_refl _) _
  have hC : (w.alloc (Obj.cells #[.int .i64 l, .int .i64 r, .slice a ws.length cap] 25)).cell? ⟨w.heap.size, 0, none⟩ = some (.int .i64 l) ∧ (w.alloc (Obj.cells #[.int .i64 l, .int .i64 r, .slice a ws.length cap] 25)).cell? ⟨w.heap.size, 1, none⟩ = some (.int .i64 r) ∧ (w.alloc (Obj.cells #[.int .i64 l, .int .i64 r, .slice a ws.length cap] 25)).cell? ⟨w.heap.size, 2, none⟩ = some (.slice a ws.length cap) := by simp
  have hS : w.heap.size < (w.alloc (Obj.cells #[.int .i64 l, .int .i64 r, .slice a ws.length cap] 25)).heap.size := by simp
  have GD : Hid _ := specGoodP_any l r a cap ws _ hz ht (hin.below hB) _ rfl
  have HI : Hid (NR.RowsAt w a ws) := hin
  have HO : Hid (M4.IntsAt w b ls) := hos
  have HR : Hid (M4.IntsAt w c rs) := hor
  clear hin hos hor
  have HG : Hid (PG.good l r ws = true → 1 ≤ l ∧ l ≤ 8 ∧ 1 ≤ r ∧ r ≤ 8 ∧ (ws.length : Int) = l) := fun h => (PG.good_is h).1
  have RA : Hid (1 ≤ l ∧ l ≤ 8 → ∀ W : World, Below w.heap.size w W → Calls Try.prog 46 #[.slice b ls.length cb, .int .i64 (l)] W fun e w' => e = .returned (.bool (EG.rises l.toNat ls)) ∧ Below W.heap.size W w') := fun h W hb => by
    have := l1Some_any b cb l.toNat ls W (by omega) hl1 (M4.IntsAt.below HO.out hb) _ rfl
    rw [show ((l.toNat : Nat) : Int) = l from by omega] at this
    exact this.mono fun e w' h => ⟨h.1, h.2⟩
  have RB : Hid (1 ≤ r ∧ r ≤ 8 → ∀ W : World, Below w.heap.size w W → Calls Try.prog 46 #[.slice c rs.length cc, .int .i64 (r)] W fun e w' => e = .returned (.bool (EG.rises r.toNat rs)) ∧ Below W.heap.size W w') := fun h W hb => by
    have := l1Some_any c cc r.toNat rs W (by omega) hl2 (M4.IntsAt.below HR.out hb) _ rfl
    rw [show ((r.toNat : Nat) : Int) = r from by omega] at this
    exact this.mono fun e w' h => ⟨h.1, h.2⟩
  unfold PG.icB PG.ocB
  generalize PG.good l r ws = g at *
  generalize EG.rises l.toNat ls = q1 at *
  generalize EG.rises r.toNat rs = q2 at *
  obtain ⟨R, hR'⟩ : ∃ R, PG.cvB ws ls rs = R := ⟨_, rfl⟩
  have hR : Hid (PG.cvB ws ls rs = R) := hR'
  rw [hR']
  clear hR'
  go_enter Try.func22, Try.ntmps22
  go_wp2_with fail
  generalize w.alloc (Obj.cells #[.int .i64 l, .int .i64 r, .slice a ws.length cap] 25) = W at *
  refine Calls.mono GD.out ?_
  rintro e w2 ⟨rfl, hb2⟩
  have c0 := (hb2.cell (p := ⟨w.heap.size, 0, none⟩) hS).trans hC.1
  have c1 := (hb2.cell (p := ⟨w.heap.size, 1, none⟩) hS).trans hC.2.1
  have c2 := (hb2.cell (p := ⟨w.heap.size, 2, none⟩) hS).trans hC.2.2
  have hB2 := hB.trans (hb2.mono hB.size)
  have hS2 := Nat.lt_of_lt_of_le hS hb2.size
  clear GD hb2 hC hS hB
  cases g
  · clear HG RA RB
    go_wp2
    go_ret2
    exact ⟨PG.retBB rfl rfl, hB2⟩
  · obtain ⟨g1, g2, g3, g4, g5⟩ := HG.out rfl
    clear HG
    have RA2 : Hid _ := RA.out ⟨g1, g2⟩ w2 hB2
    clear RA
    go_wp2_with fail
    refine Calls.mono RA2.out ?_
    rintro e w3 ⟨rfl, hb3⟩
    replace c0 := (hb3.cell (p := ⟨w.heap.size, 0, none⟩) hS2).trans c0
    replace c1 := (hb3.cell (p := ⟨w.heap.size, 1, none⟩) hS2).trans c1
    replace c2 := (hb3.cell (p := ⟨w.heap.size, 2, none⟩) hS2).trans c2
    have hB3 := hB2.trans (hb3.mono hB2.size)
    have hS3 := Nat.lt_of_lt_of_le hS2 hb3.size
    clear RA2 hb3 hB2 hS2
    cases q1
    · clear RB
      go_wp2
      go_ret2
      exact ⟨PG.retBB rfl rfl, hB3⟩
    · have RB2 : Hid _ := RB.out ⟨g3, g4⟩ w3 hB3
      clear RB
      go_wp2_with fail
      refine Calls.mono RB2.out ?_
      rintro e w4 ⟨rfl, hb4⟩
      replace c0 := (hb4.cell (p := ⟨w.heap.size, 0, none⟩) hS3).trans c0
      replace c1 := (hb4.cell (p := ⟨w.heap.size, 1, none⟩) hS3).trans c1
      replace c2 := (hb4.cell (p := ⟨w.heap.size, 2, none⟩) hS3).trans c2
      have hB4 := hB3.trans (hb4.mono hB3.size)
      have hS4 := Nat.lt_of_lt_of_le hS3 hb4.size
      clear RB2 hb4 hB3 hS3
      cases q2
      · go_wp2
        go_ret2
        exact ⟨PG.retBB rfl rfl, hB4⟩
      · have HJ : Hid (NR.RowsAt w4 a ws) := HI.out.below hB4
        have HA : Hid _ := fun x => l1Has_any b cb ls x w4 hl1 (M4.IntsAt.below HO.out hB4)
        have HC : Hid _ := fun x => l1Has_any c cc rs x w4 hl2 (M4.IntsAt.below HR.out hB4)
        clear HI HO HR
        have g6 : ws.length ≤ 8 := by omega
        have G5 : Hid _ := g5
        clear g5
        go_wp2
        go_loopw [32] (fun iv wr => ∃ k : Nat, iv = .int .i64 k ∧ k ≤ ws.length ∧ Hid (PG.cvUp ws ls rs k) ∧ w4 = wr) (fun iv _ => (ws.length - intOf iv).toNat)
        case atStart => exact ⟨0, rfl, by omega, fun j hj => by omega, rfl⟩
        case round =>
          obtain ⟨k, rfl, hk, hT, rfl⟩ := hrel
          by_cases hl : k < ws.length
          · obtain ⟨b2, off2, a1, d1, rfl, hlt2, e1, _, i1⟩ := HJ.out.at hl
            have hrt := NR.tot_row ws hl
            have HY : Hid _ := fun h1 => PG.cvUp_succ hT.out (k := k) h1
            have HX : Hid (∀ j, _ → _ → _ → R = false) := fun j hj h1 h2 => by rw [← hR.out]; exact PG.cvB_no (a := ls) (b := rs) hl (j := j) hj h1 h2
            have CA : Hid _ := HA.out k
            have I1 : Hid (M4.IntsAt w4 a1 (NR.rw_ ws k)) := i1
            clear hT i1
            generalize EG.hasB ls k = z1 at *
            generalize NR.rw_ ws k = x at *
            go_wp2
            go_loopw [39] (fun jv wr => ∃ j : Nat, jv = .int .i64 j ∧ j ≤ x.length ∧ Hid (PG.metUp z1 rs x j) ∧ w4 = wr) (fun jv _ => (x.length - intOf jv).toNat)
            case atStart => exact ⟨0, rfl, by omega, fun j hj => by omega, rfl⟩
            case round =>
              obtain ⟨j, rfl, hj, hM, rfl⟩ := hrel
              by_cases hlj : j < x.length
              · obtain ⟨b3, off3, rfl, hlt3, hc3⟩ := M4.IntsAt.at I1.out hlj
                have CC : Hid _ := HC.out (x.getD j 0)
                have HM : Hid _ := fun h => PG.metUp_succ hM.out (j := j) h
                have HF : Hid _ := fun h1 h => HX.out j hlj h1 h
                clear HX HY hM hR HA HC
                generalize EG.hasB rs (x.getD j 0) = z2 at *
                generalize x.getD j 0 = y at *
                cases z1
                · cases z2
                  · have HF2 : Hid _ := HF.out rfl rfl
                    clear HF HM
                    go_wp2_with (go_at_call 31; first | (refine Calls.mono CA.out ?_; rintro e w2 ⟨rfl, rfl⟩; clear CA) | (refine Calls.mono CC.out ?_; rintro e w2 ⟨rfl, rfl⟩; clear CC))
                    go_ret2
                    exact ⟨PG.retBB (by rw [HF2.out]; rfl) rfl, hB4⟩
                  · have HM2 : Hid _ := HM.out (.inr rfl)
                    clear HF HM
                    go_wp2_with (go_at_call 31; first | (refine Calls.mono CA.out ?_; rintro e w2 ⟨rfl, rfl⟩; clear CA) | (refine Calls.mono CC.out ?_; rintro e w2 ⟨rfl, rfl⟩; clear CC))
                    go_roundw
                    case rel => exact ⟨j + 1, by go_num, by omega, HM2, trivial⟩
                    case measure => simp [intOf]; omega
                · have HM2 : Hid (PG.metUp true rs x (j + 1)) := fun _ _ => .inl rfl
                  clear HF HM CC
                  go_wp2_with (go_at_call 31; refine Calls.mono CA.out ?_; rintro e w2 ⟨rfl, rfl⟩; clear CA)
                  go_roundw
                  case rel => exact ⟨j + 1, by go_num, by omega, HM2, trivial⟩
                  case measure => simp [intOf]; omega
              · obtain rfl : j = x.length := by omega
                have HT : Hid _ := HY.out hM.out
                clear HX HY hM hR HA HC
                go_wp2
                go_roundw
                case rel => exact ⟨k + 1, by go_num, by omega, HT, trivial⟩
                case measure => simp [intOf]; omega
          · obtain rfl : k = ws.length := by omega
            have HF : Hid (R = true) := by show _ = _; rw [← hR.out]; exact PG.cvB_yes hT.out
            clear hT hR HA HC
            go_wp2
            go_ret2
            exact ⟨PG.retBB (by rw [HF.out]; rfl) rfl, hB4⟩
end Go.Proofs.Ytjfnmhkhjaafkaa
