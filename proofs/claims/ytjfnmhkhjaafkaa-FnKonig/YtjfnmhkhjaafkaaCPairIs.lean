/- Whether it is a match: isMatch, l10Is, IsMatch of both. -/
import Derived.Test.YtjfnmhkhjaafkaaRows
import Derived.Test.YtjfnmhkhjaafkaaCPairGood
import Derived.Test.YtjfnmhkhjaafkaaCHasI
import Derived.WalkKit
import Derived.WalkSpells
import Derived.WalkLawsBesides
import Derived.Outline
namespace Go.Proofs.Ytjfnmhkhjaafkaa
open Go.RowKit
namespace PG
def isUp (ws : List (List Int)) (m : List Int) (k : Nat) : Prop := ∀ j, j < k → m.getD j 0 = -1 ∨ (EG.hasB (NR.rw_ ws j) (m.getD j 0) = true ∧ EG.hasB (m.take j) (m.getD j 0) = false)
open Classical in
noncomputable def isB (ws : List (List Int)) (m : List Int) : Bool := decide (isUp ws m m.length)
theorem isB_yes {ws : List (List Int)} {m : List Int} (h : isUp ws m m.length) : isB ws m = true := by simpa only [isB, decide_eq_true_eq] using h
theorem isB_is {ws : List (List Int)} {m : List Int} (h : isB ws m = true) : isUp ws m m.length := by simpa only [isB, decide_eq_true_eq] using h
theorem isB_no {ws : List (List Int)} {m : List Int} {k : Nat} (hk : k < m.length) (h : ¬ (m.getD k 0 = -1 ∨ (EG.hasB (NR.rw_ ws k) (m.getD k 0) = true ∧ EG.hasB (m.take k) (m.getD k 0) = false))) : isB ws m = false := by
  simp only [isB, decide_eq_false_iff_not]; intro e; exact h (e k hk)
theorem isUp_succ {ws : List (List Int)} {m : List Int} {k : Nat} (h : isUp ws m k) (h1 : m.getD k 0 = -1 ∨ (EG.hasB (NR.rw_ ws k) (m.getD k 0) = true ∧ EG.hasB (m.take k) (m.getD k 0) = false)) : isUp ws m (k + 1) := fun j hj => by
  by_cases e : j = k
  · rw [e]; exact h1
  · exact h j (by omega)
theorem ints_take {w : World} {a : Option Addr} {m : List Int} (h : M4.IntsAt w a m) (k : Nat) : M4.IntsAt w a (m.take k) := by
  rcases h with rfl | ⟨b, off, rfl, hb, hc⟩
  · exact .inl (by simp)
  · refine .inr ⟨b, off, rfl, hb, fun j hj => ?_⟩
    simp only [List.length_take] at hj
    have := hc j (by omega)
    rw [this, List.getD_eq_getElem?_getD, List.getD_eq_getElem?_getD, List.getElem?_take, if_pos (by omega)]
theorem isB_inj {ws : List (List Int)} {m : List Int} (h : isB ws m = true) : Inj m := by
  have key : ∀ i j, i < j → j < m.length → m.getD i 0 = m.getD j 0 → m.getD i 0 ≠ -1 → False := fun i j hij hj e hn => by
    rcases isB_is h j hj with h' | ⟨_, h'⟩
    · exact hn (e.trans h')
    · simp only [EG.hasB, decide_eq_false_iff_not] at h'
      refine h' ?_
      rw [← e, List.getD_eq_getElem?_getD, List.getElem?_eq_getElem (by omega)]
      exact List.mem_take_iff_getElem.2 ⟨i, by omega, rfl⟩
  intro i j hi hj e hn
  rcases Nat.lt_trichotomy i j with c | c | c
  · exact (key i j c hj e hn).elim
  · exact c
  · exact (key j i c hi e.symm (by rw [← e]; exact hn)).elim
def isOk (l r : Int) (ws : List (List Int)) (m : List Int) : Prop := good l r ws = true ∧ (m.length : Int) = l
open Classical in
noncomputable def okB (l r : Int) (ws : List (List Int)) (m : List Int) : Bool := decide (isOk l r ws m)
theorem okB_is {l r : Int} {ws : List (List Int)} {m : List Int} (h : okB l r ws m = true) : good l r ws = true ∧ (m.length : Int) = l := by
  have h2 : isOk l r ws m := by simpa only [okB, decide_eq_true_eq] using h
  exact h2
noncomputable def imB (l r : Int) (ws : List (List Int)) (m : List Int) : Bool := okB l r ws m && isB ws m
end PG
set_option maxHeartbeats 1600000 in
set_option maxRecDepth 100000 in
theorem implIsM_any (l r : Int) (a b : Option Addr) (cap cb : Nat) (ws : List (List Int)) (m : List Int) (w : World) (hlen : m.length = ws.length) (hm : m.length ≤ 8) (ht : NR.tot ws ≤ 1048576) (hcap : m.length ≤ cb) (hin : NR.RowsAt w a ws) (hos : M4.IntsAt w b m) (R : Bool) (hR : Hid (PG.isB ws m = R)) :
    Calls Try.prog 34 #[PG.pv l r (.slice a ws.length cap), .slice b m.length cb] w fun e w' => e = .returned (.bool R) ∧ Below w.heap.size w w' := by
  have hB : Below w.heap.size w (w.alloc (Obj.cells #[.int .i64 l, .int .i64 r, .slice a ws.length cap] 25)) := (Below.refl _ _).alloc (Nat.le_refl _) _
  have hC : (w.alloc (Obj.cells #[.int .i64 l, .int .i64 r, .slice a ws.length cap] 25)).cell? ⟨w.heap.size, 2, none⟩ = some (.slice a ws.length cap) := by simp
  have hS : w.heap.size < (w.alloc (Obj.cells #[.int .i64 l, .int .i64 r, .slice a ws.length cap] 25)).heap.size := by simp
  have HI : Hid (NR.RowsAt _ a ws) := hin.below hB
  have HO : Hid (M4.IntsAt _ b m) := hos.below hB
  have HL : Hid _ := hlen
  clear hin hos hlen
  generalize hn : m.length = n at *
  have HN : Hid _ := hn
  clear hn
  go_enter Try.func34, Try.ntmps34
  go_wp2
  generalize w.alloc (Obj.cells #[.int .i64 l, .int .i64 r, .slice a ws.length cap] 25) = W at *
  go_loopw [9] (fun iv wr => ∃ k : Nat, iv = .int .i64 k ∧ k ≤ n ∧ Hid (PG.isUp ws m k) ∧ W = wr) (fun iv _ => (n - intOf iv).toNat)
  case atStart => exact ⟨0, rfl, by omega, fun j hj => by omega, rfl⟩
  case round =>
    obtain ⟨k, rfl, hk, hT, rfl⟩ := hrel
    by_cases hl : k < n
    · obtain ⟨b1, off1, rfl, hlt1, hc1⟩ := HO.out.at (k := k) (by rw [HN.out]; exact hl)
      obtain ⟨b2, off2, a1, d1, rfl, hlt2, e1, _, i1⟩ := HI.out.at (j := k) (by rw [← HL.out]; exact hl)
      have hrt := NR.tot_row ws (i := k) (by rw [← HL.out]; exact hl)
      have hlw : k < ws.length := by rw [← HL.out]; exact hl
      have HY : Hid _ := fun h1 => PG.isUp_succ hT.out (k := k) h1
      have HX : Hid (_ → R = false) := fun h => by rw [← hR.out]; exact PG.isB_no (k := k) (by rw [HN.out]; exact hl) h
      have IT := PG.ints_take HO.out k
      have hlt : (m.take k).length = k := by rw [List.length_take, HN.out]; omega
      have C1 : Hid _ := containsI_any a1 d1 (NR.rw_ ws k) (m.getD k 0) W (by omega) i1
      have C2 := containsI_any (some ⟨b1, off1, none⟩) cb (m.take k) (m.getD k 0) W (by omega) IT
      rw [hlt] at C2
      have HC2 : Hid _ := C2
      clear C2 IT hlt i1 hT hR
      generalize EG.hasB (NR.rw_ ws k) (m.getD k 0) = q1 at *
      generalize EG.hasB (m.take k) (m.getD k 0) = q2 at *
      generalize hrl : (NR.rw_ ws k).length = rl at *
      clear hrl
      generalize m.getD k 0 = x at *
      by_cases hx : x = -1
      · have HT : Hid _ := HY.out (.inl hx)
        subst hx
        clear HY HX C1 HC2
        go_wp2
        go_roundw
        case rel => exact ⟨k + 1, by go_num, by omega, HT, trivial⟩
        case measure => simp [intOf]; omega
      · have hxb : (x == -1) = false := by simp [hx]
        cases q1
        · have HF : Hid _ := HX.out (by simp [hx])
          clear HY HX hx HC2
          go_wp2_with (go_at_call 50; refine Calls.mono C1.out ?_; rintro e w2 ⟨rfl, rfl⟩; clear C1)
          go_ret
          exact ⟨retB7 HF.out.symm, hB⟩
        · cases q2
          · have HT : Hid _ := HY.out (.inr ⟨rfl, rfl⟩)
            clear HY HX hx
            go_wp2_with (go_at_call 50; first | (refine Calls.mono C1.out ?_; rintro e w2 ⟨rfl, rfl⟩; clear C1) | (refine Calls.mono HC2.out ?_; rintro e w2 ⟨rfl, rfl⟩; clear HC2))
            go_roundw
            case rel => exact ⟨k + 1, by go_num, by omega, HT, trivial⟩
            case measure => simp [intOf]; omega
          · have HF : Hid _ := HX.out (by simp [hx])
            clear HY HX hx
            go_wp2_with (go_at_call 50; first | (refine Calls.mono C1.out ?_; rintro e w2 ⟨rfl, rfl⟩; clear C1) | (refine Calls.mono HC2.out ?_; rintro e w2 ⟨rfl, rfl⟩; clear HC2))
            go_ret
            exact ⟨retB7 HF.out.symm, hB⟩
    · obtain rfl : k = n := by omega
      have HF : Hid (R = true) := by show _ = _; rw [← hR.out]; exact PG.isB_yes (by rw [HN.out]; exact hT.out)
      clear hT hR
      go_wp2
      go_ret
      exact ⟨retB7 HF.out.symm, hB⟩
theorem implRetBB {a b c d : Bool} (h : a = c) (k : b = d) : Ending.returned (.tuple #[.bool a, .bool b]) = .returned (.tuple #[.bool c, .bool d]) := by rw [h, k]
set_option maxHeartbeats 1600000 in
set_option maxRecDepth 100000 in
theorem implIsMatch_any (l r : Int) (a b : Option Addr) (cap cb : Nat) (ws : List (List Int)) (m : List Int) (w : World) (hz : ws.length ≤ 1048576) (hzm : m.length ≤ 1048576) (ht : NR.tot ws ≤ 1048576) (hcap : m.length ≤ cb) (hin : NR.RowsAt w a ws) (hos : M4.IntsAt w b m) :
    Calls Try.prog 12 #[PG.pv l r (.slice a ws.length cap), .slice b m.length cb] w fun e w' => e = .returned (.tuple #[.bool (PG.imB l r ws m), .bool (PG.okB l r ws m)]) ∧ Below w.heap.size w w' := by
  have hB : Below w.heap.size w (w.alloc (Obj.cells #[.int .i64 l, .int .i64 r, .slice a ws.length cap] 25)) := (Below.refl _ _).alloc (Nat.le_refl _) _
  have hC : (w.alloc (Obj.cells #[.int .i64 l, .int .i64 r, .slice a ws.length cap] 25)).cell? ⟨w.heap.size, 0, none⟩ = some (.int .i64 l) ∧ (w.alloc (Obj.cells #[.int .i64 l, .int .i64 r, .slice a ws.length cap] 25)).cell? ⟨w.heap.size, 1, none⟩ = some (.int .i64 r) ∧ (w.alloc (Obj.cells #[.int .i64 l, .int .i64 r, .slice a ws.length cap] 25)).cell? ⟨w.heap.size, 2, none⟩ = some (.slice a ws.length cap) := by simp
  have hS : w.heap.size < (w.alloc (Obj.cells #[.int .i64 l, .int .i64 r, .slice a ws.length cap] 25)).heap.size := by simp
  have GD : Hid _ := implGoodP_any l r a cap ws _ hz ht (hin.below hB) _ rfl
  have IM : Hid (PG.okB l r ws m = true → ∀ W : World, Below w.heap.size w W → Calls Try.prog 34 #[PG.pv l r (.slice a ws.length cap), .slice b m.length cb] W fun e w' => e = .returned (.bool (PG.isB ws m)) ∧ Below W.heap.size W w') := fun h W hb => by
    have h := PG.okB_is h
    have hg := (PG.good_is h.1).1
    exact implIsM_any l r a b cap cb ws m W (by omega) (by omega) ht hcap (hin.below hb) (hos.below hb) _ rfl
  clear hin hos
  have HOK : Hid (∀ g n : Bool, PG.good l r ws = g → decide ((m.length : Int) = l) = n → PG.okB l r ws m = (g && n)) := fun g n h1 h2 => by
    unfold PG.okB PG.isOk
    rw [← h1, ← h2]
    by_cases c1 : PG.good l r ws = true <;> by_cases c2 : (m.length : Int) = l <;> simp [c1, c2]
  unfold PG.imB
  generalize PG.isB ws m = R at *
  obtain ⟨g, hg⟩ : ∃ g, PG.good l r ws = g := ⟨_, rfl⟩
  obtain ⟨n, hn⟩ : ∃ n, decide ((m.length : Int) = l) = n := ⟨_, rfl⟩
  have HO : Hid _ := HOK.out g n hg hn
  rw [hg] at GD
  have hne : ((m.length : Int) != l) = !n := by rw [← hn]; rfl
  clear HOK hg hn
  generalize PG.okB l r ws m = OK at *
  go_enter Try.func12, Try.ntmps12
  go_wp2_with fail
  generalize w.alloc (Obj.cells #[.int .i64 l, .int .i64 r, .slice a ws.length cap] 25) = W at *
  refine Calls.mono GD.out ?_
  rintro e w2 ⟨rfl, hb2⟩
  have c0 := (hb2.cell (p := ⟨w.heap.size, 0, none⟩) hS).trans hC.1
  have c1 := (hb2.cell (p := ⟨w.heap.size, 1, none⟩) hS).trans hC.2.1
  have c2 := (hb2.cell (p := ⟨w.heap.size, 2, none⟩) hS).trans hC.2.2
  have hB2 := hB.trans (hb2.mono hB.size)
  clear GD hb2 hC hS hB
  cases g
  · have hO := HO.out
    simp only [Bool.false_and] at hO
    have HF : Hid _ := hO
    clear IM HO hO
    go_wp2
    go_ret2
    exact ⟨implRetBB (by rw [HF.out]; rfl) HF.out.symm, hB2⟩
  · cases n
    · have hO := HO.out
      simp only [Bool.and_false] at hO
      have HF : Hid _ := hO
      simp only [Bool.not_false] at hne
      clear IM HO hO
      go_wp2
      go_ret2
      exact ⟨implRetBB (by rw [HF.out]; rfl) HF.out.symm, hB2⟩
    · have hO := HO.out
      simp only [Bool.and_true] at hO
      have HF : Hid _ := hO
      have I2 : Hid _ := IM.out hO w2 hB2
      simp only [Bool.not_true] at hne
      clear IM HO hO
      go_wp2_with fail
      refine Calls.mono I2.out ?_
      rintro e w3 ⟨rfl, hb3⟩
      have hB3 := hB2.trans (hb3.mono hB2.size)
      clear I2 hb3
      go_wp2
      go_ret2
      exact ⟨implRetBB (by rw [HF.out]; rfl) HF.out.symm, hB3⟩
set_option maxHeartbeats 1600000 in
set_option maxRecDepth 100000 in
theorem specIsM_any (l r : Int) (a b : Option Addr) (cap cb : Nat) (ws : List (List Int)) (m : List Int) (w : World) (hlen : m.length = ws.length) (hm : m.length ≤ 8) (ht : NR.tot ws ≤ 1048576) (hcap : m.length ≤ cb) (hin : NR.RowsAt w a ws) (hos : M4.IntsAt w b m) (R : Bool) (hR : Hid (PG.isB ws m = R)) :
    Calls Try.prog 40 #[PG.pv l r (.slice a ws.length cap), .slice b m.length cb] w fun e w' => e = .returned (.bool R) ∧ Below w.heap.size w w' := by
  have hB : Below w.heap.size w (w.alloc (Obj.cells #[.int .i64 l, .int .i64 r, .slice a ws.length cap] 25)) := (Below.refl _ _).alloc (Nat.le_refl _) _
  have hC : (w.alloc (Obj.cells #[.int .i64 l, .int .i64 r, .slice a ws.length cap] 25)).cell? ⟨w.heap.size, 2, none⟩ = some (.slice a ws.length cap) := by simp
  have hS : w.heap.size < (w.alloc (Obj.cells #[.int .i64 l, .int .i64 r, .slice a ws.length cap] 25)).heap.size := by simp
  have HI : Hid (NR.RowsAt _ a ws) := hin.below hB
  have HO : Hid (M4.IntsAt _ b m) := hos.below hB
  have HL : Hid _ := hlen
  clear hin hos hlen
  generalize hn : m.length = n at *
  have HN : Hid _ := hn
  clear hn
  go_enter Try.func40, Try.ntmps40
  go_wp2
  generalize w.alloc (Obj.cells #[.int .i64 l, .int .i64 r, .slice a ws.length cap] 25) = W at *
  go_loopw [9] (fun iv wr => ∃ k : Nat, iv = .int .i64 k ∧ k ≤ n ∧ Hid (PG.isUp ws m k) ∧ W = wr) (fun iv _ => (n - intOf iv).toNat)
  case atStart => exact ⟨0, rfl, by omega, fun j hj => by omega, rfl⟩
  case round =>
    obtain ⟨k, rfl, hk, hT, rfl⟩ := hrel
    by_cases hl : k < n
    · obtain ⟨b1, off1, rfl, hlt1, hc1⟩ := HO.out.at (k := k) (by rw [HN.out]; exact hl)
      obtain ⟨b2, off2, a1, d1, rfl, hlt2, e1, _, i1⟩ := HI.out.at (j := k) (by rw [← HL.out]; exact hl)
      have hrt := NR.tot_row ws (i := k) (by rw [← HL.out]; exact hl)
      have hlw : k < ws.length := by rw [← HL.out]; exact hl
      have HY : Hid _ := fun h1 => PG.isUp_succ hT.out (k := k) h1
      have HX : Hid (_ → R = false) := fun h => by rw [← hR.out]; exact PG.isB_no (k := k) (by rw [HN.out]; exact hl) h
      have IT := PG.ints_take HO.out k
      have hlt : (m.take k).length = k := by rw [List.length_take, HN.out]; omega
      have C1 : Hid _ := l1Has_any a1 d1 (NR.rw_ ws k) (m.getD k 0) W (by omega) i1
      have C2 := l1Has_any (some ⟨b1, off1, none⟩) cb (m.take k) (m.getD k 0) W (by omega) IT
      rw [hlt] at C2
      have HC2 : Hid _ := C2
      clear C2 IT hlt i1 hT hR
      generalize EG.hasB (NR.rw_ ws k) (m.getD k 0) = q1 at *
      generalize EG.hasB (m.take k) (m.getD k 0) = q2 at *
      generalize hrl : (NR.rw_ ws k).length = rl at *
      clear hrl
      generalize m.getD k 0 = x at *
      by_cases hx : x = -1
      · have HT : Hid _ := HY.out (.inl hx)
        subst hx
        clear HY HX C1 HC2
        go_wp2
        go_roundw
        case rel => exact ⟨k + 1, by go_num, by omega, HT, trivial⟩
        case measure => simp [intOf]; omega
      · have hxb : (x == -1) = false := by simp [hx]
        cases q1
        · have HF : Hid _ := HX.out (by simp [hx])
          clear HY HX hx HC2
          go_wp2_with (go_at_call 31; refine Calls.mono C1.out ?_; rintro e w2 ⟨rfl, rfl⟩; clear C1)
          go_ret
          exact ⟨retB7 HF.out.symm, hB⟩
        · cases q2
          · have HT : Hid _ := HY.out (.inr ⟨rfl, rfl⟩)
            clear HY HX hx
            go_wp2_with (go_at_call 31; first | (refine Calls.mono C1.out ?_; rintro e w2 ⟨rfl, rfl⟩; clear C1) | (refine Calls.mono HC2.out ?_; rintro e w2 ⟨rfl, rfl⟩; clear HC2))
            go_roundw
            case rel => exact ⟨k + 1, by go_num, by omega, HT, trivial⟩
            case measure => simp [intOf]; omega
          · have HF : Hid _ := HX.out (by simp [hx])
            clear HY HX hx
            go_wp2_with (go_at_call 31; first | (refine Calls.mono C1.out ?_; rintro e w2 ⟨rfl, rfl⟩; clear C1) | (refine Calls.mono HC2.out ?_; rintro e w2 ⟨rfl, rfl⟩; clear HC2))
            go_ret
            exact ⟨retB7 HF.out.symm, hB⟩
    · obtain rfl : k = n := by omega
      have HF : Hid (R = true) := by show _ = _; rw [← hR.out]; exact PG.isB_yes (by rw [HN.out]; exact hT.out)
      clear hT hR
      go_wp2
      go_ret
      exact ⟨retB7 HF.out.symm, hB⟩
theorem specRetBB {a b c d : Bool} (h : a = c) (k : b = d) : Ending.returned (.tuple #[.bool a, .bool b]) = .returned (.tuple #[.bool c, .bool d]) := by rw [h, k]
set_option maxHeartbeats 1600000 in
set_option maxRecDepth 100000 in
theorem specIsMatch_any (l r : Int) (a b : Option Addr) (cap cb : Nat) (ws : List (List Int)) (m : List Int) (w : World) (hz : ws.length ≤ 1048576) (hzm : m.length ≤ 1048576) (ht : NR.tot ws ≤ 1048576) (hcap : m.length ≤ cb) (hin : NR.RowsAt w a ws) (hos : M4.IntsAt w b m) :
    Calls Try.prog 17 #[PG.pv l r (.slice a ws.length cap), .slice b m.length cb] w fun e w' => e = .returned (.tuple #[.bool (PG.imB l r ws m), .bool (PG.okB l r ws m)]) ∧ Below w.heap.size w w' := by
  have hB : Below w.heap.size w (w.alloc (Obj.cells #[.int .i64 l, .int .i64 r, .slice a ws.length cap] 25)) := (Below.refl _ _).alloc (Nat.le_refl _) _
  have hC : (w.alloc (Obj.cells #[.int .i64 l, .int .i64 r, .slice a ws.length cap] 25)).cell? ⟨w.heap.size, 0, none⟩ = some (.int .i64 l) ∧ (w.alloc (Obj.cells #[.int .i64 l, .int .i64 r, .slice a ws.length cap] 25)).cell? ⟨w.heap.size, 1, none⟩ = some (.int .i64 r) ∧ (w.alloc (Obj.cells #[.int .i64 l, .int .i64 r, .slice a ws.length cap] 25)).cell? ⟨w.heap.size, 2, none⟩ = some (.slice a ws.length cap) := by simp
  have hS : w.heap.size < (w.alloc (Obj.cells #[.int .i64 l, .int .i64 r, .slice a ws.length cap] 25)).heap.size := by simp
  have GD : Hid _ := specGoodP_any l r a cap ws _ hz ht (hin.below hB) _ rfl
  have IM : Hid (PG.okB l r ws m = true → ∀ W : World, Below w.heap.size w W → Calls Try.prog 40 #[PG.pv l r (.slice a ws.length cap), .slice b m.length cb] W fun e w' => e = .returned (.bool (PG.isB ws m)) ∧ Below W.heap.size W w') := fun h W hb => by
    have h := PG.okB_is h
    have hg := (PG.good_is h.1).1
    exact specIsM_any l r a b cap cb ws m W (by omega) (by omega) ht hcap (hin.below hb) (hos.below hb) _ rfl
  clear hin hos
  have HOK : Hid (∀ g n : Bool, PG.good l r ws = g → decide ((m.length : Int) = l) = n → PG.okB l r ws m = (g && n)) := fun g n h1 h2 => by
    unfold PG.okB PG.isOk
    rw [← h1, ← h2]
    by_cases c1 : PG.good l r ws = true <;> by_cases c2 : (m.length : Int) = l <;> simp [c1, c2]
  unfold PG.imB
  generalize PG.isB ws m = R at *
  obtain ⟨g, hg⟩ : ∃ g, PG.good l r ws = g := ⟨_, rfl⟩
  obtain ⟨n, hn⟩ : ∃ n, decide ((m.length : Int) = l) = n := ⟨_, rfl⟩
  have HO : Hid _ := HOK.out g n hg hn
  rw [hg] at GD
  have hne : ((m.length : Int) != l) = !n := by rw [← hn]; rfl
  clear HOK hg hn
  generalize PG.okB l r ws m = OK at *
  go_enter Try.func17, Try.ntmps17
  go_wp2_with fail
  generalize w.alloc (Obj.cells #[.int .i64 l, .int .i64 r, .slice a ws.length cap] 25) = W at *
  refine Calls.mono GD.out ?_
  rintro e w2 ⟨rfl, hb2⟩
  have c0 := (hb2.cell (p := ⟨w.heap.size, 0, none⟩) hS).trans hC.1
  have c1 := (hb2.cell (p := ⟨w.heap.size, 1, none⟩) hS).trans hC.2.1
  have c2 := (hb2.cell (p := ⟨w.heap.size, 2, none⟩) hS).trans hC.2.2
  have hB2 := hB.trans (hb2.mono hB.size)
  clear GD hb2 hC hS hB
  cases g
  · have hO := HO.out
    simp only [Bool.false_and] at hO
    have HF : Hid _ := hO
    clear IM HO hO
    go_wp2
    go_ret2
    exact ⟨specRetBB (by rw [HF.out]; rfl) HF.out.symm, hB2⟩
  · cases n
    · have hO := HO.out
      simp only [Bool.and_false] at hO
      have HF : Hid _ := hO
      simp only [Bool.not_false] at hne
      clear IM HO hO
      go_wp2
      go_ret2
      exact ⟨specRetBB (by rw [HF.out]; rfl) HF.out.symm, hB2⟩
    · have hO := HO.out
      simp only [Bool.and_true] at hO
      have HF : Hid _ := hO
      have I2 : Hid _ := IM.out hO w2 hB2
      simp only [Bool.not_true] at hne
      clear IM HO hO
      go_wp2_with fail
      refine Calls.mono I2.out ?_
      rintro e w3 ⟨rfl, hb3⟩
      have hB3 := hB2.trans (hb3.mono hB2.size)
      clear I2 hb3
      go_wp2
      go_ret2
      exact ⟨specRetBB (by rw [HF.out]; rfl) HF.out.symm, hB3⟩
end Go.Proofs.Ytjfnmhkhjaafkaa
