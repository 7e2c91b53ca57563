import Derived.Test.YtjfnmhkhjaafkaaRows
import Derived.Test.YtjfnmhkhjaafkaaM5
import Derived.Test.YtjfnmhkhjaafkaaCWith7
import Derived.WalkKit
import Derived.WalkSpells
import Derived.WalkLawsBesides
import Derived.Outline
import Derived.Deep.QuietTactic
import Derived.BigQuiet
import Derived.Test.YtjfnmhkhjaafkaaOkN
import Derived.Test.YtjfnmhkhjaafkaaMPV
import Derived.Test.YtjfnmhkhjaafkaaMPG
/- Numbers that rise: areRising of the program. -/
namespace Go.Proofs.Ytjfnmhkhjaafkaa
open Go.RowKit
namespace EG
theorem ints_at2 {w : World} {a : Option Addr} {zs : List Int} (h : M4.IntsAt w a zs) {k : Nat} (hk : k + 1 < zs.length) : ∃ b off, a = some ⟨b, off, none⟩ ∧ b < w.heap.size ∧ w.cell? ⟨b, off + k, none⟩ = some (.int .i64 (zs.getD k 0)) ∧ w.cell? ⟨b, off + (k + 1), none⟩ = some (.int .i64 (zs.getD (k + 1) 0)) := by
  rcases h with rfl | ⟨b, off, rfl, hlt, hc⟩
  · simp at hk
  · exact ⟨b, off, rfl, hlt, hc k (by omega), hc (k + 1) hk⟩
end EG
set_option maxHeartbeats 1600000 in
set_option maxRecDepth 100000 in
theorem areRising_any (b : Option Addr) (cb : Nat) (n : Nat) (os : List Int) (w : World) (_hn : n ≤ 1048576) (ho : os.length ≤ 1048576) (hos : M4.IntsAt w b os) (R : Bool) (hR : Hid (EG.rises n os = R)) :
    Calls Try.prog 33 #[.slice b os.length cb, .int .i64 ((n : Int) - 1)] w fun e w' => e = .returned (.bool R) ∧ w = w' := by
  go_enter Try.func33, Try.ntmps33
  go_wp2
  go_loopw [9] (fun iv wr => ∃ k : Nat, iv = .int .i64 k ∧ k ≤ os.length ∧ Hid (EG.riseUp n os k) ∧ w = wr) (fun iv _ => (os.length - intOf iv).toNat)
  case atStart => exact ⟨0, rfl, by omega, show Hid _ from fun i hi => by omega, rfl⟩
  case round =>
    obtain ⟨k, rfl, hk, hT, rfl⟩ := hrel
    by_cases hlk : k < os.length
    · have HN : Hid _ := fun h => EG.rises_no (n := n) hlk h
      have HY : Hid _ := fun h => EG.riseUp_succ hT.out (k := k) h
      cases k with
      | zero =>
        obtain ⟨b1, off1, rfl, hlt1, hc1⟩ := hos.at hlk
        clear hos hT
        rw [Nat.add_zero] at hc1
        generalize os.getD 0 0 = o at *
        rw [show ((0 : Nat) : Int) = 0 from rfl]
        by_cases h0 : 0 ≤ o ∧ o < n
        · have hT : Hid _ := HY.out ⟨h0.1, h0.2, fun h => by omega⟩
          have h1 : decide (0 ≤ o ∧ o ≤ (n : Int) - 1) = true := by simp; omega
          clear HN HY hR h0
          go_wp2_with (go_at_call 32; refine (within7_any _ _ _ _).mono ?_; rintro e w2 ⟨rfl, rfl⟩; rw [h1])
          go_roundw
          case rel => exact ⟨1, by go_num, by omega, hT, trivial⟩
          case measure => simp [intOf]; omega
        · have hF : Hid (R = false) := by show R = false; rw [← hR.out]; exact HN.out (by omega)
          have h1 : decide (0 ≤ o ∧ o ≤ (n : Int) - 1) = false := by simp; omega
          clear HN HY hR h0
          go_wp2_with (go_at_call 32; refine (within7_any _ _ _ _).mono ?_; rintro e w2 ⟨rfl, rfl⟩; rw [h1])
          go_ret
          exact ⟨retB7 hF.out.symm, rfl⟩
      | succ k =>
        obtain ⟨b1, off1, rfl, hlt1, hc0, hc1⟩ := EG.ints_at2 hos hlk
        clear hos hT
        rw [Nat.add_sub_cancel] at HN HY
        generalize os.getD k 0 = p at *
        generalize os.getD (k + 1) 0 = o at *
        rw [show ((k + 1 : Nat) : Int) = (k : Int) + 1 from rfl]
        by_cases h0 : 0 ≤ o ∧ o < n
        · have h1 : decide (0 ≤ o ∧ o ≤ (n : Int) - 1) = true := by simp; omega
          by_cases hpo : o ≤ p
          · have hF : Hid (R = false) := by show R = false; rw [← hR.out]; exact HN.out (fun h => by have := h.2.2 (by omega); omega)
            have h2 : decide (o ≤ p) = true := by simp [hpo]
            clear HN HY hR h0 hpo
            go_wp2_with (go_at_call 32; refine (within7_any _ _ _ _).mono ?_; rintro e w2 ⟨rfl, rfl⟩; rw [h1])
            go_ret
            exact ⟨retB7 hF.out.symm, rfl⟩
          · have hT : Hid _ := HY.out ⟨h0.1, h0.2, fun h => by omega⟩
            have h2 : decide (o ≤ p) = false := by simp; omega
            clear HN HY hR h0 hpo
            go_wp2_with (go_at_call 32; refine (within7_any _ _ _ _).mono ?_; rintro e w2 ⟨rfl, rfl⟩; rw [h1])
            go_roundw
            case rel => exact ⟨k + 2, by go_num, by omega, hT, trivial⟩
            case measure => simp [intOf]; omega
        · have hF : Hid (R = false) := by show R = false; rw [← hR.out]; exact HN.out (by omega)
          have h1 : decide (0 ≤ o ∧ o ≤ (n : Int) - 1) = false := by simp; omega
          clear HN HY hR h0
          go_wp2_with (go_at_call 32; refine (within7_any _ _ _ _).mono ?_; rintro e w2 ⟨rfl, rfl⟩; rw [h1])
          go_ret
          exact ⟨retB7 hF.out.symm, rfl⟩
    · obtain rfl : k = os.length := by omega
      have hF : Hid (R = true) := by show R = true; rw [← hR.out]; exact EG.rises_yes hT.out
      clear hos hT hR
      go_wp2
      go_ret
      exact ⟨retB7 hF.out.symm, rfl⟩
end Go.Proofs.Ytjfnmhkhjaafkaa

/- Numbers that rise: l1Some of the specification. -/
namespace Go.Proofs.Ytjfnmhkhjaafkaa
open Go.RowKit
set_option maxHeartbeats 1600000 in
set_option maxRecDepth 100000 in
theorem l1Some_any (b : Option Addr) (cb : Nat) (n : Nat) (os : List Int) (w : World) (_hn : n ≤ 1048576) (ho : os.length ≤ 1048576) (hos : M4.IntsAt w b os) (R : Bool) (hR : Hid (EG.rises n os = R)) :
    Calls Try.prog 46 #[.slice b os.length cb, .int .i64 n] w fun e w' => e = .returned (.bool R) ∧ Below w.heap.size w w' := by
  go_enter Try.func46, Try.ntmps46
  go_wp2
  go_loopw [9] (fun iv wr => ∃ k : Nat, iv = .int .i64 k ∧ k ≤ os.length ∧ Hid (EG.riseUp n os k) ∧ Below w.heap.size w wr) (fun iv _ => (os.length - intOf iv).toNat)
  case atStart => exact ⟨0, rfl, by omega, show Hid _ from fun i hi => by omega, Below.refl _ _⟩
  case round =>
    obtain ⟨k, rfl, hk, hT, hb⟩ := hrel
    replace hos := hos.below hb
    by_cases hlk : k < os.length
    · have HN : Hid _ := fun h => EG.rises_no (n := n) hlk h
      have HY : Hid _ := fun h => EG.riseUp_succ hT.out (k := k) h
      cases k with
      | zero =>
        obtain ⟨b1, off1, rfl, hlt1, hc1⟩ := hos.at hlk
        clear hos hT
        rw [Nat.add_zero] at hc1
        generalize os.getD 0 0 = o at *
        rw [show ((0 : Nat) : Int) = 0 from rfl]
        by_cases h0 : 0 ≤ o
        · obtain ⟨j, rfl⟩ := Int.eq_ofNat_of_zero_le h0
          have h1 : decide ((j : Int) < 0) = false := by simp
          by_cases h3 : j < n
          · have hT : Hid _ := HY.out ⟨h0, by omega, fun h => by omega⟩
            have h2 : decide (n ≤ j) = false := by simp; omega
            clear HN HY hR h0
            go_wp2
            go_roundw
            case rel => exact ⟨1, by go_num, by omega, hT, hb⟩
            case measure => simp [intOf]; omega
          · have hF : Hid (R = false) := by show R = false; rw [← hR.out]; exact HN.out (by omega)
            have h2 : decide (n ≤ j) = true := by simp; omega
            clear HN HY hR h0
            go_wp2
            go_ret
            exact ⟨retB7 hF.out.symm, hb⟩
        · have hF : Hid (R = false) := by show R = false; rw [← hR.out]; exact HN.out (by omega)
          have h1 : decide (o < 0) = true := by simp; omega
          clear HN HY hR h0
          go_wp2
          go_ret
          exact ⟨retB7 hF.out.symm, hb⟩
      | succ k =>
        obtain ⟨b1, off1, rfl, hlt1, hc0, hc1⟩ := EG.ints_at2 hos hlk
        clear hos hT
        rw [Nat.add_sub_cancel] at HN HY
        generalize os.getD k 0 = p at *
        generalize os.getD (k + 1) 0 = o at *
        rw [show ((k + 1 : Nat) : Int) = (k : Int) + 1 from rfl]
        by_cases h0 : 0 ≤ o
        · obtain ⟨j, rfl⟩ := Int.eq_ofNat_of_zero_le h0
          have h1 : decide ((j : Int) < 0) = false := by simp
          by_cases h3 : j < n
          · have h2 : decide (n ≤ j) = false := by simp; omega
            by_cases hpo : (j : Int) ≤ p
            · have hF : Hid (R = false) := by show R = false; rw [← hR.out]; exact HN.out (fun h => by have := h.2.2 (by omega); omega)
              have h4 : decide ((j : Int) ≤ p) = true := by simp [hpo]
              clear HN HY hR h0 hpo
              go_wp2
              go_ret
              exact ⟨retB7 hF.out.symm, hb⟩
            · have hT : Hid _ := HY.out ⟨h0, by omega, fun h => by omega⟩
              have h4 : decide ((j : Int) ≤ p) = false := by simp; omega
              clear HN HY hR h0 hpo
              go_wp2
              go_roundw
              case rel => exact ⟨k + 2, by go_num, by omega, hT, hb⟩
              case measure => simp [intOf]; omega
          · have hF : Hid (R = false) := by show R = false; rw [← hR.out]; exact HN.out (by omega)
            have h2 : decide (n ≤ j) = true := by simp; omega
            clear HN HY hR h0
            go_wp2
            go_ret
            exact ⟨retB7 hF.out.symm, hb⟩
        · have hF : Hid (R = false) := by show R = false; rw [← hR.out]; exact HN.out (by omega)
          have h1 : decide (o < 0) = true := by simp; omega
          clear HN HY hR h0
          go_wp2
          go_ret
          exact ⟨retB7 hF.out.symm, hb⟩
    · obtain rfl : k = os.length := by omega
      have hF : Hid (R = true) := by show R = true; rw [← hR.out]; exact EG.rises_yes hT.out
      clear hos hT hR
      go_wp2
      go_ret
      exact ⟨retB7 hF.out.symm, hb⟩
end Go.Proofs.Ytjfnmhkhjaafkaa

/- The specification's l1In tells whether a number lies between two. -/
namespace Go.Proofs.Ytjfnmhkhjaafkaa
open Go.RowKit
set_option maxHeartbeats 400000 in
set_option maxRecDepth 100000 in
theorem l1In_any (n lo hi : Int) (w : World) : Calls Try.prog 48 #[.int .i64 n, .int .i64 lo, .int .i64 hi] w fun e w' => e = .returned (.bool (inB n lo hi)) ∧ w = w' := by
  by_cases h0 : lo ≤ n
  · by_cases h1 : n ≤ hi
    · go_enter Try.func48, Try.ntmps48
      go_wp2
      go_ret
      exact ⟨by simp [inB, h0, h1], rfl⟩
    · go_enter Try.func48, Try.ntmps48
      go_wp2
      go_ret
      exact ⟨by simp [inB]; omega, rfl⟩
  · go_enter Try.func48, Try.ntmps48
    go_wp2
    go_ret
    exact ⟨by simp [inB]; omega, rfl⟩
end Go.Proofs.Ytjfnmhkhjaafkaa

/- Whether a pairing is good: GoodPairing of both. -/
namespace Go.Proofs.Ytjfnmhkhjaafkaa
open Go.RowKit
namespace PG
noncomputable def good (l r : Int) (ws : List (List Int)) : Bool := decide (1 ≤ l ∧ l ≤ 8 ∧ 1 ≤ r ∧ r ≤ 8 ∧ (ws.length : Int) = l) && ws.all (EG.rises r.toNat)
def upTo (r : Int) (ws : List (List Int)) (k : Nat) : Prop := ∀ j, j < k → EG.rises r.toNat (NR.rw_ ws j) = true
theorem upTo_succ {r : Int} {ws : List (List Int)} {k : Nat} (h : upTo r ws k) (h1 : EG.rises r.toNat (NR.rw_ ws k) = true) : upTo r ws (k + 1) := fun j hj => by
  by_cases e : j = k
  · rw [e]; exact h1
  · exact h j (by omega)
theorem all_iff (r : Int) (ws : List (List Int)) : ws.all (EG.rises r.toNat) = true ↔ upTo r ws ws.length := by
  rw [List.all_eq_true]
  constructor
  · intro h j hj; rw [NR.rw_eq ws j hj]; exact h _ (List.getElem_mem _)
  · intro h x hx
    obtain ⟨j, hj, rfl⟩ := List.getElem_of_mem hx
    have := h j hj; rw [NR.rw_eq ws j hj] at this; exact this
theorem good_yes {l r : Int} {ws : List (List Int)} (h : 1 ≤ l ∧ l ≤ 8 ∧ 1 ≤ r ∧ r ≤ 8 ∧ (ws.length : Int) = l) (h2 : upTo r ws ws.length) : good l r ws = true := by
  rw [good, decide_eq_true h, (all_iff r ws).2 h2]; rfl
theorem good_no1 {l r : Int} {ws : List (List Int)} (h : ¬ (1 ≤ l ∧ l ≤ 8 ∧ 1 ≤ r ∧ r ≤ 8 ∧ (ws.length : Int) = l)) : good l r ws = false := by
  rw [good, decide_eq_false h]; rfl
theorem good_no2 {l r : Int} {ws : List (List Int)} {k : Nat} (hk : k < ws.length) (h : EG.rises r.toNat (NR.rw_ ws k) = false) : good l r ws = false := by
  have : ws.all (EG.rises r.toNat) = false := by
    cases c : ws.all (EG.rises r.toNat)
    · rfl
    · rw [(all_iff r ws).1 c k hk] at h; cases h
  rw [good, this, Bool.and_false]
theorem good_is {l r : Int} {ws : List (List Int)} (h : good l r ws = true) : (1 ≤ l ∧ l ≤ 8 ∧ 1 ≤ r ∧ r ≤ 8 ∧ (ws.length : Int) = l) ∧ upTo r ws ws.length := by
  rw [good, Bool.and_eq_true] at h
  exact ⟨of_decide_eq_true h.1, (all_iff r ws).1 h.2⟩
theorem rises_mem {n : Nat} {os : List Int} (h : EG.rises n os = true) {x : Int} (hx : x ∈ os) : 0 ≤ x ∧ x < n := by
  obtain ⟨j, hj, rfl⟩ := List.getElem_of_mem hx
  have := EG.rises_is h j hj
  rw [List.getD_eq_getElem?_getD, List.getElem?_eq_getElem hj] at this
  exact ⟨this.1, this.2.1⟩
/-- Whom a good pairing's lefts want. -/
theorem good_want {l r : Int} {ws : List (List Int)} (h : good l r ws = true) (j : Nat) (x : Int) (hx : x ∈ NR.rw_ ws j) : 0 ≤ x ∧ x < r := by
  obtain ⟨h1, h2⟩ := good_is h
  by_cases hj : j < ws.length
  · have := rises_mem (h2 j hj) hx; omega
  · simp [NR.rw_, List.getD_eq_getElem?_getD, List.getElem?_eq_none (Nat.le_of_not_lt hj)] at hx
theorem good_Gd {l r : Int} {ws : List (List Int)} (h : good l r ws = true) : Gd ws := fun j x hx => by
  have := good_want h j x hx
  have := (good_is h).1; omega
end PG
set_option maxHeartbeats 1600000 in
set_option maxRecDepth 100000 in
theorem l1Some_some (b : Option Addr) (cb : Nat) (n : Int) (os : List Int) (w : World) (ho : os.length ≤ 1048576) (hos : M4.IntsAt w b os) :
    Calls Try.prog 46 #[.slice b os.length cb, .int .i64 n] w fun e w' => (∃ R : Bool, e = .returned (.bool R)) ∧ Below w.heap.size w w' := by
  go_enter Try.func46, Try.ntmps46
  go_wp2
  go_loopw [9] (fun iv wr => ∃ k : Nat, iv = .int .i64 k ∧ k ≤ os.length ∧ Below w.heap.size w wr) (fun iv _ => (os.length - intOf iv).toNat)
  case atStart => exact ⟨0, rfl, by omega, Below.refl _ _⟩
  case round =>
    obtain ⟨k, rfl, hk, hb⟩ := hrel
    replace hos := hos.below hb
    by_cases hlk : k < os.length
    · cases k with
      | zero =>
        obtain ⟨b1, off1, rfl, hlt1, hc1⟩ := hos.at hlk
        clear hos
        rw [Nat.add_zero] at hc1
        generalize os.getD 0 0 = o at *
        rw [show ((0 : Nat) : Int) = 0 from rfl]
        obtain ⟨c1, h1⟩ : ∃ c, decide (o < 0) = c := ⟨_, rfl⟩
        obtain ⟨c2, h2⟩ : ∃ c, decide (n ≤ o) = c := ⟨_, rfl⟩
        cases c1 <;> cases c2
        · go_wp2
          go_roundw
          case rel => exact ⟨1, by go_num, by omega, hb⟩
          case measure => simp [intOf]; omega
        all_goals (go_wp2; go_ret; exact ⟨⟨_, rfl⟩, hb⟩)
      | succ k =>
        obtain ⟨b1, off1, rfl, hlt1, hc0, hc1⟩ := EG.ints_at2 hos hlk
        clear hos
        generalize os.getD k 0 = p at *
        generalize os.getD (k + 1) 0 = o at *
        rw [show ((k + 1 : Nat) : Int) = (k : Int) + 1 from rfl]
        obtain ⟨c1, h1⟩ : ∃ c, decide (o < 0) = c := ⟨_, rfl⟩
        obtain ⟨c2, h2⟩ : ∃ c, decide (n ≤ o) = c := ⟨_, rfl⟩
        obtain ⟨c3, h3⟩ : ∃ c, decide (o ≤ p) = c := ⟨_, rfl⟩
        cases c1 <;> cases c2 <;> cases c3
        · go_wp2
          go_roundw
          case rel => exact ⟨k + 2, by go_num, by omega, hb⟩
          case measure => simp [intOf]; omega
        all_goals (go_wp2; go_ret; exact ⟨⟨_, rfl⟩, hb⟩)
    · obtain rfl : k = os.length := by omega
      clear hos
      go_wp2
      go_ret
      exact ⟨⟨_, rfl⟩, hb⟩
set_option maxHeartbeats 1600000 in
set_option maxRecDepth 100000 in
theorem specGoodP_any (l r : Int) (a : Option Addr) (cap : Nat) (ws : List (List Int)) (w : World) (hz : ws.length ≤ 1048576) (ht : NR.tot ws ≤ 1048576) (hin : NR.RowsAt w a ws) (R : Bool) (hR : Hid (PG.good l r ws = R)) :
    Calls Try.prog 25 #[PG.pv l r (.slice a ws.length cap)] w fun e w' => e = .returned (.bool R) ∧ Below w.heap.size w w' := by
  have HI : Hid (NR.RowsAt w a ws) := hin
  clear hin
  have hB : Below w.heap.size w (w.alloc (Obj.cells #[.int .i64 l, .int .i64 r, .slice a ws.length cap] 25)) := (Below.refl _ _).alloc (Nat.le_refl _) _
  have hC : (w.alloc (Obj.cells #[.int .i64 l, .int .i64 r, .slice a ws.length cap] 25)).cell? ⟨w.heap.size, 0, none⟩ = some (.int .i64 l) ∧ (w.alloc (Obj.cells #[.int .i64 l, .int .i64 r, .slice a ws.length cap] 25)).cell? ⟨w.heap.size, 1, none⟩ = some (.int .i64 r) ∧ (w.alloc (Obj.cells #[.int .i64 l, .int .i64 r, .slice a ws.length cap] 25)).cell? ⟨w.heap.size, 2, none⟩ = some (.slice a ws.length cap) := by simp
  have hS : w.heap.size < (w.alloc (Obj.cells #[.int .i64 l, .int .i64 r, .slice a ws.length cap] 25)).heap.size := by simp
  go_enter Try.func25, Try.ntmps25
  go_wp2
  generalize w.alloc (Obj.cells #[.int .i64 l, .int .i64 r, .slice a ws.length cap] 25) = W at *
  go_loopw [8] (fun iv wr => ∃ k : Nat, iv = .int .i64 k ∧ k ≤ ws.length ∧ Hid (1 ≤ r ∧ r ≤ 8 → PG.upTo r ws k) ∧ Below W.heap.size W wr) (fun iv _ => (ws.length - intOf iv).toNat)
  case atStart => exact ⟨0, rfl, by omega, fun _ j hj => by omega, Below.refl _ _⟩
  case round =>
    obtain ⟨k, rfl, hk, hT, hb⟩ := hrel
    have c0 := (hb.cell (p := ⟨w.heap.size, 0, none⟩) hS).trans hC.1
    have c1 := (hb.cell (p := ⟨w.heap.size, 1, none⟩) hS).trans hC.2.1
    have c2 := (hb.cell (p := ⟨w.heap.size, 2, none⟩) hS).trans hC.2.2
    have hB2 := hB.trans (hb.mono hB.size)
    by_cases hl : k < ws.length
    · obtain ⟨b1, off1, a1, d1, rfl, hlt1, e1, _, i1⟩ := (HI.out.below hB2).at hl
      have hrt := NR.tot_row ws hl
      have SM : Hid (Calls Try.prog 46 #[.slice a1 (NR.rw_ ws k).length d1, .int .i64 r] wr fun e w' => (∃ R : Bool, e = .returned (.bool R) ∧ (1 ≤ r ∧ r ≤ 8 → EG.rises r.toNat (NR.rw_ ws k) = R)) ∧ Below wr.heap.size wr w') := by
        show Calls _ _ _ _ _
        by_cases hr : 1 ≤ r ∧ r ≤ 8
        · have := l1Some_any a1 d1 r.toNat (NR.rw_ ws k) wr (by omega) (by omega) i1 _ rfl
          rw [show ((r.toNat : Nat) : Int) = r from by omega] at this
          exact this.mono fun e w' ⟨h1, h2⟩ => ⟨⟨_, h1, fun _ => rfl⟩, h2⟩
        · exact (l1Some_some a1 d1 r (NR.rw_ ws k) wr (by omega) i1).mono fun e w' ⟨⟨R, h1⟩, h2⟩ => ⟨⟨R, h1, fun h => absurd h hr⟩, h2⟩
      have HY : Hid _ := fun (h : 1 ≤ r ∧ r ≤ 8) h1 => PG.upTo_succ (hT.out h) (k := k) h1
      have HN : Hid (∀ Q : Bool, Q = false → (1 ≤ r ∧ r ≤ 8 → EG.rises r.toNat (NR.rw_ ws k) = Q) → R = false) := fun Q e h => by
        rw [← hR.out]
        by_cases hr : 1 ≤ r ∧ r ≤ 8
        · exact PG.good_no2 hl (by rw [h hr, e])
        · exact PG.good_no1 (by omega)
      clear i1 hT hR HI
      generalize hrl : (NR.rw_ ws k).length = rl at *
      clear hrl
      go_wp2_with fail
      refine Calls.mono SM.out ?_
      rintro e w2 ⟨⟨Q, rfl, hQ⟩, hb2⟩
      have hb3 := hb.trans (hb2.mono hb.size)
      cases Q
      · have HF : Hid _ := HN.out false rfl hQ
        have hB3 := hB2.trans (hb2.mono hB2.size)
        clear SM HY HN hQ hb2
        go_wp2
        go_ret
        exact ⟨retB7 HF.out.symm, hB3⟩
      · have HT : Hid (1 ≤ r ∧ r ≤ 8 → PG.upTo r ws (k + 1)) := fun h => HY.out h (hQ h)
        clear SM HY HN hQ hb2
        go_wp2
        go_roundw
        case rel => exact ⟨k + 1, by go_num, by omega, HT, hb3⟩
        case measure => simp [intOf]; omega
    · obtain rfl : k = ws.length := by omega
      have HY : Hid (1 ≤ l ∧ l ≤ 8 ∧ 1 ≤ r ∧ r ≤ 8 ∧ (ws.length : Int) = l → R = true) := fun h => by rw [← hR.out]; exact PG.good_yes h (hT.out (by omega))
      have HN : Hid (¬ (1 ≤ l ∧ l ≤ 8 ∧ 1 ≤ r ∧ r ≤ 8 ∧ (ws.length : Int) = l) → R = false) := fun h => by rw [← hR.out]; exact PG.good_no1 h
      clear HI hT hR
      have LI : Hid (∀ (n : Int) (W : World) (b : Bool), decide (1 ≤ n ∧ n ≤ 8) = b → Calls Try.prog 48 #[.int .i64 n, .int .i64 1, .int .i64 8] W fun e w' => e = .returned (.bool b) ∧ W = w') := fun n W b hb => by
        have := l1In_any n 1 8 W
        rw [show inB n 1 8 = b from by rw [← hb]; unfold inB; simp [Bool.decide_and]] at this
        exact this
      clear hB hC
      obtain ⟨b1, hb1⟩ : ∃ c, decide (1 ≤ l ∧ l ≤ 8) = c := ⟨_, rfl⟩
      obtain ⟨b2, hb2⟩ : ∃ c, decide (1 ≤ r ∧ r ≤ 8) = c := ⟨_, rfl⟩
      obtain ⟨b3, hb3⟩ : ∃ c, decide ((ws.length : Int) = l) = c := ⟨_, rfl⟩
      have hb3' : ((ws.length : Int) == l) = b3 := by rw [← hb3]; rfl
      have HH : Hid ((b1 && b2 && b3) = R) := by
        show _ = _
        cases b1 <;> cases b2 <;> cases b3 <;> simp only [decide_eq_true_eq, decide_eq_false_iff_not] at hb1 hb2 hb3 <;> first | exact (HN.out (by omega)).symm | exact (HY.out (by omega)).symm
      have hL1 : Hid _ := fun W => LI.out l W b1 hb1
      have hL2 : Hid _ := fun W => LI.out r W b2 hb2
      clear HY HN LI hb1 hb2 hb3
      cases b1
      · go_wp2_with (go_at_call 48; refine (hL1.out _).mono ?_; rintro e w3 ⟨rfl, rfl⟩)
        go_ret
        exact ⟨retB7 HH.out, hB2⟩
      · cases b2
        · go_wp2_with (go_at_call 48; first | (refine (hL1.out _).mono ?_; rintro e w3 ⟨rfl, rfl⟩; clear hL1) | (refine (hL2.out _).mono ?_; rintro e w3 ⟨rfl, rfl⟩))
          go_ret
          exact ⟨retB7 HH.out, hB2⟩
        · cases b3
          all_goals (
            go_wp2_with (go_at_call 48; first | (refine (hL1.out _).mono ?_; rintro e w3 ⟨rfl, rfl⟩; clear hL1) | (refine (hL2.out _).mono ?_; rintro e w3 ⟨rfl, rfl⟩))
            go_ret
            exact ⟨retB7 HH.out, hB2⟩)
set_option maxHeartbeats 1600000 in
set_option maxRecDepth 100000 in
theorem implGoodP_any (l r : Int) (a : Option Addr) (cap : Nat) (ws : List (List Int)) (w : World) (hz : ws.length ≤ 1048576) (ht : NR.tot ws ≤ 1048576) (hin : NR.RowsAt w a ws) (R : Bool) (hR : Hid (PG.good l r ws = R)) :
    Calls Try.prog 11 #[PG.pv l r (.slice a ws.length cap)] w fun e w' => e = .returned (.bool R) ∧ Below w.heap.size w w' := by
  have HI : Hid (NR.RowsAt w a ws) := hin
  clear hin
  have hB : Below w.heap.size w (w.alloc (Obj.cells #[.int .i64 l, .int .i64 r, .slice a ws.length cap] 25)) := (Below.refl _ _).alloc (Nat.le_refl _) _
  have hC : (w.alloc (Obj.cells #[.int .i64 l, .int .i64 r, .slice a ws.length cap] 25)).cell? ⟨w.heap.size, 0, none⟩ = some (.int .i64 l) ∧ (w.alloc (Obj.cells #[.int .i64 l, .int .i64 r, .slice a ws.length cap] 25)).cell? ⟨w.heap.size, 1, none⟩ = some (.int .i64 r) ∧ (w.alloc (Obj.cells #[.int .i64 l, .int .i64 r, .slice a ws.length cap] 25)).cell? ⟨w.heap.size, 2, none⟩ = some (.slice a ws.length cap) := by simp
  have hS : w.heap.size < (w.alloc (Obj.cells #[.int .i64 l, .int .i64 r, .slice a ws.length cap] 25)).heap.size := by simp
  have LI : Hid (∀ (n : Int) (W : World) (b : Bool), decide (1 ≤ n ∧ n ≤ 8) = b → Calls Try.prog 32 #[.int .i64 n, .int .i64 1, .int .i64 8] W fun e w' => e = .returned (.bool b) ∧ W = w') := fun n W b hb => by rw [← hb]; exact within7_any n 1 8 W
  obtain ⟨b1, hb1⟩ : ∃ c, decide (1 ≤ l ∧ l ≤ 8) = c := ⟨_, rfl⟩
  obtain ⟨b2, hb2⟩ : ∃ c, decide (1 ≤ r ∧ r ≤ 8) = c := ⟨_, rfl⟩
  obtain ⟨b3, hb3⟩ : ∃ c, decide ((ws.length : Int) = l) = c := ⟨_, rfl⟩
  have hb3' : ((ws.length : Int) != l) = !b3 := by rw [← hb3]; rfl
  have hL1 : Hid _ := fun W => LI.out l W b1 hb1
  have hL2 : Hid _ := fun W => LI.out r W b2 hb2
  clear LI
  by_cases hAll : b1 = true ∧ b2 = true ∧ b3 = true
  · obtain ⟨rfl, rfl, rfl⟩ := hAll
    have hg : 1 ≤ l ∧ l ≤ 8 ∧ 1 ≤ r ∧ r ≤ 8 ∧ (ws.length : Int) = l := by simp only [decide_eq_true_eq] at hb1 hb2 hb3; omega
    have hr1 : 1 ≤ r := hg.2.2.1
    have hr8 : r ≤ 8 := hg.2.2.2.1
    have HG : Hid _ := hg
    clear hg hb1 hb2 hb3
    simp only [Bool.not_true] at hb3'
    go_enter Try.func11, Try.ntmps11
    go_wp2_with (go_at_call 32; first | (refine (hL1.out _).mono ?_; rintro e w3 ⟨rfl, rfl⟩; clear hL1) | (refine (hL2.out _).mono ?_; rintro e w3 ⟨rfl, rfl⟩))
    clear hL2
    generalize w.alloc (Obj.cells #[.int .i64 l, .int .i64 r, .slice a ws.length cap] 25) = W at *
    go_loopw [26] (fun iv wr => ∃ k : Nat, iv = .int .i64 k ∧ k ≤ ws.length ∧ Hid (PG.upTo r ws k) ∧ Below W.heap.size W wr) (fun iv _ => (ws.length - intOf iv).toNat)
    case atStart => exact ⟨0, rfl, by omega, fun j hj => by omega, Below.refl _ _⟩
    case round =>
      obtain ⟨k, rfl, hk, hT, hb⟩ := hrel
      have c0 := (hb.cell (p := ⟨w.heap.size, 0, none⟩) hS).trans hC.1
      have c1 := (hb.cell (p := ⟨w.heap.size, 1, none⟩) hS).trans hC.2.1
      have c2 := (hb.cell (p := ⟨w.heap.size, 2, none⟩) hS).trans hC.2.2
      have hB2 := hB.trans (hb.mono hB.size)
      by_cases hl : k < ws.length
      · obtain ⟨b1, off1, a1, d1, rfl, hlt1, e1, _, i1⟩ := (HI.out.below hB2).at hl
        have hrt := NR.tot_row ws hl
        obtain ⟨Q, hQ⟩ : ∃ Q, EG.rises r.toNat (NR.rw_ ws k) = Q := ⟨_, rfl⟩
        have SM : Hid (Calls Try.prog 33 #[.slice a1 (NR.rw_ ws k).length d1, .int .i64 (r - 1)] wr fun e w' => e = .returned (.bool Q) ∧ wr = w') := by
          show Calls _ _ _ _ _
          have := areRising_any a1 d1 r.toNat (NR.rw_ ws k) wr (by omega) (by omega) i1 Q hQ
          rw [show ((r.toNat : Nat) : Int) = r from by omega] at this
          exact this
        have HY : Hid _ := fun h1 => PG.upTo_succ hT.out (k := k) h1
        have HN : Hid (EG.rises r.toNat (NR.rw_ ws k) = false → R = false) := fun h => by rw [← hR.out]; exact PG.good_no2 hl h
        rw [hQ] at HY HN
        clear i1 hT hR HI hQ
        generalize hrl : (NR.rw_ ws k).length = rl at *
        clear hrl
        go_wp2_with fail
        refine Calls.mono SM.out ?_
        rintro e w2 ⟨rfl, rfl⟩
        cases Q
        · have HF : Hid _ := HN.out rfl
          clear SM HY HN
          go_wp2
          go_ret
          exact ⟨retB7 HF.out.symm, hB2⟩
        · have HT : Hid _ := HY.out rfl
          clear SM HY HN
          go_wp2
          go_roundw
          case rel => exact ⟨k + 1, by go_num, by omega, HT, hb⟩
          case measure => simp [intOf]; omega
      · obtain rfl : k = ws.length := by omega
        have HF : Hid (R = true) := by show _ = _; rw [← hR.out]; exact PG.good_yes HG.out hT.out
        clear HI hT hR
        go_wp2
        go_ret
        exact ⟨retB7 HF.out.symm, hB2⟩
  · have HF : Hid (R = false) := by
      show _ = _
      rw [← hR.out]
      refine PG.good_no1 (fun h => hAll ⟨?_, ?_, ?_⟩)
      · rw [← hb1, decide_eq_true_eq]; omega
      · rw [← hb2, decide_eq_true_eq]; omega
      · rw [← hb3, decide_eq_true_eq]; omega
    clear hR HI hb1 hb2 hb3
    cases b1
    · go_enter Try.func11, Try.ntmps11
      go_wp2_with (go_at_call 32; refine (hL1.out _).mono ?_; rintro e w3 ⟨rfl, rfl⟩)
      go_ret
      exact ⟨retB7 HF.out.symm, hB⟩
    · cases b2
      · go_enter Try.func11, Try.ntmps11
        go_wp2_with (go_at_call 32; first | (refine (hL1.out _).mono ?_; rintro e w3 ⟨rfl, rfl⟩; clear hL1) | (refine (hL2.out _).mono ?_; rintro e w3 ⟨rfl, rfl⟩))
        go_ret
        exact ⟨retB7 HF.out.symm, hB⟩
      · cases b3
        · simp only [Bool.not_false] at hb3'
          go_enter Try.func11, Try.ntmps11
          go_wp2_with (go_at_call 32; first | (refine (hL1.out _).mono ?_; rintro e w3 ⟨rfl, rfl⟩; clear hL1) | (refine (hL2.out _).mono ?_; rintro e w3 ⟨rfl, rfl⟩))
          go_ret
          exact ⟨retB7 HF.out.symm, hB⟩
        · exact absurd ⟨rfl, rfl, rfl⟩ hAll
end Go.Proofs.Ytjfnmhkhjaafkaa
