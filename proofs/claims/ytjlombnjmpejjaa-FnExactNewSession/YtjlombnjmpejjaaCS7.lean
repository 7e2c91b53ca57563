/- The laws' functions over rows of truth values and over sessions whose links are empty. -/
import Derived.Test.YtjlombnjmpejjaaRows
import Derived.Test.YtjlombnjmpejjaaMS
import Derived.Test.YtjlombnjmpejjaaMRH
import Derived.Deep.QuietTactic
import Derived.BigQuiet
import Derived.WalkKit
import Derived.WalkSpells
import Derived.WalkLawsBesides
import Derived.Outline
namespace Go.Proofs.Ytjlombnjmpejjaa
open Go.RowKit
def mkT (k n : Nat) : List Bool := (List.range n).map fun i => ((k + i : Nat) : Int) % 3 == 0
theorem mkT_len (k n : Nat) : (mkT k n).length = n := by simp [mkT]
theorem mkT_at {k n i : Nat} (h : i < n) : (mkT k n).getD i false = (((k + i : Nat) : Int) % 3 == 0) := by simp [mkT, h]
def mixT (k : Nat) (l : List Bool) (i : Nat) : List Bool := mkT k i ++ l.drop i
theorem mixT_len {k i : Nat} {l : List Bool} (h : i ≤ l.length) : (mixT k l i).length = l.length := by simp [mixT, mkT_len]; omega
theorem mixT_zero (k : Nat) (l : List Bool) : mixT k l 0 = l := by simp [mixT, mkT]
theorem mixT_all (k : Nat) (l : List Bool) : mixT k l l.length = mkT k l.length := by simp [mixT]
theorem mixT_set {k i x : Nat} {l : List Bool} (h : i < l.length) (hx : x = k + i) : (SE.bl (mixT k l i)).set i (.bool ((x : Int) % 3 == 0)) = SE.bl (mixT k l (i + 1)) := by
  subst hx
  have e : l.drop i = l[i] :: l.drop (i + 1) := List.drop_eq_getElem_cons h
  have e2 : mkT k (i + 1) = mkT k i ++ [((k + i : Nat) : Int) % 3 == 0] := by simp [mkT, List.range_succ]
  unfold mixT SE.bl
  rw [e, e2]
  generalize l.drop (i + 1) = r
  generalize l[i] = y
  have hm : ((mkT k i).map Value.bool).length = i := by rw [List.length_map, mkT_len]
  rw [List.map_append, List.map_append, List.map_append, List.map_cons, List.set_append_right _ _ (by omega), hm, Nat.sub_self, List.set_cons_zero, List.append_assoc]
  rfl
set_option maxHeartbeats 800000 in
set_option maxRecDepth 100000 in
theorem eqBoolS_self (a b : Option Addr) (ca cb : Nat) (l : List Bool) (w : World) (hx : l.length ≤ 1048576) (hax : SE.BoolsAt w a l) (hay : SE.BoolsAt w b l) :
    Calls Try.prog 34 #[.slice a l.length ca, .slice b l.length cb] w fun e w' => e = .returned (.bool true) ∧ Below w.heap.size w w' := by
  go_enter Try.func34, Try.ntmps34
  go_wp2
  go_loopw [5] (fun iv wr => ∃ k : Nat, iv = .int .i64 k ∧ k ≤ l.length ∧ Below w.heap.size w wr) (fun iv _ => (l.length - intOf iv).toNat)
  case atStart => exact ⟨0, rfl, by omega, Below.refl _ _⟩
  case round =>
    obtain ⟨k, rfl, hk, hb⟩ := hrel
    by_cases hl : k < l.length
    · obtain ⟨b1, rfl, hlt1, hc1, _⟩ := (hax.below hb).at hl
      obtain ⟨b2, rfl, hlt2, hc2, _⟩ := (hay.below hb).at hl
      clear hax hay
      generalize l.getD k false = x at *
      have hk0 : (0 : Int) ≤ (k : Int) := by omega
      have hk1 : (k : Int) < (l.length : Int) := by omega
      go_wp2
      go_quiet (fail)
      go_wp2
      go_roundw
      case rel => exact ⟨k + 1, by go_num, by omega, below_drewN hb _⟩
      case measure => simp [intOf]; omega
    · obtain rfl : k = l.length := by omega
      go_wp2
      go_ret
      exact ⟨rfl, hb⟩
set_option linter.unusedSimpArgs false in
set_option maxHeartbeats 800000 in
set_option maxRecDepth 100000 in
theorem markT_any (a : Option Addr) (g cap k : Nat) (l : List Bool) (w : World) (hz : l.length ≤ 1048576) (hk : k ≤ 2000000) (hin : l.length = 0 ∨ (a = some ⟨g, 0, none⟩ ∧ MA.Rg w g 0 (SE.bl l))) :
    Calls Try.prog 37 #[.slice a l.length cap, .int .i64 (k : Int)] w fun e w' => e = .returned (.int .i64 ((k + l.length : Nat) : Int)) ∧ MC.Only g w w' ∧ (l.length = 0 ∨ MA.Rg w' g 0 (SE.bl (mkT k l.length))) := by
  have HIN : Hid (l.length = 0 ∨ (a = some ⟨g, 0, none⟩ ∧ MA.Rg w g 0 (SE.bl l))) := hin
  clear hin
  go_enter Try.func37, Try.ntmps37
  go_wp2
  go_loopw [1, 5] (fun kv iv wr => ∃ i x : Nat, kv = .int .i64 (x : Int) ∧ iv = .int .i64 i ∧ Hid (i ≤ l.length ∧ x = k + i) ∧ Hid (l.length = 0 ∨ (a = some ⟨g, 0, none⟩ ∧ MA.Rg wr g 0 (SE.bl (mixT k l i)))) ∧ MC.Only g w wr) (fun _ iv _ => (l.length - intOf iv).toNat)
  case atStart => exact ⟨0, k, rfl, rfl, ⟨by omega, by omega⟩, by rw [mixT_zero]; exact HIN, MC.Only.refl _ _⟩
  case round =>
    clear HIN
    obtain ⟨i, x, rfl, rfl, HX, HIN, hO⟩ := hrel
    by_cases hl : i < l.length
    · have hR : a = some ⟨g, 0, none⟩ ∧ MA.Rg wr g 0 (SE.bl (mixT k l i)) := by rcases HIN.out with h | h; omega; exact h
      obtain ⟨rfl, hR⟩ := hR
      have hlen : (mixT k l i).length = l.length := mixT_len (by omega)
      have hx0 : x ≤ 20000000 := by have := HX.out; omega
      have c := CB.c_of hR (SE.bl_get (l := mixT k l i) (j := i) (by omega))
      have f := CB.f_of hR (j := i) (by rw [SE.bl_len]; omega)
      have p1 := CB.put1 hR (j := i) (by rw [SE.bl_len]; omega) (.bool ((x : Int) % 3 == 0))
      rw [mixT_set hl HX.out.2] at p1
      have HP : Hid _ := p1
      have HO : Hid _ := hO.setCell i (.bool ((x : Int) % 3 == 0))
      have hi0 : (0 : Int) ≤ (i : Int) := by omega
      have hi1 : (i : Int) < (l.length : Int) := by omega
      clear p1 hR HIN hlen hO
      generalize (mixT k l i).getD i false = u at *
      go_wp2
      go_roundw
      case rel => exact ⟨i + 1, x + 1, by go_num, by go_num, ⟨by omega, by have := HX.out.2; omega⟩, .inr ⟨by trivial, HP.out⟩, HO.out⟩
      case measure => simp [intOf]; omega
    · have hi : i = l.length := by have := HX.out.1; omega
      have HXX : Hid (x = k + l.length) := by rw [← hi]; exact HX.out.2
      have HI2 : Hid (l.length = 0 ∨ MA.Rg wr g 0 (SE.bl (mkT k l.length))) := HIN.out.imp id fun h => by have := h.2; rwa [hi, mixT_all] at this
      have hi2 : ¬ (i : Int) < (l.length : Int) := by omega
      clear HIN HX hi
      go_wp2
      go_ret
      exact ⟨congrArg (fun z : Nat => Ending.returned (.int .i64 (z : Int))) HXX.out, hO, HI2.out.imp List.eq_nil_of_length_eq_zero id⟩
set_option linter.unusedSimpArgs false in
set_option maxHeartbeats 800000 in
set_option maxRecDepth 100000 in
theorem heldT_any (a : Option Addr) (g n cap k : Nat) (w : World) (hz : n ≤ 1048576) (hk : k ≤ 2000000) (hin : n = 0 ∨ (a = some ⟨g, 0, none⟩ ∧ MA.Rg w g 0 (SE.bl (mkT k n)))) :
    Calls Try.prog 38 #[.slice a n cap, .int .i64 (k : Int)] w fun e w' => e = .returned (.int .i64 ((k + n : Nat) : Int)) ∧ w = w' := by
  have HIN : Hid (n = 0 ∨ (a = some ⟨g, 0, none⟩ ∧ MA.Rg w g 0 (SE.bl (mkT k n)))) := hin
  clear hin
  go_enter Try.func38, Try.ntmps38
  go_wp2
  go_loopw [1, 5] (fun kv iv wr => ∃ i x : Nat, kv = .int .i64 (x : Int) ∧ iv = .int .i64 i ∧ Hid (i ≤ n ∧ x = k + i) ∧ Hid (w = wr)) (fun _ iv _ => (n - intOf iv).toNat)
  case atStart => exact ⟨0, k, rfl, rfl, ⟨by omega, by omega⟩, rfl⟩
  case round =>
    obtain ⟨i, x, rfl, rfl, HX, HW⟩ := hrel
    obtain rfl := HW.out
    clear HW
    by_cases hl : i < n
    · have hR : a = some ⟨g, 0, none⟩ ∧ MA.Rg w g 0 (SE.bl (mkT k n)) := by rcases HIN.out with h | h; omega; exact h
      obtain ⟨rfl, hR⟩ := hR
      have hx0 : x ≤ 20000000 := by have := HX.out; omega
      have c := CB.c_of hR (SE.bl_get (l := mkT k n) (j := i) (by rw [mkT_len]; exact hl))
      rw [mkT_at hl, ← HX.out.2] at c
      have hi0 : (0 : Int) ≤ (i : Int) := by omega
      have hi1 : (i : Int) < (n : Int) := by omega
      clear hR
      go_wp2
      go_roundw
      case rel => exact ⟨i + 1, x + 1, by go_num, by go_num, ⟨by omega, by have := HX.out.2; omega⟩, trivial⟩
      case measure => simp [intOf]; omega
    · obtain rfl : i = n := by have := HX.out.1; omega
      have HXX : Hid (x = k + i) := HX.out.2
      clear HX HIN
      go_wp2
      go_ret
      exact ⟨congrArg (fun z : Nat => Ending.returned (.int .i64 (z : Int))) HXX.out, rfl⟩
set_option maxRecDepth 100000 in
theorem eqSegmentS_nil (w : World) : Calls Try.prog 61 #[.slice none 0 0, .slice none 0 0] w fun e w' => e = .returned (.bool true) ∧ w = w' := by
  go_enter Try.func61, Try.ntmps61
  go_wp2
  refine wp_loop_rounds 1 ?_
  rw [rounds_succ]
  go_wp2
  go_ret
  exact ⟨rfl, rfl⟩
set_option maxRecDepth 100000 in
theorem markSegmentS_nil (k : Int) (w : World) : Calls Try.prog 62 #[.slice none 0 0, .int .i64 k] w fun e w' => e = .returned (.int .i64 k) ∧ w = w' := by
  go_enter Try.func62, Try.ntmps62
  go_wp2
  refine wp_loop_rounds 1 ?_
  rw [rounds_succ]
  go_wp2
  go_ret
  exact ⟨rfl, rfl⟩
set_option maxRecDepth 100000 in
theorem heldSegmentS_nil (k : Int) (w : World) : Calls Try.prog 63 #[.slice none 0 0, .int .i64 k] w fun e w' => e = .returned (.int .i64 k) ∧ w = w' := by
  go_enter Try.func63, Try.ntmps63
  go_wp2
  refine wp_loop_rounds 1 ?_
  rw [rounds_succ]
  go_wp2
  go_ret
  exact ⟨rfl, rfl⟩
set_option linter.unusedSimpArgs false in
set_option maxHeartbeats 800000 in
set_option maxRecDepth 100000 in
theorem eqSession_nil (B Y : ByteArray) (D : Bool) (a1 a2 a3 a4 : Option Addr) (k1 k2 k3 k4 : Nat) (l m : List Bool) (w : World) (hl : l.length ≤ 1048576) (hm : m.length ≤ 1048576) (h1 : SE.BoolsAt w a1 l) (h2 : SE.BoolsAt w a2 m) (h3 : SE.BoolsAt w a3 l) (h4 : SE.BoolsAt w a4 m) :
    Calls Try.prog 20 #[.agg (SE.sv B (.slice a1 l.length k1) (.slice a2 m.length k2) Y D (.slice none 0 0) (.slice none 0 0)).toArray, .agg (SE.sv B (.slice a3 l.length k3) (.slice a4 m.length k4) Y D (.slice none 0 0) (.slice none 0 0)).toArray] w fun e w' => e = .returned (.bool true) ∧ Below w.heap.size w w' := by
  have r0 := (MA.Rg.new w (SE.sv B (.slice a1 l.length k1) (.slice a2 m.length k2) Y D (.slice none 0 0) (.slice none 0 0)) 43).alloc (.cells (SE.sv B (.slice a3 l.length k3) (.slice a4 m.length k4) Y D (.slice none 0 0) (.slice none 0 0)).toArray 43)
  have r1 := MA.Rg.new' (w.alloc (.cells (SE.sv B (.slice a1 l.length k1) (.slice a2 m.length k2) Y D (.slice none 0 0) (.slice none 0 0)).toArray 43)) (SE.sv B (.slice a3 l.length k3) (.slice a4 m.length k4) Y D (.slice none 0 0) (.slice none 0 0)) 43 (w.heap.size + 1) (by simp)
  have hb : Below w.heap.size w ((w.alloc (.cells (SE.sv B (.slice a1 l.length k1) (.slice a2 m.length k2) Y D (.slice none 0 0) (.slice none 0 0)).toArray 43)).alloc (.cells (SE.sv B (.slice a3 l.length k3) (.slice a4 m.length k4) Y D (.slice none 0 0) (.slice none 0 0)).toArray 43)) := ((Below.refl _ w).alloc (Nat.le_refl _) _).alloc (by simp) _
  have HH : Hid (∀ W, Below w.heap.size w W → SE.BoolsAt W a1 l ∧ SE.BoolsAt W a2 m ∧ SE.BoolsAt W a3 l ∧ SE.BoolsAt W a4 m) := fun W hW => ⟨h1.below hW, h2.below hW, h3.below hW, h4.below hW⟩
  have EL : Hid (∀ W, SE.BoolsAt W a1 l → SE.BoolsAt W a3 l → Calls Try.prog 34 #[.slice a1 l.length k1, .slice a3 l.length k3] W fun e w' => e = .returned (.bool true) ∧ Below W.heap.size W w') := fun W x y => eqBoolS_self a1 a3 k1 k3 l W hl x y
  have EM : Hid (∀ W, SE.BoolsAt W a2 m → SE.BoolsAt W a4 m → Calls Try.prog 34 #[.slice a2 m.length k2, .slice a4 m.length k4] W fun e w' => e = .returned (.bool true) ∧ Below W.heap.size W w') := fun W x y => eqBoolS_self a2 a4 k2 k4 m W hm x y
  have ES : Hid (∀ W, Calls Try.prog 61 #[.slice none 0 0, .slice none 0 0] W fun e w' => e = .returned (.bool true) ∧ W = w') := fun W => eqSegmentS_nil W
  clear h1 h2 h3 h4 hl hm
  have HR : Hid _ := And.intro r0 (And.intro r1 hb)
  clear r0 r1 hb
  go_enter Try.func20, Try.ntmps20
  generalize hW : (w.alloc (.cells (SE.sv B (.slice a1 l.length k1) (.slice a2 m.length k2) Y D (.slice none 0 0) (.slice none 0 0)).toArray 43)).alloc (.cells (SE.sv B (.slice a3 l.length k3) (.slice a4 m.length k4) Y D (.slice none 0 0) (.slice none 0 0)).toArray 43) = W0 at HR
  have c0 := CB.c_of HR.out.1 (j := 0) rfl
  have c1 := CB.c_of HR.out.1 (j := 1) rfl
  have c2 := CB.c_of HR.out.1 (j := 2) rfl
  have c3 := CB.c_of HR.out.1 (j := 3) rfl
  have c4 := CB.c_of HR.out.1 (j := 4) rfl
  have c5 := CB.c_of HR.out.1 (j := 5) rfl
  have c6 := CB.c_of HR.out.1 (j := 6) rfl
  have d0 := CB.c_of HR.out.2.1 (j := 0) rfl
  have d1 := CB.c_of HR.out.2.1 (j := 1) rfl
  have d2 := CB.c_of HR.out.2.1 (j := 2) rfl
  have d3 := CB.c_of HR.out.2.1 (j := 3) rfl
  have d4 := CB.c_of HR.out.2.1 (j := 4) rfl
  have d5 := CB.c_of HR.out.2.1 (j := 5) rfl
  have d6 := CB.c_of HR.out.2.1 (j := 6) rfl
  go_wp2_with fail
  clear hW
  refine (EL.out _ (HH.out _ HR.out.2.2).1 (HH.out _ HR.out.2.2).2.2.1).mono ?_
  rintro e w1 ⟨rfl, hb1⟩
  replace HR : Hid _ := And.intro (HR.out.1.below hb1 HR.out.1.lt) (And.intro (HR.out.2.1.below hb1 HR.out.2.1.lt) (HR.out.2.2.trans (hb1.mono HR.out.2.2.size)))
  clear c0 d0 c1 d1 c2 d2 c3 d3 c4 d4 c5 d5 c6 d6
  clear hb1 EL
  have c0 := CB.c_of HR.out.1 (j := 0) rfl
  have c1 := CB.c_of HR.out.1 (j := 1) rfl
  have c2 := CB.c_of HR.out.1 (j := 2) rfl
  have c3 := CB.c_of HR.out.1 (j := 3) rfl
  have c4 := CB.c_of HR.out.1 (j := 4) rfl
  have c5 := CB.c_of HR.out.1 (j := 5) rfl
  have c6 := CB.c_of HR.out.1 (j := 6) rfl
  have d0 := CB.c_of HR.out.2.1 (j := 0) rfl
  have d1 := CB.c_of HR.out.2.1 (j := 1) rfl
  have d2 := CB.c_of HR.out.2.1 (j := 2) rfl
  have d3 := CB.c_of HR.out.2.1 (j := 3) rfl
  have d4 := CB.c_of HR.out.2.1 (j := 4) rfl
  have d5 := CB.c_of HR.out.2.1 (j := 5) rfl
  have d6 := CB.c_of HR.out.2.1 (j := 6) rfl
  go_wp2_with fail
  refine (EM.out _ (HH.out _ HR.out.2.2).2.1 (HH.out _ HR.out.2.2).2.2.2).mono ?_
  rintro e w2 ⟨rfl, hb1⟩
  replace HR : Hid _ := And.intro (HR.out.1.below hb1 HR.out.1.lt) (And.intro (HR.out.2.1.below hb1 HR.out.2.1.lt) (HR.out.2.2.trans (hb1.mono HR.out.2.2.size)))
  clear c0 d0 c1 d1 c2 d2 c3 d3 c4 d4 c5 d5 c6 d6
  clear hb1 EM HH
  have c0 := CB.c_of HR.out.1 (j := 0) rfl
  have c1 := CB.c_of HR.out.1 (j := 1) rfl
  have c2 := CB.c_of HR.out.1 (j := 2) rfl
  have c3 := CB.c_of HR.out.1 (j := 3) rfl
  have c4 := CB.c_of HR.out.1 (j := 4) rfl
  have c5 := CB.c_of HR.out.1 (j := 5) rfl
  have c6 := CB.c_of HR.out.1 (j := 6) rfl
  have d0 := CB.c_of HR.out.2.1 (j := 0) rfl
  have d1 := CB.c_of HR.out.2.1 (j := 1) rfl
  have d2 := CB.c_of HR.out.2.1 (j := 2) rfl
  have d3 := CB.c_of HR.out.2.1 (j := 3) rfl
  have d4 := CB.c_of HR.out.2.1 (j := 4) rfl
  have d5 := CB.c_of HR.out.2.1 (j := 5) rfl
  have d6 := CB.c_of HR.out.2.1 (j := 6) rfl
  go_wp2_with fail
  refine (ES.out _).mono ?_
  rintro e w3 ⟨rfl, rfl⟩
  go_wp2_with fail
  refine (ES.out _).mono ?_
  rintro e w3 ⟨rfl, rfl⟩
  go_wp2
  go_ret
  exact ⟨rfl, HR.out.2.2⟩
end Go.Proofs.Ytjlombnjmpejjaa
