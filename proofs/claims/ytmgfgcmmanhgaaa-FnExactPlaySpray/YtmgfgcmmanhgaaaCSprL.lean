/- The laws' own functions on a spray: szSpray, toSpray, eqSpray, markSpray, heldSpray. -/
import Derived.Test.YtmgfgcmmanhgaaaRows
import Derived.Test.YtmgfgcmmanhgaaaM5
import Derived.Test.YtmgfgcmmanhgaaaMCur
import Derived.Test.YtmgfgcmmanhgaaaCToIntO
import Derived.Test.YtmgfgcmmanhgaaaCEqIntS
import Derived.Test.YtmgfgcmmanhgaaaCMarkIntS
import Derived.Test.YtmgfgcmmanhgaaaMSpr
import Derived.Maps.Range
import Derived.WalkKit
import Derived.WalkSpells
import Derived.WalkLawsBesides
import Derived.Outline
namespace Go.Proofs.Ytmgfgcmmanhgaaa
open Go.RowKit
/-- A spray as a value. -/
abbrev SP.sv (v : Value) (t : Int) (th : Bool) : Value := .agg #[v, .int .i64 t, .bool th]
set_option maxHeartbeats 800000 in
set_option maxRecDepth 100000 in
theorem szIntS_spr (a : Option Addr) (m cap : Nat) (left : Int) (w : World) (h1 : left ≤ 1048576) (h0 : 0 ≤ left) (hm : m ≤ 9223372036854775807) :
    Calls Try.prog 19 #[.slice a m cap, .int .i64 left] w fun e w' => e = .returned (.int .i64 (if (m : Int) ≤ left then left - m else -1)) ∧ w = w' := by
  by_cases h : (m : Int) ≤ left
  · rw [if_pos h]
    go_enter Try.func19, Try.ntmps19
    go_wp2
    go_ret
    exact ⟨rfl, rfl⟩
  · rw [if_neg h]
    go_enter Try.func19, Try.ntmps19
    go_wp2
    go_ret
    exact ⟨rfl, rfl⟩
set_option maxHeartbeats 800000 in
set_option maxRecDepth 100000 in
theorem szSpray_any (a : Option Addr) (m cap : Nat) (t : Int) (th : Bool) (w : World) (hm : m ≤ 9223372036854775807) :
    Calls Try.prog 5 #[SP.sv (.slice a m cap) t th, .int .i64 1048576] w fun e w' => ∃ r : Int, e = .returned (.int .i64 r) ∧ (r < 0 ∨ 0 ≤ r ∧ m ≤ 1048576) ∧ Below w.heap.size w w' := by
  have SZ : Hid (∀ W : World, Calls Try.prog 19 #[.slice a m cap, .int .i64 1048576] W fun e w' => e = .returned (.int .i64 (if (m : Int) ≤ 1048576 then 1048576 - m else -1)) ∧ W = w') := fun W => szIntS_spr a m cap 1048576 W (by omega) (by omega) hm
  have BX : Below w.heap.size w (w.alloc (.cells #[.slice a m cap, .int .i64 t, .bool th] 24)) := (Below.refl _ _).alloc (Nat.le_refl _) _
  by_cases h : (m : Int) ≤ 1048576
  · simp only [if_pos h] at SZ
    go_enter Try.func5, Try.ntmps5
    go_wp2_with fail
    refine (SZ.out _).mono ?_
    rintro e w1 ⟨rfl, rfl⟩
    go_wp2
    go_ret
    exact ⟨_, rfl, .inr ⟨by omega, by omega⟩, BX⟩
  · simp only [if_neg h] at SZ
    go_enter Try.func5, Try.ntmps5
    go_wp2_with fail
    refine (SZ.out _).mono ?_
    rintro e w1 ⟨rfl, rfl⟩
    go_wp2
    go_ret
    exact ⟨_, rfl, .inl (by omega), BX⟩
set_option linter.unusedSimpArgs false in
set_option maxHeartbeats 1600000 in
set_option maxRecDepth 100000 in
theorem toSpray_own (a : Option Addr) (cap : Nat) (zs : List Int) (t : Int) (th : Bool) (w : World) (hz : zs.length ≤ 1048576) (hin : M4.IntsAt w a zs) :
    Calls Try.prog 7 #[SP.sv (.slice a zs.length cap) t th] w fun e w' => ∃ g, e = .returned (SP.sv (.slice (some ⟨g, 0, none⟩) zs.length zs.length) t th) ∧ w'.ownsRow w.heap.size 3 1 (.slice (some ⟨g, 0, none⟩) zs.length zs.length) zs.length (M4.iv zs) ∧ Below w.heap.size w w' := by
  have TO : Hid (∀ W : World, Below w.heap.size w W → Calls Try.prog 22 #[.slice a zs.length cap] W fun e w' => ∃ g, e = .returned (.slice (some ⟨g, 0, none⟩) zs.length zs.length) ∧ w'.ownsRow W.heap.size 3 1 (.slice (some ⟨g, 0, none⟩) zs.length zs.length) zs.length (M4.iv zs) ∧ Below W.heap.size W w') := fun W hb => toIntS_own a cap zs W hz (hin.below hb)
  clear hin
  go_enter Try.func7, Try.ntmps7
  go_wp2_with fail
  have hB1 : Below w.heap.size w (((w.alloc (Obj.cells #[.slice a zs.length cap, .int .i64 t, .bool th] 24)).alloc (Obj.cells #[.slice none 0 0, .int .i64 0, .bool false] 28)).alloc (Obj.cells #[.slice none 0 0, .int .i64 0, .bool false] 28)) := (((Below.refl _ _).alloc (Nat.le_refl _) _).alloc (by simp) _).alloc (by simp; omega) _
  have b0 := ((SP.B3.new w (.slice a zs.length cap) (.int .i64 t) (.bool th) 24 rfl).alloc (Obj.cells #[.slice none 0 0, .int .i64 0, .bool false] 28)).alloc (Obj.cells #[.slice none 0 0, .int .i64 0, .bool false] 28)
  have b1 := (SP.B3.new (w.alloc (Obj.cells #[.slice a zs.length cap, .int .i64 t, .bool th] 24)) (.slice none 0 0) (.int .i64 0) (.bool false) 28 (k := w.heap.size + 1) (by simp)).alloc (Obj.cells #[.slice none 0 0, .int .i64 0, .bool false] 28)
  have b2 := SP.B3.new ((w.alloc (Obj.cells #[.slice a zs.length cap, .int .i64 t, .bool th] 24)).alloc (Obj.cells #[.slice none 0 0, .int .i64 0, .bool false] 28)) (.slice none 0 0) (.int .i64 0) (.bool false) 28 (k := w.heap.size + 1 + 1) (by simp)
  refine Calls.mono (TO.out _ hB1) ?_
  rintro e w2 ⟨g, rfl, ho, hb2⟩
  have d0 := b0.below hb2 b0.lt
  have d1 := b1.below hb2 b1.lt
  have d2 := b2.below hb2 b2.lt
  have hB2 := hB1.trans (hb2.mono hB1.size)
  have hs := hB2.size
  simp only [World.size_alloc] at ho
  have l2 := d2.lt
  obtain ⟨c00, c01, c02⟩ := d0.cells
  obtain ⟨c10, c11, c12⟩ := d1.cells
  obtain ⟨c20, c21, c22⟩ := d2.cells
  have f10 := d1.free 0
  have f11 := d1.free 1
  have f12 := d1.free 2
  have f20 := d2.free 0
  have f21 := d2.free 1
  have f22 := d2.free 2
  have HO : Hid _ := ho
  have HB : Hid _ := hB2
  have HD : Hid _ := d1
  clear TO ho hb2 hB1 b0 b1 b2 d0 d1 d2 hB2
  go_wp2
  have o1 := (((MC.Only.refl (w.heap.size + 1 + 1) w2).setCell 0 (.slice (some ⟨g, 0, none⟩) zs.length zs.length)).setCell 1 (.int .i64 t)).setCell 2 (.bool th)
  have hb3 := ((HB.out.setCell (p := ⟨w.heap.size + 1 + 1, 0, none⟩) (by simp; omega) (.slice (some ⟨g, 0, none⟩) zs.length zs.length)).setCell (p := ⟨w.heap.size + 1 + 1, 1, none⟩) (by simp; omega) (.int .i64 t)).setCell (p := ⟨w.heap.size + 1 + 1, 2, none⟩) (by simp; omega) (.bool th)
  have d1 := HD.out.only o1 (by omega)
  have h1 := MC.own_only HO.out o1 (by omega)
  clear o1 HO HD HB c00 c01 c02 c10 c11 c12 c20 c21 c22 f10 f11 f12 f20 f21 f22
  generalize ((w2.setCell ⟨w.heap.size + 1 + 1, 0, none⟩ (.slice (some ⟨g, 0, none⟩) zs.length zs.length)).setCell ⟨w.heap.size + 1 + 1, 1, none⟩ (.int .i64 t)).setCell ⟨w.heap.size + 1 + 1, 2, none⟩ (.bool th) = W3 at *
  have o2 := (((MC.Only.refl (w.heap.size + 1) W3).setCell 0 (.slice (some ⟨g, 0, none⟩) zs.length zs.length)).setCell 1 (.int .i64 t)).setCell 2 (.bool th)
  have hb4 := ((hb3.setCell (p := ⟨w.heap.size + 1, 0, none⟩) (by simp) (.slice (some ⟨g, 0, none⟩) zs.length zs.length)).setCell (p := ⟨w.heap.size + 1, 1, none⟩) (by simp) (.int .i64 t)).setCell (p := ⟨w.heap.size + 1, 2, none⟩) (by simp) (.bool th)
  have d2 := ((d1.set0 (.slice (some ⟨g, 0, none⟩) zs.length zs.length)).set1 (.int .i64 t)).set2 (.bool th)
  have h2 := MC.own_only h1 o2 (by omega)
  obtain ⟨r0, r1, r2⟩ := d2.cells
  exact bodyPost_ret (v := SP.sv (.slice (some ⟨g, 0, none⟩) zs.length zs.length) t th) (by simp [results, Try.results7, go_sem, r0, r1, r2]) rfl ⟨g, rfl, SP.own_le h2 (by omega), hb4⟩
set_option maxHeartbeats 1600000 in
set_option maxRecDepth 100000 in
theorem eqSpray_any (a b : Option Addr) (ca cb : Nat) (xs : List Int) (t : Int) (th : Bool) (w : World) (hx : xs.length ≤ 1048576) (hax : M4.IntsAt w a xs) (hay : M4.IntsAt w b xs) :
    Calls Try.prog 10 #[SP.sv (.slice a xs.length ca) t th, SP.sv (.slice b xs.length cb) t th] w fun e w' => e = .returned (.bool true) ∧ Below w.heap.size w w' := by
  have EQ : Hid (∀ W : World, Below w.heap.size w W → Calls Try.prog 27 #[.slice a xs.length ca, .slice b xs.length cb] W fun e w' => e = .returned (.bool true) ∧ Below W.heap.size W w') := fun W hb => by
    have := eqIntS_any a b ca cb xs xs W (by omega) (by omega) (hax.below hb) (hay.below hb)
    simpa using this
  clear hax hay
  generalize xs.length = m at *
  go_enter Try.func10, Try.ntmps10
  have hB1 : Below w.heap.size w ((w.alloc (Obj.cells #[.slice a m ca, .int .i64 t, .bool th] 28)).alloc (Obj.cells #[.slice b m cb, .int .i64 t, .bool th] 28)) := ((Below.refl _ _).alloc (Nat.le_refl _) _).alloc (by simp) _
  have b0 := (SP.B3.new w (.slice a m ca) (.int .i64 t) (.bool th) 28 rfl).alloc (Obj.cells #[.slice b m cb, .int .i64 t, .bool th] 28)
  have b1 := SP.B3.new (w.alloc (Obj.cells #[.slice a m ca, .int .i64 t, .bool th] 28)) (.slice b m cb) (.int .i64 t) (.bool th) 28 (k := w.heap.size + 1) (by simp)
  go_wp2_with fail
  refine Calls.mono (EQ.out _ hB1) ?_
  rintro e w2 ⟨rfl, hb2⟩
  have hB2 := hB1.trans (hb2.mono hB1.size)
  have d0 := b0.below hb2 b0.lt
  have d1 := b1.below hb2 b1.lt
  obtain ⟨c00, c01, c02⟩ := d0.cells
  obtain ⟨c10, c11, c12⟩ := d1.cells
  clear EQ hb2 hB1 b0 b1 d0 d1
  go_wp2
  go_ret
  exact ⟨rfl, hB2⟩
set_option maxHeartbeats 1600000 in
set_option maxRecDepth 100000 in
theorem markIntS_g (base : Nat) (v : Value) (zs : List Int) (k : Int) (w : World) (hz : zs.length ≤ 1048576) (hk0 : 0 ≤ k) (hk : k ≤ 1073741824) (hown : w.ownsRow base 3 1 v zs.length (M4.iv zs)) :
    Calls Try.prog 28 #[v, .int .i64 k] w fun e w' => e = .returned (.int .i64 (k + zs.length)) ∧ w'.ownsRow base 3 1 v zs.length (M4.iv (M5.marks k zs.length)) ∧ w.grownBy w' v.ownBlock := by
  have HG0 : w.grownBy w v.ownBlock := ⟨rfl, rfl, rfl, Nat.le_refl _, fun _ _ _ => rfl⟩
  rcases hown.2 with ⟨rfl, h0⟩ | ⟨g, cap, cur, rfl, hg, hrest⟩
  · obtain rfl : zs = [] := List.eq_nil_of_length_eq_zero h0
    go_enter Try.func28, Try.ntmps28
    go_wp2
    refine wp_loop_rounds 1 ?_
    rw [rounds_succ]
    go_wp2
    go_ret
    exact ⟨by simp, World.ownsRow_nil _ _ _ _, HG0⟩
  · clear hrest
    go_enter Try.func28, Try.ntmps28
    go_wp2
    go_loopw [1, 5] (fun kv iv wr => ∃ i : Nat, kv = .int .i64 (k + i) ∧ iv = .int .i64 i ∧ i ≤ zs.length ∧ wr.ownsRow base 3 1 (.slice (some ⟨g, 0, none⟩) zs.length cap) zs.length (M4.iv (M5.mk zs k i)) ∧ w.grownBy wr (Value.slice (some ⟨g, 0, none⟩) zs.length cap).ownBlock) (fun _ iv _ => (zs.length - (intOf iv).toNat))
    case atStart => exact ⟨0, by simp, rfl, by omega, by rw [M5.mk_zero]; exact hown, HG0⟩
    case round =>
      clear hown HG0
      obtain ⟨i, rfl, rfl, hi, hown, hb⟩ := hrel
      by_cases hl : i < zs.length
      · have hcell : ∃ u, wr.cell? ⟨g, i, none⟩ = some u := by
          rw [hown.cellAt i (by omega)]
          have hlen : i < (M4.iv (M5.mk zs k i)).length := by simp [M4.iv, M5.mk_len zs k i hi]; exact hl
          exact ⟨_, List.getElem?_eq_getElem hlen⟩
        obtain ⟨u, hcell⟩ := hcell
        have hfz := hown.frozenAt i
        have hst := hown.stored i (.int .i64 (k + i))
        rw [M4.iv_set, M5.mk_set zs k i hl] at hst
        have R1 := hst.1
        have R2 := World.grownBy.andThen hb hst.2 (fun j hj => .inr hj)
        have HR2 : Hid _ := R2
        clear hst hown R2 hb
        go_wp2
        go_roundw
        case rel => exact ⟨i + 1, by go_num, by go_num, by omega, R1, HR2.out⟩
        case measure => simp [intOf]; omega
      · obtain rfl : i = zs.length := by omega
        rw [M5.mk_all] at hown
        have HB : Hid _ := hb
        clear hb
        go_wp2
        go_ret
        exact ⟨rfl, hown, HB.out⟩
set_option maxHeartbeats 1600000 in
set_option maxRecDepth 100000 in
theorem markSpray_any (base : Nat) (a : Option Addr) (c : Nat) (zs : List Int) (t : Int) (th : Bool) (w : World) (hz : zs.length ≤ 1048576) (hown : w.ownsRow base 3 1 (.slice a zs.length c) zs.length (M4.iv zs)) :
    Calls Try.prog 11 #[SP.sv (.slice a zs.length c) t th, .int .i64 1] w fun e w' => e = .returned (.int .i64 (1 + zs.length)) ∧ w'.ownsRow base 3 1 (.slice a zs.length c) zs.length (M4.iv (M5.marks 1 zs.length)) ∧ w.grownBy w' (Value.slice a zs.length c).ownBlock := by
  have MK : Hid _ := markIntS_g base (.slice a zs.length c) zs 1 _ hz (by omega) (by omega) (M5.own_below hown ((Below.refl w.heap.size w).alloc (Nat.le_refl _) (Obj.cells #[.slice a zs.length c, .int .i64 t, .bool th] 28)))
  have HG : Hid (w.grownBy (w.alloc (Obj.cells #[.slice a zs.length c, .int .i64 t, .bool th] 28)) (Value.slice a zs.length c).ownBlock) := World.grownBy_alloc w _ _
  clear hown
  go_enter Try.func11, Try.ntmps11
  go_wp2_with fail
  refine Calls.mono MK.out ?_
  rintro e w2 ⟨rfl, ho, hm⟩
  have M1 := World.grownBy.andThen HG.out hm (fun j hj => .inr hj)
  have HM : Hid _ := M1
  have HO : Hid _ := ho
  clear MK hm M1 ho HG
  go_wp2
  go_ret
  exact ⟨rfl, HO.out, HM.out⟩
set_option maxHeartbeats 1600000 in
set_option maxRecDepth 100000 in
theorem heldSpray_any (a : Option Addr) (c m : Nat) (t : Int) (th : Bool) (w : World) (hz : m ≤ 1048576) (hin : M4.IntsAt w a (M5.marks 1 m)) :
    Calls Try.prog 12 #[SP.sv (.slice a m c) t th, .int .i64 1] w fun e w' => e = .returned (.int .i64 (1 + m)) ∧ Below w.heap.size w w' := by
  have BX : Below w.heap.size w (w.alloc (.cells #[.slice a m c, .int .i64 t, .bool th] 28)) := (Below.refl _ _).alloc (Nat.le_refl _) _
  have HL : Hid _ := heldIntS_any a c m 1 _ hz (by omega) (by omega) (hin.below BX)
  clear hin
  go_enter Try.func12, Try.ntmps12
  go_wp2_with fail
  refine Calls.mono HL.out ?_
  rintro e w2 ⟨rfl, rfl⟩
  clear HL
  go_wp2
  go_ret
  exact ⟨rfl, BX⟩
end Go.Proofs.Ytmgfgcmmanhgaaa
