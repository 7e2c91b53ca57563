/- AskCell of the program. -/
import Derived.Test.YteedppngiknjlaaDoorRows
import Derived.Test.YteedppngiknjlaaDoorCDue
import Derived.Test.YteedppngiknjlaaDoorCErr
import Derived.WalkKit
import Derived.WalkSpells
import Derived.WalkLawsBesides
import Derived.Outline
namespace Go.Proofs.YteedppngiknjlaaDoor
open Go.RowKit
set_option linter.unusedSimpArgs false in
set_option maxHeartbeats 1600000 in
set_option maxRecDepth 100000 in
theorem implAskC_any (c : Ce) (n : Int) (a b : Addr) (w : World) (hE : Er2 w a b) :
    Calls Tryd.prog 13 #[c.v, .int .i64 n] w fun e w' => e = .returned (.tuple #[(BK.askC c n).v, .bool (BK.letC c n), .bool (BK.dueOk c n)]) ∧ Below w.heap.size w w' := by
  have DW : Hid (∀ (W : World) (_ : Er1 W a), Calls Tryd.prog 31 #[c.v, .int .i64 n] W fun e w' => e = .returned (.tuple #[.int .i64 (dueL c n), fltC c n a]) ∧ Below W.heap.size W w') := fun W h => dueWithOne_any c n a W h
  have IS : Hid (∀ W : World, Calls Tryd.prog 32 #[.iface 111 (.pointer (some a)), .iface 111 (.pointer (some a))] W fun e w' => e = .returned (.bool true) ∧ W = w') := fun W => is_same a W
  have IN : Hid (∀ (x : Addr) (W : World), Calls Tryd.prog 32 #[.nilIface, .iface 111 (.pointer (some x))] W fun e w' => e = .returned (.bool false) ∧ W = w') := fun x W => is_nil x W
  have IO : Hid (∀ (W : World) (_ : Er2 W a b), Calls Tryd.prog 32 #[.iface 70 (.agg #[.int .i64 (c.d - n)]), .iface 111 (.pointer (some a))] W fun e w' => e = .returned (.bool false) ∧ Below W.heap.size W w') := fun W h => is_spill_other _ a b W h
  have IY : Hid (∀ (W : World) (_ : Er2 W a b), Calls Tryd.prog 32 #[.iface 70 (.agg #[.int .i64 (c.d - n)]), .iface 111 (.pointer (some b))] W fun e w' => e = .returned (.bool true) ∧ Below W.heap.size W w') := fun W h => is_spill_same _ b W h.g h.lt
  have HE : Hid _ := (hE.alloc (.cells #[.int .i64 c.p, .int .i64 c.u, .int .i64 c.d] 31)).alloc (.cells #[.int .i64 0, .int .i64 0, .int .i64 0] 31)
  clear hE
  have hF : BK.dueOk c n = false → fltC c n a = .iface 111 (.pointer (some a)) ∧ BK.letC c n = false ∧ BK.zC = BK.askC c n := fun h => by simp [fltC, BK.letC, BK.askC, h]
  have hY : BK.dueOk c n = true → BK.letC c n = true → fltC c n a = .nilIface ∧ (⟨c.p, c.u, dueL c n⟩ : Ce) = BK.askC c n := fun h h' => by simp [fltC, dueL, BK.askC, h, h']
  have hN : BK.dueOk c n = true → BK.letC c n = false → fltC c n a = .iface 70 (.agg #[.int .i64 (c.d - n)]) ∧ c = BK.askC c n := fun h h' => by simp [fltC, BK.askC, h, h']
  generalize BK.askC c n = R at *
  generalize fltC c n a = F at *
  generalize dueL c n = L at *
  generalize BK.dueOk c n = K at *
  generalize BK.letC c n = M at *
  obtain ⟨p, u, d⟩ := c
  have hA := (BK.At3.new w (.int .i64 p) (.int .i64 u) (.int .i64 d) 31 _ rfl).alloc (.cells #[.int .i64 0, .int .i64 0, .int .i64 0] 31)
  have hZ := BK.At3.new (w.alloc (.cells #[.int .i64 p, .int .i64 u, .int .i64 d] 31)) (.int .i64 0) (.int .i64 0) (.int .i64 0) 31 (w.heap.size + 1) (by simp)
  have hB : Below w.heap.size w _ := ((Below.refl _ w).alloc (Nat.le_refl _) (.cells #[.int .i64 p, .int .i64 u, .int .i64 d] 31)).alloc (by simp) (.cells #[.int .i64 0, .int .i64 0, .int .i64 0] 31)
  go_enter Tryd.func13, Tryd.ntmps13
  go_wp2_with fail
  refine (DW.out _ HE.out.e1).mono ?_
  rintro e w1 ⟨rfl, hb1⟩
  have hA1 := hA.below hb1 hA.lt
  have hZ1 := hZ.below hb1 hZ.lt
  have hE1 : Hid _ := HE.out.below hb1 (Nat.le_refl _)
  have hB1 := hB.trans (hb1.mono hB.size)
  have hg0 := hE1.out.e1.g
  have hg1 := hE1.out.g
  clear hb1 hB HE DW hA hZ
  cases K
  · obtain ⟨rfl, rfl, hR⟩ := hF rfl
    have HR : Hid (BK.zC = R) := hR
    obtain ⟨d0, d1, d2⟩ := hZ1.cells
    have z0 := hZ1.free 0
    have z1 := hZ1.free 1
    have z2 := hZ1.free 2
    have hlt := hZ1.lt
    clear hF hY hN hR hA1 hE1 IN IO IY hZ1
    go_wp2_with fail
    refine (IS.out _).mono ?_
    rintro e w2 ⟨rfl, rfl⟩
    clear IS
    go_wp2
    exact bodyPost_ret (v := .tuple #[Ce.v BK.zC, .bool false, .bool false]) (by simp [results, Tryd.results13, go_sem, BK.zC, d0, d1, d2]) rfl ⟨retCBB13 HR.out rfl rfl, ((hB1.setCell (by simp) _).setCell (by simp) _).setCell (by simp) _⟩
  · cases M
    · obtain ⟨rfl, hR⟩ := hN rfl rfl
      have HR : Hid ((⟨p, u, d⟩ : Ce) = R) := hR
      clear hF hY hN hR IN IS
      have HB1 : Hid _ := hB1
      clear hB1
      go_wp2_with fail
      refine (IO.out _ hE1.out).mono ?_
      rintro e w2 ⟨rfl, hb2⟩
      have hA2 := hA1.below hb2 hA1.lt
      have hZ2 := hZ1.below hb2 hZ1.lt
      have hE2 : Hid _ := hE1.out.below hb2 (Nat.le_refl _)
      have hg1 := hE2.out.g
      have hB2 := HB1.out.trans (hb2.mono HB1.out.size)
      have HB2 : Hid _ := hB2
      clear hb2 hA1 hZ1 hE1 HB1 IO hg0 hB2
      go_wp2_with fail
      refine (IY.out _ hE2.out).mono ?_
      rintro e w3 ⟨rfl, hb3⟩
      have hA3 := hA2.below hb3 hA2.lt
      have hZ3 := hZ2.below hb3 hZ2.lt
      have hB3 := HB2.out.trans (hb3.mono HB2.out.size)
      obtain ⟨k0, k1, k2⟩ := hA3.cells
      obtain ⟨d0, d1, d2⟩ := hZ3.cells
      have z0 := hZ3.free 0
      have z1 := hZ3.free 1
      have z2 := hZ3.free 2
      have hlt := hZ3.lt
      have hltA := hA3.lt
      clear hb3 hA2 hZ2 hE2 HB2 IY hg1 hA3 hZ3
      go_wp2
      exact bodyPost_ret (v := .tuple #[Ce.v ⟨p, u, d⟩, .bool false, .bool true]) (by simp [results, Tryd.results13, go_sem, d0, d1, d2]) rfl ⟨retCBB13 HR.out rfl rfl, ((hB3.setCell (by simp) _).setCell (by simp) _).setCell (by simp) _⟩
    · obtain ⟨rfl, hR⟩ := hY rfl rfl
      have HR : Hid ((⟨p, u, L⟩ : Ce) = R) := hR
      obtain ⟨k0, k1, k2⟩ := hA1.cells
      obtain ⟨d0, d1, d2⟩ := hZ1.cells
      have z0 := hZ1.free 0
      have z1 := hZ1.free 1
      have z2 := hZ1.free 2
      have hlt := hZ1.lt
      have hltA := hA1.lt
      clear hF hY hN hR IS IO IY hE1 hA1 hZ1
      go_wp2_with fail
      refine (IN.out _ _).mono ?_
      rintro e w2 ⟨rfl, rfl⟩
      go_wp2_with fail
      refine (IN.out _ _).mono ?_
      rintro e w2 ⟨rfl, rfl⟩
      clear IN
      go_wp2
      exact bodyPost_ret (v := .tuple #[Ce.v ⟨p, u, L⟩, .bool true, .bool true]) (by simp [results, Tryd.results13, go_sem, d0, d1, d2]) rfl ⟨retCBB13 HR.out rfl rfl, ((hB1.setCell (by simp) _).setCell (by simp) _).setCell (by simp) _⟩
end Go.Proofs.YteedppngiknjlaaDoor
