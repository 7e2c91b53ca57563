/- What FnGcra draws: sizes and times, a cell and a time. -/
import Derived.Test.YteedppngiknjlaaDoorRows
import Derived.Test.YteedppngiknjlaaDoorCTimesD
import Derived.Test.YteedppngiknjlaaDoorCGcraD
import Derived.WalkKit
import Derived.WalkSpells
import Derived.WalkLawsBesides
import Derived.Outline
import Derived.Deep.RegionHeld3
namespace Go.Proofs.YteedppngiknjlaaDoor
open Go.RowKit
set_option maxHeartbeats 800000 in
set_option maxRecDepth 100000 in
theorem drawBoth_any (a : Option Addr) (zs : List Int) (cap : Nat) (w : World) (hz : zs.length ≤ 140737488355328) (hb : MC.BytesAt w w.heap.size a zs) :
    Calls Tryd.prog 5 #[.slice a zs.length cap] w fun e w' => ∃ (p u : Int) (a1 : Option Addr) (c1 : Nat) (l : List Int), e = .returned (.tuple #[.int .i64 p, .int .i64 u, .slice a1 l.length c1]) ∧ l.length ≤ 62 ∧ M4.IntsAt w' a1 l ∧ Below w.heap.size w w' := by
  go_enter Tryd.func5, Tryd.ntmps5
  go_wp2_with fail
  refine (sizes_any w.heap.size a zs cap 0 _ hz (by omega) (cur_new hb)).mono ?_
  rintro e w1 ⟨x, y, rfl, hc1, ho1⟩
  clear hb
  go_wp2_with fail
  refine (times_any w.heap.size a zs cap 6 _ hz (by omega) hc1).mono ?_
  rintro e w2 ⟨a1, c1, l, rfl, hl, hown, hc2, ho2⟩
  have hB := new_below rfl (ho1.trans ho2)
  have hI := M5.own_ints hown
  clear ho1 ho2 hown hc1 hc2
  go_wp2
  go_ret3
  exact ⟨x, y, a1, c1, l, rfl, hl, hI, hB⟩
set_option linter.unusedSimpArgs false in
set_option maxHeartbeats 1600000 in
set_option maxRecDepth 100000 in
theorem drawAskC_any (a : Option Addr) (zs : List Int) (cap : Nat) (w : World) (hz : zs.length ≤ 140737488355328) (hb : MC.BytesAt w w.heap.size a zs) :
    Calls Tryd.prog 16 #[.slice a zs.length cap] w fun e w' => ∃ (c : Ce) (n : Int), e = .returned (.tuple #[c.v, .int .i64 n]) ∧ Below w.heap.size w w' := by
  have hZ := BK.At3.new w (.int .i64 0) (.int .i64 0) (.int .i64 0) 31 _ rfl
  have hb1 : MC.BytesAt (w.alloc (.cells #[.int .i64 0, .int .i64 0, .int .i64 0] 31)) (w.alloc (.cells #[.int .i64 0, .int .i64 0, .int .i64 0] 31)).heap.size a zs := (hb.only (MC.Only.of_below (p := w.heap.size) ((Below.refl _ w).alloc (Nat.le_refl _) _)) (Nat.le_refl _) (Nat.le_refl _)).up (by simp)
  have hs0 : (w.alloc (.cells #[.int .i64 0, .int .i64 0, .int .i64 0] 31)).heap.size = w.heap.size + 1 := by simp
  have hc0 := cur_new (T := 57) (cap := cap) hb1
  rw [hs0] at hc0
  clear hb hb1
  go_enter Tryd.func16, Tryd.ntmps16
  go_wp2_with fail
  refine (gcra_any (w.heap.size + 1) a zs cap 0 _ hz (by omega) hc0).mono ?_
  rintro e w1 ⟨c, rfl, hc1, ho1⟩
  obtain ⟨xp, xu, xd⟩ := c
  have hZ1 := ((hZ.alloc (.cells #[.slice a zs.length cap, .int .i64 0, .int .u64 0] 57)).only ho1 (by omega)).alloc (.cells #[.int .i64 xp, .int .i64 xu, .int .i64 xd] 31)
  have hA1 := BK.At3.new w1 (.int .i64 xp) (.int .i64 xu) (.int .i64 xd) 31 _ rfl
  have hc2 := hc1.alloc (.cells #[.int .i64 xp, .int .i64 xu, .int .i64 xd] 31)
  have hB1 : Below w.heap.size w (w1.alloc (.cells #[.int .i64 xp, .int .i64 xu, .int .i64 xd] 31)) := ((((Below.refl _ w).alloc (Nat.le_refl _) (.cells #[.int .i64 0, .int .i64 0, .int .i64 0] 31)).alloc (by simp) (.cells #[.slice a zs.length cap, .int .i64 0, .int .u64 0] 57)).trans (ho1.below (by omega) (by simp; omega))).alloc (by have := ho1.size; simp at this; omega) _
  have hs1 := ho1.size
  simp only [World.alloc, Array.size_push] at hs1
  have hl1 : w.heap.size + 1 < w1.heap.size := by omega
  clear hc0 ho1 hc1 hZ hs1 hs0
  go_wp2_with fail
  generalize w1.alloc (.cells #[.int .i64 xp, .int .i64 xu, .int .i64 xd] 31) = W at *
  generalize hq : w1.heap.size = q at *
  clear hq
  have hA2 := hA1.below (Below.refl _ W).drew hA1.lt
  have hZ2 := hZ1.below (Below.refl _ W).drew hZ1.lt
  have HC : Hid _ := hc2.below (Below.refl _ W).drew
  have hB2 := hB1.drew
  obtain ⟨k0, k1, k2⟩ := hA1.cells
  have hne : w.heap.size ≠ q := by omega
  have hne' : q ≠ w.heap.size := by omega
  have HA2 : Hid _ := hA2
  have HZ2 : Hid _ := hZ2
  have HB2 : Hid _ := hB2
  clear hA2 hZ2 hB2 hc2 hA1 hZ1 hB1
  go_region_held3 (fun w' => w'.cell? ⟨q, 0, none⟩ = some (.int .i64 xp) ∧ w'.cell? ⟨q, 1, none⟩ = some (.int .i64 xu) ∧ w'.cell? ⟨q, 2, none⟩ = some (.int .i64 xd)) (go_keep) (first | (go_at_call 37; refine Calls.mono (pick_any (w.heap.size + 1) a zs cap (0 + 160) 60 _ hz (by omega) HC.out) ?_; rintro e W2 ⟨r, rfl, hr, hr', hc3, ho3⟩; have hA3 := HA2.out.only ho3 (by omega); have hZ3 := HZ2.out.only ho3 (by omega); have HB3 : Hid _ := HB2.out.trans (ho3.below (by omega) (by have := HB2.out.size; omega)); obtain ⟨k0, k1, k2⟩ := hA3.cells; obtain ⟨d0, d1, d2⟩ := hZ3.cells; have z0 := hZ3.free 0; have z1 := hZ3.free 1; have z2 := hZ3.free 2; clear hA3 hZ3 hc3 ho3))
  go_wp2
  exact bodyPost_ret (v := .tuple #[Ce.v ⟨xp, xu, xd⟩, .int .i64 (IntKind.i64.wrap (IntKind.i64.wrap (xd + (r : Int)) - 40))]) (by simp [results, Tryd.results16, go_sem, d0, d1, d2]) rfl ⟨⟨xp, xu, xd⟩, _, rfl, ((HB3.out.setCell (by simp) _).setCell (by simp) _).setCell (by simp) _⟩
end Go.Proofs.YteedppngiknjlaaDoor
