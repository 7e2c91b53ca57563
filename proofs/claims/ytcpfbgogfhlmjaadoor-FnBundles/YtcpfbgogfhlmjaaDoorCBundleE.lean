import Derived.Test.YtcpfbgogfhlmjaaDoorMCur
import Derived.Test.YtcpfbgogfhlmjaaDoorRows
import Derived.Test.YtcpfbgogfhlmjaaDoorCBundleD
import Derived.WalkKit
import Derived.WalkSpells
import Derived.WalkLawsBesides
import Derived.Outline
import Derived.Deep.RegionWith
/- A new cursor, over whatever program. -/
namespace Go.Proofs.YtcpfbgogfhlmjaaDoor
open Go.RowKit
/-- A new cursor. -/
theorem cur_new {w : World} {T : TypeId} {a : Option Addr} {zs : List Int} {cap : Nat} (h : MC.BytesAt w w.heap.size a zs) : MC.Cur (w.alloc (.cells #[.slice a zs.length cap, .int .i64 0, .int .u64 0] T)) w.heap.size a zs cap 0 := by
  have hc : ∀ j, (w.alloc (.cells #[.slice a zs.length cap, .int .i64 0, .int .u64 0] T)).cell? ⟨w.heap.size, j, none⟩ = (#[.slice a zs.length cap, .int .i64 0, .int .u64 0] : Array Value)[j]? := fun j => World.cell?_alloc_at _ _ _ _ (by rfl)
  refine ⟨by simp, hc 0, ⟨0, hc 1, by omega⟩, ⟨0, hc 2, by omega⟩, World.frozen?_alloc_at _ _ _ _ (by rfl), World.frozen?_alloc_at _ _ _ _ (by rfl), ?_⟩
  exact h.only (q := w.heap.size) (MC.Only.of_below ((Below.refl _ _).alloc (Nat.le_refl _) _)) (Nat.le_refl _) (Nat.le_refl _)
theorem new_below {p : Nat} {w w' : World} {o : Obj} (hp : p = w.heap.size) (h : MC.Only p (w.alloc o) w') : Below w.heap.size w w' :=
  ((Below.refl _ _).alloc (Nat.le_refl _) o).trans (h.below (by omega) (by simp))
theorem MC.BytesAt.up {w : World} {p q : Nat} {a : Option Addr} {zs : List Int} (h : MC.BytesAt w p a zs) (hp : p ≤ q) : MC.BytesAt w q a zs := by
  refine ⟨h.1, ?_⟩
  rcases h.2 with rfl | ⟨b, off, rfl, hlt, hc⟩
  · exact .inl rfl
  · exact .inr ⟨b, off, rfl, by omega, hc⟩
end Go.Proofs.YtcpfbgogfhlmjaaDoor

/- The draws of bundles: DrawGoodBundle, DrawHopBundle, DrawIsOver, DrawSameBundle. -/
namespace Go.Proofs.YtcpfbgogfhlmjaaDoor
open Go.RowKit
theorem bytes_up {w : World} {a : Option Addr} {zs : List Int} (o : Obj) (h : MC.BytesAt w w.heap.size a zs) : MC.BytesAt (w.alloc o) (w.alloc o).heap.size a zs := by
  have h1 := h.only (q := w.heap.size) (MC.Only.of_below ((Below.refl _ w).alloc (Nat.le_refl _) o)) (Nat.le_refl _) (Nat.le_refl _)
  exact h1.up (by simp)
set_option linter.unusedSimpArgs false in
set_option maxHeartbeats 3200000 in
set_option maxRecDepth 100000 in
theorem drawGoodBundle_any (a : Option Addr) (zs : List Int) (cap : Nat) (w : World) (hz : zs.length ≤ 140737488355328) (hb : MC.BytesAt w w.heap.size a zs) :
    Calls Tryd.prog 23 #[.slice a zs.length cap] w fun e w' => ∃ b : Bd, e = .returned b.v ∧ b.py.size ≤ 60 ∧ Below w.heap.size w w' := by
  have hbr := BX.Box.new w 24 B1.zero w.heap.size rfl
  have hW0 : Below w.heap.size w (w.alloc (.cells (BX.cs B1.zero).toArray 24)) := (Below.refl _ w).alloc (Nat.le_refl _) _
  have hb0 := bytes_up (.cells (BX.cs B1.zero).toArray 24) hb
  have hs0 : (w.alloc (.cells (BX.cs B1.zero).toArray 24)).heap.size = w.heap.size + 1 := by simp
  simp only [BX.cs, Bd.cs, B1.zero] at hbr hW0 hb0 hs0
  clear hb
  go_enter Tryd.func23, Tryd.ntmps23
  go_wp2_with fail
  generalize w.alloc (.cells #[.int .i64 0, .int .i64 0, .bool false, .int .i64 0, .int .i64 0, .int .i64 0, .int .i64 0, .int .i64 0, .int .i64 0, .string ⟨#[]⟩] 24) = W0 at *
  change BX.Box W0 w.heap.size 24 B1.zero at hbr
  rw [← hs0]
  refine (bundle_any W0.heap.size a zs cap 0 _ hz (by omega) (cur_new hb0)).mono ?_
  rintro e w1 ⟨b, rfl, hpy, -, ho1⟩
  have hB1 := new_below rfl ho1
  have hBw := hW0.trans (hB1.mono (by omega))
  replace hbr := hbr.below hB1 (by omega)
  clear ho1 hB1 hb0 hW0
  obtain ⟨x0, x1, x2, x3, x4, x5, x6, x7, x8, x9⟩ := b
  have m0 := hbr.cells 0
  have g0 := hbr.free 0
  have m1 := hbr.cells 1
  have g1 := hbr.free 1
  have m2 := hbr.cells 2
  have g2 := hbr.free 2
  have m3 := hbr.cells 3
  have g3 := hbr.free 3
  have m4 := hbr.cells 4
  have g4 := hbr.free 4
  have m5 := hbr.cells 5
  have g5 := hbr.free 5
  have m6 := hbr.cells 6
  have g6 := hbr.free 6
  have m7 := hbr.cells 7
  have g7 := hbr.free 7
  have m8 := hbr.cells 8
  have g8 := hbr.free 8
  have m9 := hbr.cells 9
  have g9 := hbr.free 9
  simp [Bd.cs, B1.zero] at m0 m1 m2 m3 m4 m5 m6 m7 m8 m9
  have hrl := hbr.lt
  have hP := hbr.put ⟨x0, x1, x2, x3, x4, x5, x6, x7, x8, x9⟩
  have hBE := ((((((((((hBw.setCell (p := ⟨w.heap.size, 0, none⟩) (by simp) (.int .i64 x0)).setCell (p := ⟨w.heap.size, 1, none⟩) (by simp) (.int .i64 x1)).setCell (p := ⟨w.heap.size, 2, none⟩) (by simp) (.bool x2)).setCell (p := ⟨w.heap.size, 3, none⟩) (by simp) (.int .i64 x3)).setCell (p := ⟨w.heap.size, 4, none⟩) (by simp) (.int .i64 x4)).setCell (p := ⟨w.heap.size, 5, none⟩) (by simp) (.int .i64 x5)).setCell (p := ⟨w.heap.size, 6, none⟩) (by simp) (.int .i64 x6)).setCell (p := ⟨w.heap.size, 7, none⟩) (by simp) (.int .i64 x7)).setCell (p := ⟨w.heap.size, 8, none⟩) (by simp) (.int .i64 x8)).setCell (p := ⟨w.heap.size, 9, none⟩) (by simp) (.string x9))
  clear hbr
  go_wp2
  have n0 := hP.cells 0
  have n1 := hP.cells 1
  have n2 := hP.cells 2
  have n3 := hP.cells 3
  have n4 := hP.cells 4
  have n5 := hP.cells 5
  have n6 := hP.cells 6
  have n7 := hP.cells 7
  have n8 := hP.cells 8
  have n9 := hP.cells 9
  simp [Bd.cs, B1.zero] at n0 n1 n2 n3 n4 n5 n6 n7 n8 n9
  generalize ((((((((((((((((((((w1).setCell ⟨w.heap.size, 0, none⟩ (.int .i64 x0))).setCell ⟨w.heap.size, 1, none⟩ (.int .i64 x1))).setCell ⟨w.heap.size, 2, none⟩ (.bool x2))).setCell ⟨w.heap.size, 3, none⟩ (.int .i64 x3))).setCell ⟨w.heap.size, 4, none⟩ (.int .i64 x4))).setCell ⟨w.heap.size, 5, none⟩ (.int .i64 x5))).setCell ⟨w.heap.size, 6, none⟩ (.int .i64 x6))).setCell ⟨w.heap.size, 7, none⟩ (.int .i64 x7))).setCell ⟨w.heap.size, 8, none⟩ (.int .i64 x8))).setCell ⟨w.heap.size, 9, none⟩ (.string x9)) = WE at *
  exact bodyPost_ret (v := .agg #[.int .i64 x0, .int .i64 x1, .bool x2, .int .i64 x3, .int .i64 x4, .int .i64 x5, .int .i64 x6, .int .i64 x7, .int .i64 x8, .string x9]) (by simp [results, Tryd.results23, go_sem, n0, n1, n2, n3, n4, n5, n6, n7, n8, n9]) rfl ⟨⟨x0, x1, x2, x3, x4, x5, x6, x7, x8, x9⟩, rfl, hpy, hBE⟩
set_option linter.unusedSimpArgs false in
set_option maxHeartbeats 3200000 in
set_option maxRecDepth 100000 in
theorem drawHop_any (a : Option Addr) (zs : List Int) (cap : Nat) (w : World) (hz : zs.length ≤ 140737488355328) (hb : MC.BytesAt w w.heap.size a zs) :
    Calls Tryd.prog 16 #[.slice a zs.length cap] w fun e w' => ∃ b : Bd, e = .returned b.v ∧ b.py.size ≤ 60 ∧ Below w.heap.size w w' := by
  have hbr := BX.Box.new w 24 B1.zero w.heap.size rfl
  have hW0 : Below w.heap.size w (w.alloc (.cells (BX.cs B1.zero).toArray 24)) := (Below.refl _ w).alloc (Nat.le_refl _) _
  have hb0 := bytes_up (.cells (BX.cs B1.zero).toArray 24) hb
  have hs0 : (w.alloc (.cells (BX.cs B1.zero).toArray 24)).heap.size = w.heap.size + 1 := by simp
  simp only [BX.cs, Bd.cs, B1.zero] at hbr hW0 hb0 hs0
  clear hb
  go_enter Tryd.func16, Tryd.ntmps16
  go_wp2_with fail
  generalize w.alloc (.cells #[.int .i64 0, .int .i64 0, .bool false, .int .i64 0, .int .i64 0, .int .i64 0, .int .i64 0, .int .i64 0, .int .i64 0, .string ⟨#[]⟩] 24) = W0 at *
  change BX.Box W0 w.heap.size 24 B1.zero at hbr
  refine (drawGoodBundle_any a zs cap _ hz hb0).mono ?_
  rintro e w1 ⟨b, rfl, hpy, hB1⟩
  have hBw := hW0.trans (hB1.mono (by omega))
  replace hbr := hbr.below hB1 (by omega)
  clear hB1 hb0 hW0
  obtain ⟨x0, x1, x2, x3, x4, x5, x6, x7, x8, x9⟩ := b
  have m0 := hbr.cells 0
  have g0 := hbr.free 0
  have m1 := hbr.cells 1
  have g1 := hbr.free 1
  have m2 := hbr.cells 2
  have g2 := hbr.free 2
  have m3 := hbr.cells 3
  have g3 := hbr.free 3
  have m4 := hbr.cells 4
  have g4 := hbr.free 4
  have m5 := hbr.cells 5
  have g5 := hbr.free 5
  have m6 := hbr.cells 6
  have g6 := hbr.free 6
  have m7 := hbr.cells 7
  have g7 := hbr.free 7
  have m8 := hbr.cells 8
  have g8 := hbr.free 8
  have m9 := hbr.cells 9
  have g9 := hbr.free 9
  simp [Bd.cs, B1.zero] at m0 m1 m2 m3 m4 m5 m6 m7 m8 m9
  have hrl := hbr.lt
  have hP := hbr.put ⟨x0, x1, x2, x3, x4, x5, x6, x7, x8, x9⟩
  have hBE := ((((((((((hBw.setCell (p := ⟨w.heap.size, 0, none⟩) (by simp) (.int .i64 x0)).setCell (p := ⟨w.heap.size, 1, none⟩) (by simp) (.int .i64 x1)).setCell (p := ⟨w.heap.size, 2, none⟩) (by simp) (.bool x2)).setCell (p := ⟨w.heap.size, 3, none⟩) (by simp) (.int .i64 x3)).setCell (p := ⟨w.heap.size, 4, none⟩) (by simp) (.int .i64 x4)).setCell (p := ⟨w.heap.size, 5, none⟩) (by simp) (.int .i64 x5)).setCell (p := ⟨w.heap.size, 6, none⟩) (by simp) (.int .i64 x6)).setCell (p := ⟨w.heap.size, 7, none⟩) (by simp) (.int .i64 x7)).setCell (p := ⟨w.heap.size, 8, none⟩) (by simp) (.int .i64 x8)).setCell (p := ⟨w.heap.size, 9, none⟩) (by simp) (.string x9))
  clear hbr
  go_wp2
  have n0 := hP.cells 0
  have n1 := hP.cells 1
  have n2 := hP.cells 2
  have n3 := hP.cells 3
  have n4 := hP.cells 4
  have n5 := hP.cells 5
  have n6 := hP.cells 6
  have n7 := hP.cells 7
  have n8 := hP.cells 8
  have n9 := hP.cells 9
  simp [Bd.cs, B1.zero] at n0 n1 n2 n3 n4 n5 n6 n7 n8 n9
  generalize ((((((((((((((((((((w1).setCell ⟨w.heap.size, 0, none⟩ (.int .i64 x0))).setCell ⟨w.heap.size, 1, none⟩ (.int .i64 x1))).setCell ⟨w.heap.size, 2, none⟩ (.bool x2))).setCell ⟨w.heap.size, 3, none⟩ (.int .i64 x3))).setCell ⟨w.heap.size, 4, none⟩ (.int .i64 x4))).setCell ⟨w.heap.size, 5, none⟩ (.int .i64 x5))).setCell ⟨w.heap.size, 6, none⟩ (.int .i64 x6))).setCell ⟨w.heap.size, 7, none⟩ (.int .i64 x7))).setCell ⟨w.heap.size, 8, none⟩ (.int .i64 x8))).setCell ⟨w.heap.size, 9, none⟩ (.string x9)) = WE at *
  exact bodyPost_ret (v := .agg #[.int .i64 x0, .int .i64 x1, .bool x2, .int .i64 x3, .int .i64 x4, .int .i64 x5, .int .i64 x6, .int .i64 x7, .int .i64 x8, .string x9]) (by simp [results, Tryd.results16, go_sem, n0, n1, n2, n3, n4, n5, n6, n7, n8, n9]) rfl ⟨⟨x0, x1, x2, x3, x4, x5, x6, x7, x8, x9⟩, rfl, hpy, hBE⟩
set_option linter.unusedSimpArgs false in
set_option maxHeartbeats 3200000 in
set_option maxRecDepth 100000 in
theorem drawIsOver_any (a : Option Addr) (zs : List Int) (cap : Nat) (w : World) (hz : zs.length ≤ 140737488355328) (hb : MC.BytesAt w w.heap.size a zs) :
    Calls Tryd.prog 13 #[.slice a zs.length cap] w fun e w' => ∃ (b : Bd) (n : Int), e = .returned (.tuple #[b.v, .int .i64 n]) ∧ b.py.size ≤ 60 ∧ (-1 ≤ n ∧ n ≤ 2000001) ∧ Below w.heap.size w w' := by
  have hbr := BX.Box.new w 24 B1.zero w.heap.size rfl
  have hW0 : Below w.heap.size w (w.alloc (.cells (BX.cs B1.zero).toArray 24)) := (Below.refl _ w).alloc (Nat.le_refl _) _
  have hb0 := bytes_up (.cells (BX.cs B1.zero).toArray 24) hb
  have hs0 : (w.alloc (.cells (BX.cs B1.zero).toArray 24)).heap.size = w.heap.size + 1 := by simp
  simp only [BX.cs, Bd.cs, B1.zero] at hbr hW0 hb0 hs0
  clear hb
  go_enter Tryd.func13, Tryd.ntmps13
  go_wp2_with fail
  generalize w.alloc (.cells #[.int .i64 0, .int .i64 0, .bool false, .int .i64 0, .int .i64 0, .int .i64 0, .int .i64 0, .int .i64 0, .int .i64 0, .string ⟨#[]⟩] 24) = W0 at *
  change BX.Box W0 w.heap.size 24 B1.zero at hbr
  obtain ⟨p, hp⟩ : ∃ p, W0.heap.size = p := ⟨_, rfl⟩
  rw [← hs0, hp]
  have hlt : w.heap.size < p := by omega
  have hcur := cur_new (T := 61) (cap := cap) hb0
  have hnb : Hid (∀ W, MC.Only p (W0.alloc (.cells #[.slice a zs.length cap, .int .i64 0, .int .u64 0] 61)) W → Below W0.heap.size W0 W) := fun W h => new_below hp.symm h
  rw [hp] at hcur hs0
  clear hs0
  refine (bundle_any p a zs cap 0 _ hz (by omega) hcur).mono ?_
  rintro e w1 ⟨b, rfl, hpy, hc1, ho1⟩
  have hs1 := ho1.size
  simp at hs1
  clear hcur
  have hc2 := hc1.alloc (.cells #[.int .i64 (-1), .int .i64 0, .int .i64 40, .int .i64 60, .int .i64 100, .int .i64 2000000, .int .i64 2000001] 3)
  have ho2 := ho1.alloc (.cells #[.int .i64 (-1), .int .i64 0, .int .i64 40, .int .i64 60, .int .i64 100, .int .i64 2000000, .int .i64 2000001] 3)
  go_wp2_with fail
  refine (among_any p a zs cap 40 (some ⟨w1.heap.size, 0, none⟩) [-1, 0, 40, 60, 100, 2000000, 2000001] 7 _ hz (by omega) hc2 (by simp) (by simp) (BX.new_ints w1 [-1, 0, 40, 60, 100, 2000000, 2000001] 3) (fun b off e => by simp at e; omega)).mono ?_
  rintro e w2 ⟨n, rfl, hn, -, ho3⟩
  have hn2 : -1 ≤ n ∧ n ≤ 2000001 := by
    simp only [List.mem_cons, List.not_mem_nil, or_false] at hn
    rcases hn with rfl | rfl | rfl | rfl | rfl | rfl | rfl <;> omega
  have hB1 := hnb.out _ (ho2.trans ho3)
  have hBw := hW0.trans (hB1.mono (by omega))
  replace hbr := hbr.below hB1 (by omega)
  clear ho1 ho2 ho3 hB1 hb0 hW0 hc1 hc2 hn
  obtain ⟨x0, x1, x2, x3, x4, x5, x6, x7, x8, x9⟩ := b
  have m0 := hbr.cells 0
  have g0 := hbr.free 0
  have m1 := hbr.cells 1
  have g1 := hbr.free 1
  have m2 := hbr.cells 2
  have g2 := hbr.free 2
  have m3 := hbr.cells 3
  have g3 := hbr.free 3
  have m4 := hbr.cells 4
  have g4 := hbr.free 4
  have m5 := hbr.cells 5
  have g5 := hbr.free 5
  have m6 := hbr.cells 6
  have g6 := hbr.free 6
  have m7 := hbr.cells 7
  have g7 := hbr.free 7
  have m8 := hbr.cells 8
  have g8 := hbr.free 8
  have m9 := hbr.cells 9
  have g9 := hbr.free 9
  simp [Bd.cs, B1.zero] at m0 m1 m2 m3 m4 m5 m6 m7 m8 m9
  have hrl := hbr.lt
  have hP := hbr.put ⟨x0, x1, x2, x3, x4, x5, x6, x7, x8, x9⟩
  have hBE := ((((((((((hBw.setCell (p := ⟨w.heap.size, 0, none⟩) (by simp) (.int .i64 x0)).setCell (p := ⟨w.heap.size, 1, none⟩) (by simp) (.int .i64 x1)).setCell (p := ⟨w.heap.size, 2, none⟩) (by simp) (.bool x2)).setCell (p := ⟨w.heap.size, 3, none⟩) (by simp) (.int .i64 x3)).setCell (p := ⟨w.heap.size, 4, none⟩) (by simp) (.int .i64 x4)).setCell (p := ⟨w.heap.size, 5, none⟩) (by simp) (.int .i64 x5)).setCell (p := ⟨w.heap.size, 6, none⟩) (by simp) (.int .i64 x6)).setCell (p := ⟨w.heap.size, 7, none⟩) (by simp) (.int .i64 x7)).setCell (p := ⟨w.heap.size, 8, none⟩) (by simp) (.int .i64 x8)).setCell (p := ⟨w.heap.size, 9, none⟩) (by simp) (.string x9))
  clear hbr
  go_wp2
  have n0 := hP.cells 0
  have n1 := hP.cells 1
  have n2 := hP.cells 2
  have n3 := hP.cells 3
  have n4 := hP.cells 4
  have n5 := hP.cells 5
  have n6 := hP.cells 6
  have n7 := hP.cells 7
  have n8 := hP.cells 8
  have n9 := hP.cells 9
  simp [Bd.cs, B1.zero] at n0 n1 n2 n3 n4 n5 n6 n7 n8 n9
  generalize ((((((((((((((((((((w2).setCell ⟨w.heap.size, 0, none⟩ (.int .i64 x0))).setCell ⟨w.heap.size, 1, none⟩ (.int .i64 x1))).setCell ⟨w.heap.size, 2, none⟩ (.bool x2))).setCell ⟨w.heap.size, 3, none⟩ (.int .i64 x3))).setCell ⟨w.heap.size, 4, none⟩ (.int .i64 x4))).setCell ⟨w.heap.size, 5, none⟩ (.int .i64 x5))).setCell ⟨w.heap.size, 6, none⟩ (.int .i64 x6))).setCell ⟨w.heap.size, 7, none⟩ (.int .i64 x7))).setCell ⟨w.heap.size, 8, none⟩ (.int .i64 x8))).setCell ⟨w.heap.size, 9, none⟩ (.string x9)) = WE at *
  exact bodyPost_ret (v := .tuple #[.agg #[.int .i64 x0, .int .i64 x1, .bool x2, .int .i64 x3, .int .i64 x4, .int .i64 x5, .int .i64 x6, .int .i64 x7, .int .i64 x8, .string x9], .int .i64 n]) (by simp [results, Tryd.results13, go_sem, n0, n1, n2, n3, n4, n5, n6, n7, n8, n9]) rfl ⟨⟨x0, x1, x2, x3, x4, x5, x6, x7, x8, x9⟩, n, rfl, hpy, hn2, hBE⟩
set_option linter.unusedSimpArgs false in
set_option maxHeartbeats 3200000 in
set_option maxRecDepth 100000 in
theorem drawSame_any (a : Option Addr) (zs : List Int) (cap : Nat) (w : World) (hz : zs.length ≤ 140737488355328) (hb : MC.BytesAt w w.heap.size a zs) :
    Calls Tryd.prog 20 #[.slice a zs.length cap] w fun e w' => ∃ b c : Bd, e = .returned (.tuple #[b.v, c.v]) ∧ b.py.size ≤ 60 ∧ c.py.size ≤ 60 ∧ Below w.heap.size w w' := by
  have hr1 := (BX.Box.new w 24 B1.zero w.heap.size rfl).alloc (.cells (BX.cs B1.zero).toArray 24)
  have hr2 := BX.Box.new (w.alloc (.cells (BX.cs B1.zero).toArray 24)) 24 B1.zero (w.heap.size + 1) (by simp)
  have hW0 : Below w.heap.size w ((w.alloc (.cells (BX.cs B1.zero).toArray 24)).alloc (.cells (BX.cs B1.zero).toArray 24)) := ((Below.refl _ w).alloc (Nat.le_refl _) _).alloc (by simp) _
  have hb0 := bytes_up (.cells (BX.cs B1.zero).toArray 24) (bytes_up (.cells (BX.cs B1.zero).toArray 24) hb)
  have hs0 : ((w.alloc (.cells (BX.cs B1.zero).toArray 24)).alloc (.cells (BX.cs B1.zero).toArray 24)).heap.size = w.heap.size + 1 + 1 := by simp
  simp only [BX.cs, Bd.cs, B1.zero] at hr1 hr2 hW0 hb0 hs0
  clear hb
  go_enter Tryd.func20, Tryd.ntmps20
  go_wp2_with fail
  generalize (w.alloc (.cells #[.int .i64 0, .int .i64 0, .bool false, .int .i64 0, .int .i64 0, .int .i64 0, .int .i64 0, .int .i64 0, .int .i64 0, .string ⟨#[]⟩] 24)).alloc (.cells #[.int .i64 0, .int .i64 0, .bool false, .int .i64 0, .int .i64 0, .int .i64 0, .int .i64 0, .int .i64 0, .int .i64 0, .string ⟨#[]⟩] 24) = W0 at *
  obtain ⟨p, hp⟩ : ∃ p, W0.heap.size = p := ⟨_, rfl⟩
  rw [← hs0, hp]
  obtain ⟨r, hr⟩ : ∃ r, w.heap.size = r := ⟨_, rfl⟩
  obtain ⟨s, hs⟩ : ∃ s, w.heap.size + 1 = s := ⟨_, rfl⟩
  have hcur := cur_new (T := 61) (cap := cap) hb0
  have hnb : Hid (∀ W, MC.Only p (W0.alloc (.cells #[.slice a zs.length cap, .int .i64 0, .int .u64 0] 61)) W → Below w.heap.size w W) := fun W h => hW0.trans ((new_below hp.symm h).mono (by omega))
  rw [hp] at hcur hs0
  rw [hs] at hr2 hs0 ⊢
  rw [hr] at hr1 hs ⊢
  have hrp : r ≠ p := by omega
  have hsp : s ≠ p := by omega
  have hrs : r ≠ s := by omega
  have hsr : s ≠ r := by omega
  have hwr : w.heap.size ≤ r := by omega
  have hws : w.heap.size ≤ s := by omega
  have hsp' : s < p := by omega
  have hrp' : r < p := by omega
  clear hs0 hs
  change BX.Box W0 r 24 B1.zero at hr1
  change BX.Box W0 s 24 B1.zero at hr2
  replace hr1 := hr1.alloc (.cells #[.slice a zs.length cap, .int .i64 0, .int .u64 0] 61)
  replace hr2 := hr2.alloc (.cells #[.slice a zs.length cap, .int .i64 0, .int .u64 0] 61)
  refine (bundle_any p a zs cap 0 _ hz (by omega) hcur).mono ?_
  rintro e w1 ⟨b, rfl, hpx, hc, ho⟩
  replace hr1 := hr1.only ho hrp
  replace hr2 := hr2.only ho hsp
  have hpl := hc.lt
  obtain ⟨x0, x1, x2, x3, x4, x5, x6, x7, x8, x9⟩ := b
  have hqa := BX.Box.new w1 24 ⟨x0, x1, x2, x3, x4, x5, x6, x7, x8, x9⟩ w1.heap.size rfl
  replace hc := hc.alloc (.cells #[.int .i64 x0, .int .i64 x1, .bool x2, .int .i64 x3, .int .i64 x4, .int .i64 x5, .int .i64 x6, .int .i64 x7, .int .i64 x8, .string x9] 24)
  replace ho := ho.alloc (.cells #[.int .i64 x0, .int .i64 x1, .bool x2, .int .i64 x3, .int .i64 x4, .int .i64 x5, .int .i64 x6, .int .i64 x7, .int .i64 x8, .string x9] 24)
  replace hr1 := hr1.alloc (.cells #[.int .i64 x0, .int .i64 x1, .bool x2, .int .i64 x3, .int .i64 x4, .int .i64 x5, .int .i64 x6, .int .i64 x7, .int .i64 x8, .string x9] 24)
  replace hr2 := hr2.alloc (.cells #[.int .i64 x0, .int .i64 x1, .bool x2, .int .i64 x3, .int .i64 x4, .int .i64 x5, .int .i64 x6, .int .i64 x7, .int .i64 x8, .string x9] 24)
  simp only [BX.cs, Bd.cs] at hqa
  clear hcur
  go_wp2_with fail
  generalize w1.alloc (.cells #[.int .i64 x0, .int .i64 x1, .bool x2, .int .i64 x3, .int .i64 x4, .int .i64 x5, .int .i64 x6, .int .i64 x7, .int .i64 x8, .string x9] 24) = W1 at *
  obtain ⟨qa, hqq⟩ : ∃ qa, w1.heap.size = qa := ⟨_, rfl⟩
  rw [hqq] at hqa hpl ⊢
  have hap : qa ≠ p := by omega
  have har : qa ≠ r := by omega
  have has : qa ≠ s := by omega
  clear hqq
  refine (bundle_any p a zs cap (0 + 40) _ hz (by omega) hc).mono ?_
  rintro e w2 ⟨b, rfl, hpy, hc', ho'⟩
  replace hr1 := hr1.only ho' hrp
  replace hr2 := hr2.only ho' hsp
  replace hqa := hqa.only ho' hap
  replace ho := ho.trans ho'
  obtain ⟨y0, y1, y2, y3, y4, y5, y6, y7, y8, y9⟩ := b
  have hqb := BX.Box.new w2 24 ⟨y0, y1, y2, y3, y4, y5, y6, y7, y8, y9⟩ w2.heap.size rfl
  have hpl2 := hc'.lt
  have hal := hqa.lt
  have hc2 := hc'.alloc (.cells #[.int .i64 y0, .int .i64 y1, .bool y2, .int .i64 y3, .int .i64 y4, .int .i64 y5, .int .i64 y6, .int .i64 y7, .int .i64 y8, .string y9] 24)
  replace ho := ho.alloc (.cells #[.int .i64 y0, .int .i64 y1, .bool y2, .int .i64 y3, .int .i64 y4, .int .i64 y5, .int .i64 y6, .int .i64 y7, .int .i64 y8, .string y9] 24)
  replace hr1 := hr1.alloc (.cells #[.int .i64 y0, .int .i64 y1, .bool y2, .int .i64 y3, .int .i64 y4, .int .i64 y5, .int .i64 y6, .int .i64 y7, .int .i64 y8, .string y9] 24)
  replace hr2 := hr2.alloc (.cells #[.int .i64 y0, .int .i64 y1, .bool y2, .int .i64 y3, .int .i64 y4, .int .i64 y5, .int .i64 y6, .int .i64 y7, .int .i64 y8, .string y9] 24)
  replace hqa := hqa.alloc (.cells #[.int .i64 y0, .int .i64 y1, .bool y2, .int .i64 y3, .int .i64 y4, .int .i64 y5, .int .i64 y6, .int .i64 y7, .int .i64 y8, .string y9] 24)
  simp only [BX.cs, Bd.cs] at hqb
  clear hc hc' ho'
  go_wp2_with fail
  generalize w2.alloc (.cells #[.int .i64 y0, .int .i64 y1, .bool y2, .int .i64 y3, .int .i64 y4, .int .i64 y5, .int .i64 y6, .int .i64 y7, .int .i64 y8, .string y9] 24) = W2 at *
  obtain ⟨qb, hqq⟩ : ∃ qb, w2.heap.size = qb := ⟨_, rfl⟩
  rw [hqq] at hqb hpl2 hal ⊢
  have hbp : qb ≠ p := by omega
  have hbr : qb ≠ r := by omega
  have hbs : qb ≠ s := by omega
  have hab : qa ≠ qb := by omega
  have hrb : r ≠ qb := by omega
  have hsb : s ≠ qb := by omega
  have hwb : w.heap.size ≤ qb := by omega
  clear hqq hal hpl2
  refine (one_any p a zs cap (0 + 40 + 40) _ _ hz (by omega) hc2).mono ?_
  rintro e w3 ⟨b, rfl, -, ho'⟩
  replace hr1 := hr1.only ho' hrp
  replace hr2 := hr2.only ho' hsp
  replace hqa := hqa.only ho' hap
  replace hqb := hqb.only ho' hbp
  have hBw := hnb.out _ (ho.trans ho')
  clear ho ho' hc2 hnb hW0 hb0 hp
  cases b
  · have k0 := hqa.cells 0
    have k1 := hqa.cells 1
    have k2 := hqa.cells 2
    have k3 := hqa.cells 3
    have k4 := hqa.cells 4
    have k5 := hqa.cells 5
    have k6 := hqa.cells 6
    have k7 := hqa.cells 7
    have k8 := hqa.cells 8
    have k9 := hqa.cells 9
    simp [Bd.cs, B1.zero] at k0 k1 k2 k3 k4 k5 k6 k7 k8 k9
    have l0 := hqb.cells 0
    have l1 := hqb.cells 1
    have l2 := hqb.cells 2
    have l3 := hqb.cells 3
    have l4 := hqb.cells 4
    have l5 := hqb.cells 5
    have l6 := hqb.cells 6
    have l7 := hqb.cells 7
    have l8 := hqb.cells 8
    have l9 := hqb.cells 9
    simp [Bd.cs, B1.zero] at l0 l1 l2 l3 l4 l5 l6 l7 l8 l9
    have m0 := hr1.cells 0
    have g0 := hr1.free 0
    have m1 := hr1.cells 1
    have g1 := hr1.free 1
    have m2 := hr1.cells 2
    have g2 := hr1.free 2
    have m3 := hr1.cells 3
    have g3 := hr1.free 3
    have m4 := hr1.cells 4
    have g4 := hr1.free 4
    have m5 := hr1.cells 5
    have g5 := hr1.free 5
    have m6 := hr1.cells 6
    have g6 := hr1.free 6
    have m7 := hr1.cells 7
    have g7 := hr1.free 7
    have m8 := hr1.cells 8
    have g8 := hr1.free 8
    have m9 := hr1.cells 9
    have g9 := hr1.free 9
    simp [Bd.cs, B1.zero] at m0 m1 m2 m3 m4 m5 m6 m7 m8 m9
    have o0 := hr2.cells 0
    have f0 := hr2.free 0
    have o1 := hr2.cells 1
    have f1 := hr2.free 1
    have o2 := hr2.cells 2
    have f2 := hr2.free 2
    have o3 := hr2.cells 3
    have f3 := hr2.free 3
    have o4 := hr2.cells 4
    have f4 := hr2.free 4
    have o5 := hr2.cells 5
    have f5 := hr2.free 5
    have o6 := hr2.cells 6
    have f6 := hr2.free 6
    have o7 := hr2.cells 7
    have f7 := hr2.free 7
    have o8 := hr2.cells 8
    have f8 := hr2.free 8
    have o9 := hr2.cells 9
    have f9 := hr2.free 9
    simp [Bd.cs, B1.zero] at o0 o1 o2 o3 o4 o5 o6 o7 o8 o9
    have la := hqa.lt
    have lb := hqb.lt
    have lr := hr1.lt
    have lr2 := hr2.lt
    have hP := hr1.put ⟨x0, x1, x2, x3, x4, x5, x6, x7, x8, x9⟩
    have hPf := ((((((((((hP).far (g := s) (j := 0) (v := .int .i64 y0) hrs).far (g := s) (j := 1) (v := .int .i64 y1) hrs).far (g := s) (j := 2) (v := .bool y2) hrs).far (g := s) (j := 3) (v := .int .i64 y3) hrs).far (g := s) (j := 4) (v := .int .i64 y4) hrs).far (g := s) (j := 5) (v := .int .i64 y5) hrs).far (g := s) (j := 6) (v := .int .i64 y6) hrs).far (g := s) (j := 7) (v := .int .i64 y7) hrs).far (g := s) (j := 8) (v := .int .i64 y8) hrs).far (g := s) (j := 9) (v := .string y9) hrs
    have hQ0 := ((((((((((hr2).far (g := r) (j := 0) (v := .int .i64 x0) hsr).far (g := r) (j := 1) (v := .int .i64 x1) hsr).far (g := r) (j := 2) (v := .bool x2) hsr).far (g := r) (j := 3) (v := .int .i64 x3) hsr).far (g := r) (j := 4) (v := .int .i64 x4) hsr).far (g := r) (j := 5) (v := .int .i64 x5) hsr).far (g := r) (j := 6) (v := .int .i64 x6) hsr).far (g := r) (j := 7) (v := .int .i64 x7) hsr).far (g := r) (j := 8) (v := .int .i64 x8) hsr).far (g := r) (j := 9) (v := .string x9) hsr
    have hQ := hQ0.put ⟨y0, y1, y2, y3, y4, y5, y6, y7, y8, y9⟩
    have hBE := ((((((((((((((((((((hBw.setCell (p := ⟨r, 0, none⟩) hwr (.int .i64 x0)).setCell (p := ⟨r, 1, none⟩) hwr (.int .i64 x1)).setCell (p := ⟨r, 2, none⟩) hwr (.bool x2)).setCell (p := ⟨r, 3, none⟩) hwr (.int .i64 x3)).setCell (p := ⟨r, 4, none⟩) hwr (.int .i64 x4)).setCell (p := ⟨r, 5, none⟩) hwr (.int .i64 x5)).setCell (p := ⟨r, 6, none⟩) hwr (.int .i64 x6)).setCell (p := ⟨r, 7, none⟩) hwr (.int .i64 x7)).setCell (p := ⟨r, 8, none⟩) hwr (.int .i64 x8)).setCell (p := ⟨r, 9, none⟩) hwr (.string x9)).setCell (p := ⟨s, 0, none⟩) hws (.int .i64 y0)).setCell (p := ⟨s, 1, none⟩) hws (.int .i64 y1)).setCell (p := ⟨s, 2, none⟩) hws (.bool y2)).setCell (p := ⟨s, 3, none⟩) hws (.int .i64 y3)).setCell (p := ⟨s, 4, none⟩) hws (.int .i64 y4)).setCell (p := ⟨s, 5, none⟩) hws (.int .i64 y5)).setCell (p := ⟨s, 6, none⟩) hws (.int .i64 y6)).setCell (p := ⟨s, 7, none⟩) hws (.int .i64 y7)).setCell (p := ⟨s, 8, none⟩) hws (.int .i64 y8)).setCell (p := ⟨s, 9, none⟩) hws (.string y9))
    clear hqa hqb hr1 hr2 hP hQ0
    go_wp2
    go_region_with (fail)
    all_goals (
      go_wp2
      have n0 := hPf.cells 0
      have n1 := hPf.cells 1
      have n2 := hPf.cells 2
      have n3 := hPf.cells 3
      have n4 := hPf.cells 4
      have n5 := hPf.cells 5
      have n6 := hPf.cells 6
      have n7 := hPf.cells 7
      have n8 := hPf.cells 8
      have n9 := hPf.cells 9
      simp [Bd.cs, B1.zero] at n0 n1 n2 n3 n4 n5 n6 n7 n8 n9
      have q0 := hQ.cells 0
      have q1 := hQ.cells 1
      have q2 := hQ.cells 2
      have q3 := hQ.cells 3
      have q4 := hQ.cells 4
      have q5 := hQ.cells 5
      have q6 := hQ.cells 6
      have q7 := hQ.cells 7
      have q8 := hQ.cells 8
      have q9 := hQ.cells 9
      simp [Bd.cs, B1.zero] at q0 q1 q2 q3 q4 q5 q6 q7 q8 q9
      generalize ((((((((((((((((((((((((((((((((((((((((w3).setCell ⟨r, 0, none⟩ (.int .i64 x0))).setCell ⟨r, 1, none⟩ (.int .i64 x1))).setCell ⟨r, 2, none⟩ (.bool x2))).setCell ⟨r, 3, none⟩ (.int .i64 x3))).setCell ⟨r, 4, none⟩ (.int .i64 x4))).setCell ⟨r, 5, none⟩ (.int .i64 x5))).setCell ⟨r, 6, none⟩ (.int .i64 x6))).setCell ⟨r, 7, none⟩ (.int .i64 x7))).setCell ⟨r, 8, none⟩ (.int .i64 x8))).setCell ⟨r, 9, none⟩ (.string x9))).setCell ⟨s, 0, none⟩ (.int .i64 y0))).setCell ⟨s, 1, none⟩ (.int .i64 y1))).setCell ⟨s, 2, none⟩ (.bool y2))).setCell ⟨s, 3, none⟩ (.int .i64 y3))).setCell ⟨s, 4, none⟩ (.int .i64 y4))).setCell ⟨s, 5, none⟩ (.int .i64 y5))).setCell ⟨s, 6, none⟩ (.int .i64 y6))).setCell ⟨s, 7, none⟩ (.int .i64 y7))).setCell ⟨s, 8, none⟩ (.int .i64 y8))).setCell ⟨s, 9, none⟩ (.string y9)) = WE at *
      exact bodyPost_ret (v := .tuple #[.agg #[.int .i64 x0, .int .i64 x1, .bool x2, .int .i64 x3, .int .i64 x4, .int .i64 x5, .int .i64 x6, .int .i64 x7, .int .i64 x8, .string x9], .agg #[.int .i64 y0, .int .i64 y1, .bool y2, .int .i64 y3, .int .i64 y4, .int .i64 y5, .int .i64 y6, .int .i64 y7, .int .i64 y8, .string y9]]) (by simp [results, Tryd.results20, go_sem, n0, n1, n2, n3, n4, n5, n6, n7, n8, n9, q0, q1, q2, q3, q4, q5, q6, q7, q8, q9]) rfl ⟨⟨x0, x1, x2, x3, x4, x5, x6, x7, x8, x9⟩, ⟨y0, y1, y2, y3, y4, y5, y6, y7, y8, y9⟩, rfl, hpx, hpy, below_drewN hBE _⟩)
  · have ka0 := hqa.cells 0
    have ka3 := hqa.cells 3
    have kb0 := hqb.cells 0
    have kb3 := hqb.cells 3
    simp [Bd.cs] at ka0 ka3 kb0 kb3
    have fb0 := hqb.free 0
    have fb3 := hqb.free 3
    have la := hqa.lt
    have lb := hqb.lt
    have hqb2 : BX.Box ((w3.setCell ⟨qb, 0, none⟩ (.int .i64 x0)).setCell ⟨qb, 3, none⟩ (.int .i64 x3)) qb 24 ⟨x0, y1, y2, x3, y4, y5, y6, y7, y8, y9⟩ := (hqb.set (b' := ⟨x0, y1, y2, y3, y4, y5, y6, y7, y8, y9⟩) rfl).set rfl
    have hqa2 := (hqa.far (g := qb) (j := 0) (v := .int .i64 x0) hab).far (g := qb) (j := 3) (v := .int .i64 x3) hab
    have hr12 := (hr1.far (g := qb) (j := 0) (v := .int .i64 x0) hrb).far (g := qb) (j := 3) (v := .int .i64 x3) hrb
    have hr22 := (hr2.far (g := qb) (j := 0) (v := .int .i64 x0) hsb).far (g := qb) (j := 3) (v := .int .i64 x3) hsb
    have hBw2 := (hBw.setCell (p := ⟨qb, 0, none⟩) hwb (.int .i64 x0)).setCell (p := ⟨qb, 3, none⟩) hwb (.int .i64 x3)
    clear hqa hqb hr1 hr2 hBw
    go_wp2_with fail
    clear ka0 ka3 kb0 kb3 fb0 fb3 la lb
    generalize (w3.setCell ⟨qb, 0, none⟩ (.int .i64 x0)).setCell ⟨qb, 3, none⟩ (.int .i64 x3) = w4 at *
    obtain ⟨B, hB⟩ : ∃ B : Bd, (⟨x0, y1, y2, x3, y4, y5, y6, y7, y8, y9⟩ : Bd) = B := ⟨_, rfl⟩
    rw [hB] at hqb2
    have hpz : B.py.size ≤ 60 := by rw [← hB]; exact hpy
    clear hB hpy
    have hpy := hpz
    obtain ⟨z0, z1, z2, z3, z4, z5, z6, z7, z8, z9⟩ := B
    have hqa := hqa2
    have hqb := hqb2
    have hr1 := hr12
    have hr2 := hr22
    have hBw := hBw2
    clear hqa2 hqb2 hr12 hr22 hBw2
    have k0 := hqa.cells 0
    have k1 := hqa.cells 1
    have k2 := hqa.cells 2
    have k3 := hqa.cells 3
    have k4 := hqa.cells 4
    have k5 := hqa.cells 5
    have k6 := hqa.cells 6
    have k7 := hqa.cells 7
    have k8 := hqa.cells 8
    have k9 := hqa.cells 9
    simp [Bd.cs, B1.zero] at k0 k1 k2 k3 k4 k5 k6 k7 k8 k9
    have l0 := hqb.cells 0
    have l1 := hqb.cells 1
    have l2 := hqb.cells 2
    have l3 := hqb.cells 3
    have l4 := hqb.cells 4
    have l5 := hqb.cells 5
    have l6 := hqb.cells 6
    have l7 := hqb.cells 7
    have l8 := hqb.cells 8
    have l9 := hqb.cells 9
    simp [Bd.cs, B1.zero] at l0 l1 l2 l3 l4 l5 l6 l7 l8 l9
    have m0 := hr1.cells 0
    have g0 := hr1.free 0
    have m1 := hr1.cells 1
    have g1 := hr1.free 1
    have m2 := hr1.cells 2
    have g2 := hr1.free 2
    have m3 := hr1.cells 3
    have g3 := hr1.free 3
    have m4 := hr1.cells 4
    have g4 := hr1.free 4
    have m5 := hr1.cells 5
    have g5 := hr1.free 5
    have m6 := hr1.cells 6
    have g6 := hr1.free 6
    have m7 := hr1.cells 7
    have g7 := hr1.free 7
    have m8 := hr1.cells 8
    have g8 := hr1.free 8
    have m9 := hr1.cells 9
    have g9 := hr1.free 9
    simp [Bd.cs, B1.zero] at m0 m1 m2 m3 m4 m5 m6 m7 m8 m9
    have o0 := hr2.cells 0
    have f0 := hr2.free 0
    have o1 := hr2.cells 1
    have f1 := hr2.free 1
    have o2 := hr2.cells 2
    have f2 := hr2.free 2
    have o3 := hr2.cells 3
    have f3 := hr2.free 3
    have o4 := hr2.cells 4
    have f4 := hr2.free 4
    have o5 := hr2.cells 5
    have f5 := hr2.free 5
    have o6 := hr2.cells 6
    have f6 := hr2.free 6
    have o7 := hr2.cells 7
    have f7 := hr2.free 7
    have o8 := hr2.cells 8
    have f8 := hr2.free 8
    have o9 := hr2.cells 9
    have f9 := hr2.free 9
    simp [Bd.cs, B1.zero] at o0 o1 o2 o3 o4 o5 o6 o7 o8 o9
    have la := hqa.lt
    have lb := hqb.lt
    have lr := hr1.lt
    have lr2 := hr2.lt
    have hP := hr1.put ⟨x0, x1, x2, x3, x4, x5, x6, x7, x8, x9⟩
    have hPf := ((((((((((hP).far (g := s) (j := 0) (v := .int .i64 z0) hrs).far (g := s) (j := 1) (v := .int .i64 z1) hrs).far (g := s) (j := 2) (v := .bool z2) hrs).far (g := s) (j := 3) (v := .int .i64 z3) hrs).far (g := s) (j := 4) (v := .int .i64 z4) hrs).far (g := s) (j := 5) (v := .int .i64 z5) hrs).far (g := s) (j := 6) (v := .int .i64 z6) hrs).far (g := s) (j := 7) (v := .int .i64 z7) hrs).far (g := s) (j := 8) (v := .int .i64 z8) hrs).far (g := s) (j := 9) (v := .string z9) hrs
    have hQ0 := ((((((((((hr2).far (g := r) (j := 0) (v := .int .i64 x0) hsr).far (g := r) (j := 1) (v := .int .i64 x1) hsr).far (g := r) (j := 2) (v := .bool x2) hsr).far (g := r) (j := 3) (v := .int .i64 x3) hsr).far (g := r) (j := 4) (v := .int .i64 x4) hsr).far (g := r) (j := 5) (v := .int .i64 x5) hsr).far (g := r) (j := 6) (v := .int .i64 x6) hsr).far (g := r) (j := 7) (v := .int .i64 x7) hsr).far (g := r) (j := 8) (v := .int .i64 x8) hsr).far (g := r) (j := 9) (v := .string x9) hsr
    have hQ := hQ0.put ⟨z0, z1, z2, z3, z4, z5, z6, z7, z8, z9⟩
    have hBE := ((((((((((((((((((((hBw.setCell (p := ⟨r, 0, none⟩) hwr (.int .i64 x0)).setCell (p := ⟨r, 1, none⟩) hwr (.int .i64 x1)).setCell (p := ⟨r, 2, none⟩) hwr (.bool x2)).setCell (p := ⟨r, 3, none⟩) hwr (.int .i64 x3)).setCell (p := ⟨r, 4, none⟩) hwr (.int .i64 x4)).setCell (p := ⟨r, 5, none⟩) hwr (.int .i64 x5)).setCell (p := ⟨r, 6, none⟩) hwr (.int .i64 x6)).setCell (p := ⟨r, 7, none⟩) hwr (.int .i64 x7)).setCell (p := ⟨r, 8, none⟩) hwr (.int .i64 x8)).setCell (p := ⟨r, 9, none⟩) hwr (.string x9)).setCell (p := ⟨s, 0, none⟩) hws (.int .i64 z0)).setCell (p := ⟨s, 1, none⟩) hws (.int .i64 z1)).setCell (p := ⟨s, 2, none⟩) hws (.bool z2)).setCell (p := ⟨s, 3, none⟩) hws (.int .i64 z3)).setCell (p := ⟨s, 4, none⟩) hws (.int .i64 z4)).setCell (p := ⟨s, 5, none⟩) hws (.int .i64 z5)).setCell (p := ⟨s, 6, none⟩) hws (.int .i64 z6)).setCell (p := ⟨s, 7, none⟩) hws (.int .i64 z7)).setCell (p := ⟨s, 8, none⟩) hws (.int .i64 z8)).setCell (p := ⟨s, 9, none⟩) hws (.string z9))
    clear hqa hqb hr1 hr2 hP hQ0
    go_wp2
    go_region_with (fail)
    all_goals (
      go_wp2
      have n0 := hPf.cells 0
      have n1 := hPf.cells 1
      have n2 := hPf.cells 2
      have n3 := hPf.cells 3
      have n4 := hPf.cells 4
      have n5 := hPf.cells 5
      have n6 := hPf.cells 6
      have n7 := hPf.cells 7
      have n8 := hPf.cells 8
      have n9 := hPf.cells 9
      simp [Bd.cs, B1.zero] at n0 n1 n2 n3 n4 n5 n6 n7 n8 n9
      have q0 := hQ.cells 0
      have q1 := hQ.cells 1
      have q2 := hQ.cells 2
      have q3 := hQ.cells 3
      have q4 := hQ.cells 4
      have q5 := hQ.cells 5
      have q6 := hQ.cells 6
      have q7 := hQ.cells 7
      have q8 := hQ.cells 8
      have q9 := hQ.cells 9
      simp [Bd.cs, B1.zero] at q0 q1 q2 q3 q4 q5 q6 q7 q8 q9
      generalize ((((((((((((((((((((((((((((((((((((((((w4).setCell ⟨r, 0, none⟩ (.int .i64 x0))).setCell ⟨r, 1, none⟩ (.int .i64 x1))).setCell ⟨r, 2, none⟩ (.bool x2))).setCell ⟨r, 3, none⟩ (.int .i64 x3))).setCell ⟨r, 4, none⟩ (.int .i64 x4))).setCell ⟨r, 5, none⟩ (.int .i64 x5))).setCell ⟨r, 6, none⟩ (.int .i64 x6))).setCell ⟨r, 7, none⟩ (.int .i64 x7))).setCell ⟨r, 8, none⟩ (.int .i64 x8))).setCell ⟨r, 9, none⟩ (.string x9))).setCell ⟨s, 0, none⟩ (.int .i64 z0))).setCell ⟨s, 1, none⟩ (.int .i64 z1))).setCell ⟨s, 2, none⟩ (.bool z2))).setCell ⟨s, 3, none⟩ (.int .i64 z3))).setCell ⟨s, 4, none⟩ (.int .i64 z4))).setCell ⟨s, 5, none⟩ (.int .i64 z5))).setCell ⟨s, 6, none⟩ (.int .i64 z6))).setCell ⟨s, 7, none⟩ (.int .i64 z7))).setCell ⟨s, 8, none⟩ (.int .i64 z8))).setCell ⟨s, 9, none⟩ (.string z9)) = WE at *
      exact bodyPost_ret (v := .tuple #[.agg #[.int .i64 x0, .int .i64 x1, .bool x2, .int .i64 x3, .int .i64 x4, .int .i64 x5, .int .i64 x6, .int .i64 x7, .int .i64 x8, .string x9], .agg #[.int .i64 z0, .int .i64 z1, .bool z2, .int .i64 z3, .int .i64 z4, .int .i64 z5, .int .i64 z6, .int .i64 z7, .int .i64 z8, .string z9]]) (by simp [results, Tryd.results20, go_sem, n0, n1, n2, n3, n4, n5, n6, n7, n8, n9, q0, q1, q2, q3, q4, q5, q6, q7, q8, q9]) rfl ⟨⟨x0, x1, x2, x3, x4, x5, x6, x7, x8, x9⟩, ⟨z0, z1, z2, z3, z4, z5, z6, z7, z8, z9⟩, rfl, hpx, hpy, below_drewN hBE _⟩)
end Go.Proofs.YtcpfbgogfhlmjaaDoor
