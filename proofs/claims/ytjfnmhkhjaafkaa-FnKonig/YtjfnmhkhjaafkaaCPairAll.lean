/- MatchAll of the specification. -/
import Derived.Test.YtjfnmhkhjaafkaaRows
import Derived.Test.YtjfnmhkhjaafkaaCPairAll0
import Derived.WalkKit
import Derived.WalkSpells
import Derived.WalkLawsBesides
import Derived.Outline
namespace Go.Proofs.Ytjfnmhkhjaafkaa
open Go.RowKit
set_option maxHeartbeats 1600000 in
set_option maxRecDepth 100000 in
theorem specAll_any (l r : Int) (a : Option Addr) (cap : Nat) (ws : List (List Int)) (w : World) (hz : ws.length ≤ 1048576) (ht : NR.tot ws ≤ 1048576) (hin : NR.RowsAt w a ws) (L : List Int) (g : Bool) (hL : Hid (PG.allL l r ws = L)) (hg : Hid (PG.good l r ws = g)) :
    Calls Try.prog 7 #[PG.pv l r (.slice a ws.length cap)] w fun e w' => ∃ a1 c1, e = .returned (.tuple #[.slice a1 L.length c1, .bool g]) ∧ w'.ownsRow w.heap.size 3 1 (.slice a1 L.length c1) L.length (M4.iv L) ∧ Below w.heap.size w w' := by
  have hB : Below w.heap.size w (w.alloc (Obj.cells #[.int .i64 l, .int .i64 r, .slice a ws.length cap] 25)) := (Below.refl _ _).alloc (Nat.le_refl _) _
  have hC : (w.alloc (Obj.cells #[.int .i64 l, .int .i64 r, .slice a ws.length cap] 25)).cell? ⟨w.heap.size, 0, none⟩ = some (.int .i64 l) ∧ (w.alloc (Obj.cells #[.int .i64 l, .int .i64 r, .slice a ws.length cap] 25)).cell? ⟨w.heap.size, 1, none⟩ = some (.int .i64 r) ∧ (w.alloc (Obj.cells #[.int .i64 l, .int .i64 r, .slice a ws.length cap] 25)).cell? ⟨w.heap.size, 2, none⟩ = some (.slice a ws.length cap) := by simp
  have hS : w.heap.size < (w.alloc (Obj.cells #[.int .i64 l, .int .i64 r, .slice a ws.length cap] 25)).heap.size := by simp
  have GD : Hid _ := specGoodP_any l r a cap ws _ hz ht (hin.below hB) g hg
  have LA : Hid (g = true → ∀ W : World, Below w.heap.size w W → Calls Try.prog 26 #[PG.pv l r (.slice a ws.length cap)] W fun e w' => ∃ a1 c1, e = .returned (.slice a1 L.length c1) ∧ w'.ownsRow W.heap.size 3 1 (.slice a1 L.length c1) L.length (M4.iv L) ∧ Below W.heap.size W w') := fun h W hb => by
    have h1 := hg.out.trans h
    have hd := (PG.good_is h1).1
    have hlen := PG.allL_len h1
    rw [hL.out] at hlen
    have := l10All_any l.toNat r.toNat a cap ws W (by omega) (by omega) (by omega) (by omega) ht (fun j x hx => by have := PG.good_want h1 j x hx; omega) (hin.below hb) L (by rw [PG.allL_yes h1]; exact hL)
    rw [show ((r.toNat : Nat) : Int) = r from by omega, show ((l.toNat : Nat) : Int) = l from by omega, ← hlen] at this
    exact this
  have HNO : Hid (g = false → L = []) := fun h => by rw [← hL.out]; exact PG.allL_no (hg.out.trans h)
  clear hin hL hg
  go_enter Try.func7, Try.ntmps7
  go_wp2_with fail
  generalize w.alloc (Obj.cells #[.int .i64 l, .int .i64 r, .slice a ws.length cap] 25) = W at *
  refine Calls.mono GD.out ?_
  rintro e w2 ⟨rfl, hb2⟩
  have c0 := (hb2.cell (p := ⟨w.heap.size, 0, none⟩) hS).trans hC.1
  have c1 := (hb2.cell (p := ⟨w.heap.size, 1, none⟩) hS).trans hC.2.1
  have c2 := (hb2.cell (p := ⟨w.heap.size, 2, none⟩) hS).trans hC.2.2
  have hB2 := hB.trans (hb2.mono hB.size)
  clear GD hb2 hC hS hB
  cases g
  · obtain rfl := HNO.out rfl
    clear LA HNO
    go_wp2
    go_ret2
    exact ⟨none, 0, rfl, World.ownsRow_nil _ _ _ _, hB2⟩
  · have L2 : Hid _ := LA.out rfl w2 hB2
    clear LA HNO
    go_wp2_with fail
    refine Calls.mono L2.out ?_
    rintro e w3 ⟨a1, d1, rfl, ho, hb3⟩
    have hB3 := hB2.trans (hb3.mono hB2.size)
    have HO : Hid _ := ho
    clear L2 hb3 ho
    go_wp2
    go_ret2
    exact ⟨a1, d1, rfl, PG.own_mono HO.out hB2.size, hB3⟩
end Go.Proofs.Ytjfnmhkhjaafkaa
