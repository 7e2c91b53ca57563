/- ImproveMatch of the specification. -/
import Derived.Test.YtjfnmhkhjaafkaaRows
import Derived.Test.YtjfnmhkhjaafkaaCPairImp0
import Derived.Test.YtjfnmhkhjaafkaaCPairIs
import Derived.WalkKit
import Derived.WalkSpells
import Derived.WalkLawsBesides
import Derived.Outline
namespace Go.Proofs.Ytjfnmhkhjaafkaa
open Go.RowKit
namespace PG
noncomputable def impL (l r : Int) (ws : List (List Int)) (m : List Int) : Option (List Int) := if imB l r ws m = true then imp ws m m.length else none
theorem impL_yes {l r : Int} {ws : List (List Int)} {m : List Int} (h : imB l r ws m = true) : imp ws m m.length = impL l r ws m := by rw [impL, if_pos h]
theorem impL_no {l r : Int} {ws : List (List Int)} {m : List Int} (h : imB l r ws m = false) : none = impL l r ws m := by rw [impL, h]; rfl
theorem imB_is {l r : Int} {ws : List (List Int)} {m : List Int} (h : imB l r ws m = true) : good l r ws = true ∧ (m.length : Int) = l ∧ isB ws m = true ∧ okB l r ws m = true := by
  unfold imB at h
  rw [Bool.and_eq_true] at h
  exact ⟨(okB_is h.1).1, (okB_is h.1).2, h.2, h.1⟩
end PG
set_option maxHeartbeats 1600000 in
set_option maxRecDepth 100000 in
theorem specImp_any (l r : Int) (a b : Option Addr) (cap cb : Nat) (ws : List (List Int)) (m : List Int) (w : World) (hz : ws.length ≤ 1048576) (hzm : m.length ≤ 1048576) (ht : NR.tot ws ≤ 1048576) (hcap : m.length ≤ cb) (hin : NR.RowsAt w a ws) (hos : M4.IntsAt w b m) (q : Option (List Int)) (hq : Hid (PG.impL l r ws m = q)) :
    Calls Try.prog 16 #[PG.pv l r (.slice a ws.length cap), .slice b m.length cb] w fun e w' => ∃ a1 c1, e = .returned (.tuple #[.slice a1 (q.getD []).length c1, .bool q.isSome]) ∧ w'.ownsRow w.heap.size 3 1 (.slice a1 (q.getD []).length c1) (q.getD []).length (M4.iv (q.getD [])) ∧ Below w.heap.size w w' := by
  have hB : Below w.heap.size w (w.alloc (Obj.cells #[.int .i64 l, .int .i64 r, .slice a ws.length cap] 25)) := (Below.refl _ _).alloc (Nat.le_refl _) _
  have hC : (w.alloc (Obj.cells #[.int .i64 l, .int .i64 r, .slice a ws.length cap] 25)).cell? ⟨w.heap.size, 0, none⟩ = some (.int .i64 l) ∧ (w.alloc (Obj.cells #[.int .i64 l, .int .i64 r, .slice a ws.length cap] 25)).cell? ⟨w.heap.size, 1, none⟩ = some (.int .i64 r) ∧ (w.alloc (Obj.cells #[.int .i64 l, .int .i64 r, .slice a ws.length cap] 25)).cell? ⟨w.heap.size, 2, none⟩ = some (.slice a ws.length cap) := by simp
  have hS : w.heap.size < (w.alloc (Obj.cells #[.int .i64 l, .int .i64 r, .slice a ws.length cap] 25)).heap.size := by simp
  have IM : Hid _ := specIsMatch_any l r a b cap cb ws m _ hz hzm ht hcap (hin.below hB) (hos.below hB)
  have LI : Hid (PG.imB l r ws m = true → ∀ W : World, Below w.heap.size w W → Calls Try.prog 39 #[PG.pv l r (.slice a ws.length cap), .slice b m.length cb] W fun e w' => ∃ a1 c1, e = .returned (.tuple #[.slice a1 (q.getD []).length c1, .bool q.isSome]) ∧ w'.ownsRow W.heap.size 3 1 (.slice a1 (q.getD []).length c1) (q.getD []).length (M4.iv (q.getD [])) ∧ Below W.heap.size W w') := fun h W hb => by
    obtain ⟨h1, h2, h3, h4⟩ := PG.imB_is h
    have hg := (PG.good_is h1).1
    have := l10Improve_any l r.toNat a b cap cb ws m W (by omega) (by omega) (by omega) hcap ht (fun j x hx => by have := PG.good_want h1 j x hx; omega) (hin.below hb) (hos.below hb) q (by rw [PG.impL_yes h]; exact hq)
    rw [show ((r.toNat : Nat) : Int) = r from by omega] at this
    exact this
  have HOK : Hid (PG.imB l r ws m = true → PG.okB l r ws m = true) := fun h => (PG.imB_is h).2.2.2
  have HNO : Hid (PG.imB l r ws m = false → q.getD [] = [] ∧ q.isSome = false) := fun h => by
    rw [← hq.out, ← PG.impL_no h]; exact ⟨rfl, rfl⟩
  generalize q.getD [] = L at *
  generalize q.isSome = qs at *
  clear hin hos hq
  generalize PG.imB l r ws m = ib at *
  generalize PG.okB l r ws m = ob at *
  go_enter Try.func16, Try.ntmps16
  go_wp2_with fail
  generalize w.alloc (Obj.cells #[.int .i64 l, .int .i64 r, .slice a ws.length cap] 25) = W at *
  refine Calls.mono IM.out ?_
  rintro e w2 ⟨rfl, hb2⟩
  have c0 := (hb2.cell (p := ⟨w.heap.size, 0, none⟩) hS).trans hC.1
  have c1 := (hb2.cell (p := ⟨w.heap.size, 1, none⟩) hS).trans hC.2.1
  have c2 := (hb2.cell (p := ⟨w.heap.size, 2, none⟩) hS).trans hC.2.2
  have hB2 := hB.trans (hb2.mono hB.size)
  clear IM hb2 hC hS hB
  cases ib
  · obtain ⟨rfl, rfl⟩ := HNO.out rfl
    clear LI HOK HNO
    go_wp2
    go_ret2
    exact ⟨none, 0, rfl, World.ownsRow_nil _ _ _ _, hB2⟩
  · obtain rfl := HOK.out rfl
    have L2 : Hid _ := LI.out rfl w2 hB2
    clear LI HOK HNO
    go_wp2_with fail
    refine Calls.mono L2.out ?_
    rintro e w3 ⟨a1, d1, rfl, ho, hb3⟩
    have hB3 := hB2.trans (hb3.mono hB2.size)
    have HO : Hid _ := ho
    clear L2 hb3 ho
    go_wp2
    go_ret2
    exact ⟨a1, d1, rfl, PG.own_mono HO.out hB2.size, hB3⟩
end Go.Proofs.Ytjfnmhkhjaafkaa
