import Derived.Test.YtcpfbgogfhlmjaaDoorRows
import Derived.Test.YtcpfbgogfhlmjaaDoorMB2
import Derived.Test.YtcpfbgogfhlmjaaDoorCInfoItem
import Derived.Laws.MakeOwn
import Derived.Lib.Buffer
import Derived.WalkKit
import Derived.WalkSpells
import Derived.WalkLawsBesides
import Derived.Outline
import Derived.Test.YtcpfbgogfhlmjaaDoorM14
import Derived.Test.YtcpfbgogfhlmjaaDoorCAppendItems
/- impl.parcel's items: the items of a bundle, in a row of their own. -/
namespace Go.Proofs.YtcpfbgogfhlmjaaDoor
open Go.RowKit
theorem items_block {w : World} {g t : Nat} {xs : List It} {cs : Array Value} {fz : Nat × Nat} (h : w.heap[g]? = some (.cells cs t fz)) (hc : cs.toList = M11.flat xs) : M11.ItemsAt w (some ⟨g, 0, none⟩) xs := by
  have hlt : g < w.heap.size := (Array.getElem?_eq_some_iff.1 h).1
  have cell : ∀ j i, j < xs.length → i < 4 → w.cell? ⟨g, 0 + j * 4 + i, none⟩ = (M11.at_ xs j).cs[i]? := fun j i hj hi => by
    rw [Lib.cell_of_heap h, ← M11.flat_get xs j i hj hi, ← hc, Nat.zero_add, Nat.mul_comm]; simp
  exact .inr ⟨g, 0, rfl, hlt, fun j hj => ⟨cell j 0 hj (by omega), cell j 1 hj (by omega), cell j 2 hj (by omega), cell j 3 hj (by omega)⟩⟩
theorem items_flat (fr to : Int) (gr : Bool) (md no lf hp of tl : Int) (py : ByteArray) (gx : Int) (hg : B2.gn ⟨fr, to, gr, md, no, lf, hp, of, tl, py⟩ = gx) : M11.flat (B2.items ⟨fr, to, gr, md, no, lf, hp, of, tl, py⟩) = [.int .i64 4, .int .i64 0, .string ⟨#[]⟩, .int .i64 10, .int .i64 1, .int .i64 fr, .string ⟨#[]⟩, .int .i64 0, .int .i64 1, .int .i64 to, .string ⟨#[]⟩, .int .i64 0, .int .i64 1, .int .i64 gx, .string ⟨#[]⟩, .int .i64 0, .int .i64 1, .int .i64 md, .string ⟨#[]⟩, .int .i64 0, .int .i64 1, .int .i64 no, .string ⟨#[]⟩, .int .i64 0, .int .i64 1, .int .i64 lf, .string ⟨#[]⟩, .int .i64 0, .int .i64 1, .int .i64 hp, .string ⟨#[]⟩, .int .i64 0, .int .i64 1, .int .i64 of, .string ⟨#[]⟩, .int .i64 0, .int .i64 1, .int .i64 tl, .string ⟨#[]⟩, .int .i64 0, .int .i64 2, .int .i64 0, .string py, .int .i64 0] := by
  rw [← hg]; rfl
theorem madeItems : madeCells (Value.agg #[.int .i64 0, .int .i64 0, .string ⟨#[]⟩, .int .i64 0]).cells (11 * 4) = #[.int .i64 0, .int .i64 0, .string ⟨#[]⟩, .int .i64 0, .int .i64 0, .int .i64 0, .string ⟨#[]⟩, .int .i64 0, .int .i64 0, .int .i64 0, .string ⟨#[]⟩, .int .i64 0, .int .i64 0, .int .i64 0, .string ⟨#[]⟩, .int .i64 0, .int .i64 0, .int .i64 0, .string ⟨#[]⟩, .int .i64 0, .int .i64 0, .int .i64 0, .string ⟨#[]⟩, .int .i64 0, .int .i64 0, .int .i64 0, .string ⟨#[]⟩, .int .i64 0, .int .i64 0, .int .i64 0, .string ⟨#[]⟩, .int .i64 0, .int .i64 0, .int .i64 0, .string ⟨#[]⟩, .int .i64 0, .int .i64 0, .int .i64 0, .string ⟨#[]⟩, .int .i64 0, .int .i64 0, .int .i64 0, .string ⟨#[]⟩, .int .i64 0] := by kernel_rfl
set_option maxHeartbeats 6400000 in
set_option maxRecDepth 100000 in
theorem implItems_any (b : Bd) (w : World) :
    Calls Tryd.prog 27 #[b.v] w fun e w' => ∃ g, e = .returned (.slice (some ⟨g, 0, none⟩) 11 11) ∧ M11.ItemsAt w' (some ⟨g, 0, none⟩) (B2.items b) ∧ Below w.heap.size w w' := by
  obtain ⟨i0, hi, hz0, hz1, hz2⟩ := info_parts Tryd.infoItem
  have mk : ∀ W : World, (Instr.makeSlice 49 (.int .i64 11) (.int .i64 11)).run Tryd.prog W = .ok (.slice (some ⟨W.heap.size, 0, none⟩) 11 11) (W.alloc (.cells #[.int .i64 0, .int .i64 0, .string ⟨#[]⟩, .int .i64 0, .int .i64 0, .int .i64 0, .string ⟨#[]⟩, .int .i64 0, .int .i64 0, .int .i64 0, .string ⟨#[]⟩, .int .i64 0, .int .i64 0, .int .i64 0, .string ⟨#[]⟩, .int .i64 0, .int .i64 0, .int .i64 0, .string ⟨#[]⟩, .int .i64 0, .int .i64 0, .int .i64 0, .string ⟨#[]⟩, .int .i64 0, .int .i64 0, .int .i64 0, .string ⟨#[]⟩, .int .i64 0, .int .i64 0, .int .i64 0, .string ⟨#[]⟩, .int .i64 0, .int .i64 0, .int .i64 0, .string ⟨#[]⟩, .int .i64 0, .int .i64 0, .int .i64 0, .string ⟨#[]⟩, .int .i64 0, .int .i64 0, .int .i64 0, .string ⟨#[]⟩, .int .i64 0] 65)) := fun W => by
    have := run_make (P := Tryd.prog) W 49 65 i0 _ Tryd.underlying49 hi hz0 .i64 .i64 11 11 (by omega) (by omega) (by rw [hz2]; omega) (by omega)
    rw [hz1, show (11 : Int).toNat = 11 from rfl, madeItems] at this
    exact this
  clear hi hz0 hz1 hz2
  obtain ⟨fr, to, gr, md, no, lf, hp, of, tl, py⟩ := b
  cases gr
  · have HF : Hid _ := items_flat fr to false md no lf hp of tl py 0 rfl
    go_enter Tryd.func27, Tryd.ntmps27
    go_wp2
    refine wp_loop_rounds 10 ?_
    rw [rounds_succ]
    go_wp2
    rw [rounds_succ]
    go_wp2
    rw [rounds_succ]
    go_wp2
    rw [rounds_succ]
    go_wp2
    rw [rounds_succ]
    go_wp2
    rw [rounds_succ]
    go_wp2
    rw [rounds_succ]
    go_wp2
    rw [rounds_succ]
    go_wp2
    rw [rounds_succ]
    go_wp2
    rw [rounds_succ]
    go_wp2
    go_ret
    refine ⟨_, rfl, items_block (t := 65) (fz := (0, 0)) (cs := #[.int .i64 4, .int .i64 0, .string ⟨#[]⟩, .int .i64 10, .int .i64 1, .int .i64 fr, .string ⟨#[]⟩, .int .i64 0, .int .i64 1, .int .i64 to, .string ⟨#[]⟩, .int .i64 0, .int .i64 1, .int .i64 0, .string ⟨#[]⟩, .int .i64 0, .int .i64 1, .int .i64 md, .string ⟨#[]⟩, .int .i64 0, .int .i64 1, .int .i64 no, .string ⟨#[]⟩, .int .i64 0, .int .i64 1, .int .i64 lf, .string ⟨#[]⟩, .int .i64 0, .int .i64 1, .int .i64 hp, .string ⟨#[]⟩, .int .i64 0, .int .i64 1, .int .i64 of, .string ⟨#[]⟩, .int .i64 0, .int .i64 1, .int .i64 tl, .string ⟨#[]⟩, .int .i64 0, .int .i64 2, .int .i64 0, .string py, .int .i64 0]) ?_ (by rw [HF.out]), (((Below.refl _ w).alloc (Nat.le_refl _) _).alloc (by simp) _).alloc (by simp; omega) _⟩
    rw [Below.heap_alloc _ _ _ (by simp)]
    exact (congrArg (fun k => (_ : Array Obj)[k]?) (show w.heap.size + 1 = _ from by simp)).trans (heap_alloc_new _ _)
  · have HF : Hid _ := items_flat fr to true md no lf hp of tl py 1 rfl
    go_enter Tryd.func27, Tryd.ntmps27
    go_wp2
    refine wp_loop_rounds 10 ?_
    rw [rounds_succ]
    go_wp2
    rw [rounds_succ]
    go_wp2
    rw [rounds_succ]
    go_wp2
    rw [rounds_succ]
    go_wp2
    rw [rounds_succ]
    go_wp2
    rw [rounds_succ]
    go_wp2
    rw [rounds_succ]
    go_wp2
    rw [rounds_succ]
    go_wp2
    rw [rounds_succ]
    go_wp2
    rw [rounds_succ]
    go_wp2
    go_ret
    refine ⟨_, rfl, items_block (t := 65) (fz := (0, 0)) (cs := #[.int .i64 4, .int .i64 0, .string ⟨#[]⟩, .int .i64 10, .int .i64 1, .int .i64 fr, .string ⟨#[]⟩, .int .i64 0, .int .i64 1, .int .i64 to, .string ⟨#[]⟩, .int .i64 0, .int .i64 1, .int .i64 1, .string ⟨#[]⟩, .int .i64 0, .int .i64 1, .int .i64 md, .string ⟨#[]⟩, .int .i64 0, .int .i64 1, .int .i64 no, .string ⟨#[]⟩, .int .i64 0, .int .i64 1, .int .i64 lf, .string ⟨#[]⟩, .int .i64 0, .int .i64 1, .int .i64 hp, .string ⟨#[]⟩, .int .i64 0, .int .i64 1, .int .i64 of, .string ⟨#[]⟩, .int .i64 0, .int .i64 1, .int .i64 tl, .string ⟨#[]⟩, .int .i64 0, .int .i64 2, .int .i64 0, .string py, .int .i64 0]) ?_ (by rw [HF.out]), (((Below.refl _ w).alloc (Nat.le_refl _) _).alloc (by simp) _).alloc (by simp; omega) _⟩
    rw [Below.heap_alloc _ _ _ (by simp)]
    exact (congrArg (fun k => (_ : Array Obj)[k]?) (show w.heap.size + 1 = _ from by simp)).trans (heap_alloc_new _ _)
end Go.Proofs.YtcpfbgogfhlmjaaDoor

/- The specification's l3Items: the items of a bundle, in a row of their own. -/
namespace Go.Proofs.YtcpfbgogfhlmjaaDoor
open Go.RowKit
theorem own_slice4 {w : World} {base e n : Nat} {v : Value} {xs : List Value} (h : w.ownsRow base e 4 v n xs) : ∃ a cap, v = .slice a n cap := by
  rcases h.2 with ⟨rfl, h0⟩ | ⟨g, cap, cur, rfl, hb, hg, hc1, hc2, hc3, hc4⟩
  · exact ⟨none, 0, by rw [h0]⟩
  · exact ⟨_, cap, rfl⟩
theorem own_items4 {w : World} {base e n cap : Nat} {a : Option Addr} {xs : List It} (h : w.ownsRow base e 4 (.slice a n cap) n (M11.flat xs)) (hn : xs.length = n) : M11.ItemsAt w a xs := by
  rcases h.2 with ⟨he, h0⟩ | ⟨g, cap', cur, he, hb, hg, hc1, hc2, hc3, hc4⟩
  · exact .inl (List.eq_nil_of_length_eq_zero (by omega))
  · simp only [Value.slice.injEq] at he
    obtain ⟨rfl, _, rfl⟩ := he
    exact M11.ItemsAt.of_own h
theorem cell_blk {w : World} {g t j : Nat} {cs : Array Value} {fz : Nat × Nat} (h : w.heap[g]? = some (.cells cs t fz)) : w.cell? ⟨g, j, none⟩ = cs[j]? := by rw [Lib.cell_of_heap h]
theorem grow_keep {wr w3 : World} {o c : Obj} {row : Option Nat} {k : Nat} (hg : (wr.alloc o).grownBy w3 row) (h : wr.heap[k]? = some c) (hne : some k ≠ row) : w3.heap[k]? = some c := by
  have hlt : k < wr.heap.size := (Array.getElem?_eq_some_iff.1 h).1
  exact (hg.block k (by simp; omega) hne).trans ((Below.heap_alloc wr o k hlt).trans h)
set_option maxHeartbeats 3200000 in
set_option maxRecDepth 100000 in
theorem specItems_g (fr to : Int) (gr : Bool) (md no lf hp of tl : Int) (py : ByteArray) (gx : Int) (ns : List Int) (hns : ns = [fr, to, gx, md, no, lf, hp, of, tl]) (hgx : (gr = true ∧ gx = 1) ∨ (gr = false ∧ gx = 0)) (w : World) :
    Calls Tryd.prog 54 #[Bd.v ⟨fr, to, gr, md, no, lf, hp, of, tl, py⟩] w fun e w' => ∃ a cap, e = .returned (.slice a 11 cap) ∧ M11.ItemsAt w' a (⟨4, 0, ⟨#[]⟩, 10⟩ :: (ns.map B2.num ++ [⟨2, 0, py, 0⟩])) ∧ Below w.heap.size w w' := by
  obtain ⟨i0, hi, hz0, hz1, hz2⟩ := info_parts Tryd.infoItem
  have hlen : ns.length = 9 := by rw [hns]; rfl
  have HNS : Hid (∀ j, j < 9 → (#[Value.int .i64 fr, .int .i64 to, .int .i64 gx, .int .i64 md, .int .i64 no, .int .i64 lf, .int .i64 hp, .int .i64 of, .int .i64 tl] : Array Value)[j]? = some (.int .i64 (ns.getD j 0))) := fun j hj => by
    rw [hns]
    match j, hj with
    | 0, _ => rfl
    | 1, _ => rfl
    | 2, _ => rfl
    | 3, _ => rfl
    | 4, _ => rfl
    | 5, _ => rfl
    | 6, _ => rfl
    | 7, _ => rfl
    | 8, _ => rfl
  clear hns
  rcases hgx with ⟨rfl, rfl⟩ | ⟨rfl, rfl⟩
  · have hK0 : (((w.alloc (.cells #[.int .i64 fr, .int .i64 to, .bool true, .int .i64 md, .int .i64 no, .int .i64 lf, .int .i64 hp, .int .i64 of, .int .i64 tl, .string py] 24)).alloc (.cells #[.int .i64 4, .int .i64 0, .string ⟨#[]⟩, .int .i64 10] 65)).alloc (.cells #[.int .i64 fr, .int .i64 to, .int .i64 1, .int .i64 md, .int .i64 no, .int .i64 lf, .int .i64 hp, .int .i64 of, .int .i64 tl] 3)).heap[w.heap.size]? = some (.cells #[.int .i64 fr, .int .i64 to, .bool true, .int .i64 md, .int .i64 no, .int .i64 lf, .int .i64 hp, .int .i64 of, .int .i64 tl, .string py] 24) := by
      rw [Below.heap_alloc _ _ _ (by simp; omega), Below.heap_alloc _ _ _ (by simp)]; exact heap_alloc_new w _
    have hI0 : (((w.alloc (.cells #[.int .i64 fr, .int .i64 to, .bool true, .int .i64 md, .int .i64 no, .int .i64 lf, .int .i64 hp, .int .i64 of, .int .i64 tl, .string py] 24)).alloc (.cells #[.int .i64 4, .int .i64 0, .string ⟨#[]⟩, .int .i64 10] 65)).alloc (.cells #[.int .i64 fr, .int .i64 to, .int .i64 1, .int .i64 md, .int .i64 no, .int .i64 lf, .int .i64 hp, .int .i64 of, .int .i64 tl] 3)).heap[w.heap.size + 1 + 1]? = some (.cells #[.int .i64 fr, .int .i64 to, .int .i64 1, .int .i64 md, .int .i64 no, .int .i64 lf, .int .i64 hp, .int .i64 of, .int .i64 tl] 3) := by
      have := heap_alloc_new ((w.alloc (.cells #[.int .i64 fr, .int .i64 to, .bool true, .int .i64 md, .int .i64 no, .int .i64 lf, .int .i64 hp, .int .i64 of, .int .i64 tl, .string py] 24)).alloc (.cells #[.int .i64 4, .int .i64 0, .string ⟨#[]⟩, .int .i64 10] 65)) (.cells #[.int .i64 fr, .int .i64 to, .int .i64 1, .int .i64 md, .int .i64 no, .int .i64 lf, .int .i64 hp, .int .i64 of, .int .i64 tl] 3)
      simpa only [World.alloc, Array.size_push] using this
    have hR0 : (((w.alloc (.cells #[.int .i64 fr, .int .i64 to, .bool true, .int .i64 md, .int .i64 no, .int .i64 lf, .int .i64 hp, .int .i64 of, .int .i64 tl, .string py] 24)).alloc (.cells #[.int .i64 4, .int .i64 0, .string ⟨#[]⟩, .int .i64 10] 65)).alloc (.cells #[.int .i64 fr, .int .i64 to, .int .i64 1, .int .i64 md, .int .i64 no, .int .i64 lf, .int .i64 hp, .int .i64 of, .int .i64 tl] 3)).heap[w.heap.size + 1]? = some (.cells #[.int .i64 4, .int .i64 0, .string ⟨#[]⟩, .int .i64 10] 65) := by
      rw [Below.heap_alloc _ _ _ (by simp)]
      have := heap_alloc_new (w.alloc (.cells #[.int .i64 fr, .int .i64 to, .bool true, .int .i64 md, .int .i64 no, .int .i64 lf, .int .i64 hp, .int .i64 of, .int .i64 tl, .string py] 24)) (.cells #[.int .i64 4, .int .i64 0, .string ⟨#[]⟩, .int .i64 10] 65)
      simpa only [World.alloc, Array.size_push] using this
    have hB0 : Below w.heap.size w (((w.alloc (.cells #[.int .i64 fr, .int .i64 to, .bool true, .int .i64 md, .int .i64 no, .int .i64 lf, .int .i64 hp, .int .i64 of, .int .i64 tl, .string py] 24)).alloc (.cells #[.int .i64 4, .int .i64 0, .string ⟨#[]⟩, .int .i64 10] 65)).alloc (.cells #[.int .i64 fr, .int .i64 to, .int .i64 1, .int .i64 md, .int .i64 no, .int .i64 lf, .int .i64 hp, .int .i64 of, .int .i64 tl] 3)) := (((Below.refl _ w).alloc (Nat.le_refl _) _).alloc (by simp) _).alloc (by simp; omega) _
    have hO0 : (((w.alloc (.cells #[.int .i64 fr, .int .i64 to, .bool true, .int .i64 md, .int .i64 no, .int .i64 lf, .int .i64 hp, .int .i64 of, .int .i64 tl, .string py] 24)).alloc (.cells #[.int .i64 4, .int .i64 0, .string ⟨#[]⟩, .int .i64 10] 65)).alloc (.cells #[.int .i64 fr, .int .i64 to, .int .i64 1, .int .i64 md, .int .i64 no, .int .i64 lf, .int .i64 hp, .int .i64 of, .int .i64 tl] 3)).ownsRow w.heap.size 65 4 (.slice (some ⟨w.heap.size + 1, 0, none⟩) 1 1) 1 (M11.flat [(⟨4, 0, ⟨#[]⟩, 10⟩ : It)]) := ⟨rfl, .inr ⟨w.heap.size + 1, 1, _, rfl, by omega, hR0, by omega, by unfold maxLen; omega, rfl, rfl⟩⟩
    clear hR0
    go_enter Tryd.func54, Tryd.ntmps54
    go_wp2
    go_loopw [4, 6, 30] (fun lv _ iv wr => ∃ (j : Nat) (H : List It), iv = .int .i64 (j : Int) ∧ j ≤ 9 ∧ wr.ownsRow w.heap.size 65 4 lv (j + 1) (M11.flat H) ∧ Hid (H = (⟨4, 0, ⟨#[]⟩, 10⟩ : It) :: (ns.take j).map B2.num) ∧ wr.heap[w.heap.size]? = some (.cells #[.int .i64 fr, .int .i64 to, .bool true, .int .i64 md, .int .i64 no, .int .i64 lf, .int .i64 hp, .int .i64 of, .int .i64 tl, .string py] 24) ∧ wr.heap[w.heap.size + 1 + 1]? = some (.cells #[.int .i64 fr, .int .i64 to, .int .i64 1, .int .i64 md, .int .i64 no, .int .i64 lf, .int .i64 hp, .int .i64 of, .int .i64 tl] 3) ∧ (∀ g, lv.ownBlock = some g → g ≠ w.heap.size ∧ g ≠ w.heap.size + 1 + 1) ∧ Below w.heap.size w wr) (fun _ _ iv _ => (9 - intOf iv).toNat)
    case atStart => exact ⟨0, [(⟨4, 0, ⟨#[]⟩, 10⟩ : It)], rfl, by omega, hO0, show Hid _ from by simp [Hid], hK0, hI0, fun g hg => by (simp [Value.ownBlock] at hg; omega), hB0⟩
    case round =>
      clear hO0 hK0 hI0 hB0
      obtain ⟨j, H, rfl, hj, hown, hH, hK, hI, hO, hb⟩ := hrel
      have hlt1 : w.heap.size + 1 + 1 < wr.heap.size := (Array.getElem?_eq_some_iff.1 hI).1
      have hbs := hb.size
      by_cases hjl : j < 9
      · have hc : wr.cell? ⟨w.heap.size + 1 + 1, j, none⟩ = some (.int .i64 (ns.getD j 0)) := (cell_blk hI).trans (HNS.out j hjl)
        have hH2 : Hid (H ++ [(B2.num (ns.getD j 0))] = (⟨4, 0, ⟨#[]⟩, 10⟩ : It) :: (ns.take (j + 1)).map B2.num) := by
          show _ = _
          rw [hH.out, List.take_succ_eq_append_getElem (by omega), List.map_append]
          simp [List.getD_eq_getElem?_getD, List.getElem?_eq_getElem (show j < ns.length by omega)]
        have h63 : j + 1 + 1 ≤ maxLen := by unfold maxLen; omega
        have H63 : Hid _ := h63
        obtain ⟨x, hx⟩ : ∃ x, ns.getD j 0 = x := ⟨_, rfl⟩
        rw [hx] at hc hH2
        have HO : Hid _ := hO
        have HK : Hid _ := hK
        have HI : Hid _ := hI
        clear h63 hx hO hK hI
        go_wp2_with (at_builtin; refine M14.append_tell _ rfl _ _ 49 rfl w.heap.size 65 i0 _ 4 40 Tryd.underlying49 hi hz0 hz1 hz2 rfl (by decide) _ _ _ rfl (hown.alloc _) ⟨wr.heap.size, 0, none⟩ 1 1 (It.cs (B2.num x)) rfl rfl (M9.newN wr (It.cs (B2.num x)) 65) (It.cs_one _) H63.out (by omega) (by simp; omega) (by decide) ?_)
        intro v' w3 hown3 hgrow htell
        have R1 : w3.ownsRow w.heap.size 65 4 v' (j + 1 + 1) (M11.flat (H ++ [B2.num x])) := by
          rw [M11.flat_app]; simpa [M11.flat] using hown3
        have hK3 := grow_keep hgrow HK.out (fun e => (HO.out _ e.symm).1 rfl)
        have hI3 := grow_keep hgrow HI.out (fun e => (HO.out _ e.symm).2 rfl)
        have hO3 : ∀ g, v'.ownBlock = some g → g ≠ w.heap.size ∧ g ≠ w.heap.size + 1 + 1 := fun g hg => by
          rcases htell g hg with h | h
          · exact HO.out g h
          · first | omega | (simp at h; omega)
        have hB3 : Below w.heap.size w w3 := (hb.alloc hbs _).grown hgrow (by simp; omega) (fun g hg => (hown.lt g hg).1)
        clear hown3 hgrow htell hown hb HO HK HI H63 hH hc
        go_wp2
        go_roundw
        case rel => exact ⟨j + 1, H ++ [B2.num x], by go_num, by omega, R1, hH2, hK3, hI3, hO3, hB3⟩
        case measure => simp [intOf]; omega
      · obtain rfl : j = 9 := by omega
        have hc : wr.cell? ⟨w.heap.size, 9, none⟩ = some (.string py) := cell_blk hK
        have hH2 : Hid (H ++ [⟨2, 0, py, 0⟩] = (⟨4, 0, ⟨#[]⟩, 10⟩ : It) :: (ns.map B2.num ++ [⟨2, 0, py, 0⟩])) := by
          show _ = _
          rw [hH.out, List.take_of_length_le (by omega)]; rfl
        have h63 : 9 + 1 + 1 ≤ maxLen := by unfold maxLen; omega
        have H63 : Hid _ := h63
        have hHl : H.length = 10 := by have := hown.1; rw [M11.flat_len] at this; omega
        clear h63 hO hK hI hH
        go_wp2_with (at_builtin; refine wpList_append_own _ rfl _ _ 49 rfl w.heap.size 65 i0 _ 4 40 Tryd.underlying49 hi hz0 hz1 hz2 rfl (by decide) _ _ _ rfl (hown.alloc _) ⟨wr.heap.size, 0, none⟩ 1 1 (It.cs (⟨2, 0, py, 0⟩ : It)) rfl rfl (M9.newN wr (It.cs (⟨2, 0, py, 0⟩ : It)) 65) (It.cs_one _) H63.out (by omega) (by simp; omega) ?_)
        intro v' w3 hown3 hgrow _
        have R1 : w3.ownsRow w.heap.size 65 4 v' 11 (M11.flat (H ++ [(⟨2, 0, py, 0⟩ : It)])) := by
          rw [M11.flat_app]; simpa [M11.flat] using hown3
        have hB3 : Below w.heap.size w w3 := (hb.alloc hbs _).grown hgrow (by simp; omega) (fun g hg => (hown.lt g hg).1)
        obtain ⟨av, cv, rfl⟩ := own_slice4 R1
        have hin := own_items4 R1 (by rw [List.length_append, hHl]; rfl)
        rw [hH2.out] at hin
        clear hown3 hgrow hown hb H63 hc R1 hH2
        go_wp2
        go_ret
        exact ⟨_, _, rfl, hin, hB3⟩
  · have hK0 : (((w.alloc (.cells #[.int .i64 fr, .int .i64 to, .bool false, .int .i64 md, .int .i64 no, .int .i64 lf, .int .i64 hp, .int .i64 of, .int .i64 tl, .string py] 24)).alloc (.cells #[.int .i64 4, .int .i64 0, .string ⟨#[]⟩, .int .i64 10] 65)).alloc (.cells #[.int .i64 fr, .int .i64 to, .int .i64 0, .int .i64 md, .int .i64 no, .int .i64 lf, .int .i64 hp, .int .i64 of, .int .i64 tl] 3)).heap[w.heap.size]? = some (.cells #[.int .i64 fr, .int .i64 to, .bool false, .int .i64 md, .int .i64 no, .int .i64 lf, .int .i64 hp, .int .i64 of, .int .i64 tl, .string py] 24) := by
      rw [Below.heap_alloc _ _ _ (by simp; omega), Below.heap_alloc _ _ _ (by simp)]; exact heap_alloc_new w _
    have hI0 : (((w.alloc (.cells #[.int .i64 fr, .int .i64 to, .bool false, .int .i64 md, .int .i64 no, .int .i64 lf, .int .i64 hp, .int .i64 of, .int .i64 tl, .string py] 24)).alloc (.cells #[.int .i64 4, .int .i64 0, .string ⟨#[]⟩, .int .i64 10] 65)).alloc (.cells #[.int .i64 fr, .int .i64 to, .int .i64 0, .int .i64 md, .int .i64 no, .int .i64 lf, .int .i64 hp, .int .i64 of, .int .i64 tl] 3)).heap[w.heap.size + 1 + 1]? = some (.cells #[.int .i64 fr, .int .i64 to, .int .i64 0, .int .i64 md, .int .i64 no, .int .i64 lf, .int .i64 hp, .int .i64 of, .int .i64 tl] 3) := by
      have := heap_alloc_new ((w.alloc (.cells #[.int .i64 fr, .int .i64 to, .bool false, .int .i64 md, .int .i64 no, .int .i64 lf, .int .i64 hp, .int .i64 of, .int .i64 tl, .string py] 24)).alloc (.cells #[.int .i64 4, .int .i64 0, .string ⟨#[]⟩, .int .i64 10] 65)) (.cells #[.int .i64 fr, .int .i64 to, .int .i64 0, .int .i64 md, .int .i64 no, .int .i64 lf, .int .i64 hp, .int .i64 of, .int .i64 tl] 3)
      simpa only [World.alloc, Array.size_push] using this
    have hR0 : (((w.alloc (.cells #[.int .i64 fr, .int .i64 to, .bool false, .int .i64 md, .int .i64 no, .int .i64 lf, .int .i64 hp, .int .i64 of, .int .i64 tl, .string py] 24)).alloc (.cells #[.int .i64 4, .int .i64 0, .string ⟨#[]⟩, .int .i64 10] 65)).alloc (.cells #[.int .i64 fr, .int .i64 to, .int .i64 0, .int .i64 md, .int .i64 no, .int .i64 lf, .int .i64 hp, .int .i64 of, .int .i64 tl] 3)).heap[w.heap.size + 1]? = some (.cells #[.int .i64 4, .int .i64 0, .string ⟨#[]⟩, .int .i64 10] 65) := by
      rw [Below.heap_alloc _ _ _ (by simp)]
      have := heap_alloc_new (w.alloc (.cells #[.int .i64 fr, .int .i64 to, .bool false, .int .i64 md, .int .i64 no, .int .i64 lf, .int .i64 hp, .int .i64 of, .int .i64 tl, .string py] 24)) (.cells #[.int .i64 4, .int .i64 0, .string ⟨#[]⟩, .int .i64 10] 65)
      simpa only [World.alloc, Array.size_push] using this
    have hB0 : Below w.heap.size w (((w.alloc (.cells #[.int .i64 fr, .int .i64 to, .bool false, .int .i64 md, .int .i64 no, .int .i64 lf, .int .i64 hp, .int .i64 of, .int .i64 tl, .string py] 24)).alloc (.cells #[.int .i64 4, .int .i64 0, .string ⟨#[]⟩, .int .i64 10] 65)).alloc (.cells #[.int .i64 fr, .int .i64 to, .int .i64 0, .int .i64 md, .int .i64 no, .int .i64 lf, .int .i64 hp, .int .i64 of, .int .i64 tl] 3)) := (((Below.refl _ w).alloc (Nat.le_refl _) _).alloc (by simp) _).alloc (by simp; omega) _
    have hO0 : (((w.alloc (.cells #[.int .i64 fr, .int .i64 to, .bool false, .int .i64 md, .int .i64 no, .int .i64 lf, .int .i64 hp, .int .i64 of, .int .i64 tl, .string py] 24)).alloc (.cells #[.int .i64 4, .int .i64 0, .string ⟨#[]⟩, .int .i64 10] 65)).alloc (.cells #[.int .i64 fr, .int .i64 to, .int .i64 0, .int .i64 md, .int .i64 no, .int .i64 lf, .int .i64 hp, .int .i64 of, .int .i64 tl] 3)).ownsRow w.heap.size 65 4 (.slice (some ⟨w.heap.size + 1, 0, none⟩) 1 1) 1 (M11.flat [(⟨4, 0, ⟨#[]⟩, 10⟩ : It)]) := ⟨rfl, .inr ⟨w.heap.size + 1, 1, _, rfl, by omega, hR0, by omega, by unfold maxLen; omega, rfl, rfl⟩⟩
    clear hR0
    go_enter Tryd.func54, Tryd.ntmps54
    go_wp2
    go_loopw [4, 6, 30] (fun lv _ iv wr => ∃ (j : Nat) (H : List It), iv = .int .i64 (j : Int) ∧ j ≤ 9 ∧ wr.ownsRow w.heap.size 65 4 lv (j + 1) (M11.flat H) ∧ Hid (H = (⟨4, 0, ⟨#[]⟩, 10⟩ : It) :: (ns.take j).map B2.num) ∧ wr.heap[w.heap.size]? = some (.cells #[.int .i64 fr, .int .i64 to, .bool false, .int .i64 md, .int .i64 no, .int .i64 lf, .int .i64 hp, .int .i64 of, .int .i64 tl, .string py] 24) ∧ wr.heap[w.heap.size + 1 + 1]? = some (.cells #[.int .i64 fr, .int .i64 to, .int .i64 0, .int .i64 md, .int .i64 no, .int .i64 lf, .int .i64 hp, .int .i64 of, .int .i64 tl] 3) ∧ (∀ g, lv.ownBlock = some g → g ≠ w.heap.size ∧ g ≠ w.heap.size + 1 + 1) ∧ Below w.heap.size w wr) (fun _ _ iv _ => (9 - intOf iv).toNat)
    case atStart => exact ⟨0, [(⟨4, 0, ⟨#[]⟩, 10⟩ : It)], rfl, by omega, hO0, show Hid _ from by simp [Hid], hK0, hI0, fun g hg => by (simp [Value.ownBlock] at hg; omega), hB0⟩
    case round =>
      clear hO0 hK0 hI0 hB0
      obtain ⟨j, H, rfl, hj, hown, hH, hK, hI, hO, hb⟩ := hrel
      have hlt1 : w.heap.size + 1 + 1 < wr.heap.size := (Array.getElem?_eq_some_iff.1 hI).1
      have hbs := hb.size
      by_cases hjl : j < 9
      · have hc : wr.cell? ⟨w.heap.size + 1 + 1, j, none⟩ = some (.int .i64 (ns.getD j 0)) := (cell_blk hI).trans (HNS.out j hjl)
        have hH2 : Hid (H ++ [(B2.num (ns.getD j 0))] = (⟨4, 0, ⟨#[]⟩, 10⟩ : It) :: (ns.take (j + 1)).map B2.num) := by
          show _ = _
          rw [hH.out, List.take_succ_eq_append_getElem (by omega), List.map_append]
          simp [List.getD_eq_getElem?_getD, List.getElem?_eq_getElem (show j < ns.length by omega)]
        have h63 : j + 1 + 1 ≤ maxLen := by unfold maxLen; omega
        have H63 : Hid _ := h63
        obtain ⟨x, hx⟩ : ∃ x, ns.getD j 0 = x := ⟨_, rfl⟩
        rw [hx] at hc hH2
        have HO : Hid _ := hO
        have HK : Hid _ := hK
        have HI : Hid _ := hI
        clear h63 hx hO hK hI
        go_wp2_with (at_builtin; refine M14.append_tell _ rfl _ _ 49 rfl w.heap.size 65 i0 _ 4 40 Tryd.underlying49 hi hz0 hz1 hz2 rfl (by decide) _ _ _ rfl (hown.alloc _) ⟨wr.heap.size, 0, none⟩ 1 1 (It.cs (B2.num x)) rfl rfl (M9.newN wr (It.cs (B2.num x)) 65) (It.cs_one _) H63.out (by omega) (by simp; omega) (by decide) ?_)
        intro v' w3 hown3 hgrow htell
        have R1 : w3.ownsRow w.heap.size 65 4 v' (j + 1 + 1) (M11.flat (H ++ [B2.num x])) := by
          rw [M11.flat_app]; simpa [M11.flat] using hown3
        have hK3 := grow_keep hgrow HK.out (fun e => (HO.out _ e.symm).1 rfl)
        have hI3 := grow_keep hgrow HI.out (fun e => (HO.out _ e.symm).2 rfl)
        have hO3 : ∀ g, v'.ownBlock = some g → g ≠ w.heap.size ∧ g ≠ w.heap.size + 1 + 1 := fun g hg => by
          rcases htell g hg with h | h
          · exact HO.out g h
          · first | omega | (simp at h; omega)
        have hB3 : Below w.heap.size w w3 := (hb.alloc hbs _).grown hgrow (by simp; omega) (fun g hg => (hown.lt g hg).1)
        clear hown3 hgrow htell hown hb HO HK HI H63 hH hc
        go_wp2
        go_roundw
        case rel => exact ⟨j + 1, H ++ [B2.num x], by go_num, by omega, R1, hH2, hK3, hI3, hO3, hB3⟩
        case measure => simp [intOf]; omega
      · obtain rfl : j = 9 := by omega
        have hc : wr.cell? ⟨w.heap.size, 9, none⟩ = some (.string py) := cell_blk hK
        have hH2 : Hid (H ++ [⟨2, 0, py, 0⟩] = (⟨4, 0, ⟨#[]⟩, 10⟩ : It) :: (ns.map B2.num ++ [⟨2, 0, py, 0⟩])) := by
          show _ = _
          rw [hH.out, List.take_of_length_le (by omega)]; rfl
        have h63 : 9 + 1 + 1 ≤ maxLen := by unfold maxLen; omega
        have H63 : Hid _ := h63
        have hHl : H.length = 10 := by have := hown.1; rw [M11.flat_len] at this; omega
        clear h63 hO hK hI hH
        go_wp2_with (at_builtin; refine wpList_append_own _ rfl _ _ 49 rfl w.heap.size 65 i0 _ 4 40 Tryd.underlying49 hi hz0 hz1 hz2 rfl (by decide) _ _ _ rfl (hown.alloc _) ⟨wr.heap.size, 0, none⟩ 1 1 (It.cs (⟨2, 0, py, 0⟩ : It)) rfl rfl (M9.newN wr (It.cs (⟨2, 0, py, 0⟩ : It)) 65) (It.cs_one _) H63.out (by omega) (by simp; omega) ?_)
        intro v' w3 hown3 hgrow _
        have R1 : w3.ownsRow w.heap.size 65 4 v' 11 (M11.flat (H ++ [(⟨2, 0, py, 0⟩ : It)])) := by
          rw [M11.flat_app]; simpa [M11.flat] using hown3
        have hB3 : Below w.heap.size w w3 := (hb.alloc hbs _).grown hgrow (by simp; omega) (fun g hg => (hown.lt g hg).1)
        obtain ⟨av, cv, rfl⟩ := own_slice4 R1
        have hin := own_items4 R1 (by rw [List.length_append, hHl]; rfl)
        rw [hH2.out] at hin
        clear hown3 hgrow hown hb H63 hc R1 hH2
        go_wp2
        go_ret
        exact ⟨_, _, rfl, hin, hB3⟩
theorem specItems_any (b : Bd) (w : World) :
    Calls Tryd.prog 54 #[b.v] w fun e w' => ∃ a cap, e = .returned (.slice a 11 cap) ∧ M11.ItemsAt w' a (B2.items b) ∧ Below w.heap.size w w' := by
  obtain ⟨fr, to, gr, md, no, lf, hp, of, tl, py⟩ := b
  cases gr
  · exact specItems_g fr to false md no lf hp of tl py 0 _ rfl (.inr ⟨rfl, rfl⟩) w
  · exact specItems_g fr to true md no lf hp of tl py 1 _ rfl (.inl ⟨rfl, rfl⟩) w
end Go.Proofs.YtcpfbgogfhlmjaaDoor
