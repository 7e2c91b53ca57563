import Derived.Test.YtcpfbgogfhlmjaaDoorRows
import Derived.Test.YtcpfbgogfhlmjaaDoorM11
import Derived.Test.YtcpfbgogfhlmjaaDoorM8
import Derived.WalkKit
import Derived.WalkSpells
import Derived.WalkLawsBesides
import Derived.Outline
import Derived.Deep.QuietTactic
import Derived.BigQuiet
import Derived.Test.YtcpfbgogfhlmjaaDoorMB3
import Derived.Test.YtcpfbgogfhlmjaaDoorCItemsS
import Derived.Deep.RegionHeld3
/- slices.Equal of two slices of items. -/
namespace Go.Proofs.YtcpfbgogfhlmjaaDoor
open Go.RowKit
/-- The answer on whether two rows are the same. -/
def EqA (p : Prop) (e : Ending) : Prop := (p ∧ e = .returned (.bool true)) ∨ (¬ p ∧ e = .returned (.bool false))
theorem take_step {xs ys : List It} {k : Nat} (hx : k < xs.length) (hy : k < ys.length) (h : xs.take k = ys.take k) (e : M11.at_ xs k = M11.at_ ys k) : xs.take (k + 1) = ys.take (k + 1) := by
  rw [List.take_succ_eq_append_getElem hx, List.take_succ_eq_append_getElem hy, h, ← M11.at_eq xs k hx, ← M11.at_eq ys k hy, e]
set_option maxHeartbeats 3200000 in
set_option maxRecDepth 100000 in
theorem slEqual_any (a b : Option Addr) (ca cb : Nat) (xs ys : List It) (w : World) (hx : xs.length ≤ 1048576) (hl : ys.length = xs.length) (hax : M11.ItemsAt w a xs) (hay : M11.ItemsAt w b ys) :
    Calls Tryd.prog 58 #[.slice a xs.length ca, .slice b xs.length cb] w fun e w' => EqA (xs = ys) e ∧ Below w.heap.size w w' := by
  go_enter Tryd.func58, Tryd.ntmps58
  go_wp2
  go_loopw [5, 13] (fun _ iv wr => ∃ j : Nat, iv = .int .i64 (j : Int) ∧ j ≤ xs.length ∧ Hid (xs.take j = ys.take j) ∧ Below w.heap.size w wr) (fun _ iv _ => (xs.length - intOf iv).toNat)
  case atStart => exact ⟨0, rfl, by omega, show Hid _ from rfl, Below.refl _ _⟩
  case round =>
    obtain ⟨j, rfl, hj, hT, hb⟩ := hrel
    by_cases hjl : j < xs.length
    · obtain ⟨b1, o1, rfl, hlt1, c0, c1, c2, c3⟩ := (hax.below hb).at hjl
      obtain ⟨b2, o2, rfl, hlt2, d0, d1, d2, d3⟩ := (hay.below hb).at (k := j) (by omega)
      have HE : Hid (M11.at_ xs j = M11.at_ ys j → xs.take (j + 1) = ys.take (j + 1)) := fun e => take_step hjl (by omega) hT.out e
      have HF : Hid (M11.at_ xs j ≠ M11.at_ ys j → ¬ xs = ys) := fun h e => h (by rw [e])
      generalize M11.at_ xs j = x at *
      generalize M11.at_ ys j = y at *
      obtain ⟨x0, x1, x2, x3⟩ := x
      obtain ⟨y0, y1, y2, y3⟩ := y
      simp only at c0 c1 c2 c3 d0 d1 d2 d3
      clear hax hay hT
      by_cases e0 : x0 = y0
      · subst e0
        by_cases e1 : x1 = y1
        · subst e1
          by_cases e2 : x2 = y2
          · subst e2
            by_cases e3 : x3 = y3
            · subst e3
              have HT : Hid _ := HE.out rfl
              clear HE HF
              go_wp2
              go_quiet (fail)
              go_wp2
              go_roundw
              case rel => exact ⟨j + 1, by go_num, by omega, HT, below_drewN hb _⟩
              case measure => simp [intOf]; omega
            · have HN : Hid _ := HF.out (by simp [e3])
              have f0 : (x3 == y3) = false := by simp [e3]
              clear HE HF
              go_wp2
              go_quiet (fail)
              go_wp2
              go_ret
              exact ⟨.inr ⟨HN.out, rfl⟩, below_drewN hb _⟩
          · have HN : Hid _ := HF.out (by simp [e2])
            have f0 : (x2.toList == y2.toList) = false := M8.beq_no e2
            clear HE HF
            go_wp2
            go_quiet (fail)
            go_wp2
            go_ret
            exact ⟨.inr ⟨HN.out, rfl⟩, below_drewN hb _⟩
        · have HN : Hid _ := HF.out (by simp [e1])
          have f0 : (x1 == y1) = false := by simp [e1]
          clear HE HF
          go_wp2
          go_quiet (fail)
          go_wp2
          go_ret
          exact ⟨.inr ⟨HN.out, rfl⟩, below_drewN hb _⟩
      · have HN : Hid _ := HF.out (by simp [e0])
        have f0 : (x0 == y0) = false := by simp [e0]
        clear HE HF
        go_wp2
        go_quiet (fail)
        go_wp2
        go_ret
        exact ⟨.inr ⟨HN.out, rfl⟩, below_drewN hb _⟩
    · obtain rfl : j = xs.length := by omega
      have HT : Hid (xs = ys) := by
        show _ = _
        have := hT.out
        rwa [List.take_length, ← hl, List.take_length] at this
      clear hax hay hT
      go_wp2
      go_ret
      exact ⟨.inl ⟨HT.out, rfl⟩, hb⟩
end Go.Proofs.YtcpfbgogfhlmjaaDoor

/- impl.parcelIn at eleven items. -/
namespace Go.Proofs.YtcpfbgogfhlmjaaDoor
open Go.RowKit
theorem in_keep {g : Nat} {n1 n2 n3 n4 n5 n6 n7 n8 n9 : Int} {tx : ByteArray} {W W2 : World} (hb : Below W.heap.size W W2) (hS : g < W.heap.size ∧ W.cell? ⟨g, 5, none⟩ = some (.int .i64 n1) ∧ W.cell? ⟨g, 9, none⟩ = some (.int .i64 n2) ∧ W.cell? ⟨g, 13, none⟩ = some (.int .i64 n3) ∧ W.cell? ⟨g, 17, none⟩ = some (.int .i64 n4) ∧ W.cell? ⟨g, 21, none⟩ = some (.int .i64 n5) ∧ W.cell? ⟨g, 25, none⟩ = some (.int .i64 n6) ∧ W.cell? ⟨g, 29, none⟩ = some (.int .i64 n7) ∧ W.cell? ⟨g, 33, none⟩ = some (.int .i64 n8) ∧ W.cell? ⟨g, 37, none⟩ = some (.int .i64 n9) ∧ W.cell? ⟨g, 42, none⟩ = some (.string tx)) : g < W2.heap.size ∧ W2.cell? ⟨g, 5, none⟩ = some (.int .i64 n1) ∧ W2.cell? ⟨g, 9, none⟩ = some (.int .i64 n2) ∧ W2.cell? ⟨g, 13, none⟩ = some (.int .i64 n3) ∧ W2.cell? ⟨g, 17, none⟩ = some (.int .i64 n4) ∧ W2.cell? ⟨g, 21, none⟩ = some (.int .i64 n5) ∧ W2.cell? ⟨g, 25, none⟩ = some (.int .i64 n6) ∧ W2.cell? ⟨g, 29, none⟩ = some (.int .i64 n7) ∧ W2.cell? ⟨g, 33, none⟩ = some (.int .i64 n8) ∧ W2.cell? ⟨g, 37, none⟩ = some (.int .i64 n9) ∧ W2.cell? ⟨g, 42, none⟩ = some (.string tx) := by
  obtain ⟨hlt, c1, c2, c3, c4, c5, c6, c7, c8, c9, c10⟩ := hS
  exact ⟨Nat.lt_of_lt_of_le hlt hb.size, (hb.cell (p := ⟨g, 5, none⟩) hlt).trans c1, (hb.cell (p := ⟨g, 9, none⟩) hlt).trans c2, (hb.cell (p := ⟨g, 13, none⟩) hlt).trans c3, (hb.cell (p := ⟨g, 17, none⟩) hlt).trans c4, (hb.cell (p := ⟨g, 21, none⟩) hlt).trans c5, (hb.cell (p := ⟨g, 25, none⟩) hlt).trans c6, (hb.cell (p := ⟨g, 29, none⟩) hlt).trans c7, (hb.cell (p := ⟨g, 33, none⟩) hlt).trans c8, (hb.cell (p := ⟨g, 37, none⟩) hlt).trans c9, (hb.cell (p := ⟨g, 42, none⟩) hlt).trans c10⟩
theorem in_alloc {g : Nat} {n1 n2 n3 n4 n5 n6 n7 n8 n9 : Int} {tx : ByteArray} {W : World} (hS : g < W.heap.size ∧ W.cell? ⟨g, 5, none⟩ = some (.int .i64 n1) ∧ W.cell? ⟨g, 9, none⟩ = some (.int .i64 n2) ∧ W.cell? ⟨g, 13, none⟩ = some (.int .i64 n3) ∧ W.cell? ⟨g, 17, none⟩ = some (.int .i64 n4) ∧ W.cell? ⟨g, 21, none⟩ = some (.int .i64 n5) ∧ W.cell? ⟨g, 25, none⟩ = some (.int .i64 n6) ∧ W.cell? ⟨g, 29, none⟩ = some (.int .i64 n7) ∧ W.cell? ⟨g, 33, none⟩ = some (.int .i64 n8) ∧ W.cell? ⟨g, 37, none⟩ = some (.int .i64 n9) ∧ W.cell? ⟨g, 42, none⟩ = some (.string tx)) (o : Obj) : g < (W.alloc o).heap.size ∧ (W.alloc o).cell? ⟨g, 5, none⟩ = some (.int .i64 n1) ∧ (W.alloc o).cell? ⟨g, 9, none⟩ = some (.int .i64 n2) ∧ (W.alloc o).cell? ⟨g, 13, none⟩ = some (.int .i64 n3) ∧ (W.alloc o).cell? ⟨g, 17, none⟩ = some (.int .i64 n4) ∧ (W.alloc o).cell? ⟨g, 21, none⟩ = some (.int .i64 n5) ∧ (W.alloc o).cell? ⟨g, 25, none⟩ = some (.int .i64 n6) ∧ (W.alloc o).cell? ⟨g, 29, none⟩ = some (.int .i64 n7) ∧ (W.alloc o).cell? ⟨g, 33, none⟩ = some (.int .i64 n8) ∧ (W.alloc o).cell? ⟨g, 37, none⟩ = some (.int .i64 n9) ∧ (W.alloc o).cell? ⟨g, 42, none⟩ = some (.string tx) := in_keep ((Below.refl _ W).alloc (Nat.le_refl _) o) hS
theorem in_keep4 {g : Nat} {n1 n2 n3 n4 n5 n6 n7 n8 n9 : Int} {tx : ByteArray} {w W W2 : World} (hb : Below W.heap.size W W2) (hS : (w.heap.size + 1 < W.heap.size ∧ W.cell? ⟨w.heap.size + 1, 0, none⟩ = some (.int .i64 n1) ∧ W.cell? ⟨w.heap.size + 1, 1, none⟩ = some (.int .i64 n2) ∧ W.cell? ⟨w.heap.size + 1, 2, none⟩ = some (.bool (n3 == 1)) ∧ W.cell? ⟨w.heap.size + 1, 3, none⟩ = some (.int .i64 n4) ∧ W.cell? ⟨w.heap.size + 1, 4, none⟩ = some (.int .i64 n5) ∧ W.cell? ⟨w.heap.size + 1, 5, none⟩ = some (.int .i64 n6) ∧ W.cell? ⟨w.heap.size + 1, 6, none⟩ = some (.int .i64 n7)) ∧ g < W.heap.size ∧ W.cell? ⟨g, 5, none⟩ = some (.int .i64 n1) ∧ W.cell? ⟨g, 9, none⟩ = some (.int .i64 n2) ∧ W.cell? ⟨g, 13, none⟩ = some (.int .i64 n3) ∧ W.cell? ⟨g, 17, none⟩ = some (.int .i64 n4) ∧ W.cell? ⟨g, 21, none⟩ = some (.int .i64 n5) ∧ W.cell? ⟨g, 25, none⟩ = some (.int .i64 n6) ∧ W.cell? ⟨g, 29, none⟩ = some (.int .i64 n7) ∧ W.cell? ⟨g, 33, none⟩ = some (.int .i64 n8) ∧ W.cell? ⟨g, 37, none⟩ = some (.int .i64 n9) ∧ W.cell? ⟨g, 42, none⟩ = some (.string tx)) : (w.heap.size + 1 < W2.heap.size ∧ W2.cell? ⟨w.heap.size + 1, 0, none⟩ = some (.int .i64 n1) ∧ W2.cell? ⟨w.heap.size + 1, 1, none⟩ = some (.int .i64 n2) ∧ W2.cell? ⟨w.heap.size + 1, 2, none⟩ = some (.bool (n3 == 1)) ∧ W2.cell? ⟨w.heap.size + 1, 3, none⟩ = some (.int .i64 n4) ∧ W2.cell? ⟨w.heap.size + 1, 4, none⟩ = some (.int .i64 n5) ∧ W2.cell? ⟨w.heap.size + 1, 5, none⟩ = some (.int .i64 n6) ∧ W2.cell? ⟨w.heap.size + 1, 6, none⟩ = some (.int .i64 n7)) ∧ g < W2.heap.size ∧ W2.cell? ⟨g, 5, none⟩ = some (.int .i64 n1) ∧ W2.cell? ⟨g, 9, none⟩ = some (.int .i64 n2) ∧ W2.cell? ⟨g, 13, none⟩ = some (.int .i64 n3) ∧ W2.cell? ⟨g, 17, none⟩ = some (.int .i64 n4) ∧ W2.cell? ⟨g, 21, none⟩ = some (.int .i64 n5) ∧ W2.cell? ⟨g, 25, none⟩ = some (.int .i64 n6) ∧ W2.cell? ⟨g, 29, none⟩ = some (.int .i64 n7) ∧ W2.cell? ⟨g, 33, none⟩ = some (.int .i64 n8) ∧ W2.cell? ⟨g, 37, none⟩ = some (.int .i64 n9) ∧ W2.cell? ⟨g, 42, none⟩ = some (.string tx) := by
  obtain ⟨⟨hlt, d0, d1, d2, d3, d4, d5, d6⟩, h⟩ := hS
  exact ⟨⟨Nat.lt_of_lt_of_le hlt hb.size, (hb.cell (p := ⟨_, 0, none⟩) hlt).trans d0, (hb.cell (p := ⟨_, 1, none⟩) hlt).trans d1, (hb.cell (p := ⟨_, 2, none⟩) hlt).trans d2, (hb.cell (p := ⟨_, 3, none⟩) hlt).trans d3, (hb.cell (p := ⟨_, 4, none⟩) hlt).trans d4, (hb.cell (p := ⟨_, 5, none⟩) hlt).trans d5, (hb.cell (p := ⟨_, 6, none⟩) hlt).trans d6⟩, in_keep hb h⟩
theorem in_keep5 {n1 n2 n3 n4 n5 n6 n7 n8 n9 : Int} {tx : ByteArray} {w W W2 : World} (hb : Below W.heap.size W W2) (hS : w.heap.size + 1 + 1 < W.heap.size ∧ W.cell? ⟨w.heap.size + 1 + 1, 0, none⟩ = some (.int .i64 n1) ∧ W.cell? ⟨w.heap.size + 1 + 1, 1, none⟩ = some (.int .i64 n2) ∧ W.cell? ⟨w.heap.size + 1 + 1, 2, none⟩ = some (.bool (n3 == 1)) ∧ W.cell? ⟨w.heap.size + 1 + 1, 3, none⟩ = some (.int .i64 n4) ∧ W.cell? ⟨w.heap.size + 1 + 1, 4, none⟩ = some (.int .i64 n5) ∧ W.cell? ⟨w.heap.size + 1 + 1, 5, none⟩ = some (.int .i64 n6) ∧ W.cell? ⟨w.heap.size + 1 + 1, 6, none⟩ = some (.int .i64 n7) ∧ W.cell? ⟨w.heap.size + 1 + 1, 7, none⟩ = some (.int .i64 n8) ∧ W.cell? ⟨w.heap.size + 1 + 1, 8, none⟩ = some (.int .i64 n9) ∧ W.cell? ⟨w.heap.size + 1 + 1, 9, none⟩ = some (.string tx)) : w.heap.size + 1 + 1 < W2.heap.size ∧ W2.cell? ⟨w.heap.size + 1 + 1, 0, none⟩ = some (.int .i64 n1) ∧ W2.cell? ⟨w.heap.size + 1 + 1, 1, none⟩ = some (.int .i64 n2) ∧ W2.cell? ⟨w.heap.size + 1 + 1, 2, none⟩ = some (.bool (n3 == 1)) ∧ W2.cell? ⟨w.heap.size + 1 + 1, 3, none⟩ = some (.int .i64 n4) ∧ W2.cell? ⟨w.heap.size + 1 + 1, 4, none⟩ = some (.int .i64 n5) ∧ W2.cell? ⟨w.heap.size + 1 + 1, 5, none⟩ = some (.int .i64 n6) ∧ W2.cell? ⟨w.heap.size + 1 + 1, 6, none⟩ = some (.int .i64 n7) ∧ W2.cell? ⟨w.heap.size + 1 + 1, 7, none⟩ = some (.int .i64 n8) ∧ W2.cell? ⟨w.heap.size + 1 + 1, 8, none⟩ = some (.int .i64 n9) ∧ W2.cell? ⟨w.heap.size + 1 + 1, 9, none⟩ = some (.string tx) := by
  obtain ⟨hlt, d0, d1, d2, d3, d4, d5, d6, d7, d8, d9⟩ := hS
  exact ⟨Nat.lt_of_lt_of_le hlt hb.size, (hb.cell (p := ⟨_, 0, none⟩) hlt).trans d0, (hb.cell (p := ⟨_, 1, none⟩) hlt).trans d1, (hb.cell (p := ⟨_, 2, none⟩) hlt).trans d2, (hb.cell (p := ⟨_, 3, none⟩) hlt).trans d3, (hb.cell (p := ⟨_, 4, none⟩) hlt).trans d4, (hb.cell (p := ⟨_, 5, none⟩) hlt).trans d5, (hb.cell (p := ⟨_, 6, none⟩) hlt).trans d6, (hb.cell (p := ⟨_, 7, none⟩) hlt).trans d7, (hb.cell (p := ⟨_, 8, none⟩) hlt).trans d8, (hb.cell (p := ⟨_, 9, none⟩) hlt).trans d9⟩
theorem blk3 (w : World) (o1 o2 o3 : Obj) : (((w.alloc o1).alloc o2).alloc o3).heap[w.heap.size]? = some o1 := by
  rw [Below.heap_alloc _ o3 w.heap.size (by simp; omega), Below.heap_alloc _ o2 w.heap.size (by simp)]; exact heap_alloc_new w o1
theorem new_at (w : World) (o : Obj) (k : Nat) (h : k = w.heap.size) : (w.alloc o).heap[k]? = some o := by rw [h]; exact heap_alloc_new w o
theorem implItems_ex (fr to : Int) (gr : Bool) (md no lf hp of tl : Int) (py : ByteArray) (w : World) :
    Calls Tryd.prog 27 #[.agg #[.int .i64 fr, .int .i64 to, .bool gr, .int .i64 md, .int .i64 no, .int .i64 lf, .int .i64 hp, .int .i64 of, .int .i64 tl, .string py]] w fun e w' => ∃ g, e = .returned (.slice (some ⟨g, 0, none⟩) 11 11) ∧ M11.ItemsAt w' (some ⟨g, 0, none⟩) (B2.items ⟨fr, to, gr, md, no, lf, hp, of, tl, py⟩) ∧ Below w.heap.size w w' := implItems_any ⟨fr, to, gr, md, no, lf, hp, of, tl, py⟩ w
theorem slEqual_11 (a b : Option Addr) (ca cb : Nat) (xs ys : List It) (w : World) (hx : xs.length = 11) (hl : ys.length = 11) (hax : M11.ItemsAt w a xs) (hay : M11.ItemsAt w b ys) :
    Calls Tryd.prog 58 #[.slice a 11 ca, .slice b 11 cb] w fun e w' => (∃ R : Bool, e = .returned (.bool R) ∧ (R = true ↔ xs = ys)) ∧ Below w.heap.size w w' := by
  have := slEqual_any a b ca cb xs ys w (by omega) (by omega) hax hay
  rw [hx] at this
  refine this.mono ?_
  rintro e w' ⟨h, hb⟩
  rcases h with ⟨h, rfl⟩ | ⟨h, rfl⟩
  · exact ⟨⟨true, rfl, by simp [h]⟩, hb⟩
  · exact ⟨⟨false, rfl, by simp [h]⟩, hb⟩
theorem zp_cells {w : World} {k : Nat} (h : w.heap[k]? = some (.cells #[.int .i64 0, .int .i64 0, .bool false, .int .i64 0, .int .i64 0, .int .i64 0, .int .i64 0, .int .i64 0, .int .i64 0, .string ⟨#[]⟩] 45)) : w.cell? ⟨k, 0, none⟩ = some (.int .i64 0) ∧ w.cell? ⟨k, 1, none⟩ = some (.int .i64 0) ∧ w.cell? ⟨k, 2, none⟩ = some (.bool false) ∧ w.cell? ⟨k, 3, none⟩ = some (.int .i64 0) ∧ w.cell? ⟨k, 4, none⟩ = some (.int .i64 0) ∧ w.cell? ⟨k, 5, none⟩ = some (.int .i64 0) ∧ w.cell? ⟨k, 6, none⟩ = some (.int .i64 0) ∧ w.cell? ⟨k, 7, none⟩ = some (.int .i64 0) ∧ w.cell? ⟨k, 8, none⟩ = some (.int .i64 0) ∧ w.cell? ⟨k, 9, none⟩ = some (.string ⟨#[]⟩) :=
  ⟨cell_blk h, cell_blk h, cell_blk h, cell_blk h, cell_blk h, cell_blk h, cell_blk h, cell_blk h, cell_blk h, cell_blk h⟩
theorem zp_free {w : World} {k : Nat} (h : w.heap[k]? = some (.cells #[.int .i64 0, .int .i64 0, .bool false, .int .i64 0, .int .i64 0, .int .i64 0, .int .i64 0, .int .i64 0, .int .i64 0, .string ⟨#[]⟩] 45)) (j : Nat) : w.frozen? ⟨k, j, none⟩ = false := by
  unfold World.frozen?; rw [h]; simp
set_option maxHeartbeats 3200000 in
set_option maxRecDepth 100000 in
theorem parcelIn_ex (g cap : Nat) (xs : List It) (w : World) (hl : xs.length = 11) (hlt : g < w.heap.size) (hin : M11.ItemsAt w (some ⟨g, 0, none⟩) xs) :
    Calls Tryd.prog 33 #[.slice (some ⟨g, 0, none⟩) 11 cap] w fun e w' => ((B2.items (B3.bOf xs) = xs ∧ e = .returned (.tuple #[(B3.bOf xs).v, .bool true])) ∨ (¬ B2.items (B3.bOf xs) = xs ∧ e = .returned (.tuple #[(B3.bOf xs).v, .bool false]))) ∧ Below w.heap.size w w' := by
  have c1 : w.cell? ⟨g, 5, none⟩ = some (.int .i64 (B3.it xs 1).num) := by
    obtain ⟨b, off, e, _, k0, k1, k2, k3⟩ := hin.at (k := 1) (by omega)
    simp only [Option.some.injEq, Addr.mk.injEq, and_true] at e
    obtain ⟨rfl, rfl⟩ := e
    simpa using k1
  have c2 : w.cell? ⟨g, 9, none⟩ = some (.int .i64 (B3.it xs 2).num) := by
    obtain ⟨b, off, e, _, k0, k1, k2, k3⟩ := hin.at (k := 2) (by omega)
    simp only [Option.some.injEq, Addr.mk.injEq, and_true] at e
    obtain ⟨rfl, rfl⟩ := e
    simpa using k1
  have c3 : w.cell? ⟨g, 13, none⟩ = some (.int .i64 (B3.it xs 3).num) := by
    obtain ⟨b, off, e, _, k0, k1, k2, k3⟩ := hin.at (k := 3) (by omega)
    simp only [Option.some.injEq, Addr.mk.injEq, and_true] at e
    obtain ⟨rfl, rfl⟩ := e
    simpa using k1
  have c4 : w.cell? ⟨g, 17, none⟩ = some (.int .i64 (B3.it xs 4).num) := by
    obtain ⟨b, off, e, _, k0, k1, k2, k3⟩ := hin.at (k := 4) (by omega)
    simp only [Option.some.injEq, Addr.mk.injEq, and_true] at e
    obtain ⟨rfl, rfl⟩ := e
    simpa using k1
  have c5 : w.cell? ⟨g, 21, none⟩ = some (.int .i64 (B3.it xs 5).num) := by
    obtain ⟨b, off, e, _, k0, k1, k2, k3⟩ := hin.at (k := 5) (by omega)
    simp only [Option.some.injEq, Addr.mk.injEq, and_true] at e
    obtain ⟨rfl, rfl⟩ := e
    simpa using k1
  have c6 : w.cell? ⟨g, 25, none⟩ = some (.int .i64 (B3.it xs 6).num) := by
    obtain ⟨b, off, e, _, k0, k1, k2, k3⟩ := hin.at (k := 6) (by omega)
    simp only [Option.some.injEq, Addr.mk.injEq, and_true] at e
    obtain ⟨rfl, rfl⟩ := e
    simpa using k1
  have c7 : w.cell? ⟨g, 29, none⟩ = some (.int .i64 (B3.it xs 7).num) := by
    obtain ⟨b, off, e, _, k0, k1, k2, k3⟩ := hin.at (k := 7) (by omega)
    simp only [Option.some.injEq, Addr.mk.injEq, and_true] at e
    obtain ⟨rfl, rfl⟩ := e
    simpa using k1
  have c8 : w.cell? ⟨g, 33, none⟩ = some (.int .i64 (B3.it xs 8).num) := by
    obtain ⟨b, off, e, _, k0, k1, k2, k3⟩ := hin.at (k := 8) (by omega)
    simp only [Option.some.injEq, Addr.mk.injEq, and_true] at e
    obtain ⟨rfl, rfl⟩ := e
    simpa using k1
  have c9 : w.cell? ⟨g, 37, none⟩ = some (.int .i64 (B3.it xs 9).num) := by
    obtain ⟨b, off, e, _, k0, k1, k2, k3⟩ := hin.at (k := 9) (by omega)
    simp only [Option.some.injEq, Addr.mk.injEq, and_true] at e
    obtain ⟨rfl, rfl⟩ := e
    simpa using k1
  have c10 : w.cell? ⟨g, 42, none⟩ = some (.string (B3.it xs 10).text) := by
    obtain ⟨b, off, e, _, k0, k1, k2, k3⟩ := hin.at (k := 10) (by omega)
    simp only [Option.some.injEq, Addr.mk.injEq, and_true] at e
    obtain ⟨rfl, rfl⟩ := e
    simpa using k2
  unfold B3.bOf
  generalize (B3.it xs 1).num = n1 at *
  generalize (B3.it xs 2).num = n2 at *
  generalize (B3.it xs 3).num = n3 at *
  generalize (B3.it xs 4).num = n4 at *
  generalize (B3.it xs 5).num = n5 at *
  generalize (B3.it xs 6).num = n6 at *
  generalize (B3.it xs 7).num = n7 at *
  generalize (B3.it xs 8).num = n8 at *
  generalize (B3.it xs 9).num = n9 at *
  generalize (B3.it xs 10).text = tx at *
  have II : Hid _ := fun W => implItems_ex n1 n2 (n3 == 1) n4 n5 n6 n7 n8 n9 tx W
  have hLb := B2.items_len ⟨n1, n2, n3 == 1, n4, n5, n6, n7, n8, n9, tx⟩
  generalize B2.items ⟨n1, n2, n3 == 1, n4, n5, n6, n7, n8, n9, tx⟩ = Lb at *
  have hS0 : g < w.heap.size ∧ w.cell? ⟨g, 5, none⟩ = some (.int .i64 n1) ∧ w.cell? ⟨g, 9, none⟩ = some (.int .i64 n2) ∧ w.cell? ⟨g, 13, none⟩ = some (.int .i64 n3) ∧ w.cell? ⟨g, 17, none⟩ = some (.int .i64 n4) ∧ w.cell? ⟨g, 21, none⟩ = some (.int .i64 n5) ∧ w.cell? ⟨g, 25, none⟩ = some (.int .i64 n6) ∧ w.cell? ⟨g, 29, none⟩ = some (.int .i64 n7) ∧ w.cell? ⟨g, 33, none⟩ = some (.int .i64 n8) ∧ w.cell? ⟨g, 37, none⟩ = some (.int .i64 n9) ∧ w.cell? ⟨g, 42, none⟩ = some (.string tx) := ⟨hlt, c1, c2, c3, c4, c5, c6, c7, c8, c9, c10⟩
  have hS1 := in_alloc hS0 (.cells #[.int .i64 0, .int .i64 0, .bool false, .int .i64 0, .int .i64 0, .int .i64 0, .int .i64 0, .int .i64 0, .int .i64 0, .string ⟨#[]⟩] 45)
  have hS2 : g < (w.alloc (.cells #[.int .i64 0, .int .i64 0, .bool false, .int .i64 0, .int .i64 0, .int .i64 0, .int .i64 0, .int .i64 0, .int .i64 0, .string ⟨#[]⟩] 45)).drew.heap.size ∧ (w.alloc (.cells #[.int .i64 0, .int .i64 0, .bool false, .int .i64 0, .int .i64 0, .int .i64 0, .int .i64 0, .int .i64 0, .int .i64 0, .string ⟨#[]⟩] 45)).drew.cell? ⟨g, 5, none⟩ = some (.int .i64 n1) ∧ (w.alloc (.cells #[.int .i64 0, .int .i64 0, .bool false, .int .i64 0, .int .i64 0, .int .i64 0, .int .i64 0, .int .i64 0, .int .i64 0, .string ⟨#[]⟩] 45)).drew.cell? ⟨g, 9, none⟩ = some (.int .i64 n2) ∧ (w.alloc (.cells #[.int .i64 0, .int .i64 0, .bool false, .int .i64 0, .int .i64 0, .int .i64 0, .int .i64 0, .int .i64 0, .int .i64 0, .string ⟨#[]⟩] 45)).drew.cell? ⟨g, 13, none⟩ = some (.int .i64 n3) ∧ (w.alloc (.cells #[.int .i64 0, .int .i64 0, .bool false, .int .i64 0, .int .i64 0, .int .i64 0, .int .i64 0, .int .i64 0, .int .i64 0, .string ⟨#[]⟩] 45)).drew.cell? ⟨g, 17, none⟩ = some (.int .i64 n4) ∧ (w.alloc (.cells #[.int .i64 0, .int .i64 0, .bool false, .int .i64 0, .int .i64 0, .int .i64 0, .int .i64 0, .int .i64 0, .int .i64 0, .string ⟨#[]⟩] 45)).drew.cell? ⟨g, 21, none⟩ = some (.int .i64 n5) ∧ (w.alloc (.cells #[.int .i64 0, .int .i64 0, .bool false, .int .i64 0, .int .i64 0, .int .i64 0, .int .i64 0, .int .i64 0, .int .i64 0, .string ⟨#[]⟩] 45)).drew.cell? ⟨g, 25, none⟩ = some (.int .i64 n6) ∧ (w.alloc (.cells #[.int .i64 0, .int .i64 0, .bool false, .int .i64 0, .int .i64 0, .int .i64 0, .int .i64 0, .int .i64 0, .int .i64 0, .string ⟨#[]⟩] 45)).drew.cell? ⟨g, 29, none⟩ = some (.int .i64 n7) ∧ (w.alloc (.cells #[.int .i64 0, .int .i64 0, .bool false, .int .i64 0, .int .i64 0, .int .i64 0, .int .i64 0, .int .i64 0, .int .i64 0, .string ⟨#[]⟩] 45)).drew.cell? ⟨g, 33, none⟩ = some (.int .i64 n8) ∧ (w.alloc (.cells #[.int .i64 0, .int .i64 0, .bool false, .int .i64 0, .int .i64 0, .int .i64 0, .int .i64 0, .int .i64 0, .int .i64 0, .string ⟨#[]⟩] 45)).drew.cell? ⟨g, 37, none⟩ = some (.int .i64 n9) ∧ (w.alloc (.cells #[.int .i64 0, .int .i64 0, .bool false, .int .i64 0, .int .i64 0, .int .i64 0, .int .i64 0, .int .i64 0, .int .i64 0, .string ⟨#[]⟩] 45)).drew.cell? ⟨g, 42, none⟩ = some (.string tx) := hS1
  clear c1 c2 c3 c4 c5 c6 c7 c8 c9 c10 hS0 hS1
  go_enter Tryd.func33, Tryd.ntmps33
  go_wp2
  go_region_held3 (fun w' => g < w'.heap.size ∧ w'.cell? ⟨g, 5, none⟩ = some (.int .i64 n1) ∧ w'.cell? ⟨g, 9, none⟩ = some (.int .i64 n2) ∧ w'.cell? ⟨g, 13, none⟩ = some (.int .i64 n3) ∧ w'.cell? ⟨g, 17, none⟩ = some (.int .i64 n4) ∧ w'.cell? ⟨g, 21, none⟩ = some (.int .i64 n5) ∧ w'.cell? ⟨g, 25, none⟩ = some (.int .i64 n6) ∧ w'.cell? ⟨g, 29, none⟩ = some (.int .i64 n7) ∧ w'.cell? ⟨g, 33, none⟩ = some (.int .i64 n8) ∧ w'.cell? ⟨g, 37, none⟩ = some (.int .i64 n9) ∧ w'.cell? ⟨g, 42, none⟩ = some (.string tx)) (first | assumption | (show _ ∧ _; assumption) | exact in_alloc hS2 _) (fail)
  have hS4 : (w.heap.size + 1 < ((w.alloc (.cells #[.int .i64 0, .int .i64 0, .bool false, .int .i64 0, .int .i64 0, .int .i64 0, .int .i64 0, .int .i64 0, .int .i64 0, .string ⟨#[]⟩] 45)).alloc (.cells #[.int .i64 n1, .int .i64 n2, .bool (n3 == 1), .int .i64 n4, .int .i64 n5, .int .i64 n6, .int .i64 n7] 43)).drew.drew.heap.size ∧ ((w.alloc (.cells #[.int .i64 0, .int .i64 0, .bool false, .int .i64 0, .int .i64 0, .int .i64 0, .int .i64 0, .int .i64 0, .int .i64 0, .string ⟨#[]⟩] 45)).alloc (.cells #[.int .i64 n1, .int .i64 n2, .bool (n3 == 1), .int .i64 n4, .int .i64 n5, .int .i64 n6, .int .i64 n7] 43)).drew.drew.cell? ⟨w.heap.size + 1, 0, none⟩ = some (.int .i64 n1) ∧ ((w.alloc (.cells #[.int .i64 0, .int .i64 0, .bool false, .int .i64 0, .int .i64 0, .int .i64 0, .int .i64 0, .int .i64 0, .int .i64 0, .string ⟨#[]⟩] 45)).alloc (.cells #[.int .i64 n1, .int .i64 n2, .bool (n3 == 1), .int .i64 n4, .int .i64 n5, .int .i64 n6, .int .i64 n7] 43)).drew.drew.cell? ⟨w.heap.size + 1, 1, none⟩ = some (.int .i64 n2) ∧ ((w.alloc (.cells #[.int .i64 0, .int .i64 0, .bool false, .int .i64 0, .int .i64 0, .int .i64 0, .int .i64 0, .int .i64 0, .int .i64 0, .string ⟨#[]⟩] 45)).alloc (.cells #[.int .i64 n1, .int .i64 n2, .bool (n3 == 1), .int .i64 n4, .int .i64 n5, .int .i64 n6, .int .i64 n7] 43)).drew.drew.cell? ⟨w.heap.size + 1, 2, none⟩ = some (.bool (n3 == 1)) ∧ ((w.alloc (.cells #[.int .i64 0, .int .i64 0, .bool false, .int .i64 0, .int .i64 0, .int .i64 0, .int .i64 0, .int .i64 0, .int .i64 0, .string ⟨#[]⟩] 45)).alloc (.cells #[.int .i64 n1, .int .i64 n2, .bool (n3 == 1), .int .i64 n4, .int .i64 n5, .int .i64 n6, .int .i64 n7] 43)).drew.drew.cell? ⟨w.heap.size + 1, 3, none⟩ = some (.int .i64 n4) ∧ ((w.alloc (.cells #[.int .i64 0, .int .i64 0, .bool false, .int .i64 0, .int .i64 0, .int .i64 0, .int .i64 0, .int .i64 0, .int .i64 0, .string ⟨#[]⟩] 45)).alloc (.cells #[.int .i64 n1, .int .i64 n2, .bool (n3 == 1), .int .i64 n4, .int .i64 n5, .int .i64 n6, .int .i64 n7] 43)).drew.drew.cell? ⟨w.heap.size + 1, 4, none⟩ = some (.int .i64 n5) ∧ ((w.alloc (.cells #[.int .i64 0, .int .i64 0, .bool false, .int .i64 0, .int .i64 0, .int .i64 0, .int .i64 0, .int .i64 0, .int .i64 0, .string ⟨#[]⟩] 45)).alloc (.cells #[.int .i64 n1, .int .i64 n2, .bool (n3 == 1), .int .i64 n4, .int .i64 n5, .int .i64 n6, .int .i64 n7] 43)).drew.drew.cell? ⟨w.heap.size + 1, 5, none⟩ = some (.int .i64 n6) ∧ ((w.alloc (.cells #[.int .i64 0, .int .i64 0, .bool false, .int .i64 0, .int .i64 0, .int .i64 0, .int .i64 0, .int .i64 0, .int .i64 0, .string ⟨#[]⟩] 45)).alloc (.cells #[.int .i64 n1, .int .i64 n2, .bool (n3 == 1), .int .i64 n4, .int .i64 n5, .int .i64 n6, .int .i64 n7] 43)).drew.drew.cell? ⟨w.heap.size + 1, 6, none⟩ = some (.int .i64 n7)) ∧ g < ((w.alloc (.cells #[.int .i64 0, .int .i64 0, .bool false, .int .i64 0, .int .i64 0, .int .i64 0, .int .i64 0, .int .i64 0, .int .i64 0, .string ⟨#[]⟩] 45)).alloc (.cells #[.int .i64 n1, .int .i64 n2, .bool (n3 == 1), .int .i64 n4, .int .i64 n5, .int .i64 n6, .int .i64 n7] 43)).drew.drew.heap.size ∧ ((w.alloc (.cells #[.int .i64 0, .int .i64 0, .bool false, .int .i64 0, .int .i64 0, .int .i64 0, .int .i64 0, .int .i64 0, .int .i64 0, .string ⟨#[]⟩] 45)).alloc (.cells #[.int .i64 n1, .int .i64 n2, .bool (n3 == 1), .int .i64 n4, .int .i64 n5, .int .i64 n6, .int .i64 n7] 43)).drew.drew.cell? ⟨g, 5, none⟩ = some (.int .i64 n1) ∧ ((w.alloc (.cells #[.int .i64 0, .int .i64 0, .bool false, .int .i64 0, .int .i64 0, .int .i64 0, .int .i64 0, .int .i64 0, .int .i64 0, .string ⟨#[]⟩] 45)).alloc (.cells #[.int .i64 n1, .int .i64 n2, .bool (n3 == 1), .int .i64 n4, .int .i64 n5, .int .i64 n6, .int .i64 n7] 43)).drew.drew.cell? ⟨g, 9, none⟩ = some (.int .i64 n2) ∧ ((w.alloc (.cells #[.int .i64 0, .int .i64 0, .bool false, .int .i64 0, .int .i64 0, .int .i64 0, .int .i64 0, .int .i64 0, .int .i64 0, .string ⟨#[]⟩] 45)).alloc (.cells #[.int .i64 n1, .int .i64 n2, .bool (n3 == 1), .int .i64 n4, .int .i64 n5, .int .i64 n6, .int .i64 n7] 43)).drew.drew.cell? ⟨g, 13, none⟩ = some (.int .i64 n3) ∧ ((w.alloc (.cells #[.int .i64 0, .int .i64 0, .bool false, .int .i64 0, .int .i64 0, .int .i64 0, .int .i64 0, .int .i64 0, .int .i64 0, .string ⟨#[]⟩] 45)).alloc (.cells #[.int .i64 n1, .int .i64 n2, .bool (n3 == 1), .int .i64 n4, .int .i64 n5, .int .i64 n6, .int .i64 n7] 43)).drew.drew.cell? ⟨g, 17, none⟩ = some (.int .i64 n4) ∧ ((w.alloc (.cells #[.int .i64 0, .int .i64 0, .bool false, .int .i64 0, .int .i64 0, .int .i64 0, .int .i64 0, .int .i64 0, .int .i64 0, .string ⟨#[]⟩] 45)).alloc (.cells #[.int .i64 n1, .int .i64 n2, .bool (n3 == 1), .int .i64 n4, .int .i64 n5, .int .i64 n6, .int .i64 n7] 43)).drew.drew.cell? ⟨g, 21, none⟩ = some (.int .i64 n5) ∧ ((w.alloc (.cells #[.int .i64 0, .int .i64 0, .bool false, .int .i64 0, .int .i64 0, .int .i64 0, .int .i64 0, .int .i64 0, .int .i64 0, .string ⟨#[]⟩] 45)).alloc (.cells #[.int .i64 n1, .int .i64 n2, .bool (n3 == 1), .int .i64 n4, .int .i64 n5, .int .i64 n6, .int .i64 n7] 43)).drew.drew.cell? ⟨g, 25, none⟩ = some (.int .i64 n6) ∧ ((w.alloc (.cells #[.int .i64 0, .int .i64 0, .bool false, .int .i64 0, .int .i64 0, .int .i64 0, .int .i64 0, .int .i64 0, .int .i64 0, .string ⟨#[]⟩] 45)).alloc (.cells #[.int .i64 n1, .int .i64 n2, .bool (n3 == 1), .int .i64 n4, .int .i64 n5, .int .i64 n6, .int .i64 n7] 43)).drew.drew.cell? ⟨g, 29, none⟩ = some (.int .i64 n7) ∧ ((w.alloc (.cells #[.int .i64 0, .int .i64 0, .bool false, .int .i64 0, .int .i64 0, .int .i64 0, .int .i64 0, .int .i64 0, .int .i64 0, .string ⟨#[]⟩] 45)).alloc (.cells #[.int .i64 n1, .int .i64 n2, .bool (n3 == 1), .int .i64 n4, .int .i64 n5, .int .i64 n6, .int .i64 n7] 43)).drew.drew.cell? ⟨g, 33, none⟩ = some (.int .i64 n8) ∧ ((w.alloc (.cells #[.int .i64 0, .int .i64 0, .bool false, .int .i64 0, .int .i64 0, .int .i64 0, .int .i64 0, .int .i64 0, .int .i64 0, .string ⟨#[]⟩] 45)).alloc (.cells #[.int .i64 n1, .int .i64 n2, .bool (n3 == 1), .int .i64 n4, .int .i64 n5, .int .i64 n6, .int .i64 n7] 43)).drew.drew.cell? ⟨g, 37, none⟩ = some (.int .i64 n9) ∧ ((w.alloc (.cells #[.int .i64 0, .int .i64 0, .bool false, .int .i64 0, .int .i64 0, .int .i64 0, .int .i64 0, .int .i64 0, .int .i64 0, .string ⟨#[]⟩] 45)).alloc (.cells #[.int .i64 n1, .int .i64 n2, .bool (n3 == 1), .int .i64 n4, .int .i64 n5, .int .i64 n6, .int .i64 n7] 43)).drew.drew.cell? ⟨g, 42, none⟩ = some (.string tx) := ⟨⟨by simp, by simp, by simp, by simp, by simp, by simp, by simp, by simp⟩, in_alloc hS2 (.cells #[.int .i64 n1, .int .i64 n2, .bool (n3 == 1), .int .i64 n4, .int .i64 n5, .int .i64 n6, .int .i64 n7] 43)⟩
  clear hS2
  go_wp2
  go_region_held3 (fun w' => (w.heap.size + 1 < w'.heap.size ∧ w'.cell? ⟨w.heap.size + 1, 0, none⟩ = some (.int .i64 n1) ∧ w'.cell? ⟨w.heap.size + 1, 1, none⟩ = some (.int .i64 n2) ∧ w'.cell? ⟨w.heap.size + 1, 2, none⟩ = some (.bool (n3 == 1)) ∧ w'.cell? ⟨w.heap.size + 1, 3, none⟩ = some (.int .i64 n4) ∧ w'.cell? ⟨w.heap.size + 1, 4, none⟩ = some (.int .i64 n5) ∧ w'.cell? ⟨w.heap.size + 1, 5, none⟩ = some (.int .i64 n6) ∧ w'.cell? ⟨w.heap.size + 1, 6, none⟩ = some (.int .i64 n7)) ∧ g < w'.heap.size ∧ w'.cell? ⟨g, 5, none⟩ = some (.int .i64 n1) ∧ w'.cell? ⟨g, 9, none⟩ = some (.int .i64 n2) ∧ w'.cell? ⟨g, 13, none⟩ = some (.int .i64 n3) ∧ w'.cell? ⟨g, 17, none⟩ = some (.int .i64 n4) ∧ w'.cell? ⟨g, 21, none⟩ = some (.int .i64 n5) ∧ w'.cell? ⟨g, 25, none⟩ = some (.int .i64 n6) ∧ w'.cell? ⟨g, 29, none⟩ = some (.int .i64 n7) ∧ w'.cell? ⟨g, 33, none⟩ = some (.int .i64 n8) ∧ w'.cell? ⟨g, 37, none⟩ = some (.int .i64 n9) ∧ w'.cell? ⟨g, 42, none⟩ = some (.string tx)) (first | assumption | (show _ ∧ _; assumption) | exact in_keep4 ((Below.refl _ _).alloc (Nat.le_refl _) _) hS4) (fail)
  have hB5 : Below w.heap.size w (((w.alloc (.cells #[.int .i64 0, .int .i64 0, .bool false, .int .i64 0, .int .i64 0, .int .i64 0, .int .i64 0, .int .i64 0, .int .i64 0, .string ⟨#[]⟩] 45)).alloc (.cells #[.int .i64 n1, .int .i64 n2, .bool (n3 == 1), .int .i64 n4, .int .i64 n5, .int .i64 n6, .int .i64 n7] 43)).alloc (.cells #[.int .i64 n1, .int .i64 n2, .bool (n3 == 1), .int .i64 n4, .int .i64 n5, .int .i64 n6, .int .i64 n7, .int .i64 n8, .int .i64 n9, .string tx] 45)) := (((Below.refl _ w).alloc (Nat.le_refl _) _).alloc (by simp) _).alloc (by simp; omega) _
  have hP5 : (((w.alloc (.cells #[.int .i64 0, .int .i64 0, .bool false, .int .i64 0, .int .i64 0, .int .i64 0, .int .i64 0, .int .i64 0, .int .i64 0, .string ⟨#[]⟩] 45)).alloc (.cells #[.int .i64 n1, .int .i64 n2, .bool (n3 == 1), .int .i64 n4, .int .i64 n5, .int .i64 n6, .int .i64 n7] 43)).alloc (.cells #[.int .i64 n1, .int .i64 n2, .bool (n3 == 1), .int .i64 n4, .int .i64 n5, .int .i64 n6, .int .i64 n7, .int .i64 n8, .int .i64 n9, .string tx] 45)).heap[w.heap.size + 1 + 1]? = some (.cells #[.int .i64 n1, .int .i64 n2, .bool (n3 == 1), .int .i64 n4, .int .i64 n5, .int .i64 n6, .int .i64 n7, .int .i64 n8, .int .i64 n9, .string tx] 45) := new_at _ _ _ (by simp)
  have hS5 : w.heap.size + 1 + 1 < (((w.alloc (.cells #[.int .i64 0, .int .i64 0, .bool false, .int .i64 0, .int .i64 0, .int .i64 0, .int .i64 0, .int .i64 0, .int .i64 0, .string ⟨#[]⟩] 45)).alloc (.cells #[.int .i64 n1, .int .i64 n2, .bool (n3 == 1), .int .i64 n4, .int .i64 n5, .int .i64 n6, .int .i64 n7] 43)).alloc (.cells #[.int .i64 n1, .int .i64 n2, .bool (n3 == 1), .int .i64 n4, .int .i64 n5, .int .i64 n6, .int .i64 n7, .int .i64 n8, .int .i64 n9, .string tx] 45)).drew.drew.drew.heap.size ∧ (((w.alloc (.cells #[.int .i64 0, .int .i64 0, .bool false, .int .i64 0, .int .i64 0, .int .i64 0, .int .i64 0, .int .i64 0, .int .i64 0, .string ⟨#[]⟩] 45)).alloc (.cells #[.int .i64 n1, .int .i64 n2, .bool (n3 == 1), .int .i64 n4, .int .i64 n5, .int .i64 n6, .int .i64 n7] 43)).alloc (.cells #[.int .i64 n1, .int .i64 n2, .bool (n3 == 1), .int .i64 n4, .int .i64 n5, .int .i64 n6, .int .i64 n7, .int .i64 n8, .int .i64 n9, .string tx] 45)).drew.drew.drew.cell? ⟨w.heap.size + 1 + 1, 0, none⟩ = some (.int .i64 n1) ∧ (((w.alloc (.cells #[.int .i64 0, .int .i64 0, .bool false, .int .i64 0, .int .i64 0, .int .i64 0, .int .i64 0, .int .i64 0, .int .i64 0, .string ⟨#[]⟩] 45)).alloc (.cells #[.int .i64 n1, .int .i64 n2, .bool (n3 == 1), .int .i64 n4, .int .i64 n5, .int .i64 n6, .int .i64 n7] 43)).alloc (.cells #[.int .i64 n1, .int .i64 n2, .bool (n3 == 1), .int .i64 n4, .int .i64 n5, .int .i64 n6, .int .i64 n7, .int .i64 n8, .int .i64 n9, .string tx] 45)).drew.drew.drew.cell? ⟨w.heap.size + 1 + 1, 1, none⟩ = some (.int .i64 n2) ∧ (((w.alloc (.cells #[.int .i64 0, .int .i64 0, .bool false, .int .i64 0, .int .i64 0, .int .i64 0, .int .i64 0, .int .i64 0, .int .i64 0, .string ⟨#[]⟩] 45)).alloc (.cells #[.int .i64 n1, .int .i64 n2, .bool (n3 == 1), .int .i64 n4, .int .i64 n5, .int .i64 n6, .int .i64 n7] 43)).alloc (.cells #[.int .i64 n1, .int .i64 n2, .bool (n3 == 1), .int .i64 n4, .int .i64 n5, .int .i64 n6, .int .i64 n7, .int .i64 n8, .int .i64 n9, .string tx] 45)).drew.drew.drew.cell? ⟨w.heap.size + 1 + 1, 2, none⟩ = some (.bool (n3 == 1)) ∧ (((w.alloc (.cells #[.int .i64 0, .int .i64 0, .bool false, .int .i64 0, .int .i64 0, .int .i64 0, .int .i64 0, .int .i64 0, .int .i64 0, .string ⟨#[]⟩] 45)).alloc (.cells #[.int .i64 n1, .int .i64 n2, .bool (n3 == 1), .int .i64 n4, .int .i64 n5, .int .i64 n6, .int .i64 n7] 43)).alloc (.cells #[.int .i64 n1, .int .i64 n2, .bool (n3 == 1), .int .i64 n4, .int .i64 n5, .int .i64 n6, .int .i64 n7, .int .i64 n8, .int .i64 n9, .string tx] 45)).drew.drew.drew.cell? ⟨w.heap.size + 1 + 1, 3, none⟩ = some (.int .i64 n4) ∧ (((w.alloc (.cells #[.int .i64 0, .int .i64 0, .bool false, .int .i64 0, .int .i64 0, .int .i64 0, .int .i64 0, .int .i64 0, .int .i64 0, .string ⟨#[]⟩] 45)).alloc (.cells #[.int .i64 n1, .int .i64 n2, .bool (n3 == 1), .int .i64 n4, .int .i64 n5, .int .i64 n6, .int .i64 n7] 43)).alloc (.cells #[.int .i64 n1, .int .i64 n2, .bool (n3 == 1), .int .i64 n4, .int .i64 n5, .int .i64 n6, .int .i64 n7, .int .i64 n8, .int .i64 n9, .string tx] 45)).drew.drew.drew.cell? ⟨w.heap.size + 1 + 1, 4, none⟩ = some (.int .i64 n5) ∧ (((w.alloc (.cells #[.int .i64 0, .int .i64 0, .bool false, .int .i64 0, .int .i64 0, .int .i64 0, .int .i64 0, .int .i64 0, .int .i64 0, .string ⟨#[]⟩] 45)).alloc (.cells #[.int .i64 n1, .int .i64 n2, .bool (n3 == 1), .int .i64 n4, .int .i64 n5, .int .i64 n6, .int .i64 n7] 43)).alloc (.cells #[.int .i64 n1, .int .i64 n2, .bool (n3 == 1), .int .i64 n4, .int .i64 n5, .int .i64 n6, .int .i64 n7, .int .i64 n8, .int .i64 n9, .string tx] 45)).drew.drew.drew.cell? ⟨w.heap.size + 1 + 1, 5, none⟩ = some (.int .i64 n6) ∧ (((w.alloc (.cells #[.int .i64 0, .int .i64 0, .bool false, .int .i64 0, .int .i64 0, .int .i64 0, .int .i64 0, .int .i64 0, .int .i64 0, .string ⟨#[]⟩] 45)).alloc (.cells #[.int .i64 n1, .int .i64 n2, .bool (n3 == 1), .int .i64 n4, .int .i64 n5, .int .i64 n6, .int .i64 n7] 43)).alloc (.cells #[.int .i64 n1, .int .i64 n2, .bool (n3 == 1), .int .i64 n4, .int .i64 n5, .int .i64 n6, .int .i64 n7, .int .i64 n8, .int .i64 n9, .string tx] 45)).drew.drew.drew.cell? ⟨w.heap.size + 1 + 1, 6, none⟩ = some (.int .i64 n7) ∧ (((w.alloc (.cells #[.int .i64 0, .int .i64 0, .bool false, .int .i64 0, .int .i64 0, .int .i64 0, .int .i64 0, .int .i64 0, .int .i64 0, .string ⟨#[]⟩] 45)).alloc (.cells #[.int .i64 n1, .int .i64 n2, .bool (n3 == 1), .int .i64 n4, .int .i64 n5, .int .i64 n6, .int .i64 n7] 43)).alloc (.cells #[.int .i64 n1, .int .i64 n2, .bool (n3 == 1), .int .i64 n4, .int .i64 n5, .int .i64 n6, .int .i64 n7, .int .i64 n8, .int .i64 n9, .string tx] 45)).drew.drew.drew.cell? ⟨w.heap.size + 1 + 1, 7, none⟩ = some (.int .i64 n8) ∧ (((w.alloc (.cells #[.int .i64 0, .int .i64 0, .bool false, .int .i64 0, .int .i64 0, .int .i64 0, .int .i64 0, .int .i64 0, .int .i64 0, .string ⟨#[]⟩] 45)).alloc (.cells #[.int .i64 n1, .int .i64 n2, .bool (n3 == 1), .int .i64 n4, .int .i64 n5, .int .i64 n6, .int .i64 n7] 43)).alloc (.cells #[.int .i64 n1, .int .i64 n2, .bool (n3 == 1), .int .i64 n4, .int .i64 n5, .int .i64 n6, .int .i64 n7, .int .i64 n8, .int .i64 n9, .string tx] 45)).drew.drew.drew.cell? ⟨w.heap.size + 1 + 1, 8, none⟩ = some (.int .i64 n9) ∧ (((w.alloc (.cells #[.int .i64 0, .int .i64 0, .bool false, .int .i64 0, .int .i64 0, .int .i64 0, .int .i64 0, .int .i64 0, .int .i64 0, .string ⟨#[]⟩] 45)).alloc (.cells #[.int .i64 n1, .int .i64 n2, .bool (n3 == 1), .int .i64 n4, .int .i64 n5, .int .i64 n6, .int .i64 n7] 43)).alloc (.cells #[.int .i64 n1, .int .i64 n2, .bool (n3 == 1), .int .i64 n4, .int .i64 n5, .int .i64 n6, .int .i64 n7, .int .i64 n8, .int .i64 n9, .string tx] 45)).drew.drew.drew.cell? ⟨w.heap.size + 1 + 1, 9, none⟩ = some (.string tx) := ⟨by simp, cell_blk hP5, cell_blk hP5, cell_blk hP5, cell_blk hP5, cell_blk hP5, cell_blk hP5, cell_blk hP5, cell_blk hP5, cell_blk hP5, cell_blk hP5⟩
  have hB5d : Below w.heap.size w (((w.alloc (.cells #[.int .i64 0, .int .i64 0, .bool false, .int .i64 0, .int .i64 0, .int .i64 0, .int .i64 0, .int .i64 0, .int .i64 0, .string ⟨#[]⟩] 45)).alloc (.cells #[.int .i64 n1, .int .i64 n2, .bool (n3 == 1), .int .i64 n4, .int .i64 n5, .int .i64 n6, .int .i64 n7] 43)).alloc (.cells #[.int .i64 n1, .int .i64 n2, .bool (n3 == 1), .int .i64 n4, .int .i64 n5, .int .i64 n6, .int .i64 n7, .int .i64 n8, .int .i64 n9, .string tx] 45)).drew.drew.drew := hB5.drew.drew.drew
  have hz5 : (((w.alloc (.cells #[.int .i64 0, .int .i64 0, .bool false, .int .i64 0, .int .i64 0, .int .i64 0, .int .i64 0, .int .i64 0, .int .i64 0, .string ⟨#[]⟩] 45)).alloc (.cells #[.int .i64 n1, .int .i64 n2, .bool (n3 == 1), .int .i64 n4, .int .i64 n5, .int .i64 n6, .int .i64 n7] 43)).alloc (.cells #[.int .i64 n1, .int .i64 n2, .bool (n3 == 1), .int .i64 n4, .int .i64 n5, .int .i64 n6, .int .i64 n7, .int .i64 n8, .int .i64 n9, .string tx] 45)).drew.drew.drew.heap[w.heap.size]? = some (.cells #[.int .i64 0, .int .i64 0, .bool false, .int .i64 0, .int .i64 0, .int .i64 0, .int .i64 0, .int .i64 0, .int .i64 0, .string ⟨#[]⟩] 45) := blk3 w _ _ _
  have hzlt : w.heap.size < (((w.alloc (.cells #[.int .i64 0, .int .i64 0, .bool false, .int .i64 0, .int .i64 0, .int .i64 0, .int .i64 0, .int .i64 0, .int .i64 0, .string ⟨#[]⟩] 45)).alloc (.cells #[.int .i64 n1, .int .i64 n2, .bool (n3 == 1), .int .i64 n4, .int .i64 n5, .int .i64 n6, .int .i64 n7] 43)).alloc (.cells #[.int .i64 n1, .int .i64 n2, .bool (n3 == 1), .int .i64 n4, .int .i64 n5, .int .i64 n6, .int .i64 n7, .int .i64 n8, .int .i64 n9, .string tx] 45)).drew.drew.drew.heap.size := (Array.getElem?_eq_some_iff.1 hz5).1
  clear hP5 hS4 hB5
  go_wp2
  have hso : ∀ (W : World) (j i : Nat) (u : Value), (W.setCell ⟨w.heap.size, j, none⟩ u).cell? ⟨w.heap.size + 1 + 1, i, none⟩ = W.cell? ⟨w.heap.size + 1 + 1, i, none⟩ := fun W j i u => World.cell?_of_block (Below.heap_setCell W ⟨w.heap.size, j, none⟩ u (w.heap.size + 1 + 1) (show w.heap.size + 1 + 1 ≠ w.heap.size by omega))
  obtain ⟨hl5, s0, s1, s2, s3, s4, s5, s6, s7, s8, s9⟩ := id hS5
  go_region_held3 (fun w' => w'.cell? ⟨w.heap.size + 1 + 1, 0, none⟩ = some (.int .i64 n1) ∧ w'.cell? ⟨w.heap.size + 1 + 1, 1, none⟩ = some (.int .i64 n2) ∧ w'.cell? ⟨w.heap.size + 1 + 1, 2, none⟩ = some (.bool (n3 == 1)) ∧ w'.cell? ⟨w.heap.size + 1 + 1, 3, none⟩ = some (.int .i64 n4) ∧ w'.cell? ⟨w.heap.size + 1 + 1, 4, none⟩ = some (.int .i64 n5) ∧ w'.cell? ⟨w.heap.size + 1 + 1, 5, none⟩ = some (.int .i64 n6) ∧ w'.cell? ⟨w.heap.size + 1 + 1, 6, none⟩ = some (.int .i64 n7) ∧ w'.cell? ⟨w.heap.size + 1 + 1, 7, none⟩ = some (.int .i64 n8) ∧ w'.cell? ⟨w.heap.size + 1 + 1, 8, none⟩ = some (.int .i64 n9) ∧ w'.cell? ⟨w.heap.size + 1 + 1, 9, none⟩ = some (.string tx)) (first | go_keep | (simp only [hso]; refine ⟨e0, e1, e2, e3, e4, e5, e6, e7, e8, e9⟩)) (first | (go_at_call 27; refine Calls.mono (II.out _) ?_; (rintro e w3 ⟨g3, rfl, hin3, hb3⟩); (have hS6 := in_keep5 hb3 hS5); (obtain ⟨hl6, r0, r1, r2, r3, r4, r5, r6, r7, r8, r9⟩ := id hS6); (have hB6 := hB5d.trans (hb3.mono hB5d.size)); (have hz6 := (hb3.block w.heap.size hzlt).trans hz5); (have hlz6 := Nat.lt_of_lt_of_le hzlt hb3.size); (have hin6 := hin.below hB6); clear hb3 hS5) | (go_at_call 58; refine Calls.mono (slEqual_11 _ _ _ _ Lb xs _ hLb hl hin3 hin6) ?_; (rintro e w4 ⟨⟨R, rfl, hR⟩, hb4⟩); (have hS7 := in_keep5 hb4 hS6); (have hB7 := hB6.trans (hb4.mono hB6.size)); (have hz7 := (hb4.block w.heap.size hlz6).trans hz6); (obtain ⟨d0, d1, d2, d3, d4, d5, d6, d7, d8, d9⟩ := zp_cells hz7); (have z0 := zp_free hz7 0); (have z1 := zp_free hz7 1); (have z2 := zp_free hz7 2); (have z3 := zp_free hz7 3); (have z4 := zp_free hz7 4); (have z5 := zp_free hz7 5); (have z6 := zp_free hz7 6); (have z7 := zp_free hz7 7); (have z8 := zp_free hz7 8); (have z9 := zp_free hz7 9); (have hne7 : w.heap.size + 1 + 1 ≠ w.heap.size := by omega); (obtain ⟨hl7, e0, e1, e2, e3, e4, e5, e6, e7, e8, e9⟩ := id hS7); (have HRR : Hid _ := hR); clear hb4 hS6 hS7 hin3 hR hz6 hz7 hin6 r0 r1 r2 r3 r4 r5 r6 r7 r8 r9))
  clear hso II hin hlt s0 s1 s2 s3 s4 s5 s6 s7 s8 s9 e0 e1 e2 e3 e4 e5 e6 e7 e8 e9 hB5d hz5 hzlt hB6 hlz6
  go_wp2
  refine bodyPost_ret (v := .tuple #[Bd.v ⟨n1, n2, n3 == 1, n4, n5, n6, n7, n8, n9, tx⟩, .bool R]) (by simp [results, Tryd.results33, go_sem, d0, d1, d2, d3, d4, d5, d6, d7, d8, d9]) rfl ⟨?_, (((((((((hB7.setCell (by simp) _).setCell (by simp) _).setCell (by simp) _).setCell (by simp) _).setCell (by simp) _).setCell (by simp) _).setCell (by simp) _).setCell (by simp) _).setCell (by simp) _).setCell (by simp) _⟩
  have hRR := HRR.out
  cases R with
  | true => exact .inl ⟨hRR.1 rfl, rfl⟩
  | false => exact .inr ⟨fun h => (by have := hRR.2 h; cases this), rfl⟩
end Go.Proofs.YtcpfbgogfhlmjaaDoor
