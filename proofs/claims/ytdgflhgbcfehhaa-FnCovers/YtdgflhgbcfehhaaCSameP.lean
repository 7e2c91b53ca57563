/- The laws' samePiles tells yes of two piles of the same pieces. -/
import Derived.Test.YtdgflhgbcfehhaaRows
import Derived.Test.YtdgflhgbcfehhaaMP1
import Derived.Test.YtdgflhgbcfehhaaMA
import Derived.Test.YtdgflhgbcfehhaaM4
import Derived.WalkKit
import Derived.WalkSpells
import Derived.WalkLawsBesides
import Derived.Outline
import Derived.Deep.QuietTactic
import Derived.BigQuiet
namespace Go.Proofs.Ytdgflhgbcfehhaa
open Go.RowKit
set_option linter.unusedSimpArgs false in
set_option maxHeartbeats 3200000 in
set_option maxRecDepth 100000 in
theorem samePiles_any (a b : Option Addr) (ca cb : Nat) (xs : List Bd) (w : World) (hx : xs.length ≤ 1048576) (hax : MP.BsAt w a xs) (hay : MP.BsAt w b xs) :
    Calls Try.prog 11 #[.agg #[.slice a xs.length ca], .agg #[.slice b xs.length cb]] w fun e w' => e = .returned (.bool true) ∧ Below w.heap.size w w' := by
  have HB : Hid (Below w.heap.size w ((w.alloc (.cells #[.slice a xs.length ca] 31)).alloc (.cells #[.slice b xs.length cb] 31))) := ((Below.refl _ w).alloc (Nat.le_refl _) _).alloc (by simp) _
  have R0 := (MA.Rg.new w [.slice a xs.length ca] 31).alloc (.cells #[.slice b xs.length cb] 31)
  have R1 := MA.Rg.new' (w.alloc (.cells #[.slice a xs.length ca] 31)) [.slice b xs.length cb] 31 (w.heap.size + 1) (by simp)
  have c0 : ((w.alloc (.cells #[.slice a xs.length ca] 31)).alloc (.cells #[.slice b xs.length cb] 31)).cell? ⟨w.heap.size, 0, none⟩ = some (.slice a xs.length ca) := R0.cell (j := 0) rfl
  have c1 : ((w.alloc (.cells #[.slice a xs.length ca] 31)).alloc (.cells #[.slice b xs.length cb] 31)).cell? ⟨w.heap.size + 1, 0, none⟩ = some (.slice b xs.length cb) := R1.cell (j := 0) rfl
  have l0 := R0.lt
  have l1 := R1.lt
  clear R0 R1
  have HX : Hid (∀ W, Below w.heap.size w W → MP.BsAt W a xs ∧ MP.BsAt W b xs) := fun W h => ⟨hax.below h, hay.below h⟩
  clear hax hay
  have hne : ((xs.length : Int) != (xs.length : Int)) = false := by simp
  go_enter Try.func11, Try.ntmps11
  go_wp2
  generalize hW0 : (w.alloc (.cells #[.slice a xs.length ca] 31)).alloc (.cells #[.slice b xs.length cb] 31) = W0 at *
  have HW : Hid _ := hW0
  clear hW0
  go_loopw [5, 16] (fun _ iv wr => ∃ k : Nat, iv = .int .i64 k ∧ k ≤ xs.length ∧ Below W0.heap.size W0 wr) (fun _ iv _ => (xs.length - intOf iv).toNat)
  case atStart => exact ⟨0, rfl, by omega, Below.refl _ _⟩
  case round =>
    obtain ⟨k, rfl, hk, hb⟩ := hrel
    have d0 := (hb.cell (p := ⟨w.heap.size, 0, none⟩) l0).trans c0
    have d1 := (hb.cell (p := ⟨w.heap.size + 1, 0, none⟩) l1).trans c1
    by_cases hl : k < xs.length
    · obtain ⟨h1, h2⟩ := HX.out _ (HB.out.trans (hb.mono HB.out.size))
      obtain ⟨b1, off1, rfl, hlt1, k0, k1, k2, k3, k4, k5, k6, k7, k8, k9⟩ := h1.at hl
      obtain ⟨b2, off2, rfl, hlt2, m0, m1, m2, m3, m4, m5, m6, m7, m8, m9⟩ := h2.at hl
      clear h1 h2 HX
      generalize MP.at_ xs k = bk at *
      obtain ⟨x0, x1, x2, x3, x4, x5, x6, x7, x8, x9⟩ := bk
      dsimp only at k0 k1 k2 k3 k4 k5 k6 k7 k8 k9 m0 m1 m2 m3 m4 m5 m6 m7 m8 m9
      go_wp2
      go_quiet (fail)
      go_wp2
      go_roundw
      case rel => exact ⟨k + 1, by go_num, by omega, below_drewN hb _⟩
      case measure => simp [intOf]; omega
    · obtain rfl : k = xs.length := by omega
      go_wp2
      go_ret
      exact ⟨rfl, HB.out.trans (hb.mono HB.out.size)⟩
end Go.Proofs.Ytdgflhgbcfehhaa
