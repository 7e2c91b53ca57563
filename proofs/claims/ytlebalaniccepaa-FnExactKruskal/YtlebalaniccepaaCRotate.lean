/- Two neighbouring blocks of a row of numbers change places (the stable sort's rotate). -/
import Derived.Test.YtlebalaniccepaaRows
import Derived.Test.YtlebalaniccepaaCSwapRange
namespace Go.Proofs.Ytlebalaniccepaa
open Go.RowKit
open MSym
namespace MSym
/-- wr is w with the row g laid there, and some draws on -/
def Lay (w wr : World) (blk off : Nat) (g : Nat → Nat) (N : Nat) : Prop :=
  ∃ q, wr = (Sort.putRow nv w blk off (ar g N)).drewN q
theorem Lay.self {w : World} {blk off N : Nat} {f : Nat → Nat} (h : Sort.Holds nv w blk off (ar f N)) : Lay w w blk off f N :=
  ⟨0, (Sort.putRow_self nv w blk off _ h).symm⟩
theorem Lay.holds {w wr : World} {blk off N : Nat} {f g : Nat → Nat} (l : Lay w wr blk off g N) (h : Sort.Holds nv w blk off (ar f N)) :
    Sort.Holds nv wr blk off (ar g N) := by
  obtain ⟨q, rfl⟩ := l
  exact Sort.holds_putRow nv w blk off (ar f N) (ar g N) h (by simp [ar_size])
theorem Lay.trans {w w1 w2 : World} {blk off N : Nat} {g h : Nat → Nat} (l : Lay w w1 blk off g N) (k : Lay w1 w2 blk off h N) :
    Lay w w2 blk off h N := by
  obtain ⟨q, rfl⟩ := l
  obtain ⟨r, rfl⟩ := k
  refine ⟨q + r, ?_⟩
  have e := Sort.putRow_putRow nv w blk off (ar g N) (ar h N) (by simp [ar_size])
  rw [← e, ← World.drewN_drewN]
  rfl
end MSym
set_option linter.unusedSimpArgs false in
set_option maxHeartbeats 1600000 in
set_option maxRecDepth 1000000 in
theorem rotate_any (blk off cap N a m b : Nat) (f : Nat → Nat) (fv : Value) (w : World) (hH : Sort.Holds nv w blk off (ar f N)) (ham : a < m) (hmb : m < b) (hb : b ≤ N) (hN : N ≤ 1000) :
    Calls Try.prog 99 #[.slice (some ⟨blk, off, none⟩) N cap, .int .i64 a, .int .i64 m, .int .i64 b, fv] w fun e w' => e = .returned (.tuple #[]) ∧ Lay w w' blk off (rot f a m b) N := by
  have HH : Hid (Sort.Holds nv w blk off (ar f N)) := hH
  have HST : Hid (Lay w w blk off f N) := Lay.self hH
  clear hH
  have w1 : IntKind.i64.wrap ((m : Int) - (a : Int)) = (m : Int) - (a : Int) := by rw [IntKind.wrap_i64]; omega
  have w2 : IntKind.i64.wrap ((b : Int) - (m : Int)) = (b : Int) - (m : Int) := by rw [IntKind.wrap_i64]; omega
  go_enter Try.func99, Try.ntmps99
  go_wp2
  clear w1 w2
  go_loopw [10, 11] (fun iv jv wr => ∃ (i j : Nat) (g : Nat → Nat), iv = .int .i64 i ∧ jv = .int .i64 j ∧ 0 < i ∧ 0 < j ∧ i ≤ m ∧ m + j ≤ b ∧ Hid (Lay w wr blk off g N) ∧ Hid (rot g (m - i) m (m + j) = rot f a m b)) (fun iv jv _ => (intOf iv + intOf jv).toNat)
  case atStart => exact ⟨m - a, b - m, f, by congr 1; omega, by congr 1; omega, by omega, by omega, by omega, by omega, HST, (show Hid _ from by show _ = _; rw [show m - (m - a) = a by omega, show m + (b - m) = b by omega])⟩
  case round =>
    obtain ⟨i, j, g, rfl, rfl, hi0, hj0, him, hjb, HL, HE⟩ := hrel
    clear HST
    have x1 : IntKind.i64.wrap ((m : Int) - (i : Int)) = (m : Int) - (i : Int) := by rw [IntKind.wrap_i64]; omega
    by_cases hij : i = j
    · subst hij
      have C : Hid (Calls Try.prog 100 #[.slice (some ⟨blk, off, none⟩) N cap, .int .i64 ((m : Int) - (i : Int)), .int .i64 m, .int .i64 i, fv] wr fun e w' => e = .returned (.tuple #[]) ∧ ∃ q, w' = (Sort.putRow nv wr blk off (ar (swr g (m - i) m i) N)).drewN q) := by
        show Calls _ _ _ _ _
        have e : (m : Int) - (i : Int) = ((m - i : Nat) : Int) := by omega
        rw [e]
        exact swapRange_any blk off cap N (m - i) m i g fv wr (HL.out.holds HH.out) (by omega) (by omega) hN
      go_wp2_with fail
      refine Calls.mono C.out ?_
      rintro e w3 ⟨rfl, k⟩
      go_wp2
      go_end0
      refine ⟨rfl, ?_⟩
      have := HL.out.trans k
      rw [rot_even him, HE.out] at this
      exact this
    · have hne : ¬ (i : Int) = (j : Int) := by omega
      by_cases hgt : j < i
      · have hgz : (j : Int) < (i : Int) := by omega
        have x2 : IntKind.i64.wrap ((i : Int) - (j : Int)) = (i : Int) - (j : Int) := by rw [IntKind.wrap_i64]; omega
        have C : Hid (Calls Try.prog 100 #[.slice (some ⟨blk, off, none⟩) N cap, .int .i64 ((m : Int) - (i : Int)), .int .i64 m, .int .i64 j, fv] wr fun e w' => e = .returned (.tuple #[]) ∧ ∃ q, w' = (Sort.putRow nv wr blk off (ar (swr g (m - i) m j) N)).drewN q) := by
          show Calls _ _ _ _ _
          have e : (m : Int) - (i : Int) = ((m - i : Nat) : Int) := by omega
          rw [e]
          exact swapRange_any blk off cap N (m - i) m j g fv wr (HL.out.holds HH.out) (by omega) (by omega) hN
        go_wp2_with fail
        refine Calls.mono C.out ?_
        rintro e w3 ⟨rfl, k⟩
        have HL3 : Hid (Lay w w3 blk off (swr g (m - i) m j) N) := HL.out.trans k
        clear k C HL
        go_wp2
        go_roundw
        case rel => exact ⟨i - j, j, _, by congr 1; omega, rfl, by omega, hj0, by omega, hjb, HL3, (show Hid _ from by show _ = _; rw [rot_more him hgt]; exact HE.out)⟩
        case measure => simp [intOf]; omega
      · have hgz : ¬ (j : Int) < (i : Int) := by omega
        have x2 : IntKind.i64.wrap ((j : Int) - (i : Int)) = (j : Int) - (i : Int) := by rw [IntKind.wrap_i64]; omega
        have x3 : IntKind.i64.wrap ((m : Int) + (j : Int)) = (m : Int) + (j : Int) := by rw [IntKind.wrap_i64]; omega
        have x4 : IntKind.i64.wrap ((m : Int) + (j : Int) - (i : Int)) = (m : Int) + (j : Int) - (i : Int) := by rw [IntKind.wrap_i64]; omega
        have C : Hid (Calls Try.prog 100 #[.slice (some ⟨blk, off, none⟩) N cap, .int .i64 ((m : Int) - (i : Int)), .int .i64 ((m : Int) + (j : Int) - (i : Int)), .int .i64 i, fv] wr fun e w' => e = .returned (.tuple #[]) ∧ ∃ q, w' = (Sort.putRow nv wr blk off (ar (swr g (m - i) (m + j - i) i) N)).drewN q) := by
          show Calls _ _ _ _ _
          have e : (m : Int) - (i : Int) = ((m - i : Nat) : Int) := by omega
          have e2 : (m : Int) + (j : Int) - (i : Int) = ((m + j - i : Nat) : Int) := by omega
          rw [e, e2]
          exact swapRange_any blk off cap N (m - i) (m + j - i) i g fv wr (HL.out.holds HH.out) (by omega) (by omega) hN
        go_wp2_with fail
        refine Calls.mono C.out ?_
        rintro e w3 ⟨rfl, k⟩
        have HL3 : Hid (Lay w w3 blk off (swr g (m - i) (m + j - i) i) N) := HL.out.trans k
        clear k C HL
        go_wp2
        go_roundw
        case rel => exact ⟨i, j - i, _, rfl, by congr 1; omega, hi0, by omega, him, by omega, HL3, (show Hid _ from by show _ = _; rw [rot_less him (by omega)]; exact HE.out)⟩
        case measure => simp [intOf]; omega
end Go.Proofs.Ytlebalaniccepaa
