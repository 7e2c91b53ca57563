/- A row of numbers in a block of the call's own, marked: markIntS. -/
import Derived.Test.YtpdmbobcbehilaaRows
import Derived.Test.YtpdmbobcbehilaaMNR
import Derived.Test.YtpdmbobcbehilaaMRetB
import Derived.Test.YtpdmbobcbehilaaCMarkIntS
import Derived.WalkKit
import Derived.WalkSpells
import Derived.WalkLawsBesides
import Derived.Outline
import Derived.Deep.RegionWith
namespace Go.Proofs.Ytpdmbobcbehilaa
open Go.RowKit
namespace NR
theorem marks_take (k : Int) (i : Nat) (vs : List Value) (h : vs.take i = M4.iv (M5.marks k i)) (hi : i < vs.length) : (vs.set i (.int .i64 (k + i))).take (i + 1) = M4.iv (M5.marks k (i + 1)) := by
  have e : M5.marks k (i + 1) = M5.marks k i ++ [k + (i : Int)] := by simp [M5.marks, List.range_succ]
  rw [e, List.take_succ_eq_append_getElem (by simpa using hi), List.take_set_of_le (Nat.le_refl _), h, List.getElem_set_self]
  simp [M4.iv]
end NR
set_option maxHeartbeats 800000 in
set_option maxRecDepth 100000 in
theorem markIntS_in (B : Nat) (a : Option Addr) (cap : Nat) (l : List Int) (k : Int) (w : World) (hz : l.length ≤ 1048576) (hk0 : 0 ≤ k) (hk : k ≤ 1073741824) (hin : NR.In w B a l) :
    Calls Try.prog 17 #[.slice a l.length cap, .int .i64 k] w fun e w' => e = .returned (.int .i64 (k + l.length)) ∧ NR.In w' B a (M5.marks k l.length) ∧ (l = [] → w = w') ∧ ∀ g, a = some ⟨g, 0, none⟩ → MC.Only g w w' := by
  rcases hin.is with rfl | ⟨g, m, vs, rfl, hw, h1, h2⟩
  · clear hin
    go_enter Try.func17, Try.ntmps17
    go_wp2
    refine wp_loop_rounds 1 ?_
    rw [rounds_succ]
    go_wp2
    go_ret
    exact ⟨by simp, .nil _ _ _, fun _ => rfl, fun g _ => MC.Only.refl _ _⟩
  · clear hin h2
    generalize hln : l.length = n at *
    have HN : Hid (l = [] → n = 0) := fun e => by rw [← hln, e]; rfl
    clear hln
    have HW : Hid _ := hw
    clear hw
    go_enter Try.func17, Try.ntmps17
    go_wp2
    go_loopw [1, 5] (fun kv iv wr => ∃ i : Nat, kv = .int .i64 (k + i) ∧ iv = .int .i64 i ∧ i ≤ n ∧ (∃ vs', wr.ownsRow B 3 1 (.slice (some ⟨g, 0, none⟩) m m) m vs' ∧ vs'.take i = M4.iv (M5.marks k i)) ∧ MC.Only g w wr ∧ (i = 0 → w = wr)) (fun _ iv _ => (n - intOf iv).toNat)
    case atStart => exact ⟨0, by simp, rfl, by omega, ⟨vs, HW.out, by simp [M5.marks, M4.iv]⟩, MC.Only.refl _ _, fun _ => rfl⟩
    case round =>
      clear HW
      obtain ⟨i, rfl, rfl, hi, ⟨vs', hown, hvs⟩, hO, hz0⟩ := hrel
      by_cases hl : i < n
      · have hlen := hown.1
        have hcell : ∃ u, wr.cell? ⟨g, i, none⟩ = some u := by
          rw [hown.cellAt i (by omega)]
          exact ⟨_, List.getElem?_eq_getElem (by omega)⟩
        obtain ⟨u, hcell⟩ := hcell
        have hfz := hown.frozenAt i
        have hst := hown.stored i (.int .i64 (k + i))
        have R1 := hst.1
        have R2 := hO.setCell i (.int .i64 (k + i))
        have R3 := NR.marks_take k i vs' hvs (by omega)
        clear hst hown hO hvs hlen hz0
        go_wp2
        go_roundw
        case rel => exact ⟨i + 1, by go_num, by go_num, by omega, ⟨_, R1, R3⟩, R2, fun e => by omega⟩
        case measure => simp [intOf]; omega
      · obtain rfl : i = n := by omega
        have hI : NR.In wr B (some ⟨g, 0, none⟩) (M5.marks k i) := ⟨.inr ⟨g, m, vs', rfl, hown, by rw [M5.marks_len]; exact h1, by rw [M5.marks_len]; exact hvs⟩⟩
        have HI : Hid _ := hI
        clear hown hvs hI
        go_wp2
        go_ret
        exact ⟨rfl, HI.out, fun e => hz0 (HN.out e), fun g' hg' => by simp only [Option.some.injEq, Addr.mk.injEq, and_true] at hg'; rw [← hg']; exact hO⟩
end Go.Proofs.Ytpdmbobcbehilaa
