/- FewestLate of the program. -/
import Derived.Test.YtgenmljnhlcpcaaRows
import Derived.Test.YtgenmljnhlcpcaaCMost2
import Derived.Test.YtgenmljnhlcpcaaCJobsI
import Derived.Test.YtgenmljnhlcpcaaCSort
namespace Go.Proofs.Ytgenmljnhlcpcaa
open Go.RowKit
set_option linter.unusedSimpArgs false in
set_option maxHeartbeats 1600000 in
set_option maxRecDepth 100000 in
theorem implFewestL_any (a : Option Addr) (ca : Nat) (xs : List I2) (w : World) (hn : xs.length ≤ 1048576) (hin : MI2.RowAt w a xs) :
    Calls Try.prog 16 #[.slice a xs.length ca] w fun e w' => ∃ a1 c1, e = .returned (.tuple #[.slice a1 (JD.fewL xs).length c1, .bool (JD.okP xs)]) ∧ w'.ownsRow w.heap.size 3 1 (.slice a1 (JD.fewL xs).length c1) (JD.fewL xs).length (M4.iv (JD.fewL xs)) ∧ Below w.heap.size w w' := by
  have GJ : Hid _ := implGoodJobs_any a ca xs w hn hin _ rfl
  have HM : Hid (JD.okP xs = true → ∀ w1, Below w.heap.size w w1 → _) := fun hg w1 hb => mostInTime_any a ca xs w1 hg (hin.below hb)
  have SO : Hid (JD.okP xs = true → ∀ (w2 : World) (base g1 c1 : Nat), w2.ownsRow base 3 1 (.slice (some ⟨g1, 0, none⟩) (JD.tak xs xs.length).length c1) (JD.tak xs xs.length).length (M4.iv (JD.tak xs xs.length)) → _) := fun hg w2 base g1 c1 ho => sortsI base g1 c1 (JD.tak xs xs.length) w2 ho (by have := JD.tak_len xs (k := xs.length) (by rw [JD.byD_len hg]; exact Nat.le_refl _); omega)
  have HL0 : Hid (JD.okP xs = false → JD.fewL xs = []) := JD.fewL_no
  have HL1 : Hid (JD.okP xs = true → (JD.fewL xs).length = (JD.tak xs xs.length).length ∧ JD.fewL xs = (JD.tak xs xs.length).mergeSort (fun x y => decide (x ≤ y))) := fun h => ⟨by rw [JD.fewL_yes h, List.length_mergeSort], JD.fewL_yes h⟩
  generalize JD.fewL xs = L at *
  generalize JD.tak xs xs.length = t at *
  generalize JD.okP xs = q at *
  clear hin
  go_enter Try.func16, Try.ntmps16
  go_wp2_with fail
  refine Calls.mono GJ.out ?_
  rintro e w1 ⟨rfl, hb⟩
  clear GJ
  cases q with
  | false =>
    have h1 := HL0.out rfl
    subst h1
    clear HM HL0 HL1 SO
    go_wp2
    go_ret2
    exact ⟨none, 0, rfl, World.ownsRow_nil _ _ _ _, hb⟩
  | true =>
    obtain ⟨hl1, hl2⟩ := HL1.out rfl
    have HL2 : Hid _ := hl2
    have HL3 : Hid _ := hl1
    have M2 : Hid _ := HM.out rfl w1 hb
    have SO1 : Hid (∀ (w2 : World) (base g1 c1 : Nat), _) := SO.out rfl
    clear HM HL0 HL1 SO hl1 hl2
    go_wp2_with fail
    refine Calls.mono M2.out ?_
    rintro e w2 ⟨g1, c1, rfl, o2, b2⟩
    have hB2 := hb.trans (b2.mono hb.size)
    have S2 : Hid _ := SO1.out w2 _ g1 c1 o2
    have HG : Hid (w1.heap.size ≤ g1) := (o2.lt g1 rfl).1
    have hbs := hb.size
    clear M2 SO1 o2 b2 hb
    go_wp2_with fail
    refine Calls.mono S2.out ?_
    rintro e w3 ⟨rfl, o3, gr3⟩
    have hB3 : Below w.heap.size w w3 := hB2.grown gr3 hB2.size (fun k hk => by cases hk; exact Nat.le_trans hbs HG.out)
    have O3 : Hid _ := o3
    clear S2 o3 gr3
    go_wp2
    go_ret2
    refine ⟨some ⟨g1, 0, none⟩, c1, by rw [HL3.out]; rfl, ?_, hB3⟩
    rw [HL3.out, HL2.out]
    exact JD.own_le O3.out hbs
end Go.Proofs.Ytgenmljnhlcpcaa
