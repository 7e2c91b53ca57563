/- ByDue of the program and of the specification. -/
import Derived.Test.YtgenmljnhlcpcaaRows
import Derived.Test.YtgenmljnhlcpcaaCJob2
import Derived.Test.YtgenmljnhlcpcaaCJobS1
import Derived.Test.YtgenmljnhlcpcaaCJobsI
import Derived.Test.YtgenmljnhlcpcaaCJobsS
namespace Go.Proofs.Ytgenmljnhlcpcaa
open Go.RowKit
namespace JD
def dueL (xs : List I2) : List Int := if okP xs = true then byD xs else []
theorem dueL_yes {xs : List I2} (h : okP xs = true) : dueL xs = byD xs := by simp [dueL, h]
theorem dueL_no {xs : List I2} (h : okP xs = false) : dueL xs = [] := by simp [dueL, h]
theorem dueL_len (xs : List I2) : (dueL xs).length ≤ 1048576 := by
  cases h : okP xs
  · rw [dueL_no h]; simp
  · rw [dueL_yes h, byD_len h]; have := ((okP_iff xs).1 h).1; omega
end JD
set_option linter.unusedSimpArgs false in
set_option maxHeartbeats 1600000 in
set_option maxRecDepth 100000 in
theorem implByDue_any (a : Option Addr) (ca : Nat) (xs : List I2) (w : World) (hn : xs.length ≤ 1048576) (hin : MI2.RowAt w a xs) :
    Calls Try.prog 8 #[.slice a xs.length ca] w fun e w' => ∃ a1 c1, e = .returned (.tuple #[.slice a1 (JD.dueL xs).length c1, .bool (JD.okP xs)]) ∧ w'.ownsRow w.heap.size 3 1 (.slice a1 (JD.dueL xs).length c1) (JD.dueL xs).length (M4.iv (JD.dueL xs)) ∧ Below w.heap.size w w' := by
  have GJ : Hid _ := implGoodJobs_any a ca xs w hn hin _ rfl
  have HB : Hid (JD.okP xs = true → ∀ w1, Below w.heap.size w w1 → _) := fun hg w1 hb => byDue_any a ca xs w1 hg (hin.below hb)
  have HL0 : Hid (JD.okP xs = false → JD.dueL xs = []) := JD.dueL_no
  have HL1 : Hid (JD.okP xs = true → (JD.dueL xs).length = xs.length ∧ JD.dueL xs = JD.byD xs) := fun h => ⟨by rw [JD.dueL_yes h, JD.byD_len h], JD.dueL_yes h⟩
  generalize JD.dueL xs = L at *
  generalize JD.okP xs = q at *
  clear hin
  go_enter Try.func8, Try.ntmps8
  go_wp2_with fail
  refine Calls.mono GJ.out ?_
  rintro e w1 ⟨rfl, hb⟩
  clear GJ
  cases q with
  | false =>
    have h1 := HL0.out rfl
    subst h1
    clear HB HL0 HL1
    go_wp2
    go_ret2
    exact ⟨none, 0, rfl, World.ownsRow_nil _ _ _ _, hb⟩
  | true =>
    obtain ⟨hl1, hl2⟩ := HL1.out rfl
    have HL2 : Hid _ := hl2
    have HL3 : Hid _ := hl1
    have B2 : Hid _ := HB.out rfl w1 hb
    clear HB HL0 HL1 hl1 hl2
    go_wp2_with fail
    refine Calls.mono B2.out ?_
    rintro e w2 ⟨g1, c1, rfl, o2, b2⟩
    have O2 : Hid _ := o2
    clear B2 o2
    go_wp2
    go_ret2
    refine ⟨some ⟨g1, 0, none⟩, c1, by rw [HL3.out]; rfl, ?_, hb.trans (b2.mono hb.size)⟩
    rw [HL3.out, HL2.out]
    exact JD.own_le O2.out hb.size
set_option linter.unusedSimpArgs false in
set_option maxHeartbeats 1600000 in
set_option maxRecDepth 100000 in
theorem specByDue_any (a : Option Addr) (ca : Nat) (xs : List I2) (w : World) (hn : xs.length ≤ 1048576) (hin : MI2.RowAt w a xs) :
    Calls Try.prog 9 #[.slice a xs.length ca] w fun e w' => ∃ a1 c1, e = .returned (.tuple #[.slice a1 (JD.dueL xs).length c1, .bool (JD.okP xs)]) ∧ w'.ownsRow w.heap.size 3 1 (.slice a1 (JD.dueL xs).length c1) (JD.dueL xs).length (M4.iv (JD.dueL xs)) ∧ Below w.heap.size w w' := by
  have GJ : Hid _ := specGoodJobs_any a ca xs w hn hin _ rfl
  have HB : Hid (JD.okP xs = true → ∀ w1, Below w.heap.size w w1 → ∀ b cb, M4.IntsAt w1 b (JD.nums xs.length) → Calls Try.prog 28 #[.slice a xs.length ca, .slice b xs.length cb] w1 fun e w' => ∃ a1 c1, e = .returned (.slice a1 xs.length c1) ∧ w'.ownsRow w1.heap.size 3 1 (.slice a1 xs.length c1) xs.length (M4.iv (JD.byD xs)) ∧ Below w1.heap.size w1 w') := fun hg w1 hb b cb hi => by
    have h := l12By_any a b ca cb xs (JD.nums xs.length) w1 hg (hin.below hb) (by rw [JD.nums_len]; exact ((JD.okP_iff xs).1 hg).1) hi (fun z hz => (JD.nums_mem _ _).1 hz)
    rw [JD.nums_len] at h
    exact h
  have HN : Hid (JD.okP xs = true → xs.length ≤ 1000) := fun h => by have := ((JD.okP_iff xs).1 h).1; omega
  have HL0 : Hid (JD.okP xs = false → JD.dueL xs = []) := JD.dueL_no
  have HL1 : Hid (JD.okP xs = true → (JD.dueL xs).length = xs.length ∧ JD.dueL xs = JD.byD xs) := fun h => ⟨by rw [JD.dueL_yes h, JD.byD_len h], JD.dueL_yes h⟩
  generalize JD.dueL xs = L at *
  generalize JD.okP xs = q at *
  clear hin
  go_enter Try.func9, Try.ntmps9
  go_wp2_with fail
  refine Calls.mono GJ.out ?_
  rintro e w1 ⟨rfl, hb⟩
  clear GJ
  cases q with
  | false =>
    have h1 := HL0.out rfl
    subst h1
    clear HB HL0 HL1 HN
    go_wp2
    go_ret2
    exact ⟨none, 0, rfl, World.ownsRow_nil _ _ _ _, hb⟩
  | true =>
    obtain ⟨hl1, hl2⟩ := HL1.out rfl
    have HL2 : Hid _ := hl2
    have HL3 : Hid _ := hl1
    have AL : Hid _ := l12All_any xs.length w1 (HN.out rfl)
    have HB1 : Hid (∀ w1, _ → ∀ b cb, _) := HB.out rfl
    clear HB HL0 HL1 HN hl1 hl2
    go_wp2_with fail
    refine Calls.mono AL.out ?_
    rintro e w2 ⟨a2, c2, rfl, o2, b2⟩
    have hB2 := hb.trans (b2.mono hb.size)
    have B2 : Hid _ := HB1.out w2 hB2 a2 c2 (M5.own_ints o2)
    clear AL HB1 o2 b2 hb
    go_wp2_with fail
    refine Calls.mono B2.out ?_
    rintro e w3 ⟨a3, c3, rfl, o3, b3⟩
    have O3 : Hid _ := o3
    clear B2 o3
    go_wp2
    go_ret2
    refine ⟨a3, c3, by rw [HL3.out]; rfl, ?_, hB2.trans (b3.mono hB2.size)⟩
    rw [HL3.out, HL2.out]
    exact JD.own_le O3.out hB2.size
end Go.Proofs.Ytgenmljnhlcpcaa
