import Derived.Test.YtgenmljnhlcpcaaRows
import Derived.Test.YtgenmljnhlcpcaaCHasS
import Derived.Test.YtgenmljnhlcpcaaM5
import Derived.Test.YtgenmljnhlcpcaaMRetB
import Derived.WalkKit
import Derived.WalkSpells
import Derived.WalkLawsBesides
import Derived.Outline
import Derived.Test.YtgenmljnhlcpcaaCJob1
import Derived.Test.YtgenmljnhlcpcaaCRiseI
import Derived.Deep.QuietTactic
import Derived.BigQuiet
import Derived.Test.YtgenmljnhlcpcaaMJR
import Derived.Test.YtgenmljnhlcpcaaCJob2
import Derived.Test.YtgenmljnhlcpcaaCJobS1
import Derived.Test.YtgenmljnhlcpcaaCJobsI
import Derived.Test.YtgenmljnhlcpcaaCJobsS
/- Whether a number is in a row: slices.Index, slices.Contains of the program, l1Has of the specification. -/
namespace Go.Proofs.Ytgenmljnhlcpcaa
open Go.RowKit
set_option maxHeartbeats 1600000 in
set_option maxRecDepth 100000 in
theorem indexI_any (a : Option Addr) (cap : Nat) (zs : List Int) (x : Int) (w : World) (ho : zs.length ≤ 1048576) (hos : M4.IntsAt w a zs) :
    Calls Try.prog 52 #[.slice a zs.length cap, .int .i64 x] w fun e w' => ∃ i : Int, e = .returned (.int .i64 i) ∧ decide (0 ≤ i) = EG.hasB zs x ∧ w = w' := by
  go_enter Try.func52, Try.ntmps52
  go_wp2
  go_loopw [8] (fun iv wr => ∃ k : Nat, iv = .int .i64 k ∧ k ≤ zs.length ∧ Hid (EG.noUp zs x k) ∧ w = wr) (fun iv _ => (zs.length - intOf iv).toNat)
  case atStart => exact ⟨0, rfl, by omega, show Hid _ from fun j hj => by omega, rfl⟩
  case round =>
    obtain ⟨k, rfl, hk, hT, rfl⟩ := hrel
    by_cases hlk : k < zs.length
    · obtain ⟨b1, off1, rfl, hlt1, hc1⟩ := hos.at hlk
      have HY : Hid _ := fun h => EG.hasB_yes (x := x) hlk h
      have HN : Hid _ := fun h => EG.noUp_succ hT.out (k := k) h
      clear hos hT
      generalize zs.getD k 0 = y at *
      by_cases hxy : y = x
      · have hF : Hid _ := HY.out hxy
        subst hxy
        clear HY HN
        go_wp2
        go_ret
        exact ⟨k, rfl, by rw [hF.out]; simp, rfl⟩
      · have hT : Hid _ := HN.out hxy
        clear HY HN
        go_wp2
        go_roundw
        case rel => exact ⟨k + 1, by go_num, by omega, hT, trivial⟩
        case measure => simp [intOf]; omega
    · obtain rfl : k = zs.length := by omega
      have hF : Hid _ := EG.hasB_no hT.out
      clear hos hT
      go_wp2
      go_ret
      exact ⟨-1, rfl, by rw [hF.out]; rfl, rfl⟩
set_option maxHeartbeats 400000 in
set_option maxRecDepth 100000 in
theorem containsI_any (a : Option Addr) (cap : Nat) (zs : List Int) (x : Int) (w : World) (ho : zs.length ≤ 1048576) (hos : M4.IntsAt w a zs) :
    Calls Try.prog 56 #[.slice a zs.length cap, .int .i64 x] w fun e w' => e = .returned (.bool (EG.hasB zs x)) ∧ w = w' := by
  have IX : Hid _ := indexI_any a cap zs x w ho hos
  clear hos
  go_enter Try.func56, Try.ntmps56
  go_wp2_with fail
  refine Calls.mono IX.out ?_
  rintro e w1 ⟨i, rfl, hi, rfl⟩
  clear IX
  go_wp2
  go_ret
  exact ⟨retB7 (by first | rfl | exact hi), rfl⟩
end Go.Proofs.Ytgenmljnhlcpcaa

/- The program's order of jobs by whether they are chosen. -/
namespace Go.Proofs.Ytgenmljnhlcpcaa
open Go.RowKit
set_option maxHeartbeats 800000 in
set_option maxRecDepth 100000 in
theorem rankChoice_any (a : Option Addr) (ca c : Nat) (zs : List Int) (z : Int) (w : World) (hl : zs.length ≤ 1048576) (hc : w.cell? ⟨c, 0, none⟩ = some (.slice a zs.length ca)) (hin : M4.IntsAt w a zs) :
    Calls Try.prog 55 #[.int .i64 z, .pointer (some ⟨c, 0, none⟩)] w fun e w' => e = .returned (.int .i64 (if EG.hasB zs z = true then 0 else 1)) ∧ w = w' := by
  have CT : Hid _ := containsI_any a ca zs z w hl hin
  clear hin
  generalize EG.hasB zs z = q at *
  go_enter Try.func55, Try.ntmps55
  go_wp2_with fail
  refine Calls.mono CT.out ?_
  rintro e w1 ⟨rfl, rfl⟩
  clear CT
  cases q
  · go_wp2
    go_ret
    exact ⟨rfl, rfl⟩
  · go_wp2
    go_ret
    exact ⟨rfl, rfl⟩
set_option maxHeartbeats 800000 in
set_option maxRecDepth 100000 in
theorem orderChoice_any (a : Option Addr) (ca n : Nat) (w : World) : Calls Try.prog 36 #[.slice a n ca] w fun e w' => e = .returned (.agg #[.func (.func 55) #[] #[.pointer (some ⟨w.heap.size, 0, none⟩)]]) ∧ w'.cell? ⟨w.heap.size, 0, none⟩ = some (.slice a n ca) ∧ w.heap.size < w'.heap.size ∧ Below w.heap.size w w' := by
  have SF : ∀ (W : World) (ad : Addr) (F : Nat) (cs : Array Value) (m : Mode), (store ad (.func (.func F) #[] cs) m).run Try.prog W = stored Try.prog W ad (.func (.func F) #[] cs) m := fun W ad F cs m => run_store _ W ad _ m rfl
  have FIN : Hid (∀ o2 : Obj, ((w.alloc (.cells #[.slice a n ca] 24)).alloc o2).cell? ⟨w.heap.size, 0, none⟩ = some (.slice a n ca) ∧ w.heap.size < ((w.alloc (.cells #[.slice a n ca] 24)).alloc o2).heap.size ∧ Below w.heap.size w ((w.alloc (.cells #[.slice a n ca] 24)).alloc o2)) := fun o2 => by
    refine ⟨?_, by simp; omega, ((Below.refl _ w).alloc (Nat.le_refl _) _).alloc (by simp) _⟩
    have h1 : (w.alloc (.cells #[.slice a n ca] 24)).cell? ⟨w.heap.size, 0, none⟩ = some (.slice a n ca) := by rw [World.cell?_alloc_new]; rfl
    exact (((Below.refl _ (w.alloc (.cells #[.slice a n ca] 24))).alloc (Nat.le_refl _) o2).cell (p := ⟨w.heap.size, 0, none⟩) (by simp)).trans h1
  go_enter Try.func36, Try.ntmps36
  go_wp2
  exact bodyPost_ret (v := .agg #[.func (.func 55) #[] #[.pointer (some ⟨w.heap.size, 0, none⟩)]]) (by simp [results, Try.results36, go_sem]) rfl ⟨rfl, FIN.out _⟩
end Go.Proofs.Ytgenmljnhlcpcaa

/- Numbers that rise: l1Some of the specification. -/
namespace Go.Proofs.Ytgenmljnhlcpcaa
open Go.RowKit
set_option maxHeartbeats 1600000 in
set_option maxRecDepth 100000 in
theorem l1Some_any (b : Option Addr) (cb : Nat) (n : Nat) (os : List Int) (w : World) (_hn : n ≤ 1048576) (ho : os.length ≤ 1048576) (hos : M4.IntsAt w b os) (R : Bool) (hR : Hid (EG.rises n os = R)) :
    Calls Try.prog 39 #[.slice b os.length cb, .int .i64 n] w fun e w' => e = .returned (.bool R) ∧ Below w.heap.size w w' := by
  go_enter Try.func39, Try.ntmps39
  go_wp2
  go_loopw [9] (fun iv wr => ∃ k : Nat, iv = .int .i64 k ∧ k ≤ os.length ∧ Hid (EG.riseUp n os k) ∧ Below w.heap.size w wr) (fun iv _ => (os.length - intOf iv).toNat)
  case atStart => exact ⟨0, rfl, by omega, show Hid _ from fun i hi => by omega, Below.refl _ _⟩
  case round =>
    obtain ⟨k, rfl, hk, hT, hb⟩ := hrel
    replace hos := hos.below hb
    by_cases hlk : k < os.length
    · have HN : Hid _ := fun h => EG.rises_no (n := n) hlk h
      have HY : Hid _ := fun h => EG.riseUp_succ hT.out (k := k) h
      cases k with
      | zero =>
        obtain ⟨b1, off1, rfl, hlt1, hc1⟩ := hos.at hlk
        clear hos hT
        rw [Nat.add_zero] at hc1
        generalize os.getD 0 0 = o at *
        rw [show ((0 : Nat) : Int) = 0 from rfl]
        by_cases h0 : 0 ≤ o
        · obtain ⟨j, rfl⟩ := Int.eq_ofNat_of_zero_le h0
          have h1 : decide ((j : Int) < 0) = false := by simp
          by_cases h3 : j < n
          · have hT : Hid _ := HY.out ⟨h0, by omega, fun h => by omega⟩
            have h2 : decide (n ≤ j) = false := by simp; omega
            clear HN HY hR h0
            go_wp2
            go_roundw
            case rel => exact ⟨1, by go_num, by omega, hT, hb⟩
            case measure => simp [intOf]; omega
          · have hF : Hid (R = false) := by show R = false; rw [← hR.out]; exact HN.out (by omega)
            have h2 : decide (n ≤ j) = true := by simp; omega
            clear HN HY hR h0
            go_wp2
            go_ret
            exact ⟨retB7 hF.out.symm, hb⟩
        · have hF : Hid (R = false) := by show R = false; rw [← hR.out]; exact HN.out (by omega)
          have h1 : decide (o < 0) = true := by simp; omega
          clear HN HY hR h0
          go_wp2
          go_ret
          exact ⟨retB7 hF.out.symm, hb⟩
      | succ k =>
        obtain ⟨b1, off1, rfl, hlt1, hc0, hc1⟩ := EG.ints_at2 hos hlk
        clear hos hT
        rw [Nat.add_sub_cancel] at HN HY
        generalize os.getD k 0 = p at *
        generalize os.getD (k + 1) 0 = o at *
        rw [show ((k + 1 : Nat) : Int) = (k : Int) + 1 from rfl]
        by_cases h0 : 0 ≤ o
        · obtain ⟨j, rfl⟩ := Int.eq_ofNat_of_zero_le h0
          have h1 : decide ((j : Int) < 0) = false := by simp
          by_cases h3 : j < n
          · have h2 : decide (n ≤ j) = false := by simp; omega
            by_cases hpo : (j : Int) ≤ p
            · have hF : Hid (R = false) := by show R = false; rw [← hR.out]; exact HN.out (fun h => by have := h.2.2 (by omega); omega)
              have h4 : decide ((j : Int) ≤ p) = true := by simp [hpo]
              clear HN HY hR h0 hpo
              go_wp2
              go_ret
              exact ⟨retB7 hF.out.symm, hb⟩
            · have hT : Hid _ := HY.out ⟨h0, by omega, fun h => by omega⟩
              have h4 : decide ((j : Int) ≤ p) = false := by simp; omega
              clear HN HY hR h0 hpo
              go_wp2
              go_roundw
              case rel => exact ⟨k + 2, by go_num, by omega, hT, hb⟩
              case measure => simp [intOf]; omega
          · have hF : Hid (R = false) := by show R = false; rw [← hR.out]; exact HN.out (by omega)
            have h2 : decide (n ≤ j) = true := by simp; omega
            clear HN HY hR h0
            go_wp2
            go_ret
            exact ⟨retB7 hF.out.symm, hb⟩
        · have hF : Hid (R = false) := by show R = false; rw [← hR.out]; exact HN.out (by omega)
          have h1 : decide (o < 0) = true := by simp; omega
          clear HN HY hR h0
          go_wp2
          go_ret
          exact ⟨retB7 hF.out.symm, hb⟩
    · obtain rfl : k = os.length := by omega
      have hF : Hid (R = true) := by show R = true; rw [← hR.out]; exact EG.rises_yes hT.out
      clear hos hT hR
      go_wp2
      go_ret
      exact ⟨retB7 hF.out.symm, hb⟩
end Go.Proofs.Ytgenmljnhlcpcaa

/- OrderFor of the program and of the specification. -/
namespace Go.Proofs.Ytgenmljnhlcpcaa
open Go.RowKit
set_option linter.unusedSimpArgs false in
set_option maxHeartbeats 1600000 in
set_option maxRecDepth 100000 in
theorem implOrderFor_any (a b : Option Addr) (ca cb : Nat) (xs : List I2) (os : List Int) (w : World) (hn : xs.length ≤ 1048576) (hm : os.length ≤ 1048576) (hin : MI2.RowAt w a xs) (hos : M4.IntsAt w b os) :
    Calls Try.prog 18 #[.slice a xs.length ca, .slice b os.length cb] w fun e w' => ∃ a1 c1, e = .returned (.tuple #[.slice a1 (JD.ordL xs os).length c1, .bool (JD.ordOk xs os)]) ∧ w'.ownsRow w.heap.size 3 1 (.slice a1 (JD.ordL xs os).length c1) (JD.ordL xs os).length (M4.iv (JD.ordL xs os)) ∧ Below w.heap.size w w' := by
  have GJ : Hid _ := implGoodJobs_any a ca xs w hn hin _ rfl
  have AR : Hid (∀ w1, Below w.heap.size w w1 → Calls Try.prog 33 #[.slice b os.length cb, .int .i64 ((xs.length : Int) - 1)] w1 fun e w' => e = .returned (.bool (EG.rises xs.length os)) ∧ w1 = w') := fun w1 hb => areRising_any b cb xs.length os w1 hn hm (hos.below hb) _ rfl
  have BD : Hid (JD.okP xs = true → ∀ w1, Below w.heap.size w w1 → _) := fun hg w1 hb => byDue_any a ca xs w1 hg (hin.below hb)
  have OF : Hid (JD.ordOk xs os = true → ∀ (w1 w2 w3 : World) (g c : Nat), w2.cell? ⟨w1.heap.size, 0, none⟩ = some (.slice b os.length cb) → w1.heap.size < w2.heap.size → Below w.heap.size w w1 → Below w1.heap.size w1 w2 → w3.ownsRow w2.heap.size 3 1 (.slice (some ⟨g, 0, none⟩) xs.length c) xs.length (M4.iv (JD.byD xs)) → Below w2.heap.size w2 w3 →
      Calls Try.prog 37 #[.agg #[.func (.func 55) #[] #[.pointer (some ⟨w1.heap.size, 0, none⟩)]], .slice (some ⟨g, 0, none⟩) xs.length c] w3 fun e w' => ∃ g1 c1, e = .returned (.slice (some ⟨g1, 0, none⟩) xs.length c1) ∧ w'.ownsRow w.heap.size 3 1 (.slice (some ⟨g1, 0, none⟩) xs.length c1) xs.length (M4.iv (JD.ordL xs os)) ∧ Below w.heap.size w w') := fun hok w1 w2 w3 g c hc h1 hb1 hb2 ho hb3 => by
    have hg := (JD.ordOk_is hok).1
    have hbl := JD.byD_len hg
    have hb02 : Below w.heap.size w w2 := hb1.trans (hb2.mono hb1.size)
    have hb03 : Below w.heap.size w w3 := hb02.trans (hb3.mono hb02.size)
    have h := of_any 55 g c #[.pointer (some ⟨w1.heap.size, 0, none⟩)] (JD.byD xs) (JD.chN os) 2 w3 (by rw [hbl]; exact ((JD.okP_iff xs).1 hg).1) (M4.IntsAt.of_own ho) (enters_of Try.func55 (by rfl) rfl) (fun W hW z hz => by
      have hbW : Below w.heap.size w W := hb03.trans (hW.mono hb03.size)
      have hcW : W.cell? ⟨w1.heap.size, 0, none⟩ = some (.slice b os.length cb) := by
        have hs3 := hb3.size
        rw [hW.cell (p := ⟨w1.heap.size, 0, none⟩) (by show w1.heap.size < w3.heap.size; omega), hb3.cell (p := ⟨w1.heap.size, 0, none⟩) h1]; exact hc
      refine (rankChoice_any b cb w1.heap.size os z W hm hcW (hos.below hbW)).mono ?_
      rintro e w' ⟨rfl, rfl⟩
      refine ⟨?_, rfl⟩
      unfold JD.chN; split <;> rfl) (fun z _ => JD.ch_lt os z)
    rw [hbl, ← JD.ordL_yes hok] at h
    refine h.mono ?_
    rintro e w4 ⟨g1, c1, rfl, o4, b4⟩
    exact ⟨g1, c1, rfl, JD.own_le o4 hb03.size, hb03.trans (b4.mono hb03.size)⟩
  have HQ : Hid (JD.ordOk xs os = (JD.okP xs && EG.rises xs.length os)) := rfl
  have HL0 : Hid (JD.ordOk xs os = false → JD.ordL xs os = []) := JD.ordL_no
  have HL1 : Hid (JD.ordOk xs os = true → (JD.ordL xs os).length = xs.length) := JD.ordL_len1
  generalize JD.ordL xs os = L at *
  generalize JD.ordOk xs os = R at *
  generalize JD.okP xs = q at *
  generalize EG.rises xs.length os = r at *
  clear hin hos
  go_enter Try.func18, Try.ntmps18
  go_wp2_with fail
  refine Calls.mono GJ.out ?_
  rintro e w1 ⟨rfl, hb⟩
  have A1 : Hid _ := AR.out w1 hb
  clear GJ AR
  cases q with
  | false =>
    have hR : R = false := by rw [HQ.out]; rfl
    subst hR
    have h1 := HL0.out rfl
    subst h1
    clear BD HL0 HL1 OF HQ A1
    go_wp2
    go_ret2
    exact ⟨none, 0, rfl, World.ownsRow_nil _ _ _ _, hb⟩
  | true =>
    cases r with
    | false =>
      have hR : R = false := by rw [HQ.out]; rfl
      subst hR
      have h1 := HL0.out rfl
      subst h1
      clear BD HL0 HL1 OF HQ
      go_wp2_with (go_at_call 33; refine Calls.mono A1.out ?_; rintro e w2 ⟨rfl, rfl⟩)
      go_ret2
      exact ⟨none, 0, rfl, World.ownsRow_nil _ _ _ _, hb⟩
    | true =>
      have hR : R = true := by rw [HQ.out]; rfl
      subst hR
      have HL3 : Hid _ := HL1.out rfl
      have OF1 : Hid (∀ w1 w2 w3 : World, ∀ g c : Nat, _) := OF.out rfl
      have BD1 : Hid (∀ w1, _ → _) := BD.out rfl
      clear HL0 HL1 OF BD HQ
      go_wp2_with fail
      refine Calls.mono A1.out ?_
      rintro e w2 ⟨rfl, rfl⟩
      clear A1
      go_wp2_with fail
      refine (orderChoice_any b cb os.length _).mono ?_
      rintro e w2 ⟨rfl, hc2, hl2, hb2⟩
      have hB2 := hb.trans (hb2.mono hb.size)
      have B2 : Hid _ := BD1.out w2 hB2
      clear BD1
      go_wp2_with fail
      refine Calls.mono B2.out ?_
      rintro e w3 ⟨g1, c1, rfl, o3, b3⟩
      have O3 : Hid _ := OF1.out w1 w2 w3 g1 c1 hc2 hl2 hb hb2 o3 b3
      clear B2 OF1 o3 b3 hc2 hl2 hb2 hB2 hb
      go_wp2_with fail
      refine Calls.mono O3.out ?_
      rintro e w4 ⟨g2, c2, rfl, o4, b4⟩
      have O4 : Hid _ := o4
      clear O3 o4
      go_wp2
      go_ret2
      refine ⟨some ⟨g2, 0, none⟩, c2, by rw [HL3.out]; rfl, ?_, b4⟩
      rw [HL3.out]
      exact O4.out
set_option linter.unusedSimpArgs false in
set_option maxHeartbeats 3200000 in
set_option maxRecDepth 100000 in
theorem specOrderFor_any (a b : Option Addr) (ca cb : Nat) (xs : List I2) (os : List Int) (w : World) (hn : xs.length ≤ 1048576) (hm : os.length ≤ 1048576) (hin : MI2.RowAt w a xs) (hos : M4.IntsAt w b os) :
    Calls Try.prog 20 #[.slice a xs.length ca, .slice b os.length cb] w fun e w' => ∃ a1 c1, e = .returned (.tuple #[.slice a1 (JD.ordL xs os).length c1, .bool (JD.ordOk xs os)]) ∧ w'.ownsRow w.heap.size 3 1 (.slice a1 (JD.ordL xs os).length c1) (JD.ordL xs os).length (M4.iv (JD.ordL xs os)) ∧ Below w.heap.size w w' := by
  obtain ⟨i0, hi, hz0, hz1, hz2⟩ := info_parts Try.info3
  have GJ : Hid _ := specGoodJobs_any a ca xs w hn hin _ rfl
  have AR : Hid (∀ w1, Below w.heap.size w w1 → Calls Try.prog 39 #[.slice b os.length cb, .int .i64 (xs.length : Int)] w1 fun e w' => e = .returned (.bool (EG.rises xs.length os)) ∧ Below w1.heap.size w1 w') := fun w1 hb => l1Some_any b cb xs.length os w1 hn hm (hos.below hb) _ rfl
  have LH : Hid (∀ w1, Below w.heap.size w w1 → ∀ z, Calls Try.prog 40 #[.slice b os.length cb, .int .i64 z] w1 fun e w' => e = .returned (.bool (EG.hasB os z)) ∧ w1 = w') := fun w1 hb z => l1Has_any b cb os z w1 hm (hos.below hb)
  have BY : Hid (JD.ordOk xs os = true → ∀ w1, Below w.heap.size w w1 → ∀ (zs : List Int) (c : Option Addr) (cc : Nat), M4.IntsAt w1 c zs → zs.length ≤ 10 → (∀ z, z ∈ zs → 0 ≤ z ∧ z < xs.length) → _) := fun hok w1 hb zs c cc hz hl hr => l12By_any a c ca cc xs zs w1 (JD.ordOk_is hok).1 (hin.below hb) hl hz hr
  have HOS : Hid (M4.IntsAt w b os) := hos
  have HQ : Hid (JD.ordOk xs os = (JD.okP xs && EG.rises xs.length os)) := rfl
  have HL0 : Hid (JD.ordOk xs os = false → JD.ordL xs os = []) := JD.ordL_no
  have HL1 : Hid (JD.ordOk xs os = true → (JD.ordL xs os).length = xs.length ∧ JD.ordL xs os = JD.srt (JD.dueN xs) os 1001 ++ JD.srt (JD.dueN xs) (JD.rest xs.length os) 1001 ∧ os.length ≤ 10 ∧ (∀ z, z ∈ os → 0 ≤ z ∧ z < xs.length) ∧ os.length + (JD.rest xs.length os).length = xs.length ∧ xs.length ≤ 10) := fun h => ⟨JD.ordL_len1 h, by rw [JD.ordL_yes h]; exact JD.order_is (JD.ordOk_is h).2, JD.rise_small h, JD.rise_rng h, JD.rise_count h, ((JD.okP_iff xs).1 (JD.ordOk_is h).1).1⟩
  generalize JD.ordL xs os = L at *
  generalize JD.ordOk xs os = R at *
  generalize JD.okP xs = q at *
  generalize EG.rises xs.length os = r at *
  clear hin hos
  go_enter Try.func20, Try.ntmps20
  go_wp2_with fail
  refine Calls.mono GJ.out ?_
  rintro e w1 ⟨rfl, hb⟩
  have A1 : Hid _ := AR.out w1 hb
  clear GJ AR
  cases q with
  | false =>
    have hR : R = false := by rw [HQ.out]; rfl
    subst hR
    have h1 := HL0.out rfl
    subst h1
    clear BY HL0 HL1 LH HQ A1
    go_wp2
    go_ret2
    exact ⟨none, 0, rfl, World.ownsRow_nil _ _ _ _, hb⟩
  | true =>
    cases r with
    | false =>
      have hR : R = false := by rw [HQ.out]; rfl
      subst hR
      have h1 := HL0.out rfl
      subst h1
      clear BY HL0 HL1 LH HQ
      go_wp2_with (go_at_call 39; refine Calls.mono A1.out ?_; rintro e w2 ⟨rfl, hb2⟩)
      go_ret2
      exact ⟨none, 0, rfl, World.ownsRow_nil _ _ _ _, hb.trans (hb2.mono hb.size)⟩
    | true =>
      have hR : R = true := by rw [HQ.out]; rfl
      subst hR
      obtain ⟨l1, l2, l3, l4, l5, l6⟩ := HL1.out rfl
      have HL3 : Hid _ := l1
      have HL4 : Hid _ := l2
      have HR4 : Hid (∀ z, z ∈ os → 0 ≤ z ∧ z < xs.length) := l4
      have HC5 : Hid _ := l5
      have BY1 : Hid (∀ w1, _ → ∀ (zs : List Int) (c : Option Addr) (cc : Nat), _) := BY.out rfl
      clear HL0 HL1 BY HQ l1 l2 l4 l5
      go_wp2_with fail
      refine Calls.mono A1.out ?_
      rintro e w2 ⟨rfl, hb2⟩
      replace hb := hb.trans (hb2.mono hb.size)
      clear A1 hb2
      go_wp2
      go_loopw [6, 7, 20] (fun v _ iv wr => ∃ (k : Nat) (ra : Option Addr) (rc : Nat), iv = .int .i64 k ∧ k ≤ xs.length ∧ v = .slice ra (JD.rest k os).length rc ∧ Hid (World.ownsRow wr w.heap.size 3 1 (.slice ra (JD.rest k os).length rc) (JD.rest k os).length (M4.iv (JD.rest k os))) ∧ Below w.heap.size w wr) (fun _ _ iv _ => (xs.length - intOf iv).toNat)
      case atStart => exact ⟨0, none, 0, rfl, by omega, rfl, (show Hid _ from World.ownsRow_nil _ _ _ _), hb⟩
      case round =>
        clear hb
        obtain ⟨k, ra, rc, rfl, hk, rfl, HO, hb⟩ := hrel
        have hbs := hb.size
        by_cases hlk : k < xs.length
        · have H1 : Hid _ := LH.out wr hb (k : Int)
          have HRS : Hid _ := JD.rest_succ k os
          have HRL : Hid _ := JD.rest_len k os
          have kn : (k : Int) < (xs.length : Int) := by omega
          generalize EG.hasB os (k : Int) = m at *
          cases m with
          | true =>
            have HRE : Hid (JD.rest (k + 1) os = JD.rest k os) := by show _ = _; rw [HRS.out]; simp
            have HO2 : Hid (World.ownsRow wr w.heap.size 3 1 (.slice ra (JD.rest (k + 1) os).length rc) (JD.rest (k + 1) os).length (M4.iv (JD.rest (k + 1) os))) := by show World.ownsRow _ _ _ _ _ _ _; rw [HRE.out]; exact HO.out
            have HLE : Hid ((JD.rest (k + 1) os).length = (JD.rest k os).length) := by show _ = _; rw [HRE.out]
            clear HRS HO HRE
            generalize (JD.rest k os).length = n0 at *
            go_wp2_with (go_at_call 40; refine Calls.mono H1.out ?_; rintro e w3 ⟨rfl, rfl⟩)
            go_roundw
            case rel => exact ⟨k + 1, ra, rc, by go_num, by omega, by rw [HLE.out], HO2, hb⟩
            case measure => simp [intOf]; omega
          | false =>
            have HRE : Hid (JD.rest (k + 1) os = JD.rest k os ++ [(k : Int)]) := by show _ = _; rw [HRS.out]; simp
            clear HRS
            have hr10 : (JD.rest k os).length ≤ 10 := by have := HRL.out; omega
            generalize JD.rest k os = rs at *
            clear HRL
            go_wp2_with fail
            refine Calls.mono H1.out ?_
            rintro e w3 ⟨rfl, rfl⟩
            clear H1
            go_wp2_with (at_builtin; go_loud (refine wpList_append_own _ rfl _ _ 24 rfl w.heap.size 3 i0 (.int .i64 0) 1 8 Try.underlying24 hi hz0 hz1 hz2 rfl (by decide) _ _ _ rfl (World.ownsRow.alloc HO.out _) ⟨wr.heap.size, 0, none⟩ 1 1 [.int .i64 (k : Int)] rfl rfl ?c1 ?c2 ?c3 ?c4 ?c5 ?_))
            all_goals try (first | rfl | omega | exact M2.new1 _ _ _ | exact M2.one1 _ _ | (unfold maxLen; omega) | (simp; omega))
            intro v' wn hown1 hgrow _
            have R := M5.growI HO.out hb hbs (by exact hown1) hgrow
            rw [← HRE.out] at R
            obtain ⟨a', c', rfl⟩ : ∃ a' c', v' = .slice a' (JD.rest (k + 1) os).length c' := JD.own_slice R.1
            have HR1 : Hid _ := R.1
            have R3 := R.2
            clear hown1 hgrow HO R
            generalize hnl : (JD.rest (k + 1) os).length = n1 at *
            have HNL : Hid _ := hnl
            clear hnl
            go_wp2
            go_roundw
            case rel => exact ⟨k + 1, a', c', by go_num, by omega, by rw [HNL.out], (by rw [HNL.out]; exact HR1), R3⟩
            case measure => simp [intOf]; omega
        · obtain rfl : k = xs.length := by omega
          have hrl : (JD.rest xs.length os).length ≤ 10 := by have := HC5.out; omega
          have hrr : ∀ z, z ∈ JD.rest xs.length os → 0 ≤ z ∧ z < xs.length := fun z hz => JD.rest_mem hz
          have B1 : Hid _ := BY1.out wr hb os b cb (M4.IntsAt.below HOS.out hb) l3 HR4.out
          have B2 : Hid (∀ w3, Below wr.heap.size wr w3 → _) := fun w3 h3 => BY1.out w3 (hb.trans (h3.mono hbs)) (JD.rest xs.length os) ra rc (M4.IntsAt.below (M5.own_ints HO.out) h3) hrl hrr
          clear BY1 HOS LH HO hrr
          generalize JD.rest xs.length os = rs at *
          generalize JD.srt (JD.dueN xs) os 1001 = s1 at *
          generalize JD.srt (JD.dueN xs) rs 1001 = s2 at *
          go_wp2_with fail
          refine Calls.mono B1.out ?_
          rintro e w3 ⟨a3, c3, rfl, o3, b3⟩
          have B3 : Hid _ := B2.out w3 b3
          have O3 : Hid _ := o3
          clear B1 B2 o3
          go_wp2_with fail
          refine Calls.mono B3.out ?_
          rintro e w4 ⟨a4, c4, rfl, o4, b4⟩
          have hB3 := hb.trans (b3.mono hbs)
          have hB4 := hB3.trans (b4.mono hB3.size)
          have O3b : Hid (World.ownsRow w4 w.heap.size 3 1 (.slice a3 os.length c3) os.length (M4.iv s1)) := JD.own_le (M5.own_below O3.out b4) hbs
          have hbs4 := hB4.size
          clear B3 O3 b3 b4 hB3
          by_cases ha4 : a4 = none
          · subst ha4
            obtain ⟨hr0, hc0⟩ := JD.own_zero o4
            subst hc0
            have HE : Hid (s2 = []) := by
              have := o4.1
              rw [hr0] at this
              show _ = _
              simpa [M4.iv] using this
            have HLN : Hid (os.length = xs.length) := by have := HC5.out; show _ = _; omega
            rw [hr0]
            have HC6 : Hid True := trivial
            clear HC5 o4
            go_wp2_with (at_builtin; refine wpList_append_own_none rfl _ _ 24 rfl w.heap.size 3 i0 1 Try.underlying24 hi _ _ _ rfl O3b.out rfl ?_)
            go_ret2
            refine ⟨a3, c3, by rw [HL3.out, HLN.out]; rfl, ?_, hB4⟩
            rw [HL3.out, HL4.out, HE.out, List.append_nil, ← HLN.out]
            exact O3b.out
          · obtain ⟨g4, rfl⟩ := JD.own_some2 o4 ha4
            have N4 : Hid (∀ j u, (M4.iv s2)[j]? = some u → w4.cell? ((⟨g4, 0, none⟩ : Addr).add j) = some u) := JD.own_cells o4
            have L4 : Hid ((M4.iv s2).length = rs.length * 1) := o4.1
            have HLN : Hid (os.length + rs.length = xs.length) := HC5.out
            clear HC5 o4 ha4
            generalize rs.length = rl at *
            go_wp2_with (at_builtin; refine wpList_append_own _ rfl _ _ 24 rfl w.heap.size 3 i0 (.int .i64 0) 1 8 Try.underlying24 hi hz0 hz1 hz2 rfl (by decide) _ _ _ rfl O3b.out ⟨g4, 0, none⟩ rl c4 (M4.iv s2) rfl L4.out N4.out (EG.iv_one _) ?d3 ?d4 ?d5 ?_)
            case d3 => unfold maxLen; omega
            case d4 => omega
            case d5 => omega
            intro v5 w5 hown5 hgrow5 _
            have hB5 : Below w.heap.size w w5 := hB4.grown hgrow5 hbs4 (fun j hj => (O3b.out.lt j hj).1)
            have R5 : w5.ownsRow w.heap.size 3 1 v5 xs.length (M4.iv L) := by
              rw [HL4.out]
              rw [HLN.out] at hown5
              rw [M4.iv, List.map_append]
              exact hown5
            obtain ⟨a5, c5, rfl⟩ := JD.own_slice R5
            have HR5 : Hid _ := R5
            clear hown5 hgrow5 R5 N4 L4 O3b
            go_wp2
            go_ret2
            refine ⟨a5, c5, by rw [HL3.out]; rfl, ?_, hB5⟩
            rw [HL3.out]
            exact HR5.out
end Go.Proofs.Ytgenmljnhlcpcaa
