/- Members, and lists of them joined: areMembers, JoinMembers of the program. -/
import Derived.Test.YtggoaoieephbkaaRows
import Derived.Test.YtggoaoieephbkaaMGp
import Derived.Test.YtggoaoieephbkaaCRiseI
import Derived.Test.YtggoaoieephbkaaCHasJ
import Derived.Test.YtggoaoieephbkaaCThoseJ
import Derived.WalkKit
import Derived.WalkSpells
import Derived.WalkLawsBesides
import Derived.Outline
import Derived.Deep.QuietTactic
import Derived.BigQuiet
namespace Go.Proofs.Ytggoaoieephbkaa
open Go.RowKit
set_option maxHeartbeats 1600000 in
set_option maxRecDepth 100000 in
theorem areMembers_any (b : Option Addr) (cb : Nat) (os : List Int) (w : World) (ho : os.length ≤ 1048576) (hos : M4.IntsAt w b os) (R : Bool) (hR : Hid (EG.rises 8 os = R)) :
    Calls Try.prog 12 #[.slice b os.length cb] w fun e w' => e = .returned (.bool R) ∧ w = w' := by
  have SP : Hid (Calls Try.prog 16 #[.slice b os.length cb, .int .i64 7] w fun e w' => e = .returned (.bool R) ∧ w = w') := areRising_any b cb 8 os w (by omega) ho hos R hR
  have HL : Hid (8 < os.length → R = false) := fun h => by rw [← hR.out]; exact GP.rises_long h
  clear hos hR
  generalize os.length = n at *
  go_enter Try.func12, Try.ntmps12
  by_cases h8 : n ≤ 8
  · have h1 : decide (n ≤ 8) = true := by simp [h8]
    go_wp2_with fail
    refine Calls.mono SP.out ?_
    rintro e w2 ⟨rfl, rfl⟩
    clear SP HL
    go_wp2
    go_ret
    exact ⟨rfl, rfl⟩
  · have h1 : decide (n ≤ 8) = false := by simp; omega
    have hF := HL.out (by omega)
    subst hF
    clear SP HL
    go_wp2
    go_ret
    exact ⟨rfl, rfl⟩
set_option maxHeartbeats 1600000 in
set_option maxRecDepth 100000 in
theorem inEither_any (a b : Option Addr) (ca cb g1 g2 i : Nat) (xs zs : List Int) (w : World) (hz : xs.length ≤ 1048576) (hz2 : zs.length ≤ 1048576) (h1 : w.cell? ⟨g1, 0, none⟩ = some (.slice a xs.length ca)) (h2 : w.cell? ⟨g2, 0, none⟩ = some (.slice b zs.length cb)) (hin : M4.IntsAt w a xs) (hin2 : M4.IntsAt w b zs) :
    Calls Try.prog 14 #[.int .i64 (i : Int), .pointer (some ⟨g1, 0, none⟩), .pointer (some ⟨g2, 0, none⟩)] w fun e w' => e = .returned (.bool (EG.hasB xs i || EG.hasB zs i)) ∧ w = w' := by
  have C1 : Hid _ := containsI_any a ca xs i w hz hin
  have C2 : Hid _ := containsI_any b cb zs i w hz2 hin2
  clear hin hin2
  generalize EG.hasB xs i = q1 at *
  generalize EG.hasB zs i = q2 at *
  generalize xs.length = n1 at *
  generalize zs.length = n2 at *
  go_enter Try.func14, Try.ntmps14
  go_wp2_with fail
  refine Calls.mono C1.out ?_
  rintro e w2 ⟨rfl, rfl⟩
  clear C1
  cases q1 with
  | true =>
    clear C2
    go_wp2
    go_ret
    exact ⟨rfl, rfl⟩
  | false =>
    go_wp2_with fail
    refine Calls.mono C2.out ?_
    rintro e w2 ⟨rfl, rfl⟩
    clear C2
    go_wp2
    go_ret
    exact ⟨rfl, rfl⟩
set_option maxHeartbeats 1600000 in
set_option maxRecDepth 100000 in
theorem implJoin_any (a b : Option Addr) (ca cb : Nat) (xs zs : List Int) (w : World) (hz : xs.length ≤ 1048576) (hz2 : zs.length ≤ 1048576) (hin : M4.IntsAt w a xs) (hin2 : M4.IntsAt w b zs) :
    Calls Try.prog 6 #[.slice a xs.length ca, .slice b zs.length cb] w fun e w' => ∃ a1 c1, e = .returned (.tuple #[.slice a1 (GP.joinL xs zs).length c1, .bool (GP.joinOk xs zs)]) ∧ w'.ownsRow w.heap.size 3 1 (.slice a1 (GP.joinL xs zs).length c1) (GP.joinL xs zs).length (M4.iv (GP.joinL xs zs)) ∧ Below w.heap.size w w' := by
  have H1 : Hid _ := hin
  have H2 : Hid _ := hin2
  have AM : Hid (∀ W, Below w.heap.size w W → Calls Try.prog 12 #[.slice a xs.length ca] W fun e w' => e = .returned (.bool (EG.rises 8 xs)) ∧ W = w') := fun W h => areMembers_any a ca xs W hz (M4.IntsAt.below H1.out h) _ rfl
  have BM : Hid (∀ W, Below w.heap.size w W → Calls Try.prog 12 #[.slice b zs.length cb] W fun e w' => e = .returned (.bool (EG.rises 8 zs)) ∧ W = w') := fun W h => areMembers_any b cb zs W hz2 (M4.IntsAt.below H2.out h) _ rfl
  have HJ : Hid (GP.joinOk xs zs = (EG.rises 8 xs && EG.rises 8 zs)) := show GP.joinOk xs zs = _ from rfl
  have TH : Hid _ := fun (W : World) (hF : _) => thoseOfJ_any (.pointer (some ⟨w.heap.size, 0, none⟩)) (.pointer (some ⟨w.heap.size + 1, 0, none⟩)) 8 (fun i => EG.hasB xs i || EG.hasB zs i) W (by omega) hF _ rfl
  have FIN : Hid (((w.alloc (.cells #[.slice a xs.length ca] 22)).alloc (.cells #[.slice b zs.length cb] 22)).cell? ⟨w.heap.size, 0, none⟩ = some (.slice a xs.length ca) ∧ ((w.alloc (.cells #[.slice a xs.length ca] 22)).alloc (.cells #[.slice b zs.length cb] 22)).cell? ⟨w.heap.size + 1, 0, none⟩ = some (.slice b zs.length cb) ∧ Below w.heap.size w ((w.alloc (.cells #[.slice a xs.length ca] 22)).alloc (.cells #[.slice b zs.length cb] 22))) := by
    refine ⟨?_, ?_, ((Below.refl _ w).alloc (Nat.le_refl _) _).alloc (by simp) _⟩
    · have h1 : (w.alloc (.cells #[.slice a xs.length ca] 22)).cell? ⟨w.heap.size, 0, none⟩ = some (.slice a xs.length ca) := by rw [World.cell?_alloc_new]; rfl
      exact (((Below.refl _ (w.alloc (.cells #[.slice a xs.length ca] 22))).alloc (Nat.le_refl _) (.cells #[.slice b zs.length cb] 22)).cell (p := ⟨w.heap.size, 0, none⟩) (by simp)).trans h1
    · have hs : (w.alloc (.cells #[.slice a xs.length ca] 22)).heap.size = w.heap.size + 1 := by simp
      rw [← hs, World.cell?_alloc_new]; rfl
  have IN : Hid (∀ (i : Nat) (W : World), Below ((w.alloc (.cells #[.slice a xs.length ca] 22)).alloc (.cells #[.slice b zs.length cb] 22)).heap.size ((w.alloc (.cells #[.slice a xs.length ca] 22)).alloc (.cells #[.slice b zs.length cb] 22)) W → Calls Try.prog 14 #[.int .i64 (i : Int), .pointer (some ⟨w.heap.size, 0, none⟩), .pointer (some ⟨w.heap.size + 1, 0, none⟩)] W fun e w' => e = .returned (.bool (EG.hasB xs i || EG.hasB zs i)) ∧ Below W.heap.size W w') := fun i W hb => by
    have hw2 : Below w.heap.size w W := FIN.out.2.2.trans (hb.mono (by simp; omega))
    exact (inEither_any a b ca cb w.heap.size (w.heap.size + 1) i xs zs W hz hz2 ((hb.cell (p := ⟨w.heap.size, 0, none⟩) (by simp; omega)).trans FIN.out.1) ((hb.cell (p := ⟨w.heap.size + 1, 0, none⟩) (by simp)).trans FIN.out.2.1) (M4.IntsAt.below H1.out hw2) (M4.IntsAt.below H2.out hw2)).mono (by rintro e w' ⟨rfl, rfl⟩; exact ⟨rfl, Below.refl _ _⟩)
  have hYY : Hid (GP.joinOk xs zs = true → TR.those 8 (fun i => EG.hasB xs i || EG.hasB zs i) = GP.joinL xs zs) := fun h => (GP.join_yes h).symm
  have hNN : Hid (GP.joinOk xs zs = false → GP.joinL xs zs = []) := fun h => GP.join_no h
  clear hin hin2 H1 H2
  generalize GP.joinL xs zs = L at *
  generalize GP.joinOk xs zs = J at *
  generalize EG.rises 8 xs = q1 at *
  generalize EG.rises 8 zs = q2 at *
  generalize (fun (i : Nat) => EG.hasB xs (i : Int) || EG.hasB zs (i : Int)) = P at *
  generalize xs.length = n1 at *
  generalize zs.length = n2 at *
  go_enter Try.func6, Try.ntmps6
  have HB1 : Hid _ := FIN.out.2.2
  clear FIN
  go_wp2_with fail
  refine Calls.mono (AM.out _ HB1.out) ?_
  rintro e w2 ⟨rfl, rfl⟩
  clear AM
  cases q1 with
  | false =>
    have hJ : J = false := HJ.out
    subst hJ
    obtain rfl := hNN.out rfl
    clear BM TH IN hYY hNN HJ
    go_wp2
    exact bodyPost_ret (v := .tuple #[.slice none 0 0, .bool false]) (by simp [results, Try.results6, go_sem]) rfl ⟨none, 0, rfl, World.ownsRow_nil _ _ _ _, HB1.out⟩
  | true =>
    go_wp2_with fail
    refine Calls.mono (BM.out _ HB1.out) ?_
    rintro e w2 ⟨rfl, rfl⟩
    clear BM
    cases q2 with
    | false =>
      have hJ : J = false := HJ.out
      subst hJ
      obtain rfl := hNN.out rfl
      clear TH IN hYY hNN HJ
      go_wp2
      exact bodyPost_ret (v := .tuple #[.slice none 0 0, .bool false]) (by simp [results, Try.results6, go_sem]) rfl ⟨none, 0, rfl, World.ownsRow_nil _ _ _ _, HB1.out⟩
    | true =>
      have hJ : J = true := HJ.out
      subst hJ
      have hL := hYY.out rfl
      rw [hL] at TH
      clear hYY hNN HJ hL
      go_wp2_with fail
      refine Calls.mono (TH.out _ (fun i W _ hb => IN.out i W hb)) ?_
      rintro e w3 ⟨a1, c3, rfl, ho, hb⟩
      have HO : Hid _ := TR.own_mono ho HB1.out.size
      have HB3 : Hid _ := HB1.out.trans (hb.mono HB1.out.size)
      clear TH IN ho hb
      go_wp2
      exact bodyPost_ret (v := .tuple #[.slice a1 L.length c3, .bool true]) (by simp [results, Try.results6, go_sem]) rfl ⟨a1, c3, rfl, HO.out, HB3.out⟩
end Go.Proofs.Ytggoaoieephbkaa
