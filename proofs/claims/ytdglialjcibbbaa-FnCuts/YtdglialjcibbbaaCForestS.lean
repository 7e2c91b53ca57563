/- IsForest and PartsOf of the specification. -/
import Derived.Test.YtdglialjcibbbaaRows
import Derived.Test.YtdglialjcibbbaaCForestF
import Derived.Test.YtdglialjcibbbaaCAreEdges
import Derived.WalkKit
import Derived.WalkSpells
import Derived.WalkLawsBesides
import Derived.Outline
namespace Go.Proofs.Ytdglialjcibbbaa
open Go.RowKit
set_option maxHeartbeats 800000 in
set_option maxRecDepth 100000 in
theorem specForest_any (a b : Option Addr) (ca cb : Nat) (xs : List I3) (os : List Int) (w : World) (hn0 : xs.length ≤ 1048576) (ho : os.length ≤ 1048576) (hin : MI3.RowAt w a xs) (hos : M4.IntsAt w b os) :
    Calls Try.prog 15 #[.slice a xs.length ca, .slice b os.length cb] w fun e w' => e = .returned (.tuple #[.bool (EG.forB xs os), .bool (EG.sok xs os)]) ∧ Below w.heap.size w w' := by
  have GP : Hid _ := specGoodEdges_any a ca xs w hn0 hin _ rfl
  have SP : Hid _ := fun W (h : Below w.heap.size w W) => l1Some_any b cb xs.length os W hn0 ho (hos.below h) _ rfl
  have LF : Hid _ := fun (hg : EG.okP xs = true) (hr : EG.InR xs os) W (h : Below w.heap.size w W) => l7Forest_any a b ca cb xs os W hg ho hr (hin.below h) (hos.below h)
  clear hin hos
  go_enter Try.func15, Try.ntmps15
  go_wp2_with fail
  refine Calls.mono GP.out ?_
  rintro e w1 ⟨rfl, hb1⟩
  clear GP
  cases hg : EG.okP xs with
  | false =>
    have hF : Hid (EG.sok xs os = false) := by show _ = _; simp [EG.sok, hg]
    have hK : Hid (EG.forB xs os = false) := by show _ = _; simp [EG.forB, EG.sok, hg]
    clear hg SP LF
    go_wp2
    go_ret2
    exact ⟨by rw [hF.out, hK.out]; rfl, hb1⟩
  | true =>
    go_wp2_with fail
    refine Calls.mono (SP.out _ hb1) ?_
    rintro e w2 ⟨rfl, hb2⟩
    have hB2 := hb1.trans (hb2.mono hb1.size)
    clear SP hb2
    cases hr : EG.rises xs.length os with
    | false =>
      have hF : Hid (EG.sok xs os = false) := by show _ = _; simp [EG.sok, hg, hr]
      have hK : Hid (EG.forB xs os = false) := by show _ = _; simp [EG.forB, EG.sok, hg, hr]
      clear hg hr LF
      go_wp2
      go_ret2
      exact ⟨by rw [hF.out, hK.out]; rfl, hB2⟩
    | true =>
      have hF : Hid (EG.sok xs os = true) := by show _ = _; simp [EG.sok, hg, hr]
      have hK : Hid (EG.forB xs os = EG.fst xs os os.length) := by show _ = _; simp [EG.forB, EG.sok, hg, hr]
      have LF1 : Hid _ := LF.out hg (EG.InR.of_rise (EG.rises_is hr)) _ hB2
      clear hg hr LF
      go_wp2_with fail
      refine Calls.mono LF1.out ?_
      rintro e w3 ⟨rfl, hb3⟩
      clear LF1
      go_wp2
      go_ret2
      exact ⟨by rw [hF.out, hK.out]; rfl, hB2.trans (hb3.mono hB2.size)⟩
set_option maxHeartbeats 800000 in
set_option maxRecDepth 100000 in
theorem specParts_any (a b : Option Addr) (ca cb : Nat) (xs : List I3) (os : List Int) (w : World) (hn0 : xs.length ≤ 1048576) (ho : os.length ≤ 1048576) (hin : MI3.RowAt w a xs) (hos : M4.IntsAt w b os) :
    Calls Try.prog 13 #[.slice a xs.length ca, .slice b os.length cb] w fun e w' => ∃ a1 c1, e = .returned (.tuple #[.slice a1 (EG.parL xs os).length c1, .bool (EG.sok xs os)]) ∧ w'.ownsRow w.heap.size 3 1 (.slice a1 (EG.parL xs os).length c1) (EG.parL xs os).length (M4.iv (EG.parL xs os)) ∧ Below w.heap.size w w' := by
  have GP : Hid _ := specGoodEdges_any a ca xs w hn0 hin _ rfl
  have SP : Hid _ := fun W (h : Below w.heap.size w W) => l1Some_any b cb xs.length os W hn0 ho (hos.below h) _ rfl
  have LF : Hid _ := fun (hg : EG.okP xs = true) (hr : EG.InR xs os) W (h : Below w.heap.size w W) => l7Parts_any a b ca cb xs os W hg ho hr (hin.below h) (hos.below h)
  clear hin hos
  go_enter Try.func13, Try.ntmps13
  go_wp2_with fail
  refine Calls.mono GP.out ?_
  rintro e w1 ⟨rfl, hb1⟩
  clear GP
  cases hg : EG.okP xs with
  | false =>
    have hF : Hid (EG.sok xs os = false) := by show _ = _; simp [EG.sok, hg]
    have hC : Hid (EG.parL xs os = []) := by show _ = _; simp [EG.parL, EG.sok, hg]
    clear hg SP LF
    go_wp2
    go_ret2
    exact ⟨none, 0, by rw [hC.out, hF.out]; rfl, by rw [hC.out]; exact World.ownsRow_nil _ _ _ _, hb1⟩
  | true =>
    go_wp2_with fail
    refine Calls.mono (SP.out _ hb1) ?_
    rintro e w2 ⟨rfl, hb2⟩
    have hB2 := hb1.trans (hb2.mono hb1.size)
    clear SP hb2
    cases hr : EG.rises xs.length os with
    | false =>
      have hF : Hid (EG.sok xs os = false) := by show _ = _; simp [EG.sok, hg, hr]
      have hC : Hid (EG.parL xs os = []) := by show _ = _; simp [EG.parL, EG.sok, hg, hr]
      clear hg hr LF
      go_wp2
      go_ret2
      exact ⟨none, 0, by rw [hC.out, hF.out]; rfl, by rw [hC.out]; exact World.ownsRow_nil _ _ _ _, hB2⟩
    | true =>
      have hF : Hid (EG.sok xs os = true) := by show _ = _; simp [EG.sok, hg, hr]
      have hC : Hid (EG.parL xs os = EG.prL (EG.prt xs os os.length)) := by show _ = _; simp [EG.parL, EG.sok, hg, hr]
      have LF1 : Hid _ := LF.out hg (EG.InR.of_rise (EG.rises_is hr)) _ hB2
      clear hg hr LF
      go_wp2_with fail
      refine Calls.mono LF1.out ?_
      rintro e w3 ⟨g, c3, rfl, ho3, hb3⟩
      have HO : Hid _ := ho3
      clear LF1 ho3
      go_wp2
      go_ret2
      have HO' := HO.out
      refine ⟨some ⟨g, 0, none⟩, c3, ?_, ?_, hB2.trans (hb3.mono hB2.size)⟩
      · rw [hC.out, hF.out, EG.prL_len]; rfl
      · rw [hC.out, EG.prL_len]; exact EG.own_base' HO' hB2.size
end Go.Proofs.Ytdglialjcibbbaa
