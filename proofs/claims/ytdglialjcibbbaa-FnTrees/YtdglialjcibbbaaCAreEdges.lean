/- areEdges of the program; words for parts. -/
import Derived.Test.YtdglialjcibbbaaRows
import Derived.Test.YtdglialjcibbbaaCLinked
import Derived.Test.YtdglialjcibbbaaMCur
import Derived.WalkKit
import Derived.WalkSpells
import Derived.WalkLawsBesides
import Derived.Outline
import Derived.Maps.AppendAt
namespace Go.Proofs.Ytdglialjcibbbaa
open Go.RowKit
namespace EG
theorem own_base' {w : World} {base base' e sz n : Nat} {v : Value} {xs : List Value} (h : w.ownsRow base e sz v n xs) (hb : base' ≤ base) : w.ownsRow base' e sz v n xs := by
  refine ⟨h.1, ?_⟩
  rcases h.2 with h' | ⟨g, cap, cur, h1, h2, h3⟩
  · exact .inl h'
  · exact .inr ⟨g, cap, cur, h1, by omega, h3⟩
/-- Edges, and some of them. -/
noncomputable def sok (xs : List I3) (os : List Int) : Bool := okP xs && rises xs.length os
theorem sok_is {xs : List I3} {os : List Int} (h : sok xs os = true) : okP xs = true ∧ InR xs os := by
  unfold sok at h; rw [Bool.and_eq_true] at h
  exact ⟨h.1, InR.of_rise (rises_is h.2)⟩
noncomputable def forB (xs : List I3) (os : List Int) : Bool := sok xs os && fst xs os os.length
noncomputable def parL (xs : List I3) (os : List Int) : List Int := if sok xs os = true then prL (prt xs os os.length) else []
theorem parL_len (xs : List I3) (os : List Int) : (parL xs os).length ≤ 1048576 := by
  unfold parL; split
  · rw [prL_len]; omega
  · simp
end EG
set_option maxHeartbeats 800000 in
set_option maxRecDepth 100000 in
theorem areEdges_any (a b : Option Addr) (ca cb : Nat) (xs : List I3) (os : List Int) (w : World) (hn0 : xs.length ≤ 1048576) (ho : os.length ≤ 1048576) (hin : MI3.RowAt w a xs) (hos : M4.IntsAt w b os) (R : Bool) (hR : Hid (EG.sok xs os = R)) :
    Calls Try.prog 36 #[.slice a xs.length ca, .slice b os.length cb] w fun e w' => e = .returned (.bool R) ∧ Below w.heap.size w w' := by
  have GP : Hid _ := implGoodEdges_any a ca xs w hn0 hin _ rfl
  have HS : Hid _ := fun W (h : Below w.heap.size w W) => areRising_any b cb xs.length os W hn0 ho (hos.below h) _ rfl
  clear hin hos
  go_enter Try.func36, Try.ntmps36
  go_wp2_with fail
  refine Calls.mono GP.out ?_
  rintro e w1 ⟨rfl, hb1⟩
  clear GP
  cases hg : EG.okP xs with
  | false =>
    have hF : Hid (R = false) := by show _ = _; rw [← hR.out]; simp [EG.sok, hg]
    clear hg hR HS
    go_wp2
    go_ret
    exact ⟨retB7 hF.out.symm, hb1⟩
  | true =>
    have hF : Hid (R = EG.rises xs.length os) := by show _ = _; rw [← hR.out]; simp [EG.sok, hg]
    clear hg hR
    go_wp2_with fail
    refine Calls.mono (HS.out _ hb1) ?_
    rintro e w2 ⟨rfl, rfl⟩
    clear HS
    go_wp2
    go_ret
    exact ⟨retB7 hF.out.symm, hb1⟩
end Go.Proofs.Ytdglialjcibbbaa
