/- Parts by some edges, and whether these are a forest: linked. -/
import Derived.Test.YtdglialjcibbbaaRows
import Derived.Test.YtdglialjcibbbaaCEdges
import Derived.Test.YtdglialjcibbbaaMIR
import Derived.Test.YtdglialjcibbbaaCLink
import Derived.Test.YtdglialjcibbbaaCApart
import Derived.Test.YtdglialjcibbbaaCRise
import Derived.WalkKit
import Derived.WalkSpells
import Derived.WalkLawsBesides
import Derived.Outline
import Derived.Deep.QuietTactic
import Derived.BigQuiet
namespace Go.Proofs.Ytdglialjcibbbaa
open Go.RowKit
set_option linter.unusedSimpArgs false in
set_option maxHeartbeats 1600000 in
set_option maxRecDepth 100000 in
theorem linked_any (SRT : SortsI) (a b : Option Addr) (ca cb : Nat) (xs : List I3) (os : List Int) (w : World) (hg : EG.okP xs = true) (ho : os.length ≤ 1048576) (hR : EG.InR xs os) (hin : MI3.RowAt w a xs) (hos : M4.IntsAt w b os) :
    Calls Try.prog 37 #[.slice a xs.length ca, .slice b os.length cb] w fun e w' => e = .returned (.tuple #[.map (some w.heap.size), .bool (EG.fst xs os os.length)]) ∧ PMn w' w.heap.size 8 (EG.prt xs os os.length) ∧ Below w.heap.size w w' := by
  have EA : Hid _ := eachApart_any w
  have HI : Hid (MI3.RowAt w a xs) := hin
  have HS : Hid (M4.IntsAt w b os) := hos
  have HG : Hid _ := hg
  have hlen := ((EG.okP_iff xs).1 hg).1
  clear hin hos hg
  go_enter Try.func37, Try.ntmps37
  go_wp2_with fail
  refine Calls.mono EA.out ?_
  rintro e w1 ⟨rfl, hP1, hb1⟩
  have HP1 : Hid _ := hP1
  clear EA hP1
  go_wp2
  go_loopw [7, 13] (fun fv iv wr => ∃ k : Nat, fv = .bool (EG.fst xs os k) ∧ iv = .int .i64 k ∧ k ≤ os.length ∧ Hid (PMn wr w.heap.size 8 (EG.prt xs os k)) ∧ Below w.heap.size w wr) (fun _ iv _ => (os.length - intOf iv).toNat)
  case atStart => exact ⟨0, rfl, rfl, by omega, HP1, hb1⟩
  case round =>
    obtain ⟨k, rfl, rfl, hk, hT, hb⟩ := hrel
    clear HP1 hb1
    by_cases hlk : k < os.length
    · obtain ⟨b1, off1, rfl, hlt1, hc1⟩ := M4.IntsAt.at (HS.out.below hb) hlk
      obtain ⟨h0, h1⟩ := hR.is k hlk
      obtain ⟨i, hi⟩ := Int.eq_ofNat_of_zero_le h0
      have hil : i < xs.length := by omega
      obtain ⟨b2, off2, rfl, hlt2, c0, c1, c2⟩ := (HI.out.below hb).at hil
      have G := EG.okP_good HG.out hil
      have eo : EG.ofN xs (os.getD k 0) = MI3.at_ xs i := by rw [hi]; rfl
      obtain ⟨x, hx⟩ := Int.eq_ofNat_of_zero_le G.f0
      obtain ⟨y, hy⟩ := Int.eq_ofNat_of_zero_le G.t0
      have hx8 : x < 8 := by have := G.f1; omega
      have hy8 : y < 8 := by have := G.t1; omega
      have LK : Hid _ := link_any SRT w.heap.size (EG.prt xs os k) x y (MI3.at_ xs i).a2 wr hT.out hx8 hy8 (fun j hj => EG.prt_lt8 hk hj)
      have e1 : EG.prt xs os (k + 1) = EG.mrg (EG.prt xs os k) x y := by
        show EG.mrg _ _ _ = _; rw [eo, hx, hy]; rfl
      have e2 : EG.fst xs os (k + 1) = (!(EG.prt xs os k x == EG.prt xs os k y) && EG.fst xs os k) := by
        show (EG.news xs os k && _) = _; unfold EG.news; rw [eo, hx, hy]; rfl
      have HP : Hid (∀ W, PMn W w.heap.size 8 (EG.mrg (EG.prt xs os k) x y) → PMn W w.heap.size 8 (EG.prt xs os (k + 1))) := fun W h => by rw [e1]; exact h
      have HF : Hid _ := e2
      rw [hi] at hc1
      rw [hx] at c0
      rw [hy] at c1
      clear e1 e2 eo hx hy G hi h0 h1 hT
      generalize (MI3.at_ xs i).a2 = z at *
      generalize (!(EG.prt xs os k x == EG.prt xs os k y)) = q at *
      generalize EG.fst xs os k = fk at *
      generalize EG.prt xs os k = pk at *
      go_wp2_with fail
      refine Calls.mono LK.out ?_
      rintro e w3 ⟨rfl, hP3, hg3⟩
      have hP4 : Hid _ := HP.out _ hP3
      have hb4 := hb.grown hg3 hb.size (fun j hj => by cases hj; exact Nat.le_refl _)
      clear LK HP hP3 hg3 hb c0 c1 c2 hc1
      cases q with
      | false =>
        go_wp2
        go_roundw
        case rel => exact ⟨k + 1, by rw [HF.out]; rfl, by go_num, by omega, hP4, hb4⟩
        case measure => simp [intOf]; omega
      | true =>
        go_wp2
        go_roundw
        case rel => exact ⟨k + 1, by rw [HF.out]; rfl, by go_num, by omega, hP4, hb4⟩
        case measure => simp [intOf]; omega
    · obtain rfl : k = os.length := by omega
      clear HI HS hR HG
      go_wp2
      go_ret2
      exact ⟨rfl, hT.out, hb⟩
end Go.Proofs.Ytdglialjcibbbaa
