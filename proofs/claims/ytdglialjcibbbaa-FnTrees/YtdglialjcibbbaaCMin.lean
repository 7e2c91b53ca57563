/- The first cheapest of some edges: byCost, slices.MinFunc. -/
import Derived.Test.YtdglialjcibbbaaRows
import Derived.Test.YtdglialjcibbbaaMPR
import Derived.Test.YtdglialjcibbbaaCByC
import Derived.Test.YtdglialjcibbbaaCCut
import Derived.Test.YtdglialjcibbbaaCLinked
import Derived.WalkKit
import Derived.WalkSpells
import Derived.WalkLawsBesides
import Derived.Outline
import Derived.Deep.QuietTactic
import Derived.BigQuiet
namespace Go.Proofs.Ytdglialjcibbbaa
open Go.RowKit
namespace EG
def minO (xs : List I3) (m : Option Nat) (x : Int) : Option Nat := if betr xs x.toNat m = true then some x.toNat else m
theorem min_cut (xs : List I3) (zs : List Int) (R : Nat → Bool) (hR : ∀ k, k < xs.length → cutB zs (MI3.at_ xs k) = crs xs R k) : ∀ n, n ≤ xs.length → (cutUp xs zs n).foldl (minO xs) none = bestUp xs R n
  | 0, _ => rfl
  | n + 1, hn => by
    have ih := min_cut xs zs R hR n (by omega)
    rw [cutUp, List.foldl_append, ih, bestUp, ← hR n (by omega)]
    by_cases h1 : cutB zs (MI3.at_ xs n) = true
    · rw [if_pos h1, h1]
      by_cases h2 : betr xs n (bestUp xs R n) = true
      · rw [if_pos ⟨rfl, h2⟩]; simp [minO, h2]
      · rw [if_neg (fun h => h2 h.2)]; simp [minO, h2]
    · rw [if_neg h1, if_neg (fun h => h1 h.1)]; rfl
theorem min_some {xs : List I3} : ∀ (zs : List Int) (m : Nat), ∃ m', zs.foldl (minO xs) (some m) = some m'
  | [], m => ⟨m, rfl⟩
  | x :: zs, m => by
    rw [List.foldl_cons]
    unfold minO
    split
    · exact min_some zs _
    · exact min_some zs _
end EG
set_option linter.unusedSimpArgs false in
set_option maxHeartbeats 1600000 in
set_option maxRecDepth 100000 in
theorem minFunc_any (a b : Option Addr) (ca cb c : Nat) (xs : List I3) (zs : List Int) (w : World) (hl : xs.length ≤ 24) (hz : zs.length ≤ 1048576) (h0 : 0 < zs.length) (hR : EG.InR xs zs) (hc : w.cell? ⟨c, 0, none⟩ = some (.slice a xs.length ca)) (hin : MI3.RowAt w a xs) (hos : M4.IntsAt w b zs) :
    Calls Try.prog 51 #[.slice b zs.length cb, .func (.func 66) #[] #[.pointer (some ⟨c, 0, none⟩)]] w fun e w' => ∃ m : Nat, e = .returned (.int .i64 (m : Int)) ∧ zs.foldl (EG.minO xs) none = some m ∧ m < xs.length ∧ Below w.heap.size w w' := by
  obtain ⟨b1, off1, rfl, hlt1, hc0⟩ := hos.at h0
  obtain ⟨i0, hi0⟩ := Int.eq_ofNat_of_zero_le (hR.is 0 h0).1
  have hi0l : i0 < xs.length := by have := (hR.is 0 h0).2; omega
  rw [Nat.add_zero, hi0] at hc0
  have HST : Hid ((zs.take 1).foldl (EG.minO xs) none = some i0) := by
    show _ = _
    rw [M4.take_snoc zs 0 h0, hi0]; simp [EG.minO, EG.betr]
  have HI : Hid (MI3.RowAt w a xs) := hin
  have HS : Hid (M4.IntsAt w (some ⟨b1, off1, none⟩) zs) := hos
  have HC : Hid _ := hc
  have HR : Hid _ := hR
  clear hin hos hc hR
  go_enter Try.func51, Try.ntmps51
  go_wp2
  go_loopw [5, 6] (fun mv iv wr => ∃ (i m : Nat), mv = .int .i64 m ∧ iv = .int .i64 i ∧ 1 ≤ i ∧ i ≤ zs.length ∧ Hid ((zs.take i).foldl (EG.minO xs) none = some m) ∧ m < xs.length ∧ Below w.heap.size w wr) (fun _ iv _ => (zs.length - intOf iv).toNat)
  case atStart => exact ⟨1, i0, rfl, rfl, by omega, by omega, HST, hi0l, Below.refl _ _⟩
  case round =>
    obtain ⟨i, m, rfl, rfl, h1, hi, hT, hm, hb⟩ := hrel
    clear HST hc0
    by_cases hli : i < zs.length
    · obtain ⟨b4, off4, hbb, hlt4, hc4⟩ := M4.IntsAt.at (HS.out.below hb) hli
      cases hbb
      obtain ⟨x, hx⟩ := Int.eq_ofNat_of_zero_le (HR.out.is i hli).1
      have hxl : x < xs.length := by have := (HR.out.is i hli).2; omega
      rw [hx] at hc4
      have hcl : c < w.heap.size := World.block_lt_of_cell? w ⟨c, 0, none⟩ HC.out
      have hcw : wr.cell? ⟨c, 0, none⟩ = some (.slice a xs.length ca) := (hb.cell (p := ⟨c, 0, none⟩) hcl).trans HC.out
      have CM : Hid _ := cmpC_any a ca c xs x m wr hxl hm hl hcw (HI.out.below hb)
      have E1 : (zs.take (i + 1)).foldl (EG.minO xs) none = if EG.cost xs x < EG.cost xs m then some x else some m := by
        rw [M4.take_snoc zs i hli, List.foldl_append, hT.out, hx]
        simp [EG.minO, EG.betr]
      have hlt := EG.cmpI_lt (EG.cost xs x) (EG.cost xs m)
      have HE : Hid _ := E1
      have HLT : Hid _ := hlt
      clear E1 hT hlt hcw HI HS HR HC
      generalize EG.cmpI (EG.cost xs x) (EG.cost xs m) = r at *
      go_wp2_with fail
      refine Calls.mono CM.out ?_
      rintro e w2 ⟨rfl, nd, rfl⟩
      have hb2 := below_drewN hb nd
      clear CM hb
      by_cases hr : r < 0
      · have HT : Hid ((zs.take (i + 1)).foldl (EG.minO xs) none = some x) := by
          show _ = _
          have : EG.cost xs x < EG.cost xs m := by have := HLT.out; simp [hr] at this; exact this
          rw [HE.out, if_pos this]
        have hr' : decide (r < 0) = true := by simp [hr]
        clear HE HLT hr
        go_wp2
        go_roundw
        case rel => exact ⟨i + 1, x, rfl, by go_num, by omega, by omega, HT, hxl, hb2⟩
        case measure => simp [intOf]; omega
      · have HT : Hid ((zs.take (i + 1)).foldl (EG.minO xs) none = some m) := by
          show _ = _
          have : ¬ EG.cost xs x < EG.cost xs m := by have := HLT.out; simp [hr] at this; omega
          rw [HE.out, if_neg this]
        have hr' : decide (r < 0) = false := by simp; omega
        clear HE HLT hr
        go_wp2
        go_roundw
        case rel => exact ⟨i + 1, m, rfl, by go_num, by omega, by omega, HT, hm, hb2⟩
        case measure => simp [intOf]; omega
    · obtain rfl : i = zs.length := by omega
      clear HI HS HC HR
      go_wp2
      go_ret
      have := hT.out
      rw [List.take_length] at this
      exact ⟨m, rfl, this, hm, hb⟩
end Go.Proofs.Ytdglialjcibbbaa
