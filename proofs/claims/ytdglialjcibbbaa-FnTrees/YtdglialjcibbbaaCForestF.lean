/- l7Forest of the specification. -/
import Derived.Test.YtdglialjcibbbaaRows
import Derived.Test.YtdglialjcibbbaaCPartsS
import Derived.WalkKit
import Derived.WalkSpells
import Derived.WalkLawsBesides
import Derived.Outline
import Derived.Deep.QuietTactic
import Derived.BigQuiet
namespace Go.Proofs.Ytdglialjcibbbaa
open Go.RowKit
namespace EG
theorem fst_no {xs : List I3} {os : List Int} {k : Nat} (h : news xs os k = false) : ∀ n, k < n → fst xs os n = false
  | 0, hn => by omega
  | n + 1, hn => by
    rw [fst]
    by_cases e : k = n
    · subst e; rw [h]; rfl
    · rw [fst_no h n (by omega)]; simp
theorem prt_take (xs : List I3) (os : List Int) {k : Nat} (hk : k ≤ os.length) : prt xs (os.take k) (os.take k).length = prt xs os k := by
  rw [prt_is xs (os.take k) _ (Nat.le_refl _), prt_is xs os k hk, List.take_length]
theorem InR.take {xs : List I3} {os : List Int} (h : InR xs os) (k : Nat) : InR xs (os.take k) := ⟨fun j hj => by
  have hj' : j < k ∧ j < os.length := by rw [List.length_take] at hj; omega
  have : (os.take k).getD j 0 = os.getD j 0 := by simp [List.getD_eq_getElem?_getD, hj'.1]
  rw [this]; exact h.is j hj'.2⟩
theorem take_snoc (os : List Int) (k : Nat) (h : k < os.length) : os.take (k + 1) = os.take k ++ [os.getD k 0] := M4.take_snoc os k h
end EG
set_option linter.unusedSimpArgs false in
set_option maxHeartbeats 1600000 in
set_option maxRecDepth 100000 in
theorem l7Forest_any (a b : Option Addr) (ca cb : Nat) (xs : List I3) (os : List Int) (w : World) (hg : EG.okP xs = true) (ho : os.length ≤ 1048576) (hR : EG.InR xs os) (hin : MI3.RowAt w a xs) (hos : M4.IntsAt w b os) :
    Calls Try.prog 40 #[.slice a xs.length ca, .slice b os.length cb] w fun e w' => e = .returned (.bool (EG.fst xs os os.length)) ∧ Below w.heap.size w w' := by
  obtain ⟨i0, hi, hz0, hz1, hz2⟩ := info_parts Try.info3
  have HI : Hid (MI3.RowAt w a xs) := hin
  have HS : Hid (M4.IntsAt w b os) := hos
  have HG : Hid _ := hg
  have hlen := ((EG.okP_iff xs).1 hg).1
  clear hin hos hg
  go_enter Try.func40, Try.ntmps40
  go_wp2
  go_loopw [5, 11] (fun v iv wr => ∃ k : Nat, iv = .int .i64 k ∧ k ≤ os.length ∧ wr.ownsRow w.heap.size 3 1 v (os.take k).length (M4.iv (os.take k)) ∧ Hid (EG.fst xs os k = true) ∧ Below w.heap.size w wr) (fun _ iv _ => (os.length - intOf iv).toNat)
  case atStart => exact ⟨0, rfl, by omega, World.ownsRow_nil _ _ _ _, show Hid _ from rfl, Below.refl _ _⟩
  case round =>
    obtain ⟨k, rfl, hk, hown, hF, hb⟩ := hrel
    by_cases hlk : k < os.length
    · obtain ⟨a3, c3, rfl, hI3⟩ := M5.own_view hown
      have hbs := hb.size
      have LP := l7Parts_any a a3 ca c3 xs (os.take k) wr HG.out (by rw [List.length_take]; omega) (hR.take k) (HI.out.below hb) hI3
      rw [EG.prt_take xs os hk] at LP
      obtain ⟨b1, off1, rfl, hlt1, hc1⟩ := M4.IntsAt.at (HS.out.below hb) hlk
      obtain ⟨h0, h1⟩ := hR.is k hlk
      obtain ⟨i, hi1⟩ := Int.eq_ofNat_of_zero_le h0
      have hil : i < xs.length := by omega
      have HIN := HI.out.below hb
      have G := EG.okP_good HG.out hil
      have eo : EG.ofN xs (os.getD k 0) = MI3.at_ xs i := by rw [hi1]; rfl
      obtain ⟨x, hx⟩ := Int.eq_ofNat_of_zero_le G.f0
      obtain ⟨y, hy⟩ := Int.eq_ofNat_of_zero_le G.t0
      have hx8 : x < 8 := by have := G.f1; omega
      have hy8 : y < 8 := by have := G.t1; omega
      have e2 : EG.news xs os k = !(EG.prt xs os k x == EG.prt xs os k y) := by unfold EG.news; rw [eo, hx, hy]; rfl
      have FN : Hid (EG.prt xs os k x = EG.prt xs os k y → EG.fst xs os os.length = false) := fun h => EG.fst_no (by rw [e2, h]; simp) _ hlk
      have FY : Hid (EG.prt xs os k x ≠ EG.prt xs os k y → EG.fst xs os (k + 1) = true) := fun h => by rw [EG.fst, hF.out, e2]; simp [h]
      have HT : Hid _ := EG.take_snoc os k hlk
      have hf8 : ∀ j, j < 8 → EG.prt xs os k j < 8 := fun j hj => EG.prt_lt8 hk hj
      have hfx := hf8 x hx8
      have hfy := hf8 y hy8
      have hle : (os.take k).length ≤ 1048576 := by rw [List.length_take]; omega
      rw [hi1] at hc1
      have HT' := HT.out
      rw [hi1] at HT'
      have HT1 : Hid _ := HT'
      have HLP : Hid _ := LP
      have HHIN : Hid _ := HIN
      have HX : Hid _ := hx
      have HY : Hid _ := hy
      clear e2 eo G hi1 h0 h1 LP HT HT' hF hf8 HIN hI3 hx hy HG HI HS hR
      generalize EG.prt xs os k = f at *
      generalize os.take k = tk at *
      go_wp2_with fail
      refine Calls.mono HLP.out ?_
      rintro e w3 ⟨g, c4, rfl, ho4, hb3⟩
      have p0 := World.ownsRow.cellAt ho4 x (by omega)
      rw [M4.iv_get _ x (f x : Int) (EG.prL_get _ hx8)] at p0
      have p1 := World.ownsRow.cellAt ho4 y (by omega)
      rw [M4.iv_get _ y (f y : Int) (EG.prL_get _ hy8)] at p1
      have hlg := World.ownsRow.lt ho4 g rfl
      have own3 := M5.own_below hown hb3
      have hB3 := hb.trans (hb3.mono hb.size)
      obtain ⟨b2, off2, rfl, hlt2, c0, c1, c2⟩ := (HHIN.out.below hb3).at hil
      rw [HX.out] at c0
      rw [HY.out] at c1
      have OWN3 : Hid _ := own3
      clear HLP ho4 hb3 hown HHIN HX HY c2 own3 hb hc1
      go_wp2_with fail
      go_quiet (fail)
      have hO4 := M5.own_below OWN3.out (below_drewN (Below.refl _ _) nq)
      have hB4 := below_drewN hB3 nq
      clear OWN3 hB3 p0 p1 c0 c1
      generalize w3.drewN nq = w4 at *
      have hs4 := hB4.size
      by_cases hq : f x = f y
      · have hq' : ((f x : Int) == (f y : Int)) = true := by rw [hq]; simp
        have HR : Hid _ := FN.out hq
        clear FN FY hq
        generalize f x = fx at *
        generalize f y = fy at *
        go_wp2
        go_ret
        exact ⟨by rw [HR.out]; rfl, hB4⟩
      · have hq' : ((f x : Int) == (f y : Int)) = false := by rw [beq_eq_false_iff_ne]; omega
        have HR : Hid _ := FY.out hq
        clear FN FY hq
        generalize f x = fx at *
        generalize f y = fy at *
        go_wp2_with (at_builtin; go_loud (refine wpList_append_own _ rfl _ _ 24 rfl w.heap.size 3 i0 (.int .i64 0) 1 8 Try.underlying24 hi hz0 hz1 hz2 rfl (by decide) _ _ _ rfl (World.ownsRow.alloc hO4 _) ⟨w4.heap.size, 0, none⟩ 1 1 [.int .i64 (i : Int)] rfl rfl ?c1 ?c2 ?c3 ?c4 ?c5 ?_))
        all_goals try (first | rfl | omega | exact M2.new1 _ _ _ | exact M2.one1 _ _ | (unfold maxLen; omega) | (simp; omega))
        intro v' w5 hown1 hgrow _
        have R := M5.growI hO4 hB4 hs4 (by exact hown1) hgrow
        have R1 := R.1
        have R2 := R.2
        rw [← HT1.out] at R1
        clear hown1 hgrow hO4 R HT1
        go_wp2
        go_roundw
        case rel => exact ⟨k + 1, by go_num, by omega, R1, HR, R2⟩
        case measure => simp [intOf]; omega
    · obtain rfl : k = os.length := by omega
      clear HI HS HG hR hown
      go_wp2
      go_ret
      exact ⟨by rw [hF.out]; rfl, hb⟩
end Go.Proofs.Ytdglialjcibbbaa
