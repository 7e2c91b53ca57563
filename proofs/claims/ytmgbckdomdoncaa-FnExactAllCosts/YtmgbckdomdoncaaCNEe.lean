/- Rows of rows of numbers told: eqIntSS. -/
import Derived.Test.YtmgbckdomdoncaaRows
import Derived.Test.YtmgbckdomdoncaaMNE
import Derived.Test.YtmgbckdomdoncaaMRetB
import Derived.Test.YtmgbckdomdoncaaCEqIntS
import Derived.WalkKit
import Derived.WalkSpells
import Derived.WalkLawsBesides
import Derived.Outline
import Derived.Deep.RegionWith
namespace Go.Proofs.Ytmgbckdomdoncaa
open Go.RowKit
namespace NE
theorem take_eq {ws us : List (List Int)} {k : Nat} (hx : k < ws.length) (hy : k < us.length) (h : ws.take k = us.take k) (e : rw_ ws k = rw_ us k) : ws.take (k + 1) = us.take (k + 1) := by
  rw [List.take_succ_eq_append_getElem hx, List.take_succ_eq_append_getElem hy, h, ← rw_eq ws k hx, ← rw_eq us k hy, e]
theorem take_ne {ws us : List (List Int)} {k : Nat} (e : rw_ ws k ≠ rw_ us k) : ws ≠ us := fun h => e (by rw [h])
end NE
set_option maxHeartbeats 1600000 in
set_option maxRecDepth 100000 in
theorem eqIntSS_any (a b : Option Addr) (ca cb : Nat) (ws us : List (List Int)) (w : World) (hx : ws.length ≤ 1048576) (hy : us.length ≤ 1048576) (hx2 : NE.tot ws ≤ 1048576) (hy2 : NE.tot us ≤ 1048576) (hax : NE.RowsAt w a ws) (hay : NE.RowsAt w b us) :
    Calls Try.prog 16 #[.slice a ws.length ca, .slice b us.length cb] w fun e w' => e = .returned (.bool (decide (ws = us))) ∧ Below w.heap.size w w' := by
  have HX : Hid (NE.RowsAt w a ws) := hax
  have HY : Hid (NE.RowsAt w b us) := hay
  clear hax hay
  by_cases hl : ws.length = us.length
  · have hne : ((ws.length : Int) != (us.length : Int)) = false := by simp [hl]
    have l1 : ws.length ≤ us.length := by omega
    have HL : Hid (ws.length = us.length) := hl
    clear hl
    go_enter Try.func16, Try.ntmps16
    go_wp2
    go_loopw [5] (fun iv wr => ∃ k : Nat, iv = .int .i64 k ∧ k ≤ ws.length ∧ Hid (ws.take k = us.take k) ∧ Below w.heap.size w wr) (fun iv _ => (ws.length - intOf iv).toNat)
    case atStart => exact ⟨0, rfl, by omega, rfl, Below.refl _ _⟩
    case round =>
      obtain ⟨k, rfl, hk, hT, hb⟩ := hrel
      by_cases hl : k < ws.length
      · have hly : k < us.length := by omega
        obtain ⟨b1, off1, a1, c1, rfl, hlt1, d1, _, i1⟩ := (HX.out.below hb).at hl
        obtain ⟨b2, off2, a2, c2, rfl, hlt2, d2, _, i2⟩ := (HY.out.below hb).at hly
        have t1 := NE.tot_row ws hl
        have t2 := NE.tot_row us hly
        have hT' : Hid _ := fun e => NE.take_eq hl hly hT.out e
        have hF : Hid _ := fun e => NE.take_ne (ws := ws) (us := us) (k := k) e
        generalize NE.rw_ ws k = x at *
        generalize NE.rw_ us k = y at *
        have EQ : Hid (Calls Try.prog 24 #[.slice a1 x.length c1, .slice a2 y.length c2] wr.drew fun e w' => e = .returned (.bool (decide (x = y))) ∧ Below wr.drew.heap.size wr.drew w') := eqIntS_any a1 a2 c1 c2 x y _ (by omega) (by omega) (M4.IntsAt.below i1 (Below.refl _ wr).drew) (M4.IntsAt.below i2 (Below.refl _ wr).drew)
        obtain ⟨bq, hbq⟩ : ∃ bq, decide (x = y) = bq := ⟨_, rfl⟩
        rw [hbq] at EQ
        have HBQ : Hid _ := hbq
        clear hbq i1 i2
        go_wp2
        go_region_with (go_at_call 24; refine Calls.mono EQ.out ?_; rintro e w1 ⟨rfl, hb1⟩)
        all_goals (
          have hB1 : Below w.heap.size w w1 := hb.drew.trans (hb1.mono (by have := hb.size; simpa using this))
          clear hb1 hb EQ d1 d2
          cases bq
          · have hE : Hid (decide (ws = us) = false) := by
              show _ = _
              simp only [decide_eq_false_iff_not]
              exact hF.out (of_decide_eq_false HBQ.out)
            clear hT hT' hF HBQ
            go_wp2
            go_ret
            exact ⟨M4.ret_bool hE.out.symm, hB1⟩
          · have hE : Hid _ := hT'.out (of_decide_eq_true HBQ.out)
            clear hT hT' hF HBQ
            go_wp2
            go_roundw
            case rel => exact ⟨k + 1, by go_num, by omega, hE, hB1⟩
            case measure => simp [intOf]; omega)
      · obtain rfl : k = ws.length := by omega
        have hF : Hid (decide (ws = us) = true) := by
          show _ = _
          simp only [decide_eq_true_eq]
          have := hT.out
          rw [List.take_length, HL.out, List.take_length] at this
          exact this
        go_wp2
        go_ret
        exact ⟨M4.ret_bool hF.out.symm, hb⟩
  · have hne : ((ws.length : Int) != (us.length : Int)) = true := by simp; omega
    have hF : Hid (decide (ws = us) = false) := by
      show _ = _
      simp only [decide_eq_false_iff_not]
      exact fun e => hl (by rw [e])
    clear hl
    go_enter Try.func16, Try.ntmps16
    go_wp2
    go_ret
    exact ⟨M4.ret_bool hF.out.symm, Below.refl _ _⟩
end Go.Proofs.Ytmgbckdomdoncaa
