/- BothTell of the program. -/
import Derived.Test.YteedppngiknjlaaDoorRows
import Derived.Test.YteedppngiknjlaaDoorCAskBI
import Derived.Test.YteedppngiknjlaaDoorCBkN
import Derived.Test.YteedppngiknjlaaDoorMBV
import Derived.Test.YteedppngiknjlaaDoorMBT
import Derived.Test.YteedppngiknjlaaDoorM5
import Derived.Test.YteedppngiknjlaaDoorMCur
import Derived.WalkKit
import Derived.WalkSpells
import Derived.WalkLawsBesides
import Derived.Outline
namespace Go.Proofs.YteedppngiknjlaaDoor
open Go.RowKit
theorem Tryd.infoB13 : (Tryd.prog.info? 4).map (fun i => (i.zero, i.size, i.bytes)) = some (some (.bool false), 1, 1) := by kernel_rfl
theorem parts13 {P : Program} {t : TypeId} {z : Value} {s b : Nat} (h : (P.info? t).map (fun i => (i.zero, i.size, i.bytes)) = some (some z, s, b)) : ∃ i, P.info? t = some i ∧ i.zero = some z ∧ i.size = s ∧ i.bytes = b := by
  obtain ⟨i, hi, he⟩ := Option.map_eq_some_iff.1 h
  simp only [Prod.mk.injEq] at he
  exact ⟨i, hi, he.1, he.2.1, he.2.2⟩
set_option linter.unusedSimpArgs false in
set_option maxHeartbeats 1600000 in
set_option maxRecDepth 100000 in
theorem implBoth_any (p u : Int) (ad : Option Addr) (cap : Nat) (ts : List Int) (a b : Addr) (w : World) (hn : ts.length ≤ 140737488355328) (hin : M4.IntsAt w ad ts) (hE : Er3 w a b) :
    Calls Tryd.prog 6 #[.int .i64 p, .int .i64 u, .slice ad ts.length cap] w fun e w' => ∃ a1 c1, e = .returned (.tuple #[.slice a1 (BK.both p u ts).length c1, .bool (BK.bothOk p u ts)]) ∧ w'.ownsRow w.heap.size 4 1 (.slice a1 (BK.both p u ts).length c1) (BK.both p u ts).length (BV.bv (BK.both p u ts)) ∧ Below w.heap.size w w' := by
  obtain ⟨i0, hi, hz0, hz1, hz2⟩ := parts13 Tryd.infoB13
  have NB : Hid (∀ W : World, Calls Tryd.prog 10 #[.int .i64 p, .int .i64 u] W fun e w' => e = .returned (.tuple #[(BK.newB p u).v, .bool (BK.okS p u)]) ∧ Below W.heap.size W w') := fun W => newBI_any p u W
  have AB : Hid (∀ (x : Bk) (t : Int) (W : World) (_ : Er3 W a b), Calls Tryd.prog 14 #[x.v, .int .i64 t] W fun e w' => e = .returned (.tuple #[(BK.ask x t).v, .bool (BK.letB x t), .bool (BK.levOk x t)]) ∧ Below W.heap.size W w') := fun x t W h => implAskB_any x t a b W h
  have HNO : Hid (BK.bothOk p u ts = false → [] = BK.both p u ts) := fun h => (BK.both_no h).symm
  have HYES : Hid (BK.OkUp (BK.newB p u) ts ts.length → BK.okS p u = true → ts.length ≤ 60 → BK.bothOk p u ts = true ∧ BK.tl (BK.newB p u) ts ts.length = BK.both p u ts) := fun h1 h2 h3 => by
    have := BK.both_iff.2 ⟨h2, h3, h1⟩; exact ⟨this, (BK.both_yes this).symm⟩
  have HS : Hid (BK.okS p u = false → BK.bothOk p u ts = false) := fun h => BK.no_s h
  have HL : Hid (60 < ts.length → BK.bothOk p u ts = false) := fun h => BK.no_l h
  have HK : Hid (∀ k, k < ts.length → BK.levOk (BK.st (BK.newB p u) ts k) (ts.getD k 0) = false → BK.bothOk p u ts = false) := fun k h h' => BK.no_k h h'
  generalize BK.both p u ts = L at *
  generalize BK.bothOk p u ts = Q at *
  generalize hb0 : BK.newB p u = b0 at *
  clear hb0
  have HIN : Hid _ := hin
  have HE : Hid _ := hE
  clear hin hE
  generalize BK.okS p u = K at *
  obtain ⟨bp, bu, bl, bt⟩ := b0
  go_enter Tryd.func6, Tryd.ntmps6
  go_wp2_with fail
  refine (NB.out _).mono ?_
  rintro e w1 ⟨rfl, hb1⟩
  have hA := BK.At4.new w1 (.int .i64 bp) (.int .i64 bu) (.int .i64 bl) (.int .i64 bt) 35 _ rfl
  have hB1 := hb1.alloc hb1.size (.cells #[.int .i64 bp, .int .i64 bu, .int .i64 bl, .int .i64 bt] 35)
  have hg : w.heap.size ≤ w1.heap.size := hb1.size
  clear NB hb1
  cases K
  · have hq := HS.out rfl
    subst hq
    have HR : Hid ([] = L) := HNO.out rfl
    clear HNO HYES HS HL HK AB hA
    go_wp2
    go_ret2
    exact ⟨none, 0, by rw [← HR.out]; rfl, by rw [← HR.out]; exact World.ownsRow_nil _ _ _ _, hB1⟩
  · by_cases hl : ts.length ≤ 60
    · have hl' : decide (60 < ts.length) = false := by simp; omega
      clear HS HL
      go_wp2_with (at_make; refine wpList_make_full _ rfl _ _ 26 rfl (w1.heap.size + 1) 4 i0 (.bool false) 1 Tryd.underlying26 hi hz0 hz1 .i64 .i64 _ _ ts.length rfl rfl rfl rfl ?_ ?_ ?_ ?_)
      · rw [hz2]; omega
      · unfold maxLen; omega
      · simp
      intro w2 hown hgrow
      have hs2 : (w1.alloc (.cells #[.int .i64 bp, .int .i64 bu, .int .i64 bl, .int .i64 bt] 35)).heap.size = w1.heap.size + 1 := by simp
      have hbA : Below (w1.heap.size + 1) _ w2 := (Below.refl _ _).grown hgrow (by rw [hs2]; exact Nat.le_refl _) (fun k hk => by cases hk)
      have hA2 := hA.below hbA (by omega)
      have hB2 : Below w.heap.size w w2 := hB1.trans (hbA.mono (by omega))
      rw [BV.made_bv, ← BK.fil_zero ⟨bp, bu, bl, bt⟩ ts] at hown
      generalize hgg : w1.heap.size = g at *
      clear hgrow hi hz0 hz1 hz2 hbA hA hB1 hs2 hgg
      go_wp2_with fail
      go_loopw [31] (fun iv wr => ∃ (k : Nat) (x : Bk), iv = .int .i64 k ∧ k ≤ ts.length ∧ Hid (BK.st ⟨bp, bu, bl, bt⟩ ts k = x) ∧ Hid (BK.OkUp ⟨bp, bu, bl, bt⟩ ts k) ∧ BK.At4 wr g (.int .i64 x.p) (.int .i64 x.u) (.int .i64 x.l) (.int .i64 x.t) 35 ∧ wr.ownsRow (g + 1) 4 1 (.slice (some ⟨g + 1, 0, none⟩) ts.length ts.length) ts.length (BV.bv (BK.fil ⟨bp, bu, bl, bt⟩ ts ts.length k)) ∧ Below w.heap.size w wr) (fun iv _ => (ts.length - intOf iv).toNat)
      case atStart => exact ⟨0, ⟨bp, bu, bl, bt⟩, rfl, by omega, show Hid (_ = _) from rfl, show Hid _ from BK.OkUp.zero _ _, hA2, hown, hB2⟩
      case round =>
        clear hA2 hown hB2
        obtain ⟨k, x, rfl, hk, hX, hO, hA, hown, hb⟩ := hrel
        by_cases hlk : k < ts.length
        · obtain ⟨b1, off, rfl, hlt, hc⟩ := (M4.IntsAt.below HIN.out hb).at hlk
          obtain ⟨k0, k1, k2, k3⟩ := hA.cells
          have hgl := hA.lt
          have HER : Hid _ := HE.out.below hb (Nat.le_refl _)
          have HX1 : Hid (BK.st ⟨bp, bu, bl, bt⟩ ts (k + 1) = BK.ask x (ts.getD k 0)) := by show BK.ask _ _ = _; rw [hX.out]
          have HFS : Hid ((BK.fil ⟨bp, bu, bl, bt⟩ ts ts.length k).set k (BK.letB x (ts.getD k 0)) = BK.fil ⟨bp, bu, bl, bt⟩ ts ts.length (k + 1)) := by
            show _ = _; rw [← hX.out]; exact BK.fil_set hlk
          have HF0 : (BV.bv (BK.fil ⟨bp, bu, bl, bt⟩ ts ts.length k))[k]? = some (.bool false) := by
            rw [BV.bv_get (by rw [BK.fil_len hk]; exact hlk), BK.fil_get hlk]
          have HKN : Hid (BK.levOk x (ts.getD k 0) = false → Q = false) := fun h => HK.out k hlk (by rw [hX.out]; exact h)
          have HKY : Hid (BK.levOk x (ts.getD k 0) = true → BK.OkUp ⟨bp, bu, bl, bt⟩ ts (k + 1)) := fun h => hO.out.succ (by rw [hX.out]; exact h)
          have AX : Hid _ := AB.out x (ts.getD k 0)
          generalize ts.getD k 0 = t at *
          generalize BK.fil ⟨bp, bu, bl, bt⟩ ts ts.length k = F0 at *
          generalize hF1 : BK.fil ⟨bp, bu, bl, bt⟩ ts ts.length (k + 1) = F1 at *
          have HF1 : Hid (_ = F1) := hF1
          clear hF1
          generalize BK.letB x t = M at *
          generalize BK.levOk x t = V at *
          generalize BK.ask x t = R at *
          obtain ⟨xp, xu, xl, xt⟩ := x
          obtain ⟨rp, ru, rl, rt⟩ := R
          clear hX hO
          go_wp2_with fail
          refine (AX.out _ HER.out).mono ?_
          rintro e w3 ⟨rfl, hb3⟩
          have hA3 := hA.below hb3 hgl
          have hown3 := M5.own_below hown hb3
          have hb03 := hb.trans (hb3.mono hb.size)
          obtain ⟨c0, c1, c2, c3⟩ := hA3.cells
          have z0 := hA3.free 0
          have z1 := hA3.free 1
          have z2 := hA3.free 2
          have z3 := hA3.free 3
          have hc3 : w3.cell? ⟨g + 1, k, none⟩ = some (.bool false) := by rw [hown3.cellAt k (by omega)]; exact HF0
          have hf3 := hown3.frozenAt k
          have hl3 := hA3.lt
          have hP := hA3.put (.int .i64 rp) (.int .i64 ru) (.int .i64 rl) (.int .i64 rt)
          have hOn : MC.Only g w3 ((((w3.setCell ⟨g, 0, none⟩ (.int .i64 rp)).setCell ⟨g, 1, none⟩ (.int .i64 ru)).setCell ⟨g, 2, none⟩ (.int .i64 rl)).setCell ⟨g, 3, none⟩ (.int .i64 rt)) := ((((MC.Only.refl g w3).setCell 0 _).setCell 1 _).setCell 2 _).setCell 3 _
          have hown4 := MC.own_only hown3 hOn (by omega)
          have hst := hown4.stored k (.bool M)
          rw [BV.bv_set, HFS.out] at hst
          have R1 : Hid _ := hst.1
          have R2 : Hid _ := hP.below (n := g + 1) ((Below.refl (g + 1) _).setCell (p := ⟨g + 1, k, none⟩) (by simp) (.bool M)) (by omega)
          have R3 : Hid _ := ((((hb03.setCell (p := ⟨g, 0, none⟩) hg (.int .i64 rp)).setCell (p := ⟨g, 1, none⟩) hg (.int .i64 ru)).setCell (p := ⟨g, 2, none⟩) hg (.int .i64 rl)).setCell (p := ⟨g, 3, none⟩) hg (.int .i64 rt)).setCell (p := ⟨g + 1, k, none⟩) (by simp only; omega) (.bool M)
          clear hst hown4 hOn hP hb03 hown3 hA3 hb3 hA hown HER AX HFS HF0 k0 k1 k2 k3 hgl hc hlt
          cases V
          · have hq := HKN.out rfl
            subst hq
            have HR : Hid ([] = L) := HNO.out rfl
            clear HKN HKY HNO HYES HK HX1 R1 R2
            go_wp2
            go_ret2
            exact ⟨none, 0, by rw [← HR.out]; rfl, by rw [← HR.out]; exact World.ownsRow_nil _ _ _ _, R3.out⟩
          · have HO1 : Hid _ := HKY.out rfl
            clear HKN HKY
            go_wp2
            go_roundw
            case rel => exact ⟨k + 1, ⟨rp, ru, rl, rt⟩, by go_num, by omega, HX1, HO1, R2.out, by rw [HF1.out]; exact R1.out, R3.out⟩
            case measure => simp [intOf]; omega
        · obtain rfl : k = ts.length := by omega
          obtain ⟨hq, hr⟩ := HYES.out hO.out trivial hl
          subst hq
          rw [BK.fil_all] at hown
          have hlen : L.length = ts.length := by rw [← hr, BK.tl_len]
          have HR : Hid (_ = L) := hr
          have HLN : Hid _ := hlen
          have HOW : Hid _ := hown
          clear hr hlen hown HYES HNO HK AB hX hO hA
          go_wp2
          go_ret2
          refine ⟨_, _, by rw [HLN.out]; rfl, ?_, hb⟩
          rw [HLN.out, ← HR.out]
          exact BV.own_le HOW.out (by omega)
    · have hq := HL.out (by omega)
      subst hq
      have hl' : decide (60 < ts.length) = true := by simp; omega
      have HR : Hid ([] = L) := HNO.out rfl
      clear HNO HYES HS HL HK AB hA
      go_wp2
      go_ret2
      exact ⟨none, 0, by rw [← HR.out]; rfl, by rw [← HR.out]; exact World.ownsRow_nil _ _ _ _, hB1⟩
end Go.Proofs.YteedppngiknjlaaDoor
