/- BothTell of the specification. -/
import Derived.Test.YteedppngiknjlaaDoorRows
import Derived.Test.YteedppngiknjlaaDoorCAskBS
import Derived.Test.YteedppngiknjlaaDoorCBkN
import Derived.Test.YteedppngiknjlaaDoorMBV
import Derived.Test.YteedppngiknjlaaDoorMBT
import Derived.Test.YteedppngiknjlaaDoorM5
import Derived.Test.YteedppngiknjlaaDoorMCur
import Derived.WalkKit
import Derived.WalkSpells
import Derived.WalkLawsBesides
import Derived.Outline
import Derived.Deep.MidRow
namespace Go.Proofs.YteedppngiknjlaaDoor
open Go.RowKit
theorem Tryd.infoB13s : (Tryd.prog.info? 4).map (fun i => (i.zero, i.size, i.bytes)) = some (some (.bool false), 1, 1) := by kernel_rfl
theorem Tryd.szBk : (Tryd.prog.info? 35).map (·.size) = some 4 := by kernel_rfl
theorem parts13s {P : Program} {t : TypeId} {z : Value} {s b : Nat} (h : (P.info? t).map (fun i => (i.zero, i.size, i.bytes)) = some (some z, s, b)) : ∃ i, P.info? t = some i ∧ i.zero = some z ∧ i.size = s ∧ i.bytes = b := by
  obtain ⟨i, hi, he⟩ := Option.map_eq_some_iff.1 h
  simp only [Prod.mk.injEq] at he
  exact ⟨i, hi, he.1, he.2.1, he.2.2⟩
set_option linter.unusedSimpArgs false in
set_option maxHeartbeats 1600000 in
set_option maxRecDepth 100000 in
theorem specBoth_any (p u : Int) (ad : Option Addr) (cap : Nat) (ts : List Int) (w : World) (hn : ts.length ≤ 140737488355328) (hin : M4.IntsAt w ad ts) :
    Calls Tryd.prog 7 #[.int .i64 p, .int .i64 u, .slice ad ts.length cap] w fun e w' => ∃ a1 c1, e = .returned (.tuple #[.slice a1 (BK.both p u ts).length c1, .bool (BK.bothOk p u ts)]) ∧ w'.ownsRow w.heap.size 4 1 (.slice a1 (BK.both p u ts).length c1) (BK.both p u ts).length (BV.bv (BK.both p u ts)) ∧ Below w.heap.size w w' := by
  obtain ⟨i0, hi, hz0, hz1, hz2⟩ := parts13s Tryd.infoB13s
  have NB : Hid (∀ W : World, Calls Tryd.prog 27 #[.int .i64 p, .int .i64 u] W fun e w' => e = .returned (.tuple #[(BK.newB p u).v, .bool (BK.okS p u)]) ∧ Below W.heap.size W w') := fun W => newBS_any p u W
  have AB : Hid (∀ (x : Bk) (t : Int) (W : World), Calls Tryd.prog 21 #[x.v, .int .i64 t] W fun e w' => e = .returned (.tuple #[(BK.ask x t).v, .bool (BK.letB x t), .bool (BK.levOk x t)]) ∧ Below W.heap.size W w') := fun x t W => specAskB_any x t W
  have HNO : Hid (BK.bothOk p u ts = false → [] = BK.both p u ts) := fun h => (BK.both_no h).symm
  have HYES : Hid (BK.OkUp (BK.newB p u) ts ts.length → BK.okS p u = true → ts.length ≤ 60 → BK.bothOk p u ts = true ∧ BK.tl (BK.newB p u) ts ts.length = BK.both p u ts) := fun h1 h2 h3 => by
    have := BK.both_iff.2 ⟨h2, h3, h1⟩; exact ⟨this, (BK.both_yes this).symm⟩
  have HS : Hid (BK.okS p u = false → BK.bothOk p u ts = false) := fun h => BK.no_s h
  have HL : Hid (60 < ts.length → BK.bothOk p u ts = false) := fun h => BK.no_l h
  have HK : Hid (∀ k, k < ts.length → BK.levOk (BK.st (BK.newB p u) ts k) (ts.getD k 0) = false → BK.bothOk p u ts = false) := fun k h h' => BK.no_k h h'
  generalize BK.both p u ts = L at *
  generalize BK.bothOk p u ts = Q at *
  generalize hb0 : BK.newB p u = b0 at *
  clear hb0
  have HIN : Hid _ := hin
  clear hin
  generalize BK.okS p u = K at *
  obtain ⟨bp, bu, bl, bt⟩ := b0
  go_enter Tryd.func7, Tryd.ntmps7
  go_wp2_with fail
  refine (NB.out _).mono ?_
  rintro e w1 ⟨rfl, hb1⟩
  have hA := BK.At4.new w1 (.int .i64 bp) (.int .i64 bu) (.int .i64 bl) (.int .i64 bt) 35 _ rfl
  have hB1 := hb1.alloc hb1.size (.cells #[.int .i64 bp, .int .i64 bu, .int .i64 bl, .int .i64 bt] 35)
  have hg : w.heap.size ≤ w1.heap.size := hb1.size
  have hs1 : (w1.alloc (.cells #[.int .i64 bp, .int .i64 bu, .int .i64 bl, .int .i64 bt] 35)).heap.size = w1.heap.size + 1 := by simp
  clear NB hb1
  cases K
  · have hq := HS.out rfl
    subst hq
    have HR : Hid ([] = L) := HNO.out rfl
    clear HNO HYES HS HL HK AB hA hs1
    go_wp2
    go_ret2
    exact ⟨none, 0, by rw [← HR.out]; rfl, by rw [← HR.out]; exact World.ownsRow_nil _ _ _ _, hB1⟩
  · by_cases hl : ts.length ≤ 60
    · have hl' : decide (60 < ts.length) = false := by simp; omega
      clear HS HL
      go_wp2_with fail
      generalize w1.alloc (.cells #[.int .i64 bp, .int .i64 bu, .int .i64 bl, .int .i64 bt] 35) = W1 at *
      generalize hgg : w1.heap.size = g at *
      clear hgg
      go_loopw [10, 31] (fun ov iv wr => ∃ (k : Nat) (x : Bk), iv = .int .i64 k ∧ k ≤ ts.length ∧ Hid (BK.st ⟨bp, bu, bl, bt⟩ ts k = x) ∧ Hid (BK.OkUp ⟨bp, bu, bl, bt⟩ ts k) ∧ BK.At4 wr g (.int .i64 x.p) (.int .i64 x.u) (.int .i64 x.l) (.int .i64 x.t) 35 ∧ wr.ownsRow (g + 1) 4 1 ov k (BV.bv (BK.tl ⟨bp, bu, bl, bt⟩ ts k)) ∧ Below w.heap.size w wr ∧ g + 1 ≤ wr.heap.size) (fun _ iv _ => (ts.length - intOf iv).toNat)
      case atStart => exact ⟨0, ⟨bp, bu, bl, bt⟩, rfl, by omega, show Hid (_ = _) from rfl, show Hid _ from BK.OkUp.zero _ _, hA, World.ownsRow_nil _ _ _ _, hB1, by omega⟩
      case round =>
        clear hA hB1 hs1
        obtain ⟨k, x, rfl, hk, hX, hO, hA, hown, hb, hgs⟩ := hrel
        by_cases hlk : k < ts.length
        · obtain ⟨b1, off, rfl, hlt, hc⟩ := (M4.IntsAt.below HIN.out hb).at hlk
          obtain ⟨k0, k1, k2, k3⟩ := hA.cells
          have hgl := hA.lt
          have HX1 : Hid (BK.st ⟨bp, bu, bl, bt⟩ ts (k + 1) = BK.ask x (ts.getD k 0)) := by show BK.ask _ _ = _; rw [hX.out]
          have HFS : Hid (BV.bv (BK.tl ⟨bp, bu, bl, bt⟩ ts k) ++ [.bool (BK.letB x (ts.getD k 0))] = BV.bv (BK.tl ⟨bp, bu, bl, bt⟩ ts (k + 1))) := by
            show _ = _; rw [BK.tl_succ, BV.bv_app, hX.out]; rfl
          have HKN : Hid (BK.levOk x (ts.getD k 0) = false → Q = false) := fun h => HK.out k hlk (by rw [hX.out]; exact h)
          have HKY : Hid (BK.levOk x (ts.getD k 0) = true → BK.OkUp ⟨bp, bu, bl, bt⟩ ts (k + 1)) := fun h => hO.out.succ (by rw [hX.out]; exact h)
          have AX : Hid _ := AB.out x (ts.getD k 0)
          generalize ts.getD k 0 = t at *
          generalize BV.bv (BK.tl ⟨bp, bu, bl, bt⟩ ts k) = F0 at *
          generalize BK.letB x t = M at *
          generalize BK.levOk x t = V at *
          generalize BK.ask x t = R at *
          obtain ⟨xp, xu, xl, xt⟩ := x
          obtain ⟨rp, ru, rl, rt⟩ := R
          clear hX hO
          go_wp2_with fail
          refine (AX.out _).mono ?_
          rintro e w3 ⟨rfl, hb3⟩
          have hbs := hb.size
          have hb3s := hb3.size
          have hA30 := hA.below hb3 hgl
          have hA3 := hA30.alloc (.cells #[.int .i64 rp, .int .i64 ru, .int .i64 rl, .int .i64 rt] 35)
          have hown3 := (M5.own_below hown hb3).alloc (.cells #[.int .i64 rp, .int .i64 ru, .int .i64 rl, .int .i64 rt] 35)
          have hb03 := (hb.trans (hb3.mono hb.size)).alloc (by omega) (.cells #[.int .i64 rp, .int .i64 ru, .int .i64 rl, .int .i64 rt] 35)
          have hgl3 : g < w3.heap.size := by omega
          have hgs3 : g + 1 ≤ w3.heap.size := by omega
          clear hb3 hA hown AX k0 k1 k2 k3 hgl hc hlt hb
          cases V
          · have hq := HKN.out rfl
            subst hq
            have HR : Hid ([] = L) := HNO.out rfl
            clear HKN HKY HNO HYES HK HX1 HFS hA3 hA30 hown3
            go_wp2
            go_ret2
            exact ⟨none, 0, by rw [← HR.out]; rfl, by rw [← HR.out]; exact World.ownsRow_nil _ _ _ _, hb03⟩
          · have HO1 : Hid _ := HKY.out rfl
            have HP : Hid (BK.At4 ((w3.alloc (.cells #[.int .i64 rp, .int .i64 ru, .int .i64 rl, .int .i64 rt] 35)).setCells g 0 (#[.int .i64 rp, .int .i64 ru, .int .i64 rl, .int .i64 rt] : Array Value).toList) g (.int .i64 rp) (.int .i64 ru) (.int .i64 rl) (.int .i64 rt) 35) := hA3.put (.int .i64 rp) (.int .i64 ru) (.int .i64 rl) (.int .i64 rt)
            have hOn : MC.Only g (w3.alloc (.cells #[.int .i64 rp, .int .i64 ru, .int .i64 rl, .int .i64 rt] 35)) ((w3.alloc (.cells #[.int .i64 rp, .int .i64 ru, .int .i64 rl, .int .i64 rt] 35)).setCells g 0 (#[.int .i64 rp, .int .i64 ru, .int .i64 rl, .int .i64 rt] : Array Value).toList) := ((((MC.Only.refl g (w3.alloc (.cells #[.int .i64 rp, .int .i64 ru, .int .i64 rl, .int .i64 rt] 35))).setCell 0 _).setCell 1 _).setCell 2 _).setCell 3 _
            have HO4 : Hid (World.ownsRow ((w3.alloc (.cells #[.int .i64 rp, .int .i64 ru, .int .i64 rl, .int .i64 rt] 35)).setCells g 0 (#[.int .i64 rp, .int .i64 ru, .int .i64 rl, .int .i64 rt] : Array Value).toList) _ _ _ _ _ _) := MC.own_only hown3 hOn (by omega)
            have HR3 : Hid (Below w.heap.size w ((w3.alloc (.cells #[.int .i64 rp, .int .i64 ru, .int .i64 rl, .int .i64 rt] 35)).setCells g 0 (#[.int .i64 rp, .int .i64 ru, .int .i64 rl, .int .i64 rt] : Array Value).toList)) := (((hb03.setCell (p := ⟨g, 0, none⟩) hg (.int .i64 rp)).setCell (p := ⟨g, 1, none⟩) hg (.int .i64 ru)).setCell (p := ⟨g, 2, none⟩) hg (.int .i64 rl)).setCell (p := ⟨g, 3, none⟩) hg (.int .i64 rt)
            have hsz4 : Hid (w3.heap.size + 1 = ((w3.alloc (.cells #[.int .i64 rp, .int .i64 ru, .int .i64 rl, .int .i64 rt] 35)).setCells g 0 (#[.int .i64 rp, .int .i64 ru, .int .i64 rl, .int .i64 rt] : Array Value).toList).heap.size) := by show _ = _; simp [World.setCells]
            have TH : Hid (World.there (w3.alloc (.cells #[.int .i64 rp, .int .i64 ru, .int .i64 rl, .int .i64 rt] 35)) g 0 4) := fun j hj => by
              obtain ⟨c0, c1, c2, c3⟩ := hA3.cells
              refine ⟨?_, by rw [Nat.zero_add]; exact hA3.free j⟩
              rw [Nat.zero_add]
              rcases (show j = 0 ∨ j = 1 ∨ j = 2 ∨ j = 3 by omega) with rfl | rfl | rfl | rfl
              · rw [c0]; rfl
              · rw [c1]; rfl
              · rw [c2]; rfl
              · rw [c3]; rfl
            have ON : Hid ((#[.int .i64 rp, .int .i64 ru, .int .i64 rl, .int .i64 rt] : Array Value).all (·.oneCell') = true) := all_oneCell_toArray (cs := [.int .i64 rp, .int .i64 ru, .int .i64 rl, .int .i64 rt]) (by intro v hv; simp at hv; rcases hv with rfl | rfl | rfl | rfl <;> rfl)
            have LR : Hid (World.rangeAt (w3.alloc (.cells #[.int .i64 rp, .int .i64 ru, .int .i64 rl, .int .i64 rt] 35)) w3.heap.size 0 [.int .i64 rp, .int .i64 ru, .int .i64 rl, .int .i64 rt]) := fun j v hv => by
              obtain ⟨c0, c1, c2, c3⟩ := (BK.At4.new w3 (.int .i64 rp) (.int .i64 ru) (.int .i64 rl) (.int .i64 rt) 35 _ rfl).cells
              rw [Nat.zero_add]
              match j, hv with
              | 0, hv => rw [c0]; exact hv
              | 1, hv => rw [c1]; exact hv
              | 2, hv => rw [c2]; exact hv
              | 3, hv => rw [c3]; exact hv
            clear hOn hA3 hA30 hown3 hb03 HKN HKY
            go_wp2_with (first
              | (refine wpList_load_mid rfl 35 (.tmp 13) rfl w3.heap.size 0 rfl [.int .i64 rp, .int .i64 ru, .int .i64 rl, .int .i64 rt] _ LR.out Tryd.underlying35 rfl Tryd.szBk ?_; refine wpList_store_mid rfl 35 (.tmp 8) (.tmp 44) rfl g 0 #[.int .i64 rp, .int .i64 ru, .int .i64 rl, .int .i64 rt] rfl rfl ?s1 ?s2 ?s3 ?_; exact TH.out; exact Tryd.szBk; exact ON.out; clear TH LR ON; generalize World.setCells _ _ _ _ = W4 at *)
              | (at_builtin; refine wpList_append_own _ rfl _ _ 26 rfl (g + 1) 4 i0 (.bool false) 1 1 Tryd.underlying26 hi hz0 hz1 hz2 rfl (by decide) _ _ _ rfl (World.ownsRow.alloc HO4.out _) ⟨W4.heap.size, 0, none⟩ 1 1 [.bool M] rfl rfl ?c1 ?c2 ?c3 ?c4 ?c5 ?_))
            case c1 => exact M2.new1 _ _ _
            case c2 => exact BV.one1 _
            case c3 => unfold maxLen; omega
            case c4 => omega
            case c5 => have := hsz4.out; simp; omega
            intro v' wn hown1 hgrow _
            rw [HFS.out] at hown1
            have R1 : Hid (World.ownsRow _ _ _ _ _ _ _) := hown1
            have hs4 := hsz4.out
            have hbN : Below (g + 1) (W4.alloc (.cells #[.bool M] 4)) wn := (Below.refl (g + 1) _).grown hgrow (by simp; omega) (fun j hj => (HO4.out.lt j hj).1)
            have R2 : Hid _ := (HP.out.alloc (.cells #[.bool M] 4)).below hbN (by omega)
            have R3 : Hid _ := (HR3.out.alloc (by omega) (.cells #[.bool M] 4)).trans (hbN.mono (by omega))
            have hsN := hbN.size
            simp only [World.alloc, Array.size_push] at hsN
            have hsN' : g + 1 ≤ wn.heap.size := by omega
            clear hown1 hgrow hbN HO4 HP HR3 hsz4 HFS hsN hs4
            go_wp2
            go_roundw
            case rel => exact ⟨k + 1, ⟨rp, ru, rl, rt⟩, by go_num, by omega, HX1, HO1, R2.out, R1.out, R3.out, hsN'⟩
            case measure => simp [intOf]; omega
        · obtain rfl : k = ts.length := by omega
          obtain ⟨hq, hr⟩ := HYES.out hO.out trivial hl
          subst hq
          rw [hr] at hown
          have hlen : L.length = ts.length := by rw [← hr, BK.tl_len]
          obtain ⟨a1, c1, hv⟩ := BV.own_slice hown
          rw [hv] at hown ⊢
          have HLN : Hid _ := hlen
          have HOW : Hid (World.ownsRow _ _ _ _ _ _ _) := hown
          clear hr hlen hown HYES HNO HK AB hX hO hA hv
          go_wp2
          go_ret2
          refine ⟨a1, c1, by rw [HLN.out]; rfl, ?_, hb⟩
          rw [HLN.out]
          exact BV.own_le HOW.out (by omega)
    · have hq := HL.out (by omega)
      subst hq
      have hl' : decide (60 < ts.length) = true := by simp; omega
      have HR : Hid ([] = L) := HNO.out rfl
      clear HNO HYES HS HL HK AB hA hs1
      go_wp2
      go_ret2
      exact ⟨none, 0, by rw [← HR.out]; rfl, by rw [← HR.out]; exact World.ownsRow_nil _ _ _ _, hB1⟩
end Go.Proofs.YteedppngiknjlaaDoor
