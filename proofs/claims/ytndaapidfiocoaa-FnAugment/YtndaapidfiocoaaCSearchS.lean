/- How much more a pipe bears from a node: l8Room of the specification. l8Search, the specification's. -/
import Derived.Test.YtndaapidfiocoaaRows
import Derived.Test.YtndaapidfiocoaaMFW
import Derived.Test.YtndaapidfiocoaaMRetB
import Derived.Test.YtndaapidfiocoaaMCur
import Derived.WalkKit
import Derived.WalkSpells
import Derived.WalkLawsBesides
import Derived.Outline
import Derived.Deep.QuietTactic
import Derived.BigQuiet
import Derived.Test.YtndaapidfiocoaaMFW
import Derived.Test.YtndaapidfiocoaaMInfo
import Derived.Deep.RegionHeld3
namespace Go.Proofs.Ytndaapidfiocoaa
open Go.RowKit
set_option linter.unusedSimpArgs false in
set_option maxHeartbeats 1600000 in
set_option maxRecDepth 100000 in
theorem l8Room_any (c : I3) (v n : Int) (w : World) (hg : FL.Good c) (hv0 : 0 ≤ v) (hv1 : v ≤ 100) :
    Calls Try.prog 54 #[c.v, .int .i64 v, .int .i64 n] w fun e w' => e = .returned (.tuple #[.int .i64 (FL.rm c v n), .int .i64 (FL.nx c n)]) ∧ Below w.heap.size w w' := by
  obtain ⟨x0, x1, x2⟩ := c
  have hc0 : 0 ≤ x2 := hg.c0
  have hc1 : x2 ≤ 100 := hg.c1
  clear hg
  have HB : Hid (∀ o, Below w.heap.size w (w.alloc o)) := fun o => (Below.refl _ w).alloc (Nat.le_refl _) o
  obtain ⟨R, hR⟩ : ∃ R, FL.rm ⟨x0, x1, x2⟩ v n = R := ⟨_, rfl⟩
  obtain ⟨T, hT⟩ : ∃ T, FL.nx ⟨x0, x1, x2⟩ n = T := ⟨_, rfl⟩
  rw [hR, hT]
  simp only [FL.rm, FL.nx] at hR hT
  by_cases h0 : x0 = n
  · have hF : Hid (R = x2 - v) := by show _ = _; rw [← hR, if_pos h0]
    have hF2 : Hid (T = x1) := by show _ = _; rw [← hT, if_pos h0]
    clear hR hT
    subst h0
    go_enter Try.func54, Try.ntmps54
    go_wp2_with fail
    go_quiet (fail)
    have HB2 : Hid _ := below_drewN (HB.out (.cells #[.int .i64 x0, .int .i64 x1, .int .i64 x2] 56)) nq
    generalize ((w.alloc (.cells #[.int .i64 x0, .int .i64 x1, .int .i64 x2] 56)).drewN nq) = w2 at *
    clear HB
    go_wp2
    go_ret2
    exact ⟨by rw [hF.out, hF2.out]; rfl, HB2.out⟩
  · by_cases h1 : x1 = n
    · have hF : Hid (R = v) := by show _ = _; rw [← hR, if_neg h0, if_pos h1]
      have hF2 : Hid (T = x0) := by show _ = _; rw [← hT, if_neg h0, if_pos h1]
      clear hR hT
      subst h1
      go_enter Try.func54, Try.ntmps54
      go_wp2_with fail
      go_quiet (fail)
      have HB2 : Hid _ := below_drewN (HB.out (.cells #[.int .i64 x0, .int .i64 x1, .int .i64 x2] 56)) nq
      generalize ((w.alloc (.cells #[.int .i64 x0, .int .i64 x1, .int .i64 x2] 56)).drewN nq) = w2 at *
      clear HB
      go_wp2
      go_ret2
      exact ⟨by rw [hF.out, hF2.out]; rfl, HB2.out⟩
    · have hF : Hid (R = 0) := by show _ = _; rw [← hR, if_neg h0, if_neg h1]
      have hF2 : Hid (T = 0) := by show _ = _; rw [← hT, if_neg h0, if_neg h1]
      clear hR hT
      go_enter Try.func54, Try.ntmps54
      go_wp2
      go_ret2
      exact ⟨by rw [hF.out, hF2.out]; rfl, HB.out _⟩
end Go.Proofs.Ytndaapidfiocoaa
namespace Go.Proofs.Ytndaapidfiocoaa
open Go.RowKit
set_option linter.unusedSimpArgs false in
set_option maxHeartbeats 3200000 in
set_option maxRecDepth 100000 in
theorem l8Search_any (a b : Option Addr) (ca cb : Nat) (xs : List I3) (fs : List Int) (f : Int) (w : World) (hok : FL.okP xs = true) (hf0 : 0 ≤ f) (hf1 : f ≤ 7) (hl : fs.length = xs.length) (hfit : FL.fitUp xs fs xs.length) (hin : MI3.RowAt w a xs) (hos : M4.IntsAt w b fs) :
    Calls Try.prog 34 #[.slice a xs.length ca, .int .i64 f, .slice b fs.length cb] w fun e w' => ∃ g1 c1, e = .returned (.slice (some ⟨g1, 0, none⟩) 8 c1) ∧ w'.ownsRow w.heap.size 3 1 (.slice (some ⟨g1, 0, none⟩) 8 c1) 8 (M4.iv (FL.srch xs fs f).by_) ∧ Below w.heap.size w w' := by
  obtain ⟨i0, hi, hz0, hz1, hz2⟩ := info_parts Try.info3
  have HI : Hid (MI3.RowAt w a xs) := hin
  have HO : Hid (M4.IntsAt w b fs) := hos
  have hlen : xs.length ≤ 20 := ((FL.okP_iff xs).1 hok).1
  have GC : Hid (∀ k, k < xs.length → FL.Good (MI3.at_ xs k)) := fun k hk => FL.okP_good hok hk
  have GF : Hid (∀ k, k < xs.length → 0 ≤ fs.getD k 0 ∧ fs.getD k 0 ≤ (MI3.at_ xs k).a2) := fun k hk => hfit k hk
  have TR : Hid (∀ i, FL.Tree xs fs f (FL.at8 xs fs f i)) := fun i => FL.at8_tree hok ⟨hf0, hf1⟩ i
  have SC : Hid (∀ i, i < (FL.at8 xs fs f i).q.length → ∀ k, k ≤ xs.length → FL.Scan xs fs f ((FL.at8 xs fs f i).q.getD i 0) (FL.at8 xs fs f i) (FL.scan xs fs ((FL.at8 xs fs f i).q.getD i 0) (FL.at8 xs fs f i) k)) := fun i h k hk => by
    have T := FL.at8_tree (fs := fs) hok ⟨hf0, hf1⟩ i
    obtain ⟨h1, h2, h3⟩ := T.inq i h
    exact FL.scan_ok hok ⟨hf0, hf1⟩ T ⟨h1, h2⟩ h3 k hk
  rw [hl]
  have HL : Hid _ := hl
  obtain ⟨fn, rfl⟩ := Int.eq_ofNat_of_zero_le hf0
  have hfn : fn < 8 := by omega
  clear hin hok hos hfit hl hf0 hf1
  go_enter Try.func34, Try.ntmps34
  go_wp2
  go_loopw [7, 8] (fun u iv wr => ∃ k : Nat, iv = .int .i64 k ∧ k ≤ 8 ∧ wr.ownsRow w.heap.size 3 1 u k (M4.iv (List.replicate k (-1))) ∧ Below w.heap.size w wr) (fun _ iv _ => (8 - intOf iv).toNat)
  case atStart => exact ⟨0, rfl, by omega, World.ownsRow_nil _ _ _ _, Below.refl _ _⟩
  case round =>
    obtain ⟨k, rfl, hk, hT, hb⟩ := hrel
    have hbs := hb.size
    by_cases hl : k < 8
    · have hT' : Hid _ := hT
      clear hT
      have hk0 : (k : Int) < 8 := by omega
      go_wp2_with (at_builtin; refine wpList_append_own_at _ rfl _ _ 26 rfl w.heap.size 3 i0 (.int .i64 0) 1 8 Try.underlying26 hi hz0 hz1 hz2 rfl (by decide) _ _ _ rfl (World.ownsRow.alloc hT'.out _) ⟨wr.heap.size, 0, none⟩ 1 1 [.int .i64 (-1)] rfl rfl ?c1 ?c2 ?c3 ?c4 ?c5 ?_)
      case c1 => exact M2.new1 _ _ _
      case c2 => exact M2.one1 _ _
      case c3 => unfold maxLen; omega
      case c4 => omega
      case c5 => simp; omega
      intro u' w2 hown2 hgrow2 _ loc2
      rw [FL.iv_snoc] at hown2
      have hb2 : Below w.heap.size w w2 := (hb.alloc hbs _).grown hgrow2 (by simp; omega) (fun j hj => (World.ownsRow.lt hT'.out j hj).1)
      clear hT' hgrow2 loc2 hb hbs
      go_wp2
      go_roundw
      case rel => exact ⟨k + 1, by go_num, by omega, hown2, hb2⟩
      case measure => simp [intOf]; omega
    · obtain rfl : k = 8 := by omega
      obtain ⟨g1, c1, rfl⟩ := FL.own_some hT
      have l1 := hT.lt g1 rfl
      have cf : wr.cell? ⟨g1, fn, none⟩ = some (.int .i64 (-1)) := by
        rw [hT.cellAt fn (by omega)]; exact M4.iv_get _ _ _ (by rw [List.getElem?_replicate, if_pos hfn])
      have ff := hT.frozenAt fn
      have hS := hT.stored fn (.int .i64 (-2))
      rw [M4.iv_set] at hS
      have hb2 : Below w.heap.size w (wr.setCell ⟨g1, fn, none⟩ (.int .i64 (-2))) := hb.trans (((MC.Only.refl g1 wr).setCell fn _).below l1.1 hbs)
      have HS1 : Hid _ := hS.1
      have ff0 : (0 : Int) ≤ (fn : Int) := by omega
      have ff8 : (fn : Int) < 8 := by omega
      clear hS hT hb hbs
      have HSQ : Hid (FL.SQ w.heap.size w ((wr.setCell ⟨g1, fn, none⟩ (.int .i64 (-2))).alloc (.cells #[.int .i64 (fn : Int)] 3)) g1 c1 (.slice (some ⟨wr.heap.size, 0, none⟩) 1 1) (FL.start (fn : Int))) := by
        have e1 : (wr.setCell ⟨g1, fn, none⟩ (.int .i64 (-2))).heap.size = wr.heap.size := by simp
        refine ⟨World.ownsRow.alloc HS1.out _, ?_, fun e => by simp [Value.ownBlock] at e; omega, hb2.alloc hb2.size _⟩
        have := World.ownsRow_lit (base := w.heap.size) (e := 3) (size := 1) (wr.setCell ⟨g1, fn, none⟩ (.int .i64 (-2))) #[.int .i64 (fn : Int)] 1 (by rw [e1]; omega) (by unfold maxLen; omega) (by simp)
        rw [e1] at this
        simpa [FL.start, M4.iv] using this
      clear HS1 hb2
      go_wp2
      generalize (wr.setCell ⟨g1, fn, none⟩ (.int .i64 (-2))).alloc (.cells #[.int .i64 (fn : Int)] 3) = W0 at *
      generalize wr.heap.size = q0 at *
      clear cf ff l1 hk hl
      go_loopw [9, 10] (fun qv iv wo => ∃ i : Nat, iv = .int .i64 i ∧ i ≤ (FL.at8 xs fs (fn : Int) i).q.length ∧ FL.SQ w.heap.size w wo g1 c1 qv (FL.at8 xs fs (fn : Int) i)) (fun _ iv _ => (8 - intOf iv).toNat)
      case atStart => exact ⟨0, rfl, Nat.zero_le _, HSQ.out⟩
      case round =>
        clear HSQ
        obtain ⟨i, rfl, hiq, hS⟩ := hrel
        have hS8 := (TR.out i).short
        by_cases hlt : i < (FL.at8 xs fs (fn : Int) i).q.length
        · have SCi : Hid _ := SC.out i hlt
          have hNX : Hid (FL.at8 xs fs (fn : Int) (i + 1) = FL.scan xs fs ((FL.at8 xs fs (fn : Int) i).q.getD i 0) (FL.at8 xs fs (fn : Int) i) xs.length) := by show _ = _; rw [FL.at8, if_pos hlt]
          have hSz : Hid _ := hS
          obtain ⟨gq, cq, hq, _, _⟩ := hS.node hlt
          have hlt' : (i : Int) < ((FL.at8 xs fs (fn : Int) i).q.length : Int) := by omega
          clear hS
          subst hq
          generalize hst : FL.at8 xs fs (fn : Int) i = s0 at *
          generalize hnn : s0.q.getD i 0 = n at *
          have HNN : Hid _ := hnn
          clear hst hnn
          have HQL : Hid (i < s0.q.length) := hlt
          generalize hql : s0.q.length = ql at *
          have HQ2 : Hid (s0.q.length = ql) := hql
          clear hql
          go_wp2
          go_loopw [9, 35] (fun qv kv wi => ∃ k : Nat, kv = .int .i64 k ∧ k ≤ xs.length ∧ FL.SQ w.heap.size w wi g1 c1 qv (FL.scan xs fs n s0 k)) (fun _ kv _ => (xs.length - intOf kv).toNat)
          case atStart => exact ⟨0, rfl, by omega, hSz.out⟩
          case round =>
            clear hSz
            obtain ⟨k, rfl, hk, hS⟩ := hrel
            by_cases hlk : k < xs.length
            · have Sc := SCi.out k hk
              have hmore := Sc.more i (by rw [HQ2.out]; exact HQL.out)
              rw [HNN.out] at hmore
              obtain ⟨gq', cq', hv, hlq, cq0⟩ := hS.node hmore.1
              rw [hmore.2] at cq0
              have hl8 : (FL.scan xs fs n s0 k).by_.length = 8 := Sc.tree.len
              have G := GC.out k hlk
              have F := GF.out k hlk
              have hE0 : FL.scan xs fs n s0 (k + 1) = FL.step xs fs n (FL.scan xs fs n s0 k) k := rfl
              have EN : Hid (FL.goes xs fs (FL.scan xs fs n s0 k) n k = false → FL.scan xs fs n s0 (k + 1) = FL.scan xs fs n s0 k) := fun h => by rw [hE0]; unfold FL.step; rw [if_neg (by rw [h]; decide)]
              have EY : Hid (FL.goes xs fs (FL.scan xs fs n s0 k) n k = true → FL.scan xs fs n s0 (k + 1) = FL.stepd xs fs n (FL.scan xs fs n s0 k) k) := fun h => by rw [hE0]; unfold FL.step; rw [if_pos h]
              clear hE0
              have hqs := Sc.tree.short
              obtain ⟨b4, off4, rfl, hlt4, e0, e1, e2⟩ := (HI.out.below hS.bl).at hlk
              obtain ⟨b5, off5, rfl, hlt5, d0⟩ := M4.IntsAt.at (M4.IntsAt.below HO.out hS.bl) (k := k) (by rw [HL.out]; exact hlk)
              have NW : Hid (0 < FL.rm (MI3.at_ xs k) (fs.getD k 0) n → 0 ≤ FL.nx (MI3.at_ xs k) n ∧ FL.nx (MI3.at_ xs k) n ≤ 7) := fun h => ⟨(FL.nx_within G h).1, (FL.nx_within G h).2.1⟩
              have RM : Hid (∀ W : World, Calls Try.prog 54 #[(MI3.at_ xs k).v, .int .i64 (fs.getD k 0), .int .i64 n] W fun e w' => e = .returned (.tuple #[.int .i64 (FL.rm (MI3.at_ xs k) (fs.getD k 0) n), .int .i64 (FL.nx (MI3.at_ xs k) n)]) ∧ Below W.heap.size W w') := fun W => l8Room_any _ _ n W G F.1 (by have := G.c1; omega)
              have hgo : Hid (FL.goes xs fs (FL.scan xs fs n s0 k) n k = (decide (0 < FL.rm (MI3.at_ xs k) (fs.getD k 0) n) && decide ((FL.scan xs fs n s0 k).by_.getD (FL.nx (MI3.at_ xs k) n).toNat 0 = -1))) := rfl
              have hsd : Hid (FL.stepd xs fs n (FL.scan xs fs n s0 k) k = ⟨(FL.scan xs fs n s0 k).by_.set (FL.nx (MI3.at_ xs k) n).toNat (k : Int), (FL.scan xs fs n s0 k).q ++ [FL.nx (MI3.at_ xs k) n], (FL.stepd xs fs n (FL.scan xs fs n s0 k) k).L⟩) := rfl
              have HCL : Hid (∀ (W : World) (j : Nat), FL.SQ w.heap.size w W g1 c1 u9 (FL.scan xs fs n s0 k) → j < 8 → W.cell? ⟨g1, j, none⟩ = some (.int .i64 ((FL.scan xs fs n s0 k).by_.getD j 0))) := fun W j h hj => h.cell hl8 hj
              have hSA := hS.kept (Nat.le_refl _) ((Below.refl _ wr).alloc (Nat.le_refl _) (.cells #[.int .i64 (MI3.at_ xs k).a0, .int .i64 (MI3.at_ xs k).a1, .int .i64 (MI3.at_ xs k).a2] 56))
              have HS : Hid _ := hSA
              have HIQ : Hid (i < (FL.scan xs fs n s0 k).q.length) := hmore.1
              clear hS hSA Sc hmore G F GC GF HI HO SCi hl8
              generalize hs1 : FL.scan xs fs n s0 k = s1 at *
              clear hs1
              subst hv
              generalize hx : MI3.at_ xs k = x at *
              generalize hy : fs.getD k 0 = y at *
              clear hx hy
              obtain ⟨x0, x1, x2⟩ := x
              simp only at e0 e1 e2 HS
              generalize FL.rm ⟨x0, x1, x2⟩ y n = r at *
              generalize FL.nx ⟨x0, x1, x2⟩ n = t at *
              have hii : i < s1.q.length := HIQ.out
              clear HIQ
              have HQS : Hid (s1.q.length ≤ 8) := hqs
              clear hqs
              have h8 : s1.q.length ≤ 8 := HQS.out
              generalize hm : s1.q.length = m at *
              have HM1 : Hid (s1.q.length = m) := hm
              clear hm
              have ii0 : (0 : Int) ≤ (i : Int) := by omega
              have iim : (i : Int) < (m : Int) := by omega
              have q1 : (wr.alloc (.cells #[.int .i64 x0, .int .i64 x1, .int .i64 x2] 56)).cell? ⟨gq', i, none⟩ = some (.int .i64 n) := by rw [World.cell?_alloc_lt _ _ _ hlq]; exact cq0
              have q2 : (wr.alloc (.cells #[.int .i64 x0, .int .i64 x1, .int .i64 x2] 56)).cell? ⟨b5, off5 + k, none⟩ = some (.int .i64 y) := by rw [World.cell?_alloc_lt _ _ _ hlt5]; exact d0
              have f0 : (wr.alloc (.cells #[.int .i64 x0, .int .i64 x1, .int .i64 x2] 56)).cell? ⟨wr.heap.size, 0, none⟩ = some (.int .i64 x0) := by simp
              have f1 : (wr.alloc (.cells #[.int .i64 x0, .int .i64 x1, .int .i64 x2] 56)).cell? ⟨wr.heap.size, 1, none⟩ = some (.int .i64 x1) := by simp
              have f2 : (wr.alloc (.cells #[.int .i64 x0, .int .i64 x1, .int .i64 x2] 56)).cell? ⟨wr.heap.size, 2, none⟩ = some (.int .i64 x2) := by simp
              have z0 : wr.heap.size < (wr.alloc (.cells #[.int .i64 x0, .int .i64 x1, .int .i64 x2] 56)).heap.size := by simp
              have z1 : gq' < (wr.alloc (.cells #[.int .i64 x0, .int .i64 x1, .int .i64 x2] 56)).heap.size := by simp; omega
              have z2 : b5 < (wr.alloc (.cells #[.int .i64 x0, .int .i64 x1, .int .i64 x2] 56)).heap.size := by simp; omega
              have Q1 : Hid _ := q1
              have Q2 : Hid _ := q2
              have F0 : Hid _ := f0
              have F1 : Hid _ := f1
              have F2 : Hid _ := f2
              have Z0 : Hid _ := z0
              have Z1 : Hid _ := z1
              have Z2 : Hid _ := z2
              clear q1 q2 f0 f1 f2 z0 z1 z2
              go_wp2_with fail
              clear e0 e1 e2 d0 cq0 hlt4 hlt5 hlq
              generalize wr.alloc (.cells #[.int .i64 x0, .int .i64 x1, .int .i64 x2] 56) = W1 at *
              generalize wr.heap.size = q at *
              have q1 := Q1.out
              have q2 := Q2.out
              have f0 := F0.out
              have f1 := F1.out
              have f2 := F2.out
              have z0 := Z0.out
              have z1 := Z1.out
              have z2 := Z2.out
              clear Q1 Q2 F0 F1 F2 Z0 Z1 Z2
              go_region_held3 (fun w' => w'.cell? ⟨q, 0, none⟩ = some (.int .i64 x0) ∧ w'.cell? ⟨q, 1, none⟩ = some (.int .i64 x1) ∧ w'.cell? ⟨q, 2, none⟩ = some (.int .i64 x2) ∧ w'.cell? ⟨gq', i, none⟩ = some (.int .i64 n) ∧ w'.cell? ⟨b5, off5 + k, none⟩ = some (.int .i64 y)) (first | assumption | go_keep) (first | (go_at_call 54; refine Calls.mono (RM.out _) ?_; rintro e w3 ⟨rfl, hb3⟩; have k0 : w3.cell? ⟨q, 0, none⟩ = some (.int .i64 x0) := (hb3.cell (p := ⟨q, 0, none⟩) (by simpa using z0)).trans (by simpa using f0); have k1 : w3.cell? ⟨q, 1, none⟩ = some (.int .i64 x1) := (hb3.cell (p := ⟨q, 1, none⟩) (by simpa using z0)).trans (by simpa using f1); have k2 : w3.cell? ⟨q, 2, none⟩ = some (.int .i64 x2) := (hb3.cell (p := ⟨q, 2, none⟩) (by simpa using z0)).trans (by simpa using f2); have k3 : w3.cell? ⟨gq', i, none⟩ = some (.int .i64 n) := (hb3.cell (p := ⟨gq', i, none⟩) (by simpa using z1)).trans (by simpa using q1); have k4 : w3.cell? ⟨b5, off5 + k, none⟩ = some (.int .i64 y) := (hb3.cell (p := ⟨b5, off5 + k, none⟩) (by simpa using z2)).trans (by simpa using q2)))
              have HS3 : Hid (FL.SQ w.heap.size w w3 g1 c1 (.slice (some ⟨gq', 0, none⟩) m cq') s1) := HS.out.kept (Nat.le_refl _) (((Below.refl _ W1).drew).trans hb3)
              clear q1 q2 f0 f1 f2 z0 z1 z2 k0 k1 k2 k3 k4 hb3 HS RM
              by_cases hr : 0 < r
              · obtain ⟨t0, t7⟩ := NW.out hr
                obtain ⟨tn, rfl⟩ := Int.eq_ofNat_of_zero_le t0
                have ht8 : tn < 8 := by omega
                have tt8 : (tn : Int) < 8 := by omega
                rw [Int.toNat_natCast] at hgo hsd
                have cz := HCL.out _ tn HS3.out ht8
                have hgo1 := hgo.out
                rw [decide_eq_true hr, Bool.true_and] at hgo1
                have HGO : Hid _ := hgo1
                clear hgo1 hgo NW HCL
                have l1 := HS3.out.l1
                generalize hz : s1.by_.getD tn 0 = z at *
                clear hz
                by_cases hzz : z = -1
                · have HE := EY.out (by rw [HGO.out, hzz]; rfl)
                  rw [hsd.out] at HE
                  have HEE : Hid _ := HE
                  have zf := HS3.out.a.frozenAt tn
                  have H4 := HS3.out.put (Nat.le_refl _) tn (k : Int) s1.L
                  have HS4 : Hid (FL.SQ w.heap.size w (w3.setCell ⟨g1, tn, none⟩ (.int .i64 (k : Int))) g1 c1 (.slice (some ⟨gq', 0, none⟩) m cq') ⟨s1.by_.set tn (k : Int), s1.q, s1.L⟩) := H4
                  have HB4 : Hid ((w3.setCell ⟨g1, tn, none⟩ (.int .i64 (k : Int))).ownsRow w.heap.size 3 1 (.slice (some ⟨gq', 0, none⟩) m cq') m (M4.iv s1.q)) := by have := H4.b; rw [show (FL.St.q ⟨s1.by_.set tn (k : Int), s1.q, s1.L⟩).length = m from HM1.out] at this; exact this
                  have hsz : w.heap.size ≤ w3.heap.size := HS3.out.bl.size
                  clear HE EY EN HGO H4 HS3 hsd
                  subst hzz
                  go_wp2_with (at_builtin; refine wpList_append_own_at _ rfl _ _ 26 rfl w.heap.size 3 i0 (.int .i64 0) 1 8 Try.underlying26 hi hz0 hz1 hz2 rfl (by decide) _ _ _ rfl (World.ownsRow.alloc HB4.out _) ⟨w3.heap.size, 0, none⟩ 1 1 [.int .i64 (tn : Int)] rfl rfl ?d1 ?d2 ?d3 ?d4 ?d5 ?_)
                  case d1 =>
                    have := M2.new1 (w3.setCell ⟨g1, tn, none⟩ (.int .i64 (k : Int))) (.int .i64 (tn : Int)) 3
                    simpa using this
                  case d2 => exact M2.one1 _ _
                  case d3 => unfold maxLen; omega
                  case d4 => omega
                  case d5 => simp; omega
                  intro v' w5 hown5 hgrow5 _ loc5
                  have hown6 : w5.ownsRow w.heap.size 3 1 v' (s1.q.length + 1) (M4.iv s1.q ++ [.int .i64 (tn : Int)]) := by rw [HM1.out]; exact hown5
                  have H6 := HS4.out.grown (x := (tn : Int)) (L := (FL.stepd xs fs n s1 k).L) (Nat.le_refl _) hown6 hgrow5 (by simpa using loc5)
                  have H7 : Hid (FL.SQ w.heap.size w w5 g1 c1 v' (FL.scan xs fs n s0 (k + 1))) := by rw [HEE.out]; exact H6
                  clear hown5 hown6 hgrow5 loc5 H6 HEE HB4 HS4 cz zf l1
                  go_wp2
                  go_roundw
                  case rel =>
                    iterate 41 apply Exists.intro
                    refine ⟨⟨k + 1, ?h1, ?h3, H7.out⟩, ?h2⟩
                    case h2 => rfl
                    case h1 => go_num
                    case h3 => omega
                  case measure => simp [intOf]; omega
                · have HE : Hid _ := EN.out (by rw [HGO.out]; simp [hzz])
                  have H7 : Hid (FL.SQ w.heap.size w w3 g1 c1 (.slice (some ⟨gq', 0, none⟩) m cq') (FL.scan xs fs n s0 (k + 1))) := by rw [HE.out]; exact HS3.out
                  clear HE EY EN HGO HS3 hsd
                  go_wp2
                  go_roundw
                  case rel =>
                    iterate 41 apply Exists.intro
                    refine ⟨⟨k + 1, ?h4, ?h6, H7.out⟩, ?h5⟩
                    case h5 => rfl
                    case h4 => go_num
                    case h6 => omega
                  case measure => simp [intOf]; omega
              · have HE : Hid _ := EN.out (by rw [hgo.out]; simp [hr])
                have H7 : Hid (FL.SQ w.heap.size w w3 g1 c1 (.slice (some ⟨gq', 0, none⟩) m cq') (FL.scan xs fs n s0 (k + 1))) := by rw [HE.out]; exact HS3.out
                have hr' : r ≤ 0 := by omega
                clear HE EY EN hgo HS3 hsd NW HCL hr
                go_wp2
                go_roundw
                case rel => exact ⟨_, _, _, _, _, _, ⟨k + 1, by go_num, by omega, H7.out⟩, rfl, rfl, rfl, rfl, rfl, rfl⟩
                case measure => simp [intOf]; omega
            · obtain rfl : k = xs.length := by omega
              have hS2 : Hid (FL.SQ w.heap.size w wr g1 c1 u9 (FL.at8 xs fs (fn : Int) (i + 1))) := by rw [hNX.out]; exact hS
              have hi2 : Hid (i + 1 ≤ (FL.at8 xs fs (fn : Int) (i + 1)).q.length) := by
                rw [hNX.out]; exact ((SCi.out xs.length (Nat.le_refl _)).more i (by rw [HQ2.out]; exact HQL.out)).1
              clear hS hNX SCi HNN HQL HQ2
              go_wp2
              go_roundw
              case rel => exact ⟨i + 1, by go_num, hi2.out, hS2.out⟩
              case measure => simp [intOf]; omega
        · have hE : Hid (FL.srch xs fs (fn : Int) = FL.at8 xs fs (fn : Int) i) := FL.srch_is (by omega) (by omega)
          have hR : Hid (wr.ownsRow w.heap.size 3 1 (.slice (some ⟨g1, 0, none⟩) 8 c1) 8 (M4.iv (FL.srch xs fs (fn : Int)).by_)) := by rw [hE.out]; exact hS.a
          have hbl := hS.bl
          obtain ⟨aq, cq, hv, _⟩ := M5.own_view hS.b
          clear hS hE
          subst hv
          rename_i hdrop
          clear hdrop
          generalize (FL.at8 xs fs (fn : Int) i).q.length = ql at *
          obtain rfl : i = ql := by omega
          go_wp2
          go_ret
          exact ⟨g1, c1, rfl, hR.out, hbl⟩
end Go.Proofs.Ytndaapidfiocoaa
