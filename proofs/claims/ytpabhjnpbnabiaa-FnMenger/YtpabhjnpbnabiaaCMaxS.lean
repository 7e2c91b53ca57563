import Derived.Test.YtpabhjnpbnabiaaRows
import Derived.Test.YtpabhjnpbnabiaaMFW
import Derived.Test.YtpabhjnpbnabiaaMRetB
import Derived.Test.YtpabhjnpbnabiaaMCur
import Derived.WalkKit
import Derived.WalkSpells
import Derived.WalkLawsBesides
import Derived.Outline
import Derived.Deep.QuietTactic
import Derived.BigQuiet
import Derived.Test.YtpabhjnpbnabiaaMInfo
import Derived.Deep.RegionHeld3
import Derived.Test.YtpabhjnpbnabiaaMFB
import Derived.Test.YtpabhjnpbnabiaaMFM
/- How much more a pipe bears from a node: l8Room of the specification. l8Search, the specification's. -/
namespace Go.Proofs.Ytpabhjnpbnabiaa
open Go.RowKit
set_option linter.unusedSimpArgs false in
set_option maxHeartbeats 1600000 in
set_option maxRecDepth 100000 in
theorem l8Room_any (c : I3) (v n : Int) (w : World) (hg : FL.Good c) (hv0 : 0 ≤ v) (hv1 : v ≤ 100) :
    Calls Try.prog 65 #[c.v, .int .i64 v, .int .i64 n] w fun e w' => e = .returned (.tuple #[.int .i64 (FL.rm c v n), .int .i64 (FL.nx c n)]) ∧ Below w.heap.size w w' := by
  obtain ⟨x0, x1, x2⟩ := c
  have hc0 : 0 ≤ x2 := hg.c0
  have hc1 : x2 ≤ 100 := hg.c1
  clear hg
  have HB : Hid (∀ o, Below w.heap.size w (w.alloc o)) := fun o => (Below.refl _ w).alloc (Nat.le_refl _) o
  obtain ⟨R, hR⟩ : ∃ R, FL.rm ⟨x0, x1, x2⟩ v n = R := ⟨_, rfl⟩
  obtain ⟨T, hT⟩ : ∃ T, FL.nx ⟨x0, x1, x2⟩ n = T := ⟨_, rfl⟩
  rw [hR, hT]
  simp only [FL.rm, FL.nx] at hR hT
  by_cases h0 : x0 = n
  · have hF : Hid (R = x2 - v) := by show _ = _; rw [← hR, if_pos h0]
    have hF2 : Hid (T = x1) := by show _ = _; rw [← hT, if_pos h0]
    clear hR hT
    subst h0
    go_enter Try.func65, Try.ntmps65
    go_wp2_with fail
    go_quiet (fail)
    have HB2 : Hid _ := below_drewN (HB.out (.cells #[.int .i64 x0, .int .i64 x1, .int .i64 x2] 68)) nq
    generalize ((w.alloc (.cells #[.int .i64 x0, .int .i64 x1, .int .i64 x2] 68)).drewN nq) = w2 at *
    clear HB
    go_wp2
    go_ret2
    exact ⟨by rw [hF.out, hF2.out]; rfl, HB2.out⟩
  · by_cases h1 : x1 = n
    · have hF : Hid (R = v) := by show _ = _; rw [← hR, if_neg h0, if_pos h1]
      have hF2 : Hid (T = x0) := by show _ = _; rw [← hT, if_neg h0, if_pos h1]
      clear hR hT
      subst h1
      go_enter Try.func65, Try.ntmps65
      go_wp2_with fail
      go_quiet (fail)
      have HB2 : Hid _ := below_drewN (HB.out (.cells #[.int .i64 x0, .int .i64 x1, .int .i64 x2] 68)) nq
      generalize ((w.alloc (.cells #[.int .i64 x0, .int .i64 x1, .int .i64 x2] 68)).drewN nq) = w2 at *
      clear HB
      go_wp2
      go_ret2
      exact ⟨by rw [hF.out, hF2.out]; rfl, HB2.out⟩
    · have hF : Hid (R = 0) := by show _ = _; rw [← hR, if_neg h0, if_neg h1]
      have hF2 : Hid (T = 0) := by show _ = _; rw [← hT, if_neg h0, if_neg h1]
      clear hR hT
      go_enter Try.func65, Try.ntmps65
      go_wp2
      go_ret2
      exact ⟨by rw [hF.out, hF2.out]; rfl, HB.out _⟩
end Go.Proofs.Ytpabhjnpbnabiaa
namespace Go.Proofs.Ytpabhjnpbnabiaa
open Go.RowKit
set_option linter.unusedSimpArgs false in
set_option maxHeartbeats 3200000 in
set_option maxRecDepth 100000 in
theorem l8Search_any (a b : Option Addr) (ca cb : Nat) (xs : List I3) (fs : List Int) (f : Int) (w : World) (hok : FL.okP xs = true) (hf0 : 0 ≤ f) (hf1 : f ≤ 7) (hl : fs.length = xs.length) (hfit : FL.fitUp xs fs xs.length) (hin : MI3.RowAt w a xs) (hos : M4.IntsAt w b fs) :
    Calls Try.prog 55 #[.slice a xs.length ca, .int .i64 f, .slice b fs.length cb] w fun e w' => ∃ g1 c1, e = .returned (.slice (some ⟨g1, 0, none⟩) 8 c1) ∧ w'.ownsRow w.heap.size 3 1 (.slice (some ⟨g1, 0, none⟩) 8 c1) 8 (M4.iv (FL.srch xs fs f).by_) ∧ Below w.heap.size w w' := by
  obtain ⟨i0, hi, hz0, hz1, hz2⟩ := info_parts Try.info3
  have HI : Hid (MI3.RowAt w a xs) := hin
  have HO : Hid (M4.IntsAt w b fs) := hos
  have hlen : xs.length ≤ 20 := ((FL.okP_iff xs).1 hok).1
  have GC : Hid (∀ k, k < xs.length → FL.Good (MI3.at_ xs k)) := fun k hk => FL.okP_good hok hk
  have GF : Hid (∀ k, k < xs.length → 0 ≤ fs.getD k 0 ∧ fs.getD k 0 ≤ (MI3.at_ xs k).a2) := fun k hk => hfit k hk
  have TR : Hid (∀ i, FL.Tree xs fs f (FL.at8 xs fs f i)) := fun i => FL.at8_tree hok ⟨hf0, hf1⟩ i
  have SC : Hid (∀ i, i < (FL.at8 xs fs f i).q.length → ∀ k, k ≤ xs.length → FL.Scan xs fs f ((FL.at8 xs fs f i).q.getD i 0) (FL.at8 xs fs f i) (FL.scan xs fs ((FL.at8 xs fs f i).q.getD i 0) (FL.at8 xs fs f i) k)) := fun i h k hk => by
    have T := FL.at8_tree (fs := fs) hok ⟨hf0, hf1⟩ i
    obtain ⟨h1, h2, h3⟩ := T.inq i h
    exact FL.scan_ok hok ⟨hf0, hf1⟩ T ⟨h1, h2⟩ h3 k hk
  rw [hl]
  have HL : Hid _ := hl
  obtain ⟨fn, rfl⟩ := Int.eq_ofNat_of_zero_le hf0
  have hfn : fn < 8 := by omega
  clear hin hok hos hfit hl hf0 hf1
  go_enter Try.func55, Try.ntmps55
  go_wp2
  go_loopw [7, 8] (fun u iv wr => ∃ k : Nat, iv = .int .i64 k ∧ k ≤ 8 ∧ wr.ownsRow w.heap.size 3 1 u k (M4.iv (List.replicate k (-1))) ∧ Below w.heap.size w wr) (fun _ iv _ => (8 - intOf iv).toNat)
  case atStart => exact ⟨0, rfl, by omega, World.ownsRow_nil _ _ _ _, Below.refl _ _⟩
  case round =>
    obtain ⟨k, rfl, hk, hT, hb⟩ := hrel
    have hbs := hb.size
    by_cases hl : k < 8
    · have hT' : Hid _ := hT
      clear hT
      have hk0 : (k : Int) < 8 := by omega
      go_wp2_with (at_builtin; refine wpList_append_own_at _ rfl _ _ 29 rfl w.heap.size 3 i0 (.int .i64 0) 1 8 Try.underlying29 hi hz0 hz1 hz2 rfl (by decide) _ _ _ rfl (World.ownsRow.alloc hT'.out _) ⟨wr.heap.size, 0, none⟩ 1 1 [.int .i64 (-1)] rfl rfl ?c1 ?c2 ?c3 ?c4 ?c5 ?_)
      case c1 => exact M2.new1 _ _ _
      case c2 => exact M2.one1 _ _
      case c3 => unfold maxLen; omega
      case c4 => omega
      case c5 => simp; omega
      intro u' w2 hown2 hgrow2 _ loc2
      rw [FL.iv_snoc] at hown2
      have hb2 : Below w.heap.size w w2 := (hb.alloc hbs _).grown hgrow2 (by simp; omega) (fun j hj => (World.ownsRow.lt hT'.out j hj).1)
      clear hT' hgrow2 loc2 hb hbs
      go_wp2
      go_roundw
      case rel => exact ⟨k + 1, by go_num, by omega, hown2, hb2⟩
      case measure => simp [intOf]; omega
    · obtain rfl : k = 8 := by omega
      obtain ⟨g1, c1, rfl⟩ := FL.own_some hT
      have l1 := hT.lt g1 rfl
      have cf : wr.cell? ⟨g1, fn, none⟩ = some (.int .i64 (-1)) := by
        rw [hT.cellAt fn (by omega)]; exact M4.iv_get _ _ _ (by rw [List.getElem?_replicate, if_pos hfn])
      have ff := hT.frozenAt fn
      have hS := hT.stored fn (.int .i64 (-2))
      rw [M4.iv_set] at hS
      have hb2 : Below w.heap.size w (wr.setCell ⟨g1, fn, none⟩ (.int .i64 (-2))) := hb.trans (((MC.Only.refl g1 wr).setCell fn _).below l1.1 hbs)
      have HS1 : Hid _ := hS.1
      have ff0 : (0 : Int) ≤ (fn : Int) := by omega
      have ff8 : (fn : Int) < 8 := by omega
      clear hS hT hb hbs
      have HSQ : Hid (FL.SQ w.heap.size w ((wr.setCell ⟨g1, fn, none⟩ (.int .i64 (-2))).alloc (.cells #[.int .i64 (fn : Int)] 3)) g1 c1 (.slice (some ⟨wr.heap.size, 0, none⟩) 1 1) (FL.start (fn : Int))) := by
        have e1 : (wr.setCell ⟨g1, fn, none⟩ (.int .i64 (-2))).heap.size = wr.heap.size := by simp
        refine ⟨World.ownsRow.alloc HS1.out _, ?_, fun e => by simp [Value.ownBlock] at e; omega, hb2.alloc hb2.size _⟩
        have := World.ownsRow_lit (base := w.heap.size) (e := 3) (size := 1) (wr.setCell ⟨g1, fn, none⟩ (.int .i64 (-2))) #[.int .i64 (fn : Int)] 1 (by rw [e1]; omega) (by unfold maxLen; omega) (by simp)
        rw [e1] at this
        simpa [FL.start, M4.iv] using this
      clear HS1 hb2
      go_wp2
      generalize (wr.setCell ⟨g1, fn, none⟩ (.int .i64 (-2))).alloc (.cells #[.int .i64 (fn : Int)] 3) = W0 at *
      generalize wr.heap.size = q0 at *
      clear cf ff l1 hk hl
      go_loopw [9, 10] (fun qv iv wo => ∃ i : Nat, iv = .int .i64 i ∧ i ≤ (FL.at8 xs fs (fn : Int) i).q.length ∧ FL.SQ w.heap.size w wo g1 c1 qv (FL.at8 xs fs (fn : Int) i)) (fun _ iv _ => (8 - intOf iv).toNat)
      case atStart => exact ⟨0, rfl, Nat.zero_le _, HSQ.out⟩
      case round =>
        clear HSQ
        obtain ⟨i, rfl, hiq, hS⟩ := hrel
        have hS8 := (TR.out i).short
        by_cases hlt : i < (FL.at8 xs fs (fn : Int) i).q.length
        · have SCi : Hid _ := SC.out i hlt
          have hNX : Hid (FL.at8 xs fs (fn : Int) (i + 1) = FL.scan xs fs ((FL.at8 xs fs (fn : Int) i).q.getD i 0) (FL.at8 xs fs (fn : Int) i) xs.length) := by show _ = _; rw [FL.at8, if_pos hlt]
          have hSz : Hid _ := hS
          obtain ⟨gq, cq, hq, _, _⟩ := hS.node hlt
          have hlt' : (i : Int) < ((FL.at8 xs fs (fn : Int) i).q.length : Int) := by omega
          clear hS
          subst hq
          generalize hst : FL.at8 xs fs (fn : Int) i = s0 at *
          generalize hnn : s0.q.getD i 0 = n at *
          have HNN : Hid _ := hnn
          clear hst hnn
          have HQL : Hid (i < s0.q.length) := hlt
          generalize hql : s0.q.length = ql at *
          have HQ2 : Hid (s0.q.length = ql) := hql
          clear hql
          go_wp2
          go_loopw [9, 35] (fun qv kv wi => ∃ k : Nat, kv = .int .i64 k ∧ k ≤ xs.length ∧ FL.SQ w.heap.size w wi g1 c1 qv (FL.scan xs fs n s0 k)) (fun _ kv _ => (xs.length - intOf kv).toNat)
          case atStart => exact ⟨0, rfl, by omega, hSz.out⟩
          case round =>
            clear hSz
            obtain ⟨k, rfl, hk, hS⟩ := hrel
            by_cases hlk : k < xs.length
            · have Sc := SCi.out k hk
              have hmore := Sc.more i (by rw [HQ2.out]; exact HQL.out)
              rw [HNN.out] at hmore
              obtain ⟨gq', cq', hv, hlq, cq0⟩ := hS.node hmore.1
              rw [hmore.2] at cq0
              have hl8 : (FL.scan xs fs n s0 k).by_.length = 8 := Sc.tree.len
              have G := GC.out k hlk
              have F := GF.out k hlk
              have hE0 : FL.scan xs fs n s0 (k + 1) = FL.step xs fs n (FL.scan xs fs n s0 k) k := rfl
              have EN : Hid (FL.goes xs fs (FL.scan xs fs n s0 k) n k = false → FL.scan xs fs n s0 (k + 1) = FL.scan xs fs n s0 k) := fun h => by rw [hE0]; unfold FL.step; rw [if_neg (by rw [h]; decide)]
              have EY : Hid (FL.goes xs fs (FL.scan xs fs n s0 k) n k = true → FL.scan xs fs n s0 (k + 1) = FL.stepd xs fs n (FL.scan xs fs n s0 k) k) := fun h => by rw [hE0]; unfold FL.step; rw [if_pos h]
              clear hE0
              have hqs := Sc.tree.short
              obtain ⟨b4, off4, rfl, hlt4, e0, e1, e2⟩ := (HI.out.below hS.bl).at hlk
              obtain ⟨b5, off5, rfl, hlt5, d0⟩ := M4.IntsAt.at (M4.IntsAt.below HO.out hS.bl) (k := k) (by rw [HL.out]; exact hlk)
              have NW : Hid (0 < FL.rm (MI3.at_ xs k) (fs.getD k 0) n → 0 ≤ FL.nx (MI3.at_ xs k) n ∧ FL.nx (MI3.at_ xs k) n ≤ 7) := fun h => ⟨(FL.nx_within G h).1, (FL.nx_within G h).2.1⟩
              have RM : Hid (∀ W : World, Calls Try.prog 65 #[(MI3.at_ xs k).v, .int .i64 (fs.getD k 0), .int .i64 n] W fun e w' => e = .returned (.tuple #[.int .i64 (FL.rm (MI3.at_ xs k) (fs.getD k 0) n), .int .i64 (FL.nx (MI3.at_ xs k) n)]) ∧ Below W.heap.size W w') := fun W => l8Room_any _ _ n W G F.1 (by have := G.c1; omega)
              have hgo : Hid (FL.goes xs fs (FL.scan xs fs n s0 k) n k = (decide (0 < FL.rm (MI3.at_ xs k) (fs.getD k 0) n) && decide ((FL.scan xs fs n s0 k).by_.getD (FL.nx (MI3.at_ xs k) n).toNat 0 = -1))) := rfl
              have hsd : Hid (FL.stepd xs fs n (FL.scan xs fs n s0 k) k = ⟨(FL.scan xs fs n s0 k).by_.set (FL.nx (MI3.at_ xs k) n).toNat (k : Int), (FL.scan xs fs n s0 k).q ++ [FL.nx (MI3.at_ xs k) n], (FL.stepd xs fs n (FL.scan xs fs n s0 k) k).L⟩) := rfl
              have HCL : Hid (∀ (W : World) (j : Nat), FL.SQ w.heap.size w W g1 c1 u9 (FL.scan xs fs n s0 k) → j < 8 → W.cell? ⟨g1, j, none⟩ = some (.int .i64 ((FL.scan xs fs n s0 k).by_.getD j 0))) := fun W j h hj => h.cell hl8 hj
              have hSA := hS.kept (Nat.le_refl _) ((Below.refl _ wr).alloc (Nat.le_refl _) (.cells #[.int .i64 (MI3.at_ xs k).a0, .int .i64 (MI3.at_ xs k).a1, .int .i64 (MI3.at_ xs k).a2] 68))
              have HS : Hid _ := hSA
              have HIQ : Hid (i < (FL.scan xs fs n s0 k).q.length) := hmore.1
              clear hS hSA Sc hmore G F GC GF HI HO SCi hl8
              generalize hs1 : FL.scan xs fs n s0 k = s1 at *
              clear hs1
              subst hv
              generalize hx : MI3.at_ xs k = x at *
              generalize hy : fs.getD k 0 = y at *
              clear hx hy
              obtain ⟨x0, x1, x2⟩ := x
              simp only at e0 e1 e2 HS
              generalize FL.rm ⟨x0, x1, x2⟩ y n = r at *
              generalize FL.nx ⟨x0, x1, x2⟩ n = t at *
              have hii : i < s1.q.length := HIQ.out
              clear HIQ
              have HQS : Hid (s1.q.length ≤ 8) := hqs
              clear hqs
              have h8 : s1.q.length ≤ 8 := HQS.out
              generalize hm : s1.q.length = m at *
              have HM1 : Hid (s1.q.length = m) := hm
              clear hm
              have ii0 : (0 : Int) ≤ (i : Int) := by omega
              have iim : (i : Int) < (m : Int) := by omega
              have q1 : (wr.alloc (.cells #[.int .i64 x0, .int .i64 x1, .int .i64 x2] 68)).cell? ⟨gq', i, none⟩ = some (.int .i64 n) := by rw [World.cell?_alloc_lt _ _ _ hlq]; exact cq0
              have q2 : (wr.alloc (.cells #[.int .i64 x0, .int .i64 x1, .int .i64 x2] 68)).cell? ⟨b5, off5 + k, none⟩ = some (.int .i64 y) := by rw [World.cell?_alloc_lt _ _ _ hlt5]; exact d0
              have f0 : (wr.alloc (.cells #[.int .i64 x0, .int .i64 x1, .int .i64 x2] 68)).cell? ⟨wr.heap.size, 0, none⟩ = some (.int .i64 x0) := by simp
              have f1 : (wr.alloc (.cells #[.int .i64 x0, .int .i64 x1, .int .i64 x2] 68)).cell? ⟨wr.heap.size, 1, none⟩ = some (.int .i64 x1) := by simp
              have f2 : (wr.alloc (.cells #[.int .i64 x0, .int .i64 x1, .int .i64 x2] 68)).cell? ⟨wr.heap.size, 2, none⟩ = some (.int .i64 x2) := by simp
              have z0 : wr.heap.size < (wr.alloc (.cells #[.int .i64 x0, .int .i64 x1, .int .i64 x2] 68)).heap.size := by simp
              have z1 : gq' < (wr.alloc (.cells #[.int .i64 x0, .int .i64 x1, .int .i64 x2] 68)).heap.size := by simp; omega
              have z2 : b5 < (wr.alloc (.cells #[.int .i64 x0, .int .i64 x1, .int .i64 x2] 68)).heap.size := by simp; omega
              have Q1 : Hid _ := q1
              have Q2 : Hid _ := q2
              have F0 : Hid _ := f0
              have F1 : Hid _ := f1
              have F2 : Hid _ := f2
              have Z0 : Hid _ := z0
              have Z1 : Hid _ := z1
              have Z2 : Hid _ := z2
              clear q1 q2 f0 f1 f2 z0 z1 z2
              go_wp2_with fail
              clear e0 e1 e2 d0 cq0 hlt4 hlt5 hlq
              generalize wr.alloc (.cells #[.int .i64 x0, .int .i64 x1, .int .i64 x2] 68) = W1 at *
              generalize wr.heap.size = q at *
              have q1 := Q1.out
              have q2 := Q2.out
              have f0 := F0.out
              have f1 := F1.out
              have f2 := F2.out
              have z0 := Z0.out
              have z1 := Z1.out
              have z2 := Z2.out
              clear Q1 Q2 F0 F1 F2 Z0 Z1 Z2
              go_region_held3 (fun w' => w'.cell? ⟨q, 0, none⟩ = some (.int .i64 x0) ∧ w'.cell? ⟨q, 1, none⟩ = some (.int .i64 x1) ∧ w'.cell? ⟨q, 2, none⟩ = some (.int .i64 x2) ∧ w'.cell? ⟨gq', i, none⟩ = some (.int .i64 n) ∧ w'.cell? ⟨b5, off5 + k, none⟩ = some (.int .i64 y)) (first | assumption | go_keep) (first | (go_at_call 65; refine Calls.mono (RM.out _) ?_; rintro e w3 ⟨rfl, hb3⟩; have k0 : w3.cell? ⟨q, 0, none⟩ = some (.int .i64 x0) := (hb3.cell (p := ⟨q, 0, none⟩) (by simpa using z0)).trans (by simpa using f0); have k1 : w3.cell? ⟨q, 1, none⟩ = some (.int .i64 x1) := (hb3.cell (p := ⟨q, 1, none⟩) (by simpa using z0)).trans (by simpa using f1); have k2 : w3.cell? ⟨q, 2, none⟩ = some (.int .i64 x2) := (hb3.cell (p := ⟨q, 2, none⟩) (by simpa using z0)).trans (by simpa using f2); have k3 : w3.cell? ⟨gq', i, none⟩ = some (.int .i64 n) := (hb3.cell (p := ⟨gq', i, none⟩) (by simpa using z1)).trans (by simpa using q1); have k4 : w3.cell? ⟨b5, off5 + k, none⟩ = some (.int .i64 y) := (hb3.cell (p := ⟨b5, off5 + k, none⟩) (by simpa using z2)).trans (by simpa using q2)))
              have HS3 : Hid (FL.SQ w.heap.size w w3 g1 c1 (.slice (some ⟨gq', 0, none⟩) m cq') s1) := HS.out.kept (Nat.le_refl _) (((Below.refl _ W1).drew).trans hb3)
              clear q1 q2 f0 f1 f2 z0 z1 z2 k0 k1 k2 k3 k4 hb3 HS RM
              by_cases hr : 0 < r
              · obtain ⟨t0, t7⟩ := NW.out hr
                obtain ⟨tn, rfl⟩ := Int.eq_ofNat_of_zero_le t0
                have ht8 : tn < 8 := by omega
                have tt8 : (tn : Int) < 8 := by omega
                rw [Int.toNat_natCast] at hgo hsd
                have cz := HCL.out _ tn HS3.out ht8
                have hgo1 := hgo.out
                rw [decide_eq_true hr, Bool.true_and] at hgo1
                have HGO : Hid _ := hgo1
                clear hgo1 hgo NW HCL
                have l1 := HS3.out.l1
                generalize hz : s1.by_.getD tn 0 = z at *
                clear hz
                by_cases hzz : z = -1
                · have HE := EY.out (by rw [HGO.out, hzz]; rfl)
                  rw [hsd.out] at HE
                  have HEE : Hid _ := HE
                  have zf := HS3.out.a.frozenAt tn
                  have H4 := HS3.out.put (Nat.le_refl _) tn (k : Int) s1.L
                  have HS4 : Hid (FL.SQ w.heap.size w (w3.setCell ⟨g1, tn, none⟩ (.int .i64 (k : Int))) g1 c1 (.slice (some ⟨gq', 0, none⟩) m cq') ⟨s1.by_.set tn (k : Int), s1.q, s1.L⟩) := H4
                  have HB4 : Hid ((w3.setCell ⟨g1, tn, none⟩ (.int .i64 (k : Int))).ownsRow w.heap.size 3 1 (.slice (some ⟨gq', 0, none⟩) m cq') m (M4.iv s1.q)) := by have := H4.b; rw [show (FL.St.q ⟨s1.by_.set tn (k : Int), s1.q, s1.L⟩).length = m from HM1.out] at this; exact this
                  have hsz : w.heap.size ≤ w3.heap.size := HS3.out.bl.size
                  clear HE EY EN HGO H4 HS3 hsd
                  subst hzz
                  go_wp2_with (at_builtin; refine wpList_append_own_at _ rfl _ _ 29 rfl w.heap.size 3 i0 (.int .i64 0) 1 8 Try.underlying29 hi hz0 hz1 hz2 rfl (by decide) _ _ _ rfl (World.ownsRow.alloc HB4.out _) ⟨w3.heap.size, 0, none⟩ 1 1 [.int .i64 (tn : Int)] rfl rfl ?d1 ?d2 ?d3 ?d4 ?d5 ?_)
                  case d1 =>
                    have := M2.new1 (w3.setCell ⟨g1, tn, none⟩ (.int .i64 (k : Int))) (.int .i64 (tn : Int)) 3
                    simpa using this
                  case d2 => exact M2.one1 _ _
                  case d3 => unfold maxLen; omega
                  case d4 => omega
                  case d5 => simp; omega
                  intro v' w5 hown5 hgrow5 _ loc5
                  have hown6 : w5.ownsRow w.heap.size 3 1 v' (s1.q.length + 1) (M4.iv s1.q ++ [.int .i64 (tn : Int)]) := by rw [HM1.out]; exact hown5
                  have H6 := HS4.out.grown (x := (tn : Int)) (L := (FL.stepd xs fs n s1 k).L) (Nat.le_refl _) hown6 hgrow5 (by simpa using loc5)
                  have H7 : Hid (FL.SQ w.heap.size w w5 g1 c1 v' (FL.scan xs fs n s0 (k + 1))) := by rw [HEE.out]; exact H6
                  clear hown5 hown6 hgrow5 loc5 H6 HEE HB4 HS4 cz zf l1
                  go_wp2
                  go_roundw
                  case rel =>
                    iterate 41 apply Exists.intro
                    refine ⟨⟨k + 1, ?h1, ?h3, H7.out⟩, ?h2⟩
                    case h2 => rfl
                    case h1 => go_num
                    case h3 => omega
                  case measure => simp [intOf]; omega
                · have HE : Hid _ := EN.out (by rw [HGO.out]; simp [hzz])
                  have H7 : Hid (FL.SQ w.heap.size w w3 g1 c1 (.slice (some ⟨gq', 0, none⟩) m cq') (FL.scan xs fs n s0 (k + 1))) := by rw [HE.out]; exact HS3.out
                  clear HE EY EN HGO HS3 hsd
                  go_wp2
                  go_roundw
                  case rel =>
                    iterate 41 apply Exists.intro
                    refine ⟨⟨k + 1, ?h4, ?h6, H7.out⟩, ?h5⟩
                    case h5 => rfl
                    case h4 => go_num
                    case h6 => omega
                  case measure => simp [intOf]; omega
              · have HE : Hid _ := EN.out (by rw [hgo.out]; simp [hr])
                have H7 : Hid (FL.SQ w.heap.size w w3 g1 c1 (.slice (some ⟨gq', 0, none⟩) m cq') (FL.scan xs fs n s0 (k + 1))) := by rw [HE.out]; exact HS3.out
                have hr' : r ≤ 0 := by omega
                clear HE EY EN hgo HS3 hsd NW HCL hr
                go_wp2
                go_roundw
                case rel => exact ⟨_, _, _, _, _, _, ⟨k + 1, by go_num, by omega, H7.out⟩, rfl, rfl, rfl, rfl, rfl, rfl⟩
                case measure => simp [intOf]; omega
            · obtain rfl : k = xs.length := by omega
              have hS2 : Hid (FL.SQ w.heap.size w wr g1 c1 u9 (FL.at8 xs fs (fn : Int) (i + 1))) := by rw [hNX.out]; exact hS
              have hi2 : Hid (i + 1 ≤ (FL.at8 xs fs (fn : Int) (i + 1)).q.length) := by
                rw [hNX.out]; exact ((SCi.out xs.length (Nat.le_refl _)).more i (by rw [HQ2.out]; exact HQL.out)).1
              clear hS hNX SCi HNN HQL HQ2
              go_wp2
              go_roundw
              case rel => exact ⟨i + 1, by go_num, hi2.out, hS2.out⟩
              case measure => simp [intOf]; omega
        · have hE : Hid (FL.srch xs fs (fn : Int) = FL.at8 xs fs (fn : Int) i) := FL.srch_is (by omega) (by omega)
          have hR : Hid (wr.ownsRow w.heap.size 3 1 (.slice (some ⟨g1, 0, none⟩) 8 c1) 8 (M4.iv (FL.srch xs fs (fn : Int)).by_)) := by rw [hE.out]; exact hS.a
          have hbl := hS.bl
          obtain ⟨aq, cq, hv, _⟩ := M5.own_view hS.b
          clear hS hE
          subst hv
          rename_i hdrop
          clear hdrop
          generalize (FL.at8 xs fs (fn : Int) i).q.length = ql at *
          obtain rfl : i = ql := by omega
          go_wp2
          go_ret
          exact ⟨g1, c1, rfl, hR.out, hbl⟩
end Go.Proofs.Ytpabhjnpbnabiaa

/- l8Augment, the specification's. -/
namespace Go.Proofs.Ytpabhjnpbnabiaa
open Go.RowKit
set_option linter.unusedSimpArgs false in
set_option maxHeartbeats 3200000 in
set_option maxRecDepth 100000 in
theorem l8Augment_any (a b : Option Addr) (ca cb : Nat) (xs : List I3) (fs : List Int) (f t : Int) (w : World) (hA : FL.Ask xs f t) (hl : fs.length = xs.length) (hfit : FL.fitUp xs fs xs.length) (hin : MI3.RowAt w a xs) (hos : M4.IntsAt w b fs) :
    Calls Try.prog 51 #[.slice a xs.length ca, .int .i64 f, .int .i64 t, .slice b fs.length cb] w fun e w' => ∃ a1 c1, e = .returned (.tuple #[.slice a1 (FL.ansL xs fs f t).length c1, .int .i64 (FL.augN xs fs f t)]) ∧ w'.ownsRow w.heap.size 3 1 (.slice a1 (FL.ansL xs fs f t).length c1) (FL.ansL xs fs f t).length (M4.iv (FL.ansL xs fs f t)) ∧ Below w.heap.size w w' := by
  obtain ⟨i0, hi, hz0, hz1, hz2⟩ := info_parts Try.info3
  have SE : Hid _ := l8Search_any a b ca cb xs fs f w hA.ok hA.f0 hA.f7 hl hfit hin hos
  have HI : Hid (MI3.RowAt w a xs) := hin
  have HO : Hid (M4.IntsAt w b fs) := hos
  have hlen : xs.length ≤ 20 := hA.len
  have HA : Hid (FL.Ask xs f t) := hA
  have HF : Hid (FL.fitUp xs fs xs.length) := hfit
  have GC : Hid (∀ k, k < xs.length → FL.Good (MI3.at_ xs k)) := fun k hk => FL.okP_good hA.ok hk
  have TR : Hid (FL.Tree xs fs f (FL.srch xs fs f)) := FL.srch_tree hA.ok ⟨hA.f0, hA.f7⟩
  obtain ⟨fn, rfl⟩ := Int.eq_ofNat_of_zero_le hA.f0
  obtain ⟨tn, rfl⟩ := Int.eq_ofNat_of_zero_le hA.t0
  have hfn : fn < 8 := by have := hA.f7; omega
  have htn : tn < 8 := by have := hA.t7; omega
  rw [hl] at SE ⊢
  have HL : Hid _ := hl
  clear hin hos hfit hl hA
  have CS : Hid (FL.Case fs (FL.srch xs fs (fn : Int)) tn (FL.augN xs fs (fn : Int) (tn : Int)) (FL.ansL xs fs (fn : Int) (tn : Int))) := FL.case_of HA.out HL.out HF.out
  generalize FL.augN xs fs (fn : Int) (tn : Int) = N at *
  generalize FL.ansL xs fs (fn : Int) (tn : Int) = LL at *
  go_enter Try.func51, Try.ntmps51
  go_wp2_with fail
  refine Calls.mono SE.out ?_
  rintro e w1 ⟨g1, c1, rfl, hown, hb1⟩
  clear SE
  have l1 := hown.lt g1 rfl
  have CL : Hid (∀ (W : World) (j : Nat), Below w1.heap.size w1 W → j < 8 → W.cell? ⟨g1, j, none⟩ = some (.int .i64 ((FL.srch xs fs (fn : Int)).by_.getD j 0))) := fun W j hb hj => by
    have h8 := TR.out.len
    rw [(M5.own_below hown hb).cellAt j (by omega)]; exact M4.iv_get _ _ _ (FL.get_of _ (by omega))
  have HOW : Hid (w1.ownsRow w.heap.size 3 1 (.slice (some ⟨g1, 0, none⟩) 8 c1) 8 (M4.iv (FL.srch xs fs (fn : Int)).by_)) := hown
  clear hown
  generalize hS : FL.srch xs fs (fn : Int) = S at *
  clear hS
  have cz := CL.out w1 tn (Below.refl _ _) htn
  have tt0 : (0 : Int) ≤ (tn : Int) := by omega
  have tt8 : (tn : Int) < 8 := by omega
  by_cases hz : S.by_.getD tn 0 = -1
  · have hF : Hid (N = 0) := (CS.out.no hz).1
    have hF2 : Hid (LL = []) := (CS.out.no hz).2
    rw [hz] at cz
    clear CS CL HOW HI HO HA HF GC TR hz
    go_wp2
    go_ret2
    exact ⟨none, 0, by rw [hF.out, hF2.out]; rfl, by rw [hF2.out]; exact World.ownsRow_nil _ _ _ _, hb1⟩
  · have AU : Hid (FL.Aug fs S tn N LL) := CS.out.yes hz
    have HZ : Hid (S.by_.getD tn 0 ≠ -1) := hz
    obtain ⟨z, hzv⟩ : ∃ z, S.by_.getD tn 0 = z := ⟨_, rfl⟩
    rw [hzv] at cz hz
    have hnb : (z == -1) = false := by simpa using hz
    clear hzv hz CS
    go_wp2
    clear cz hnb
    go_loopw [11, 12] (fun mv nv wr => ∃ (n : Nat) (l2 : List FL.Stp) (m : Int), nv = .int .i64 n ∧ n < 8 ∧ mv = .int .i64 m ∧ Hid (FL.lst l2 = m) ∧ Hid (S.by_.getD n 0 ≠ -1) ∧ Hid (S.L tn = S.L n ++ l2) ∧ Below w1.heap.size w1 wr) (fun _ nv _ => FL.ml S nv)
    case atStart => exact ⟨tn, [], 0, rfl, htn, rfl, rfl, HZ, show Hid _ from (List.append_nil _).symm, Below.refl _ _⟩
    case round =>
      obtain ⟨n, l2, m, rfl, hn8, rfl, hLM, hB, hL2, hb⟩ := hrel
      have nn0 : (0 : Int) ≤ (n : Int) := by omega
      have nn8 : (n : Int) < 8 := by omega
      have hbw : Below w.heap.size w wr := hb1.trans (hb.mono hb1.size)
      by_cases hnf : (n : Int) = (fn : Int)
      · have hnil : S.L n = [] := by have := TR.out.nil; rw [Int.toNat_natCast] at this; rw [show n = fn from by omega]; exact this
        have hL3 : Hid (S.L tn = l2) := by show _ = _; rw [hL2.out, hnil, List.nil_append]
        have hMost : N = m := by rw [← hLM.out, ← hL3.out, AU.out.n]
        clear hnil hL2 hB
        subst hMost
        obtain rfl : fn = n := by omega
        have mb1 : 0 < N := AU.out.pos
        have mb2 : N ≤ 100 := AU.out.up
        clear hLM hnf
        obtain ⟨wx, hwx⟩ : ∃ wx, wx = wr := ⟨_, rfl⟩
        subst hwx
        obtain ⟨z0, hz0l⟩ : ∃ x, x ∈ S.L tn := by
          cases hc : S.L tn with
          | nil => have := AU.out.n; rw [hc] at this; have := AU.out.pos; simp only [FL.lst] at *; omega
          | cons x l => exact ⟨x, by simp⟩
        have hflen : 0 < fs.length := Nat.lt_of_le_of_lt (Nat.zero_le _) (AU.out.k z0 hz0l)
        obtain ⟨b5, off5, hbb, hlt5, _⟩ := M4.IntsAt.at HO.out (k := 0) hflen
        have hRN : ∀ j u, (M4.iv fs)[j]? = some u → (wx.alloc (.cells #[] 3)).cell? ((⟨b5, off5, none⟩ : Addr).add j) = some u := fun j u hj => by
          have hjl : j < fs.length := by have := (List.getElem?_eq_some_iff.1 hj).1; simpa [M4.iv] using this
          obtain ⟨b6, off6, hb6, hlt6, hc6⟩ := M4.IntsAt.at (M4.IntsAt.below HO.out (hbw.alloc hbw.size (.cells #[] 3))) (k := j) hjl
          rw [hbb] at hb6
          simp only [Option.some.injEq, Addr.mk.injEq] at hb6
          obtain ⟨rfl, rfl, -⟩ := hb6
          have hadd : (⟨b5, off5, none⟩ : Addr).add j = ⟨b5, off5 + j, none⟩ := by unfold Addr.add; split <;> simp_all
          rw [hadd, hc6]
          rw [M4.iv_get _ _ _ (FL.get_of fs hjl)] at hj
          exact hj
        have HRN : Hid (∀ j u, (M4.iv fs)[j]? = some u → (wx.alloc (.cells #[] 3)).cell? ((⟨b5, off5, none⟩ : Addr).add j) = some u) := hRN
        have OWN0 : Hid ((wx.alloc (.cells #[] 3)).ownsRow wx.heap.size 3 1 (.slice (some ⟨wx.heap.size, 0, none⟩) 0 0) 0 []) := by
          have := World.ownsRow_lit (base := wx.heap.size) (e := 3) (size := 1) wx #[] 0 (by simp) (by unfold maxLen; omega) (by simp)
          show World.ownsRow _ _ _ _ _ _ _
          simpa [M4.iv] using this
        have hx0 : 0 < xs.length := by rw [← HL.out]; exact hflen
        clear hRN hz0l z0 hflen hlt5
        subst hbb
        go_wp2_with (at_builtin; refine wpList_append_own _ rfl _ _ 29 rfl wx.heap.size 3 i0 (.int .i64 0) 1 8 Try.underlying29 hi hz0 hz1 hz2 rfl (by decide) _ _ _ rfl OWN0.out ⟨b5, off5, none⟩ xs.length cb (M4.iv fs) rfl ?a0 ?a1 ?a2 ?a3 ?a4 ?a5 ?_)
        case a0 => simp [M4.iv, HL.out]
        case a1 => exact HRN.out
        case a2 => intro u hu; simp only [M4.iv, List.mem_map] at hu; obtain ⟨z, _, rfl⟩ := hu; rfl
        case a3 => unfold maxLen; omega
        case a4 => omega
        case a5 => simp
        intro v' w4 hown4 hgrow4 _
        have hb4 : Below wx.heap.size wx w4 := ((Below.refl _ wx).alloc (Nat.le_refl _) _).grown hgrow4 (by simp) (fun j hj => (World.ownsRow.lt OWN0.out j hj).1)
        have hb5 : Below w1.heap.size w1 w4 := hb.trans (hb4.mono hb.size)
        obtain ⟨g3, c3, rfl⟩ : ∃ g3 c3, v' = .slice (some ⟨g3, 0, none⟩) xs.length c3 := by
          rcases hown4.2 with ⟨_, h'⟩ | ⟨g, cap, cur, rfl, _⟩
          · omega
          · exact ⟨g, cap, rfl⟩
        have hg3 := (hown4.lt g3 rfl).1
        have HO4 : Hid (w4.ownsRow wx.heap.size 3 1 (.slice (some ⟨g3, 0, none⟩) xs.length c3) xs.length (M4.iv fs)) := hown4
        clear hown4 hgrow4 OWN0 HRN hb4
        go_wp2
        go_loopw [18] (fun nv wr => ∃ (n : Nat) (l2 : List FL.Stp) (o : List Int), nv = .int .i64 n ∧ n < 8 ∧ Hid (S.by_.getD n 0 ≠ -1) ∧ Hid (S.L tn = S.L n ++ l2) ∧ Hid (FL.putR N fs l2 = o) ∧ wr.ownsRow wx.heap.size 3 1 (.slice (some ⟨g3, 0, none⟩) xs.length c3) xs.length (M4.iv o) ∧ Below w1.heap.size w1 wr) (fun nv _ => FL.ml S nv)
        case atStart => exact ⟨tn, [], fs, rfl, htn, HZ, show Hid _ from (List.append_nil _).symm, rfl, HO4.out, hb5⟩
        case round =>
          clear HO4 hb5
          obtain ⟨n, l2, o, rfl, hn8, hB, hL2, hPO, hown, hbo⟩ := hrel
          have nn0 : (0 : Int) ≤ (n : Int) := by omega
          have nn8 : (n : Int) < 8 := by omega
          by_cases hnf : (n : Int) = (fn : Int)
          · have hnil : S.L n = [] := by have := TR.out.nil; rw [Int.toNat_natCast] at this; rw [show n = fn from by omega]; exact this
            have hE : Hid (o = LL) := by
              show o = LL
              rw [← hPO.out, ← AU.out.l, hL2.out, hnil, List.nil_append]
            have hLen : Hid (LL.length = xs.length) := by rw [← HL.out]; exact AU.out.len
            have HOW2 : Hid (wr.ownsRow wx.heap.size 3 1 (.slice (some ⟨g3, 0, none⟩) xs.length c3) xs.length (M4.iv o)) := hown
            have hbw2 : Below w.heap.size w wr := hb1.trans (hbo.mono hb1.size)
            have hbase : w.heap.size ≤ wx.heap.size := hbw.size
            clear hnil hL2 hB hPO hown hbo
            obtain rfl : fn = n := by omega
            clear hnf
            go_wp2
            go_ret2
            have R := HOW2.out
            rw [hE.out] at R
            exact ⟨some ⟨g3, 0, none⟩, c3, by rw [hLen.out]; rfl, by rw [hLen.out]; exact FL.own_base R hbase, hbw2⟩
          · obtain ⟨k, p, BK⟩ := TR.out.back HA.out.ok hn8 hB.out hnf
            have c0 := CL.out wr n hbo hn8
            rw [BK.by_] at c0
            have hbw2 : Below w.heap.size w wr := hb1.trans (hbo.mono hb1.size)
            obtain ⟨b4, off4, hab, hlt4, e0, e1, e2⟩ := (HI.out.below hbw2).at BK.hk
            have F := HF.out k BK.hk
            have G := GC.out k BK.hk
            have hy1 : fs.getD k 0 ≤ 100 := by have := G.c1; omega
            have hy0 := F.1
            have HL4 : Hid (S.L tn = S.L p ++ (FL.stp xs fs (p : Int) k :: l2)) := by show _ = _; rw [hL2.out, BK.L, List.append_assoc]; rfl
            have HOY : Hid (o.getD k 0 = fs.getD k 0) := by
              show _ = _
              rw [← hPO.out]; exact FL.putR_at (x := FL.stp xs fs (p : Int) k) AU.out.k AU.out.one HL4.out
            have HLT : Hid ((S.L p).length < (S.L n).length) := BK.lt
            have hp8 := BK.hp
            have hkx : k < xs.length := BK.hk
            have HPB : Hid (S.by_.getD p 0 ≠ -1) := BK.is
            have hpn : (p : Int) ≠ (n : Int) := by have := BK.ne; omega
            have way := BK.way
            have kk0 : (0 : Int) ≤ (k : Int) := by omega
            have kkx : (k : Int) < (xs.length : Int) := by omega
            have l1' : g1 < wr.heap.size := Nat.lt_of_lt_of_le l1.2 hbo.size
            have l3' : g3 < wr.heap.size := (hown.lt g3 rfl).2
            have co : wr.cell? ⟨g3, k, none⟩ = some (.int .i64 (fs.getD k 0)) := by
              have hol : o.length = xs.length := by have := hown.1; simpa [M4.iv] using this
              rw [hown.cellAt k (by omega), ← HOY.out]; exact M4.iv_get _ _ _ (FL.get_of _ (by omega))
            have h13 : g1 ≠ g3 := by have := l1.2; have := hb.size; omega
            clear BK G F hL2 hB hbw2
            obtain ⟨x, hx⟩ : ∃ x, MI3.at_ xs k = x := ⟨_, rfl⟩
            have HXX : Hid (MI3.at_ xs k = x) := hx
            rw [hx] at e0 e1 e2 way
            clear hx
            obtain ⟨x0, x1, x2⟩ := x
            simp only at e0 e1 e2 way
            generalize hy : fs.getD k 0 = y at *
            clear hy
            subst hab
            rcases way with ⟨w0, w1', w2⟩ | ⟨w0, w1', w2⟩
            · subst w0 w1'
              have HPE : Hid (FL.putR N fs (FL.stp xs fs (p : Int) k :: l2) = o.set k (y + N)) := by
                show FL.put1 N (FL.putR N fs l2) (FL.stp xs fs (p : Int) k) = _
                rw [hPO.out]; unfold FL.put1
                rw [show (FL.stp xs fs (p : Int) k).k = k from rfl, HOY.out]
                have hd : FL.dl N (FL.stp xs fs (p : Int) k) = N := by unfold FL.dl; rw [show (FL.stp xs fs (p : Int) k).back = false from by show FL.bk (MI3.at_ xs k) (p : Int) = _; rw [HXX.out]; exact w2]; rfl
                rw [hd]
              have hst := hown.stored k (.int .i64 (y + N))
              rw [M4.iv_set] at hst
              have HST : Hid (((wr.setCell ⟨g3, k, none⟩ (.int .i64 (y + N))).alloc (.cells #[.int .i64 (p : Int), .int .i64 (n : Int), .int .i64 x2] 68)).ownsRow wx.heap.size 3 1 (.slice (some ⟨g3, 0, none⟩) xs.length c3) xs.length (M4.iv (o.set k (y + N)))) := World.ownsRow.alloc hst.1 _
              have hbs0 : Below w1.heap.size w1 (wr.setCell ⟨g3, k, none⟩ (.int .i64 (y + N))) := hbo.trans (((MC.Only.refl g3 _).setCell k _).below (by have := hb.size; omega) hbo.size)
              have hbs : Below w1.heap.size w1 ((wr.setCell ⟨g3, k, none⟩ (.int .i64 (y + N))).alloc (.cells #[.int .i64 (p : Int), .int .i64 (n : Int), .int .i64 x2] 68)) := hbs0.alloc hbs0.size _
              have HBS : Hid _ := hbs
              have q1 : (wr.alloc (.cells #[.int .i64 (p : Int), .int .i64 (n : Int), .int .i64 x2] 68)).cell? ⟨g1, n, none⟩ = some (.int .i64 (k : Int)) := by rw [World.cell?_alloc_lt _ _ _ l1']; exact c0
              have q3 : (wr.alloc (.cells #[.int .i64 (p : Int), .int .i64 (n : Int), .int .i64 x2] 68)).cell? ⟨g3, k, none⟩ = some (.int .i64 y) := by rw [World.cell?_alloc_lt _ _ _ l3']; exact co
              have q4 : (wr.alloc (.cells #[.int .i64 (p : Int), .int .i64 (n : Int), .int .i64 x2] 68)).frozen? ⟨g3, k, none⟩ = false := (hown.alloc _).frozenAt k
              have hne3 : g3 ≠ wr.heap.size := by omega
              clear hst hown hPO HOY HXX hbs hbs0 w2 hbo
              go_wp2
              go_roundw
              case rel => exact ⟨p, FL.stp xs fs (p : Int) k :: l2, _, rfl, hp8, HPB, HL4, HPE, HST.out, HBS.out⟩
              case measure => exact FL.ml_lt HLT.out
            · subst w0 w1'
              have HPE : Hid (FL.putR N fs (FL.stp xs fs (p : Int) k :: l2) = o.set k (y - N)) := by
                show FL.put1 N (FL.putR N fs l2) (FL.stp xs fs (p : Int) k) = _
                rw [hPO.out]; unfold FL.put1
                rw [show (FL.stp xs fs (p : Int) k).k = k from rfl, HOY.out]
                have hd : FL.dl N (FL.stp xs fs (p : Int) k) = -N := by unfold FL.dl; rw [show (FL.stp xs fs (p : Int) k).back = true from by show FL.bk (MI3.at_ xs k) (p : Int) = _; rw [HXX.out]; exact w2]; rfl
                rw [hd]; rfl
              have hst := hown.stored k (.int .i64 (y - N))
              rw [M4.iv_set] at hst
              have HST : Hid (((wr.setCell ⟨g3, k, none⟩ (.int .i64 (y - N))).alloc (.cells #[.int .i64 (n : Int), .int .i64 (p : Int), .int .i64 x2] 68)).ownsRow wx.heap.size 3 1 (.slice (some ⟨g3, 0, none⟩) xs.length c3) xs.length (M4.iv (o.set k (y - N)))) := World.ownsRow.alloc hst.1 _
              have hbs0 : Below w1.heap.size w1 (wr.setCell ⟨g3, k, none⟩ (.int .i64 (y - N))) := hbo.trans (((MC.Only.refl g3 _).setCell k _).below (by have := hb.size; omega) hbo.size)
              have hbs : Below w1.heap.size w1 ((wr.setCell ⟨g3, k, none⟩ (.int .i64 (y - N))).alloc (.cells #[.int .i64 (n : Int), .int .i64 (p : Int), .int .i64 x2] 68)) := hbs0.alloc hbs0.size _
              have HBS : Hid _ := hbs
              have q1 : (wr.alloc (.cells #[.int .i64 (n : Int), .int .i64 (p : Int), .int .i64 x2] 68)).cell? ⟨g1, n, none⟩ = some (.int .i64 (k : Int)) := by rw [World.cell?_alloc_lt _ _ _ l1']; exact c0
              have q3 : (wr.alloc (.cells #[.int .i64 (n : Int), .int .i64 (p : Int), .int .i64 x2] 68)).cell? ⟨g3, k, none⟩ = some (.int .i64 y) := by rw [World.cell?_alloc_lt _ _ _ l3']; exact co
              have q4 : (wr.alloc (.cells #[.int .i64 (n : Int), .int .i64 (p : Int), .int .i64 x2] 68)).frozen? ⟨g3, k, none⟩ = false := (hown.alloc _).frozenAt k
              have hne3 : g3 ≠ wr.heap.size := by omega
              clear hst hown hPO HOY HXX hbs hbs0 w2 hbo
              go_wp2
              go_roundw
              case rel => exact ⟨p, FL.stp xs fs (p : Int) k :: l2, _, rfl, hp8, HPB, HL4, HPE, HST.out, HBS.out⟩
              case measure => exact FL.ml_lt HLT.out
      · obtain ⟨k, p, BK⟩ := TR.out.back HA.out.ok hn8 hB.out hnf
        have c0 := CL.out wr n hb hn8
        rw [BK.by_] at c0
        obtain ⟨b4, off4, hab, hlt4, e0, e1, e2⟩ := (HI.out.below hbw).at BK.hk
        obtain ⟨b5, off5, hbb, hlt5, d0⟩ := M4.IntsAt.at (M4.IntsAt.below HO.out hbw) (k := k) (by rw [HL.out]; exact BK.hk)
        have G := GC.out k BK.hk
        have F := HF.out k BK.hk
        have RM : Hid (∀ W : World, Calls Try.prog 65 #[(MI3.at_ xs k).v, .int .i64 (fs.getD k 0), .int .i64 (p : Int)] W fun e w' => e = .returned (.tuple #[.int .i64 (FL.rm (MI3.at_ xs k) (fs.getD k 0) (p : Int)), .int .i64 (FL.nx (MI3.at_ xs k) (p : Int))]) ∧ Below W.heap.size W w') := fun W => l8Room_any _ _ _ W G F.1 (by have := G.c1; omega)
        have HL4 : Hid (S.L tn = S.L p ++ (FL.stp xs fs (p : Int) k :: l2)) := by show _ = _; rw [hL2.out, BK.L, List.append_assoc]; rfl
        have HLS : Hid (FL.lst (FL.stp xs fs (p : Int) k :: l2) = if FL.lst l2 = 0 ∨ FL.rm (MI3.at_ xs k) (fs.getD k 0) (p : Int) < FL.lst l2 then FL.rm (MI3.at_ xs k) (fs.getD k 0) (p : Int) else FL.lst l2) := rfl
        rw [hLM.out] at HLS
        clear hLM
        have HLT : Hid ((S.L p).length < (S.L n).length) := BK.lt
        have hp8 := BK.hp
        have hkx : k < xs.length := BK.hk
        have HPB : Hid (S.by_.getD p 0 ≠ -1) := BK.is
        have hpn : (p : Int) ≠ (n : Int) := by have := BK.ne; omega
        have way := BK.way
        have kk0 : (0 : Int) ≤ (k : Int) := by omega
        have kkx : (k : Int) < (xs.length : Int) := by omega
        have l1' : g1 < wr.heap.size := Nat.lt_of_lt_of_le l1.2 hb.size
        have hba : Below w1.heap.size w1 (wr.alloc (.cells #[.int .i64 (MI3.at_ xs k).a0, .int .i64 (MI3.at_ xs k).a1, .int .i64 (MI3.at_ xs k).a2] 68)) := hb.alloc hb.size _
        have HBA : Hid _ := hba
        clear BK G F hL2 hB hba
        generalize hx : MI3.at_ xs k = x at *
        generalize hy : fs.getD k 0 = y at *
        clear hx hy
        obtain ⟨x0, x1, x2⟩ := x
        simp only at e0 e1 e2 way HBA
        subst hab hbb
        generalize FL.rm ⟨x0, x1, x2⟩ y (p : Int) = r at *
        generalize FL.nx ⟨x0, x1, x2⟩ (p : Int) = r2 at *
        rcases way with ⟨w0, w1', -⟩ | ⟨w0, w1', -⟩
        · subst w0 w1'
          have f0 : (wr.alloc (.cells #[.int .i64 (p : Int), .int .i64 (n : Int), .int .i64 x2] 68)).cell? ⟨wr.heap.size, 0, none⟩ = some (.int .i64 (p : Int)) := by simp
          have f1 : (wr.alloc (.cells #[.int .i64 (p : Int), .int .i64 (n : Int), .int .i64 x2] 68)).cell? ⟨wr.heap.size, 1, none⟩ = some (.int .i64 (n : Int)) := by simp
          have f2 : (wr.alloc (.cells #[.int .i64 (p : Int), .int .i64 (n : Int), .int .i64 x2] 68)).cell? ⟨wr.heap.size, 2, none⟩ = some (.int .i64 x2) := by simp
          have q1 : (wr.alloc (.cells #[.int .i64 (p : Int), .int .i64 (n : Int), .int .i64 x2] 68)).cell? ⟨g1, n, none⟩ = some (.int .i64 (k : Int)) := by rw [World.cell?_alloc_lt _ _ _ l1']; exact c0
          have q2 : (wr.alloc (.cells #[.int .i64 (p : Int), .int .i64 (n : Int), .int .i64 x2] 68)).cell? ⟨b5, off5 + k, none⟩ = some (.int .i64 y) := by rw [World.cell?_alloc_lt _ _ _ hlt5]; exact d0
          have z0 : wr.heap.size < (wr.alloc (.cells #[.int .i64 (p : Int), .int .i64 (n : Int), .int .i64 x2] 68)).heap.size := by simp
          have z1 : g1 < (wr.alloc (.cells #[.int .i64 (p : Int), .int .i64 (n : Int), .int .i64 x2] 68)).heap.size := by simp; omega
          have z2 : b5 < (wr.alloc (.cells #[.int .i64 (p : Int), .int .i64 (n : Int), .int .i64 x2] 68)).heap.size := by simp; omega
          have Q1 : Hid _ := q1
          have Q2 : Hid _ := q2
          have F0 : Hid _ := f0
          have F1 : Hid _ := f1
          have F2 : Hid _ := f2
          have Z0 : Hid _ := z0
          have Z1 : Hid _ := z1
          have Z2 : Hid _ := z2
          clear q1 q2 f0 f1 f2 z0 z1 z2
          go_wp2_with fail
          clear e0 e1 e2 d0 c0 hlt4 hlt5 l1'
          generalize wr.alloc (.cells #[.int .i64 (p : Int), .int .i64 (n : Int), .int .i64 x2] 68) = W1 at *
          generalize wr.heap.size = q at *
          have q1 := Q1.out
          have q2 := Q2.out
          have f0 := F0.out
          have f1 := F1.out
          have f2 := F2.out
          have z0 := Z0.out
          have z1 := Z1.out
          have z2 := Z2.out
          clear Q1 Q2 F0 F1 F2 Z0 Z1 Z2
          go_region_held3 (fun w' => w'.cell? ⟨q, 0, none⟩ = some (.int .i64 (p : Int)) ∧ w'.cell? ⟨q, 1, none⟩ = some (.int .i64 (n : Int)) ∧ w'.cell? ⟨q, 2, none⟩ = some (.int .i64 x2) ∧ w'.cell? ⟨g1, n, none⟩ = some (.int .i64 (k : Int)) ∧ w'.cell? ⟨b5, off5 + k, none⟩ = some (.int .i64 y)) (first | assumption | go_keep) (first | (go_at_call 65; refine Calls.mono (RM.out _) ?_; rintro e w3 ⟨rfl, hb3⟩; have k0 : w3.cell? ⟨q, 0, none⟩ = some (.int .i64 (p : Int)) := (hb3.cell (p := ⟨q, 0, none⟩) (by simpa using z0)).trans (by simpa using f0); have k1 : w3.cell? ⟨q, 1, none⟩ = some (.int .i64 (n : Int)) := (hb3.cell (p := ⟨q, 1, none⟩) (by simpa using z0)).trans (by simpa using f1); have k2 : w3.cell? ⟨q, 2, none⟩ = some (.int .i64 x2) := (hb3.cell (p := ⟨q, 2, none⟩) (by simpa using z0)).trans (by simpa using f2); have k3 : w3.cell? ⟨g1, n, none⟩ = some (.int .i64 (k : Int)) := (hb3.cell (p := ⟨g1, n, none⟩) (by simpa using z1)).trans (by simpa using q1); have k4 : w3.cell? ⟨b5, off5 + k, none⟩ = some (.int .i64 y) := (hb3.cell (p := ⟨b5, off5 + k, none⟩) (by simpa using z2)).trans (by simpa using q2)))
          have hB3 : Below w1.heap.size w1 w3 := HBA.out.trans ((((Below.refl _ W1).drew).trans hb3).mono HBA.out.size)
          have HB3 : Hid _ := hB3
          clear q1 q2 f0 f1 f2 z0 z1 z2 k0 k1 k2 k3 k4 hb3 HBA RM hB3
          by_cases h0 : m = 0
          · have HE : Hid (r = FL.lst (FL.stp xs fs (p : Int) k :: l2)) := by show _ = _; rw [HLS.out, if_pos (.inl h0)]
            subst h0
            clear HLS
            go_wp2
            go_roundw
            case rel => exact ⟨p, FL.stp xs fs (p : Int) k :: l2, _, rfl, hp8, rfl, show Hid _ from HE.out.symm, HPB, HL4, HB3.out⟩
            case measure => exact FL.ml_lt HLT.out
          · by_cases h1 : r < m
            · have HE : Hid (r = FL.lst (FL.stp xs fs (p : Int) k :: l2)) := by show _ = _; rw [HLS.out, if_pos (.inr h1)]
              clear HLS
              go_wp2
              go_roundw
              case rel => exact ⟨p, FL.stp xs fs (p : Int) k :: l2, _, rfl, hp8, rfl, show Hid _ from HE.out.symm, HPB, HL4, HB3.out⟩
              case measure => exact FL.ml_lt HLT.out
            · have HE : Hid (m = FL.lst (FL.stp xs fs (p : Int) k :: l2)) := by show _ = _; rw [HLS.out, if_neg (by omega)]
              clear HLS
              go_wp2
              go_roundw
              case rel => exact ⟨p, FL.stp xs fs (p : Int) k :: l2, _, rfl, hp8, rfl, show Hid _ from HE.out.symm, HPB, HL4, HB3.out⟩
              case measure => exact FL.ml_lt HLT.out
        · subst w0 w1'
          have f0 : (wr.alloc (.cells #[.int .i64 (n : Int), .int .i64 (p : Int), .int .i64 x2] 68)).cell? ⟨wr.heap.size, 0, none⟩ = some (.int .i64 (n : Int)) := by simp
          have f1 : (wr.alloc (.cells #[.int .i64 (n : Int), .int .i64 (p : Int), .int .i64 x2] 68)).cell? ⟨wr.heap.size, 1, none⟩ = some (.int .i64 (p : Int)) := by simp
          have f2 : (wr.alloc (.cells #[.int .i64 (n : Int), .int .i64 (p : Int), .int .i64 x2] 68)).cell? ⟨wr.heap.size, 2, none⟩ = some (.int .i64 x2) := by simp
          have q1 : (wr.alloc (.cells #[.int .i64 (n : Int), .int .i64 (p : Int), .int .i64 x2] 68)).cell? ⟨g1, n, none⟩ = some (.int .i64 (k : Int)) := by rw [World.cell?_alloc_lt _ _ _ l1']; exact c0
          have q2 : (wr.alloc (.cells #[.int .i64 (n : Int), .int .i64 (p : Int), .int .i64 x2] 68)).cell? ⟨b5, off5 + k, none⟩ = some (.int .i64 y) := by rw [World.cell?_alloc_lt _ _ _ hlt5]; exact d0
          have z0 : wr.heap.size < (wr.alloc (.cells #[.int .i64 (n : Int), .int .i64 (p : Int), .int .i64 x2] 68)).heap.size := by simp
          have z1 : g1 < (wr.alloc (.cells #[.int .i64 (n : Int), .int .i64 (p : Int), .int .i64 x2] 68)).heap.size := by simp; omega
          have z2 : b5 < (wr.alloc (.cells #[.int .i64 (n : Int), .int .i64 (p : Int), .int .i64 x2] 68)).heap.size := by simp; omega
          have Q1 : Hid _ := q1
          have Q2 : Hid _ := q2
          have F0 : Hid _ := f0
          have F1 : Hid _ := f1
          have F2 : Hid _ := f2
          have Z0 : Hid _ := z0
          have Z1 : Hid _ := z1
          have Z2 : Hid _ := z2
          clear q1 q2 f0 f1 f2 z0 z1 z2
          go_wp2_with fail
          clear e0 e1 e2 d0 c0 hlt4 hlt5 l1'
          generalize wr.alloc (.cells #[.int .i64 (n : Int), .int .i64 (p : Int), .int .i64 x2] 68) = W1 at *
          generalize wr.heap.size = q at *
          have q1 := Q1.out
          have q2 := Q2.out
          have f0 := F0.out
          have f1 := F1.out
          have f2 := F2.out
          have z0 := Z0.out
          have z1 := Z1.out
          have z2 := Z2.out
          clear Q1 Q2 F0 F1 F2 Z0 Z1 Z2
          go_region_held3 (fun w' => w'.cell? ⟨q, 0, none⟩ = some (.int .i64 (n : Int)) ∧ w'.cell? ⟨q, 1, none⟩ = some (.int .i64 (p : Int)) ∧ w'.cell? ⟨q, 2, none⟩ = some (.int .i64 x2) ∧ w'.cell? ⟨g1, n, none⟩ = some (.int .i64 (k : Int)) ∧ w'.cell? ⟨b5, off5 + k, none⟩ = some (.int .i64 y)) (first | assumption | go_keep) (first | (go_at_call 65; refine Calls.mono (RM.out _) ?_; rintro e w3 ⟨rfl, hb3⟩; have k0 : w3.cell? ⟨q, 0, none⟩ = some (.int .i64 (n : Int)) := (hb3.cell (p := ⟨q, 0, none⟩) (by simpa using z0)).trans (by simpa using f0); have k1 : w3.cell? ⟨q, 1, none⟩ = some (.int .i64 (p : Int)) := (hb3.cell (p := ⟨q, 1, none⟩) (by simpa using z0)).trans (by simpa using f1); have k2 : w3.cell? ⟨q, 2, none⟩ = some (.int .i64 x2) := (hb3.cell (p := ⟨q, 2, none⟩) (by simpa using z0)).trans (by simpa using f2); have k3 : w3.cell? ⟨g1, n, none⟩ = some (.int .i64 (k : Int)) := (hb3.cell (p := ⟨g1, n, none⟩) (by simpa using z1)).trans (by simpa using q1); have k4 : w3.cell? ⟨b5, off5 + k, none⟩ = some (.int .i64 y) := (hb3.cell (p := ⟨b5, off5 + k, none⟩) (by simpa using z2)).trans (by simpa using q2)))
          have hB3 : Below w1.heap.size w1 w3 := HBA.out.trans ((((Below.refl _ W1).drew).trans hb3).mono HBA.out.size)
          have HB3 : Hid _ := hB3
          clear q1 q2 f0 f1 f2 z0 z1 z2 k0 k1 k2 k3 k4 hb3 HBA RM hB3
          by_cases h0 : m = 0
          · have HE : Hid (r = FL.lst (FL.stp xs fs (p : Int) k :: l2)) := by show _ = _; rw [HLS.out, if_pos (.inl h0)]
            subst h0
            clear HLS
            go_wp2
            go_roundw
            case rel => exact ⟨p, FL.stp xs fs (p : Int) k :: l2, _, rfl, hp8, rfl, show Hid _ from HE.out.symm, HPB, HL4, HB3.out⟩
            case measure => exact FL.ml_lt HLT.out
          · by_cases h1 : r < m
            · have HE : Hid (r = FL.lst (FL.stp xs fs (p : Int) k :: l2)) := by show _ = _; rw [HLS.out, if_pos (.inr h1)]
              clear HLS
              go_wp2
              go_roundw
              case rel => exact ⟨p, FL.stp xs fs (p : Int) k :: l2, _, rfl, hp8, rfl, show Hid _ from HE.out.symm, HPB, HL4, HB3.out⟩
              case measure => exact FL.ml_lt HLT.out
            · have HE : Hid (m = FL.lst (FL.stp xs fs (p : Int) k :: l2)) := by show _ = _; rw [HLS.out, if_neg (by omega)]
              clear HLS
              go_wp2
              go_roundw
              case rel => exact ⟨p, FL.stp xs fs (p : Int) k :: l2, _, rfl, hp8, rfl, show Hid _ from HE.out.symm, HPB, HL4, HB3.out⟩
              case measure => exact FL.ml_lt HLT.out
end Go.Proofs.Ytpabhjnpbnabiaa

/- The most that gets through, of the specification: l8Max. -/
namespace Go.Proofs.Ytpabhjnpbnabiaa
open Go.RowKit
set_option linter.unusedSimpArgs false in
set_option maxHeartbeats 1600000 in
set_option maxRecDepth 100000 in
theorem l8Max_any (a : Option Addr) (ca : Nat) (xs : List I3) (f t : Int) (w : World) (hA : FL.Ask xs f t) (hin : MI3.RowAt w a xs) :
    Calls Try.prog 25 #[.slice a xs.length ca, .int .i64 f, .int .i64 t] w fun e w' => ∃ a1 c1, e = .returned (.slice a1 xs.length c1) ∧ w'.ownsRow w.heap.size 3 1 (.slice a1 xs.length c1) xs.length (M4.iv (FL.maxF xs f t)) ∧ Below w.heap.size w w' := by
  obtain ⟨i0, hi, hz0, hz1, hz2⟩ := info_parts Try.info3
  have hlen : xs.length ≤ 20 := hA.len
  have HI : Hid (MI3.RowAt w a xs) := hin
  have HA : Hid (FL.Ask xs f t) := hA
  have AU : Hid (∀ (W : World) (v : Option Addr) (cv : Nat) (fs : List Int), FL.AtF xs f t fs → MI3.RowAt W a xs → M4.IntsAt W v fs → Calls Try.prog 51 #[.slice a xs.length ca, .int .i64 f, .int .i64 t, .slice v xs.length cv] W fun e w' => ∃ a1 c1, e = .returned (.tuple #[.slice a1 (FL.ansL xs fs f t).length c1, .int .i64 (FL.augN xs fs f t)]) ∧ w'.ownsRow W.heap.size 3 1 (.slice a1 (FL.ansL xs fs f t).length c1) (FL.ansL xs fs f t).length (M4.iv (FL.ansL xs fs f t)) ∧ Below W.heap.size W w') := fun W v cv fs h h1 h2 => by
    have o := h.ok hA
    have := l8Augment_any a v ca cv xs fs f t W hA o.1 o.2 h1 h2
    rwa [o.1] at this
  have FI : Hid (∀ fs, FL.AtF xs f t fs → FL.augN xs fs f t = 0 → FL.maxF xs f t = fs) := fun fs h h1 => h.fin hA h1
  have NX : Hid (∀ fs, FL.AtF xs f t fs → FL.augN xs fs f t ≠ 0 → FL.AtF xs f t (FL.ansL xs fs f t) ∧ (FL.ansL xs fs f t).length = xs.length ∧ FL.outUp xs fs f xs.length < FL.outUp xs (FL.ansL xs fs f t) f xs.length ∧ FL.outUp xs (FL.ansL xs fs f t) f xs.length ≤ 2000) := fun fs h h1 => h.next hA h1
  have ST : Hid (FL.AtF xs f t (List.replicate xs.length 0)) := FL.AtF.start xs f t
  generalize FL.maxF xs f t = F at *
  clear hin hA
  go_enter Try.func25, Try.ntmps25
  go_wp2_with (at_make; refine wpList_make_full _ rfl _ _ 29 rfl w.heap.size 3 i0 (.int .i64 0) 1 Try.underlying29 hi hz0 hz1 .i64 .i64 _ _ xs.length rfl rfl rfl rfl ?_ ?_ ?_ ?_)
  · rw [hz2]; omega
  · unfold maxLen; omega
  · omega
  intro w1 hown hgrow
  rw [M4.made_iv] at hown
  have hb1 : Below w.heap.size w w1 := (Below.refl _ _).grown hgrow (Nat.le_refl _) (fun k hk => by cases hk)
  have HOW : Hid (w1.ownsRow w.heap.size 3 1 (.slice (some ⟨w.heap.size, 0, none⟩) xs.length xs.length) xs.length (M4.iv (List.replicate xs.length 0))) := hown
  clear hgrow hi hz0 hz1 hz2 hown
  go_wp2_with fail
  go_loopw [7] (fun v wr => ∃ fs : List Int, Hid (FL.AtF xs f t fs) ∧ wr.ownsRow w.heap.size 3 1 v xs.length (M4.iv fs) ∧ Below w.heap.size w wr) (fun v wr => FL.mu8 xs f wr v)
  case atStart => exact ⟨_, ST, HOW.out, hb1⟩
  case round =>
    clear HOW ST hb1
    obtain ⟨fs, hF, hown, hb⟩ := hrel
    have hfl : fs.length = xs.length := by have := hown.1; simpa [M4.iv] using this
    obtain ⟨av, cv, hv, hiv⟩ : ∃ av cv, u7 = .slice av xs.length cv ∧ M4.IntsAt wr av fs := by
      have h2 := hown; rw [← hfl] at h2
      obtain ⟨x, y, h3, h4⟩ := M5.own_view h2
      exact ⟨x, y, by rw [h3, hfl], h4⟩
    subst hv
    have AU2 : Hid _ := AU.out wr av cv fs hF.out (HI.out.below hb) hiv
    have NX2 : Hid _ := NX.out fs hF.out
    have FI2 : Hid _ := FI.out fs hF.out
    have HOW : Hid (wr.ownsRow w.heap.size 3 1 (.slice av xs.length cv) xs.length (M4.iv fs)) := hown
    clear hfl hiv hown
    generalize hl : FL.ansL xs fs f t = l at *
    generalize hn : FL.augN xs fs f t = n at *
    clear hl hn
    generalize hll : l.length = ll at *
    clear hll
    go_wp2_with fail
    refine Calls.mono AU2.out ?_
    rintro e w2 ⟨a1, c1, rfl, ho, hb2⟩
    have HO1 : Hid _ := ho
    clear AU2 ho
    by_cases hz : n = 0
    · have hE : Hid (F = fs) := FI2.out hz
      subst hz
      clear NX2 FI2 HO1
      go_wp2
      go_ret
      exact ⟨av, cv, rfl, by rw [hE.out]; exact M5.own_below HOW.out hb2, hb.trans (hb2.mono hb.size)⟩
    · obtain ⟨hA2, hl2, hlt, hle⟩ := NX2.out hz
      subst hl2
      have HO2 : Hid (w2.ownsRow w.heap.size 3 1 (.slice a1 xs.length c1) xs.length (M4.iv l)) := FL.own_base HO1.out hb.size
      have HAA : Hid (FL.AtF xs f t l) := hA2
      have HLT : Hid (FL.outUp xs fs f xs.length < FL.outUp xs l f xs.length) := hlt
      have HLE : Hid (FL.outUp xs l f xs.length ≤ 2000) := hle
      clear NX2 FI2 HO1 hA2 hlt hle
      go_wp2
      go_roundw
      case rel => exact ⟨l, HAA, HO2.out, hb.trans (hb2.mono hb.size)⟩
      case measure => exact FL.mu_lt HOW.out HO2.out HLT.out HLE.out
end Go.Proofs.Ytpabhjnpbnabiaa
