/- The specification's one more pair: l10Improve, ImproveMatch. -/
import Derived.Test.YtjfnmhkhjaafkaaRows
import Derived.Test.YtjfnmhkhjaafkaaCPairTry
import Derived.Test.YtjfnmhkhjaafkaaMInfo
import Derived.Test.YtjfnmhkhjaafkaaMRP
import Derived.Deep.OwnRows
import Derived.Deep.RegionHeld3
import Derived.WalkKit
import Derived.WalkSpells
import Derived.WalkLawsBesides
import Derived.Outline
namespace Go.Proofs.Ytjfnmhkhjaafkaa
open Go.RowKit
namespace PG
theorem imp_skip {ws : List (List Int)} {m : List Int} {k : Nat} (hk : k < m.length) (h : m.getD k 0 ≠ -1) : imp ws m (m.length - k) = imp ws m (m.length - (k + 1)) := by
  obtain ⟨i, hi⟩ : ∃ i, m.length - k = i + 1 := ⟨m.length - k - 1, by omega⟩
  rw [hi, imp, show m.length - (i + 1) = k from by omega, if_neg h, show m.length - (k + 1) = i from by omega]
theorem imp_try {ws : List (List Int)} {m : List Int} {k : Nat} (hk : k < m.length) (h : m.getD k 0 = -1) : imp ws m (m.length - k) = if (tr ws 9 k (m, No)).1 = true then some (tr ws 9 k (m, No)).2.1 else imp ws m (m.length - (k + 1)) := by
  obtain ⟨i, hi⟩ : ∃ i, m.length - k = i + 1 := ⟨m.length - k - 1, by omega⟩
  rw [hi, imp, show m.length - (i + 1) = k from by omega, if_pos h, show m.length - (k + 1) = i from by omega]
end PG
theorem Try.infoB : (Try.prog.info? 4).map (fun i => (i.zero, i.size, i.bytes)) = some (some (.bool false), 1, 1) := by kernel_rfl
set_option linter.unusedSimpArgs false in
set_option maxHeartbeats 3200000 in
set_option maxRecDepth 100000 in
theorem l10Improve_any (l : Int) (R : Nat) (a b : Option Addr) (cap cb : Nat) (ws : List (List Int)) (m : List Int) (w : World) (hR8 : R ≤ 8) (hn8 : m.length ≤ 8) (hwn : ws.length = m.length) (hcb : m.length ≤ cb) (ht : NR.tot ws ≤ 1048576) (hG : Hid (∀ j x, x ∈ NR.rw_ ws j → 0 ≤ x ∧ x < (R : Int))) (hin : NR.RowsAt w a ws) (hos : M4.IntsAt w b m) (r : Option (List Int)) (hr : Hid (PG.imp ws m m.length = r)) :
    Calls Try.prog 39 #[PG.pv l R (.slice a ws.length cap), .slice b m.length cb] w fun e w' => ∃ a1 c1, e = .returned (.tuple #[.slice a1 (r.getD []).length c1, .bool r.isSome]) ∧ w'.ownsRow w.heap.size 3 1 (.slice a1 (r.getD []).length c1) (r.getD []).length (M4.iv (r.getD [])) ∧ Below w.heap.size w w' := by
  have hB : Below w.heap.size w (w.alloc (Obj.cells #[.int .i64 l, .int .i64 (R : Int), .slice a ws.length cap] 25)) := (Below.refl _ _).alloc (Nat.le_refl _) _
  have hC : (w.alloc (Obj.cells #[.int .i64 l, .int .i64 (R : Int), .slice a ws.length cap] 25)).cell? ⟨w.heap.size, 0, none⟩ = some (.int .i64 l) ∧ (w.alloc (Obj.cells #[.int .i64 l, .int .i64 (R : Int), .slice a ws.length cap] 25)).cell? ⟨w.heap.size, 1, none⟩ = some (.int .i64 (R : Int)) ∧ (w.alloc (Obj.cells #[.int .i64 l, .int .i64 (R : Int), .slice a ws.length cap] 25)).cell? ⟨w.heap.size, 2, none⟩ = some (.slice a ws.length cap) := by simp
  have hS : w.heap.size < (w.alloc (Obj.cells #[.int .i64 l, .int .i64 (R : Int), .slice a ws.length cap] 25)).heap.size := by simp
  have HI : Hid (NR.RowsAt _ a ws) := hin.below hB
  have HO : Hid (M4.IntsAt _ b m) := hos.below hB
  obtain ⟨i0, hi, hz0, hz1, hz2⟩ := info_parts Try.info3
  have MKB : Hid (∀ W : World, (Instr.makeSlice 70 (.int .i64 (R : Int)) (.int .i64 (R : Int))).run Try.prog W = .ok (.slice (some ⟨W.heap.size, 0, none⟩) R R) (W.alloc (.cells (madeCells #[.bool false] R) 4))) := fun W => run_make_row' 70 4 (.bool false) 1 Try.underlying70 Try.infoB rfl .i64 .i64 R (by omega) (by omega) W
  have HWN : Hid _ := hwn
  clear hin hos hwn
  obtain ⟨n, hn⟩ : ∃ n, m.length = n := ⟨_, rfl⟩
  have HN : Hid _ := hn
  rw [hn] at hn8 hcb HWN hr ⊢
  clear hn
  obtain ⟨hC0, hC1, hC2⟩ := hC
  go_enter Try.func39, Try.ntmps39
  go_wp2
  generalize w.alloc (Obj.cells #[.int .i64 l, .int .i64 (R : Int), .slice a ws.length cap] 25) = W1 at *
  go_loopw [11] (fun iv wr => ∃ k : Nat, iv = .int .i64 k ∧ k ≤ n ∧ Hid (PG.imp ws m (n - k) = r) ∧ Below W1.heap.size W1 wr) (fun iv _ => (n - intOf iv).toNat)
  case atStart => exact ⟨0, rfl, by omega, hr, Below.refl _ _⟩
  case round =>
    clear hr
    obtain ⟨k, rfl, hk, hr, hb⟩ := hrel
    have c0 := (hb.cell (p := ⟨w.heap.size, 0, none⟩) hS).trans hC0
    have c1 := (hb.cell (p := ⟨w.heap.size, 1, none⟩) hS).trans hC1
    have c2 := (hb.cell (p := ⟨w.heap.size, 2, none⟩) hS).trans hC2
    have hB2 := hB.trans (hb.mono hB.size)
    have hs2 := Nat.lt_of_lt_of_le hS hb.size
    by_cases hl : k < n
    · obtain ⟨b1, off1, rfl, hlt1, hc1⟩ := M4.IntsAt.at (M4.IntsAt.below HO.out hb) (k := k) (by rw [HN.out]; exact hl)
      by_cases hx : m.getD k 0 = -1
      · rw [hx] at hc1
        have hT := hr.out
        rw [← HN.out, PG.imp_try (by rw [HN.out]; exact hl) hx, HN.out] at hT
        have HT : Hid _ := hT
        have TR : Hid (∀ (gm cm ga : Nat) (W : World), n ≤ cm → Below wr.heap.size wr W → PG.Sp wr.heap.size gm cm ga n R W (m, PG.No) → Calls Try.prog 53 #[PG.pv l R (.slice a ws.length cap), .slice (some ⟨gm, 0, none⟩) n cm, .int .i64 (k : Int), .slice (some ⟨ga, 0, none⟩) R R] W fun e w' => e = .returned (.bool (PG.tr ws 9 k (m, PG.No)).1) ∧ PG.Sp wr.heap.size gm cm ga n R w' (PG.tr ws 9 k (m, PG.No)).2 ∧ PG.But gm ga W w') := fun gm cm ga W h1 h2 h3 => try_any l R n a cap gm cm ga ws wr hR8 hn8 HWN.out h1 ht hG (HI.out.below hb) 9 k (m, PG.No) W hl PG.un_no h2 h3
        generalize PG.tr ws 9 k (m, PG.No) = q at *
        have OWN0 : Hid ((wr.alloc (.cells #[] 3)).ownsRow wr.heap.size 3 1 (.slice (some ⟨wr.heap.size, 0, none⟩) 0 0) 0 []) := by
          have := World.ownsRow_lit (base := wr.heap.size) (e := 3) (size := 1) wr #[] 0 (by simp) (by unfold maxLen; omega) (by simp)
          show World.ownsRow _ _ _ _ _ _ _
          simpa [M4.iv] using this
        have HRN : Hid (∀ j u, (M4.iv m)[j]? = some u → (wr.alloc (.cells #[] 3)).cell? ((⟨b1, off1, none⟩ : Addr).add j) = some u) := fun j u hj => by
          have hjl : j < m.length := by
            have := (List.getElem?_eq_some_iff.1 hj).1; simpa [M4.iv] using this
          obtain ⟨b6, off6, hb6, hlt6, hc6⟩ := M4.IntsAt.at (M4.IntsAt.below (M4.IntsAt.below HO.out hb) ((Below.refl _ wr).alloc (Nat.le_refl _) (.cells #[] 3))) (k := j) hjl
          simp only [Option.some.injEq, Addr.mk.injEq] at hb6
          obtain ⟨rfl, rfl, -⟩ := hb6
          have hadd : (⟨b1, off1, none⟩ : Addr).add j = ⟨b1, off1 + j, none⟩ := by unfold Addr.add; split <;> simp_all
          rw [hadd, hc6]
          rw [M4.iv_get _ _ (m.getD j 0) (by rw [List.getD_eq_getElem?_getD, List.getElem?_eq_getElem hjl]; rfl)] at hj
          exact hj
        have HL1 : Hid ((M4.iv m).length = n * 1) := by show _ = _; simp [M4.iv, HN.out]
        clear hT hr
        have e0 := (((Below.refl _ wr).alloc (Nat.le_refl _) (Obj.cells #[] 3)).cell (p := ⟨w.heap.size, 0, none⟩) hs2).trans c0
        go_wp2_with (at_builtin; refine wpList_append_own _ rfl _ _ 27 rfl wr.heap.size 3 i0 (.int .i64 0) 1 8 Try.underlying27 hi hz0 hz1 hz2 rfl (by decide) _ _ _ rfl OWN0.out ⟨b1, off1, none⟩ n cb (M4.iv m) rfl ?a0 ?a1 ?a2 ?a3 ?a4 ?a5 ?_)
        case a0 => exact HL1.out
        case a1 => exact HRN.out
        case a2 => intro u hu; simp only [M4.iv, List.mem_map] at hu; obtain ⟨z, _, rfl⟩ := hu; rfl
        case a3 => unfold maxLen; omega
        case a4 => omega
        case a5 => simp
        intro v' w4 hown4 hgrow4 _
        have hb4 : Below wr.heap.size wr w4 := ((Below.refl _ wr).alloc (Nat.le_refl _) _).grown hgrow4 (by simp) (fun j hj => (World.ownsRow.lt OWN0.out j hj).1)
        obtain ⟨g3, c3, rfl⟩ : ∃ g3 c3, v' = .slice (some ⟨g3, 0, none⟩) n c3 := by
          rcases hown4.2 with ⟨_, h'⟩ | ⟨g, cap, cur, rfl, _⟩
          · omega
          · exact ⟨g, cap, rfl⟩
        have HO4 : Hid (w4.ownsRow wr.heap.size 3 1 (.slice (some ⟨g3, 0, none⟩) n c3) n (M4.iv m)) := hown4
        clear hown4 hgrow4 OWN0 HRN HL1 e0
        have d0 := (hb4.cell (p := ⟨w.heap.size, 0, none⟩) hs2).trans c0
        have d1 := (hb4.cell (p := ⟨w.heap.size, 1, none⟩) hs2).trans c1
        have d2 := (hb4.cell (p := ⟨w.heap.size, 2, none⟩) hs2).trans c2
        have hs4 := Nat.lt_of_lt_of_le hs2 hb4.size
        clear c0 c1 c2 hc1
        have hc3 : n ≤ c3 := by
          rcases HO4.out.2 with ⟨h', _⟩ | ⟨_, _, _, hv, _, _, h1, _⟩
          · cases h'
          · cases hv; exact h1
        have HB5 : Hid (Below wr.heap.size wr (w4.drew.alloc (.cells (madeCells #[.bool false] R) 4))) := hb4.drew.alloc hb4.size _
        have hg3 := HO4.out.lt g3 rfl
        have HP5 : Hid (PG.Sp wr.heap.size g3 c3 w4.heap.size n R (w4.drew.alloc (.cells (madeCells #[.bool false] R) 4)) (m, PG.No)) := by
          refine ⟨M5.own_below HO4.out ((Below.refl _ w4).drew.alloc (Nat.le_refl _) _), ?_, by omega⟩
          have := World.ownsRow_lit (base := wr.heap.size) (e := 4) (size := 1) w4.drew (madeCells #[.bool false] R) R (by have := hb4.size; simpa using this) (by unfold maxLen; omega) (by rw [size_madeCells]; simp)
          rw [toList_madeCells_one] at this
          rw [PG.bv_no]
          exact this
        have hs5 : w.heap.size < (w4.drew.alloc (Obj.cells (madeCells #[.bool false] R) 4)).heap.size := by simp; omega
        have hng : w.heap.size ≠ g3 := by omega
        go_wp2
        refine MR.frame fun A hA => ?_
        have hsz : A.tmps.size = 30 := by rw [hA]; rfl
        have e2 : A.eval (.tmp 2) = .pointer (some ⟨w.heap.size, 0, none⟩) := by rw [hA]; rfl
        have f2 := MR.read (t := 2) (by rw [hsz]; decide) e2
        have e6 : A.eval (.tmp 6) = .int .i64 (k : Int) := by rw [hA]; rfl
        have f6 := MR.read (t := 6) (by rw [hsz]; decide) e6
        have e8 : A.eval (.tmp 8) = .slice (some ⟨g3, 0, none⟩) n c3 := by rw [hA]; rfl
        have f8 := MR.read (t := 8) (by rw [hsz]; decide) e8
        have HA : Hid (A = _) := hA
        clear hA
        have hS : (fun wq : World => wq.cell? ⟨w.heap.size, 0, none⟩ = some (.int .i64 l) ∧ wq.cell? ⟨w.heap.size, 1, none⟩ = some (.int .i64 (R : Int)) ∧ wq.cell? ⟨w.heap.size, 2, none⟩ = some (.slice a ws.length cap)) (World.drew _) := ⟨d0, d1, d2⟩
        refine wp_region_held (S := fun wq : World => wq.cell? ⟨w.heap.size, 0, none⟩ = some (.int .i64 l) ∧ wq.cell? ⟨w.heap.size, 1, none⟩ = some (.int .i64 (R : Int)) ∧ wq.cell? ⟨w.heap.size, 2, none⟩ = some (.slice a ws.length cap)) (by kernel_rfl) ?_
        change wpAnyH _ _ _ _ _ _ _ _ (World.drew _)
        refine MR.takeH (i := 0) (some 21) (.agg #[.int .i64 l, .int .i64 (R : Int), .slice a ws.length cap]) rfl rfl (by kernel_rfl) (by kernel_rfl) (by kernel_rfl) (fun _ _ _ h => h) hS (MR.free rfl) (fun wq hw => by simp [execOp, MR.ev, MR.size, hsz, e2, f2, e6, f6, e8, f8, hw.1, hw.2.1, hw.2.2, go_sem]) ?_
        refine MR.takeH (i := 1) (some 22) (.slice (some ⟨g3, 0, none⟩) n c3) rfl rfl (by kernel_rfl) (by kernel_rfl) (by kernel_rfl) (fun _ _ _ h => h) hS (MR.free rfl) (fun wq hw => by simp [execOp, MR.ev, MR.size, hsz, e2, f2, e6, f6, e8, f8, go_sem]) ?_
        refine MR.takeH (i := 2) (some 23) (.int .i64 (k : Int)) rfl rfl (by kernel_rfl) (by kernel_rfl) (by kernel_rfl) (fun _ _ _ h => h) hS (MR.free rfl) (fun wq hw => by simp [execOp, MR.ev, MR.size, hsz, e2, f2, e6, f6, e8, f8, go_sem]) ?_
        refine MR.takeH (i := 3) (some 24) (.pointer (some ⟨w.heap.size, 1, none⟩)) rfl rfl (by kernel_rfl) (by kernel_rfl) (by kernel_rfl) (fun _ _ _ h => h) hS (MR.free rfl) (fun wq hw => by simp [execOp, MR.ev, MR.size, hsz, e2, f2, e6, f6, e8, f8, go_sem]) ?_
        refine MR.takeH (i := 4) (some 25) (.int .i64 (R : Int)) rfl rfl (by kernel_rfl) (by kernel_rfl) (by kernel_rfl) (fun _ _ _ h => h) hS (MR.free rfl) (fun wq hw => by simp [execOp, MR.ev, MR.size, hsz, e2, f2, e6, f6, e8, f8, hw.2.1, go_sem]) ?_
        refine MR.nowH (w' := w4.drew.alloc (.cells (madeCells #[.bool false] R) 4)) (i := 5) (some 26) (.slice (some ⟨w4.heap.size, 0, none⟩) R R) (by kernel_rfl) rfl rfl (MR.free rfl) (by simp [execOp, MR.ev, MR.size, hsz, e2, f2, e6, f6, e8, f8, MKB.out, go_sem]) ⟨⟨(World.cell?_alloc_lt _ _ _ hs4).trans d0, (World.cell?_alloc_lt _ _ _ hs4).trans d1, (World.cell?_alloc_lt _ _ _ hs4).trans d2⟩, ?_⟩
        refine MR.callH (i := 6) (some 27) (53) (#[PG.pv l R (.slice a ws.length cap), .slice (some ⟨g3, 0, none⟩) n c3, .int .i64 (k : Int), .slice (some ⟨w4.heap.size, 0, none⟩) R R]) (by kernel_rfl) rfl rfl (MR.free rfl) (by simp [execOp, MR.ev, MR.size, hsz, e2, f2, e6, f6, e8, f8, go_sem]) ?_
        refine (TR.out g3 c3 w4.heap.size _ hc3 HB5.out HP5.out).mono ?_
        rintro e w6 ⟨rfl, hP6, hb6⟩
        refine ⟨_, rfl, ⟨(hb6.cell (p := ⟨w.heap.size, 0, none⟩) hs5 hng (Nat.ne_of_lt hs4)).trans ((World.cell?_alloc_lt _ _ _ hs4).trans d0), (hb6.cell (p := ⟨w.heap.size, 1, none⟩) hs5 hng (Nat.ne_of_lt hs4)).trans ((World.cell?_alloc_lt _ _ _ hs4).trans d1), (hb6.cell (p := ⟨w.heap.size, 2, none⟩) hs5 hng (Nat.ne_of_lt hs4)).trans ((World.cell?_alloc_lt _ _ _ hs4).trans d2)⟩, ?_⟩
        refine wpAnyH_done (by kernel_rfl) ?_ _
        rw [HA.out]
        clear HA hsz e2 f2 e6 f6 e8 f8 hS d0 d1 d2
        simp only [Act.put, List.setIfInBounds_toArray, List.set_cons_succ, List.set_cons_zero]
        have hb6' := HB5.out.trans (hb6.below hg3.1 hb4.size HB5.out.size)
        have hB6 := hB2.trans (hb6'.mono hB2.size)
        have hb7 := hb.trans (hb6'.mono hb.size)
        clear TR HB5 HP5 hb6 hb6' hb4 HO4
        obtain ⟨qb, qm, qA⟩ := q
        simp only at hP6 HT
        cases qb
        · have hT := HT.out
          simp only [Bool.false_eq_true, if_false] at hT
          have HT2 : Hid _ := hT
          clear HT hT hP6
          go_wp2
          go_roundw
          case rel => exact ⟨k + 1, by go_num, by omega, HT2, hb7⟩
          case measure => simp [intOf]; omega
        · have hT := HT.out
          simp only [if_true] at hT
          subst hT
          have hlq := hP6.len
          simp only at hlq
          have HP6 : Hid _ := hP6.m
          have HLQ : Hid _ := hlq
          clear HT hP6 hlq
          go_wp2
          go_ret2
          rw [HLQ.out]
          refine ⟨some ⟨g3, 0, none⟩, c3, rfl, PG.own_mono HP6.out hB2.size, hB6⟩
      · have hT := hr.out
        rw [← HN.out, PG.imp_skip (by rw [HN.out]; exact hl) hx, HN.out] at hT
        have HT : Hid _ := hT
        have hxb : (m.getD k 0 != -1) = true := by simpa using hx
        clear hT hr
        generalize m.getD k 0 = x at *
        go_wp2
        go_roundw
        case rel => exact ⟨k + 1, by go_num, by omega, HT, hb⟩
        case measure => simp [intOf]; omega
    · obtain rfl : k = n := by omega
      have hT := hr.out
      rw [Nat.sub_self, PG.imp] at hT
      subst hT
      go_wp2
      go_ret2
      exact ⟨none, 0, rfl, World.ownsRow_nil _ _ _ _, hB2⟩
end Go.Proofs.Ytjfnmhkhjaafkaa
