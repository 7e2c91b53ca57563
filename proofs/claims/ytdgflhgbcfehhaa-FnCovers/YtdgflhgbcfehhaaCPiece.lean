/- Pieces: whether it is one, a good one, of one bundle with another, ahead of it. -/
import Derived.Test.YtdgflhgbcfehhaaRows
import Derived.Test.YtdgflhgbcfehhaaCGoodBundle
import Derived.Test.YtdgflhgbcfehhaaMPL
import Derived.Test.YtdgflhgbcfehhaaMRH
import Derived.WalkKit
import Derived.WalkSpells
import Derived.WalkLawsBesides
import Derived.Outline
namespace Go.Proofs.Ytdgflhgbcfehhaa
open Go.RowKit
theorem retBb {a b : Bool} (h : a = b) : Ending.returned (.bool a) = .returned (.bool b) := by rw [h]
set_option maxHeartbeats 400000 in
set_option maxRecDepth 100000 in
theorem isPiece_any (b : Bd) (w : World) : Calls Try.prog 32 #[b.v] w fun e w' => e = .returned (.bool (decide (b.tl ≠ 0))) ∧ Below w.heap.size w w' := by
  obtain ⟨fr, to, gr, md, no, lf, hp, of, tl, py⟩ := b
  have hB : ∀ o, Below w.heap.size w (w.alloc o) := fun o => (Below.refl _ w).alloc (Nat.le_refl _) o
  go_enter Try.func32, Try.ntmps32
  go_wp2
  go_ret
  exact ⟨retBb (by rw [Bool.eq_iff_iff]; simp), hB _⟩
set_option maxHeartbeats 800000 in
set_option maxRecDepth 100000 in
theorem isGoodPiece_any (b : Bd) (w : World) (hs : b.py.size ≤ 1048576) (R : Bool) (hR : Hid (PL.pg b = R)) :
    Calls Try.prog 38 #[b.v] w fun e w' => e = .returned (.bool R) ∧ Below w.heap.size w w' := by
  have IG : Hid (∀ W : World, Calls Try.prog 31 #[b.v] W fun e w' => e = .returned (.bool (B1.good b)) ∧ Below W.heap.size W w') := fun W => isGood_any b W hs _ rfl
  have IP : Hid (∀ W : World, Calls Try.prog 32 #[b.v] W fun e w' => e = .returned (.bool (decide (b.tl ≠ 0))) ∧ Below W.heap.size W w') := fun W => isPiece_any b W
  have hR1 := hR.out
  unfold PL.pg at hR1
  generalize B1.good b = x at *
  generalize decide (b.tl ≠ 0) = y at *
  have hA : BdAt _ _ b := BdAt.box w b 62
  have hB : Below w.heap.size w _ := (Below.refl _ w).alloc (Nat.le_refl _) (.cells #[.int .i64 b.fr, .int .i64 b.to, .bool b.gr, .int .i64 b.md, .int .i64 b.no, .int .i64 b.lf, .int .i64 b.hp, .int .i64 b.of, .int .i64 b.tl, .string b.py] 62)
  obtain ⟨fr, to, gr, md, no, lf, hp, of, tl, py⟩ := b
  have HR : Hid _ := hR1
  clear hR hR1 hs
  go_enter Try.func38, Try.ntmps38
  go_wp2_with fail
  refine (IG.out _).mono ?_
  rintro e w2 ⟨rfl, hb2⟩
  have hA2 := hA.below hb2 hA.1
  have hB2 := hB.trans (hb2.mono hB.size)
  obtain ⟨hlt, p0, p1, p2, p3, p4, p5, p6, p7, p8, p9⟩ := hA2
  clear IG hb2 hB hA
  cases x with
  | false =>
    have hF : Hid (false = R) := by rw [← HR.out]; rfl
    clear HR IP p0 p1 p2 p3 p4 p5 p6 p7 p8 p9
    go_wp2
    go_ret
    exact ⟨retBb hF.out, hB2⟩
  | true =>
    have hT : Hid (y = R) := by rw [← HR.out]; rfl
    clear HR
    go_wp2_with fail
    refine (IP.out _).mono ?_
    rintro e w3 ⟨rfl, hb3⟩
    have hB3 : Below w.heap.size w w3 := hB2.trans (hb3.mono hB2.size)
    clear IP hb3 hB2 p0 p1 p2 p3 p4 p5 p6 p7 p8 p9
    go_wp2
    go_ret
    exact ⟨retBb hT.out, hB3⟩
set_option linter.unusedSimpArgs false in
set_option maxHeartbeats 800000 in
set_option maxRecDepth 100000 in
theorem isAheadOf_any (a b : Bd) (w : World) (ha : a.py.size ≤ 1048576) (hb : b.py.size ≤ 1048576) (R : Bool) (hR : Hid (PL.ahead a b = R)) :
    Calls Try.prog 64 #[a.v, b.v] w fun e w' => e = .returned (.bool R) ∧ Below w.heap.size w w' := by
  obtain ⟨afr, ato, agr, amd, ano, alf, ahp, aof, atl, apy⟩ := a
  obtain ⟨bfr, bto, bgr, bmd, bno, blf, bhp, bof, btl, bpy⟩ := b
  simp only at ha hb
  have hB : ∀ o o', Below w.heap.size w ((w.alloc o).alloc o') := fun o o' => ((Below.refl _ w).alloc (Nat.le_refl _) o).alloc (by simp) o'
  go_enter Try.func64, Try.ntmps64
  go_wp2
  all_goals go_ret
  all_goals refine ⟨retBb ?_, hB _ _⟩
  all_goals (rw [← hR.out]; clear hR hB; simp only [PL.ahead]; rw [Bool.eq_iff_iff]; simp only [Bool.or_eq_true, Bool.and_eq_true, Bool.not_eq_true', decide_eq_true_eq, decide_eq_false_iff_not, bne_iff_ne, ne_eq, beq_iff_eq, bne_eq_false_iff_eq, Bool.false_eq_true, false_iff, true_iff] at *; omega)
set_option maxHeartbeats 400000 in
set_option maxRecDepth 100000 in
theorem withoutHops_any (fr to : Int) (gr : Bool) (md no lf hp : Int) (w : World) : Calls Try.prog 70 #[.agg #[.int .i64 fr, .int .i64 to, .bool gr, .int .i64 md, .int .i64 no, .int .i64 lf, .int .i64 hp]] w fun e w' => e = .returned (.agg #[.int .i64 fr, .int .i64 to, .bool gr, .int .i64 md, .int .i64 no, .int .i64 lf, .int .i64 0]) ∧ Below w.heap.size w w' := by
  go_enter Try.func70, Try.ntmps70
  go_wp2
  exact bodyPost_ret (v := .agg #[.int .i64 fr, .int .i64 to, .bool gr, .int .i64 md, .int .i64 no, .int .i64 lf, .int .i64 0]) (by simp [results, Try.results70, go_sem]) rfl ⟨rfl, ((Below.refl _ w).alloc (Nat.le_refl _) _).alloc (by simp) _⟩
theorem keep2 {w W w2 : World} {a b : Bd} {k k' : Nat} (h : Below w.heap.size w W ∧ BdAt W k a ∧ BdAt W k' b) (hb : Below W.heap.size W w2) : Below w.heap.size w w2 ∧ BdAt w2 k a ∧ BdAt w2 k' b :=
  ⟨h.1.trans (hb.mono h.1.size), h.2.1.below hb h.2.1.1, h.2.2.below hb h.2.2.1⟩
theorem heads_run (afr ato : Int) (agr : Bool) (amd ano alf bfr bto : Int) (bgr : Bool) (bmd bno blf : Int) (w : World) :
    (binOp .eql 60 (.agg #[.int .i64 afr, .int .i64 ato, .bool agr, .int .i64 amd, .int .i64 ano, .int .i64 alf, .int .i64 0]) (.agg #[.int .i64 bfr, .int .i64 bto, .bool bgr, .int .i64 bmd, .int .i64 bno, .int .i64 blf, .int .i64 0])).run Try.prog w = .ok (.bool (decide (afr = bfr) && decide (ato = bto) && decide (agr = bgr) && decide (amd = bmd) && decide (ano = bno) && decide (alf = blf))) w := by
  go_simp
  by_cases h1 : afr = bfr <;> by_cases h2 : ato = bto <;> by_cases h3 : agr = bgr <;> by_cases h4 : amd = bmd <;> by_cases h5 : ano = bno <;> by_cases h6 : alf = blf <;> simp [h1, h2, h3, h4, h5, h6]
theorem drewAt {W : World} {k : Nat} {b : Bd} (h : BdAt W k b) : BdAt W.drew k b := h.below ((Below.refl _ W).drew) h.1
set_option linter.unusedSimpArgs false in
set_option maxHeartbeats 1600000 in
set_option maxRecDepth 100000 in
theorem isOfOneWith_any (a b : Bd) (w : World) (R : Bool) (hR : Hid (PL.one a b = R)) :
    Calls Try.prog 63 #[a.v, b.v] w fun e w' => e = .returned (.bool R) ∧ Below w.heap.size w w' := by
  have hA0 := BdAt.box w a 62
  have hA := hA0.below ((Below.refl _ _).alloc (Nat.le_refl _) (.cells #[.int .i64 b.fr, .int .i64 b.to, .bool b.gr, .int .i64 b.md, .int .i64 b.no, .int .i64 b.lf, .int .i64 b.hp, .int .i64 b.of, .int .i64 b.tl, .string b.py] 62)) hA0.1
  have hC : BdAt _ (w.heap.size + 1) b := BdAt.box' (w.alloc (.cells #[.int .i64 a.fr, .int .i64 a.to, .bool a.gr, .int .i64 a.md, .int .i64 a.no, .int .i64 a.lf, .int .i64 a.hp, .int .i64 a.of, .int .i64 a.tl, .string a.py] 62)) b 62 (w.heap.size + 1) (by simp)
  have hB : Below w.heap.size w _ := ((Below.refl _ w).alloc (Nat.le_refl _) (.cells #[.int .i64 a.fr, .int .i64 a.to, .bool a.gr, .int .i64 a.md, .int .i64 a.no, .int .i64 a.lf, .int .i64 a.hp, .int .i64 a.of, .int .i64 a.tl, .string a.py] 62)).alloc (by simp) (.cells #[.int .i64 b.fr, .int .i64 b.to, .bool b.gr, .int .i64 b.md, .int .i64 b.no, .int .i64 b.lf, .int .i64 b.hp, .int .i64 b.of, .int .i64 b.tl, .string b.py] 62)
  have hS0 := And.intro hB.drew (And.intro (drewAt hA) (drewAt hC))
  have WH : Hid _ := withoutHops_any
  have hR1 := hR.out
  obtain ⟨afr, ato, agr, amd, ano, alf, ahp, aof, atl, apy⟩ := a
  obtain ⟨bfr, bto, bgr, bmd, bno, blf, bhp, bof, btl, bpy⟩ := b
  simp only at hA hC hS0
  simp only [PL.one] at hR1
  have hE := fun W => heads_run afr ato agr amd ano alf bfr bto bgr bmd bno blf W
  generalize (decide (afr = bfr) && decide (ato = bto) && decide (agr = bgr) && decide (amd = bmd) && decide (ano = bno) && decide (alf = blf)) = H at *
  have HR : Hid _ := hR1
  clear hR hR1 hA0 hA hC hB
  cases H with
  | true =>
    have hF : Hid ((atl == btl) = R) := by show _ = _; rw [← HR.out, Bool.true_and, Bool.eq_iff_iff]; simp
    clear HR
    go_enter Try.func63, Try.ntmps63
    go_wp2
    refine MR.frame fun A hA => ?_
    have hsz : A.tmps.size = 19 := by rw [hA]; rfl
    have e2 : A.eval (.tmp 2) = .pointer (some ⟨w.heap.size, 0, none⟩) := by rw [hA]; rfl
    have f2 := MR.read (t := 2) (by rw [hsz]; decide) e2
    have e3 : A.eval (.tmp 3) = .pointer (some ⟨w.heap.size + 1, 0, none⟩) := by rw [hA]; rfl
    have f3 := MR.read (t := 3) (by rw [hsz]; decide) e3
    have HA : Hid (A = _) := hA
    clear hA
    have hS : (fun w' : World => Below w.heap.size w w' ∧ BdAt w' w.heap.size ⟨afr, ato, agr, amd, ano, alf, ahp, aof, atl, apy⟩ ∧ BdAt w' (w.heap.size + 1) ⟨bfr, bto, bgr, bmd, bno, blf, bhp, bof, btl, bpy⟩) (World.drew _) := hS0
    refine wp_region_held (S := fun w' : World => Below w.heap.size w w' ∧ BdAt w' w.heap.size ⟨afr, ato, agr, amd, ano, alf, ahp, aof, atl, apy⟩ ∧ BdAt w' (w.heap.size + 1) ⟨bfr, bto, bgr, bmd, bno, blf, bhp, bof, btl, bpy⟩) (by kernel_rfl) ?_
    change wpAnyH _ _ _ _ _ _ _ _ (World.drew _)
    refine MR.takeH (i := 0) (some 5) (.pointer (some ⟨w.heap.size, 0, none⟩)) rfl rfl (by kernel_rfl) (by kernel_rfl) (by kernel_rfl) (fun _ _ _ h => h) hS (MR.free rfl) (fun w hw => by simp [execOp, MR.ev, MR.size, hsz, e2, f2, e3, f3, go_sem]) ?_
    refine MR.takeH (i := 1) (some 6) (.agg #[.int .i64 afr, .int .i64 ato, .bool agr, .int .i64 amd, .int .i64 ano, .int .i64 alf, .int .i64 ahp]) rfl rfl (by kernel_rfl) (by kernel_rfl) (by kernel_rfl) (fun _ _ _ h => h) hS (MR.free rfl) (fun w hw => by simp [execOp, MR.ev, MR.size, hsz, e2, f2, e3, f3, hw.2.1.2.1, hw.2.1.2.2.1, hw.2.1.2.2.2.1, hw.2.1.2.2.2.2.1, hw.2.1.2.2.2.2.2.1, hw.2.1.2.2.2.2.2.2.1, hw.2.1.2.2.2.2.2.2.2.1, hw.2.1.2.2.2.2.2.2.2.2.1, hw.2.1.2.2.2.2.2.2.2.2.2.1, hw.2.1.2.2.2.2.2.2.2.2.2.2, go_sem]) ?_
    refine MR.takeH (i := 3) (some 8) (.pointer (some ⟨w.heap.size + 1, 0, none⟩)) rfl rfl (by kernel_rfl) (by kernel_rfl) (by kernel_rfl) (fun _ _ _ h => h) hS (MR.free rfl) (fun w hw => by simp [execOp, MR.ev, MR.size, hsz, e2, f2, e3, f3, go_sem]) ?_
    refine MR.takeH (i := 4) (some 9) (.agg #[.int .i64 bfr, .int .i64 bto, .bool bgr, .int .i64 bmd, .int .i64 bno, .int .i64 blf, .int .i64 bhp]) rfl rfl (by kernel_rfl) (by kernel_rfl) (by kernel_rfl) (fun _ _ _ h => h) hS (MR.free rfl) (fun w hw => by simp [execOp, MR.ev, MR.size, hsz, e2, f2, e3, f3, hw.2.2.2.1, hw.2.2.2.2.1, hw.2.2.2.2.2.1, hw.2.2.2.2.2.2.1, hw.2.2.2.2.2.2.2.1, hw.2.2.2.2.2.2.2.2.1, hw.2.2.2.2.2.2.2.2.2.1, hw.2.2.2.2.2.2.2.2.2.2.1, hw.2.2.2.2.2.2.2.2.2.2.2.1, hw.2.2.2.2.2.2.2.2.2.2.2.2, go_sem]) ?_
    refine MR.callH (i := 2) (some 7) (70) (#[.agg #[.int .i64 afr, .int .i64 ato, .bool agr, .int .i64 amd, .int .i64 ano, .int .i64 alf, .int .i64 ahp]]) (by kernel_rfl) rfl rfl (MR.free rfl) (by simp [execOp, MR.ev, MR.size, hsz, e2, f2, e3, f3, go_sem]) ?_
    refine Calls.mono (WH.out _ _ _ _ _ _ _ _) ?_
    rintro e w2 ⟨rfl, hb2⟩
    have hS2 := keep2 hS hb2
    refine ⟨_, rfl, hS2, ?_⟩
    refine MR.callH (i := 5) (some 10) (70) (#[.agg #[.int .i64 bfr, .int .i64 bto, .bool bgr, .int .i64 bmd, .int .i64 bno, .int .i64 blf, .int .i64 bhp]]) (by kernel_rfl) rfl rfl (MR.free rfl) (by simp [execOp, MR.ev, MR.size, hsz, e2, f2, e3, f3, go_sem]) ?_
    refine Calls.mono (WH.out _ _ _ _ _ _ _ _) ?_
    rintro e w3 ⟨rfl, hb3⟩
    have hS3 := keep2 hS2 hb3
    refine ⟨_, rfl, hS3, ?_⟩
    refine MR.takeH (i := 6) (some 11) (.bool true) rfl rfl (by kernel_rfl) (by kernel_rfl) (by kernel_rfl) (fun _ _ _ h => h) hS3 (MR.free rfl) (fun w hw => by simp [execOp, MR.ev, MR.size, hsz, e2, f2, e3, f3, hE, go_sem]) ?_
    refine MR.takeH (i := 7) (some 12) (.bool true) rfl rfl (by kernel_rfl) (by kernel_rfl) (by kernel_rfl) (fun _ _ _ h => h) hS3 (MR.free rfl) (fun w hw => by simp [execOp, MR.ev, MR.size, hsz, e2, f2, e3, f3, go_sem]) ?_
    refine MR.takeH (i := 8) (some 13) (.pointer (some ⟨w.heap.size, 8, none⟩)) rfl rfl (by kernel_rfl) (by kernel_rfl) (by kernel_rfl) (fun _ _ _ h => h) hS3 (MR.want (d := 12) rfl rfl (by simp [MR.size, hsz]) (by simp [MR.ev, MR.size, hsz, e2, f2, e3, f3])) (fun w hw => by simp [execOp, MR.ev, MR.size, hsz, e2, f2, e3, f3, go_sem]) ?_
    refine MR.takeH (i := 9) (some 14) (.int .i64 atl) rfl rfl (by kernel_rfl) (by kernel_rfl) (by kernel_rfl) (fun _ _ _ h => h) hS3 (MR.want (d := 12) rfl rfl (by simp [MR.size, hsz]) (by simp [MR.ev, MR.size, hsz, e2, f2, e3, f3])) (fun w hw => by simp [execOp, MR.ev, MR.size, hsz, e2, f2, e3, f3, hw.2.1.2.1, hw.2.1.2.2.1, hw.2.1.2.2.2.1, hw.2.1.2.2.2.2.1, hw.2.1.2.2.2.2.2.1, hw.2.1.2.2.2.2.2.2.1, hw.2.1.2.2.2.2.2.2.2.1, hw.2.1.2.2.2.2.2.2.2.2.1, hw.2.1.2.2.2.2.2.2.2.2.2.1, hw.2.1.2.2.2.2.2.2.2.2.2.2, go_sem]) ?_
    refine MR.takeH (i := 10) (some 15) (.pointer (some ⟨w.heap.size + 1, 8, none⟩)) rfl rfl (by kernel_rfl) (by kernel_rfl) (by kernel_rfl) (fun _ _ _ h => h) hS3 (MR.want (d := 12) rfl rfl (by simp [MR.size, hsz]) (by simp [MR.ev, MR.size, hsz, e2, f2, e3, f3])) (fun w hw => by simp [execOp, MR.ev, MR.size, hsz, e2, f2, e3, f3, go_sem]) ?_
    refine MR.takeH (i := 11) (some 16) (.int .i64 btl) rfl rfl (by kernel_rfl) (by kernel_rfl) (by kernel_rfl) (fun _ _ _ h => h) hS3 (MR.want (d := 12) rfl rfl (by simp [MR.size, hsz]) (by simp [MR.ev, MR.size, hsz, e2, f2, e3, f3])) (fun w hw => by simp [execOp, MR.ev, MR.size, hsz, e2, f2, e3, f3, hw.2.2.2.1, hw.2.2.2.2.1, hw.2.2.2.2.2.1, hw.2.2.2.2.2.2.1, hw.2.2.2.2.2.2.2.1, hw.2.2.2.2.2.2.2.2.1, hw.2.2.2.2.2.2.2.2.2.1, hw.2.2.2.2.2.2.2.2.2.2.1, hw.2.2.2.2.2.2.2.2.2.2.2.1, hw.2.2.2.2.2.2.2.2.2.2.2.2, go_sem]) ?_
    refine MR.takeH (i := 12) (some 17) (.bool (atl == btl)) rfl rfl (by kernel_rfl) (by kernel_rfl) (by kernel_rfl) (fun _ _ _ h => h) hS3 (MR.want (d := 12) rfl rfl (by simp [MR.size, hsz]) (by simp [MR.ev, MR.size, hsz, e2, f2, e3, f3])) (fun w hw => by simp [execOp, MR.ev, MR.size, hsz, e2, f2, e3, f3, go_sem]) ?_
    refine MR.takeH (i := 13) (some 18) (.bool (atl == btl)) rfl rfl (by kernel_rfl) (by kernel_rfl) (by kernel_rfl) (fun _ _ _ h => h) hS3 (MR.free rfl) (fun w hw => by simp [execOp, MR.ev, MR.size, hsz, e2, f2, e3, f3, go_sem]) ?_
    refine MR.takeH (i := 14) (some 4) (.bool (atl == btl)) rfl rfl (by kernel_rfl) (by kernel_rfl) (by kernel_rfl) (fun _ _ _ h => h) hS3 (MR.free rfl) (fun w hw => by simp [execOp, MR.ev, MR.size, hsz, e2, f2, e3, f3, go_sem]) ?_
    refine wpAnyH_done (by kernel_rfl) ?_ _
    have hB3 := hS3.1
    rw [HA.out]
    clear hS hS2 hS3 HA f2 f3 e2 e3 hsz hE WH hb2 hb3 hS0
    simp only [Act.put, List.setIfInBounds_toArray, List.set_cons_succ, List.set_cons_zero]
    go_wp2
    go_ret
    exact ⟨retBb hF.out, hB3⟩
  | false =>
    have hF : Hid (false = R) := by rw [← HR.out]; rfl
    clear HR
    go_enter Try.func63, Try.ntmps63
    go_wp2
    refine MR.frame fun A hA => ?_
    have hsz : A.tmps.size = 19 := by rw [hA]; rfl
    have e2 : A.eval (.tmp 2) = .pointer (some ⟨w.heap.size, 0, none⟩) := by rw [hA]; rfl
    have f2 := MR.read (t := 2) (by rw [hsz]; decide) e2
    have e3 : A.eval (.tmp 3) = .pointer (some ⟨w.heap.size + 1, 0, none⟩) := by rw [hA]; rfl
    have f3 := MR.read (t := 3) (by rw [hsz]; decide) e3
    have HA : Hid (A = _) := hA
    clear hA
    have hS : (fun w' : World => Below w.heap.size w w' ∧ BdAt w' w.heap.size ⟨afr, ato, agr, amd, ano, alf, ahp, aof, atl, apy⟩ ∧ BdAt w' (w.heap.size + 1) ⟨bfr, bto, bgr, bmd, bno, blf, bhp, bof, btl, bpy⟩) (World.drew _) := hS0
    refine wp_region_held (S := fun w' : World => Below w.heap.size w w' ∧ BdAt w' w.heap.size ⟨afr, ato, agr, amd, ano, alf, ahp, aof, atl, apy⟩ ∧ BdAt w' (w.heap.size + 1) ⟨bfr, bto, bgr, bmd, bno, blf, bhp, bof, btl, bpy⟩) (by kernel_rfl) ?_
    change wpAnyH _ _ _ _ _ _ _ _ (World.drew _)
    refine MR.takeH (i := 0) (some 5) (.pointer (some ⟨w.heap.size, 0, none⟩)) rfl rfl (by kernel_rfl) (by kernel_rfl) (by kernel_rfl) (fun _ _ _ h => h) hS (MR.free rfl) (fun w hw => by simp [execOp, MR.ev, MR.size, hsz, e2, f2, e3, f3, go_sem]) ?_
    refine MR.takeH (i := 1) (some 6) (.agg #[.int .i64 afr, .int .i64 ato, .bool agr, .int .i64 amd, .int .i64 ano, .int .i64 alf, .int .i64 ahp]) rfl rfl (by kernel_rfl) (by kernel_rfl) (by kernel_rfl) (fun _ _ _ h => h) hS (MR.free rfl) (fun w hw => by simp [execOp, MR.ev, MR.size, hsz, e2, f2, e3, f3, hw.2.1.2.1, hw.2.1.2.2.1, hw.2.1.2.2.2.1, hw.2.1.2.2.2.2.1, hw.2.1.2.2.2.2.2.1, hw.2.1.2.2.2.2.2.2.1, hw.2.1.2.2.2.2.2.2.2.1, hw.2.1.2.2.2.2.2.2.2.2.1, hw.2.1.2.2.2.2.2.2.2.2.2.1, hw.2.1.2.2.2.2.2.2.2.2.2.2, go_sem]) ?_
    refine MR.takeH (i := 3) (some 8) (.pointer (some ⟨w.heap.size + 1, 0, none⟩)) rfl rfl (by kernel_rfl) (by kernel_rfl) (by kernel_rfl) (fun _ _ _ h => h) hS (MR.free rfl) (fun w hw => by simp [execOp, MR.ev, MR.size, hsz, e2, f2, e3, f3, go_sem]) ?_
    refine MR.takeH (i := 4) (some 9) (.agg #[.int .i64 bfr, .int .i64 bto, .bool bgr, .int .i64 bmd, .int .i64 bno, .int .i64 blf, .int .i64 bhp]) rfl rfl (by kernel_rfl) (by kernel_rfl) (by kernel_rfl) (fun _ _ _ h => h) hS (MR.free rfl) (fun w hw => by simp [execOp, MR.ev, MR.size, hsz, e2, f2, e3, f3, hw.2.2.2.1, hw.2.2.2.2.1, hw.2.2.2.2.2.1, hw.2.2.2.2.2.2.1, hw.2.2.2.2.2.2.2.1, hw.2.2.2.2.2.2.2.2.1, hw.2.2.2.2.2.2.2.2.2.1, hw.2.2.2.2.2.2.2.2.2.2.1, hw.2.2.2.2.2.2.2.2.2.2.2.1, hw.2.2.2.2.2.2.2.2.2.2.2.2, go_sem]) ?_
    refine MR.callH (i := 2) (some 7) (70) (#[.agg #[.int .i64 afr, .int .i64 ato, .bool agr, .int .i64 amd, .int .i64 ano, .int .i64 alf, .int .i64 ahp]]) (by kernel_rfl) rfl rfl (MR.free rfl) (by simp [execOp, MR.ev, MR.size, hsz, e2, f2, e3, f3, go_sem]) ?_
    refine Calls.mono (WH.out _ _ _ _ _ _ _ _) ?_
    rintro e w2 ⟨rfl, hb2⟩
    have hS2 := keep2 hS hb2
    refine ⟨_, rfl, hS2, ?_⟩
    refine MR.callH (i := 5) (some 10) (70) (#[.agg #[.int .i64 bfr, .int .i64 bto, .bool bgr, .int .i64 bmd, .int .i64 bno, .int .i64 blf, .int .i64 bhp]]) (by kernel_rfl) rfl rfl (MR.free rfl) (by simp [execOp, MR.ev, MR.size, hsz, e2, f2, e3, f3, go_sem]) ?_
    refine Calls.mono (WH.out _ _ _ _ _ _ _ _) ?_
    rintro e w3 ⟨rfl, hb3⟩
    have hS3 := keep2 hS2 hb3
    refine ⟨_, rfl, hS3, ?_⟩
    refine MR.takeH (i := 6) (some 11) (.bool false) rfl rfl (by kernel_rfl) (by kernel_rfl) (by kernel_rfl) (fun _ _ _ h => h) hS3 (MR.free rfl) (fun w hw => by simp [execOp, MR.ev, MR.size, hsz, e2, f2, e3, f3, hE, go_sem]) ?_
    refine MR.takeH (i := 7) (some 12) (.bool false) rfl rfl (by kernel_rfl) (by kernel_rfl) (by kernel_rfl) (fun _ _ _ h => h) hS3 (MR.free rfl) (fun w hw => by simp [execOp, MR.ev, MR.size, hsz, e2, f2, e3, f3, go_sem]) ?_
    refine MR.skipH (i := 8) (some 13) rfl rfl (by kernel_rfl) (by kernel_rfl) (by kernel_rfl) (fun _ _ _ h => h) hS3 (MR.unwant (d := 12) (b' := false) rfl rfl (by simp [MR.size, hsz]) (by simp [MR.ev, MR.size, hsz, e2, f2, e3, f3]) (by decide)) ?_
    refine MR.skipH (i := 9) (some 14) rfl rfl (by kernel_rfl) (by kernel_rfl) (by kernel_rfl) (fun _ _ _ h => h) hS3 (MR.unwant (d := 12) (b' := false) rfl rfl (by simp [MR.size, hsz]) (by simp [MR.ev, MR.size, hsz, e2, f2, e3, f3]) (by decide)) ?_
    refine MR.skipH (i := 10) (some 15) rfl rfl (by kernel_rfl) (by kernel_rfl) (by kernel_rfl) (fun _ _ _ h => h) hS3 (MR.unwant (d := 12) (b' := false) rfl rfl (by simp [MR.size, hsz]) (by simp [MR.ev, MR.size, hsz, e2, f2, e3, f3]) (by decide)) ?_
    refine MR.skipH (i := 11) (some 16) rfl rfl (by kernel_rfl) (by kernel_rfl) (by kernel_rfl) (fun _ _ _ h => h) hS3 (MR.unwant (d := 12) (b' := false) rfl rfl (by simp [MR.size, hsz]) (by simp [MR.ev, MR.size, hsz, e2, f2, e3, f3]) (by decide)) ?_
    refine MR.skipH (i := 12) (some 17) rfl rfl (by kernel_rfl) (by kernel_rfl) (by kernel_rfl) (fun _ _ _ h => h) hS3 (MR.unwant (d := 12) (b' := false) rfl rfl (by simp [MR.size, hsz]) (by simp [MR.ev, MR.size, hsz, e2, f2, e3, f3]) (by decide)) ?_
    refine MR.takeH (i := 13) (some 18) (.bool false) rfl rfl (by kernel_rfl) (by kernel_rfl) (by kernel_rfl) (fun _ _ _ h => h) hS3 (MR.free rfl) (fun w hw => by simp [execOp, MR.ev, MR.size, hsz, e2, f2, e3, f3, go_sem]) ?_
    refine MR.takeH (i := 14) (some 4) (.bool false) rfl rfl (by kernel_rfl) (by kernel_rfl) (by kernel_rfl) (fun _ _ _ h => h) hS3 (MR.free rfl) (fun w hw => by simp [execOp, MR.ev, MR.size, hsz, e2, f2, e3, f3, go_sem]) ?_
    refine wpAnyH_done (by kernel_rfl) ?_ _
    have hB3 := hS3.1
    rw [HA.out]
    clear hS hS2 hS3 HA f2 f3 e2 e3 hsz hE WH hb2 hb3 hS0
    simp only [Act.put, List.setIfInBounds_toArray, List.set_cons_succ, List.set_cons_zero]
    go_wp2
    go_ret
    exact ⟨retBb hF.out, hB3⟩
end Go.Proofs.Ytdgflhgbcfehhaa
