/- What is put on a row of pipes: putOn of the program. -/
import Derived.Test.YtkciheanjcnkkaaRows
import Derived.Test.YtkciheanjcnkkaaCRowCall
import Derived.Test.YtkciheanjcnkkaaMRP
import Derived.WalkKit
import Derived.WalkSpells
import Derived.WalkLawsBesides
import Derived.Outline
namespace Go.Proofs.Ytkciheanjcnkkaa
open Go.RowKit
theorem FL.put_defers (a : Act) (d : Option Tmp) (v : Value) : (a.put d v).defers = a.defers := by cases d <;> rfl
set_option linter.unusedSimpArgs false in
set_option maxHeartbeats 1600000 in
set_option maxRecDepth 100000 in
theorem putTell_any (g1 g2 gf n cap : Nat) (o : List Int) (more : Int) (s : FL.Stp) (W : World) (h1 : W.heap[g1]? = some (.cells #[.slice (some ⟨gf, 0, none⟩) n cap] 29 (0, 0))) (h2 : W.heap[g2]? = some (.cells #[.int .i64 more] 3 (0, 0)))
    (ho : W.ownsRow 0 3 1 (.slice (some ⟨gf, 0, none⟩) n cap) n (M4.iv o)) (hk0 : s.k < n) (_hn : n ≤ 1000) (hg2 : gf ≠ g2) (hy0 : 0 ≤ o.getD s.k 0) (hy1 : o.getD s.k 0 ≤ 100) (hm0 : 0 < more) (hm1 : more ≤ 100) :
    Calls Try.prog 62 #[s.v, .pointer (some ⟨g1, 0, none⟩), .pointer (some ⟨g2, 0, none⟩)] W fun e w' => e = .returned (.tuple #[]) ∧ w'.ownsRow 0 3 1 (.slice (some ⟨gf, 0, none⟩) n cap) n (M4.iv (FL.put1 more o s)) ∧ MC.Only gf W w' := by
  obtain ⟨sk, sb, st, sr⟩ := s
  simp only at hk0 hy0 hy1
  have hol : o.length = n := by have := ho.1; simpa [M4.iv] using this
  obtain ⟨cur, hcur⟩ : ∃ cur, W.heap[gf]? = some (.cells cur 3 (0, 0)) := by
    rcases ho.2 with ⟨h, _⟩ | ⟨g, c, cur, h, _, h3, _⟩
    · cases h
    · cases h; exact ⟨cur, h3⟩
  have hg1 : g1 ≠ gf := by
    intro e; subst e
    rw [hcur] at h1
    simp only [Option.some.injEq, Obj.cells.injEq] at h1
    exact absurd h1.2.1 (by decide)
  have cy : W.cell? ⟨gf, sk, none⟩ = some (.int .i64 (o.getD sk 0)) := by rw [ho.cellAt sk (by omega)]; exact M4.iv_get _ _ _ (FL.get_of _ (by omega))
  have lf : gf < W.heap.size := FL.lt_of_block hcur
  have hst : ∀ x : Int, (W.alloc (.cells #[.int .i64 (sk : Int), .bool sb, .int .i64 st, .int .i64 sr] 75)).drew.ownsRow 0 3 1 (.slice (some ⟨gf, 0, none⟩) n cap) n (M4.iv o) := fun _ => ho.alloc _
  have FINA : ∀ x : Int, ((W.alloc (.cells #[.int .i64 (sk : Int), .bool sb, .int .i64 st, .int .i64 sr] 75)).drew.setCell ⟨gf, sk, none⟩ (.int .i64 x)).ownsRow 0 3 1 (.slice (some ⟨gf, 0, none⟩) n cap) n (M4.iv (o.set sk x)) ∧ MC.Only gf W ((W.alloc (.cells #[.int .i64 (sk : Int), .bool sb, .int .i64 st, .int .i64 sr] 75)).drew.setCell ⟨gf, sk, none⟩ (.int .i64 x)) := fun x => by
    have h3 := (hst x).stored sk (.int .i64 x)
    rw [M4.iv_set] at h3
    refine ⟨h3.1, ?_⟩
    refine (MC.Only.trans (MC.Only.of_below (((Below.refl _ W).alloc (Nat.le_refl _) (.cells #[.int .i64 (sk : Int), .bool sb, .int .i64 st, .int .i64 sr] 75)).drew)) (MC.Only.refl gf _)).setCell sk _
  have c1a : W.cell? ⟨g1, 0, none⟩ = some (.slice (some ⟨gf, 0, none⟩) n cap) := by rw [FL.cell_block h1]; rfl
  have c2a : W.cell? ⟨g2, 0, none⟩ = some (.int .i64 more) := by rw [FL.cell_block h2]; rfl
  have l1 : g1 < W.heap.size := FL.lt_of_block h1
  have l2 : g2 < W.heap.size := FL.lt_of_block h2
  have zy : W.frozen? ⟨gf, sk, none⟩ = false := ho.frozenAt sk
  have FIN0 : Hid _ := FINA
  clear FINA hst h1 h2 hcur ho
  have hp1 : FL.put1 more o ⟨sk, sb, st, sr⟩ = o.set sk (o.getD sk 0 + FL.dl more ⟨sk, sb, st, sr⟩) := rfl
  generalize hy : o.getD sk 0 = y at *
  clear hy
  have kk0 : (0 : Int) ≤ (sk : Int) := by omega
  have kkn : (sk : Int) < (n : Int) := by omega
  cases sb with
  | true =>
    rw [show FL.dl more ⟨sk, true, st, sr⟩ = -more from rfl] at hp1
    have FIN1 := FIN0.out (y - more)
    have hp2 : FL.put1 more o ⟨sk, true, st, sr⟩ = o.set sk (y - more) := hp1
    rw [← hp2] at FIN1
    have FIN : Hid _ := FIN1
    have hwr : IntKind.i64.wrap (y - more) = (y - more) := by rw [IntKind.wrap_i64]; omega
    have q1b : (W.alloc (.cells #[.int .i64 (sk : Int), .bool true, .int .i64 st, .int .i64 sr] 75)).cell? ⟨W.heap.size, 0, none⟩ = some (.int .i64 (sk : Int)) := by simp
    have c1b : (W.alloc (.cells #[.int .i64 (sk : Int), .bool true, .int .i64 st, .int .i64 sr] 75)).cell? ⟨g1, 0, none⟩ = some (.slice (some ⟨gf, 0, none⟩) n cap) := by rw [World.cell?_alloc_lt _ _ _ l1]; exact c1a
    have c2b : (W.alloc (.cells #[.int .i64 (sk : Int), .bool true, .int .i64 st, .int .i64 sr] 75)).cell? ⟨g2, 0, none⟩ = some (.int .i64 more) := by rw [World.cell?_alloc_lt _ _ _ l2]; exact c2a
    have cyb : (W.alloc (.cells #[.int .i64 (sk : Int), .bool true, .int .i64 st, .int .i64 sr] 75)).cell? ⟨gf, sk, none⟩ = some (.int .i64 y) := by rw [World.cell?_alloc_lt _ _ _ lf]; exact cy
    have zyb : (W.alloc (.cells #[.int .i64 (sk : Int), .bool true, .int .i64 st, .int .i64 sr] 75)).frozen? ⟨gf, sk, none⟩ = false := (World.frozen?_of_block (a := ⟨gf, sk, none⟩) (Below.heap_alloc _ _ _ lf)).trans zy
    have lfb : gf < (W.alloc (.cells #[.int .i64 (sk : Int), .bool true, .int .i64 st, .int .i64 sr] 75)).heap.size := by simp; omega
    have C1 : Hid _ := c1b
    have C2 : Hid _ := c2b
    have CY : Hid _ := cyb
    have ZY : Hid _ := zyb
    have LF : Hid _ := lfb
    have Q1 : Hid _ := q1b
    have hnq0 : W.heap.size ≠ gf := by omega
    clear FIN1 hp1 hp2 FIN0 c1b c2b cyb zyb lfb q1b c1a c2a cy zy
    go_enter Try.func62, Try.ntmps62
    go_wp2_with fail
    generalize hW1 : W.alloc (.cells #[.int .i64 (sk : Int), .bool true, .int .i64 st, .int .i64 sr] 75) = W1 at *
    generalize hqq : W.heap.size = q at *
    have c1 := C1.out
    have c2 := C2.out
    have cy' : (World.drew W1).cell? ⟨gf, sk, none⟩ = some (.int .i64 y) := CY.out
    have zy' : (World.drew W1).frozen? ⟨gf, sk, none⟩ = false := ZY.out
    have lf' : gf < (World.drew W1).heap.size := LF.out
    have q0 := Q1.out
    have hn1 : g1 ≠ gf := hg1
    have hn2 : g2 ≠ gf := fun e => hg2 e.symm
    have hnq : q ≠ gf := hnq0
    have hk : sk < n := hk0
    clear C1 C2 CY ZY LF Q1 hW1
    refine MR.frame fun A hA => ?_
    have hsz : A.tmps.size = 22 := by rw [hA]; rfl
    have e1 : A.eval (.tmp 1) = .pointer (some ⟨g1, 0, none⟩) := by rw [hA]; rfl
    have f1 := MR.read (t := 1) (by rw [hsz]; decide) e1
    have e2 : A.eval (.tmp 2) = .pointer (some ⟨g2, 0, none⟩) := by rw [hA]; rfl
    have f2 := MR.read (t := 2) (by rw [hsz]; decide) e2
    have e3 : A.eval (.tmp 3) = .pointer (some ⟨q, 0, none⟩) := by rw [hA]; rfl
    have f3 := MR.read (t := 3) (by rw [hsz]; decide) e3
    have HA : Hid (A = _) := hA
    clear hA
    refine MR.cut (fun aa w' => w' = (World.drew W1).setCell ⟨gf, sk, none⟩ (.int .i64 (y - more)) ∧ aa.defers = []) ?_ ?_
    · have hS : (fun w' : World => w'.cell? ⟨g1, 0, none⟩ = some (.slice (some ⟨gf, 0, none⟩) n cap) ∧ w'.cell? ⟨g2, 0, none⟩ = some (.int .i64 more) ∧ w'.cell? ⟨q, 0, none⟩ = some (.int .i64 (sk : Int))) (World.drew W1) := ⟨c1, c2, q0⟩
      have hdf : A.defers = [] := by rw [HA.out]
      refine wp_region_held (S := fun w' : World => w'.cell? ⟨g1, 0, none⟩ = some (.slice (some ⟨gf, 0, none⟩) n cap) ∧ w'.cell? ⟨g2, 0, none⟩ = some (.int .i64 more) ∧ w'.cell? ⟨q, 0, none⟩ = some (.int .i64 (sk : Int))) (by kernel_rfl) ?_
      change wpAnyH _ _ _ _ _ _ _ _ (World.drew W1)
      refine MR.takeH (i := 0) (some 6) (.slice (some ⟨gf, 0, none⟩) n cap) rfl rfl (by kernel_rfl) (by kernel_rfl) (by kernel_rfl) nofun hS (MR.free rfl) (fun wq hw => by simp [execOp, MR.ev, MR.size, hsz, e1, f1, e2, f2, e3, f3, hw.1, go_sem]) ?_
      refine MR.takeH (i := 1) (some 7) (.pointer (some ⟨q, 0, none⟩)) rfl rfl (by kernel_rfl) (by kernel_rfl) (by kernel_rfl) nofun hS (MR.free rfl) (fun wq hw => by simp [execOp, MR.ev, MR.size, hsz, e1, f1, e2, f2, e3, f3, go_sem]) ?_
      refine MR.takeH (i := 2) (some 8) (.int .i64 (sk : Int)) rfl rfl (by kernel_rfl) (by kernel_rfl) (by kernel_rfl) nofun hS (MR.free rfl) (fun wq hw => by simp [execOp, MR.ev, MR.size, hsz, e1, f1, e2, f2, e3, f3, hw.2.2, go_sem]) ?_
      refine MR.takeH (i := 3) (some 9) (.pointer (some ⟨gf, sk, none⟩)) rfl rfl (by kernel_rfl) (by kernel_rfl) (by kernel_rfl) nofun hS (MR.free rfl) (fun wq hw => by simp [execOp, MR.ev, MR.size, hsz, e1, f1, e2, f2, e3, f3, kk0, kkn, hk, go_sem]) ?_
      refine MR.takeH (i := 5) (some 11) (.int .i64 more) rfl rfl (by kernel_rfl) (by kernel_rfl) (by kernel_rfl) nofun hS (MR.free rfl) (fun wq hw => by simp [execOp, MR.ev, MR.size, hsz, e1, f1, e2, f2, e3, f3, hw.2.1, go_sem]) ?_
      refine MR.nowH (i := 4) (some 10) (.int .i64 y) (by kernel_rfl) rfl rfl (MR.free rfl) (by simp [execOp, MR.ev, MR.size, hsz, e1, f1, e2, f2, e3, f3, cy', lf', go_sem]) ⟨hS, ?_⟩
      refine MR.takeH (i := 6) (some 12) (.int .i64 (y - more)) rfl rfl (by kernel_rfl) (by kernel_rfl) (by kernel_rfl) nofun hS (MR.free rfl) (fun wq hw => by simp [execOp, MR.ev, MR.size, hsz, e1, f1, e2, f2, e3, f3, hwr, go_sem]) ?_
      refine MR.takeH (i := 7) (some 13) (.pointer (some ⟨gf, sk, none⟩)) rfl rfl (by kernel_rfl) (by kernel_rfl) (by kernel_rfl) nofun hS (MR.free rfl) (fun wq hw => by simp [execOp, MR.ev, MR.size, hsz, e1, f1, e2, f2, e3, f3, kk0, kkn, hk, go_sem]) ?_
      have hS2 : (fun w' : World => w'.cell? ⟨g1, 0, none⟩ = some (.slice (some ⟨gf, 0, none⟩) n cap) ∧ w'.cell? ⟨g2, 0, none⟩ = some (.int .i64 more) ∧ w'.cell? ⟨q, 0, none⟩ = some (.int .i64 (sk : Int))) ((World.drew W1).setCell ⟨gf, sk, none⟩ (.int .i64 (y - more))) := ⟨(World.cell?_of_block (a := ⟨g1, 0, none⟩) (Below.heap_setCell _ _ _ _ hn1)).trans c1, (World.cell?_of_block (a := ⟨g2, 0, none⟩) (Below.heap_setCell _ _ _ _ hn2)).trans c2, (World.cell?_of_block (a := ⟨q, 0, none⟩) (Below.heap_setCell _ _ _ _ hnq)).trans q0⟩
      refine MR.storeH (w' := (World.drew W1).setCell ⟨gf, sk, none⟩ (.int .i64 (y - more))) (i := 8) (by kernel_rfl) rfl (MR.free rfl) (by simp [execOp, MR.ev, MR.size, hsz, e1, f1, e2, f2, e3, f3, cy', zy', lf', go_sem]) ⟨hS2, ?_⟩
      exact wpAnyH_done (by kernel_rfl) ⟨rfl, rfl, by simp only [FL.put_defers]; exact hdf⟩ _
    rintro aa w2 ⟨rfl, hdf⟩
    exact bodyPost_end (results_none rfl _ _ _) hdf ⟨rfl, FIN.out⟩
  | false =>
    rw [show FL.dl more ⟨sk, false, st, sr⟩ = more from rfl] at hp1
    have FIN1 := FIN0.out (y + more)
    have hp2 : FL.put1 more o ⟨sk, false, st, sr⟩ = o.set sk (y + more) := hp1
    rw [← hp2] at FIN1
    have FIN : Hid _ := FIN1
    have hwr : IntKind.i64.wrap (y + more) = (y + more) := by rw [IntKind.wrap_i64]; omega
    have q1b : (W.alloc (.cells #[.int .i64 (sk : Int), .bool false, .int .i64 st, .int .i64 sr] 75)).cell? ⟨W.heap.size, 0, none⟩ = some (.int .i64 (sk : Int)) := by simp
    have c1b : (W.alloc (.cells #[.int .i64 (sk : Int), .bool false, .int .i64 st, .int .i64 sr] 75)).cell? ⟨g1, 0, none⟩ = some (.slice (some ⟨gf, 0, none⟩) n cap) := by rw [World.cell?_alloc_lt _ _ _ l1]; exact c1a
    have c2b : (W.alloc (.cells #[.int .i64 (sk : Int), .bool false, .int .i64 st, .int .i64 sr] 75)).cell? ⟨g2, 0, none⟩ = some (.int .i64 more) := by rw [World.cell?_alloc_lt _ _ _ l2]; exact c2a
    have cyb : (W.alloc (.cells #[.int .i64 (sk : Int), .bool false, .int .i64 st, .int .i64 sr] 75)).cell? ⟨gf, sk, none⟩ = some (.int .i64 y) := by rw [World.cell?_alloc_lt _ _ _ lf]; exact cy
    have zyb : (W.alloc (.cells #[.int .i64 (sk : Int), .bool false, .int .i64 st, .int .i64 sr] 75)).frozen? ⟨gf, sk, none⟩ = false := (World.frozen?_of_block (a := ⟨gf, sk, none⟩) (Below.heap_alloc _ _ _ lf)).trans zy
    have lfb : gf < (W.alloc (.cells #[.int .i64 (sk : Int), .bool false, .int .i64 st, .int .i64 sr] 75)).heap.size := by simp; omega
    have C1 : Hid _ := c1b
    have C2 : Hid _ := c2b
    have CY : Hid _ := cyb
    have ZY : Hid _ := zyb
    have LF : Hid _ := lfb
    have Q1 : Hid _ := q1b
    have hnq0 : W.heap.size ≠ gf := by omega
    clear FIN1 hp1 hp2 FIN0 c1b c2b cyb zyb lfb q1b c1a c2a cy zy
    go_enter Try.func62, Try.ntmps62
    go_wp2_with fail
    generalize hW1 : W.alloc (.cells #[.int .i64 (sk : Int), .bool false, .int .i64 st, .int .i64 sr] 75) = W1 at *
    generalize hqq : W.heap.size = q at *
    have c1 := C1.out
    have c2 := C2.out
    have cy' : (World.drew W1).cell? ⟨gf, sk, none⟩ = some (.int .i64 y) := CY.out
    have zy' : (World.drew W1).frozen? ⟨gf, sk, none⟩ = false := ZY.out
    have lf' : gf < (World.drew W1).heap.size := LF.out
    have q0 := Q1.out
    have hn1 : g1 ≠ gf := hg1
    have hn2 : g2 ≠ gf := fun e => hg2 e.symm
    have hnq : q ≠ gf := hnq0
    have hk : sk < n := hk0
    clear C1 C2 CY ZY LF Q1 hW1
    refine MR.frame fun A hA => ?_
    have hsz : A.tmps.size = 22 := by rw [hA]; rfl
    have e1 : A.eval (.tmp 1) = .pointer (some ⟨g1, 0, none⟩) := by rw [hA]; rfl
    have f1 := MR.read (t := 1) (by rw [hsz]; decide) e1
    have e2 : A.eval (.tmp 2) = .pointer (some ⟨g2, 0, none⟩) := by rw [hA]; rfl
    have f2 := MR.read (t := 2) (by rw [hsz]; decide) e2
    have e3 : A.eval (.tmp 3) = .pointer (some ⟨q, 0, none⟩) := by rw [hA]; rfl
    have f3 := MR.read (t := 3) (by rw [hsz]; decide) e3
    have HA : Hid (A = _) := hA
    clear hA
    refine MR.cut (fun aa w' => w' = (World.drew W1).setCell ⟨gf, sk, none⟩ (.int .i64 (y + more)) ∧ aa.defers = []) ?_ ?_
    · have hS : (fun w' : World => w'.cell? ⟨g1, 0, none⟩ = some (.slice (some ⟨gf, 0, none⟩) n cap) ∧ w'.cell? ⟨g2, 0, none⟩ = some (.int .i64 more) ∧ w'.cell? ⟨q, 0, none⟩ = some (.int .i64 (sk : Int))) (World.drew W1) := ⟨c1, c2, q0⟩
      have hdf : A.defers = [] := by rw [HA.out]
      refine wp_region_held (S := fun w' : World => w'.cell? ⟨g1, 0, none⟩ = some (.slice (some ⟨gf, 0, none⟩) n cap) ∧ w'.cell? ⟨g2, 0, none⟩ = some (.int .i64 more) ∧ w'.cell? ⟨q, 0, none⟩ = some (.int .i64 (sk : Int))) (by kernel_rfl) ?_
      change wpAnyH _ _ _ _ _ _ _ _ (World.drew W1)
      refine MR.takeH (i := 0) (some 14) (.slice (some ⟨gf, 0, none⟩) n cap) rfl rfl (by kernel_rfl) (by kernel_rfl) (by kernel_rfl) nofun hS (MR.free rfl) (fun wq hw => by simp [execOp, MR.ev, MR.size, hsz, e1, f1, e2, f2, e3, f3, hw.1, go_sem]) ?_
      refine MR.takeH (i := 1) (some 15) (.pointer (some ⟨q, 0, none⟩)) rfl rfl (by kernel_rfl) (by kernel_rfl) (by kernel_rfl) nofun hS (MR.free rfl) (fun wq hw => by simp [execOp, MR.ev, MR.size, hsz, e1, f1, e2, f2, e3, f3, go_sem]) ?_
      refine MR.takeH (i := 2) (some 16) (.int .i64 (sk : Int)) rfl rfl (by kernel_rfl) (by kernel_rfl) (by kernel_rfl) nofun hS (MR.free rfl) (fun wq hw => by simp [execOp, MR.ev, MR.size, hsz, e1, f1, e2, f2, e3, f3, hw.2.2, go_sem]) ?_
      refine MR.takeH (i := 3) (some 17) (.pointer (some ⟨gf, sk, none⟩)) rfl rfl (by kernel_rfl) (by kernel_rfl) (by kernel_rfl) nofun hS (MR.free rfl) (fun wq hw => by simp [execOp, MR.ev, MR.size, hsz, e1, f1, e2, f2, e3, f3, kk0, kkn, hk, go_sem]) ?_
      refine MR.takeH (i := 5) (some 19) (.int .i64 more) rfl rfl (by kernel_rfl) (by kernel_rfl) (by kernel_rfl) nofun hS (MR.free rfl) (fun wq hw => by simp [execOp, MR.ev, MR.size, hsz, e1, f1, e2, f2, e3, f3, hw.2.1, go_sem]) ?_
      refine MR.nowH (i := 4) (some 18) (.int .i64 y) (by kernel_rfl) rfl rfl (MR.free rfl) (by simp [execOp, MR.ev, MR.size, hsz, e1, f1, e2, f2, e3, f3, cy', lf', go_sem]) ⟨hS, ?_⟩
      refine MR.takeH (i := 6) (some 20) (.int .i64 (y + more)) rfl rfl (by kernel_rfl) (by kernel_rfl) (by kernel_rfl) nofun hS (MR.free rfl) (fun wq hw => by simp [execOp, MR.ev, MR.size, hsz, e1, f1, e2, f2, e3, f3, hwr, go_sem]) ?_
      refine MR.takeH (i := 7) (some 21) (.pointer (some ⟨gf, sk, none⟩)) rfl rfl (by kernel_rfl) (by kernel_rfl) (by kernel_rfl) nofun hS (MR.free rfl) (fun wq hw => by simp [execOp, MR.ev, MR.size, hsz, e1, f1, e2, f2, e3, f3, kk0, kkn, hk, go_sem]) ?_
      have hS2 : (fun w' : World => w'.cell? ⟨g1, 0, none⟩ = some (.slice (some ⟨gf, 0, none⟩) n cap) ∧ w'.cell? ⟨g2, 0, none⟩ = some (.int .i64 more) ∧ w'.cell? ⟨q, 0, none⟩ = some (.int .i64 (sk : Int))) ((World.drew W1).setCell ⟨gf, sk, none⟩ (.int .i64 (y + more))) := ⟨(World.cell?_of_block (a := ⟨g1, 0, none⟩) (Below.heap_setCell _ _ _ _ hn1)).trans c1, (World.cell?_of_block (a := ⟨g2, 0, none⟩) (Below.heap_setCell _ _ _ _ hn2)).trans c2, (World.cell?_of_block (a := ⟨q, 0, none⟩) (Below.heap_setCell _ _ _ _ hnq)).trans q0⟩
      refine MR.storeH (w' := (World.drew W1).setCell ⟨gf, sk, none⟩ (.int .i64 (y + more))) (i := 8) (by kernel_rfl) rfl (MR.free rfl) (by simp [execOp, MR.ev, MR.size, hsz, e1, f1, e2, f2, e3, f3, cy', zy', lf', go_sem]) ⟨hS2, ?_⟩
      exact wpAnyH_done (by kernel_rfl) ⟨rfl, rfl, by simp only [FL.put_defers]; exact hdf⟩ _
    rintro aa w2 ⟨rfl, hdf⟩
    exact bodyPost_end (results_none rfl _ _ _) hdf ⟨rfl, FIN.out⟩
set_option linter.unusedSimpArgs false in
set_option maxHeartbeats 1600000 in
set_option maxRecDepth 100000 in
theorem putOn_any (lo F gf n cap : Nat) (cs : Array Value) (l : List FL.Stp) (fs : List Int) (more : Int) (w : World) (h : FL.RowF lo w F cs l) (ho : w.ownsRow 0 3 1 (.slice (some ⟨gf, 0, none⟩) n cap) n (M4.iv fs)) (hn : n ≤ 1000) (hm0 : 0 < more) (hm1 : more ≤ 100)
    (hl : ∀ x ∈ l, x.k < n) (hf : ∀ j, j < n → 0 ≤ fs.getD j 0 ∧ fs.getD j 0 ≤ 100) (hnd : (l.map FL.Stp.k).Nodup) :
    Calls Try.prog 53 #[.func (.func F) #[] cs, .slice (some ⟨gf, 0, none⟩) n cap, .int .i64 more] w fun e w' => e = .returned (.tuple #[]) ∧ w'.ownsRow 0 3 1 (.slice (some ⟨gf, 0, none⟩) n cap) n (M4.iv (FL.putL more fs l)) ∧ MC.Only gf w w' := by
  have hfl : fs.length = n := by have := ho.1; simpa [M4.iv] using this
  have hgf : gf < w.heap.size := (ho.lt gf rfl).2
  obtain ⟨cur, hcur⟩ : ∃ cur, w.heap[gf]? = some (.cells cur 3 (0, 0)) := by
    rcases ho.2 with ⟨h, _⟩ | ⟨g, c, cur, h, _, h3, _⟩
    · cases h
    · cases h; exact ⟨cur, h3⟩
  obtain ⟨W2, hW2⟩ : ∃ W2, (w.alloc (.cells #[.slice (some ⟨gf, 0, none⟩) n cap] 29)).alloc (.cells #[.int .i64 more] 3) = W2 := ⟨_, rfl⟩
  have hs1 : (w.alloc (.cells #[.slice (some ⟨gf, 0, none⟩) n cap] 29)).heap.size = w.heap.size + 1 := by simp
  have hb1 : W2.heap[w.heap.size]? = some (.cells #[.slice (some ⟨gf, 0, none⟩) n cap] 29 (0, 0)) := by rw [← hW2, Below.heap_alloc _ _ _ (by omega)]; exact heap_alloc_new _ _
  have hb2 : W2.heap[w.heap.size + 1]? = some (.cells #[.int .i64 more] 3 (0, 0)) := by rw [← hW2, ← hs1]; exact heap_alloc_new _ _
  have RC := rowCallPut_any lo w.heap.size (w.heap.size + 1) w l (fun done W => W.ownsRow 0 3 1 (.slice (some ⟨gf, 0, none⟩) n cap) n (M4.iv (FL.putL more fs done)) ∧ MC.Only gf w W ∧ W.heap[w.heap.size]? = some (.cells #[.slice (some ⟨gf, 0, none⟩) n cap] 29 (0, 0)) ∧ W.heap[w.heap.size + 1]? = some (.cells #[.int .i64 more] 3 (0, 0)))
    (fun done s W hP hI => by
      obtain ⟨i1, i2, i3, i4⟩ := hI
      obtain ⟨rest, hr⟩ := hP
      have hmem : s ∈ l := by rw [← hr]; simp
      have hdn : ∀ x ∈ done, x.k < fs.length := fun x hx => by rw [hfl]; exact hl x (by rw [← hr]; simp [hx])
      have hsk := hl s hmem
      have hnot : s.k ∉ done.map FL.Stp.k := by
        rw [← hr, List.append_assoc, List.map_append, List.nodup_append] at hnd
        intro hx
        exact hnd.2.2 _ hx _ (by simp) rfl
      have hval : (FL.putL more fs done).getD s.k 0 = fs.getD s.k 0 := FL.putL_not _ _ hdn hnot
      have hb := hf s.k hsk
      refine Calls.mono (putTell_any w.heap.size (w.heap.size + 1) gf n cap (FL.putL more fs done) more s W i3 i4 i1 hsk hn (by omega) (by rw [hval]; exact hb.1) (by rw [hval]; exact hb.2) hm0 hm1) ?_
      rintro e w' ⟨rfl, j1, j2⟩
      refine ⟨rfl, by rw [FL.putL_snoc]; exact j1, i2.trans j2, ?_, ?_⟩
      · rw [j2.block _ (FL.lt_of_block i3) (by omega)]; exact i3
      · rw [j2.block _ (FL.lt_of_block i4) (by omega)]; exact i4)
    (fun done W hI k hk _ ht => hI.2.1.block k hk (fun e => by subst e; exact ht _ _ hcur)) h [] W2 (by rw [List.nil_append]; exact List.prefix_rfl)
    ⟨by rw [← hW2]; exact (ho.alloc _).alloc _, by rw [← hW2]; exact MC.Only.of_below (((Below.refl _ w).alloc (Nat.le_refl _) _).alloc (by simp) _), hb1, hb2⟩
  rw [List.nil_append] at RC
  clear hb1 hb2 hs1 hl hf hnd hcur hfl ho
  rcases h.which with ⟨rfl, rfl⟩ | ⟨rfl, c1, c2, rfl⟩
  · have RC2 : Hid (Calls Try.prog 55 #[.func (.func 62) #[] #[.pointer (some ⟨w.heap.size, 0, none⟩), .pointer (some ⟨w.heap.size + 1, 0, none⟩)]] W2 fun e w' => e = .returned (.tuple #[]) ∧ (w'.ownsRow 0 3 1 (.slice (some ⟨gf, 0, none⟩) n cap) n (M4.iv (FL.putL more fs l)) ∧ MC.Only gf w w')) := by
      refine Calls.mono RC ?_
      rintro e w' ⟨rfl, hI⟩
      exact ⟨rfl, hI.1, hI.2.1⟩
    clear RC h
    go_enter Try.func53, Try.ntmps53
    go_wp2_with fail
    refine Calls.mono RC2.out ?_
    rintro e w2 ⟨rfl, h1, h2⟩
    clear RC2
    go_wp2
    exact bodyPost_end (results_none rfl _ _ _) rfl ⟨rfl, h1, h2⟩
  · have RC2 : Hid (Calls Try.prog 63 #[.func (.func 62) #[] #[.pointer (some ⟨w.heap.size, 0, none⟩), .pointer (some ⟨w.heap.size + 1, 0, none⟩)], .pointer (some ⟨c1, 0, none⟩), .pointer (some ⟨c2, 0, none⟩)] W2 fun e w' => e = .returned (.tuple #[]) ∧ (w'.ownsRow 0 3 1 (.slice (some ⟨gf, 0, none⟩) n cap) n (M4.iv (FL.putL more fs l)) ∧ MC.Only gf w w')) := by
      refine Calls.mono RC ?_
      rintro e w' ⟨rfl, hI⟩
      exact ⟨rfl, hI.1, hI.2.1⟩
    clear RC h
    go_enter Try.func53, Try.ntmps53
    go_wp2_with fail
    refine Calls.mono RC2.out ?_
    rintro e w2 ⟨rfl, h1, h2⟩
    clear RC2
    go_wp2
    exact bodyPost_end (results_none rfl _ _ _) rfl ⟨rfl, h1, h2⟩
end Go.Proofs.Ytkciheanjcnkkaa
