/- Slips of the program: noteOf, the notes' ends, checkSlip. -/
import Derived.Test.YtfkmnmiolnijaaaRows
import Derived.Test.YtfkmnmiolnijaaaMCg
import Derived.Test.YtfkmnmiolnijaaaCFault
import Derived.Test.YtfkmnmiolnijaaaCToCu
import Derived.Test.YtfkmnmiolnijaaaCHsI
import Derived.Test.YtfkmnmiolnijaaaCTwoOf
import Derived.Test.YtfkmnmiolnijaaaMDie
import Derived.Test.YtfkmnmiolnijaaaMBxN
import Derived.Deep.RegionHeld3
import Derived.Deep.QuietTactic
import Derived.BigQuiet
import Derived.WalkKit
import Derived.WalkSmall
import Derived.WalkSpells
import Derived.WalkLawsBesides
import Derived.Outline
namespace Go.Proofs.Ytfkmnmiolnijaaa
open Go.RowKit
set_option maxHeartbeats 1600000 in
set_option maxRecDepth 100000 in
theorem giveEnds_any (k f t i : Int) (w : World) : Calls Try.prog 112 #[.agg #[.int .i64 k, .int .i64 f, .int .i64 t, .int .i64 i]] w fun e w' => e = .returned (.tuple #[.int .i64 f, .int .i64 t]) ∧ Below w.heap.size w w' := by
  have hB : ∀ o, Below w.heap.size w (w.alloc o) := fun o => (Below.refl _ w).alloc (Nat.le_refl _) o
  go_enter Try.func112, Try.ntmps112
  go_wp2
  go_quiet (fail)
  all_goals (
    go_wp2
    exact bodyPost_ret (v := .tuple #[.int .i64 f, .int .i64 t]) (by simp [results, Try.results112, go_sem]) rfl ⟨rfl, below_drewN (hB _) _⟩)
set_option maxHeartbeats 1600000 in
set_option maxRecDepth 100000 in
theorem ackEnds_any (k f t i : Int) (w : World) : Calls Try.prog 114 #[.agg #[.int .i64 k, .int .i64 f, .int .i64 t, .int .i64 i]] w fun e w' => e = .returned (.tuple #[.int .i64 t, .int .i64 f]) ∧ Below w.heap.size w w' := by
  have hB : ∀ o, Below w.heap.size w (w.alloc o) := fun o => (Below.refl _ w).alloc (Nat.le_refl _) o
  go_enter Try.func114, Try.ntmps114
  go_wp2
  go_quiet (fail)
  all_goals (
    go_wp2
    exact bodyPost_ret (v := .tuple #[.int .i64 t, .int .i64 f]) (by simp [results, Try.results114, go_sem]) rfl ⟨rfl, below_drewN (hB _) _⟩)
set_option maxHeartbeats 1600000 in
set_option maxRecDepth 100000 in
theorem noteGive_any (f t i : Int) (w : World) : Calls Try.prog 60 #[.agg #[.int .i64 1, .int .i64 f, .int .i64 t, .int .i64 i]] w fun e w' => e = .returned (.iface 98 (.agg #[.int .i64 1, .int .i64 f, .int .i64 t, .int .i64 i])) ∧ Below w.heap.size w w' := by
  have hB : ∀ o, Below w.heap.size w (w.alloc o) := fun o => (Below.refl _ w).alloc (Nat.le_refl _) o
  go_enter Try.func60, Try.ntmps60
  go_wp2
  go_ret
  exact ⟨rfl, hB _⟩
set_option maxHeartbeats 1600000 in
set_option maxRecDepth 100000 in
theorem noteAck_any (f t i : Int) (w : World) : Calls Try.prog 60 #[.agg #[.int .i64 2, .int .i64 f, .int .i64 t, .int .i64 i]] w fun e w' => e = .returned (.iface 99 (.agg #[.int .i64 2, .int .i64 f, .int .i64 t, .int .i64 i])) ∧ Below w.heap.size w w' := by
  have hB : ∀ o, Below w.heap.size w (w.alloc o) := fun o => (Below.refl _ w).alloc (Nat.le_refl _) o
  go_enter Try.func60, Try.ntmps60
  go_wp2
  go_ret
  exact ⟨rfl, hB _⟩
set_option maxHeartbeats 1600000 in
set_option maxRecDepth 100000 in
theorem noteNo_any (k f t i : Int) (h1 : k ≠ 1) (h2 : k ≠ 2) (w : World) : Calls Try.prog 60 #[.agg #[.int .i64 k, .int .i64 f, .int .i64 t, .int .i64 i]] w fun e w' => e = Try.fault ∧ Below w.heap.size w w' := by
  have hB : ∀ o, Below w.heap.size w (w.alloc o) := fun o => (Below.refl _ w).alloc (Nat.le_refl _) o
  have e1 : (k == 1) = false := by simp [h1]
  have e2 : (k == 2) = false := by simp [h2]
  go_enter Try.func60, Try.ntmps60
  go_wp2
  exact ⟨rfl, rfl, hB _⟩
theorem CG.up_at {w : World} {a : Option Addr} {us : List Int} {m : Nat} (h : M4.IntsAt w a us) (hm : m < us.length) : ∃ b off, a = some ⟨b, off, none⟩ ∧ b < w.heap.size ∧ w.cell? ⟨b, off + m, none⟩ = some (.int .i64 (us.getD m 0)) := h.at hm
theorem Try.mtGive (v : Value) (k : Nat) (w : World) : (method (k + 1) 98 v "loop.example/g00315/impl.ends").run Try.prog w = .ok (112, v) w := by kernel_rfl
theorem Try.mtAck (v : Value) (k : Nat) (w : World) : (method (k + 1) 99 v "loop.example/g00315/impl.ends").run Try.prog w = .ok (114, v) w := by kernel_rfl
set_option linter.unusedSimpArgs false in
set_option maxHeartbeats 3200000 in
set_option maxRecDepth 100000 in
theorem checkSlip_any (c : Cu) (x : I4) (w : World) (hc : CuAt w c) (lc : CuLen c) (hn : c.ks.length = c.us.length) :
    Calls Try.prog 47 #[c.v, x.v] w fun e w' => e = Try.out (CG.slipI c.said x) ∧ Below w.heap.size w w' := by
  obtain ⟨us, ks, ls, ns, ua, ka, la, na, uc, kc, lcc, nc⟩ := c
  obtain ⟨hu, hk, -, -⟩ := hc
  obtain ⟨l1, l2, -, -, l5⟩ := lc
  simp only at hu hk hn l1 l2 l5
  have HNL : Hid (ks.length = us.length) := hn
  clear hn
  obtain ⟨kd, fr, to_, id⟩ := x
  obtain ⟨B, hB⟩ : ∃ B, CG.slipI (Cu.said ⟨us, ks, ls, ns, ua, ka, la, na, uc, kc, lcc, nc⟩) ⟨kd, fr, to_, id⟩ = B := ⟨_, rfl⟩
  rw [hB]
  have hB' : (CG.twoOf us.length fr to_ && EG.hasB (KP.sd (ks.map Kp.said) fr.toNat).1 id && (if kd = 1 then decide (us.getD to_.toNat 0 = fr) else if kd = 2 then decide (us.getD fr.toNat 0 = to_) else false)) = B := hB
  clear hB
  have hun : (0 : Int) ≤ (us.length : Int) := by omega
  have TW : Hid (∀ W : World, Calls Try.prog 59 #[.int .i64 (us.length : Int), .int .i64 fr, .int .i64 to_] W fun e w' => e = .returned (.bool (CG.twoOf us.length fr to_)) ∧ W = w') := fun W => by
    have h := areTwoOf_any (us.length : Int) fr to_ W (by omega) (by omega)
    rw [show SP.two (us.length : Int) fr to_ = CG.twoOf us.length fr to_ from by rw [Bool.eq_iff_iff]; simp only [SP.two, CG.twoOf, Bool.and_eq_true, decide_eq_true_eq]; omega] at h
    exact h
  have hB0 : Below w.heap.size w ((w.alloc (.cells #[.slice ua us.length uc, .slice ka ks.length kc, .slice la ls.length lcc, .slice na ns.length nc] 32)).alloc (.cells #[.int .i64 kd, .int .i64 fr, .int .i64 to_, .int .i64 id] 45)) := ((Below.refl _ w).alloc (Nat.le_refl _) _).alloc (by simp) _
  have x0 : BxN ((w.alloc (.cells #[.slice ua us.length uc, .slice ka ks.length kc, .slice la ls.length lcc, .slice na ns.length nc] 32)).alloc (.cells #[.int .i64 kd, .int .i64 fr, .int .i64 to_, .int .i64 id] 45)) w.heap.size [.slice ua us.length uc, .slice ka ks.length kc, .slice la ls.length lcc, .slice na ns.length nc] 32 := (BxN.new w _ _ rfl).alloc _
  have y0 : BxN ((w.alloc (.cells #[.slice ua us.length uc, .slice ka ks.length kc, .slice la ls.length lcc, .slice na ns.length nc] 32)).alloc (.cells #[.int .i64 kd, .int .i64 fr, .int .i64 to_, .int .i64 id] 45)) (w.heap.size + 1) [.int .i64 kd, .int .i64 fr, .int .i64 to_, .int .i64 id] 45 := BxN.new _ _ _ (by simp)
  go_enter Try.func47, Try.ntmps47
  go_wp2_with fail
  generalize ((w.alloc (.cells #[.slice ua us.length uc, .slice ka ks.length kc, .slice la ls.length lcc, .slice na ns.length nc] 32)).alloc (.cells #[.int .i64 kd, .int .i64 fr, .int .i64 to_, .int .i64 id] 45)) = W0 at *
  refine (TW.out W0).mono ?_
  rintro e w1 ⟨rfl, rfl⟩
  clear TW
  by_cases ht : CG.twoOf us.length fr to_ = true
  case neg =>
    replace ht : CG.twoOf us.length fr to_ = false := by simpa using ht
    have hF : Hid (B = false) := by show _ = _; rw [← hB', ht]; rfl
    rw [ht]
    clear hB' x0 y0 hu hk l5
    go_wp2_with fail
    refine (need_no W0).mono ?_
    rintro e w2 ⟨rfl, rfl⟩
    go_wp2
    exact ⟨rfl, by rw [hF.out]; rfl, hB0⟩
  rw [ht] at hB' ⊢
  simp only [CG.twoOf, Bool.and_eq_true, decide_eq_true_eq] at ht
  obtain ⟨⟨⟨f0, f1⟩, ⟨t0, t1⟩⟩, -⟩ := ht
  obtain ⟨i, rfl⟩ : ∃ i : Nat, fr = (i : Int) := ⟨fr.toNat, by omega⟩
  obtain ⟨m, rfl⟩ : ∃ m : Nat, to_ = (m : Int) := ⟨to_.toNat, by omega⟩
  have hi : i < ks.length := by have := HNL.out; omega
  have hiu : i < us.length := by omega
  have hmu : m < us.length := by omega
  rw [Int.toNat_natCast, Int.toNat_natCast, KP.sd_at hi] at hB'
  obtain ⟨b1, off1, rfl, hlt1, c0, c1, c2, hin⟩ := (hk.below hB0).at hi
  have lk := l5 i hi
  have HSN : Hid (∀ W : World, Below W0.heap.size W0 W → Calls Try.prog 32 #[(KP.at_ ks i).v, .int .i64 id] W fun e w' => e = .returned (.bool (EG.hasB (KP.at_ ks i).ss id)) ∧ Below W.heap.size W w') := fun W hW => hasSeen_any (KP.at_ ks i) id W (hin.below hW) lk.1
  have hB2 : (true && EG.hasB (KP.at_ ks i).ss id && (if kd = 1 then decide (us.getD m 0 = (i : Int)) else if kd = 2 then decide (us.getD i 0 = (m : Int)) else false)) = B := hB'
  clear hB' hin lk hk l5
  generalize KP.at_ ks i = p at *
  obtain ⟨ss, hs, ts, sa, ha, ta, sc, hc, tc⟩ := p
  simp only at c0 c1 c2 hB2 HSN
  obtain ⟨bs, hbs⟩ : ∃ b, EG.hasB ss id = b := ⟨_, rfl⟩
  rw [hbs] at HSN hB2
  clear hbs
  have HB : Hid ((bs && (if kd = 1 then decide (us.getD m 0 = (i : Int)) else if kd = 2 then decide (us.getD i 0 = (m : Int)) else false)) = B) := by show _ = _; rw [← hB2]; cases bs <;> rfl
  clear hB2
  have q0 : (0 : Int) ≤ (i : Int) := by omega
  have q1 : (i : Int) < (ks.length : Int) := by omega
  have LD : Hid (∀ W : World, Below W0.heap.size W0 W → W.cell? ⟨w.heap.size, 1, none⟩ = some (.slice (some ⟨b1, off1, none⟩) ks.length kc) ∧ W.cell? ⟨w.heap.size + 1, 1, none⟩ = some (.int .i64 (i : Int)) ∧ W.cell? ⟨w.heap.size + 1, 3, none⟩ = some (.int .i64 id) ∧ W.cell? ⟨b1, off1 + i * 3, none⟩ = some (.slice sa ss.length sc) ∧ W.cell? ⟨b1, off1 + i * 3 + 1, none⟩ = some (.slice ha hs.length hc) ∧ W.cell? ⟨b1, off1 + i * 3 + 2, none⟩ = some (.slice ta ts.length tc)) := fun W h =>
    ⟨(x0.below h x0.lt).cell 1 rfl, (y0.below h y0.lt).cell 1 rfl, (y0.below h y0.lt).cell 3 rfl, (h.cell (p := ⟨_, _, none⟩) hlt1).trans c0, (h.cell (p := ⟨_, _, none⟩) hlt1).trans c1, (h.cell (p := ⟨_, _, none⟩) hlt1).trans c2⟩
  clear c0 c1 c2
  go_wp2_with fail
  refine (need_yes W0).mono ?_
  rintro e w2 ⟨rfl, rfl⟩
  have x0c := x0.cell 1 rfl
  go_wp2_with fail
  cases bs
  case false =>
    have hF : Hid (B = false) := by show _ = _; rw [← HB.out]; rfl
    clear HB
    refine MR.frame fun A hA => ?_
    have hsz : A.tmps.size = 39 := by rw [hA]; rfl
    have e2 : A.eval (.tmp 2) = .pointer (some ⟨w.heap.size, 0, none⟩) := by rw [hA]; rfl
    have f2 := MR.read (t := 2) (by rw [hsz]; decide) e2
    have e3 : A.eval (.tmp 3) = .pointer (some ⟨w.heap.size + 1, 0, none⟩) := by rw [hA]; rfl
    have f3 := MR.read (t := 3) (by rw [hsz]; decide) e3
    have HA : Hid (A = _) := hA
    clear hA
    have hS : (fun W => Below W0.heap.size W0 W) (World.drew _) := (Below.refl _ W0).drew
    refine wp_region_held (S := fun W => Below W0.heap.size W0 W) (by kernel_rfl) ?_
    change wpAnyH _ _ _ _ _ _ _ _ (World.drew _)
    refine MR.takeH (i := 0) (some 15) (.pointer (some ⟨w.heap.size, 1, none⟩)) rfl rfl (by kernel_rfl) (by kernel_rfl) (by kernel_rfl) (fun _ _ _ h => h) hS (MR.free rfl) (fun wq hw => by simp [execOp, MR.ev, MR.size, hsz, e2, f2, e3, f3, go_sem]) ?_
    refine MR.takeH (i := 1) (some 16) (.slice (some ⟨b1, off1, none⟩) ks.length kc) rfl rfl (by kernel_rfl) (by kernel_rfl) (by kernel_rfl) (fun _ _ _ h => h) hS (MR.free rfl) (fun wq hw => by simp [execOp, MR.ev, MR.size, hsz, e2, f2, e3, f3, (LD.out wq hw).1, go_sem]) ?_
    refine MR.takeH (i := 2) (some 17) (.pointer (some ⟨w.heap.size + 1, 1, none⟩)) rfl rfl (by kernel_rfl) (by kernel_rfl) (by kernel_rfl) (fun _ _ _ h => h) hS (MR.free rfl) (fun wq hw => by simp [execOp, MR.ev, MR.size, hsz, e2, f2, e3, f3, go_sem]) ?_
    refine MR.takeH (i := 3) (some 18) (.int .i64 (i : Int)) rfl rfl (by kernel_rfl) (by kernel_rfl) (by kernel_rfl) (fun _ _ _ h => h) hS (MR.free rfl) (fun wq hw => by simp [execOp, MR.ev, MR.size, hsz, e2, f2, e3, f3, (LD.out wq hw).2.1, go_sem]) ?_
    refine MR.takeH (i := 4) (some 19) (.pointer (some ⟨b1, off1 + i * 3, none⟩)) rfl rfl (by kernel_rfl) (by kernel_rfl) (by kernel_rfl) (fun _ _ _ h => h) hS (MR.free rfl) (fun wq hw => by simp [execOp, MR.ev, MR.size, hsz, e2, f2, e3, f3, q0, q1, go_sem]) ?_
    refine MR.takeH (i := 5) (some 20) (.agg #[.slice sa ss.length sc, .slice ha hs.length hc, .slice ta ts.length tc]) rfl rfl (by kernel_rfl) (by kernel_rfl) (by kernel_rfl) (fun _ _ _ h => h) hS (MR.free rfl) (fun wq hw => by simp [execOp, MR.ev, MR.size, hsz, e2, f2, e3, f3, (LD.out wq hw).2.2.2.1, (LD.out wq hw).2.2.2.2.1, (LD.out wq hw).2.2.2.2.2, go_sem]) ?_
    refine MR.takeH (i := 6) (some 21) (.pointer (some ⟨w.heap.size + 1, 3, none⟩)) rfl rfl (by kernel_rfl) (by kernel_rfl) (by kernel_rfl) (fun _ _ _ h => h) hS (MR.free rfl) (fun wq hw => by simp [execOp, MR.ev, MR.size, hsz, e2, f2, e3, f3, go_sem]) ?_
    refine MR.takeH (i := 7) (some 22) (.int .i64 id) rfl rfl (by kernel_rfl) (by kernel_rfl) (by kernel_rfl) (fun _ _ _ h => h) hS (MR.free rfl) (fun wq hw => by simp [execOp, MR.ev, MR.size, hsz, e2, f2, e3, f3, (LD.out wq hw).2.2.1, go_sem]) ?_
    refine MR.callH (i := 8) (some 23) (32) (#[.agg #[.slice sa ss.length sc, .slice ha hs.length hc, .slice ta ts.length tc], .int .i64 id]) (by kernel_rfl) rfl rfl (MR.free rfl) (by simp [execOp, MR.ev, MR.size, hsz, e2, f2, e3, f3, go_sem]) ?_
    refine Calls.mono (HSN.out _ hS) ?_
    rintro e wn ⟨rfl, hbn⟩
    have hS2 : Below W0.heap.size W0 wn := hS.trans (hbn.mono hS.size)
    refine ⟨_, rfl, hS2, ?_⟩
    refine MR.dieH (i := 9) 41 #[.bool false] (by kernel_rfl) rfl (MR.free rfl) (by simp [execOp, MR.ev, MR.size, hsz, go_sem]) ?_
    refine (need_no _).mono ?_
    rintro e wm ⟨rfl, rfl⟩
    exact ⟨_, rfl, (by rw [HA.out]; rfl), by rw [hF.out]; rfl, hB0.trans (hS2.mono hB0.size)⟩
  case true =>
    have HB2 : Hid ((if kd = 1 then decide (us.getD m 0 = (i : Int)) else if kd = 2 then decide (us.getD i 0 = (m : Int)) else false) = B) := by show _ = _; rw [← HB.out]; rfl
    clear HB
    refine MR.frame fun A hA => ?_
    have hsz : A.tmps.size = 39 := by rw [hA]; rfl
    have e2 : A.eval (.tmp 2) = .pointer (some ⟨w.heap.size, 0, none⟩) := by rw [hA]; rfl
    have f2 := MR.read (t := 2) (by rw [hsz]; decide) e2
    have e3 : A.eval (.tmp 3) = .pointer (some ⟨w.heap.size + 1, 0, none⟩) := by rw [hA]; rfl
    have f3 := MR.read (t := 3) (by rw [hsz]; decide) e3
    have HA : Hid (A = _) := hA
    clear hA
    have hS : (fun W => Below W0.heap.size W0 W) (World.drew _) := (Below.refl _ W0).drew
    refine wp_region_held (S := fun W => Below W0.heap.size W0 W) (by kernel_rfl) ?_
    change wpAnyH _ _ _ _ _ _ _ _ (World.drew _)
    refine MR.takeH (i := 0) (some 15) (.pointer (some ⟨w.heap.size, 1, none⟩)) rfl rfl (by kernel_rfl) (by kernel_rfl) (by kernel_rfl) (fun _ _ _ h => h) hS (MR.free rfl) (fun wq hw => by simp [execOp, MR.ev, MR.size, hsz, e2, f2, e3, f3, go_sem]) ?_
    refine MR.takeH (i := 1) (some 16) (.slice (some ⟨b1, off1, none⟩) ks.length kc) rfl rfl (by kernel_rfl) (by kernel_rfl) (by kernel_rfl) (fun _ _ _ h => h) hS (MR.free rfl) (fun wq hw => by simp [execOp, MR.ev, MR.size, hsz, e2, f2, e3, f3, (LD.out wq hw).1, go_sem]) ?_
    refine MR.takeH (i := 2) (some 17) (.pointer (some ⟨w.heap.size + 1, 1, none⟩)) rfl rfl (by kernel_rfl) (by kernel_rfl) (by kernel_rfl) (fun _ _ _ h => h) hS (MR.free rfl) (fun wq hw => by simp [execOp, MR.ev, MR.size, hsz, e2, f2, e3, f3, go_sem]) ?_
    refine MR.takeH (i := 3) (some 18) (.int .i64 (i : Int)) rfl rfl (by kernel_rfl) (by kernel_rfl) (by kernel_rfl) (fun _ _ _ h => h) hS (MR.free rfl) (fun wq hw => by simp [execOp, MR.ev, MR.size, hsz, e2, f2, e3, f3, (LD.out wq hw).2.1, go_sem]) ?_
    refine MR.takeH (i := 4) (some 19) (.pointer (some ⟨b1, off1 + i * 3, none⟩)) rfl rfl (by kernel_rfl) (by kernel_rfl) (by kernel_rfl) (fun _ _ _ h => h) hS (MR.free rfl) (fun wq hw => by simp [execOp, MR.ev, MR.size, hsz, e2, f2, e3, f3, q0, q1, go_sem]) ?_
    refine MR.takeH (i := 5) (some 20) (.agg #[.slice sa ss.length sc, .slice ha hs.length hc, .slice ta ts.length tc]) rfl rfl (by kernel_rfl) (by kernel_rfl) (by kernel_rfl) (fun _ _ _ h => h) hS (MR.free rfl) (fun wq hw => by simp [execOp, MR.ev, MR.size, hsz, e2, f2, e3, f3, (LD.out wq hw).2.2.2.1, (LD.out wq hw).2.2.2.2.1, (LD.out wq hw).2.2.2.2.2, go_sem]) ?_
    refine MR.takeH (i := 6) (some 21) (.pointer (some ⟨w.heap.size + 1, 3, none⟩)) rfl rfl (by kernel_rfl) (by kernel_rfl) (by kernel_rfl) (fun _ _ _ h => h) hS (MR.free rfl) (fun wq hw => by simp [execOp, MR.ev, MR.size, hsz, e2, f2, e3, f3, go_sem]) ?_
    refine MR.takeH (i := 7) (some 22) (.int .i64 id) rfl rfl (by kernel_rfl) (by kernel_rfl) (by kernel_rfl) (fun _ _ _ h => h) hS (MR.free rfl) (fun wq hw => by simp [execOp, MR.ev, MR.size, hsz, e2, f2, e3, f3, (LD.out wq hw).2.2.1, go_sem]) ?_
    refine MR.callH (i := 8) (some 23) (32) (#[.agg #[.slice sa ss.length sc, .slice ha hs.length hc, .slice ta ts.length tc], .int .i64 id]) (by kernel_rfl) rfl rfl (MR.free rfl) (by simp [execOp, MR.ev, MR.size, hsz, e2, f2, e3, f3, go_sem]) ?_
    refine Calls.mono (HSN.out _ hS) ?_
    rintro e wn ⟨rfl, hbn⟩
    have hS2 : Below W0.heap.size W0 wn := hS.trans (hbn.mono hS.size)
    refine ⟨_, rfl, hS2, ?_⟩
    refine MR.callH (i := 9) (some 24) (41) (#[.bool true]) (by kernel_rfl) rfl rfl (MR.free rfl) (by simp [execOp, MR.ev, MR.size, hsz, e2, f2, e3, f3, go_sem]) ?_
    refine (need_yes _).mono ?_
    rintro e wm ⟨rfl, rfl⟩
    refine ⟨_, rfl, hS2, ?_⟩
    refine wpAnyH_done (by kernel_rfl) ?_ _
    rw [HA.out]
    simp only [Act.put, List.setIfInBounds_toArray, List.set_cons_succ, List.set_cons_zero]
    have x2 := x0.below hS2 x0.lt
    have y2 := y0.below hS2 y0.lt
    have hB3 := hB0.trans (hS2.mono hB0.size)
    clear HA hsz e2 f2 e3 f3 hS hbn HSN LD x0c hS2 hB0
    by_cases k1 : kd = 1
    · subst k1
      rw [if_pos rfl] at HB2
      have mG : ∀ (k : Nat) (W : World), (method (k + 1) 98 (.agg #[.int .i64 1, .int .i64 (i : Int), .int .i64 (m : Int), .int .i64 id]) "loop.example/g00315/impl.ends").run Try.prog W = .ok (112, .agg #[.int .i64 1, .int .i64 (i : Int), .int .i64 (m : Int), .int .i64 id]) W := fun k W => Try.mtGive _ k W
      obtain ⟨b2, off2, rfl, hlt2, u0⟩ := CG.up_at (M4.IntsAt.below hu hB3) hmu
      generalize us.getD m 0 = v at *
      have c0 := y2.cell 0 rfl
      have c1 := y2.cell 1 rfl
      have c2 := y2.cell 2 rfl
      have c3 := y2.cell 3 rfl
      have lx := x2.lt
      clear hu y2 y0 x0
      go_wp2_with fail
      refine (noteGive_any _ _ _ _).mono ?_
      rintro e w3 ⟨rfl, hb3⟩
      have u1 := (hb3.cell (p := ⟨_, _, none⟩) hlt2).trans u0
      have hlt3 := Nat.lt_of_lt_of_le hlt2 hb3.size
      have x3 := x2.below hb3 lx
      have hB4 := hB3.trans (hb3.mono hB3.size)
      clear hb3 u0 hlt2 x2 c0 c1 c2 c3
      go_wp2_with fail
      refine (giveEnds_any _ _ _ _ _).mono ?_
      rintro e w4 ⟨rfl, hb4⟩
      have u2 := (hb4.cell (p := ⟨_, _, none⟩) hlt3).trans u1
      have x4 := x3.below hb4 x3.lt
      have d0 := x4.cell 0 rfl
      have hB5 := hB4.trans (hb4.mono hB4.size)
      clear hb4 u1 hlt3 x3 x4
      by_cases hv : v = (i : Int)
      · have hF : Hid (B = true) := by show _ = _; rw [← HB2.out]; exact decide_eq_true hv
        have hvb : (v == (i : Int)) = true := by simp [hv]
        clear HB2 hv
        go_wp2_with fail
        refine (need_yes _).mono ?_
        rintro e wm ⟨rfl, rfl⟩
        go_wp2
        first | go_end0 | refine bodyPost_ret (results_none rfl _ _ _) rfl ?_
        exact ⟨by rw [hF.out]; rfl, hB5⟩
      · have hF : Hid (B = false) := by show _ = _; rw [← HB2.out]; exact decide_eq_false hv
        have hvb : (v == (i : Int)) = false := by simp [hv]
        clear HB2 hv
        go_wp2_with fail
        refine (need_no _).mono ?_
        rintro e wm ⟨rfl, rfl⟩
        go_wp2
        exact ⟨rfl, by rw [hF.out]; rfl, hB5⟩
    · by_cases k2 : kd = 2
      · subst k2
        rw [if_neg (by decide), if_pos rfl] at HB2
        have mG : ∀ (k : Nat) (W : World), (method (k + 1) 99 (.agg #[.int .i64 2, .int .i64 (i : Int), .int .i64 (m : Int), .int .i64 id]) "loop.example/g00315/impl.ends").run Try.prog W = .ok (114, .agg #[.int .i64 2, .int .i64 (i : Int), .int .i64 (m : Int), .int .i64 id]) W := fun k W => Try.mtAck _ k W
        obtain ⟨b2, off2, rfl, hlt2, u0⟩ := CG.up_at (M4.IntsAt.below hu hB3) hiu
        generalize us.getD i 0 = v at *
        have c0 := y2.cell 0 rfl
        have c1 := y2.cell 1 rfl
        have c2 := y2.cell 2 rfl
        have c3 := y2.cell 3 rfl
        have lx := x2.lt
        clear hu y2 y0 x0
        go_wp2_with fail
        refine (noteAck_any _ _ _ _).mono ?_
        rintro e w3 ⟨rfl, hb3⟩
        have u1 := (hb3.cell (p := ⟨_, _, none⟩) hlt2).trans u0
        have hlt3 := Nat.lt_of_lt_of_le hlt2 hb3.size
        have x3 := x2.below hb3 lx
        have hB4 := hB3.trans (hb3.mono hB3.size)
        clear hb3 u0 hlt2 x2 c0 c1 c2 c3
        go_wp2_with fail
        refine (ackEnds_any _ _ _ _ _).mono ?_
        rintro e w4 ⟨rfl, hb4⟩
        have u2 := (hb4.cell (p := ⟨_, _, none⟩) hlt3).trans u1
        have x4 := x3.below hb4 x3.lt
        have d0 := x4.cell 0 rfl
        have hB5 := hB4.trans (hb4.mono hB4.size)
        clear hb4 u1 hlt3 x3 x4
        by_cases hv : v = (m : Int)
        · have hF : Hid (B = true) := by show _ = _; rw [← HB2.out]; exact decide_eq_true hv
          have hvb : (v == (m : Int)) = true := by simp [hv]
          clear HB2 hv
          go_wp2_with fail
          refine (need_yes _).mono ?_
          rintro e wm ⟨rfl, rfl⟩
          go_wp2
          first | go_end0 | refine bodyPost_ret (results_none rfl _ _ _) rfl ?_
          exact ⟨by rw [hF.out]; rfl, hB5⟩
        · have hF : Hid (B = false) := by show _ = _; rw [← HB2.out]; exact decide_eq_false hv
          have hvb : (v == (m : Int)) = false := by simp [hv]
          clear HB2 hv
          go_wp2_with fail
          refine (need_no _).mono ?_
          rintro e wm ⟨rfl, rfl⟩
          go_wp2
          exact ⟨rfl, by rw [hF.out]; rfl, hB5⟩
      · rw [if_neg k1, if_neg k2] at HB2
        have hF : Hid (B = false) := by show _ = _; rw [← HB2.out]
        have c0 := y2.cell 0 rfl
        have c1 := y2.cell 1 rfl
        have c2 := y2.cell 2 rfl
        have c3 := y2.cell 3 rfl
        clear HB2 hu x2 y2 x0 y0
        go_wp2_with fail
        refine (noteNo_any kd _ _ _ k1 k2 _).mono ?_
        rintro e w3 ⟨rfl, hb3⟩
        go_wp2
        exact ⟨rfl, by rw [hF.out]; rfl, hB3.trans (hb3.mono hB3.size)⟩
end Go.Proofs.Ytfkmnmiolnijaaa
