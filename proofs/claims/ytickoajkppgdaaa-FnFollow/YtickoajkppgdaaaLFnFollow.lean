import Derived.Test.YtickoajkppgdaaaMCur
import Derived.Test.YtickoajkppgdaaaRows
import Derived.Test.YtickoajkppgdaaaMI5
import Derived.Test.YtickoajkppgdaaaCAmong
import Derived.Test.YtickoajkppgdaaaM5
import Derived.Test.YtickoajkppgdaaaMRP
import Derived.Test.YtickoajkppgdaaaMRH
import Derived.WalkKit
import Derived.WalkSpells
import Derived.WalkLawsBesides
import Derived.Outline
import Derived.Test.YtickoajkppgdaaaCBundleD
import Derived.Test.YtickoajkppgdaaaM2
import Derived.Deep.DeepCutAuto
import Derived.Test.YtickoajkppgdaaaM6R
import Derived.Test.YtickoajkppgdaaaMRA
import Derived.Deep.RegionHeld3
import Derived.Test.YtickoajkppgdaaaCPick
import Derived.Test.YtickoajkppgdaaaMFol
import Derived.Test.YtickoajkppgdaaaCFolI
import Derived.Test.YtickoajkppgdaaaCFolS
import Derived.Test.YtickoajkppgdaaaCArrI
import Derived.Test.YtickoajkppgdaaaCRouteI
import Derived.Test.YtickoajkppgdaaaCSameInts
/- A new cursor, over whatever program. -/
namespace Go.Proofs.Ytickoajkppgdaaa
open Go.RowKit
/-- A new cursor. -/
theorem cur_new {w : World} {T : TypeId} {a : Option Addr} {zs : List Int} {cap : Nat} (h : MC.BytesAt w w.heap.size a zs) : MC.Cur (w.alloc (.cells #[.slice a zs.length cap, .int .i64 0, .int .u64 0] T)) w.heap.size a zs cap 0 := by
  have hc : ∀ j, (w.alloc (.cells #[.slice a zs.length cap, .int .i64 0, .int .u64 0] T)).cell? ⟨w.heap.size, j, none⟩ = (#[.slice a zs.length cap, .int .i64 0, .int .u64 0] : Array Value)[j]? := fun j => World.cell?_alloc_at _ _ _ _ (by rfl)
  refine ⟨by simp, hc 0, ⟨0, hc 1, by omega⟩, ⟨0, hc 2, by omega⟩, World.frozen?_alloc_at _ _ _ _ (by rfl), World.frozen?_alloc_at _ _ _ _ (by rfl), ?_⟩
  exact h.only (q := w.heap.size) (MC.Only.of_below ((Below.refl _ _).alloc (Nat.le_refl _) _)) (Nat.le_refl _) (Nat.le_refl _)
theorem new_below {p : Nat} {w w' : World} {o : Obj} (hp : p = w.heap.size) (h : MC.Only p (w.alloc o) w') : Below w.heap.size w w' :=
  ((Below.refl _ _).alloc (Nat.le_refl _) o).trans (h.below (by omega) (by simp))
theorem MC.BytesAt.up {w : World} {p q : Nat} {a : Option Addr} {zs : List Int} (h : MC.BytesAt w p a zs) (hp : p ≤ q) : MC.BytesAt w q a zs := by
  refine ⟨h.1, ?_⟩
  rcases h.2 with rfl | ⟨b, off, rfl, hlt, hc⟩
  · exact .inl rfl
  · exact .inr ⟨b, off, rfl, by omega, hc⟩
end Go.Proofs.Ytickoajkppgdaaa

/- Plans, drawn (laid by tools/gen_pland.py). -/
namespace Go.Proofs.Ytickoajkppgdaaa
open Go.RowKit
theorem Try.infoContactD : (Try.prog.info? 40).map (fun i => (i.zero, i.size, i.bytes)) = some (some (.agg #[.int .i64 0, .int .i64 0, .int .i64 0, .int .i64 0, .int .i64 0]), 5, 40) := by kernel_rfl
namespace PLD
theorem own_row5 {w : World} {base e n : Nat} {v : Value} {xs : List I5} (h : w.ownsRow base e 5 v n (MI5.flat xs)) : ∃ a cap, v = .slice a n cap ∧ MI5.RowAt w a xs := by
  have hlen : xs.length = n := by have := h.1; rw [MI5.flat_len] at this; omega
  rcases h.2 with ⟨rfl, h0⟩ | ⟨g, cap, cur, rfl, _⟩
  · subst h0
    exact ⟨none, 0, rfl, ⟨.inl (List.eq_nil_of_length_eq_zero hlen)⟩⟩
  · exact ⟨_, cap, rfl, MI5.RowAt.of_own h⟩
theorem own_some {w : World} {base e sz n : Nat} {v : Value} {xs : List Value} (h : w.ownsRow base e sz v n xs) (hn : 0 < n) : ∃ g cap, v = .slice (some ⟨g, 0, none⟩) n cap := by
  rcases h.2 with ⟨-, h0⟩ | ⟨g, cap, cur, rfl, -⟩
  · omega
  · exact ⟨g, cap, rfl⟩
theorem new5 (W : World) (cs : List Value) (e : TypeId) (n : Nat) (hn : W.heap.size = n) : ∀ (j : Nat) (u : Value), cs[j]? = some u → (W.alloc (.cells cs.toArray e)).cell? ((⟨n, 0, none⟩ : Addr).add j) = some u := by
  intro j u h
  subst hn
  have hadd : (⟨W.heap.size, 0, none⟩ : Addr).add j = ⟨W.heap.size, j, none⟩ := by unfold Addr.add; split <;> simp_all
  rw [hadd, World.cell?_alloc_at _ _ _ _ (by rfl)]
  simpa using h
theorem one5 (x y z u v : Int) : ∀ t ∈ [Value.int .i64 x, .int .i64 y, .int .i64 z, .int .i64 u, .int .i64 v], t.oneCell' = true := by intro t ht; simp at ht; rcases ht with rfl | rfl | rfl | rfl | rfl <;> rfl
theorem flat_snoc (l : List I5) (x y z u v : Int) : MI5.flat l ++ [Value.int .i64 x, .int .i64 y, .int .i64 z, .int .i64 u, .int .i64 v] = MI5.flat (l ++ [⟨x, y, z, u, v⟩]) := by rw [MI5.flat_app]; rfl
theorem flat_to (l : List I5) (z : Int) (h : 0 < l.length) : ∃ ys : List I5, ys.length = l.length ∧ (MI5.flat l).set 3 (.int .i64 z) = MI5.flat ys := by
  cases l with
  | nil => simp at h
  | cons x l => exact ⟨⟨x.a0, x.a1, x.a2, z, x.a4⟩ :: l, rfl, rfl⟩
end PLD
set_option linter.unusedSimpArgs false in
set_option maxHeartbeats 6400000 in
set_option maxRecDepth 100000 in
theorem plan_any (p : Nat) (a : Option Addr) (zs : List Int) (cap M : Nat) (w : World) (hz : zs.length ≤ 140737488355328) (hM : M ≤ 140737488340000) (hc : MC.Cur w p a zs cap M) :
    Calls Try.prog 32 #[.pointer (some ⟨p, 0, none⟩)] w fun e w' => ∃ a1 c1 l, e = .returned (.slice a1 (List.length l) c1) ∧ l.length ≤ 21 ∧ w'.ownsRow w.heap.size 40 5 (.slice a1 l.length c1) l.length (MI5.flat l) ∧ MC.Cur w' p a zs cap (M + 300) ∧ MC.Only p w w' := by
  obtain ⟨i2, hi', hz0', hz1', hz2'⟩ := info_parts Try.infoContactD
  have hplt := hc.lt
  go_enter Try.func32, Try.ntmps32
  go_wp2_with fail
  refine (pick_any p a zs cap M _ _ hz (by omega) hc).mono ?_
  rintro e w1 ⟨r, rfl, hr, _, hc1, ho1⟩
  have hr6 : r < 10 := by omega
  clear hr hc
  go_wp2_with fail
  refine (one_any p a zs cap (M + 2) _ _ hz (by omega) hc1).mono ?_
  rintro e w2 ⟨b, rfl, hc2, ho2⟩
  have hoA := ho1.trans ho2
  clear ho1 ho2 hc1
  cases b with
  | false =>
    have HC0 := hc2
    have HO0 := hoA
    clear hc2 hoA
    go_wp2_with fail
    go_loopw [3, 4] (fun lv nv wr => ∃ (m : Nat) (l : List I5) (M' : Nat), nv = .int .i64 m ∧ l.length + m ≤ 21 ∧ wr.ownsRow w.heap.size 40 5 lv l.length (MI5.flat l) ∧ MC.Cur wr p a zs cap M' ∧ M' + 10 * m ≤ M + 250 ∧ MC.Only p w wr) (fun _ nv _ => (intOf nv).toNat)
    case atStart => exact ⟨r, [], M + 4, rfl, by simp; omega, World.ownsRow_nil _ _ _ _, HC0, by omega, HO0⟩
    case round =>
      clear HC0 HO0
      obtain ⟨m, l, M', rfl, hm, hown, hcr, hMr, hor⟩ := hrel
      have hows := hor.size
      by_cases hm0 : 0 < m
      · have m0 : (0 : Int) < (m : Int) := by omega
        go_wp2_with fail
        refine (pick_any p a zs cap (M') _ _ hz (by omega) hcr).mono ?_
        rintro e w3 ⟨r1, rfl, hr, _, hc, ho⟩
        replace hown := MC.own_only hown ho hplt
        replace hor := hor.trans ho
        have hb1 : r1 < 5 := by omega
        clear hcr ho hr
        have hcr := hc
        clear hc
        go_wp2_with fail
        refine (pick_any p a zs cap (M' + 2) _ _ hz (by omega) hcr).mono ?_
        rintro e w5 ⟨r2, rfl, hr, _, hc, ho⟩
        replace hown := MC.own_only hown ho hplt
        replace hor := hor.trans ho
        have hb2 : r2 < 5 := by omega
        clear hcr ho hr
        have hcr := hc
        clear hc
        go_wp2_with fail
        refine (pick_any p a zs cap (M' + 4) _ _ hz (by omega) hcr).mono ?_
        rintro e w6 ⟨r3, rfl, hr, _, hc, ho⟩
        replace hown := MC.own_only hown ho hplt
        replace hor := hor.trans ho
        have hb3 : r3 < 40 := by omega
        clear hcr ho hr
        have hcr := hc
        clear hc
        go_wp2_with fail
        refine (pick_any p a zs cap (M' + 6) _ _ hz (by omega) hcr).mono ?_
        rintro e w4 ⟨r4, rfl, hr, _, hc, ho⟩
        replace hown := MC.own_only hown ho hplt
        replace hor := hor.trans ho
        have hb4 : r4 < 6 := by omega
        clear hcr ho hr
        have hcr := hc
        clear hc
        have hs4 := hor.size
        have hbx0 := World.ownsRow_lit (base := w4.heap.size) (e := 40) (size := 5) w4 #[.int .i64 (r1 : Int), .int .i64 (r2 : Int), .int .i64 (r3 : Int), .int .i64 0, .int .i64 (r4 : Int)] 1 (Nat.le_refl _) (by unfold maxLen; omega) (by simp)
        have hownA := hown.alloc (.cells #[.int .i64 (r1 : Int), .int .i64 (r2 : Int), .int .i64 (r3 : Int), .int .i64 0, .int .i64 (r4 : Int)] 40)
        have hlA : ∀ j, u3.ownBlock = some j → j < w4.heap.size := fun j hj => (hown.lt j hj).2
        have hcA := hcr.alloc (.cells #[.int .i64 (r1 : Int), .int .i64 (r2 : Int), .int .i64 (r3 : Int), .int .i64 0, .int .i64 (r4 : Int)] 40)
        have horA := hor.alloc (.cells #[.int .i64 (r1 : Int), .int .i64 (r2 : Int), .int .i64 (r3 : Int), .int .i64 0, .int .i64 (r4 : Int)] 40)
        have hp4 := hcr.lt
        clear hown hcr hor
        go_wp2_with fail
        generalize (w4.alloc (.cells #[.int .i64 (r1 : Int), .int .i64 (r2 : Int), .int .i64 (r3 : Int), .int .i64 0, .int .i64 (r4 : Int)] 40)) = WA at *
        obtain ⟨q, hq⟩ : ∃ q, w4.heap.size = q := ⟨_, rfl⟩
        rw [hq] at hbx0 hlA hp4 hs4 ⊢
        have bD := below_drewN (Below.refl WA.heap.size WA) 1
        have hcD : MC.Cur WA.drew p a zs cap (M' + 8) := hcA.below bD
        have hbD : WA.drew.ownsRow q 40 5 (.slice (some ⟨q, 0, none⟩) 1 1) 1 _ := M5.own_below hbx0 bD
        have hownD : WA.drew.ownsRow w.heap.size 40 5 u3 l.length (MI5.flat l) := M5.own_below hownA bD
        have horD : MC.Only p w WA.drew := horA.drewN 1
        have hS0 : WA.drew.cell? ⟨q, 2, none⟩ = some (.int .i64 (r3 : Int)) := (hbD.cellAt 2 (by omega)).trans rfl
        have hw1 : IntKind.i64.wrap ((r3 : Int) + 1) = (r3 : Int) + 1 := by rw [IntKind.wrap_i64]; omega
        clear hbx0 hownA hcA horA bD hq
        refine MR.frame fun A hA => ?_
        have hsz : A.tmps.size = 61 := by rw [hA]; rfl
        have e0 : A.eval (.tmp 0) = .pointer (some ⟨p, 0, none⟩) := by rw [hA]; rfl
        have f0 := MR.read (t := 0) (by rw [hsz]; decide) e0
        have e5 : A.eval (.tmp 5) = .pointer (some ⟨q, 0, none⟩) := by rw [hA]; rfl
        have f5 := MR.read (t := 5) (by rw [hsz]; decide) e5
        have HA : Hid (A = _) := hA
        clear hA
        have hS : (fun w' => w'.cell? ⟨q, 2, none⟩ = some (.int .i64 (r3 : Int))) (World.drew _) := hS0
        refine wp_region_held (S := fun w' => w'.cell? ⟨q, 2, none⟩ = some (.int .i64 (r3 : Int))) (by kernel_rfl) ?_
        change wpAnyH _ _ _ _ _ _ _ _ (World.drew _)
        refine MR.takeH (i := 0) (some 26) (.pointer (some ⟨q, 2, none⟩)) rfl rfl (by kernel_rfl) (by kernel_rfl) (by kernel_rfl) (fun _ _ _ h => h) hS (MR.free rfl) (fun wq hw => by simp [execOp, MR.ev, MR.size, hsz, e0, f0, e5, f5, go_sem]) ?_
        refine MR.takeH (i := 1) (some 27) (.int .i64 (r3 : Int)) rfl rfl (by kernel_rfl) (by kernel_rfl) (by kernel_rfl) (fun _ _ _ h => h) hS (MR.free rfl) (fun wq hw => by simp [execOp, MR.ev, MR.size, hsz, e0, f0, e5, f5, (show wq.cell? ⟨q, 2, none⟩ = some (.int .i64 (r3 : Int)) from hw), go_sem]) ?_
        refine MR.takeH (i := 2) (some 28) (.int .i64 ((r3 : Int) + 1)) rfl rfl (by kernel_rfl) (by kernel_rfl) (by kernel_rfl) (fun _ _ _ h => h) hS (MR.free rfl) (fun wq hw => by simp [execOp, MR.ev, MR.size, hsz, e0, f0, e5, f5, hw1, go_sem]) ?_
        refine MR.takeH (i := 3) (some 29) (.pointer (some ⟨p, 0, none⟩)) rfl rfl (by kernel_rfl) (by kernel_rfl) (by kernel_rfl) (fun _ _ _ h => h) hS (MR.free rfl) (fun wq hw => by simp [execOp, MR.ev, MR.size, hsz, e0, f0, e5, f5, go_sem]) ?_
        refine MR.callH (i := 4) (some 30) (14) (#[.pointer (some ⟨p, 0, none⟩), .int .i64 30]) (by kernel_rfl) rfl rfl (MR.free rfl) (by simp [execOp, MR.ev, MR.size, hsz, e0, f0, e5, f5, go_sem]) ?_
        refine (pick_any p a zs cap (M' + 8) _ _ hz (by omega) hcD).mono ?_
        rintro e w7 ⟨r5, rfl, hr5, _, hc7, ho7⟩
        have h530 : r5 < 30 := by omega
        have hbx7 := MC.own_only hbD ho7 hp4
        have hown7 := MC.own_only hownD ho7 hplt
        have hor7 := horD.trans ho7
        have hS2 : w7.cell? ⟨q, 2, none⟩ = some (.int .i64 (r3 : Int)) := (hbx7.cellAt 2 (by omega)).trans rfl
        refine ⟨_, rfl, hS2, ?_⟩
        have hw2 : IntKind.i64.wrap ((r3 : Int) + 1 + (r5 : Int)) = (r3 : Int) + 1 + (r5 : Int) := by rw [IntKind.wrap_i64]; omega
        refine MR.takeH (i := 5) (some 31) (.int .i64 ((r3 : Int) + 1 + (r5 : Int))) rfl rfl (by kernel_rfl) (by kernel_rfl) (by kernel_rfl) (fun _ _ _ h => h) hS2 (MR.free rfl) (fun wq hw => by simp [execOp, MR.ev, MR.size, hsz, e0, f0, e5, f5, hw2, go_sem]) ?_
        refine MR.takeH (i := 6) (some 32) (.pointer (some ⟨q, 3, none⟩)) rfl rfl (by kernel_rfl) (by kernel_rfl) (by kernel_rfl) (fun _ _ _ h => h) hS2 (MR.free rfl) (fun wq hw => by simp [execOp, MR.ev, MR.size, hsz, e0, f0, e5, f5, go_sem]) ?_
        have k3 : w7.cell? ⟨q, 3, none⟩ = some (.int .i64 0) := (hbx7.cellAt 3 (by omega)).trans rfl
        have f3 := hbx7.frozenAt 3
        have kl := (hbx7.lt q rfl).2
        have st := hbx7.stored 3 (.int .i64 ((r3 : Int) + 1 + (r5 : Int)))
        have hown := hown7.kept st.2 (.inr (fun e => absurd (hlA q e) (by omega)))
        have hcx := hc7.grown st.2 (fun j hj => by simp at hj; omega)
        have hox := hor7.grown st.2 (fun j hj => by simp at hj; omega)
        have hbx := st.1
        clear st hbx7 hown7 hc7 hor7 ho7 hr5
        simp only [List.set_cons_succ, List.set_cons_zero] at hbx
        have hS3 : (w7.setCell ⟨q, 3, none⟩ (.int .i64 ((r3 : Int) + 1 + (r5 : Int)))).cell? ⟨q, 2, none⟩ = some (.int .i64 (r3 : Int)) := (hbx.cellAt 2 (by omega)).trans rfl
        refine MR.storeH (w' := w7.setCell ⟨q, 3, none⟩ (.int .i64 ((r3 : Int) + 1 + (r5 : Int)))) (i := 7) (by kernel_rfl) rfl (MR.free rfl) (by simp [execOp, MR.ev, MR.size, hsz, e0, f0, e5, f5, k3, f3, kl, go_sem]) ⟨hS3, ?_⟩
        refine wpAnyH_done (by kernel_rfl) ?_ _
        rw [HA.out]
        simp only [Act.put, List.setIfInBounds_toArray, List.set_cons_succ, List.set_cons_zero]
        clear HA hsz e0 f0 e5 f5 hS hS2 hS3 k3 f3 kl hcD hbD hownD horD hS0 hw1 hw2
        generalize (w7.setCell ⟨q, 3, none⟩ (.int .i64 ((r3 : Int) + 1 + (r5 : Int)))) = w8 at *
        by_cases h12 : r1 = r2
        · subst h12
          have k0 : w8.cell? ⟨q, 0, none⟩ = some (.int .i64 (r1 : Int)) := (hbx.cellAt 0 (by omega)).trans rfl
          have k1 : w8.cell? ⟨q, 1, none⟩ = some (.int .i64 (r1 : Int)) := (hbx.cellAt 1 (by omega)).trans rfl
          have f1 := hbx.frozenAt 1
          have kl := (hbx.lt q rfl).2
          have st := hbx.stored 1 (.int .i64 (((r1 : Int) + 1) % 5))
          replace hown := hown.kept st.2 (.inr (fun e => absurd (hlA q e) (by omega)))
          replace hcx := hcx.grown st.2 (fun j hj => by simp at hj; omega)
          replace hox := hox.grown st.2 (fun j hj => by simp at hj; omega)
          replace hbx := st.1
          clear st
          simp only [List.set_cons_succ, List.set_cons_zero] at hbx
          have n0 : (w8.setCell ⟨q, 1, none⟩ (.int .i64 (((r1 : Int) + 1) % 5))).cell? ⟨q, 0, none⟩ = some (.int .i64 ((r1 : Int))) := (hbx.cellAt 0 (by omega)).trans rfl
          have n1 : (w8.setCell ⟨q, 1, none⟩ (.int .i64 (((r1 : Int) + 1) % 5))).cell? ⟨q, 1, none⟩ = some (.int .i64 (((r1 : Int) + 1) % 5)) := (hbx.cellAt 1 (by omega)).trans rfl
          have n2 : (w8.setCell ⟨q, 1, none⟩ (.int .i64 (((r1 : Int) + 1) % 5))).cell? ⟨q, 2, none⟩ = some (.int .i64 ((r3 : Int))) := (hbx.cellAt 2 (by omega)).trans rfl
          have n3 : (w8.setCell ⟨q, 1, none⟩ (.int .i64 (((r1 : Int) + 1) % 5))).cell? ⟨q, 3, none⟩ = some (.int .i64 ((r3 : Int) + 1 + (r5 : Int))) := (hbx.cellAt 3 (by omega)).trans rfl
          have n4 : (w8.setCell ⟨q, 1, none⟩ (.int .i64 (((r1 : Int) + 1) % 5))).cell? ⟨q, 4, none⟩ = some (.int .i64 ((r4 : Int))) := (hbx.cellAt 4 (by omega)).trans rfl
          have nl := (hbx.lt q rfl).2
          have hsW := hox.size
          clear hbx
          go_wp2_with (at_builtin; refine wpList_append_own _ rfl _ _ 23 rfl w.heap.size 40 i2 (.agg #[.int .i64 0, .int .i64 0, .int .i64 0, .int .i64 0, .int .i64 0]) 5 40 Try.underlying23 hi' hz0' hz1' hz2' rfl (by decide) _ _ _ rfl (hown.alloc _) ⟨w8.heap.size, 0, none⟩ 1 1 [.int .i64 (r1 : Int), .int .i64 (((r1 : Int) + 1) % 5), .int .i64 (r3 : Int), .int .i64 ((r3 : Int) + 1 + (r5 : Int)), .int .i64 (r4 : Int)] rfl rfl ?c11 ?c12 ?c13 ?c14 ?c15 ?_)
          case c11 => exact PLD.new5 _ _ _ _ (by simp)
          case c12 => exact PLD.one5 _ _ _ _ _
          case c13 => unfold maxLen; omega
          case c14 => omega
          case c15 => simp; omega
          intro v' wn hown1 hgrow _
          have R1 : wn.ownsRow w.heap.size 40 5 v' (l ++ [(⟨(r1 : Int), ((r1 : Int) + 1) % 5, (r3 : Int), (r3 : Int) + 1 + (r5 : Int), (r4 : Int)⟩ : I5)]).length (MI5.flat (l ++ [⟨(r1 : Int), ((r1 : Int) + 1) % 5, (r3 : Int), (r3 : Int) + 1 + (r5 : Int), (r4 : Int)⟩])) := by rw [← PLD.flat_snoc, List.length_append]; exact hown1
          have R2 := (hcx.alloc _).grown hgrow (fun j hj => by have := (hown.lt j hj).1; omega)
          have R3 := (hox.alloc _).grown hgrow (fun j hj => (hown.lt j hj).1)
          have hl2 : (l ++ [(⟨(r1 : Int), ((r1 : Int) + 1) % 5, (r3 : Int), (r3 : Int) + 1 + (r5 : Int), (r4 : Int)⟩ : I5)]).length = l.length + 1 := by simp
          clear hown1 hgrow hown n0 n1 n2 n3 n4 nl hcx hox
          generalize l ++ [(⟨(r1 : Int), ((r1 : Int) + 1) % 5, (r3 : Int), (r3 : Int) + 1 + (r5 : Int), (r4 : Int)⟩ : I5)] = l2 at *
          go_wp2
          go_roundw
          case rel => exact ⟨m - 1, l2, _, by go_num, by omega, R1, R2, by omega, R3⟩
          case measure => simp [intOf]; omega
        · have h12' : ((r1 : Int) == (r2 : Int)) = false := by simp; omega
          have n0 : w8.cell? ⟨q, 0, none⟩ = some (.int .i64 ((r1 : Int))) := (hbx.cellAt 0 (by omega)).trans rfl
          have n1 : w8.cell? ⟨q, 1, none⟩ = some (.int .i64 ((r2 : Int))) := (hbx.cellAt 1 (by omega)).trans rfl
          have n2 : w8.cell? ⟨q, 2, none⟩ = some (.int .i64 ((r3 : Int))) := (hbx.cellAt 2 (by omega)).trans rfl
          have n3 : w8.cell? ⟨q, 3, none⟩ = some (.int .i64 ((r3 : Int) + 1 + (r5 : Int))) := (hbx.cellAt 3 (by omega)).trans rfl
          have n4 : w8.cell? ⟨q, 4, none⟩ = some (.int .i64 ((r4 : Int))) := (hbx.cellAt 4 (by omega)).trans rfl
          have nl := (hbx.lt q rfl).2
          have hsW := hox.size
          clear hbx
          go_wp2_with (at_builtin; refine wpList_append_own _ rfl _ _ 23 rfl w.heap.size 40 i2 (.agg #[.int .i64 0, .int .i64 0, .int .i64 0, .int .i64 0, .int .i64 0]) 5 40 Try.underlying23 hi' hz0' hz1' hz2' rfl (by decide) _ _ _ rfl (hown.alloc _) ⟨w8.heap.size, 0, none⟩ 1 1 [.int .i64 (r1 : Int), .int .i64 ((r2 : Int)), .int .i64 (r3 : Int), .int .i64 ((r3 : Int) + 1 + (r5 : Int)), .int .i64 (r4 : Int)] rfl rfl ?c21 ?c22 ?c23 ?c24 ?c25 ?_)
          case c21 => exact PLD.new5 _ _ _ _ (by simp)
          case c22 => exact PLD.one5 _ _ _ _ _
          case c23 => unfold maxLen; omega
          case c24 => omega
          case c25 => simp; omega
          intro v' wn hown1 hgrow _
          have R1 : wn.ownsRow w.heap.size 40 5 v' (l ++ [(⟨(r1 : Int), (r2 : Int), (r3 : Int), (r3 : Int) + 1 + (r5 : Int), (r4 : Int)⟩ : I5)]).length (MI5.flat (l ++ [⟨(r1 : Int), (r2 : Int), (r3 : Int), (r3 : Int) + 1 + (r5 : Int), (r4 : Int)⟩])) := by rw [← PLD.flat_snoc, List.length_append]; exact hown1
          have R2 := (hcx.alloc _).grown hgrow (fun j hj => by have := (hown.lt j hj).1; omega)
          have R3 := (hox.alloc _).grown hgrow (fun j hj => (hown.lt j hj).1)
          have hl2 : (l ++ [(⟨(r1 : Int), (r2 : Int), (r3 : Int), (r3 : Int) + 1 + (r5 : Int), (r4 : Int)⟩ : I5)]).length = l.length + 1 := by simp
          clear hown1 hgrow hown n0 n1 n2 n3 n4 nl hcx hox
          generalize l ++ [(⟨(r1 : Int), (r2 : Int), (r3 : Int), (r3 : Int) + 1 + (r5 : Int), (r4 : Int)⟩ : I5)] = l2 at *
          go_wp2
          go_roundw
          case rel => exact ⟨m - 1, l2, _, by go_num, by omega, R1, R2, by omega, R3⟩
          case measure => simp [intOf]; omega
      · obtain rfl : m = 0 := by omega
        by_cases h0 : l.length = 0
        · obtain ⟨av, lc, hv, -⟩ := PLD.own_row5 hown
          rw [hv] at hown ⊢
          rw [h0] at hown ⊢
          clear hv
          go_wp2
          go_ret
          exact ⟨av, lc, l, by rw [h0]; rfl, by omega, by rw [h0]; exact hown, hcr.more (by omega), hor⟩
        · have h0' : (0 : Int) < (l.length : Int) := by omega
          obtain ⟨g, lc, hv⟩ := PLD.own_some hown (by omega)
          rw [hv] at hown ⊢
          clear hv
          go_wp2_with fail
          refine (one_any p a zs cap M' _ _ hz (by omega) hcr).mono ?_
          rintro e w3 ⟨b, rfl, hc3, ho3⟩
          have hown3 := MC.own_only hown ho3 hplt
          have hor3 := hor.trans ho3
          have hs3 := hor3.size
          clear hown ho3 hcr hor
          cases b with
          | false =>
            go_wp2
            go_ret
            exact ⟨_, lc, l, rfl, by omega, hown3, hc3.more (by omega), hor3⟩
          | true =>
            have hgl := hown3.lt g rfl
            go_wp2_with fail
            refine (among_any p a zs cap (M' + 2) (some ⟨w3.heap.size, 0, none⟩) [0, 1000, 1001] 3 _ hz (by omega) (hc3.alloc _) (by simp) (by simp) ?_ ?_).mono ?_
            · exact .inr ⟨w3.heap.size, 0, rfl, by simp, fun j hj => by
                rw [Nat.zero_add]
                have h3 : j < 3 := hj
                rcases (show j = 0 ∨ j = 1 ∨ j = 2 by omega) with rfl | rfl | rfl <;> exact World.cell?_alloc_at _ _ _ _ (by rfl)⟩
            · intro b off hb; cases hb; have := hc3.lt; omega
            rintro e w4 ⟨z, rfl, -, hc4, ho4⟩
            have hown4 := MC.own_only (hown3.alloc (.cells #[.int .i64 0, .int .i64 1000, .int .i64 1001] 3)) ho4 hplt
            have hor4 := (hor3.alloc (.cells #[.int .i64 0, .int .i64 1000, .int .i64 1001] 3)).trans ho4
            have hs4 := ho4.size
            obtain ⟨-, -, -, -, hx4, -⟩ := (MI5.RowAt.of_own hown4).at0 (j := 0) (by omega)
            generalize (MI5.at_ l 0).a3 = z4 at hx4
            simp only [Nat.zero_mul, Nat.zero_add] at hx4
            have hf4 := hown4.frozenAt 3
            obtain ⟨ys, hyl, hys⟩ := PLD.flat_to l z (by omega)
            have R1 := (hown4.stored 3 (.int .i64 z)).1
            have R0 := (hown4.stored 3 (.int .i64 z)).2
            have R2 := hc4.grown R0 (fun j hj => by cases hj; omega)
            have R3 := hor4.grown R0 (fun j hj => by cases hj; exact hgl.1)
            rw [hys, ← hyl] at R1
            have hy21 : ys.length ≤ 21 := by omega
            have hy0 : (0 : Int) < (ys.length : Int) := by omega
            rw [← hyl]
            clear hown4 hown3 hor4 hc4 R0 hc3 hor3 ho4 hys hyl h0 h0'
            go_wp2
            go_ret
            exact ⟨_, lc, ys, rfl, hy21, R1, R2.more (by omega), R3⟩
  | true =>
    go_wp2_with fail
    refine (pick_any p a zs cap (M + 4) _ _ hz (by omega) hc2).mono ?_
    rintro e w2' ⟨r2, rfl, hr2, _, hc2', ho2'⟩
    have hr22 : r2 < 2 := by omega
    have HC0 := hc2'
    have HO0 := hoA.trans ho2'
    clear hr2 hc2 hoA ho2' hc2'
    go_wp2_with fail
    go_loopw [3, 4] (fun lv nv wr => ∃ (m : Nat) (l : List I5) (M' : Nat), nv = .int .i64 m ∧ l.length + m ≤ 21 ∧ wr.ownsRow w.heap.size 40 5 lv l.length (MI5.flat l) ∧ MC.Cur wr p a zs cap M' ∧ M' + 10 * m ≤ M + 250 ∧ MC.Only p w wr) (fun _ nv _ => (intOf nv).toNat)
    case atStart => exact ⟨20 + r2, [], M + 6, by go_num, by simp; omega, World.ownsRow_nil _ _ _ _, HC0, by omega, HO0⟩
    case round =>
      clear HC0 HO0
      obtain ⟨m, l, M', rfl, hm, hown, hcr, hMr, hor⟩ := hrel
      have hows := hor.size
      by_cases hm0 : 0 < m
      · have m0 : (0 : Int) < (m : Int) := by omega
        go_wp2_with fail
        refine (pick_any p a zs cap (M') _ _ hz (by omega) hcr).mono ?_
        rintro e w3 ⟨r1, rfl, hr, _, hc, ho⟩
        replace hown := MC.own_only hown ho hplt
        replace hor := hor.trans ho
        have hb1 : r1 < 5 := by omega
        clear hcr ho hr
        have hcr := hc
        clear hc
        go_wp2_with fail
        refine (pick_any p a zs cap (M' + 2) _ _ hz (by omega) hcr).mono ?_
        rintro e w5 ⟨r2, rfl, hr, _, hc, ho⟩
        replace hown := MC.own_only hown ho hplt
        replace hor := hor.trans ho
        have hb2 : r2 < 5 := by omega
        clear hcr ho hr
        have hcr := hc
        clear hc
        go_wp2_with fail
        refine (pick_any p a zs cap (M' + 4) _ _ hz (by omega) hcr).mono ?_
        rintro e w6 ⟨r3, rfl, hr, _, hc, ho⟩
        replace hown := MC.own_only hown ho hplt
        replace hor := hor.trans ho
        have hb3 : r3 < 40 := by omega
        clear hcr ho hr
        have hcr := hc
        clear hc
        go_wp2_with fail
        refine (pick_any p a zs cap (M' + 6) _ _ hz (by omega) hcr).mono ?_
        rintro e w4 ⟨r4, rfl, hr, _, hc, ho⟩
        replace hown := MC.own_only hown ho hplt
        replace hor := hor.trans ho
        have hb4 : r4 < 6 := by omega
        clear hcr ho hr
        have hcr := hc
        clear hc
        have hs4 := hor.size
        have hbx0 := World.ownsRow_lit (base := w4.heap.size) (e := 40) (size := 5) w4 #[.int .i64 (r1 : Int), .int .i64 (r2 : Int), .int .i64 (r3 : Int), .int .i64 0, .int .i64 (r4 : Int)] 1 (Nat.le_refl _) (by unfold maxLen; omega) (by simp)
        have hownA := hown.alloc (.cells #[.int .i64 (r1 : Int), .int .i64 (r2 : Int), .int .i64 (r3 : Int), .int .i64 0, .int .i64 (r4 : Int)] 40)
        have hlA : ∀ j, u3.ownBlock = some j → j < w4.heap.size := fun j hj => (hown.lt j hj).2
        have hcA := hcr.alloc (.cells #[.int .i64 (r1 : Int), .int .i64 (r2 : Int), .int .i64 (r3 : Int), .int .i64 0, .int .i64 (r4 : Int)] 40)
        have horA := hor.alloc (.cells #[.int .i64 (r1 : Int), .int .i64 (r2 : Int), .int .i64 (r3 : Int), .int .i64 0, .int .i64 (r4 : Int)] 40)
        have hp4 := hcr.lt
        clear hown hcr hor
        go_wp2_with fail
        generalize (w4.alloc (.cells #[.int .i64 (r1 : Int), .int .i64 (r2 : Int), .int .i64 (r3 : Int), .int .i64 0, .int .i64 (r4 : Int)] 40)) = WA at *
        obtain ⟨q, hq⟩ : ∃ q, w4.heap.size = q := ⟨_, rfl⟩
        rw [hq] at hbx0 hlA hp4 hs4 ⊢
        have bD := below_drewN (Below.refl WA.heap.size WA) 1
        have hcD : MC.Cur WA.drew p a zs cap (M' + 8) := hcA.below bD
        have hbD : WA.drew.ownsRow q 40 5 (.slice (some ⟨q, 0, none⟩) 1 1) 1 _ := M5.own_below hbx0 bD
        have hownD : WA.drew.ownsRow w.heap.size 40 5 u3 l.length (MI5.flat l) := M5.own_below hownA bD
        have horD : MC.Only p w WA.drew := horA.drewN 1
        have hS0 : WA.drew.cell? ⟨q, 2, none⟩ = some (.int .i64 (r3 : Int)) := (hbD.cellAt 2 (by omega)).trans rfl
        have hw1 : IntKind.i64.wrap ((r3 : Int) + 1) = (r3 : Int) + 1 := by rw [IntKind.wrap_i64]; omega
        clear hbx0 hownA hcA horA bD hq
        refine MR.frame fun A hA => ?_
        have hsz : A.tmps.size = 61 := by rw [hA]; rfl
        have e0 : A.eval (.tmp 0) = .pointer (some ⟨p, 0, none⟩) := by rw [hA]; rfl
        have f0 := MR.read (t := 0) (by rw [hsz]; decide) e0
        have e5 : A.eval (.tmp 5) = .pointer (some ⟨q, 0, none⟩) := by rw [hA]; rfl
        have f5 := MR.read (t := 5) (by rw [hsz]; decide) e5
        have HA : Hid (A = _) := hA
        clear hA
        have hS : (fun w' => w'.cell? ⟨q, 2, none⟩ = some (.int .i64 (r3 : Int))) (World.drew _) := hS0
        refine wp_region_held (S := fun w' => w'.cell? ⟨q, 2, none⟩ = some (.int .i64 (r3 : Int))) (by kernel_rfl) ?_
        change wpAnyH _ _ _ _ _ _ _ _ (World.drew _)
        refine MR.takeH (i := 0) (some 26) (.pointer (some ⟨q, 2, none⟩)) rfl rfl (by kernel_rfl) (by kernel_rfl) (by kernel_rfl) (fun _ _ _ h => h) hS (MR.free rfl) (fun wq hw => by simp [execOp, MR.ev, MR.size, hsz, e0, f0, e5, f5, go_sem]) ?_
        refine MR.takeH (i := 1) (some 27) (.int .i64 (r3 : Int)) rfl rfl (by kernel_rfl) (by kernel_rfl) (by kernel_rfl) (fun _ _ _ h => h) hS (MR.free rfl) (fun wq hw => by simp [execOp, MR.ev, MR.size, hsz, e0, f0, e5, f5, (show wq.cell? ⟨q, 2, none⟩ = some (.int .i64 (r3 : Int)) from hw), go_sem]) ?_
        refine MR.takeH (i := 2) (some 28) (.int .i64 ((r3 : Int) + 1)) rfl rfl (by kernel_rfl) (by kernel_rfl) (by kernel_rfl) (fun _ _ _ h => h) hS (MR.free rfl) (fun wq hw => by simp [execOp, MR.ev, MR.size, hsz, e0, f0, e5, f5, hw1, go_sem]) ?_
        refine MR.takeH (i := 3) (some 29) (.pointer (some ⟨p, 0, none⟩)) rfl rfl (by kernel_rfl) (by kernel_rfl) (by kernel_rfl) (fun _ _ _ h => h) hS (MR.free rfl) (fun wq hw => by simp [execOp, MR.ev, MR.size, hsz, e0, f0, e5, f5, go_sem]) ?_
        refine MR.callH (i := 4) (some 30) (14) (#[.pointer (some ⟨p, 0, none⟩), .int .i64 30]) (by kernel_rfl) rfl rfl (MR.free rfl) (by simp [execOp, MR.ev, MR.size, hsz, e0, f0, e5, f5, go_sem]) ?_
        refine (pick_any p a zs cap (M' + 8) _ _ hz (by omega) hcD).mono ?_
        rintro e w7 ⟨r5, rfl, hr5, _, hc7, ho7⟩
        have h530 : r5 < 30 := by omega
        have hbx7 := MC.own_only hbD ho7 hp4
        have hown7 := MC.own_only hownD ho7 hplt
        have hor7 := horD.trans ho7
        have hS2 : w7.cell? ⟨q, 2, none⟩ = some (.int .i64 (r3 : Int)) := (hbx7.cellAt 2 (by omega)).trans rfl
        refine ⟨_, rfl, hS2, ?_⟩
        have hw2 : IntKind.i64.wrap ((r3 : Int) + 1 + (r5 : Int)) = (r3 : Int) + 1 + (r5 : Int) := by rw [IntKind.wrap_i64]; omega
        refine MR.takeH (i := 5) (some 31) (.int .i64 ((r3 : Int) + 1 + (r5 : Int))) rfl rfl (by kernel_rfl) (by kernel_rfl) (by kernel_rfl) (fun _ _ _ h => h) hS2 (MR.free rfl) (fun wq hw => by simp [execOp, MR.ev, MR.size, hsz, e0, f0, e5, f5, hw2, go_sem]) ?_
        refine MR.takeH (i := 6) (some 32) (.pointer (some ⟨q, 3, none⟩)) rfl rfl (by kernel_rfl) (by kernel_rfl) (by kernel_rfl) (fun _ _ _ h => h) hS2 (MR.free rfl) (fun wq hw => by simp [execOp, MR.ev, MR.size, hsz, e0, f0, e5, f5, go_sem]) ?_
        have k3 : w7.cell? ⟨q, 3, none⟩ = some (.int .i64 0) := (hbx7.cellAt 3 (by omega)).trans rfl
        have f3 := hbx7.frozenAt 3
        have kl := (hbx7.lt q rfl).2
        have st := hbx7.stored 3 (.int .i64 ((r3 : Int) + 1 + (r5 : Int)))
        have hown := hown7.kept st.2 (.inr (fun e => absurd (hlA q e) (by omega)))
        have hcx := hc7.grown st.2 (fun j hj => by simp at hj; omega)
        have hox := hor7.grown st.2 (fun j hj => by simp at hj; omega)
        have hbx := st.1
        clear st hbx7 hown7 hc7 hor7 ho7 hr5
        simp only [List.set_cons_succ, List.set_cons_zero] at hbx
        have hS3 : (w7.setCell ⟨q, 3, none⟩ (.int .i64 ((r3 : Int) + 1 + (r5 : Int)))).cell? ⟨q, 2, none⟩ = some (.int .i64 (r3 : Int)) := (hbx.cellAt 2 (by omega)).trans rfl
        refine MR.storeH (w' := w7.setCell ⟨q, 3, none⟩ (.int .i64 ((r3 : Int) + 1 + (r5 : Int)))) (i := 7) (by kernel_rfl) rfl (MR.free rfl) (by simp [execOp, MR.ev, MR.size, hsz, e0, f0, e5, f5, k3, f3, kl, go_sem]) ⟨hS3, ?_⟩
        refine wpAnyH_done (by kernel_rfl) ?_ _
        rw [HA.out]
        simp only [Act.put, List.setIfInBounds_toArray, List.set_cons_succ, List.set_cons_zero]
        clear HA hsz e0 f0 e5 f5 hS hS2 hS3 k3 f3 kl hcD hbD hownD horD hS0 hw1 hw2
        generalize (w7.setCell ⟨q, 3, none⟩ (.int .i64 ((r3 : Int) + 1 + (r5 : Int)))) = w8 at *
        by_cases h12 : r1 = r2
        · subst h12
          have k0 : w8.cell? ⟨q, 0, none⟩ = some (.int .i64 (r1 : Int)) := (hbx.cellAt 0 (by omega)).trans rfl
          have k1 : w8.cell? ⟨q, 1, none⟩ = some (.int .i64 (r1 : Int)) := (hbx.cellAt 1 (by omega)).trans rfl
          have f1 := hbx.frozenAt 1
          have kl := (hbx.lt q rfl).2
          have st := hbx.stored 1 (.int .i64 (((r1 : Int) + 1) % 5))
          replace hown := hown.kept st.2 (.inr (fun e => absurd (hlA q e) (by omega)))
          replace hcx := hcx.grown st.2 (fun j hj => by simp at hj; omega)
          replace hox := hox.grown st.2 (fun j hj => by simp at hj; omega)
          replace hbx := st.1
          clear st
          simp only [List.set_cons_succ, List.set_cons_zero] at hbx
          have n0 : (w8.setCell ⟨q, 1, none⟩ (.int .i64 (((r1 : Int) + 1) % 5))).cell? ⟨q, 0, none⟩ = some (.int .i64 ((r1 : Int))) := (hbx.cellAt 0 (by omega)).trans rfl
          have n1 : (w8.setCell ⟨q, 1, none⟩ (.int .i64 (((r1 : Int) + 1) % 5))).cell? ⟨q, 1, none⟩ = some (.int .i64 (((r1 : Int) + 1) % 5)) := (hbx.cellAt 1 (by omega)).trans rfl
          have n2 : (w8.setCell ⟨q, 1, none⟩ (.int .i64 (((r1 : Int) + 1) % 5))).cell? ⟨q, 2, none⟩ = some (.int .i64 ((r3 : Int))) := (hbx.cellAt 2 (by omega)).trans rfl
          have n3 : (w8.setCell ⟨q, 1, none⟩ (.int .i64 (((r1 : Int) + 1) % 5))).cell? ⟨q, 3, none⟩ = some (.int .i64 ((r3 : Int) + 1 + (r5 : Int))) := (hbx.cellAt 3 (by omega)).trans rfl
          have n4 : (w8.setCell ⟨q, 1, none⟩ (.int .i64 (((r1 : Int) + 1) % 5))).cell? ⟨q, 4, none⟩ = some (.int .i64 ((r4 : Int))) := (hbx.cellAt 4 (by omega)).trans rfl
          have nl := (hbx.lt q rfl).2
          have hsW := hox.size
          clear hbx
          go_wp2_with (at_builtin; refine wpList_append_own _ rfl _ _ 23 rfl w.heap.size 40 i2 (.agg #[.int .i64 0, .int .i64 0, .int .i64 0, .int .i64 0, .int .i64 0]) 5 40 Try.underlying23 hi' hz0' hz1' hz2' rfl (by decide) _ _ _ rfl (hown.alloc _) ⟨w8.heap.size, 0, none⟩ 1 1 [.int .i64 (r1 : Int), .int .i64 (((r1 : Int) + 1) % 5), .int .i64 (r3 : Int), .int .i64 ((r3 : Int) + 1 + (r5 : Int)), .int .i64 (r4 : Int)] rfl rfl ?d11 ?d12 ?d13 ?d14 ?d15 ?_)
          case d11 => exact PLD.new5 _ _ _ _ (by simp)
          case d12 => exact PLD.one5 _ _ _ _ _
          case d13 => unfold maxLen; omega
          case d14 => omega
          case d15 => simp; omega
          intro v' wn hown1 hgrow _
          have R1 : wn.ownsRow w.heap.size 40 5 v' (l ++ [(⟨(r1 : Int), ((r1 : Int) + 1) % 5, (r3 : Int), (r3 : Int) + 1 + (r5 : Int), (r4 : Int)⟩ : I5)]).length (MI5.flat (l ++ [⟨(r1 : Int), ((r1 : Int) + 1) % 5, (r3 : Int), (r3 : Int) + 1 + (r5 : Int), (r4 : Int)⟩])) := by rw [← PLD.flat_snoc, List.length_append]; exact hown1
          have R2 := (hcx.alloc _).grown hgrow (fun j hj => by have := (hown.lt j hj).1; omega)
          have R3 := (hox.alloc _).grown hgrow (fun j hj => (hown.lt j hj).1)
          have hl2 : (l ++ [(⟨(r1 : Int), ((r1 : Int) + 1) % 5, (r3 : Int), (r3 : Int) + 1 + (r5 : Int), (r4 : Int)⟩ : I5)]).length = l.length + 1 := by simp
          clear hown1 hgrow hown n0 n1 n2 n3 n4 nl hcx hox
          generalize l ++ [(⟨(r1 : Int), ((r1 : Int) + 1) % 5, (r3 : Int), (r3 : Int) + 1 + (r5 : Int), (r4 : Int)⟩ : I5)] = l2 at *
          go_wp2
          go_roundw
          case rel => exact ⟨m - 1, l2, _, by go_num, by omega, R1, R2, by omega, R3⟩
          case measure => simp [intOf]; omega
        · have h12' : ((r1 : Int) == (r2 : Int)) = false := by simp; omega
          have n0 : w8.cell? ⟨q, 0, none⟩ = some (.int .i64 ((r1 : Int))) := (hbx.cellAt 0 (by omega)).trans rfl
          have n1 : w8.cell? ⟨q, 1, none⟩ = some (.int .i64 ((r2 : Int))) := (hbx.cellAt 1 (by omega)).trans rfl
          have n2 : w8.cell? ⟨q, 2, none⟩ = some (.int .i64 ((r3 : Int))) := (hbx.cellAt 2 (by omega)).trans rfl
          have n3 : w8.cell? ⟨q, 3, none⟩ = some (.int .i64 ((r3 : Int) + 1 + (r5 : Int))) := (hbx.cellAt 3 (by omega)).trans rfl
          have n4 : w8.cell? ⟨q, 4, none⟩ = some (.int .i64 ((r4 : Int))) := (hbx.cellAt 4 (by omega)).trans rfl
          have nl := (hbx.lt q rfl).2
          have hsW := hox.size
          clear hbx
          go_wp2_with (at_builtin; refine wpList_append_own _ rfl _ _ 23 rfl w.heap.size 40 i2 (.agg #[.int .i64 0, .int .i64 0, .int .i64 0, .int .i64 0, .int .i64 0]) 5 40 Try.underlying23 hi' hz0' hz1' hz2' rfl (by decide) _ _ _ rfl (hown.alloc _) ⟨w8.heap.size, 0, none⟩ 1 1 [.int .i64 (r1 : Int), .int .i64 ((r2 : Int)), .int .i64 (r3 : Int), .int .i64 ((r3 : Int) + 1 + (r5 : Int)), .int .i64 (r4 : Int)] rfl rfl ?d21 ?d22 ?d23 ?d24 ?d25 ?_)
          case d21 => exact PLD.new5 _ _ _ _ (by simp)
          case d22 => exact PLD.one5 _ _ _ _ _
          case d23 => unfold maxLen; omega
          case d24 => omega
          case d25 => simp; omega
          intro v' wn hown1 hgrow _
          have R1 : wn.ownsRow w.heap.size 40 5 v' (l ++ [(⟨(r1 : Int), (r2 : Int), (r3 : Int), (r3 : Int) + 1 + (r5 : Int), (r4 : Int)⟩ : I5)]).length (MI5.flat (l ++ [⟨(r1 : Int), (r2 : Int), (r3 : Int), (r3 : Int) + 1 + (r5 : Int), (r4 : Int)⟩])) := by rw [← PLD.flat_snoc, List.length_append]; exact hown1
          have R2 := (hcx.alloc _).grown hgrow (fun j hj => by have := (hown.lt j hj).1; omega)
          have R3 := (hox.alloc _).grown hgrow (fun j hj => (hown.lt j hj).1)
          have hl2 : (l ++ [(⟨(r1 : Int), (r2 : Int), (r3 : Int), (r3 : Int) + 1 + (r5 : Int), (r4 : Int)⟩ : I5)]).length = l.length + 1 := by simp
          clear hown1 hgrow hown n0 n1 n2 n3 n4 nl hcx hox
          generalize l ++ [(⟨(r1 : Int), (r2 : Int), (r3 : Int), (r3 : Int) + 1 + (r5 : Int), (r4 : Int)⟩ : I5)] = l2 at *
          go_wp2
          go_roundw
          case rel => exact ⟨m - 1, l2, _, by go_num, by omega, R1, R2, by omega, R3⟩
          case measure => simp [intOf]; omega
      · obtain rfl : m = 0 := by omega
        by_cases h0 : l.length = 0
        · obtain ⟨av, lc, hv, -⟩ := PLD.own_row5 hown
          rw [hv] at hown ⊢
          rw [h0] at hown ⊢
          clear hv
          go_wp2
          go_ret
          exact ⟨av, lc, l, by rw [h0]; rfl, by omega, by rw [h0]; exact hown, hcr.more (by omega), hor⟩
        · have h0' : (0 : Int) < (l.length : Int) := by omega
          obtain ⟨g, lc, hv⟩ := PLD.own_some hown (by omega)
          rw [hv] at hown ⊢
          clear hv
          go_wp2_with fail
          refine (one_any p a zs cap M' _ _ hz (by omega) hcr).mono ?_
          rintro e w3 ⟨b, rfl, hc3, ho3⟩
          have hown3 := MC.own_only hown ho3 hplt
          have hor3 := hor.trans ho3
          have hs3 := hor3.size
          clear hown ho3 hcr hor
          cases b with
          | false =>
            go_wp2
            go_ret
            exact ⟨_, lc, l, rfl, by omega, hown3, hc3.more (by omega), hor3⟩
          | true =>
            have hgl := hown3.lt g rfl
            go_wp2_with fail
            refine (among_any p a zs cap (M' + 2) (some ⟨w3.heap.size, 0, none⟩) [0, 1000, 1001] 3 _ hz (by omega) (hc3.alloc _) (by simp) (by simp) ?_ ?_).mono ?_
            · exact .inr ⟨w3.heap.size, 0, rfl, by simp, fun j hj => by
                rw [Nat.zero_add]
                have h3 : j < 3 := hj
                rcases (show j = 0 ∨ j = 1 ∨ j = 2 by omega) with rfl | rfl | rfl <;> exact World.cell?_alloc_at _ _ _ _ (by rfl)⟩
            · intro b off hb; cases hb; have := hc3.lt; omega
            rintro e w4 ⟨z, rfl, -, hc4, ho4⟩
            have hown4 := MC.own_only (hown3.alloc (.cells #[.int .i64 0, .int .i64 1000, .int .i64 1001] 3)) ho4 hplt
            have hor4 := (hor3.alloc (.cells #[.int .i64 0, .int .i64 1000, .int .i64 1001] 3)).trans ho4
            have hs4 := ho4.size
            obtain ⟨-, -, -, -, hx4, -⟩ := (MI5.RowAt.of_own hown4).at0 (j := 0) (by omega)
            generalize (MI5.at_ l 0).a3 = z4 at hx4
            simp only [Nat.zero_mul, Nat.zero_add] at hx4
            have hf4 := hown4.frozenAt 3
            obtain ⟨ys, hyl, hys⟩ := PLD.flat_to l z (by omega)
            have R1 := (hown4.stored 3 (.int .i64 z)).1
            have R0 := (hown4.stored 3 (.int .i64 z)).2
            have R2 := hc4.grown R0 (fun j hj => by cases hj; omega)
            have R3 := hor4.grown R0 (fun j hj => by cases hj; exact hgl.1)
            rw [hys, ← hyl] at R1
            have hy21 : ys.length ≤ 21 := by omega
            have hy0 : (0 : Int) < (ys.length : Int) := by omega
            rw [← hyl]
            clear hown4 hown3 hor4 hc4 R0 hc3 hor3 ho4 hys hyl h0 h0'
            go_wp2
            go_ret
            exact ⟨_, lc, ys, rfl, hy21, R1, R2.more (by omega), R3⟩
end Go.Proofs.Ytickoajkppgdaaa

/- The cursor's wholeBundle: some bundle that is no piece, with a Payload of at most 61 bytes. -/
namespace Go.Proofs.Ytickoajkppgdaaa
open Go.RowKit
theorem Try.infoU8W : (Try.prog.info? 5).map (fun i => (i.zero, i.size, i.bytes)) = some (some (.int .u8 0), 1, 1) := by kernel_rfl
def wholeS : List ByteArray := [⟨#[104, 101, 108, 108, 111]⟩, ⟨#[97, 32, 108, 111, 110, 103, 101, 114, 32, 116, 101, 120, 116, 32, 111, 102, 32, 115, 111, 109, 101, 32, 98, 121, 116, 101, 115]⟩, ⟨#[120]⟩, ⟨#[48, 49, 50, 51, 52, 53, 54, 55, 56, 57]⟩]
theorem whole_at (w : World) : StrsAt (w.alloc (.cells #[.string ⟨#[104, 101, 108, 108, 111]⟩, .string ⟨#[97, 32, 108, 111, 110, 103, 101, 114, 32, 116, 101, 120, 116, 32, 111, 102, 32, 115, 111, 109, 101, 32, 98, 121, 116, 101, 115]⟩, .string ⟨#[120]⟩, .string ⟨#[48, 49, 50, 51, 52, 53, 54, 55, 56, 57]⟩] 9)) w.heap.size 0 wholeS := by
  refine ⟨by simp, fun j hj => ?_⟩
  rw [Nat.zero_add, World.cell?_alloc_at _ _ _ _ (by rfl)]
  have : j < 4 := hj
  match j, this with
  | 0, _ | 1, _ | 2, _ | 3, _ => rfl
theorem whole_size (s : ByteArray) (h : s ∈ wholeS) : s.size ≤ 61 := by
  simp only [wholeS, List.mem_cons, List.not_mem_nil, or_false] at h
  rcases h with rfl | rfl | rfl | rfl <;> decide
theorem zeros_bvW (n : Nat) : (madeCells #[Value.int .u8 0] n).toList = M2.bv (List.replicate n 0) := by
  rw [toList_madeCells_one]; simp [M2.bv]
theorem zeros_sizeW (n : Nat) : (⟨(List.replicate n (0 : UInt8)).toArray⟩ : ByteArray).size = n := by show (List.replicate n (0 : UInt8)).toArray.size = n; simp
set_option linter.unusedSimpArgs false in
set_option maxHeartbeats 3200000 in
set_option maxRecDepth 100000 in
theorem wholeBundle_any (p : Nat) (a : Option Addr) (zs : List Int) (cap M : Nat) (w : World) (hz : zs.length ≤ 140737488355328) (hM : M ≤ 140737488330000) (hc : MC.Cur w p a zs cap M) :
    Calls Try.prog 29 #[.pointer (some ⟨p, 0, none⟩)] w fun e w' => ∃ b : Bd, e = .returned b.v ∧ b.py.size ≤ 61 ∧ b.of = 0 ∧ b.tl = 0 ∧ MC.Cur w' p a zs cap (M + 60) ∧ MC.Only p w w' := by
  obtain ⟨i0, hi, hz0, hz1, hz2⟩ := info_parts Try.infoU8W
  have hplt := hc.lt
  have hbr := BX.Box.new w 25 B1.zero w.heap.size rfl
  have hor := (MC.Only.refl p w).alloc (.cells (BX.cs B1.zero).toArray 25)
  replace hc := hc.alloc (.cells (BX.cs B1.zero).toArray 25)
  simp only [BX.cs, Bd.cs, B1.zero] at hbr hor hc
  go_enter Try.func29, Try.ntmps29
  go_wp2_with fail
  generalize w.alloc (.cells #[.int .i64 0, .int .i64 0, .bool false, .int .i64 0, .int .i64 0, .int .i64 0, .int .i64 0, .int .i64 0, .int .i64 0, .string ⟨#[]⟩] 25) = w0 at *
  obtain ⟨r, hr⟩ : ∃ r, w.heap.size = r := ⟨_, rfl⟩
  rw [hr] at hbr hplt ⊢
  have hrp : r ≠ p := by omega
  change BX.Box w0 r 25 B1.zero at hbr
  refine (bundle_any p a zs cap M _ hz (by omega) hc).mono ?_
  rintro e w1 ⟨b, rfl, hpb, hc1, ho1⟩
  replace hbr := hbr.only ho1 hrp
  replace hor := hor.trans ho1
  clear hc ho1 hpb
  obtain ⟨x0, x1, x2, x3, x4, x5, x6, x7, x8, x9⟩ := b
  have hbq := BX.Box.new w1 25 ⟨x0, x1, x2, x3, x4, x5, x6, x7, x8, x9⟩ w1.heap.size rfl
  have hsw := hor.size
  have hrl := hbr.lt
  have hpl := hc1.lt
  have hc := hc1.alloc (.cells #[.int .i64 x0, .int .i64 x1, .bool x2, .int .i64 x3, .int .i64 x4, .int .i64 x5, .int .i64 x6, .int .i64 x7, .int .i64 x8, .string x9] 25)
  replace hbr := hbr.alloc (.cells #[.int .i64 x0, .int .i64 x1, .bool x2, .int .i64 x3, .int .i64 x4, .int .i64 x5, .int .i64 x6, .int .i64 x7, .int .i64 x8, .string x9] 25)
  replace hor := hor.alloc (.cells #[.int .i64 x0, .int .i64 x1, .bool x2, .int .i64 x3, .int .i64 x4, .int .i64 x5, .int .i64 x6, .int .i64 x7, .int .i64 x8, .string x9] 25)
  simp only [BX.cs, Bd.cs] at hbq
  clear hc1
  go_upto_region 2 with fail
  generalize w1.alloc (.cells #[.int .i64 x0, .int .i64 x1, .bool x2, .int .i64 x3, .int .i64 x4, .int .i64 x5, .int .i64 x6, .int .i64 x7, .int .i64 x8, .string x9] 25) = w2 at *
  obtain ⟨q, hq⟩ : ∃ q, w1.heap.size = q := ⟨_, rfl⟩
  rw [hq] at hbq hrl hpl hsw ⊢
  have hqp : q ≠ p := by omega
  have hpq : p < q := by omega
  have hrq : r ≠ q := by omega
  have hqw : w.heap.size ≤ q := by omega
  clear hq
  have st : BX.Box (w2.setCell ⟨q, 7, none⟩ (.int .i64 0)) q 25 ⟨x0, x1, x2, x3, x4, x5, x6, 0, x8, x9⟩ := hbq.set rfl
  have hc' := BX.cur_set (j := 7) (v := .int .i64 0) hc hpq
  have ho' := BX.only_set (j := 7) (v := .int .i64 0) hor hqw
  have hbr' := hbr.far (g := q) (j := 7) (v := .int .i64 0) hrq
  have kj := hbq.cells 7
  have gj := hbq.free 7
  have hql := hbq.lt
  simp [Bd.cs] at kj
  go_upto_region 3 with fail
  clear kj gj hql hbq hc hor hbr
  have hbq := st
  have hc := hc'
  have hor := ho'
  have hbr := hbr'
  clear st hc' ho' hbr'
  generalize w2.setCell ⟨q, 7, none⟩ (.int .i64 0) = w3 at *
  have st : BX.Box (w3.setCell ⟨q, 8, none⟩ (.int .i64 0)) q 25 ⟨x0, x1, x2, x3, x4, x5, x6, 0, 0, x9⟩ := hbq.set rfl
  have hc' := BX.cur_set (j := 8) (v := .int .i64 0) hc hpq
  have ho' := BX.only_set (j := 8) (v := .int .i64 0) hor hqw
  have hbr' := hbr.far (g := q) (j := 8) (v := .int .i64 0) hrq
  have kj := hbq.cells 8
  have gj := hbq.free 8
  have hql := hbq.lt
  simp [Bd.cs] at kj
  go_upto_region 4 with fail
  clear kj gj hql hbq hc hor hbr
  have hbq := st
  have hc := hc'
  have hor := ho'
  have hbr := hbr'
  clear st hc' ho' hbr'
  generalize w3.setCell ⟨q, 8, none⟩ (.int .i64 0) = w4 at *
  have hs4 := hor.size
  have hq4 := hbq.lt
  have h4 := whole_at w4
  replace hc := hc.alloc (.cells #[.string ⟨#[104, 101, 108, 108, 111]⟩, .string ⟨#[97, 32, 108, 111, 110, 103, 101, 114, 32, 116, 101, 120, 116, 32, 111, 102, 32, 115, 111, 109, 101, 32, 98, 121, 116, 101, 115]⟩, .string ⟨#[120]⟩, .string ⟨#[48, 49, 50, 51, 52, 53, 54, 55, 56, 57]⟩] 9)
  replace hbr := hbr.alloc (.cells #[.string ⟨#[104, 101, 108, 108, 111]⟩, .string ⟨#[97, 32, 108, 111, 110, 103, 101, 114, 32, 116, 101, 120, 116, 32, 111, 102, 32, 115, 111, 109, 101, 32, 98, 121, 116, 101, 115]⟩, .string ⟨#[120]⟩, .string ⟨#[48, 49, 50, 51, 52, 53, 54, 55, 56, 57]⟩] 9)
  replace hbq := hbq.alloc (.cells #[.string ⟨#[104, 101, 108, 108, 111]⟩, .string ⟨#[97, 32, 108, 111, 110, 103, 101, 114, 32, 116, 101, 120, 116, 32, 111, 102, 32, 115, 111, 109, 101, 32, 98, 121, 116, 101, 115]⟩, .string ⟨#[120]⟩, .string ⟨#[48, 49, 50, 51, 52, 53, 54, 55, 56, 57]⟩] 9)
  replace hor := hor.alloc (.cells #[.string ⟨#[104, 101, 108, 108, 111]⟩, .string ⟨#[97, 32, 108, 111, 110, 103, 101, 114, 32, 116, 101, 120, 116, 32, 111, 102, 32, 115, 111, 109, 101, 32, 98, 121, 116, 101, 115]⟩, .string ⟨#[120]⟩, .string ⟨#[48, 49, 50, 51, 52, 53, 54, 55, 56, 57]⟩] 9)
  go_wp2_with fail
  refine (of_any p a zs cap (M + 40) w4.heap.size 0 wholeS 4 _ hz (by omega) hc (by decide) (by decide) h4 (by omega)).mono ?_
  rintro e w5 ⟨s, rfl, hs, hc5, ho5⟩
  replace hs := whole_size s hs
  clear h4
  replace hbr := hbr.only ho5 hrp
  replace hbq := hbq.only ho5 hqp
  replace hor := hor.trans ho5
  clear hc ho5
  have hc := hc5
  clear hc5
  have st : BX.Box (w5.setCell ⟨q, 9, none⟩ (.string s)) q 25 ⟨x0, x1, x2, x3, x4, x5, x6, 0, 0, s⟩ := hbq.set rfl
  have hc' := BX.cur_set (j := 9) (v := .string s) hc hpq
  have ho' := BX.only_set (j := 9) (v := .string s) hor hqw
  have hbr' := hbr.far (g := q) (j := 9) (v := .string s) hrq
  have kj := hbq.cells 9
  have gj := hbq.free 9
  have hql := hbq.lt
  simp [Bd.cs] at kj
  go_wp2_with fail
  clear kj gj hql hbq hc hor hbr
  have hbq := st
  have hc := hc'
  have hor := ho'
  have hbr := hbr'
  clear st hc' ho' hbr'
  generalize w5.setCell ⟨q, 9, none⟩ (.string s) = w6 at *
  refine (one_any p a zs cap (M + 42) _ _ hz (by omega) hc).mono ?_
  rintro e w7 ⟨b7, rfl, hc7, ho7⟩
  replace hbr := hbr.only ho7 hrp
  replace hbq := hbq.only ho7 hqp
  replace hor := hor.trans ho7
  clear hc ho7
  have hc := hc7
  clear hc7
  cases b7
  · have k0 := hbq.cells 0
    have k1 := hbq.cells 1
    have k2 := hbq.cells 2
    have k3 := hbq.cells 3
    have k4 := hbq.cells 4
    have k5 := hbq.cells 5
    have k6 := hbq.cells 6
    have k7 := hbq.cells 7
    have k8 := hbq.cells 8
    have k9 := hbq.cells 9
    simp [Bd.cs, B1.zero] at k0 k1 k2 k3 k4 k5 k6 k7 k8 k9
    have m0 := hbr.cells 0
    have g0 := hbr.free 0
    have m1 := hbr.cells 1
    have g1 := hbr.free 1
    have m2 := hbr.cells 2
    have g2 := hbr.free 2
    have m3 := hbr.cells 3
    have g3 := hbr.free 3
    have m4 := hbr.cells 4
    have g4 := hbr.free 4
    have m5 := hbr.cells 5
    have g5 := hbr.free 5
    have m6 := hbr.cells 6
    have g6 := hbr.free 6
    have m7 := hbr.cells 7
    have g7 := hbr.free 7
    have m8 := hbr.cells 8
    have g8 := hbr.free 8
    have m9 := hbr.cells 9
    have g9 := hbr.free 9
    simp [Bd.cs, B1.zero] at m0 m1 m2 m3 m4 m5 m6 m7 m8 m9
    have hql := hbq.lt
    have hrl2 := hbr.lt
    have hP := hbr.put ⟨x0, x1, x2, x3, x4, x5, x6, 0, 0, s⟩
    have hcE := BX.cur_set (BX.cur_set (BX.cur_set (BX.cur_set (BX.cur_set (BX.cur_set (BX.cur_set (BX.cur_set (BX.cur_set (BX.cur_set (hc) (g := r) (j := 0) (v := .int .i64 x0) hplt) (g := r) (j := 1) (v := .int .i64 x1) hplt) (g := r) (j := 2) (v := .bool x2) hplt) (g := r) (j := 3) (v := .int .i64 x3) hplt) (g := r) (j := 4) (v := .int .i64 x4) hplt) (g := r) (j := 5) (v := .int .i64 x5) hplt) (g := r) (j := 6) (v := .int .i64 x6) hplt) (g := r) (j := 7) (v := .int .i64 0) hplt) (g := r) (j := 8) (v := .int .i64 0) hplt) (g := r) (j := 9) (v := .string s) hplt
    have hoE := BX.only_set (BX.only_set (BX.only_set (BX.only_set (BX.only_set (BX.only_set (BX.only_set (BX.only_set (BX.only_set (BX.only_set (hor) (g := r) (j := 0) (v := .int .i64 x0) (Nat.le_of_eq hr)) (g := r) (j := 1) (v := .int .i64 x1) (Nat.le_of_eq hr)) (g := r) (j := 2) (v := .bool x2) (Nat.le_of_eq hr)) (g := r) (j := 3) (v := .int .i64 x3) (Nat.le_of_eq hr)) (g := r) (j := 4) (v := .int .i64 x4) (Nat.le_of_eq hr)) (g := r) (j := 5) (v := .int .i64 x5) (Nat.le_of_eq hr)) (g := r) (j := 6) (v := .int .i64 x6) (Nat.le_of_eq hr)) (g := r) (j := 7) (v := .int .i64 0) (Nat.le_of_eq hr)) (g := r) (j := 8) (v := .int .i64 0) (Nat.le_of_eq hr)) (g := r) (j := 9) (v := .string s) (Nat.le_of_eq hr)
    go_wp2
    clear k0 m0 g0 k1 m1 g1 k2 m2 g2 k3 m3 g3 k4 m4 g4 k5 m5 g5 k6 m6 g6 k7 m7 g7 k8 m8 g8 k9 m9 g9 hbq hbr hc hor
    have n0 := hP.cells 0
    have n1 := hP.cells 1
    have n2 := hP.cells 2
    have n3 := hP.cells 3
    have n4 := hP.cells 4
    have n5 := hP.cells 5
    have n6 := hP.cells 6
    have n7 := hP.cells 7
    have n8 := hP.cells 8
    have n9 := hP.cells 9
    simp [Bd.cs, B1.zero] at n0 n1 n2 n3 n4 n5 n6 n7 n8 n9
    generalize ((((((((((((((((((((w7).setCell ⟨r, 0, none⟩ (.int .i64 x0))).setCell ⟨r, 1, none⟩ (.int .i64 x1))).setCell ⟨r, 2, none⟩ (.bool x2))).setCell ⟨r, 3, none⟩ (.int .i64 x3))).setCell ⟨r, 4, none⟩ (.int .i64 x4))).setCell ⟨r, 5, none⟩ (.int .i64 x5))).setCell ⟨r, 6, none⟩ (.int .i64 x6))).setCell ⟨r, 7, none⟩ (.int .i64 0))).setCell ⟨r, 8, none⟩ (.int .i64 0))).setCell ⟨r, 9, none⟩ (.string s)) = WE at *
    exact bodyPost_ret (v := .agg #[.int .i64 x0, .int .i64 x1, .bool x2, .int .i64 x3, .int .i64 x4, .int .i64 x5, .int .i64 x6, .int .i64 0, .int .i64 0, .string s]) (by simp [results, Try.results29, go_sem, n0, n1, n2, n3, n4, n5, n6, n7, n8, n9]) rfl ⟨⟨x0, x1, x2, x3, x4, x5, x6, 0, 0, s⟩, rfl, hs, rfl, rfl, hcE.more (by omega), hoE⟩
  · go_wp2_with fail
    refine (pick_any p a zs cap (M + 44) _ _ hz (by omega) hc).mono ?_
    rintro e w8 ⟨y, rfl, hry, hxy, hc8, ho8⟩
    replace hbr := hbr.only ho8 hrp
    replace hbq := hbq.only ho8 hqp
    replace hor := hor.trans ho8
    clear hc ho8
    have hc := hc8
    clear hc8
    have hy2 : y < 2 := by omega
    go_wp2_with (at_make; refine wpList_make_full _ rfl _ _ 22 rfl w8.heap.size 5 i0 (.int .u8 0) 1 Try.underlying22 hi hz0 hz1 .i64 .i64 _ _ (60 + y) rfl rfl (by omega) (by omega) ?_ ?_ ?_ ?_)
    · rw [hz2]; omega
    · unfold maxLen; omega
    · omega
    intro w9 hown hgrow
    have hown' : w9.ownsRow w8.heap.size 5 1 (.slice (some ⟨w8.heap.size, 0, none⟩) (60 + y) (60 + y)) (60 + y) (M2.bv (List.replicate (60 + y) 0)) := by
      have := hown; simpa [zeros_bvW] using this
    have hown2 : w9.ownsRow w8.heap.size 5 1 (.slice (some ⟨w8.heap.size, 0, none⟩) (60 + y) (60 + y)) (List.replicate (60 + y) (0 : UInt8)).length (M2.bv (List.replicate (60 + y) 0)) := by
      rw [List.length_replicate]; exact hown'
    have hcv := M2.conv_own (P := Try.prog) 22 9 5 Try.underlying22 Try.underlying5 Try.underlying9 hown2
    have hzs := zeros_sizeW (60 + y)
    generalize (⟨(List.replicate (60 + y) (0 : UInt8)).toArray⟩ : ByteArray) = zz at *
    have hzz : zz.size ≤ 61 := by omega
    have hB9 : Below w8.heap.size w8 w9 := (Below.refl _ _).grown hgrow (Nat.le_refl _) (fun k hk => by cases hk)
    replace hbq := hbq.below hB9 hbq.lt
    replace hbr := hbr.below hB9 hbr.lt
    replace hc := hc.grown hgrow (fun k hk => by cases hk)
    replace hor := hor.grown hgrow (fun k hk => by cases hk)
    clear hown hown' hown2 hgrow hB9 hzs hi hz0 hz1 hz2
    have st : BX.Box (w9.setCell ⟨q, 9, none⟩ (.string zz)) q 25 ⟨x0, x1, x2, x3, x4, x5, x6, 0, 0, zz⟩ := hbq.set rfl
    have hc' := BX.cur_set (j := 9) (v := .string zz) hc hpq
    have ho' := BX.only_set (j := 9) (v := .string zz) hor hqw
    have hbr' := hbr.far (g := q) (j := 9) (v := .string zz) hrq
    have kj := hbq.cells 9
    have gj := hbq.free 9
    have hql := hbq.lt
    simp [Bd.cs] at kj
    go_upto_region 7 with fail
    clear kj gj hql hbq hc hor hbr
    have hbq := st
    have hc := hc'
    have hor := ho'
    have hbr := hbr'
    clear st hc' ho' hbr'
    clear hcv
    generalize w9.setCell ⟨q, 9, none⟩ (.string zz) = w10 at *
    have k0 := hbq.cells 0
    have k1 := hbq.cells 1
    have k2 := hbq.cells 2
    have k3 := hbq.cells 3
    have k4 := hbq.cells 4
    have k5 := hbq.cells 5
    have k6 := hbq.cells 6
    have k7 := hbq.cells 7
    have k8 := hbq.cells 8
    have k9 := hbq.cells 9
    simp [Bd.cs, B1.zero] at k0 k1 k2 k3 k4 k5 k6 k7 k8 k9
    have m0 := hbr.cells 0
    have g0 := hbr.free 0
    have m1 := hbr.cells 1
    have g1 := hbr.free 1
    have m2 := hbr.cells 2
    have g2 := hbr.free 2
    have m3 := hbr.cells 3
    have g3 := hbr.free 3
    have m4 := hbr.cells 4
    have g4 := hbr.free 4
    have m5 := hbr.cells 5
    have g5 := hbr.free 5
    have m6 := hbr.cells 6
    have g6 := hbr.free 6
    have m7 := hbr.cells 7
    have g7 := hbr.free 7
    have m8 := hbr.cells 8
    have g8 := hbr.free 8
    have m9 := hbr.cells 9
    have g9 := hbr.free 9
    simp [Bd.cs, B1.zero] at m0 m1 m2 m3 m4 m5 m6 m7 m8 m9
    have hql := hbq.lt
    have hrl2 := hbr.lt
    have hP := hbr.put ⟨x0, x1, x2, x3, x4, x5, x6, 0, 0, zz⟩
    have hcE := BX.cur_set (BX.cur_set (BX.cur_set (BX.cur_set (BX.cur_set (BX.cur_set (BX.cur_set (BX.cur_set (BX.cur_set (BX.cur_set (hc) (g := r) (j := 0) (v := .int .i64 x0) hplt) (g := r) (j := 1) (v := .int .i64 x1) hplt) (g := r) (j := 2) (v := .bool x2) hplt) (g := r) (j := 3) (v := .int .i64 x3) hplt) (g := r) (j := 4) (v := .int .i64 x4) hplt) (g := r) (j := 5) (v := .int .i64 x5) hplt) (g := r) (j := 6) (v := .int .i64 x6) hplt) (g := r) (j := 7) (v := .int .i64 0) hplt) (g := r) (j := 8) (v := .int .i64 0) hplt) (g := r) (j := 9) (v := .string zz) hplt
    have hoE := BX.only_set (BX.only_set (BX.only_set (BX.only_set (BX.only_set (BX.only_set (BX.only_set (BX.only_set (BX.only_set (BX.only_set (hor) (g := r) (j := 0) (v := .int .i64 x0) (Nat.le_of_eq hr)) (g := r) (j := 1) (v := .int .i64 x1) (Nat.le_of_eq hr)) (g := r) (j := 2) (v := .bool x2) (Nat.le_of_eq hr)) (g := r) (j := 3) (v := .int .i64 x3) (Nat.le_of_eq hr)) (g := r) (j := 4) (v := .int .i64 x4) (Nat.le_of_eq hr)) (g := r) (j := 5) (v := .int .i64 x5) (Nat.le_of_eq hr)) (g := r) (j := 6) (v := .int .i64 x6) (Nat.le_of_eq hr)) (g := r) (j := 7) (v := .int .i64 0) (Nat.le_of_eq hr)) (g := r) (j := 8) (v := .int .i64 0) (Nat.le_of_eq hr)) (g := r) (j := 9) (v := .string zz) (Nat.le_of_eq hr)
    go_wp2
    clear k0 m0 g0 k1 m1 g1 k2 m2 g2 k3 m3 g3 k4 m4 g4 k5 m5 g5 k6 m6 g6 k7 m7 g7 k8 m8 g8 k9 m9 g9 hbq hbr hc hor
    have n0 := hP.cells 0
    have n1 := hP.cells 1
    have n2 := hP.cells 2
    have n3 := hP.cells 3
    have n4 := hP.cells 4
    have n5 := hP.cells 5
    have n6 := hP.cells 6
    have n7 := hP.cells 7
    have n8 := hP.cells 8
    have n9 := hP.cells 9
    simp [Bd.cs, B1.zero] at n0 n1 n2 n3 n4 n5 n6 n7 n8 n9
    generalize ((((((((((((((((((((w10).setCell ⟨r, 0, none⟩ (.int .i64 x0))).setCell ⟨r, 1, none⟩ (.int .i64 x1))).setCell ⟨r, 2, none⟩ (.bool x2))).setCell ⟨r, 3, none⟩ (.int .i64 x3))).setCell ⟨r, 4, none⟩ (.int .i64 x4))).setCell ⟨r, 5, none⟩ (.int .i64 x5))).setCell ⟨r, 6, none⟩ (.int .i64 x6))).setCell ⟨r, 7, none⟩ (.int .i64 0))).setCell ⟨r, 8, none⟩ (.int .i64 0))).setCell ⟨r, 9, none⟩ (.string zz)) = WE at *
    exact bodyPost_ret (v := .agg #[.int .i64 x0, .int .i64 x1, .bool x2, .int .i64 x3, .int .i64 x4, .int .i64 x5, .int .i64 x6, .int .i64 0, .int .i64 0, .string zz]) (by simp [results, Try.results29, go_sem, n0, n1, n2, n3, n4, n5, n6, n7, n8, n9]) rfl ⟨⟨x0, x1, x2, x3, x4, x5, x6, 0, 0, zz⟩, rfl, hzz, rfl, rfl, hcE.more (by omega), hoE⟩
end Go.Proofs.Ytickoajkppgdaaa

/- The search from the end, and what both searches tell: plain facts. -/
namespace Go.Proofs.Ytickoajkppgdaaa
open Go.RowKit
namespace PN
open FL
/-- Who is at a node at a time can be at node t by a time. -/
inductive Rf (xs : List I5) (t : Nat) (by_ : Int) : Nat → Int → Prop
  | here {x : Int} : x ≤ by_ → Rf xs t by_ t x
  | step {k : Nat} {x z : Int} : k < xs.length → arr (MI5.at_ xs k) (.fin x) = .fin z → Rf xs t by_ (MI5.at_ xs k).a1.toNat z → Rf xs t by_ (MI5.at_ xs k).a0.toNat x
theorem arr_mono {c : I5} {x x' z : Int} (h : x' ≤ x) (ha : arr c (.fin x) = .fin z) : ∃ z', arr c (.fin x') = .fin z' ∧ z' ≤ z := by
  simp only [arr] at ha ⊢
  split at ha
  · cases ha
  · rename_i h1
    simp only [Mo.fin.injEq] at ha
    rw [if_neg (by omega)]
    exact ⟨_, rfl, by omega⟩
theorem best_none_imp {xs : List I5} {s : Nat → Mo} {m : Nat} (h : best xs s m = none) : ∀ j, j < m → ∀ t, ¬ imp xs s j t := by
  induction m with
  | zero => intro j hj; omega
  | succ m ih =>
    intro j hj t hi
    have hm0 : best xs s m = none := by
      cases hbm : best xs s m with
      | none => rfl
      | some p =>
        obtain ⟨b', u'⟩ := p
        rw [best] at h
        split at h
        · split at h
          · rw [hbm] at h; simp only at h; split at h <;> cases h
          · rw [hbm] at h; cases h
        · rw [hbm] at h; cases h
    by_cases ej : j = m
    · subst ej
      rw [best_first hi.1 hi.2 hm0] at h; cases h
    · exact ih hm0 j (by omega) t hi
theorem fin_best {xs : List I5} (hok : okP xs = true) {s : St} (hs : okS s.wh) : best xs (fin xs s).wh xs.length = none := by
  have : ∀ f (s : St), okS s.wh → mu s.wh < f → best xs (run xs f s).wh xs.length = none := by
    intro f
    induction f with
    | zero => intro s _ h; omega
    | succ f ih =>
      intro s hs hf
      simp only [run]
      cases hb : best xs s.wh xs.length with
      | none => exact hb
      | some p => obtain ⟨b, t⟩ := p; obtain ⟨h1, h2⟩ := step_ok hok hs hb; exact ih _ h1 (by omega)
  exact this _ s hs (by omega)
/-- The search from the front finds a way where there is one. -/
theorem front_all {xs : List I5} (_hok : okP xs = true) {s : Nat → Mo} (hs : okS s) (hb : best xs s xs.length = none) {t : Nat} {by_ : Int} {v : Nat} {x : Int} (h : Rf xs t by_ v x) : ∀ x', s v = .fin x' → x' ≤ x → ∃ y, s t = .fin y ∧ y ≤ by_ := by
  induction h with
  | here hx => exact fun x' h1 h2 => ⟨x', h1, by omega⟩
  | @step k x z hk ha _ ih =>
    intro x' h1 h2
    obtain ⟨z', hz, hzz⟩ := arr_mono h2 ha
    have hni := best_none_imp hb k hk z'
    have he : early z' (s (MI5.at_ xs k).a1.toNat) = false := by
      cases e : early z' (s (MI5.at_ xs k).a1.toNat) with
      | false => rfl
      | true => exact absurd ⟨by rw [h1]; exact hz, e⟩ hni
    cases hq : s (MI5.at_ xs k).a1.toNat with
    | inf => rw [hq] at he; cases he
    | ago => have := hs (MI5.at_ xs k).a1.toNat; rw [hq] at this; exact absurd this id
    | fin u =>
      rw [hq] at he
      exact ih u hq (by simp only [early, decide_eq_false_iff_not] at he; omega)
/-- What the search from the front finds is a way. -/
def Snd (xs : List I5) (t : Nat) (by_ : Int) (f : Nat) (n : Int) (s : Nat → Mo) : Prop := ∀ v y, s v = .fin y → Rf xs t by_ v y → Rf xs t by_ f n
theorem front_snd {xs : List I5} {t : Nat} {by_ : Int} {f : Nat} {n : Int} {s : St} (hs : Snd xs t by_ f n s.wh) : Snd xs t by_ f n (fin xs s).wh := by
  have : ∀ m (s : St), Snd xs t by_ f n s.wh → Snd xs t by_ f n (run xs m s).wh := by
    intro m
    induction m with
    | zero => exact fun s h => h
    | succ m ih =>
      intro s h
      simp only [run]
      cases hb : best xs s.wh xs.length with
      | none => exact h
      | some p =>
        obtain ⟨b, u⟩ := p
        obtain ⟨h1, h2, _⟩ := best_is hb
        refine ih _ ?_
        intro v y hv hr
        simp only [take1, put] at hv
        split at hv
        · rename_i e
          simp only [Mo.fin.injEq] at hv
          subst e hv
          obtain ⟨p, hp⟩ := arr_fin h2
          rw [hp] at h2
          exact h _ p hp (Rf.step h1 h2 hr)
        · exact h v y hv hr
  exact this _ s hs
theorem front_iff {xs : List I5} (hok : okP xs = true) {t : Nat} {by_ : Int} {f n : Int} (hn0 : 0 ≤ n) (hn1 : n ≤ 1000) : (∃ y, (fin xs (st0 f n)).wh t = .fin y ∧ y ≤ by_) ↔ Rf xs t by_ f.toNat n := by
  constructor
  · rintro ⟨y, h1, h2⟩
    refine front_snd (s := st0 f n) ?_ t y h1 (Rf.here h2)
    intro v y hv hr
    simp only [st0, put] at hv
    split at hv
    · rename_i e; subst e; simp only [Mo.fin.injEq] at hv; subst hv; exact hr
    · cases hv
  · intro h
    have hst := st0_ok (f := f) hn0 hn1
    have h0 : ∃ x', (fin xs (st0 f n)).wh f.toNat = .fin x' ∧ x' ≤ n := by
      -- the first node's time is never later
      have : ∀ m (s : St), okS s.wh → (∃ x', s.wh f.toNat = .fin x' ∧ x' ≤ n) → ∃ x', (run xs m s).wh f.toNat = .fin x' ∧ x' ≤ n := by
        intro m
        induction m with
        | zero => exact fun s _ h => h
        | succ m ih =>
          intro s hs h
          simp only [run]
          cases hb : best xs s.wh xs.length with
          | none => exact h
          | some p =>
            obtain ⟨b, u⟩ := p
            refine ih _ (step_ok hok hs hb).1 ?_
            obtain ⟨x', e1, e2⟩ := h
            obtain ⟨_, _, h3⟩ := best_is hb
            simp only [take1, put]
            split
            · rename_i e
              rw [← e, e1] at h3
              simp only [early, decide_eq_true_eq] at h3
              exact ⟨u, rfl, by omega⟩
            · exact ⟨x', e1, e2⟩
      exact this _ (st0 f n) hst ⟨n, by simp [st0, put], Int.le_refl _⟩
    obtain ⟨x', e1, e2⟩ := h0
    exact front_all hok (fin_okS hok hst) (fin_best hok hst) h x' e1 e2
/-- The latest time to be there for a contact. -/
def dep (c : I5) : Mo → Mo
  | .fin b => if min (b - c.a4) (c.a3 - 1) < c.a2 then .ago else .fin (min (b - c.a4) (c.a3 - 1))
  | _ => .ago
def okL : Mo → Prop
  | .fin n => 0 ≤ n ∧ n ≤ 2000
  | .ago => True
  | .inf => False
theorem dep_okL {c : I5} (hc : Good c) {m : Mo} (h : okL m) : okL (dep c m) := by
  cases m with
  | inf => exact absurd h id
  | ago => trivial
  | fin b =>
    simp only [dep]
    split
    · trivial
    · have := hc.s0; have := hc.d0; simp only [okL] at *; omega
theorem dep_iff {c : I5} (hc : Good c) {b x : Int} : (∃ z, arr c (.fin x) = .fin z ∧ z ≤ b) ↔ ∃ l, dep c (.fin b) = .fin l ∧ x ≤ l := by
  have h1 := hc.s1
  simp only [arr, dep]
  constructor
  · rintro ⟨z, ha, hz⟩
    split at ha
    · cases ha
    · simp only [Mo.fin.injEq] at ha
      rw [if_neg (by omega)]
      exact ⟨_, rfl, by omega⟩
  · rintro ⟨l, hd, hx⟩
    split at hd
    · cases hd
    · simp only [Mo.fin.injEq] at hd
      rw [if_neg (by omega)]
      exact ⟨_, rfl, by omega⟩
/-- What is noted from the end is a way. -/
def Bsnd (xs : List I5) (t : Nat) (by_ : Int) (s : Nat → Mo) : Prop := ∀ v l, s v = .fin l → ∀ x, x ≤ l → Rf xs t by_ v x
def l0 (t : Nat) (by_ : Int) : Nat → Mo := put (fun _ => .ago) t (.fin by_)
theorem bsnd0 (xs : List I5) (t : Nat) (by_ : Int) : Bsnd xs t by_ (l0 t by_) := by
  intro v l hv x hx
  simp only [l0, put] at hv
  split at hv
  · rename_i e; subst e; simp only [Mo.fin.injEq] at hv; subst hv; exact Rf.here hx
  · cases hv
theorem bsnd_step {xs : List I5} (hok : okP xs = true) {t : Nat} {by_ : Int} {s : Nat → Mo} (h : Bsnd xs t by_ s) {k : Nat} (hk : k < xs.length) {l : Int} (hd : dep (MI5.at_ xs k) (s (MI5.at_ xs k).a1.toNat) = .fin l) : Bsnd xs t by_ (put s (MI5.at_ xs k).a0.toNat (.fin l)) := by
  intro v l' hv x hx
  simp only [put] at hv
  split at hv
  · rename_i e
    simp only [Mo.fin.injEq] at hv
    subst e hv
    cases hq : s (MI5.at_ xs k).a1.toNat with
    | inf => rw [hq] at hd; simp [dep] at hd
    | ago => rw [hq] at hd; simp [dep] at hd
    | fin b =>
      rw [hq] at hd
      obtain ⟨z, hz, hzb⟩ := (dep_iff (okP_good hok hk)).2 ⟨l, hd, hx⟩
      exact Rf.step hk hz (h _ b hq z hzb)
  · exact h v l' hv x hx
/-- Nothing later is found. -/
def Shut (xs : List I5) (s : Nat → Mo) (k : Nat) : Prop := ∀ j, j < k → (dep (MI5.at_ xs j) (s (MI5.at_ xs j).a1.toNat)).cmp (s (MI5.at_ xs j).a0.toNat) ≠ .gt
theorem back_all {xs : List I5} (hok : okP xs = true) {t : Nat} {by_ : Int} {s : Nat → Mo} (hs : ∀ v, okL (s v)) (ht : ∃ l, s t = .fin l ∧ by_ ≤ l) (hsh : Shut xs s xs.length) {v : Nat} {x : Int} (h : Rf xs t by_ v x) : ∃ l, s v = .fin l ∧ x ≤ l := by
  induction h with
  | here hx => obtain ⟨l, h1, h2⟩ := ht; exact ⟨l, h1, by omega⟩
  | @step k x z hk ha _ ih =>
    obtain ⟨b, hb, hzb⟩ := ih
    obtain ⟨l, hl, hxl⟩ := (dep_iff (okP_good hok hk)).1 ⟨z, ha, hzb⟩
    have := hsh k hk
    rw [hb, hl] at this
    cases hq : s (MI5.at_ xs k).a0.toNat with
    | inf => have := hs (MI5.at_ xs k).a0.toNat; rw [hq] at this; exact absurd this id
    | ago => rw [hq] at this; exact absurd rfl this
    | fin u =>
      rw [hq] at this
      refine ⟨u, rfl, ?_⟩
      by_cases hu : u < l
      · exact absurd (cmp_gt hu) this
      · omega
/-- The latest time at which one starts. -/
def Lst (xs : List I5) (t : Nat) (by_ : Int) (f : Nat) (m : Int) : Prop := 0 ≤ m ∧ m ≤ 1000 ∧ Rf xs t by_ f m ∧ ∀ n, m < n → n ≤ 1000 → ¬ Rf xs t by_ f n
open Classical in
noncomputable def latA (xs : List I5) (t : Nat) (by_ : Int) (f : Nat) : Option Int := if h : ∃ m, Lst xs t by_ f m then some h.choose else none
theorem lst_one {xs : List I5} {t : Nat} {by_ : Int} {f : Nat} {m m' : Int} (h : Lst xs t by_ f m) (h' : Lst xs t by_ f m') : m = m' := by
  obtain ⟨_, a2, a3, a4⟩ := h
  obtain ⟨_, b2, b3, b4⟩ := h'
  by_cases e : m < m'
  · exact absurd b3 (a4 m' e b2)
  · by_cases e' : m' < m
    · exact absurd a3 (b4 m e' a2)
    · omega
theorem latA_some {xs : List I5} {t : Nat} {by_ : Int} {f : Nat} {m : Int} (h : Lst xs t by_ f m) : latA xs t by_ f = some m := by
  have hex : ∃ m, Lst xs t by_ f m := ⟨m, h⟩
  unfold latA
  rw [dif_pos hex, lst_one hex.choose_spec h]
theorem latA_none {xs : List I5} {t : Nat} {by_ : Int} {f : Nat} (h : ∀ n, 0 ≤ n → n ≤ 1000 → ¬ Rf xs t by_ f n) : latA xs t by_ f = none := by
  unfold latA
  rw [dif_neg]
  rintro ⟨m, h1, h2, h3, _⟩
  exact h m h1 h2 h3
theorem latA_back {xs : List I5} (hok : okP xs = true) {t : Nat} {by_ : Int} {s : Nat → Mo} (hs : ∀ v, okL (s v)) (ht : ∃ l, s t = .fin l ∧ by_ ≤ l) (hsh : Shut xs s xs.length) (hsnd : Bsnd xs t by_ s) (f : Nat) : latA xs t by_ f = (match s f with | .fin l => some (min l 1000) | _ => none) := by
  cases hq : s f with
  | inf => have := hs f; rw [hq] at this; exact absurd this id
  | ago =>
    refine latA_none fun n _ _ hr => ?_
    obtain ⟨l, hl, _⟩ := back_all hok hs ht hsh hr
    rw [hq] at hl; cases hl
  | fin l =>
    have hl := hs f
    rw [hq] at hl
    simp only [okL] at hl
    refine latA_some ⟨by omega, by omega, hsnd f l hq _ (by omega), fun n h1 h2 hr => ?_⟩
    obtain ⟨l', h3, h4⟩ := back_all hok hs ht hsh hr
    rw [hq] at h3
    simp only [Mo.fin.injEq] at h3
    omega
end PN
end Go.Proofs.Ytickoajkppgdaaa

/- A plan and a bundle, drawn: the cursor's planned. -/
namespace Go.Proofs.Ytickoajkppgdaaa
open Go.RowKit
theorem PLD.own_lo {w : World} {B B' e sz n : Nat} {v : Value} {xs : List Value} (h : w.ownsRow B e sz v n xs) (hb : B' ≤ B) : w.ownsRow B' e sz v n xs := by
  refine ⟨h.1, ?_⟩
  rcases h.2 with h' | ⟨g', cap, cur, hv, hB, rest⟩
  · exact .inl h'
  · exact .inr ⟨g', cap, cur, hv, by omega, rest⟩
set_option linter.unusedSimpArgs false in
set_option maxHeartbeats 6400000 in
set_option maxRecDepth 100000 in
theorem planned_any (p : Nat) (a : Option Addr) (zs : List Int) (cap M : Nat) (w : World) (hz : zs.length ≤ 140737488355328) (hM : M ≤ 140737488320000) (hc : MC.Cur w p a zs cap M) :
    Calls Try.prog 13 #[.pointer (some ⟨p, 0, none⟩)] w fun e w' => ∃ a1 c1 xs b, e = .returned (.tuple #[.slice a1 (List.length xs) c1, Bd.v b]) ∧ xs.length ≤ 21 ∧ b.py.size ≤ 61 ∧ w'.ownsRow w.heap.size 40 5 (.slice a1 xs.length c1) xs.length (MI5.flat xs) ∧ MC.Cur w' p a zs cap (M + 420) ∧ MC.Only p w w' := by
  have hplt := hc.lt
  have hbr := BX.Box.new w 25 B1.zero w.heap.size rfl
  have hor := (MC.Only.refl p w).alloc (.cells (BX.cs B1.zero).toArray 25)
  replace hc := hc.alloc (.cells (BX.cs B1.zero).toArray 25)
  simp only [BX.cs, Bd.cs, B1.zero] at hbr hor hc
  go_enter Try.func13, Try.ntmps13
  go_wp2_with fail
  generalize w.alloc (.cells #[.int .i64 0, .int .i64 0, .bool false, .int .i64 0, .int .i64 0, .int .i64 0, .int .i64 0, .int .i64 0, .int .i64 0, .string ⟨#[]⟩] 25) = w0 at *
  obtain ⟨r, hr⟩ : ∃ r, w.heap.size = r := ⟨_, rfl⟩
  rw [hr] at hbr hplt ⊢
  have hrp : r ≠ p := by omega
  change BX.Box w0 r 25 B1.zero at hbr
  refine (wholeBundle_any p a zs cap M _ hz (by omega) hc).mono ?_
  rintro e w1 ⟨b, rfl, hpb, -, -, hc1, ho1⟩
  replace hbr := hbr.only ho1 hrp
  replace hor := hor.trans ho1
  clear hc ho1
  obtain ⟨x0, x1, x2, x3, x4, x5, x6, x7, x8, x9⟩ := b
  have hbq := BX.Box.new w1 25 ⟨x0, x1, x2, x3, x4, x5, x6, x7, x8, x9⟩ w1.heap.size rfl
  have hsw := hor.size
  have hrl := hbr.lt
  have hpl := hc1.lt
  have hc := hc1.alloc (.cells #[.int .i64 x0, .int .i64 x1, .bool x2, .int .i64 x3, .int .i64 x4, .int .i64 x5, .int .i64 x6, .int .i64 x7, .int .i64 x8, .string x9] 25)
  replace hbr := hbr.alloc (.cells #[.int .i64 x0, .int .i64 x1, .bool x2, .int .i64 x3, .int .i64 x4, .int .i64 x5, .int .i64 x6, .int .i64 x7, .int .i64 x8, .string x9] 25)
  replace hor := hor.alloc (.cells #[.int .i64 x0, .int .i64 x1, .bool x2, .int .i64 x3, .int .i64 x4, .int .i64 x5, .int .i64 x6, .int .i64 x7, .int .i64 x8, .string x9] 25)
  simp only [BX.cs, Bd.cs] at hbq
  clear hc1
  go_upto_region 2 with fail
  generalize w1.alloc (.cells #[.int .i64 x0, .int .i64 x1, .bool x2, .int .i64 x3, .int .i64 x4, .int .i64 x5, .int .i64 x6, .int .i64 x7, .int .i64 x8, .string x9] 25) = w2 at *
  obtain ⟨q, hq⟩ : ∃ q, w1.heap.size = q := ⟨_, rfl⟩
  rw [hq] at hbq hrl hpl hsw ⊢
  have hqp : q ≠ p := by omega
  have hpq : p < q := by omega
  have hrq : r ≠ q := by omega
  have hqr : q ≠ r := by omega
  have hqw : w.heap.size ≤ q := by omega
  clear hq
  go_wp2_with fail
  refine (pick_any p a zs cap (M + 60) _ _ hz (by omega) hc).mono ?_
  rintro e w3 ⟨r3, rfl, -, -, hc3, ho3⟩
  replace hbr := hbr.only ho3 hrp
  replace hbq := hbq.only ho3 hqp
  replace hor := hor.trans ho3
  clear hc ho3
  have hc := hc3
  clear hc3
  have st : BX.Box (w3.setCell ⟨q, 3, none⟩ (.int .i64 (r3 : Int))) q 25 ⟨x0, x1, x2, (r3 : Int), x4, x5, x6, x7, x8, x9⟩ := hbq.set rfl
  have hc' := BX.cur_set (j := 3) (v := .int .i64 (r3 : Int)) hc hpq
  have ho' := BX.only_set (j := 3) (v := .int .i64 (r3 : Int)) hor hqw
  have hbr' := hbr.far (g := q) (j := 3) (v := .int .i64 (r3 : Int)) hrq
  have kj := hbq.cells 3
  have gj := hbq.free 3
  have hql := hbq.lt
  simp [Bd.cs] at kj
  go_upto_region 3 with fail
  clear kj gj hql hbq hc hor hbr
  have hbq := st
  have hc := hc'
  have hor := ho'
  have hbr := hbr'
  clear st hc' ho' hbr'
  generalize w3.setCell ⟨q, 3, none⟩ (.int .i64 (r3 : Int)) = w4 at *
  go_wp2_with fail
  refine (pick_any p a zs cap (M + 62) _ _ hz (by omega) hc).mono ?_
  rintro e w5 ⟨r6, rfl, -, -, hc5, ho5⟩
  replace hbr := hbr.only ho5 hrp
  replace hbq := hbq.only ho5 hqp
  replace hor := hor.trans ho5
  clear hc ho5
  have hc := hc5
  clear hc5
  have st : BX.Box (w5.setCell ⟨q, 6, none⟩ (.int .i64 (r6 : Int))) q 25 ⟨x0, x1, x2, (r3 : Int), x4, x5, (r6 : Int), x7, x8, x9⟩ := hbq.set rfl
  have hc' := BX.cur_set (j := 6) (v := .int .i64 (r6 : Int)) hc hpq
  have ho' := BX.only_set (j := 6) (v := .int .i64 (r6 : Int)) hor hqw
  have hbr' := hbr.far (g := q) (j := 6) (v := .int .i64 (r6 : Int)) hrq
  have kj := hbq.cells 6
  have gj := hbq.free 6
  have hql := hbq.lt
  simp [Bd.cs] at kj
  go_upto_region 4 with fail
  clear kj gj hql hbq hc hor hbr
  have hbq := st
  have hc := hc'
  have hor := ho'
  have hbr := hbr'
  clear st hc' ho' hbr'
  generalize w5.setCell ⟨q, 6, none⟩ (.int .i64 (r6 : Int)) = w6 at *
  go_wp2_with fail
  refine (one_any p a zs cap (M + 64) _ _ hz (by omega) hc).mono ?_
  rintro e w7 ⟨b7, rfl, hc7, ho7⟩
  replace hbr := hbr.only ho7 hrp
  replace hbq := hbq.only ho7 hqp
  replace hor := hor.trans ho7
  clear hc ho7
  cases b7 with
  | false =>
    have hc := hc7
    have HC : Hid _ := hc.below (Below.refl _ w7).drew
    have HQ : Hid (BX.Box _ _ _ _) := hbq.below (Below.refl _ w7).drew hbq.lt
    have HR : Hid (BX.Box _ _ _ _) := hbr.below (Below.refl _ w7).drew hbr.lt
    have HOR : Hid (MC.Only p w (World.drew w7)) := hor.trans (MC.Only.of_below (Below.refl _ _).drew)
    have k0 := hbq.cells 0
    have k1 := hbq.cells 1
    have k2 := hbq.cells 2
    have k3 := hbq.cells 3
    have k4 := hbq.cells 4
    have k5 := hbq.cells 5
    have k6 := hbq.cells 6
    have k7 := hbq.cells 7
    have k8 := hbq.cells 8
    have k9 := hbq.cells 9
    simp [Bd.cs] at k0 k1 k2 k3 k4 k5 k6 k7 k8 k9
    clear hbq hbr hor hc
    go_wp2
    go_region_held3 (fun w' => w'.cell? ⟨q, 0, none⟩ = some (.int .i64 x0) ∧ w'.cell? ⟨q, 1, none⟩ = some (.int .i64 x1) ∧ w'.cell? ⟨q, 2, none⟩ = some (.bool x2) ∧ w'.cell? ⟨q, 3, none⟩ = some (.int .i64 (r3 : Int)) ∧ w'.cell? ⟨q, 4, none⟩ = some (.int .i64 x4) ∧ w'.cell? ⟨q, 5, none⟩ = some (.int .i64 x5) ∧ w'.cell? ⟨q, 6, none⟩ = some (.int .i64 (r6 : Int)) ∧ w'.cell? ⟨q, 7, none⟩ = some (.int .i64 x7) ∧ w'.cell? ⟨q, 8, none⟩ = some (.int .i64 x8) ∧ w'.cell? ⟨q, 9, none⟩ = some (.string x9)) (first | go_keep | assumption) (first | (go_at_call 32; refine Calls.mono (plan_any p a zs cap (M + 66) _ hz (by omega) HC.out) ?_; rintro e W2 ⟨a1, c1, l, rfl, hl, how, hc3, ho3⟩; have hQ3 := HQ.out.only ho3 hqp; have hR3 := HR.out.only ho3 hrp; have HO3 : Hid (MC.Only p w W2) := HOR.out.trans ho3; have k0 := hQ3.cells 0; have k1 := hQ3.cells 1; have k2 := hQ3.cells 2; have k3 := hQ3.cells 3; have k4 := hQ3.cells 4; have k5 := hQ3.cells 5; have k6 := hQ3.cells 6; have k7 := hQ3.cells 7; have k8 := hQ3.cells 8; have k9 := hQ3.cells 9; simp [Bd.cs] at k0 k1 k2 k3 k4 k5 k6 k7 k8 k9; have m0 := hR3.cells 0; have g0 := hR3.free 0; have m1 := hR3.cells 1; have g1 := hR3.free 1; have m2 := hR3.cells 2; have g2 := hR3.free 2; have m3 := hR3.cells 3; have g3 := hR3.free 3; have m4 := hR3.cells 4; have g4 := hR3.free 4; have m5 := hR3.cells 5; have g5 := hR3.free 5; have m6 := hR3.cells 6; have g6 := hR3.free 6; have m7 := hR3.cells 7; have g7 := hR3.free 7; have m8 := hR3.cells 8; have g8 := hR3.free 8; have m9 := hR3.cells 9; have g9 := hR3.free 9; simp [Bd.cs, B1.zero] at m0 m1 m2 m3 m4 m5 m6 m7 m8 m9; have hql3 := hQ3.lt; have hrl3 := hR3.lt; have HR3 : Hid (BX.Box W2 r 25 B1.zero) := hR3; have HC3 : Hid _ := hc3; have HOW : Hid _ := how; clear hQ3 hR3 hc3 ho3 how))
    have hP := HR3.out.put ⟨x0, x1, x2, (r3 : Int), x4, x5, (r6 : Int), x7, x8, x9⟩
    have n0 := hP.cells 0
    have n1 := hP.cells 1
    have n2 := hP.cells 2
    have n3 := hP.cells 3
    have n4 := hP.cells 4
    have n5 := hP.cells 5
    have n6 := hP.cells 6
    have n7 := hP.cells 7
    have n8 := hP.cells 8
    have n9 := hP.cells 9
    simp [Bd.cs] at n0 n1 n2 n3 n4 n5 n6 n7 n8 n9
    have hcE := BX.cur_set (BX.cur_set (BX.cur_set (BX.cur_set (BX.cur_set (BX.cur_set (BX.cur_set (BX.cur_set (BX.cur_set (BX.cur_set (HC3.out) (g := r) (j := 0) (v := .int .i64 x0) hplt) (g := r) (j := 1) (v := .int .i64 x1) hplt) (g := r) (j := 2) (v := .bool x2) hplt) (g := r) (j := 3) (v := .int .i64 (r3 : Int)) hplt) (g := r) (j := 4) (v := .int .i64 x4) hplt) (g := r) (j := 5) (v := .int .i64 x5) hplt) (g := r) (j := 6) (v := .int .i64 (r6 : Int)) hplt) (g := r) (j := 7) (v := .int .i64 x7) hplt) (g := r) (j := 8) (v := .int .i64 x8) hplt) (g := r) (j := 9) (v := .string x9) hplt
    have hoE := BX.only_set (BX.only_set (BX.only_set (BX.only_set (BX.only_set (BX.only_set (BX.only_set (BX.only_set (BX.only_set (BX.only_set (HO3.out) (g := r) (j := 0) (v := .int .i64 x0) (Nat.le_of_eq hr)) (g := r) (j := 1) (v := .int .i64 x1) (Nat.le_of_eq hr)) (g := r) (j := 2) (v := .bool x2) (Nat.le_of_eq hr)) (g := r) (j := 3) (v := .int .i64 (r3 : Int)) (Nat.le_of_eq hr)) (g := r) (j := 4) (v := .int .i64 x4) (Nat.le_of_eq hr)) (g := r) (j := 5) (v := .int .i64 x5) (Nat.le_of_eq hr)) (g := r) (j := 6) (v := .int .i64 (r6 : Int)) (Nat.le_of_eq hr)) (g := r) (j := 7) (v := .int .i64 x7) (Nat.le_of_eq hr)) (g := r) (j := 8) (v := .int .i64 x8) (Nat.le_of_eq hr)) (g := r) (j := 9) (v := .string x9) (Nat.le_of_eq hr)
    have hrD := HR.out.lt
    have hrow := RA.own_only HOW.out (((((((((((MC.Only.refl r W2).setCell 0 (.int .i64 x0)).setCell 1 (.int .i64 x1)).setCell 2 (.bool x2)).setCell 3 (.int .i64 (r3 : Int))).setCell 4 (.int .i64 x4)).setCell 5 (.int .i64 x5)).setCell 6 (.int .i64 (r6 : Int))).setCell 7 (.int .i64 x7)).setCell 8 (.int .i64 x8)).setCell 9 (.string x9)) (fun e => by have := (World.ownsRow.lt HOW.out _ e).1; omega)
    generalize ((((((((((((((((((((W2).setCell ⟨r, 0, none⟩ (.int .i64 x0))).setCell ⟨r, 1, none⟩ (.int .i64 x1))).setCell ⟨r, 2, none⟩ (.bool x2))).setCell ⟨r, 3, none⟩ (.int .i64 (r3 : Int)))).setCell ⟨r, 4, none⟩ (.int .i64 x4))).setCell ⟨r, 5, none⟩ (.int .i64 x5))).setCell ⟨r, 6, none⟩ (.int .i64 (r6 : Int)))).setCell ⟨r, 7, none⟩ (.int .i64 x7))).setCell ⟨r, 8, none⟩ (.int .i64 x8))).setCell ⟨r, 9, none⟩ (.string x9)) = WE at *
    have hRA := PLD.own_lo hrow (show w.heap.size ≤ _ by omega)
    go_wp2
    exact bodyPost_ret (v := .tuple #[.slice a1 (List.length l) c1, .agg #[.int .i64 x0, .int .i64 x1, .bool x2, .int .i64 (r3 : Int), .int .i64 x4, .int .i64 x5, .int .i64 (r6 : Int), .int .i64 x7, .int .i64 x8, .string x9]]) (by simp [results, Try.results13, go_sem, n0, n1, n2, n3, n4, n5, n6, n7, n8, n9]) rfl ⟨a1, c1, l, ⟨x0, x1, x2, (r3 : Int), x4, x5, (r6 : Int), x7, x8, x9⟩, rfl, hl, hpb, hRA, hcE.more (by omega), hoE⟩
  | true =>
    go_wp2_with fail
    refine (bundle_any p a zs cap (M + 66) _ hz (by omega) hc7).mono ?_
    rintro e w8 ⟨b8, rfl, hpb8, hc8, ho8⟩
    replace hbr := hbr.only ho8 hrp
    replace hbq := hbq.only ho8 hqp
    replace hor := hor.trans ho8
    clear hc7 ho8
    obtain ⟨y0, y1, y2, y3, y4, y5, y6, y7, y8, y9⟩ := b8
    have hpb9 : y9.size ≤ 61 := by have : y9.size ≤ 60 := hpb8; omega
    have k0 := hbq.cells 0
    have g0 := hbq.free 0
    have k1 := hbq.cells 1
    have g1 := hbq.free 1
    have k2 := hbq.cells 2
    have g2 := hbq.free 2
    have k3 := hbq.cells 3
    have g3 := hbq.free 3
    have k4 := hbq.cells 4
    have g4 := hbq.free 4
    have k5 := hbq.cells 5
    have g5 := hbq.free 5
    have k6 := hbq.cells 6
    have g6 := hbq.free 6
    have k7 := hbq.cells 7
    have g7 := hbq.free 7
    have k8 := hbq.cells 8
    have g8 := hbq.free 8
    have k9 := hbq.cells 9
    have g9 := hbq.free 9
    simp [Bd.cs] at k0 k1 k2 k3 k4 k5 k6 k7 k8 k9
    have hql := hbq.lt
    have hQ8 := hbq.put ⟨y0, y1, y2, y3, y4, y5, y6, y7, y8, y9⟩
    have hcQ := BX.cur_set (BX.cur_set (BX.cur_set (BX.cur_set (BX.cur_set (BX.cur_set (BX.cur_set (BX.cur_set (BX.cur_set (BX.cur_set (hc8) (g := q) (j := 0) (v := .int .i64 y0) hpq) (g := q) (j := 1) (v := .int .i64 y1) hpq) (g := q) (j := 2) (v := .bool y2) hpq) (g := q) (j := 3) (v := .int .i64 y3) hpq) (g := q) (j := 4) (v := .int .i64 y4) hpq) (g := q) (j := 5) (v := .int .i64 y5) hpq) (g := q) (j := 6) (v := .int .i64 y6) hpq) (g := q) (j := 7) (v := .int .i64 y7) hpq) (g := q) (j := 8) (v := .int .i64 y8) hpq) (g := q) (j := 9) (v := .string y9) hpq
    have hoQ := BX.only_set (BX.only_set (BX.only_set (BX.only_set (BX.only_set (BX.only_set (BX.only_set (BX.only_set (BX.only_set (BX.only_set (hor) (g := q) (j := 0) (v := .int .i64 y0) hqw) (g := q) (j := 1) (v := .int .i64 y1) hqw) (g := q) (j := 2) (v := .bool y2) hqw) (g := q) (j := 3) (v := .int .i64 y3) hqw) (g := q) (j := 4) (v := .int .i64 y4) hqw) (g := q) (j := 5) (v := .int .i64 y5) hqw) (g := q) (j := 6) (v := .int .i64 y6) hqw) (g := q) (j := 7) (v := .int .i64 y7) hqw) (g := q) (j := 8) (v := .int .i64 y8) hqw) (g := q) (j := 9) (v := .string y9) hqw
    have hrQ := ((((((((((hbr.far (g := q) (j := 0) (v := .int .i64 y0) hrq).far (g := q) (j := 1) (v := .int .i64 y1) hrq).far (g := q) (j := 2) (v := .bool y2) hrq).far (g := q) (j := 3) (v := .int .i64 y3) hrq).far (g := q) (j := 4) (v := .int .i64 y4) hrq).far (g := q) (j := 5) (v := .int .i64 y5) hrq).far (g := q) (j := 6) (v := .int .i64 y6) hrq).far (g := q) (j := 7) (v := .int .i64 y7) hrq).far (g := q) (j := 8) (v := .int .i64 y8) hrq).far (g := q) (j := 9) (v := .string y9) hrq)
    go_upto_region 6 with fail
    clear k0 g0 k1 g1 k2 g2 k3 g3 k4 g4 k5 g5 k6 g6 k7 g7 k8 g8 k9 g9 hql hbq hor hbr hc8
    generalize ((((((((((((((((((((w8).setCell ⟨q, 0, none⟩ (.int .i64 y0))).setCell ⟨q, 1, none⟩ (.int .i64 y1))).setCell ⟨q, 2, none⟩ (.bool y2))).setCell ⟨q, 3, none⟩ (.int .i64 y3))).setCell ⟨q, 4, none⟩ (.int .i64 y4))).setCell ⟨q, 5, none⟩ (.int .i64 y5))).setCell ⟨q, 6, none⟩ (.int .i64 y6))).setCell ⟨q, 7, none⟩ (.int .i64 y7))).setCell ⟨q, 8, none⟩ (.int .i64 y8))).setCell ⟨q, 9, none⟩ (.string y9)) = w9 at *
    have hbq := hQ8
    have hc := hcQ
    have hor := hoQ
    have hbr := hrQ
    clear hQ8 hcQ hoQ hrQ
    have HC : Hid _ := hc.below (Below.refl _ w9).drew
    have HQ : Hid (BX.Box _ _ _ _) := hbq.below (Below.refl _ w9).drew hbq.lt
    have HR : Hid (BX.Box _ _ _ _) := hbr.below (Below.refl _ w9).drew hbr.lt
    have HOR : Hid (MC.Only p w (World.drew w9)) := hor.trans (MC.Only.of_below (Below.refl _ _).drew)
    have k0 := hbq.cells 0
    have k1 := hbq.cells 1
    have k2 := hbq.cells 2
    have k3 := hbq.cells 3
    have k4 := hbq.cells 4
    have k5 := hbq.cells 5
    have k6 := hbq.cells 6
    have k7 := hbq.cells 7
    have k8 := hbq.cells 8
    have k9 := hbq.cells 9
    simp [Bd.cs] at k0 k1 k2 k3 k4 k5 k6 k7 k8 k9
    clear hbq hbr hor hc
    go_wp2
    go_region_held3 (fun w' => w'.cell? ⟨q, 0, none⟩ = some (.int .i64 y0) ∧ w'.cell? ⟨q, 1, none⟩ = some (.int .i64 y1) ∧ w'.cell? ⟨q, 2, none⟩ = some (.bool y2) ∧ w'.cell? ⟨q, 3, none⟩ = some (.int .i64 y3) ∧ w'.cell? ⟨q, 4, none⟩ = some (.int .i64 y4) ∧ w'.cell? ⟨q, 5, none⟩ = some (.int .i64 y5) ∧ w'.cell? ⟨q, 6, none⟩ = some (.int .i64 y6) ∧ w'.cell? ⟨q, 7, none⟩ = some (.int .i64 y7) ∧ w'.cell? ⟨q, 8, none⟩ = some (.int .i64 y8) ∧ w'.cell? ⟨q, 9, none⟩ = some (.string y9)) (first | go_keep | assumption) (first | (go_at_call 32; refine Calls.mono (plan_any p a zs cap (M + 106) _ hz (by omega) HC.out) ?_; rintro e W2 ⟨a1, c1, l, rfl, hl, how, hc3, ho3⟩; have hQ3 := HQ.out.only ho3 hqp; have hR3 := HR.out.only ho3 hrp; have HO3 : Hid (MC.Only p w W2) := HOR.out.trans ho3; have k0 := hQ3.cells 0; have k1 := hQ3.cells 1; have k2 := hQ3.cells 2; have k3 := hQ3.cells 3; have k4 := hQ3.cells 4; have k5 := hQ3.cells 5; have k6 := hQ3.cells 6; have k7 := hQ3.cells 7; have k8 := hQ3.cells 8; have k9 := hQ3.cells 9; simp [Bd.cs] at k0 k1 k2 k3 k4 k5 k6 k7 k8 k9; have m0 := hR3.cells 0; have g0 := hR3.free 0; have m1 := hR3.cells 1; have g1 := hR3.free 1; have m2 := hR3.cells 2; have g2 := hR3.free 2; have m3 := hR3.cells 3; have g3 := hR3.free 3; have m4 := hR3.cells 4; have g4 := hR3.free 4; have m5 := hR3.cells 5; have g5 := hR3.free 5; have m6 := hR3.cells 6; have g6 := hR3.free 6; have m7 := hR3.cells 7; have g7 := hR3.free 7; have m8 := hR3.cells 8; have g8 := hR3.free 8; have m9 := hR3.cells 9; have g9 := hR3.free 9; simp [Bd.cs, B1.zero] at m0 m1 m2 m3 m4 m5 m6 m7 m8 m9; have hql3 := hQ3.lt; have hrl3 := hR3.lt; have HR3 : Hid (BX.Box W2 r 25 B1.zero) := hR3; have HC3 : Hid _ := hc3; have HOW : Hid _ := how; clear hQ3 hR3 hc3 ho3 how))
    have hP := HR3.out.put ⟨y0, y1, y2, y3, y4, y5, y6, y7, y8, y9⟩
    have n0 := hP.cells 0
    have n1 := hP.cells 1
    have n2 := hP.cells 2
    have n3 := hP.cells 3
    have n4 := hP.cells 4
    have n5 := hP.cells 5
    have n6 := hP.cells 6
    have n7 := hP.cells 7
    have n8 := hP.cells 8
    have n9 := hP.cells 9
    simp [Bd.cs] at n0 n1 n2 n3 n4 n5 n6 n7 n8 n9
    have hcE := BX.cur_set (BX.cur_set (BX.cur_set (BX.cur_set (BX.cur_set (BX.cur_set (BX.cur_set (BX.cur_set (BX.cur_set (BX.cur_set (HC3.out) (g := r) (j := 0) (v := .int .i64 y0) hplt) (g := r) (j := 1) (v := .int .i64 y1) hplt) (g := r) (j := 2) (v := .bool y2) hplt) (g := r) (j := 3) (v := .int .i64 y3) hplt) (g := r) (j := 4) (v := .int .i64 y4) hplt) (g := r) (j := 5) (v := .int .i64 y5) hplt) (g := r) (j := 6) (v := .int .i64 y6) hplt) (g := r) (j := 7) (v := .int .i64 y7) hplt) (g := r) (j := 8) (v := .int .i64 y8) hplt) (g := r) (j := 9) (v := .string y9) hplt
    have hoE := BX.only_set (BX.only_set (BX.only_set (BX.only_set (BX.only_set (BX.only_set (BX.only_set (BX.only_set (BX.only_set (BX.only_set (HO3.out) (g := r) (j := 0) (v := .int .i64 y0) (Nat.le_of_eq hr)) (g := r) (j := 1) (v := .int .i64 y1) (Nat.le_of_eq hr)) (g := r) (j := 2) (v := .bool y2) (Nat.le_of_eq hr)) (g := r) (j := 3) (v := .int .i64 y3) (Nat.le_of_eq hr)) (g := r) (j := 4) (v := .int .i64 y4) (Nat.le_of_eq hr)) (g := r) (j := 5) (v := .int .i64 y5) (Nat.le_of_eq hr)) (g := r) (j := 6) (v := .int .i64 y6) (Nat.le_of_eq hr)) (g := r) (j := 7) (v := .int .i64 y7) (Nat.le_of_eq hr)) (g := r) (j := 8) (v := .int .i64 y8) (Nat.le_of_eq hr)) (g := r) (j := 9) (v := .string y9) (Nat.le_of_eq hr)
    have hrD := HR.out.lt
    have hrow := RA.own_only HOW.out (((((((((((MC.Only.refl r W2).setCell 0 (.int .i64 y0)).setCell 1 (.int .i64 y1)).setCell 2 (.bool y2)).setCell 3 (.int .i64 y3)).setCell 4 (.int .i64 y4)).setCell 5 (.int .i64 y5)).setCell 6 (.int .i64 y6)).setCell 7 (.int .i64 y7)).setCell 8 (.int .i64 y8)).setCell 9 (.string y9)) (fun e => by have := (World.ownsRow.lt HOW.out _ e).1; omega)
    generalize ((((((((((((((((((((W2).setCell ⟨r, 0, none⟩ (.int .i64 y0))).setCell ⟨r, 1, none⟩ (.int .i64 y1))).setCell ⟨r, 2, none⟩ (.bool y2))).setCell ⟨r, 3, none⟩ (.int .i64 y3))).setCell ⟨r, 4, none⟩ (.int .i64 y4))).setCell ⟨r, 5, none⟩ (.int .i64 y5))).setCell ⟨r, 6, none⟩ (.int .i64 y6))).setCell ⟨r, 7, none⟩ (.int .i64 y7))).setCell ⟨r, 8, none⟩ (.int .i64 y8))).setCell ⟨r, 9, none⟩ (.string y9)) = WE at *
    have hRA := PLD.own_lo hrow (show w.heap.size ≤ _ by omega)
    go_wp2
    exact bodyPost_ret (v := .tuple #[.slice a1 (List.length l) c1, .agg #[.int .i64 y0, .int .i64 y1, .bool y2, .int .i64 y3, .int .i64 y4, .int .i64 y5, .int .i64 y6, .int .i64 y7, .int .i64 y8, .string y9]]) (by simp [results, Try.results13, go_sem, n0, n1, n2, n3, n4, n5, n6, n7, n8, n9]) rfl ⟨a1, c1, l, ⟨y0, y1, y2, y3, y4, y5, y6, y7, y8, y9⟩, rfl, hl, hpb9, hRA, hcE.more (by omega), hoE⟩
end Go.Proofs.Ytickoajkppgdaaa

/- Draws of plans: whenTo. -/
namespace Go.Proofs.Ytickoajkppgdaaa
open Go.RowKit
set_option linter.unusedSimpArgs false in
set_option maxHeartbeats 1600000 in
set_option maxRecDepth 100000 in
theorem whenTo_any (p : Nat) (a : Option Addr) (zs : List Int) (cap M : Nat) (w : World) (hz : zs.length ≤ 140737488355328) (hM : M ≤ 140737488340000) (hc : MC.Cur w p a zs cap M) :
    Calls Try.prog 25 #[.pointer (some ⟨p, 0, none⟩)] w fun e w' => ∃ z : Int, e = .returned (.int .i64 z) ∧ (-1 ≤ z ∧ z ≤ 1001) ∧ MC.Cur w' p a zs cap (M + 4) ∧ MC.Only p w w' := by
  have hplt := hc.lt
  go_enter Try.func25, Try.ntmps25
  go_wp2_with fail
  refine (one_any p a zs cap M _ _ hz (by omega) hc).mono ?_
  rintro e w1 ⟨b, rfl, hc1, ho1⟩
  have hs1 := ho1.size
  clear hc
  cases b with
  | false =>
    go_wp2_with fail
    refine (pick_any p a zs cap (M + 2) _ _ hz (by omega) hc1).mono ?_
    rintro e w2 ⟨r, rfl, hr, _, hc2, ho2⟩
    have hr5 : r < 50 := by omega
    have hoA := ho1.trans ho2
    clear ho1 ho2 hc1 hr
    go_wp2
    go_ret
    exact ⟨r, rfl, ⟨by omega, by omega⟩, hc2, hoA⟩
  | true =>
    go_wp2_with fail
    refine (among_any p a zs cap (M + 2) (some ⟨w1.heap.size, 0, none⟩) [-1, 1000, 1001] 3 _ hz (by omega) (hc1.alloc _) (by simp) (by simp) ?_ ?_).mono ?_
    · exact .inr ⟨w1.heap.size, 0, rfl, by simp, fun j hj => by
        rw [Nat.zero_add]
        have h3 : j < 3 := hj
        rcases (show j = 0 ∨ j = 1 ∨ j = 2 by omega) with rfl | rfl | rfl <;> exact World.cell?_alloc_at _ _ _ _ (by rfl)⟩
    · intro b off hb; cases hb; have := hc1.lt; omega
    rintro e w2 ⟨z, rfl, hz2, hc2, ho2⟩
    have hoA := (ho1.alloc (.cells #[.int .i64 (-1), .int .i64 1000, .int .i64 1001] 3)).trans ho2
    have hzz : -1 ≤ z ∧ z ≤ 1001 := by simp at hz2; omega
    clear ho1 ho2 hc1 hz2
    go_wp2
    go_ret
    exact ⟨z, rfl, hzz, hc2, hoA⟩
end Go.Proofs.Ytickoajkppgdaaa

/- Drawn: a plan, a bundle, and numbers: DrawFollowPlan, DrawForwardStep. -/
namespace Go.Proofs.Ytickoajkppgdaaa
open Go.RowKit
theorem PLD.bytes_up {w : World} {a : Option Addr} {zs : List Int} (o : Obj) (h : MC.BytesAt w w.heap.size a zs) : MC.BytesAt (w.alloc o) (w.alloc o).heap.size a zs := by
  have h1 := h.only (q := w.heap.size) (MC.Only.of_below ((Below.refl _ w).alloc (Nat.le_refl _) o)) (Nat.le_refl _) (Nat.le_refl _)
  exact h1.up (by simp)
set_option linter.unusedSimpArgs false in
set_option maxHeartbeats 6400000 in
set_option maxRecDepth 100000 in
theorem dFollowPlan_any (a : Option Addr) (zs : List Int) (cap : Nat) (w : World) (hz : zs.length ≤ 140737488355328) (hb : MC.BytesAt w w.heap.size a zs) :
    Calls Try.prog 4 #[.slice a zs.length cap] w fun e w' => ∃ (a1 : Option Addr) (c1 : Nat) (xs : List I5) (b : Bd) (n0 : Int), e = .returned (.tuple #[.slice a1 xs.length c1, b.v, .int .i64 n0]) ∧ xs.length ≤ 21 ∧ b.py.size ≤ 61 ∧ MI5.RowAt w' a1 xs ∧ Below w.heap.size w w' := by
  have hbr := BX.Box.new w 25 B1.zero w.heap.size rfl
  have hW0 : Below w.heap.size w (w.alloc (.cells (BX.cs B1.zero).toArray 25)) := (Below.refl _ w).alloc (Nat.le_refl _) _
  have hb0 := PLD.bytes_up (.cells (BX.cs B1.zero).toArray 25) hb
  have hs0 : (w.alloc (.cells (BX.cs B1.zero).toArray 25)).heap.size = w.heap.size + 1 := by simp
  simp only [BX.cs, Bd.cs, B1.zero] at hbr hW0 hb0 hs0
  clear hb
  go_enter Try.func4, Try.ntmps4
  go_wp2_with fail
  generalize w.alloc (.cells #[.int .i64 0, .int .i64 0, .bool false, .int .i64 0, .int .i64 0, .int .i64 0, .int .i64 0, .int .i64 0, .int .i64 0, .string ⟨#[]⟩] 25) = W0 at *
  change BX.Box W0 w.heap.size 25 B1.zero at hbr
  obtain ⟨p, hp⟩ : ∃ p, W0.heap.size = p := ⟨_, rfl⟩
  rw [← hs0, hp]
  have hlt : w.heap.size < p := by omega
  have hcur := cur_new (T := 45) (cap := cap) hb0
  have hcs : (W0.alloc (.cells #[.slice a zs.length cap, .int .i64 0, .int .u64 0] 45)).heap.size = p + 1 := by simp [hp]
  have hnb : Hid (∀ W, MC.Only p (W0.alloc (.cells #[.slice a zs.length cap, .int .i64 0, .int .u64 0] 45)) W → Below W0.heap.size W0 W) := fun W h => new_below hp.symm h
  rw [hp] at hcur hs0
  clear hs0
  replace hbr := hbr.alloc (.cells #[.slice a zs.length cap, .int .i64 0, .int .u64 0] 45)
  refine (planned_any p a zs cap 0 _ hz (by omega) hcur).mono ?_
  rintro e w1 ⟨a1, c1, xs, b, rfl, hxl, hpy, how, hc1, ho1⟩
  clear hcur
  rw [hcs] at how
  have hB1 := hW0.trans ((hnb.out _ ho1).mono hW0.size)
  replace hbr := hbr.only ho1 (by omega)
  obtain ⟨r, hr⟩ : ∃ r, w.heap.size = r := ⟨_, rfl⟩
  have hsw := hB1.size
  have hpl := hc1.lt
  rw [hr] at hbr hlt hB1 hsw
  have hrp : r ≠ p := by omega
  clear hb0 hW0 hnb ho1 hcs
  obtain ⟨x0, x1, x2, x3, x4, x5, x6, x7, x8, x9⟩ := b
  have hbq := BX.Box.new w1 25 ⟨x0, x1, x2, x3, x4, x5, x6, x7, x8, x9⟩ w1.heap.size rfl
  have hc := hc1.alloc (.cells #[.int .i64 x0, .int .i64 x1, .bool x2, .int .i64 x3, .int .i64 x4, .int .i64 x5, .int .i64 x6, .int .i64 x7, .int .i64 x8, .string x9] 25)
  replace hbr := hbr.alloc (.cells #[.int .i64 x0, .int .i64 x1, .bool x2, .int .i64 x3, .int .i64 x4, .int .i64 x5, .int .i64 x6, .int .i64 x7, .int .i64 x8, .string x9] 25)
  replace how := World.ownsRow.alloc how (.cells #[.int .i64 x0, .int .i64 x1, .bool x2, .int .i64 x3, .int .i64 x4, .int .i64 x5, .int .i64 x6, .int .i64 x7, .int .i64 x8, .string x9] 25)
  replace hB1 := hB1.alloc hsw (.cells #[.int .i64 x0, .int .i64 x1, .bool x2, .int .i64 x3, .int .i64 x4, .int .i64 x5, .int .i64 x6, .int .i64 x7, .int .i64 x8, .string x9] 25)
  simp only [BX.cs, Bd.cs] at hbq
  clear hc1
  rw [hr]
  go_upto_region 3 with fail
  generalize w1.alloc (.cells #[.int .i64 x0, .int .i64 x1, .bool x2, .int .i64 x3, .int .i64 x4, .int .i64 x5, .int .i64 x6, .int .i64 x7, .int .i64 x8, .string x9] 25) = w2 at *
  obtain ⟨q, hq⟩ : ∃ q, w1.heap.size = q := ⟨_, rfl⟩
  rw [hq] at hbq hpl hsw ⊢
  have hqp : q ≠ p := by omega
  have hpq : p < q := by omega
  have hrq : r ≠ q := by omega
  have hqr : q ≠ r := by omega
  clear hq
  have HC0 : Hid _ := hc.below (Below.refl _ w2).drew
  have HQ0 : Hid (BX.Box _ _ _ _) := hbq.below (Below.refl _ w2).drew hbq.lt
  have HR0 : Hid (BX.Box _ _ _ _) := hbr.below (Below.refl _ w2).drew hbr.lt
  have HW0 : Hid _ := M5.own_below how (Below.refl _ w2).drew
  have HB0 : Hid (Below r w (World.drew w2)) := hB1.trans ((Below.refl _ w2).drew)
  have k0 := hbq.cells 0
  have k1 := hbq.cells 1
  have k2 := hbq.cells 2
  have k3 := hbq.cells 3
  have k4 := hbq.cells 4
  have k5 := hbq.cells 5
  have k6 := hbq.cells 6
  have k7 := hbq.cells 7
  have k8 := hbq.cells 8
  have k9 := hbq.cells 9
  simp [Bd.cs] at k0 k1 k2 k3 k4 k5 k6 k7 k8 k9
  clear hbq hbr how hc hB1
  go_wp2
  go_region_held3 (fun w' => w'.cell? ⟨q, 0, none⟩ = some (.int .i64 x0) ∧ w'.cell? ⟨q, 1, none⟩ = some (.int .i64 x1) ∧ w'.cell? ⟨q, 2, none⟩ = some (.bool x2) ∧ w'.cell? ⟨q, 3, none⟩ = some (.int .i64 x3) ∧ w'.cell? ⟨q, 4, none⟩ = some (.int .i64 x4) ∧ w'.cell? ⟨q, 5, none⟩ = some (.int .i64 x5) ∧ w'.cell? ⟨q, 6, none⟩ = some (.int .i64 x6) ∧ w'.cell? ⟨q, 7, none⟩ = some (.int .i64 x7) ∧ w'.cell? ⟨q, 8, none⟩ = some (.int .i64 x8) ∧ w'.cell? ⟨q, 9, none⟩ = some (.string x9)) (first | go_keep | assumption) (first | (go_at_call 14; refine Calls.mono (pick_any p a zs cap (0 + 420) 6 _ hz (by omega) HC0.out) ?_; rintro e U1 ⟨m0, rfl, -, -, hc, ho⟩; have HC1 : Hid _ := hc; have HQ1 : Hid (BX.Box _ _ _ _) := HQ0.out.only ho hqp; have HR1 : Hid (BX.Box _ _ _ _) := HR0.out.only ho hrp; have HW1 : Hid _ := RA.own_only HW0.out ho (fun e => by have := (World.ownsRow.lt HW0.out _ e).1; omega); have HB1 : Hid (Below r w U1) := HB0.out.trans (ho.below (by omega) (by have := HB0.out.size; omega)); have hQ := HQ1.out; have k0 := hQ.cells 0; have k1 := hQ.cells 1; have k2 := hQ.cells 2; have k3 := hQ.cells 3; have k4 := hQ.cells 4; have k5 := hQ.cells 5; have k6 := hQ.cells 6; have k7 := hQ.cells 7; have k8 := hQ.cells 8; have k9 := hQ.cells 9; simp [Bd.cs] at k0 k1 k2 k3 k4 k5 k6 k7 k8 k9; have hR := HR1.out; have m0_ := hR.cells 0; have g0 := hR.free 0; have m1_ := hR.cells 1; have g1 := hR.free 1; have m2_ := hR.cells 2; have g2 := hR.free 2; have m3_ := hR.cells 3; have g3 := hR.free 3; have m4_ := hR.cells 4; have g4 := hR.free 4; have m5_ := hR.cells 5; have g5 := hR.free 5; have m6_ := hR.cells 6; have g6 := hR.free 6; have m7_ := hR.cells 7; have g7 := hR.free 7; have m8_ := hR.cells 8; have g8 := hR.free 8; have m9_ := hR.cells 9; have g9 := hR.free 9; simp [Bd.cs, B1.zero] at m0_ m1_ m2_ m3_ m4_ m5_ m6_ m7_ m8_ m9_; have hql := hQ.lt; have hrl := hR.lt; clear hQ hR hc ho HC0 HQ0 HR0 HW0 HB0))
  have hP := HR1.out.put ⟨x0, x1, x2, x3, x4, x5, x6, x7, x8, x9⟩
  have z0 := hP.cells 0
  have z1 := hP.cells 1
  have z2 := hP.cells 2
  have z3 := hP.cells 3
  have z4 := hP.cells 4
  have z5 := hP.cells 5
  have z6 := hP.cells 6
  have z7 := hP.cells 7
  have z8 := hP.cells 8
  have z9 := hP.cells 9
  simp [Bd.cs] at z0 z1 z2 z3 z4 z5 z6 z7 z8 z9
  have hrow := RA.own_only HW1.out (((((((((((MC.Only.refl r U1).setCell 0 (.int .i64 x0)).setCell 1 (.int .i64 x1)).setCell 2 (.bool x2)).setCell 3 (.int .i64 x3)).setCell 4 (.int .i64 x4)).setCell 5 (.int .i64 x5)).setCell 6 (.int .i64 x6)).setCell 7 (.int .i64 x7)).setCell 8 (.int .i64 x8)).setCell 9 (.string x9)) (fun e => by have := (World.ownsRow.lt HW1.out _ e).1; omega)
  have hBE := ((((((((((HB1.out.setCell (p := ⟨r, 0, none⟩) (by simp) (.int .i64 x0)).setCell (p := ⟨r, 1, none⟩) (by simp) (.int .i64 x1)).setCell (p := ⟨r, 2, none⟩) (by simp) (.bool x2)).setCell (p := ⟨r, 3, none⟩) (by simp) (.int .i64 x3)).setCell (p := ⟨r, 4, none⟩) (by simp) (.int .i64 x4)).setCell (p := ⟨r, 5, none⟩) (by simp) (.int .i64 x5)).setCell (p := ⟨r, 6, none⟩) (by simp) (.int .i64 x6)).setCell (p := ⟨r, 7, none⟩) (by simp) (.int .i64 x7)).setCell (p := ⟨r, 8, none⟩) (by simp) (.int .i64 x8)).setCell (p := ⟨r, 9, none⟩) (by simp) (.string x9))
  generalize ((((((((((((((((((((U1).setCell ⟨r, 0, none⟩ (.int .i64 x0))).setCell ⟨r, 1, none⟩ (.int .i64 x1))).setCell ⟨r, 2, none⟩ (.bool x2))).setCell ⟨r, 3, none⟩ (.int .i64 x3))).setCell ⟨r, 4, none⟩ (.int .i64 x4))).setCell ⟨r, 5, none⟩ (.int .i64 x5))).setCell ⟨r, 6, none⟩ (.int .i64 x6))).setCell ⟨r, 7, none⟩ (.int .i64 x7))).setCell ⟨r, 8, none⟩ (.int .i64 x8))).setCell ⟨r, 9, none⟩ (.string x9)) = WE at *
  obtain ⟨aa, cc, he, hRA⟩ := PLD.own_row5 hrow
  cases he
  go_wp2
  exact bodyPost_ret (v := .tuple #[.slice a1 (List.length xs) c1, .agg #[.int .i64 x0, .int .i64 x1, .bool x2, .int .i64 x3, .int .i64 x4, .int .i64 x5, .int .i64 x6, .int .i64 x7, .int .i64 x8, .string x9], .int .i64 (m0 : Int)]) (by simp [results, Try.results4, go_sem, z0, z1, z2, z3, z4, z5, z6, z7, z8, z9]) rfl ⟨a1, c1, xs, ⟨x0, x1, x2, x3, x4, x5, x6, x7, x8, x9⟩, (m0 : Int), rfl, hxl, hpy, hRA, hr ▸ hBE⟩
set_option linter.unusedSimpArgs false in
set_option maxHeartbeats 6400000 in
set_option maxRecDepth 100000 in
theorem dForwardStep_any (a : Option Addr) (zs : List Int) (cap : Nat) (w : World) (hz : zs.length ≤ 140737488355328) (hb : MC.BytesAt w w.heap.size a zs) :
    Calls Try.prog 10 #[.slice a zs.length cap] w fun e w' => ∃ (a1 : Option Addr) (c1 : Nat) (xs : List I5) (b : Bd) (n0 : Int) (n1 : Int) (n2 : Int), e = .returned (.tuple #[.slice a1 xs.length c1, b.v, .int .i64 n0, .int .i64 n1, .int .i64 n2]) ∧ xs.length ≤ 21 ∧ b.py.size ≤ 61 ∧ MI5.RowAt w' a1 xs ∧ Below w.heap.size w w' := by
  have hbr := BX.Box.new w 25 B1.zero w.heap.size rfl
  have hW0 : Below w.heap.size w (w.alloc (.cells (BX.cs B1.zero).toArray 25)) := (Below.refl _ w).alloc (Nat.le_refl _) _
  have hb0 := PLD.bytes_up (.cells (BX.cs B1.zero).toArray 25) hb
  have hs0 : (w.alloc (.cells (BX.cs B1.zero).toArray 25)).heap.size = w.heap.size + 1 := by simp
  simp only [BX.cs, Bd.cs, B1.zero] at hbr hW0 hb0 hs0
  clear hb
  go_enter Try.func10, Try.ntmps10
  go_wp2_with fail
  generalize w.alloc (.cells #[.int .i64 0, .int .i64 0, .bool false, .int .i64 0, .int .i64 0, .int .i64 0, .int .i64 0, .int .i64 0, .int .i64 0, .string ⟨#[]⟩] 25) = W0 at *
  change BX.Box W0 w.heap.size 25 B1.zero at hbr
  obtain ⟨p, hp⟩ : ∃ p, W0.heap.size = p := ⟨_, rfl⟩
  rw [← hs0, hp]
  have hlt : w.heap.size < p := by omega
  have hcur := cur_new (T := 45) (cap := cap) hb0
  have hcs : (W0.alloc (.cells #[.slice a zs.length cap, .int .i64 0, .int .u64 0] 45)).heap.size = p + 1 := by simp [hp]
  have hnb : Hid (∀ W, MC.Only p (W0.alloc (.cells #[.slice a zs.length cap, .int .i64 0, .int .u64 0] 45)) W → Below W0.heap.size W0 W) := fun W h => new_below hp.symm h
  rw [hp] at hcur hs0
  clear hs0
  replace hbr := hbr.alloc (.cells #[.slice a zs.length cap, .int .i64 0, .int .u64 0] 45)
  refine (planned_any p a zs cap 0 _ hz (by omega) hcur).mono ?_
  rintro e w1 ⟨a1, c1, xs, b, rfl, hxl, hpy, how, hc1, ho1⟩
  clear hcur
  rw [hcs] at how
  have hB1 := hW0.trans ((hnb.out _ ho1).mono hW0.size)
  replace hbr := hbr.only ho1 (by omega)
  obtain ⟨r, hr⟩ : ∃ r, w.heap.size = r := ⟨_, rfl⟩
  have hsw := hB1.size
  have hpl := hc1.lt
  rw [hr] at hbr hlt hB1 hsw
  have hrp : r ≠ p := by omega
  clear hb0 hW0 hnb ho1 hcs
  obtain ⟨x0, x1, x2, x3, x4, x5, x6, x7, x8, x9⟩ := b
  have hbq := BX.Box.new w1 25 ⟨x0, x1, x2, x3, x4, x5, x6, x7, x8, x9⟩ w1.heap.size rfl
  have hc := hc1.alloc (.cells #[.int .i64 x0, .int .i64 x1, .bool x2, .int .i64 x3, .int .i64 x4, .int .i64 x5, .int .i64 x6, .int .i64 x7, .int .i64 x8, .string x9] 25)
  replace hbr := hbr.alloc (.cells #[.int .i64 x0, .int .i64 x1, .bool x2, .int .i64 x3, .int .i64 x4, .int .i64 x5, .int .i64 x6, .int .i64 x7, .int .i64 x8, .string x9] 25)
  replace how := World.ownsRow.alloc how (.cells #[.int .i64 x0, .int .i64 x1, .bool x2, .int .i64 x3, .int .i64 x4, .int .i64 x5, .int .i64 x6, .int .i64 x7, .int .i64 x8, .string x9] 25)
  replace hB1 := hB1.alloc hsw (.cells #[.int .i64 x0, .int .i64 x1, .bool x2, .int .i64 x3, .int .i64 x4, .int .i64 x5, .int .i64 x6, .int .i64 x7, .int .i64 x8, .string x9] 25)
  simp only [BX.cs, Bd.cs] at hbq
  clear hc1
  rw [hr]
  go_upto_region 3 with fail
  generalize w1.alloc (.cells #[.int .i64 x0, .int .i64 x1, .bool x2, .int .i64 x3, .int .i64 x4, .int .i64 x5, .int .i64 x6, .int .i64 x7, .int .i64 x8, .string x9] 25) = w2 at *
  obtain ⟨q, hq⟩ : ∃ q, w1.heap.size = q := ⟨_, rfl⟩
  rw [hq] at hbq hpl hsw ⊢
  have hqp : q ≠ p := by omega
  have hpq : p < q := by omega
  have hrq : r ≠ q := by omega
  have hqr : q ≠ r := by omega
  clear hq
  have HC0 : Hid _ := hc.below (Below.refl _ w2).drew
  have HQ0 : Hid (BX.Box _ _ _ _) := hbq.below (Below.refl _ w2).drew hbq.lt
  have HR0 : Hid (BX.Box _ _ _ _) := hbr.below (Below.refl _ w2).drew hbr.lt
  have HW0 : Hid _ := M5.own_below how (Below.refl _ w2).drew
  have HB0 : Hid (Below r w (World.drew w2)) := hB1.trans ((Below.refl _ w2).drew)
  have k0 := hbq.cells 0
  have k1 := hbq.cells 1
  have k2 := hbq.cells 2
  have k3 := hbq.cells 3
  have k4 := hbq.cells 4
  have k5 := hbq.cells 5
  have k6 := hbq.cells 6
  have k7 := hbq.cells 7
  have k8 := hbq.cells 8
  have k9 := hbq.cells 9
  simp [Bd.cs] at k0 k1 k2 k3 k4 k5 k6 k7 k8 k9
  clear hbq hbr how hc hB1
  go_wp2
  go_region_held3 (fun w' => w'.cell? ⟨q, 0, none⟩ = some (.int .i64 x0) ∧ w'.cell? ⟨q, 1, none⟩ = some (.int .i64 x1) ∧ w'.cell? ⟨q, 2, none⟩ = some (.bool x2) ∧ w'.cell? ⟨q, 3, none⟩ = some (.int .i64 x3) ∧ w'.cell? ⟨q, 4, none⟩ = some (.int .i64 x4) ∧ w'.cell? ⟨q, 5, none⟩ = some (.int .i64 x5) ∧ w'.cell? ⟨q, 6, none⟩ = some (.int .i64 x6) ∧ w'.cell? ⟨q, 7, none⟩ = some (.int .i64 x7) ∧ w'.cell? ⟨q, 8, none⟩ = some (.int .i64 x8) ∧ w'.cell? ⟨q, 9, none⟩ = some (.string x9)) (first | go_keep | assumption) (first | (go_at_call 14; refine Calls.mono (pick_any p a zs cap (0 + 420) 6 _ hz (by omega) HC0.out) ?_; rintro e U1 ⟨m0, rfl, -, -, hc, ho⟩; have HC1 : Hid _ := hc; have HQ1 : Hid (BX.Box _ _ _ _) := HQ0.out.only ho hqp; have HR1 : Hid (BX.Box _ _ _ _) := HR0.out.only ho hrp; have HW1 : Hid _ := RA.own_only HW0.out ho (fun e => by have := (World.ownsRow.lt HW0.out _ e).1; omega); have HB1 : Hid (Below r w U1) := HB0.out.trans (ho.below (by omega) (by have := HB0.out.size; omega)); have hQ := HQ1.out; have k0 := hQ.cells 0; have k1 := hQ.cells 1; have k2 := hQ.cells 2; have k3 := hQ.cells 3; have k4 := hQ.cells 4; have k5 := hQ.cells 5; have k6 := hQ.cells 6; have k7 := hQ.cells 7; have k8 := hQ.cells 8; have k9 := hQ.cells 9; simp [Bd.cs] at k0 k1 k2 k3 k4 k5 k6 k7 k8 k9; have hR := HR1.out; have m0_ := hR.cells 0; have g0 := hR.free 0; have m1_ := hR.cells 1; have g1 := hR.free 1; have m2_ := hR.cells 2; have g2 := hR.free 2; have m3_ := hR.cells 3; have g3 := hR.free 3; have m4_ := hR.cells 4; have g4 := hR.free 4; have m5_ := hR.cells 5; have g5 := hR.free 5; have m6_ := hR.cells 6; have g6 := hR.free 6; have m7_ := hR.cells 7; have g7 := hR.free 7; have m8_ := hR.cells 8; have g8 := hR.free 8; have m9_ := hR.cells 9; have g9 := hR.free 9; simp [Bd.cs, B1.zero] at m0_ m1_ m2_ m3_ m4_ m5_ m6_ m7_ m8_ m9_; have hql := hQ.lt; have hrl := hR.lt; clear hQ hR hc ho HC0 HQ0 HR0 HW0 HB0) | (go_at_call 25; refine Calls.mono (whenTo_any p a zs cap (0 + 422) _ hz (by omega) HC1.out) ?_; rintro e U2 ⟨n1, rfl, -, hc, ho⟩; have HC2 : Hid _ := hc; have HQ2 : Hid (BX.Box _ _ _ _) := HQ1.out.only ho hqp; have HR2 : Hid (BX.Box _ _ _ _) := HR1.out.only ho hrp; have HW2 : Hid _ := RA.own_only HW1.out ho (fun e => by have := (World.ownsRow.lt HW1.out _ e).1; omega); have HB2 : Hid (Below r w U2) := HB1.out.trans (ho.below (by omega) (by have := HB1.out.size; omega)); have hQ := HQ2.out; have k0 := hQ.cells 0; have k1 := hQ.cells 1; have k2 := hQ.cells 2; have k3 := hQ.cells 3; have k4 := hQ.cells 4; have k5 := hQ.cells 5; have k6 := hQ.cells 6; have k7 := hQ.cells 7; have k8 := hQ.cells 8; have k9 := hQ.cells 9; simp [Bd.cs] at k0 k1 k2 k3 k4 k5 k6 k7 k8 k9; have hR := HR2.out; have m0_ := hR.cells 0; have g0 := hR.free 0; have m1_ := hR.cells 1; have g1 := hR.free 1; have m2_ := hR.cells 2; have g2 := hR.free 2; have m3_ := hR.cells 3; have g3 := hR.free 3; have m4_ := hR.cells 4; have g4 := hR.free 4; have m5_ := hR.cells 5; have g5 := hR.free 5; have m6_ := hR.cells 6; have g6 := hR.free 6; have m7_ := hR.cells 7; have g7 := hR.free 7; have m8_ := hR.cells 8; have g8 := hR.free 8; have m9_ := hR.cells 9; have g9 := hR.free 9; simp [Bd.cs, B1.zero] at m0_ m1_ m2_ m3_ m4_ m5_ m6_ m7_ m8_ m9_; have hql := hQ.lt; have hrl := hR.lt; clear hQ hR hc ho HC1 HQ1 HR1 HW1 HB1) | (go_at_call 14; refine Calls.mono (pick_any p a zs cap (0 + 426) 6 _ hz (by omega) HC2.out) ?_; rintro e U3 ⟨m2, rfl, -, -, hc, ho⟩; have HC3 : Hid _ := hc; have HQ3 : Hid (BX.Box _ _ _ _) := HQ2.out.only ho hqp; have HR3 : Hid (BX.Box _ _ _ _) := HR2.out.only ho hrp; have HW3 : Hid _ := RA.own_only HW2.out ho (fun e => by have := (World.ownsRow.lt HW2.out _ e).1; omega); have HB3 : Hid (Below r w U3) := HB2.out.trans (ho.below (by omega) (by have := HB2.out.size; omega)); have hQ := HQ3.out; have k0 := hQ.cells 0; have k1 := hQ.cells 1; have k2 := hQ.cells 2; have k3 := hQ.cells 3; have k4 := hQ.cells 4; have k5 := hQ.cells 5; have k6 := hQ.cells 6; have k7 := hQ.cells 7; have k8 := hQ.cells 8; have k9 := hQ.cells 9; simp [Bd.cs] at k0 k1 k2 k3 k4 k5 k6 k7 k8 k9; have hR := HR3.out; have m0_ := hR.cells 0; have g0 := hR.free 0; have m1_ := hR.cells 1; have g1 := hR.free 1; have m2_ := hR.cells 2; have g2 := hR.free 2; have m3_ := hR.cells 3; have g3 := hR.free 3; have m4_ := hR.cells 4; have g4 := hR.free 4; have m5_ := hR.cells 5; have g5 := hR.free 5; have m6_ := hR.cells 6; have g6 := hR.free 6; have m7_ := hR.cells 7; have g7 := hR.free 7; have m8_ := hR.cells 8; have g8 := hR.free 8; have m9_ := hR.cells 9; have g9 := hR.free 9; simp [Bd.cs, B1.zero] at m0_ m1_ m2_ m3_ m4_ m5_ m6_ m7_ m8_ m9_; have hql := hQ.lt; have hrl := hR.lt; clear hQ hR hc ho HC2 HQ2 HR2 HW2 HB2))
  have hP := HR3.out.put ⟨x0, x1, x2, x3, x4, x5, x6, x7, x8, x9⟩
  have z0 := hP.cells 0
  have z1 := hP.cells 1
  have z2 := hP.cells 2
  have z3 := hP.cells 3
  have z4 := hP.cells 4
  have z5 := hP.cells 5
  have z6 := hP.cells 6
  have z7 := hP.cells 7
  have z8 := hP.cells 8
  have z9 := hP.cells 9
  simp [Bd.cs] at z0 z1 z2 z3 z4 z5 z6 z7 z8 z9
  have hrow := RA.own_only HW3.out (((((((((((MC.Only.refl r U3).setCell 0 (.int .i64 x0)).setCell 1 (.int .i64 x1)).setCell 2 (.bool x2)).setCell 3 (.int .i64 x3)).setCell 4 (.int .i64 x4)).setCell 5 (.int .i64 x5)).setCell 6 (.int .i64 x6)).setCell 7 (.int .i64 x7)).setCell 8 (.int .i64 x8)).setCell 9 (.string x9)) (fun e => by have := (World.ownsRow.lt HW3.out _ e).1; omega)
  have hBE := ((((((((((HB3.out.setCell (p := ⟨r, 0, none⟩) (by simp) (.int .i64 x0)).setCell (p := ⟨r, 1, none⟩) (by simp) (.int .i64 x1)).setCell (p := ⟨r, 2, none⟩) (by simp) (.bool x2)).setCell (p := ⟨r, 3, none⟩) (by simp) (.int .i64 x3)).setCell (p := ⟨r, 4, none⟩) (by simp) (.int .i64 x4)).setCell (p := ⟨r, 5, none⟩) (by simp) (.int .i64 x5)).setCell (p := ⟨r, 6, none⟩) (by simp) (.int .i64 x6)).setCell (p := ⟨r, 7, none⟩) (by simp) (.int .i64 x7)).setCell (p := ⟨r, 8, none⟩) (by simp) (.int .i64 x8)).setCell (p := ⟨r, 9, none⟩) (by simp) (.string x9))
  generalize ((((((((((((((((((((U3).setCell ⟨r, 0, none⟩ (.int .i64 x0))).setCell ⟨r, 1, none⟩ (.int .i64 x1))).setCell ⟨r, 2, none⟩ (.bool x2))).setCell ⟨r, 3, none⟩ (.int .i64 x3))).setCell ⟨r, 4, none⟩ (.int .i64 x4))).setCell ⟨r, 5, none⟩ (.int .i64 x5))).setCell ⟨r, 6, none⟩ (.int .i64 x6))).setCell ⟨r, 7, none⟩ (.int .i64 x7))).setCell ⟨r, 8, none⟩ (.int .i64 x8))).setCell ⟨r, 9, none⟩ (.string x9)) = WE at *
  obtain ⟨aa, cc, he, hRA⟩ := PLD.own_row5 hrow
  cases he
  go_wp2
  exact bodyPost_ret (v := .tuple #[.slice a1 (List.length xs) c1, .agg #[.int .i64 x0, .int .i64 x1, .bool x2, .int .i64 x3, .int .i64 x4, .int .i64 x5, .int .i64 x6, .int .i64 x7, .int .i64 x8, .string x9], .int .i64 (m0 : Int), .int .i64 n1, .int .i64 (m2 : Int)]) (by simp [results, Try.results10, go_sem, z0, z1, z2, z3, z4, z5, z6, z7, z8, z9]) rfl ⟨a1, c1, xs, ⟨x0, x1, x2, x3, x4, x5, x6, x7, x8, x9⟩, (m0 : Int), n1, (m2 : Int), rfl, hxl, hpy, hRA, hr ▸ hBE⟩
end Go.Proofs.Ytickoajkppgdaaa

/- Who goes on by the plan, place by place, is there when the plan told at first: plain facts. -/
namespace Go.Proofs.Ytickoajkppgdaaa
open Go.RowKit
namespace GP
open PN FL
/-- What a route that is told of tells. -/
theorem rt_facts {xs : List I5} {f n t : Int} (h : tellB (routeM xs f n t) = true) : ∃ e, routeM xs f n t = .fin e ∧ (fin xs (st0 f n)).wh t.toNat = .fin e ∧ startOk xs f n = true ∧ (0 ≤ t ∧ t ≤ 7) ∧ mo xs (routeL xs f n t) n (routeL xs f n t).length = .fin e ∧ inUp xs.length (routeL xs f n t) (routeL xs f n t).length ∧ goUp xs f (routeL xs f n t) (routeL xs f n t).length ∧ nodeAt xs f (routeL xs f n t) (routeL xs f n t).length = t := by
  have ha : askOk xs f n t = true := by
    cases c : askOk xs f n t with
    | true => rfl
    | false => rw [route_no c] at h; cases h
  obtain ⟨hst, t0, t1⟩ := ask_is ha
  obtain ⟨hok, f0, f1, n0, n1⟩ := start_is hst
  have hs0 := st0_ok (f := f) n0 n1
  have hO := ord_st0 hok (f := f) (n := n)
  have hX := vix_fin hok hs0 hO (vix_st0 xs (f := f) (n := n))
  obtain ⟨rk, hV⟩ := via_fin hok hs0 hO (via_st0 xs f0 f1 (n := n))
  have hL := routeL_yes h
  have hM := route_yes ha
  rw [hM] at h
  obtain ⟨u, hu⟩ : ∃ u, (fin xs (st0 f n)).wh t.toNat = .fin u := by
    cases c : (fin xs (st0 f n)).wh t.toNat with
    | fin u => exact ⟨u, rfl⟩
    | inf => rw [c] at h; cases h
    | ago => rw [c] at h; cases h
  obtain ⟨w1, w2, w3, w4⟩ := way_is hok (fi := f) (by omega : f = (f.toNat : Int)) hX hV 8 t.toNat u hu (Nat.le_trans (hV.top _ _ hu) (cnt_le _))
  rw [← hL] at w1 w2 w3 w4
  exact ⟨u, hM.trans hu, hu, hst, ⟨t0, t1⟩, w1, w2, w3, by rw [w4]; omega⟩
/-- Along a row each place leads to its end by its end's time. -/
theorem rf_of_mo {xs : List I5} {f n : Int} {os : List Int} {e : Int} (hin : inUp xs.length os os.length) (hgo : goUp xs f os os.length) (h : mo xs os n os.length = .fin e) : ∀ d, d ≤ os.length → ∀ x, mo xs os n (os.length - d) = .fin x → Rf xs (nodeAt xs f os os.length).toNat e (nodeAt xs f os (os.length - d)).toNat x := by
  intro d
  induction d with
  | zero =>
    intro _ x hx
    rw [Nat.sub_zero] at hx ⊢
    rw [h] at hx
    cases hx
    exact .here (Int.le_refl _)
  | succ d ih =>
    intro hd x hx
    obtain ⟨j, hj⟩ : ∃ j, os.length - (d + 1) = j := ⟨_, rfl⟩
    have hj1 : os.length - d = j + 1 := by omega
    have hjl : j < os.length := by omega
    obtain ⟨z, hz⟩ : ∃ z, mo xs os n (j + 1) = .fin z := by
      cases hm : mo xs os n (j + 1) with
      | fin z => exact ⟨z, rfl⟩
      | inf =>
        have := mo_inf hm (os.length - (j + 1))
        rw [show j + 1 + (os.length - (j + 1)) = os.length by omega, h] at this
        cases this
      | ago =>
        rw [hj] at hx
        rw [mo, hx] at hm
        simp only [arr] at hm
        split at hm <;> cases hm
    have ihz := ih (by omega) z (by rw [hj1]; exact hz)
    rw [hj] at hx ⊢
    rw [hj1] at ihz
    have hi := hin j hjl
    have e0 := hgo j hjl
    rw [mo, hx] at hz
    rw [nodeAt] at ihz
    rw [← e0]
    exact Rf.step (k := (os.getD j 0).toNat) (by omega) hz ihz
theorem arr_le {c : I5} (hc : PN.Good c) {x z : Int} (h : arr c (.fin x) = .fin z) : x ≤ z := by
  simp only [arr] at h
  split at h
  · cases h
  · cases h
    have := hc.d0
    omega
theorem rf_le {xs : List I5} (hok : okP xs = true) {t : Nat} {by_ : Int} {v : Nat} {x : Int} (h : Rf xs t by_ v x) : x ≤ by_ := by
  induction h with
  | here h => exact h
  | step hk ha _ ih => exact Int.le_trans (arr_le (okP_good hok hk) ha) ih
/-- A step on the way keeps the time at which one is there in the end. -/
theorem step_keeps {xs : List I5} {b : Bd} {v n t : Int} (h : stepOk xs b v n t = true) : ∃ e, routeM xs v n t = .fin e ∧ 0 ≤ (stepT xs b v n t) ∧ n ≤ stepT xs b v n t ∧ stepT xs b v n t ≤ b.md + b.lf ∧ (ofN xs (stepK xs b v n t)).a0 = v ∧ arr (ofN xs (stepK xs b v n t)) (.fin n) = .fin (stepT xs b v n t) ∧
    ((ofN xs (stepK xs b v n t)).a1 = t → stepT xs b v n t = e) ∧ (∀ e', tellB (routeM xs (ofN xs (stepK xs b v n t)).a1 (stepT xs b v n t) t) = true → routeM xs (ofN xs (stepK xs b v n t)).a1 (stepT xs b v n t) t = .fin e' → e' = e) := by
  obtain ⟨hk, hT⟩ := step_yes h
  obtain ⟨i, hi, hil⟩ := step_in h
  have h' := h
  simp only [stepOk, Bool.and_eq_true, decide_eq_true_eq] at h'
  obtain ⟨⟨⟨hfit, htell⟩, hne⟩, hle⟩ := h'
  obtain ⟨hst, hl, ⟨k0, k1⟩, ha0, hna, _⟩ := first_of htell hne
  obtain ⟨e, hM, hwh, _, ⟨t0, t1⟩, hmo, hin, hgo, hnd⟩ := rt_facts htell
  obtain ⟨hok, f0, f1, n0, n1⟩ := start_is hst
  rw [← hk] at ha0 hna hle k0 k1 hT
  rw [← hT] at hle
  have harr : arr (ofN xs (stepK xs b v n t)) (.fin n) = .fin (stepT xs b v n t) := by rw [hT]; exact ov_yes hna
  have hGood : PN.Good (ofN xs (stepK xs b v n t)) := by rw [hi]; exact okP_good hok hil
  have hnT := arr_le hGood harr
  have hm1 : mo xs (routeL xs v n t) n 1 = .fin (stepT xs b v n t) := by rw [← harr, hk]; rfl
  have hn1 : nodeAt xs v (routeL xs v n t) 1 = (ofN xs (stepK xs b v n t)).a1 := by rw [hk]; rfl
  have hRf := rf_of_mo hin hgo hmo ((routeL xs v n t).length - 1) (by omega) (stepT xs b v n t) (by rw [show (routeL xs v n t).length - ((routeL xs v n t).length - 1) = 1 by omega]; exact hm1)
  rw [show (routeL xs v n t).length - ((routeL xs v n t).length - 1) = 1 by omega, hnd, hn1] at hRf
  have hstep : ∀ {by_ : Int}, Rf xs t.toNat by_ (ofN xs (stepK xs b v n t)).a1.toNat (stepT xs b v n t) → ∃ y, (fin xs (st0 v n)).wh t.toNat = .fin y ∧ y ≤ by_ := fun {by_} hr => by
    refine (front_iff hok n0 n1).2 ?_
    have hs := Rf.step (xs := xs) (k := i) (x := n) (z := stepT xs b v n t) (t := t.toNat) (by_ := by_) hil (by rw [← harr, hi]; rfl) (by rw [hi] at hr; exact hr)
    rw [hi] at ha0
    rw [show (MI5.at_ xs i).a0 = v from ha0] at hs
    exact hs
  refine ⟨e, hM, by omega, hnT, hle, ha0, harr, fun hv => ?_, fun e' hB hE => ?_⟩
  · have h1 := rf_le hok hRf
    rw [hv] at hRf
    obtain ⟨y, hy, hyl⟩ := hstep (by_ := stepT xs b v n t) (by rw [hv]; exact .here (Int.le_refl _))
    rw [hwh] at hy
    cases hy
    omega
  · obtain ⟨e2, hM2, hwh2, hst2, _, hmo2, hin2, hgo2, hnd2⟩ := rt_facts hB
    obtain ⟨_, _, _, m0, m1⟩ := start_is hst2
    rw [hM2] at hE
    cases hE
    have h1 : Rf xs t.toNat e' (ofN xs (stepK xs b v n t)).a1.toNat (stepT xs b v n t) := (front_iff hok m0 m1).1 ⟨e', hwh2, Int.le_refl _⟩
    obtain ⟨y, hy, hyl⟩ := hstep h1
    rw [hwh] at hy
    cases hy
    obtain ⟨z, hz, hzl⟩ := (front_iff hok m0 m1).2 hRf
    rw [hwh2] at hz
    cases hz
    omega
/-- Whoever goes on from a place that is not the end is there when the plan tells there. -/
theorem fol_time {xs : List I5} {b : Bd} {t : Int} : ∀ (f : Nat) (os : List Int) (v n : Int) (w : List Int) (u : Int), v ≠ t → fol xs b t f os v n = some (w, u) → routeM xs v n t = .fin u
  | 0, _, _, _, _, _, _, h => by simp [fol] at h
  | f + 1, os, v, n, w, u, hv, h => by
    cases hs : stepOk xs b v n t with
    | false => rw [fol_stop hv hs] at h; cases h
    | true =>
      rw [fol_step hv hs] at h
      obtain ⟨e, hM, _, _, _, _, _, hend, hnext⟩ := step_keeps hs
      by_cases hv' : (ofN xs (stepK xs b v n t)).a1 = t
      · cases f with
        | zero => simp [fol] at h
        | succ f =>
          rw [hv', fol_end] at h
          cases h
          rw [hM, hend hv']
      · have ih := fol_time f _ _ _ w u hv' h
        have hu := hnext u (by rw [ih]; rfl) ih
        rw [hM, hu]
/-- What was gone so far. -/
structure Gone (xs : List I5) (b : Bd) (os : List Int) (v n : Int) : Prop where
  in_ : inUp xs.length os os.length
  go : goUp xs b.fr os os.length
  node : nodeAt xs b.fr os os.length = v
  mo_ : mo xs os b.md os.length = .fin n
  late : os ≠ [] → n ≤ b.md + b.lf
theorem getD_snoc (os : List Int) (k : Int) : (os ++ [k]).getD os.length 0 = k := by simp [List.getD_eq_getElem?_getD]
theorem Gone.step {xs : List I5} {b : Bd} {os : List Int} {v n t : Int} (h : Gone xs b os v n) (hs : stepOk xs b v n t = true) : Gone xs b (os ++ [stepK xs b v n t]) (ofN xs (stepK xs b v n t)).a1 (stepT xs b v n t) := by
  obtain ⟨e, _, _, _, hle, ha0, harr, _, _⟩ := step_keeps hs
  obtain ⟨i, hi, hil⟩ := step_in hs
  have hl : (os ++ [stepK xs b v n t]).length = os.length + 1 := by simp
  refine ⟨fun j hj => ?_, fun j hj => ?_, ?_, ?_, fun _ => hle⟩
  · rw [hl] at hj
    by_cases c : j = os.length
    · subst c; rw [getD_snoc, hi]; omega
    · rw [getD_left (by omega)]; exact h.in_ j (by omega)
  · rw [hl] at hj
    by_cases c : j = os.length
    · subst c; rw [getD_snoc, node_app _ _ _ _ _ (Nat.le_refl _), h.node]; exact ha0
    · rw [getD_left (by omega), node_app _ _ _ _ _ (by omega)]; exact h.go j (by omega)
  · rw [hl, nodeAt, getD_snoc]
  · rw [hl, mo, getD_snoc, mo_app _ _ _ _ _ (Nat.le_refl _), h.mo_]; exact harr
theorem fol_gone {xs : List I5} {b : Bd} {t : Int} : ∀ (f : Nat) (os : List Int) (v n : Int) (w : List Int) (u : Int), Gone xs b os v n → fol xs b t f os v n = some (w, u) → Gone xs b w t u ∧ w.length + 1 ≤ os.length + f
  | 0, _, _, _, _, _, _, h => by simp [fol] at h
  | f + 1, os, v, n, w, u, hg, h => by
    by_cases hv : v = t
    · subst hv
      rw [fol_end] at h
      cases h
      exact ⟨hg, by omega⟩
    · cases hs : stepOk xs b v n t with
      | false => rw [fol_stop hv hs] at h; cases h
      | true =>
        rw [fol_step hv hs] at h
        obtain ⟨h1, h2⟩ := fol_gone f _ _ _ w u (hg.step hs) h
        exact ⟨h1, by simp at h2; omega⟩
/-- What FnFollow asks of a followed plan. -/
structure FQ (xs : List I5) (b : Bd) (t : Int) (w : List Int) (u : Int) : Prop where
  one : routeM xs b.fr b.md t = .fin u
  two : arrM xs b.fr b.md w = .fin u
  late : w ≠ [] → u ≤ b.md + b.lf
  sum : 0 ≤ b.md ∧ b.md ≤ 1000 ∧ 1 ≤ b.lf ∧ b.lf ≤ 1000000
theorem fq_of {xs : List I5} {b : Bd} {t : Int} {w : List Int} {u : Int} (h : folA xs b t = some (w, u)) : FQ xs b t w u := by
  have hf : fitsB xs b = true := by
    cases c : fitsB xs b with
    | true => rfl
    | false => rw [folA_no c] at h; cases h
  rw [← folA_yes hf] at h
  obtain ⟨hok, _, _, ⟨f0, f1⟩, ⟨m0, m1⟩, ⟨l0, l1⟩, _⟩ := fits_is hf
  have hst : startOk xs b.fr b.md = true := by simp [startOk, hok, f0, f1, m0, m1]
  have hg0 : Gone xs b [] b.fr b.md := ⟨fun j hj => by simp at hj, fun j hj => by simp at hj, rfl, rfl, fun e => absurd rfl e⟩
  obtain ⟨hg, hlen⟩ := fol_gone 21 [] b.fr b.md w u hg0 h
  refine ⟨?_, ?_, hg.late, m0, m1, l0, l1⟩
  · by_cases hv : b.fr = t
    · subst hv
      rw [show (21 : Nat) = 20 + 1 from rfl, fol_end] at h
      cases h
      have hX := vix_fin hok (st0_ok (f := b.fr) m0 m1) (ord_st0 hok (f := b.fr) (n := b.md)) (vix_st0 xs (f := b.fr) (n := b.md))
      rw [route_yes (by simp [askOk, hst, f0, f1])]
      exact hX.src
    · exact fol_time 21 [] b.fr b.md w u hv h
  · rw [arrM_yes (way_go hst ((inP_iff _ _).2 hg.in_) (by simp at hlen; omega) hg.go)]; exact hg.mo_
end GP
end Go.Proofs.Ytickoajkppgdaaa

/- The law FnFollow answers true, whatever the bytes. -/
namespace Go.Proofs.Ytickoajkppgdaaa
open Go.RowKit
/-- What FnFollow asks of a step. -/
theorem GP.sq_of {xs : List I5} {b : Bd} {f n t : Int} (h : GP.stepOk xs b f n t = true) : ∃ i : Nat, GP.stepK xs b f n t = (i : Int) ∧ i < xs.length ∧ (MI5.at_ xs i).a0 = f ∧ n ≤ GP.stepT xs b f n t ∧ GP.stepT xs b f n t ≤ b.md + b.lf ∧ (0 ≤ b.md ∧ b.md ≤ 1000) ∧ (1 ≤ b.lf ∧ b.lf ≤ 1000000) := by
  obtain ⟨i, h1, h2⟩ := GP.step_in h
  obtain ⟨e, _, _, h3, h4, h5, _⟩ := GP.step_keeps h
  have hf : GP.fitsB xs b = true := by simp only [GP.stepOk, Bool.and_eq_true] at h; exact h.1.1.1
  obtain ⟨_, _, _, _, h6, h7, _⟩ := GP.fits_is hf
  exact ⟨i, h1, h2, by rw [h1] at h5; exact h5, h3, h4, h6, h7⟩
set_option linter.unusedSimpArgs false in
set_option maxHeartbeats 6400000 in
set_option maxRecDepth 100000 in
theorem lawFnFollow_any (a a' : Option Addr) (zs ys : List Int) (ca cb : Nat) (w : World) (hz : zs.length ≤ 140737488355328) (hy : ys.length ≤ 140737488355328) (hbz : MC.BytesAt w w.heap.size a zs) (hby : MC.BytesAt w w.heap.size a' ys) :
    Calls Try.prog 3 #[.slice a zs.length ca, .slice a' ys.length cb] w fun e w' => e = .returned (.bool true) ∧ Below w.heap.size w w' := by
  by_cases h20 : zs.length + ys.length ≤ 1048576
  · have HBY : Hid (∀ W : World, Below w.heap.size w W → MC.BytesAt W W.heap.size a' ys) := fun W h => (hby.only (q := w.heap.size) (MC.Only.of_below h) (Nat.le_refl _) (Nat.le_refl _)).up h.size
    clear hby
    go_enter Try.func3, Try.ntmps3
    go_wp2_with fail
    refine (dFollowPlan_any a zs ca _ hz hbz).mono ?_
    rintro e W ⟨a1, c1, xs, b, t, rfl, hxl, hpy, hR, BW⟩
    clear hbz
    have P1 : Hid (∀ V : World, Below W.heap.size W V → Calls Try.prog 5 #[.slice a1 xs.length c1, b.v, .int .i64 t] V fun e w' => ∃ a1 c1, e = .returned (.tuple #[.slice a1 (GP.folL (GP.folA xs b t)).length c1, .int .i64 (GP.folN (GP.folA xs b t)), .bool (GP.folA xs b t).isSome]) ∧ M4.IntsAt w' a1 (GP.folL (GP.folA xs b t)) ∧ Below V.heap.size V w') := fun V h => (folI_any a1 c1 xs b t V (by omega) (by omega) (hR.below h)).mono (by rintro e w' ⟨a1, c1, rfl, ho, hb⟩; exact ⟨a1, c1, rfl, M5.own_ints ho, hb⟩)
    have P2 : Hid (∀ V : World, Below W.heap.size W V → Calls Try.prog 6 #[.slice a1 xs.length c1, b.v, .int .i64 t] V fun e w' => ∃ a1 c1, e = .returned (.tuple #[.slice a1 (GP.folL (GP.folA xs b t)).length c1, .int .i64 (GP.folN (GP.folA xs b t)), .bool (GP.folA xs b t).isSome]) ∧ M4.IntsAt w' a1 (GP.folL (GP.folA xs b t)) ∧ Below V.heap.size V w') := fun V h => (folS_any a1 c1 xs b t V (by omega) (by omega) (hR.below h)).mono (by rintro e w' ⟨a1, c1, rfl, ho, hb⟩; exact ⟨a1, c1, rfl, M5.own_ints ho, hb⟩)
    have P3 : Hid (∀ (os : List Int) (u : Int), GP.folA xs b t = some (os, u) → ∀ V : World, Below W.heap.size W V → Calls Try.prog 8 #[.slice a1 xs.length c1, .int .i64 b.fr, .int .i64 b.md, .int .i64 t] V fun e w' => ∃ a2 c2 m, e = .returned (.tuple #[.slice a2 m c2, .int .i64 u, .bool true]) ∧ Below V.heap.size V w') := fun os u h V hV => by
      have hq := (GP.fq_of h).one
      refine (implRoute_any a1 c1 xs b.fr b.md t V (by omega) (hR.below hV)).mono ?_
      rintro e w' ⟨a2, c2, rfl, _, hb⟩
      exact ⟨a2, c2, _, by rw [hq]; rfl, hb⟩
    have P4 : Hid (∀ (os : List Int) (u : Int), GP.folA xs b t = some (os, u) → os.length ≤ 1048576 → ∀ (V : World) (g : Option Addr) (c : Nat), Below W.heap.size W V → M4.IntsAt V g os → Calls Try.prog 9 #[.slice a1 xs.length c1, .int .i64 b.fr, .int .i64 b.md, .slice g os.length c] V fun e w' => e = .returned (.tuple #[.int .i64 u, .bool true]) ∧ Below V.heap.size V w') := fun os u h hl V g c hV hi => by
      have hq := (GP.fq_of h).two
      have hA := implArrive_any a1 g c1 c xs b.fr b.md os V (by omega) hl (hR.below hV) hi
      rw [hq] at hA
      exact hA
    have HQ : Hid (∀ (os : List Int) (u : Int), GP.folA xs b t = some (os, u) → (os ≠ [] → u ≤ b.md + b.lf) ∧ 0 ≤ b.md ∧ b.md ≤ 1000 ∧ 1 ≤ b.lf ∧ b.lf ≤ 1000000) := fun os u h => ⟨(GP.fq_of h).late, (GP.fq_of h).sum⟩
    have HLn : Hid ((GP.folL (GP.folA xs b t)).length ≤ 1048576) := GP.folA_len xs b t
    have BA := BdAt.box W b 25
    have BB := (Below.refl _ W).alloc (Nat.le_refl _) (.cells #[.int .i64 b.fr, .int .i64 b.to, .bool b.gr, .int .i64 b.md, .int .i64 b.no, .int .i64 b.lf, .int .i64 b.hp, .int .i64 b.of, .int .i64 b.tl, .string b.py] 25)
    have hWs := BW.size
    clear hR
    generalize GP.folA xs b t = FA at *
    obtain ⟨fr, tq, gr, md, no, lf, hp, of, tl, py⟩ := b
    obtain ⟨hlt, c0_, c1_, c2_, c3_, c4_, c5_, c6_, c7_, c8_, c9_⟩ := id BA
    go_wp2_with fail
    refine (P1.out _ BB).mono ?_
    rintro e W2 ⟨a2, c2, rfl, hI2, hb2⟩
    clear hlt c0_ c1_ c2_ c3_ c4_ c5_ c6_ c7_ c8_ c9_
    have HI2 : Hid _ := hI2
    replace BA := BA.below hb2 BA.1
    have BB2 := BB.trans (hb2.mono BB.size)
    clear hb2 BB P1 hI2
    obtain ⟨hlt, c0_, c1_, c2_, c3_, c4_, c5_, c6_, c7_, c8_, c9_⟩ := id BA
    go_wp2_with fail
    refine (P2.out _ BB2).mono ?_
    rintro e W3 ⟨a3, c3, rfl, hI3, hb3⟩
    clear hlt c0_ c1_ c2_ c3_ c4_ c5_ c6_ c7_ c8_ c9_
    have HI3 : Hid _ := hI3
    replace HI2 : Hid _ := M4.IntsAt.below HI2.out hb3
    replace BA := BA.below hb3 BA.1
    have BB3 := BB2.trans (hb3.mono BB2.size)
    clear hb3 BB2 P2 hI3
    cases FA with
    | none =>
      have SI : Hid (Calls Try.prog 7 #[.slice a2 0 c2, .slice a3 0 c3] W3 fun e w' => e = .returned (.bool true) ∧ Below W3.heap.size W3 w') := sameInts_any a2 a3 c2 c3 [] [] W3 (by simp) (by simp) HI2.out HI3.out
      clear P3 P4 HQ HLn HI2 HI3 BA
      simp only [GP.folL, GP.folN, Option.isSome_none, List.length_nil]
      go_wp2_with fail
      refine Calls.mono SI.out ?_
      rintro e W4 ⟨rfl, hb4⟩
      have BB4 := BB3.trans (hb4.mono BB3.size)
      have hBV := BW.trans (BB4.mono BW.size)
      clear SI hb4 BB3 BB4 BW
      go_wp2_with fail
      refine (dForwardStep_any a' ys cb _ hy (HBY.out _ hBV)).mono ?_
      rintro e V1 ⟨a3, c3, xs2, b2, f2, n2, t2, rfl, hxl2, hpy2, hR2, BV1⟩
      have hB1 := hBV.trans (BV1.mono hBV.size)
      have Q1 : Hid (∀ U : World, Below V1.heap.size V1 U → Calls Try.prog 11 #[.slice a3 xs2.length c3, b2.v, .int .i64 f2, .int .i64 n2, .int .i64 t2] U fun e w' => e = .returned (.tuple #[.int .i64 (GP.stepK xs2 b2 f2 n2 t2), .int .i64 (GP.stepT xs2 b2 f2 n2 t2), .bool (GP.stepOk xs2 b2 f2 n2 t2)]) ∧ Below U.heap.size U w') := fun U h => stepI_any a3 c3 xs2 b2 f2 n2 t2 U (by omega) (by omega) (hR2.below h)
      have Q2 : Hid (∀ U : World, Below V1.heap.size V1 U → Calls Try.prog 12 #[.slice a3 xs2.length c3, b2.v, .int .i64 f2, .int .i64 n2, .int .i64 t2] U fun e w' => e = .returned (.tuple #[.int .i64 (GP.stepK xs2 b2 f2 n2 t2), .int .i64 (GP.stepT xs2 b2 f2 n2 t2), .bool (GP.stepOk xs2 b2 f2 n2 t2)]) ∧ Below U.heap.size U w') := fun U h => stepS_any a3 c3 xs2 b2 f2 n2 t2 U (by omega) (by omega) (hR2.below h)
      have SQ : Hid (GP.stepOk xs2 b2 f2 n2 t2 = true → _) := fun h => GP.sq_of h
      have HR2 : Hid _ := hR2
      have BA2 := BdAt.box V1 b2 25
      have BB2 := (Below.refl _ V1).alloc (Nat.le_refl _) (.cells #[.int .i64 b2.fr, .int .i64 b2.to, .bool b2.gr, .int .i64 b2.md, .int .i64 b2.no, .int .i64 b2.lf, .int .i64 b2.hp, .int .i64 b2.of, .int .i64 b2.tl, .string b2.py] 25)
      clear BV1 hBV HBY hR2
      generalize GP.stepK xs2 b2 f2 n2 t2 = SK at *
      generalize GP.stepT xs2 b2 f2 n2 t2 = ST at *
      generalize GP.stepOk xs2 b2 f2 n2 t2 = SO at *
      obtain ⟨fr2, to2, gr2, md2, no2, lf2, hp2, of2, tl2, py2⟩ := b2
      obtain ⟨hlt, c0_, c1_, c2_, c3_, c4_, c5_, c6_, c7_, c8_, c9_⟩ := id BA2
      go_wp2_with fail
      refine (Q1.out _ BB2).mono ?_
      rintro e V2 ⟨rfl, hb2⟩
      clear hlt c0_ c1_ c2_ c3_ c4_ c5_ c6_ c7_ c8_ c9_ Q1
      have BA3 := BA2.below hb2 BA2.1
      have BB3 := BB2.trans (hb2.mono BB2.size)
      clear hb2 BA2 BB2
      obtain ⟨hlt, c0_, c1_, c2_, c3_, c4_, c5_, c6_, c7_, c8_, c9_⟩ := id BA3
      go_wp2_with fail
      refine (Q2.out _ BB3).mono ?_
      rintro e V3 ⟨rfl, hb3⟩
      clear hlt c0_ c1_ c2_ c3_ c4_ c5_ c6_ c7_ c8_ c9_ Q2
      have BA4 := BA3.below hb3 BA3.1
      have BB4 := BB3.trans (hb3.mono BB3.size)
      clear hb3 BA3 BB3
      have hss : (SO != SO) = false := by simp
      have hkk : (SK != SK) = false := by simp
      have htt : (ST != ST) = false := by simp
      have hB4 := hB1.trans (BB4.mono hB1.size)
      cases SO with
      | false =>
        clear SQ HR2 BA4
        go_wp2
        go_ret
        exact ⟨rfl, hB4⟩
      | true =>
        obtain ⟨i, rfl, hil, h0, hnT, hTl, ⟨hm0, hm1⟩, hl0, hl1⟩ := SQ.out (by first | rfl | trivial)
        obtain ⟨b4, off4, rfl, hlt4, e0, -, -⟩ := (HR2.out.below BB4).at hil
        rw [h0] at e0
        obtain ⟨hlt, c0_, c1_, c2_, c3_, c4_, c5_, c6_, c7_, c8_, c9_⟩ := id BA4
        clear c0_ c1_ c2_ c4_ c6_ c7_ c8_ c9_ SQ HR2 BA4 h0
        have hff : (f2 != f2) = false := by simp
        have hd1 : decide (ST < n2) = false := decide_eq_false (by omega)
        have hd2 : decide (md2 + lf2 < ST) = false := decide_eq_false (by omega)
        go_wp2
        go_ret
        exact ⟨rfl, hB4⟩
    | some r =>
      obtain ⟨os, u⟩ := r
      have P3' : Hid _ := P3.out os u rfl
      have P4' : Hid _ := P4.out os u rfl HLn.out
      obtain ⟨hlate, hm0, hm1, hl0, hl1⟩ := HQ.out os u rfl
      have SI : Hid (∀ V : World, Below W3.heap.size W3 V → Calls Try.prog 7 #[.slice a2 os.length c2, .slice a3 os.length c3] V fun e w' => e = .returned (.bool true) ∧ Below V.heap.size V w') := fun V hV => by
        have h := sameInts_any a2 a3 c2 c3 os os V (Nat.le_trans HLn.out (by omega)) (Nat.le_trans HLn.out (by omega)) (M4.IntsAt.below HI2.out hV) (M4.IntsAt.below HI3.out hV)
        rwa [show decide (os = os) = true by simp] at h
      have HI2' : Hid (M4.IntsAt W3 a2 os) := HI2.out
      have HOE : Hid (os.length = 0 ∨ u ≤ md + lf) := by
        by_cases e : os = []
        · exact .inl (by rw [e]; rfl)
        · exact .inr (hlate e)
      clear P3 P4 HQ HLn HI2 HI3 hlate
      simp only [GP.folL, GP.folN, Option.isSome_some]
      have huu : (u != u) = false := by simp
      go_wp2_with fail
      refine Calls.mono (SI.out _ (Below.refl _ _)) ?_
      rintro e W4 ⟨rfl, hb4⟩
      replace BA := BA.below hb4 BA.1
      have BB4 := BB3.trans (hb4.mono BB3.size)
      have HI4 : Hid (M4.IntsAt W4 a2 os) := M4.IntsAt.below HI2'.out hb4
      clear SI hb4 BB3 HI2'
      obtain ⟨hlt, c0_, c1_, c2_, c3_, c4_, c5_, c6_, c7_, c8_, c9_⟩ := id BA
      go_wp2_with fail
      refine (P3'.out _ BB4).mono ?_
      rintro e W5 ⟨a5, c5, m5, rfl, hb5⟩
      clear hlt c0_ c1_ c2_ c3_ c4_ c5_ c6_ c7_ c8_ c9_
      replace BA := BA.below hb5 BA.1
      have BB5 := BB4.trans (hb5.mono BB4.size)
      have HI5 : Hid (M4.IntsAt W5 a2 os) := M4.IntsAt.below HI4.out hb5
      clear P3' hb5 BB4 HI4
      obtain ⟨hlt, c0_, c1_, c2_, c3_, c4_, c5_, c6_, c7_, c8_, c9_⟩ := id BA
      go_wp2_with fail
      refine (P4'.out _ _ _ BB5 HI5.out).mono ?_
      rintro e W6 ⟨rfl, hb6⟩
      clear hlt c0_ c1_ c2_ c3_ c4_ c5_ c6_ c7_ c8_ c9_
      replace BA := BA.below hb6 BA.1
      have BB6 := BB5.trans (hb6.mono BB5.size)
      clear P4' hb6 BB5 HI5
      have hBV := BW.trans (BB6.mono BW.size)
      obtain ⟨hlt, c0_, c1_, c2_, c3_, c4_, c5_, c6_, c7_, c8_, c9_⟩ := id BA
      clear c0_ c1_ c2_ c4_ c6_ c7_ c8_ c9_ BB6 BW BA
      generalize os.length = ol at *
      by_cases h0 : 0 < ol
      · have hu : u ≤ md + lf := by rcases HOE.out with h | h <;> omega
        have hd0 : decide (0 < ol) = true := by simp [h0]
        have hd1 : decide (md + lf < u) = false := decide_eq_false (by omega)
        clear HOE
        go_wp2_with fail
        refine (dForwardStep_any a' ys cb _ hy (HBY.out _ hBV)).mono ?_
        rintro e V1 ⟨a3, c3, xs2, b2, f2, n2, t2, rfl, hxl2, hpy2, hR2, BV1⟩
        have hB1 := hBV.trans (BV1.mono hBV.size)
        have Q1 : Hid (∀ U : World, Below V1.heap.size V1 U → Calls Try.prog 11 #[.slice a3 xs2.length c3, b2.v, .int .i64 f2, .int .i64 n2, .int .i64 t2] U fun e w' => e = .returned (.tuple #[.int .i64 (GP.stepK xs2 b2 f2 n2 t2), .int .i64 (GP.stepT xs2 b2 f2 n2 t2), .bool (GP.stepOk xs2 b2 f2 n2 t2)]) ∧ Below U.heap.size U w') := fun U h => stepI_any a3 c3 xs2 b2 f2 n2 t2 U (by omega) (by omega) (hR2.below h)
        have Q2 : Hid (∀ U : World, Below V1.heap.size V1 U → Calls Try.prog 12 #[.slice a3 xs2.length c3, b2.v, .int .i64 f2, .int .i64 n2, .int .i64 t2] U fun e w' => e = .returned (.tuple #[.int .i64 (GP.stepK xs2 b2 f2 n2 t2), .int .i64 (GP.stepT xs2 b2 f2 n2 t2), .bool (GP.stepOk xs2 b2 f2 n2 t2)]) ∧ Below U.heap.size U w') := fun U h => stepS_any a3 c3 xs2 b2 f2 n2 t2 U (by omega) (by omega) (hR2.below h)
        have SQ : Hid (GP.stepOk xs2 b2 f2 n2 t2 = true → _) := fun h => GP.sq_of h
        have HR2 : Hid _ := hR2
        have BA2 := BdAt.box V1 b2 25
        have BB2 := (Below.refl _ V1).alloc (Nat.le_refl _) (.cells #[.int .i64 b2.fr, .int .i64 b2.to, .bool b2.gr, .int .i64 b2.md, .int .i64 b2.no, .int .i64 b2.lf, .int .i64 b2.hp, .int .i64 b2.of, .int .i64 b2.tl, .string b2.py] 25)
        clear BV1 hBV HBY hR2
        generalize GP.stepK xs2 b2 f2 n2 t2 = SK at *
        generalize GP.stepT xs2 b2 f2 n2 t2 = ST at *
        generalize GP.stepOk xs2 b2 f2 n2 t2 = SO at *
        obtain ⟨fr2, to2, gr2, md2, no2, lf2, hp2, of2, tl2, py2⟩ := b2
        obtain ⟨hlt, c0_, c1_, c2_, c3_, c4_, c5_, c6_, c7_, c8_, c9_⟩ := id BA2
        go_wp2_with fail
        refine (Q1.out _ BB2).mono ?_
        rintro e V2 ⟨rfl, hb2⟩
        clear hlt c0_ c1_ c2_ c3_ c4_ c5_ c6_ c7_ c8_ c9_ Q1
        have BA3 := BA2.below hb2 BA2.1
        have BB3 := BB2.trans (hb2.mono BB2.size)
        clear hb2 BA2 BB2
        obtain ⟨hlt, c0_, c1_, c2_, c3_, c4_, c5_, c6_, c7_, c8_, c9_⟩ := id BA3
        go_wp2_with fail
        refine (Q2.out _ BB3).mono ?_
        rintro e V3 ⟨rfl, hb3⟩
        clear hlt c0_ c1_ c2_ c3_ c4_ c5_ c6_ c7_ c8_ c9_ Q2
        have BA4 := BA3.below hb3 BA3.1
        have BB4 := BB3.trans (hb3.mono BB3.size)
        clear hb3 BA3 BB3
        have hss : (SO != SO) = false := by simp
        have hkk : (SK != SK) = false := by simp
        have htt : (ST != ST) = false := by simp
        have hB4 := hB1.trans (BB4.mono hB1.size)
        cases SO with
        | false =>
          clear SQ HR2 BA4
          go_wp2
          go_ret
          exact ⟨rfl, hB4⟩
        | true =>
          obtain ⟨i, rfl, hil, h0, hnT, hTl, ⟨hm0, hm1⟩, hl0, hl1⟩ := SQ.out (by first | rfl | trivial)
          obtain ⟨b4, off4, rfl, hlt4, e0, -, -⟩ := (HR2.out.below BB4).at hil
          rw [h0] at e0
          obtain ⟨hlt, c0_, c1_, c2_, c3_, c4_, c5_, c6_, c7_, c8_, c9_⟩ := id BA4
          clear c0_ c1_ c2_ c4_ c6_ c7_ c8_ c9_ SQ HR2 BA4 h0
          have hff : (f2 != f2) = false := by simp
          have hd1 : decide (ST < n2) = false := decide_eq_false (by omega)
          have hd2 : decide (md2 + lf2 < ST) = false := decide_eq_false (by omega)
          go_wp2
          go_ret
          exact ⟨rfl, hB4⟩
      · have hd0 : decide (0 < ol) = false := by simp; omega
        clear HOE
        go_wp2_with fail
        refine (dForwardStep_any a' ys cb _ hy (HBY.out _ hBV)).mono ?_
        rintro e V1 ⟨a3, c3, xs2, b2, f2, n2, t2, rfl, hxl2, hpy2, hR2, BV1⟩
        have hB1 := hBV.trans (BV1.mono hBV.size)
        have Q1 : Hid (∀ U : World, Below V1.heap.size V1 U → Calls Try.prog 11 #[.slice a3 xs2.length c3, b2.v, .int .i64 f2, .int .i64 n2, .int .i64 t2] U fun e w' => e = .returned (.tuple #[.int .i64 (GP.stepK xs2 b2 f2 n2 t2), .int .i64 (GP.stepT xs2 b2 f2 n2 t2), .bool (GP.stepOk xs2 b2 f2 n2 t2)]) ∧ Below U.heap.size U w') := fun U h => stepI_any a3 c3 xs2 b2 f2 n2 t2 U (by omega) (by omega) (hR2.below h)
        have Q2 : Hid (∀ U : World, Below V1.heap.size V1 U → Calls Try.prog 12 #[.slice a3 xs2.length c3, b2.v, .int .i64 f2, .int .i64 n2, .int .i64 t2] U fun e w' => e = .returned (.tuple #[.int .i64 (GP.stepK xs2 b2 f2 n2 t2), .int .i64 (GP.stepT xs2 b2 f2 n2 t2), .bool (GP.stepOk xs2 b2 f2 n2 t2)]) ∧ Below U.heap.size U w') := fun U h => stepS_any a3 c3 xs2 b2 f2 n2 t2 U (by omega) (by omega) (hR2.below h)
        have SQ : Hid (GP.stepOk xs2 b2 f2 n2 t2 = true → _) := fun h => GP.sq_of h
        have HR2 : Hid _ := hR2
        have BA2 := BdAt.box V1 b2 25
        have BB2 := (Below.refl _ V1).alloc (Nat.le_refl _) (.cells #[.int .i64 b2.fr, .int .i64 b2.to, .bool b2.gr, .int .i64 b2.md, .int .i64 b2.no, .int .i64 b2.lf, .int .i64 b2.hp, .int .i64 b2.of, .int .i64 b2.tl, .string b2.py] 25)
        clear BV1 hBV HBY hR2
        generalize GP.stepK xs2 b2 f2 n2 t2 = SK at *
        generalize GP.stepT xs2 b2 f2 n2 t2 = ST at *
        generalize GP.stepOk xs2 b2 f2 n2 t2 = SO at *
        obtain ⟨fr2, to2, gr2, md2, no2, lf2, hp2, of2, tl2, py2⟩ := b2
        obtain ⟨hlt, c0_, c1_, c2_, c3_, c4_, c5_, c6_, c7_, c8_, c9_⟩ := id BA2
        go_wp2_with fail
        refine (Q1.out _ BB2).mono ?_
        rintro e V2 ⟨rfl, hb2⟩
        clear hlt c0_ c1_ c2_ c3_ c4_ c5_ c6_ c7_ c8_ c9_ Q1
        have BA3 := BA2.below hb2 BA2.1
        have BB3 := BB2.trans (hb2.mono BB2.size)
        clear hb2 BA2 BB2
        obtain ⟨hlt, c0_, c1_, c2_, c3_, c4_, c5_, c6_, c7_, c8_, c9_⟩ := id BA3
        go_wp2_with fail
        refine (Q2.out _ BB3).mono ?_
        rintro e V3 ⟨rfl, hb3⟩
        clear hlt c0_ c1_ c2_ c3_ c4_ c5_ c6_ c7_ c8_ c9_ Q2
        have BA4 := BA3.below hb3 BA3.1
        have BB4 := BB3.trans (hb3.mono BB3.size)
        clear hb3 BA3 BB3
        have hss : (SO != SO) = false := by simp
        have hkk : (SK != SK) = false := by simp
        have htt : (ST != ST) = false := by simp
        have hB4 := hB1.trans (BB4.mono hB1.size)
        cases SO with
        | false =>
          clear SQ HR2 BA4
          go_wp2
          go_ret
          exact ⟨rfl, hB4⟩
        | true =>
          obtain ⟨i, rfl, hil, h0, hnT, hTl, ⟨hm0, hm1⟩, hl0, hl1⟩ := SQ.out (by first | rfl | trivial)
          obtain ⟨b4, off4, rfl, hlt4, e0, -, -⟩ := (HR2.out.below BB4).at hil
          rw [h0] at e0
          obtain ⟨hlt, c0_, c1_, c2_, c3_, c4_, c5_, c6_, c7_, c8_, c9_⟩ := id BA4
          clear c0_ c1_ c2_ c4_ c6_ c7_ c8_ c9_ SQ HR2 BA4 h0
          have hff : (f2 != f2) = false := by simp
          have hd1 : decide (ST < n2) = false := decide_eq_false (by omega)
          have hd2 : decide (md2 + lf2 < ST) = false := decide_eq_false (by omega)
          go_wp2
          go_ret
          exact ⟨rfl, hB4⟩
  · go_enter Try.func3, Try.ntmps3
    go_wp2
    go_ret
    exact ⟨rfl, Below.refl _ _⟩
end Go.Proofs.Ytickoajkppgdaaa
