/- The law FnExactMeetBoth answers true at every spray and meeting. -/
import Derived.Test.YtmgfgcmmanhgaaaRows
import Derived.Test.YtmgfgcmmanhgaaaCSprX
import Derived.Test.YtmgfgcmmanhgaaaCSprM
import Derived.Test.YtmgfgcmmanhgaaaCSprL
import Derived.Test.YtmgfgcmmanhgaaaMRX
import Derived.Test.YtmgfgcmmanhgaaaMRA
import Derived.WalkKit
import Derived.WalkSpells
import Derived.WalkLawsBesides
import Derived.Outline
namespace Go.Proofs.Ytmgfgcmmanhgaaa
open Go.RowKit
theorem Try.infoSprL : (Try.prog.info? 28).map (fun i => (i.zero, i.size)) = some (some (.agg (([.slice none 0 0, .int .i64 0, .bool false] : List Value)).toArray), 3) := by kernel_rfl
theorem Try.sizeSprL : (Try.prog.info? 28).map (·.size) = some 3 := by kernel_rfl
theorem SP.own_grown2 {w w' : World} {b e sz n : Nat} {v : Value} {xs : List Value} {row : Option Nat} (h : w.ownsRow b e sz v n xs) (hg : w.grownBy w' row) (hne : ∀ k, v.ownBlock = some k → some k ≠ row) : w'.ownsRow b e sz v n xs := by
  refine ⟨h.1, ?_⟩
  rcases h.2 with h' | ⟨g1, cap, cur, rfl, hb, hgg, rest⟩
  · exact .inl h'
  · exact .inr ⟨g1, cap, cur, rfl, hb, (hg.block g1 (Array.getElem?_eq_some_iff.1 hgg).1 (hne g1 rfl)).trans hgg, rest⟩
set_option maxHeartbeats 800000 in
set_option maxRecDepth 100000 in
theorem toMeet_any (x y : Int) (w : World) : Calls Try.prog 8 #[.agg #[.int .i64 x, .int .i64 y]] w fun e w' => e = .returned (.agg #[.int .i64 x, .int .i64 y]) ∧ Below w.heap.size w w' := by
  go_enter Try.func8, Try.ntmps8
  go_wp2
  refine bodyPost_ret (v := .agg #[.int .i64 x, .int .i64 y]) (by simp [results, Try.results8, go_sem]) rfl ⟨rfl, ?_⟩
  repeat (first | exact Below.refl _ _ | refine Below.setCell ?_ (by simp) _ | refine Below.alloc ?_ (by simp; try omega) _)
set_option linter.unusedSimpArgs false in
set_option maxHeartbeats 6400000 in
set_option maxRecDepth 100000 in
theorem lawMeetSpr_any (a : Option Addr) (cap : Nat) (zs : List Int) (t : Int) (th : Bool) (x y : Int) (w : World) (hl : zs.length ≤ maxLen) (hi : M4.IntsAt w a zs) :
    Calls Try.prog 3 #[SP.sv (.slice a zs.length cap) t th, .agg #[.int .i64 x, .int .i64 y]] w fun e w' => e = .returned (.bool true) ∧ Below w.heap.size w w' := by
  unfold maxLen at hl
  have SZ : Hid (∀ W : World, Calls Try.prog 5 #[SP.sv (.slice a zs.length cap) t th, .int .i64 1048576] W fun e w' => ∃ r : Int, e = .returned (.int .i64 r) ∧ (r < 0 ∨ 0 ≤ r ∧ zs.length ≤ 1048576) ∧ Below W.heap.size W w') := fun W => szSpray_any a zs.length cap t th W (by omega)
  have TO : Hid (zs.length ≤ 1048576 → ∀ W : World, Below w.heap.size w W → Calls Try.prog 7 #[.agg #[.slice a zs.length cap, .int .i64 t, .bool th]] W fun e w' => ∃ g, e = .returned (.agg #[.slice (some ⟨g, 0, none⟩) zs.length zs.length, .int .i64 t, .bool th]) ∧ w'.ownsRow W.heap.size 3 1 (.slice (some ⟨g, 0, none⟩) zs.length zs.length) zs.length (M4.iv zs) ∧ Below W.heap.size W w') := fun hz W hb => toSpray_own a cap zs t th W hz (hi.below hb)
  have TM : Hid _ := toMeet_any x y
  have SM : Hid (zs.length ≤ 1048576 → ∀ (g : Nat) (W : World), M4.IntsAt W (some ⟨g, 0, none⟩) zs → Calls Try.prog 6 #[.agg #[.slice (some ⟨g, 0, none⟩) zs.length zs.length, .int .i64 t, .bool th], .agg #[.int .i64 x, .int .i64 y]] W fun e w' => ∃ a cap, e = .returned (.tuple #[.agg #[.slice a (SP.mL zs t th x y).length cap, .int .i64 (SP.mT zs t x y), .bool (SP.mH zs t th x y)], .bool (SP.mk zs t x y)]) ∧ w'.ownsRow W.heap.size 3 1 (.slice a (SP.mL zs t th x y).length cap) (SP.mL zs t th x y).length (M4.iv (SP.mL zs t th x y)) ∧ Below W.heap.size W w') := fun hz g W h => specMeet_any g zs.length zs t x y th W h hz
  have IM : Hid (zs.length ≤ 1048576 → ∀ (g : Nat) (W : World), M4.IntsAt W (some ⟨g, 0, none⟩) zs → Calls Try.prog 9 #[.agg #[.slice (some ⟨g, 0, none⟩) zs.length zs.length, .int .i64 t, .bool th], .agg #[.int .i64 x, .int .i64 y]] W fun e w' => ∃ a cap, e = .returned (.tuple #[.agg #[.slice a (SP.mL zs t th x y).length cap, .int .i64 (SP.mT zs t x y), .bool (SP.mH zs t th x y)], .bool (SP.mk zs t x y)]) ∧ w'.ownsRow W.heap.size 3 1 (.slice a (SP.mL zs t th x y).length cap) (SP.mL zs t th x y).length (M4.iv (SP.mL zs t th x y)) ∧ Below W.heap.size W w') := fun hz g W h => implMeet_any g zs.length zs t x y th W h hz
  have hLL : zs.length ≤ 1048576 → (SP.mL zs t th x y).length ≤ 1048576 := fun hz => by
    unfold SP.mL
    split
    · have : (SP.meetS zs t th x.toNat y.toNat).1.length = zs.length := by unfold SP.meetS; split <;> exact SP.give_len _ _ _ _ _
      omega
    · simp
  generalize SP.mL zs t th x y = L at *
  generalize SP.mT zs t x y = T at *
  generalize SP.mH zs t th x y = H at *
  generalize SP.mk zs t x y = K at *
  clear hi hl
  have BX : Below w.heap.size w ((w.alloc (.cells #[.slice a zs.length cap, .int .i64 t, .bool th] 24)).alloc (.cells #[.int .i64 x, .int .i64 y] 26)) := ((Below.refl _ _).alloc (Nat.le_refl _) _).alloc (by simp) _
  have b_A := (MA.Rg.new w [.slice a zs.length cap, .int .i64 t, .bool th] 24).alloc (.cells #[.int .i64 x, .int .i64 y] 26)
  have b_M := MA.Rg.new (w.alloc (.cells #[.slice a zs.length cap, .int .i64 t, .bool th] 24)) [.int .i64 x, .int .i64 y] 26
  rw [MA.sz_alloc] at b_M
  go_enter Try.func3, Try.ntmps3
  unfold SP.sv at SZ ⊢
  go_wp2_with fail
  refine (SZ.out _).mono ?_
  rintro e w1 ⟨r, rfl, hr, hb⟩
  change MA.Rg ((w.alloc (.cells #[.slice a zs.length cap, .int .i64 t, .bool th] 24)).alloc (.cells #[.int .i64 x, .int .i64 y] 26)) w.heap.size 0 [.slice a zs.length cap, .int .i64 t, .bool th] at b_A
  change MA.Rg ((w.alloc (.cells #[.slice a zs.length cap, .int .i64 t, .bool th] 24)).alloc (.cells #[.int .i64 x, .int .i64 y] 26)) (w.heap.size + 1) 0 [.int .i64 x, .int .i64 y] at b_M
  replace b_A := b_A.below hb b_A.lt
  replace b_M := b_M.below hb b_M.lt
  have B := BX.trans (hb.mono BX.size)
  have hlow := b_M.lt
  clear SZ BX hb
  by_cases h0 : r < 0
  · clear hr TO SM IM TM b_A b_M hLL
    go_wp2
    go_ret
    exact ⟨rfl, B⟩
  have hz : zs.length ≤ 1048576 := by omega
  have hr0 : 0 ≤ r := by omega
  replace TO : Hid _ := TO.out hz
  replace SM : Hid _ := SM.out hz
  replace IM : Hid _ := IM.out hz
  have hLz := hLL hz
  have EQ : Hid (∀ (a b : Option Addr) (ca cb : Nat) (W : World), M4.IntsAt W a L → M4.IntsAt W b L → Calls Try.prog 10 #[.agg #[.slice a L.length ca, .int .i64 T, .bool H], .agg #[.slice b L.length cb, .int .i64 T, .bool H]] W fun e w' => e = .returned (.bool true) ∧ Below W.heap.size W w') := fun a b ca cb W h1 h2 => eqSpray_any a b ca cb L T H W hLz h1 h2
  have EX : Hid (∀ (a b : Option Addr) (ca cb : Nat) (W : World), M4.IntsAt W a zs → M4.IntsAt W b zs → Calls Try.prog 10 #[.agg #[.slice a zs.length ca, .int .i64 t, .bool th], .agg #[.slice b zs.length cb, .int .i64 t, .bool th]] W fun e w' => e = .returned (.bool true) ∧ Below W.heap.size W w') := fun a b ca cb W h1 h2 => eqSpray_any a b ca cb zs t th W hz h1 h2
  have MX : Hid (∀ (base g : Nat) (W : World), W.ownsRow base 3 1 (.slice (some ⟨g, 0, none⟩) zs.length zs.length) zs.length (M4.iv zs) → Calls Try.prog 11 #[.agg #[.slice (some ⟨g, 0, none⟩) zs.length zs.length, .int .i64 t, .bool th], .int .i64 1] W fun e w' => e = .returned (.int .i64 (1 + zs.length)) ∧ w'.ownsRow base 3 1 (.slice (some ⟨g, 0, none⟩) zs.length zs.length) zs.length (M4.iv (M5.marks 1 zs.length)) ∧ W.grownBy w' (some g)) := fun base g W h => markSpray_any base (some ⟨g, 0, none⟩) zs.length zs t th W hz h
  have MK : Hid (∀ (base : Nat) (a : Option Addr) (cp : Nat) (W : World), W.ownsRow base 3 1 (.slice a L.length cp) L.length (M4.iv L) → Calls Try.prog 11 #[.agg #[.slice a L.length cp, .int .i64 T, .bool H], .int .i64 1] W fun e w' => e = .returned (.int .i64 (1 + L.length)) ∧ w'.ownsRow base 3 1 (.slice a L.length cp) L.length (M4.iv (M5.marks 1 L.length)) ∧ W.grownBy w' (Value.slice a L.length cp).ownBlock) := fun base a cp W h => markSpray_any base a cp L T H W hLz h
  have HD : Hid (∀ (a : Option Addr) (cp : Nat) (W : World), M4.IntsAt W a (M5.marks 1 L.length) → Calls Try.prog 12 #[.agg #[.slice a L.length cp, .int .i64 T, .bool H], .int .i64 1] W fun e w' => e = .returned (.int .i64 (1 + L.length)) ∧ Below W.heap.size W w') := fun a cp W h => heldSpray_any a cp L.length T H W hLz h
  have hKK : (K == K) = true := by simp
  have hMM : (((1 : Int) + L.length) == 1 + L.length) = true := by simp
  have hM0 : decide ((1 : Int) + L.length < 0) = false := decide_eq_false (by omega)
  have hX0 : decide ((1 : Int) + zs.length < 0) = false := decide_eq_false (by omega)
  clear hr hLL
  have c_A0 : w1.cell? ⟨w.heap.size, 0, none⟩ = some (.slice a zs.length cap) := by have := b_A.cell (j := 0) rfl; rwa [Nat.zero_add] at this
  have c_A1 : w1.cell? ⟨w.heap.size, 1, none⟩ = some (.int .i64 t) := by have := b_A.cell (j := 1) rfl; rwa [Nat.zero_add] at this
  have c_A2 : w1.cell? ⟨w.heap.size, 2, none⟩ = some (.bool th) := by have := b_A.cell (j := 2) rfl; rwa [Nat.zero_add] at this
  have l_A := b_A.lt
  have c_M0 : w1.cell? ⟨(w.heap.size + 1), 0, none⟩ = some (.int .i64 x) := by have := b_M.cell (j := 0) rfl; rwa [Nat.zero_add] at this
  have c_M1 : w1.cell? ⟨(w.heap.size + 1), 1, none⟩ = some (.int .i64 y) := by have := b_M.cell (j := 1) rfl; rwa [Nat.zero_add] at this
  have l_M := b_M.lt
  go_wp2_with fail
  refine MR.frame fun A hA => ?_
  have hsz : A.tmps.size = 104 := by rw [hA]; rfl
  have e2 : A.eval (.tmp 2) = .pointer (some ⟨w.heap.size, 0, none⟩) := by rw [hA]; rfl
  have f2 := MR.read (t := 2) (by rw [hsz]; decide) e2
  have e3 : A.eval (.tmp 3) = .pointer (some ⟨w.heap.size + 1, 0, none⟩) := by rw [hA]; rfl
  have f3 := MR.read (t := 3) (by rw [hsz]; decide) e3
  have HA : Hid (A = _) := hA
  clear hA
  refine MR.cut (fun aa w' => ∃ (g1 : Nat) (a1 : Option Addr) (q1 : Nat) (q : Nat), aa = ((((((((((A.put (some 22) (.agg #[.slice a zs.length cap, .int .i64 t, .bool th])).put (some 24) (.agg #[.int .i64 x, .int .i64 y])).put (some 23) (.agg #[.slice (some ⟨g1, 0, none⟩) zs.length zs.length, .int .i64 t, .bool th])).put (some 25) (.agg #[.int .i64 x, .int .i64 y])).put (some 26) (.tuple #[.agg #[.slice a1 L.length q1, .int .i64 T, .bool H], .bool K])).put (some 21) (.tuple #[.agg #[.slice a1 L.length q1, .int .i64 T, .bool H], .bool K])).put (some 27) (.agg #[.slice a1 L.length q1, .int .i64 T, .bool H])).put (some 28) (.bool K)).put (some 6) (.pointer (some ⟨q, 0, none⟩))).put (some 7) (.bool K)) ∧ Hid (Below w1.heap.size w1 w' ∧ w1.heap.size ≤ q ∧ MA.Rg w' q 0 [.slice a1 L.length q1, .int .i64 T, .bool H] ∧ World.ownsRow w' w1.heap.size 3 1 (.slice a1 L.length q1) L.length (M4.iv L) ∧ (Value.slice a1 L.length q1).ownBlock ≠ some q)) ?_ ?_
  · have hS : (fun w' : World => Below w1.heap.size w1 w') (World.drew _) := ((Below.refl _ w1).drew)
    refine wp_region_held (S := fun w' : World => Below w1.heap.size w1 w') (by kernel_rfl) ?_
    change wpAnyH _ _ _ _ _ _ _ _ (World.drew _)
    refine MR.takeH (i := 0) (some 22) (.agg #[.slice a zs.length cap, .int .i64 t, .bool th]) rfl rfl (by kernel_rfl) (by kernel_rfl) (by kernel_rfl) nofun hS (MR.free rfl) (fun wq hw => by simp [execOp, MR.ev, MR.size, hsz, e2, f2, e3, f3, (hw.cell (p := ⟨w.heap.size, 0, none⟩) l_A).trans c_A0, (hw.cell (p := ⟨w.heap.size, 1, none⟩) l_A).trans c_A1, (hw.cell (p := ⟨w.heap.size, 2, none⟩) l_A).trans c_A2, go_sem]) ?_
    refine MR.takeH (i := 2) (some 24) (.agg #[.int .i64 x, .int .i64 y]) rfl rfl (by kernel_rfl) (by kernel_rfl) (by kernel_rfl) nofun hS (MR.free rfl) (fun wq hw => by simp [execOp, MR.ev, MR.size, hsz, e2, f2, e3, f3, (hw.cell (p := ⟨(w.heap.size + 1), 0, none⟩) l_M).trans c_M0, (hw.cell (p := ⟨(w.heap.size + 1), 1, none⟩) l_M).trans c_M1, go_sem]) ?_
    generalize hwd : World.drew w1 = v0 at hS ⊢
    clear hwd
    refine MR.pack (fun G hG => ?_)
    have D3 : ∀ (g1 : Nat) (a1 : Option Addr) (q1 : Nat) (q : Nat) (W : World) (hS : Below w1.heap.size w1 W) (hg1 : M4.IntsAt W (some ⟨g1, 0, none⟩) zs) (hy : World.ownsRow W w1.heap.size 3 1 (.slice a1 L.length q1) L.length (M4.iv L)) (hnq : (Value.slice a1 L.length q1).ownBlock ≠ some q) (hq : MA.Rg W q 0 [.slice none 0 0, .int .i64 0, .bool false]) (hq0 : w1.heap.size ≤ q), G 2 #[true, true, true, true, true, true, true, true, true, false, false] (((((((((A.put (some 22) (.agg #[.slice a zs.length cap, .int .i64 t, .bool th])).put (some 24) (.agg #[.int .i64 x, .int .i64 y])).put (some 23) (.agg #[.slice (some ⟨g1, 0, none⟩) zs.length zs.length, .int .i64 t, .bool th])).put (some 25) (.agg #[.int .i64 x, .int .i64 y])).put (some 26) (.tuple #[.agg #[.slice a1 L.length q1, .int .i64 T, .bool H], .bool K])).put (some 21) (.tuple #[.agg #[.slice a1 L.length q1, .int .i64 T, .bool H], .bool K])).put (some 27) (.agg #[.slice a1 L.length q1, .int .i64 T, .bool H])).put (some 28) (.bool K)).put (some 6) (.pointer (some ⟨q, 0, none⟩))) W := by
      intro g1 a1 q1 q W hS hg1 hy hnq hq hq0
      rw [hG]
      have hSz : Below w1.heap.size w1 (W.setCells q 0 [.slice a1 L.length q1, .int .i64 T, .bool H]) := MA.below_cells hq0 _ _ _ hS
      have hO : MC.Only q W (W.setCells q 0 [.slice a1 L.length q1, .int .i64 T, .bool H]) := RA.only_cells q _ 0 W
      refine MR.storeN (i := 9) (by kernel_rfl) rfl rfl (MR.free rfl) (MA.ex_store (vs := [.slice a1 L.length q1, .int .i64 T, .bool H]) rfl (by simp [MR.ev, MR.size, hsz, e2, f2, e3, f3]) (by simp [MR.ev, MR.size, hsz, e2, f2, e3, f3]) hq.ok Try.sizeSprL rfl (by simp [Value.oneCell'])) ⟨hSz, ?_⟩
      refine MR.takeH (i := 10) (some 7) (.bool K) rfl rfl (by kernel_rfl) (by kernel_rfl) (by kernel_rfl) nofun hSz (MR.free rfl) (fun wq hw => by simp [execOp, MR.ev, MR.size, hsz, e2, f2, e3, f3, go_sem]) ?_
      exact wpAnyH_done (by kernel_rfl) ⟨rfl, g1, a1, q1, q, rfl, ⟨hSz, hq0, hq.put rfl, SP.own_only2 hy hO hnq, hnq⟩⟩ _
    have D2 : ∀ (g1 : Nat) (q : Nat) (W : World) (hS : Below w1.heap.size w1 W) (hg1 : M4.IntsAt W (some ⟨g1, 0, none⟩) zs) (hq : MA.Rg W q 0 [.slice none 0 0, .int .i64 0, .bool false]) (hq0 : w1.heap.size ≤ q), G 6 #[true, true, true, true, false, false, false, false, true, false, false] (((((A.put (some 22) (.agg #[.slice a zs.length cap, .int .i64 t, .bool th])).put (some 24) (.agg #[.int .i64 x, .int .i64 y])).put (some 23) (.agg #[.slice (some ⟨g1, 0, none⟩) zs.length zs.length, .int .i64 t, .bool th])).put (some 25) (.agg #[.int .i64 x, .int .i64 y])).put (some 6) (.pointer (some ⟨q, 0, none⟩))) W := by
      intro g1 q W hS hg1 hq hq0
      rw [hG]
      refine MR.callH (i := 4) (some 26) (6) (#[.agg #[.slice (some ⟨g1, 0, none⟩) zs.length zs.length, .int .i64 t, .bool th], .agg #[.int .i64 x, .int .i64 y]]) (by kernel_rfl) rfl rfl (MR.free rfl) (by simp [execOp, MR.ev, MR.size, hsz, e2, f2, e3, f3, go_sem]) ?_
      refine Calls.mono (SM.out g1 W hg1) ?_
      rintro e W' ⟨a1, q1, rfl, ho, hb⟩
      have hS' : Below w1.heap.size w1 W' := hS.trans (hb.mono hS.size)
      refine ⟨_, rfl, hS', ?_⟩
      refine MR.takeH (i := 5) (some 21) (.tuple #[.agg #[.slice a1 L.length q1, .int .i64 T, .bool H], .bool K]) rfl rfl (by kernel_rfl) (by kernel_rfl) (by kernel_rfl) nofun hS' (MR.free rfl) (fun wq hw => by simp [execOp, MR.ev, MR.size, hsz, e2, f2, e3, f3, go_sem]) ?_
      refine MR.takeH (i := 6) (some 27) (.agg #[.slice a1 L.length q1, .int .i64 T, .bool H]) rfl rfl (by kernel_rfl) (by kernel_rfl) (by kernel_rfl) nofun hS' (MR.free rfl) (fun wq hw => by simp [execOp, MR.ev, MR.size, hsz, e2, f2, e3, f3, go_sem]) ?_
      refine MR.takeH (i := 7) (some 28) (.bool K) rfl rfl (by kernel_rfl) (by kernel_rfl) (by kernel_rfl) nofun hS' (MR.free rfl) (fun wq hw => by simp [execOp, MR.ev, MR.size, hsz, e2, f2, e3, f3, go_sem]) ?_
      rw [MR.put_comm _ _ _ (show 6 ≠ 26 by decide)]
      rw [MR.put_comm _ _ _ (show 6 ≠ 21 by decide)]
      rw [MR.put_comm _ _ _ (show 6 ≠ 27 by decide)]
      rw [MR.put_comm _ _ _ (show 6 ≠ 28 by decide)]
      have hR := D3 _ _ _ _ _ hS' (hg1.below hb) (SP.own_le ho hS.size) (fun e => by have h8 := (ho.lt _ e).1; have h9 := hq.lt; omega) (hq.below hb hq.lt) hq0
      rw [hG] at hR
      exact hR
    have D1 : ∀ (g1 : Nat) (q : Nat) (W : World) (hS : Below w1.heap.size w1 W) (hg1 : M4.IntsAt W (some ⟨g1, 0, none⟩) zs) (hq : MA.Rg W q 0 [.slice none 0 0, .int .i64 0, .bool false]) (hq0 : w1.heap.size ≤ q), G 7 #[true, true, true, false, false, false, false, false, true, false, false] ((((A.put (some 22) (.agg #[.slice a zs.length cap, .int .i64 t, .bool th])).put (some 24) (.agg #[.int .i64 x, .int .i64 y])).put (some 23) (.agg #[.slice (some ⟨g1, 0, none⟩) zs.length zs.length, .int .i64 t, .bool th])).put (some 6) (.pointer (some ⟨q, 0, none⟩))) W := by
      intro g1 q W hS hg1 hq hq0
      rw [hG]
      refine MR.callH (i := 3) (some 25) (8) (#[.agg #[.int .i64 x, .int .i64 y]]) (by kernel_rfl) rfl rfl (MR.free rfl) (by simp [execOp, MR.ev, MR.size, hsz, e2, f2, e3, f3, go_sem]) ?_
      refine Calls.mono (TM.out W) ?_
      rintro e W' ⟨rfl, hb⟩
      have hS' : Below w1.heap.size w1 W' := hS.trans (hb.mono hS.size)
      refine ⟨_, rfl, hS', ?_⟩
      rw [MR.put_comm _ _ _ (show 6 ≠ 25 by decide)]
      have hR := D2 _ _ _ hS' (hg1.below hb) (hq.below hb hq.lt) hq0
      rw [hG] at hR
      exact hR
    have D0 : ∀ (q : Nat) (W : World) (hS : Below w1.heap.size w1 W) (hq : MA.Rg W q 0 [.slice none 0 0, .int .i64 0, .bool false]) (hq0 : w1.heap.size ≤ q), G 8 #[true, false, true, false, false, false, false, false, true, false, false] (((A.put (some 22) (.agg #[.slice a zs.length cap, .int .i64 t, .bool th])).put (some 24) (.agg #[.int .i64 x, .int .i64 y])).put (some 6) (.pointer (some ⟨q, 0, none⟩))) W := by
      intro q W hS hq hq0
      rw [hG]
      refine MR.callH (i := 1) (some 23) (7) (#[.agg #[.slice a zs.length cap, .int .i64 t, .bool th]]) (by kernel_rfl) rfl rfl (MR.free rfl) (by simp [execOp, MR.ev, MR.size, hsz, e2, f2, e3, f3, go_sem]) ?_
      refine Calls.mono (TO.out W (B.trans (hS.mono B.size))) ?_
      rintro e W' ⟨g1, rfl, ho, hb⟩
      have hS' : Below w1.heap.size w1 W' := hS.trans (hb.mono hS.size)
      refine ⟨_, rfl, hS', ?_⟩
      rw [MR.put_comm _ _ _ (show 6 ≠ 23 by decide)]
      have hR := D1 _ _ _ hS' (M4.IntsAt.of_own ho) (hq.below hb hq.lt) hq0
      rw [hG] at hR
      exact hR
    have U3 : ∀ (g1 : Nat) (a1 : Option Addr) (q1 : Nat) (W : World) (hS : Below w1.heap.size w1 W) (hg1 : M4.IntsAt W (some ⟨g1, 0, none⟩) zs) (hy : World.ownsRow W w1.heap.size 3 1 (.slice a1 L.length q1) L.length (M4.iv L)), G 3 #[true, true, true, true, true, true, true, true, false, false, false] ((((((((A.put (some 22) (.agg #[.slice a zs.length cap, .int .i64 t, .bool th])).put (some 24) (.agg #[.int .i64 x, .int .i64 y])).put (some 23) (.agg #[.slice (some ⟨g1, 0, none⟩) zs.length zs.length, .int .i64 t, .bool th])).put (some 25) (.agg #[.int .i64 x, .int .i64 y])).put (some 26) (.tuple #[.agg #[.slice a1 L.length q1, .int .i64 T, .bool H], .bool K])).put (some 21) (.tuple #[.agg #[.slice a1 L.length q1, .int .i64 T, .bool H], .bool K])).put (some 27) (.agg #[.slice a1 L.length q1, .int .i64 T, .bool H])).put (some 28) (.bool K)) W := by
      intro g1 a1 q1 W hS hg1 hy
      rw [hG]
      refine MR.nowH (i := 8) (some 6) (.pointer (some ⟨W.heap.size, 0, none⟩)) (by kernel_rfl) rfl rfl (MR.free rfl) (MR.ex_alloc _ rfl [.slice none 0 0, .int .i64 0, .bool false] 3 Try.infoSprL) ?_
      have hb : Below W.heap.size W (W.alloc (.cells #[.slice none 0 0, .int .i64 0, .bool false] 28)) := (Below.refl _ W).alloc (Nat.le_refl _) _
      have hS' := hS.trans (hb.mono hS.size)
      refine ⟨hS', ?_⟩
      have hR := D3 _ _ _ _ _ hS' (hg1.below hb) (M5.own_below hy hb) (fun e => by have h9 := (hy.lt _ e).2; omega) (MA.Rg.new W [.slice none 0 0, .int .i64 0, .bool false] 28) hS.size
      rw [hG] at hR
      exact hR
    have U2 : ∀ (g1 : Nat) (W : World) (hS : Below w1.heap.size w1 W) (hg1 : M4.IntsAt W (some ⟨g1, 0, none⟩) zs), G 7 #[true, true, true, true, false, false, false, false, false, false, false] ((((A.put (some 22) (.agg #[.slice a zs.length cap, .int .i64 t, .bool th])).put (some 24) (.agg #[.int .i64 x, .int .i64 y])).put (some 23) (.agg #[.slice (some ⟨g1, 0, none⟩) zs.length zs.length, .int .i64 t, .bool th])).put (some 25) (.agg #[.int .i64 x, .int .i64 y])) W := by
      intro g1 W hS hg1
      rw [hG]
      refine MR.two (i := 4) (j := 8) (by kernel_rfl) ?_ ?_
      · skip
        refine MR.callW (some 26) (6) (#[.agg #[.slice (some ⟨g1, 0, none⟩) zs.length zs.length, .int .i64 t, .bool th], .agg #[.int .i64 x, .int .i64 y]]) rfl rfl (MR.free rfl) (by simp [execOp, MR.ev, MR.size, hsz, e2, f2, e3, f3, go_sem]) ?_
        refine Calls.mono (SM.out g1 W hg1) ?_
        rintro e W' ⟨a1, q1, rfl, ho, hb⟩
        have hS' : Below w1.heap.size w1 W' := hS.trans (hb.mono hS.size)
        refine ⟨_, rfl, hS', ?_⟩
        refine MR.takeH (i := 5) (some 21) (.tuple #[.agg #[.slice a1 L.length q1, .int .i64 T, .bool H], .bool K]) rfl rfl (by kernel_rfl) (by kernel_rfl) (by kernel_rfl) nofun hS' (MR.free rfl) (fun wq hw => by simp [execOp, MR.ev, MR.size, hsz, e2, f2, e3, f3, go_sem]) ?_
        refine MR.takeH (i := 6) (some 27) (.agg #[.slice a1 L.length q1, .int .i64 T, .bool H]) rfl rfl (by kernel_rfl) (by kernel_rfl) (by kernel_rfl) nofun hS' (MR.free rfl) (fun wq hw => by simp [execOp, MR.ev, MR.size, hsz, e2, f2, e3, f3, go_sem]) ?_
        refine MR.takeH (i := 7) (some 28) (.bool K) rfl rfl (by kernel_rfl) (by kernel_rfl) (by kernel_rfl) nofun hS' (MR.free rfl) (fun wq hw => by simp [execOp, MR.ev, MR.size, hsz, e2, f2, e3, f3, go_sem]) ?_
        have hR := U3 _ _ _ _ hS' (hg1.below hb) (SP.own_le ho hS.size)
        rw [hG] at hR
        exact hR
      · skip
        refine MR.nowW (some 6) (.pointer (some ⟨W.heap.size, 0, none⟩)) rfl rfl (MR.free rfl) (MR.ex_alloc _ rfl [.slice none 0 0, .int .i64 0, .bool false] 3 Try.infoSprL) ?_
        have hb : Below W.heap.size W (W.alloc (.cells #[.slice none 0 0, .int .i64 0, .bool false] 28)) := (Below.refl _ W).alloc (Nat.le_refl _) _
        have hS' := hS.trans (hb.mono hS.size)
        refine ⟨hS', ?_⟩
        have hR := D2 _ _ _ hS' (hg1.below hb) (MA.Rg.new W [.slice none 0 0, .int .i64 0, .bool false] 28) hS.size
        rw [hG] at hR
        exact hR
    have U1 : ∀ (g1 : Nat) (W : World) (hS : Below w1.heap.size w1 W) (hg1 : M4.IntsAt W (some ⟨g1, 0, none⟩) zs), G 8 #[true, true, true, false, false, false, false, false, false, false, false] (((A.put (some 22) (.agg #[.slice a zs.length cap, .int .i64 t, .bool th])).put (some 24) (.agg #[.int .i64 x, .int .i64 y])).put (some 23) (.agg #[.slice (some ⟨g1, 0, none⟩) zs.length zs.length, .int .i64 t, .bool th])) W := by
      intro g1 W hS hg1
      rw [hG]
      refine MR.two (i := 3) (j := 8) (by kernel_rfl) ?_ ?_
      · skip
        refine MR.callW (some 25) (8) (#[.agg #[.int .i64 x, .int .i64 y]]) rfl rfl (MR.free rfl) (by simp [execOp, MR.ev, MR.size, hsz, e2, f2, e3, f3, go_sem]) ?_
        refine Calls.mono (TM.out W) ?_
        rintro e W' ⟨rfl, hb⟩
        have hS' : Below w1.heap.size w1 W' := hS.trans (hb.mono hS.size)
        refine ⟨_, rfl, hS', ?_⟩
        have hR := U2 _ _ hS' (hg1.below hb)
        rw [hG] at hR
        exact hR
      · skip
        refine MR.nowW (some 6) (.pointer (some ⟨W.heap.size, 0, none⟩)) rfl rfl (MR.free rfl) (MR.ex_alloc _ rfl [.slice none 0 0, .int .i64 0, .bool false] 3 Try.infoSprL) ?_
        have hb : Below W.heap.size W (W.alloc (.cells #[.slice none 0 0, .int .i64 0, .bool false] 28)) := (Below.refl _ W).alloc (Nat.le_refl _) _
        have hS' := hS.trans (hb.mono hS.size)
        refine ⟨hS', ?_⟩
        have hR := D1 _ _ _ hS' (hg1.below hb) (MA.Rg.new W [.slice none 0 0, .int .i64 0, .bool false] 28) hS.size
        rw [hG] at hR
        exact hR
    have U0 : ∀ (W : World) (hS : Below w1.heap.size w1 W), G 9 #[true, false, true, false, false, false, false, false, false, false, false] ((A.put (some 22) (.agg #[.slice a zs.length cap, .int .i64 t, .bool th])).put (some 24) (.agg #[.int .i64 x, .int .i64 y])) W := by
      intro W hS
      rw [hG]
      refine MR.two (i := 1) (j := 8) (by kernel_rfl) ?_ ?_
      · skip
        refine MR.callW (some 23) (7) (#[.agg #[.slice a zs.length cap, .int .i64 t, .bool th]]) rfl rfl (MR.free rfl) (by simp [execOp, MR.ev, MR.size, hsz, e2, f2, e3, f3, go_sem]) ?_
        refine Calls.mono (TO.out W (B.trans (hS.mono B.size))) ?_
        rintro e W' ⟨g1, rfl, ho, hb⟩
        have hS' : Below w1.heap.size w1 W' := hS.trans (hb.mono hS.size)
        refine ⟨_, rfl, hS', ?_⟩
        have hR := U1 _ _ hS' (M4.IntsAt.of_own ho)
        rw [hG] at hR
        exact hR
      · skip
        refine MR.nowW (some 6) (.pointer (some ⟨W.heap.size, 0, none⟩)) rfl rfl (MR.free rfl) (MR.ex_alloc _ rfl [.slice none 0 0, .int .i64 0, .bool false] 3 Try.infoSprL) ?_
        have hb : Below W.heap.size W (W.alloc (.cells #[.slice none 0 0, .int .i64 0, .bool false] 28)) := (Below.refl _ W).alloc (Nat.le_refl _) _
        have hS' := hS.trans (hb.mono hS.size)
        refine ⟨hS', ?_⟩
        have hR := D0 _ _ hS' (MA.Rg.new W [.slice none 0 0, .int .i64 0, .bool false] 28) hS.size
        rw [hG] at hR
        exact hR
    exact U0 _ hS
  rintro aa w2 ⟨g1, a1, q1, q_S, rfl, hf⟩
  rw [HA.out]
  obtain ⟨hb, hq_S, b_S, ho, hnq_S⟩ := hf.out
  clear hf HA hsz e2 f2 e3 f3
  have r_S : Hid (World.ownsRow w2 w1.heap.size 3 1 (.slice a1 L.length q1) L.length (M4.iv L)) := ho
  have lt_S : ∀ k, (Value.slice a1 L.length q1).ownBlock = some k → w1.heap.size ≤ k ∧ k < w2.heap.size := fun k e => ho.lt k e
  have Hlt_S : Hid _ := lt_S
  clear ho lt_S
  have lb_S := b_S.lt
  simp only [Act.put, List.setIfInBounds_toArray, List.set_cons_succ, List.set_cons_zero]
  replace b_A : MA.Rg w2 w.heap.size 0 [.slice a zs.length cap, .int .i64 t, .bool th] := b_A.below hb b_A.lt
  replace b_M : MA.Rg w2 (w.heap.size + 1) 0 [.int .i64 x, .int .i64 y] := b_M.below hb b_M.lt
  replace B := B.trans (hb.mono B.size)
  have hsw2 := hb.size
  clear hb
  clear SM c_A0 c_A1 c_A2 l_A c_M0 c_M1 l_M
  have c_A0 : w2.cell? ⟨w.heap.size, 0, none⟩ = some (.slice a zs.length cap) := by have := b_A.cell (j := 0) rfl; rwa [Nat.zero_add] at this
  have c_A1 : w2.cell? ⟨w.heap.size, 1, none⟩ = some (.int .i64 t) := by have := b_A.cell (j := 1) rfl; rwa [Nat.zero_add] at this
  have c_A2 : w2.cell? ⟨w.heap.size, 2, none⟩ = some (.bool th) := by have := b_A.cell (j := 2) rfl; rwa [Nat.zero_add] at this
  have l_A := b_A.lt
  go_wp2_with fail
  refine Calls.mono (TO.out _ B) ?_
  rintro e w3 ⟨gx, rfl, ho, hb⟩
  clear c_A0 c_A1 c_A2 l_A
  have hgx := ho.lt gx rfl
  replace b_A : MA.Rg w3 w.heap.size 0 [.slice a zs.length cap, .int .i64 t, .bool th] := b_A.below hb b_A.lt
  replace b_M : MA.Rg w3 (w.heap.size + 1) 0 [.int .i64 x, .int .i64 y] := b_M.below hb b_M.lt
  replace b_S : MA.Rg w3 q_S 0 [.slice a1 L.length q1, .int .i64 T, .bool H] := b_S.below hb b_S.lt
  replace r_S : Hid (World.ownsRow w3 w1.heap.size 3 1 (.slice a1 L.length q1) L.length (M4.iv L)) := M5.own_below r_S.out hb
  replace B := B.trans (hb.mono B.size)
  have hsw3 := hb.size
  clear hb
  have r_X : Hid (World.ownsRow w3 w2.heap.size 3 1 (.slice (some ⟨gx, 0, none⟩) zs.length zs.length) zs.length (M4.iv zs)) := ho
  clear ho
  go_wp2_with fail
  have hb : Below w3.heap.size w3 (w3.alloc (.cells #[.slice (some ⟨gx, 0, none⟩) zs.length zs.length, .int .i64 t, .bool th] 28)) := (Below.refl _ _).alloc (Nat.le_refl _) _
  have b_X := MA.Rg.new w3 [.slice (some ⟨gx, 0, none⟩) zs.length zs.length, .int .i64 t, .bool th] 28
  obtain ⟨q_X, hq_X⟩ : ∃ q, w3.heap.size = q := ⟨_, rfl⟩
  rw [hq_X] at b_X ⊢
  change MA.Rg (w3.alloc (.cells #[.slice (some ⟨gx, 0, none⟩) zs.length zs.length, .int .i64 t, .bool th] 28)) q_X 0 [.slice (some ⟨gx, 0, none⟩) zs.length zs.length, .int .i64 t, .bool th] at b_X
  generalize w3.alloc (.cells #[.slice (some ⟨gx, 0, none⟩) zs.length zs.length, .int .i64 t, .bool th] 28) = w4 at *
  have lb_X := b_X.lt
  replace b_A : MA.Rg w4 w.heap.size 0 [.slice a zs.length cap, .int .i64 t, .bool th] := b_A.below hb b_A.lt
  replace b_M : MA.Rg w4 (w.heap.size + 1) 0 [.int .i64 x, .int .i64 y] := b_M.below hb b_M.lt
  replace b_S : MA.Rg w4 q_S 0 [.slice a1 L.length q1, .int .i64 T, .bool H] := b_S.below hb b_S.lt
  replace r_S : Hid (World.ownsRow w4 w1.heap.size 3 1 (.slice a1 L.length q1) L.length (M4.iv L)) := M5.own_below r_S.out hb
  replace r_X : Hid (World.ownsRow w4 w2.heap.size 3 1 (.slice (some ⟨gx, 0, none⟩) zs.length zs.length) zs.length (M4.iv zs)) := M5.own_below r_X.out hb
  replace B := B.trans (hb.mono B.size)
  have hsw4 := hb.size
  clear hb
  have c_X0 : w4.cell? ⟨q_X, 0, none⟩ = some (.slice (some ⟨gx, 0, none⟩) zs.length zs.length) := by have := b_X.cell (j := 0) rfl; rwa [Nat.zero_add] at this
  have c_X1 : w4.cell? ⟨q_X, 1, none⟩ = some (.int .i64 t) := by have := b_X.cell (j := 1) rfl; rwa [Nat.zero_add] at this
  have c_X2 : w4.cell? ⟨q_X, 2, none⟩ = some (.bool th) := by have := b_X.cell (j := 2) rfl; rwa [Nat.zero_add] at this
  have l_X := b_X.lt
  have c_M0 : w4.cell? ⟨(w.heap.size + 1), 0, none⟩ = some (.int .i64 x) := by have := b_M.cell (j := 0) rfl; rwa [Nat.zero_add] at this
  have c_M1 : w4.cell? ⟨(w.heap.size + 1), 1, none⟩ = some (.int .i64 y) := by have := b_M.cell (j := 1) rfl; rwa [Nat.zero_add] at this
  have l_M := b_M.lt
  have hxI : Hid (M4.IntsAt w4 (some ⟨gx, 0, none⟩) zs) := M5.own_ints r_X.out
  refine MR.frame fun A hA => ?_
  have hsz : A.tmps.size = 104 := by rw [hA]; rfl
  have e8 : A.eval (.tmp 8) = .pointer (some ⟨q_X, 0, none⟩) := by rw [hA]; rfl
  have f8 := MR.read (t := 8) (by rw [hsz]; decide) e8
  have e3 : A.eval (.tmp 3) = .pointer (some ⟨w.heap.size + 1, 0, none⟩) := by rw [hA]; rfl
  have f3 := MR.read (t := 3) (by rw [hsz]; decide) e3
  have HA : Hid (A = _) := hA
  clear hA
  refine MR.cut (fun aa w' => ∃ (a2 : Option Addr) (q2 : Nat) (q : Nat), aa = (((((((((A.put (some 32) (.agg #[.slice (some ⟨gx, 0, none⟩) zs.length zs.length, .int .i64 t, .bool th])).put (some 33) (.agg #[.int .i64 x, .int .i64 y])).put (some 34) (.agg #[.int .i64 x, .int .i64 y])).put (some 35) (.tuple #[.agg #[.slice a2 L.length q2, .int .i64 T, .bool H], .bool K])).put (some 31) (.tuple #[.agg #[.slice a2 L.length q2, .int .i64 T, .bool H], .bool K])).put (some 36) (.agg #[.slice a2 L.length q2, .int .i64 T, .bool H])).put (some 37) (.bool K)).put (some 9) (.pointer (some ⟨q, 0, none⟩))).put (some 10) (.bool K)) ∧ Hid (Below w4.heap.size w4 w' ∧ w4.heap.size ≤ q ∧ MA.Rg w' q 0 [.slice a2 L.length q2, .int .i64 T, .bool H] ∧ World.ownsRow w' w4.heap.size 3 1 (.slice a2 L.length q2) L.length (M4.iv L) ∧ (Value.slice a2 L.length q2).ownBlock ≠ some q)) ?_ ?_
  · have hS : (fun w' : World => Below w4.heap.size w4 w') (World.drew _) := ((Below.refl _ w4).drew)
    refine wp_region_held (S := fun w' : World => Below w4.heap.size w4 w') (by kernel_rfl) ?_
    change wpAnyH _ _ _ _ _ _ _ _ (World.drew _)
    refine MR.takeH (i := 0) (some 32) (.agg #[.slice (some ⟨gx, 0, none⟩) zs.length zs.length, .int .i64 t, .bool th]) rfl rfl (by kernel_rfl) (by kernel_rfl) (by kernel_rfl) nofun hS (MR.free rfl) (fun wq hw => by simp [execOp, MR.ev, MR.size, hsz, e8, f8, e3, f3, (hw.cell (p := ⟨q_X, 0, none⟩) l_X).trans c_X0, (hw.cell (p := ⟨q_X, 1, none⟩) l_X).trans c_X1, (hw.cell (p := ⟨q_X, 2, none⟩) l_X).trans c_X2, go_sem]) ?_
    refine MR.takeH (i := 1) (some 33) (.agg #[.int .i64 x, .int .i64 y]) rfl rfl (by kernel_rfl) (by kernel_rfl) (by kernel_rfl) nofun hS (MR.free rfl) (fun wq hw => by simp [execOp, MR.ev, MR.size, hsz, e8, f8, e3, f3, (hw.cell (p := ⟨(w.heap.size + 1), 0, none⟩) l_M).trans c_M0, (hw.cell (p := ⟨(w.heap.size + 1), 1, none⟩) l_M).trans c_M1, go_sem]) ?_
    generalize hwd : World.drew w4 = v0 at hS ⊢
    clear hwd
    refine MR.pack (fun G hG => ?_)
    have D2 : ∀ (a2 : Option Addr) (q2 : Nat) (q : Nat) (W : World) (hS : Below w4.heap.size w4 W) (hy : World.ownsRow W w4.heap.size 3 1 (.slice a2 L.length q2) L.length (M4.iv L)) (hnq : (Value.slice a2 L.length q2).ownBlock ≠ some q) (hq : MA.Rg W q 0 [.slice none 0 0, .int .i64 0, .bool false]) (hq0 : w4.heap.size ≤ q), G 2 #[true, true, true, true, true, true, true, true, false, false] ((((((((A.put (some 32) (.agg #[.slice (some ⟨gx, 0, none⟩) zs.length zs.length, .int .i64 t, .bool th])).put (some 33) (.agg #[.int .i64 x, .int .i64 y])).put (some 34) (.agg #[.int .i64 x, .int .i64 y])).put (some 35) (.tuple #[.agg #[.slice a2 L.length q2, .int .i64 T, .bool H], .bool K])).put (some 31) (.tuple #[.agg #[.slice a2 L.length q2, .int .i64 T, .bool H], .bool K])).put (some 36) (.agg #[.slice a2 L.length q2, .int .i64 T, .bool H])).put (some 37) (.bool K)).put (some 9) (.pointer (some ⟨q, 0, none⟩))) W := by
      intro a2 q2 q W hS hy hnq hq hq0
      rw [hG]
      have hSz : Below w4.heap.size w4 (W.setCells q 0 [.slice a2 L.length q2, .int .i64 T, .bool H]) := MA.below_cells hq0 _ _ _ hS
      have hO : MC.Only q W (W.setCells q 0 [.slice a2 L.length q2, .int .i64 T, .bool H]) := RA.only_cells q _ 0 W
      refine MR.storeN (i := 8) (by kernel_rfl) rfl rfl (MR.free rfl) (MA.ex_store (vs := [.slice a2 L.length q2, .int .i64 T, .bool H]) rfl (by simp [MR.ev, MR.size, hsz, e8, f8, e3, f3]) (by simp [MR.ev, MR.size, hsz, e8, f8, e3, f3]) hq.ok Try.sizeSprL rfl (by simp [Value.oneCell'])) ⟨hSz, ?_⟩
      refine MR.takeH (i := 9) (some 10) (.bool K) rfl rfl (by kernel_rfl) (by kernel_rfl) (by kernel_rfl) nofun hSz (MR.free rfl) (fun wq hw => by simp [execOp, MR.ev, MR.size, hsz, e8, f8, e3, f3, go_sem]) ?_
      exact wpAnyH_done (by kernel_rfl) ⟨rfl, a2, q2, q, rfl, ⟨hSz, hq0, hq.put rfl, SP.own_only2 hy hO hnq, hnq⟩⟩ _
    have D1 : ∀ (q : Nat) (W : World) (hS : Below w4.heap.size w4 W) (hq : MA.Rg W q 0 [.slice none 0 0, .int .i64 0, .bool false]) (hq0 : w4.heap.size ≤ q), G 6 #[true, true, true, false, false, false, false, true, false, false] ((((A.put (some 32) (.agg #[.slice (some ⟨gx, 0, none⟩) zs.length zs.length, .int .i64 t, .bool th])).put (some 33) (.agg #[.int .i64 x, .int .i64 y])).put (some 34) (.agg #[.int .i64 x, .int .i64 y])).put (some 9) (.pointer (some ⟨q, 0, none⟩))) W := by
      intro q W hS hq hq0
      rw [hG]
      refine MR.callH (i := 3) (some 35) (9) (#[.agg #[.slice (some ⟨gx, 0, none⟩) zs.length zs.length, .int .i64 t, .bool th], .agg #[.int .i64 x, .int .i64 y]]) (by kernel_rfl) rfl rfl (MR.free rfl) (by simp [execOp, MR.ev, MR.size, hsz, e8, f8, e3, f3, go_sem]) ?_
      refine Calls.mono (IM.out gx W (hxI.out.below hS)) ?_
      rintro e W' ⟨a2, q2, rfl, ho, hb⟩
      have hS' : Below w4.heap.size w4 W' := hS.trans (hb.mono hS.size)
      refine ⟨_, rfl, hS', ?_⟩
      refine MR.takeH (i := 4) (some 31) (.tuple #[.agg #[.slice a2 L.length q2, .int .i64 T, .bool H], .bool K]) rfl rfl (by kernel_rfl) (by kernel_rfl) (by kernel_rfl) nofun hS' (MR.free rfl) (fun wq hw => by simp [execOp, MR.ev, MR.size, hsz, e8, f8, e3, f3, go_sem]) ?_
      refine MR.takeH (i := 5) (some 36) (.agg #[.slice a2 L.length q2, .int .i64 T, .bool H]) rfl rfl (by kernel_rfl) (by kernel_rfl) (by kernel_rfl) nofun hS' (MR.free rfl) (fun wq hw => by simp [execOp, MR.ev, MR.size, hsz, e8, f8, e3, f3, go_sem]) ?_
      refine MR.takeH (i := 6) (some 37) (.bool K) rfl rfl (by kernel_rfl) (by kernel_rfl) (by kernel_rfl) nofun hS' (MR.free rfl) (fun wq hw => by simp [execOp, MR.ev, MR.size, hsz, e8, f8, e3, f3, go_sem]) ?_
      rw [MR.put_comm _ _ _ (show 9 ≠ 35 by decide)]
      rw [MR.put_comm _ _ _ (show 9 ≠ 31 by decide)]
      rw [MR.put_comm _ _ _ (show 9 ≠ 36 by decide)]
      rw [MR.put_comm _ _ _ (show 9 ≠ 37 by decide)]
      have hR := D2 _ _ _ _ hS' (SP.own_le ho hS.size) (fun e => by have h8 := (ho.lt _ e).1; have h9 := hq.lt; omega) (hq.below hb hq.lt) hq0
      rw [hG] at hR
      exact hR
    have D0 : ∀ (q : Nat) (W : World) (hS : Below w4.heap.size w4 W) (hq : MA.Rg W q 0 [.slice none 0 0, .int .i64 0, .bool false]) (hq0 : w4.heap.size ≤ q), G 7 #[true, true, false, false, false, false, false, true, false, false] (((A.put (some 32) (.agg #[.slice (some ⟨gx, 0, none⟩) zs.length zs.length, .int .i64 t, .bool th])).put (some 33) (.agg #[.int .i64 x, .int .i64 y])).put (some 9) (.pointer (some ⟨q, 0, none⟩))) W := by
      intro q W hS hq hq0
      rw [hG]
      refine MR.callH (i := 2) (some 34) (8) (#[.agg #[.int .i64 x, .int .i64 y]]) (by kernel_rfl) rfl rfl (MR.free rfl) (by simp [execOp, MR.ev, MR.size, hsz, e8, f8, e3, f3, go_sem]) ?_
      refine Calls.mono (TM.out W) ?_
      rintro e W' ⟨rfl, hb⟩
      have hS' : Below w4.heap.size w4 W' := hS.trans (hb.mono hS.size)
      refine ⟨_, rfl, hS', ?_⟩
      rw [MR.put_comm _ _ _ (show 9 ≠ 34 by decide)]
      have hR := D1 _ _ hS' (hq.below hb hq.lt) hq0
      rw [hG] at hR
      exact hR
    have U2 : ∀ (a2 : Option Addr) (q2 : Nat) (W : World) (hS : Below w4.heap.size w4 W) (hy : World.ownsRow W w4.heap.size 3 1 (.slice a2 L.length q2) L.length (M4.iv L)), G 3 #[true, true, true, true, true, true, true, false, false, false] (((((((A.put (some 32) (.agg #[.slice (some ⟨gx, 0, none⟩) zs.length zs.length, .int .i64 t, .bool th])).put (some 33) (.agg #[.int .i64 x, .int .i64 y])).put (some 34) (.agg #[.int .i64 x, .int .i64 y])).put (some 35) (.tuple #[.agg #[.slice a2 L.length q2, .int .i64 T, .bool H], .bool K])).put (some 31) (.tuple #[.agg #[.slice a2 L.length q2, .int .i64 T, .bool H], .bool K])).put (some 36) (.agg #[.slice a2 L.length q2, .int .i64 T, .bool H])).put (some 37) (.bool K)) W := by
      intro a2 q2 W hS hy
      rw [hG]
      refine MR.nowH (i := 7) (some 9) (.pointer (some ⟨W.heap.size, 0, none⟩)) (by kernel_rfl) rfl rfl (MR.free rfl) (MR.ex_alloc _ rfl [.slice none 0 0, .int .i64 0, .bool false] 3 Try.infoSprL) ?_
      have hb : Below W.heap.size W (W.alloc (.cells #[.slice none 0 0, .int .i64 0, .bool false] 28)) := (Below.refl _ W).alloc (Nat.le_refl _) _
      have hS' := hS.trans (hb.mono hS.size)
      refine ⟨hS', ?_⟩
      have hR := D2 _ _ _ _ hS' (M5.own_below hy hb) (fun e => by have h9 := (hy.lt _ e).2; omega) (MA.Rg.new W [.slice none 0 0, .int .i64 0, .bool false] 28) hS.size
      rw [hG] at hR
      exact hR
    have U1 : ∀ (W : World) (hS : Below w4.heap.size w4 W), G 7 #[true, true, true, false, false, false, false, false, false, false] (((A.put (some 32) (.agg #[.slice (some ⟨gx, 0, none⟩) zs.length zs.length, .int .i64 t, .bool th])).put (some 33) (.agg #[.int .i64 x, .int .i64 y])).put (some 34) (.agg #[.int .i64 x, .int .i64 y])) W := by
      intro W hS
      rw [hG]
      refine MR.two (i := 3) (j := 7) (by kernel_rfl) ?_ ?_
      · skip
        refine MR.callW (some 35) (9) (#[.agg #[.slice (some ⟨gx, 0, none⟩) zs.length zs.length, .int .i64 t, .bool th], .agg #[.int .i64 x, .int .i64 y]]) rfl rfl (MR.free rfl) (by simp [execOp, MR.ev, MR.size, hsz, e8, f8, e3, f3, go_sem]) ?_
        refine Calls.mono (IM.out gx W (hxI.out.below hS)) ?_
        rintro e W' ⟨a2, q2, rfl, ho, hb⟩
        have hS' : Below w4.heap.size w4 W' := hS.trans (hb.mono hS.size)
        refine ⟨_, rfl, hS', ?_⟩
        refine MR.takeH (i := 4) (some 31) (.tuple #[.agg #[.slice a2 L.length q2, .int .i64 T, .bool H], .bool K]) rfl rfl (by kernel_rfl) (by kernel_rfl) (by kernel_rfl) nofun hS' (MR.free rfl) (fun wq hw => by simp [execOp, MR.ev, MR.size, hsz, e8, f8, e3, f3, go_sem]) ?_
        refine MR.takeH (i := 5) (some 36) (.agg #[.slice a2 L.length q2, .int .i64 T, .bool H]) rfl rfl (by kernel_rfl) (by kernel_rfl) (by kernel_rfl) nofun hS' (MR.free rfl) (fun wq hw => by simp [execOp, MR.ev, MR.size, hsz, e8, f8, e3, f3, go_sem]) ?_
        refine MR.takeH (i := 6) (some 37) (.bool K) rfl rfl (by kernel_rfl) (by kernel_rfl) (by kernel_rfl) nofun hS' (MR.free rfl) (fun wq hw => by simp [execOp, MR.ev, MR.size, hsz, e8, f8, e3, f3, go_sem]) ?_
        have hR := U2 _ _ _ hS' (SP.own_le ho hS.size)
        rw [hG] at hR
        exact hR
      · skip
        refine MR.nowW (some 9) (.pointer (some ⟨W.heap.size, 0, none⟩)) rfl rfl (MR.free rfl) (MR.ex_alloc _ rfl [.slice none 0 0, .int .i64 0, .bool false] 3 Try.infoSprL) ?_
        have hb : Below W.heap.size W (W.alloc (.cells #[.slice none 0 0, .int .i64 0, .bool false] 28)) := (Below.refl _ W).alloc (Nat.le_refl _) _
        have hS' := hS.trans (hb.mono hS.size)
        refine ⟨hS', ?_⟩
        have hR := D1 _ _ hS' (MA.Rg.new W [.slice none 0 0, .int .i64 0, .bool false] 28) hS.size
        rw [hG] at hR
        exact hR
    have U0 : ∀ (W : World) (hS : Below w4.heap.size w4 W), G 8 #[true, true, false, false, false, false, false, false, false, false] ((A.put (some 32) (.agg #[.slice (some ⟨gx, 0, none⟩) zs.length zs.length, .int .i64 t, .bool th])).put (some 33) (.agg #[.int .i64 x, .int .i64 y])) W := by
      intro W hS
      rw [hG]
      refine MR.two (i := 2) (j := 7) (by kernel_rfl) ?_ ?_
      · skip
        refine MR.callW (some 34) (8) (#[.agg #[.int .i64 x, .int .i64 y]]) rfl rfl (MR.free rfl) (by simp [execOp, MR.ev, MR.size, hsz, e8, f8, e3, f3, go_sem]) ?_
        refine Calls.mono (TM.out W) ?_
        rintro e W' ⟨rfl, hb⟩
        have hS' : Below w4.heap.size w4 W' := hS.trans (hb.mono hS.size)
        refine ⟨_, rfl, hS', ?_⟩
        have hR := U1 _ hS'
        rw [hG] at hR
        exact hR
      · skip
        refine MR.nowW (some 9) (.pointer (some ⟨W.heap.size, 0, none⟩)) rfl rfl (MR.free rfl) (MR.ex_alloc _ rfl [.slice none 0 0, .int .i64 0, .bool false] 3 Try.infoSprL) ?_
        have hb : Below W.heap.size W (W.alloc (.cells #[.slice none 0 0, .int .i64 0, .bool false] 28)) := (Below.refl _ W).alloc (Nat.le_refl _) _
        have hS' := hS.trans (hb.mono hS.size)
        refine ⟨hS', ?_⟩
        have hR := D0 _ _ hS' (MA.Rg.new W [.slice none 0 0, .int .i64 0, .bool false] 28) hS.size
        rw [hG] at hR
        exact hR
    exact U0 _ hS
  rintro aa w5 ⟨a2, q2, q_G, rfl, hf⟩
  rw [HA.out]
  obtain ⟨hb, hq_G, b_G, ho, hnq_G⟩ := hf.out
  clear hf HA hsz e8 f8 e3 f3
  have r_G : Hid (World.ownsRow w5 w4.heap.size 3 1 (.slice a2 L.length q2) L.length (M4.iv L)) := ho
  have lt_G : ∀ k, (Value.slice a2 L.length q2).ownBlock = some k → w4.heap.size ≤ k ∧ k < w5.heap.size := fun k e => ho.lt k e
  have Hlt_G : Hid _ := lt_G
  clear ho lt_G
  have lb_G := b_G.lt
  simp only [Act.put, List.setIfInBounds_toArray, List.set_cons_succ, List.set_cons_zero]
  replace b_A : MA.Rg w5 w.heap.size 0 [.slice a zs.length cap, .int .i64 t, .bool th] := b_A.below hb b_A.lt
  replace b_M : MA.Rg w5 (w.heap.size + 1) 0 [.int .i64 x, .int .i64 y] := b_M.below hb b_M.lt
  replace b_S : MA.Rg w5 q_S 0 [.slice a1 L.length q1, .int .i64 T, .bool H] := b_S.below hb b_S.lt
  replace b_X : MA.Rg w5 q_X 0 [.slice (some ⟨gx, 0, none⟩) zs.length zs.length, .int .i64 t, .bool th] := b_X.below hb b_X.lt
  replace r_S : Hid (World.ownsRow w5 w1.heap.size 3 1 (.slice a1 L.length q1) L.length (M4.iv L)) := M5.own_below r_S.out hb
  replace r_X : Hid (World.ownsRow w5 w2.heap.size 3 1 (.slice (some ⟨gx, 0, none⟩) zs.length zs.length) zs.length (M4.iv zs)) := M5.own_below r_X.out hb
  replace B := B.trans (hb.mono B.size)
  have hsw5 := hb.size
  clear hb
  clear hxI c_X0 c_X1 c_X2 l_X c_M0 c_M1 l_M
  have c_G0 : w5.cell? ⟨q_G, 0, none⟩ = some (.slice a2 L.length q2) := by have := b_G.cell (j := 0) rfl; rwa [Nat.zero_add] at this
  have c_G1 : w5.cell? ⟨q_G, 1, none⟩ = some (.int .i64 T) := by have := b_G.cell (j := 1) rfl; rwa [Nat.zero_add] at this
  have c_G2 : w5.cell? ⟨q_G, 2, none⟩ = some (.bool H) := by have := b_G.cell (j := 2) rfl; rwa [Nat.zero_add] at this
  have l_G := b_G.lt
  have c_S0 : w5.cell? ⟨q_S, 0, none⟩ = some (.slice a1 L.length q1) := by have := b_S.cell (j := 0) rfl; rwa [Nat.zero_add] at this
  have c_S1 : w5.cell? ⟨q_S, 1, none⟩ = some (.int .i64 T) := by have := b_S.cell (j := 1) rfl; rwa [Nat.zero_add] at this
  have c_S2 : w5.cell? ⟨q_S, 2, none⟩ = some (.bool H) := by have := b_S.cell (j := 2) rfl; rwa [Nat.zero_add] at this
  have l_S := b_S.lt
  go_wp2_with fail
  refine Calls.mono (EQ.out a2 a1 q2 q1 _ (M5.own_ints r_G.out) (M5.own_ints r_S.out)) ?_
  rintro e w6 ⟨rfl, hb⟩
  clear c_G0 c_G1 c_G2 l_G
  clear c_S0 c_S1 c_S2 l_S
  replace b_A : MA.Rg w6 w.heap.size 0 [.slice a zs.length cap, .int .i64 t, .bool th] := b_A.below hb b_A.lt
  replace b_M : MA.Rg w6 (w.heap.size + 1) 0 [.int .i64 x, .int .i64 y] := b_M.below hb b_M.lt
  replace b_S : MA.Rg w6 q_S 0 [.slice a1 L.length q1, .int .i64 T, .bool H] := b_S.below hb b_S.lt
  replace b_X : MA.Rg w6 q_X 0 [.slice (some ⟨gx, 0, none⟩) zs.length zs.length, .int .i64 t, .bool th] := b_X.below hb b_X.lt
  replace b_G : MA.Rg w6 q_G 0 [.slice a2 L.length q2, .int .i64 T, .bool H] := b_G.below hb b_G.lt
  replace r_S : Hid (World.ownsRow w6 w1.heap.size 3 1 (.slice a1 L.length q1) L.length (M4.iv L)) := M5.own_below r_S.out hb
  replace r_X : Hid (World.ownsRow w6 w2.heap.size 3 1 (.slice (some ⟨gx, 0, none⟩) zs.length zs.length) zs.length (M4.iv zs)) := M5.own_below r_X.out hb
  replace r_G : Hid (World.ownsRow w6 w4.heap.size 3 1 (.slice a2 L.length q2) L.length (M4.iv L)) := M5.own_below r_G.out hb
  replace B := B.trans (hb.mono B.size)
  have hsw6 := hb.size
  clear hb
  have c_X0 : w6.cell? ⟨q_X, 0, none⟩ = some (.slice (some ⟨gx, 0, none⟩) zs.length zs.length) := by have := b_X.cell (j := 0) rfl; rwa [Nat.zero_add] at this
  have c_X1 : w6.cell? ⟨q_X, 1, none⟩ = some (.int .i64 t) := by have := b_X.cell (j := 1) rfl; rwa [Nat.zero_add] at this
  have c_X2 : w6.cell? ⟨q_X, 2, none⟩ = some (.bool th) := by have := b_X.cell (j := 2) rfl; rwa [Nat.zero_add] at this
  have l_X := b_X.lt
  have c_A0 : w6.cell? ⟨w.heap.size, 0, none⟩ = some (.slice a zs.length cap) := by have := b_A.cell (j := 0) rfl; rwa [Nat.zero_add] at this
  have c_A1 : w6.cell? ⟨w.heap.size, 1, none⟩ = some (.int .i64 t) := by have := b_A.cell (j := 1) rfl; rwa [Nat.zero_add] at this
  have c_A2 : w6.cell? ⟨w.heap.size, 2, none⟩ = some (.bool th) := by have := b_A.cell (j := 2) rfl; rwa [Nat.zero_add] at this
  have l_A := b_A.lt
  go_wp2_with fail
  refine MR.frame fun A hA => ?_
  have hsz : A.tmps.size = 104 := by rw [hA]; rfl
  have e8 : A.eval (.tmp 8) = .pointer (some ⟨q_X, 0, none⟩) := by rw [hA]; rfl
  have f8 := MR.read (t := 8) (by rw [hsz]; decide) e8
  have e2 : A.eval (.tmp 2) = .pointer (some ⟨w.heap.size, 0, none⟩) := by rw [hA]; rfl
  have f2 := MR.read (t := 2) (by rw [hsz]; decide) e2
  have HA : Hid (A = _) := hA
  clear hA
  have hxI : Hid (M4.IntsAt w6 (some ⟨gx, 0, none⟩) zs) := M5.own_ints r_X.out
  refine MR.cut (fun aa w' => ∃ g3 : Nat, aa = (((((A.put (some 47) (.agg #[.slice (some ⟨gx, 0, none⟩) zs.length zs.length, .int .i64 t, .bool th])).put (some 48) (.agg #[.slice a zs.length cap, .int .i64 t, .bool th])).put (some 49) (.agg #[.slice (some ⟨g3, 0, none⟩) zs.length zs.length, .int .i64 t, .bool th])).put (some 50) (.bool true)).put (some 51) (.bool false)) ∧ Below w6.heap.size w6 w') ?_ ?_
  · have hS : (fun w' : World => Below w6.heap.size w6 w') (World.drew _) := ((Below.refl _ w6).drew)
    refine wp_region_held (S := fun w' : World => Below w6.heap.size w6 w') (by kernel_rfl) ?_
    change wpAnyH _ _ _ _ _ _ _ _ (World.drew _)
    refine MR.takeH (i := 0) (some 47) (.agg #[.slice (some ⟨gx, 0, none⟩) zs.length zs.length, .int .i64 t, .bool th]) rfl rfl (by kernel_rfl) (by kernel_rfl) (by kernel_rfl) nofun hS (MR.free rfl) (fun wq hw => by simp [execOp, MR.ev, MR.size, hsz, e8, f8, e2, f2, (hw.cell (p := ⟨q_X, 0, none⟩) l_X).trans c_X0, (hw.cell (p := ⟨q_X, 1, none⟩) l_X).trans c_X1, (hw.cell (p := ⟨q_X, 2, none⟩) l_X).trans c_X2, go_sem]) ?_
    refine MR.takeH (i := 1) (some 48) (.agg #[.slice a zs.length cap, .int .i64 t, .bool th]) rfl rfl (by kernel_rfl) (by kernel_rfl) (by kernel_rfl) nofun hS (MR.free rfl) (fun wq hw => by simp [execOp, MR.ev, MR.size, hsz, e8, f8, e2, f2, (hw.cell (p := ⟨w.heap.size, 0, none⟩) l_A).trans c_A0, (hw.cell (p := ⟨w.heap.size, 1, none⟩) l_A).trans c_A1, (hw.cell (p := ⟨w.heap.size, 2, none⟩) l_A).trans c_A2, go_sem]) ?_
    refine MR.callH (i := 2) (some 49) (7) (#[.agg #[.slice a zs.length cap, .int .i64 t, .bool th]]) (by kernel_rfl) rfl rfl (MR.free rfl) (by simp [execOp, MR.ev, MR.size, hsz, e8, f8, e2, f2, go_sem]) ?_
    refine Calls.mono (TO.out _ (B.trans (hS.mono B.size))) ?_
    rintro e v1 ⟨g3, rfl, ho, hb⟩
    have hS1 : Below w6.heap.size w6 v1 := hS.trans (hb.mono hS.size)
    refine ⟨_, rfl, hS1, ?_⟩
    refine MR.callH (i := 3) (some 50) (10) (#[.agg #[.slice (some ⟨gx, 0, none⟩) zs.length zs.length, .int .i64 t, .bool th], .agg #[.slice (some ⟨g3, 0, none⟩) zs.length zs.length, .int .i64 t, .bool th]]) (by kernel_rfl) rfl rfl (MR.free rfl) (by simp [execOp, MR.ev, MR.size, hsz, e8, f8, e2, f2, go_sem]) ?_
    refine Calls.mono (EX.out _ _ _ _ _ (hxI.out.below hS1) (M4.IntsAt.of_own ho)) ?_
    rintro e v2 ⟨rfl, hb2⟩
    have hS2 : Below w6.heap.size w6 v2 := hS1.trans (hb2.mono hS1.size)
    refine ⟨_, rfl, hS2, ?_⟩
    refine MR.takeH (i := 4) (some 51) (.bool false) rfl rfl (by kernel_rfl) (by kernel_rfl) (by kernel_rfl) nofun hS2 (MR.free rfl) (fun wq hw => by simp [execOp, MR.ev, MR.size, hsz, e8, f8, e2, f2, go_sem]) ?_
    exact wpAnyH_done (by kernel_rfl) ⟨rfl, g3, rfl, hS2⟩ _
  rintro aa w7 ⟨g3, rfl, hb⟩
  rw [HA.out]
  clear HA hsz e8 f8 e2 f2 hxI
  simp only [Act.put, List.setIfInBounds_toArray, List.set_cons_succ, List.set_cons_zero]
  clear c_X0 c_X1 c_X2 l_X
  clear c_A0 c_A1 c_A2 l_A
  replace b_A : MA.Rg w7 w.heap.size 0 [.slice a zs.length cap, .int .i64 t, .bool th] := b_A.below hb b_A.lt
  replace b_M : MA.Rg w7 (w.heap.size + 1) 0 [.int .i64 x, .int .i64 y] := b_M.below hb b_M.lt
  replace b_S : MA.Rg w7 q_S 0 [.slice a1 L.length q1, .int .i64 T, .bool H] := b_S.below hb b_S.lt
  replace b_X : MA.Rg w7 q_X 0 [.slice (some ⟨gx, 0, none⟩) zs.length zs.length, .int .i64 t, .bool th] := b_X.below hb b_X.lt
  replace b_G : MA.Rg w7 q_G 0 [.slice a2 L.length q2, .int .i64 T, .bool H] := b_G.below hb b_G.lt
  replace r_S : Hid (World.ownsRow w7 w1.heap.size 3 1 (.slice a1 L.length q1) L.length (M4.iv L)) := M5.own_below r_S.out hb
  replace r_X : Hid (World.ownsRow w7 w2.heap.size 3 1 (.slice (some ⟨gx, 0, none⟩) zs.length zs.length) zs.length (M4.iv zs)) := M5.own_below r_X.out hb
  replace r_G : Hid (World.ownsRow w7 w4.heap.size 3 1 (.slice a2 L.length q2) L.length (M4.iv L)) := M5.own_below r_G.out hb
  replace B := B.trans (hb.mono B.size)
  have hsw7 := hb.size
  clear hb EX
  have c_X0 : w7.cell? ⟨q_X, 0, none⟩ = some (.slice (some ⟨gx, 0, none⟩) zs.length zs.length) := by have := b_X.cell (j := 0) rfl; rwa [Nat.zero_add] at this
  have c_X1 : w7.cell? ⟨q_X, 1, none⟩ = some (.int .i64 t) := by have := b_X.cell (j := 1) rfl; rwa [Nat.zero_add] at this
  have c_X2 : w7.cell? ⟨q_X, 2, none⟩ = some (.bool th) := by have := b_X.cell (j := 2) rfl; rwa [Nat.zero_add] at this
  have l_X := b_X.lt
  go_wp2_with fail
  refine Calls.mono (MX.out _ gx _ r_X.out) ?_
  rintro e w8 ⟨rfl, ho, hg⟩
  clear c_X0 c_X1 c_X2 l_X
  clear ho r_X
  have hBs := B.size
  have hbw := b_M.lt
  replace b_A : MA.Rg w8 w.heap.size 0 [.slice a zs.length cap, .int .i64 t, .bool th] := RA.rg_grown b_A hg (by simp; omega)
  replace b_M : MA.Rg w8 (w.heap.size + 1) 0 [.int .i64 x, .int .i64 y] := RA.rg_grown b_M hg (by simp; omega)
  replace b_S : MA.Rg w8 q_S 0 [.slice a1 L.length q1, .int .i64 T, .bool H] := RA.rg_grown b_S hg (by simp; omega)
  replace b_X : MA.Rg w8 q_X 0 [.slice (some ⟨gx, 0, none⟩) zs.length zs.length, .int .i64 t, .bool th] := RA.rg_grown b_X hg (by simp; omega)
  replace b_G : MA.Rg w8 q_G 0 [.slice a2 L.length q2, .int .i64 T, .bool H] := RA.rg_grown b_G hg (by simp; omega)
  replace r_S : Hid (World.ownsRow w8 w1.heap.size 3 1 (.slice a1 L.length q1) L.length (M4.iv L)) := SP.own_grown2 r_S.out hg (fun k e h => by cases h; have := Hlt_S.out _ e; omega)
  replace r_G : Hid (World.ownsRow w8 w4.heap.size 3 1 (.slice a2 L.length q2) L.length (M4.iv L)) := SP.own_grown2 r_G.out hg (fun k e h => by cases h; have := Hlt_G.out _ e; omega)
  replace B := B.grown hg B.size (fun k e => by cases e; have := B.size; omega)
  have hsw8 := hg.size
  clear hg MX
  have c_G0 : w8.cell? ⟨q_G, 0, none⟩ = some (.slice a2 L.length q2) := by have := b_G.cell (j := 0) rfl; rwa [Nat.zero_add] at this
  have c_G1 : w8.cell? ⟨q_G, 1, none⟩ = some (.int .i64 T) := by have := b_G.cell (j := 1) rfl; rwa [Nat.zero_add] at this
  have c_G2 : w8.cell? ⟨q_G, 2, none⟩ = some (.bool H) := by have := b_G.cell (j := 2) rfl; rwa [Nat.zero_add] at this
  have l_G := b_G.lt
  have c_S0 : w8.cell? ⟨q_S, 0, none⟩ = some (.slice a1 L.length q1) := by have := b_S.cell (j := 0) rfl; rwa [Nat.zero_add] at this
  have c_S1 : w8.cell? ⟨q_S, 1, none⟩ = some (.int .i64 T) := by have := b_S.cell (j := 1) rfl; rwa [Nat.zero_add] at this
  have c_S2 : w8.cell? ⟨q_S, 2, none⟩ = some (.bool H) := by have := b_S.cell (j := 2) rfl; rwa [Nat.zero_add] at this
  have l_S := b_S.lt
  go_wp2_with fail
  refine Calls.mono (EQ.out a2 a1 q2 q1 _ (M5.own_ints r_G.out) (M5.own_ints r_S.out)) ?_
  rintro e w9 ⟨rfl, hb⟩
  clear c_G0 c_G1 c_G2 l_G
  clear c_S0 c_S1 c_S2 l_S
  replace b_A : MA.Rg w9 w.heap.size 0 [.slice a zs.length cap, .int .i64 t, .bool th] := b_A.below hb b_A.lt
  replace b_M : MA.Rg w9 (w.heap.size + 1) 0 [.int .i64 x, .int .i64 y] := b_M.below hb b_M.lt
  replace b_S : MA.Rg w9 q_S 0 [.slice a1 L.length q1, .int .i64 T, .bool H] := b_S.below hb b_S.lt
  replace b_X : MA.Rg w9 q_X 0 [.slice (some ⟨gx, 0, none⟩) zs.length zs.length, .int .i64 t, .bool th] := b_X.below hb b_X.lt
  replace b_G : MA.Rg w9 q_G 0 [.slice a2 L.length q2, .int .i64 T, .bool H] := b_G.below hb b_G.lt
  replace r_S : Hid (World.ownsRow w9 w1.heap.size 3 1 (.slice a1 L.length q1) L.length (M4.iv L)) := M5.own_below r_S.out hb
  replace r_G : Hid (World.ownsRow w9 w4.heap.size 3 1 (.slice a2 L.length q2) L.length (M4.iv L)) := M5.own_below r_G.out hb
  replace B := B.trans (hb.mono B.size)
  have hsw9 := hb.size
  clear hb
  have c_G0 : w9.cell? ⟨q_G, 0, none⟩ = some (.slice a2 L.length q2) := by have := b_G.cell (j := 0) rfl; rwa [Nat.zero_add] at this
  have c_G1 : w9.cell? ⟨q_G, 1, none⟩ = some (.int .i64 T) := by have := b_G.cell (j := 1) rfl; rwa [Nat.zero_add] at this
  have c_G2 : w9.cell? ⟨q_G, 2, none⟩ = some (.bool H) := by have := b_G.cell (j := 2) rfl; rwa [Nat.zero_add] at this
  have l_G := b_G.lt
  go_wp2_with fail
  refine Calls.mono (MK.out _ a2 q2 _ r_G.out) ?_
  rintro e w10 ⟨rfl, ho, hg⟩
  clear c_G0 c_G1 c_G2 l_G
  have hBs2 := B.size
  replace b_A : MA.Rg w10 w.heap.size 0 [.slice a zs.length cap, .int .i64 t, .bool th] := RA.rg_grown b_A hg (fun e => by have := Hlt_G.out _ e.symm; omega)
  replace b_M : MA.Rg w10 (w.heap.size + 1) 0 [.int .i64 x, .int .i64 y] := RA.rg_grown b_M hg (fun e => by have := Hlt_G.out _ e.symm; omega)
  replace b_S : MA.Rg w10 q_S 0 [.slice a1 L.length q1, .int .i64 T, .bool H] := RA.rg_grown b_S hg (fun e => by have := Hlt_G.out _ e.symm; omega)
  replace b_X : MA.Rg w10 q_X 0 [.slice (some ⟨gx, 0, none⟩) zs.length zs.length, .int .i64 t, .bool th] := RA.rg_grown b_X hg (fun e => by have := Hlt_G.out _ e.symm; omega)
  replace b_G : MA.Rg w10 q_G 0 [.slice a2 L.length q2, .int .i64 T, .bool H] := RA.rg_grown b_G hg (fun e => hnq_G e.symm)
  replace r_S : Hid (World.ownsRow w10 w1.heap.size 3 1 (.slice a1 L.length q1) L.length (M4.iv L)) := SP.own_grown2 r_S.out hg (fun k e h => by have h1 := Hlt_S.out _ e; have h2 := Hlt_G.out _ h.symm; omega)
  replace B := B.grown hg B.size (fun k e => by have := Hlt_G.out _ e; omega)
  have hsw10 := hg.size
  clear r_G hg MK
  have r_G : Hid (World.ownsRow w10 w4.heap.size 3 1 (.slice a2 L.length q2) L.length (M4.iv (M5.marks 1 L.length))) := ho
  clear ho
  have c_G0 : w10.cell? ⟨q_G, 0, none⟩ = some (.slice a2 L.length q2) := by have := b_G.cell (j := 0) rfl; rwa [Nat.zero_add] at this
  have c_G1 : w10.cell? ⟨q_G, 1, none⟩ = some (.int .i64 T) := by have := b_G.cell (j := 1) rfl; rwa [Nat.zero_add] at this
  have c_G2 : w10.cell? ⟨q_G, 2, none⟩ = some (.bool H) := by have := b_G.cell (j := 2) rfl; rwa [Nat.zero_add] at this
  have l_G := b_G.lt
  go_wp2_with fail
  refine Calls.mono (HD.out a2 q2 _ (M5.own_ints r_G.out)) ?_
  rintro e w11 ⟨rfl, hb⟩
  clear c_G0 c_G1 c_G2 l_G
  replace b_A : MA.Rg w11 w.heap.size 0 [.slice a zs.length cap, .int .i64 t, .bool th] := b_A.below hb b_A.lt
  replace b_M : MA.Rg w11 (w.heap.size + 1) 0 [.int .i64 x, .int .i64 y] := b_M.below hb b_M.lt
  replace b_S : MA.Rg w11 q_S 0 [.slice a1 L.length q1, .int .i64 T, .bool H] := b_S.below hb b_S.lt
  replace b_X : MA.Rg w11 q_X 0 [.slice (some ⟨gx, 0, none⟩) zs.length zs.length, .int .i64 t, .bool th] := b_X.below hb b_X.lt
  replace b_G : MA.Rg w11 q_G 0 [.slice a2 L.length q2, .int .i64 T, .bool H] := b_G.below hb b_G.lt
  replace r_S : Hid (World.ownsRow w11 w1.heap.size 3 1 (.slice a1 L.length q1) L.length (M4.iv L)) := M5.own_below r_S.out hb
  replace r_G : Hid (World.ownsRow w11 w4.heap.size 3 1 (.slice a2 L.length q2) L.length (M4.iv (M5.marks 1 L.length))) := M5.own_below r_G.out hb
  replace B := B.trans (hb.mono B.size)
  have hsw11 := hb.size
  clear hb
  have c_A0 : w11.cell? ⟨w.heap.size, 0, none⟩ = some (.slice a zs.length cap) := by have := b_A.cell (j := 0) rfl; rwa [Nat.zero_add] at this
  have c_A1 : w11.cell? ⟨w.heap.size, 1, none⟩ = some (.int .i64 t) := by have := b_A.cell (j := 1) rfl; rwa [Nat.zero_add] at this
  have c_A2 : w11.cell? ⟨w.heap.size, 2, none⟩ = some (.bool th) := by have := b_A.cell (j := 2) rfl; rwa [Nat.zero_add] at this
  have l_A := b_A.lt
  have c_M0 : w11.cell? ⟨(w.heap.size + 1), 0, none⟩ = some (.int .i64 x) := by have := b_M.cell (j := 0) rfl; rwa [Nat.zero_add] at this
  have c_M1 : w11.cell? ⟨(w.heap.size + 1), 1, none⟩ = some (.int .i64 y) := by have := b_M.cell (j := 1) rfl; rwa [Nat.zero_add] at this
  have l_M := b_M.lt
  go_wp2_with fail
  refine MR.frame fun A hA => ?_
  have hsz : A.tmps.size = 104 := by rw [hA]; rfl
  have e2 : A.eval (.tmp 2) = .pointer (some ⟨w.heap.size, 0, none⟩) := by rw [hA]; rfl
  have f2 := MR.read (t := 2) (by rw [hsz]; decide) e2
  have e3 : A.eval (.tmp 3) = .pointer (some ⟨w.heap.size + 1, 0, none⟩) := by rw [hA]; rfl
  have f3 := MR.read (t := 3) (by rw [hsz]; decide) e3
  have HA : Hid (A = _) := hA
  clear hA
  refine MR.cut (fun aa w' => ∃ (g4 : Nat) (a4 : Option Addr) (q4 : Nat) (q : Nat), aa = ((((((((((A.put (some 80) (.agg #[.slice a zs.length cap, .int .i64 t, .bool th])).put (some 82) (.agg #[.int .i64 x, .int .i64 y])).put (some 81) (.agg #[.slice (some ⟨g4, 0, none⟩) zs.length zs.length, .int .i64 t, .bool th])).put (some 83) (.agg #[.int .i64 x, .int .i64 y])).put (some 84) (.tuple #[.agg #[.slice a4 L.length q4, .int .i64 T, .bool H], .bool K])).put (some 79) (.tuple #[.agg #[.slice a4 L.length q4, .int .i64 T, .bool H], .bool K])).put (some 85) (.agg #[.slice a4 L.length q4, .int .i64 T, .bool H])).put (some 86) (.bool K)).put (some 14) (.pointer (some ⟨q, 0, none⟩))).put (some 15) (.bool K)) ∧ Hid (Below w11.heap.size w11 w' ∧ w11.heap.size ≤ q ∧ MA.Rg w' q 0 [.slice a4 L.length q4, .int .i64 T, .bool H] ∧ World.ownsRow w' w11.heap.size 3 1 (.slice a4 L.length q4) L.length (M4.iv L) ∧ (Value.slice a4 L.length q4).ownBlock ≠ some q)) ?_ ?_
  · have hS : (fun w' : World => Below w11.heap.size w11 w') (World.drew _) := ((Below.refl _ w11).drew)
    refine wp_region_held (S := fun w' : World => Below w11.heap.size w11 w') (by kernel_rfl) ?_
    change wpAnyH _ _ _ _ _ _ _ _ (World.drew _)
    refine MR.takeH (i := 0) (some 80) (.agg #[.slice a zs.length cap, .int .i64 t, .bool th]) rfl rfl (by kernel_rfl) (by kernel_rfl) (by kernel_rfl) nofun hS (MR.free rfl) (fun wq hw => by simp [execOp, MR.ev, MR.size, hsz, e2, f2, e3, f3, (hw.cell (p := ⟨w.heap.size, 0, none⟩) l_A).trans c_A0, (hw.cell (p := ⟨w.heap.size, 1, none⟩) l_A).trans c_A1, (hw.cell (p := ⟨w.heap.size, 2, none⟩) l_A).trans c_A2, go_sem]) ?_
    refine MR.takeH (i := 2) (some 82) (.agg #[.int .i64 x, .int .i64 y]) rfl rfl (by kernel_rfl) (by kernel_rfl) (by kernel_rfl) nofun hS (MR.free rfl) (fun wq hw => by simp [execOp, MR.ev, MR.size, hsz, e2, f2, e3, f3, (hw.cell (p := ⟨(w.heap.size + 1), 0, none⟩) l_M).trans c_M0, (hw.cell (p := ⟨(w.heap.size + 1), 1, none⟩) l_M).trans c_M1, go_sem]) ?_
    generalize hwd : World.drew w11 = v0 at hS ⊢
    clear hwd
    refine MR.pack (fun G hG => ?_)
    have D3 : ∀ (g4 : Nat) (a4 : Option Addr) (q4 : Nat) (q : Nat) (W : World) (hS : Below w11.heap.size w11 W) (hg4 : M4.IntsAt W (some ⟨g4, 0, none⟩) zs) (hy : World.ownsRow W w11.heap.size 3 1 (.slice a4 L.length q4) L.length (M4.iv L)) (hnq : (Value.slice a4 L.length q4).ownBlock ≠ some q) (hq : MA.Rg W q 0 [.slice none 0 0, .int .i64 0, .bool false]) (hq0 : w11.heap.size ≤ q), G 2 #[true, true, true, true, true, true, true, true, true, false, false] (((((((((A.put (some 80) (.agg #[.slice a zs.length cap, .int .i64 t, .bool th])).put (some 82) (.agg #[.int .i64 x, .int .i64 y])).put (some 81) (.agg #[.slice (some ⟨g4, 0, none⟩) zs.length zs.length, .int .i64 t, .bool th])).put (some 83) (.agg #[.int .i64 x, .int .i64 y])).put (some 84) (.tuple #[.agg #[.slice a4 L.length q4, .int .i64 T, .bool H], .bool K])).put (some 79) (.tuple #[.agg #[.slice a4 L.length q4, .int .i64 T, .bool H], .bool K])).put (some 85) (.agg #[.slice a4 L.length q4, .int .i64 T, .bool H])).put (some 86) (.bool K)).put (some 14) (.pointer (some ⟨q, 0, none⟩))) W := by
      intro g4 a4 q4 q W hS hg4 hy hnq hq hq0
      rw [hG]
      have hSz : Below w11.heap.size w11 (W.setCells q 0 [.slice a4 L.length q4, .int .i64 T, .bool H]) := MA.below_cells hq0 _ _ _ hS
      have hO : MC.Only q W (W.setCells q 0 [.slice a4 L.length q4, .int .i64 T, .bool H]) := RA.only_cells q _ 0 W
      refine MR.storeN (i := 9) (by kernel_rfl) rfl rfl (MR.free rfl) (MA.ex_store (vs := [.slice a4 L.length q4, .int .i64 T, .bool H]) rfl (by simp [MR.ev, MR.size, hsz, e2, f2, e3, f3]) (by simp [MR.ev, MR.size, hsz, e2, f2, e3, f3]) hq.ok Try.sizeSprL rfl (by simp [Value.oneCell'])) ⟨hSz, ?_⟩
      refine MR.takeH (i := 10) (some 15) (.bool K) rfl rfl (by kernel_rfl) (by kernel_rfl) (by kernel_rfl) nofun hSz (MR.free rfl) (fun wq hw => by simp [execOp, MR.ev, MR.size, hsz, e2, f2, e3, f3, go_sem]) ?_
      exact wpAnyH_done (by kernel_rfl) ⟨rfl, g4, a4, q4, q, rfl, ⟨hSz, hq0, hq.put rfl, SP.own_only2 hy hO hnq, hnq⟩⟩ _
    have D2 : ∀ (g4 : Nat) (q : Nat) (W : World) (hS : Below w11.heap.size w11 W) (hg4 : M4.IntsAt W (some ⟨g4, 0, none⟩) zs) (hq : MA.Rg W q 0 [.slice none 0 0, .int .i64 0, .bool false]) (hq0 : w11.heap.size ≤ q), G 6 #[true, true, true, true, false, false, false, false, true, false, false] (((((A.put (some 80) (.agg #[.slice a zs.length cap, .int .i64 t, .bool th])).put (some 82) (.agg #[.int .i64 x, .int .i64 y])).put (some 81) (.agg #[.slice (some ⟨g4, 0, none⟩) zs.length zs.length, .int .i64 t, .bool th])).put (some 83) (.agg #[.int .i64 x, .int .i64 y])).put (some 14) (.pointer (some ⟨q, 0, none⟩))) W := by
      intro g4 q W hS hg4 hq hq0
      rw [hG]
      refine MR.callH (i := 4) (some 84) (9) (#[.agg #[.slice (some ⟨g4, 0, none⟩) zs.length zs.length, .int .i64 t, .bool th], .agg #[.int .i64 x, .int .i64 y]]) (by kernel_rfl) rfl rfl (MR.free rfl) (by simp [execOp, MR.ev, MR.size, hsz, e2, f2, e3, f3, go_sem]) ?_
      refine Calls.mono (IM.out g4 W hg4) ?_
      rintro e W' ⟨a4, q4, rfl, ho, hb⟩
      have hS' : Below w11.heap.size w11 W' := hS.trans (hb.mono hS.size)
      refine ⟨_, rfl, hS', ?_⟩
      refine MR.takeH (i := 5) (some 79) (.tuple #[.agg #[.slice a4 L.length q4, .int .i64 T, .bool H], .bool K]) rfl rfl (by kernel_rfl) (by kernel_rfl) (by kernel_rfl) nofun hS' (MR.free rfl) (fun wq hw => by simp [execOp, MR.ev, MR.size, hsz, e2, f2, e3, f3, go_sem]) ?_
      refine MR.takeH (i := 6) (some 85) (.agg #[.slice a4 L.length q4, .int .i64 T, .bool H]) rfl rfl (by kernel_rfl) (by kernel_rfl) (by kernel_rfl) nofun hS' (MR.free rfl) (fun wq hw => by simp [execOp, MR.ev, MR.size, hsz, e2, f2, e3, f3, go_sem]) ?_
      refine MR.takeH (i := 7) (some 86) (.bool K) rfl rfl (by kernel_rfl) (by kernel_rfl) (by kernel_rfl) nofun hS' (MR.free rfl) (fun wq hw => by simp [execOp, MR.ev, MR.size, hsz, e2, f2, e3, f3, go_sem]) ?_
      rw [MR.put_comm _ _ _ (show 14 ≠ 84 by decide)]
      rw [MR.put_comm _ _ _ (show 14 ≠ 79 by decide)]
      rw [MR.put_comm _ _ _ (show 14 ≠ 85 by decide)]
      rw [MR.put_comm _ _ _ (show 14 ≠ 86 by decide)]
      have hR := D3 _ _ _ _ _ hS' (hg4.below hb) (SP.own_le ho hS.size) (fun e => by have h8 := (ho.lt _ e).1; have h9 := hq.lt; omega) (hq.below hb hq.lt) hq0
      rw [hG] at hR
      exact hR
    have D1 : ∀ (g4 : Nat) (q : Nat) (W : World) (hS : Below w11.heap.size w11 W) (hg4 : M4.IntsAt W (some ⟨g4, 0, none⟩) zs) (hq : MA.Rg W q 0 [.slice none 0 0, .int .i64 0, .bool false]) (hq0 : w11.heap.size ≤ q), G 7 #[true, true, true, false, false, false, false, false, true, false, false] ((((A.put (some 80) (.agg #[.slice a zs.length cap, .int .i64 t, .bool th])).put (some 82) (.agg #[.int .i64 x, .int .i64 y])).put (some 81) (.agg #[.slice (some ⟨g4, 0, none⟩) zs.length zs.length, .int .i64 t, .bool th])).put (some 14) (.pointer (some ⟨q, 0, none⟩))) W := by
      intro g4 q W hS hg4 hq hq0
      rw [hG]
      refine MR.callH (i := 3) (some 83) (8) (#[.agg #[.int .i64 x, .int .i64 y]]) (by kernel_rfl) rfl rfl (MR.free rfl) (by simp [execOp, MR.ev, MR.size, hsz, e2, f2, e3, f3, go_sem]) ?_
      refine Calls.mono (TM.out W) ?_
      rintro e W' ⟨rfl, hb⟩
      have hS' : Below w11.heap.size w11 W' := hS.trans (hb.mono hS.size)
      refine ⟨_, rfl, hS', ?_⟩
      rw [MR.put_comm _ _ _ (show 14 ≠ 83 by decide)]
      have hR := D2 _ _ _ hS' (hg4.below hb) (hq.below hb hq.lt) hq0
      rw [hG] at hR
      exact hR
    have D0 : ∀ (q : Nat) (W : World) (hS : Below w11.heap.size w11 W) (hq : MA.Rg W q 0 [.slice none 0 0, .int .i64 0, .bool false]) (hq0 : w11.heap.size ≤ q), G 8 #[true, false, true, false, false, false, false, false, true, false, false] (((A.put (some 80) (.agg #[.slice a zs.length cap, .int .i64 t, .bool th])).put (some 82) (.agg #[.int .i64 x, .int .i64 y])).put (some 14) (.pointer (some ⟨q, 0, none⟩))) W := by
      intro q W hS hq hq0
      rw [hG]
      refine MR.callH (i := 1) (some 81) (7) (#[.agg #[.slice a zs.length cap, .int .i64 t, .bool th]]) (by kernel_rfl) rfl rfl (MR.free rfl) (by simp [execOp, MR.ev, MR.size, hsz, e2, f2, e3, f3, go_sem]) ?_
      refine Calls.mono (TO.out W (B.trans (hS.mono B.size))) ?_
      rintro e W' ⟨g4, rfl, ho, hb⟩
      have hS' : Below w11.heap.size w11 W' := hS.trans (hb.mono hS.size)
      refine ⟨_, rfl, hS', ?_⟩
      rw [MR.put_comm _ _ _ (show 14 ≠ 81 by decide)]
      have hR := D1 _ _ _ hS' (M4.IntsAt.of_own ho) (hq.below hb hq.lt) hq0
      rw [hG] at hR
      exact hR
    have U3 : ∀ (g4 : Nat) (a4 : Option Addr) (q4 : Nat) (W : World) (hS : Below w11.heap.size w11 W) (hg4 : M4.IntsAt W (some ⟨g4, 0, none⟩) zs) (hy : World.ownsRow W w11.heap.size 3 1 (.slice a4 L.length q4) L.length (M4.iv L)), G 3 #[true, true, true, true, true, true, true, true, false, false, false] ((((((((A.put (some 80) (.agg #[.slice a zs.length cap, .int .i64 t, .bool th])).put (some 82) (.agg #[.int .i64 x, .int .i64 y])).put (some 81) (.agg #[.slice (some ⟨g4, 0, none⟩) zs.length zs.length, .int .i64 t, .bool th])).put (some 83) (.agg #[.int .i64 x, .int .i64 y])).put (some 84) (.tuple #[.agg #[.slice a4 L.length q4, .int .i64 T, .bool H], .bool K])).put (some 79) (.tuple #[.agg #[.slice a4 L.length q4, .int .i64 T, .bool H], .bool K])).put (some 85) (.agg #[.slice a4 L.length q4, .int .i64 T, .bool H])).put (some 86) (.bool K)) W := by
      intro g4 a4 q4 W hS hg4 hy
      rw [hG]
      refine MR.nowH (i := 8) (some 14) (.pointer (some ⟨W.heap.size, 0, none⟩)) (by kernel_rfl) rfl rfl (MR.free rfl) (MR.ex_alloc _ rfl [.slice none 0 0, .int .i64 0, .bool false] 3 Try.infoSprL) ?_
      have hb : Below W.heap.size W (W.alloc (.cells #[.slice none 0 0, .int .i64 0, .bool false] 28)) := (Below.refl _ W).alloc (Nat.le_refl _) _
      have hS' := hS.trans (hb.mono hS.size)
      refine ⟨hS', ?_⟩
      have hR := D3 _ _ _ _ _ hS' (hg4.below hb) (M5.own_below hy hb) (fun e => by have h9 := (hy.lt _ e).2; omega) (MA.Rg.new W [.slice none 0 0, .int .i64 0, .bool false] 28) hS.size
      rw [hG] at hR
      exact hR
    have U2 : ∀ (g4 : Nat) (W : World) (hS : Below w11.heap.size w11 W) (hg4 : M4.IntsAt W (some ⟨g4, 0, none⟩) zs), G 7 #[true, true, true, true, false, false, false, false, false, false, false] ((((A.put (some 80) (.agg #[.slice a zs.length cap, .int .i64 t, .bool th])).put (some 82) (.agg #[.int .i64 x, .int .i64 y])).put (some 81) (.agg #[.slice (some ⟨g4, 0, none⟩) zs.length zs.length, .int .i64 t, .bool th])).put (some 83) (.agg #[.int .i64 x, .int .i64 y])) W := by
      intro g4 W hS hg4
      rw [hG]
      refine MR.two (i := 4) (j := 8) (by kernel_rfl) ?_ ?_
      · skip
        refine MR.callW (some 84) (9) (#[.agg #[.slice (some ⟨g4, 0, none⟩) zs.length zs.length, .int .i64 t, .bool th], .agg #[.int .i64 x, .int .i64 y]]) rfl rfl (MR.free rfl) (by simp [execOp, MR.ev, MR.size, hsz, e2, f2, e3, f3, go_sem]) ?_
        refine Calls.mono (IM.out g4 W hg4) ?_
        rintro e W' ⟨a4, q4, rfl, ho, hb⟩
        have hS' : Below w11.heap.size w11 W' := hS.trans (hb.mono hS.size)
        refine ⟨_, rfl, hS', ?_⟩
        refine MR.takeH (i := 5) (some 79) (.tuple #[.agg #[.slice a4 L.length q4, .int .i64 T, .bool H], .bool K]) rfl rfl (by kernel_rfl) (by kernel_rfl) (by kernel_rfl) nofun hS' (MR.free rfl) (fun wq hw => by simp [execOp, MR.ev, MR.size, hsz, e2, f2, e3, f3, go_sem]) ?_
        refine MR.takeH (i := 6) (some 85) (.agg #[.slice a4 L.length q4, .int .i64 T, .bool H]) rfl rfl (by kernel_rfl) (by kernel_rfl) (by kernel_rfl) nofun hS' (MR.free rfl) (fun wq hw => by simp [execOp, MR.ev, MR.size, hsz, e2, f2, e3, f3, go_sem]) ?_
        refine MR.takeH (i := 7) (some 86) (.bool K) rfl rfl (by kernel_rfl) (by kernel_rfl) (by kernel_rfl) nofun hS' (MR.free rfl) (fun wq hw => by simp [execOp, MR.ev, MR.size, hsz, e2, f2, e3, f3, go_sem]) ?_
        have hR := U3 _ _ _ _ hS' (hg4.below hb) (SP.own_le ho hS.size)
        rw [hG] at hR
        exact hR
      · skip
        refine MR.nowW (some 14) (.pointer (some ⟨W.heap.size, 0, none⟩)) rfl rfl (MR.free rfl) (MR.ex_alloc _ rfl [.slice none 0 0, .int .i64 0, .bool false] 3 Try.infoSprL) ?_
        have hb : Below W.heap.size W (W.alloc (.cells #[.slice none 0 0, .int .i64 0, .bool false] 28)) := (Below.refl _ W).alloc (Nat.le_refl _) _
        have hS' := hS.trans (hb.mono hS.size)
        refine ⟨hS', ?_⟩
        have hR := D2 _ _ _ hS' (hg4.below hb) (MA.Rg.new W [.slice none 0 0, .int .i64 0, .bool false] 28) hS.size
        rw [hG] at hR
        exact hR
    have U1 : ∀ (g4 : Nat) (W : World) (hS : Below w11.heap.size w11 W) (hg4 : M4.IntsAt W (some ⟨g4, 0, none⟩) zs), G 8 #[true, true, true, false, false, false, false, false, false, false, false] (((A.put (some 80) (.agg #[.slice a zs.length cap, .int .i64 t, .bool th])).put (some 82) (.agg #[.int .i64 x, .int .i64 y])).put (some 81) (.agg #[.slice (some ⟨g4, 0, none⟩) zs.length zs.length, .int .i64 t, .bool th])) W := by
      intro g4 W hS hg4
      rw [hG]
      refine MR.two (i := 3) (j := 8) (by kernel_rfl) ?_ ?_
      · skip
        refine MR.callW (some 83) (8) (#[.agg #[.int .i64 x, .int .i64 y]]) rfl rfl (MR.free rfl) (by simp [execOp, MR.ev, MR.size, hsz, e2, f2, e3, f3, go_sem]) ?_
        refine Calls.mono (TM.out W) ?_
        rintro e W' ⟨rfl, hb⟩
        have hS' : Below w11.heap.size w11 W' := hS.trans (hb.mono hS.size)
        refine ⟨_, rfl, hS', ?_⟩
        have hR := U2 _ _ hS' (hg4.below hb)
        rw [hG] at hR
        exact hR
      · skip
        refine MR.nowW (some 14) (.pointer (some ⟨W.heap.size, 0, none⟩)) rfl rfl (MR.free rfl) (MR.ex_alloc _ rfl [.slice none 0 0, .int .i64 0, .bool false] 3 Try.infoSprL) ?_
        have hb : Below W.heap.size W (W.alloc (.cells #[.slice none 0 0, .int .i64 0, .bool false] 28)) := (Below.refl _ W).alloc (Nat.le_refl _) _
        have hS' := hS.trans (hb.mono hS.size)
        refine ⟨hS', ?_⟩
        have hR := D1 _ _ _ hS' (hg4.below hb) (MA.Rg.new W [.slice none 0 0, .int .i64 0, .bool false] 28) hS.size
        rw [hG] at hR
        exact hR
    have U0 : ∀ (W : World) (hS : Below w11.heap.size w11 W), G 9 #[true, false, true, false, false, false, false, false, false, false, false] ((A.put (some 80) (.agg #[.slice a zs.length cap, .int .i64 t, .bool th])).put (some 82) (.agg #[.int .i64 x, .int .i64 y])) W := by
      intro W hS
      rw [hG]
      refine MR.two (i := 1) (j := 8) (by kernel_rfl) ?_ ?_
      · skip
        refine MR.callW (some 81) (7) (#[.agg #[.slice a zs.length cap, .int .i64 t, .bool th]]) rfl rfl (MR.free rfl) (by simp [execOp, MR.ev, MR.size, hsz, e2, f2, e3, f3, go_sem]) ?_
        refine Calls.mono (TO.out W (B.trans (hS.mono B.size))) ?_
        rintro e W' ⟨g4, rfl, ho, hb⟩
        have hS' : Below w11.heap.size w11 W' := hS.trans (hb.mono hS.size)
        refine ⟨_, rfl, hS', ?_⟩
        have hR := U1 _ _ hS' (M4.IntsAt.of_own ho)
        rw [hG] at hR
        exact hR
      · skip
        refine MR.nowW (some 14) (.pointer (some ⟨W.heap.size, 0, none⟩)) rfl rfl (MR.free rfl) (MR.ex_alloc _ rfl [.slice none 0 0, .int .i64 0, .bool false] 3 Try.infoSprL) ?_
        have hb : Below W.heap.size W (W.alloc (.cells #[.slice none 0 0, .int .i64 0, .bool false] 28)) := (Below.refl _ W).alloc (Nat.le_refl _) _
        have hS' := hS.trans (hb.mono hS.size)
        refine ⟨hS', ?_⟩
        have hR := D0 _ _ hS' (MA.Rg.new W [.slice none 0 0, .int .i64 0, .bool false] 28) hS.size
        rw [hG] at hR
        exact hR
    exact U0 _ hS
  rintro aa w12 ⟨g4, a4, q4, q_H, rfl, hf⟩
  rw [HA.out]
  obtain ⟨hb, hq_H, b_H, ho, hnq_H⟩ := hf.out
  clear hf HA hsz e2 f2 e3 f3
  have r_H : Hid (World.ownsRow w12 w11.heap.size 3 1 (.slice a4 L.length q4) L.length (M4.iv L)) := ho
  have lt_H : ∀ k, (Value.slice a4 L.length q4).ownBlock = some k → w11.heap.size ≤ k ∧ k < w12.heap.size := fun k e => ho.lt k e
  have Hlt_H : Hid _ := lt_H
  clear ho lt_H
  have lb_H := b_H.lt
  simp only [Act.put, List.setIfInBounds_toArray, List.set_cons_succ, List.set_cons_zero]
  replace b_A : MA.Rg w12 w.heap.size 0 [.slice a zs.length cap, .int .i64 t, .bool th] := b_A.below hb b_A.lt
  replace b_M : MA.Rg w12 (w.heap.size + 1) 0 [.int .i64 x, .int .i64 y] := b_M.below hb b_M.lt
  replace b_S : MA.Rg w12 q_S 0 [.slice a1 L.length q1, .int .i64 T, .bool H] := b_S.below hb b_S.lt
  replace b_X : MA.Rg w12 q_X 0 [.slice (some ⟨gx, 0, none⟩) zs.length zs.length, .int .i64 t, .bool th] := b_X.below hb b_X.lt
  replace b_G : MA.Rg w12 q_G 0 [.slice a2 L.length q2, .int .i64 T, .bool H] := b_G.below hb b_G.lt
  replace r_S : Hid (World.ownsRow w12 w1.heap.size 3 1 (.slice a1 L.length q1) L.length (M4.iv L)) := M5.own_below r_S.out hb
  replace r_G : Hid (World.ownsRow w12 w4.heap.size 3 1 (.slice a2 L.length q2) L.length (M4.iv (M5.marks 1 L.length))) := M5.own_below r_G.out hb
  replace B := B.trans (hb.mono B.size)
  have hsw12 := hb.size
  clear hb
  clear IM TO TM c_A0 c_A1 c_A2 l_A c_M0 c_M1 l_M
  have c_H0 : w12.cell? ⟨q_H, 0, none⟩ = some (.slice a4 L.length q4) := by have := b_H.cell (j := 0) rfl; rwa [Nat.zero_add] at this
  have c_H1 : w12.cell? ⟨q_H, 1, none⟩ = some (.int .i64 T) := by have := b_H.cell (j := 1) rfl; rwa [Nat.zero_add] at this
  have c_H2 : w12.cell? ⟨q_H, 2, none⟩ = some (.bool H) := by have := b_H.cell (j := 2) rfl; rwa [Nat.zero_add] at this
  have l_H := b_H.lt
  have c_S0 : w12.cell? ⟨q_S, 0, none⟩ = some (.slice a1 L.length q1) := by have := b_S.cell (j := 0) rfl; rwa [Nat.zero_add] at this
  have c_S1 : w12.cell? ⟨q_S, 1, none⟩ = some (.int .i64 T) := by have := b_S.cell (j := 1) rfl; rwa [Nat.zero_add] at this
  have c_S2 : w12.cell? ⟨q_S, 2, none⟩ = some (.bool H) := by have := b_S.cell (j := 2) rfl; rwa [Nat.zero_add] at this
  have l_S := b_S.lt
  go_wp2_with fail
  refine Calls.mono (EQ.out a4 a1 q4 q1 _ (M5.own_ints r_H.out) (M5.own_ints r_S.out)) ?_
  rintro e w13 ⟨rfl, hb⟩
  clear c_H0 c_H1 c_H2 l_H
  clear c_S0 c_S1 c_S2 l_S
  replace b_A : MA.Rg w13 w.heap.size 0 [.slice a zs.length cap, .int .i64 t, .bool th] := b_A.below hb b_A.lt
  replace b_M : MA.Rg w13 (w.heap.size + 1) 0 [.int .i64 x, .int .i64 y] := b_M.below hb b_M.lt
  replace b_S : MA.Rg w13 q_S 0 [.slice a1 L.length q1, .int .i64 T, .bool H] := b_S.below hb b_S.lt
  replace b_X : MA.Rg w13 q_X 0 [.slice (some ⟨gx, 0, none⟩) zs.length zs.length, .int .i64 t, .bool th] := b_X.below hb b_X.lt
  replace b_G : MA.Rg w13 q_G 0 [.slice a2 L.length q2, .int .i64 T, .bool H] := b_G.below hb b_G.lt
  replace b_H : MA.Rg w13 q_H 0 [.slice a4 L.length q4, .int .i64 T, .bool H] := b_H.below hb b_H.lt
  replace r_S : Hid (World.ownsRow w13 w1.heap.size 3 1 (.slice a1 L.length q1) L.length (M4.iv L)) := M5.own_below r_S.out hb
  replace r_G : Hid (World.ownsRow w13 w4.heap.size 3 1 (.slice a2 L.length q2) L.length (M4.iv (M5.marks 1 L.length))) := M5.own_below r_G.out hb
  replace r_H : Hid (World.ownsRow w13 w11.heap.size 3 1 (.slice a4 L.length q4) L.length (M4.iv L)) := M5.own_below r_H.out hb
  replace B := B.trans (hb.mono B.size)
  have hsw13 := hb.size
  clear hb
  have c_G0 : w13.cell? ⟨q_G, 0, none⟩ = some (.slice a2 L.length q2) := by have := b_G.cell (j := 0) rfl; rwa [Nat.zero_add] at this
  have c_G1 : w13.cell? ⟨q_G, 1, none⟩ = some (.int .i64 T) := by have := b_G.cell (j := 1) rfl; rwa [Nat.zero_add] at this
  have c_G2 : w13.cell? ⟨q_G, 2, none⟩ = some (.bool H) := by have := b_G.cell (j := 2) rfl; rwa [Nat.zero_add] at this
  have l_G := b_G.lt
  go_wp2_with fail
  refine Calls.mono (HD.out a2 q2 _ (M5.own_ints r_G.out)) ?_
  rintro e w14 ⟨rfl, hb⟩
  clear c_G0 c_G1 c_G2 l_G
  replace b_A : MA.Rg w14 w.heap.size 0 [.slice a zs.length cap, .int .i64 t, .bool th] := b_A.below hb b_A.lt
  replace b_M : MA.Rg w14 (w.heap.size + 1) 0 [.int .i64 x, .int .i64 y] := b_M.below hb b_M.lt
  replace b_S : MA.Rg w14 q_S 0 [.slice a1 L.length q1, .int .i64 T, .bool H] := b_S.below hb b_S.lt
  replace b_X : MA.Rg w14 q_X 0 [.slice (some ⟨gx, 0, none⟩) zs.length zs.length, .int .i64 t, .bool th] := b_X.below hb b_X.lt
  replace b_G : MA.Rg w14 q_G 0 [.slice a2 L.length q2, .int .i64 T, .bool H] := b_G.below hb b_G.lt
  replace b_H : MA.Rg w14 q_H 0 [.slice a4 L.length q4, .int .i64 T, .bool H] := b_H.below hb b_H.lt
  replace r_S : Hid (World.ownsRow w14 w1.heap.size 3 1 (.slice a1 L.length q1) L.length (M4.iv L)) := M5.own_below r_S.out hb
  replace r_G : Hid (World.ownsRow w14 w4.heap.size 3 1 (.slice a2 L.length q2) L.length (M4.iv (M5.marks 1 L.length))) := M5.own_below r_G.out hb
  replace r_H : Hid (World.ownsRow w14 w11.heap.size 3 1 (.slice a4 L.length q4) L.length (M4.iv L)) := M5.own_below r_H.out hb
  replace B := B.trans (hb.mono B.size)
  have hsw14 := hb.size
  clear hb
  have HB : Hid _ := B
  clear B b_A b_M b_S b_X b_G b_H r_S r_G r_H
  go_wp2
  go_ret
  exact ⟨rfl, HB.out⟩
end Go.Proofs.Ytmgfgcmmanhgaaa
