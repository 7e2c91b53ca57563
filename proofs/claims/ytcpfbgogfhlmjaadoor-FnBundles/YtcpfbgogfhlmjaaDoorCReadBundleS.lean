/- The specification's ReadBundle at any text. -/
import Derived.Test.YtcpfbgogfhlmjaaDoorRows
import Derived.Test.YtcpfbgogfhlmjaaDoorCReadBundleI
import Derived.Test.YtcpfbgogfhlmjaaDoorCSpecRead
import Derived.Test.YtcpfbgogfhlmjaaDoorCBundleBytes
import Derived.WalkKit
import Derived.WalkSpells
import Derived.WalkLawsBesides
import Derived.Outline
import Derived.Deep.QuietTactic
import Derived.BigQuiet
import Derived.Deep.RegionHeld3
namespace Go.Proofs.YtcpfbgogfhlmjaaDoor
open Go.RowKit
theorem chkS_small (s : ByteArray) (h : s.size ≤ maxLen) : (chkS s).size ≤ maxLen := by
  unfold chkS; split
  · rw [body_size]; unfold maxLen at h ⊢; omega
  · simp [maxLen, ByteArray.size]
set_option maxHeartbeats 3200000 in
set_option maxRecDepth 100000 in
theorem specReadBundle_any (s : ByteArray) (w : World) (hs0 : s.size ≤ maxLen) :
    Calls Tryd.prog 12 #[.string s] w fun e w' => RB s e ∧ Below w.heap.size w w' := by
  have SC : Hid (∀ W : World, Calls Tryd.prog 38 #[.string s] W fun e w' => e = .returned (.tuple #[.string (chkS s), .bool (chk s)]) ∧ Below W.heap.size W w') := fun W => specCheck_any s W hs0
  have SR : Hid _ := fun W => specReadItems_any (chkS s) W (chkS_small s hs0)
  have hrl := M16.read_len (chkS s)
  have hZ : (w.alloc (.cells #[.int .i64 0, .int .i64 0, .bool false, .int .i64 0, .int .i64 0, .int .i64 0, .int .i64 0, .int .i64 0, .int .i64 0, .string ⟨#[]⟩] 24)).heap[w.heap.size]? = some (.cells #[.int .i64 0, .int .i64 0, .bool false, .int .i64 0, .int .i64 0, .int .i64 0, .int .i64 0, .int .i64 0, .int .i64 0, .string ⟨#[]⟩] 24) := heap_alloc_new w _
  have hB : Below w.heap.size w (w.alloc (.cells #[.int .i64 0, .int .i64 0, .bool false, .int .i64 0, .int .i64 0, .int .i64 0, .int .i64 0, .int .i64 0, .int .i64 0, .string ⟨#[]⟩] 24)) := (Below.refl _ w).alloc (Nat.le_refl _) _
  have hlz : w.heap.size < (w.alloc (.cells #[.int .i64 0, .int .i64 0, .bool false, .int .i64 0, .int .i64 0, .int .i64 0, .int .i64 0, .int .i64 0, .int .i64 0, .string ⟨#[]⟩] 24)).heap.size := by simp
  unfold LeftI at SR
  cases hc : chk s with
  | false =>
    have HN : Hid _ := P_no1 hc
    rw [hc] at SC
    generalize M16.read (chkS s) = r at *
    generalize chkS s = X at *
    obtain ⟨L, ok⟩ := r
    simp only at SR hrl
    generalize L.length = n at *
    clear hc
    go_enter Tryd.func12, Tryd.ntmps12
    go_wp2_with fail
    refine Calls.mono (SC.out _) ?_
    rintro e w1 ⟨rfl, hb1⟩
    have hB1 := hB.trans (hb1.mono hB.size)
    have hZ1 := (hb1.block w.heap.size hlz).trans hZ
    have hlz1 := Nat.lt_of_lt_of_le hlz hb1.size
    clear SC hb1 hB hZ hlz
    go_wp2_with fail
    refine Calls.mono (SR.out _) ?_
    rintro e w2 ⟨a2, c2, rfl, own2, hb2⟩
    have hB2 := hB1.trans (hb2.mono hB1.size)
    have hZ2 := (hb2.block w.heap.size hlz1).trans hZ1
    clear SR own2 hb2 hB1 hZ1 hlz1
    obtain ⟨d0, d1, d2, d3, d4, d5, d6, d7, d8, d9⟩ := zb_cells hZ2
    have z0 := zb_free hZ2 0
    have z1 := zb_free hZ2 1
    have z2 := zb_free hZ2 2
    have z3 := zb_free hZ2 3
    have z4 := zb_free hZ2 4
    have z5 := zb_free hZ2 5
    have z6 := zb_free hZ2 6
    have z7 := zb_free hZ2 7
    have z8 := zb_free hZ2 8
    have z9 := zb_free hZ2 9
    clear hZ2
    go_wp2
    exact bodyPost_ret (v := .tuple #[Bd.v B1.zero, .bool false]) (by simp [results, Tryd.results12, go_sem, B1.zero, d0, d1, d2, d3, d4, d5, d6, d7, d8, d9]) rfl ⟨.inr ⟨HN.out, rfl⟩, (((((((((hB2.setCell (by simp) _).setCell (by simp) _).setCell (by simp) _).setCell (by simp) _).setCell (by simp) _).setCell (by simp) _).setCell (by simp) _).setCell (by simp) _).setCell (by simp) _).setCell (by simp) _⟩
  | true =>
    rw [hc, ← chkS_yes hc] at SC
    rw [← chkS_yes hc] at SR hrl
    cases ho : (M16.read (bodyOf s)).2 with
    | false =>
      have HN : Hid _ := P_no2 ho
      rw [ho] at SR
      generalize M16.read (bodyOf s) = r at *
      generalize bodyOf s = X at *
      obtain ⟨L, ok⟩ := r
      simp only at SR hrl
      generalize L.length = n at *
      clear hc ho
      go_enter Tryd.func12, Tryd.ntmps12
      go_wp2_with fail
      refine Calls.mono (SC.out _) ?_
      rintro e w1 ⟨rfl, hb1⟩
      have hB1 := hB.trans (hb1.mono hB.size)
      have hZ1 := (hb1.block w.heap.size hlz).trans hZ
      have hlz1 := Nat.lt_of_lt_of_le hlz hb1.size
      clear SC hb1 hB hZ hlz
      go_wp2_with fail
      refine Calls.mono (SR.out _) ?_
      rintro e w2 ⟨a2, c2, rfl, own2, hb2⟩
      have hB2 := hB1.trans (hb2.mono hB1.size)
      have hZ2 := (hb2.block w.heap.size hlz1).trans hZ1
      clear SR own2 hb2 hB1 hZ1 hlz1
      obtain ⟨d0, d1, d2, d3, d4, d5, d6, d7, d8, d9⟩ := zb_cells hZ2
      have z0 := zb_free hZ2 0
      have z1 := zb_free hZ2 1
      have z2 := zb_free hZ2 2
      have z3 := zb_free hZ2 3
      have z4 := zb_free hZ2 4
      have z5 := zb_free hZ2 5
      have z6 := zb_free hZ2 6
      have z7 := zb_free hZ2 7
      have z8 := zb_free hZ2 8
      have z9 := zb_free hZ2 9
      clear hZ2
      go_wp2
      exact bodyPost_ret (v := .tuple #[Bd.v B1.zero, .bool false]) (by simp [results, Tryd.results12, go_sem, B1.zero, d0, d1, d2, d3, d4, d5, d6, d7, d8, d9]) rfl ⟨.inr ⟨HN.out, rfl⟩, (((((((((hB2.setCell (by simp) _).setCell (by simp) _).setCell (by simp) _).setCell (by simp) _).setCell (by simp) _).setCell (by simp) _).setCell (by simp) _).setCell (by simp) _).setCell (by simp) _).setCell (by simp) _⟩
    | true =>
      rw [ho] at SR
      have HL : Hid ((M16.read (bodyOf s)).1 = B3.L s) := rfl
      rw [HL.out] at SR hrl
      by_cases hn : (B3.L s).length = 11
      · have hpy := py_small ho hn
        have hS : ∀ (g : Nat) (W : World), g < W.heap.size → M11.ItemsAt W (some ⟨g, 0, none⟩) (B3.L s) → (g < W.heap.size ∧ W.cell? ⟨g, 5, none⟩ = some (.int .i64 (B3.it (B3.L s) 1).num) ∧ W.cell? ⟨g, 9, none⟩ = some (.int .i64 (B3.it (B3.L s) 2).num) ∧ W.cell? ⟨g, 13, none⟩ = some (.int .i64 (B3.it (B3.L s) 3).num) ∧ W.cell? ⟨g, 17, none⟩ = some (.int .i64 (B3.it (B3.L s) 4).num) ∧ W.cell? ⟨g, 21, none⟩ = some (.int .i64 (B3.it (B3.L s) 5).num) ∧ W.cell? ⟨g, 25, none⟩ = some (.int .i64 (B3.it (B3.L s) 6).num) ∧ W.cell? ⟨g, 29, none⟩ = some (.int .i64 (B3.it (B3.L s) 7).num) ∧ W.cell? ⟨g, 33, none⟩ = some (.int .i64 (B3.it (B3.L s) 8).num) ∧ W.cell? ⟨g, 37, none⟩ = some (.int .i64 (B3.it (B3.L s) 9).num) ∧ W.cell? ⟨g, 42, none⟩ = some (.string (B3.it (B3.L s) 10).text)) := by
          intro g W hg hin
          have hn1 : ∀ k, 1 ≤ k → k < 11 → W.cell? ⟨g, 4 * k + 1, none⟩ = some (.int .i64 (B3.it (B3.L s) k).num) ∧ W.cell? ⟨g, 4 * k + 2, none⟩ = some (.string (B3.it (B3.L s) k).text) := by
            intro k hk1 hk2
            obtain ⟨b, off, e, _, k0, k1, k2, k3⟩ := hin.at (k := k) (by omega)
            simp only [Option.some.injEq, Addr.mk.injEq, and_true] at e
            obtain ⟨rfl, rfl⟩ := e
            constructor
            · simpa [Nat.mul_comm] using k1
            · simpa [Nat.mul_comm] using k2
          exact ⟨hg, (hn1 1 (by omega) (by omega)).1, (hn1 2 (by omega) (by omega)).1, (hn1 3 (by omega) (by omega)).1, (hn1 4 (by omega) (by omega)).1, (hn1 5 (by omega) (by omega)).1, (hn1 6 (by omega) (by omega)).1, (hn1 7 (by omega) (by omega)).1, (hn1 8 (by omega) (by omega)).1, (hn1 9 (by omega) (by omega)).1, (hn1 10 (by omega) (by omega)).2⟩
        have GB : Hid (∀ W : World, Calls Tryd.prog 29 #[(B3.bOf (B3.L s)).v] W fun e w' => e = .returned (.bool (B1.good (B3.bOf (B3.L s)))) ∧ Below W.heap.size W w') := fun W => specGoodBundle_any _ W hpy _ rfl
        have BB : Hid (∀ W : World, B1.good (B3.bOf (B3.L s)) = true → Calls Tryd.prog 30 #[(B3.bOf (B3.L s)).v] W fun e w' => e = .returned (.string (bbS (B3.bOf (B3.L s)))) ∧ Below W.heap.size W w') := fun W h => l3Bytes_any h W
        have H4 : Hid (B1.good (B3.bOf (B3.L s)) = false → ¬ B3.P s) := fun h => P_no4 h
        have HQ : Hid (B1.good (B3.bOf (B3.L s)) = true → (bbS (B3.bOf (B3.L s)) = s ↔ B3.P s)) := fun h => ⟨fun h' => ⟨hc, ho, hn, h, (B3.same_iff hc ho h).1 h'⟩, fun h' => (B3.same_iff hc ho h).2 h'.2.2.2.2⟩
        unfold RB
        generalize B3.P s = PP at *
        generalize B1.good (B3.bOf (B3.L s)) = G at *
        generalize bbS (B3.bOf (B3.L s)) = Y at *
        unfold B3.bOf at GB BB hpy ⊢
        rw [hn] at SR
        generalize (B3.it (B3.L s) 1).num = n1 at *
        generalize (B3.it (B3.L s) 2).num = n2 at *
        generalize (B3.it (B3.L s) 3).num = n3 at *
        generalize (B3.it (B3.L s) 4).num = n4 at *
        generalize (B3.it (B3.L s) 5).num = n5 at *
        generalize (B3.it (B3.L s) 6).num = n6 at *
        generalize (B3.it (B3.L s) 7).num = n7 at *
        generalize (B3.it (B3.L s) 8).num = n8 at *
        generalize (B3.it (B3.L s) 9).num = n9 at *
        generalize (B3.it (B3.L s) 10).text = tx at *
        generalize B3.L s = L at *
        generalize bodyOf s = X at *
        clear hc ho HL
        go_enter Tryd.func12, Tryd.ntmps12
        go_wp2_with fail
        refine Calls.mono (SC.out _) ?_
        rintro e w1 ⟨rfl, hb1⟩
        have hB1 := hB.trans (hb1.mono hB.size)
        have hZ1 := (hb1.block w.heap.size hlz).trans hZ
        have hlz1 := Nat.lt_of_lt_of_le hlz hb1.size
        clear SC hb1 hB hZ hlz
        go_wp2_with fail
        refine Calls.mono (SR.out _) ?_
        rintro e w2 ⟨a2, c2, rfl, own2, hb2⟩
        have hB2 := hB1.trans (hb2.mono hB1.size)
        have hZ2 := (hb2.block w.heap.size hlz1).trans hZ1
        have hlz2 := Nat.lt_of_lt_of_le hlz1 hb2.size
        clear SR hb2 hB1 hZ1 hlz1
        obtain ⟨g, rfl, hg⟩ := own_some own2 (by omega)
        have hS2 := hS g w2 hg (own_items own2 hn)
        clear own2 hS hg
        have hS2d : (fun w' : World => g < w'.heap.size ∧ w'.cell? ⟨g, 5, none⟩ = some (.int .i64 n1) ∧ w'.cell? ⟨g, 9, none⟩ = some (.int .i64 n2) ∧ w'.cell? ⟨g, 13, none⟩ = some (.int .i64 n3) ∧ w'.cell? ⟨g, 17, none⟩ = some (.int .i64 n4) ∧ w'.cell? ⟨g, 21, none⟩ = some (.int .i64 n5) ∧ w'.cell? ⟨g, 25, none⟩ = some (.int .i64 n6) ∧ w'.cell? ⟨g, 29, none⟩ = some (.int .i64 n7) ∧ w'.cell? ⟨g, 33, none⟩ = some (.int .i64 n8) ∧ w'.cell? ⟨g, 37, none⟩ = some (.int .i64 n9) ∧ w'.cell? ⟨g, 42, none⟩ = some (.string tx)) w2.drew := hS2
        simp only at hS2d
        go_wp2
        go_region_held3 (fun w' => g < w'.heap.size ∧ w'.cell? ⟨g, 5, none⟩ = some (.int .i64 n1) ∧ w'.cell? ⟨g, 9, none⟩ = some (.int .i64 n2) ∧ w'.cell? ⟨g, 13, none⟩ = some (.int .i64 n3) ∧ w'.cell? ⟨g, 17, none⟩ = some (.int .i64 n4) ∧ w'.cell? ⟨g, 21, none⟩ = some (.int .i64 n5) ∧ w'.cell? ⟨g, 25, none⟩ = some (.int .i64 n6) ∧ w'.cell? ⟨g, 29, none⟩ = some (.int .i64 n7) ∧ w'.cell? ⟨g, 33, none⟩ = some (.int .i64 n8) ∧ w'.cell? ⟨g, 37, none⟩ = some (.int .i64 n9) ∧ w'.cell? ⟨g, 42, none⟩ = some (.string tx)) (first | assumption | (show _ ∧ _; assumption) | exact in_alloc hS2d _ | exact in_alloc hS2 _) (fail)
        have hx3 : Below w2.heap.size w2 (w2.alloc (.cells #[.int .i64 n1, .int .i64 n2, .bool (n3 == 1), .int .i64 n4, .int .i64 n5, .int .i64 n6, .int .i64 n7, .int .i64 n8, .int .i64 n9, .string tx] 24)).drew := ((Below.refl _ w2).alloc (Nat.le_refl _) _).drew
        have hA3 : BdAt (w2.alloc (.cells #[.int .i64 n1, .int .i64 n2, .bool (n3 == 1), .int .i64 n4, .int .i64 n5, .int .i64 n6, .int .i64 n7, .int .i64 n8, .int .i64 n9, .string tx] 24)).drew w2.heap.size ⟨n1, n2, n3 == 1, n4, n5, n6, n7, n8, n9, tx⟩ := BdAt.box w2 ⟨n1, n2, n3 == 1, n4, n5, n6, n7, n8, n9, tx⟩ 24
        have hB3 := hB2.trans (hx3.mono hB2.size)
        have hZ3 := (hx3.block w.heap.size hlz2).trans hZ2
        have hlz3 := Nat.lt_of_lt_of_le hlz2 hx3.size
        have hne : w2.heap.size ≠ w.heap.size := by omega
        have hle : w.heap.size ≤ w2.heap.size := by omega
        clear hx3 hS2 hS2d hZ2 hB2
        cases G with
        | false =>
          have HN : Hid _ := H4.out rfl
          clear H4 HQ BB
          obtain ⟨hlt, q0, q1, q2, q3, q4, q5, q6, q7, q8, q9⟩ := hA3
          go_wp2_with fail
          refine Calls.mono (GB.out _) ?_
          rintro e w4 ⟨rfl, hb4⟩
          have hB4 := hB3.trans (hb4.mono hB3.size)
          have hZ4 := (hb4.block w.heap.size hlz3).trans hZ3
          clear GB hb4 hB3 hZ3 hlt q0 q1 q2 q3 q4 q5 q6 q7 q8 q9
          obtain ⟨d0, d1, d2, d3, d4, d5, d6, d7, d8, d9⟩ := zb_cells hZ4
          have z0 := zb_free hZ4 0
          have z1 := zb_free hZ4 1
          have z2 := zb_free hZ4 2
          have z3 := zb_free hZ4 3
          have z4 := zb_free hZ4 4
          have z5 := zb_free hZ4 5
          have z6 := zb_free hZ4 6
          have z7 := zb_free hZ4 7
          have z8 := zb_free hZ4 8
          have z9 := zb_free hZ4 9
          clear hZ4
          go_wp2
          exact bodyPost_ret (v := .tuple #[Bd.v B1.zero, .bool false]) (by simp [results, Tryd.results12, go_sem, B1.zero, d0, d1, d2, d3, d4, d5, d6, d7, d8, d9]) rfl ⟨.inr ⟨HN.out, rfl⟩, (((((((((hB4.setCell (by simp) _).setCell (by simp) _).setCell (by simp) _).setCell (by simp) _).setCell (by simp) _).setCell (by simp) _).setCell (by simp) _).setCell (by simp) _).setCell (by simp) _).setCell (by simp) _⟩
        | true =>
          have HQ2 : Hid _ := HQ.out rfl
          clear H4 HQ
          obtain ⟨hlt, q0, q1, q2, q3, q4, q5, q6, q7, q8, q9⟩ := id hA3
          go_wp2_with fail
          refine Calls.mono (GB.out _) ?_
          rintro e w4 ⟨rfl, hb4⟩
          have hA4 := hA3.below hb4 hA3.1
          have hB4 := hB3.trans (hb4.mono hB3.size)
          have hZ4 := (hb4.block w.heap.size hlz3).trans hZ3
          have hlz4 := Nat.lt_of_lt_of_le hlz3 hb4.size
          clear GB hb4 hB3 hZ3 hA3 hlt q0 q1 q2 q3 q4 q5 q6 q7 q8 q9
          obtain ⟨hlt, q0, q1, q2, q3, q4, q5, q6, q7, q8, q9⟩ := id hA4
          go_wp2_with fail
          refine Calls.mono (BB.out _ trivial) ?_
          rintro e w5 ⟨rfl, hb5⟩
          have hA5 := hA4.below hb5 hA4.1
          have hB5 := hB4.trans (hb5.mono hB4.size)
          have hZ5 := (hb5.block w.heap.size hlz4).trans hZ4
          clear BB hb5 hB4 hZ4 hA4 hlt q0 q1 q2 q3 q4 q5 q6 q7 q8 q9
          by_cases hy : Y = s
          · have HP : Hid PP := HQ2.out.1 hy
            subst hy
            clear HQ2
            obtain ⟨hlt, q0, q1, q2, q3, q4, q5, q6, q7, q8, q9⟩ := hA5
            obtain ⟨d0, d1, d2, d3, d4, d5, d6, d7, d8, d9⟩ := zb_cells hZ5
            have z0 := zb_free hZ5 0
            have z1 := zb_free hZ5 1
            have z2 := zb_free hZ5 2
            have z3 := zb_free hZ5 3
            have z4 := zb_free hZ5 4
            have z5 := zb_free hZ5 5
            have z6 := zb_free hZ5 6
            have z7 := zb_free hZ5 7
            have z8 := zb_free hZ5 8
            have z9 := zb_free hZ5 9
            clear hZ5
            go_wp2
            exact bodyPost_ret (v := .tuple #[Bd.v ⟨n1, n2, n3 == 1, n4, n5, n6, n7, n8, n9, tx⟩, .bool true]) (by simp [results, Tryd.results12, go_sem, d0, d1, d2, d3, d4, d5, d6, d7, d8, d9]) rfl ⟨.inl ⟨HP.out, rfl⟩, (((((((((hB5.setCell (by simp) _).setCell (by simp) _).setCell (by simp) _).setCell (by simp) _).setCell (by simp) _).setCell (by simp) _).setCell (by simp) _).setCell (by simp) _).setCell (by simp) _).setCell (by simp) _⟩
          · have HN : Hid (¬ PP) := fun h => hy (HQ2.out.2 h)
            have hy1 : (Y.toList == s.toList) = false := beq_no hy
            clear HQ2 hA5
            obtain ⟨d0, d1, d2, d3, d4, d5, d6, d7, d8, d9⟩ := zb_cells hZ5
            have z0 := zb_free hZ5 0
            have z1 := zb_free hZ5 1
            have z2 := zb_free hZ5 2
            have z3 := zb_free hZ5 3
            have z4 := zb_free hZ5 4
            have z5 := zb_free hZ5 5
            have z6 := zb_free hZ5 6
            have z7 := zb_free hZ5 7
            have z8 := zb_free hZ5 8
            have z9 := zb_free hZ5 9
            clear hZ5
            go_wp2
            exact bodyPost_ret (v := .tuple #[Bd.v B1.zero, .bool false]) (by simp [results, Tryd.results12, go_sem, B1.zero, d0, d1, d2, d3, d4, d5, d6, d7, d8, d9]) rfl ⟨.inr ⟨HN.out, rfl⟩, (((((((((hB5.setCell (by simp) _).setCell (by simp) _).setCell (by simp) _).setCell (by simp) _).setCell (by simp) _).setCell (by simp) _).setCell (by simp) _).setCell (by simp) _).setCell (by simp) _).setCell (by simp) _⟩
      · have HN : Hid _ := P_no3 hn
        generalize B3.L s = L at *
        generalize bodyOf s = X at *
        generalize L.length = n at *
        have hn' : ((n : Int) != 11) = true := by simp; omega
        clear hc ho HL
        go_enter Tryd.func12, Tryd.ntmps12
        go_wp2_with fail
        refine Calls.mono (SC.out _) ?_
        rintro e w1 ⟨rfl, hb1⟩
        have hB1 := hB.trans (hb1.mono hB.size)
        have hZ1 := (hb1.block w.heap.size hlz).trans hZ
        have hlz1 := Nat.lt_of_lt_of_le hlz hb1.size
        clear SC hb1 hB hZ hlz
        go_wp2_with fail
        refine Calls.mono (SR.out _) ?_
        rintro e w2 ⟨a2, c2, rfl, own2, hb2⟩
        have hB2 := hB1.trans (hb2.mono hB1.size)
        have hZ2 := (hb2.block w.heap.size hlz1).trans hZ1
        clear SR own2 hb2 hB1 hZ1 hlz1
        obtain ⟨d0, d1, d2, d3, d4, d5, d6, d7, d8, d9⟩ := zb_cells hZ2
        have z0 := zb_free hZ2 0
        have z1 := zb_free hZ2 1
        have z2 := zb_free hZ2 2
        have z3 := zb_free hZ2 3
        have z4 := zb_free hZ2 4
        have z5 := zb_free hZ2 5
        have z6 := zb_free hZ2 6
        have z7 := zb_free hZ2 7
        have z8 := zb_free hZ2 8
        have z9 := zb_free hZ2 9
        clear hZ2
        go_wp2
        exact bodyPost_ret (v := .tuple #[Bd.v B1.zero, .bool false]) (by simp [results, Tryd.results12, go_sem, B1.zero, d0, d1, d2, d3, d4, d5, d6, d7, d8, d9]) rfl ⟨.inr ⟨HN.out, rfl⟩, (((((((((hB2.setCell (by simp) _).setCell (by simp) _).setCell (by simp) _).setCell (by simp) _).setCell (by simp) _).setCell (by simp) _).setCell (by simp) _).setCell (by simp) _).setCell (by simp) _).setCell (by simp) _⟩
end Go.Proofs.YtcpfbgogfhlmjaaDoor
