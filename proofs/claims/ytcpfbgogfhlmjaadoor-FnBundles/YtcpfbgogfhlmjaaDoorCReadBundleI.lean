import Derived.Test.YtcpfbgogfhlmjaaDoorRows
import Derived.Test.YtcpfbgogfhlmjaaDoorMB1
import Derived.Test.YtcpfbgogfhlmjaaDoorCClone
import Derived.WalkKit
import Derived.WalkSpells
import Derived.WalkLawsBesides
import Derived.Outline
import Derived.Deep.QuietTactic
import Derived.BigQuiet
import Derived.Deep.RegionHeld3
import Derived.Test.YtcpfbgogfhlmjaaDoorCParcelIn
import Derived.Test.YtcpfbgogfhlmjaaDoorCImplRead
import Derived.Test.YtcpfbgogfhlmjaaDoorCGoodBundle
/- impl.parcel's bundle: the bundle again, its payload a copy. -/
namespace Go.Proofs.YtcpfbgogfhlmjaaDoor
open Go.RowKit
set_option maxHeartbeats 3200000 in
set_option maxRecDepth 100000 in
theorem parcelBundle_any (b : Bd) (w : World) (hs : b.py.size ≤ 1048576) : Calls Tryd.prog 34 #[b.v] w fun e w' => e = .returned b.v ∧ Below w.heap.size w w' := by
  have CL : Hid _ := fun W => clone_any b.py W hs
  obtain ⟨fr, to, gr, md, no, lf, hp, of, tl, py⟩ := b
  simp only at CL
  clear hs
  go_enter Tryd.func34, Tryd.ntmps34
  go_wp2
  go_region_held3 (fun w' => w'.cell? ⟨w.heap.size, 0, none⟩ = some (.int .i64 fr) ∧ w'.cell? ⟨w.heap.size, 1, none⟩ = some (.int .i64 to) ∧ w'.cell? ⟨w.heap.size, 2, none⟩ = some (.bool gr) ∧ w'.cell? ⟨w.heap.size, 3, none⟩ = some (.int .i64 md) ∧ w'.cell? ⟨w.heap.size, 4, none⟩ = some (.int .i64 no) ∧ w'.cell? ⟨w.heap.size, 5, none⟩ = some (.int .i64 lf) ∧ w'.cell? ⟨w.heap.size, 6, none⟩ = some (.int .i64 hp) ∧ w'.cell? ⟨w.heap.size, 7, none⟩ = some (.int .i64 of) ∧ w'.cell? ⟨w.heap.size, 8, none⟩ = some (.int .i64 tl) ∧ w'.cell? ⟨w.heap.size, 9, none⟩ = some (.string py)) (go_keep) (first | (go_at_call 59; refine Calls.mono (CL.out _) ?_; rintro e w2 ⟨rfl, hb2⟩; have p0 : w2.cell? ⟨w.heap.size, 0, none⟩ = some (.int .i64 fr) := (hb2.cell (by simp; omega)).trans (by simp); have p1 : w2.cell? ⟨w.heap.size, 1, none⟩ = some (.int .i64 to) := (hb2.cell (by simp; omega)).trans (by simp); have p2 : w2.cell? ⟨w.heap.size, 2, none⟩ = some (.bool gr) := (hb2.cell (by simp; omega)).trans (by simp); have p3 : w2.cell? ⟨w.heap.size, 3, none⟩ = some (.int .i64 md) := (hb2.cell (by simp; omega)).trans (by simp); have p4 : w2.cell? ⟨w.heap.size, 4, none⟩ = some (.int .i64 no) := (hb2.cell (by simp; omega)).trans (by simp); have p5 : w2.cell? ⟨w.heap.size, 5, none⟩ = some (.int .i64 lf) := (hb2.cell (by simp; omega)).trans (by simp); have p6 : w2.cell? ⟨w.heap.size, 6, none⟩ = some (.int .i64 hp) := (hb2.cell (by simp; omega)).trans (by simp); have p7 : w2.cell? ⟨w.heap.size, 7, none⟩ = some (.int .i64 of) := (hb2.cell (by simp; omega)).trans (by simp); have p8 : w2.cell? ⟨w.heap.size, 8, none⟩ = some (.int .i64 tl) := (hb2.cell (by simp; omega)).trans (by simp); have p9 : w2.cell? ⟨w.heap.size, 9, none⟩ = some (.string py) := (hb2.cell (by simp; omega)).trans (by simp); have d0 : w2.cell? ⟨w.heap.size + 1, 0, none⟩ = some (.int .i64 0) := (hb2.cell (by simp)).trans (by simp); have d1 : w2.cell? ⟨w.heap.size + 1, 1, none⟩ = some (.int .i64 0) := (hb2.cell (by simp)).trans (by simp); have d2 : w2.cell? ⟨w.heap.size + 1, 2, none⟩ = some (.bool false) := (hb2.cell (by simp)).trans (by simp); have d3 : w2.cell? ⟨w.heap.size + 1, 3, none⟩ = some (.int .i64 0) := (hb2.cell (by simp)).trans (by simp); have d4 : w2.cell? ⟨w.heap.size + 1, 4, none⟩ = some (.int .i64 0) := (hb2.cell (by simp)).trans (by simp); have d5 : w2.cell? ⟨w.heap.size + 1, 5, none⟩ = some (.int .i64 0) := (hb2.cell (by simp)).trans (by simp); have d6 : w2.cell? ⟨w.heap.size + 1, 6, none⟩ = some (.int .i64 0) := (hb2.cell (by simp)).trans (by simp); have d7 : w2.cell? ⟨w.heap.size + 1, 7, none⟩ = some (.int .i64 0) := (hb2.cell (by simp)).trans (by simp); have d8 : w2.cell? ⟨w.heap.size + 1, 8, none⟩ = some (.int .i64 0) := (hb2.cell (by simp)).trans (by simp); have d9 : w2.cell? ⟨w.heap.size + 1, 9, none⟩ = some (.string ⟨#[]⟩) := (hb2.cell (by simp)).trans (by simp); have f0 : w2.frozen? ⟨w.heap.size + 1, 0, none⟩ = false := (hb2.frozen (by simp)).trans (by simp); have f1 : w2.frozen? ⟨w.heap.size + 1, 1, none⟩ = false := (hb2.frozen (by simp)).trans (by simp); have f2 : w2.frozen? ⟨w.heap.size + 1, 2, none⟩ = false := (hb2.frozen (by simp)).trans (by simp); have f3 : w2.frozen? ⟨w.heap.size + 1, 3, none⟩ = false := (hb2.frozen (by simp)).trans (by simp); have f4 : w2.frozen? ⟨w.heap.size + 1, 4, none⟩ = false := (hb2.frozen (by simp)).trans (by simp); have f5 : w2.frozen? ⟨w.heap.size + 1, 5, none⟩ = false := (hb2.frozen (by simp)).trans (by simp); have f6 : w2.frozen? ⟨w.heap.size + 1, 6, none⟩ = false := (hb2.frozen (by simp)).trans (by simp); have f7 : w2.frozen? ⟨w.heap.size + 1, 7, none⟩ = false := (hb2.frozen (by simp)).trans (by simp); have f8 : w2.frozen? ⟨w.heap.size + 1, 8, none⟩ = false := (hb2.frozen (by simp)).trans (by simp); have f9 : w2.frozen? ⟨w.heap.size + 1, 9, none⟩ = false := (hb2.frozen (by simp)).trans (by simp)))
  have hB2 : Below w.heap.size w w2 := ((((Below.refl _ w).alloc (Nat.le_refl _) _).alloc (by simp) _).drew).trans (hb2.mono (by simp; omega))
  rename_i hh
  clear hh hb2 p0 p1 p2 p3 p4 p5 p6 p7 p8 p9 CL
  go_wp2
  exact bodyPost_ret (v := Bd.v ⟨fr, to, gr, md, no, lf, hp, of, tl, py⟩) (by simp [results, Tryd.results34, go_sem, d0, d1, d2, d3, d4, d5, d6, d7, d8, d9]) rfl ⟨rfl, (((((((((hB2.setCell (by simp) _).setCell (by simp) _).setCell (by simp) _).setCell (by simp) _).setCell (by simp) _).setCell (by simp) _).setCell (by simp) _).setCell (by simp) _).setCell (by simp) _).setCell (by simp) _⟩
end Go.Proofs.YtcpfbgogfhlmjaaDoor

/- The program's ReadBundle at any text. -/
namespace Go.Proofs.YtcpfbgogfhlmjaaDoor
open Go.RowKit
set_option maxHeartbeats 400000 in
set_option maxRecDepth 100000 in
theorem parcelIn_no (a : Option Addr) (n cap : Nat) (w : World) (_hn : n ≤ 1000) (h : n ≠ 11) :
    Calls Tryd.prog 33 #[.slice a n cap] w fun e w' => e = .returned (.tuple #[B1.zero.v, .bool false]) ∧ Below w.heap.size w w' := by
  have hb : ((n : Int) != 11) = true := by simp; omega
  go_enter Tryd.func33, Tryd.ntmps33
  go_wp2
  exact bodyPost_ret (v := .tuple #[Bd.v B1.zero, .bool false]) (by simp [results, Tryd.results33, go_sem, B1.zero]) rfl ⟨rfl, (Below.refl _ w).alloc (Nat.le_refl _) _⟩
theorem P_no1 {s : ByteArray} (h : chk s = false) : ¬ B3.P s := fun hp => by have := hp.1; rw [h] at this; cases this
theorem P_no2 {s : ByteArray} (h : (M16.read (bodyOf s)).2 = false) : ¬ B3.P s := fun hp => by have := hp.2.1; rw [h] at this; cases this
theorem P_no3 {s : ByteArray} (h : (B3.L s).length ≠ 11) : ¬ B3.P s := fun hp => h hp.2.2.1
theorem P_no4 {s : ByteArray} (h : B1.good (B3.bOf (B3.L s)) = false) : ¬ B3.P s := fun hp => by have := hp.2.2.2.1; rw [h] at this; cases this
theorem P_no5 {s : ByteArray} (h : ¬ B2.items (B3.bOf (B3.L s)) = B3.L s) : ¬ B3.P s := fun hp => h hp.2.2.2.2
theorem zb_cells {w : World} {k t : Nat} (h : w.heap[k]? = some (.cells #[.int .i64 0, .int .i64 0, .bool false, .int .i64 0, .int .i64 0, .int .i64 0, .int .i64 0, .int .i64 0, .int .i64 0, .string ⟨#[]⟩] t)) : w.cell? ⟨k, 0, none⟩ = some (.int .i64 0) ∧ w.cell? ⟨k, 1, none⟩ = some (.int .i64 0) ∧ w.cell? ⟨k, 2, none⟩ = some (.bool false) ∧ w.cell? ⟨k, 3, none⟩ = some (.int .i64 0) ∧ w.cell? ⟨k, 4, none⟩ = some (.int .i64 0) ∧ w.cell? ⟨k, 5, none⟩ = some (.int .i64 0) ∧ w.cell? ⟨k, 6, none⟩ = some (.int .i64 0) ∧ w.cell? ⟨k, 7, none⟩ = some (.int .i64 0) ∧ w.cell? ⟨k, 8, none⟩ = some (.int .i64 0) ∧ w.cell? ⟨k, 9, none⟩ = some (.string ⟨#[]⟩) :=
  ⟨cell_blk h, cell_blk h, cell_blk h, cell_blk h, cell_blk h, cell_blk h, cell_blk h, cell_blk h, cell_blk h, cell_blk h⟩
theorem zb_free {w : World} {k t : Nat} (h : w.heap[k]? = some (.cells #[.int .i64 0, .int .i64 0, .bool false, .int .i64 0, .int .i64 0, .int .i64 0, .int .i64 0, .int .i64 0, .int .i64 0, .string ⟨#[]⟩] t)) (j : Nat) : w.frozen? ⟨k, j, none⟩ = false := by
  unfold World.frozen?; rw [h]; simp
theorem own_some {w : World} {base e n cap : Nat} {a : Option Addr} {xs : List Value} (h : w.ownsRow base e 4 (.slice a n cap) n xs) (hn : 0 < n) : ∃ g, a = some ⟨g, 0, none⟩ ∧ g < w.heap.size := by
  rcases h.2 with ⟨_, h0⟩ | ⟨g, c, cur, he, hb, hg, _⟩
  · omega
  · simp only [Value.slice.injEq] at he
    exact ⟨g, he.1, (Array.getElem?_eq_some_iff.1 hg).1⟩
theorem py_small {s : ByteArray} (ho : (M16.read (bodyOf s)).2 = true) (hn : (B3.L s).length = 11) : (B3.bOf (B3.L s)).py.size ≤ 1048576 := by
  obtain ⟨hg, hb⟩ := M16.read_good ho
  have hm : B3.it (B3.L s) 10 ∈ B3.L s := by unfold B3.it; rw [M11.at_eq _ _ (by omega)]; exact List.getElem_mem _
  have := can_text (L := B3.L s) (n := 400) (M16.good_can hg) (M16.good_one hg).2 _ hm
  exact Nat.le_trans this (by omega)
set_option maxHeartbeats 3200000 in
set_option maxRecDepth 100000 in
theorem implReadBundle_any (s : ByteArray) (w : World) (hs0 : s.size ≤ maxLen) (hT : Tab w) :
    Calls Tryd.prog 9 #[.string s] w fun e w' => RB s e ∧ Below w.heap.size w w' := by
  have IC : Hid (∀ W : World, Tab W → Calls Tryd.prog 31 #[.string s] W fun e w' => e = .returned (.tuple #[.string (chkS s), .bool (chk s)]) ∧ Below W.heap.size W w') := fun W ht => implCheck_any s W hs0 ht
  have hZ : (w.alloc (.cells #[.int .i64 0, .int .i64 0, .bool false, .int .i64 0, .int .i64 0, .int .i64 0, .int .i64 0, .int .i64 0, .int .i64 0, .string ⟨#[]⟩] 24)).heap[w.heap.size]? = some (.cells #[.int .i64 0, .int .i64 0, .bool false, .int .i64 0, .int .i64 0, .int .i64 0, .int .i64 0, .int .i64 0, .int .i64 0, .string ⟨#[]⟩] 24) := heap_alloc_new w _
  have hB : Below w.heap.size w (w.alloc (.cells #[.int .i64 0, .int .i64 0, .bool false, .int .i64 0, .int .i64 0, .int .i64 0, .int .i64 0, .int .i64 0, .int .i64 0, .string ⟨#[]⟩] 24)) := (Below.refl _ w).alloc (Nat.le_refl _) _
  have hT0 : Tab (w.alloc (.cells #[.int .i64 0, .int .i64 0, .bool false, .int .i64 0, .int .i64 0, .int .i64 0, .int .i64 0, .int .i64 0, .int .i64 0, .string ⟨#[]⟩] 24)) := hT.below hB
  have hlz : w.heap.size < (w.alloc (.cells #[.int .i64 0, .int .i64 0, .bool false, .int .i64 0, .int .i64 0, .int .i64 0, .int .i64 0, .int .i64 0, .int .i64 0, .string ⟨#[]⟩] 24)).heap.size := by simp
  cases hc : chk s with
  | false =>
    have HN : Hid _ := P_no1 hc
    rw [hc] at IC
    generalize chkS s = X at *
    clear hc hT
    go_enter Tryd.func9, Tryd.ntmps9
    go_wp2_with fail
    refine Calls.mono (IC.out _ hT0) ?_
    rintro e w1 ⟨rfl, hb1⟩
    have hB1 := hB.trans (hb1.mono hB.size)
    have hZ1 := (hb1.block w.heap.size hlz).trans hZ
    clear IC hb1 hZ hB hT0
    obtain ⟨d0, d1, d2, d3, d4, d5, d6, d7, d8, d9⟩ := zb_cells hZ1
    have z0 := zb_free hZ1 0
    have z1 := zb_free hZ1 1
    have z2 := zb_free hZ1 2
    have z3 := zb_free hZ1 3
    have z4 := zb_free hZ1 4
    have z5 := zb_free hZ1 5
    have z6 := zb_free hZ1 6
    have z7 := zb_free hZ1 7
    have z8 := zb_free hZ1 8
    have z9 := zb_free hZ1 9
    clear hZ1
    go_wp2
    exact bodyPost_ret (v := .tuple #[Bd.v B1.zero, .bool false]) (by simp [results, Tryd.results9, go_sem, B1.zero, d0, d1, d2, d3, d4, d5, d6, d7, d8, d9]) rfl ⟨.inr ⟨HN.out, rfl⟩, (((((((((hB1.setCell (by simp) _).setCell (by simp) _).setCell (by simp) _).setCell (by simp) _).setCell (by simp) _).setCell (by simp) _).setCell (by simp) _).setCell (by simp) _).setCell (by simp) _).setCell (by simp) _⟩
  | true =>
    have hbs : (bodyOf s).size ≤ maxLen := by rw [body_size]; unfold maxLen at hs0 ⊢; omega
    have IR : Hid _ := fun W => implReadItems_any (bodyOf s) W hbs
    have hrl := M16.read_len (bodyOf s)
    rw [hc, ← chkS_yes hc] at IC
    clear hT hbs
    cases ho : (M16.read (bodyOf s)).2 with
    | false =>
      have HN : Hid _ := P_no2 ho
      unfold LeftI at IR
      rw [ho] at IR
      generalize (M16.read (bodyOf s)).1 = L at *
      generalize bodyOf s = X at *
      clear ho hc
      go_enter Tryd.func9, Tryd.ntmps9
      go_wp2_with fail
      refine Calls.mono (IC.out _ hT0) ?_
      rintro e w1 ⟨rfl, hb1⟩
      have hB1 := hB.trans (hb1.mono hB.size)
      have hZ1 := (hb1.block w.heap.size hlz).trans hZ
      have hlz1 := Nat.lt_of_lt_of_le hlz hb1.size
      clear IC hb1 hZ hB hT0
      go_wp2_with fail
      refine Calls.mono (IR.out _) ?_
      rintro e w2 ⟨a2, c2, rfl, own2, hb2⟩
      have hB2 := hB1.trans (hb2.mono hB1.size)
      have hZ2 := (hb2.block w.heap.size hlz1).trans hZ1
      clear IR hb2 hZ1 hB1 own2
      obtain ⟨d0, d1, d2, d3, d4, d5, d6, d7, d8, d9⟩ := zb_cells hZ2
      have z0 := zb_free hZ2 0
      have z1 := zb_free hZ2 1
      have z2 := zb_free hZ2 2
      have z3 := zb_free hZ2 3
      have z4 := zb_free hZ2 4
      have z5 := zb_free hZ2 5
      have z6 := zb_free hZ2 6
      have z7 := zb_free hZ2 7
      have z8 := zb_free hZ2 8
      have z9 := zb_free hZ2 9
      clear hZ2
      go_wp2
      exact bodyPost_ret (v := .tuple #[Bd.v B1.zero, .bool false]) (by simp [results, Tryd.results9, go_sem, B1.zero, d0, d1, d2, d3, d4, d5, d6, d7, d8, d9]) rfl ⟨.inr ⟨HN.out, rfl⟩, (((((((((hB2.setCell (by simp) _).setCell (by simp) _).setCell (by simp) _).setCell (by simp) _).setCell (by simp) _).setCell (by simp) _).setCell (by simp) _).setCell (by simp) _).setCell (by simp) _).setCell (by simp) _⟩
    | true =>
      unfold LeftI at IR
      rw [ho] at IR
      have HL : Hid ((M16.read (bodyOf s)).1 = B3.L s) := rfl
      rw [HL.out] at IR hrl
      by_cases hn : (B3.L s).length = 11
      · have hpy := py_small ho hn
        have PI : Hid (∀ (g cap : Nat) (W : World), g < W.heap.size → M11.ItemsAt W (some ⟨g, 0, none⟩) (B3.L s) → Calls Tryd.prog 33 #[.slice (some ⟨g, 0, none⟩) 11 cap] W fun e w' => ((B2.items (B3.bOf (B3.L s)) = B3.L s ∧ e = .returned (.tuple #[(B3.bOf (B3.L s)).v, .bool true])) ∨ (¬ B2.items (B3.bOf (B3.L s)) = B3.L s ∧ e = .returned (.tuple #[(B3.bOf (B3.L s)).v, .bool false]))) ∧ Below W.heap.size W w') := fun g cap W hg hin => parcelIn_ex g cap (B3.L s) W hn hg hin
        have IG : Hid (∀ W : World, Calls Tryd.prog 25 #[(B3.bOf (B3.L s)).v] W fun e w' => e = .returned (.bool (B1.good (B3.bOf (B3.L s)))) ∧ Below W.heap.size W w') := fun W => isGood_any _ W hpy _ rfl
        have PBd : Hid _ := fun W => parcelBundle_any (B3.bOf (B3.L s)) W hpy
        have BX : Hid (∀ W : World, BdAt (W.alloc (.cells #[.int .i64 (B3.bOf (B3.L s)).fr, .int .i64 (B3.bOf (B3.L s)).to, .bool (B3.bOf (B3.L s)).gr, .int .i64 (B3.bOf (B3.L s)).md, .int .i64 (B3.bOf (B3.L s)).no, .int .i64 (B3.bOf (B3.L s)).lf, .int .i64 (B3.bOf (B3.L s)).hp, .int .i64 (B3.bOf (B3.L s)).of, .int .i64 (B3.bOf (B3.L s)).tl, .string (B3.bOf (B3.L s)).py] 45)) W.heap.size (B3.bOf (B3.L s))) := fun W => BdAt.box W (B3.bOf (B3.L s)) 45
        have H4 : Hid (B1.good (B3.bOf (B3.L s)) = false → ¬ B3.P s) := fun h => P_no4 h
        have H5 : Hid (¬ B2.items (B3.bOf (B3.L s)) = B3.L s → ¬ B3.P s) := fun h => P_no5 h
        have HP : Hid (B1.good (B3.bOf (B3.L s)) = true → B2.items (B3.bOf (B3.L s)) = B3.L s → B3.P s) := fun h h' => ⟨hc, ho, hn, h, h'⟩
        unfold RB
        generalize B1.good (B3.bOf (B3.L s)) = G at *
        generalize B3.bOf (B3.L s) = b at *
        rw [hn] at IR
        generalize B3.L s = L at *
        generalize bodyOf s = X at *
        clear ho hc HL hpy hs0
        obtain ⟨fr, to, gr, md, no, lf, hp, of, tl, py⟩ := b
        simp only at BX
        go_enter Tryd.func9, Tryd.ntmps9
        go_wp2_with fail
        refine Calls.mono (IC.out _ hT0) ?_
        rintro e w1 ⟨rfl, hb1⟩
        have hB1 := hB.trans (hb1.mono hB.size)
        have hZ1 := (hb1.block w.heap.size hlz).trans hZ
        have hlz1 := Nat.lt_of_lt_of_le hlz hb1.size
        clear IC hb1 hZ hB hT0
        go_wp2_with fail
        refine Calls.mono (IR.out _) ?_
        rintro e w2 ⟨a2, c2, rfl, own2, hb2⟩
        have hB2 := hB1.trans (hb2.mono hB1.size)
        have hZ2 := (hb2.block w.heap.size hlz1).trans hZ1
        have hlz2 := Nat.lt_of_lt_of_le hlz1 hb2.size
        clear IR hb2 hZ1 hB1
        obtain ⟨g, rfl, hg⟩ := own_some own2 (by omega)
        have hin2 := own_items own2 hn
        clear own2
        go_wp2_with fail
        refine Calls.mono (PI.out _ _ _ hg hin2) ?_
        rintro e w3 ⟨he, hb3⟩
        have hB3 := hB2.trans (hb3.mono hB2.size)
        have hZ3 := (hb3.block w.heap.size hlz2).trans hZ2
        have hlz3 := Nat.lt_of_lt_of_le hlz2 hb3.size
        have hA3 := BX.out w3
        have hx3 : Below w3.heap.size w3 _ := (Below.refl _ w3).alloc (Nat.le_refl _) (.cells #[.int .i64 fr, .int .i64 to, .bool gr, .int .i64 md, .int .i64 no, .int .i64 lf, .int .i64 hp, .int .i64 of, .int .i64 tl, .string py] 45)
        have hB3a := hB3.trans (hx3.mono hB3.size)
        have hZ3a := (hx3.block w.heap.size hlz3).trans hZ3
        have hlz3a := Nat.lt_of_lt_of_le hlz3 hx3.size
        clear PI hb3 hin2 hB2 hZ2 BX
        rcases he with ⟨hi, rfl⟩ | ⟨hi, rfl⟩
        · cases G with
          | false =>
            have HN : Hid _ := H4.out rfl
            clear H4 H5 HP hi PBd
            go_wp2_with fail
            refine Calls.mono (IG.out _) ?_
            rintro e w4 ⟨rfl, hb4⟩
            have hB4 := hB3a.trans (hb4.mono hB3a.size)
            have hZ4 := (hb4.block w.heap.size hlz3a).trans hZ3a
            clear IG hb4 hB3a hZ3a hA3 hB3 hZ3 hx3
            obtain ⟨d0, d1, d2, d3, d4, d5, d6, d7, d8, d9⟩ := zb_cells hZ4
            have z0 := zb_free hZ4 0
            have z1 := zb_free hZ4 1
            have z2 := zb_free hZ4 2
            have z3 := zb_free hZ4 3
            have z4 := zb_free hZ4 4
            have z5 := zb_free hZ4 5
            have z6 := zb_free hZ4 6
            have z7 := zb_free hZ4 7
            have z8 := zb_free hZ4 8
            have z9 := zb_free hZ4 9
            clear hZ4
            go_wp2
            exact bodyPost_ret (v := .tuple #[Bd.v B1.zero, .bool false]) (by simp [results, Tryd.results9, go_sem, B1.zero, d0, d1, d2, d3, d4, d5, d6, d7, d8, d9]) rfl ⟨.inr ⟨HN.out, rfl⟩, (((((((((hB4.setCell (by simp) _).setCell (by simp) _).setCell (by simp) _).setCell (by simp) _).setCell (by simp) _).setCell (by simp) _).setCell (by simp) _).setCell (by simp) _).setCell (by simp) _).setCell (by simp) _⟩
          | true =>
            have HPP : Hid _ := HP.out rfl hi
            clear H4 H5 HP hi
            go_wp2_with fail
            refine Calls.mono (IG.out _) ?_
            rintro e w4 ⟨rfl, hb4⟩
            have hB4 := hB3a.trans (hb4.mono hB3a.size)
            have hZ4 := (hb4.block w.heap.size hlz3a).trans hZ3a
            have hlz4 := Nat.lt_of_lt_of_le hlz3a hb4.size
            have hA4 := hA3.below hb4 hA3.1
            clear IG hb4 hB3a hZ3a hA3 hB3 hZ3 hx3
            obtain ⟨hlt, q0, q1, q2, q3, q4, q5, q6, q7, q8, q9⟩ := hA4
            go_wp2_with fail
            refine Calls.mono (PBd.out _) ?_
            rintro e w5 ⟨rfl, hb5⟩
            have hB5 := hB4.trans (hb5.mono hB4.size)
            have hZ5 := (hb5.block w.heap.size hlz4).trans hZ4
            clear PBd hb5 hB4 hZ4 q0 q1 q2 q3 q4 q5 q6 q7 q8 q9
            obtain ⟨d0, d1, d2, d3, d4, d5, d6, d7, d8, d9⟩ := zb_cells hZ5
            have z0 := zb_free hZ5 0
            have z1 := zb_free hZ5 1
            have z2 := zb_free hZ5 2
            have z3 := zb_free hZ5 3
            have z4 := zb_free hZ5 4
            have z5 := zb_free hZ5 5
            have z6 := zb_free hZ5 6
            have z7 := zb_free hZ5 7
            have z8 := zb_free hZ5 8
            have z9 := zb_free hZ5 9
            clear hZ5
            go_wp2
            exact bodyPost_ret (v := .tuple #[Bd.v ⟨fr, to, gr, md, no, lf, hp, of, tl, py⟩, .bool true]) (by simp [results, Tryd.results9, go_sem, d0, d1, d2, d3, d4, d5, d6, d7, d8, d9]) rfl ⟨.inl ⟨HPP.out, rfl⟩, (((((((((hB5.setCell (by simp) _).setCell (by simp) _).setCell (by simp) _).setCell (by simp) _).setCell (by simp) _).setCell (by simp) _).setCell (by simp) _).setCell (by simp) _).setCell (by simp) _).setCell (by simp) _⟩
        · have HN : Hid _ := H5.out hi
          have hbs3 := hB3.size
          have hne3 : w.heap.size ≠ w3.heap.size := by omega
          clear H4 H5 HP hi IG PBd hA3 hx3 hB3a hZ3a hlz3a
          obtain ⟨d0, d1, d2, d3, d4, d5, d6, d7, d8, d9⟩ := zb_cells hZ3
          have z0 := zb_free hZ3 0
          have z1 := zb_free hZ3 1
          have z2 := zb_free hZ3 2
          have z3 := zb_free hZ3 3
          have z4 := zb_free hZ3 4
          have z5 := zb_free hZ3 5
          have z6 := zb_free hZ3 6
          have z7 := zb_free hZ3 7
          have z8 := zb_free hZ3 8
          have z9 := zb_free hZ3 9
          clear hZ3
          go_wp2
          exact bodyPost_ret (v := .tuple #[Bd.v B1.zero, .bool false]) (by simp [results, Tryd.results9, go_sem, B1.zero, d0, d1, d2, d3, d4, d5, d6, d7, d8, d9, World.cell?_alloc_lt, hlz3]) rfl ⟨.inr ⟨HN.out, rfl⟩, ((((((((((hB3.setCell (by simp) _).setCell (by simp) _).setCell (by simp) _).setCell (by simp) _).setCell (by simp) _).setCell (by simp) _).setCell (by simp) _).setCell (by simp) _).setCell (by simp) _).setCell (by simp) _).alloc (by simp; omega) _⟩
      · have HN : Hid _ := P_no3 hn
        unfold RB
        generalize B3.bOf (B3.L s) = b at *
        generalize B3.L s = L at *
        generalize bodyOf s = X at *
        clear ho hc HL hs0
        go_enter Tryd.func9, Tryd.ntmps9
        go_wp2_with fail
        refine Calls.mono (IC.out _ hT0) ?_
        rintro e w1 ⟨rfl, hb1⟩
        have hB1 := hB.trans (hb1.mono hB.size)
        have hZ1 := (hb1.block w.heap.size hlz).trans hZ
        have hlz1 := Nat.lt_of_lt_of_le hlz hb1.size
        clear IC hb1 hZ hB hT0
        go_wp2_with fail
        refine Calls.mono (IR.out _) ?_
        rintro e w2 ⟨a2, c2, rfl, own2, hb2⟩
        have hB2 := hB1.trans (hb2.mono hB1.size)
        have hZ2 := (hb2.block w.heap.size hlz1).trans hZ1
        have hlz2 := Nat.lt_of_lt_of_le hlz1 hb2.size
        clear IR hb2 hZ1 hB1
        clear own2
        go_wp2_with fail
        refine Calls.mono (parcelIn_no _ _ _ _ (by omega) hn) ?_
        rintro e w3 ⟨rfl, hb3⟩
        have hB3 := hB2.trans (hb3.mono hB2.size)
        have hZ3 := (hb3.block w.heap.size hlz2).trans hZ2
        have hlz3 := Nat.lt_of_lt_of_le hlz2 hb3.size
        have hx3 : Below w3.heap.size w3 _ := (Below.refl _ w3).alloc (Nat.le_refl _) (.cells #[.int .i64 0, .int .i64 0, .bool false, .int .i64 0, .int .i64 0, .int .i64 0, .int .i64 0, .int .i64 0, .int .i64 0, .string ⟨#[]⟩] 45)
        have hB3a := hB3.trans (hx3.mono hB3.size)
        have hZ3a := (hx3.block w.heap.size hlz3).trans hZ3
        have hbs3 := hB3.size
        have hne3 : w.heap.size ≠ w3.heap.size := by omega
        clear hb3 hB2 hZ2 hx3 hB3a hZ3a
        obtain ⟨d0, d1, d2, d3, d4, d5, d6, d7, d8, d9⟩ := zb_cells hZ3
        have z0 := zb_free hZ3 0
        have z1 := zb_free hZ3 1
        have z2 := zb_free hZ3 2
        have z3 := zb_free hZ3 3
        have z4 := zb_free hZ3 4
        have z5 := zb_free hZ3 5
        have z6 := zb_free hZ3 6
        have z7 := zb_free hZ3 7
        have z8 := zb_free hZ3 8
        have z9 := zb_free hZ3 9
        clear hZ3
        go_wp2
        exact bodyPost_ret (v := .tuple #[Bd.v B1.zero, .bool false]) (by simp [results, Tryd.results9, go_sem, B1.zero, d0, d1, d2, d3, d4, d5, d6, d7, d8, d9, World.cell?_alloc_lt, hlz3]) rfl ⟨.inr ⟨HN.out, rfl⟩, ((((((((((hB3.setCell (by simp) _).setCell (by simp) _).setCell (by simp) _).setCell (by simp) _).setCell (by simp) _).setCell (by simp) _).setCell (by simp) _).setCell (by simp) _).setCell (by simp) _).setCell (by simp) _).alloc (by simp; omega) _⟩
end Go.Proofs.YtcpfbgogfhlmjaaDoor
