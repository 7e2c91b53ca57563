/- HopBundle, the specification's and the program's, at any bundle. -/
import Derived.Test.YtcpfbgogfhlmjaaDoorRows
import Derived.Test.YtcpfbgogfhlmjaaDoorCGoodBundle
import Derived.Test.YtcpfbgogfhlmjaaDoorCParcelBundle
import Derived.Lib.Buffer
import Derived.WalkKit
import Derived.WalkSpells
import Derived.WalkLawsBesides
import Derived.Outline
namespace Go.Proofs.YtcpfbgogfhlmjaaDoor
open Go.RowKit
theorem ret_Bb {x y : Bd} {a b : Bool} (h : x = y) (h' : a = b) : Ending.returned (.tuple #[x.v, .bool a]) = .returned (.tuple #[y.v, .bool b]) := by rw [h, h']
theorem hop_no {b : Bd} (h : B1.good b = false ∨ b.hp = 0) : B1.zero = B1.hop b ∧ false = B1.hopOk b := by
  have : B1.hopOk b = false := by rcases h with h | h <;> simp [B1.hopOk, h]
  exact ⟨by simp [B1.hop, this], this.symm⟩
theorem hop_yes {b : Bd} (h : B1.good b = true) (h' : b.hp ≠ 0) : (⟨b.fr, b.to, b.gr, b.md, b.no, b.lf, b.hp - 1, b.of, b.tl, b.py⟩ : Bd) = B1.hop b ∧ true = B1.hopOk b := by
  have : B1.hopOk b = true := by simp [B1.hopOk, h, h']
  exact ⟨by simp [B1.hop, this], this.symm⟩
/-- The cell of a result that is laid anew. -/
def ZAt (w : World) (k : Nat) : Prop := w.heap[k]? = some (.cells #[.int .i64 0, .int .i64 0, .bool false, .int .i64 0, .int .i64 0, .int .i64 0, .int .i64 0, .int .i64 0, .int .i64 0, .string ⟨#[]⟩] 24)
theorem ZAt.below {w w' : World} {k B : Nat} (h : ZAt w k) (hb : Below B w w') (hk : k < B) : ZAt w' k := (hb.block k hk).trans h
set_option maxHeartbeats 1600000 in
set_option maxRecDepth 100000 in
theorem specHop_any (b : Bd) (w : World) (hs : b.py.size ≤ 1048576) :
    Calls Tryd.prog 18 #[b.v] w fun e w' => e = .returned (.tuple #[(B1.hop b).v, .bool (B1.hopOk b)]) ∧ Below w.heap.size w w' := by
  have SG : Hid (∀ W : World, Calls Tryd.prog 29 #[b.v] W fun e w' => e = .returned (.bool (B1.good b)) ∧ Below W.heap.size W w') := fun W => specGoodBundle_any b W hs _ rfl
  have hB : Below w.heap.size w _ := ((Below.refl _ w).alloc (Nat.le_refl _) (.cells #[.int .i64 b.fr, .int .i64 b.to, .bool b.gr, .int .i64 b.md, .int .i64 b.no, .int .i64 b.lf, .int .i64 b.hp, .int .i64 b.of, .int .i64 b.tl, .string b.py] 24)).alloc (by simp) (.cells #[.int .i64 0, .int .i64 0, .bool false, .int .i64 0, .int .i64 0, .int .i64 0, .int .i64 0, .int .i64 0, .int .i64 0, .string ⟨#[]⟩] 24)
  have HN : Hid (∀ h : B1.good b = false ∨ b.hp = 0, B1.zero = B1.hop b ∧ false = B1.hopOk b) := fun h => hop_no h
  have HY : Hid (∀ (h : B1.good b = true) (h' : b.hp ≠ 0), (⟨b.fr, b.to, b.gr, b.md, b.no, b.lf, b.hp - 1, b.of, b.tl, b.py⟩ : Bd) = B1.hop b ∧ true = B1.hopOk b) := fun h h' => hop_yes h h'
  have HG : Hid (∀ h : B1.good b = true, 0 ≤ b.hp ∧ b.hp ≤ 30) := fun h => by have := B1.good_is h; omega
  generalize B1.good b = G at *
  generalize B1.hop b = O1 at *
  generalize B1.hopOk b = O2 at *
  obtain ⟨fr, to, gr, md, no, lf, hp, of, tl, py⟩ := b
  simp only at HN HY HG
  clear hs
  go_enter Tryd.func18, Tryd.ntmps18
  go_wp2_with fail
  refine (SG.out _).mono ?_
  rintro e w1 ⟨rfl, hb1⟩
  have hB1 := hB.trans (hb1.mono hB.size)
  have hlt1 := hb1.size
  simp only [World.alloc, Array.size_push] at hlt1
  have p0 : w1.cell? ⟨w.heap.size, 0, none⟩ = some (.int .i64 fr) := (hb1.cell (by simp; omega)).trans (by simp)
  have p1 : w1.cell? ⟨w.heap.size, 1, none⟩ = some (.int .i64 to) := (hb1.cell (by simp; omega)).trans (by simp)
  have p2 : w1.cell? ⟨w.heap.size, 2, none⟩ = some (.bool gr) := (hb1.cell (by simp; omega)).trans (by simp)
  have p3 : w1.cell? ⟨w.heap.size, 3, none⟩ = some (.int .i64 md) := (hb1.cell (by simp; omega)).trans (by simp)
  have p4 : w1.cell? ⟨w.heap.size, 4, none⟩ = some (.int .i64 no) := (hb1.cell (by simp; omega)).trans (by simp)
  have p5 : w1.cell? ⟨w.heap.size, 5, none⟩ = some (.int .i64 lf) := (hb1.cell (by simp; omega)).trans (by simp)
  have p6 : w1.cell? ⟨w.heap.size, 6, none⟩ = some (.int .i64 hp) := (hb1.cell (by simp; omega)).trans (by simp)
  have p7 : w1.cell? ⟨w.heap.size, 7, none⟩ = some (.int .i64 of) := (hb1.cell (by simp; omega)).trans (by simp)
  have p8 : w1.cell? ⟨w.heap.size, 8, none⟩ = some (.int .i64 tl) := (hb1.cell (by simp; omega)).trans (by simp)
  have p9 : w1.cell? ⟨w.heap.size, 9, none⟩ = some (.string py) := (hb1.cell (by simp; omega)).trans (by simp)
  have d0 : w1.cell? ⟨w.heap.size + 1, 0, none⟩ = some (.int .i64 0) := (hb1.cell (by simp)).trans (by simp)
  have z0 : w1.frozen? ⟨w.heap.size + 1, 0, none⟩ = false := (hb1.frozen (by simp)).trans (by simp)
  have d1 : w1.cell? ⟨w.heap.size + 1, 1, none⟩ = some (.int .i64 0) := (hb1.cell (by simp)).trans (by simp)
  have z1 : w1.frozen? ⟨w.heap.size + 1, 1, none⟩ = false := (hb1.frozen (by simp)).trans (by simp)
  have d2 : w1.cell? ⟨w.heap.size + 1, 2, none⟩ = some (.bool false) := (hb1.cell (by simp)).trans (by simp)
  have z2 : w1.frozen? ⟨w.heap.size + 1, 2, none⟩ = false := (hb1.frozen (by simp)).trans (by simp)
  have d3 : w1.cell? ⟨w.heap.size + 1, 3, none⟩ = some (.int .i64 0) := (hb1.cell (by simp)).trans (by simp)
  have z3 : w1.frozen? ⟨w.heap.size + 1, 3, none⟩ = false := (hb1.frozen (by simp)).trans (by simp)
  have d4 : w1.cell? ⟨w.heap.size + 1, 4, none⟩ = some (.int .i64 0) := (hb1.cell (by simp)).trans (by simp)
  have z4 : w1.frozen? ⟨w.heap.size + 1, 4, none⟩ = false := (hb1.frozen (by simp)).trans (by simp)
  have d5 : w1.cell? ⟨w.heap.size + 1, 5, none⟩ = some (.int .i64 0) := (hb1.cell (by simp)).trans (by simp)
  have z5 : w1.frozen? ⟨w.heap.size + 1, 5, none⟩ = false := (hb1.frozen (by simp)).trans (by simp)
  have d6 : w1.cell? ⟨w.heap.size + 1, 6, none⟩ = some (.int .i64 0) := (hb1.cell (by simp)).trans (by simp)
  have z6 : w1.frozen? ⟨w.heap.size + 1, 6, none⟩ = false := (hb1.frozen (by simp)).trans (by simp)
  have d7 : w1.cell? ⟨w.heap.size + 1, 7, none⟩ = some (.int .i64 0) := (hb1.cell (by simp)).trans (by simp)
  have z7 : w1.frozen? ⟨w.heap.size + 1, 7, none⟩ = false := (hb1.frozen (by simp)).trans (by simp)
  have d8 : w1.cell? ⟨w.heap.size + 1, 8, none⟩ = some (.int .i64 0) := (hb1.cell (by simp)).trans (by simp)
  have z8 : w1.frozen? ⟨w.heap.size + 1, 8, none⟩ = false := (hb1.frozen (by simp)).trans (by simp)
  have d9 : w1.cell? ⟨w.heap.size + 1, 9, none⟩ = some (.string ⟨#[]⟩) := (hb1.cell (by simp)).trans (by simp)
  have z9 : w1.frozen? ⟨w.heap.size + 1, 9, none⟩ = false := (hb1.frozen (by simp)).trans (by simp)
  have z16 : w1.frozen? ⟨w.heap.size, 6, none⟩ = false := (hb1.frozen (by simp; omega)).trans (by simp)
  clear SG hb1 hB
  cases G with
  | false =>
    obtain ⟨h1, h2⟩ := HN.out (.inl rfl)
    have HR : Hid (B1.zero = O1 ∧ false = O2) := ⟨h1, h2⟩
    clear HN HY HG h1 h2 p0 p1 p2 p3 p4 p5 p7 p8 p9
    go_wp2
    exact bodyPost_ret (v := .tuple #[Bd.v B1.zero, .bool false]) (by simp [results, Tryd.results18, go_sem, B1.zero, d0, d1, d2, d3, d4, d5, d6, d7, d8, d9]) rfl ⟨ret_Bb HR.out.1 HR.out.2, by have H := hB1; exact (((((((((H.setCell (by simp) _).setCell (by simp) _).setCell (by simp) _).setCell (by simp) _).setCell (by simp) _).setCell (by simp) _).setCell (by simp) _).setCell (by simp) _).setCell (by simp) _).setCell (by simp) _⟩
  | true =>
    obtain ⟨g1, g2⟩ := HG.out rfl
    by_cases h0 : hp = 0
    · obtain ⟨h1, h2⟩ := HN.out (.inr h0)
      have HR : Hid (B1.zero = O1 ∧ false = O2) := ⟨h1, h2⟩
      subst h0
      clear HN HY HG h1 h2 p0 p1 p2 p3 p4 p5 p7 p8 p9
      go_wp2
      exact bodyPost_ret (v := .tuple #[Bd.v B1.zero, .bool false]) (by simp [results, Tryd.results18, go_sem, B1.zero, d0, d1, d2, d3, d4, d5, d6, d7, d8, d9]) rfl ⟨ret_Bb HR.out.1 HR.out.2, by have H := hB1; exact (((((((((H.setCell (by simp) _).setCell (by simp) _).setCell (by simp) _).setCell (by simp) _).setCell (by simp) _).setCell (by simp) _).setCell (by simp) _).setCell (by simp) _).setCell (by simp) _).setCell (by simp) _⟩
    · obtain ⟨h1, h2⟩ := HY.out rfl h0
      have HR : Hid _ := And.intro h1 h2
      have h0b : (hp == 0) = false := by simp [h0]
      clear HN HY HG h1 h2 h0
      go_wp2
      exact bodyPost_ret (v := .tuple #[Bd.v ⟨fr, to, gr, md, no, lf, hp - 1, of, tl, py⟩, .bool true]) (by simp [results, Tryd.results18, go_sem, d0, d1, d2, d3, d4, d5, d6, d7, d8, d9]) rfl ⟨ret_Bb HR.out.1 HR.out.2, by have H := hB1.setCell (p := ⟨w.heap.size, 6, none⟩) (by simp) (.int .i64 (hp - 1)); exact (((((((((H.setCell (by simp) _).setCell (by simp) _).setCell (by simp) _).setCell (by simp) _).setCell (by simp) _).setCell (by simp) _).setCell (by simp) _).setCell (by simp) _).setCell (by simp) _).setCell (by simp) _⟩
theorem new_at (w : World) (o : Obj) (k : Nat) (h : k = w.heap.size) : (w.alloc o).heap[k]? = some o := by rw [h]; exact heap_alloc_new w o
theorem ZAt.cells {w : World} {k : Nat} (h : ZAt w k) : w.cell? ⟨k, 0, none⟩ = some (.int .i64 0) ∧ w.cell? ⟨k, 1, none⟩ = some (.int .i64 0) ∧ w.cell? ⟨k, 2, none⟩ = some (.bool false) ∧ w.cell? ⟨k, 3, none⟩ = some (.int .i64 0) ∧ w.cell? ⟨k, 4, none⟩ = some (.int .i64 0) ∧ w.cell? ⟨k, 5, none⟩ = some (.int .i64 0) ∧ w.cell? ⟨k, 6, none⟩ = some (.int .i64 0) ∧ w.cell? ⟨k, 7, none⟩ = some (.int .i64 0) ∧ w.cell? ⟨k, 8, none⟩ = some (.int .i64 0) ∧ w.cell? ⟨k, 9, none⟩ = some (.string ⟨#[]⟩) := by
  refine ⟨?_, ?_, ?_, ?_, ?_, ?_, ?_, ?_, ?_, ?_⟩ <;> (rw [Lib.cell_of_heap h]; rfl)
theorem ZAt.free {w : World} {k : Nat} (h : ZAt w k) (j : Nat) : w.frozen? ⟨k, j, none⟩ = false := by
  unfold World.frozen?; rw [h]; simp
set_option maxHeartbeats 1600000 in
set_option maxRecDepth 100000 in
theorem implHop_any (b : Bd) (w : World) (hs : b.py.size ≤ 1048576) :
    Calls Tryd.prog 17 #[b.v] w fun e w' => e = .returned (.tuple #[(B1.hop b).v, .bool (B1.hopOk b)]) ∧ Below w.heap.size w w' := by
  have IG : Hid (∀ W : World, Calls Tryd.prog 25 #[b.v] W fun e w' => e = .returned (.bool (B1.good b)) ∧ Below W.heap.size W w') := fun W => isGood_any b W hs _ rfl
  have PO : Hid _ := fun W => parcelOf_any b W
  have PB : Hid _ := fun W => parcelBundle_any ⟨b.fr, b.to, b.gr, b.md, b.no, b.lf, b.hp - 1, b.of, b.tl, b.py⟩ W hs
  have BX : Hid (∀ W : World, BdAt (W.alloc (.cells #[.int .i64 b.fr, .int .i64 b.to, .bool b.gr, .int .i64 b.md, .int .i64 b.no, .int .i64 b.lf, .int .i64 b.hp, .int .i64 b.of, .int .i64 b.tl, .string b.py] 45)) W.heap.size b) := fun W => BdAt.box W b 45
  have FX : Hid (∀ W : World, (W.alloc (.cells #[.int .i64 b.fr, .int .i64 b.to, .bool b.gr, .int .i64 b.md, .int .i64 b.no, .int .i64 b.lf, .int .i64 b.hp, .int .i64 b.of, .int .i64 b.tl, .string b.py] 45)).frozen? ⟨W.heap.size, 6, none⟩ = false) := fun W => by simp
  have hZ : ZAt ((w.alloc (.cells #[.int .i64 b.fr, .int .i64 b.to, .bool b.gr, .int .i64 b.md, .int .i64 b.no, .int .i64 b.lf, .int .i64 b.hp, .int .i64 b.of, .int .i64 b.tl, .string b.py] 24)).alloc (.cells #[.int .i64 0, .int .i64 0, .bool false, .int .i64 0, .int .i64 0, .int .i64 0, .int .i64 0, .int .i64 0, .int .i64 0, .string ⟨#[]⟩] 24)) (w.heap.size + 1) := new_at _ _ _ (by simp)
  have hB : Below w.heap.size w _ := ((Below.refl _ w).alloc (Nat.le_refl _) (.cells #[.int .i64 b.fr, .int .i64 b.to, .bool b.gr, .int .i64 b.md, .int .i64 b.no, .int .i64 b.lf, .int .i64 b.hp, .int .i64 b.of, .int .i64 b.tl, .string b.py] 24)).alloc (by simp) (.cells #[.int .i64 0, .int .i64 0, .bool false, .int .i64 0, .int .i64 0, .int .i64 0, .int .i64 0, .int .i64 0, .int .i64 0, .string ⟨#[]⟩] 24)
  have HN : Hid (∀ h : B1.good b = false ∨ b.hp = 0, B1.zero = B1.hop b ∧ false = B1.hopOk b) := fun h => hop_no h
  have HY : Hid (∀ (h : B1.good b = true) (h' : b.hp ≠ 0), (⟨b.fr, b.to, b.gr, b.md, b.no, b.lf, b.hp - 1, b.of, b.tl, b.py⟩ : Bd) = B1.hop b ∧ true = B1.hopOk b) := fun h h' => hop_yes h h'
  have HG : Hid (∀ h : B1.good b = true, 0 ≤ b.hp ∧ b.hp ≤ 30) := fun h => by have := B1.good_is h; omega
  generalize B1.good b = G at *
  generalize B1.hop b = O1 at *
  generalize B1.hopOk b = O2 at *
  obtain ⟨fr, to, gr, md, no, lf, hp, of, tl, py⟩ := b
  simp only at HN HY HG BX FX PB hZ
  clear hs
  go_enter Tryd.func17, Tryd.ntmps17
  go_wp2_with fail
  refine Calls.mono (PO.out _) ?_
  rintro e w1 ⟨rfl, hb1⟩
  have hB1 := hB.trans (hb1.mono hB.size)
  have hZ1 := hZ.below hb1 (by simp)
  have hlt1 := hb1.size
  simp only [World.alloc, Array.size_push] at hlt1
  have hA1 := BX.out w1
  have hf1 := FX.out w1
  have hB1a : Below w.heap.size w _ := hB1.alloc hB1.size (.cells #[.int .i64 fr, .int .i64 to, .bool gr, .int .i64 md, .int .i64 no, .int .i64 lf, .int .i64 hp, .int .i64 of, .int .i64 tl, .string py] 45)
  have hZ1a : ZAt _ (w.heap.size + 1) := hZ1.below ((Below.refl w1.heap.size w1).alloc (Nat.le_refl _) (.cells #[.int .i64 fr, .int .i64 to, .bool gr, .int .i64 md, .int .i64 no, .int .i64 lf, .int .i64 hp, .int .i64 of, .int .i64 tl, .string py] 45)) (by omega)
  clear PO hb1 BX FX hB hZ hZ1 hB1
  go_wp2_with fail
  refine Calls.mono (IG.out _) ?_
  rintro e w2 ⟨rfl, hb2⟩
  have hB2 := hB1a.trans (hb2.mono hB1a.size)
  have hA2 := hA1.below hb2 hA1.1
  have hZ2 := hZ1a.below hb2 (by simp; omega)
  have hf2 : w2.frozen? ⟨w1.heap.size, 6, none⟩ = false := (hb2.frozen (by simp)).trans hf1
  obtain ⟨hlt, p0, p1, p2, p3, p4, p5, p6, p7, p8, p9⟩ := hA2
  clear IG hb2 hB1a hA1 hf1 hZ1a
  cases G with
  | false =>
    obtain ⟨h1, h2⟩ := HN.out (.inl rfl)
    have HR : Hid (B1.zero = O1 ∧ false = O2) := ⟨h1, h2⟩
    obtain ⟨d0, d1, d2, d3, d4, d5, d6, d7, d8, d9⟩ := hZ2.cells
    have z0 := hZ2.free 0
    have z1 := hZ2.free 1
    have z2 := hZ2.free 2
    have z3 := hZ2.free 3
    have z4 := hZ2.free 4
    have z5 := hZ2.free 5
    have z6 := hZ2.free 6
    have z7 := hZ2.free 7
    have z8 := hZ2.free 8
    have z9 := hZ2.free 9
    clear HN HY HG h1 h2 p0 p1 p2 p3 p4 p5 p6 p7 p8 p9 PB hZ2
    go_wp2
    exact bodyPost_ret (v := .tuple #[Bd.v B1.zero, .bool false]) (by simp [results, Tryd.results17, go_sem, B1.zero, d0, d1, d2, d3, d4, d5, d6, d7, d8, d9]) rfl ⟨ret_Bb HR.out.1 HR.out.2, by have H := hB2; exact (((((((((H.setCell (by simp) _).setCell (by simp) _).setCell (by simp) _).setCell (by simp) _).setCell (by simp) _).setCell (by simp) _).setCell (by simp) _).setCell (by simp) _).setCell (by simp) _).setCell (by simp) _⟩
  | true =>
    obtain ⟨g1, g2⟩ := HG.out rfl
    by_cases h0 : hp = 0
    · obtain ⟨h1, h2⟩ := HN.out (.inr h0)
      have HR : Hid (B1.zero = O1 ∧ false = O2) := ⟨h1, h2⟩
      subst h0
      obtain ⟨d0, d1, d2, d3, d4, d5, d6, d7, d8, d9⟩ := hZ2.cells
      have z0 := hZ2.free 0
      have z1 := hZ2.free 1
      have z2 := hZ2.free 2
      have z3 := hZ2.free 3
      have z4 := hZ2.free 4
      have z5 := hZ2.free 5
      have z6 := hZ2.free 6
      have z7 := hZ2.free 7
      have z8 := hZ2.free 8
      have z9 := hZ2.free 9
      clear HN HY HG h1 h2 p0 p1 p2 p3 p4 p5 p7 p8 p9 PB hZ2
      go_wp2
      exact bodyPost_ret (v := .tuple #[Bd.v B1.zero, .bool false]) (by simp [results, Tryd.results17, go_sem, B1.zero, d0, d1, d2, d3, d4, d5, d6, d7, d8, d9]) rfl ⟨ret_Bb HR.out.1 HR.out.2, by have H := hB2; exact (((((((((H.setCell (by simp) _).setCell (by simp) _).setCell (by simp) _).setCell (by simp) _).setCell (by simp) _).setCell (by simp) _).setCell (by simp) _).setCell (by simp) _).setCell (by simp) _).setCell (by simp) _⟩
    · obtain ⟨h1, h2⟩ := HY.out rfl h0
      have HR : Hid _ := And.intro h1 h2
      have h0b : (hp == 0) = false := by simp [h0]
      have hZ3 : ZAt (w2.setCell ⟨w1.heap.size, 6, none⟩ (.int .i64 (hp - 1))) (w.heap.size + 1) := (Below.heap_setCell w2 ⟨w1.heap.size, 6, none⟩ (.int .i64 (hp - 1)) (w.heap.size + 1) (by simp; omega)).trans hZ2
      have hB3 := hB2.setCell (p := ⟨w1.heap.size, 6, none⟩) (by simp; omega) (.int .i64 (hp - 1))
      have hs3 : (w2.setCell ⟨w1.heap.size, 6, none⟩ (.int .i64 (hp - 1))).heap.size = w2.heap.size := by simp
      clear HN HY HG h1 h2 h0 hZ2 hB2
      go_wp2_with fail
      refine Calls.mono (PB.out _) ?_
      rintro e w3 ⟨rfl, hb3⟩
      have hB4 := hB3.trans (hb3.mono hB3.size)
      have hZ4 := hZ3.below hb3 (by rw [hs3]; omega)
      obtain ⟨d0, d1, d2, d3, d4, d5, d6, d7, d8, d9⟩ := hZ4.cells
      have z0 := hZ4.free 0
      have z1 := hZ4.free 1
      have z2 := hZ4.free 2
      have z3 := hZ4.free 3
      have z4 := hZ4.free 4
      have z5 := hZ4.free 5
      have z6 := hZ4.free 6
      have z7 := hZ4.free 7
      have z8 := hZ4.free 8
      have z9 := hZ4.free 9
      clear hb3 hB3 hZ3 hZ4 PB p0 p1 p2 p3 p4 p5 p6 p7 p8 p9
      go_wp2
      exact bodyPost_ret (v := .tuple #[Bd.v ⟨fr, to, gr, md, no, lf, hp - 1, of, tl, py⟩, .bool true]) (by simp [results, Tryd.results17, go_sem, d0, d1, d2, d3, d4, d5, d6, d7, d8, d9]) rfl ⟨ret_Bb HR.out.1 HR.out.2, by have H := hB4; exact (((((((((H.setCell (by simp) _).setCell (by simp) _).setCell (by simp) _).setCell (by simp) _).setCell (by simp) _).setCell (by simp) _).setCell (by simp) _).setCell (by simp) _).setCell (by simp) _).setCell (by simp) _⟩
end Go.Proofs.YtcpfbgogfhlmjaaDoor
