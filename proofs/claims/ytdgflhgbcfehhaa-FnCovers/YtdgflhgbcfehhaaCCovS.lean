import Derived.Test.YtdgflhgbcfehhaaRows
import Derived.Test.YtdgflhgbcfehhaaCInfoSheet
import Derived.Test.YtdgflhgbcfehhaaM5
import Derived.WalkKit
import Derived.WalkSpells
import Derived.WalkLawsBesides
import Derived.Outline
import Derived.Test.YtdgflhgbcfehhaaMA2
import Derived.Test.YtdgflhgbcfehhaaCSpecPile
import Derived.OneCell
import Derived.Deep.RegionHeld3
/- places: which places are marked, in a row of its own. -/
namespace Go.Proofs.Ytdgflhgbcfehhaa
open Go.RowKit
theorem Try.infoInt : (Try.prog.info? 3).map (fun i => (i.zero, i.size, i.bytes)) = some (some (.int .i64 0), 1, 8) := by kernel_rfl
def plF (f : Nat → Bool) (n : Nat) : List Int := ((List.range n).filter f).map Int.ofNat
theorem plF_succ (f : Nat → Bool) (n : Nat) : plF f (n + 1) = plF f n ++ (if f n = true then [(n : Int)] else []) := by
  unfold plF
  rw [List.range_succ, List.filter_append, List.map_append]
  congr 1
  cases h : f n <;> simp [h]
theorem plF_len (f : Nat → Bool) (n : Nat) : (plF f n).length ≤ n := by
  have := List.length_filter_le f (List.range n)
  simpa [plF] using this
set_option maxHeartbeats 800000 in
set_option maxRecDepth 100000 in
theorem places_any (f : Nat → Bool) (w : World) :
    Calls Try.prog 47 #[.agg (MA.tF f).toArray] w fun e w' => ∃ a cap, e = .returned (.slice a (plF f 60).length cap) ∧ w'.ownsRow w.heap.size 3 1 (.slice a (plF f 60).length cap) (plF f 60).length (M4.iv (plF f 60)) ∧ Below w.heap.size w w' := by
  obtain ⟨i0, hi, hz0, hz1, hz2⟩ := info_parts Try.infoInt
  have r0 := MA.Rg.new w (MA.tF f) 69
  go_enter Try.func47, Try.ntmps47
  go_wp2_with (refine MA.load_m rfl 69 _ rfl rfl (by first | exact r0 | exact r0.alloc _) Try.underlying69 rfl Try.sizeMarks (MA.tF_len _) ?_)
  have own0 : ((w.alloc (.cells (MA.tF f).toArray 69)).alloc (.cells #[] 3)).ownsRow w.heap.size 3 1 (.slice (some ⟨w.heap.size + 1, 0, none⟩) 0 0) (plF f 0).length (M4.iv (plF f 0)) := by
    have := World.ownsRow_lit (base := w.heap.size) (e := 3) (size := 1) (w.alloc (.cells (MA.tF f).toArray 69)) #[] 0 (by simp) (by unfold maxLen; omega) (by simp)
    simpa [plF, M4.iv] using this
  have hb : Below w.heap.size w ((w.alloc (.cells (MA.tF f).toArray 69)).alloc (.cells #[] 3)) := ((Below.refl _ w).alloc (Nat.le_refl _) _).alloc (by simp) _
  clear r0
  go_loopw [3, 4, 5, 8] (fun v _ _ iv wr => ∃ k : Nat, iv = .int .i64 k ∧ k ≤ 60 ∧ wr.ownsRow w.heap.size 3 1 v (plF f k).length (M4.iv (plF f k)) ∧ Below w.heap.size w wr) (fun _ _ _ iv _ => (60 - intOf iv).toNat)
  case atStart => exact ⟨0, rfl, by omega, own0, hb⟩
  case round =>
    clear own0 hb
    obtain ⟨k, rfl, hk, hown, hb⟩ := hrel
    have hbs := hb.size
    have hln := plF_len f k
    by_cases hl : k < 60
    · have hk0 : (0 : Int) ≤ (k : Int) := by omega
      have hk1 : (k : Int) < 60 := by omega
      have hg : ∀ W, (Instr.index 69 (.agg (MA.tF f).toArray) (.int .i64 (k : Int))).run Try.prog W = .ok (.bool (f k)) W := fun W => MA.run_index Try.underlying69 (by go_simp) (by go_simp) hl (MA.tF_get f hl)
      have hS : Hid _ := plF_succ f k
      cases hf : f k with
      | false =>
        rw [hf] at hg
        have e : plF f (k + 1) = plF f k := by rw [hS.out, hf]; simp
        rw [← e] at hown
        clear e hS hf
        clear hln
        go_wp2
        go_roundw
        case rel => exact ⟨k + 1, by go_num, by omega, hown, hb⟩
        case measure => simp [intOf]; omega
      | true =>
        rw [hf] at hg
        have HE : Hid (plF f (k + 1) = plF f k ++ [(k : Int)]) := by rw [hS.out, hf]; rfl
        clear hS hf
        go_wp2_with (at_builtin; refine wpList_append_own _ rfl _ _ 47 rfl w.heap.size 3 i0 (.int .i64 0) 1 8 Try.underlying47 hi hz0 hz1 hz2 rfl (by decide) _ _ _ rfl (hown.alloc _) ⟨wr.heap.size, 0, none⟩ 1 1 [.int .i64 (k : Int)] rfl rfl ?c1 ?c2 ?c3 ?c4 ?c5 ?_)
        case c1 => exact M2.new1 _ _ _
        case c2 => exact M2.one1 _ _
        case c3 => unfold maxLen; omega
        case c4 => omega
        case c5 => simp; omega
        intro v' w1 hown1 hgrow _
        have R := M5.growI hown hb (by omega) (by exact hown1) hgrow
        have R1 := R.1
        have R2 := R.2
        rw [← HE.out] at R1
        clear hown1 hgrow hown R HE hg hln
        go_wp2
        go_roundw
        case rel => exact ⟨k + 1, by go_num, by omega, R1, R2⟩
        case measure => simp [intOf]; omega
    · obtain rfl : k = 60 := by omega
      obtain ⟨a, cap, hv, _⟩ := M5.own_view hown
      rw [hv] at hown ⊢
      clear hln hv
      go_wp2
      go_ret
      exact ⟨a, cap, rfl, hown, hb⟩
end Go.Proofs.Ytdgflhgbcfehhaa

/- Rows of bundles that the call owns: plain laws, over whatever program. -/
namespace Go.Proofs.Ytdgflhgbcfehhaa
namespace MA
open Go.RowKit
theorem own_cells {w : World} {base e sz g n : Nat} {cs vs : List Value} (h : w.ownsRow base e sz (.slice (some ⟨g, 0, none⟩) n n) n cs) {p : Nat} (hp : p + vs.length ≤ cs.length) : (w.setCells g p vs).ownsRow base e sz (.slice (some ⟨g, 0, none⟩) n n) n (cs.take p ++ (vs ++ cs.drop (p + vs.length))) := by
  induction vs generalizing w cs p with
  | nil => simpa [World.setCells] using h
  | cons v r ih =>
    have h1 := (World.ownsRow.stored h p v).1
    have hl : (v :: r).length = r.length + 1 := rfl
    have hlt : p < cs.length := by omega
    have h2 := ih (p := p + 1) h1 (by simp; omega)
    have e : (cs.set p v).take (p + 1) ++ (r ++ (cs.set p v).drop (p + 1 + r.length)) = cs.take p ++ (v :: r ++ cs.drop (p + (v :: r).length)) := by
      obtain ⟨A, c, B, rfl, rfl⟩ : ∃ A c B, cs = A ++ c :: B ∧ A.length = p := ⟨cs.take p, cs[p], cs.drop (p + 1), by simp, by simp; omega⟩
      have e1 : A.length + 1 - A.length = 1 := by omega
      have e2 : A.length + 1 + r.length - A.length = r.length + 1 := by omega
      have e3 : A.length + (r.length + 1) - A.length = r.length + 1 := by omega
      simp [List.take_append, List.drop_append, e1, e2, e3, List.drop_of_length_le (l := A) (i := A.length + 1 + r.length) (by omega), List.drop_of_length_le (l := A) (i := A.length + (r.length + 1)) (by omega)]
      exact List.take_of_length_le (by omega)
    rw [e] at h2
    exact h2
theorem own_base {w : World} {base base' e sz n : Nat} {v : Value} {xs : List Value} (h : w.ownsRow base e sz v n xs) (hb : base' ≤ base) : w.ownsRow base' e sz v n xs := by
  refine ⟨h.1, ?_⟩
  rcases h.2 with h' | ⟨g, cap, cur, h1, h2, h3⟩
  · exact .inl h'
  · exact .inr ⟨g, cap, cur, h1, by omega, h3⟩
end MA
end Go.Proofs.Ytdgflhgbcfehhaa

/- spec.l4Bytes at a good pile: which bytes are there. -/
namespace Go.Proofs.Ytdgflhgbcfehhaa
open Go.RowKit
namespace MA
def tN (n : Nat) (f : Nat → Bool) : List Value := (List.range n).map fun p => .bool (f p)
def yN (n : Nat) (g : Nat → Nat) : List Value := (List.range n).map fun p => .int .u8 (g p : Int)
theorem tN_len (n : Nat) (f : Nat → Bool) : (tN n f).length = n := by simp [tN]
theorem yN_len (n : Nat) (g : Nat → Nat) : (yN n g).length = n := by simp [yN]
theorem tN_get {n : Nat} (f : Nat → Bool) {p : Nat} (h : p < n) : (tN n f)[p]? = some (.bool (f p)) := by simp [tN, h]
theorem yN_get {n : Nat} (g : Nat → Nat) {p : Nat} (h : p < n) : (yN n g)[p]? = some (.int .u8 (g p : Int)) := by simp [yN, h]
theorem tN_ext {n : Nat} {f f' : Nat → Bool} (h : ∀ p, f p = f' p) : tN n f = tN n f' := by
  have : f = f' := funext h
  rw [this]
theorem yN_ext {n : Nat} {g g' : Nat → Nat} (h : ∀ p, g p = g' p) : yN n g = yN n g' := by
  have : g = g' := funext h
  rw [this]
theorem tN_set (n : Nat) (f : Nat → Bool) (j : Nat) (b : Bool) : (tN n f).set j (.bool b) = tN n fun p => if p = j then b else f p := by
  unfold tN
  rw [range_set]
  apply List.map_congr_left; intro p _
  by_cases e : p = j <;> simp [e]
theorem yN_set (n : Nat) (g : Nat → Nat) (j : Nat) (b : Nat) : (yN n g).set j (.int .u8 (b : Int)) = yN n fun p => if p = j then b else g p := by
  unfold yN
  rw [range_set]
  apply List.map_congr_left; intro p _
  by_cases e : p = j <;> simp [e]
theorem made_y (n : Nat) : (madeCells #[Value.int .u8 0] n).toList = yN n fun _ => 0 := by
  rw [toList_madeCells_one]; unfold yN; apply List.ext_getElem?; intro i; by_cases h : i < n <;> simp [h]
theorem made_t (n : Nat) : (madeCells #[Value.bool false] n).toList = tN n fun _ => false := by
  rw [toList_madeCells_one]; unfold tN; apply List.ext_getElem?; intro i; by_cases h : i < n <;> simp [h]
end MA
def mkI (f : Nat → Bool) (o i p : Nat) : Bool := f p || (decide (o ≤ p) && decide (p < o + i))
def cpI (g : Nat → Nat) (py : ByteArray) (o i p : Nat) : Nat := if o ≤ p ∧ p < o + i then M3.gb py (p - o) else g p
theorem mkI_put (f : Nat → Bool) (o i p : Nat) : (if p = o + i then true else mkI f o i p) = mkI f o (i + 1) p := by
  unfold mkI
  by_cases e : p = o + i
  · subst e; simp
  · have : (p < o + (i + 1)) ↔ (p < o + i) := by omega
    simp [e, this]
theorem cpI_put (g : Nat → Nat) (py : ByteArray) (o i p : Nat) : (if p = o + i then M3.gb py i else cpI g py o i p) = cpI g py o (i + 1) p := by
  unfold cpI
  by_cases e : p = o + i
  · subst e; simp
  · have : (p < o + (i + 1)) ↔ (p < o + i) := by omega
    simp [e, this]
theorem mkI_lay {s : PL.Sh} {b : Bd} {o : Nat} (ho : b.of = (o : Int)) (p : Nat) : mkI s.th o b.py.size p = (PL.lay s b).th p := by
  have : decide (b.of ≤ (p : Int)) = decide (o ≤ p) := by rw [ho]; simp
  have h2 : decide ((p : Int) < b.of + b.py.size) = decide (p < o + b.py.size) := by rw [ho, Bool.eq_iff_iff]; simp; omega
  simp only [mkI, PL.lay, PL.inn, this, h2]
theorem cpI_lay {s : PL.Sh} {b : Bd} {o : Nat} (ho : b.of = (o : Int)) (p : Nat) : cpI s.by_ b.py o b.py.size p = (PL.lay s b).by_ p := by
  simp only [cpI, PL.lay]
  by_cases h : o ≤ p ∧ p < o + b.py.size
  · have h' : PL.inn b p = true := PL.inn_iff.2 (by omega)
    rw [if_pos h, if_pos h', PL.val]
    congr 1; omega
  · have h' : ¬ PL.inn b p = true := fun e => h (by have := PL.inn_iff.1 e; omega)
    rw [if_neg h, if_neg h']
/-- What the memory of the call holds. -/
structure ByIn (w W : World) (v : Value) (g2 n : Nat) (f : Nat → Bool) (g : Nat → Nat) : Prop where
  below : Below w.heap.size w W
  arg : W.cell? ⟨w.heap.size, 0, none⟩ = some v
  lt : w.heap.size < W.heap.size
  ne : w.heap.size + 1 < g2
  y : W.ownsRow (w.heap.size + 1) 5 1 (.slice (some ⟨w.heap.size + 1, 0, none⟩) n n) n (MA.yN n g)
  t : W.ownsRow (w.heap.size + 1) 4 1 (.slice (some ⟨g2, 0, none⟩) n n) n (MA.tN n f)
theorem ByIn.kept {w W W' : World} {v : Value} {g2 n : Nat} {f : Nat → Bool} {g : Nat → Nat} (h : ByIn w W v g2 n f g) (hb : Below W.heap.size W W') : ByIn w W' v g2 n f g :=
  ⟨h.below.trans (hb.mono h.below.size), (hb.cell (p := ⟨w.heap.size, 0, none⟩) h.lt).trans h.arg, Nat.lt_of_lt_of_le h.lt hb.size, h.ne, MP.own_below h.y hb, MP.own_below h.t hb⟩
theorem ByIn.putY {w W : World} {v : Value} {g2 n : Nat} {f : Nat → Bool} {g : Nat → Nat} (h : ByIn w W v g2 n f g) (j b : Nat) : ByIn w (W.setCell ⟨w.heap.size + 1, j, none⟩ (.int .u8 (b : Int))) v g2 n f (fun p => if p = j then b else g p) := by
  have s := h.y.stored j (.int .u8 (b : Int))
  refine ⟨h.below.setCell (p := ⟨w.heap.size + 1, j, none⟩) (by simp) _, ?_, by simpa using h.lt, h.ne, by rw [← MA.yN_set]; exact s.1, ownsRow_setCell_other h.t (by have := h.ne; simp [Value.ownBlock]; omega) _⟩
  exact (World.cell?_setCells_out _ [.int .u8 (b : Int)] j W _ (fun h => by have h' : w.heap.size = w.heap.size + 1 := h; omega)).trans h.arg
theorem ByIn.putT {w W : World} {v : Value} {g2 n : Nat} {f : Nat → Bool} {g : Nat → Nat} (h : ByIn w W v g2 n f g) (j : Nat) (b : Bool) : ByIn w (W.setCell ⟨g2, j, none⟩ (.bool b)) v g2 n (fun p => if p = j then b else f p) g := by
  have s := h.t.stored j (.bool b)
  have hne := h.ne
  refine ⟨h.below.setCell (p := ⟨g2, j, none⟩) (by simp; omega) _, ?_, by simpa using h.lt, h.ne, ownsRow_setCell_other h.y (by simp [Value.ownBlock]; omega) _, by rw [← MA.tN_set]; exact s.1⟩
  exact (World.cell?_setCells_out _ [.bool b] j W _ (fun h => by have h' : w.heap.size = g2 := h; omega)).trans h.arg
theorem Try.infoU8 : (Try.prog.info? 5).map (fun i => (i.zero, i.size, i.bytes)) = some (some (.int .u8 0), 1, 1) := by kernel_rfl
theorem Try.infoBool : (Try.prog.info? 4).map (fun i => (i.zero, i.size, i.bytes)) = some (some (.bool false), 1, 1) := by kernel_rfl
set_option linter.unusedSimpArgs false in
set_option maxHeartbeats 1600000 in
set_option maxRecDepth 100000 in
theorem l4Bytes_any (a : Option Addr) (cap : Nat) (xs : List Bd) (w : World) (hg : PL.good xs = true) (hin : MP.BsAt w a xs) :
    Calls Try.prog 55 #[.agg #[.slice a xs.length cap]] w fun e w' => ∃ a1 a2, e = .returned (.tuple #[.slice a1 (PL.total xs) (PL.total xs), .slice a2 (PL.total xs) (PL.total xs)]) ∧ w'.ownsRow w.heap.size 5 1 (.slice a1 (PL.total xs) (PL.total xs)) (PL.total xs) (MA.yN (PL.total xs) (PL.sh xs xs.length).by_) ∧ w'.ownsRow w.heap.size 4 1 (.slice a2 (PL.total xs) (PL.total xs)) (PL.total xs) (MA.tN (PL.total xs) (PL.sh xs xs.length).th) ∧ Below w.heap.size w w' := by
  obtain ⟨hInv, h60⟩ := PL.good_inv hg
  have hT60 := PL.total_le hg
  have hPG : Hid (∀ j, j < xs.length → PL.pg (MP.at_ xs j) = true ∧ (MP.at_ xs j).tl = (PL.total xs : Int)) := fun j hj => by
    refine ⟨hInv.2.2.2 j hj, ?_⟩
    have e := (PL.one_iff.1 (hInv.2.2.1 j hj)).2.2.2.2.2.2
    have p0 := PL.pg_is (hInv.2.2.2 0 (by omega))
    have hne : xs ≠ [] := by rintro rfl; simp at hj
    rw [e]; unfold PL.total; rw [if_neg hne]; omega
  clear hInv
  by_cases h0 : xs = []
  · subst h0
    have hB : Below w.heap.size w (w.alloc (.cells #[.slice a ([] : List Bd).length cap] 31)) := (Below.refl _ w).alloc (Nat.le_refl _) _
    go_enter Try.func55, Try.ntmps55
    go_wp2
    go_ret2
    exact ⟨none, none, rfl, World.ownsRow_nil _ _ _ _, World.ownsRow_nil _ _ _ _, hB⟩
  · have hn0 : 0 < xs.length := by cases xs with | nil => exact absurd rfl h0 | cons x l => simp
    have hne : ¬ xs.length = 0 := by omega
    generalize PL.total xs = n at *
    obtain ⟨i0, hi, hz0, hz1, hz2⟩ := info_parts Try.infoU8
    obtain ⟨i1, ki, kz0, kz1, kz2⟩ := info_parts Try.infoBool
    have hB : Below w.heap.size w (w.alloc (.cells #[.slice a xs.length cap] 31)) := (Below.refl _ w).alloc (Nat.le_refl _) _
    have hrow := hin.below hB
    obtain ⟨b, off, rfl, hbl, rg⟩ := MA.row_range hrow hn0
    have htl0 : (MP.at_ xs 0).tl = (n : Int) := (hPG.out 0 hn0).2
    have ctl : (w.alloc (.cells #[.slice (some ⟨b, off, none⟩) xs.length cap] 31)).cell? ⟨b, off + 8, none⟩ = some (.int .i64 (n : Int)) := by
      rw [Nat.zero_mul, Nat.add_zero] at rg
      have := rg 8 (.int .i64 (MP.at_ xs 0).tl) rfl
      rwa [htl0] at this
    clear rg hrow htl0
    go_enter Try.func55, Try.ntmps55
    go_wp2_with (at_make; refine wpList_make_full _ rfl _ _ 22 rfl (w.heap.size + 1) 5 i0 (.int .u8 0) 1 Try.underlying22 hi hz0 hz1 .i64 .i64 _ _ n rfl rfl rfl rfl ?_ ?_ ?_ ?_)
    · rw [hz2]; omega
    · unfold maxLen; omega
    · simp
    intro w1 hown1 hgrow1
    have hb1 : Below w.heap.size w w1 := hB.grown hgrow1 (by simp) (fun k hk => by cases hk)
    have c1 : w1.cell? ⟨w.heap.size, 0, none⟩ = some (.slice (some ⟨b, off, none⟩) xs.length cap) := (((Below.refl (w.heap.size + 1) _).grown hgrow1 (by simp) (fun k hk => by cases hk)).cell (p := ⟨w.heap.size, 0, none⟩) (by simp)).trans (by simp)
    rw [MA.made_y] at hown1
    have HO1 : Hid _ := hown1
    have hlt1 := (hown1.lt (w.heap.size + 1) rfl).2
    have hr1 : MP.BsAt w1 (some ⟨b, off, none⟩) xs := hin.below hb1
    clear hown1 hgrow1 hB ctl hi hz0 hz1 hz2 hbl
    go_wp2_with (at_make; refine wpList_make_full _ rfl _ _ 89 rfl w1.heap.size 4 i1 (.bool false) 1 Try.underlying89 ki kz0 kz1 .i64 .i64 _ _ n rfl rfl rfl rfl ?_ ?_ ?_ ?_)
    · rw [kz2]; omega
    · unfold maxLen; omega
    · omega
    intro w2 hown2 hgrow2
    have hk2 : Below w1.heap.size w1 w2 := (Below.refl _ w1).grown hgrow2 (Nat.le_refl _) (fun k hk => by cases hk)
    rw [MA.made_t] at hown2
    have hI0 : ByIn w w2 (.slice (some ⟨b, off, none⟩) xs.length cap) w1.heap.size n (PL.sh xs 0).th (PL.sh xs 0).by_ := ⟨hb1.trans (hk2.mono hb1.size), (hk2.cell (p := ⟨w.heap.size, 0, none⟩) (by show w.heap.size < _; omega)).trans c1, by have := hk2.size; omega, hlt1, MP.own_below HO1.out hk2, MA.own_base hown2 (by omega)⟩
    generalize w1.heap.size = g2 at *
    have HI0 : Hid _ := hI0
    have c2 := hI0.arg
    clear hown2 hgrow2 hk2 hI0 HO1 hr1 hb1 c1 ki kz0 kz1 kz2 hlt1
    go_wp2
    clear c2
    go_loopw [26] (fun iv wr => ∃ k : Nat, iv = .int .i64 k ∧ k ≤ xs.length ∧ ByIn w wr (.slice (some ⟨b, off, none⟩) xs.length cap) g2 n (PL.sh xs k).th (PL.sh xs k).by_) (fun iv _ => (xs.length - intOf iv).toNat)
    case atStart => exact ⟨0, rfl, by omega, HI0.out⟩
    case round =>
      clear HI0
      obtain ⟨k, rfl, hk, hI⟩ := hrel
      by_cases hl : k < xs.length
      · obtain ⟨b', off', hab, hbl0, rg⟩ := MA.row_range (hin.below hI.below) hl
        cases hab
        obtain ⟨hpg, htl⟩ := hPG.out k hl
        have HSH : Hid _ := PL.sh_succ xs k hl
        obtain ⟨x, hx⟩ : ∃ x, MP.at_ xs k = x := ⟨_, rfl⟩
        rw [hx] at rg hpg htl HSH
        obtain ⟨_, q1, q2, q3, q4, q5⟩ := PL.pg_is hpg
        obtain ⟨o, ho⟩ := Int.eq_ofNat_of_zero_le q3
        have hon : o + x.py.size ≤ n := by omega
        have RG : Hid _ := rg
        have HW : Hid _ := new_bundle wr x 24
        have RN : Hid _ := MA.Rg.new wr (Bd.cs B1.zero) 24
        have HI : Hid _ := hI
        have HOO : Hid (x.of = (o : Int)) := ho
        have hk0 : (0 : Int) ≤ (k : Int) := by omega
        have hkn : (k : Int) < (xs.length : Int) := by omega
        clear hx rg hpg htl hI q1 q2 q3 q4 q5 ho
        go_wp2_with (first
          | (refine MA.load_r rfl 24 _ rfl rfl (cs := x.cs) ?_ Try.underlying24 rfl Try.sizeBundle rfl ?_; exact RG.out)
          | (refine MA.alloc_z rfl 24 rfl _ _ Try.infoBundle ?_; simp only [MA.sz_alloc])
          | (refine MA.store_m rfl 24 _ _ rfl rfl rfl (cs := Bd.cs B1.zero) ?_ Try.sizeBundle rfl rfl (MA.cs_one x) ?_; exact RN.out; clear RN RG; generalize World.setCells _ _ _ _ = W at *))
        obtain ⟨hW1, hW2⟩ := HW.out
        have hI := HI.out.kept hW1
        have c7 : W.cell? ⟨wr.heap.size, 7, none⟩ = some (.int .i64 (o : Int)) := by have := hW2.cell (j := 7) (v := .int .i64 x.of) rfl; rwa [Nat.zero_add, HOO.out] at this
        have c9 : W.cell? ⟨wr.heap.size, 9, none⟩ = some (.string x.py) := by have := hW2.cell (j := 9) (v := .string x.py) rfl; rwa [Nat.zero_add] at this
        have hq := hW2.lt
        have hqg : w.heap.size + 1 ≠ wr.heap.size ∧ g2 ≠ wr.heap.size := ⟨by have := (HI.out.y.lt (w.heap.size + 1) rfl).2; omega, by have := (HI.out.t.lt g2 rfl).2; omega⟩
        generalize wr.heap.size = q at *
        obtain ⟨py, hpy⟩ : ∃ py, x.py = py := ⟨_, rfl⟩
        rw [hpy] at c9 hon
        have HPY : Hid (x.py = py) := hpy
        have hI2 : ByIn w W (.slice (some ⟨b, off, none⟩) xs.length cap) g2 n (mkI (PL.sh xs k).th o 0) (cpI (PL.sh xs k).by_ py o 0) := by
          have e1 : mkI (PL.sh xs k).th o 0 = (PL.sh xs k).th := by funext p; simp [mkI]; omega
          have e2 : cpI (PL.sh xs k).by_ py o 0 = (PL.sh xs k).by_ := by funext p; unfold cpI; rw [if_neg (by omega)]
          rw [e1, e2]; exact hI
        clear HW HI hW1 hW2 hI hpy
        go_wp2
        go_loopw [9] (fun iv wr => ∃ i : Nat, iv = .int .i64 i ∧ i ≤ py.size ∧ ByIn w wr (.slice (some ⟨b, off, none⟩) xs.length cap) g2 n (mkI (PL.sh xs k).th o i) (cpI (PL.sh xs k).by_ py o i) ∧ wr.cell? ⟨q, 7, none⟩ = some (.int .i64 (o : Int)) ∧ wr.cell? ⟨q, 9, none⟩ = some (.string py) ∧ q < wr.heap.size) (fun iv _ => (py.size - intOf iv).toNat)
        case atStart => exact ⟨0, rfl, by omega, hI2, c7, c9, hq⟩
        case round =>
          clear hI2 c7 c9 hq
          obtain ⟨i, rfl, hi, hI, c7, c9, hq⟩ := hrel
          by_cases hil : i < py.size
          · have cy : wr.cell? ⟨w.heap.size + 1, o + i, none⟩ = some (.int .u8 (cpI (PL.sh xs k).by_ py o i (o + i) : Int)) := by rw [hI.y.cellAt (o + i) (by omega), MA.yN_get _ (by omega)]
            have fy : wr.frozen? ⟨w.heap.size + 1, o + i, none⟩ = false := hI.y.frozenAt (o + i)
            have hgb : py[i].toNat = M3.gb py i := M3.gb_eq py i hil
            have hI1 := (hI.putY (o + i) (M3.gb py i))
            rw [show (fun p => if p = o + i then M3.gb py i else cpI (PL.sh xs k).by_ py o i p) = cpI (PL.sh xs k).by_ py o (i + 1) from funext (cpI_put _ _ _ _)] at hI1
            have hw1 : wr.drew.setCell ⟨w.heap.size + 1, o + i, none⟩ (.int .u8 (M3.gb py i : Int)) = (wr.setCell ⟨w.heap.size + 1, o + i, none⟩ (.int .u8 (M3.gb py i : Int))).drew := rfl
            have hID := hI1.kept ((Below.refl _ _).drew)
            have d7 : (wr.setCell ⟨w.heap.size + 1, o + i, none⟩ (.int .u8 (M3.gb py i : Int))).drew.cell? ⟨q, 7, none⟩ = some (.int .i64 (o : Int)) := (World.cell?_setCells_out _ [.int .u8 (M3.gb py i : Int)] (o + i) wr ⟨q, 7, none⟩ (fun h => by have h' : q = w.heap.size + 1 := h; omega)).trans c7
            have d9 : (wr.setCell ⟨w.heap.size + 1, o + i, none⟩ (.int .u8 (M3.gb py i : Int))).drew.cell? ⟨q, 9, none⟩ = some (.string py) := (World.cell?_setCells_out _ [.int .u8 (M3.gb py i : Int)] (o + i) wr ⟨q, 9, none⟩ (fun h => by have h' : q = w.heap.size + 1 := h; omega)).trans c9
            have HQ2 : Hid (q < (wr.setCell ⟨w.heap.size + 1, o + i, none⟩ (.int .u8 (M3.gb py i : Int))).drew.heap.size) := by show q < _; simpa using hq
            have HD : Hid _ := hID
            have D7 : Hid _ := d7
            have D9 : Hid _ := d9
            have hi0 : (0 : Int) ≤ (i : Int) := by omega
            have hi1 : (i : Int) < (py.size : Int) := by omega
            have ho0 : (0 : Int) ≤ (o : Int) + (i : Int) := by omega
            have ho1 : (o : Int) + (i : Int) < (n : Int) := by omega
            have hwr : IntKind.i64.wrap ((o : Int) + (i : Int)) = (o : Int) + (i : Int) := M1.i64_wrap (o + i) (by omega)
            have htn : ((o : Int) + (i : Int)).toNat = o + i := by omega
            have ho2 : o + i < n := by omega
            clear hI1 hID d7 d9 hI hw1
            generalize M3.gb py i = gbi at *
            go_wp2
            go_region_held3 (fun w' => w'.cell? ⟨q, 7, none⟩ = some (.int .i64 (o : Int)) ∧ w'.cell? ⟨q, 9, none⟩ = some (.string py)) (first | go_keep | exact ⟨D7.out, D9.out⟩) (fail)
            generalize World.drew _ = W5 at *
            have hI5 := HD.out
            have ct : W5.cell? ⟨g2, o + i, none⟩ = some (.bool (mkI (PL.sh xs k).th o i (o + i))) := by rw [hI5.t.cellAt (o + i) (by omega), MA.tN_get _ (by omega)]
            have ft : W5.frozen? ⟨g2, o + i, none⟩ = false := hI5.t.frozenAt (o + i)
            have hI6 := hI5.putT (o + i) true
            rw [show (fun p => if p = o + i then true else mkI (PL.sh xs k).th o i p) = mkI (PL.sh xs k).th o (i + 1) from funext (mkI_put _ _ _)] at hI6
            have HI6 : Hid _ := hI6
            have d7 := D7.out
            have E7 : Hid (World.cell? (W5.setCell ⟨g2, o + i, none⟩ (.bool true)) ⟨q, 7, none⟩ = some (.int .i64 (o : Int))) := (World.cell?_setCells_out _ [.bool true] (o + i) W5 ⟨q, 7, none⟩ (fun h => by have h' : q = g2 := h; omega)).trans D7.out
            have E9 : Hid (World.cell? (W5.setCell ⟨g2, o + i, none⟩ (.bool true)) ⟨q, 9, none⟩ = some (.string py)) := (World.cell?_setCells_out _ [.bool true] (o + i) W5 ⟨q, 9, none⟩ (fun h => by have h' : q = g2 := h; omega)).trans D9.out
            have HQ3 : Hid (q < (W5.setCell ⟨g2, o + i, none⟩ (.bool true)).heap.size) := by have := HQ2.out; show q < _; simpa using this
            clear hI5 hI6 HD D7 D9 HQ2
            go_wp2
            go_roundw
            case rel => exact ⟨i + 1, by go_num, by omega, HI6.out, E7.out, E9.out, HQ3.out⟩
            case measure => simp [intOf]; omega
          · obtain rfl : i = py.size := by omega
            have hI3 : ByIn w wr (.slice (some ⟨b, off, none⟩) xs.length cap) g2 n (PL.sh xs (k + 1)).th (PL.sh xs (k + 1)).by_ := by
              rw [HSH.out]
              have e1 : mkI (PL.sh xs k).th o py.size = (PL.lay (PL.sh xs k) x).th := by funext p; rw [← HPY.out]; exact mkI_lay HOO.out p
              have e2 : cpI (PL.sh xs k).by_ py o py.size = (PL.lay (PL.sh xs k) x).by_ := by funext p; rw [← HPY.out]; exact cpI_lay HOO.out p
              rw [← e1, ← e2]; exact hI
            clear hI HSH HPY HOO
            go_wp2
            go_roundw
            case rel => exact ⟨k + 1, by go_num, by omega, hI3⟩
            case measure => simp [intOf]; omega
      · obtain rfl : k = xs.length := by omega
        have HI : Hid _ := hI
        clear hI
        go_wp2
        go_ret2
        exact ⟨_, _, rfl, MA.own_base HI.out.y (by omega), MA.own_base HI.out.t (by omega), HI.out.below⟩
end Go.Proofs.Ytdgflhgbcfehhaa

/- spec.Covered and spec.MissingIn at any pile. -/
namespace Go.Proofs.Ytdgflhgbcfehhaa
open Go.RowKit
/-- What Covered answers. -/
def covL (xs : List Bd) : List Int := if PL.good xs = true then plF (PL.sh xs xs.length).th 60 else []
theorem covL_no {xs : List Bd} (h : PL.good xs = false) : covL xs = [] := by simp [covL, h]
theorem covL_yes {xs : List Bd} (h : PL.good xs = true) : covL xs = plF (PL.sh xs xs.length).th 60 := by simp [covL, h]
theorem covL_spec {xs : List Bd} (h : PL.good xs = true) : plF (PL.sh xs xs.length).th (PL.total xs) = covL xs := by
  rw [covL_yes h]
  have := PL.places_good h
  unfold PL.places at this
  unfold plF
  rw [this]
theorem covL_len (xs : List Bd) : (covL xs).length ≤ 60 := by
  unfold covL; split
  · exact plF_len _ _
  · simp
set_option linter.unusedSimpArgs false in
set_option maxHeartbeats 800000 in
set_option maxRecDepth 100000 in
theorem specCovered_any (a : Option Addr) (cap : Nat) (xs : List Bd) (w : World) (hn : xs.length ≤ 1048576) (ht : Hid (∀ k, k < xs.length → (MP.at_ xs k).py.size ≤ 1048576)) (hin : MP.BsAt w a xs) (hcap : xs.length ≤ cap) :
    Calls Try.prog 56 #[.agg #[.slice a xs.length cap]] w fun e w' => ∃ a1 c1, e = .returned (.tuple #[.slice a1 (covL xs).length c1, .bool (PL.good xs)]) ∧ w'.ownsRow w.heap.size 3 1 (.slice a1 (covL xs).length c1) (covL xs).length (M4.iv (covL xs)) ∧ Below w.heap.size w w' := by
  obtain ⟨i0, hi, hz0, hz1, hz2⟩ := info_parts Try.infoInt
  have GP : Hid _ := fun W h => specGoodPile_any a cap xs W hn ht h hcap
  have hB : Below w.heap.size w (w.alloc (.cells #[.slice a xs.length cap] 31)) := (Below.refl _ w).alloc (Nat.le_refl _) _
  have HI : Hid (MP.BsAt (w.alloc (.cells #[.slice a xs.length cap] 31)) a xs) := hin.below hB
  go_enter Try.func56, Try.ntmps56
  go_wp2_with fail
  refine (GP.out _ HI.out).mono ?_
  rintro e w1 ⟨rfl, hb1⟩
  have hB1 := hB.trans (hb1.mono hB.size)
  have hR1 := MP.BsAt.below HI.out hb1
  have c1 : w1.cell? ⟨w.heap.size, 0, none⟩ = some (.slice a xs.length cap) := (hb1.cell (p := ⟨w.heap.size, 0, none⟩) (by simp)).trans (by simp)
  clear GP HI hb1 hB
  cases hg : PL.good xs with
  | false =>
    have hC : Hid _ := covL_no hg
    have HG : Hid _ := hg
    clear hg
    go_wp2
    go_ret2
    exact ⟨none, 0, by rw [hC.out, HG.out]; rfl, by rw [hC.out]; exact World.ownsRow_nil _ _ _ _, hB1⟩
  | true =>
    have LB : Hid _ := fun W h => l4Bytes_any a cap xs W hg h
    have hC : Hid _ := covL_spec hg
    have hT := PL.total_le hg
    have HG : Hid _ := hg
    clear hg
    go_wp2_with fail
    refine (LB.out _ hR1).mono ?_
    rintro e w2 ⟨a1, a2, rfl, _, ho2, hb2⟩
    have hB2 := hB1.trans (hb2.mono hB1.size)
    have HO2 : Hid _ := MA.own_base ho2 hB1.size
    clear LB hb2 hB1 hR1 c1 ho2
    generalize PL.total xs = n at *
    generalize (PL.sh xs xs.length).th = f at *
    go_wp2
    go_loopw [6, 7, 8, 19] (fun v _ _ iv wr => ∃ k : Nat, iv = .int .i64 k ∧ k ≤ n ∧ wr.ownsRow w2.heap.size 3 1 v (plF f k).length (M4.iv (plF f k)) ∧ Below w2.heap.size w2 wr) (fun _ _ _ iv _ => (n - intOf iv).toNat)
    case atStart => exact ⟨0, rfl, by omega, World.ownsRow_nil _ _ _ _, Below.refl _ _⟩
    case round =>
      obtain ⟨k, rfl, hk, hown, hb⟩ := hrel
      have hbs := hb.size
      have hln := plF_len f k
      by_cases hl : k < n
      · have hS : Hid _ := plF_succ f k
        have hO := MP.own_below HO2.out hb
        obtain ⟨g, rfl⟩ : ∃ g, a2 = some ⟨g, 0, none⟩ := by
          rcases hO.2 with ⟨h1, h2⟩ | ⟨g, cp, cur, h1, _⟩
          · omega
          · simp at h1; exact ⟨g, h1.1⟩
        have ck : wr.cell? ⟨g, k, none⟩ = some (.bool (f k)) := by rw [hO.cellAt k (by omega), MA.tN_get _ hl]
        have hk0 : (0 : Int) ≤ (k : Int) := by omega
        have hkn : (k : Int) < (n : Int) := by omega
        clear hO
        cases hf : f k with
        | false =>
          rw [hf] at ck
          have e : plF f (k + 1) = plF f k := by rw [hS.out, hf]; simp
          rw [← e] at hown
          clear e hS hf hln
          go_wp2
          go_roundw
          case rel => exact ⟨k + 1, by go_num, by omega, hown, hb⟩
          case measure => simp [intOf]; omega
        | true =>
          rw [hf] at ck
          have HE : Hid (plF f (k + 1) = plF f k ++ [(k : Int)]) := by rw [hS.out, hf]; rfl
          clear hS hf
          go_wp2_with (at_builtin; refine wpList_append_own _ rfl _ _ 47 rfl w2.heap.size 3 i0 (.int .i64 0) 1 8 Try.underlying47 hi hz0 hz1 hz2 rfl (by decide) _ _ _ rfl (hown.alloc _) ⟨wr.heap.size, 0, none⟩ 1 1 [.int .i64 (k : Int)] rfl rfl ?c1 ?c2 ?c3 ?c4 ?c5 ?_)
          case c1 => exact M2.new1 _ _ _
          case c2 => exact M2.one1 _ _
          case c3 => unfold maxLen; omega
          case c4 => omega
          case c5 => simp; omega
          intro v' w3 hown1 hgrow _
          have R := M5.growI hown hb (by omega) (by exact hown1) hgrow
          have R1 := R.1
          have R2 := R.2
          rw [← HE.out] at R1
          clear hown1 hgrow hown R HE ck hln
          go_wp2
          go_roundw
          case rel => exact ⟨k + 1, by go_num, by omega, R1, R2⟩
          case measure => simp [intOf]; omega
      · obtain rfl : k = n := by omega
        obtain ⟨a3, c3, hv, _⟩ := M5.own_view hown
        rw [hv] at hown ⊢
        have HO : Hid _ := hown
        clear hln hv hown
        go_wp2
        go_ret2
        have HO' := HO.out
        rw [hC.out] at HO'
        exact ⟨a3, c3, by rw [hC.out, HG.out]; rfl, MA.own_base HO' hB2.size, hB2.trans (hb.mono hB2.size)⟩
/-- What MissingIn answers. -/
def missN (xs : List Bd) : Int := if PL.good xs = true then (PL.total xs : Int) - (covL xs).length else 0
theorem missN_no {xs : List Bd} (h : PL.good xs = false) : missN xs = 0 := by simp [missN, h]
theorem missN_nil : missN [] = 0 := by
  unfold missN; split
  · simp [PL.total, covL, PL.sh, plF, PL.blank]
  · rfl
theorem missN_yes {xs : List Bd} (h : PL.good xs = true) : missN xs = (PL.total xs : Int) - (covL xs).length := by simp [missN, h]
set_option linter.unusedSimpArgs false in
set_option maxHeartbeats 800000 in
set_option maxRecDepth 100000 in
theorem specMissing_any (a : Option Addr) (cap : Nat) (xs : List Bd) (w : World) (hn : xs.length ≤ 1048576) (ht : Hid (∀ k, k < xs.length → (MP.at_ xs k).py.size ≤ 1048576)) (hin : MP.BsAt w a xs) (hcap : xs.length ≤ cap) :
    Calls Try.prog 25 #[.agg #[.slice a xs.length cap]] w fun e w' => e = .returned (.tuple #[.int .i64 (missN xs), .bool (PL.good xs)]) ∧ Below w.heap.size w w' := by
  have CV : Hid _ := fun W h => specCovered_any a cap xs W hn ht h hcap
  have hB : Below w.heap.size w (w.alloc (.cells #[.slice a xs.length cap] 31)) := (Below.refl _ w).alloc (Nat.le_refl _) _
  have HI : Hid (MP.BsAt (w.alloc (.cells #[.slice a xs.length cap] 31)) a xs) := hin.below hB
  go_enter Try.func25, Try.ntmps25
  go_wp2_with fail
  refine (CV.out _ HI.out).mono ?_
  rintro e w1 ⟨a1, c1, rfl, _, hb1⟩
  have hB1 := hB.trans (hb1.mono hB.size)
  have hR1 := MP.BsAt.below HI.out hb1
  have c1 : w1.cell? ⟨w.heap.size, 0, none⟩ = some (.slice a xs.length cap) := (hb1.cell (p := ⟨w.heap.size, 0, none⟩) (by simp)).trans (by simp)
  clear CV HI hb1 hB
  cases hg : PL.good xs with
  | false =>
    have hM : Hid _ := missN_no hg
    have HG : Hid _ := hg
    clear hg
    go_wp2
    go_ret2
    exact ⟨by rw [hM.out, HG.out]; rfl, hB1⟩
  | true =>
    have HG : Hid _ := hg
    have hM : Hid _ := missN_yes hg
    have hT := PL.total_le hg
    have hcl := covL_len xs
    by_cases h0 : xs = []
    · subst h0
      have hM0 : Hid _ := missN_nil
      clear hg hM
      go_wp2
      go_ret2
      exact ⟨by rw [hM0.out, HG.out]; rfl, hB1⟩
    · have hn0 : 0 < xs.length := by cases xs with | nil => exact absurd rfl h0 | cons x l => simp
      have hne : ¬ xs.length = 0 := by omega
      have htl : (MP.at_ xs 0).tl = (PL.total xs : Int) := by
        have p0 := PL.pg_is ((PL.good_inv hg).1.2.2.2 0 hn0)
        unfold PL.total; rw [if_neg h0]; omega
      obtain ⟨b, off, rfl, hbl, rg⟩ := MA.row_range hR1 hn0
      have ctl : w1.cell? ⟨b, off + 8, none⟩ = some (.int .i64 (PL.total xs : Int)) := by
        rw [Nat.zero_mul, Nat.add_zero] at rg
        have := rg 8 (.int .i64 (MP.at_ xs 0).tl) rfl
        rwa [htl] at this
      clear rg htl hg
      generalize PL.total xs = n at *
      generalize (covL xs).length = m at *
      go_wp2
      go_ret2
      exact ⟨by rw [hM.out, HG.out]; rfl, hB1⟩
end Go.Proofs.Ytdgflhgbcfehhaa
