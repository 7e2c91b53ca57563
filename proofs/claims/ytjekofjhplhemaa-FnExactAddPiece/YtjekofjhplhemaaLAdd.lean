/- The law FnExactAddPiece answers true at every pile and every bundle. -/
import Derived.Test.YtjekofjhplhemaaRows
import Derived.Test.YtjekofjhplhemaaCAddI
import Derived.Test.YtjekofjhplhemaaCAddS
import Derived.Test.YtjekofjhplhemaaCEqPile
import Derived.Test.YtjekofjhplhemaaCMarkPile
import Derived.Test.YtjekofjhplhemaaCMarkP2
import Derived.Test.YtjekofjhplhemaaCPileLaw
import Derived.Test.YtjekofjhplhemaaMRP
import Derived.Test.YtjekofjhplhemaaMRO
import Derived.Test.YtjekofjhplhemaaMCur
import Derived.Test.YtjekofjhplhemaaCBundleLaw
import Derived.WalkKit
import Derived.WalkSpells
import Derived.WalkLawsBesides
import Derived.Outline
namespace Go.Proofs.Ytjekofjhplhemaa
open Go.RowKit
theorem Try.sizeBundleLA : (Try.prog.info? 26).map (·.size) = some 10 := by kernel_rfl
theorem Try.sizePileLA : (Try.prog.info? 31).map (·.size) = some 1 := by kernel_rfl
theorem Try.infoPileLA : (Try.prog.info? 31).map (fun i => (i.zero, i.size)) = some (some (.agg (([.slice none 0 0] : List Value)).toArray), 1) := by kernel_rfl
theorem bs_only {p : Nat} {w w' : World} {a : Option Addr} {xs : List Bd} (ho : MC.Only p w w') (h : MP.BsAt w a xs) (hp : xs = [] ∨ ∀ q, a = some q → q.block ≠ p) : MP.BsAt w' a xs := by
  rcases h with rfl | ⟨b, off, rfl, hlt, hc⟩
  · exact .inl rfl
  · rcases hp with rfl | hp
    · exact .inl rfl
    have hn : b ≠ p := hp _ rfl
    refine .inr ⟨b, off, rfl, Nat.lt_of_lt_of_le hlt ho.size, fun j hj => ?_⟩
    obtain ⟨c0, c1, c2, c3, c4, c5, c6, c7, c8, c9⟩ := hc j hj
    exact ⟨(ho.cell (x := ⟨b, _, none⟩) hlt hn).trans c0, (ho.cell (x := ⟨b, _, none⟩) hlt hn).trans c1, (ho.cell (x := ⟨b, _, none⟩) hlt hn).trans c2, (ho.cell (x := ⟨b, _, none⟩) hlt hn).trans c3, (ho.cell (x := ⟨b, _, none⟩) hlt hn).trans c4, (ho.cell (x := ⟨b, _, none⟩) hlt hn).trans c5, (ho.cell (x := ⟨b, _, none⟩) hlt hn).trans c6, (ho.cell (x := ⟨b, _, none⟩) hlt hn).trans c7, (ho.cell (x := ⟨b, _, none⟩) hlt hn).trans c8, (ho.cell (x := ⟨b, _, none⟩) hlt hn).trans c9⟩
theorem bs_lt {w : World} {a : Option Addr} {xs : List Bd} (h : MP.BsAt w a xs) : xs = [] ∨ ∀ q, a = some q → q.block ≠ w.heap.size := by
  rcases h with rfl | ⟨b, off, rfl, hlt, _⟩
  · exact .inl rfl
  · exact .inr fun q hq => by cases hq; show b ≠ _; omega
theorem rg_block {W W' : World} {k o : Nat} {cs : List Value} (h : MA.Rg W k o cs) (hb : W'.heap[k]? = W.heap[k]?) : MA.Rg W' k o cs := by
  have hlt : k < W'.heap.size := by
    rcases Nat.lt_or_ge k W'.heap.size with h1 | h1
    · exact h1
    · have := h.lt
      rw [Array.getElem?_eq_none h1, Array.getElem?_eq_getElem this] at hb; cases hb
  refine ⟨hlt, ?_, ?_⟩
  · intro j v hj
    exact (World.cell?_of_block (a := ⟨k, o + j, none⟩) hb).trans (h.rng j v hj)
  · intro j hj
    have := h.ok j hj
    rw [World.cell?_of_block (a := ⟨k, o + j, none⟩) hb, World.frozen?_of_block (a := ⟨k, o + j, none⟩) hb]; exact this
theorem bs_of_rg {w : World} {g : Nat} {xs : List Bd} (h : MA.Rg w g 0 (MP.flat xs)) : MP.BsAt w (some ⟨g, 0, none⟩) xs := by
  have hc : ∀ j i v, j < xs.length → i < 10 → (MP.at_ xs j).cs[i]? = some v → w.cell? ⟨g, 0 + j * 10 + i, none⟩ = some v := fun j i v hj hi hv => by
    have := h.cell (j := 10 * j + i) (v := v) (by rw [MP.flat_get xs j i hj hi]; exact hv)
    rw [show 0 + j * 10 + i = 0 + (10 * j + i) from by omega]; exact this
  refine .inr ⟨g, 0, rfl, h.lt, fun j hj => ?_⟩
  exact ⟨hc j 0 _ hj (by omega) rfl, hc j 1 _ hj (by omega) rfl, hc j 2 _ hj (by omega) rfl, hc j 3 _ hj (by omega) rfl, hc j 4 _ hj (by omega) rfl, hc j 5 _ hj (by omega) rfl, hc j 6 _ hj (by omega) rfl, hc j 7 _ hj (by omega) rfl, hc j 8 _ hj (by omega) rfl, hc j 9 _ hj (by omega) rfl⟩
theorem ans_len (xs : List Bd) (b : Bd) : (PD.ans xs b).1.length ≤ 61 := by
  unfold PD.ans
  split
  · simp
  · rename_i h
    have hg : PL.good xs = true := by
      cases hg : PL.good xs with
      | true => rfl
      | false => rw [hg] at h; simp at h
    have hx60 : xs.length ≤ 60 := by
      have : upOk xs = true := by rw [upOk_gd]; exact hg
      simp [upOk] at this; exact this.1
    have := PD.put_len (xs := xs) (b := b) (k := PD.cut xs b) (PD.cut_spec xs b).1
    split
    · simp; omega
    · split <;> simp <;> omega
/-- What the law holds: both arguments' boxes, and the pile's row. -/
structure LaIn (w W : World) (a : Option Addr) (cap : Nat) (xs : List Bd) (b : Bd) : Prop where
  below : Below w.heap.size w W
  pb : MA.Rg W w.heap.size 0 [.slice a xs.length cap]
  bb : MA.Rg W (w.heap.size + 1) 0 b.cs
  row : MP.BsAt W a xs
theorem LaIn.over {w W W' : World} {a : Option Addr} {cap B : Nat} {xs : List Bd} {b : Bd} (h : LaIn w W a cap xs b) (hin : MP.BsAt w a xs) (hb : Below B W W') (hB : w.heap.size + 1 < B) : LaIn w W' a cap xs b := by
  have h1 : Below w.heap.size w W' := h.below.trans (hb.mono (by omega))
  exact ⟨h1, h.pb.below hb (by omega), h.bb.below hb (by omega), hin.below h1⟩
theorem LaIn.kept {w W W' : World} {a : Option Addr} {cap : Nat} {xs : List Bd} {b : Bd} (h : LaIn w W a cap xs b) (hb : Below W.heap.size W W') : LaIn w W' a cap xs b :=
  ⟨h.below.trans (hb.mono h.below.size), h.pb.below hb h.pb.lt, h.bb.below hb h.bb.lt, h.row.below hb⟩
theorem LaIn.start {w : World} {a : Option Addr} {cap : Nat} {xs : List Bd} {b : Bd} (hin : MP.BsAt w a xs) (t1 t2 : TypeId) : LaIn w ((w.alloc (.cells #[.slice a xs.length cap] t1)).alloc (.cells b.cs.toArray t2)) a cap xs b := by
  have hB : Below w.heap.size w ((w.alloc (.cells #[.slice a xs.length cap] t1)).alloc (.cells b.cs.toArray t2)) := ((Below.refl _ w).alloc (Nat.le_refl _) _).alloc (by simp) _
  exact ⟨hB, (MA.Rg.new w [.slice a xs.length cap] t1).below ((Below.refl _ (w.alloc (.cells #[.slice a xs.length cap] t1))).alloc (Nat.le_refl _) _) (by simp), MA.Rg.new' (w.alloc (.cells #[.slice a xs.length cap] t1)) b.cs t2 (w.heap.size + 1) (by simp), hin.below hB⟩
/-- What the law holds behind both calls. -/
structure LB (w W : World) (a : Option Addr) (cap : Nat) (xs : List Bd) (b : Bd) (ys : List Bd) (p0 : Nat) (a1 : Option Addr) (c1 p8 g2 p9 : Nat) (a2 : Option Addr) (c2 g9 : Nat) (m9 : List Value) : Prop where
  la : LaIn w W a cap xs b
  q0 : MA.Rg W p0 0 [.slice a1 ys.length c1]
  r0 : MP.BsAt W a1 ys
  q8 : MA.Rg W p8 0 [.slice (some ⟨g2, 0, none⟩) xs.length xs.length]
  q9 : MA.Rg W p9 0 [.slice a2 ys.length c2]
  r9 : ys.length = 0 ∨ (a2 = some ⟨g9, 0, none⟩ ∧ MA.Rg W g9 0 m9)
  n2 : w.heap.size + 1 < g2 ∧ p0 ≠ g2 ∧ p8 ≠ g2 ∧ p9 ≠ g2 ∧ (ys = [] ∨ ∀ p, a1 = some p → p.block ≠ g2)
  n9 : ys.length = 0 ∨ (w.heap.size + 1 < g9 ∧ p0 ≠ g9 ∧ p8 ≠ g9 ∧ p9 ≠ g9 ∧ g2 ≠ g9 ∧ (ys = [] ∨ ∀ p, a1 = some p → p.block ≠ g9))
section
variable {w W W' : World} {a : Option Addr} {cap : Nat} {xs : List Bd} {b : Bd} {ys : List Bd} {p0 : Nat} {a1 : Option Addr} {c1 p8 g2 p9 : Nat} {a2 : Option Addr} {c2 g9 : Nat} {m9 m9' : List Value}
theorem LB.kept (h : LB w W a cap xs b ys p0 a1 c1 p8 g2 p9 a2 c2 g9 m9) (hb : Below W.heap.size W W') : LB w W' a cap xs b ys p0 a1 c1 p8 g2 p9 a2 c2 g9 m9 :=
  ⟨h.la.kept hb, h.q0.below hb h.q0.lt, h.r0.below hb, h.q8.below hb h.q8.lt, h.q9.below hb h.q9.lt, h.r9.imp id fun x => ⟨x.1, x.2.below hb x.2.lt⟩, h.n2, h.n9⟩
theorem LB.only {p : Nat} (h : LB w W a cap xs b ys p0 a1 c1 p8 g2 p9 a2 c2 g9 m9) (hin : MP.BsAt w a xs) (hO : MC.Only p W W') (hp : w.heap.size + 1 < p) (hp0 : p0 ≠ p) (hp8 : p8 ≠ p) (hp9 : p9 ≠ p) (h1 : ys = [] ∨ ∀ x, a1 = some x → x.block ≠ p) (hr : ys.length = 0 ∨ (a2 = some ⟨g9, 0, none⟩ ∧ MA.Rg W' g9 0 m9')) : LB w W' a cap xs b ys p0 a1 c1 p8 g2 p9 a2 c2 g9 m9' := by
  have hbb := h.la.bb.lt
  exact ⟨h.la.over hin (hO.below (B := w.heap.size + 2) (by omega) (by omega)) (by omega), rg_block h.q0 (hO.block _ h.q0.lt hp0), bs_only hO h.r0 h1, rg_block h.q8 (hO.block _ h.q8.lt hp8), rg_block h.q9 (hO.block _ h.q9.lt hp9), hr, h.n2, h.n9⟩
theorem LB.mark2 (h : LB w W a cap xs b ys p0 a1 c1 p8 g2 p9 a2 c2 g9 m9) (hin : MP.BsAt w a xs) (hO : MC.Only g2 W W') : LB w W' a cap xs b ys p0 a1 c1 p8 g2 p9 a2 c2 g9 m9 := by
  obtain ⟨k1, k2, k3, k4, k5⟩ := h.n2
  refine h.only hin hO k1 k2 k3 k4 k5 ?_
  rcases h.r9 with h0 | ⟨e, hr⟩
  · exact .inl h0
  · rcases h.n9 with h0 | ⟨_, _, _, _, k6, _⟩
    · exact .inl h0
    · exact .inr ⟨e, rg_block hr (hO.block _ hr.lt (fun e => k6 e.symm))⟩
end
set_option linter.unusedSimpArgs false in
set_option maxHeartbeats 6400000 in
set_option maxRecDepth 100000 in
theorem lawAdd_any (a : Option Addr) (cap : Nat) (xs : List Bd) (b : Bd) (w : World) (hn : xs.length ≤ maxLen) (ht : Hid (∀ k, k < xs.length → (MP.at_ xs k).py.size ≤ maxLen)) (hin : MP.BsAt w a xs) (hs : b.py.size ≤ maxLen) :
    Calls Try.prog 3 #[.agg #[.slice a xs.length cap], .agg b.cs.toArray] w fun e w' => e = .returned (.bool true) ∧ Below w.heap.size w w' := by
  have SZ : Hid _ := fun W h => szPile_any a cap xs W hn ht h
  have SB : Hid _ := fun l W hl => szBundle_any b l W hs hl
  have TB : Hid (∀ W : World, Calls Try.prog 13 #[.agg b.cs.toArray] W fun e w' => e = .returned (.agg b.cs.toArray) ∧ Below W.heap.size W w') := fun W => toBundle_any b W
  have HL : Hid _ := LaIn.start (cap := cap) (b := b) hin 24 26
  have HIN : Hid (MP.BsAt w a xs) := hin
  have c0 := CB.c_of HL.out.pb (j := 0) (v := .slice a xs.length cap) rfl
  clear hin ht hn hs
  go_enter Try.func3, Try.ntmps3
  go_wp2_with fail
  refine (SZ.out _ HL.out.row).mono ?_
  rintro e w1 ⟨r, rfl, hr, hb1⟩
  replace HL : Hid _ := HL.out.kept hb1
  clear SZ hb1 c0
  by_cases h0 : r < 0
  · clear hr
    go_wp2
    go_ret
    exact ⟨rfl, HL.out.below⟩
  obtain ⟨hr0, hr1, hn, ht⟩ : 0 ≤ r ∧ r ≤ 1048576 ∧ xs.length ≤ 1048576 ∧ Hid (∀ k, k < xs.length → (MP.at_ xs k).py.size ≤ 1048576) := by rcases hr with hr | hr; exact absurd hr h0; exact hr
  have SB1 : Hid _ := fun W => SB.out r W ⟨hr0, hr1⟩
  clear hr SB
  have HA : Hid _ := HL.out.bb.rng
  go_wp2_with (refine MA.load_r rfl 26 _ rfl rfl (cs := b.cs) ?_ Try.underlying26 rfl Try.sizeBundleLA rfl ?_; exact HA.out)
  refine (SB1.out _).mono ?_
  rintro e w2 ⟨⟨r2, rfl, hr2⟩, hb2⟩
  replace HL : Hid _ := HL.out.kept hb2
  clear SB1 hb2 HA
  rcases hr2 with hr2 | ⟨hr3, hr4⟩
  · go_wp2
    go_ret
    exact ⟨rfl, HL.out.below⟩
  have hs : b.py.size ≤ 1048576 := by omega
  have TP : Hid _ := fun W h => toPile_any a cap xs W hn h
  have SG : Hid _ := fun g W h => specAdd_any g xs b W hn hs ht h
  have IG : Hid _ := fun g W h => implAdd_any (some ⟨g, 0, none⟩) xs.length xs b W hn hs ht h
  have hyl := ans_len xs b
  rw [← PD.ans_same] at SG
  clear ht hr3 h0 hr0 hr1 hs
  generalize PD.ans xs b = Y at *
  obtain ⟨ys, R⟩ := Y
  simp only at hyl SG IG
  have c0 := CB.c_of HL.out.pb (j := 0) (v := .slice a xs.length cap) rfl
  have l0 := HL.out.pb.lt
  have SGB : Hid (∀ g W, MP.BsAt W (some ⟨g, 0, none⟩) xs → Calls Try.prog 11 #[.agg #[.slice (some ⟨g, 0, none⟩) xs.length xs.length], .agg b.cs.toArray] W fun e w' => ∃ a1 c1, e = .returned (.tuple #[.agg #[.slice a1 ys.length c1], .bool R]) ∧ MP.BsAt w' a1 ys ∧ (ys = [] ∨ ∀ p, a1 = some p → W.heap.size ≤ p.block) ∧ Below W.heap.size W w') := fun g W h => (SG.out g W h).mono (by
    rintro e w' ⟨a1, c1, rfl, h1, h2, h3⟩
    exact ⟨a1, c1, rfl, h1, .inr h2, h3⟩)
  have IGB : Hid (∀ g W, MP.BsAt W (some ⟨g, 0, none⟩) xs → Calls Try.prog 14 #[.agg #[.slice (some ⟨g, 0, none⟩) xs.length xs.length], .agg b.cs.toArray] W fun e w' => ∃ a1 c1, e = .returned (.tuple #[.agg #[.slice a1 ys.length c1], .bool R]) ∧ MP.BsAt w' a1 ys ∧ (ys = [] ∨ ∀ p, a1 = some p → W.heap.size ≤ p.block) ∧ Below W.heap.size W w') := fun g W h => (IG.out g W h).mono (by
    rintro e w' ⟨a1, c1, g', rfl, h1, h2, h3⟩
    rcases h2 with h0 | ⟨rfl, hr⟩
    · have hy0 : ys = [] := List.length_eq_zero_iff.1 h0
      exact ⟨a1, c1, rfl, .inl hy0, .inl hy0, h3⟩
    · exact ⟨_, c1, rfl, bs_of_rg hr, .inr fun p hp => by cases hp; exact h1, h3⟩)
  have l1 := HL.out.bb.lt
  have HA3 : Hid _ := HL.out.bb.rng
  go_wp2_with fail
  refine MR.frame fun A hA => ?_
  have hsz : A.tmps.size = 109 := by rw [hA]; rfl
  have e2 : A.eval (.tmp 2) = .pointer (some ⟨w.heap.size, 0, none⟩) := by rw [hA]; rfl
  have f2 := MR.read (t := 2) (by rw [hsz]; decide) e2
  have e3 : A.eval (.tmp 3) = .pointer (some ⟨w.heap.size + 1, 0, none⟩) := by rw [hA]; rfl
  have f3 := MR.read (t := 3) (by rw [hsz]; decide) e3
  have HA : Hid (A = _) := hA
  clear hA
  refine MR.cut (fun aa w' => ∃ gx a1 c1 q, aa = ((((((((((A.put (some 27) (.agg #[.slice a xs.length cap])).put (some 29) (.agg b.cs.toArray)).put (some 28) (.agg #[.slice (some ⟨gx, 0, none⟩) xs.length xs.length])).put (some 30) (.agg b.cs.toArray)).put (some 31) (.tuple #[.agg #[.slice a1 ys.length c1], .bool R])).put (some 26) (.tuple #[.agg #[.slice a1 ys.length c1], .bool R])).put (some 32) (.agg #[.slice a1 ys.length c1])).put (some 33) (.bool R)).put (some 6) (.pointer (some ⟨q, 0, none⟩))).put (some 7) (.bool R)) ∧ Hid (Below w2.heap.size w2 w' ∧ w2.heap.size ≤ q ∧ MA.Rg w' q 0 [.slice a1 ys.length c1] ∧ MP.BsAt w' a1 ys)) ?_ ?_
  · have hS : (fun w' : World => Below w2.heap.size w2 w') (World.drew _) := ((Below.refl _ w2).drew)
    refine wp_region_held (S := fun w' : World => Below w2.heap.size w2 w') (by kernel_rfl) ?_
    change wpAnyH _ _ _ _ _ _ _ _ (World.drew _)
    refine MR.takeH (i := 0) (some 27) ((.agg #[.slice a xs.length cap])) rfl rfl (by kernel_rfl) (by kernel_rfl) (by kernel_rfl) nofun hS (MR.free rfl) (fun wq hw => by simp [execOp, MR.ev, MR.size, hsz, e2, f2, e3, f3, (hw.cell (p := ⟨w.heap.size, 0, none⟩) l0).trans c0, go_sem]) ?_
    refine MR.takeH (i := 2) (some 29) ((.agg b.cs.toArray)) rfl rfl (by kernel_rfl) (by kernel_rfl) (by kernel_rfl) nofun hS (MR.free rfl) (fun wq hw => MA.ex_load rfl (by simp [MR.ev, MR.size, hsz, e2, f2, e3, f3]) (MA.range_below HA3.out hw l1) Try.underlying26 rfl Try.sizeBundleLA rfl) ?_
    generalize hwd : World.drew w2 = v0 at hS ⊢
    clear hwd
    refine MR.two (i := 1) (j := 8) (by kernel_rfl) ?_ ?_
    · skip
      refine MR.callW (some 28) (12) (#[.agg #[.slice a xs.length cap]]) rfl rfl (MR.free rfl) (by simp [execOp, MR.ev, MR.size, hsz, e2, f2, e3, f3, go_sem]) ?_
      refine Calls.mono (TP.out _ (HL.out.row.below hS)) ?_
      rintro e v1 ⟨gx, rfl, ho, hb⟩
      have hSv1 : Below w2.heap.size w2 v1 := hS.trans (hb.mono hS.size)
      have hx : MP.BsAt v1 (some ⟨gx, 0, none⟩) xs := MP.BsAt.of_own ho
      clear hb
      refine ⟨_, rfl, hSv1, ?_⟩
      refine MR.two (i := 3) (j := 8) (by kernel_rfl) ?_ ?_
      · skip
        refine MR.callW (some 30) (13) (#[.agg b.cs.toArray]) rfl rfl (MR.free rfl) (by simp [execOp, MR.ev, MR.size, hsz, e2, f2, e3, f3, go_sem]) ?_
        refine Calls.mono (TB.out _) ?_
        rintro e v2 ⟨rfl, hb⟩
        have hSv2 : Below w2.heap.size w2 v2 := hSv1.trans (hb.mono hSv1.size)
        replace hx := hx.below hb
        clear hb
        refine ⟨_, rfl, hSv2, ?_⟩
        refine MR.two (i := 4) (j := 8) (by kernel_rfl) ?_ ?_
        · skip
          refine MR.callW (some 31) (11) (#[.agg #[.slice (some ⟨gx, 0, none⟩) xs.length xs.length], .agg b.cs.toArray]) rfl rfl (MR.free rfl) (by simp [execOp, MR.ev, MR.size, hsz, e2, f2, e3, f3, go_sem]) ?_
          refine Calls.mono (SGB.out gx _ hx) ?_
          rintro e v3 ⟨a1, c1, rfl, hy, hk, hb⟩
          have hSv3 : Below w2.heap.size w2 v3 := hSv2.trans (hb.mono hSv2.size)
          clear hb
          refine ⟨_, rfl, hSv3, ?_⟩
          refine MR.takeH (i := 5) (some 26) ((.tuple #[.agg #[.slice a1 ys.length c1], .bool R])) rfl rfl (by kernel_rfl) (by kernel_rfl) (by kernel_rfl) nofun hSv3 (MR.free rfl) (fun wq hw => by simp [execOp, MR.ev, MR.size, hsz, e2, f2, e3, f3, go_sem]) ?_
          refine MR.takeH (i := 6) (some 32) ((.agg #[.slice a1 ys.length c1])) rfl rfl (by kernel_rfl) (by kernel_rfl) (by kernel_rfl) nofun hSv3 (MR.free rfl) (fun wq hw => by simp [execOp, MR.ev, MR.size, hsz, e2, f2, e3, f3, go_sem]) ?_
          refine MR.takeH (i := 7) (some 33) ((.bool R)) rfl rfl (by kernel_rfl) (by kernel_rfl) (by kernel_rfl) nofun hSv3 (MR.free rfl) (fun wq hw => by simp [execOp, MR.ev, MR.size, hsz, e2, f2, e3, f3, go_sem]) ?_
          refine MR.nowH (i := 8) (some 6) (.pointer (some ⟨v3.heap.size, 0, none⟩)) (by kernel_rfl) rfl rfl (MR.free rfl) (MR.ex_alloc _ rfl [.slice none 0 0] 1 Try.infoPileLA) ?_
          have hb : Below v3.heap.size v3 (v3.alloc (.cells #[.slice none 0 0] 31)) := (Below.refl _ v3).alloc (Nat.le_refl _) _
          have hSv4 := hSv3.trans (hb.mono hSv3.size)
          have hq : MA.Rg (v3.alloc (.cells #[.slice none 0 0] 31)) v3.heap.size 0 [.slice none 0 0] := MA.Rg.new _ _ _
          have hq0 : w2.heap.size ≤ v3.heap.size := hSv3.size
          have hnq : ys = [] ∨ ∀ p, a1 = some p → p.block ≠ v3.heap.size := bs_lt hy
          replace hy := hy.below hb
          refine ⟨hSv4, ?_⟩
          clear hb
          generalize v3.alloc (.cells #[.slice none 0 0] 31) = v4 at *
          generalize hqe : v3.heap.size = q at hq hq0 hnq ⊢
          have hSz : Below w2.heap.size w2 (v4.setCells q 0 [.slice a1 ys.length c1]) := MA.below_cells hq0 _ _ _ hSv4
          refine MR.storeH (i := 9) (by kernel_rfl) rfl (MR.free rfl) (MA.ex_store (vs := [.slice a1 ys.length c1]) rfl (by simp [MR.ev, MR.size, hsz, e2, f2, e3, f3]) (by simp [MR.ev, MR.size, hsz, e2, f2, e3, f3]) hq.ok Try.sizePileLA rfl (by simp [Value.oneCell'])) ⟨hSz, ?_⟩
          refine MR.takeH (i := 10) (some 7) (.bool R) rfl rfl (by kernel_rfl) (by kernel_rfl) (by kernel_rfl) nofun hSz (MR.free rfl) (fun wq hw => by simp [execOp, MR.ev, MR.size, hsz, e2, f2, e3, f3, go_sem]) ?_
          refine wpAnyH_done (by kernel_rfl) ⟨rfl, gx, a1, c1, q, ?_, ⟨hSz, hq0, hq.put rfl, bs_only ((MC.Only.refl q v4).setCell 0 _) hy hnq⟩⟩ _
          rw [HA.out]
          simp only [Act.put, List.setIfInBounds_toArray, List.set_cons_succ, List.set_cons_zero]
          try rfl
        · skip
          refine MR.nowW (some 6) (.pointer (some ⟨v2.heap.size, 0, none⟩)) rfl rfl (MR.free rfl) (MR.ex_alloc _ rfl [.slice none 0 0] 1 Try.infoPileLA) ?_
          have hb : Below v2.heap.size v2 (v2.alloc (.cells #[.slice none 0 0] 31)) := (Below.refl _ v2).alloc (Nat.le_refl _) _
          have hSv5 := hSv2.trans (hb.mono hSv2.size)
          have hq : MA.Rg (v2.alloc (.cells #[.slice none 0 0] 31)) v2.heap.size 0 [.slice none 0 0] := MA.Rg.new _ _ _
          have hq0 : w2.heap.size ≤ v2.heap.size := hSv2.size
          replace hx := hx.below hb
          refine ⟨hSv5, ?_⟩
          clear hb
          generalize v2.alloc (.cells #[.slice none 0 0] 31) = v5 at *
          generalize hqe : v2.heap.size = q at hq hq0 ⊢
          refine MR.callH (i := 4) (some 31) (11) (#[.agg #[.slice (some ⟨gx, 0, none⟩) xs.length xs.length], .agg b.cs.toArray]) (by kernel_rfl) rfl rfl (MR.free rfl) (by simp [execOp, MR.ev, MR.size, hsz, e2, f2, e3, f3, go_sem]) ?_
          refine Calls.mono (SGB.out gx _ hx) ?_
          rintro e v6 ⟨a1, c1, rfl, hy, hk, hb⟩
          have hSv6 : Below w2.heap.size w2 v6 := hSv5.trans (hb.mono hSv5.size)
          have hnq : ys = [] ∨ ∀ p, a1 = some p → p.block ≠ q := hk.imp id fun hk p hp => by have h1 := hk p hp; have h2 := hq.lt; omega
          replace hq := hq.below hb hq.lt
          clear hb
          refine ⟨_, rfl, hSv6, ?_⟩
          refine MR.takeH (i := 5) (some 26) ((.tuple #[.agg #[.slice a1 ys.length c1], .bool R])) rfl rfl (by kernel_rfl) (by kernel_rfl) (by kernel_rfl) nofun hSv6 (MR.free rfl) (fun wq hw => by simp [execOp, MR.ev, MR.size, hsz, e2, f2, e3, f3, go_sem]) ?_
          refine MR.takeH (i := 6) (some 32) ((.agg #[.slice a1 ys.length c1])) rfl rfl (by kernel_rfl) (by kernel_rfl) (by kernel_rfl) nofun hSv6 (MR.free rfl) (fun wq hw => by simp [execOp, MR.ev, MR.size, hsz, e2, f2, e3, f3, go_sem]) ?_
          refine MR.takeH (i := 7) (some 33) ((.bool R)) rfl rfl (by kernel_rfl) (by kernel_rfl) (by kernel_rfl) nofun hSv6 (MR.free rfl) (fun wq hw => by simp [execOp, MR.ev, MR.size, hsz, e2, f2, e3, f3, go_sem]) ?_
          have hSz : Below w2.heap.size w2 (v6.setCells q 0 [.slice a1 ys.length c1]) := MA.below_cells hq0 _ _ _ hSv6
          refine MR.storeH (i := 9) (by kernel_rfl) rfl (MR.free rfl) (MA.ex_store (vs := [.slice a1 ys.length c1]) rfl (by simp [MR.ev, MR.size, hsz, e2, f2, e3, f3]) (by simp [MR.ev, MR.size, hsz, e2, f2, e3, f3]) hq.ok Try.sizePileLA rfl (by simp [Value.oneCell'])) ⟨hSz, ?_⟩
          refine MR.takeH (i := 10) (some 7) (.bool R) rfl rfl (by kernel_rfl) (by kernel_rfl) (by kernel_rfl) nofun hSz (MR.free rfl) (fun wq hw => by simp [execOp, MR.ev, MR.size, hsz, e2, f2, e3, f3, go_sem]) ?_
          refine wpAnyH_done (by kernel_rfl) ⟨rfl, gx, a1, c1, q, ?_, ⟨hSz, hq0, hq.put rfl, bs_only ((MC.Only.refl q v6).setCell 0 _) hy hnq⟩⟩ _
          rw [HA.out]
          simp only [Act.put, List.setIfInBounds_toArray, List.set_cons_succ, List.set_cons_zero]
          try rfl
      · skip
        refine MR.nowW (some 6) (.pointer (some ⟨v1.heap.size, 0, none⟩)) rfl rfl (MR.free rfl) (MR.ex_alloc _ rfl [.slice none 0 0] 1 Try.infoPileLA) ?_
        have hb : Below v1.heap.size v1 (v1.alloc (.cells #[.slice none 0 0] 31)) := (Below.refl _ v1).alloc (Nat.le_refl _) _
        have hSv7 := hSv1.trans (hb.mono hSv1.size)
        have hq : MA.Rg (v1.alloc (.cells #[.slice none 0 0] 31)) v1.heap.size 0 [.slice none 0 0] := MA.Rg.new _ _ _
        have hq0 : w2.heap.size ≤ v1.heap.size := hSv1.size
        replace hx := hx.below hb
        refine ⟨hSv7, ?_⟩
        clear hb
        generalize v1.alloc (.cells #[.slice none 0 0] 31) = v7 at *
        generalize hqe : v1.heap.size = q at hq hq0 ⊢
        refine MR.callH (i := 3) (some 30) (13) (#[.agg b.cs.toArray]) (by kernel_rfl) rfl rfl (MR.free rfl) (by simp [execOp, MR.ev, MR.size, hsz, e2, f2, e3, f3, go_sem]) ?_
        refine Calls.mono (TB.out _) ?_
        rintro e v8 ⟨rfl, hb⟩
        have hSv8 : Below w2.heap.size w2 v8 := hSv7.trans (hb.mono hSv7.size)
        replace hx := hx.below hb
        replace hq := hq.below hb hq.lt
        clear hb
        refine ⟨_, rfl, hSv8, ?_⟩
        refine MR.callH (i := 4) (some 31) (11) (#[.agg #[.slice (some ⟨gx, 0, none⟩) xs.length xs.length], .agg b.cs.toArray]) (by kernel_rfl) rfl rfl (MR.free rfl) (by simp [execOp, MR.ev, MR.size, hsz, e2, f2, e3, f3, go_sem]) ?_
        refine Calls.mono (SGB.out gx _ hx) ?_
        rintro e v9 ⟨a1, c1, rfl, hy, hk, hb⟩
        have hSv9 : Below w2.heap.size w2 v9 := hSv8.trans (hb.mono hSv8.size)
        have hnq : ys = [] ∨ ∀ p, a1 = some p → p.block ≠ q := hk.imp id fun hk p hp => by have h1 := hk p hp; have h2 := hq.lt; omega
        replace hq := hq.below hb hq.lt
        clear hb
        refine ⟨_, rfl, hSv9, ?_⟩
        refine MR.takeH (i := 5) (some 26) ((.tuple #[.agg #[.slice a1 ys.length c1], .bool R])) rfl rfl (by kernel_rfl) (by kernel_rfl) (by kernel_rfl) nofun hSv9 (MR.free rfl) (fun wq hw => by simp [execOp, MR.ev, MR.size, hsz, e2, f2, e3, f3, go_sem]) ?_
        refine MR.takeH (i := 6) (some 32) ((.agg #[.slice a1 ys.length c1])) rfl rfl (by kernel_rfl) (by kernel_rfl) (by kernel_rfl) nofun hSv9 (MR.free rfl) (fun wq hw => by simp [execOp, MR.ev, MR.size, hsz, e2, f2, e3, f3, go_sem]) ?_
        refine MR.takeH (i := 7) (some 33) ((.bool R)) rfl rfl (by kernel_rfl) (by kernel_rfl) (by kernel_rfl) nofun hSv9 (MR.free rfl) (fun wq hw => by simp [execOp, MR.ev, MR.size, hsz, e2, f2, e3, f3, go_sem]) ?_
        have hSz : Below w2.heap.size w2 (v9.setCells q 0 [.slice a1 ys.length c1]) := MA.below_cells hq0 _ _ _ hSv9
        refine MR.storeH (i := 9) (by kernel_rfl) rfl (MR.free rfl) (MA.ex_store (vs := [.slice a1 ys.length c1]) rfl (by simp [MR.ev, MR.size, hsz, e2, f2, e3, f3]) (by simp [MR.ev, MR.size, hsz, e2, f2, e3, f3]) hq.ok Try.sizePileLA rfl (by simp [Value.oneCell'])) ⟨hSz, ?_⟩
        refine MR.takeH (i := 10) (some 7) (.bool R) rfl rfl (by kernel_rfl) (by kernel_rfl) (by kernel_rfl) nofun hSz (MR.free rfl) (fun wq hw => by simp [execOp, MR.ev, MR.size, hsz, e2, f2, e3, f3, go_sem]) ?_
        refine wpAnyH_done (by kernel_rfl) ⟨rfl, gx, a1, c1, q, ?_, ⟨hSz, hq0, hq.put rfl, bs_only ((MC.Only.refl q v9).setCell 0 _) hy hnq⟩⟩ _
        rw [HA.out]
        simp only [Act.put, List.setIfInBounds_toArray, List.set_cons_succ, List.set_cons_zero]
        try rfl
    · skip
      refine MR.nowW (some 6) (.pointer (some ⟨v0.heap.size, 0, none⟩)) rfl rfl (MR.free rfl) (MR.ex_alloc _ rfl [.slice none 0 0] 1 Try.infoPileLA) ?_
      have hb : Below v0.heap.size v0 (v0.alloc (.cells #[.slice none 0 0] 31)) := (Below.refl _ v0).alloc (Nat.le_refl _) _
      have hSv10 := hS.trans (hb.mono hS.size)
      have hq : MA.Rg (v0.alloc (.cells #[.slice none 0 0] 31)) v0.heap.size 0 [.slice none 0 0] := MA.Rg.new _ _ _
      have hq0 : w2.heap.size ≤ v0.heap.size := hS.size
      refine ⟨hSv10, ?_⟩
      clear hb
      generalize v0.alloc (.cells #[.slice none 0 0] 31) = v10 at *
      generalize hqe : v0.heap.size = q at hq hq0 ⊢
      refine MR.callH (i := 1) (some 28) (12) (#[.agg #[.slice a xs.length cap]]) (by kernel_rfl) rfl rfl (MR.free rfl) (by simp [execOp, MR.ev, MR.size, hsz, e2, f2, e3, f3, go_sem]) ?_
      refine Calls.mono (TP.out _ (HL.out.row.below hSv10)) ?_
      rintro e v11 ⟨gx, rfl, ho, hb⟩
      have hSv11 : Below w2.heap.size w2 v11 := hSv10.trans (hb.mono hSv10.size)
      have hx : MP.BsAt v11 (some ⟨gx, 0, none⟩) xs := MP.BsAt.of_own ho
      replace hq := hq.below hb hq.lt
      clear hb
      refine ⟨_, rfl, hSv11, ?_⟩
      refine MR.callH (i := 3) (some 30) (13) (#[.agg b.cs.toArray]) (by kernel_rfl) rfl rfl (MR.free rfl) (by simp [execOp, MR.ev, MR.size, hsz, e2, f2, e3, f3, go_sem]) ?_
      refine Calls.mono (TB.out _) ?_
      rintro e v12 ⟨rfl, hb⟩
      have hSv12 : Below w2.heap.size w2 v12 := hSv11.trans (hb.mono hSv11.size)
      replace hx := hx.below hb
      replace hq := hq.below hb hq.lt
      clear hb
      refine ⟨_, rfl, hSv12, ?_⟩
      refine MR.callH (i := 4) (some 31) (11) (#[.agg #[.slice (some ⟨gx, 0, none⟩) xs.length xs.length], .agg b.cs.toArray]) (by kernel_rfl) rfl rfl (MR.free rfl) (by simp [execOp, MR.ev, MR.size, hsz, e2, f2, e3, f3, go_sem]) ?_
      refine Calls.mono (SGB.out gx _ hx) ?_
      rintro e v13 ⟨a1, c1, rfl, hy, hk, hb⟩
      have hSv13 : Below w2.heap.size w2 v13 := hSv12.trans (hb.mono hSv12.size)
      have hnq : ys = [] ∨ ∀ p, a1 = some p → p.block ≠ q := hk.imp id fun hk p hp => by have h1 := hk p hp; have h2 := hq.lt; omega
      replace hq := hq.below hb hq.lt
      clear hb
      refine ⟨_, rfl, hSv13, ?_⟩
      refine MR.takeH (i := 5) (some 26) ((.tuple #[.agg #[.slice a1 ys.length c1], .bool R])) rfl rfl (by kernel_rfl) (by kernel_rfl) (by kernel_rfl) nofun hSv13 (MR.free rfl) (fun wq hw => by simp [execOp, MR.ev, MR.size, hsz, e2, f2, e3, f3, go_sem]) ?_
      refine MR.takeH (i := 6) (some 32) ((.agg #[.slice a1 ys.length c1])) rfl rfl (by kernel_rfl) (by kernel_rfl) (by kernel_rfl) nofun hSv13 (MR.free rfl) (fun wq hw => by simp [execOp, MR.ev, MR.size, hsz, e2, f2, e3, f3, go_sem]) ?_
      refine MR.takeH (i := 7) (some 33) ((.bool R)) rfl rfl (by kernel_rfl) (by kernel_rfl) (by kernel_rfl) nofun hSv13 (MR.free rfl) (fun wq hw => by simp [execOp, MR.ev, MR.size, hsz, e2, f2, e3, f3, go_sem]) ?_
      have hSz : Below w2.heap.size w2 (v13.setCells q 0 [.slice a1 ys.length c1]) := MA.below_cells hq0 _ _ _ hSv13
      refine MR.storeH (i := 9) (by kernel_rfl) rfl (MR.free rfl) (MA.ex_store (vs := [.slice a1 ys.length c1]) rfl (by simp [MR.ev, MR.size, hsz, e2, f2, e3, f3]) (by simp [MR.ev, MR.size, hsz, e2, f2, e3, f3]) hq.ok Try.sizePileLA rfl (by simp [Value.oneCell'])) ⟨hSz, ?_⟩
      refine MR.takeH (i := 10) (some 7) (.bool R) rfl rfl (by kernel_rfl) (by kernel_rfl) (by kernel_rfl) nofun hSz (MR.free rfl) (fun wq hw => by simp [execOp, MR.ev, MR.size, hsz, e2, f2, e3, f3, go_sem]) ?_
      refine wpAnyH_done (by kernel_rfl) ⟨rfl, gx, a1, c1, q, ?_, ⟨hSz, hq0, hq.put rfl, bs_only ((MC.Only.refl q v13).setCell 0 _) hy hnq⟩⟩ _
      rw [HA.out]
      simp only [Act.put, List.setIfInBounds_toArray, List.set_cons_succ, List.set_cons_zero]
      try rfl
  rintro aa w3 ⟨gx, a1, c1, q, rfl, hf⟩
  rw [HA.out]
  obtain ⟨hb3, hq0, hq, hy⟩ := hf.out
  replace HL : Hid _ := HL.out.kept hb3
  have HQ : Hid (w.heap.size + 1 < q ∧ MA.Rg w3 q 0 [.slice a1 ys.length c1] ∧ MP.BsAt w3 a1 ys) := ⟨Nat.lt_of_lt_of_le l1 hq0, hq, hy⟩
  clear hf hb3 hq0 hq hy HA e2 e3 f2 f3 hsz HA3 c0 l0 l1 SG SGB
  simp only [Act.put, List.setIfInBounds_toArray, List.set_cons_succ, List.set_cons_zero]
  have c0 := CB.c_of HL.out.pb (j := 0) (v := .slice a xs.length cap) rfl
  have l0 := HL.out.pb.lt
  generalize q = p0 at *
  go_wp2_with fail
  refine (TP.out _ HL.out.row).mono ?_
  rintro e w4 ⟨g2, rfl, ho, hb4⟩
  replace HL : Hid _ := HL.out.kept hb4
  have hQ3 : p0 < w3.heap.size := HQ.out.2.1.lt
  have hA3 : ys = [] ∨ ∀ p, a1 = some p → p.block < w3.heap.size := by
    rcases HQ.out.2.2 with h | ⟨b', off', rfl, hlt, _⟩
    · exact .inl h
    · exact .inr fun p hp => by cases hp; exact hlt
  replace HQ : Hid (w.heap.size + 1 < p0 ∧ MA.Rg w4 p0 0 [.slice a1 ys.length c1] ∧ MP.BsAt w4 a1 ys) := ⟨HQ.out.1, HQ.out.2.1.below hb4 HQ.out.2.1.lt, HQ.out.2.2.below hb4⟩
  have hG2 := (ho.lt g2 rfl)
  have HR2 : Hid (MA.Rg w4 g2 0 (MP.flat xs)) := MA.Rg.of_own ho
  have hw34 := hb4.size
  clear hb4 ho c0 l0
  have hal : Below w4.heap.size w4 (w4.alloc (.cells #[.slice (some ⟨g2, 0, none⟩) xs.length xs.length] 31)) := (Below.refl _ w4).alloc (Nat.le_refl _) _
  have HL5 : Hid _ := HL.out.kept hal
  have HQ5 : Hid (MA.Rg (w4.alloc (.cells #[.slice (some ⟨g2, 0, none⟩) xs.length xs.length] 31)) p0 0 [.slice a1 ys.length c1] ∧ MP.BsAt (w4.alloc (.cells #[.slice (some ⟨g2, 0, none⟩) xs.length xs.length] 31)) a1 ys ∧ MA.Rg (w4.alloc (.cells #[.slice (some ⟨g2, 0, none⟩) xs.length xs.length] 31)) g2 0 (MP.flat xs) ∧ MA.Rg (w4.alloc (.cells #[.slice (some ⟨g2, 0, none⟩) xs.length xs.length] 31)) w4.heap.size 0 [.slice (some ⟨g2, 0, none⟩) xs.length xs.length]) := ⟨HQ.out.2.1.below hal HQ.out.2.1.lt, HQ.out.2.2.below hal, HR2.out.below hal HR2.out.lt, MA.Rg.new _ _ _⟩
  have hs5 : (w4.alloc (.cells #[.slice (some ⟨g2, 0, none⟩) xs.length xs.length] 31)).heap.size = w4.heap.size + 1 := by simp
  have HS5 : Hid _ := hs5
  have HP0 : Hid _ := HQ.out.1
  clear hal HL HQ HR2 hs5
  go_wp2_with fail
  generalize hw5 : w4.alloc (.cells #[.slice (some ⟨g2, 0, none⟩) xs.length xs.length] 31) = w5 at *
  clear hw5
  generalize hp8 : w4.heap.size = p8 at *
  clear hp8
  have hs5 := HS5.out
  have c8 := CB.c_of HQ5.out.2.2.2 (j := 0) (v := .slice (some ⟨g2, 0, none⟩) xs.length xs.length) rfl
  have l8 := HQ5.out.2.2.2.lt
  have l1 := HL5.out.bb.lt
  have HA3 : Hid _ := HL5.out.bb.rng
  have HX5 : Hid (MP.BsAt w5 (some ⟨g2, 0, none⟩) xs) := bs_of_rg HQ5.out.2.2.1
  refine MR.frame fun A hA => ?_
  have hsz : A.tmps.size = 109 := by rw [hA]; rfl
  have e8 : A.eval (.tmp 8) = .pointer (some ⟨p8, 0, none⟩) := by rw [hA]; rfl
  have f8 := MR.read (t := 8) (by rw [hsz]; decide) e8
  have e3 : A.eval (.tmp 3) = .pointer (some ⟨w.heap.size + 1, 0, none⟩) := by rw [hA]; rfl
  have f3 := MR.read (t := 3) (by rw [hsz]; decide) e3
  have HA : Hid (A = _) := hA
  clear hA
  refine MR.cut (fun aa w' => ∃ a2 c2 g9 q, aa = (((((((((A.put (some 37) (.agg #[.slice (some ⟨g2, 0, none⟩) xs.length xs.length])).put (some 38) (.agg b.cs.toArray)).put (some 39) (.agg b.cs.toArray)).put (some 40) (.tuple #[.agg #[.slice a2 ys.length c2], .bool R])).put (some 36) (.tuple #[.agg #[.slice a2 ys.length c2], .bool R])).put (some 41) (.agg #[.slice a2 ys.length c2])).put (some 42) (.bool R)).put (some 9) (.pointer (some ⟨q, 0, none⟩))).put (some 10) (.bool R)) ∧ Hid (Below w5.heap.size w5 w' ∧ w5.heap.size ≤ q ∧ MA.Rg w' q 0 [.slice a2 ys.length c2] ∧ (ys.length = 0 ∨ (a2 = some ⟨g9, 0, none⟩ ∧ w5.heap.size ≤ g9 ∧ q ≠ g9 ∧ MA.Rg w' g9 0 (MP.flat ys))))) ?_ ?_
  · have hS : (fun w' : World => Below w5.heap.size w5 w') (World.drew _) := ((Below.refl _ w5).drew)
    refine wp_region_held (S := fun w' : World => Below w5.heap.size w5 w') (by kernel_rfl) ?_
    change wpAnyH _ _ _ _ _ _ _ _ (World.drew _)
    refine MR.takeH (i := 0) (some 37) ((.agg #[.slice (some ⟨g2, 0, none⟩) xs.length xs.length])) rfl rfl (by kernel_rfl) (by kernel_rfl) (by kernel_rfl) nofun hS (MR.free rfl) (fun wq hw => by simp [execOp, MR.ev, MR.size, hsz, e8, f8, e3, f3, (hw.cell (p := ⟨p8, 0, none⟩) l8).trans c8, go_sem]) ?_
    refine MR.takeH (i := 1) (some 38) ((.agg b.cs.toArray)) rfl rfl (by kernel_rfl) (by kernel_rfl) (by kernel_rfl) nofun hS (MR.free rfl) (fun wq hw => MA.ex_load rfl (by simp [MR.ev, MR.size, hsz, e8, f8, e3, f3]) (MA.range_below HA3.out hw l1) Try.underlying26 rfl Try.sizeBundleLA rfl) ?_
    generalize hwd : World.drew w5 = v0 at hS ⊢
    clear hwd
    refine MR.two (i := 2) (j := 7) (by kernel_rfl) ?_ ?_
    · skip
      refine MR.callW (some 39) (13) (#[.agg b.cs.toArray]) rfl rfl (MR.free rfl) (by simp [execOp, MR.ev, MR.size, hsz, e8, f8, e3, f3, go_sem]) ?_
      refine Calls.mono (TB.out _) ?_
      rintro e v1 ⟨rfl, hb⟩
      have hSv1 : Below w5.heap.size w5 v1 := hS.trans (hb.mono hS.size)
      clear hb
      refine ⟨_, rfl, hSv1, ?_⟩
      refine MR.two (i := 3) (j := 7) (by kernel_rfl) ?_ ?_
      · skip
        refine MR.callW (some 40) (14) (#[.agg #[.slice (some ⟨g2, 0, none⟩) xs.length xs.length], .agg b.cs.toArray]) rfl rfl (MR.free rfl) (by simp [execOp, MR.ev, MR.size, hsz, e8, f8, e3, f3, go_sem]) ?_
        refine Calls.mono (IG.out g2 _ (HX5.out.below hSv1)) ?_
        rintro e v2 ⟨a2, c2, g9, rfl, hg9, hr9, hb⟩
        have hSv2 : Below w5.heap.size w5 v2 := hSv1.trans (hb.mono hSv1.size)
        have hg5 : w5.heap.size ≤ g9 := Nat.le_trans hSv1.size hg9
        clear hb
        refine ⟨_, rfl, hSv2, ?_⟩
        refine MR.takeH (i := 4) (some 36) ((.tuple #[.agg #[.slice a2 ys.length c2], .bool R])) rfl rfl (by kernel_rfl) (by kernel_rfl) (by kernel_rfl) nofun hSv2 (MR.free rfl) (fun wq hw => by simp [execOp, MR.ev, MR.size, hsz, e8, f8, e3, f3, go_sem]) ?_
        refine MR.takeH (i := 5) (some 41) ((.agg #[.slice a2 ys.length c2])) rfl rfl (by kernel_rfl) (by kernel_rfl) (by kernel_rfl) nofun hSv2 (MR.free rfl) (fun wq hw => by simp [execOp, MR.ev, MR.size, hsz, e8, f8, e3, f3, go_sem]) ?_
        refine MR.takeH (i := 6) (some 42) ((.bool R)) rfl rfl (by kernel_rfl) (by kernel_rfl) (by kernel_rfl) nofun hSv2 (MR.free rfl) (fun wq hw => by simp [execOp, MR.ev, MR.size, hsz, e8, f8, e3, f3, go_sem]) ?_
        refine MR.nowH (i := 7) (some 9) (.pointer (some ⟨v2.heap.size, 0, none⟩)) (by kernel_rfl) rfl rfl (MR.free rfl) (MR.ex_alloc _ rfl [.slice none 0 0] 1 Try.infoPileLA) ?_
        have hb : Below v2.heap.size v2 (v2.alloc (.cells #[.slice none 0 0] 31)) := (Below.refl _ v2).alloc (Nat.le_refl _) _
        have hSv3 := hSv2.trans (hb.mono hSv2.size)
        have hq : MA.Rg (v2.alloc (.cells #[.slice none 0 0] 31)) v2.heap.size 0 [.slice none 0 0] := MA.Rg.new _ _ _
        have hq0 : w5.heap.size ≤ v2.heap.size := hSv2.size
        have hr8 : ys.length = 0 ∨ (a2 = some ⟨g9, 0, none⟩ ∧ v2.heap.size ≠ g9 ∧ MA.Rg (v2.alloc (.cells #[.slice none 0 0] 31)) g9 0 (MP.flat ys)) := hr9.imp id fun x => ⟨x.1, (by have h7 := x.2.lt; omega), x.2.below hb x.2.lt⟩
        refine ⟨hSv3, ?_⟩
        clear hb
        generalize v2.alloc (.cells #[.slice none 0 0] 31) = v3 at *
        generalize hqe : v2.heap.size = q at hq hq0 hr8 ⊢
        have hSz : Below w5.heap.size w5 (v3.setCells q 0 [.slice a2 ys.length c2]) := MA.below_cells hq0 _ _ _ hSv3
        refine MR.storeH (i := 8) (by kernel_rfl) rfl (MR.free rfl) (MA.ex_store (vs := [.slice a2 ys.length c2]) rfl (by simp [MR.ev, MR.size, hsz, e8, f8, e3, f3]) (by simp [MR.ev, MR.size, hsz, e8, f8, e3, f3]) hq.ok Try.sizePileLA rfl (by simp [Value.oneCell'])) ⟨hSz, ?_⟩
        refine MR.takeH (i := 9) (some 10) (.bool R) rfl rfl (by kernel_rfl) (by kernel_rfl) (by kernel_rfl) nofun hSz (MR.free rfl) (fun wq hw => by simp [execOp, MR.ev, MR.size, hsz, e8, f8, e3, f3, go_sem]) ?_
        refine wpAnyH_done (by kernel_rfl) ⟨rfl, a2, c2, g9, q, ?_, ⟨hSz, hq0, hq.put rfl, hr8.imp id fun x => ⟨x.1, hg5, x.2.1, rg_block x.2.2 (((MC.Only.refl q v3).setCell 0 _).block _ x.2.2.lt (fun e => x.2.1 e.symm))⟩⟩⟩ _
        rw [HA.out]
        simp only [Act.put, List.setIfInBounds_toArray, List.set_cons_succ, List.set_cons_zero]
        try rfl
      · skip
        refine MR.nowW (some 9) (.pointer (some ⟨v1.heap.size, 0, none⟩)) rfl rfl (MR.free rfl) (MR.ex_alloc _ rfl [.slice none 0 0] 1 Try.infoPileLA) ?_
        have hb : Below v1.heap.size v1 (v1.alloc (.cells #[.slice none 0 0] 31)) := (Below.refl _ v1).alloc (Nat.le_refl _) _
        have hSv4 := hSv1.trans (hb.mono hSv1.size)
        have hq : MA.Rg (v1.alloc (.cells #[.slice none 0 0] 31)) v1.heap.size 0 [.slice none 0 0] := MA.Rg.new _ _ _
        have hq0 : w5.heap.size ≤ v1.heap.size := hSv1.size
        refine ⟨hSv4, ?_⟩
        clear hb
        generalize v1.alloc (.cells #[.slice none 0 0] 31) = v4 at *
        generalize hqe : v1.heap.size = q at hq hq0 ⊢
        refine MR.callH (i := 3) (some 40) (14) (#[.agg #[.slice (some ⟨g2, 0, none⟩) xs.length xs.length], .agg b.cs.toArray]) (by kernel_rfl) rfl rfl (MR.free rfl) (by simp [execOp, MR.ev, MR.size, hsz, e8, f8, e3, f3, go_sem]) ?_
        refine Calls.mono (IG.out g2 _ (HX5.out.below hSv4)) ?_
        rintro e v5 ⟨a2, c2, g9, rfl, hg9, hr9, hb⟩
        have hSv5 : Below w5.heap.size w5 v5 := hSv4.trans (hb.mono hSv4.size)
        have hg5 : w5.heap.size ≤ g9 := Nat.le_trans hSv4.size hg9
        have hr8 : ys.length = 0 ∨ (a2 = some ⟨g9, 0, none⟩ ∧ q ≠ g9 ∧ MA.Rg v5 g9 0 (MP.flat ys)) := hr9.imp id fun x => ⟨x.1, (by have h7 := hq.lt; omega), x.2⟩
        replace hq := hq.below hb hq.lt
        clear hb
        refine ⟨_, rfl, hSv5, ?_⟩
        refine MR.takeH (i := 4) (some 36) ((.tuple #[.agg #[.slice a2 ys.length c2], .bool R])) rfl rfl (by kernel_rfl) (by kernel_rfl) (by kernel_rfl) nofun hSv5 (MR.free rfl) (fun wq hw => by simp [execOp, MR.ev, MR.size, hsz, e8, f8, e3, f3, go_sem]) ?_
        refine MR.takeH (i := 5) (some 41) ((.agg #[.slice a2 ys.length c2])) rfl rfl (by kernel_rfl) (by kernel_rfl) (by kernel_rfl) nofun hSv5 (MR.free rfl) (fun wq hw => by simp [execOp, MR.ev, MR.size, hsz, e8, f8, e3, f3, go_sem]) ?_
        refine MR.takeH (i := 6) (some 42) ((.bool R)) rfl rfl (by kernel_rfl) (by kernel_rfl) (by kernel_rfl) nofun hSv5 (MR.free rfl) (fun wq hw => by simp [execOp, MR.ev, MR.size, hsz, e8, f8, e3, f3, go_sem]) ?_
        have hSz : Below w5.heap.size w5 (v5.setCells q 0 [.slice a2 ys.length c2]) := MA.below_cells hq0 _ _ _ hSv5
        refine MR.storeH (i := 8) (by kernel_rfl) rfl (MR.free rfl) (MA.ex_store (vs := [.slice a2 ys.length c2]) rfl (by simp [MR.ev, MR.size, hsz, e8, f8, e3, f3]) (by simp [MR.ev, MR.size, hsz, e8, f8, e3, f3]) hq.ok Try.sizePileLA rfl (by simp [Value.oneCell'])) ⟨hSz, ?_⟩
        refine MR.takeH (i := 9) (some 10) (.bool R) rfl rfl (by kernel_rfl) (by kernel_rfl) (by kernel_rfl) nofun hSz (MR.free rfl) (fun wq hw => by simp [execOp, MR.ev, MR.size, hsz, e8, f8, e3, f3, go_sem]) ?_
        refine wpAnyH_done (by kernel_rfl) ⟨rfl, a2, c2, g9, q, ?_, ⟨hSz, hq0, hq.put rfl, hr8.imp id fun x => ⟨x.1, hg5, x.2.1, rg_block x.2.2 (((MC.Only.refl q v5).setCell 0 _).block _ x.2.2.lt (fun e => x.2.1 e.symm))⟩⟩⟩ _
        rw [HA.out]
        simp only [Act.put, List.setIfInBounds_toArray, List.set_cons_succ, List.set_cons_zero]
        try rfl
    · skip
      refine MR.nowW (some 9) (.pointer (some ⟨v0.heap.size, 0, none⟩)) rfl rfl (MR.free rfl) (MR.ex_alloc _ rfl [.slice none 0 0] 1 Try.infoPileLA) ?_
      have hb : Below v0.heap.size v0 (v0.alloc (.cells #[.slice none 0 0] 31)) := (Below.refl _ v0).alloc (Nat.le_refl _) _
      have hSv6 := hS.trans (hb.mono hS.size)
      have hq : MA.Rg (v0.alloc (.cells #[.slice none 0 0] 31)) v0.heap.size 0 [.slice none 0 0] := MA.Rg.new _ _ _
      have hq0 : w5.heap.size ≤ v0.heap.size := hS.size
      refine ⟨hSv6, ?_⟩
      clear hb
      generalize v0.alloc (.cells #[.slice none 0 0] 31) = v6 at *
      generalize hqe : v0.heap.size = q at hq hq0 ⊢
      refine MR.callH (i := 2) (some 39) (13) (#[.agg b.cs.toArray]) (by kernel_rfl) rfl rfl (MR.free rfl) (by simp [execOp, MR.ev, MR.size, hsz, e8, f8, e3, f3, go_sem]) ?_
      refine Calls.mono (TB.out _) ?_
      rintro e v7 ⟨rfl, hb⟩
      have hSv7 : Below w5.heap.size w5 v7 := hSv6.trans (hb.mono hSv6.size)
      replace hq := hq.below hb hq.lt
      clear hb
      refine ⟨_, rfl, hSv7, ?_⟩
      refine MR.callH (i := 3) (some 40) (14) (#[.agg #[.slice (some ⟨g2, 0, none⟩) xs.length xs.length], .agg b.cs.toArray]) (by kernel_rfl) rfl rfl (MR.free rfl) (by simp [execOp, MR.ev, MR.size, hsz, e8, f8, e3, f3, go_sem]) ?_
      refine Calls.mono (IG.out g2 _ (HX5.out.below hSv7)) ?_
      rintro e v8 ⟨a2, c2, g9, rfl, hg9, hr9, hb⟩
      have hSv8 : Below w5.heap.size w5 v8 := hSv7.trans (hb.mono hSv7.size)
      have hg5 : w5.heap.size ≤ g9 := Nat.le_trans hSv7.size hg9
      have hr8 : ys.length = 0 ∨ (a2 = some ⟨g9, 0, none⟩ ∧ q ≠ g9 ∧ MA.Rg v8 g9 0 (MP.flat ys)) := hr9.imp id fun x => ⟨x.1, (by have h7 := hq.lt; omega), x.2⟩
      replace hq := hq.below hb hq.lt
      clear hb
      refine ⟨_, rfl, hSv8, ?_⟩
      refine MR.takeH (i := 4) (some 36) ((.tuple #[.agg #[.slice a2 ys.length c2], .bool R])) rfl rfl (by kernel_rfl) (by kernel_rfl) (by kernel_rfl) nofun hSv8 (MR.free rfl) (fun wq hw => by simp [execOp, MR.ev, MR.size, hsz, e8, f8, e3, f3, go_sem]) ?_
      refine MR.takeH (i := 5) (some 41) ((.agg #[.slice a2 ys.length c2])) rfl rfl (by kernel_rfl) (by kernel_rfl) (by kernel_rfl) nofun hSv8 (MR.free rfl) (fun wq hw => by simp [execOp, MR.ev, MR.size, hsz, e8, f8, e3, f3, go_sem]) ?_
      refine MR.takeH (i := 6) (some 42) ((.bool R)) rfl rfl (by kernel_rfl) (by kernel_rfl) (by kernel_rfl) nofun hSv8 (MR.free rfl) (fun wq hw => by simp [execOp, MR.ev, MR.size, hsz, e8, f8, e3, f3, go_sem]) ?_
      have hSz : Below w5.heap.size w5 (v8.setCells q 0 [.slice a2 ys.length c2]) := MA.below_cells hq0 _ _ _ hSv8
      refine MR.storeH (i := 8) (by kernel_rfl) rfl (MR.free rfl) (MA.ex_store (vs := [.slice a2 ys.length c2]) rfl (by simp [MR.ev, MR.size, hsz, e8, f8, e3, f3]) (by simp [MR.ev, MR.size, hsz, e8, f8, e3, f3]) hq.ok Try.sizePileLA rfl (by simp [Value.oneCell'])) ⟨hSz, ?_⟩
      refine MR.takeH (i := 9) (some 10) (.bool R) rfl rfl (by kernel_rfl) (by kernel_rfl) (by kernel_rfl) nofun hSz (MR.free rfl) (fun wq hw => by simp [execOp, MR.ev, MR.size, hsz, e8, f8, e3, f3, go_sem]) ?_
      refine wpAnyH_done (by kernel_rfl) ⟨rfl, a2, c2, g9, q, ?_, ⟨hSz, hq0, hq.put rfl, hr8.imp id fun x => ⟨x.1, hg5, x.2.1, rg_block x.2.2 (((MC.Only.refl q v8).setCell 0 _).block _ x.2.2.lt (fun e => x.2.1 e.symm))⟩⟩⟩ _
      rw [HA.out]
      simp only [Act.put, List.setIfInBounds_toArray, List.set_cons_succ, List.set_cons_zero]
      try rfl
  rintro aa w6 ⟨a2, c2, g9, p9, rfl, hf⟩
  rw [HA.out]
  obtain ⟨hb6, hq0, hq, hr9⟩ := hf.out
  have hg2w : w.heap.size + 1 < g2 := by have := HP0.out; omega
  have HLB : Hid (LB w w6 a cap xs b ys p0 a1 c1 p8 g2 p9 a2 c2 g9 (MP.flat ys)) := by
    refine ⟨HL5.out.kept hb6, HQ5.out.1.below hb6 HQ5.out.1.lt, HQ5.out.2.1.below hb6, HQ5.out.2.2.2.below hb6 HQ5.out.2.2.2.lt, hq, hr9.imp id (fun x => ⟨x.1, x.2.2.2⟩), ⟨hg2w, by omega, by omega, by omega, hA3.imp id fun h p hp => by have := h p hp; omega⟩, ?_⟩
    refine hr9.imp id fun x => ?_
    have h7 := x.2.1
    exact ⟨by omega, by omega, by omega, x.2.2.1, by omega, hA3.imp id fun h p hp => by have := h p hp; omega⟩
  have HR8 : Hid (MA.Rg w6 g2 0 (MP.flat xs)) := HQ5.out.2.2.1.below hb6 HQ5.out.2.2.1.lt
  clear hf hb6 hq0 hq hr9 HA e8 e3 f8 f3 hsz HA3 c8 l8 l1 HX5 HL5 HQ5 HS5 hs5 HP0 hG2 hQ3 hA3 hw34 hg2w
  simp only [Act.put, List.setIfInBounds_toArray, List.set_cons_succ, List.set_cons_zero]
  have EQS : Hid (∀ (W : World) (m9 : List Value), LB w W a cap xs b ys p0 a1 c1 p8 g2 p9 a2 c2 g9 m9 → MP.BsAt W a2 ys → Calls Try.prog 15 #[.agg #[.slice a2 ys.length c2], .agg #[.slice a1 ys.length c1]] W fun e w' => e = .returned (.bool true) ∧ Below W.heap.size W w') := fun W m9 h h2 => eqPile_self a2 a1 c2 c1 ys W (by omega) h2 h.r0
  have BS9 : Hid (∀ W : World, LB w W a cap xs b ys p0 a1 c1 p8 g2 p9 a2 c2 g9 (MP.flat ys) → MP.BsAt W a2 ys) := fun W h => by
    rcases h.r9 with h0 | ⟨rfl, hr⟩
    · exact .inl (List.length_eq_zero_iff.1 h0)
    · exact bs_of_rg hr
  have c9 := CB.c_of HLB.out.q9 (j := 0) (v := .slice a2 ys.length c2) rfl
  have d0 := CB.c_of HLB.out.q0 (j := 0) (v := .slice a1 ys.length c1) rfl
  have l9 := HLB.out.q9.lt
  have k0 := HLB.out.q0.lt
  go_wp2_with fail
  refine (EQS.out _ _ HLB.out (BS9.out _ HLB.out)).mono ?_
  rintro e w7 ⟨rfl, hb7⟩
  replace HLB : Hid (LB w w7 a cap xs b ys p0 a1 c1 p8 g2 p9 a2 c2 g9 (MP.flat ys)) := HLB.out.kept hb7
  replace HR8 : Hid (MA.Rg w7 g2 0 (MP.flat xs)) := HR8.out.below hb7 HR8.out.lt
  clear hb7 c9 d0 l9 k0
  have cx := CB.c_of HLB.out.q8 (j := 0) (v := .slice (some ⟨g2, 0, none⟩) xs.length xs.length) rfl
  have hq := HLB.out.q8.lt
  have ca := CB.c_of HLB.out.la.pb (j := 0) (v := .slice a xs.length cap) rfl
  have hwl := HLB.out.la.pb.lt
  have EQ : Hid _ := fun g3 W h1 h2 => eqPile_self (some ⟨g2, 0, none⟩) (some ⟨g3, 0, none⟩) xs.length xs.length xs W hn h1 h2
  go_wp2
  refine MR.frame fun A hA => ?_
  have hsz : A.tmps.size = 109 := by rw [hA]; rfl
  have e2 : A.eval (.tmp 2) = .pointer (some ⟨w.heap.size, 0, none⟩) := by rw [hA]; rfl
  have f2 := MR.read (t := 2) (by rw [hsz]; decide) e2
  have e8 : A.eval (.tmp 8) = .pointer (some ⟨p8, 0, none⟩) := by rw [hA]; rfl
  have f8 := MR.read (t := 8) (by rw [hsz]; decide) e8
  have HA : Hid (A = _) := hA
  clear hA
  have hS : (fun w' : World => Below w7.heap.size w7 w') (World.drew _) := ((Below.refl _ w7).drew)
  refine wp_region_held (S := fun w' : World => Below w7.heap.size w7 w') (by kernel_rfl) ?_
  change wpAnyH _ _ _ _ _ _ _ _ (World.drew _)
  refine MR.takeH (i := 0) (some 52) (.agg #[.slice (some ⟨g2, 0, none⟩) xs.length xs.length]) rfl rfl (by kernel_rfl) (by kernel_rfl) (by kernel_rfl) (fun _ _ _ h => h) hS (MR.free rfl) (fun wq hw => by simp [execOp, MR.ev, MR.size, hsz, e2, f2, e8, f8, (hw.cell (p := ⟨p8, 0, none⟩) hq).trans cx, go_sem]) ?_
  refine MR.takeH (i := 1) (some 53) (.agg #[.slice a xs.length cap]) rfl rfl (by kernel_rfl) (by kernel_rfl) (by kernel_rfl) (fun _ _ _ h => h) hS (MR.free rfl) (fun wq hw => by simp [execOp, MR.ev, MR.size, hsz, e2, f2, e8, f8, (hw.cell (p := ⟨w.heap.size, 0, none⟩) hwl).trans ca, go_sem]) ?_
  refine MR.callH (i := 2) (some 54) (12) (#[.agg #[.slice a xs.length cap]]) (by kernel_rfl) rfl rfl (MR.free rfl) (by simp [execOp, MR.ev, MR.size, hsz, e2, f2, e8, f8, go_sem]) ?_
  refine Calls.mono (TP.out _ (HLB.out.la.row.below hS)) ?_
  rintro e w8 ⟨g3, rfl, ho3, hb8⟩
  have hS8 : Below w7.heap.size w7 w8 := hS.trans (hb8.mono hS.size)
  have hx3 : MP.BsAt w8 (some ⟨g3, 0, none⟩) xs := MP.BsAt.of_own ho3
  refine ⟨_, rfl, hS8, ?_⟩
  refine MR.callH (i := 3) (some 55) (15) (#[.agg #[.slice (some ⟨g2, 0, none⟩) xs.length xs.length], .agg #[.slice (some ⟨g3, 0, none⟩) xs.length xs.length]]) (by kernel_rfl) rfl rfl (MR.free rfl) (by simp [execOp, MR.ev, MR.size, hsz, e2, f2, e8, f8, go_sem]) ?_
  refine Calls.mono (EQ.out g3 _ ((bs_of_rg HR8.out).below hS8) hx3) ?_
  rintro e w9 ⟨rfl, hb9⟩
  have hS9 : Below w7.heap.size w7 w9 := hS8.trans (hb9.mono hS8.size)
  refine ⟨_, rfl, hS9, ?_⟩
  refine MR.takeH (i := 4) (some 56) (.bool false) rfl rfl (by kernel_rfl) (by kernel_rfl) (by kernel_rfl) (fun _ _ _ h => h) hS9 (MR.free rfl) (fun wq hw => by simp [execOp, MR.ev, MR.size, hsz, e2, f2, e8, f8, go_sem]) ?_
  refine wpAnyH_done (by kernel_rfl) ?_ _
  rw [HA.out]
  replace HLB : Hid (LB w w9 a cap xs b ys p0 a1 c1 p8 g2 p9 a2 c2 g9 (MP.flat ys)) := HLB.out.kept hS9
  replace HR8 : Hid (MA.Rg w9 g2 0 (MP.flat xs)) := HR8.out.below hS9 HR8.out.lt
  clear hS hS8 hS9 hb8 hb9 HA e2 e8 f2 f8 hsz EQ ca cx hx3 ho3 hq hwl
  simp only [Act.put, List.setIfInBounds_toArray, List.set_cons_succ, List.set_cons_zero]
  have cx := CB.c_of HLB.out.q8 (j := 0) (v := .slice (some ⟨g2, 0, none⟩) xs.length xs.length) rfl
  have hq := HLB.out.q8.lt
  go_wp2_with fail
  refine (markPile_only g2 xs.length 1 (MP.flat xs) _ hn (by omega) (MP.flat_len xs) HR8.out).mono ?_
  rintro e wA ⟨rfl, hO⟩
  replace HLB : Hid (LB w wA a cap xs b ys p0 a1 c1 p8 g2 p9 a2 c2 g9 (MP.flat ys)) := HLB.out.mark2 HIN.out hO
  clear hO HR8 cx hq
  have c9 := CB.c_of HLB.out.q9 (j := 0) (v := .slice a2 ys.length c2) rfl
  have d0 := CB.c_of HLB.out.q0 (j := 0) (v := .slice a1 ys.length c1) rfl
  have l9 := HLB.out.q9.lt
  have k0 := HLB.out.q0.lt
  go_wp2_with fail
  refine (EQS.out _ _ HLB.out (BS9.out _ HLB.out)).mono ?_
  rintro e wB ⟨rfl, hbB⟩
  replace HLB : Hid (LB w wB a cap xs b ys p0 a1 c1 p8 g2 p9 a2 c2 g9 (MP.flat ys)) := HLB.out.kept hbB
  clear hbB c9 d0 l9 k0 BS9 EQS
  have c9 := CB.c_of HLB.out.q9 (j := 0) (v := .slice a2 ys.length c2) rfl
  have l9 := HLB.out.q9.lt
  have MK : Hid (Calls Try.prog 16 #[.agg #[.slice a2 ys.length c2], .int .i64 ((1 : Nat) : Int)] wB fun e w' => e = .returned (.int .i64 ((1 + 10 * ys.length : Nat) : Int)) ∧ LB w w' a cap xs b ys p0 a1 c1 p8 g2 p9 a2 c2 g9 (MP.flat (mks 1 ys.length))) := by
    show Calls _ _ _ _ _
    have hL := HLB.out
    rcases hL.r9 with h0 | ⟨hae, hr⟩
    · refine (markPile_any a2 wB.heap.size ys.length c2 1 (MP.flat ys) wB (by omega) (by omega) (MP.flat_len ys) (.inl h0)).mono ?_
      rintro e w' ⟨rfl, hO, _⟩
      have hk := hL.kept (⟨hO.os, hO.tape, hO.output, hO.size, fun k hk => hO.block k hk (by omega)⟩ : Below wB.heap.size wB w')
      exact ⟨rfl, ⟨hk.la, hk.q0, hk.r0, hk.q8, hk.q9, .inl h0, hk.n2, hk.n9⟩⟩
    · rcases hL.n9 with h0 | ⟨k1, k2, k3, k4, k5, k6⟩
      · refine (markPile_any a2 wB.heap.size ys.length c2 1 (MP.flat ys) wB (by omega) (by omega) (MP.flat_len ys) (.inl h0)).mono ?_
        rintro e w' ⟨rfl, hO, _⟩
        have hk := hL.kept (⟨hO.os, hO.tape, hO.output, hO.size, fun k hk => hO.block k hk (by omega)⟩ : Below wB.heap.size wB w')
        exact ⟨rfl, ⟨hk.la, hk.q0, hk.r0, hk.q8, hk.q9, .inl h0, hk.n2, hk.n9⟩⟩
      · refine (markPile_any a2 g9 ys.length c2 1 (MP.flat ys) wB (by omega) (by omega) (MP.flat_len ys) (.inr ⟨hae, hr⟩)).mono ?_
        rintro e w' ⟨rfl, hO, hr'⟩
        exact ⟨rfl, hL.only HIN.out hO k1 k2 k3 k4 k6 (hr'.imp id fun x => ⟨hae, x⟩)⟩
  go_wp2_with fail
  refine Calls.mono MK.out ?_
  rintro e wC ⟨rfl, hLC⟩
  replace HLB : Hid (LB w wC a cap xs b ys p0 a1 c1 p8 g2 p9 a2 c2 g9 (MP.flat (mks 1 ys.length))) := hLC
  clear hLC MK c9 l9
  have HLD : Hid (∀ W : World, LB w W a cap xs b ys p0 a1 c1 p8 g2 p9 a2 c2 g9 (MP.flat (mks 1 ys.length)) → Calls Try.prog 17 #[.agg #[.slice a2 ys.length c2], .int .i64 ((1 : Nat) : Int)] W fun e w' => e = .returned (.int .i64 ((1 + 10 * ys.length : Nat) : Int)) ∧ Below W.heap.size W w') := fun W h => heldPile_any a2 g9 ys.length c2 1 W (by omega) (by omega) h.r9
  have c9 := CB.c_of HLB.out.q9 (j := 0) (v := .slice a2 ys.length c2) rfl
  have l9 := HLB.out.q9.lt
  go_wp2_with fail
  refine (HLD.out _ HLB.out).mono ?_
  rintro e wD ⟨rfl, hbD⟩
  replace HLB : Hid (LB w wD a cap xs b ys p0 a1 c1 p8 g2 p9 a2 c2 g9 (MP.flat (mks 1 ys.length))) := HLB.out.kept hbD
  clear hbD c9 l9
  have HLA : Hid (LaIn w wD a cap xs b) := HLB.out.la
  have c0 := CB.c_of HLA.out.pb (j := 0) (v := .slice a xs.length cap) rfl
  have l0 := HLA.out.pb.lt
  have l1 := HLA.out.bb.lt
  have HA3 : Hid _ := HLA.out.bb.rng
  go_wp2_with fail
  refine MR.frame fun A hA => ?_
  have hsz : A.tmps.size = 109 := by rw [hA]; rfl
  have e2 : A.eval (.tmp 2) = .pointer (some ⟨w.heap.size, 0, none⟩) := by rw [hA]; rfl
  have f2 := MR.read (t := 2) (by rw [hsz]; decide) e2
  have e3 : A.eval (.tmp 3) = .pointer (some ⟨w.heap.size + 1, 0, none⟩) := by rw [hA]; rfl
  have f3 := MR.read (t := 3) (by rw [hsz]; decide) e3
  have HA : Hid (A = _) := hA
  clear hA
  refine MR.cut (fun aa w' => ∃ gx a3 c3 q, aa = ((((((((((A.put (some 85) (.agg #[.slice a xs.length cap])).put (some 87) (.agg b.cs.toArray)).put (some 86) (.agg #[.slice (some ⟨gx, 0, none⟩) xs.length xs.length])).put (some 88) (.agg b.cs.toArray)).put (some 89) (.tuple #[.agg #[.slice a3 ys.length c3], .bool R])).put (some 84) (.tuple #[.agg #[.slice a3 ys.length c3], .bool R])).put (some 90) (.agg #[.slice a3 ys.length c3])).put (some 91) (.bool R)).put (some 14) (.pointer (some ⟨q, 0, none⟩))).put (some 15) (.bool R)) ∧ Hid (Below wD.heap.size wD w' ∧ wD.heap.size ≤ q ∧ MA.Rg w' q 0 [.slice a3 ys.length c3] ∧ MP.BsAt w' a3 ys)) ?_ ?_
  · have hS : (fun w' : World => Below wD.heap.size wD w') (World.drew _) := ((Below.refl _ wD).drew)
    refine wp_region_held (S := fun w' : World => Below wD.heap.size wD w') (by kernel_rfl) ?_
    change wpAnyH _ _ _ _ _ _ _ _ (World.drew _)
    refine MR.takeH (i := 0) (some 85) ((.agg #[.slice a xs.length cap])) rfl rfl (by kernel_rfl) (by kernel_rfl) (by kernel_rfl) nofun hS (MR.free rfl) (fun wq hw => by simp [execOp, MR.ev, MR.size, hsz, e2, f2, e3, f3, (hw.cell (p := ⟨w.heap.size, 0, none⟩) l0).trans c0, go_sem]) ?_
    refine MR.takeH (i := 2) (some 87) ((.agg b.cs.toArray)) rfl rfl (by kernel_rfl) (by kernel_rfl) (by kernel_rfl) nofun hS (MR.free rfl) (fun wq hw => MA.ex_load rfl (by simp [MR.ev, MR.size, hsz, e2, f2, e3, f3]) (MA.range_below HA3.out hw l1) Try.underlying26 rfl Try.sizeBundleLA rfl) ?_
    generalize hwd : World.drew wD = v0 at hS ⊢
    clear hwd
    refine MR.two (i := 1) (j := 8) (by kernel_rfl) ?_ ?_
    · skip
      refine MR.callW (some 86) (12) (#[.agg #[.slice a xs.length cap]]) rfl rfl (MR.free rfl) (by simp [execOp, MR.ev, MR.size, hsz, e2, f2, e3, f3, go_sem]) ?_
      refine Calls.mono (TP.out _ (HLA.out.row.below hS)) ?_
      rintro e v1 ⟨gx, rfl, ho, hb⟩
      have hSv1 : Below wD.heap.size wD v1 := hS.trans (hb.mono hS.size)
      have hx : MP.BsAt v1 (some ⟨gx, 0, none⟩) xs := MP.BsAt.of_own ho
      clear hb
      refine ⟨_, rfl, hSv1, ?_⟩
      refine MR.two (i := 3) (j := 8) (by kernel_rfl) ?_ ?_
      · skip
        refine MR.callW (some 88) (13) (#[.agg b.cs.toArray]) rfl rfl (MR.free rfl) (by simp [execOp, MR.ev, MR.size, hsz, e2, f2, e3, f3, go_sem]) ?_
        refine Calls.mono (TB.out _) ?_
        rintro e v2 ⟨rfl, hb⟩
        have hSv2 : Below wD.heap.size wD v2 := hSv1.trans (hb.mono hSv1.size)
        replace hx := hx.below hb
        clear hb
        refine ⟨_, rfl, hSv2, ?_⟩
        refine MR.two (i := 4) (j := 8) (by kernel_rfl) ?_ ?_
        · skip
          refine MR.callW (some 89) (14) (#[.agg #[.slice (some ⟨gx, 0, none⟩) xs.length xs.length], .agg b.cs.toArray]) rfl rfl (MR.free rfl) (by simp [execOp, MR.ev, MR.size, hsz, e2, f2, e3, f3, go_sem]) ?_
          refine Calls.mono (IGB.out gx _ hx) ?_
          rintro e v3 ⟨a3, c3, rfl, hy, hk, hb⟩
          have hSv3 : Below wD.heap.size wD v3 := hSv2.trans (hb.mono hSv2.size)
          clear hb
          refine ⟨_, rfl, hSv3, ?_⟩
          refine MR.takeH (i := 5) (some 84) ((.tuple #[.agg #[.slice a3 ys.length c3], .bool R])) rfl rfl (by kernel_rfl) (by kernel_rfl) (by kernel_rfl) nofun hSv3 (MR.free rfl) (fun wq hw => by simp [execOp, MR.ev, MR.size, hsz, e2, f2, e3, f3, go_sem]) ?_
          refine MR.takeH (i := 6) (some 90) ((.agg #[.slice a3 ys.length c3])) rfl rfl (by kernel_rfl) (by kernel_rfl) (by kernel_rfl) nofun hSv3 (MR.free rfl) (fun wq hw => by simp [execOp, MR.ev, MR.size, hsz, e2, f2, e3, f3, go_sem]) ?_
          refine MR.takeH (i := 7) (some 91) ((.bool R)) rfl rfl (by kernel_rfl) (by kernel_rfl) (by kernel_rfl) nofun hSv3 (MR.free rfl) (fun wq hw => by simp [execOp, MR.ev, MR.size, hsz, e2, f2, e3, f3, go_sem]) ?_
          refine MR.nowH (i := 8) (some 14) (.pointer (some ⟨v3.heap.size, 0, none⟩)) (by kernel_rfl) rfl rfl (MR.free rfl) (MR.ex_alloc _ rfl [.slice none 0 0] 1 Try.infoPileLA) ?_
          have hb : Below v3.heap.size v3 (v3.alloc (.cells #[.slice none 0 0] 31)) := (Below.refl _ v3).alloc (Nat.le_refl _) _
          have hSv4 := hSv3.trans (hb.mono hSv3.size)
          have hq : MA.Rg (v3.alloc (.cells #[.slice none 0 0] 31)) v3.heap.size 0 [.slice none 0 0] := MA.Rg.new _ _ _
          have hq0 : wD.heap.size ≤ v3.heap.size := hSv3.size
          have hnq : ys = [] ∨ ∀ p, a3 = some p → p.block ≠ v3.heap.size := bs_lt hy
          replace hy := hy.below hb
          refine ⟨hSv4, ?_⟩
          clear hb
          generalize v3.alloc (.cells #[.slice none 0 0] 31) = v4 at *
          generalize hqe : v3.heap.size = q at hq hq0 hnq ⊢
          have hSz : Below wD.heap.size wD (v4.setCells q 0 [.slice a3 ys.length c3]) := MA.below_cells hq0 _ _ _ hSv4
          refine MR.storeH (i := 9) (by kernel_rfl) rfl (MR.free rfl) (MA.ex_store (vs := [.slice a3 ys.length c3]) rfl (by simp [MR.ev, MR.size, hsz, e2, f2, e3, f3]) (by simp [MR.ev, MR.size, hsz, e2, f2, e3, f3]) hq.ok Try.sizePileLA rfl (by simp [Value.oneCell'])) ⟨hSz, ?_⟩
          refine MR.takeH (i := 10) (some 15) (.bool R) rfl rfl (by kernel_rfl) (by kernel_rfl) (by kernel_rfl) nofun hSz (MR.free rfl) (fun wq hw => by simp [execOp, MR.ev, MR.size, hsz, e2, f2, e3, f3, go_sem]) ?_
          refine wpAnyH_done (by kernel_rfl) ⟨rfl, gx, a3, c3, q, ?_, ⟨hSz, hq0, hq.put rfl, bs_only ((MC.Only.refl q v4).setCell 0 _) hy hnq⟩⟩ _
          rw [HA.out]
          simp only [Act.put, List.setIfInBounds_toArray, List.set_cons_succ, List.set_cons_zero]
          try rfl
        · skip
          refine MR.nowW (some 14) (.pointer (some ⟨v2.heap.size, 0, none⟩)) rfl rfl (MR.free rfl) (MR.ex_alloc _ rfl [.slice none 0 0] 1 Try.infoPileLA) ?_
          have hb : Below v2.heap.size v2 (v2.alloc (.cells #[.slice none 0 0] 31)) := (Below.refl _ v2).alloc (Nat.le_refl _) _
          have hSv5 := hSv2.trans (hb.mono hSv2.size)
          have hq : MA.Rg (v2.alloc (.cells #[.slice none 0 0] 31)) v2.heap.size 0 [.slice none 0 0] := MA.Rg.new _ _ _
          have hq0 : wD.heap.size ≤ v2.heap.size := hSv2.size
          replace hx := hx.below hb
          refine ⟨hSv5, ?_⟩
          clear hb
          generalize v2.alloc (.cells #[.slice none 0 0] 31) = v5 at *
          generalize hqe : v2.heap.size = q at hq hq0 ⊢
          refine MR.callH (i := 4) (some 89) (14) (#[.agg #[.slice (some ⟨gx, 0, none⟩) xs.length xs.length], .agg b.cs.toArray]) (by kernel_rfl) rfl rfl (MR.free rfl) (by simp [execOp, MR.ev, MR.size, hsz, e2, f2, e3, f3, go_sem]) ?_
          refine Calls.mono (IGB.out gx _ hx) ?_
          rintro e v6 ⟨a3, c3, rfl, hy, hk, hb⟩
          have hSv6 : Below wD.heap.size wD v6 := hSv5.trans (hb.mono hSv5.size)
          have hnq : ys = [] ∨ ∀ p, a3 = some p → p.block ≠ q := hk.imp id fun hk p hp => by have h1 := hk p hp; have h2 := hq.lt; omega
          replace hq := hq.below hb hq.lt
          clear hb
          refine ⟨_, rfl, hSv6, ?_⟩
          refine MR.takeH (i := 5) (some 84) ((.tuple #[.agg #[.slice a3 ys.length c3], .bool R])) rfl rfl (by kernel_rfl) (by kernel_rfl) (by kernel_rfl) nofun hSv6 (MR.free rfl) (fun wq hw => by simp [execOp, MR.ev, MR.size, hsz, e2, f2, e3, f3, go_sem]) ?_
          refine MR.takeH (i := 6) (some 90) ((.agg #[.slice a3 ys.length c3])) rfl rfl (by kernel_rfl) (by kernel_rfl) (by kernel_rfl) nofun hSv6 (MR.free rfl) (fun wq hw => by simp [execOp, MR.ev, MR.size, hsz, e2, f2, e3, f3, go_sem]) ?_
          refine MR.takeH (i := 7) (some 91) ((.bool R)) rfl rfl (by kernel_rfl) (by kernel_rfl) (by kernel_rfl) nofun hSv6 (MR.free rfl) (fun wq hw => by simp [execOp, MR.ev, MR.size, hsz, e2, f2, e3, f3, go_sem]) ?_
          have hSz : Below wD.heap.size wD (v6.setCells q 0 [.slice a3 ys.length c3]) := MA.below_cells hq0 _ _ _ hSv6
          refine MR.storeH (i := 9) (by kernel_rfl) rfl (MR.free rfl) (MA.ex_store (vs := [.slice a3 ys.length c3]) rfl (by simp [MR.ev, MR.size, hsz, e2, f2, e3, f3]) (by simp [MR.ev, MR.size, hsz, e2, f2, e3, f3]) hq.ok Try.sizePileLA rfl (by simp [Value.oneCell'])) ⟨hSz, ?_⟩
          refine MR.takeH (i := 10) (some 15) (.bool R) rfl rfl (by kernel_rfl) (by kernel_rfl) (by kernel_rfl) nofun hSz (MR.free rfl) (fun wq hw => by simp [execOp, MR.ev, MR.size, hsz, e2, f2, e3, f3, go_sem]) ?_
          refine wpAnyH_done (by kernel_rfl) ⟨rfl, gx, a3, c3, q, ?_, ⟨hSz, hq0, hq.put rfl, bs_only ((MC.Only.refl q v6).setCell 0 _) hy hnq⟩⟩ _
          rw [HA.out]
          simp only [Act.put, List.setIfInBounds_toArray, List.set_cons_succ, List.set_cons_zero]
          try rfl
      · skip
        refine MR.nowW (some 14) (.pointer (some ⟨v1.heap.size, 0, none⟩)) rfl rfl (MR.free rfl) (MR.ex_alloc _ rfl [.slice none 0 0] 1 Try.infoPileLA) ?_
        have hb : Below v1.heap.size v1 (v1.alloc (.cells #[.slice none 0 0] 31)) := (Below.refl _ v1).alloc (Nat.le_refl _) _
        have hSv7 := hSv1.trans (hb.mono hSv1.size)
        have hq : MA.Rg (v1.alloc (.cells #[.slice none 0 0] 31)) v1.heap.size 0 [.slice none 0 0] := MA.Rg.new _ _ _
        have hq0 : wD.heap.size ≤ v1.heap.size := hSv1.size
        replace hx := hx.below hb
        refine ⟨hSv7, ?_⟩
        clear hb
        generalize v1.alloc (.cells #[.slice none 0 0] 31) = v7 at *
        generalize hqe : v1.heap.size = q at hq hq0 ⊢
        refine MR.callH (i := 3) (some 88) (13) (#[.agg b.cs.toArray]) (by kernel_rfl) rfl rfl (MR.free rfl) (by simp [execOp, MR.ev, MR.size, hsz, e2, f2, e3, f3, go_sem]) ?_
        refine Calls.mono (TB.out _) ?_
        rintro e v8 ⟨rfl, hb⟩
        have hSv8 : Below wD.heap.size wD v8 := hSv7.trans (hb.mono hSv7.size)
        replace hx := hx.below hb
        replace hq := hq.below hb hq.lt
        clear hb
        refine ⟨_, rfl, hSv8, ?_⟩
        refine MR.callH (i := 4) (some 89) (14) (#[.agg #[.slice (some ⟨gx, 0, none⟩) xs.length xs.length], .agg b.cs.toArray]) (by kernel_rfl) rfl rfl (MR.free rfl) (by simp [execOp, MR.ev, MR.size, hsz, e2, f2, e3, f3, go_sem]) ?_
        refine Calls.mono (IGB.out gx _ hx) ?_
        rintro e v9 ⟨a3, c3, rfl, hy, hk, hb⟩
        have hSv9 : Below wD.heap.size wD v9 := hSv8.trans (hb.mono hSv8.size)
        have hnq : ys = [] ∨ ∀ p, a3 = some p → p.block ≠ q := hk.imp id fun hk p hp => by have h1 := hk p hp; have h2 := hq.lt; omega
        replace hq := hq.below hb hq.lt
        clear hb
        refine ⟨_, rfl, hSv9, ?_⟩
        refine MR.takeH (i := 5) (some 84) ((.tuple #[.agg #[.slice a3 ys.length c3], .bool R])) rfl rfl (by kernel_rfl) (by kernel_rfl) (by kernel_rfl) nofun hSv9 (MR.free rfl) (fun wq hw => by simp [execOp, MR.ev, MR.size, hsz, e2, f2, e3, f3, go_sem]) ?_
        refine MR.takeH (i := 6) (some 90) ((.agg #[.slice a3 ys.length c3])) rfl rfl (by kernel_rfl) (by kernel_rfl) (by kernel_rfl) nofun hSv9 (MR.free rfl) (fun wq hw => by simp [execOp, MR.ev, MR.size, hsz, e2, f2, e3, f3, go_sem]) ?_
        refine MR.takeH (i := 7) (some 91) ((.bool R)) rfl rfl (by kernel_rfl) (by kernel_rfl) (by kernel_rfl) nofun hSv9 (MR.free rfl) (fun wq hw => by simp [execOp, MR.ev, MR.size, hsz, e2, f2, e3, f3, go_sem]) ?_
        have hSz : Below wD.heap.size wD (v9.setCells q 0 [.slice a3 ys.length c3]) := MA.below_cells hq0 _ _ _ hSv9
        refine MR.storeH (i := 9) (by kernel_rfl) rfl (MR.free rfl) (MA.ex_store (vs := [.slice a3 ys.length c3]) rfl (by simp [MR.ev, MR.size, hsz, e2, f2, e3, f3]) (by simp [MR.ev, MR.size, hsz, e2, f2, e3, f3]) hq.ok Try.sizePileLA rfl (by simp [Value.oneCell'])) ⟨hSz, ?_⟩
        refine MR.takeH (i := 10) (some 15) (.bool R) rfl rfl (by kernel_rfl) (by kernel_rfl) (by kernel_rfl) nofun hSz (MR.free rfl) (fun wq hw => by simp [execOp, MR.ev, MR.size, hsz, e2, f2, e3, f3, go_sem]) ?_
        refine wpAnyH_done (by kernel_rfl) ⟨rfl, gx, a3, c3, q, ?_, ⟨hSz, hq0, hq.put rfl, bs_only ((MC.Only.refl q v9).setCell 0 _) hy hnq⟩⟩ _
        rw [HA.out]
        simp only [Act.put, List.setIfInBounds_toArray, List.set_cons_succ, List.set_cons_zero]
        try rfl
    · skip
      refine MR.nowW (some 14) (.pointer (some ⟨v0.heap.size, 0, none⟩)) rfl rfl (MR.free rfl) (MR.ex_alloc _ rfl [.slice none 0 0] 1 Try.infoPileLA) ?_
      have hb : Below v0.heap.size v0 (v0.alloc (.cells #[.slice none 0 0] 31)) := (Below.refl _ v0).alloc (Nat.le_refl _) _
      have hSv10 := hS.trans (hb.mono hS.size)
      have hq : MA.Rg (v0.alloc (.cells #[.slice none 0 0] 31)) v0.heap.size 0 [.slice none 0 0] := MA.Rg.new _ _ _
      have hq0 : wD.heap.size ≤ v0.heap.size := hS.size
      refine ⟨hSv10, ?_⟩
      clear hb
      generalize v0.alloc (.cells #[.slice none 0 0] 31) = v10 at *
      generalize hqe : v0.heap.size = q at hq hq0 ⊢
      refine MR.callH (i := 1) (some 86) (12) (#[.agg #[.slice a xs.length cap]]) (by kernel_rfl) rfl rfl (MR.free rfl) (by simp [execOp, MR.ev, MR.size, hsz, e2, f2, e3, f3, go_sem]) ?_
      refine Calls.mono (TP.out _ (HLA.out.row.below hSv10)) ?_
      rintro e v11 ⟨gx, rfl, ho, hb⟩
      have hSv11 : Below wD.heap.size wD v11 := hSv10.trans (hb.mono hSv10.size)
      have hx : MP.BsAt v11 (some ⟨gx, 0, none⟩) xs := MP.BsAt.of_own ho
      replace hq := hq.below hb hq.lt
      clear hb
      refine ⟨_, rfl, hSv11, ?_⟩
      refine MR.callH (i := 3) (some 88) (13) (#[.agg b.cs.toArray]) (by kernel_rfl) rfl rfl (MR.free rfl) (by simp [execOp, MR.ev, MR.size, hsz, e2, f2, e3, f3, go_sem]) ?_
      refine Calls.mono (TB.out _) ?_
      rintro e v12 ⟨rfl, hb⟩
      have hSv12 : Below wD.heap.size wD v12 := hSv11.trans (hb.mono hSv11.size)
      replace hx := hx.below hb
      replace hq := hq.below hb hq.lt
      clear hb
      refine ⟨_, rfl, hSv12, ?_⟩
      refine MR.callH (i := 4) (some 89) (14) (#[.agg #[.slice (some ⟨gx, 0, none⟩) xs.length xs.length], .agg b.cs.toArray]) (by kernel_rfl) rfl rfl (MR.free rfl) (by simp [execOp, MR.ev, MR.size, hsz, e2, f2, e3, f3, go_sem]) ?_
      refine Calls.mono (IGB.out gx _ hx) ?_
      rintro e v13 ⟨a3, c3, rfl, hy, hk, hb⟩
      have hSv13 : Below wD.heap.size wD v13 := hSv12.trans (hb.mono hSv12.size)
      have hnq : ys = [] ∨ ∀ p, a3 = some p → p.block ≠ q := hk.imp id fun hk p hp => by have h1 := hk p hp; have h2 := hq.lt; omega
      replace hq := hq.below hb hq.lt
      clear hb
      refine ⟨_, rfl, hSv13, ?_⟩
      refine MR.takeH (i := 5) (some 84) ((.tuple #[.agg #[.slice a3 ys.length c3], .bool R])) rfl rfl (by kernel_rfl) (by kernel_rfl) (by kernel_rfl) nofun hSv13 (MR.free rfl) (fun wq hw => by simp [execOp, MR.ev, MR.size, hsz, e2, f2, e3, f3, go_sem]) ?_
      refine MR.takeH (i := 6) (some 90) ((.agg #[.slice a3 ys.length c3])) rfl rfl (by kernel_rfl) (by kernel_rfl) (by kernel_rfl) nofun hSv13 (MR.free rfl) (fun wq hw => by simp [execOp, MR.ev, MR.size, hsz, e2, f2, e3, f3, go_sem]) ?_
      refine MR.takeH (i := 7) (some 91) ((.bool R)) rfl rfl (by kernel_rfl) (by kernel_rfl) (by kernel_rfl) nofun hSv13 (MR.free rfl) (fun wq hw => by simp [execOp, MR.ev, MR.size, hsz, e2, f2, e3, f3, go_sem]) ?_
      have hSz : Below wD.heap.size wD (v13.setCells q 0 [.slice a3 ys.length c3]) := MA.below_cells hq0 _ _ _ hSv13
      refine MR.storeH (i := 9) (by kernel_rfl) rfl (MR.free rfl) (MA.ex_store (vs := [.slice a3 ys.length c3]) rfl (by simp [MR.ev, MR.size, hsz, e2, f2, e3, f3]) (by simp [MR.ev, MR.size, hsz, e2, f2, e3, f3]) hq.ok Try.sizePileLA rfl (by simp [Value.oneCell'])) ⟨hSz, ?_⟩
      refine MR.takeH (i := 10) (some 15) (.bool R) rfl rfl (by kernel_rfl) (by kernel_rfl) (by kernel_rfl) nofun hSz (MR.free rfl) (fun wq hw => by simp [execOp, MR.ev, MR.size, hsz, e2, f2, e3, f3, go_sem]) ?_
      refine wpAnyH_done (by kernel_rfl) ⟨rfl, gx, a3, c3, q, ?_, ⟨hSz, hq0, hq.put rfl, bs_only ((MC.Only.refl q v13).setCell 0 _) hy hnq⟩⟩ _
      rw [HA.out]
      simp only [Act.put, List.setIfInBounds_toArray, List.set_cons_succ, List.set_cons_zero]
      try rfl
  rintro aa wE ⟨gx2, a3, c3, q3, rfl, hf⟩
  rw [HA.out]
  obtain ⟨hbE, hq0, hq, hy⟩ := hf.out
  replace HLB : Hid (LB w wE a cap xs b ys p0 a1 c1 p8 g2 p9 a2 c2 g9 (MP.flat (mks 1 ys.length))) := HLB.out.kept hbE
  have HQ3 : Hid (MA.Rg wE q3 0 [.slice a3 ys.length c3] ∧ MP.BsAt wE a3 ys) := ⟨hq, hy⟩
  clear hf hbE hq0 hq hy HA e2 e3 f2 f3 hsz HA3 c0 l0 l1 HLA IGB IG TP TB
  simp only [Act.put, List.setIfInBounds_toArray, List.set_cons_succ, List.set_cons_zero]
  have c9 := CB.c_of HQ3.out.1 (j := 0) (v := .slice a3 ys.length c3) rfl
  have d0 := CB.c_of HLB.out.q0 (j := 0) (v := .slice a1 ys.length c1) rfl
  have l9 := HQ3.out.1.lt
  have k0 := HLB.out.q0.lt
  go_wp2_with fail
  refine (eqPile_self a3 a1 c3 c1 ys wE (by omega) HQ3.out.2 HLB.out.r0).mono ?_
  rintro e wF ⟨rfl, hbF⟩
  replace HLB : Hid (LB w wF a cap xs b ys p0 a1 c1 p8 g2 p9 a2 c2 g9 (MP.flat (mks 1 ys.length))) := HLB.out.kept hbF
  clear hbF c9 d0 l9 k0 HQ3
  have c9 := CB.c_of HLB.out.q9 (j := 0) (v := .slice a2 ys.length c2) rfl
  have l9 := HLB.out.q9.lt
  go_wp2_with fail
  refine (HLD.out _ HLB.out).mono ?_
  rintro e wG ⟨rfl, hbG⟩
  have hBG : Below w.heap.size w wG := HLB.out.la.below.trans (hbG.mono HLB.out.la.below.size)
  clear hbG HLB HLD c9 l9
  go_wp2
  go_ret
  exact ⟨rfl, hBG⟩
end Go.Proofs.Ytjekofjhplhemaa
