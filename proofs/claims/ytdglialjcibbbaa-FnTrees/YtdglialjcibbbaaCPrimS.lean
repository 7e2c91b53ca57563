/- Prim of the specification. -/
import Derived.Test.YtdglialjcibbbaaRows
import Derived.Test.YtdglialjcibbbaaMPQ
import Derived.Test.YtdglialjcibbbaaCPut
import Derived.WalkKit
import Derived.WalkSpells
import Derived.WalkLawsBesides
import Derived.Outline
import Derived.Deep.QuietTactic
import Derived.BigQuiet
namespace Go.Proofs.Ytdglialjcibbbaa
open Go.RowKit
namespace EG
/-- Truth values of eight nodes in a row. -/
def bl (R : Nat → Bool) : List Value := (List.range 8).map fun i => Value.bool (R i)
theorem bl_get (R : Nat → Bool) {i : Nat} (h : i < 8) : (bl R)[i]? = some (.bool (R i)) := by simp [bl, h]
def pb (R : Nat → Bool) (j : Nat) : Nat → Bool := fun n => decide (n = j) || R n
theorem bl_set (R : Nat → Bool) {j : Nat} (h : j < 8) : (bl R).set j (.bool true) = bl (pb R j) := by
  refine List.ext_getElem? fun i => ?_
  rw [List.getElem?_set]
  have hl : (bl R).length = 8 := by simp [bl]
  by_cases hi : i < 8
  · rw [bl_get _ hi, bl_get _ hi]
    by_cases e : j = i
    · subst e; rw [if_pos rfl, if_pos (by omega)]; simp [pb]
    · rw [if_neg e]; simp [pb, Ne.symm e]
  · rw [List.getElem?_eq_none (by simp [bl]; omega), List.getElem?_eq_none (by simp [bl]; omega), if_neg (by omega)]
theorem bl_made : (madeCells #[Value.bool false] 8).toList = bl (fun _ => false) := by rw [toList_madeCells_one]; rfl
structure RS (base : Nat) (W : World) (g1 g2 : Nat) (v : Value) (R M : Nat → Bool) (os : List Int) : Prop where
  a : W.ownsRow base 4 1 (.slice (some ⟨g1, 0, none⟩) 8 8) 8 (bl R)
  b : W.ownsRow base 4 1 (.slice (some ⟨g2, 0, none⟩) 8 8) 8 (bl M)
  o : W.ownsRow base 3 1 v os.length (M4.iv os)
  ne : g1 ≠ g2
theorem ne_type {base g n c m : Nat} {W : World} {v : Value} {L L' : List Value} (h : W.ownsRow base 4 1 (.slice (some ⟨g, 0, none⟩) n c) n L) (h' : W.ownsRow base 3 1 v m L') : v.ownBlock ≠ some g := by
  rcases h.2 with ⟨e, _⟩ | ⟨g1, c1, cur, e, _, hg, _⟩
  · cases e
  · cases e
    rcases h'.2 with ⟨rfl, _⟩ | ⟨g2, c2, cur2, rfl, _, hg2, _⟩
    · intro e; cases e
    · intro e
      have : g2 = g := by simpa [Value.ownBlock] using e
      subst this
      rw [hg] at hg2
      simp at hg2
theorem RS.below {base : Nat} {W W' : World} {g1 g2 : Nat} {v : Value} {R M : Nat → Bool} {os : List Int} (h : RS base W g1 g2 v R M os) (hb : Below W.heap.size W W') : RS base W' g1 g2 v R M os := ⟨M5.own_below h.a hb, M5.own_below h.b hb, M5.own_below h.o hb, h.ne⟩
theorem RS.setA {base : Nat} {W : World} {g1 g2 : Nat} {v : Value} {R M : Nat → Bool} {os : List Int} (h : RS base W g1 g2 v R M os) {j : Nat} (hj : j < 8) : RS base (W.setCell ⟨g1, j, none⟩ (.bool true)) g1 g2 v (pb R j) M os := by
  have s := h.a.stored j (.bool true)
  rw [bl_set R hj] at s
  exact ⟨s.1, h.b.kept s.2 (.inr (by simp [Value.ownBlock]; exact h.ne.symm)), h.o.kept s.2 (.inr (ne_type h.a h.o)), h.ne⟩
theorem RS.setB {base : Nat} {W : World} {g1 g2 : Nat} {v : Value} {R M : Nat → Bool} {os : List Int} (h : RS base W g1 g2 v R M os) {j : Nat} (hj : j < 8) : RS base (W.setCell ⟨g2, j, none⟩ (.bool true)) g1 g2 v R (pb M j) os := by
  have s := h.b.stored j (.bool true)
  rw [bl_set M hj] at s
  exact ⟨h.a.kept s.2 (.inr (by simp [Value.ownBlock]; exact h.ne)), s.1, h.o.kept s.2 (.inr (ne_type h.b h.o)), h.ne⟩
theorem RS.out {base : Nat} {W W' : World} {g1 g2 : Nat} {v v' : Value} {R M : Nat → Bool} {os os' : List Int} (h : RS base W g1 g2 v R M os) (hb : Below W.heap.size W W') (hs : base ≤ W.heap.size) (ho : W'.ownsRow W.heap.size 3 1 v' os'.length (M4.iv os')) : RS base W' g1 g2 v' R M os' := ⟨M5.own_below h.a hb, M5.own_below h.b hb, own_base ho hs, h.ne⟩
theorem RS.cellB {base : Nat} {W : World} {g1 g2 : Nat} {v : Value} {R M : Nat → Bool} {os : List Int} (h : RS base W g1 g2 v R M os) {j : Nat} (hj : j < 8) : W.cell? ⟨g2, j, none⟩ = some (.bool (M j)) := by rw [h.b.cellAt j (by omega), bl_get M hj]
theorem RS.cellA {base : Nat} {W : World} {g1 g2 : Nat} {v : Value} {R M : Nat → Bool} {os : List Int} (h : RS base W g1 g2 v R M os) {j : Nat} (hj : j < 8) : W.cell? ⟨g1, j, none⟩ = some (.bool (R j)) := by rw [h.a.cellAt j (by omega), bl_get R hj]
theorem add_pb {xs : List I3} {M : Nat → Bool} {k x y : Nat} (h : en xs k = (x, y)) : pb (pb M x) y = add xs M k := by
  funext n; simp only [pb, add, h]
  cases decide (n = x) <;> cases decide (n = y) <;> cases M n <;> rfl
theorem uni_pb {xs : List I3} {D M : Nat → Bool} {k x y : Nat} (h : en xs k = (x, y)) : pb (pb (uni D M) x) y = uni D (add xs M k) := by
  funext n; simp only [pb, add, uni, h]
  cases decide (n = x) <;> cases decide (n = y) <;> cases M n <;> cases D n <;> rfl
theorem uni_single (D : Nat → Bool) (s : Nat) : pb D s = uni D (single s) := by
  funext n; simp only [pb, uni, single]; cases decide (n = s) <;> cases D n <;> rfl
theorem single_pb (s : Nat) : pb (fun _ => false) s = single s := by funext n; simp [pb, single]
def bI : Option Nat → Int
  | none => -1
  | some b => (b : Int)
theorem best_skip {xs : List I3} {M : Nat → Bool} {k : Nat} (h : crs xs M k = false) : bestUp xs M (k + 1) = bestUp xs M k := by rw [bestUp, if_neg (by simp [h])]
theorem best_keep {xs : List I3} {M : Nat → Bool} {k b : Nat} (hb : bestUp xs M k = some b) (h : ¬ cost xs k < cost xs b) : bestUp xs M (k + 1) = some b := by rw [bestUp, if_neg (by rw [hb]; simp [betr, h])]; exact hb
theorem best_new {xs : List I3} {M : Nat → Bool} {k : Nat} (h : crs xs M k = true) (hb : bestUp xs M k = none ∨ ∃ b, bestUp xs M k = some b ∧ cost xs k < cost xs b) : bestUp xs M (k + 1) = some k := by
  have h2 : betr xs k (bestUp xs M k) = true := by
    rcases hb with hb | ⟨b, hb, hc⟩
    · rw [hb]; rfl
    · rw [hb]; simp [betr, hc]
  rw [bestUp, if_pos ⟨h, h2⟩]
theorem best_lt {xs : List I3} {M : Nat → Bool} {n k : Nat} (h : bestUp xs M n = some k) : k < n := (best_is _ _ h).1
end EG
theorem info4b : (Try.prog.info? 4).map (fun i => (i.zero, i.size, i.bytes)) = some (some (.bool false), 1, 1) := by kernel_rfl
set_option linter.unusedSimpArgs false in
set_option maxHeartbeats 6400000 in
set_option maxRecDepth 100000 in
theorem specPrim_any (a : Option Addr) (ca : Nat) (xs : List I3) (w : World) (hn0 : xs.length ≤ 1048576) (hin : MI3.RowAt w a xs) :
    Calls Try.prog 22 #[.slice a xs.length ca] w fun e w' => ∃ a1 c1, e = .returned (.tuple #[.slice a1 (EG.primL xs).length c1, .int .i64 (EG.primC xs), .bool (EG.okP xs)]) ∧ w'.ownsRow w.heap.size 3 1 (.slice a1 (EG.primL xs).length c1) (EG.primL xs).length (M4.iv (EG.primL xs)) ∧ Below w.heap.size w w' := by
  obtain ⟨i1, ki, kz0, kz1, kz2⟩ := info_parts info4b
  have GP : Hid _ := specGoodEdges_any a ca xs w hn0 hin _ rfl
  have HI : Hid (MI3.RowAt w a xs) := hin
  clear hin
  go_enter Try.func22, Try.ntmps22
  go_wp2_with fail
  refine Calls.mono GP.out ?_
  rintro e w1 ⟨rfl, hb1⟩
  clear GP
  cases hg : EG.okP xs with
  | false =>
    have hC : Hid (EG.primL xs = []) := by show _ = _; simp [EG.primL, hg]
    have hD : Hid (EG.primC xs = 0) := by show _ = _; simp [EG.primC, hg]
    have HK : Hid _ := hg
    clear hg HI
    go_wp2
    go_ret3
    exact ⟨none, 0, by rw [hC.out, hD.out, HK.out]; rfl, by rw [hC.out]; exact World.ownsRow_nil _ _ _ _, hb1⟩
  | true =>
    have HG : Hid _ := hg
    have hlen := ((EG.okP_iff xs).1 hg).1
    have hC : Hid (EG.primL xs = (EG.tks (EG.outer xs 8).2).mergeSort (fun x y => decide (x ≤ y))) := by show _ = _; simp [EG.primL, hg]
    have hD : Hid (EG.primC xs = EG.sumUp xs (EG.primL xs) (EG.primL xs).length) := by show _ = _; simp [EG.primC, hg]
    clear hg
    go_wp2_with (at_make; refine wpList_make_full _ rfl _ _ 70 rfl w1.heap.size 4 i1 (.bool false) 1 Try.underlying70 ki kz0 kz1 .i64 .i64 _ _ 8 rfl rfl rfl rfl ?_ ?_ ?_ ?_)
    · rw [kz2]; omega
    · unfold maxLen; omega
    · omega
    intro w2 hown2 hg2
    rw [EG.bl_made] at hown2
    have B2 : Below w1.heap.size w1 w2 := (Below.refl _ w1).grown hg2 (Nat.le_refl _) (fun j hj => by cases hj)
    have HO2 : Hid _ := hown2
    have HO2' : Hid (w2.ownsRow w1.heap.size 4 1 (.slice (some ⟨w1.heap.size, 0, none⟩) 8 8) 8 (EG.bl (EG.outer xs 0).1)) := HO2.out
    have hgb : w1.heap.size ≤ w1.heap.size := Nat.le_refl _
    clear hown2 hg2 HO2
    go_wp2
    go_loopw [6, 7] (fun ov iv wr => ∃ (s : Nat) (os : List Int), iv = .int .i64 s ∧ s ≤ 8 ∧ Hid (wr.ownsRow w1.heap.size 4 1 (.slice (some ⟨w1.heap.size, 0, none⟩) 8 8) 8 (EG.bl (EG.outer xs s).1)) ∧ Hid (wr.ownsRow w1.heap.size 3 1 ov os.length (M4.iv os)) ∧ Hid (EG.Srt os (EG.outer xs s).2) ∧ Hid (EG.OInv xs (EG.outer xs s).1 (EG.outer xs s).2) ∧ Below w1.heap.size w1 wr) (fun _ iv _ => (8 - intOf iv).toNat)
    case atStart => exact ⟨0, [], rfl, by omega, HO2', show Hid _ from World.ownsRow_nil _ _ _ _, show Hid _ from EG.Srt.nil, show Hid _ from EG.OInv.start xs, B2⟩
    case round =>
      obtain ⟨s, os, rfl, hs, hRO, hOV, hSR, hOI, hb⟩ := hrel
      clear HO2' B2
      have hbs := hb.size
      by_cases hls : s < 8
      · have hc := World.ownsRow.cellAt hRO.out s (by omega)
        rw [EG.bl_get _ hls] at hc
        have hlg1 := (World.ownsRow.lt hRO.out w1.heap.size rfl).2
        cases hq : (EG.outer xs s).1 s with
        | true =>
          have HSK : Hid _ := EG.outer_skip hq
          rw [hq] at hc
          clear hq
          go_wp2
          go_roundw
          case rel => exact ⟨s + 1, os, by go_num, by omega, by rw [HSK.out]; exact hRO, hOV, by rw [HSK.out]; exact hSR, by rw [HSK.out]; exact hOI, hb⟩
          case measure => simp [intOf]; omega
        | false =>
          rw [hq] at hc
          have HQ : Hid _ := hq
          clear hq
          go_wp2_with (at_make; refine wpList_make_full _ rfl _ _ 70 rfl w1.heap.size 4 i1 (.bool false) 1 Try.underlying70 ki kz0 kz1 .i64 .i64 _ _ 8 rfl rfl rfl rfl ?_ ?_ ?_ ?_)
          · rw [kz2]; omega
          · unfold maxLen; omega
          · omega
          intro w3 hown3 hg3
          rw [EG.bl_made] at hown3
          have hg3b : Below wr.heap.size wr w3 := (Below.refl _ wr).grown hg3 (Nat.le_refl _) (fun j hj => by cases hj)
          have RS3 : EG.RS w1.heap.size w3 w1.heap.size wr.heap.size _ (EG.outer xs s).1 (fun _ => false) os := ⟨M5.own_below hRO.out hg3b, hown3, M5.own_below hOV.out hg3b, by omega⟩
          obtain ⟨g2, hg2⟩ : ∃ g2, wr.heap.size = g2 := ⟨_, rfl⟩
          have hg2b : w1.heap.size ≤ g2 := by omega
          rw [hg2] at RS3 ⊢
          have RS4 := RS3.setB hls
          have RS5 := RS4.setA hls
          rw [EG.single_pb, EG.uni_single] at RS5
          have f3 := RS3.b.frozenAt s
          have f4 := RS4.a.frozenAt s
          have k3 := RS3.cellB hls
          have k4 := RS4.cellA hls
          have l3 := (RS3.b.lt g2 rfl).2
          have l4 := (RS4.a.lt w1.heap.size rfl).2
          have B3 : Below w1.heap.size w1 w3 := hb.trans (hg3b.mono hbs)
          have B5 : Below w1.heap.size w1 ((w3.setCell ⟨g2, s, none⟩ (.bool true)).setCell ⟨w1.heap.size, s, none⟩ (.bool true)) := (B3.setCell (p := ⟨g2, s, none⟩) hg2b _).setCell (p := ⟨w1.heap.size, s, none⟩) hgb _
          have HRS5 : Hid _ := RS5
          have HB5 : Hid _ := B5
          have HGW : Hid _ := EG.Grow.start hOI.out HQ.out
          clear hown3 hg3 hg3b RS3 RS4 RS5 B3 B5 hRO hOV hb hOI hc hg2 hbs
          go_wp2
          go_loopw [6] (fun ov wr => ∃ (f : Nat) (M : Nat → Bool) (T : List Nat) (os : List Int), Hid (EG.RS w1.heap.size wr w1.heap.size g2 ov (EG.uni (EG.outer xs s).1 M) M os) ∧ Hid (EG.Grow xs s f M T) ∧ Hid (EG.Srt os T) ∧ Below w1.heap.size w1 wr) (fun ov _ => 25 - EG.lenV ov)
          case atStart => exact ⟨8, EG.single s, _, os, HRS5, HGW, hSR, HB5.out⟩
          case round =>
            clear HRS5 HGW hSR HB5 f3 f4 k3 k4 l3 l4 hlg1
            obtain ⟨f, M, T, os, hRS, hGW, hSR, hb⟩ := hrel
            have HIK : Hid (MI3.RowAt _ a xs) := HI.out.below (hb1.trans (hb.mono hb1.size))
            go_wp2
            go_loopw [9, 33] (fun bv iv wr2 => ∃ k : Nat, bv = .int .i64 (EG.bI (EG.bestUp xs M k)) ∧ iv = .int .i64 k ∧ k ≤ xs.length ∧ Below wr.heap.size wr wr2) (fun _ iv _ => (xs.length - intOf iv).toNat)
            case atStart => exact ⟨0, rfl, rfl, by omega, Below.refl _ _⟩
            case round =>
              have hRSw := hRS
              have hbw := hb
              have HIKw := HIK
              clear hRS hb HIK
              obtain ⟨k, rfl, rfl, hk, hbk⟩ := hrel
              by_cases hlk : k < xs.length
              · have hRS : Hid _ := hRSw.out.below hbk
                have HIK : Hid _ := HIKw.out.below hbk
                obtain ⟨b2, off2, hab, hlt2, c0, c1, c2⟩ := HIK.out.at hlk
                have G := EG.okP_good HG.out hlk
                obtain ⟨x, hx⟩ := Int.eq_ofNat_of_zero_le G.f0
                obtain ⟨y, hy⟩ := Int.eq_ofNat_of_zero_le G.t0
                have hx8 : x < 8 := by have := G.f1; omega
                have hy8 : y < 8 := by have := G.t1; omega
                have hcr : EG.crs xs M k = (M x != M y) := by unfold EG.crs EG.en; rw [hx, hy]; rfl
                rw [hx] at c0
                rw [hy] at c1
                have HZC : Hid (EG.cost xs k = (MI3.at_ xs k).a2) := rfl
                generalize (MI3.at_ xs k).a2 = zc at *
                have hbA : Below wr.heap.size wr (wr.alloc (.cells #[.int .i64 (x : Int), .int .i64 (y : Int), .int .i64 zc] 33)) := (Below.refl _ _).alloc (Nat.le_refl _) _
                have m0 := (hRS.out.below hbA).cellB hx8
                have m1 := (hRS.out.below hbA).cellB hy8
                have hlg2 := (hRS.out.b.lt g2 rfl).2
                have hb1k : k ≤ xs.length := hk
                have HBA : Hid _ := hbk.trans (hbA.mono hbk.size)
                have HCR : Hid _ := hcr
                subst hab
                clear G hx hy hcr hbA hbk hRS
                generalize M x = p at *
                generalize M y = q at *
                cases p with
                | false =>
                  cases q with
                  | false =>
                    have HN : Hid (EG.bestUp xs M (k + 1) = EG.bestUp xs M k) := EG.best_skip (HCR.out.trans rfl)
                    clear HCR hb1k
                    generalize EG.bestUp xs M k = bb at *
                    generalize hbi : EG.bI bb = bi at *
                    have HBI : Hid _ := hbi
                    clear hbi
                    go_wp2_with fail
                    go_quiet (fail)
                    have B5 := below_drewN HBA.out nq
                    clear HBA c0 c1 c2 m0 m1
                    generalize ((wr.alloc (.cells #[.int .i64 (x : Int), .int .i64 (y : Int), .int .i64 zc] 33)).drewN nq) = w5 at *
                    go_wp2
                    go_roundw
                    case rel => exact ⟨k + 1, by rw [HN.out, HBI.out], by go_num, by omega, B5⟩
                    case measure => simp [intOf]; omega
                  | true =>
                    cases hbb : EG.bestUp xs M k with
                    | none =>
                      have HN : Hid (EG.bestUp xs M (k + 1) = some k) := EG.best_new (HCR.out.trans rfl) (.inl hbb)
                      rw [show EG.bI none = -1 from rfl]
                      clear HCR hbb hb1k
                      go_wp2_with fail
                      go_quiet (fail)
                      have B5 := below_drewN HBA.out nq
                      clear HBA c0 c1 c2 m0 m1
                      generalize ((wr.alloc (.cells #[.int .i64 (x : Int), .int .i64 (y : Int), .int .i64 zc] 33)).drewN nq) = w5 at *
                      go_wp2
                      go_roundw
                      case rel => exact ⟨k + 1, by rw [HN.out]; rfl, by go_num, by omega, B5⟩
                      case measure => simp [intOf]; omega
                    | some b0 =>
                      have hb0 := EG.best_lt hbb
                      obtain ⟨b9, off9, hab9, hlt9, _, _, d2⟩ := HIK.out.at (show b0 < xs.length by omega)
                      have d2 := (Below.cell (p := ⟨b9, off9 + b0 * 3 + 2, none⟩) ((Below.refl _ wr).alloc (Nat.le_refl _) (.cells #[.int .i64 (x : Int), .int .i64 (y : Int), .int .i64 zc] 33)) hlt9).trans d2
                      cases hab9
                      rw [show (MI3.at_ xs b0).a2 = EG.cost xs b0 from rfl] at d2
                      rw [show EG.bI (some b0) = (b0 : Int) from rfl]
                      have hnn : decide ((b0 : Int) < 0) = false := by simp
                      by_cases hcc : zc < EG.cost xs b0
                      · have HN : Hid (EG.bestUp xs M (k + 1) = some k) := EG.best_new (HCR.out.trans rfl) (.inr ⟨b0, hbb, by rw [← HZC.out] at hcc; exact hcc⟩)
                        have hcc' : decide (zc < EG.cost xs b0) = true := decide_eq_true hcc
                        clear HCR hbb hb1k hcc HZC
                        generalize EG.cost xs b0 = cc at *
                        go_wp2_with fail
                        go_quiet (fail)
                        have B5 := below_drewN HBA.out nq
                        clear HBA c0 c1 c2 m0 m1 d2
                        generalize ((wr.alloc (.cells #[.int .i64 (x : Int), .int .i64 (y : Int), .int .i64 zc] 33)).drewN nq) = w5 at *
                        go_wp2
                        go_roundw
                        case rel => exact ⟨k + 1, by rw [HN.out]; rfl, by go_num, by omega, B5⟩
                        case measure => simp [intOf]; omega
                      · have HN : Hid (EG.bestUp xs M (k + 1) = some b0) := EG.best_keep hbb (by rw [← HZC.out] at hcc; exact hcc)
                        have hcc' : decide (zc < EG.cost xs b0) = false := decide_eq_false hcc
                        clear HCR hbb hb1k hcc HZC
                        generalize EG.cost xs b0 = cc at *
                        go_wp2_with fail
                        go_quiet (fail)
                        have B5 := below_drewN HBA.out nq
                        clear HBA c0 c1 c2 m0 m1 d2
                        generalize ((wr.alloc (.cells #[.int .i64 (x : Int), .int .i64 (y : Int), .int .i64 zc] 33)).drewN nq) = w5 at *
                        go_wp2
                        go_roundw
                        case rel => exact ⟨k + 1, by rw [HN.out]; rfl, by go_num, by omega, B5⟩
                        case measure => simp [intOf]; omega
                | true =>
                  cases q with
                  | false =>
                    cases hbb : EG.bestUp xs M k with
                    | none =>
                      have HN : Hid (EG.bestUp xs M (k + 1) = some k) := EG.best_new (HCR.out.trans rfl) (.inl hbb)
                      rw [show EG.bI none = -1 from rfl]
                      clear HCR hbb hb1k
                      go_wp2_with fail
                      go_quiet (fail)
                      have B5 := below_drewN HBA.out nq
                      clear HBA c0 c1 c2 m0 m1
                      generalize ((wr.alloc (.cells #[.int .i64 (x : Int), .int .i64 (y : Int), .int .i64 zc] 33)).drewN nq) = w5 at *
                      go_wp2
                      go_roundw
                      case rel => exact ⟨k + 1, by rw [HN.out]; rfl, by go_num, by omega, B5⟩
                      case measure => simp [intOf]; omega
                    | some b0 =>
                      have hb0 := EG.best_lt hbb
                      obtain ⟨b9, off9, hab9, hlt9, _, _, d2⟩ := HIK.out.at (show b0 < xs.length by omega)
                      have d2 := (Below.cell (p := ⟨b9, off9 + b0 * 3 + 2, none⟩) ((Below.refl _ wr).alloc (Nat.le_refl _) (.cells #[.int .i64 (x : Int), .int .i64 (y : Int), .int .i64 zc] 33)) hlt9).trans d2
                      cases hab9
                      rw [show (MI3.at_ xs b0).a2 = EG.cost xs b0 from rfl] at d2
                      rw [show EG.bI (some b0) = (b0 : Int) from rfl]
                      have hnn : decide ((b0 : Int) < 0) = false := by simp
                      by_cases hcc : zc < EG.cost xs b0
                      · have HN : Hid (EG.bestUp xs M (k + 1) = some k) := EG.best_new (HCR.out.trans rfl) (.inr ⟨b0, hbb, by rw [← HZC.out] at hcc; exact hcc⟩)
                        have hcc' : decide (zc < EG.cost xs b0) = true := decide_eq_true hcc
                        clear HCR hbb hb1k hcc HZC
                        generalize EG.cost xs b0 = cc at *
                        go_wp2_with fail
                        go_quiet (fail)
                        have B5 := below_drewN HBA.out nq
                        clear HBA c0 c1 c2 m0 m1 d2
                        generalize ((wr.alloc (.cells #[.int .i64 (x : Int), .int .i64 (y : Int), .int .i64 zc] 33)).drewN nq) = w5 at *
                        go_wp2
                        go_roundw
                        case rel => exact ⟨k + 1, by rw [HN.out]; rfl, by go_num, by omega, B5⟩
                        case measure => simp [intOf]; omega
                      · have HN : Hid (EG.bestUp xs M (k + 1) = some b0) := EG.best_keep hbb (by rw [← HZC.out] at hcc; exact hcc)
                        have hcc' : decide (zc < EG.cost xs b0) = false := decide_eq_false hcc
                        clear HCR hbb hb1k hcc HZC
                        generalize EG.cost xs b0 = cc at *
                        go_wp2_with fail
                        go_quiet (fail)
                        have B5 := below_drewN HBA.out nq
                        clear HBA c0 c1 c2 m0 m1 d2
                        generalize ((wr.alloc (.cells #[.int .i64 (x : Int), .int .i64 (y : Int), .int .i64 zc] 33)).drewN nq) = w5 at *
                        go_wp2
                        go_roundw
                        case rel => exact ⟨k + 1, by rw [HN.out]; rfl, by go_num, by omega, B5⟩
                        case measure => simp [intOf]; omega
                  | true =>
                    have HN : Hid (EG.bestUp xs M (k + 1) = EG.bestUp xs M k) := EG.best_skip (HCR.out.trans rfl)
                    clear HCR hb1k
                    generalize EG.bestUp xs M k = bb at *
                    generalize hbi : EG.bI bb = bi at *
                    have HBI : Hid _ := hbi
                    clear hbi
                    go_wp2_with fail
                    go_quiet (fail)
                    have B5 := below_drewN HBA.out nq
                    clear HBA c0 c1 c2 m0 m1
                    generalize ((wr.alloc (.cells #[.int .i64 (x : Int), .int .i64 (y : Int), .int .i64 zc] 33)).drewN nq) = w5 at *
                    go_wp2
                    go_roundw
                    case rel => exact ⟨k + 1, by rw [HN.out, HBI.out], by go_num, by omega, B5⟩
                    case measure => simp [intOf]; omega
              · obtain rfl : k = xs.length := by omega
                have hRS : Hid _ := hRSw.out.below hbk
                have hb4 : Below w1.heap.size w1 wr := hbw.trans (hbk.mono hbw.size)
                have hbs4 := hb4.size
                clear hRSw hbw HIKw hbk
                cases hbb : EG.bestUp xs M xs.length with
                | none =>
                  have HOT : Hid _ := EG.outer_take HQ.out hGW.out.rn hbb
                  have HFI : Hid _ := hGW.out.iv.finish hbb
                  rw [show EG.bI none = -1 from rfl]
                  clear hbb hGW HQ
                  go_wp2
                  go_roundw
                  case rel => exact ⟨s + 1, os, by go_num, by omega, by rw [HOT.out]; exact hRS.out.a, hRS.out.o, by rw [HOT.out]; exact hSR, by rw [HOT.out]; exact HFI, hb4⟩
                  case measure => simp [intOf]; omega
                | some m =>
                  have hml := EG.best_lt hbb
                  obtain ⟨gf, hGr⟩ := hGW.out.step HG.out hbb
                  have hnT := hGW.out.iv.new hbb
                  have hS2 := hSR.out.put m
                  have htl := hGr.iv.tl hlen
                  have hol := hSR.out.len
                  have hol2 := hS2.len
                  have hnot : (m : Int) ∉ os := fun hm => hnT (by
                    have := hSR.out.pm.mem_iff.1 hm
                    obtain ⟨j, hj, e⟩ := List.mem_map.1 this
                    have : j = m := by omega
                    exact this ▸ hj)
                  have htl0 := hGW.out.iv.tl hlen
                  have G := EG.okP_good HG.out hml
                  obtain ⟨x, hx⟩ := Int.eq_ofNat_of_zero_le G.f0
                  obtain ⟨y, hy⟩ := Int.eq_ofNat_of_zero_le G.t0
                  have hx8 : x < 8 := by have := G.f1; omega
                  have hy8 : y < 8 := by have := G.t1; omega
                  have hen : EG.en xs m = (x, y) := by unfold EG.en; rw [hx, hy]; rfl
                  obtain ⟨b2, off2, hab, hlt2, e0, e1, _⟩ := (HI.out.below (hb1.trans (hb4.mono hb1.size))).at hml
                  obtain ⟨b3, off3, hab3, hlt3, _, _, _⟩ := HI.out.at hml
                  have hb3 : b2 < w1.heap.size := by
                    have : b2 = b3 := congrArg Addr.block (Option.some.inj (hab.symm.trans hab3))
                    have := hb1.size; omega
                  rw [hx] at e0
                  rw [hy] at e1
                  have r1 := hRS.out.setB hx8
                  have r2 := r1.setB hy8
                  have r3 := r2.setA hx8
                  have r4 := r3.setA hy8
                  have f0 := hRS.out.b.frozenAt x
                  have f1 := r1.b.frozenAt y
                  have f2 := r2.a.frozenAt x
                  have f3 := r3.a.frozenAt y
                  have k0 := hRS.out.cellB hx8
                  have k1 := r1.cellB hy8
                  have k2 := r2.cellA hx8
                  have k3 := r3.cellA hy8
                  have l0 := (hRS.out.b.lt g2 rfl).2
                  have l1 := (r1.b.lt g2 rfl).2
                  have l2 := (r2.a.lt w1.heap.size rfl).2
                  have l3 := (r3.a.lt w1.heap.size rfl).2
                  rw [EG.uni_pb hen, EG.add_pb hen] at r4
                  have q1 : Below w1.heap.size w1 (wr.setCell ⟨g2, x, none⟩ (.bool true)) := hb4.setCell (p := ⟨g2, x, none⟩) hg2b _
                  have q2 := q1.setCell (p := ⟨g2, y, none⟩) hg2b (.bool true)
                  have q3 := q2.setCell (p := ⟨w1.heap.size, x, none⟩) hgb (.bool true)
                  have q4 := q3.setCell (p := ⟨w1.heap.size, y, none⟩) hgb (.bool true)
                  have ce : ∀ W, Below w1.heap.size w1 W → b2 < W.heap.size ∧ W.cell? ⟨b2, off2 + m * 3, none⟩ = some (.int .i64 (x : Int)) ∧ W.cell? ⟨b2, off2 + m * 3 + 1, none⟩ = some (.int .i64 (y : Int)) := fun W hW =>
                    ⟨Nat.lt_of_lt_of_le hb3 hW.size, (hW.cell (p := ⟨b2, off2 + m * 3, none⟩) hb3).trans ((hb4.cell (p := ⟨b2, off2 + m * 3, none⟩) hb3).symm.trans e0), (hW.cell (p := ⟨b2, off2 + m * 3 + 1, none⟩) hb3).trans ((hb4.cell (p := ⟨b2, off2 + m * 3 + 1, none⟩) hb3).symm.trans e1)⟩
                  obtain ⟨s1, u1, v1⟩ := ce _ q1
                  obtain ⟨s2, u2, v2⟩ := ce _ q2
                  obtain ⟨s3, u3, v3⟩ := ce _ q3
                  have hlt2' := hlt2
                  have HR4 : Hid _ := r4
                  have HQ4 : Hid _ := q4
                  have HGr : Hid _ := hGr
                  have HS2 : Hid _ := hS2
                  rw [show EG.bI (some m) = (m : Int) from rfl]
                  have hnn : decide ((m : Int) < 0) = false := by simp
                  generalize hM1 : M x = mx at *
                  generalize hM2 : EG.pb M x y = mxy at *
                  generalize hM3 : EG.uni (EG.outer xs s).1 M x = rx at *
                  generalize hM4 : EG.pb (EG.uni (EG.outer xs s).1 M) x y = rxy at *
                  clear hM1 hM2 hM3 hM4 r1 r2 r3 r4 q1 q2 q3 q4 ce hbb hGr hS2 G hx hy hen hnT hRS hb4 hab3
                  subst hab
                  go_wp2_with fail
                  have hs4 := HQ4.out.size
                  have LP : Hid _ := l7Put_any w1.heap.size _ os (m : Int) _ (by omega) hnot HR4.out.o
                  have hov := EG.own_len HR4.out.o
                  have HOV : Hid _ := hov
                  have HOL : Hid _ := hol
                  clear hol hol2 hov f0 f1 f2 f3 k0 k1 k2 k3 l0 l1 l2 l3 s1 s2 s3 u1 u2 u3 v1 v2 v3 e0 e1 hnot
                  generalize ((((wr.setCell ⟨g2, x, none⟩ (.bool true)).setCell ⟨g2, y, none⟩ (.bool true)).setCell ⟨w1.heap.size, x, none⟩ (.bool true)).setCell ⟨w1.heap.size, y, none⟩ (.bool true)) = w5 at *
                  refine Calls.mono LP.out ?_
                  rintro e w6 ⟨a6, c6, rfl, ho6, hb6⟩
                  have HR6 : Hid _ := HR4.out.out hb6 hs4 ho6
                  have B6 : Below w1.heap.size w1 w6 := HQ4.out.trans (hb6.mono hs4)
                  have HPL : Hid ((EG.putS os (m : Int)).length = os.length + 1) := by
                    show _ = _
                    have h1 := (EG.putS_perm os (m : Int)).length_eq
                    rw [h1]; simp
                  clear LP ho6 hb6 HR4 HQ4
                  generalize EG.putS os (m : Int) = os6 at *
                  go_wp2
                  go_roundw
                  case rel => exact ⟨gf, _, _, os6, HR6, HGr, HS2, B6⟩
                  case measure => simp only [EG.lenV] at *; have := HOV.out; have := HPL.out; have := HOL.out; omega
      · obtain rfl : s = 8 := by omega
        have htl := hOI.out.tl hlen
        have hol1 : os.length ≤ 1000 := by have := hSR.out.len; omega
        have HPL : Hid (EG.primL xs = os) := hC.out.trans hSR.out.is
        have HIR : Hid _ := hOI.out.inR hSR.out.pm
        obtain ⟨a3, c3, rfl, hI3⟩ := M5.own_view hOV.out
        have BW : Below w.heap.size w wr := hb1.trans (hb.mono hb1.size)
        have LC : Hid _ := l7Cost_any a a3 ca c3 xs os wr HG.out hol1 HIR.out (HI.out.below BW) hI3
        clear hC hOI hSR hRO HIR hI3
        go_wp2_with fail
        refine Calls.mono LC.out ?_
        rintro e w3 ⟨rfl, hb3⟩
        have HO3 : Hid _ := M5.own_below hOV.out hb3
        have B3 := BW.trans (hb3.mono BW.size)
        clear LC hb3 hOV
        go_wp2
        go_ret3
        refine ⟨a3, c3, ?_, by rw [HPL.out]; exact EG.own_base HO3.out hb1.size, B3⟩
        rw [hD.out, HPL.out, HG.out]; rfl
end Go.Proofs.Ytdglialjcibbbaa
