import Derived.Test.YtepgmmigacafeaaMRP
import Derived.Test.YtepgmmigacafeaaRows
import Derived.Test.YtepgmmigacafeaaCStackOf
import Derived.Test.YtepgmmigacafeaaCCovS
import Derived.WalkKit
import Derived.WalkSpells
import Derived.WalkLawsBesides
import Derived.Outline
import Derived.Test.YtepgmmigacafeaaCAddPile
import Derived.Test.YtepgmmigacafeaaCPiece
import Derived.Test.YtepgmmigacafeaaMPC
import Derived.Test.YtepgmmigacafeaaMRH
import Derived.Deep.RegionHeld3
import Derived.Test.YtepgmmigacafeaaM1
import Derived.Test.YtepgmmigacafeaaCFirst
import Derived.Test.YtepgmmigacafeaaCWholeS
import Derived.Test.YtepgmmigacafeaaCParcelBundle
import Derived.Test.YtepgmmigacafeaaMPP
import Derived.Test.YtepgmmigacafeaaCCutBS
import Derived.Test.YtepgmmigacafeaaCHas
import Derived.Test.YtepgmmigacafeaaMBX
import Derived.Test.YtepgmmigacafeaaMA2
import Derived.Test.YtepgmmigacafeaaCCutBD
import Derived.Test.YtepgmmigacafeaaCCutBI
import Derived.Test.YtepgmmigacafeaaCCutI
import Derived.Test.YtepgmmigacafeaaCMissI
import Derived.Test.YtepgmmigacafeaaCNumF
import Derived.Test.YtepgmmigacafeaaCSameP
import Derived.Test.YtepgmmigacafeaaCImplGoodB
import Derived.Deep.RegionWith
import Derived.Deep.DeepCutAuto
import Derived.Deep.QuietTactic
import Derived.BigQuiet
/- A region that draws, with a chain of calls and an alloc beside it: its goal under one letter. Plain facts, over whatever program. -/
namespace Go.Proofs.Ytepgmmigacafeaa
namespace MR
open Go.RowKit
theorem pack {P : Program} {md : Region.Mode} {ops : Array Oper} {Q : Exit → Act → World → Prop} {S : World → Prop} {fuel : Nat} {l : Array Bool} {a : Act} {w : World}
    (h : ∀ G : Nat → Array Bool → Act → World → Prop, G = wpAnyH P md ops Q S → G fuel l a w) : wpAnyH P md ops Q S fuel l a w := h _ rfl
theorem put_comm (a : Act) {d e : Nat} (u v : Value) (h : d ≠ e) : (a.put (some d) u).put (some e) v = (a.put (some e) v).put (some d) u := by
  simp only [Act.put]
  rw [Array.setIfInBounds_comm _ _ h]
theorem storeN {P : Program} {md : Region.Mode} {ops : Array Oper} {Q : Exit → Act → World → Prop} {S : World → Prop} {i : Nat} {w' : World} {o : Oper} {fuel : Nat} {listed : Array Bool} {a : Act} {w : World} (hr : Region.ready md ops listed = [i]) (hi : ops[i]? = some o) (hd : o.dst = none)
    (hw : Region.wanted o (yielded ops a.tmps) = true) (hx : (execOp a.eval o).run P w = .ok .skip w')
    (h : S w' ∧ wpAnyH P md ops Q S fuel (listed.setIfInBounds i true) a w') : wpAnyH P md ops Q S (fuel + 1) listed a w :=
  storeH hr hi hw hx (by rw [hd]; exact h)
end MR
end Go.Proofs.Ytepgmmigacafeaa

/- A region that draws where three operations are ready, or a store beside others. Plain facts, over whatever program. -/
namespace Go.Proofs.Ytepgmmigacafeaa
namespace MR
open Go.RowKit
variable {P : Program} {ops : Array Oper} {Q : Exit → Act → World → Prop}
theorem three {S : World → Prop} {md : Region.Mode} {fuel i j l : Nat} {listed : Array Bool} {a : Act} {w : World} (hr : Region.ready md ops listed = [i, j, l])
    (hi : wpOp P ops Q i (fun a' w' => S w' ∧ wpAnyH P md ops Q S fuel (listed.setIfInBounds i true) a' w') a w)
    (hj : wpOp P ops Q j (fun a' w' => S w' ∧ wpAnyH P md ops Q S fuel (listed.setIfInBounds j true) a' w') a w)
    (hl : wpOp P ops Q l (fun a' w' => S w' ∧ wpAnyH P md ops Q S fuel (listed.setIfInBounds l true) a' w') a w) : wpAnyH P md ops Q S (fuel + 1) listed a w := by
  refine wpAnyH_all hr (by simp) (fun x hx => ?_)
  simp only [List.mem_cons, List.not_mem_nil, or_false] at hx
  rcases hx with rfl | rfl | rfl
  · exact hi
  · exact hj
  · exact hl
theorem storeW {i : Nat} {w' : World} {o : Oper} {a : Act} {w : World} {K : Act → World → Prop} (hi : ops[i]? = some o) (hd : o.dst = none)
    (hw : Region.wanted o (yielded ops a.tmps) = true) (hx : (execOp a.eval o).run P w = .ok .skip w') (h : K a w') : wpOp P ops Q i K a w := by
  refine wpOp_step hi (fun K' hK => ?_)
  rw [if_pos hw]
  unfold Oper.wp
  rw [hx, Oper.upon_skip]
  exact hK _ _ (by rw [hd]; exact h)
end MR
end Go.Proofs.Ytepgmmigacafeaa

/- The program's Covered, at any pile. -/
namespace Go.Proofs.Ytepgmmigacafeaa
open Go.RowKit
theorem upOk_good' (xs : List Bd) : upOk xs = PL.good xs := PL.good_same xs
theorem upV_good {xs : List Bd} (v : Value) (h : PL.good xs = true) : upV xs v = stF v (PL.sh xs xs.length) := by
  unfold upV; rw [upOk_good', h]; rfl
theorem st_parts {W : World} {k : Nat} {v : Value} {s : PL.Sh} (h : MA.Rg W k 0 (stF v s)) : MA.Rg W k 1 (MA.tF s.th) ∧ MA.Rg W k 61 (MA.yF s.by_) ∧ MA.Rg W k 0 [v] := by
  have h1 := MA.Rg.app (xs := [v]) h
  have h2 := h1.2.sheet
  exact ⟨h2.1, h2.2, h1.1⟩
set_option linter.unusedSimpArgs false in
set_option maxHeartbeats 400000 in
set_option maxRecDepth 100000 in
theorem implCovered_any (a : Option Addr) (cap : Nat) (xs : List Bd) (w : World) (hn : xs.length ≤ 1048576) (ht : Hid (∀ k, k < xs.length → (MP.at_ xs k).py.size ≤ 1048576)) (hin : MP.BsAt w a xs) :
    Calls Try.prog 21 #[.agg #[.slice a xs.length cap]] w fun e w' => ∃ a1 c1, e = .returned (.tuple #[.slice a1 (covL xs).length c1, .bool (PL.good xs)]) ∧ w'.ownsRow w.heap.size 3 1 (.slice a1 (covL xs).length c1) (covL xs).length (M4.iv (covL xs)) ∧ Below w.heap.size w w' := by
  have SO : Hid _ := fun W h => stackOf_any a cap xs W hn ht h
  have hB : Below w.heap.size w (w.alloc (.cells #[.slice a xs.length cap] 31)) := (Below.refl _ w).alloc (Nat.le_refl _) _
  have HI : Hid (MP.BsAt (w.alloc (.cells #[.slice a xs.length cap] 31)) a xs) := hin.below hB
  go_enter Try.func21, Try.ntmps21
  go_wp2_with fail
  refine (SO.out _ HI.out).mono ?_
  rintro e w2 ⟨g, rfl, _, hb2⟩
  have hB2 := hB.trans (hb2.mono hB.size)
  clear SO HI hb2 hB
  rw [upOk_good']
  obtain ⟨L, hL⟩ : ∃ L, upV xs (.slice (some ⟨g, 0, none⟩) xs.length xs.length) = L := ⟨_, rfl⟩
  have HL : Hid _ := hL
  have HL1 : Hid (L.length = 121) := by rw [← hL]; exact upV_len _ _ _ _
  have HL2 : Hid (∀ v ∈ L, v.oneCell' = true) := by rw [← hL]; exact upV_one _ _ _ _
  rw [hL]
  clear hL
  have RN : Hid _ := MA.Rg.new w2 (stF (.slice none 0 0) PL.blank) 75
  have RP : Hid (MA.Rg (World.setCells (w2.alloc (.cells (stF (.slice none 0 0) PL.blank).toArray 75)) w2.heap.size 0 L) w2.heap.size 0 L) := RN.out.put (by rw [Z_len]; exact HL1.out)
  have HB : Hid (Below w.heap.size w (World.setCells (w2.alloc (.cells (stF (.slice none 0 0) PL.blank).toArray 75)) w2.heap.size 0 L)) := MA.below_cells (b := w2.heap.size) hB2.size L 0 _ (hB2.alloc hB2.size _)
  cases hg : PL.good xs with
  | false =>
    have hC : Hid _ := covL_no hg
    have HG : Hid _ := hg
    clear hg
    go_wp2_with (first
      | (refine MA.alloc_z rfl 75 rfl _ _ Try.infoStack' ?_; simp only [MA.sz_alloc])
      | (refine MA.store_m rfl 75 _ _ rfl rfl rfl (cs := stF (.slice none 0 0) PL.blank) ?_ Try.sizeStack Z_len HL1.out HL2.out ?_; exact RN.out; clear RN; generalize World.setCells _ _ _ _ = W3 at *))
    go_ret2
    exact ⟨none, 0, by rw [hC.out, HG.out]; rfl, by rw [hC.out]; exact World.ownsRow_nil _ _ _ _, HB.out⟩
  | true =>
    have hC : Hid _ := covL_yes hg
    have HG : Hid _ := hg
    have RT : Hid (MA.Rg (World.setCells (w2.alloc (.cells (stF (.slice none 0 0) PL.blank).toArray 75)) w2.heap.size 0 L) w2.heap.size 1 (MA.tF (PL.sh xs xs.length).th)) := by
      have := RP.out
      rw [← HL.out, upV_good _ hg] at this
      rw [← HL.out, upV_good _ hg]
      exact (st_parts this).1
    have PLC : Hid _ := fun W => places_any (PL.sh xs xs.length).th W
    clear hg RP HL
    go_wp2_with (first
      | (refine MA.alloc_z rfl 75 rfl _ _ Try.infoStack' ?_; simp only [MA.sz_alloc])
      | (refine MA.store_m rfl 75 _ _ rfl rfl rfl (cs := stF (.slice none 0 0) PL.blank) ?_ Try.sizeStack Z_len HL1.out HL2.out ?_; exact RN.out; clear RN; generalize World.setCells _ _ _ _ = W3 at *)
      | (refine MA.load_m rfl 69 _ rfl rfl (cs := MA.tF (PL.sh xs xs.length).th) ?_ Try.underlying69 rfl Try.sizeMarks (MA.tF_len _) ?_; exact RT.out))
    refine (PLC.out _).mono ?_
    rintro e w4 ⟨a1, c1, rfl, ho, hb4⟩
    have HO : Hid _ := ho
    have hB4 := HB.out.trans (hb4.mono HB.out.size)
    have hsz := HB.out.size
    clear PLC ho hb4
    go_wp2
    go_ret2
    have HO' := HO.out
    rw [← hC.out] at HO'
    exact ⟨a1, c1, by rw [hC.out, HG.out]; rfl, MA.own_base HO' hsz, hB4⟩
end Go.Proofs.Ytepgmmigacafeaa

/- A stack's parcels with one more (AddPiece). Laid by gen_addwith.py. -/
namespace Go.Proofs.Ytepgmmigacafeaa
open Go.RowKit
/-- What parcelsWith holds. -/
structure PwIn (w W : World) (v : Value) (x : Bd) : Prop where
  below : Below w.heap.size w W
  arg : W.cell? ⟨w.heap.size, 0, none⟩ = some v
  box : MA.Rg W (w.heap.size + 1) 0 x.cs
theorem PwIn.kept {w W W' : World} {v : Value} {x : Bd} (h : PwIn w W v x) (hb : Below W.heap.size W W') : PwIn w W' v x := by
  have := h.box.lt
  exact ⟨h.below.trans (hb.mono h.below.size), (hb.cell (p := ⟨w.heap.size, 0, none⟩) (by show w.heap.size < _; omega)).trans h.arg, h.box.below hb h.box.lt⟩
set_option maxRecDepth 100000 in
theorem Try.cutA (G n k : Nat) (hk : k < n) (W : World) : (Instr.sliceAt 67 (.slice (some ⟨G, 0, none⟩) (n + 1) (n + 1)) (some (.int .i64 ((k : Int) + 1))) none none).run Try.prog W = .ok (.slice (some ⟨G, (k + 1) * 10, none⟩) (n - k) (n - k)) W := by
  have e : ((k : Int) + 1).toNat = k + 1 := by omega
  have h1 : ¬ n = k := by omega
  have h2 : k ≤ n := by omega
  have h3 : (0 : Int) ≤ (k : Int) + 1 := by omega
  go_simp
set_option maxRecDepth 100000 in
theorem Try.cutB (G n k : Nat) (hk : k < n) (W : World) : (Instr.sliceAt 67 (.slice (some ⟨G, 0, none⟩) n n) (some (.int .i64 (k : Int))) none none).run Try.prog W = .ok (.slice (some ⟨G, k * 10, none⟩) (n - k) (n - k)) W := by
  have h1 : ¬ n = k := by omega
  have h2 : k ≤ n := by omega
  go_simp
set_option maxRecDepth 100000 in
theorem Try.cutC (G n : Nat) (W : World) : (Instr.sliceAt 67 (.slice (some ⟨G, 0, none⟩) (n + 1) (n + 1)) (some (.int .i64 ((n : Int) + 1))) none none).run Try.prog W = .ok (.slice (some ⟨G, 0, none⟩) 0 0) W := by
  have e : ((n : Int) + 1).toNat = n + 1 := by omega
  have h3 : (0 : Int) ≤ (n : Int) + 1 := by omega
  go_simp
set_option maxRecDepth 100000 in
theorem Try.cutD (G n : Nat) (W : World) : (Instr.sliceAt 67 (.slice (some ⟨G, 0, none⟩) n n) (some (.int .i64 (n : Int))) none none).run Try.prog W = .ok (.slice (some ⟨G, 0, none⟩) 0 0) W := by
  go_simp
theorem PwIn.cells {w W : World} {v : Value} {x : Bd} (h : PwIn w W v x) {G o : Nat} (hG : w.heap.size + 1 < G) (vs : List Value) : PwIn w (W.setCells G o vs) v x := by
  refine ⟨MA.below_cells (by omega) _ _ _ h.below, ?_, h.box.other (.inl (by omega))⟩
  rw [World.cell?_setCells_out _ _ _ _ _ (fun h => by have h' : w.heap.size = G := h; omega)]
  exact h.arg
/-- What the end of parcelsWith holds. -/
structure PwTail (w W : World) (v : Value) (x : Bd) (xs : List Bd) (g G k : Nat) (m : List Value) : Prop where
  gt : w.heap.size + 1 < G
  le : k ≤ xs.length
  len : m.length = (xs.length + 1) * 10
  row : MA.Rg W G 0 m
  pw : PwIn w W v x
  ins : MP.BsAt W (some ⟨g, 0, none⟩) xs
theorem PwTail.mk' {w W : World} {v : Value} {x : Bd} {xs : List Bd} {g G k : Nat} {m : List Value} (h1 : w.heap.size + 1 < G) (h2 : k ≤ xs.length) (h3 : m.length = (xs.length + 1) * 10) (h4 : MA.Rg W G 0 m) (h5 : PwIn w W v x) (h6 : MP.BsAt W (some ⟨g, 0, none⟩) xs) : PwTail w W v x xs g G k m := ⟨h1, h2, h3, h4, h5, h6⟩
theorem PwTail.copy1 {P : Program} {w W : World} {v : Value} {x : Bd} {xs : List Bd} {g G k : Nat} {m : List Value} (h : PwTail w W v x xs g G k m) (dT sT ty elem : TypeId) (hu : P.underlying dT = some (.slice elem)) (hs : (P.info? elem).map (·.size) = some 10) :
    (Builtin.copy_ #[dT, sT] ty #[.slice (some ⟨G, 0, none⟩) (xs.length + 1) (xs.length + 1), .slice (some ⟨g, 0, none⟩) k xs.length]).run P W = .ok (goInt k) (W.setCells G 0 (MP.flat (xs.take k))) := by
  have hk := h.le
  have hm := h.len
  have hl : (MP.flat (xs.take k)).length = k * 10 := by rw [MP.flat_len]; simp; omega
  exact PC.run_copy W dT sT ty elem G 0 _ _ ⟨g, 0, none⟩ k xs.length k 10 _ m hu hs (Nat.min_eq_left (by omega)) hl (by simpa using PC.row_cells h.ins (k := 0) (m := k) (by omega)) h.row (by omega) (PC.flat_one _)
theorem PwTail.two {w W : World} {v : Value} {x : Bd} {xs : List Bd} {g G k : Nat} {m : List Value} (h : PwTail w W v x xs g G k m) :
    (∃ c, c.length = (xs.length + 1) * 10 ∧ MA.Rg (W.setCells G 0 (MP.flat (xs.take k))) G 0 c) ∧ (splice (splice m 0 (MP.flat (xs.take k))) (k * 10) x.cs).length = (xs.length + 1) * 10 ∧ MA.Rg ((W.setCells G 0 (MP.flat (xs.take k))).setCells G (k * 10) x.cs) G 0 (splice (splice m 0 (MP.flat (xs.take k))) (k * 10) x.cs) := by
  have hk := h.le
  have hm := h.len
  have l1 : (MP.flat (xs.take k)).length = k * 10 := by rw [MP.flat_len]; simp; omega
  have l2 : x.cs.length = 10 := rfl
  have len1 : (splice m 0 (MP.flat (xs.take k))).length = m.length := length_splice _ _ _ (by omega)
  have len2 : (splice (splice m 0 (MP.flat (xs.take k))) (k * 10) x.cs).length = m.length := by rw [length_splice _ _ _ (by omega), len1]
  have q1 : MA.Rg (W.setCells G 0 (MP.flat (xs.take k))) G 0 (splice m 0 (MP.flat (xs.take k))) := h.row.mid (p := 0) (by omega)
  have q2 := q1.mid (p := k * 10) (vs := x.cs) (by omega)
  rw [Nat.zero_add] at q2
  exact ⟨⟨_, len1.trans hm, q1⟩, len2.trans hm, q2⟩
theorem PwTail.part {w W : World} {v : Value} {x : Bd} {xs : List Bd} {g G k : Nat} {m : List Value} (h : PwTail w W v x xs g G k m) : ∃ c, c.length = 10 ∧ MA.Rg (W.setCells G 0 (MP.flat (xs.take k))) G (k * 10) c := by
  have hk := h.le
  obtain ⟨⟨c, hc, hr⟩, _⟩ := h.two
  have := hr.part (p := k * 10) (n := 10) (by omega)
  rw [Nat.zero_add] at this
  exact ⟨_, by simp; omega, this⟩
theorem PwTail.arg2 {w W : World} {v : Value} {x : Bd} {xs : List Bd} {g G k : Nat} {m : List Value} (h : PwTail w W v x xs g G k m) : ((W.setCells G 0 (MP.flat (xs.take k))).setCells G (k * 10) x.cs).cell? ⟨w.heap.size, 0, none⟩ = some v := ((h.pw.cells h.gt _).cells h.gt _).arg
/-- The second copy, at the world behind the draw, and what lies there then. -/
theorem PwTail.ends {w W : World} {v : Value} {x : Bd} {xs : List Bd} {g G k : Nat} {m : List Value} (h : PwTail w W v x xs g G k m) (hg : g ≠ G) (dT sT ty elem : TypeId) {P : Program} (hu : P.underlying dT = some (.slice elem)) (hs : (P.info? elem).map (·.size) = some 10) :
    (Builtin.copy_ #[dT, sT] ty #[.slice (some ⟨G, (k + 1) * 10, none⟩) (xs.length - k) (xs.length - k), .slice (some ⟨g, k * 10, none⟩) (xs.length - k) (xs.length - k)]).run P (((W.setCells G 0 (MP.flat (xs.take k))).setCells G (k * 10) x.cs).drew) = .ok (goInt ((xs.length - k : Nat) : Int)) ((((W.setCells G 0 (MP.flat (xs.take k))).setCells G (k * 10) x.cs).drew).setCells G ((k + 1) * 10) (MP.flat (xs.drop k))) ∧
    MP.BsAt ((((W.setCells G 0 (MP.flat (xs.take k))).setCells G (k * 10) x.cs).drew).setCells G ((k + 1) * 10) (MP.flat (xs.drop k))) (some ⟨G, 0, none⟩) (PD.put xs x k) ∧
    Below w.heap.size w ((((W.setCells G 0 (MP.flat (xs.take k))).setCells G (k * 10) x.cs).drew).setCells G ((k + 1) * 10) (MP.flat (xs.drop k))) := by
  have hk := h.le
  have hm := h.len
  have hgt := h.gt
  obtain ⟨_, hlen, q2⟩ := h.two
  have hP2 := ((h.pw.cells h.gt (o := 0) (MP.flat (xs.take k))).cells h.gt (o := k * 10) x.cs)
  have hins := row_other (row_other h.ins hg (o := 0) (vs := MP.flat (xs.take k))) hg (o := k * 10) (vs := x.cs)
  have l1 : (MP.flat (xs.take k)).length = k * 10 := by rw [MP.flat_len]; simp; omega
  have l3 : (MP.flat (xs.drop k)).length = (xs.length - k) * 10 := by rw [MP.flat_len]; simp
  generalize hW2 : (W.setCells G 0 (MP.flat (xs.take k))).setCells G (k * 10) x.cs = W2 at *
  have hd : Below W2.heap.size W2 W2.drew := (Below.refl _ _).drew
  have q2d := q2.below hd q2.lt
  have hinsd := hins.below hd
  have q3 := q2d.mid (p := k * 10 + 10) (vs := MP.flat (xs.drop k)) (by omega)
  change MA.Rg _ G 0 (splice (splice (splice m 0 (MP.flat (xs.take k))) (k * 10) x.cs) (k * 10 + 10) (MP.flat (xs.drop k))) at q3
  rw [splice_splice_splice m _ _ _ (k * 10) 10 l1 rfl (by omega), Nat.zero_add, show k * 10 + 10 = (k + 1) * 10 by omega] at q3
  have e : MP.flat (PD.put xs x k) = MP.flat (xs.take k) ++ (x.cs ++ MP.flat (xs.drop k)) := by simp [PD.put, MP.flat]
  rw [← e] at q3
  have rp := q2d.part (p := (k + 1) * 10) (n := (xs.length - k) * 10) (by omega)
  rw [Nat.zero_add] at rp
  refine ⟨PC.run_copy _ dT sT ty elem G ((k + 1) * 10) _ _ ⟨g, k * 10, none⟩ _ _ (xs.length - k) 10 _ _ hu hs (Nat.min_self _) l3 ?_ rp (by simp; omega) (PC.flat_one _), q3.row, MA.below_cells (by omega) _ _ _ ((hP2.kept hd).below)⟩
  have := PC.row_cells hinsd (k := k) (m := xs.length - k) (by omega)
  rwa [List.take_of_length_le (by simp)] at this
theorem PwTail.endsE {w W : World} {v : Value} {x : Bd} {xs : List Bd} {g G : Nat} {m : List Value} (h : PwTail w W v x xs g G xs.length m) (hg : g ≠ G) (dT sT ty elem : TypeId) {P : Program} (hu : P.underlying dT = some (.slice elem)) (hs : (P.info? elem).map (·.size) = some 10) :
    (Builtin.copy_ #[dT, sT] ty #[.slice (some ⟨G, 0, none⟩) 0 0, .slice (some ⟨g, 0, none⟩) 0 0]).run P (((W.setCells G 0 (MP.flat (xs.take xs.length))).setCells G (xs.length * 10) x.cs).drew) = .ok (goInt 0) (((W.setCells G 0 (MP.flat (xs.take xs.length))).setCells G (xs.length * 10) x.cs).drew) ∧
    MP.BsAt (((W.setCells G 0 (MP.flat (xs.take xs.length))).setCells G (xs.length * 10) x.cs).drew) (some ⟨G, 0, none⟩) (PD.put xs x xs.length) ∧
    Below w.heap.size w (((W.setCells G 0 (MP.flat (xs.take xs.length))).setCells G (xs.length * 10) x.cs).drew) := by
  have h2 := (h.ends hg dT sT ty elem hu hs).2
  obtain ⟨_, _, q2⟩ := h.two
  have q2d := q2.below (Below.refl _ _).drew q2.lt
  have e : MP.flat (xs.drop xs.length) = [] := by rw [List.drop_length]; rfl
  rw [e] at h2
  exact ⟨PC.run_copy _ dT sT ty elem G 0 0 0 ⟨g, 0, none⟩ 0 0 0 10 [] _ hu hs rfl rfl (fun j v hv => by simp at hv) q2d (by simp) (by simp), h2⟩
set_option linter.unusedSimpArgs false in
set_option maxHeartbeats 800000 in
set_option maxRecDepth 100000 in
theorem withP_any (x : Bd) (g : Nat) (xs : List Bd) (s : PL.Sh) (w : World) (hgw : g < w.heap.size) (hn : xs.length ≤ 60) (hx : x.py.size ≤ 1048576) (ht : Hid (∀ k, k < xs.length → (MP.at_ xs k).py.size ≤ 1048576)) (hin : MP.BsAt w (some ⟨g, 0, none⟩) xs) :
    Calls Try.prog 43 #[.agg (stF (.slice (some ⟨g, 0, none⟩) xs.length xs.length) s).toArray, .agg x.cs.toArray] w fun e w' => ∃ g', e = .returned (.slice (some ⟨g', 0, none⟩) (xs.length + 1) (xs.length + 1)) ∧ w.heap.size ≤ g' ∧ MP.BsAt w' (some ⟨g', 0, none⟩) (PD.put xs x (PD.cut xs x)) ∧ Below w.heap.size w w' := by
  obtain ⟨i0, hi, hz0, hz1, hz2⟩ := info_parts Try.infoParcelB
  have hL0 : (stF (.slice (some ⟨g, 0, none⟩) xs.length xs.length) s)[0]? = some (.slice (some ⟨g, 0, none⟩) xs.length xs.length) := rfl
  generalize stF (.slice (some ⟨g, 0, none⟩) xs.length xs.length) s = L at *
  have hB : Below w.heap.size w ((w.alloc (.cells L.toArray 75)).alloc (.cells x.cs.toArray 62)) := ((Below.refl _ w).alloc (Nat.le_refl _) _).alloc (by simp) _
  have HI : Hid (PwIn w ((w.alloc (.cells L.toArray 75)).alloc (.cells x.cs.toArray 62)) (.slice (some ⟨g, 0, none⟩) xs.length xs.length) x) := ⟨hB, by simp [hL0], MA.Rg.new' _ _ _ _ (by simp)⟩
  clear hB
  go_enter Try.func43, Try.ntmps43
  go_wp2
  clear hL0
  go_loopw [5] (fun iv wr => ∃ k : Nat, iv = .int .i64 k ∧ k ≤ xs.length ∧ PwIn w wr (.slice (some ⟨g, 0, none⟩) xs.length xs.length) x ∧ ∀ i, i < k → PL.ahead (MP.at_ xs i) x = true) (fun iv _ => (xs.length - intOf iv).toNat)
  case atStart => exact ⟨0, rfl, by omega, HI.out, fun i hi => absurd hi (by omega)⟩
  case round =>
    clear HI
    obtain ⟨k, rfl, hk, hI, hno⟩ := hrel
    have HNO : Hid _ := hno
    have HI : Hid _ := hI
    have c0 := hI.arg
    have hxl := hI.box.lt
    have hXr : wr.rangeAt (w.heap.size + 1) 0 x.cs := hI.box.rng
    have hq0 : w.heap.size < wr.heap.size := by omega
    have hk0 : (0 : Int) ≤ (k : Int) := by omega
    have hin2 := hin.below hI.below
    clear hno hI
    by_cases hl : k < xs.length
    · obtain ⟨b, off, hab, hgl, hYr⟩ := MA.row_range hin2 hl
      cases hab
      rw [Nat.zero_add] at hYr
      obtain ⟨y, hy⟩ : ∃ y, MP.at_ xs k = y := ⟨_, rfl⟩
      rw [hy] at hYr
      have hpy : y.py.size ≤ 1048576 := hy ▸ ht.out k hl
      have HY : Hid (MP.at_ xs k = y) := hy
      clear hy
      cases ha : PL.ahead y x with
      | true =>
        have AO : Hid _ := fun W => isAheadOf_any y x W hpy hx true ha
        have HAH : Hid _ := ha
        clear ha
        go_wp2
        refine MR.frame fun A hA => ?_
        have hsz : A.tmps.size = 48 := by rw [hA]; rfl
        have e2 : A.eval (.tmp 2) = .pointer (some ⟨w.heap.size, 0, none⟩) := by rw [hA]; rfl
        have f2 := MR.read (t := 2) (by rw [hsz]; decide) e2
        have e3 : A.eval (.tmp 3) = .pointer (some ⟨w.heap.size + 1, 0, none⟩) := by rw [hA]; rfl
        have f3 := MR.read (t := 3) (by rw [hsz]; decide) e3
        have e5 : A.eval (.tmp 5) = .int .i64 (k : Int) := by rw [hA]; rfl
        have f5 := MR.read (t := 5) (by rw [hsz]; decide) e5
        have HA : Hid (A = _) := hA
        clear hA
        have hS : (fun w' : World => Below wr.heap.size wr w') (World.drew _) := ((Below.refl _ wr).drew)
        refine wp_region_held (S := fun w' : World => Below wr.heap.size wr w') (by kernel_rfl) ?_
        change wpAnyH _ _ _ _ _ _ _ _ (World.drew _)
        refine MR.takeH (i := 0) (some 7) (.int .i64 (k : Int)) rfl rfl (by kernel_rfl) (by kernel_rfl) (by kernel_rfl) (fun _ _ _ h => h) hS (MR.free rfl) (fun wq hw => by simp [execOp, MR.ev, MR.size, hsz, e2, f2, e3, f3, e5, f5, go_sem]) ?_
        refine MR.takeH (i := 1) (some 8) ((.pointer (some ⟨w.heap.size, 0, none⟩))) rfl rfl (by kernel_rfl) (by kernel_rfl) (by kernel_rfl) (fun _ _ _ h => h) hS (MR.free rfl) (fun wq hw => by simp [execOp, MR.ev, MR.size, hsz, e2, f2, e3, f3, e5, f5, go_sem]) ?_
        refine MR.takeH (i := 2) (some 9) ((.slice (some ⟨g, 0, none⟩) xs.length xs.length)) rfl rfl (by kernel_rfl) (by kernel_rfl) (by kernel_rfl) (fun _ _ _ h => h) hS (MR.free rfl) (fun wq hw => by have cq : wq.cell? ⟨w.heap.size, 0, none⟩ = some (.slice (some ⟨g, 0, none⟩) xs.length xs.length) := (hw.cell (p := ⟨w.heap.size, 0, none⟩) hq0).trans c0; simp [execOp, MR.ev, MR.size, hsz, e2, f2, e3, f3, e5, f5, cq, go_sem]) ?_
        refine MR.takeH (i := 3) (some 10) (.int .i64 (xs.length : Int)) rfl rfl (by kernel_rfl) (by kernel_rfl) (by kernel_rfl) (fun _ _ _ h => h) hS (MR.free rfl) (fun wq hw => by simp [execOp, MR.ev, MR.size, hsz, e2, f2, e3, f3, e5, f5, go_sem]) ?_
        refine MR.takeH (i := 4) (some 11) (.bool true) rfl rfl (by kernel_rfl) (by kernel_rfl) (by kernel_rfl) (fun _ _ _ h => h) hS (MR.free rfl) (fun wq hw => by simp [execOp, MR.ev, MR.size, hsz, e2, f2, e3, f3, e5, f5, hl, go_sem]) ?_
        refine MR.takeH (i := 5) (some 12) (.bool true) rfl rfl (by kernel_rfl) (by kernel_rfl) (by kernel_rfl) (fun _ _ _ h => h) hS (MR.free rfl) (fun wq hw => by simp [execOp, MR.ev, MR.size, hsz, e2, f2, e3, f3, e5, f5, go_sem]) ?_
        refine MR.takeH (i := 6) (some 13) ((.pointer (some ⟨w.heap.size, 0, none⟩))) rfl rfl (by kernel_rfl) (by kernel_rfl) (by kernel_rfl) (fun _ _ _ h => h) hS (MR.want (d := 12) rfl rfl (by simp [MR.size, hsz]) (by simp [MR.ev, MR.size, hsz, e2, f2, e3, f3, e5, f5])) (fun wq hw => by simp [execOp, MR.ev, MR.size, hsz, e2, f2, e3, f3, e5, f5, go_sem]) ?_
        refine MR.takeH (i := 7) (some 14) ((.slice (some ⟨g, 0, none⟩) xs.length xs.length)) rfl rfl (by kernel_rfl) (by kernel_rfl) (by kernel_rfl) (fun _ _ _ h => h) hS (MR.want (d := 12) rfl rfl (by simp [MR.size, hsz]) (by simp [MR.ev, MR.size, hsz, e2, f2, e3, f3, e5, f5])) (fun wq hw => by have cq : wq.cell? ⟨w.heap.size, 0, none⟩ = some (.slice (some ⟨g, 0, none⟩) xs.length xs.length) := (hw.cell (p := ⟨w.heap.size, 0, none⟩) hq0).trans c0; simp [execOp, MR.ev, MR.size, hsz, e2, f2, e3, f3, e5, f5, cq, go_sem]) ?_
        refine MR.takeH (i := 8) (some 15) (.int .i64 (k : Int)) rfl rfl (by kernel_rfl) (by kernel_rfl) (by kernel_rfl) (fun _ _ _ h => h) hS (MR.want (d := 12) rfl rfl (by simp [MR.size, hsz]) (by simp [MR.ev, MR.size, hsz, e2, f2, e3, f3, e5, f5])) (fun wq hw => by simp [execOp, MR.ev, MR.size, hsz, e2, f2, e3, f3, e5, f5, go_sem]) ?_
        refine MR.takeH (i := 9) (some 16) (.pointer (some ⟨g, k * 10, none⟩)) rfl rfl (by kernel_rfl) (by kernel_rfl) (by kernel_rfl) (fun _ _ _ h => h) hS (MR.want (d := 12) rfl rfl (by simp [MR.size, hsz]) (by simp [MR.ev, MR.size, hsz, e2, f2, e3, f3, e5, f5])) (fun wq hw => by simp [execOp, MR.ev, MR.size, hsz, e2, f2, e3, f3, e5, f5, hk0, hl, go_sem]) ?_
        refine MR.takeH (i := 10) (some 17) (y.v) rfl rfl (by kernel_rfl) (by kernel_rfl) (by kernel_rfl) (fun _ _ _ h => h) hS (MR.want (d := 12) rfl rfl (by simp [MR.size, hsz]) (by simp [MR.ev, MR.size, hsz, e2, f2, e3, f3, e5, f5])) (fun wq hw => MA.ex_load rfl (by simp [MR.ev, MR.size, hsz, e2, f2, e3, f3, e5, f5]) (MA.range_below hYr hw hgl) Try.underlying62 rfl Try.sizeParcel rfl) ?_
        refine MR.takeH (i := 11) (some 18) (x.v) rfl rfl (by kernel_rfl) (by kernel_rfl) (by kernel_rfl) (fun _ _ _ h => h) hS (MR.want (d := 12) rfl rfl (by simp [MR.size, hsz]) (by simp [MR.ev, MR.size, hsz, e2, f2, e3, f3, e5, f5])) (fun wq hw => MA.ex_load rfl (by simp [MR.ev, MR.size, hsz, e2, f2, e3, f3, e5, f5]) (MA.range_below hXr hw hxl) Try.underlying62 rfl Try.sizeParcel rfl) ?_
        refine MR.callH (i := 12) (some 19) (64) (#[y.v, x.v]) (by kernel_rfl) rfl rfl (MR.want (d := 12) rfl rfl (by simp [MR.size, hsz]) (by simp [MR.ev, MR.size, hsz, e2, f2, e3, f3, e5, f5])) (by simp [execOp, MR.ev, MR.size, hsz, e2, f2, e3, f3, e5, f5, go_sem]) ?_
        refine Calls.mono (AO.out _) ?_
        rintro e w3 ⟨rfl, hb3⟩
        have hS3 : Below wr.heap.size wr w3 := hS.trans (hb3.mono hS.size)
        refine ⟨_, rfl, hS3, ?_⟩
        refine MR.takeH (i := 13) (some 20) (.bool true) rfl rfl (by kernel_rfl) (by kernel_rfl) (by kernel_rfl) (fun _ _ _ h => h) hS3 (MR.free rfl) (fun wq hw => by simp [execOp, MR.ev, MR.size, hsz, e2, f2, e3, f3, e5, f5, go_sem]) ?_
        refine wpAnyH_done (by kernel_rfl) ?_ _
        rw [HA.out]
        have hP := HI.out.kept hS3
        have HP : Hid _ := hP
        clear hP hb3 hS3 HA hS hXr hYr c0 AO e2 e3 e5 f2 f3 f5 hsz HI hin2
        simp only [Act.put, List.setIfInBounds_toArray, List.set_cons_succ, List.set_cons_zero]
        go_wp2
        go_roundw
        case rel => exact ⟨k + 1, by go_num, by omega, HP.out, fun i hi => if e : i = k then by rw [e, HY.out]; exact HAH.out else HNO.out i (by omega)⟩
        case measure => simp [intOf]; omega
      | false =>
        have AO : Hid _ := fun W => isAheadOf_any y x W hpy hx false ha
        have HC : Hid (PD.cut xs x = k) := PD.cut_is hk HNO.out (fun _ => by rw [HY.out]; exact ha)
        clear ha
        go_wp2
        refine MR.frame fun A hA => ?_
        have hsz : A.tmps.size = 48 := by rw [hA]; rfl
        have e2 : A.eval (.tmp 2) = .pointer (some ⟨w.heap.size, 0, none⟩) := by rw [hA]; rfl
        have f2 := MR.read (t := 2) (by rw [hsz]; decide) e2
        have e3 : A.eval (.tmp 3) = .pointer (some ⟨w.heap.size + 1, 0, none⟩) := by rw [hA]; rfl
        have f3 := MR.read (t := 3) (by rw [hsz]; decide) e3
        have e5 : A.eval (.tmp 5) = .int .i64 (k : Int) := by rw [hA]; rfl
        have f5 := MR.read (t := 5) (by rw [hsz]; decide) e5
        have HA : Hid (A = _) := hA
        clear hA
        have hS : (fun w' : World => Below wr.heap.size wr w') (World.drew _) := ((Below.refl _ wr).drew)
        refine wp_region_held (S := fun w' : World => Below wr.heap.size wr w') (by kernel_rfl) ?_
        change wpAnyH _ _ _ _ _ _ _ _ (World.drew _)
        refine MR.takeH (i := 0) (some 7) (.int .i64 (k : Int)) rfl rfl (by kernel_rfl) (by kernel_rfl) (by kernel_rfl) (fun _ _ _ h => h) hS (MR.free rfl) (fun wq hw => by simp [execOp, MR.ev, MR.size, hsz, e2, f2, e3, f3, e5, f5, go_sem]) ?_
        refine MR.takeH (i := 1) (some 8) ((.pointer (some ⟨w.heap.size, 0, none⟩))) rfl rfl (by kernel_rfl) (by kernel_rfl) (by kernel_rfl) (fun _ _ _ h => h) hS (MR.free rfl) (fun wq hw => by simp [execOp, MR.ev, MR.size, hsz, e2, f2, e3, f3, e5, f5, go_sem]) ?_
        refine MR.takeH (i := 2) (some 9) ((.slice (some ⟨g, 0, none⟩) xs.length xs.length)) rfl rfl (by kernel_rfl) (by kernel_rfl) (by kernel_rfl) (fun _ _ _ h => h) hS (MR.free rfl) (fun wq hw => by have cq : wq.cell? ⟨w.heap.size, 0, none⟩ = some (.slice (some ⟨g, 0, none⟩) xs.length xs.length) := (hw.cell (p := ⟨w.heap.size, 0, none⟩) hq0).trans c0; simp [execOp, MR.ev, MR.size, hsz, e2, f2, e3, f3, e5, f5, cq, go_sem]) ?_
        refine MR.takeH (i := 3) (some 10) (.int .i64 (xs.length : Int)) rfl rfl (by kernel_rfl) (by kernel_rfl) (by kernel_rfl) (fun _ _ _ h => h) hS (MR.free rfl) (fun wq hw => by simp [execOp, MR.ev, MR.size, hsz, e2, f2, e3, f3, e5, f5, go_sem]) ?_
        refine MR.takeH (i := 4) (some 11) (.bool true) rfl rfl (by kernel_rfl) (by kernel_rfl) (by kernel_rfl) (fun _ _ _ h => h) hS (MR.free rfl) (fun wq hw => by simp [execOp, MR.ev, MR.size, hsz, e2, f2, e3, f3, e5, f5, hl, go_sem]) ?_
        refine MR.takeH (i := 5) (some 12) (.bool true) rfl rfl (by kernel_rfl) (by kernel_rfl) (by kernel_rfl) (fun _ _ _ h => h) hS (MR.free rfl) (fun wq hw => by simp [execOp, MR.ev, MR.size, hsz, e2, f2, e3, f3, e5, f5, go_sem]) ?_
        refine MR.takeH (i := 6) (some 13) ((.pointer (some ⟨w.heap.size, 0, none⟩))) rfl rfl (by kernel_rfl) (by kernel_rfl) (by kernel_rfl) (fun _ _ _ h => h) hS (MR.want (d := 12) rfl rfl (by simp [MR.size, hsz]) (by simp [MR.ev, MR.size, hsz, e2, f2, e3, f3, e5, f5])) (fun wq hw => by simp [execOp, MR.ev, MR.size, hsz, e2, f2, e3, f3, e5, f5, go_sem]) ?_
        refine MR.takeH (i := 7) (some 14) ((.slice (some ⟨g, 0, none⟩) xs.length xs.length)) rfl rfl (by kernel_rfl) (by kernel_rfl) (by kernel_rfl) (fun _ _ _ h => h) hS (MR.want (d := 12) rfl rfl (by simp [MR.size, hsz]) (by simp [MR.ev, MR.size, hsz, e2, f2, e3, f3, e5, f5])) (fun wq hw => by have cq : wq.cell? ⟨w.heap.size, 0, none⟩ = some (.slice (some ⟨g, 0, none⟩) xs.length xs.length) := (hw.cell (p := ⟨w.heap.size, 0, none⟩) hq0).trans c0; simp [execOp, MR.ev, MR.size, hsz, e2, f2, e3, f3, e5, f5, cq, go_sem]) ?_
        refine MR.takeH (i := 8) (some 15) (.int .i64 (k : Int)) rfl rfl (by kernel_rfl) (by kernel_rfl) (by kernel_rfl) (fun _ _ _ h => h) hS (MR.want (d := 12) rfl rfl (by simp [MR.size, hsz]) (by simp [MR.ev, MR.size, hsz, e2, f2, e3, f3, e5, f5])) (fun wq hw => by simp [execOp, MR.ev, MR.size, hsz, e2, f2, e3, f3, e5, f5, go_sem]) ?_
        refine MR.takeH (i := 9) (some 16) (.pointer (some ⟨g, k * 10, none⟩)) rfl rfl (by kernel_rfl) (by kernel_rfl) (by kernel_rfl) (fun _ _ _ h => h) hS (MR.want (d := 12) rfl rfl (by simp [MR.size, hsz]) (by simp [MR.ev, MR.size, hsz, e2, f2, e3, f3, e5, f5])) (fun wq hw => by simp [execOp, MR.ev, MR.size, hsz, e2, f2, e3, f3, e5, f5, hk0, hl, go_sem]) ?_
        refine MR.takeH (i := 10) (some 17) (y.v) rfl rfl (by kernel_rfl) (by kernel_rfl) (by kernel_rfl) (fun _ _ _ h => h) hS (MR.want (d := 12) rfl rfl (by simp [MR.size, hsz]) (by simp [MR.ev, MR.size, hsz, e2, f2, e3, f3, e5, f5])) (fun wq hw => MA.ex_load rfl (by simp [MR.ev, MR.size, hsz, e2, f2, e3, f3, e5, f5]) (MA.range_below hYr hw hgl) Try.underlying62 rfl Try.sizeParcel rfl) ?_
        refine MR.takeH (i := 11) (some 18) (x.v) rfl rfl (by kernel_rfl) (by kernel_rfl) (by kernel_rfl) (fun _ _ _ h => h) hS (MR.want (d := 12) rfl rfl (by simp [MR.size, hsz]) (by simp [MR.ev, MR.size, hsz, e2, f2, e3, f3, e5, f5])) (fun wq hw => MA.ex_load rfl (by simp [MR.ev, MR.size, hsz, e2, f2, e3, f3, e5, f5]) (MA.range_below hXr hw hxl) Try.underlying62 rfl Try.sizeParcel rfl) ?_
        refine MR.callH (i := 12) (some 19) (64) (#[y.v, x.v]) (by kernel_rfl) rfl rfl (MR.want (d := 12) rfl rfl (by simp [MR.size, hsz]) (by simp [MR.ev, MR.size, hsz, e2, f2, e3, f3, e5, f5])) (by simp [execOp, MR.ev, MR.size, hsz, e2, f2, e3, f3, e5, f5, go_sem]) ?_
        refine Calls.mono (AO.out _) ?_
        rintro e w3 ⟨rfl, hb3⟩
        have hS3 : Below wr.heap.size wr w3 := hS.trans (hb3.mono hS.size)
        refine ⟨_, rfl, hS3, ?_⟩
        refine MR.takeH (i := 13) (some 20) (.bool false) rfl rfl (by kernel_rfl) (by kernel_rfl) (by kernel_rfl) (fun _ _ _ h => h) hS3 (MR.free rfl) (fun wq hw => by simp [execOp, MR.ev, MR.size, hsz, e2, f2, e3, f3, e5, f5, go_sem]) ?_
        refine wpAnyH_done (by kernel_rfl) ?_ _
        rw [HA.out]
        have hP := HI.out.kept hS3
        have hin3 := hin2.below hS3
        clear HA hS hXr hYr c0 AO hb3 hS3 HI e2 e3 e5 f2 f3 f5 hsz
        simp only [Act.put, List.setIfInBounds_toArray, List.set_cons_succ, List.set_cons_zero]
        have hne : ¬ xs.length = k := by omega
        have c1 := hP.arg
        clear hin2 hxl hq0
        go_wp2_with (first
          | (at_make; refine wpList_make_full _ rfl _ _ 67 rfl w3.heap.size 62 i0 (.agg (Bd.cs B1.zero).toArray) 10 Try.underlying67 hi hz0 hz1 .i64 .i64 _ _ (xs.length + 1) rfl rfl rfl rfl ?_ ?_ ?_ ?_))
        · rw [hz2]; omega
        · unfold maxLen; omega
        · exact Nat.le_refl _
        intro w4 hown hgrow
        have hk4 : Below w3.heap.size w3 w4 := (Below.refl _ _).grown hgrow (Nat.le_refl _) (fun j hj => by cases hj)
        have hml := hown.1
        have r1 := MA.Rg.of_own hown
        generalize (madeCells _ _).toList = m at *
        have hP4 := hP.kept hk4
        have hin4 := hin3.below hk4
        have hG : w.heap.size + 1 < w3.heap.size := hP.box.lt
        have c4 := hP4.arg
        have HT : Hid _ := PwTail.mk' hG hk hml r1 hP4 hin4
        clear hown hgrow hk4 hml r1 hP4 hin4 hin3 c1 hi hz0 hz1 hz2 hP
        have cp1 := HT.out.copy1 67 67 3 62 Try.underlying67 Try.sizeParcel
        obtain ⟨pc, hpc, rpc⟩ := HT.out.part
        have HPC : Hid _ := hpc
        have R5 : Hid _ := rpc
        clear hpc rpc
        have X5 : Hid _ := (HT.out.pw.cells HT.out.gt (o := 0) (MP.flat (xs.take k))).box.rng
        have hgG : g ≠ w3.heap.size := by omega
        have HE : Hid _ := HT.out.ends hgG 67 67 3 62 Try.underlying67 Try.sizeParcel
        have C6 : Hid _ := HT.out.arg2
        have hk1 : (0 : Int) ≤ (k : Int) + 1 := by omega
        have hk2 : (k : Int) < (xs.length : Int) + 1 := by omega
        clear HT
        generalize w4.setCells w3.heap.size 0 (MP.flat (xs.take k)) = w5 at *
        go_wp2_with (first
          | (refine MA.load_r rfl 62 _ rfl rfl (cs := x.cs) ?_ Try.underlying62 rfl Try.sizeParcel rfl ?_; exact X5.out)
          | (refine MA.store_m rfl 62 _ _ rfl rfl rfl (cs := pc) ?_ Try.sizeParcel HPC.out rfl (MA.cs_one x) ?_; exact R5.out; clear R5 X5; generalize World.setCells _ _ _ _ = w6 at *))
        have cp2 := HE.out.1
        have c6 : w6.drew.cell? ⟨w.heap.size, 0, none⟩ = some (.slice (some ⟨g, 0, none⟩) xs.length xs.length) := C6.out
        clear cp1 c4 C6
        have sl1 := fun W => Try.cutA w3.heap.size xs.length k hl W
        have sl2 := fun W => Try.cutB g xs.length k hl W
        have cE : (w6.drew.setCells w3.heap.size ((k + 1) * 10) (MP.flat (List.drop k xs))).cell? ⟨w.heap.size, 0, none⟩ = some (.slice (some ⟨g, 0, none⟩) xs.length xs.length) := by rw [World.cell?_setCells_out _ _ _ _ _ (fun h => by have h' : w.heap.size = w3.heap.size := h; omega)]; exact c6
        have hwr : IntKind.i64.wrap ((k : Int) + 1) = (k : Int) + 1 := by have := M1.i64_wrap (k + 1) (by omega); simpa using this
        go_region_held3 (fun w' => w'.cell? ⟨w.heap.size, 0, none⟩ = some (.slice (some ⟨g, 0, none⟩) xs.length xs.length)) (first | exact c6 | exact cE | go_keep) (fail)
        go_wp2
        go_ret
        exact ⟨w3.heap.size, rfl, by omega, by rw [HC.out]; exact HE.out.2.1, HE.out.2.2⟩
    · obtain rfl : k = xs.length := by omega
      have HC : Hid (PD.cut xs x = xs.length) := PD.cut_is hk HNO.out (fun h => absurd h hl)
      go_wp2
      refine MR.frame fun A hA => ?_
      have hsz : A.tmps.size = 48 := by rw [hA]; rfl
      have e2 : A.eval (.tmp 2) = .pointer (some ⟨w.heap.size, 0, none⟩) := by rw [hA]; rfl
      have f2 := MR.read (t := 2) (by rw [hsz]; decide) e2
      have e3 : A.eval (.tmp 3) = .pointer (some ⟨w.heap.size + 1, 0, none⟩) := by rw [hA]; rfl
      have f3 := MR.read (t := 3) (by rw [hsz]; decide) e3
      have e5 : A.eval (.tmp 5) = .int .i64 (xs.length : Int) := by rw [hA]; rfl
      have f5 := MR.read (t := 5) (by rw [hsz]; decide) e5
      have HA : Hid (A = _) := hA
      clear hA
      have hS : (fun w' : World => Below wr.heap.size wr w') (World.drew _) := ((Below.refl _ wr).drew)
      refine wp_region_held (S := fun w' : World => Below wr.heap.size wr w') (by kernel_rfl) ?_
      change wpAnyH _ _ _ _ _ _ _ _ (World.drew _)
      refine MR.takeH (i := 0) (some 7) (.int .i64 (xs.length : Int)) rfl rfl (by kernel_rfl) (by kernel_rfl) (by kernel_rfl) (fun _ _ _ h => h) hS (MR.free rfl) (fun wq hw => by simp [execOp, MR.ev, MR.size, hsz, e2, f2, e3, f3, e5, f5, go_sem]) ?_
      refine MR.takeH (i := 1) (some 8) ((.pointer (some ⟨w.heap.size, 0, none⟩))) rfl rfl (by kernel_rfl) (by kernel_rfl) (by kernel_rfl) (fun _ _ _ h => h) hS (MR.free rfl) (fun wq hw => by simp [execOp, MR.ev, MR.size, hsz, e2, f2, e3, f3, e5, f5, go_sem]) ?_
      refine MR.takeH (i := 2) (some 9) ((.slice (some ⟨g, 0, none⟩) xs.length xs.length)) rfl rfl (by kernel_rfl) (by kernel_rfl) (by kernel_rfl) (fun _ _ _ h => h) hS (MR.free rfl) (fun wq hw => by have cq : wq.cell? ⟨w.heap.size, 0, none⟩ = some (.slice (some ⟨g, 0, none⟩) xs.length xs.length) := (hw.cell (p := ⟨w.heap.size, 0, none⟩) hq0).trans c0; simp [execOp, MR.ev, MR.size, hsz, e2, f2, e3, f3, e5, f5, cq, go_sem]) ?_
      refine MR.takeH (i := 3) (some 10) (.int .i64 (xs.length : Int)) rfl rfl (by kernel_rfl) (by kernel_rfl) (by kernel_rfl) (fun _ _ _ h => h) hS (MR.free rfl) (fun wq hw => by simp [execOp, MR.ev, MR.size, hsz, e2, f2, e3, f3, e5, f5, go_sem]) ?_
      refine MR.takeH (i := 4) (some 11) (.bool false) rfl rfl (by kernel_rfl) (by kernel_rfl) (by kernel_rfl) (fun _ _ _ h => h) hS (MR.free rfl) (fun wq hw => by simp [execOp, MR.ev, MR.size, hsz, e2, f2, e3, f3, e5, f5, hl, go_sem]) ?_
      refine MR.takeH (i := 5) (some 12) (.bool false) rfl rfl (by kernel_rfl) (by kernel_rfl) (by kernel_rfl) (fun _ _ _ h => h) hS (MR.free rfl) (fun wq hw => by simp [execOp, MR.ev, MR.size, hsz, e2, f2, e3, f3, e5, f5, go_sem]) ?_
      refine MR.skipH (i := 6) (some 13) rfl rfl (by kernel_rfl) (by kernel_rfl) (by kernel_rfl) (fun _ _ _ h => h) hS (MR.unwant (d := 12) (b' := false) rfl rfl (by simp [MR.size, hsz]) (by simp [MR.ev, MR.size, hsz, e2, f2, e3, f3, e5, f5]) (by decide)) ?_
      refine MR.skipH (i := 7) (some 14) rfl rfl (by kernel_rfl) (by kernel_rfl) (by kernel_rfl) (fun _ _ _ h => h) hS (MR.unwant (d := 12) (b' := false) rfl rfl (by simp [MR.size, hsz]) (by simp [MR.ev, MR.size, hsz, e2, f2, e3, f3, e5, f5]) (by decide)) ?_
      refine MR.skipH (i := 8) (some 15) rfl rfl (by kernel_rfl) (by kernel_rfl) (by kernel_rfl) (fun _ _ _ h => h) hS (MR.unwant (d := 12) (b' := false) rfl rfl (by simp [MR.size, hsz]) (by simp [MR.ev, MR.size, hsz, e2, f2, e3, f3, e5, f5]) (by decide)) ?_
      refine MR.skipH (i := 9) (some 16) rfl rfl (by kernel_rfl) (by kernel_rfl) (by kernel_rfl) (fun _ _ _ h => h) hS (MR.unwant (d := 12) (b' := false) rfl rfl (by simp [MR.size, hsz]) (by simp [MR.ev, MR.size, hsz, e2, f2, e3, f3, e5, f5]) (by decide)) ?_
      refine MR.skipH (i := 10) (some 17) rfl rfl (by kernel_rfl) (by kernel_rfl) (by kernel_rfl) (fun _ _ _ h => h) hS (MR.unwant (d := 12) (b' := false) rfl rfl (by simp [MR.size, hsz]) (by simp [MR.ev, MR.size, hsz, e2, f2, e3, f3, e5, f5]) (by decide)) ?_
      refine MR.skipH (i := 11) (some 18) rfl rfl (by kernel_rfl) (by kernel_rfl) (by kernel_rfl) (fun _ _ _ h => h) hS (MR.unwant (d := 12) (b' := false) rfl rfl (by simp [MR.size, hsz]) (by simp [MR.ev, MR.size, hsz, e2, f2, e3, f3, e5, f5]) (by decide)) ?_
      refine MR.skipH (i := 12) (some 19) rfl rfl (by kernel_rfl) (by kernel_rfl) (by kernel_rfl) (fun _ _ _ h => h) hS (MR.unwant (d := 12) (b' := false) rfl rfl (by simp [MR.size, hsz]) (by simp [MR.ev, MR.size, hsz, e2, f2, e3, f3, e5, f5]) (by decide)) ?_
      refine MR.takeH (i := 13) (some 20) (.bool false) rfl rfl (by kernel_rfl) (by kernel_rfl) (by kernel_rfl) (fun _ _ _ h => h) hS (MR.free rfl) (fun wq hw => by simp [execOp, MR.ev, MR.size, hsz, e2, f2, e3, f3, e5, f5, go_sem]) ?_
      refine wpAnyH_done (by kernel_rfl) ?_ _
      rw [HA.out]
      have hP := HI.out.kept hS
      have hin3 := hin2.below hS
      clear HA hXr c0 HI e2 e3 e5 f2 f3 f5 hsz
      simp only [Act.put, List.setIfInBounds_toArray, List.set_cons_succ, List.set_cons_zero]
      clear hS
      generalize World.drew _ = w3 at *
      have c1 := hP.arg
      clear hin2 hxl hq0
      go_wp2_with (first
        | (at_make; refine wpList_make_full _ rfl _ _ 67 rfl w3.heap.size 62 i0 (.agg (Bd.cs B1.zero).toArray) 10 Try.underlying67 hi hz0 hz1 .i64 .i64 _ _ (xs.length + 1) rfl rfl rfl rfl ?_ ?_ ?_ ?_))
      · rw [hz2]; omega
      · unfold maxLen; omega
      · exact Nat.le_refl _
      intro w4 hown hgrow
      have hk4 : Below w3.heap.size w3 w4 := (Below.refl _ _).grown hgrow (Nat.le_refl _) (fun j hj => by cases hj)
      have hml := hown.1
      have r1 := MA.Rg.of_own hown
      generalize (madeCells _ _).toList = m at *
      have hP4 := hP.kept hk4
      have hin4 := hin3.below hk4
      have hG : w.heap.size + 1 < w3.heap.size := hP.box.lt
      have c4 := hP4.arg
      have HT : Hid _ := PwTail.mk' hG hk hml r1 hP4 hin4
      clear hown hgrow hk4 hml r1 hP4 hin4 hin3 c1 hi hz0 hz1 hz2 hP
      have cp1 := HT.out.copy1 67 67 3 62 Try.underlying67 Try.sizeParcel
      obtain ⟨pc, hpc, rpc⟩ := HT.out.part
      have HPC : Hid _ := hpc
      have R5 : Hid _ := rpc
      clear hpc rpc
      have X5 : Hid _ := (HT.out.pw.cells HT.out.gt (o := 0) (MP.flat (xs.take xs.length))).box.rng
      have hgG : g ≠ w3.heap.size := by omega
      have HE : Hid _ := HT.out.endsE hgG 67 67 3 62 Try.underlying67 Try.sizeParcel
      have C6 : Hid _ := HT.out.arg2
      have hk1 : (0 : Int) ≤ (xs.length : Int) + 1 := by omega
      have hk2 : (xs.length : Int) < (xs.length : Int) + 1 := by omega
      clear HT
      generalize w4.setCells w3.heap.size 0 (MP.flat (xs.take xs.length)) = w5 at *
      go_wp2_with (first
        | (refine MA.load_r rfl 62 _ rfl rfl (cs := x.cs) ?_ Try.underlying62 rfl Try.sizeParcel rfl ?_; exact X5.out)
        | (refine MA.store_m rfl 62 _ _ rfl rfl rfl (cs := pc) ?_ Try.sizeParcel HPC.out rfl (MA.cs_one x) ?_; exact R5.out; clear R5 X5; generalize World.setCells _ _ _ _ = w6 at *))
      have cp2 := HE.out.1
      have c6 : w6.drew.cell? ⟨w.heap.size, 0, none⟩ = some (.slice (some ⟨g, 0, none⟩) xs.length xs.length) := C6.out
      clear cp1 c4 C6
      have sl1 := fun W => Try.cutC w3.heap.size xs.length W
      have sl2 := fun W => Try.cutD g xs.length W
      have cE := c6
      have hwr : IntKind.i64.wrap ((xs.length : Int) + 1) = (xs.length : Int) + 1 := by have := M1.i64_wrap (xs.length + 1) (by omega); simpa using this
      go_region_held3 (fun w' => w'.cell? ⟨w.heap.size, 0, none⟩ = some (.slice (some ⟨g, 0, none⟩) xs.length xs.length)) (first | exact c6 | exact cE | go_keep) (fail)
      go_wp2
      go_ret
      exact ⟨w3.heap.size, rfl, by omega, by rw [HC.out]; exact HE.out.2.1, HE.out.2.2⟩
end Go.Proofs.Ytepgmmigacafeaa

/- The program's WholeOf, at any pile. -/
namespace Go.Proofs.Ytepgmmigacafeaa
open Go.RowKit
set_option linter.unusedSimpArgs false in
set_option maxHeartbeats 400000 in
set_option maxRecDepth 100000 in
theorem totalW_any (g : Nat) (xs : List Bd) (s : PL.Sh) (w : World) (hn : xs.length ≤ 1048576) (hg : PL.good xs = true) (hin : MP.BsAt w (some ⟨g, 0, none⟩) xs) :
    Calls Try.prog 46 #[.agg (stF (.slice (some ⟨g, 0, none⟩) xs.length xs.length) s).toArray] w fun e w' => e = .returned (.int .i64 (PL.total xs : Int)) ∧ Below w.heap.size w w' := by
  have r0 := (st_parts (MA.Rg.new w (stF (.slice (some ⟨g, 0, none⟩) xs.length xs.length) s) 75)).2.2
  have c0 : (w.alloc (.cells (stF (.slice (some ⟨g, 0, none⟩) xs.length xs.length) s).toArray 75)).cell? ⟨w.heap.size, 0, none⟩ = some (.slice (some ⟨g, 0, none⟩) xs.length xs.length) := r0.cell (j := 0) rfl
  have hB : Below w.heap.size w (w.alloc (.cells (stF (.slice (some ⟨g, 0, none⟩) xs.length xs.length) s).toArray 75)) := (Below.refl _ w).alloc (Nat.le_refl _) _
  have hR := hin.below hB
  clear r0
  generalize stF (.slice (some ⟨g, 0, none⟩) xs.length xs.length) s = L at *
  by_cases h0 : xs = []
  · subst h0
    clear hR hin
    have e0 : Hid (PL.total [] = 0) := rfl
    go_enter Try.func46, Try.ntmps46
    go_wp2
    go_ret
    exact ⟨rfl, hB⟩
  · have hn0 : 0 < xs.length := by cases xs with | nil => exact absurd rfl h0 | cons x l => simp
    have hne : ¬ xs.length = 0 := by omega
    have htl : (MP.at_ xs 0).tl = (PL.total xs : Int) := by
      have p0 := PL.pg_is ((PL.good_inv hg).1.2.2.2 0 hn0)
      unfold PL.total; rw [if_neg h0]; omega
    obtain ⟨b, off, hab, hbl, rg⟩ := MA.row_range hR hn0
    cases hab
    have ctl : (w.alloc (.cells L.toArray 75)).cell? ⟨g, 8, none⟩ = some (.int .i64 (PL.total xs : Int)) := by
      rw [Nat.zero_mul, Nat.add_zero] at rg
      have := rg 8 (.int .i64 (MP.at_ xs 0).tl) rfl
      rw [htl] at this
      simpa using this
    clear rg htl hg hR hbl hin
    generalize PL.total xs = n at *
    go_enter Try.func46, Try.ntmps46
    go_wp2
    go_ret
    exact ⟨rfl, hB⟩
/-- Whether a stack is whole. -/
def allTh (xs : List Bd) : Bool := PL.upto (fun p => ((PL.sh xs xs.length).th p == decide (p < PL.total xs))) 60
theorem whole_ok {xs : List Bd} (h : PL.good xs = true) : wholeOk xs = (decide (xs ≠ []) && allTh xs) := by
  have e : decide (missN xs ≤ 0) = allTh xs := by
    rw [Bool.eq_iff_iff, decide_eq_true_eq, miss_iff h, allTh, PL.upto_iff]
    exact forall_congr' fun p => imp_congr_right fun _ => by rw [beq_iff_eq]
  unfold wholeOk
  rw [h, e, Bool.true_and]
set_option linter.unusedSimpArgs false in
set_option maxHeartbeats 800000 in
set_option maxRecDepth 100000 in
theorem isWhole_any (g : Nat) (xs : List Bd) (w : World) (hn : xs.length ≤ 1048576) (hg : PL.good xs = true) (hin : MP.BsAt w (some ⟨g, 0, none⟩) xs) :
    Calls Try.prog 44 #[.agg (stF (.slice (some ⟨g, 0, none⟩) xs.length xs.length) (PL.sh xs xs.length)).toArray] w fun e w' => e = .returned (.bool (wholeOk xs)) ∧ Below w.heap.size w w' := by
  have hok := whole_ok hg
  have RN := MA.Rg.new w (stF (.slice (some ⟨g, 0, none⟩) xs.length xs.length) (PL.sh xs xs.length)) 75
  have hB : Below w.heap.size w (w.alloc (.cells (stF (.slice (some ⟨g, 0, none⟩) xs.length xs.length) (PL.sh xs xs.length)).toArray 75)) := (Below.refl _ w).alloc (Nat.le_refl _) _
  have hrow0 := hin.below hB
  have HH : Hid _ := And.intro RN (And.intro hB hrow0)
  clear RN hB hrow0
  by_cases h0 : xs = []
  · have hok2 : Hid (false = wholeOk xs) := by rw [hok]; simp [Hid, h0]
    have HN0 : Hid (xs.length = 0) := by rw [h0]; rfl
    clear h0
    go_enter Try.func44, Try.ntmps44
    generalize hW : w.alloc (.cells (stF (.slice (some ⟨g, 0, none⟩) xs.length xs.length) (PL.sh xs xs.length)).toArray 75) = W at HH
    clear hok
    go_wp2
    clear hW
    have c0 : W.cell? ⟨w.heap.size, 0, none⟩ = some (.slice (some ⟨g, 0, none⟩) xs.length xs.length) := (st_parts HH.out.1).2.2.cell (j := 0) rfl
    have hq := HH.out.1.lt
    have hn0 := HN0.out
    refine MR.frame fun A hA => ?_
    have hsz : A.tmps.size = 16 := by rw [hA]; rfl
    have e1 : A.eval (.tmp 1) = .pointer (some ⟨w.heap.size, 0, none⟩) := by rw [hA]; rfl
    have f1 := MR.read (t := 1) (by rw [hsz]; decide) e1
    have HA : Hid (A = _) := hA
    clear hA
    have hS : (fun w' : World => Below W.heap.size W w') (World.drew _) := ((Below.refl _ W).drew)
    refine wp_region_held (S := fun w' : World => Below W.heap.size W w') (by kernel_rfl) ?_
    change wpAnyH _ _ _ _ _ _ _ _ (World.drew _)
    refine MR.takeH (i := 0) (some 3) (.pointer (some ⟨w.heap.size, 0, none⟩)) rfl rfl (by kernel_rfl) (by kernel_rfl) (by kernel_rfl) (fun _ _ _ h => h) hS (MR.free rfl) (fun wq hw => by simp [execOp, MR.ev, MR.size, hsz, e1, f1, go_sem]) ?_
    refine MR.takeH (i := 1) (some 4) (.slice (some ⟨g, 0, none⟩) xs.length xs.length) rfl rfl (by kernel_rfl) (by kernel_rfl) (by kernel_rfl) (fun _ _ _ h => h) hS (MR.free rfl) (fun wq hw => by simp [execOp, MR.ev, MR.size, hsz, e1, f1, (hw.cell (p := ⟨w.heap.size, 0, none⟩) hq).trans c0, go_sem]) ?_
    refine MR.takeH (i := 2) (some 5) (.int .i64 (xs.length : Int)) rfl rfl (by kernel_rfl) (by kernel_rfl) (by kernel_rfl) (fun _ _ _ h => h) hS (MR.free rfl) (fun wq hw => by simp [execOp, MR.ev, MR.size, hsz, e1, f1, go_sem]) ?_
    refine MR.takeH (i := 3) (some 6) (.bool false) rfl rfl (by kernel_rfl) (by kernel_rfl) (by kernel_rfl) (fun _ _ _ h => h) hS (MR.free rfl) (fun wq hw => by simp [execOp, MR.ev, MR.size, hsz, e1, f1, hn0, go_sem]) ?_
    refine MR.takeH (i := 4) (some 7) (.bool false) rfl rfl (by kernel_rfl) (by kernel_rfl) (by kernel_rfl) (fun _ _ _ h => h) hS (MR.free rfl) (fun wq hw => by simp [execOp, MR.ev, MR.size, hsz, e1, f1, go_sem]) ?_
    refine MR.skipH (i := 5) (some 8) rfl rfl (by kernel_rfl) (by kernel_rfl) (by kernel_rfl) (fun _ _ _ h => h) hS (MR.unwant (d := 7) (b' := false) rfl rfl (by simp [MR.size, hsz]) (by simp [MR.ev, MR.size, hsz, e1, f1]) (by decide)) ?_
    refine MR.skipH (i := 6) (some 9) rfl rfl (by kernel_rfl) (by kernel_rfl) (by kernel_rfl) (fun _ _ _ h => h) hS (MR.unwant (d := 7) (b' := false) rfl rfl (by simp [MR.size, hsz]) (by simp [MR.ev, MR.size, hsz, e1, f1]) (by decide)) ?_
    refine MR.skipH (i := 7) (some 10) rfl rfl (by kernel_rfl) (by kernel_rfl) (by kernel_rfl) (fun _ _ _ h => h) hS (MR.unwant (d := 7) (b' := false) rfl rfl (by simp [MR.size, hsz]) (by simp [MR.ev, MR.size, hsz, e1, f1]) (by decide)) ?_
    refine MR.skipH (i := 8) (some 11) rfl rfl (by kernel_rfl) (by kernel_rfl) (by kernel_rfl) (fun _ _ _ h => h) hS (MR.unwant (d := 7) (b' := false) rfl rfl (by simp [MR.size, hsz]) (by simp [MR.ev, MR.size, hsz, e1, f1]) (by decide)) ?_
    refine MR.skipH (i := 9) (some 12) rfl rfl (by kernel_rfl) (by kernel_rfl) (by kernel_rfl) (fun _ _ _ h => h) hS (MR.unwant (d := 7) (b' := false) rfl rfl (by simp [MR.size, hsz]) (by simp [MR.ev, MR.size, hsz, e1, f1]) (by decide)) ?_
    refine MR.skipH (i := 10) (some 13) rfl rfl (by kernel_rfl) (by kernel_rfl) (by kernel_rfl) (fun _ _ _ h => h) hS (MR.unwant (d := 7) (b' := false) rfl rfl (by simp [MR.size, hsz]) (by simp [MR.ev, MR.size, hsz, e1, f1]) (by decide)) ?_
    refine MR.skipH (i := 11) (some 14) rfl rfl (by kernel_rfl) (by kernel_rfl) (by kernel_rfl) (fun _ _ _ h => h) hS (MR.unwant (d := 7) (b' := false) rfl rfl (by simp [MR.size, hsz]) (by simp [MR.ev, MR.size, hsz, e1, f1]) (by decide)) ?_
    refine MR.takeH (i := 12) (some 15) (.bool false) rfl rfl (by kernel_rfl) (by kernel_rfl) (by kernel_rfl) (fun _ _ _ h => h) hS (MR.free rfl) (fun wq hw => by simp [execOp, MR.ev, MR.size, hsz, e1, f1, go_sem]) ?_
    refine MR.takeH (i := 13) (some 2) (.bool false) rfl rfl (by kernel_rfl) (by kernel_rfl) (by kernel_rfl) (fun _ _ _ h => h) hS (MR.free rfl) (fun wq hw => by simp [execOp, MR.ev, MR.size, hsz, e1, f1, go_sem]) ?_
    refine wpAnyH_done (by kernel_rfl) ?_ _
    have hB6 : Below w.heap.size w W.drew := HH.out.2.1.drew
    rw [HA.out]
    clear hS HA e1 f1 hsz c0 HH hn0
    simp only [Act.put, List.setIfInBounds_toArray, List.set_cons_succ, List.set_cons_zero]
    go_wp2
    go_ret
    exact ⟨retBb hok2.out, hB6⟩
  · have hn0 : 0 < xs.length := by cases xs with | nil => exact absurd rfl h0 | cons x l => simp
    have TO : Hid _ := fun W h => totalW_any g xs (PL.sh xs xs.length) W hn hg h
    have FM : Hid _ := fun W => firstMarks_any (PL.total xs) W (PL.total_le hg)
    obtain ⟨R, hR⟩ : ∃ R, allTh xs = R := ⟨_, rfl⟩
    have hok2 : Hid (R = wholeOk xs) := by rw [hok, hR]; simp [Hid, h0]
    have hE : ∀ W, (binOp .eql 69 (.agg (MA.tF (PL.sh xs xs.length).th).toArray) (.agg (MA.tF fun p => decide (p < PL.total xs)).toArray)).run Try.prog W = .ok (.bool R) W := by
      intro W
      obtain ⟨i4, hi4⟩ : ∃ i, Try.prog.info? 4 = some i := Option.isSome_iff_exists.1 (by kernel_rfl)
      have := MA.eql_arr (P := Try.prog) (w := W) Try.underlying69 hi4 (by kernel_rfl) (by go_simp) (fun p => ((PL.sh xs xs.length).th p == decide (p < PL.total xs))) (xs := MA.tF (PL.sh xs xs.length).th) (ys := MA.tF fun p => decide (p < PL.total xs)) (fun p hp => ⟨_, _, MA.tF_get _ hp, MA.tF_get _ hp, run_equalIn_bool W 9998 4 _ _ Try.underlying4⟩)
      rw [this, ← hR]; rfl
    go_enter Try.func44, Try.ntmps44
    generalize hW : w.alloc (.cells (stF (.slice (some ⟨g, 0, none⟩) xs.length xs.length) (PL.sh xs xs.length)).toArray 75) = W at HH
    clear hok hR
    go_wp2
    clear hW
    have c0 : W.cell? ⟨w.heap.size, 0, none⟩ = some (.slice (some ⟨g, 0, none⟩) xs.length xs.length) := (st_parts HH.out.1).2.2.cell (j := 0) rfl
    have hq := HH.out.1.lt
    have hTr := (st_parts HH.out.1).1.rng
    have hPr := HH.out.1.rng
    have hrow : MP.BsAt W (some ⟨g, 0, none⟩) xs := HH.out.2.2
    refine MR.frame fun A hA => ?_
    have hsz : A.tmps.size = 16 := by rw [hA]; rfl
    have e1 : A.eval (.tmp 1) = .pointer (some ⟨w.heap.size, 0, none⟩) := by rw [hA]; rfl
    have f1 := MR.read (t := 1) (by rw [hsz]; decide) e1
    have HA : Hid (A = _) := hA
    clear hA
    have hS : (fun w' : World => Below W.heap.size W w') (World.drew _) := ((Below.refl _ W).drew)
    refine wp_region_held (S := fun w' : World => Below W.heap.size W w') (by kernel_rfl) ?_
    change wpAnyH _ _ _ _ _ _ _ _ (World.drew _)
    refine MR.takeH (i := 0) (some 3) (.pointer (some ⟨w.heap.size, 0, none⟩)) rfl rfl (by kernel_rfl) (by kernel_rfl) (by kernel_rfl) (fun _ _ _ h => h) hS (MR.free rfl) (fun wq hw => by simp [execOp, MR.ev, MR.size, hsz, e1, f1, go_sem]) ?_
    refine MR.takeH (i := 1) (some 4) (.slice (some ⟨g, 0, none⟩) xs.length xs.length) rfl rfl (by kernel_rfl) (by kernel_rfl) (by kernel_rfl) (fun _ _ _ h => h) hS (MR.free rfl) (fun wq hw => by simp [execOp, MR.ev, MR.size, hsz, e1, f1, (hw.cell (p := ⟨w.heap.size, 0, none⟩) hq).trans c0, go_sem]) ?_
    refine MR.takeH (i := 2) (some 5) (.int .i64 (xs.length : Int)) rfl rfl (by kernel_rfl) (by kernel_rfl) (by kernel_rfl) (fun _ _ _ h => h) hS (MR.free rfl) (fun wq hw => by simp [execOp, MR.ev, MR.size, hsz, e1, f1, go_sem]) ?_
    refine MR.takeH (i := 3) (some 6) (.bool true) rfl rfl (by kernel_rfl) (by kernel_rfl) (by kernel_rfl) (fun _ _ _ h => h) hS (MR.free rfl) (fun wq hw => by simp [execOp, MR.ev, MR.size, hsz, e1, f1, hn0, go_sem]) ?_
    refine MR.takeH (i := 4) (some 7) (.bool true) rfl rfl (by kernel_rfl) (by kernel_rfl) (by kernel_rfl) (fun _ _ _ h => h) hS (MR.free rfl) (fun wq hw => by simp [execOp, MR.ev, MR.size, hsz, e1, f1, go_sem]) ?_
    refine MR.takeH (i := 5) (some 8) (.pointer (some ⟨w.heap.size, 1, none⟩)) rfl rfl (by kernel_rfl) (by kernel_rfl) (by kernel_rfl) (fun _ _ _ h => h) hS (MR.want (d := 7) rfl rfl (by simp [MR.size, hsz]) (by simp [MR.ev, MR.size, hsz, e1, f1])) (fun wq hw => by simp [execOp, MR.ev, MR.size, hsz, e1, f1, go_sem]) ?_
    refine MR.takeH (i := 6) (some 9) (.pointer (some ⟨w.heap.size, 1, none⟩)) rfl rfl (by kernel_rfl) (by kernel_rfl) (by kernel_rfl) (fun _ _ _ h => h) hS (MR.want (d := 7) rfl rfl (by simp [MR.size, hsz]) (by simp [MR.ev, MR.size, hsz, e1, f1])) (fun wq hw => by simp [execOp, MR.ev, MR.size, hsz, e1, f1, go_sem]) ?_
    refine MR.takeH (i := 7) (some 10) (.agg (MA.tF (PL.sh xs xs.length).th).toArray) rfl rfl (by kernel_rfl) (by kernel_rfl) (by kernel_rfl) (fun _ _ _ h => h) hS (MR.want (d := 7) rfl rfl (by simp [MR.size, hsz]) (by simp [MR.ev, MR.size, hsz, e1, f1])) (fun w hw => MA.ex_load rfl (by simp [MR.ev, MR.size, hsz, e1, f1]) (MA.range_below hTr hw hq) Try.underlying69 rfl Try.sizeMarks (MA.tF_len _)) ?_
    refine MR.takeH (i := 8) (some 11) (.agg (stF (.slice (some ⟨g, 0, none⟩) xs.length xs.length) (PL.sh xs xs.length)).toArray) rfl rfl (by kernel_rfl) (by kernel_rfl) (by kernel_rfl) (fun _ _ _ h => h) hS (MR.want (d := 7) rfl rfl (by simp [MR.size, hsz]) (by simp [MR.ev, MR.size, hsz, e1, f1])) (fun w hw => MA.ex_load rfl (by simp [MR.ev, MR.size, hsz, e1, f1]) (MA.range_below hPr hw hq) Try.underlying75 rfl Try.sizeStack (st_len _ _ _ _)) ?_
    refine MR.callH (i := 9) (some 12) (46) (#[.agg (stF (.slice (some ⟨g, 0, none⟩) xs.length xs.length) (PL.sh xs xs.length)).toArray]) (by kernel_rfl) rfl rfl (MR.want (d := 7) rfl rfl (by simp [MR.size, hsz]) (by simp [MR.ev, MR.size, hsz, e1, f1])) (by simp [execOp, MR.ev, MR.size, hsz, e1, f1, go_sem]) ?_
    refine Calls.mono (TO.out _ (hrow.below hS)) ?_
    rintro e w5 ⟨rfl, hb5⟩
    have hS5 : Below W.heap.size W w5 := hS.trans (hb5.mono hS.size)
    refine ⟨_, rfl, hS5, ?_⟩
    refine MR.callH (i := 10) (some 13) (66) (#[.int .i64 (PL.total xs : Int)]) (by kernel_rfl) rfl rfl (MR.want (d := 7) rfl rfl (by simp [MR.size, hsz]) (by simp [MR.ev, MR.size, hsz, e1, f1])) (by simp [execOp, MR.ev, MR.size, hsz, e1, f1, go_sem]) ?_
    refine Calls.mono (FM.out _) ?_
    rintro e w6 ⟨rfl, hb6⟩
    have hS6 : Below W.heap.size W w6 := hS5.trans (hb6.mono hS5.size)
    refine ⟨_, rfl, hS6, ?_⟩
    refine MR.takeH (i := 11) (some 14) (.bool R) rfl rfl (by kernel_rfl) (by kernel_rfl) (by kernel_rfl) (fun _ _ _ h => h) hS6 (MR.want (d := 7) rfl rfl (by simp [MR.size, hsz]) (by simp [MR.ev, MR.size, hsz, e1, f1])) (fun wq hw => by simp [execOp, MR.ev, MR.size, hsz, e1, f1, hE, go_sem]) ?_
    refine MR.takeH (i := 12) (some 15) (.bool R) rfl rfl (by kernel_rfl) (by kernel_rfl) (by kernel_rfl) (fun _ _ _ h => h) hS6 (MR.free rfl) (fun wq hw => by simp [execOp, MR.ev, MR.size, hsz, e1, f1, go_sem]) ?_
    refine MR.takeH (i := 13) (some 2) (.bool R) rfl rfl (by kernel_rfl) (by kernel_rfl) (by kernel_rfl) (fun _ _ _ h => h) hS6 (MR.free rfl) (fun wq hw => by simp [execOp, MR.ev, MR.size, hsz, e1, f1, go_sem]) ?_
    refine wpAnyH_done (by kernel_rfl) ?_ _
    have hB6 : Below w.heap.size w w6 := HH.out.2.1.trans (hS6.mono HH.out.2.1.size)
    rw [HA.out]
    clear hS hS5 hS6 hb5 hb6 HA e1 f1 hsz c0 HH TO FM hE hTr hPr hrow
    simp only [Act.put, List.setIfInBounds_toArray, List.set_cons_succ, List.set_cons_zero]
    go_wp2
    go_ret
    exact ⟨retBb hok2.out, hB6⟩
end Go.Proofs.Ytepgmmigacafeaa

/- FnPieces, plain: the pieces that CutBundle makes, cut once more or not, put together in whatever order. -/
namespace Go.Proofs.Ytepgmmigacafeaa
namespace PP
open MP PL
theorem wh_of {b : Bd} {n : Int} (h : CB.ok b n = true) : Wh b := by
  obtain ⟨h1, h2, h3, _, _⟩ := CB.ok_is h
  exact ⟨h1, h2, by omega⟩
theorem res_at {b : Bd} {n : Int} (h : CB.ok b n = true) : ∃ m : Nat, 1 ≤ m ∧ (CB.res b n).length = CB.num b m ∧ ∀ j, j < CB.num b m → at_ (CB.res b n) j = CB.pc b m j := by
  obtain ⟨h1, h2, h3, h4, h5⟩ := CB.ok_is h
  obtain ⟨m, rfl⟩ := Int.eq_ofNat_of_zero_le (show (0 : Int) ≤ n by omega)
  refine ⟨m, by omega, by rw [CB.res_yes h, CB.ls_len], fun j hj => ?_⟩
  rw [CB.res_yes h]
  unfold CB.ls
  rw [at_eq _ _ (by simpa using hj)]
  simp
theorem pc_is (b : Bd) (m j : Nat) : CB.pc b m j = mk b (j * m) (min (j * m + m) b.py.size) := rfl
theorem num_pos {b : Bd} {m j : Nat} (hm : 1 ≤ m) (h : j < CB.num b m) : j * m < b.py.size := by
  apply Classical.byContradiction
  intro hc
  have := CB.num_ge (b := b) (m := m) (k := j) hm hc
  omega
theorem res_is {b : Bd} {n : Int} (h : CB.ok b n = true) : 0 < (CB.res b n).length ∧ (CB.res b n).length ≤ 60 ∧ (∀ j, j < (CB.res b n).length → Is b (at_ (CB.res b n) j)) ∧ ∀ p, p < b.py.size → ∃ j, j < (CB.res b n).length ∧ inn (at_ (CB.res b n) j) p = true := by
  obtain ⟨m, hm, hl, hat⟩ := res_at h
  have W := wh_of h
  have hn := W.n60
  have h1 := W.n1
  have hp0 : 0 < CB.num b m := CB.num_lt hm (by omega)
  have hp1 : CB.num b m ≤ b.py.size := CB.num_le hm
  rw [hl]
  refine ⟨hp0, by omega, fun j hj => ?_, fun p hp => ?_⟩
  · have := num_pos hm hj
    rw [hat j hj, pc_is]
    exact ⟨_, _, by omega, by omega, rfl⟩
  · have hdm := Nat.div_add_mod p m
    have hmod := Nat.mod_lt p hm
    have hmul : m * (p / m) = p / m * m := Nat.mul_comm _ _
    have hj : p / m < CB.num b m := CB.num_lt hm (by omega)
    refine ⟨p / m, hj, ?_⟩
    rw [hat _ hj, pc_is]
    exact (inn_mk (by omega) (by omega)).2 ⟨by omega, by omega⟩
theorem part_is {b : Bd} {i e x y : Nat} (he : e ≤ b.py.size) (hy : y ≤ e - i) : partB (mk b i e) x y = mk b (i + x) (i + y) := by
  unfold partB mk
  have h1 : ((i : Int) + (x : Int)) = ((i + x : Nat) : Int) := by omega
  have h2 : (b.py.extract i e).extract x y = b.py.extract (i + x) (i + y) := by
    apply ByteArray.ext
    apply Array.ext
    · show ((b.py.extract i e).extract x y).size = (b.py.extract (i + x) (i + y)).size
      simp only [ByteArray.size_extract]; omega
    · intro k h1 h2
      show ((b.py.extract i e).extract x y)[k]'h1 = (b.py.extract (i + x) (i + y))[k]'h2
      simp only [ByteArray.getElem_extract]
      congr 1; omega
  rw [h1, h2]
/-- A piece cut in two. -/
theorem cut_two {b x : Bd} (W : Wh b) (hx : Is b x) {y : Nat} (h1 : 1 ≤ y) (h2 : y < x.py.size) : cutOk x (y : Int) = true ∧ Is b (cutA x (y : Int)) ∧ Is b (cutB x (y : Int)) ∧ ∀ p, inn x p = true → inn (cutA x (y : Int)) p = true ∨ inn (cutB x (y : Int)) p = true := by
  obtain ⟨i, e, hi, he, rfl⟩ := hx
  have hs := size_mk (b := b) (i := i) he
  have hok : cutOk (mk b i e) (y : Int) = true := by
    simp only [cutOk, Bool.and_eq_true, decide_eq_true_eq]
    exact ⟨⟨pg_mk W hi he, by omega⟩, by omega⟩
  obtain ⟨hA, hB⟩ := cut_yes hok
  rw [part_is he (by omega)] at hA
  rw [hs, part_is he (by omega)] at hB
  rw [hA, hB, show i + 0 = i from rfl, show i + (e - i) = e from by omega]
  refine ⟨hok, ⟨_, _, by omega, by omega, rfl⟩, ⟨_, _, by omega, by omega, rfl⟩, fun p hp => ?_⟩
  have := (inn_mk hi he).1 hp
  by_cases hc : p < i + y
  · exact .inl ((inn_mk (by omega) (by omega)).2 ⟨by omega, by omega⟩)
  · exact .inr ((inn_mk (by omega) (by omega)).2 ⟨by omega, by omega⟩)
/-- What a cut piece's halves are. -/
theorem cut_join {c : Bd} {x : Int} (h : cutOk c x = true) : (cutA c x).py ++ (cutB c x).py = c.py ∧ B1.good (cutA c x) = true ∧ B1.good (cutB c x) = true := by
  have h' := h
  simp only [cutOk, Bool.and_eq_true, decide_eq_true_eq] at h'
  obtain ⟨⟨hp, h1⟩, h2⟩ := h'
  obtain ⟨n, rfl⟩ := Int.eq_ofNat_of_zero_le (show (0 : Int) ≤ x by omega)
  obtain ⟨hA, hB⟩ := cut_yes h
  have hpi := pg_is hp
  have hpp := hpi.1
  have hh : B1.head c = true := by
    unfold B1.good at hpp
    simp only [Bool.and_eq_true] at hpp
    exact hpp.1.1
  have hg : ∀ a e : Nat, a < e → e ≤ c.py.size → B1.good (partB c a e) = true := fun a e ha he => by
    have hs : (c.py.extract a e).size = e - a := by rw [ByteArray.size_extract]; omega
    have hs' : (partB c a e).py.size = e - a := hs
    have ht : (partB c a e).tl = c.tl := rfl
    have ho : (partB c a e).of = c.of + (a : Int) := rfl
    unfold B1.good B1.placed
    rw [show B1.head (partB c a e) = B1.head c from rfl, hh, hs', ht, ho, if_neg (by omega)]
    simp only [Bool.and_eq_true, decide_eq_true_eq, Bool.true_and]
    exact ⟨by omega, ⟨B1.inB_yes (by omega), by omega⟩, B1.inB_yes (by omega)⟩
  rw [hA, hB]
  refine ⟨?_, hg _ _ (by omega) (by omega), hg _ _ (by omega) (by omega)⟩
  show c.py.extract 0 n ++ c.py.extract n c.py.size = c.py
  rw [← ByteArray.extract_eq_extract_append_extract _ (by omega) (by omega)]
  simp
/-- What has been put in so far, beginning with the s-th piece. -/
def Vis (L : List Bd) (s k : Nat) (xs : List Bd) : Prop := ∀ i, i < k → ∀ p, inn (at_ L ((i + s) % L.length)) p = true → Cov xs p
theorem Vis.zero (L : List Bd) (s : Nat) (xs : List Bd) : Vis L s 0 xs := fun i hi => absurd hi (by omega)
theorem Vis.succ {L : List Bd} {s k : Nat} {xs ys : List Bd} (h : Vis L s k xs) (hm : ∀ y, y ∈ xs → y ∈ ys) (hp : ∀ p, inn (at_ L ((k + s) % L.length)) p = true → Cov ys p) : Vis L s (k + 1) ys := fun i hi p hpi => by
  by_cases e : i = k
  · subst e; exact hp p hpi
  · exact (h i (by omega) p hpi).more hm
/-- All have been put in: the bundle comes back. -/
theorem Vis.all {b : Bd} {n : Int} (h : CB.ok b n = true) {s : Nat} {xs : List Bd} (P : Pile b xs) (hv : Vis (CB.res b n) s (CB.res b n).length xs) : wholeOk xs = true ∧ wholeB xs = b ∧ missN xs = 0 := by
  obtain ⟨h0, _, _, h3⟩ := res_is h
  refine whole_is (wh_of h) P fun p hp => ?_
  obtain ⟨j, hj, hin⟩ := h3 p hp
  generalize CB.res b n = L at *
  obtain ⟨i, hi, e⟩ : ∃ i, i < L.length ∧ (i + s) % L.length = j := by
    refine ⟨(j + (L.length - s % L.length)) % L.length, Nat.mod_lt _ h0, ?_⟩
    have hs := Nat.mod_lt s h0
    rw [Nat.mod_add_mod]
    have hd := Nat.div_add_mod s L.length
    have : j + (L.length - s % L.length) + s = j + L.length * (s / L.length + 1) := by rw [Nat.mul_add]; omega
    rw [this, Nat.add_mul_mod_self_left, Nat.mod_eq_of_lt hj]
  exact hv i hi p (by rw [e]; exact hin)
/-- A round: the piece itself is added. -/
theorem round_one {b : Bd} (W : Wh b) {L xs : List Bd} {s k : Nat} {x : Bd} (P : Pile b xs) (hv : Vis L s k xs) (hx : Is b x) (he : ∀ p, inn (at_ L ((k + s) % L.length)) p = true → inn x p = true ∨ Cov xs p) :
    ((PD.ans xs x).2 = true ∧ Pile b (PD.ans xs x).1 ∧ Vis L s (k + 1) (PD.ans xs x).1 ∧ PD.ans (PD.ans xs x).1 x = ((PD.ans xs x).1, true)) ∨ ((PD.ans xs x).2 = false ∧ xs.length = 60) := by
  rcases ans_is W P hx with ⟨h1, h2, h3, h4⟩ | h
  · refine .inl ⟨h1, h2, hv.succ h4 fun p hp => ?_, ans_again W h2 hx h3⟩
    rcases he p hp with h | h
    · exact Cov.of_same h3 h
    · exact h.more h4
  · exact .inr h
theorem Vis.more {L xs ys : List Bd} {s k : Nat} (h : Vis L s k xs) (hm : ∀ y, y ∈ xs → y ∈ ys) : Vis L s k ys := fun i hi p hp => (h i hi p hp).more hm
/-- One half is added ahead of the other. -/
theorem round_half {b : Bd} (W : Wh b) {L xs : List Bd} {s k : Nat} {x : Bd} (P : Pile b xs) (hv : Vis L s k xs) (hx : Is b x) :
    ((PD.ans xs x).2 = true ∧ Pile b (PD.ans xs x).1 ∧ Vis L s k (PD.ans xs x).1 ∧ ∀ p, inn x p = true → Cov (PD.ans xs x).1 p) ∨ ((PD.ans xs x).2 = false ∧ xs.length = 60) := by
  rcases ans_is W P hx with ⟨h1, h2, h3, h4⟩ | h
  · exact .inl ⟨h1, h2, hv.more h4, fun p hp => Cov.of_same h3 hp⟩
  · exact .inr h
theorem Is.sz {b x : Bd} (W : Wh b) (h : Is b x) : 1 ≤ x.py.size ∧ x.py.size ≤ 60 := by
  obtain ⟨i, e, hi, he, rfl⟩ := h
  have := W.n60
  rw [size_mk he]; omega
theorem Pile.sz {b : Bd} (W : Wh b) {xs : List Bd} (P : Pile b xs) : ∀ k, k < xs.length → (at_ xs k).py.size ≤ 1048576 := fun k hk => by
  have := (P.is _ (at_mem hk)).sz W
  omega
end PP
end Go.Proofs.Ytepgmmigacafeaa

/- The program's whole and WholeOf, at any pile. -/
namespace Go.Proofs.Ytepgmmigacafeaa
open Go.RowKit
set_option linter.unusedSimpArgs false in
theorem run_sliceHi {P : Program} {w : World} {t e : TypeId} {m o b f : Nat} (hu : P.underlying t = some (.array m e)) (hsz : ∀ w, (sizeOf e).run P w = .ok 1 w) (ho : o ≤ m) (hm : 0 < m) :
    (Instr.sliceAt t (.pointer (some ⟨b, f, none⟩)) none (some (.int .i64 (o : Int))) none).run P w = .ok (.slice (some ⟨b, f, none⟩) o m) w := by
  have h1 : (0 : Int) ≤ (o : Int) := by omega
  have h2 : (o : Int) ≤ (m : Int) := by omega
  have h3 : ¬ (m = 0) := by omega
  simp [Instr.sliceAt, run_underlying hu, Instr.sureAddr, Instr.sliceBounds, go_sem, h1, h2, hsz, Addr.add_mid]
/-- What the memory of the call holds. -/
structure WpIn (w W : World) (L : List Value) : Prop where
  below : Below w.heap.size w W
  arg : MA.Rg W w.heap.size 0 L
  res : MA.Rg W (w.heap.size + 1) 0 (Bd.cs B1.zero)
theorem WpIn.kept {w W W' : World} {L : List Value} (h : WpIn w W L) (hb : Below W.heap.size W W') : WpIn w W' L :=
  ⟨h.below.trans (hb.mono h.below.size), h.arg.below hb h.arg.lt, h.res.below hb h.res.lt⟩
theorem WpIn.set {w W : World} {L : List Value} (h : WpIn w W L) (q j : Nat) (u : Value) (hq : w.heap.size + 1 < q) : WpIn w (W.setCell ⟨q, j, none⟩ u) L :=
  ⟨h.below.setCell (p := ⟨q, j, none⟩) (by simp; omega) u, h.arg.other (k' := q) (o' := j) (vs := [u]) (.inl (by omega)), h.res.other (k' := q) (o' := j) (vs := [u]) (.inl (by omega))⟩
set_option linter.unusedSimpArgs false in
set_option maxHeartbeats 1600000 in
set_option maxRecDepth 100000 in
theorem whole_any (g : Nat) (xs : List Bd) (w : World) (hn : xs.length ≤ 1048576) (hg : PL.good xs = true) (hok : wholeOk xs = true) (hin : MP.BsAt w (some ⟨g, 0, none⟩) xs) :
    Calls Try.prog 45 #[.agg (stF (.slice (some ⟨g, 0, none⟩) xs.length xs.length) (PL.sh xs xs.length)).toArray] w fun e w' => e = .returned (.agg (wholeB xs).cs.toArray) ∧ Below w.heap.size w w' := by
  have h0 : xs ≠ [] := by intro h; subst h; simp [wholeOk] at hok
  have hn0 : 0 < xs.length := by cases xs with | nil => exact absurd rfl h0 | cons x l => simp
  have htl : (MP.at_ xs 0).tl = (PL.total xs : Int) := by
    have p0 := PL.pg_is ((PL.good_inv hg).1.2.2.2 0 hn0)
    unfold PL.total; rw [if_neg h0]; omega
  have hT := PL.total_le hg
  have HW0 : Hid (WpIn w ((w.alloc (.cells (stF (.slice (some ⟨g, 0, none⟩) xs.length xs.length) (PL.sh xs xs.length)).toArray 75)).alloc (.cells (Bd.cs B1.zero).toArray 62)) (stF (.slice (some ⟨g, 0, none⟩) xs.length xs.length) (PL.sh xs xs.length))) := ⟨((Below.refl _ w).alloc (Nat.le_refl _) _).alloc (by simp) _, (MA.Rg.new w (stF (.slice (some ⟨g, 0, none⟩) xs.length xs.length) (PL.sh xs xs.length)) 75).alloc _, MA.Rg.new' _ (Bd.cs B1.zero) 62 (w.heap.size + 1) (by simp)⟩
  have hrow := hin.below HW0.out.below
  obtain ⟨b, off, hab, hbl, rg⟩ := MA.row_range hrow hn0
  cases hab
  rw [Nat.zero_mul, Nat.add_zero] at rg
  obtain ⟨x0, hx0⟩ : ∃ x0, MP.at_ xs 0 = x0 := ⟨_, rfl⟩
  rw [hx0] at rg htl
  have HX0 : Hid (MP.at_ xs 0 = x0) := hx0
  have hWB : Hid (wholeB xs = ⟨x0.fr, x0.to, x0.gr, x0.md, x0.no, x0.lf, minH xs xs.length, 0, 0, textN (PL.total xs) (PL.sh xs xs.length).by_⟩) := by show _ = _; rw [whole_yes hok, HX0.out]
  have HTX : Hid _ := htl
  have HB60 : Hid (∀ p, (PL.sh xs xs.length).by_ p < 256) := by_lt xs xs.length
  have hc0 : World.cell? ((w.alloc (.cells (stF (.slice (some ⟨g, 0, none⟩) xs.length xs.length) (PL.sh xs xs.length)).toArray 75)).alloc (.cells (Bd.cs B1.zero).toArray 62)) ⟨w.heap.size, 0, none⟩ = some (.slice (some ⟨g, 0, none⟩) xs.length xs.length) := (st_parts HW0.out.arg).2.2.cell (j := 0) rfl
  have HC0 : Hid _ := hc0
  have RG0 : Hid _ := rg
  clear hx0 rg hbl hrow hok h0 htl hg hc0
  generalize PL.total xs = n at *
  go_enter Try.func45, Try.ntmps45
  go_wp2_with (first
    | (refine MA.alloc_z rfl 62 rfl _ _ Try.infoParcel ?_; simp only [MA.sz_alloc]; generalize World.alloc (World.alloc _ _) _ = W1 at *; have c0 := HC0.out; have hr1 : w.heap.size + 1 < W1.heap.size := HW0.out.res.lt; have RG : Hid _ := RG0.out; have HX : Hid _ := new_bw W1 x0 62; have HRN : Hid _ := MA.Rg.new W1 (Bd.cs B1.zero) 62; clear HC0 RG0)
    | (refine MA.load_r rfl 62 _ rfl rfl (cs := x0.cs) ?_ Try.underlying62 rfl Try.sizeParcel rfl ?_; exact RG.out)
    | (refine MA.alloc_z rfl 62 rfl _ _ Try.infoParcel ?_; simp only [MA.sz_alloc])
    | (refine MA.store_m rfl 62 _ _ rfl rfl rfl (vs := x0.cs) (cs := Bd.cs B1.zero) ?_ Try.sizeParcel rfl rfl (MA.cs_one _) ?_; exact HRN.out; clear HRN RG c0; generalize World.setCells _ _ _ _ = W3 at *; replace HW0 : Hid _ := HW0.out.kept HX.out.1; have c0 : W3.cell? ⟨w.heap.size, 0, none⟩ = some (.slice (some ⟨g, 0, none⟩) xs.length xs.length) := (st_parts HW0.out.arg).2.2.cell (j := 0) rfl))
  have hq8 : Hid (MA.Rg W3 W1.heap.size 0 (withH x0 (minH xs 0)).cs) := by
    have e : (withH x0 (minH xs 0)).cs = x0.cs := by simp [withH, minH, HX0.out, Bd.cs]
    show MA.Rg _ _ _ _
    rw [e]; exact HX.out.2
  clear HX c0
  generalize W1.heap.size = q8 at *
  go_loopw [13] (fun iv wr => ∃ k : Nat, iv = .int .i64 k ∧ k ≤ xs.length ∧ WpIn w wr (stF (.slice (some ⟨g, 0, none⟩) xs.length xs.length) (PL.sh xs xs.length)) ∧ MA.Rg wr q8 0 (withH x0 (minH xs k)).cs) (fun iv _ => (xs.length - intOf iv).toNat)
  case atStart => exact ⟨0, rfl, by omega, HW0.out, hq8.out⟩
  case round =>
    clear HW0 hq8
    obtain ⟨k, rfl, hk, hI, h8⟩ := hrel
    by_cases hl : k < xs.length
    · obtain ⟨b', off', hab, hbl, rg⟩ := MA.row_range (hin.below hI.below) hl
      cases hab
      obtain ⟨x, hx⟩ : ∃ x, MP.at_ xs k = x := ⟨_, rfl⟩
      rw [hx, Nat.zero_add] at rg
      have HXK : Hid (minH xs (k + 1) = if x.hp < minH xs k then x.hp else minH xs k) := by show _ = _; rw [← hx]; rfl
      have RG : Hid _ := rg
      have HX : Hid _ := new_bw wr x 62
      have HRN : Hid _ := MA.Rg.new wr (Bd.cs B1.zero) 62
      have HI : Hid _ := hI
      have H8 : Hid _ := h8
      have hk0 : (0 : Int) ≤ (k : Int) := by omega
      have hkn : (k : Int) < (xs.length : Int) := by omega
      clear hx rg hbl hI h8
      by_cases hlt : x.hp < minH xs k
      · have e : Hid (minH xs (k + 1) = x.hp) := by show _ = _; rw [HXK.out, if_pos hlt]
        clear HXK
        generalize minH xs k = mk at *
        go_wp2_with (first
          | (refine MA.load_r rfl 62 _ rfl rfl (cs := x.cs) ?_ Try.underlying62 rfl Try.sizeParcel rfl ?_; exact RG.out)
          | (refine MA.alloc_z rfl 62 rfl _ _ Try.infoParcel ?_; simp only [MA.sz_alloc])
          | (refine MA.store_m rfl 62 _ _ rfl rfl rfl (vs := x.cs) (cs := Bd.cs B1.zero) ?_ Try.sizeParcel rfl rfl (MA.cs_one _) ?_; exact HRN.out; clear HRN RG; generalize World.setCells _ _ _ _ = W5 at *; have hI5 := HI.out.kept HX.out.1; have h85 := H8.out.below HX.out.1 H8.out.lt; have cx6 := cell6 HX.out.2; have c86 : W5.cell? ⟨q8, 6, none⟩ = some (.int .i64 mk) := cell6 h85; have f86 := free6 h85; have HI5 : Hid _ := hI5; have H85 : Hid _ := h85; clear hI5 h85 HI H8 HX))
        have h86 := H85.out.put1 (j := 6) (by simp [Bd.cs]) (.int .i64 x.hp)
        rw [Nat.zero_add] at h86
        have e6 : (withH x0 mk).cs.set 6 (.int .i64 x.hp) = (withH x0 x.hp).cs := by simp [withH, Bd.cs]
        rw [e6] at h86
        replace h86 : MA.Rg (W5.setCell ⟨q8, 6, none⟩ (.int .i64 x.hp)) q8 0 (withH x0 (minH xs (k + 1))).cs := by rw [e.out]; exact h86
        have hI6 := HI5.out.set q8 6 (.int .i64 x.hp) (by omega)
        go_roundw
        case rel => exact ⟨k + 1, by go_num, by omega, hI6, h86⟩
        case measure => simp [intOf]; omega
      · have e : Hid (minH xs (k + 1) = minH xs k) := by show _ = _; rw [HXK.out, if_neg hlt]
        clear HXK
        obtain ⟨mk, hmk⟩ : ∃ mk, minH xs k = mk := ⟨_, rfl⟩
        rw [hmk] at H8 hlt e
        clear hmk
        go_wp2_with (first
          | (refine MA.load_r rfl 62 _ rfl rfl (cs := x.cs) ?_ Try.underlying62 rfl Try.sizeParcel rfl ?_; exact RG.out)
          | (refine MA.alloc_z rfl 62 rfl _ _ Try.infoParcel ?_; simp only [MA.sz_alloc])
          | (refine MA.store_m rfl 62 _ _ rfl rfl rfl (vs := x.cs) (cs := Bd.cs B1.zero) ?_ Try.sizeParcel rfl rfl (MA.cs_one _) ?_; exact HRN.out; clear HRN RG; generalize World.setCells _ _ _ _ = W5 at *; have hI5 := HI.out.kept HX.out.1; have h85 := H8.out.below HX.out.1 H8.out.lt; have cx6 := cell6 HX.out.2; have c86 : W5.cell? ⟨q8, 6, none⟩ = some (.int .i64 mk) := cell6 h85; have f86 := free6 h85; have HI5 : Hid _ := hI5; have H85 : Hid _ := h85; clear hI5 h85 HI H8 HX))
        have h86 := H85.out.put1 (j := 6) (by simp [Bd.cs]) (.int .i64 mk)
        rw [Nat.zero_add] at h86
        have e6 : (withH x0 mk).cs.set 6 (.int .i64 mk) = (withH x0 mk).cs := by simp [withH, Bd.cs]
        rw [e6] at h86
        replace h86 : MA.Rg (W5.setCell ⟨q8, 6, none⟩ (.int .i64 mk)) q8 0 (withH x0 (minH xs (k + 1))).cs := by rw [e.out]; exact h86
        have hI6 := HI5.out.set q8 6 (.int .i64 mk) (by omega)
        go_roundw
        case rel => exact ⟨k + 1, by go_num, by omega, hI6, h86⟩
        case measure => simp [intOf]; omega
    · obtain rfl : k = xs.length := by omega
      have hya := (st_parts hI.arg).2.1
      have hcv : ∀ W : World, MA.Rg W w.heap.size 61 (MA.yF (PL.sh xs xs.length).by_) → (convert 22 9 (.slice (some ⟨w.heap.size, 61, none⟩) n 60)).run Try.prog W = .ok (.string (textN n (PL.sh xs xs.length).by_)) W := fun W hW => by
        have := run_convert_bytes_arg (P := Try.prog) W 22 5 Try.underlying22 Try.underlying5 w.heap.size 61 n 60 ((List.range n).map fun p => ((PL.sh xs xs.length).by_ p : Int)) (by simp) (fun i hi => by
          have h := hW.cell (MA.yF_get (PL.sh xs xs.length).by_ (p := i) (by omega))
          rw [h]; simp [hi]) 9 Try.underlying9
        rw [this]
        unfold textN
        congr 2
        apply ByteArray.ext
        show (((List.range n).map fun p => ((PL.sh xs xs.length).by_ p : Int)).map (fun n => UInt8.ofNat n.toNat)).toArray = _
        rw [List.map_map]
        rfl
      have hsl : ∀ W, (Instr.sliceAt 71 (.pointer (some ⟨w.heap.size, 61, none⟩)) none (some (.int .i64 (n : Int))) none).run Try.prog W = .ok (.slice (some ⟨w.heap.size, 61, none⟩) n 60) W := fun W => run_sliceHi Try.underlying71 (by go_simp) (by omega) (by omega)
      have hcv1 := hcv wr hya
      have HI : Hid _ := hI
      generalize minH xs xs.length = mk at *
      generalize textN n (PL.sh xs xs.length).by_ = tx at *
      have c7 : wr.cell? ⟨q8, 7, none⟩ = some (.int .i64 x0.of) := cell7w (x := withH x0 mk) h8
      have f7 := free7w h8
      have c8 : wr.cell? ⟨q8, 8, none⟩ = some (.int .i64 (n : Int)) := by rw [← HTX.out]; exact cell8w (x := withH x0 mk) h8
      have f8 := free8w h8
      have c9 : wr.cell? ⟨q8, 9, none⟩ = some (.string x0.py) := cell9w (x := withH x0 mk) h8
      have f9 := free9w h8
      have r9 := ((h8.put1 (j := 9) (by simp [Bd.cs]) (.string tx)).put1 (j := 7) (by simp [Bd.cs]) (.int .i64 0)).put1 (j := 8) (by simp [Bd.cs]) (.int .i64 0)
      have e9 : (((withH x0 mk).cs.set 9 (.string tx)).set 7 (.int .i64 0)).set 8 (.int .i64 0) = Bd.cs ⟨x0.fr, x0.to, x0.gr, x0.md, x0.no, x0.lf, mk, 0, 0, tx⟩ := by simp [withH, Bd.cs]
      rw [e9] at r9
      simp only [Nat.zero_add] at r9
      have HI9 : Hid _ := ((HI.out.set q8 9 (.string tx) (by omega)).set q8 7 (.int .i64 0) (by omega)).set q8 8 (.int .i64 0) (by omega)
      have HR9 : Hid _ := r9
      clear r9 e9 hI h8 HI hya hcv
      go_wp2_with (first
        | (refine MA.load_r rfl 62 _ rfl rfl (cs := Bd.cs ⟨x0.fr, x0.to, x0.gr, x0.md, x0.no, x0.lf, mk, 0, 0, tx⟩) ?_ Try.underlying62 rfl Try.sizeParcel rfl ?_; exact HR9.out.rng)
        | (refine MA.store_m rfl 62 _ _ rfl rfl rfl (vs := Bd.cs ⟨x0.fr, x0.to, x0.gr, x0.md, x0.no, x0.lf, mk, 0, 0, tx⟩) (cs := Bd.cs B1.zero) ?_ Try.sizeParcel rfl rfl (MA.cs_one _) ?_; exact HI9.out.res))
      exact bodyPost_ret (MA.ret_cell rfl rfl (MA.load_rg (HI9.out.res.put (vs := Bd.cs ⟨x0.fr, x0.to, x0.gr, x0.md, x0.no, x0.lf, mk, 0, 0, tx⟩) rfl) Try.underlying62 rfl Try.sizeParcel rfl)) rfl ⟨by rw [hWB.out], MA.below_cells (by omega) _ _ _ HI9.out.below⟩
theorem MA.load_gW {P : Program} {ops : Array Oper} {rest : List Oper} {op : Oper} {a : Act} {w : World} {Q : Exit → Act → World → Prop} (hw : Region.wanted op (yielded ops a.tmps) = true) (ty : TypeId) (x : Operand) (ho : op.op = .load ty x)
    {b o : Nat} (hx : a.eval x = .pointer (some ⟨b, o, none⟩)) {cs : List Value} {d : TypeDesc} (hc : w.rangeAt b o cs)
    (hu : P.underlying ty = some d) (hd : d.isRow = true) {n : Nat} (hi : (P.info? ty).map (·.size) = some n) (hn : cs.length = n)
    (h : wpList P ops Q rest (a.put op.dst (.agg cs.toArray)) w) : wpList P ops Q (op :: rest) a w :=
  wpList_step fun K hK => by rw [if_pos hw]; exact wp_load_mid ty x ho b o hx cs d hc hu hd (hn ▸ hi) (hK _ _ h)
set_option linter.unusedSimpArgs false in
set_option maxHeartbeats 800000 in
set_option maxRecDepth 100000 in
theorem implWhole_any (a : Option Addr) (cap : Nat) (xs : List Bd) (w : World) (hn : xs.length ≤ 1048576) (ht : Hid (∀ k, k < xs.length → (MP.at_ xs k).py.size ≤ 1048576)) (hin : MP.BsAt w a xs) :
    Calls Try.prog 12 #[.agg #[.slice a xs.length cap]] w fun e w' => e = .returned (.tuple #[.agg (wholeB xs).cs.toArray, .bool (wholeOk xs)]) ∧ Below w.heap.size w w' := by
  have SO : Hid _ := fun W h => stackOf_any a cap xs W hn ht h
  have HW0 : Hid _ := wh_start w (.slice a xs.length cap) 31 24
  have HI : Hid (MP.BsAt ((w.alloc (.cells #[.slice a xs.length cap] 31)).alloc (.cells (Bd.cs B1.zero).toArray 24)) a xs) := hin.below HW0.out.below
  go_enter Try.func12, Try.ntmps12
  go_wp2_with (refine MA.alloc_z rfl 24 rfl _ _ Try.infoBundle ?_; simp only [MA.sz_alloc]; have c00 := HW0.out.arg)
  refine (SO.out _ HI.out).mono ?_
  rintro e w2 ⟨g, rfl, hrw, hb2⟩
  replace HW0 : Hid _ := HW0.out.kept hb2
  clear SO HI hb2 c00
  rw [upOk_good'] at hrw ⊢
  obtain ⟨L, hL⟩ : ∃ L, upV xs (.slice (some ⟨g, 0, none⟩) xs.length xs.length) = L := ⟨_, rfl⟩
  have HL : Hid _ := hL
  have HL1 : Hid (L.length = 121) := by rw [← hL]; exact upV_len _ _ _ _
  have HL2 : Hid (∀ v ∈ L, v.oneCell' = true) := by rw [← hL]; exact upV_one _ _ _ _
  rw [hL]
  clear hL
  have RN : Hid _ := MA.Rg.new w2 (stF (.slice none 0 0) PL.blank) 75
  have RP : Hid (MA.Rg (World.setCells (w2.alloc (.cells (stF (.slice none 0 0) PL.blank).toArray 75)) w2.heap.size 0 L) w2.heap.size 0 L) := RN.out.put (by rw [Z_len]; exact HL1.out)
  have HB2 : Hid (Below w2.heap.size w2 (World.setCells (w2.alloc (.cells (stF (.slice none 0 0) PL.blank).toArray 75)) w2.heap.size 0 L)) := MA.below_cells (b := w2.heap.size) (Nat.le_refl _) L 0 _ ((Below.refl _ w2).alloc (Nat.le_refl _) _)
  cases hg : PL.good xs with
  | false =>
    have hok : Hid (wholeOk xs = false) := by simp [Hid, wholeOk, hg]
    clear hg hrw RP
    go_wp2_with (first
      | (refine MA.alloc_z rfl 75 rfl _ _ Try.infoStack' ?_; simp only [MA.sz_alloc])
      | (refine MA.store_m rfl 75 _ _ rfl rfl rfl (cs := stF (.slice none 0 0) PL.blank) ?_ Try.sizeStack Z_len HL1.out HL2.out ?_; exact RN.out; clear RN; generalize World.setCells _ _ _ _ = W3 at *; replace HW0 : Hid _ := HW0.out.kept HB2.out; clear HB2)
      | (refine MA.store_m rfl 24 _ _ rfl rfl rfl (vs := Bd.cs B1.zero) (cs := Bd.cs B1.zero) ?_ Try.sizeBundle rfl rfl (MA.cs_one _) ?_; exact HW0.out.res))
    exact bodyPost_ret (MA.ret_cell2 rfl rfl rfl (MA.load_rg (HW0.out.res.put (vs := Bd.cs B1.zero) rfl) Try.underlying24 rfl Try.sizeBundle rfl)) rfl ⟨by rw [hok.out, whole_no hok.out]; rfl, MA.below_cells (by omega) _ _ _ HW0.out.below⟩
  | true =>
    have hr2 := (hrw hg).2
    have eL : L = stF (.slice (some ⟨g, 0, none⟩) xs.length xs.length) (PL.sh xs xs.length) := by rw [← HL.out, upV_good _ hg]
    subst eL
    have IW : Hid _ := fun W h => isWhole_any g xs W hn hg h
    have WH : Hid _ := fun W (hok : wholeOk xs = true) h => whole_any g xs W hn hg hok h
    clear hg hrw HL
    go_wp2_with (first
      | (refine MA.alloc_z rfl 75 rfl _ _ Try.infoStack' ?_; simp only [MA.sz_alloc])
      | (refine MA.store_m rfl 75 _ _ rfl rfl rfl (cs := stF (.slice none 0 0) PL.blank) ?_ Try.sizeStack Z_len HL1.out HL2.out ?_; exact RN.out; clear RN; generalize World.setCells _ _ _ _ = W3 at *; replace HW0 : Hid _ := HW0.out.kept HB2.out; have HRW : Hid (MP.BsAt W3 (some ⟨g, 0, none⟩) xs) := MP.BsAt.below hr2 HB2.out; clear HB2)
      | (refine MA.load_gW rfl 75 _ rfl rfl (cs := stF (.slice (some ⟨g, 0, none⟩) xs.length xs.length) (PL.sh xs xs.length)) ?_ Try.underlying75 rfl Try.sizeStack (st_len _ _ _ _) ?_; exact RP.out.rng))
    refine (IW.out _ HRW.out).mono ?_
    rintro e w4 ⟨rfl, hb4⟩
    replace HW0 : Hid _ := HW0.out.kept hb4
    replace HRW : Hid (MP.BsAt w4 (some ⟨g, 0, none⟩) xs) := MP.BsAt.below HRW.out hb4
    replace RP : Hid _ := RP.out.below hb4 RP.out.lt
    clear IW hb4 hr2
    generalize w2.heap.size = q at *
    cases hok : wholeOk xs with
    | false =>
      have HOK : Hid _ := hok
      clear hok WH
      go_wp2_with (refine MA.store_m rfl 24 _ _ rfl rfl rfl (vs := Bd.cs B1.zero) (cs := Bd.cs B1.zero) ?_ Try.sizeBundle rfl rfl (MA.cs_one _) ?_; exact HW0.out.res)
      exact bodyPost_ret (MA.ret_cell2 rfl rfl rfl (MA.load_rg (HW0.out.res.put (vs := Bd.cs B1.zero) rfl) Try.underlying24 rfl Try.sizeBundle rfl)) rfl ⟨by rw [HOK.out, whole_no HOK.out]; rfl, MA.below_cells (by omega) _ _ _ HW0.out.below⟩
    | true =>
      have HOK : Hid _ := hok
      have hsz : (wholeB xs).py.size ≤ 1048576 := by
        rw [whole_yes hok]
        have hg : PL.good xs = true := by simp [wholeOk] at hok; exact hok.1.1
        have := PL.total_le hg
        show (textN (PL.total xs) (PL.sh xs xs.length).by_).size ≤ _
        have e : (textN (PL.total xs) (PL.sh xs xs.length).by_).size = PL.total xs := by simp [textN, ByteArray.size]
        omega
      have PB : Hid (∀ W : World, Calls Try.prog 35 #[.agg (wholeB xs).cs.toArray] W fun e w' => e = .returned (.agg (wholeB xs).cs.toArray) ∧ Below W.heap.size W w') := fun W => parcelBundle_any (wholeB xs) W hsz
      clear hok hsz
      go_wp2_with (refine MA.load_r rfl 75 _ rfl rfl (cs := stF (.slice (some ⟨g, 0, none⟩) xs.length xs.length) (PL.sh xs xs.length)) ?_ Try.underlying75 rfl Try.sizeStack (st_len _ _ _ _) ?_; exact RP.out.rng)
      refine (WH.out _ HOK.out HRW.out).mono ?_
      rintro e w5 ⟨rfl, hb5⟩
      replace HW0 : Hid _ := HW0.out.kept hb5
      clear WH hb5 HRW RP
      obtain ⟨O, hO⟩ : ∃ O, wholeB xs = O := ⟨_, rfl⟩
      have HO : Hid _ := hO
      rw [hO] at PB ⊢
      clear hO
      go_wp2_with fail
      refine (PB.out _).mono ?_
      rintro e w6 ⟨rfl, hb6⟩
      replace HW0 : Hid _ := HW0.out.kept hb6
      clear PB hb6
      go_wp2_with (refine MA.store_m rfl 24 _ _ rfl rfl rfl (vs := O.cs) (cs := Bd.cs B1.zero) ?_ Try.sizeBundle rfl rfl (MA.cs_one _) ?_; exact HW0.out.res)
      exact bodyPost_ret (MA.ret_cell2 rfl rfl rfl (MA.load_rg (HW0.out.res.put (vs := O.cs) rfl) Try.underlying24 rfl Try.sizeBundle rfl)) rfl ⟨by rw [HOK.out, HO.out]; rfl, MA.below_cells (by omega) _ _ _ HW0.out.below⟩
end Go.Proofs.Ytepgmmigacafeaa

/- AddPiece of the program. -/
namespace Go.Proofs.Ytepgmmigacafeaa
open Go.RowKit
theorem upOk_gd (xs : List Bd) : upOk xs = PL.good xs := PL.good_same xs
theorem MA.load_g {P : Program} {ops : Array Oper} {rest : List Oper} {op : Oper} {a : Act} {w : World} {Q : Exit → Act → World → Prop} (hw : Region.wanted op (yielded ops a.tmps) = true) (ty : TypeId) (x : Operand) (ho : op.op = .load ty x)
    {b o : Nat} (hx : a.eval x = .pointer (some ⟨b, o, none⟩)) {cs : List Value} {d : TypeDesc} (hc : w.rangeAt b o cs)
    (hu : P.underlying ty = some d) (hd : d.isRow = true) {n : Nat} (hi : (P.info? ty).map (·.size) = some n) (hn : cs.length = n)
    (h : wpList P ops Q rest (a.put op.dst (.agg cs.toArray)) w) : wpList P ops Q (op :: rest) a w :=
  wpList_step fun K hK => by rw [if_pos hw]; exact wp_load_mid ty x ho b o hx cs d hc hu hd (hn ▸ hi) (hK _ _ h)
/-- What AddPiece holds. -/
structure AdIn (w W : World) (b : Bd) : Prop where
  below : Below w.heap.size w W
  bx : MA.Rg W (w.heap.size + 1) 0 b.cs
  res : MA.Rg W (w.heap.size + 1 + 1) 0 [.slice none 0 0]
theorem AdIn.kept {w W W' : World} {b : Bd} (h : AdIn w W b) (hb : Below W.heap.size W W') : AdIn w W' b :=
  ⟨h.below.trans (hb.mono h.below.size), h.bx.below hb h.bx.lt, h.res.below hb h.res.lt⟩
theorem AdIn.start (w : World) (v : Value) (b : Bd) (t1 t2 : TypeId) : AdIn w (((w.alloc (.cells #[v] t1)).alloc (.cells b.cs.toArray t2)).alloc (.cells #[.slice none 0 0] t1)) b := by
  have hb : Below (w.heap.size + 1 + 1) ((w.alloc (.cells #[v] t1)).alloc (.cells b.cs.toArray t2)) (((w.alloc (.cells #[v] t1)).alloc (.cells b.cs.toArray t2)).alloc (.cells #[.slice none 0 0] t1)) := (Below.refl _ _).alloc (by simp) _
  exact ⟨(((Below.refl _ w).alloc (Nat.le_refl _) _).alloc (by simp) _).alloc (by simp; omega) _, (MA.Rg.new' (w.alloc (.cells #[v] t1)) b.cs t2 (w.heap.size + 1) (by simp)).below hb (by omega), MA.Rg.new' ((w.alloc (.cells #[v] t1)).alloc (.cells b.cs.toArray t2)) [.slice none 0 0] t1 (w.heap.size + 1 + 1) (by simp)⟩
theorem Try.infoParcelC : (Try.prog.info? 62).map (fun i => (i.zero, i.size)) = some (some (.agg (Bd.cs B1.zero).toArray), 10) := by kernel_rfl
theorem upV_gd {xs : List Bd} (v : Value) (h : PL.good xs = true) : upV xs v = stF v (PL.sh xs xs.length) := by
  have : upOk xs = true := by rw [upOk_gd]; exact h
  unfold upV; rw [if_pos this]
theorem put_small {xs : List Bd} {b : Bd} (ht : Hid (∀ k, k < xs.length → (MP.at_ xs k).py.size ≤ 1048576)) (hs : b.py.size ≤ 1048576) : ∀ k, k < (PD.put xs b (PD.cut xs b)).length → (MP.at_ (PD.put xs b (PD.cut xs b)) k).py.size ≤ 1048576 := by
  have hm : ∀ x, x ∈ xs → x.py.size ≤ 1048576 := fun x hx => by
    obtain ⟨i, hi, rfl⟩ := List.getElem_of_mem hx
    rw [← MP.at_eq xs i hi]; exact ht.out i hi
  intro k hk
  rw [MP.at_eq _ k hk]
  have hmem := List.getElem_mem hk
  generalize (PD.put xs b (PD.cut xs b))[k] = x at *
  unfold PD.put at hmem
  rcases List.mem_append.1 hmem with h | h
  · exact hm x (List.mem_of_mem_take h)
  · rcases List.mem_cons.1 h with rfl | h
    · exact hs
    · exact hm x (List.mem_of_mem_drop h)
set_option linter.unusedSimpArgs false in
set_option maxHeartbeats 1600000 in
set_option maxRecDepth 100000 in
theorem implAdd_any (a : Option Addr) (cap : Nat) (xs : List Bd) (b : Bd) (w : World) (hn : xs.length ≤ 1048576) (hs : b.py.size ≤ 1048576) (ht : Hid (∀ k, k < xs.length → (MP.at_ xs k).py.size ≤ 1048576)) (hin : MP.BsAt w a xs) :
    Calls Try.prog 10 #[.agg #[.slice a xs.length cap], .agg b.cs.toArray] w fun e w' => ∃ a1 c1 g', e = .returned (.tuple #[.agg #[.slice a1 (PD.ans xs b).1.length c1], .bool (PD.ans xs b).2]) ∧ w.heap.size ≤ g' ∧ ((PD.ans xs b).1.length = 0 ∨ (a1 = some ⟨g', 0, none⟩ ∧ MA.Rg w' g' 0 (MP.flat (PD.ans xs b).1))) ∧ Below w.heap.size w w' := by
  have SO : Hid _ := fun W h => stackOfG_any a cap xs W hn ht h
  have HW : Hid _ := AdIn.start w (.slice a xs.length cap) b 31 24
  have HI : Hid _ := hin.below HW.out.below
  clear hin
  go_enter Try.func10, Try.ntmps10
  go_wp2_with fail
  refine (SO.out _ HI.out).mono ?_
  rintro e w2 ⟨g, rfl, hrw, hb2⟩
  replace HW : Hid _ := HW.out.kept hb2
  clear SO HI hb2
  rw [upOk_gd] at hrw ⊢
  obtain ⟨L, hL⟩ : ∃ L, upV xs (.slice (some ⟨g, 0, none⟩) xs.length xs.length) = L := ⟨_, rfl⟩
  have HL : Hid _ := hL
  have HL1 : Hid (L.length = 121) := by rw [← hL]; exact upV_len _ _ _ _
  have HL2 : Hid (∀ v ∈ L, v.oneCell' = true) := by rw [← hL]; exact upV_one _ _ _ _
  rw [hL]
  clear hL
  have RN : Hid _ := MA.Rg.new w2 (stF (.slice none 0 0) PL.blank) 75
  have RP : Hid (MA.Rg (World.setCells (w2.alloc (.cells (stF (.slice none 0 0) PL.blank).toArray 75)) w2.heap.size 0 L) w2.heap.size 0 L) := RN.out.put (by rw [Z_len]; exact HL1.out)
  have HB2 : Hid (Below w2.heap.size w2 (World.setCells (w2.alloc (.cells (stF (.slice none 0 0) PL.blank).toArray 75)) w2.heap.size 0 L)) := MA.below_cells (b := w2.heap.size) (Nat.le_refl _) L 0 _ ((Below.refl _ w2).alloc (Nat.le_refl _) _)
  have PO : Hid (∀ W, Calls Try.prog 30 #[.agg b.cs.toArray] W fun e w' => e = .returned (.agg b.cs.toArray) ∧ Below W.heap.size W w') := fun W => parcelOf_any b W
  go_wp2_with (first
      | (refine MA.alloc_z rfl 75 rfl _ _ Try.infoStack' ?_; simp only [MA.sz_alloc])
      | (refine MA.store_m rfl 75 _ _ rfl rfl rfl (cs := stF (.slice none 0 0) PL.blank) ?_ Try.sizeStack Z_len HL1.out HL2.out ?_; exact RN.out; clear RN; generalize World.setCells _ _ _ _ = W3 at *; replace HW : Hid _ := HW.out.kept HB2.out; have HBX : Hid _ := HW.out.bx.rng)
      | (refine MA.load_r rfl 24 _ rfl rfl (cs := b.cs) ?_ Try.underlying24 rfl Try.sizeBundle rfl ?_; exact HBX.out))
  refine (PO.out _).mono ?_
  rintro e w4 ⟨rfl, hb4⟩
  replace HW : Hid _ := HW.out.kept hb4
  replace RP : Hid _ := RP.out.below hb4 RP.out.lt
  have H24 : Hid (Below w2.heap.size w2 w4) := HB2.out.trans (hb4.mono HB2.out.size)
  clear PO hb4 HB2 HBX
  have QN : Hid _ := MA.Rg.new w4 (Bd.cs B1.zero) 62
  have QP : Hid (MA.Rg (World.setCells (w4.alloc (.cells (Bd.cs B1.zero).toArray 62)) w4.heap.size 0 b.cs) w4.heap.size 0 b.cs) := QN.out.put rfl
  have HB4 : Hid (Below w4.heap.size w4 (World.setCells (w4.alloc (.cells (Bd.cs B1.zero).toArray 62)) w4.heap.size 0 b.cs)) := MA.below_cells (b := w4.heap.size) (Nat.le_refl _) b.cs 0 _ ((Below.refl _ w4).alloc (Nat.le_refl _) _)
  cases hg : PL.good xs with
  | false =>
    have HANS : Hid (PD.ans xs b = ([], false)) := by show _ = _; simp [PD.ans, hg]
    clear hg hrw HL RP H24 QP HL1 HL2
    go_wp2_with (first
      | (refine MA.alloc_z rfl 62 rfl _ _ Try.infoParcelC ?_; simp only [MA.sz_alloc])
      | (refine MA.store_m rfl 62 _ _ rfl rfl rfl (cs := Bd.cs B1.zero) ?_ Try.sizeParcel rfl rfl (MA.cs_one b) ?_; exact QN.out; clear QN; generalize World.setCells _ _ _ _ = W5 at *; replace HW : Hid _ := HW.out.kept HB4.out; clear HB4)
      | (refine MA.store_m rfl 31 _ _ rfl rfl rfl (cs := [.slice none 0 0]) ?_ Try.sizePileAP rfl rfl (by simp [Value.oneCell']) ?_; exact HW.out.res))
    exact bodyPost_ret (MA.ret_cell2 rfl rfl rfl (MA.load_rg (HW.out.res.put (vs := [.slice none 0 0]) rfl) Try.underlying31 rfl Try.sizePileAP rfl)) rfl ⟨none, 0, w.heap.size, by rw [HANS.out]; rfl, Nat.le_refl _, .inl (by rw [HANS.out]; rfl), MA.below_cells (by omega) _ _ _ HW.out.below⟩
  | true =>
    have hr2 := hrw hg
    have eL : L = stF (.slice (some ⟨g, 0, none⟩) xs.length xs.length) (PL.sh xs xs.length) := by rw [← HL.out, upV_gd _ hg]
    subst eL
    have hx60 : xs.length ≤ 60 := by
      have : upOk xs = true := by rw [upOk_gd]; exact hg
      simp [upOk] at this; exact this.1
    have HROW : Hid (MP.BsAt w2 (some ⟨g, 0, none⟩) xs ∧ g < w2.heap.size) := ⟨hr2.2.1, hr2.2.2⟩
    have IGP : Hid _ := fun W R hR => isGoodPiece_any b W hs R hR
    have HGD : Hid _ := hg
    clear hg hrw HL hr2
    generalize PL.sh xs xs.length = sh at *
    go_wp2_with (first
      | (refine MA.alloc_z rfl 62 rfl _ _ Try.infoParcelC ?_; simp only [MA.sz_alloc])
      | (refine MA.store_m rfl 62 _ _ rfl rfl rfl (cs := Bd.cs B1.zero) ?_ Try.sizeParcel rfl rfl (MA.cs_one b) ?_; exact QN.out; clear QN; generalize World.setCells _ _ _ _ = W5 at *; replace HW : Hid _ := HW.out.kept HB4.out; replace H24 : Hid (Below w2.heap.size w2 W5) := H24.out.trans (HB4.out.mono H24.out.size); replace RP : Hid _ := RP.out.below HB4.out RP.out.lt; clear HB4; have QR : Hid _ := QP.out.rng)
      | (refine MA.load_r rfl 62 _ rfl rfl (cs := b.cs) ?_ Try.underlying62 rfl Try.sizeParcel rfl ?_; exact QR.out)
      | (refine MA.load_g rfl 62 _ rfl rfl (cs := b.cs) ?_ Try.underlying62 rfl Try.sizeParcel rfl ?_; exact QR.out))
    refine (IGP.out _ _ rfl).mono ?_
    rintro e w6 ⟨rfl, hb6⟩
    replace HW : Hid _ := HW.out.kept hb6
    replace H24 : Hid (Below w2.heap.size w2 w6) := H24.out.trans (hb6.mono H24.out.size)
    replace RP : Hid _ := RP.out.below hb6 RP.out.lt
    replace QP : Hid _ := QP.out.below hb6 QP.out.lt
    clear IGP hb6 QR
    cases hpg : PL.pg b with
    | false =>
      have HANS : Hid (PD.ans xs b = ([], false)) := by show _ = _; simp [PD.ans, hpg]
      clear hpg RP QP H24 HROW HGD HL1 HL2
      go_wp2_with (refine MA.store_m rfl 31 _ _ rfl rfl rfl (cs := [.slice none 0 0]) ?_ Try.sizePileAP rfl rfl (by simp [Value.oneCell']) ?_; exact HW.out.res)
      exact bodyPost_ret (MA.ret_cell2 rfl rfl rfl (MA.load_rg (HW.out.res.put (vs := [.slice none 0 0]) rfl) Try.underlying31 rfl Try.sizePileAP rfl)) rfl ⟨none, 0, w.heap.size, by rw [HANS.out]; rfl, Nat.le_refl _, .inl (by rw [HANS.out]; rfl), MA.below_cells (by omega) _ _ _ HW.out.below⟩
    | true =>
      have HR6 : Hid (MP.BsAt w6 (some ⟨g, 0, none⟩) xs) := HROW.out.1.below H24.out
      have HG6 : Hid (g < w6.heap.size) := Nat.lt_of_lt_of_le HROW.out.2 H24.out.size
      have HPG : Hid _ := hpg
      have HA : Hid _ := hasP_any b g xs sh w6 hx60 HR6.out
      have SR : Hid _ := RP.out.rng
      have QR : Hid _ := QP.out.rng
      have hq6 := RP.out.lt
      have hq7 := QP.out.lt
      clear hpg HROW
      go_wp2_with (first
        | (refine MA.load_r rfl 75 _ rfl rfl (cs := stF (.slice (some ⟨g, 0, none⟩) xs.length xs.length) sh) ?_ Try.underlying75 rfl Try.sizeStack (st_len _ _ _ _) ?_; exact SR.out)
        | (refine MA.load_r rfl 62 _ rfl rfl (cs := b.cs) ?_ Try.underlying62 rfl Try.sizeParcel rfl ?_; exact QR.out))
      refine Calls.mono HA.out ?_
      rintro e w7 ⟨rfl, hb7⟩
      replace HW : Hid _ := HW.out.kept hb7
      replace RP : Hid _ := RP.out.below hb7 RP.out.lt
      replace QP : Hid _ := QP.out.below hb7 QP.out.lt
      have HR7 : Hid _ := HR6.out.below hb7
      have HG7 : Hid (g < w7.heap.size) := Nat.lt_of_lt_of_le HG6.out hb7.size
      clear HA SR QR hb7 HR6 HG6 hq6 hq7
      cases hany : xs.any (sameP b) with
      | true =>
        have HANS : Hid (PD.ans xs b = (xs, true)) := by
          show _ = _
          have h1 := HGD.out
          have h2 := HPG.out
          have h3 : xs.any (PD.same b) = true := hany
          simp [PD.ans, h1, h2, h3]
        have PL7 : Hid _ := pile_any g xs sh w7 hx60 ht HR7.out
        have HW7 := HW.out.res.lt
        have SR : Hid _ := RP.out.rng
        have hq6 := RP.out.lt
        clear hany HR7 HG7 HGD HPG
        go_wp2_with (refine MA.load_r rfl 75 _ rfl rfl (cs := stF (.slice (some ⟨g, 0, none⟩) xs.length xs.length) sh) ?_ Try.underlying75 rfl Try.sizeStack (st_len _ _ _ _) ?_; exact SR.out)
        refine Calls.mono PL7.out ?_
        rintro e w8 ⟨g', rfl, hgg, hrg, hb8⟩
        replace HW : Hid _ := HW.out.kept hb8
        have HRG : Hid _ := hrg
        have HGG : Hid (w.heap.size + 1 + 1 < g') := by show _ < _; have := HW7; omega
        clear PL7 SR RP QP hrg hb8 hq6
        go_wp2_with (refine MA.store_m rfl 31 _ _ rfl rfl rfl (cs := [.slice none 0 0]) ?_ Try.sizePileAP rfl rfl (by simp [Value.oneCell']) ?_; exact HW.out.res)
        exact bodyPost_ret (MA.ret_cell2 rfl rfl rfl (MA.load_rg (HW.out.res.put (vs := [.slice (some ⟨g', 0, none⟩) xs.length xs.length]) rfl) Try.underlying31 rfl Try.sizePileAP rfl)) rfl ⟨some ⟨g', 0, none⟩, xs.length, g', by rw [HANS.out]; rfl, by have := HGG.out; omega, .inr (by rw [HANS.out]; exact ⟨rfl, HRG.out.other (.inl (by have := HGG.out; omega))⟩), MA.below_cells (by omega) _ _ _ HW.out.below⟩
      | false =>
        have HAN : Hid (xs.any (PD.same b) = false) := hany
        have PW : Hid _ := withP_any b g xs sh w7 HG7.out hx60 hs ht HR7.out
        have SR : Hid _ := RP.out.rng
        have QR : Hid _ := QP.out.rng
        have hq6 := RP.out.lt
        have hq7 := QP.out.lt
        clear hany HR7 HG7
        go_wp2_with (first
          | (refine MA.load_r rfl 75 _ rfl rfl (cs := stF (.slice (some ⟨g, 0, none⟩) xs.length xs.length) sh) ?_ Try.underlying75 rfl Try.sizeStack (st_len _ _ _ _) ?_; exact SR.out)
          | (refine MA.load_r rfl 62 _ rfl rfl (cs := b.cs) ?_ Try.underlying62 rfl Try.sizeParcel rfl ?_; exact QR.out))
        refine Calls.mono PW.out ?_
        rintro e w8 ⟨g2, rfl, hgg2, hin8, hb8⟩
        replace HW : Hid _ := HW.out.kept hb8
        clear PW SR QR RP QP hb8 hq6 hq7
        have hyl := PD.put_len (xs := xs) (b := b) (k := PD.cut xs b) (PD.cut_spec xs b).1
        have hyt : Hid (∀ k, k < (PD.put xs b (PD.cut xs b)).length → (MP.at_ (PD.put xs b (PD.cut xs b)) k).py.size ≤ 1048576) := put_small ht hs
        have HANG : Hid (PL.good (PD.put xs b (PD.cut xs b)) = true → PD.ans xs b = (PD.put xs b (PD.cut xs b), true)) := fun h => by
          have h1 := HGD.out
          have h2 := HPG.out
          have h3 := HAN.out
          simp [PD.ans, h1, h2, h3, h]
        have HANB : Hid (PL.good (PD.put xs b (PD.cut xs b)) = false → PD.ans xs b = ([], false)) := fun h => by
          have h1 := HGD.out
          have h2 := HPG.out
          have h3 := HAN.out
          simp [PD.ans, h1, h2, h3, h]
        generalize PD.put xs b (PD.cut xs b) = ys at *
        have UP := stackUp_any (some ⟨g2, 0, none⟩) ys.length ys w8 (by omega) hyt hin8
        rw [upOk_gd] at UP
        have HUP : Hid _ := UP
        have HIN : Hid _ := hin8
        rw [← hyl]
        clear UP hin8 HGD HPG HAN hyl
        go_wp2_with fail
        refine Calls.mono HUP.out ?_
        rintro e w9 ⟨rfl, hb9⟩
        replace HW : Hid _ := HW.out.kept hb9
        have HIN9 : Hid (MP.BsAt w9 (some ⟨g2, 0, none⟩) ys) := MP.BsAt.below HIN.out hb9
        obtain ⟨L2, hL2⟩ : ∃ L, upV ys (.slice (some ⟨g2, 0, none⟩) ys.length ys.length) = L := ⟨_, rfl⟩
        have HLL : Hid _ := hL2
        have HM1 : Hid (L2.length = 121) := by rw [← hL2]; exact upV_len _ _ _ _
        have HM2 : Hid (∀ v ∈ L2, v.oneCell' = true) := by rw [← hL2]; exact upV_one _ _ _ _
        rw [hL2]
        have TN : Hid _ := MA.Rg.new w9 (stF (.slice none 0 0) PL.blank) 75
        have TP : Hid (MA.Rg (World.setCells (w9.alloc (.cells (stF (.slice none 0 0) PL.blank).toArray 75)) w9.heap.size 0 L2) w9.heap.size 0 L2) := TN.out.put (by rw [Z_len]; exact HM1.out)
        have HB9 : Hid (Below w9.heap.size w9 (World.setCells (w9.alloc (.cells (stF (.slice none 0 0) PL.blank).toArray 75)) w9.heap.size 0 L2)) := MA.below_cells (b := w9.heap.size) (Nat.le_refl _) L2 0 _ ((Below.refl _ w9).alloc (Nat.le_refl _) _)
        clear hL2 HUP HIN hb9
        cases hgy : PL.good ys with
        | false =>
          have HANS : Hid _ := HANB.out hgy
          clear hgy HANB HANG TP HLL HIN9
          go_wp2_with (first
            | (refine MA.alloc_z rfl 75 rfl _ _ Try.infoStack' ?_; simp only [MA.sz_alloc])
            | (refine MA.store_m rfl 75 _ _ rfl rfl rfl (cs := stF (.slice none 0 0) PL.blank) ?_ Try.sizeStack Z_len HM1.out HM2.out ?_; exact TN.out; clear TN; generalize World.setCells _ _ _ _ = W10 at *; replace HW : Hid _ := HW.out.kept HB9.out; clear HB9)
            | (refine MA.store_m rfl 31 _ _ rfl rfl rfl (cs := [.slice none 0 0]) ?_ Try.sizePileAP rfl rfl (by simp [Value.oneCell']) ?_; exact HW.out.res))
          exact bodyPost_ret (MA.ret_cell2 rfl rfl rfl (MA.load_rg (HW.out.res.put (vs := [.slice none 0 0]) rfl) Try.underlying31 rfl Try.sizePileAP rfl)) rfl ⟨none, 0, w.heap.size, by rw [HANS.out]; rfl, Nat.le_refl _, .inl (by rw [HANS.out]; rfl), MA.below_cells (by omega) _ _ _ HW.out.below⟩
        | true =>
          have HANS : Hid _ := HANG.out hgy
          have eL2 : L2 = stF (.slice (some ⟨g2, 0, none⟩) ys.length ys.length) (PL.sh ys ys.length) := by rw [← HLL.out, upV_gd _ hgy]
          subst eL2
          have hy60 : ys.length ≤ 60 := by
            have : upOk ys = true := by rw [upOk_gd]; exact hgy
            simp [upOk] at this; exact this.1
          clear hgy HANB HANG HLL
          generalize PL.sh ys ys.length = sh2 at *
          go_wp2_with (first
            | (refine MA.alloc_z rfl 75 rfl _ _ Try.infoStack' ?_; simp only [MA.sz_alloc])
            | (refine MA.store_m rfl 75 _ _ rfl rfl rfl (cs := stF (.slice none 0 0) PL.blank) ?_ Try.sizeStack Z_len HM1.out HM2.out ?_; exact TN.out; clear TN; generalize World.setCells _ _ _ _ = W10 at *; replace HW : Hid _ := HW.out.kept HB9.out; replace HIN9 : Hid (MP.BsAt W10 (some ⟨g2, 0, none⟩) ys) := MP.BsAt.below HIN9.out HB9.out; clear HB9; have SR2 : Hid _ := TP.out.rng)
            | (refine MA.load_r rfl 75 _ rfl rfl (cs := stF (.slice (some ⟨g2, 0, none⟩) ys.length ys.length) sh2) ?_ Try.underlying75 rfl Try.sizeStack (st_len _ _ _ _) ?_; exact SR2.out))
          have PL9 : Hid _ := pile_any g2 ys sh2 W10 hy60 hyt HIN9.out
          have HW7 := HW.out.res.lt
          refine Calls.mono PL9.out ?_
          rintro e w11 ⟨g', rfl, hgg, hrg, hb11⟩
          replace HW : Hid _ := HW.out.kept hb11
          have HRG : Hid _ := hrg
          have HGG : Hid (w.heap.size + 1 + 1 < g') := by show _ < _; omega
          clear PL9 SR2 TP hrg hb11
          go_wp2_with (refine MA.store_m rfl 31 _ _ rfl rfl rfl (cs := [.slice none 0 0]) ?_ Try.sizePileAP rfl rfl (by simp [Value.oneCell']) ?_; exact HW.out.res)
          exact bodyPost_ret (MA.ret_cell2 rfl rfl rfl (MA.load_rg (HW.out.res.put (vs := [.slice (some ⟨g', 0, none⟩) ys.length ys.length]) rfl) Try.underlying31 rfl Try.sizePileAP rfl)) rfl ⟨some ⟨g', 0, none⟩, ys.length, g', by rw [HANS.out]; rfl, by have := HGG.out; omega, .inr (by rw [HANS.out]; exact ⟨rfl, HRG.out.other (.inl (by have := HGG.out; omega))⟩), MA.below_cells (by omega) _ _ _ HW.out.below⟩
end Go.Proofs.Ytepgmmigacafeaa

/- A pile in a box of one cell, beside bundles in boxes (FnPieces): plain facts. -/
namespace Go.Proofs.Ytepgmmigacafeaa
namespace PP
open Go.RowKit
/-- The row of the pieces lies in another block than k. -/
def Far (a : Option Addr) (xs : List Bd) (k : Nat) : Prop := xs = [] ∨ ∃ g off, a = some ⟨g, off, none⟩ ∧ g ≠ k
theorem bs_set {w : World} {a : Option Addr} {xs : List Bd} {k j : Nat} {v : Value} (h : MP.BsAt w a xs) (hf : Far a xs k) : MP.BsAt (w.setCell ⟨k, j, none⟩ v) a xs := by
  rcases hf with rfl | ⟨g, o, rfl, hg⟩
  · exact .inl rfl
  · rcases h with h | ⟨b, off, e, hlt, hc⟩
    · exact .inl h
    · cases e
      have hb := BX.set_block w k j g v hg
      have hcell : ∀ q, (w.setCell ⟨k, j, none⟩ v).cell? ⟨g, q, none⟩ = w.cell? ⟨g, q, none⟩ := fun q => by unfold World.cell?; rw [hb]
      refine .inr ⟨g, o, rfl, by simpa using hlt, fun i hi => ?_⟩
      simp only [hcell]
      exact hc i hi
/-- The pile xs lies in block k, its row at a. -/
structure PBox (w : World) (k T : Nat) (a : Option Addr) (xs : List Bd) (cap : Nat) : Prop where
  is : w.heap[k]? = some (.cells #[.slice a xs.length cap] T)
  row : MP.BsAt w a xs
  far : Far a xs k
theorem PBox.lt {w : World} {k T cap : Nat} {a : Option Addr} {xs : List Bd} (h : PBox w k T a xs cap) : k < w.heap.size := (Array.getElem?_eq_some_iff.1 h.is).1
theorem PBox.cell {w : World} {k T cap : Nat} {a : Option Addr} {xs : List Bd} (h : PBox w k T a xs cap) : w.cell? ⟨k, 0, none⟩ = some (.slice a xs.length cap) := (Lib.cell_of_heap h.is 0).trans rfl
theorem PBox.free {w : World} {k T cap : Nat} {a : Option Addr} {xs : List Bd} (h : PBox w k T a xs cap) : w.frozen? ⟨k, 0, none⟩ = false := by unfold World.frozen?; rw [h.is]; simp
theorem PBox.below {w w' : World} {k T cap : Nat} {a : Option Addr} {xs : List Bd} (h : PBox w k T a xs cap) (hb : Below w.heap.size w w') : PBox w' k T a xs cap := ⟨(hb.block k h.lt).trans h.is, h.row.below hb, h.far⟩
theorem PBox.alloc {w : World} {k T cap : Nat} {a : Option Addr} {xs : List Bd} (h : PBox w k T a xs cap) (o : Obj) : PBox (w.alloc o) k T a xs cap := h.below ((Below.refl _ w).alloc (Nat.le_refl _) o)
theorem PBox.other {w : World} {k T cap g j : Nat} {a : Option Addr} {xs : List Bd} {v : Value} (h : PBox w k T a xs cap) (hg : k ≠ g) (hf : Far a xs g) : PBox (w.setCell ⟨g, j, none⟩ v) k T a xs cap :=
  ⟨(BX.set_block w g j k v hg).trans h.is, bs_set h.row hf, h.far⟩
theorem PBox.set {w : World} {k T cap cap' : Nat} {a a' : Option Addr} {xs xs' : List Bd} (h : PBox w k T a xs cap) (hr : MP.BsAt w a' xs') (hf : Far a' xs' k) : PBox (w.setCell ⟨k, 0, none⟩ (.slice a' xs'.length cap')) k T a' xs' cap' :=
  ⟨by rw [BX.set_at (j := 0) h.is]; simp, bs_set hr hf, hf⟩
theorem PBox.new {w : World} {T cap : Nat} {a : Option Addr} {xs : List Bd} {k : Nat} (hk : k = w.heap.size) (hr : MP.BsAt w a xs) (hf : Far a xs k) : PBox (w.alloc (.cells #[.slice a xs.length cap] T)) k T a xs cap :=
  ⟨by rw [hk]; exact heap_alloc_new w _, hr.below ((Below.refl _ w).alloc (Nat.le_refl _) _), hf⟩
/-- A row lies below the heap's end. -/
theorem far_of {w : World} {a : Option Addr} {xs : List Bd} {k : Nat} (h : MP.BsAt w a xs) (hk : w.heap.size ≤ k) : Far a xs k := by
  rcases h with h | ⟨b, off, rfl, hlt, _⟩
  · exact .inl h
  · exact .inr ⟨b, off, rfl, by omega⟩
/-- What AddPiece answers, as a row. -/
theorem add_row {w : World} {B g : Nat} {a : Option Addr} {xs : List Bd} (hg : B ≤ g) (h : xs.length = 0 ∨ (a = some ⟨g, 0, none⟩ ∧ MA.Rg w g 0 (MP.flat xs))) : MP.BsAt w a xs ∧ ∀ k, k < B → Far a xs k := by
  rcases h with h | ⟨rfl, h⟩
  · obtain rfl := List.eq_nil_of_length_eq_zero h
    exact ⟨.inl rfl, fun k _ => .inl rfl⟩
  · exact ⟨MA.Rg.row h, fun k hk => .inr ⟨g, 0, rfl, by omega⟩⟩
/-- All that the law asks of the pieces. -/
structure Facts (b : Bd) (L : List Bd) : Prop where
  wh : Wh b
  pos : 0 < L.length
  le : L.length ≤ 60
  is : ∀ j, j < L.length → Is b (MP.at_ L j)
  all : ∀ s xs, Pile b xs → Vis L s L.length xs → wholeOk xs = true ∧ wholeB xs = b ∧ missN xs = 0
theorem facts_of {b : Bd} {n : Int} (h : CB.ok b n = true) : Facts b (CB.res b n) :=
  ⟨wh_of h, (res_is h).1, (res_is h).2.1, (res_is h).2.2.1, fun _ _ P hv => Vis.all h P hv⟩
end PP
end Go.Proofs.Ytepgmmigacafeaa

/- The law FnPieces answers true, whatever bytes it draws from. -/
namespace Go.Proofs.Ytepgmmigacafeaa
open Go.RowKit
theorem Try.infoBdFP : (Try.prog.info? 24).map (fun i => (i.zero, i.size)) = some (some (.agg (Bd.cs B1.zero).toArray), 10) := by kernel_rfl
theorem Try.sizeBdFP : (Try.prog.info? 24).map (·.size) = some 10 := by kernel_rfl
set_option linter.unusedSimpArgs false in
set_option maxHeartbeats 12800000 in
set_option maxRecDepth 100000 in
theorem lawFnPieces_any (a a' : Option Addr) (zs ys : List Int) (ca cb : Nat) (w : World) (hz : zs.length ≤ 140737488355328) (hy : ys.length ≤ 140737488355328) (hbz : MC.BytesAt w w.heap.size a zs) (hby : MC.BytesAt w w.heap.size a' ys) :
    Calls Try.prog 3 #[.slice a zs.length ca, .slice a' ys.length cb] w fun e w' => e = .returned (.bool true) ∧ Below w.heap.size w w' := by
  by_cases h20 : zs.length + ys.length ≤ 1048576
  · have HBY : Hid (∀ W : World, Below w.heap.size w W → MC.BytesAt W W.heap.size a' ys) := fun W h => (hby.only (q := w.heap.size) (MC.Only.of_below h) (Nat.le_refl _) (Nat.le_refl _)).up h.size
    clear hby
    go_enter Try.func3, Try.ntmps3
    go_wp2_with fail
    refine (drawCutBundle_any a zs ca _ hz hbz).mono ?_
    rintro e W1 ⟨b, n, rfl, hpy, hn, BW⟩
    clear hbz
    have hnr : -9223372036854775808 ≤ n ∧ n ≤ 9223372036854775807 := by simp at hn; omega
    have IC : Hid (∀ W : World, Calls Try.prog 6 #[b.v, .int .i64 n] W fun e w' => ∃ a cap, e = .returned (.tuple #[.slice a (CB.res b n).length cap, .bool (CB.ok b n)]) ∧ MP.BsAt w' a (CB.res b n) ∧ Below W.heap.size W w') := fun W => (implCutB_any b n W (by omega)).mono (by rintro e w' ⟨a, cap, rfl, ho, hb⟩; obtain ⟨a9, c9, e9, h9⟩ := CB.view ho; cases e9; exact ⟨_, _, rfl, h9, hb⟩)
    have SC : Hid (∀ W : World, Calls Try.prog 7 #[b.v, .int .i64 n] W fun e w' => ∃ a cap, e = .returned (.tuple #[.slice a (CB.res b n).length cap, .bool (CB.ok b n)]) ∧ MP.BsAt w' a (CB.res b n) ∧ Below W.heap.size W w') := fun W => (specCutB_any b n W (by omega)).mono (by rintro e w' ⟨a, cap, rfl, ho, hb⟩; obtain ⟨a9, c9, e9, h9⟩ := CB.view ho; cases e9; exact ⟨_, _, rfl, h9, hb⟩)
    have HF : Hid (CB.ok b n = true → PP.Facts b (CB.res b n)) := PP.facts_of
    have hL := CB.res_len b n hpy
    have hbx := BX.Box.new W1 24 b W1.heap.size rfl
    replace BW := BW.alloc BW.size (.cells (BX.cs b).toArray 24)
    generalize CB.ok b n = OK at *
    generalize CB.res b n = L at *
    obtain ⟨x0, x1, x2, x3, x4, x5, x6, x7, x8, x9⟩ := b
    simp only [BX.cs, Bd.cs] at hbx BW
    go_wp2_with fail
    generalize W1.alloc (.cells #[.int .i64 x0, .int .i64 x1, .bool x2, .int .i64 x3, .int .i64 x4, .int .i64 x5, .int .i64 x6, .int .i64 x7, .int .i64 x8, .string x9] 24) = W2 at *
    obtain ⟨k5, hk5⟩ : ∃ q, W1.heap.size = q := ⟨_, rfl⟩
    rw [hk5] at hbx ⊢
    clear hk5
    refine (IC.out _).mono ?_
    rintro e W3 ⟨a1, c1, rfl, hA, hb⟩
    replace hbx := hbx.below hb hbx.lt
    replace BW := BW.trans (hb.mono BW.size)
    clear hb IC
    have k0 := hbx.cells 0
    have k1 := hbx.cells 1
    have k2 := hbx.cells 2
    have k3 := hbx.cells 3
    have k4 := hbx.cells 4
    have k5 := hbx.cells 5
    have k6 := hbx.cells 6
    have k7 := hbx.cells 7
    have k8 := hbx.cells 8
    have k9 := hbx.cells 9
    simp [Bd.cs] at k0 k1 k2 k3 k4 k5 k6 k7 k8 k9
    have kl := hbx.lt
    go_wp2_with fail
    clear k0 k1 k2 k3 k4 k5 k6 k7 k8 k9 kl
    refine (SC.out _).mono ?_
    rintro e W4 ⟨a2, c2, rfl, hB, hb⟩
    replace hbx := hbx.below hb hbx.lt
    replace BW := BW.trans (hb.mono BW.size)
    replace hA := hA.below hb
    clear hb SC hn
    have hoo : (OK != OK) = false := by simp
    have hne : ((L.length : Int) != (L.length : Int)) = false := by simp
    go_wp2_with fail
    go_loopw [72] (fun iv wr => ∃ k : Nat, iv = .int .i64 k ∧ k ≤ L.length ∧ Below W4.heap.size W4 wr) (fun iv _ => (L.length - intOf iv).toNat)
    case atStart => exact ⟨0, rfl, by omega, Below.refl _ _⟩
    case round =>
      obtain ⟨k, rfl, hk, hb⟩ := hrel
      by_cases hl : k < L.length
      · obtain ⟨b1, off1, rfl, hlt1, k0, k1, k2, k3, k4, k5, k6, k7, k8, k9⟩ := (hA.below hb).at hl
        obtain ⟨b2, off2, rfl, hlt2, m0, m1, m2, m3, m4, m5, m6, m7, m8, m9⟩ := (hB.below hb).at hl
        clear hA hB hbx BW
        generalize MP.at_ L k = bk at *
        obtain ⟨z0, z1, z2, z3, z4, z5, z6, z7, z8, z9⟩ := bk
        dsimp only at k0 k1 k2 k3 k4 k5 k6 k7 k8 k9 m0 m1 m2 m3 m4 m5 m6 m7 m8 m9
        go_wp2
        go_quiet (fail)
        go_wp2
        go_roundw
        case rel => exact ⟨k + 1, by go_num, by omega, below_drewN hb _⟩
        case measure => simp [intOf]; omega
      · obtain rfl : k = L.length := by omega
        replace hbx := hbx.below hb hbx.lt
        replace BW := BW.trans (hb.mono BW.size)
        replace hA := hA.below hb
        clear hB hb hk hl hne hoo
        rename World => Wa
        have HS : Hid (numF ys ys.length < 1000003) := numF_lt ys _
        have HNM : Hid (∀ W : World, Below w.heap.size w W → Calls Try.prog 8 #[.slice a' ys.length cb] W fun e w' => e = .returned (.int .i64 (numF ys ys.length : Int)) ∧ W = w') := fun W h => numberF_any a' ys cb _ W hy (HBY.out W h)
        go_upto_if 85 with fail
        go_cut [13, 14, 18, 20, 22, 24, 26, 27, 28] (fun _ _ _ _ _ _ _ _ _ wx => Below w.heap.size w wx)
        case first =>
          cases OK
          · clear HF HBY HNM HS hbx hA
            go_wp2_with fail
            go_meet
            exact BW
          · replace HF : Hid (PP.Facts _ _) := HF.out rfl
            have HPB := PP.PBox.new (w := Wa) (T := 31) (cap := 0) (a := none) (xs := []) rfl (.inl rfl) (.inl rfl)
            have HB0 : Below Wa.heap.size Wa (Wa.alloc (.cells #[.slice none 0 0] 31)) := (Below.refl _ Wa).alloc (Nat.le_refl _) _
            simp only [List.length_nil] at HPB
            go_wp2_with fail
            generalize Wa.alloc (.cells #[.slice none 0 0] 31) = V0 at *
            obtain ⟨k12, hk12⟩ : ∃ q, Wa.heap.size = q := ⟨_, rfl⟩
            have hle12 : Wa.heap.size ≤ k12 := by omega
            have HAF : Hid (PP.Far a1 L k12) := PP.far_of hA hle12
            have hk512 : k5 ≠ k12 := by have := hbx.lt; omega
            rw [hk12] at HPB ⊢
            have HK12 : Hid (Wa.heap.size = k12) := hk12
            clear hk12
            generalize numF ys ys.length = s at *
            have HPN : Hid (PP.Pile ⟨x0, x1, x2, x3, x4, x5, x6, x7, x8, x9⟩ []) := PP.Pile.nil _
            have HVZ : Hid (PP.Vis L s 0 []) := PP.Vis.zero _ _ _
            go_loopw [89] (fun iv wv => ∃ (k : Nat) (xs : List Bd) (ax : Option Addr) (cx : Nat), iv = .int .i64 k ∧ k ≤ L.length ∧ PP.PBox wv k12 31 ax xs cx ∧ Hid (PP.Pile ⟨x0, x1, x2, x3, x4, x5, x6, x7, x8, x9⟩ xs) ∧ Hid (PP.Vis L s k xs) ∧ Below Wa.heap.size Wa wv) (fun iv _ => (L.length - intOf iv).toNat)
            case atStart => exact ⟨0, [], none, 0, rfl, by omega, HPB, HPN, HVZ, HB0⟩
            case round =>
              obtain ⟨k, xs, ax, cx, rfl, hk, hP, HPX, HV, hb⟩ := hrel
              clear HPB HB0 HPN HVZ
              by_cases hl : k < L.length
              · rename World => Wb
                have BV := BW.trans (hb.mono BW.size)
                have hs9 := HS.out
                have hw1 : IntKind.i64.wrap ((k : Int) + (s : Int)) = (k : Int) + (s : Int) := by rw [IntKind.wrap_i64]; omega
                obtain ⟨j, hj⟩ : ∃ j, j = (k + s) % L.length := ⟨_, rfl⟩
                have hjl : j < L.length := by rw [hj]; exact Nat.mod_lt _ (by omega)
                have hw2 : ((k : Int) + (s : Int)).tmod (L.length : Int) = (j : Int) := by
                  rw [Int.tmod_eq_emod_of_nonneg (a := (k : Int) + (s : Int)) (by omega), hj]; simp
                have HJ : Hid (j = (k + s) % L.length) := hj
                clear hj
                have hXI : PP.Is ⟨x0, x1, x2, x3, x4, x5, x6, x7, x8, x9⟩ (MP.at_ L j) := HF.out.is j hjl
                have hXS := hXI.sz HF.out.wh
                have hLn : ((L.length : Int) == 0) = false := by rw [beq_eq_false_iff_ne]; omega
                go_wp2_with fail
                refine (HNM.out _ BV).mono ?_
                rintro e V1 ⟨rfl, rfl⟩
                obtain ⟨g1, of1, rfl, hgl, l0, l1, l2, l3, l4, l5, l6, l7, l8, l9⟩ := (hA.below hb).at hjl
                generalize hbj : MP.at_ L j = bj at *
                have HBJ : Hid (MP.at_ L j = bj) := hbj
                clear hbj
                obtain ⟨z0, z1, z2, z3, z4, z5, z6, z7, z8, z9⟩ := bj
                dsimp only at l0 l1 l2 l3 l4 l5 l6 l7 l8 l9
                have hbz := BX.Box.new Wb 24 ⟨z0, z1, z2, z3, z4, z5, z6, z7, z8, z9⟩ Wb.heap.size rfl
                have h15 : Wb.heap.size ≠ k12 := by have := hP.lt; omega
                replace hP := hP.alloc (.cells #[.int .i64 z0, .int .i64 z1, .bool z2, .int .i64 z3, .int .i64 z4, .int .i64 z5, .int .i64 z6, .int .i64 z7, .int .i64 z8, .string z9] 24)
                have hb5 := (hbx.below hb hbx.lt).alloc (.cells #[.int .i64 z0, .int .i64 z1, .bool z2, .int .i64 z3, .int .i64 z4, .int .i64 z5, .int .i64 z6, .int .i64 z7, .int .i64 z8, .string z9] 24)
                have hle15 : Wa.heap.size ≤ Wb.heap.size := hb.size
                replace hb := hb.alloc hb.size (.cells #[.int .i64 z0, .int .i64 z1, .bool z2, .int .i64 z3, .int .i64 z4, .int .i64 z5, .int .i64 z6, .int .i64 z7, .int .i64 z8, .string z9] 24)
                simp only [BX.cs, Bd.cs] at hbz
                go_upto_region 21 with fail
                generalize Wb.alloc (.cells #[.int .i64 z0, .int .i64 z1, .bool z2, .int .i64 z3, .int .i64 z4, .int .i64 z5, .int .i64 z6, .int .i64 z7, .int .i64 z8, .string z9] 24) = Wc at *
                obtain ⟨k15, hk15⟩ : ∃ q, Wb.heap.size = q := ⟨_, rfl⟩
                rw [hk15] at hbz h15 hle15 ⊢
                clear hk15 l0 l1 l2 l3 l4 l5 l6 l7 l8 l9
                replace BV := BW.trans (hb.mono BW.size)
                have HP : Hid (PP.PBox _ _ _ _ _ _) := hP
                have HB5 : Hid (BX.Box _ _ _ _) := hb5
                have HBB : Hid (Below Wa.heap.size Wa Wc) := hb
                clear hP hb5 hb
                have k0 := hbz.cells 0
                have k1 := hbz.cells 1
                have k2 := hbz.cells 2
                have k3 := hbz.cells 3
                have k4 := hbz.cells 4
                have k5 := hbz.cells 5
                have k6 := hbz.cells 6
                have k7 := hbz.cells 7
                have k8 := hbz.cells 8
                have k9 := hbz.cells 9
                simp [Bd.cs] at k0 k1 k2 k3 k4 k5 k6 k7 k8 k9
                have kl := hbz.lt
                go_cut [120] (fun c wx => ∃ q : Bool, c = .bool q ∧ (q = true → k < ys.length ∧ 1 < z9.size) ∧ Wc = wx)
                case first =>
                  clear HF HNM HS hXI HJ HBJ HPX HV HAF HK12 hw1 hw2 HP HB5 HBB
                  by_cases c1 : k < ys.length
                  · obtain ⟨b9, o9, m, rfl, hb9, hm9, hm0, hm1⟩ := (HBY.out _ BV).at c1
                    clear HBY
                    go_wp2_with fail
                    all_goals (go_meet; refine ⟨_, rfl, (fun h => ⟨c1, ?_⟩), rfl⟩; first | (simp at h; done) | (simp at h; omega))
                  · clear HBY
                    go_wp2_with fail
                    go_meet
                    exact ⟨_, rfl, (fun h => by cases h), rfl⟩
                case rest =>
                  obtain ⟨q, rfl, hq, rfl⟩ := hcut
                  go_upto_if 120 with fail
                  go_cut [18, 20] (fun _ _ wx => ∃ (xs1 : List Bd) (ax1 : Option Addr) (cx1 : Nat) (xq : Bd), PP.PBox wx k12 31 ax1 xs1 cx1 ∧ BX.Box wx k15 24 xq ∧ PP.Pile ⟨x0, x1, x2, x3, x4, x5, x6, x7, x8, x9⟩ xs1 ∧ PP.Vis L s k xs1 ∧ PP.Is ⟨x0, x1, x2, x3, x4, x5, x6, x7, x8, x9⟩ xq ∧ (∀ p, PL.inn (MP.at_ L j) p = true → PL.inn xq p = true ∨ PP.Cov xs1 p) ∧ Below Wa.heap.size Wa wx)
                  case first =>
                    cases q
                    · clear HBY HNM HS
                      go_wp2_with fail
                      go_meet
                      exact ⟨xs, ax, cx, ⟨z0, z1, z2, z3, z4, z5, z6, z7, z8, z9⟩, HP.out, hbz, HPX.out, HV.out, hXI, (fun p hp => .inl (by rw [HBJ.out] at hp; exact hp)), HBB.out⟩
                    · obtain ⟨hky, hz1⟩ := hq rfl
                      obtain ⟨b9, o9, m, rfl, hb9, hm9, hm0, hm1⟩ := (HBY.out _ BV).at hky
                      clear HBY HNM HS hq
                      obtain ⟨y0, hy0⟩ : ∃ y0 : Nat, m.tmod ((z9.size : Int) - 1) = (y0 : Int) := ⟨(m.tmod ((z9.size : Int) - 1)).toNat, (Int.toNat_of_nonneg (Int.tmod_nonneg _ hm0)).symm⟩
                      have hy1 : y0 < z9.size - 1 := by
                        have := Int.tmod_lt_of_pos m (show (0 : Int) < (z9.size : Int) - 1 by omega)
                        omega
                      have hsub : IntKind.i64.wrap ((z9.size : Int) - 1) = (z9.size : Int) - 1 := by rw [IntKind.wrap_i64]; omega
                      have hadd : IntKind.i64.wrap (1 + (y0 : Int)) = 1 + (y0 : Int) := by rw [IntKind.wrap_i64]; omega
                      have hwm : IntKind.i64.wrap m = m := by rw [IntKind.wrap_i64]; omega
                      have hn1 : ¬ ((z9.size : Int) - 1 = 0) := by omega
                      have hc := PP.cut_two HF.out.wh hXI (y := 1 + y0) (by omega) (by show 1 + y0 < z9.size; omega)
                      rw [show ((1 + y0 : Nat) : Int) = 1 + (y0 : Int) from by omega] at hc
                      have CP : Hid (∀ W : World, Calls Try.prog 9 #[.agg (Bd.cs ⟨z0, z1, z2, z3, z4, z5, z6, z7, z8, z9⟩).toArray, .int .i64 (1 + (y0 : Int))] W fun e w' => e = .returned (.tuple #[.agg (cutA ⟨z0, z1, z2, z3, z4, z5, z6, z7, z8, z9⟩ (1 + (y0 : Int))).cs.toArray, .agg (cutB ⟨z0, z1, z2, z3, z4, z5, z6, z7, z8, z9⟩ (1 + (y0 : Int))).cs.toArray, .bool true]) ∧ Below W.heap.size W w') := fun W => by
                        have h := implCut_any ⟨z0, z1, z2, z3, z4, z5, z6, z7, z8, z9⟩ (1 + (y0 : Int)) W (by show z9.size ≤ 1048576; omega) (by omega)
                        rw [hc.1] at h; exact h
                      obtain ⟨-, hIA, hIB, hAB⟩ := hc
                      generalize cutA ⟨z0, z1, z2, z3, z4, z5, z6, z7, z8, z9⟩ (1 + (y0 : Int)) = pA at *
                      generalize cutB ⟨z0, z1, z2, z3, z4, z5, z6, z7, z8, z9⟩ (1 + (y0 : Int)) = pB at *
                      have hSA := hIA.sz HF.out.wh
                      have hSB := hIB.sz HF.out.wh
                      obtain ⟨u0, u1, u2, u3, u4, u5, u6, u7, u8, u9⟩ := pA
                      obtain ⟨v0, v1, v2, v3, v4, v5, v6, v7, v8, v9⟩ := pB
                      simp only [Bd.cs] at CP
                      go_upto_region 22 with fail
                      refine MR.frame fun A hA => ?_
                      have hsz : A.tmps.size = 261 := by rw [hA]; rfl
                      have e15 : A.eval (.tmp 15) = .pointer (some ⟨k15, 0, none⟩) := by rw [hA]; rfl
                      have f15 := MR.read (t := 15) (by rw [hsz]; decide) e15
                      have e1 : A.eval (.tmp 1) = .slice (some ⟨b9, o9, none⟩) ys.length cb := by rw [hA]; rfl
                      have f1 := MR.read (t := 1) (by rw [hsz]; decide) e1
                      have e13 : A.eval (.tmp 13) = .int .i64 (k : Int) := by rw [hA]; rfl
                      have f13 := MR.read (t := 13) (by rw [hsz]; decide) e13
                      have HA : Hid (A = _) := hA
                      clear hA
                      refine MR.cut (fun aa w' => ∃ qx qy : Nat, aa = ((((((((((((((((((((A.put (some 122) (.agg #[.int .i64 z0, .int .i64 z1, .bool z2, .int .i64 z3, .int .i64 z4, .int .i64 z5, .int .i64 z6, .int .i64 z7, .int .i64 z8, .string z9])).put (some 123) (.slice (some ⟨b9, o9, none⟩) ys.length cb)).put (some 124) (.int .i64 (k : Int))).put (some 125) (.pointer (some ⟨b9, o9 + k, none⟩))).put (some 126) (.int .u8 m)).put (some 127) (.int .i64 m)).put (some 128) (.pointer (some ⟨k15, 9, none⟩))).put (some 129) (.string z9)).put (some 130) (.int .i64 (z9.size : Int))).put (some 131) (.int .i64 ((z9.size : Int) - 1))).put (some 132) (.int .i64 (y0 : Int))).put (some 133) (.int .i64 (1 + (y0 : Int)))).put (some 134) (.tuple #[.agg #[.int .i64 u0, .int .i64 u1, .bool u2, .int .i64 u3, .int .i64 u4, .int .i64 u5, .int .i64 u6, .int .i64 u7, .int .i64 u8, .string u9], .agg #[.int .i64 v0, .int .i64 v1, .bool v2, .int .i64 v3, .int .i64 v4, .int .i64 v5, .int .i64 v6, .int .i64 v7, .int .i64 v8, .string v9], .bool true])).put (some 121) (.tuple #[.agg #[.int .i64 u0, .int .i64 u1, .bool u2, .int .i64 u3, .int .i64 u4, .int .i64 u5, .int .i64 u6, .int .i64 u7, .int .i64 u8, .string u9], .agg #[.int .i64 v0, .int .i64 v1, .bool v2, .int .i64 v3, .int .i64 v4, .int .i64 v5, .int .i64 v6, .int .i64 v7, .int .i64 v8, .string v9], .bool true])).put (some 135) (.agg #[.int .i64 u0, .int .i64 u1, .bool u2, .int .i64 u3, .int .i64 u4, .int .i64 u5, .int .i64 u6, .int .i64 u7, .int .i64 u8, .string u9])).put (some 136) (.agg #[.int .i64 v0, .int .i64 v1, .bool v2, .int .i64 v3, .int .i64 v4, .int .i64 v5, .int .i64 v6, .int .i64 v7, .int .i64 v8, .string v9])).put (some 137) (.bool true)).put (some 16) (.pointer (some ⟨qx, 0, none⟩))).put (some 17) (.pointer (some ⟨qy, 0, none⟩))).put (some 18) (.bool true)) ∧ Hid (Below Wc.heap.size Wc w' ∧ MA.Rg w' qx 0 [.int .i64 u0, .int .i64 u1, .bool u2, .int .i64 u3, .int .i64 u4, .int .i64 u5, .int .i64 u6, .int .i64 u7, .int .i64 u8, .string u9] ∧ MA.Rg w' qy 0 [.int .i64 v0, .int .i64 v1, .bool v2, .int .i64 v3, .int .i64 v4, .int .i64 v5, .int .i64 v6, .int .i64 v7, .int .i64 v8, .string v9] ∧ Wc.heap.size ≤ qx ∧ Wc.heap.size ≤ qy ∧ qx ≠ qy)) ?_ ?_
                      · have hS : (fun w' : World => Below Wc.heap.size Wc w') (World.drew _) := ((Below.refl _ Wc).drew)
                        refine wp_region_held (S := fun w' : World => Below Wc.heap.size Wc w') (by kernel_rfl) ?_
                        change wpAnyH _ _ _ _ _ _ _ _ (World.drew _)
                        refine MR.takeH (i := 0) (some 122) (.agg #[.int .i64 z0, .int .i64 z1, .bool z2, .int .i64 z3, .int .i64 z4, .int .i64 z5, .int .i64 z6, .int .i64 z7, .int .i64 z8, .string z9]) rfl rfl (by kernel_rfl) (by kernel_rfl) (by kernel_rfl) nofun hS (MR.free rfl) (fun wq hw => by simp [execOp, MR.ev, MR.size, hsz, e15, f15, e1, f1, e13, f13, (hw.cell (p := ⟨k15, 0, none⟩) kl).trans k0, (hw.cell (p := ⟨k15, 1, none⟩) kl).trans k1, (hw.cell (p := ⟨k15, 2, none⟩) kl).trans k2, (hw.cell (p := ⟨k15, 3, none⟩) kl).trans k3, (hw.cell (p := ⟨k15, 4, none⟩) kl).trans k4, (hw.cell (p := ⟨k15, 5, none⟩) kl).trans k5, (hw.cell (p := ⟨k15, 6, none⟩) kl).trans k6, (hw.cell (p := ⟨k15, 7, none⟩) kl).trans k7, (hw.cell (p := ⟨k15, 8, none⟩) kl).trans k8, (hw.cell (p := ⟨k15, 9, none⟩) kl).trans k9, go_sem]) ?_
                        refine MR.takeH (i := 1) (some 123) (.slice (some ⟨b9, o9, none⟩) ys.length cb) rfl rfl (by kernel_rfl) (by kernel_rfl) (by kernel_rfl) nofun hS (MR.free rfl) (fun wq hw => by simp [execOp, MR.ev, MR.size, hsz, e15, f15, e1, f1, e13, f13, go_sem]) ?_
                        refine MR.takeH (i := 2) (some 124) (.int .i64 (k : Int)) rfl rfl (by kernel_rfl) (by kernel_rfl) (by kernel_rfl) nofun hS (MR.free rfl) (fun wq hw => by simp [execOp, MR.ev, MR.size, hsz, e15, f15, e1, f1, e13, f13, go_sem]) ?_
                        refine MR.takeH (i := 3) (some 125) (.pointer (some ⟨b9, o9 + k, none⟩)) rfl rfl (by kernel_rfl) (by kernel_rfl) (by kernel_rfl) nofun hS (MR.free rfl) (fun wq hw => by simp [execOp, MR.ev, MR.size, hsz, e15, f15, e1, f1, e13, f13, hky, go_sem]) ?_
                        refine MR.takeH (i := 4) (some 126) (.int .u8 m) rfl rfl (by kernel_rfl) (by kernel_rfl) (by kernel_rfl) nofun hS (MR.free rfl) (fun wq hw => by simp [execOp, MR.ev, MR.size, hsz, e15, f15, e1, f1, e13, f13, (hw.cell (p := ⟨b9, o9 + k, none⟩) hb9).trans hm9, go_sem]) ?_
                        refine MR.takeH (i := 5) (some 127) (.int .i64 m) rfl rfl (by kernel_rfl) (by kernel_rfl) (by kernel_rfl) nofun hS (MR.free rfl) (fun wq hw => by simp [execOp, MR.ev, MR.size, hsz, e15, f15, e1, f1, e13, f13, hwm, go_sem]) ?_
                        refine MR.takeH (i := 6) (some 128) (.pointer (some ⟨k15, 9, none⟩)) rfl rfl (by kernel_rfl) (by kernel_rfl) (by kernel_rfl) nofun hS (MR.free rfl) (fun wq hw => by simp [execOp, MR.ev, MR.size, hsz, e15, f15, e1, f1, e13, f13, go_sem]) ?_
                        refine MR.takeH (i := 7) (some 129) (.string z9) rfl rfl (by kernel_rfl) (by kernel_rfl) (by kernel_rfl) nofun hS (MR.free rfl) (fun wq hw => by simp [execOp, MR.ev, MR.size, hsz, e15, f15, e1, f1, e13, f13, (hw.cell (p := ⟨k15, 9, none⟩) kl).trans k9, go_sem]) ?_
                        refine MR.takeH (i := 8) (some 130) (.int .i64 (z9.size : Int)) rfl rfl (by kernel_rfl) (by kernel_rfl) (by kernel_rfl) nofun hS (MR.free rfl) (fun wq hw => by simp [execOp, MR.ev, MR.size, hsz, e15, f15, e1, f1, e13, f13, go_sem]) ?_
                        refine MR.takeH (i := 9) (some 131) (.int .i64 ((z9.size : Int) - 1)) rfl rfl (by kernel_rfl) (by kernel_rfl) (by kernel_rfl) nofun hS (MR.free rfl) (fun wq hw => by simp [execOp, MR.ev, MR.size, hsz, e15, f15, e1, f1, e13, f13, hsub, go_sem]) ?_
                        refine MR.takeH (i := 10) (some 132) (.int .i64 (y0 : Int)) rfl rfl (by kernel_rfl) (by kernel_rfl) (by kernel_rfl) nofun hS (MR.free rfl) (fun wq hw => by simp [execOp, MR.ev, MR.size, hsz, e15, f15, e1, f1, e13, f13, hn1, hy0, go_sem]) ?_
                        refine MR.takeH (i := 11) (some 133) (.int .i64 (1 + (y0 : Int))) rfl rfl (by kernel_rfl) (by kernel_rfl) (by kernel_rfl) nofun hS (MR.free rfl) (fun wq hw => by simp [execOp, MR.ev, MR.size, hsz, e15, f15, e1, f1, e13, f13, hadd, go_sem]) ?_
                        generalize hwd : World.drew Wc = vW at hS ⊢
                        clear hwd
                        refine MR.pack (fun G hG => ?_)
                        have D1111 : ∀ (qx : Nat) (qy : Nat) (W : World) (hS : Below Wc.heap.size Wc W) (hqx : MA.Rg W qx 0 [.int .i64 u0, .int .i64 u1, .bool u2, .int .i64 u3, .int .i64 u4, .int .i64 u5, .int .i64 u6, .int .i64 u7, .int .i64 u8, .string u9]) (hx0 : Wc.heap.size ≤ qx) (hqy : MA.Rg W qy 0 (Bd.cs B1.zero)) (hy0 : Wc.heap.size ≤ qy) (hxy : qx ≠ qy), G 2 #[true, true, true, true, true, true, true, true, true, true, true, true, true, true, true, true, true, true, true, true, false, false] (((((((((((((((((((A.put (some 122) (.agg #[.int .i64 z0, .int .i64 z1, .bool z2, .int .i64 z3, .int .i64 z4, .int .i64 z5, .int .i64 z6, .int .i64 z7, .int .i64 z8, .string z9])).put (some 123) (.slice (some ⟨b9, o9, none⟩) ys.length cb)).put (some 124) (.int .i64 (k : Int))).put (some 125) (.pointer (some ⟨b9, o9 + k, none⟩))).put (some 126) (.int .u8 m)).put (some 127) (.int .i64 m)).put (some 128) (.pointer (some ⟨k15, 9, none⟩))).put (some 129) (.string z9)).put (some 130) (.int .i64 (z9.size : Int))).put (some 131) (.int .i64 ((z9.size : Int) - 1))).put (some 132) (.int .i64 (y0 : Int))).put (some 133) (.int .i64 (1 + (y0 : Int)))).put (some 134) (.tuple #[.agg #[.int .i64 u0, .int .i64 u1, .bool u2, .int .i64 u3, .int .i64 u4, .int .i64 u5, .int .i64 u6, .int .i64 u7, .int .i64 u8, .string u9], .agg #[.int .i64 v0, .int .i64 v1, .bool v2, .int .i64 v3, .int .i64 v4, .int .i64 v5, .int .i64 v6, .int .i64 v7, .int .i64 v8, .string v9], .bool true])).put (some 121) (.tuple #[.agg #[.int .i64 u0, .int .i64 u1, .bool u2, .int .i64 u3, .int .i64 u4, .int .i64 u5, .int .i64 u6, .int .i64 u7, .int .i64 u8, .string u9], .agg #[.int .i64 v0, .int .i64 v1, .bool v2, .int .i64 v3, .int .i64 v4, .int .i64 v5, .int .i64 v6, .int .i64 v7, .int .i64 v8, .string v9], .bool true])).put (some 135) (.agg #[.int .i64 u0, .int .i64 u1, .bool u2, .int .i64 u3, .int .i64 u4, .int .i64 u5, .int .i64 u6, .int .i64 u7, .int .i64 u8, .string u9])).put (some 136) (.agg #[.int .i64 v0, .int .i64 v1, .bool v2, .int .i64 v3, .int .i64 v4, .int .i64 v5, .int .i64 v6, .int .i64 v7, .int .i64 v8, .string v9])).put (some 137) (.bool true)).put (some 16) (.pointer (some ⟨qx, 0, none⟩))).put (some 17) (.pointer (some ⟨qy, 0, none⟩))) W := by
                          intro qx qy W hS hqx hx0 hqy hy0 hxy
                          rw [hG]
                          have hSz : Below Wc.heap.size Wc (W.setCells qy 0 [.int .i64 v0, .int .i64 v1, .bool v2, .int .i64 v3, .int .i64 v4, .int .i64 v5, .int .i64 v6, .int .i64 v7, .int .i64 v8, .string v9]) := MA.below_cells hy0 _ _ _ hS
                          refine MR.storeN (i := 20) (by kernel_rfl) rfl rfl (MR.free rfl) (MA.ex_store (vs := [.int .i64 v0, .int .i64 v1, .bool v2, .int .i64 v3, .int .i64 v4, .int .i64 v5, .int .i64 v6, .int .i64 v7, .int .i64 v8, .string v9]) rfl (by simp [MR.ev, MR.size, hsz, e15, f15, e1, f1, e13, f13]) (by simp [MR.ev, MR.size, hsz, e15, f15, e1, f1, e13, f13]) hqy.ok Try.sizeBdFP rfl (by simp [Value.oneCell'])) ⟨hSz, ?_⟩
                          refine MR.takeH (i := 21) (some 18) (.bool true) rfl rfl (by kernel_rfl) (by kernel_rfl) (by kernel_rfl) nofun hSz (MR.free rfl) (fun wq hw => by simp [execOp, MR.ev, MR.size, hsz, e15, f15, e1, f1, e13, f13, go_sem]) ?_
                          exact wpAnyH_done (by kernel_rfl) ⟨rfl, qx, qy, rfl, ⟨hSz, hqx.other (.inl hxy), hqy.put rfl, hx0, hy0, hxy⟩⟩ _
                        have D1110 : ∀ (qx : Nat) (qy : Nat) (W : World) (hS : Below Wc.heap.size Wc W) (hqx : MA.Rg W qx 0 (Bd.cs B1.zero)) (hx0 : Wc.heap.size ≤ qx) (hqy : MA.Rg W qy 0 (Bd.cs B1.zero)) (hy0 : Wc.heap.size ≤ qy) (hxy : qx ≠ qy), G 3 #[true, true, true, true, true, true, true, true, true, true, true, true, true, true, true, true, true, true, true, false, false, false] (((((((((((((((((((A.put (some 122) (.agg #[.int .i64 z0, .int .i64 z1, .bool z2, .int .i64 z3, .int .i64 z4, .int .i64 z5, .int .i64 z6, .int .i64 z7, .int .i64 z8, .string z9])).put (some 123) (.slice (some ⟨b9, o9, none⟩) ys.length cb)).put (some 124) (.int .i64 (k : Int))).put (some 125) (.pointer (some ⟨b9, o9 + k, none⟩))).put (some 126) (.int .u8 m)).put (some 127) (.int .i64 m)).put (some 128) (.pointer (some ⟨k15, 9, none⟩))).put (some 129) (.string z9)).put (some 130) (.int .i64 (z9.size : Int))).put (some 131) (.int .i64 ((z9.size : Int) - 1))).put (some 132) (.int .i64 (y0 : Int))).put (some 133) (.int .i64 (1 + (y0 : Int)))).put (some 134) (.tuple #[.agg #[.int .i64 u0, .int .i64 u1, .bool u2, .int .i64 u3, .int .i64 u4, .int .i64 u5, .int .i64 u6, .int .i64 u7, .int .i64 u8, .string u9], .agg #[.int .i64 v0, .int .i64 v1, .bool v2, .int .i64 v3, .int .i64 v4, .int .i64 v5, .int .i64 v6, .int .i64 v7, .int .i64 v8, .string v9], .bool true])).put (some 121) (.tuple #[.agg #[.int .i64 u0, .int .i64 u1, .bool u2, .int .i64 u3, .int .i64 u4, .int .i64 u5, .int .i64 u6, .int .i64 u7, .int .i64 u8, .string u9], .agg #[.int .i64 v0, .int .i64 v1, .bool v2, .int .i64 v3, .int .i64 v4, .int .i64 v5, .int .i64 v6, .int .i64 v7, .int .i64 v8, .string v9], .bool true])).put (some 135) (.agg #[.int .i64 u0, .int .i64 u1, .bool u2, .int .i64 u3, .int .i64 u4, .int .i64 u5, .int .i64 u6, .int .i64 u7, .int .i64 u8, .string u9])).put (some 136) (.agg #[.int .i64 v0, .int .i64 v1, .bool v2, .int .i64 v3, .int .i64 v4, .int .i64 v5, .int .i64 v6, .int .i64 v7, .int .i64 v8, .string v9])).put (some 137) (.bool true)).put (some 16) (.pointer (some ⟨qx, 0, none⟩))).put (some 17) (.pointer (some ⟨qy, 0, none⟩))) W := by
                          intro qx qy W hS hqx hx0 hqy hy0 hxy
                          rw [hG]
                          have hSz : Below Wc.heap.size Wc (W.setCells qx 0 [.int .i64 u0, .int .i64 u1, .bool u2, .int .i64 u3, .int .i64 u4, .int .i64 u5, .int .i64 u6, .int .i64 u7, .int .i64 u8, .string u9]) := MA.below_cells hx0 _ _ _ hS
                          refine MR.storeN (i := 19) (by kernel_rfl) rfl rfl (MR.free rfl) (MA.ex_store (vs := [.int .i64 u0, .int .i64 u1, .bool u2, .int .i64 u3, .int .i64 u4, .int .i64 u5, .int .i64 u6, .int .i64 u7, .int .i64 u8, .string u9]) rfl (by simp [MR.ev, MR.size, hsz, e15, f15, e1, f1, e13, f13]) (by simp [MR.ev, MR.size, hsz, e15, f15, e1, f1, e13, f13]) hqx.ok Try.sizeBdFP rfl (by simp [Value.oneCell'])) ⟨hSz, ?_⟩
                          have hR := D1111 _ _ _ hSz (hqx.put rfl) hx0 (hqy.other (.inl (Ne.symm hxy))) hy0 hxy
                          rw [hG] at hR
                          exact hR
                        have D1100 : ∀ (qx : Nat) (W : World) (hS : Below Wc.heap.size Wc W) (hqx : MA.Rg W qx 0 (Bd.cs B1.zero)) (hx0 : Wc.heap.size ≤ qx), G 4 #[true, true, true, true, true, true, true, true, true, true, true, true, true, true, true, true, true, true, false, false, false, false] ((((((((((((((((((A.put (some 122) (.agg #[.int .i64 z0, .int .i64 z1, .bool z2, .int .i64 z3, .int .i64 z4, .int .i64 z5, .int .i64 z6, .int .i64 z7, .int .i64 z8, .string z9])).put (some 123) (.slice (some ⟨b9, o9, none⟩) ys.length cb)).put (some 124) (.int .i64 (k : Int))).put (some 125) (.pointer (some ⟨b9, o9 + k, none⟩))).put (some 126) (.int .u8 m)).put (some 127) (.int .i64 m)).put (some 128) (.pointer (some ⟨k15, 9, none⟩))).put (some 129) (.string z9)).put (some 130) (.int .i64 (z9.size : Int))).put (some 131) (.int .i64 ((z9.size : Int) - 1))).put (some 132) (.int .i64 (y0 : Int))).put (some 133) (.int .i64 (1 + (y0 : Int)))).put (some 134) (.tuple #[.agg #[.int .i64 u0, .int .i64 u1, .bool u2, .int .i64 u3, .int .i64 u4, .int .i64 u5, .int .i64 u6, .int .i64 u7, .int .i64 u8, .string u9], .agg #[.int .i64 v0, .int .i64 v1, .bool v2, .int .i64 v3, .int .i64 v4, .int .i64 v5, .int .i64 v6, .int .i64 v7, .int .i64 v8, .string v9], .bool true])).put (some 121) (.tuple #[.agg #[.int .i64 u0, .int .i64 u1, .bool u2, .int .i64 u3, .int .i64 u4, .int .i64 u5, .int .i64 u6, .int .i64 u7, .int .i64 u8, .string u9], .agg #[.int .i64 v0, .int .i64 v1, .bool v2, .int .i64 v3, .int .i64 v4, .int .i64 v5, .int .i64 v6, .int .i64 v7, .int .i64 v8, .string v9], .bool true])).put (some 135) (.agg #[.int .i64 u0, .int .i64 u1, .bool u2, .int .i64 u3, .int .i64 u4, .int .i64 u5, .int .i64 u6, .int .i64 u7, .int .i64 u8, .string u9])).put (some 136) (.agg #[.int .i64 v0, .int .i64 v1, .bool v2, .int .i64 v3, .int .i64 v4, .int .i64 v5, .int .i64 v6, .int .i64 v7, .int .i64 v8, .string v9])).put (some 137) (.bool true)).put (some 16) (.pointer (some ⟨qx, 0, none⟩))) W := by
                          intro qx W hS hqx hx0
                          rw [hG]
                          refine MR.nowH (i := 18) (some 17) (.pointer (some ⟨W.heap.size, 0, none⟩)) (by kernel_rfl) rfl rfl (MR.free rfl) (MR.ex_alloc _ rfl (Bd.cs B1.zero) 10 Try.infoBdFP) ?_
                          have hb : Below W.heap.size W (W.alloc (.cells (Bd.cs B1.zero).toArray 24)) := (Below.refl _ W).alloc (Nat.le_refl _) _
                          have hS' := hS.trans (hb.mono hS.size)
                          refine ⟨hS', ?_⟩
                          have hR := D1110 _ _ _ hS' (hqx.below hb hqx.lt) hx0 (MA.Rg.new W (Bd.cs B1.zero) 24) hS.size (by have := hqx.lt; omega)
                          rw [hG] at hR
                          exact hR
                        have D1010 : ∀ (qy : Nat) (W : World) (hS : Below Wc.heap.size Wc W) (hqy : MA.Rg W qy 0 (Bd.cs B1.zero)) (hy0 : Wc.heap.size ≤ qy), G 4 #[true, true, true, true, true, true, true, true, true, true, true, true, true, true, true, true, true, false, true, false, false, false] ((((((((((((((((((A.put (some 122) (.agg #[.int .i64 z0, .int .i64 z1, .bool z2, .int .i64 z3, .int .i64 z4, .int .i64 z5, .int .i64 z6, .int .i64 z7, .int .i64 z8, .string z9])).put (some 123) (.slice (some ⟨b9, o9, none⟩) ys.length cb)).put (some 124) (.int .i64 (k : Int))).put (some 125) (.pointer (some ⟨b9, o9 + k, none⟩))).put (some 126) (.int .u8 m)).put (some 127) (.int .i64 m)).put (some 128) (.pointer (some ⟨k15, 9, none⟩))).put (some 129) (.string z9)).put (some 130) (.int .i64 (z9.size : Int))).put (some 131) (.int .i64 ((z9.size : Int) - 1))).put (some 132) (.int .i64 (y0 : Int))).put (some 133) (.int .i64 (1 + (y0 : Int)))).put (some 134) (.tuple #[.agg #[.int .i64 u0, .int .i64 u1, .bool u2, .int .i64 u3, .int .i64 u4, .int .i64 u5, .int .i64 u6, .int .i64 u7, .int .i64 u8, .string u9], .agg #[.int .i64 v0, .int .i64 v1, .bool v2, .int .i64 v3, .int .i64 v4, .int .i64 v5, .int .i64 v6, .int .i64 v7, .int .i64 v8, .string v9], .bool true])).put (some 121) (.tuple #[.agg #[.int .i64 u0, .int .i64 u1, .bool u2, .int .i64 u3, .int .i64 u4, .int .i64 u5, .int .i64 u6, .int .i64 u7, .int .i64 u8, .string u9], .agg #[.int .i64 v0, .int .i64 v1, .bool v2, .int .i64 v3, .int .i64 v4, .int .i64 v5, .int .i64 v6, .int .i64 v7, .int .i64 v8, .string v9], .bool true])).put (some 135) (.agg #[.int .i64 u0, .int .i64 u1, .bool u2, .int .i64 u3, .int .i64 u4, .int .i64 u5, .int .i64 u6, .int .i64 u7, .int .i64 u8, .string u9])).put (some 136) (.agg #[.int .i64 v0, .int .i64 v1, .bool v2, .int .i64 v3, .int .i64 v4, .int .i64 v5, .int .i64 v6, .int .i64 v7, .int .i64 v8, .string v9])).put (some 137) (.bool true)).put (some 17) (.pointer (some ⟨qy, 0, none⟩))) W := by
                          intro qy W hS hqy hy0
                          rw [hG]
                          refine MR.nowH (i := 17) (some 16) (.pointer (some ⟨W.heap.size, 0, none⟩)) (by kernel_rfl) rfl rfl (MR.free rfl) (MR.ex_alloc _ rfl (Bd.cs B1.zero) 10 Try.infoBdFP) ?_
                          have hb : Below W.heap.size W (W.alloc (.cells (Bd.cs B1.zero).toArray 24)) := (Below.refl _ W).alloc (Nat.le_refl _) _
                          have hS' := hS.trans (hb.mono hS.size)
                          refine ⟨hS', ?_⟩
                          rw [MR.put_comm _ _ _ (show 17 ≠ 16 by decide)]
                          have hR := D1110 _ _ _ hS' (MA.Rg.new W (Bd.cs B1.zero) 24) hS.size (hqy.below hb hqy.lt) hy0 (by have := hqy.lt; omega)
                          rw [hG] at hR
                          exact hR
                        have D1000 : ∀ (W : World) (hS : Below Wc.heap.size Wc W), G 5 #[true, true, true, true, true, true, true, true, true, true, true, true, true, true, true, true, true, false, false, false, false, false] (((((((((((((((((A.put (some 122) (.agg #[.int .i64 z0, .int .i64 z1, .bool z2, .int .i64 z3, .int .i64 z4, .int .i64 z5, .int .i64 z6, .int .i64 z7, .int .i64 z8, .string z9])).put (some 123) (.slice (some ⟨b9, o9, none⟩) ys.length cb)).put (some 124) (.int .i64 (k : Int))).put (some 125) (.pointer (some ⟨b9, o9 + k, none⟩))).put (some 126) (.int .u8 m)).put (some 127) (.int .i64 m)).put (some 128) (.pointer (some ⟨k15, 9, none⟩))).put (some 129) (.string z9)).put (some 130) (.int .i64 (z9.size : Int))).put (some 131) (.int .i64 ((z9.size : Int) - 1))).put (some 132) (.int .i64 (y0 : Int))).put (some 133) (.int .i64 (1 + (y0 : Int)))).put (some 134) (.tuple #[.agg #[.int .i64 u0, .int .i64 u1, .bool u2, .int .i64 u3, .int .i64 u4, .int .i64 u5, .int .i64 u6, .int .i64 u7, .int .i64 u8, .string u9], .agg #[.int .i64 v0, .int .i64 v1, .bool v2, .int .i64 v3, .int .i64 v4, .int .i64 v5, .int .i64 v6, .int .i64 v7, .int .i64 v8, .string v9], .bool true])).put (some 121) (.tuple #[.agg #[.int .i64 u0, .int .i64 u1, .bool u2, .int .i64 u3, .int .i64 u4, .int .i64 u5, .int .i64 u6, .int .i64 u7, .int .i64 u8, .string u9], .agg #[.int .i64 v0, .int .i64 v1, .bool v2, .int .i64 v3, .int .i64 v4, .int .i64 v5, .int .i64 v6, .int .i64 v7, .int .i64 v8, .string v9], .bool true])).put (some 135) (.agg #[.int .i64 u0, .int .i64 u1, .bool u2, .int .i64 u3, .int .i64 u4, .int .i64 u5, .int .i64 u6, .int .i64 u7, .int .i64 u8, .string u9])).put (some 136) (.agg #[.int .i64 v0, .int .i64 v1, .bool v2, .int .i64 v3, .int .i64 v4, .int .i64 v5, .int .i64 v6, .int .i64 v7, .int .i64 v8, .string v9])).put (some 137) (.bool true)) W := by
                          intro W hS
                          rw [hG]
                          refine MR.two (i := 17) (j := 18) (by kernel_rfl) ?_ ?_
                          · skip
                            refine MR.nowW (some 16) (.pointer (some ⟨W.heap.size, 0, none⟩)) rfl rfl (MR.free rfl) (MR.ex_alloc _ rfl (Bd.cs B1.zero) 10 Try.infoBdFP) ?_
                            have hb : Below W.heap.size W (W.alloc (.cells (Bd.cs B1.zero).toArray 24)) := (Below.refl _ W).alloc (Nat.le_refl _) _
                            have hS' := hS.trans (hb.mono hS.size)
                            refine ⟨hS', ?_⟩
                            have hR := D1100 _ _ hS' (MA.Rg.new W (Bd.cs B1.zero) 24) hS.size
                            rw [hG] at hR
                            exact hR
                          · skip
                            refine MR.nowW (some 17) (.pointer (some ⟨W.heap.size, 0, none⟩)) rfl rfl (MR.free rfl) (MR.ex_alloc _ rfl (Bd.cs B1.zero) 10 Try.infoBdFP) ?_
                            have hb : Below W.heap.size W (W.alloc (.cells (Bd.cs B1.zero).toArray 24)) := (Below.refl _ W).alloc (Nat.le_refl _) _
                            have hS' := hS.trans (hb.mono hS.size)
                            refine ⟨hS', ?_⟩
                            have hR := D1010 _ _ hS' (MA.Rg.new W (Bd.cs B1.zero) 24) hS.size
                            rw [hG] at hR
                            exact hR
                        have D0110 : ∀ (qx : Nat) (qy : Nat) (W : World) (hS : Below Wc.heap.size Wc W) (hqx : MA.Rg W qx 0 (Bd.cs B1.zero)) (hx0 : Wc.heap.size ≤ qx) (hqy : MA.Rg W qy 0 (Bd.cs B1.zero)) (hy0 : Wc.heap.size ≤ qy) (hxy : qx ≠ qy), G 8 #[true, true, true, true, true, true, true, true, true, true, true, true, false, false, false, false, false, true, true, false, false, false] ((((((((((((((A.put (some 122) (.agg #[.int .i64 z0, .int .i64 z1, .bool z2, .int .i64 z3, .int .i64 z4, .int .i64 z5, .int .i64 z6, .int .i64 z7, .int .i64 z8, .string z9])).put (some 123) (.slice (some ⟨b9, o9, none⟩) ys.length cb)).put (some 124) (.int .i64 (k : Int))).put (some 125) (.pointer (some ⟨b9, o9 + k, none⟩))).put (some 126) (.int .u8 m)).put (some 127) (.int .i64 m)).put (some 128) (.pointer (some ⟨k15, 9, none⟩))).put (some 129) (.string z9)).put (some 130) (.int .i64 (z9.size : Int))).put (some 131) (.int .i64 ((z9.size : Int) - 1))).put (some 132) (.int .i64 (y0 : Int))).put (some 133) (.int .i64 (1 + (y0 : Int)))).put (some 16) (.pointer (some ⟨qx, 0, none⟩))).put (some 17) (.pointer (some ⟨qy, 0, none⟩))) W := by
                          intro qx qy W hS hqx hx0 hqy hy0 hxy
                          rw [hG]
                          refine MR.callH (i := 12) (some 134) (9) (#[.agg #[.int .i64 z0, .int .i64 z1, .bool z2, .int .i64 z3, .int .i64 z4, .int .i64 z5, .int .i64 z6, .int .i64 z7, .int .i64 z8, .string z9], .int .i64 (1 + (y0 : Int))]) (by kernel_rfl) rfl rfl (MR.free rfl) (by simp [execOp, MR.ev, MR.size, hsz, e15, f15, e1, f1, e13, f13, go_sem]) ?_
                          refine Calls.mono (CP.out _) ?_
                          rintro e W' ⟨rfl, hb⟩
                          have hS' : Below Wc.heap.size Wc W' := hS.trans (hb.mono hS.size)
                          refine ⟨_, rfl, hS', ?_⟩
                          refine MR.takeH (i := 13) (some 121) (.tuple #[.agg #[.int .i64 u0, .int .i64 u1, .bool u2, .int .i64 u3, .int .i64 u4, .int .i64 u5, .int .i64 u6, .int .i64 u7, .int .i64 u8, .string u9], .agg #[.int .i64 v0, .int .i64 v1, .bool v2, .int .i64 v3, .int .i64 v4, .int .i64 v5, .int .i64 v6, .int .i64 v7, .int .i64 v8, .string v9], .bool true]) rfl rfl (by kernel_rfl) (by kernel_rfl) (by kernel_rfl) nofun hS' (MR.free rfl) (fun wq hw => by simp [execOp, MR.ev, MR.size, hsz, e15, f15, e1, f1, e13, f13, go_sem]) ?_
                          refine MR.takeH (i := 14) (some 135) (.agg #[.int .i64 u0, .int .i64 u1, .bool u2, .int .i64 u3, .int .i64 u4, .int .i64 u5, .int .i64 u6, .int .i64 u7, .int .i64 u8, .string u9]) rfl rfl (by kernel_rfl) (by kernel_rfl) (by kernel_rfl) nofun hS' (MR.free rfl) (fun wq hw => by simp [execOp, MR.ev, MR.size, hsz, e15, f15, e1, f1, e13, f13, go_sem]) ?_
                          refine MR.takeH (i := 15) (some 136) (.agg #[.int .i64 v0, .int .i64 v1, .bool v2, .int .i64 v3, .int .i64 v4, .int .i64 v5, .int .i64 v6, .int .i64 v7, .int .i64 v8, .string v9]) rfl rfl (by kernel_rfl) (by kernel_rfl) (by kernel_rfl) nofun hS' (MR.free rfl) (fun wq hw => by simp [execOp, MR.ev, MR.size, hsz, e15, f15, e1, f1, e13, f13, go_sem]) ?_
                          refine MR.takeH (i := 16) (some 137) (.bool true) rfl rfl (by kernel_rfl) (by kernel_rfl) (by kernel_rfl) nofun hS' (MR.free rfl) (fun wq hw => by simp [execOp, MR.ev, MR.size, hsz, e15, f15, e1, f1, e13, f13, go_sem]) ?_
                          rw [MR.put_comm _ _ _ (show 17 ≠ 134 by decide)]
                          rw [MR.put_comm _ _ _ (show 16 ≠ 134 by decide)]
                          rw [MR.put_comm _ _ _ (show 17 ≠ 121 by decide)]
                          rw [MR.put_comm _ _ _ (show 16 ≠ 121 by decide)]
                          rw [MR.put_comm _ _ _ (show 17 ≠ 135 by decide)]
                          rw [MR.put_comm _ _ _ (show 16 ≠ 135 by decide)]
                          rw [MR.put_comm _ _ _ (show 17 ≠ 136 by decide)]
                          rw [MR.put_comm _ _ _ (show 16 ≠ 136 by decide)]
                          rw [MR.put_comm _ _ _ (show 17 ≠ 137 by decide)]
                          rw [MR.put_comm _ _ _ (show 16 ≠ 137 by decide)]
                          have hR := D1110 _ _ _ hS' (hqx.below hb hqx.lt) hx0 (hqy.below hb hqy.lt) hy0 hxy
                          rw [hG] at hR
                          exact hR
                        have D0100 : ∀ (qx : Nat) (W : World) (hS : Below Wc.heap.size Wc W) (hqx : MA.Rg W qx 0 (Bd.cs B1.zero)) (hx0 : Wc.heap.size ≤ qx), G 9 #[true, true, true, true, true, true, true, true, true, true, true, true, false, false, false, false, false, true, false, false, false, false] (((((((((((((A.put (some 122) (.agg #[.int .i64 z0, .int .i64 z1, .bool z2, .int .i64 z3, .int .i64 z4, .int .i64 z5, .int .i64 z6, .int .i64 z7, .int .i64 z8, .string z9])).put (some 123) (.slice (some ⟨b9, o9, none⟩) ys.length cb)).put (some 124) (.int .i64 (k : Int))).put (some 125) (.pointer (some ⟨b9, o9 + k, none⟩))).put (some 126) (.int .u8 m)).put (some 127) (.int .i64 m)).put (some 128) (.pointer (some ⟨k15, 9, none⟩))).put (some 129) (.string z9)).put (some 130) (.int .i64 (z9.size : Int))).put (some 131) (.int .i64 ((z9.size : Int) - 1))).put (some 132) (.int .i64 (y0 : Int))).put (some 133) (.int .i64 (1 + (y0 : Int)))).put (some 16) (.pointer (some ⟨qx, 0, none⟩))) W := by
                          intro qx W hS hqx hx0
                          rw [hG]
                          refine MR.two (i := 12) (j := 18) (by kernel_rfl) ?_ ?_
                          · skip
                            refine MR.callW (some 134) (9) (#[.agg #[.int .i64 z0, .int .i64 z1, .bool z2, .int .i64 z3, .int .i64 z4, .int .i64 z5, .int .i64 z6, .int .i64 z7, .int .i64 z8, .string z9], .int .i64 (1 + (y0 : Int))]) rfl rfl (MR.free rfl) (by simp [execOp, MR.ev, MR.size, hsz, e15, f15, e1, f1, e13, f13, go_sem]) ?_
                            refine Calls.mono (CP.out _) ?_
                            rintro e W' ⟨rfl, hb⟩
                            have hS' : Below Wc.heap.size Wc W' := hS.trans (hb.mono hS.size)
                            refine ⟨_, rfl, hS', ?_⟩
                            refine MR.takeH (i := 13) (some 121) (.tuple #[.agg #[.int .i64 u0, .int .i64 u1, .bool u2, .int .i64 u3, .int .i64 u4, .int .i64 u5, .int .i64 u6, .int .i64 u7, .int .i64 u8, .string u9], .agg #[.int .i64 v0, .int .i64 v1, .bool v2, .int .i64 v3, .int .i64 v4, .int .i64 v5, .int .i64 v6, .int .i64 v7, .int .i64 v8, .string v9], .bool true]) rfl rfl (by kernel_rfl) (by kernel_rfl) (by kernel_rfl) nofun hS' (MR.free rfl) (fun wq hw => by simp [execOp, MR.ev, MR.size, hsz, e15, f15, e1, f1, e13, f13, go_sem]) ?_
                            refine MR.takeH (i := 14) (some 135) (.agg #[.int .i64 u0, .int .i64 u1, .bool u2, .int .i64 u3, .int .i64 u4, .int .i64 u5, .int .i64 u6, .int .i64 u7, .int .i64 u8, .string u9]) rfl rfl (by kernel_rfl) (by kernel_rfl) (by kernel_rfl) nofun hS' (MR.free rfl) (fun wq hw => by simp [execOp, MR.ev, MR.size, hsz, e15, f15, e1, f1, e13, f13, go_sem]) ?_
                            refine MR.takeH (i := 15) (some 136) (.agg #[.int .i64 v0, .int .i64 v1, .bool v2, .int .i64 v3, .int .i64 v4, .int .i64 v5, .int .i64 v6, .int .i64 v7, .int .i64 v8, .string v9]) rfl rfl (by kernel_rfl) (by kernel_rfl) (by kernel_rfl) nofun hS' (MR.free rfl) (fun wq hw => by simp [execOp, MR.ev, MR.size, hsz, e15, f15, e1, f1, e13, f13, go_sem]) ?_
                            refine MR.takeH (i := 16) (some 137) (.bool true) rfl rfl (by kernel_rfl) (by kernel_rfl) (by kernel_rfl) nofun hS' (MR.free rfl) (fun wq hw => by simp [execOp, MR.ev, MR.size, hsz, e15, f15, e1, f1, e13, f13, go_sem]) ?_
                            rw [MR.put_comm _ _ _ (show 16 ≠ 134 by decide)]
                            rw [MR.put_comm _ _ _ (show 16 ≠ 121 by decide)]
                            rw [MR.put_comm _ _ _ (show 16 ≠ 135 by decide)]
                            rw [MR.put_comm _ _ _ (show 16 ≠ 136 by decide)]
                            rw [MR.put_comm _ _ _ (show 16 ≠ 137 by decide)]
                            have hR := D1100 _ _ hS' (hqx.below hb hqx.lt) hx0
                            rw [hG] at hR
                            exact hR
                          · skip
                            refine MR.nowW (some 17) (.pointer (some ⟨W.heap.size, 0, none⟩)) rfl rfl (MR.free rfl) (MR.ex_alloc _ rfl (Bd.cs B1.zero) 10 Try.infoBdFP) ?_
                            have hb : Below W.heap.size W (W.alloc (.cells (Bd.cs B1.zero).toArray 24)) := (Below.refl _ W).alloc (Nat.le_refl _) _
                            have hS' := hS.trans (hb.mono hS.size)
                            refine ⟨hS', ?_⟩
                            have hR := D0110 _ _ _ hS' (hqx.below hb hqx.lt) hx0 (MA.Rg.new W (Bd.cs B1.zero) 24) hS.size (by have := hqx.lt; omega)
                            rw [hG] at hR
                            exact hR
                        have D0010 : ∀ (qy : Nat) (W : World) (hS : Below Wc.heap.size Wc W) (hqy : MA.Rg W qy 0 (Bd.cs B1.zero)) (hy0 : Wc.heap.size ≤ qy), G 9 #[true, true, true, true, true, true, true, true, true, true, true, true, false, false, false, false, false, false, true, false, false, false] (((((((((((((A.put (some 122) (.agg #[.int .i64 z0, .int .i64 z1, .bool z2, .int .i64 z3, .int .i64 z4, .int .i64 z5, .int .i64 z6, .int .i64 z7, .int .i64 z8, .string z9])).put (some 123) (.slice (some ⟨b9, o9, none⟩) ys.length cb)).put (some 124) (.int .i64 (k : Int))).put (some 125) (.pointer (some ⟨b9, o9 + k, none⟩))).put (some 126) (.int .u8 m)).put (some 127) (.int .i64 m)).put (some 128) (.pointer (some ⟨k15, 9, none⟩))).put (some 129) (.string z9)).put (some 130) (.int .i64 (z9.size : Int))).put (some 131) (.int .i64 ((z9.size : Int) - 1))).put (some 132) (.int .i64 (y0 : Int))).put (some 133) (.int .i64 (1 + (y0 : Int)))).put (some 17) (.pointer (some ⟨qy, 0, none⟩))) W := by
                          intro qy W hS hqy hy0
                          rw [hG]
                          refine MR.two (i := 12) (j := 17) (by kernel_rfl) ?_ ?_
                          · skip
                            refine MR.callW (some 134) (9) (#[.agg #[.int .i64 z0, .int .i64 z1, .bool z2, .int .i64 z3, .int .i64 z4, .int .i64 z5, .int .i64 z6, .int .i64 z7, .int .i64 z8, .string z9], .int .i64 (1 + (y0 : Int))]) rfl rfl (MR.free rfl) (by simp [execOp, MR.ev, MR.size, hsz, e15, f15, e1, f1, e13, f13, go_sem]) ?_
                            refine Calls.mono (CP.out _) ?_
                            rintro e W' ⟨rfl, hb⟩
                            have hS' : Below Wc.heap.size Wc W' := hS.trans (hb.mono hS.size)
                            refine ⟨_, rfl, hS', ?_⟩
                            refine MR.takeH (i := 13) (some 121) (.tuple #[.agg #[.int .i64 u0, .int .i64 u1, .bool u2, .int .i64 u3, .int .i64 u4, .int .i64 u5, .int .i64 u6, .int .i64 u7, .int .i64 u8, .string u9], .agg #[.int .i64 v0, .int .i64 v1, .bool v2, .int .i64 v3, .int .i64 v4, .int .i64 v5, .int .i64 v6, .int .i64 v7, .int .i64 v8, .string v9], .bool true]) rfl rfl (by kernel_rfl) (by kernel_rfl) (by kernel_rfl) nofun hS' (MR.free rfl) (fun wq hw => by simp [execOp, MR.ev, MR.size, hsz, e15, f15, e1, f1, e13, f13, go_sem]) ?_
                            refine MR.takeH (i := 14) (some 135) (.agg #[.int .i64 u0, .int .i64 u1, .bool u2, .int .i64 u3, .int .i64 u4, .int .i64 u5, .int .i64 u6, .int .i64 u7, .int .i64 u8, .string u9]) rfl rfl (by kernel_rfl) (by kernel_rfl) (by kernel_rfl) nofun hS' (MR.free rfl) (fun wq hw => by simp [execOp, MR.ev, MR.size, hsz, e15, f15, e1, f1, e13, f13, go_sem]) ?_
                            refine MR.takeH (i := 15) (some 136) (.agg #[.int .i64 v0, .int .i64 v1, .bool v2, .int .i64 v3, .int .i64 v4, .int .i64 v5, .int .i64 v6, .int .i64 v7, .int .i64 v8, .string v9]) rfl rfl (by kernel_rfl) (by kernel_rfl) (by kernel_rfl) nofun hS' (MR.free rfl) (fun wq hw => by simp [execOp, MR.ev, MR.size, hsz, e15, f15, e1, f1, e13, f13, go_sem]) ?_
                            refine MR.takeH (i := 16) (some 137) (.bool true) rfl rfl (by kernel_rfl) (by kernel_rfl) (by kernel_rfl) nofun hS' (MR.free rfl) (fun wq hw => by simp [execOp, MR.ev, MR.size, hsz, e15, f15, e1, f1, e13, f13, go_sem]) ?_
                            rw [MR.put_comm _ _ _ (show 17 ≠ 134 by decide)]
                            rw [MR.put_comm _ _ _ (show 17 ≠ 121 by decide)]
                            rw [MR.put_comm _ _ _ (show 17 ≠ 135 by decide)]
                            rw [MR.put_comm _ _ _ (show 17 ≠ 136 by decide)]
                            rw [MR.put_comm _ _ _ (show 17 ≠ 137 by decide)]
                            have hR := D1010 _ _ hS' (hqy.below hb hqy.lt) hy0
                            rw [hG] at hR
                            exact hR
                          · skip
                            refine MR.nowW (some 16) (.pointer (some ⟨W.heap.size, 0, none⟩)) rfl rfl (MR.free rfl) (MR.ex_alloc _ rfl (Bd.cs B1.zero) 10 Try.infoBdFP) ?_
                            have hb : Below W.heap.size W (W.alloc (.cells (Bd.cs B1.zero).toArray 24)) := (Below.refl _ W).alloc (Nat.le_refl _) _
                            have hS' := hS.trans (hb.mono hS.size)
                            refine ⟨hS', ?_⟩
                            rw [MR.put_comm _ _ _ (show 17 ≠ 16 by decide)]
                            have hR := D0110 _ _ _ hS' (MA.Rg.new W (Bd.cs B1.zero) 24) hS.size (hqy.below hb hqy.lt) hy0 (by have := hqy.lt; omega)
                            rw [hG] at hR
                            exact hR
                        have D0000 : ∀ (W : World) (hS : Below Wc.heap.size Wc W), G 10 #[true, true, true, true, true, true, true, true, true, true, true, true, false, false, false, false, false, false, false, false, false, false] ((((((((((((A.put (some 122) (.agg #[.int .i64 z0, .int .i64 z1, .bool z2, .int .i64 z3, .int .i64 z4, .int .i64 z5, .int .i64 z6, .int .i64 z7, .int .i64 z8, .string z9])).put (some 123) (.slice (some ⟨b9, o9, none⟩) ys.length cb)).put (some 124) (.int .i64 (k : Int))).put (some 125) (.pointer (some ⟨b9, o9 + k, none⟩))).put (some 126) (.int .u8 m)).put (some 127) (.int .i64 m)).put (some 128) (.pointer (some ⟨k15, 9, none⟩))).put (some 129) (.string z9)).put (some 130) (.int .i64 (z9.size : Int))).put (some 131) (.int .i64 ((z9.size : Int) - 1))).put (some 132) (.int .i64 (y0 : Int))).put (some 133) (.int .i64 (1 + (y0 : Int)))) W := by
                          intro W hS
                          rw [hG]
                          refine MR.three (i := 12) (j := 17) (l := 18) (by kernel_rfl) ?_ ?_ ?_
                          · skip
                            refine MR.callW (some 134) (9) (#[.agg #[.int .i64 z0, .int .i64 z1, .bool z2, .int .i64 z3, .int .i64 z4, .int .i64 z5, .int .i64 z6, .int .i64 z7, .int .i64 z8, .string z9], .int .i64 (1 + (y0 : Int))]) rfl rfl (MR.free rfl) (by simp [execOp, MR.ev, MR.size, hsz, e15, f15, e1, f1, e13, f13, go_sem]) ?_
                            refine Calls.mono (CP.out _) ?_
                            rintro e W' ⟨rfl, hb⟩
                            have hS' : Below Wc.heap.size Wc W' := hS.trans (hb.mono hS.size)
                            refine ⟨_, rfl, hS', ?_⟩
                            refine MR.takeH (i := 13) (some 121) (.tuple #[.agg #[.int .i64 u0, .int .i64 u1, .bool u2, .int .i64 u3, .int .i64 u4, .int .i64 u5, .int .i64 u6, .int .i64 u7, .int .i64 u8, .string u9], .agg #[.int .i64 v0, .int .i64 v1, .bool v2, .int .i64 v3, .int .i64 v4, .int .i64 v5, .int .i64 v6, .int .i64 v7, .int .i64 v8, .string v9], .bool true]) rfl rfl (by kernel_rfl) (by kernel_rfl) (by kernel_rfl) nofun hS' (MR.free rfl) (fun wq hw => by simp [execOp, MR.ev, MR.size, hsz, e15, f15, e1, f1, e13, f13, go_sem]) ?_
                            refine MR.takeH (i := 14) (some 135) (.agg #[.int .i64 u0, .int .i64 u1, .bool u2, .int .i64 u3, .int .i64 u4, .int .i64 u5, .int .i64 u6, .int .i64 u7, .int .i64 u8, .string u9]) rfl rfl (by kernel_rfl) (by kernel_rfl) (by kernel_rfl) nofun hS' (MR.free rfl) (fun wq hw => by simp [execOp, MR.ev, MR.size, hsz, e15, f15, e1, f1, e13, f13, go_sem]) ?_
                            refine MR.takeH (i := 15) (some 136) (.agg #[.int .i64 v0, .int .i64 v1, .bool v2, .int .i64 v3, .int .i64 v4, .int .i64 v5, .int .i64 v6, .int .i64 v7, .int .i64 v8, .string v9]) rfl rfl (by kernel_rfl) (by kernel_rfl) (by kernel_rfl) nofun hS' (MR.free rfl) (fun wq hw => by simp [execOp, MR.ev, MR.size, hsz, e15, f15, e1, f1, e13, f13, go_sem]) ?_
                            refine MR.takeH (i := 16) (some 137) (.bool true) rfl rfl (by kernel_rfl) (by kernel_rfl) (by kernel_rfl) nofun hS' (MR.free rfl) (fun wq hw => by simp [execOp, MR.ev, MR.size, hsz, e15, f15, e1, f1, e13, f13, go_sem]) ?_
                            have hR := D1000 _ hS'
                            rw [hG] at hR
                            exact hR
                          · skip
                            refine MR.nowW (some 16) (.pointer (some ⟨W.heap.size, 0, none⟩)) rfl rfl (MR.free rfl) (MR.ex_alloc _ rfl (Bd.cs B1.zero) 10 Try.infoBdFP) ?_
                            have hb : Below W.heap.size W (W.alloc (.cells (Bd.cs B1.zero).toArray 24)) := (Below.refl _ W).alloc (Nat.le_refl _) _
                            have hS' := hS.trans (hb.mono hS.size)
                            refine ⟨hS', ?_⟩
                            have hR := D0100 _ _ hS' (MA.Rg.new W (Bd.cs B1.zero) 24) hS.size
                            rw [hG] at hR
                            exact hR
                          · skip
                            refine MR.nowW (some 17) (.pointer (some ⟨W.heap.size, 0, none⟩)) rfl rfl (MR.free rfl) (MR.ex_alloc _ rfl (Bd.cs B1.zero) 10 Try.infoBdFP) ?_
                            have hb : Below W.heap.size W (W.alloc (.cells (Bd.cs B1.zero).toArray 24)) := (Below.refl _ W).alloc (Nat.le_refl _) _
                            have hS' := hS.trans (hb.mono hS.size)
                            refine ⟨hS', ?_⟩
                            have hR := D0010 _ _ hS' (MA.Rg.new W (Bd.cs B1.zero) 24) hS.size
                            rw [hG] at hR
                            exact hR
                        exact D0000 _ hS
                      rintro aa Wd ⟨q16, q17, rfl, hf⟩
                      rw [HA.out]
                      clear HA hsz e15 f15 e1 f1 e13 f13
                      simp only [Act.put, List.setIfInBounds_toArray, List.set_cons_succ, List.set_cons_zero]
                      obtain ⟨hb, b16, b17, h16, h17, hne⟩ := hf.out
                      clear k0 k1 k2 k3 k4 k5 k6 k7 k8 k9 kl
                      clear hf CP hm9 hb9 hm0 hm1 hy0 hsub hadd hwm hn1 hy1
                      dsimp only at hSA hSB
                      have P1 := HP.out.below hb
                      have hk12 := HP.out.lt
                      have hk15 := hbz.lt
                      replace hbz := hbz.below hb hbz.lt
                      have HB1 : Hid (Below Wa.heap.size Wa Wd) := HBB.out.trans (hb.mono HBB.out.size)
                      have hds := hb.size
                      have hle1 : Wa.heap.size ≤ Wc.heap.size := HBB.out.size
                      clear hb HP HBB HB5 BV
                      have n0 : Wd.cell? ⟨q17, 0, none⟩ = some (.int .i64 v0) := by have h := b17.cell (j := 0) rfl; rwa [Nat.zero_add] at h
                      have n1 : Wd.cell? ⟨q17, 1, none⟩ = some (.int .i64 v1) := by have h := b17.cell (j := 1) rfl; rwa [Nat.zero_add] at h
                      have n2 : Wd.cell? ⟨q17, 2, none⟩ = some (.bool v2) := by have h := b17.cell (j := 2) rfl; rwa [Nat.zero_add] at h
                      have n3 : Wd.cell? ⟨q17, 3, none⟩ = some (.int .i64 v3) := by have h := b17.cell (j := 3) rfl; rwa [Nat.zero_add] at h
                      have n4 : Wd.cell? ⟨q17, 4, none⟩ = some (.int .i64 v4) := by have h := b17.cell (j := 4) rfl; rwa [Nat.zero_add] at h
                      have n5 : Wd.cell? ⟨q17, 5, none⟩ = some (.int .i64 v5) := by have h := b17.cell (j := 5) rfl; rwa [Nat.zero_add] at h
                      have n6 : Wd.cell? ⟨q17, 6, none⟩ = some (.int .i64 v6) := by have h := b17.cell (j := 6) rfl; rwa [Nat.zero_add] at h
                      have n7 : Wd.cell? ⟨q17, 7, none⟩ = some (.int .i64 v7) := by have h := b17.cell (j := 7) rfl; rwa [Nat.zero_add] at h
                      have n8 : Wd.cell? ⟨q17, 8, none⟩ = some (.int .i64 v8) := by have h := b17.cell (j := 8) rfl; rwa [Nat.zero_add] at h
                      have n9 : Wd.cell? ⟨q17, 9, none⟩ = some (.string v9) := by have h := b17.cell (j := 9) rfl; rwa [Nat.zero_add] at h
                      have nl := b17.lt
                      have c12 := P1.cell
                      have l12 := P1.lt
                      go_wp2_with fail
                      clear n0 n1 n2 n3 n4 n5 n6 n7 n8 n9 nl
                      refine (implAdd_any ax cx xs ⟨v0, v1, v2, v3, v4, v5, v6, v7, v8, v9⟩ _ (by have := HPX.out.len; omega) (by show v9.size ≤ 1048576; omega) (HPX.out.sz HF.out.wh) P1.row).mono ?_
                      rintro e We ⟨a3, c3, g3, rfl, hg3, hr3, hb⟩
                      obtain ⟨hrow, hfar⟩ := PP.add_row hg3 hr3
                      have P2 := P1.below hb
                      replace hbz := hbz.below hb hbz.lt
                      replace b16 := b16.below hb b16.lt
                      have HB2 : Hid (Below Wa.heap.size Wa We) := HB1.out.trans (hb.mono HB1.out.size)
                      have hes := hb.size
                      have hrd := PP.round_half HF.out.wh HPX.out HV.out hIB
                      clear hb hr3 hg3 HB1 P1 b17 c12 l12
                      generalize (PD.ans xs ⟨v0, v1, v2, v3, v4, v5, v6, v7, v8, v9⟩).1 = xs1 at *
                      generalize (PD.ans xs ⟨v0, v1, v2, v3, v4, v5, v6, v7, v8, v9⟩).2 = ok1 at *
                      have PN := PP.PBox.new (w := We) (T := 31) (cap := c3) rfl hrow (PP.far_of hrow (Nat.le_refl _))
                      replace P2 := P2.alloc (.cells #[.slice a3 xs1.length c3] 31)
                      replace hbz := hbz.alloc (.cells #[.slice a3 xs1.length c3] 31)
                      replace b16 := b16.alloc (.cells #[.slice a3 xs1.length c3] 31)
                      replace HB2 : Hid (Below Wa.heap.size Wa (We.alloc (.cells #[.slice a3 xs1.length c3] 31))) := HB2.out.alloc HB2.out.size _
                      rcases hrd with ⟨rfl, h2, h3, h4⟩ | ⟨rfl, h2⟩
                      · go_upto_region 28 with fail
                        generalize We.alloc (.cells #[.slice a3 xs1.length c3] 31) = Wf at *
                        obtain ⟨k19, hk19⟩ : ∃ q, We.heap.size = q := ⟨_, rfl⟩
                        rw [hk19] at PN ⊢
                        clear hk19
                        have c19 := PN.cell
                        have l19 := PN.lt
                        have c12 := P2.cell
                        have f12 := P2.free
                        have l12 := P2.lt
                        have hf12 := hfar k12 (by omega)
                        have hf15 := hfar k15 (by omega)
                        have P3 := P2.set (cap' := c3) PN.row hf12
                        have hbz3 := hbz.far (g := k12) (j := 0) (v := .slice a3 xs1.length c3) h15
                        have b163 : MA.Rg (Wf.setCell ⟨k12, 0, none⟩ (.slice a3 xs1.length c3)) q16 0 [.int .i64 u0, .int .i64 u1, .bool u2, .int .i64 u3, .int .i64 u4, .int .i64 u5, .int .i64 u6, .int .i64 u7, .int .i64 u8, .string u9] := b16.other (k' := k12) (o' := 0) (vs := [.slice a3 xs1.length c3]) (.inl (by omega))
                        have HB3 : Hid (Below Wa.heap.size Wa (Wf.setCell ⟨k12, 0, none⟩ (.slice a3 xs1.length c3))) := HB2.out.setCell (p := ⟨k12, 0, none⟩) hle12 _
                        go_upto_region 29 with fail
                        clear c19 l19 c12 f12 l12 PN P2 hbz b16 HB2
                        generalize Wf.setCell ⟨k12, 0, none⟩ (.slice a3 xs1.length c3) = Wg at *
                        have n0 : Wg.cell? ⟨q16, 0, none⟩ = some (.int .i64 u0) := by have h := b163.cell (j := 0) rfl; rwa [Nat.zero_add] at h
                        have n1 : Wg.cell? ⟨q16, 1, none⟩ = some (.int .i64 u1) := by have h := b163.cell (j := 1) rfl; rwa [Nat.zero_add] at h
                        have n2 : Wg.cell? ⟨q16, 2, none⟩ = some (.bool u2) := by have h := b163.cell (j := 2) rfl; rwa [Nat.zero_add] at h
                        have n3 : Wg.cell? ⟨q16, 3, none⟩ = some (.int .i64 u3) := by have h := b163.cell (j := 3) rfl; rwa [Nat.zero_add] at h
                        have n4 : Wg.cell? ⟨q16, 4, none⟩ = some (.int .i64 u4) := by have h := b163.cell (j := 4) rfl; rwa [Nat.zero_add] at h
                        have n5 : Wg.cell? ⟨q16, 5, none⟩ = some (.int .i64 u5) := by have h := b163.cell (j := 5) rfl; rwa [Nat.zero_add] at h
                        have n6 : Wg.cell? ⟨q16, 6, none⟩ = some (.int .i64 u6) := by have h := b163.cell (j := 6) rfl; rwa [Nat.zero_add] at h
                        have n7 : Wg.cell? ⟨q16, 7, none⟩ = some (.int .i64 u7) := by have h := b163.cell (j := 7) rfl; rwa [Nat.zero_add] at h
                        have n8 : Wg.cell? ⟨q16, 8, none⟩ = some (.int .i64 u8) := by have h := b163.cell (j := 8) rfl; rwa [Nat.zero_add] at h
                        have n9 : Wg.cell? ⟨q16, 9, none⟩ = some (.string u9) := by have h := b163.cell (j := 9) rfl; rwa [Nat.zero_add] at h
                        have nl := b163.lt
                        have m0 := hbz3.cells 0
                        have g0 := hbz3.free 0
                        have m1 := hbz3.cells 1
                        have g1 := hbz3.free 1
                        have m2 := hbz3.cells 2
                        have g2 := hbz3.free 2
                        have m3 := hbz3.cells 3
                        have g3 := hbz3.free 3
                        have m4 := hbz3.cells 4
                        have g4 := hbz3.free 4
                        have m5 := hbz3.cells 5
                        have g5 := hbz3.free 5
                        have m6 := hbz3.cells 6
                        have g6 := hbz3.free 6
                        have m7 := hbz3.cells 7
                        have g7 := hbz3.free 7
                        have m8 := hbz3.cells 8
                        have g8 := hbz3.free 8
                        have m9 := hbz3.cells 9
                        have g9 := hbz3.free 9
                        simp [Bd.cs] at m0 m1 m2 m3 m4 m5 m6 m7 m8 m9
                        have ml := hbz3.lt
                        go_wp2_with fail
                        clear n0 n1 n2 n3 n4 n5 n6 n7 n8 n9 nl
                        clear m0 g0 m1 g1 m2 g2 m3 g3 m4 g4 m5 g5 m6 g6 m7 g7 m8 g8 m9 g9 ml
                        go_meet
                        exact ⟨xs1, a3, c3, ⟨u0, u1, u2, u3, u4, u5, u6, u7, u8, u9⟩, ((((((((((P3.other (g := k15) (j := 0) (v := .int .i64 u0) (Ne.symm h15) hf15).other (g := k15) (j := 1) (v := .int .i64 u1) (Ne.symm h15) hf15).other (g := k15) (j := 2) (v := .bool u2) (Ne.symm h15) hf15).other (g := k15) (j := 3) (v := .int .i64 u3) (Ne.symm h15) hf15).other (g := k15) (j := 4) (v := .int .i64 u4) (Ne.symm h15) hf15).other (g := k15) (j := 5) (v := .int .i64 u5) (Ne.symm h15) hf15).other (g := k15) (j := 6) (v := .int .i64 u6) (Ne.symm h15) hf15).other (g := k15) (j := 7) (v := .int .i64 u7) (Ne.symm h15) hf15).other (g := k15) (j := 8) (v := .int .i64 u8) (Ne.symm h15) hf15).other (g := k15) (j := 9) (v := .string u9) (Ne.symm h15) hf15), hbz3.put ⟨u0, u1, u2, u3, u4, u5, u6, u7, u8, u9⟩, h2, h3, hIA, (fun p hp => (hAB p (by rw [HBJ.out] at hp; exact hp)).imp id (h4 p)), ((((((((((HB3.out.setCell (p := ⟨k15, 0, none⟩) hle15 (.int .i64 u0)).setCell (p := ⟨k15, 1, none⟩) hle15 (.int .i64 u1)).setCell (p := ⟨k15, 2, none⟩) hle15 (.bool u2)).setCell (p := ⟨k15, 3, none⟩) hle15 (.int .i64 u3)).setCell (p := ⟨k15, 4, none⟩) hle15 (.int .i64 u4)).setCell (p := ⟨k15, 5, none⟩) hle15 (.int .i64 u5)).setCell (p := ⟨k15, 6, none⟩) hle15 (.int .i64 u6)).setCell (p := ⟨k15, 7, none⟩) hle15 (.int .i64 u7)).setCell (p := ⟨k15, 8, none⟩) hle15 (.int .i64 u8)).setCell (p := ⟨k15, 9, none⟩) hle15 (.string u9))⟩
                      · have h60 : ((xs.length : Int) == 60) = true := by simp [h2]
                        have c12 := P2.cell
                        have l12 := P2.lt
                        clear h2 HPX HV HBJ
                        go_wp2_with fail
                        go_ret
                        exact ⟨by simp [h60], BW.trans (HB2.out.mono BW.size)⟩
                  case rest =>
                    clear hbz HP HB5 HBB HPX HV hXI hXS hq HBJ BV k0 k1 k2 k3 k4 k5 k6 k7 k8 k9 kl
                    obtain ⟨xs1, ax1, cx1, xq, P1, hbz, hPX, hVX, hIQ, hcov, hb⟩ := hcut
                    have HPX : Hid (PP.Pile _ _) := hPX
                    have hSQ := hIQ.sz HF.out.wh
                    have HRD : Hid _ := PP.round_one HF.out.wh hPX hVX hIQ (fun p hp => hcov p (by rw [HJ.out]; exact hp))
                    have HB1 : Hid (Below Wa.heap.size Wa _) := hb
                    have hk12 := P1.lt
                    clear hPX hVX hcov hIQ hb
                    obtain ⟨r0, r1, r2, r3, r4, r5, r6, r7, r8, r9⟩ := xq
                    dsimp only at hSQ
                    have n0 := hbz.cells 0
                    have n1 := hbz.cells 1
                    have n2 := hbz.cells 2
                    have n3 := hbz.cells 3
                    have n4 := hbz.cells 4
                    have n5 := hbz.cells 5
                    have n6 := hbz.cells 6
                    have n7 := hbz.cells 7
                    have n8 := hbz.cells 8
                    have n9 := hbz.cells 9
                    simp [Bd.cs] at n0 n1 n2 n3 n4 n5 n6 n7 n8 n9
                    have nl := hbz.lt
                    have c12 := P1.cell
                    have l12 := P1.lt
                    go_wp2_with fail
                    clear n0 n1 n2 n3 n4 n5 n6 n7 n8 n9 nl
                    refine (implAdd_any ax1 cx1 xs1 ⟨r0, r1, r2, r3, r4, r5, r6, r7, r8, r9⟩ _ (by have := HPX.out.len; omega) (by show r9.size ≤ 1048576; omega) (HPX.out.sz HF.out.wh) P1.row).mono ?_
                    rintro e We ⟨a3, c3, g3, rfl, hg3, hr3, hb⟩
                    obtain ⟨hrow, hfar⟩ := PP.add_row hg3 hr3
                    have P2 := P1.below hb
                    replace hbz := hbz.below hb hbz.lt
                    have HB2 : Hid (Below Wa.heap.size Wa We) := HB1.out.trans (hb.mono HB1.out.size)
                    have hes := hb.size
                    have hrd := HRD.out
                    clear hb hr3 hg3 HB1 P1 c12 l12 HRD
                    generalize (PD.ans xs1 ⟨r0, r1, r2, r3, r4, r5, r6, r7, r8, r9⟩).1 = xs2 at *
                    generalize (PD.ans xs1 ⟨r0, r1, r2, r3, r4, r5, r6, r7, r8, r9⟩).2 = ok1 at *
                    have PN := PP.PBox.new (w := We) (T := 31) (cap := c3) rfl hrow (PP.far_of hrow (Nat.le_refl _))
                    replace P2 := P2.alloc (.cells #[.slice a3 xs2.length c3] 31)
                    replace hbz := hbz.alloc (.cells #[.slice a3 xs2.length c3] 31)
                    replace HB2 : Hid (Below Wa.heap.size Wa (We.alloc (.cells #[.slice a3 xs2.length c3] 31))) := HB2.out.alloc HB2.out.size _
                    rcases hrd with ⟨rfl, h2, h3, h4⟩ | ⟨rfl, h2⟩
                    · have HP2 : Hid (PP.Pile _ xs2) := h2
                      have HV2 : Hid (PP.Vis L s (k + 1) xs2) := h3
                      have HAG : Hid (PD.ans xs2 ⟨r0, r1, r2, r3, r4, r5, r6, r7, r8, r9⟩ = (xs2, true)) := h4
                      clear h2 h3 h4
                      go_upto_region 33 with fail
                      generalize We.alloc (.cells #[.slice a3 xs2.length c3] 31) = Wf at *
                      obtain ⟨k21, hk21⟩ : ∃ q, We.heap.size = q := ⟨_, rfl⟩
                      rw [hk21] at PN ⊢
                      have HF12 : Hid (PP.Far a3 xs2 k12) := hfar k12 (by omega)
                      have hkne : k21 ≠ k12 := by omega
                      clear hk21 hfar hes
                      have n0 := hbz.cells 0
                      have n1 := hbz.cells 1
                      have n2 := hbz.cells 2
                      have n3 := hbz.cells 3
                      have n4 := hbz.cells 4
                      have n5 := hbz.cells 5
                      have n6 := hbz.cells 6
                      have n7 := hbz.cells 7
                      have n8 := hbz.cells 8
                      have n9 := hbz.cells 9
                      simp [Bd.cs] at n0 n1 n2 n3 n4 n5 n6 n7 n8 n9
                      have nl := hbz.lt
                      have c21 := PN.cell
                      have l21 := PN.lt
                      go_wp2_with fail
                      clear n0 n1 n2 n3 n4 n5 n6 n7 n8 n9 nl
                      have hC := implAdd_any a3 c3 xs2 ⟨r0, r1, r2, r3, r4, r5, r6, r7, r8, r9⟩ Wf (by have := HP2.out.len; omega) (by show r9.size ≤ 1048576; omega) (HP2.out.sz HF.out.wh) PN.row
                      rw [HAG.out] at hC
                      refine hC.mono ?_
                      rintro e Wi ⟨a4, c4, g4, rfl, hg4, hr4, hb⟩
                      obtain ⟨hrow4, hfar4⟩ := PP.add_row hg4 hr4
                      replace P2 := P2.below hb
                      replace PN := PN.below hb
                      have HB3 : Hid (Below Wa.heap.size Wa Wi) := HB2.out.trans (hb.mono HB2.out.size)
                      clear hb hC HAG hg4 hr4 hfar4 HB2 hbz c21 l21
                      have PZ := PP.PBox.new (w := Wi) (T := 31) (cap := c4) rfl hrow4 (PP.far_of hrow4 (Nat.le_refl _))
                      replace P2 := P2.alloc (.cells #[.slice a4 xs2.length c4] 31)
                      replace PN := PN.alloc (.cells #[.slice a4 xs2.length c4] 31)
                      replace HB3 : Hid (Below Wa.heap.size Wa (Wi.alloc (.cells #[.slice a4 xs2.length c4] 31))) := HB3.out.alloc HB3.out.size _
                      dsimp only
                      go_upto_region 34 with fail
                      generalize Wi.alloc (.cells #[.slice a4 xs2.length c4] 31) = Wj at *
                      obtain ⟨k23, hk23⟩ : ∃ q, Wi.heap.size = q := ⟨_, rfl⟩
                      rw [hk23] at PZ ⊢
                      clear hk23 hrow4
                      have c21 := PN.cell
                      have l21 := PN.lt
                      have c23 := PZ.cell
                      have l23 := PZ.lt
                      go_wp2_with fail
                      refine (samePiles_any a4 a3 c4 c3 xs2 Wj (by have := HP2.out.len; omega) PZ.row PN.row).mono ?_
                      rintro e Wk ⟨rfl, hb⟩
                      replace P2 := P2.below hb
                      replace PN := PN.below hb
                      have HB4 : Hid (Below Wa.heap.size Wa Wk) := HB3.out.trans (hb.mono HB3.out.size)
                      clear hb HB3 PZ c21 l21 c23 l23
                      have c21 := PN.cell
                      have l21 := PN.lt
                      have c12 := P2.cell
                      have f12 := P2.free
                      have l12 := P2.lt
                      have P5 := P2.set (cap' := c3) PN.row HF12.out
                      go_wp2
                      go_roundw
                      case rel => exact ⟨k + 1, xs2, a3, c3, by go_num, by omega, P5, HP2, HV2, HB4.out.setCell (p := ⟨k12, 0, none⟩) hle12 _⟩
                      case measure => simp [intOf]; omega
                    · have h60 : ((xs1.length : Int) == 60) = true := by simp [h2]
                      have c12 := P2.cell
                      have l12 := P2.lt
                      clear h2 HPX
                      go_wp2_with fail
                      go_ret
                      exact ⟨by simp [h60], BW.trans (HB2.out.mono BW.size)⟩
              · obtain rfl : k = L.length := by omega
                rename World => Wb
                have hfin := HF.out.all s xs HPX.out HV.out
                have hgd := HPX.out.good
                have hsz := HPX.out.sz HF.out.wh
                have hxl := HPX.out.len
                have hb5 := hbx.below hb hbx.lt
                have BV := BW.trans (hb.mono BW.size)
                clear HF HBY HNM HS HPX HV HAF HK12 hb hl hk hbx BW hA
                have c12 := hP.cell
                have l12 := hP.lt
                go_wp2_with fail
                have hC := implWhole_any ax cx xs Wb (by omega) hsz hP.row
                rw [hfin.1, hfin.2.1] at hC
                refine hC.mono ?_
                rintro e Wc ⟨rfl, hb⟩
                replace hP := hP.below hb
                replace hb5 := hb5.below hb hb5.lt
                replace BV := BV.trans (hb.mono BV.size)
                clear hb hC c12 l12
                have hbw := BX.Box.new Wc 24 ⟨x0, x1, x2, x3, x4, x5, x6, x7, x8, x9⟩ Wc.heap.size rfl
                replace hP := hP.alloc (.cells #[.int .i64 x0, .int .i64 x1, .bool x2, .int .i64 x3, .int .i64 x4, .int .i64 x5, .int .i64 x6, .int .i64 x7, .int .i64 x8, .string x9] 24)
                replace hb5 := hb5.alloc (.cells #[.int .i64 x0, .int .i64 x1, .bool x2, .int .i64 x3, .int .i64 x4, .int .i64 x5, .int .i64 x6, .int .i64 x7, .int .i64 x8, .string x9] 24)
                replace BV := BV.alloc BV.size (.cells #[.int .i64 x0, .int .i64 x1, .bool x2, .int .i64 x3, .int .i64 x4, .int .i64 x5, .int .i64 x6, .int .i64 x7, .int .i64 x8, .string x9] 24)
                simp only [BX.cs, Bd.cs] at hbw
                dsimp only [Bd.cs]
                go_upto_region 39 with fail
                generalize Wc.alloc (.cells #[.int .i64 x0, .int .i64 x1, .bool x2, .int .i64 x3, .int .i64 x4, .int .i64 x5, .int .i64 x6, .int .i64 x7, .int .i64 x8, .string x9] 24) = Wd at *
                obtain ⟨k25, hk25⟩ : ∃ q, Wc.heap.size = q := ⟨_, rfl⟩
                rw [hk25] at hbw ⊢
                clear hk25
                have c12 := hP.cell
                have l12 := hP.lt
                go_wp2_with fail
                have hC := implMissing_any ax cx xs Wd (by omega) hsz hP.row
                rw [hfin.2.2, hgd] at hC
                refine hC.mono ?_
                rintro e We ⟨rfl, hb⟩
                replace hbw := hbw.below hb hbw.lt
                replace hb5 := hb5.below hb hb5.lt
                replace BV := BV.trans (hb.mono BV.size)
                clear hb hC c12 l12 hP hfin hgd hsz
                have m0 := hbw.cells 0
                have m1 := hbw.cells 1
                have m2 := hbw.cells 2
                have m3 := hbw.cells 3
                have m4 := hbw.cells 4
                have m5 := hbw.cells 5
                have m6 := hbw.cells 6
                have m7 := hbw.cells 7
                have m8 := hbw.cells 8
                have m9 := hbw.cells 9
                simp [Bd.cs] at m0 m1 m2 m3 m4 m5 m6 m7 m8 m9
                have ml := hbw.lt
                have n0 := hb5.cells 0
                have n1 := hb5.cells 1
                have n2 := hb5.cells 2
                have n3 := hb5.cells 3
                have n4 := hb5.cells 4
                have n5 := hb5.cells 5
                have n6 := hb5.cells 6
                have n7 := hb5.cells 7
                have n8 := hb5.cells 8
                have n9 := hb5.cells 9
                simp [Bd.cs] at n0 n1 n2 n3 n4 n5 n6 n7 n8 n9
                have nl := hb5.lt
                go_wp2_with fail
                go_meet
                exact BV
        case rest =>
          clear HF HNM HS hbx hA BW hL hpy hnr
          have BW := hcut
          clear hcut
          go_wp2_with fail
          refine (drawCutPiece_any a' ys cb _ hy (HBY.out _ BW)).mono ?_
          rintro e X1 ⟨c, y, rfl, hpc, hyn, hb⟩
          replace BW := BW.trans (hb.mono BW.size)
          clear hb HBY
          have IC : Hid (∀ W : World, Calls Try.prog 9 #[c.v, .int .i64 (y : Int)] W fun e w' => e = .returned (.tuple #[(cutA c y).v, (cutB c y).v, .bool (cutOk c y)]) ∧ Below W.heap.size W w') := fun W => implCut_any c (y : Int) W (by omega) (by omega)
          have SC : Hid (∀ W : World, Calls Try.prog 15 #[c.v, .int .i64 (y : Int)] W fun e w' => e = .returned (.tuple #[(cutA c y).v, (cutB c y).v, .bool (cutOk c y)]) ∧ Below W.heap.size W w') := fun W => specCut_any c (y : Int) W (by omega)
          have HG : Hid (cutOk c (y : Int) = true → (cutA c (y : Int)).py ++ (cutB c (y : Int)).py = c.py ∧ (∀ W : World, Calls Try.prog 16 #[(cutA c y).v] W fun e w' => e = .returned (.bool true) ∧ Below W.heap.size W w') ∧ (∀ W : World, Calls Try.prog 16 #[(cutB c y).v] W fun e w' => e = .returned (.bool true) ∧ Below W.heap.size W w')) := fun h => by
            obtain ⟨h1, h2, h3⟩ := PP.cut_join h
            have h4 := congrArg ByteArray.size h1
            rw [ByteArray.size_append] at h4
            exact ⟨h1, fun W => implGoodBundle_any _ W (by omega) true h2, fun W => implGoodBundle_any _ W (by omega) true h3⟩
          have hbq := BX.Box.new X1 24 c X1.heap.size rfl
          replace BW := BW.alloc BW.size (.cells (BX.cs c).toArray 24)
          generalize cutOk c (y : Int) = OK2 at *
          generalize cutA c (y : Int) = pA at *
          generalize cutB c (y : Int) = pB at *
          obtain ⟨c0, c1, c2, c3, c4, c5, c6, c7, c8, c9⟩ := c
          obtain ⟨u0, u1, u2, u3, u4, u5, u6, u7, u8, u9⟩ := pA
          obtain ⟨v0, v1, v2, v3, v4, v5, v6, v7, v8, v9⟩ := pB
          simp only [BX.cs, Bd.cs] at hbq BW
          dsimp only at HG
          go_wp2_with fail
          generalize X1.alloc (.cells #[.int .i64 c0, .int .i64 c1, .bool c2, .int .i64 c3, .int .i64 c4, .int .i64 c5, .int .i64 c6, .int .i64 c7, .int .i64 c8, .string c9] 24) = X2 at *
          obtain ⟨k29, hk29⟩ : ∃ q, X1.heap.size = q := ⟨_, rfl⟩
          rw [hk29] at hbq ⊢
          clear hk29
          refine (IC.out _).mono ?_
          rintro e X3 ⟨rfl, hb⟩
          replace hbq := hbq.below hb hbq.lt
          replace BW := BW.trans (hb.mono BW.size)
          clear hb IC
          have hb31 := (BX.Box.new X3 24 ⟨u0, u1, u2, u3, u4, u5, u6, u7, u8, u9⟩ X3.heap.size rfl).alloc (.cells #[.int .i64 v0, .int .i64 v1, .bool v2, .int .i64 v3, .int .i64 v4, .int .i64 v5, .int .i64 v6, .int .i64 v7, .int .i64 v8, .string v9] 24)
          have hb32 := BX.Box.new (X3.alloc (.cells #[.int .i64 u0, .int .i64 u1, .bool u2, .int .i64 u3, .int .i64 u4, .int .i64 u5, .int .i64 u6, .int .i64 u7, .int .i64 u8, .string u9] 24)) 24 ⟨v0, v1, v2, v3, v4, v5, v6, v7, v8, v9⟩ (X3.heap.size + 1) (by simp)
          replace hbq := (hbq.alloc (.cells #[.int .i64 u0, .int .i64 u1, .bool u2, .int .i64 u3, .int .i64 u4, .int .i64 u5, .int .i64 u6, .int .i64 u7, .int .i64 u8, .string u9] 24)).alloc (.cells #[.int .i64 v0, .int .i64 v1, .bool v2, .int .i64 v3, .int .i64 v4, .int .i64 v5, .int .i64 v6, .int .i64 v7, .int .i64 v8, .string v9] 24)
          replace BW := (BW.alloc BW.size (.cells #[.int .i64 u0, .int .i64 u1, .bool u2, .int .i64 u3, .int .i64 u4, .int .i64 u5, .int .i64 u6, .int .i64 u7, .int .i64 u8, .string u9] 24)).alloc (by have := BW.size; simp; omega) (.cells #[.int .i64 v0, .int .i64 v1, .bool v2, .int .i64 v3, .int .i64 v4, .int .i64 v5, .int .i64 v6, .int .i64 v7, .int .i64 v8, .string v9] 24)
          simp only [BX.cs, Bd.cs] at hb31 hb32
          go_upto_region 44 with fail
          generalize (X3.alloc (.cells #[.int .i64 u0, .int .i64 u1, .bool u2, .int .i64 u3, .int .i64 u4, .int .i64 u5, .int .i64 u6, .int .i64 u7, .int .i64 u8, .string u9] 24)).alloc (.cells #[.int .i64 v0, .int .i64 v1, .bool v2, .int .i64 v3, .int .i64 v4, .int .i64 v5, .int .i64 v6, .int .i64 v7, .int .i64 v8, .string v9] 24) = X4 at *
          obtain ⟨k32, hk32⟩ : ∃ q, X3.heap.size + 1 = q := ⟨_, rfl⟩
          rw [hk32] at hb32 ⊢
          clear hk32
          obtain ⟨k31, hk31⟩ : ∃ q, X3.heap.size = q := ⟨_, rfl⟩
          rw [hk31] at hb31 ⊢
          clear hk31
          have n0 := hbq.cells 0
          have n1 := hbq.cells 1
          have n2 := hbq.cells 2
          have n3 := hbq.cells 3
          have n4 := hbq.cells 4
          have n5 := hbq.cells 5
          have n6 := hbq.cells 6
          have n7 := hbq.cells 7
          have n8 := hbq.cells 8
          have n9 := hbq.cells 9
          simp [Bd.cs] at n0 n1 n2 n3 n4 n5 n6 n7 n8 n9
          have nl := hbq.lt
          go_wp2_with fail
          clear n0 n1 n2 n3 n4 n5 n6 n7 n8 n9 nl
          refine (SC.out _).mono ?_
          rintro e X5 ⟨rfl, hb⟩
          replace hbq := hbq.below hb hbq.lt
          replace hb31 := hb31.below hb hb31.lt
          replace hb32 := hb32.below hb hb32.lt
          replace BW := BW.trans (hb.mono BW.size)
          clear hb SC
          have hb34 := (BX.Box.new X5 24 ⟨u0, u1, u2, u3, u4, u5, u6, u7, u8, u9⟩ X5.heap.size rfl).alloc (.cells #[.int .i64 v0, .int .i64 v1, .bool v2, .int .i64 v3, .int .i64 v4, .int .i64 v5, .int .i64 v6, .int .i64 v7, .int .i64 v8, .string v9] 24)
          have hb35 := BX.Box.new (X5.alloc (.cells #[.int .i64 u0, .int .i64 u1, .bool u2, .int .i64 u3, .int .i64 u4, .int .i64 u5, .int .i64 u6, .int .i64 u7, .int .i64 u8, .string u9] 24)) 24 ⟨v0, v1, v2, v3, v4, v5, v6, v7, v8, v9⟩ (X5.heap.size + 1) (by simp)
          replace hbq := (hbq.alloc (.cells #[.int .i64 u0, .int .i64 u1, .bool u2, .int .i64 u3, .int .i64 u4, .int .i64 u5, .int .i64 u6, .int .i64 u7, .int .i64 u8, .string u9] 24)).alloc (.cells #[.int .i64 v0, .int .i64 v1, .bool v2, .int .i64 v3, .int .i64 v4, .int .i64 v5, .int .i64 v6, .int .i64 v7, .int .i64 v8, .string v9] 24)
          replace hb31 := (hb31.alloc (.cells #[.int .i64 u0, .int .i64 u1, .bool u2, .int .i64 u3, .int .i64 u4, .int .i64 u5, .int .i64 u6, .int .i64 u7, .int .i64 u8, .string u9] 24)).alloc (.cells #[.int .i64 v0, .int .i64 v1, .bool v2, .int .i64 v3, .int .i64 v4, .int .i64 v5, .int .i64 v6, .int .i64 v7, .int .i64 v8, .string v9] 24)
          replace hb32 := (hb32.alloc (.cells #[.int .i64 u0, .int .i64 u1, .bool u2, .int .i64 u3, .int .i64 u4, .int .i64 u5, .int .i64 u6, .int .i64 u7, .int .i64 u8, .string u9] 24)).alloc (.cells #[.int .i64 v0, .int .i64 v1, .bool v2, .int .i64 v3, .int .i64 v4, .int .i64 v5, .int .i64 v6, .int .i64 v7, .int .i64 v8, .string v9] 24)
          replace BW := (BW.alloc BW.size (.cells #[.int .i64 u0, .int .i64 u1, .bool u2, .int .i64 u3, .int .i64 u4, .int .i64 u5, .int .i64 u6, .int .i64 u7, .int .i64 u8, .string u9] 24)).alloc (by have := BW.size; simp; omega) (.cells #[.int .i64 v0, .int .i64 v1, .bool v2, .int .i64 v3, .int .i64 v4, .int .i64 v5, .int .i64 v6, .int .i64 v7, .int .i64 v8, .string v9] 24)
          simp only [BX.cs, Bd.cs] at hb34 hb35
          go_upto_region 45 with fail
          generalize (X5.alloc (.cells #[.int .i64 u0, .int .i64 u1, .bool u2, .int .i64 u3, .int .i64 u4, .int .i64 u5, .int .i64 u6, .int .i64 u7, .int .i64 u8, .string u9] 24)).alloc (.cells #[.int .i64 v0, .int .i64 v1, .bool v2, .int .i64 v3, .int .i64 v4, .int .i64 v5, .int .i64 v6, .int .i64 v7, .int .i64 v8, .string v9] 24) = X6 at *
          obtain ⟨k35, hk35⟩ : ∃ q, X5.heap.size + 1 = q := ⟨_, rfl⟩
          rw [hk35] at hb35 ⊢
          clear hk35
          obtain ⟨k34, hk34⟩ : ∃ q, X5.heap.size = q := ⟨_, rfl⟩
          rw [hk34] at hb34 ⊢
          clear hk34
          have i0 := hb31.cells 0
          have i1 := hb31.cells 1
          have i2 := hb31.cells 2
          have i3 := hb31.cells 3
          have i4 := hb31.cells 4
          have i5 := hb31.cells 5
          have i6 := hb31.cells 6
          have i7 := hb31.cells 7
          have i8 := hb31.cells 8
          have i9 := hb31.cells 9
          simp [Bd.cs] at i0 i1 i2 i3 i4 i5 i6 i7 i8 i9
          have il := hb31.lt
          have j0 := hb32.cells 0
          have j1 := hb32.cells 1
          have j2 := hb32.cells 2
          have j3 := hb32.cells 3
          have j4 := hb32.cells 4
          have j5 := hb32.cells 5
          have j6 := hb32.cells 6
          have j7 := hb32.cells 7
          have j8 := hb32.cells 8
          have j9 := hb32.cells 9
          simp [Bd.cs] at j0 j1 j2 j3 j4 j5 j6 j7 j8 j9
          have jl := hb32.lt
          have l0 := hb34.cells 0
          have l1 := hb34.cells 1
          have l2 := hb34.cells 2
          have l3 := hb34.cells 3
          have l4 := hb34.cells 4
          have l5 := hb34.cells 5
          have l6 := hb34.cells 6
          have l7 := hb34.cells 7
          have l8 := hb34.cells 8
          have l9 := hb34.cells 9
          simp [Bd.cs] at l0 l1 l2 l3 l4 l5 l6 l7 l8 l9
          have ll := hb34.lt
          have m0 := hb35.cells 0
          have m1 := hb35.cells 1
          have m2 := hb35.cells 2
          have m3 := hb35.cells 3
          have m4 := hb35.cells 4
          have m5 := hb35.cells 5
          have m6 := hb35.cells 6
          have m7 := hb35.cells 7
          have m8 := hb35.cells 8
          have m9 := hb35.cells 9
          simp [Bd.cs] at m0 m1 m2 m3 m4 m5 m6 m7 m8 m9
          have ml := hb35.lt
          have n0 := hbq.cells 0
          have n1 := hbq.cells 1
          have n2 := hbq.cells 2
          have n3 := hbq.cells 3
          have n4 := hbq.cells 4
          have n5 := hbq.cells 5
          have n6 := hbq.cells 6
          have n7 := hbq.cells 7
          have n8 := hbq.cells 8
          have n9 := hbq.cells 9
          simp [Bd.cs] at n0 n1 n2 n3 n4 n5 n6 n7 n8 n9
          have nl := hbq.lt
          cases OK2
          · clear HG
            go_wp2_with fail
            go_ret
            exact ⟨rfl, BW⟩
          · obtain ⟨e9, GA, GB⟩ := HG.out rfl
            have HGA : Hid _ := GA
            have HGB : Hid _ := GB
            clear HG GA GB
            have hself : ((u9 ++ v9).toList == c9.toList) = true := by rw [e9]; simp
            have hs9 := congrArg ByteArray.size e9
            rw [ByteArray.size_append] at hs9
            have hpc9 : c9.size ≤ 61 := hpc
            have hs1 : ¬ (9223372036854775807 < u9.size + v9.size) := by omega
            have hs2 : u9.size + v9.size ≤ 9223372036854775807 := by omega
            clear e9 hs9
            go_wp2_with fail
            refine (HGA.out _).mono ?_
            rintro e X7 ⟨rfl, hb⟩
            replace hb32 := hb32.below hb hb32.lt
            replace BW := BW.trans (hb.mono BW.size)
            clear hb HGA i0 i1 i2 i3 i4 i5 i6 i7 i8 i9 j0 j1 j2 j3 j4 j5 j6 j7 j8 j9 l0 l1 l2 l3 l4 l5 l6 l7 l8 l9 m0 m1 m2 m3 m4 m5 m6 m7 m8 m9 n0 n1 n2 n3 n4 n5 n6 n7 n8 n9 il jl ll ml nl
            have j0 := hb32.cells 0
            have j1 := hb32.cells 1
            have j2 := hb32.cells 2
            have j3 := hb32.cells 3
            have j4 := hb32.cells 4
            have j5 := hb32.cells 5
            have j6 := hb32.cells 6
            have j7 := hb32.cells 7
            have j8 := hb32.cells 8
            have j9 := hb32.cells 9
            simp [Bd.cs] at j0 j1 j2 j3 j4 j5 j6 j7 j8 j9
            have jl := hb32.lt
            go_wp2_with fail
            refine (HGB.out _).mono ?_
            rintro e X8 ⟨rfl, hb⟩
            replace BW := BW.trans (hb.mono BW.size)
            go_wp2_with fail
            go_ret
            exact ⟨rfl, BW⟩
  · have h20' : (1048576 : Int) < (zs.length : Int) + (ys.length : Int) := by omega
    go_enter Try.func3, Try.ntmps3
    go_wp2
    go_ret
    exact ⟨rfl, Below.refl _ _⟩
end Go.Proofs.Ytepgmmigacafeaa
