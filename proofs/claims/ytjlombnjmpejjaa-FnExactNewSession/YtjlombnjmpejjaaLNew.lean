/- The law FnExactNewSession answers true at every block. -/
import Derived.Test.YtjlombnjmpejjaaRows
import Derived.Test.YtjlombnjmpejjaaCS6
import Derived.Test.YtjlombnjmpejjaaCS8
import Derived.WalkKit
import Derived.WalkSpells
import Derived.WalkLawsBesides
import Derived.Outline
namespace Go.Proofs.Ytjlombnjmpejjaa
open Go.RowKit
theorem bools_own {w : World} {base n cap : Nat} {a : Option Addr} (h : w.ownsRow base 4 1 (.slice a n cap) n (SE.bl (List.replicate n false))) : SE.BoolsAt w a (List.replicate n false) := by
  obtain ⟨g, _, hg⟩ := CB.own_rg h
  rcases hg with h0 | ⟨h1, h2⟩
  · exact .inl (by rw [h0]; rfl)
  · exact .inr ⟨g, h1, h2⟩
theorem two_rows {w W : World} {base n c1 c2 : Nat} {a1 a2 : Option Addr} (h1 : w.ownsRow base 4 1 (.slice a1 n c1) n (SE.bl (List.replicate n false))) (h2 : w.ownsRow base 4 1 (.slice a2 n c2) n (SE.bl (List.replicate n false))) (hd : ∀ x x', a1 = some ⟨x, 0, none⟩ → a2 = some ⟨x', 0, none⟩ → x ≠ x') (hb : Below w.heap.size w W) (hB : base ≤ W.heap.size) (q : Nat) (hq : q < W.heap.size) (hq1 : ∀ x, a1 = some ⟨x, 0, none⟩ → x ≠ q) (hq2 : ∀ x, a2 = some ⟨x, 0, none⟩ → x ≠ q) :
    ∃ g g', g ≠ q ∧ g' ≠ q ∧ base ≤ g ∧ base ≤ g' ∧ (n = 0 ∨ g ≠ g') ∧ g ≠ W.heap.size ∧ g' ≠ W.heap.size ∧ (n = 0 ∨ (a1 = some ⟨g, 0, none⟩ ∧ MA.Rg W g 0 (SE.bl (List.replicate n false)) ∧ a2 = some ⟨g', 0, none⟩ ∧ MA.Rg W g' 0 (SE.bl (List.replicate n false)))) := by
  obtain ⟨g, q1, q2⟩ := CB.own_rg h1
  obtain ⟨g', q3, q4⟩ := CB.own_rg h2
  rcases q2 with h0 | ⟨e1, r1⟩
  · exact ⟨W.heap.size + 1, W.heap.size + 1, by omega, by omega, by omega, by omega, .inl h0, by omega, by omega, .inl h0⟩
  rcases q4 with h0 | ⟨e2, r2⟩
  · exact ⟨W.heap.size + 1, W.heap.size + 1, by omega, by omega, by omega, by omega, .inl h0, by omega, by omega, .inl h0⟩
  have s1 := r1.below hb r1.lt
  have s2 := r2.below hb r2.lt
  exact ⟨g, g', hq1 _ e1, hq2 _ e2, q1, q3, .inr (hd _ _ e1 e2), Nat.ne_of_lt s1.lt, Nat.ne_of_lt s2.lt, .inr ⟨e1, s1, e2, s2⟩⟩
set_option linter.unusedSimpArgs false in
set_option maxHeartbeats 1600000 in
set_option maxRecDepth 100000 in
theorem lawNew_any (s : ByteArray) (w : World) : Calls Try.prog 4 #[.string s] w fun e w' => e = .returned (.bool true) ∧ Below w.heap.size w w' := by
  by_cases hs : s.size ≤ 1048576
  · have hs' : ¬ (1048576 : Int) < (s.size : Int) := by omega
    have HN : Hid (nN s ≤ 1048576) := by
      show _ ≤ _
      unfold nN
      split
      · rename_i h; have := SE.many_le (SE.okB_is h).2; omega
      · omega
    have SN : Hid (∀ W : World, Calls Try.prog 18 #[.string s] W fun e w' => NewAt W w' s e) := fun W => specNew_any s W
    have IN : Hid (∀ W : World, Calls Try.prog 19 #[.string s] W fun e w' => NewAt W w' s e) := fun W => implNew_any s W hs
    unfold NewAt at SN IN
    generalize nB s = B at *
    generalize nY s = Y at *
    generalize nN s = n at *
    generalize SE.okB s = R at *
    have EQ : Hid (∀ (a1 a2 a3 a4 : Option Addr) (k1 k2 k3 k4 : Nat) (W : World), SE.BoolsAt W a1 (List.replicate n false) → SE.BoolsAt W a2 (List.replicate n false) → SE.BoolsAt W a3 (List.replicate n false) → SE.BoolsAt W a4 (List.replicate n false) → Calls Try.prog 20 #[.agg (SE.sv B (.slice a1 n k1) (.slice a2 n k2) Y false (.slice none 0 0) (.slice none 0 0)).toArray, .agg (SE.sv B (.slice a3 n k3) (.slice a4 n k4) Y false (.slice none 0 0) (.slice none 0 0)).toArray] W fun e w' => e = .returned (.bool true) ∧ Below W.heap.size W w') := fun a1 a2 a3 a4 k1 k2 k3 k4 W h1 h2 h3 h4 => by
      have := eqSession_nil B Y false a1 a2 a3 a4 k1 k2 k3 k4 (List.replicate n false) (List.replicate n false) W (by simpa using HN.out) (by simpa using HN.out) h1 h2 h3 h4
      simpa using this
    clear hs
    go_enter Try.func4, Try.ntmps4
    go_wp2_with fail
    refine (SN.out _).mono ?_
    rintro e w1 ⟨a1, k1, b1, l1, rfl, o1, p1, d1, hb1⟩
    have hRN1 := MA.Rg.new w1 (SE.sv ⟨#[]⟩ (.slice none 0 0) (.slice none 0 0) ⟨#[]⟩ false (.slice none 0 0) (.slice none 0 0)) 43
    have hq1 := hRN1.put (vs := SE.sv B (.slice a1 n k1) (.slice b1 n l1) Y false (.slice none 0 0) (.slice none 0 0)) rfl
    have hbq : Below w1.heap.size w1 ((w1.alloc (.cells (SE.sv ⟨#[]⟩ (.slice none 0 0) (.slice none 0 0) ⟨#[]⟩ false (.slice none 0 0) (.slice none 0 0)).toArray 43)).setCells w1.heap.size 0 (SE.sv B (.slice a1 n k1) (.slice b1 n l1) Y false (.slice none 0 0) (.slice none 0 0))) := MA.below_cells (Nat.le_refl _) _ _ _ ((Below.refl _ w1).alloc (Nat.le_refl _) _)
    have HA : Hid _ := And.intro hq1 (And.intro (hb1.trans (hbq.mono hb1.size)) (And.intro ((bools_own o1).below hbq) ((bools_own p1).below hbq)))
    have HRN : Hid _ := hRN1
    clear SN hRN1 hq1 hbq o1 p1 d1 hb1
    go_wp2_with (first
      | (refine MA.alloc_z rfl 43 rfl _ _ Try.infoSession ?_)
      | (refine MA.store_m rfl 43 _ _ rfl rfl rfl (vs := SE.sv B (.slice a1 n k1) (.slice b1 n l1) Y false (.slice none 0 0) (.slice none 0 0)) (cs := SE.sv ⟨#[]⟩ (.slice none 0 0) (.slice none 0 0) ⟨#[]⟩ false (.slice none 0 0) (.slice none 0 0)) ?_ Try.sizeSession rfl rfl (SE.sv_one _ _ _ _ _ _ _ rfl rfl rfl rfl) ?_; exact HRN.out; clear HRN; generalize World.setCells _ _ _ _ = W1 at *))
    generalize w1.heap.size = q1 at *
    refine (IN.out _).mono ?_
    rintro e w2 ⟨a2, k2, b2, l2, rfl, o2, p2, d2, hb2⟩
    have hRN2 := MA.Rg.new w2 (SE.sv ⟨#[]⟩ (.slice none 0 0) (.slice none 0 0) ⟨#[]⟩ false (.slice none 0 0) (.slice none 0 0)) 43
    have hq2 := hRN2.put (vs := SE.sv B (.slice a2 n k2) (.slice b2 n l2) Y false (.slice none 0 0) (.slice none 0 0)) rfl
    have hbq : Below w2.heap.size w2 ((w2.alloc (.cells (SE.sv ⟨#[]⟩ (.slice none 0 0) (.slice none 0 0) ⟨#[]⟩ false (.slice none 0 0) (.slice none 0 0)).toArray 43)).setCells w2.heap.size 0 (SE.sv B (.slice a2 n k2) (.slice b2 n l2) Y false (.slice none 0 0) (.slice none 0 0))) := MA.below_cells (Nat.le_refl _) _ _ _ ((Below.refl _ w2).alloc (Nat.le_refl _) _)
    have hbW : Below W1.heap.size W1 _ := hb2.trans (hbq.mono hb2.size)
    have HG : Hid _ := And.intro hq2 (And.intro (HA.out.1.below hbW HA.out.1.lt) (And.intro hbW (And.intro (MP.own_below o2 hbq) (MP.own_below p2 hbq))))
    have HD : Hid (∀ x x', a2 = some ⟨x, 0, none⟩ → b2 = some ⟨x', 0, none⟩ → x ≠ x') := d2
    have HE1 : Hid (∀ x, a2 = some ⟨x, 0, none⟩ → x ≠ w2.heap.size) := fun x e => Nat.ne_of_lt (o2.lt x (by rw [e]; rfl)).2
    have HE2 : Hid (∀ x, b2 = some ⟨x, 0, none⟩ → x ≠ w2.heap.size) := fun x e => Nat.ne_of_lt (p2.lt x (by rw [e]; rfl)).2
    have HRN : Hid _ := hRN2
    clear hRN2 hq2 hbq o2 p2 d2 hb2 hbW
    go_wp2_with (first
      | (refine MA.alloc_z rfl 43 rfl _ _ Try.infoSession ?_)
      | (refine MA.store_m rfl 43 _ _ rfl rfl rfl (vs := SE.sv B (.slice a2 n k2) (.slice b2 n l2) Y false (.slice none 0 0) (.slice none 0 0)) (cs := SE.sv ⟨#[]⟩ (.slice none 0 0) (.slice none 0 0) ⟨#[]⟩ false (.slice none 0 0) (.slice none 0 0)) ?_ Try.sizeSession rfl rfl (SE.sv_one _ _ _ _ _ _ _ rfl rfl rfl rfl) ?_; exact HRN.out; clear HRN; generalize World.setCells _ _ _ _ = W2 at *; have HL2 : Hid _ := HG.out.1.rng; have HL1 : Hid _ := HG.out.2.1.rng)
      | (refine MA.load_r rfl 43 _ rfl rfl (cs := SE.sv B (.slice a2 n k2) (.slice b2 n l2) Y false (.slice none 0 0) (.slice none 0 0)) ?_ Try.underlying43 rfl Try.sizeSession rfl ?_; exact HL2.out; clear HL2)
      | (refine MA.load_r rfl 43 _ rfl rfl (cs := SE.sv B (.slice a1 n k1) (.slice b1 n l1) Y false (.slice none 0 0) (.slice none 0 0)) ?_ Try.underlying43 rfl Try.sizeSession rfl ?_; exact HL1.out; clear HL1))
    refine (EQ.out _ _ _ _ _ _ _ _ _ (bools_own HG.out.2.2.2.1) (bools_own HG.out.2.2.2.2) (HA.out.2.2.1.below HG.out.2.2.1) (HA.out.2.2.2.below HG.out.2.2.1)).mono ?_
    rintro e w3 ⟨rfl, hb3⟩
    generalize w2.heap.size = q2 at *
    obtain ⟨g, g', u1, u2, t1, t2, t3, t4, t5, t6⟩ := two_rows (base := W1.heap.size) HG.out.2.2.2.1 HG.out.2.2.2.2 HD.out hb3 (Nat.le_trans HG.out.2.2.1.size hb3.size) q2 (Nat.lt_of_lt_of_le HG.out.1.lt hb3.size) HE1.out HE2.out
    have MK : Hid (Calls Try.prog 21 #[.agg (SE.sv B (.slice a2 n k2) (.slice b2 n l2) Y false (.slice none 0 0) (.slice none 0 0)).toArray, .int .i64 1] w3 fun e w' => e = .returned (.int .i64 ((1 + n + n : Nat) : Int)) ∧ Below W1.heap.size w3 w' ∧ Marked w' a2 b2 g g' n 1 ∧ Off2 g g' w3 w') := markSession_nil B Y false a2 b2 g g' k2 l2 n W1.heap.size w3 HN.out t1 t2 (Nat.le_trans HG.out.2.2.1.size hb3.size) t3 t4 t5 t6
    have HC : Hid (Below W1.heap.size W1 w3) := HG.out.2.2.1.trans (hb3.mono HG.out.2.2.1.size)
    have hL3 := HG.out.1.below hb3 HG.out.1.lt
    have HV : Hid (MA.Rg w3 q2 0 (SE.sv B (.slice a2 n k2) (.slice b2 n l2) Y false (.slice none 0 0) (.slice none 0 0))) := hL3
    have HL : Hid _ := hL3.rng
    have HU : Hid (g ≠ q2 ∧ g' ≠ q2) := ⟨u1, u2⟩
    clear t1 t2 t3 t4 t5 t6 u1 u2 hL3 hb3 HG HD HE1 HE2
    go_wp2_with (refine MA.load_r rfl 43 _ rfl rfl (cs := SE.sv B (.slice a2 n k2) (.slice b2 n l2) Y false (.slice none 0 0) (.slice none 0 0)) ?_ Try.underlying43 rfl Try.sizeSession rfl ?_; exact HL.out; clear HL)
    refine MK.out.mono ?_
    rintro e w4 ⟨rfl, hb4, hM4, hO4⟩
    replace HC : Hid (Below W1.heap.size W1 w4) := HC.out.trans hb4
    replace HV : Hid (MA.Rg w4 q2 0 (SE.sv B (.slice a2 n k2) (.slice b2 n l2) Y false (.slice none 0 0) (.slice none 0 0))) := rg_off2 HV.out hO4 (Ne.symm HU.out.1) (Ne.symm HU.out.2)
    have HM : Hid (Marked w4 a2 b2 g g' n 1) := hM4
    have HL : Hid _ := HV.out.rng
    clear MK hb4 hM4 hO4 HU
    go_wp2_with (refine MA.load_r rfl 43 _ rfl rfl (cs := SE.sv B (.slice a2 n k2) (.slice b2 n l2) Y false (.slice none 0 0) (.slice none 0 0)) ?_ Try.underlying43 rfl Try.sizeSession rfl ?_; exact HL.out; clear HL)
    refine (heldSession_nil B Y false a2 b2 g g' k2 l2 n w4 HN.out HM.out).mono ?_
    rintro e w5 ⟨rfl, hb5⟩
    replace HC : Hid (Below W1.heap.size W1 w5) := HC.out.trans (hb5.mono HC.out.size)
    replace HV : Hid (MA.Rg w5 q2 0 (SE.sv B (.slice a2 n k2) (.slice b2 n l2) Y false (.slice none 0 0) (.slice none 0 0))) := HV.out.below hb5 HV.out.lt
    replace HM : Hid (Marked w5 a2 b2 g g' n 1) := Marked.below HM.out hb5
    clear hb5
    go_wp2_with fail
    refine (IN.out _).mono ?_
    rintro e w6 ⟨a3, k3, b3, l3, rfl, o3, p3, d3, hb6⟩
    have hRN3 := MA.Rg.new w6 (SE.sv ⟨#[]⟩ (.slice none 0 0) (.slice none 0 0) ⟨#[]⟩ false (.slice none 0 0) (.slice none 0 0)) 43
    have hq3 := hRN3.put (vs := SE.sv B (.slice a3 n k3) (.slice b3 n l3) Y false (.slice none 0 0) (.slice none 0 0)) rfl
    have hbq : Below w6.heap.size w6 ((w6.alloc (.cells (SE.sv ⟨#[]⟩ (.slice none 0 0) (.slice none 0 0) ⟨#[]⟩ false (.slice none 0 0) (.slice none 0 0)).toArray 43)).setCells w6.heap.size 0 (SE.sv B (.slice a3 n k3) (.slice b3 n l3) Y false (.slice none 0 0) (.slice none 0 0))) := MA.below_cells (Nat.le_refl _) _ _ _ ((Below.refl _ w6).alloc (Nat.le_refl _) _)
    have hbW : Below w5.heap.size w5 _ := hb6.trans (hbq.mono hb6.size)
    have HG : Hid _ := And.intro hq3 (And.intro (HV.out.below hbW HV.out.lt) (And.intro (HC.out.trans (hbW.mono HC.out.size)) (And.intro (Marked.below HM.out hbW) (And.intro (MP.own_below o3 hbq) (MP.own_below p3 hbq)))))
    have HRN : Hid _ := hRN3
    clear hRN3 hq3 hbq o3 p3 d3 hb6 hbW IN HV HC HM
    go_wp2_with (first
      | (refine MA.alloc_z rfl 43 rfl _ _ Try.infoSession ?_)
      | (refine MA.store_m rfl 43 _ _ rfl rfl rfl (vs := SE.sv B (.slice a3 n k3) (.slice b3 n l3) Y false (.slice none 0 0) (.slice none 0 0)) (cs := SE.sv ⟨#[]⟩ (.slice none 0 0) (.slice none 0 0) ⟨#[]⟩ false (.slice none 0 0) (.slice none 0 0)) ?_ Try.sizeSession rfl rfl (SE.sv_one _ _ _ _ _ _ _ rfl rfl rfl rfl) ?_; exact HRN.out; clear HRN; generalize World.setCells _ _ _ _ = W3 at *; have HL3 : Hid _ := HG.out.1.rng; have HL1 : Hid _ := (HA.out.1.below HG.out.2.2.1 HA.out.1.lt).rng)
      | (refine MA.load_r rfl 43 _ rfl rfl (cs := SE.sv B (.slice a3 n k3) (.slice b3 n l3) Y false (.slice none 0 0) (.slice none 0 0)) ?_ Try.underlying43 rfl Try.sizeSession rfl ?_; exact HL3.out; clear HL3)
      | (refine MA.load_r rfl 43 _ rfl rfl (cs := SE.sv B (.slice a1 n k1) (.slice b1 n l1) Y false (.slice none 0 0) (.slice none 0 0)) ?_ Try.underlying43 rfl Try.sizeSession rfl ?_; exact HL1.out; clear HL1))
    refine (EQ.out _ _ _ _ _ _ _ _ _ (bools_own HG.out.2.2.2.2.1) (bools_own HG.out.2.2.2.2.2) (HA.out.2.2.1.below HG.out.2.2.1) (HA.out.2.2.2.below HG.out.2.2.1)).mono ?_
    rintro e w7 ⟨rfl, hb7⟩
    generalize w6.heap.size = q3 at *
    have HC : Hid (Below W1.heap.size W1 w7) := HG.out.2.2.1.trans (hb7.mono HG.out.2.2.1.size)
    have HV : Hid (MA.Rg w7 q2 0 (SE.sv B (.slice a2 n k2) (.slice b2 n l2) Y false (.slice none 0 0) (.slice none 0 0))) := HG.out.2.1.below hb7 HG.out.2.1.lt
    have HM : Hid (Marked w7 a2 b2 g g' n 1) := Marked.below HG.out.2.2.2.1 hb7
    have HL : Hid _ := HV.out.rng
    clear HG hb7 EQ
    go_wp2_with (refine MA.load_r rfl 43 _ rfl rfl (cs := SE.sv B (.slice a2 n k2) (.slice b2 n l2) Y false (.slice none 0 0) (.slice none 0 0)) ?_ Try.underlying43 rfl Try.sizeSession rfl ?_; exact HL.out; clear HL)
    refine (heldSession_nil B Y false a2 b2 g g' k2 l2 n w7 HN.out HM.out).mono ?_
    rintro e w8 ⟨rfl, hb8⟩
    have HB8 : Hid (Below w.heap.size w w8) := HA.out.2.1.trans ((HC.out.trans (hb8.mono HC.out.size)).mono HA.out.2.1.size)
    clear hb8 HC HV HM HA
    go_wp2
    go_ret
    exact ⟨rfl, HB8.out⟩
  · have hs' : (1048576 : Int) < (s.size : Int) := by omega
    go_enter Try.func4, Try.ntmps4
    go_wp2
    go_ret
    exact ⟨rfl, Below.refl _ _⟩
end Go.Proofs.Ytjlombnjmpejjaa
