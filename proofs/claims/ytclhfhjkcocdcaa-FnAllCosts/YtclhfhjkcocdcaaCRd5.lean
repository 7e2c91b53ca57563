/- CostFrom, PotentialsOf of the program. -/
import Derived.Test.YtclhfhjkcocdcaaRows
import Derived.Test.YtclhfhjkcocdcaaCRd4b
import Derived.Test.YtclhfhjkcocdcaaMRJ
import Derived.WalkKit
import Derived.WalkSpells
import Derived.WalkLawsBesides
import Derived.Outline
namespace Go.Proofs.Ytclhfhjkcocdcaa
open Go.RowKit
set_option linter.unusedSimpArgs false in
set_option maxHeartbeats 1600000 in
set_option maxRecDepth 100000 in
theorem implPots_any (a : Option Addr) (cap : Nat) (xs : List I3) (w : World) (hn : xs.length ≤ 1048576) (hin : MI3.RowAt w a xs) (L : List Int) (hL : Hid (RD.poL xs = L)) (R : Bool) (hR : Hid (RD.fine xs = R)) :
    Calls Try.prog 20 #[.slice a xs.length cap] w fun e w' => ∃ a1 c1, e = .returned (.tuple #[.slice a1 L.length c1, .bool R]) ∧ w'.ownsRow w.heap.size 47 1 (.slice a1 L.length c1) L.length (M4.iv L) ∧ Below w.heap.size w w' := by
  have CA : Hid _ := calmI_any a cap xs w hn hin R hR
  cases R with
  | false =>
    obtain rfl : L = [] := by rw [← hL.out, RD.poL_no hR.out]
    clear hR hL hin
    go_enter Try.func20, Try.ntmps20
    go_wp2_with fail
    refine Calls.mono CA.out ?_
    rintro e w2 ⟨rfl, hb2⟩
    clear CA
    go_wp2
    go_ret2
    exact ⟨none, 0, rfl, World.ownsRow_nil _ _ _ _, hb2⟩
  | true =>
    obtain rfl : L = RD.li (RD.pot xs) := by rw [← hL.out, RD.poL_yes hR.out]
    have HO := RD.fine_is hR.out
    have PO : Hid _ := fun (W : World) (hr : MI3.RowAt W a xs) => potentials_any a cap xs W hn (RD.okP_Gd HO.1) hr (RD.pot xs) true (RD.pots HO.1 HO.2).1
    generalize RD.pot xs = F at *
    have HI : Hid _ := hin
    clear hR hL hin HO
    go_enter Try.func20, Try.ntmps20
    go_wp2_with fail
    refine Calls.mono CA.out ?_
    rintro e w2 ⟨rfl, hb2⟩
    clear CA
    go_wp2_with fail
    refine (PO.out _ (HI.out.below hb2)).mono ?_
    rintro e w3 ⟨rfl, hb3⟩
    have HB3 : Hid _ := hb2.trans (hb3.mono hb2.size)
    have HZ : Hid (MA.Rg (w3.alloc (.cells (RD.il RD.zero).toArray 47)) w3.heap.size 0 (RD.il RD.zero)) := MA.Rg.new _ _ _
    have HOW : Hid _ := RD.own_box w3 47 w.heap.size HB3.out.size F
    have HB4 : Hid (Below w.heap.size w ((w3.alloc (.cells (RD.il RD.zero).toArray 47)).setCells w3.heap.size 0 (RD.il F))) := MA.below_cells HB3.out.size _ _ _ (HB3.out.alloc HB3.out.size _)
    clear hb2 hb3 PO HI HB3
    go_wp2_with (first
      | (refine MA.alloc_z rfl 47 rfl _ _ Try.infoNC ?_; simp only [MA.sz_alloc])
      | (refine MA.store_m rfl 47 _ _ rfl rfl rfl (vs := RD.il F) (cs := RD.il RD.zero) ?_ Try.sizeNC (RD.il_len _) (RD.il_len _) (RD.il_one _) ?_; exact HZ.out; clear HZ; generalize World.setCells _ _ _ _ = W5 at *))
    go_ret2
    exact ⟨_, _, by rw [RD.li_len]; rfl, HOW.out, HB4.out⟩
set_option linter.unusedSimpArgs false in
set_option maxHeartbeats 1600000 in
set_option maxRecDepth 100000 in
theorem implFrom_any (a : Option Addr) (cap : Nat) (xs : List I3) (f : Int) (w : World) (hn : xs.length ≤ 1048576) (hin : MI3.RowAt w a xs) (L : List Int) (hL : Hid (RD.cfL xs f = L)) (R : Bool) (hR : Hid (RD.may xs f = R)) :
    Calls Try.prog 12 #[.slice a xs.length cap, .int .i64 f] w fun e w' => ∃ a1 c1, e = .returned (.tuple #[.slice a1 L.length c1, .bool R]) ∧ w'.ownsRow w.heap.size 47 1 (.slice a1 L.length c1) L.length (M4.iv L) ∧ Below w.heap.size w w' := by
  have CA : Hid _ := calmI_any a cap xs w hn hin _ rfl
  have ND : Hid _ := fun W => nodeRI_any f W
  have HM : Hid (R = (RD.fine xs && RD.nodeOk f)) := hR.out.symm
  have HE : Hid (R = false → L = []) := fun e => by rw [← hL.out, RD.cfL_no (hR.out.trans e)]
  have HT : Hid (RD.fine xs = true → RD.nodeOk f = true → ∃ fn : Nat, f = (fn : Int) ∧ fn < 8 ∧ L = RD.li (RD.frm xs fn) ∧ ∀ W : World, MI3.RowAt W a xs → Calls Try.prog 25 #[.slice a xs.length cap, .int .i64 (fn : Int)] W fun e w' => e = .returned (.agg (RD.il (RD.frm xs fn)).toArray) ∧ Below W.heap.size W w') := fun h1 h2 => by
    have h3 := RD.node_yes h2
    obtain ⟨fn, hf⟩ := Int.eq_ofNat_of_zero_le h3.1
    have h4 := RD.fine_is h1
    have hf8 : fn < 8 := by omega
    refine ⟨fn, hf, hf8, ?_, fun W hr => costsFrom_any a cap xs fn W hn (RD.okP_Gd h4.1) hf8 hr _ (RD.frms h4.1 h4.2 fn).1⟩
    rw [← hL.out, hf, RD.cfL_yes h1 hf8]
  have HI : Hid _ := hin
  clear hR hL hin
  generalize RD.fine xs = p at *
  generalize RD.nodeOk f = q at *
  cases p with
  | false =>
    obtain rfl : R = false := HM.out
    obtain rfl : L = [] := HE.out rfl
    clear HM HE HT HI ND
    go_enter Try.func12, Try.ntmps12
    go_wp2_with fail
    refine Calls.mono CA.out ?_
    rintro e w2 ⟨rfl, hb2⟩
    clear CA
    go_wp2
    go_ret2
    exact ⟨none, 0, rfl, World.ownsRow_nil _ _ _ _, hb2⟩
  | true =>
    cases q with
    | false =>
      obtain rfl : R = false := HM.out
      obtain rfl : L = [] := HE.out rfl
      clear HM HE HT HI
      go_enter Try.func12, Try.ntmps12
      go_wp2_with fail
      refine Calls.mono CA.out ?_
      rintro e w2 ⟨rfl, hb2⟩
      clear CA
      go_wp2_with fail
      refine (ND.out _).mono ?_
      rintro e w3 ⟨rfl, rfl⟩
      clear ND
      go_wp2
      go_ret2
      exact ⟨none, 0, rfl, World.ownsRow_nil _ _ _ _, hb2⟩
    | true =>
      obtain rfl : R = true := HM.out
      obtain ⟨fn, rfl, hf8, rfl, CF⟩ := HT.out rfl rfl
      have CF1 : Hid _ := CF
      clear HM HE HT CF
      generalize RD.frm xs fn = F at *
      go_enter Try.func12, Try.ntmps12
      go_wp2_with fail
      refine Calls.mono CA.out ?_
      rintro e w2 ⟨rfl, hb2⟩
      clear CA
      go_wp2_with fail
      refine (ND.out _).mono ?_
      rintro e w3 ⟨rfl, rfl⟩
      clear ND
      go_wp2_with fail
      refine (CF1.out _ (HI.out.below hb2)).mono ?_
      rintro e w3 ⟨rfl, hb3⟩
      have HB3 : Hid _ := hb2.trans (hb3.mono hb2.size)
      have HZ : Hid (MA.Rg (w3.alloc (.cells (RD.il RD.zero).toArray 47)) w3.heap.size 0 (RD.il RD.zero)) := MA.Rg.new _ _ _
      have HOW : Hid _ := RD.own_box w3 47 w.heap.size HB3.out.size F
      have HB4 : Hid (Below w.heap.size w ((w3.alloc (.cells (RD.il RD.zero).toArray 47)).setCells w3.heap.size 0 (RD.il F))) := MA.below_cells HB3.out.size _ _ _ (HB3.out.alloc HB3.out.size _)
      clear hb2 hb3 CF1 HI HB3
      go_wp2_with (first
        | (refine MA.alloc_z rfl 47 rfl _ _ Try.infoNC ?_; simp only [MA.sz_alloc])
        | (refine MA.store_m rfl 47 _ _ rfl rfl rfl (vs := RD.il F) (cs := RD.il RD.zero) ?_ Try.sizeNC (RD.il_len _) (RD.il_len _) (RD.il_one _) ?_; exact HZ.out; clear HZ; generalize World.setCells _ _ _ _ = W5 at *))
      go_ret2
      exact ⟨_, _, by rw [RD.li_len]; rfl, HOW.out, HB4.out⟩
end Go.Proofs.Ytclhfhjkcocdcaa
