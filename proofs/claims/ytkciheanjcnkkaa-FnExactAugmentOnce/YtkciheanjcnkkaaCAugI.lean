/- augment, mostThrough, the program's. -/
import Derived.Test.YtkciheanjcnkkaaRows
import Derived.Test.YtkciheanjcnkkaaCRowsFrom
import Derived.Test.YtkciheanjcnkkaaCRoomI
import Derived.Test.YtkciheanjcnkkaaCPutOn
import Derived.Test.YtkciheanjcnkkaaCToIntS
import Derived.WalkKit
import Derived.WalkSpells
import Derived.WalkLawsBesides
import Derived.Outline
namespace Go.Proofs.Ytkciheanjcnkkaa
open Go.RowKit
namespace FL
structure AugI (fs : List Int) (S : St) (tn : Nat) (N : Int) (LL : List Int) : Prop where
  n : mostOf (S.L tn) = N
  pos : 0 < N
  up : N ≤ 100
  l : putL N fs (S.L tn) = LL
  k : ∀ x ∈ S.L tn, x.k < fs.length
  one : ((S.L tn).map Stp.k).Nodup
  non : S.L tn ≠ []
structure CaseI (fs : List Int) (S : St) (tn : Nat) (N : Int) (LL : List Int) : Prop where
  no : S.by_.getD tn 0 = -1 → N = 0 ∧ LL = fs
  yes : S.by_.getD tn 0 ≠ -1 → AugI fs S tn N LL
theorem caseI_of {xs : List I3} {fs : List Int} {f : Int} {tn : Nat} (A : Ask xs f (tn : Int)) (hl : fs.length = xs.length) (hfit : fitUp xs fs xs.length) : CaseI fs (srch xs fs f) tn (augN xs fs f (tn : Int)) (augL xs fs f (tn : Int)) := by
  have hre : reach xs fs f (tn : Int) = !decide ((srch xs fs f).by_.getD tn 0 = -1) := by unfold reach; rw [Int.toNat_natCast]
  have hrl : rowL xs fs f (tn : Int) = (srch xs fs f).L tn := by unfold rowL; rw [Int.toNat_natCast]
  constructor
  · intro h
    rw [decide_eq_true h] at hre
    have hr : reach xs fs f (tn : Int) = false := hre
    unfold augN augL; rw [hr]; exact ⟨rfl, rfl⟩
  · intro h
    rw [decide_eq_false h] at hre
    have hr : reach xs fs f (tn : Int) = true := hre
    have R := row_of A hfit hr
    have e : augL xs fs f (tn : Int) = putL (mostOf (rowL xs fs f (tn : Int))) fs (rowL xs fs f (tn : Int)) := by unfold augL; rw [if_pos hr]
    rw [e, augN_is hr, hrl]
    have R2 := R.pos; have R3 := R.up; have R4 := R.rooms; have R5 := R.one; have R6 := R.non
    rw [hrl] at R2 R3 R4 R5 R6
    exact ⟨rfl, R2, R3, rfl, fun x hx => by rw [hl]; exact (R4 x hx).1, R5, R6⟩
def pb (a : Option Addr) (n : Nat) : Nat := match a with
  | some x => x.block
  | none => n
end FL
set_option linter.unusedSimpArgs false in
set_option maxHeartbeats 1600000 in
set_option maxRecDepth 100000 in
theorem augment_any (a fa : Option Addr) (ca fc : Nat) (xs : List I3) (fs : List Int) (f t : Int) (w : World) (hA : FL.Ask xs f t) (hfit : FL.fitUp xs fs xs.length) (hin : MI3.RowAt w a xs) (ho : w.ownsRow 0 3 1 (.slice fa xs.length fc) xs.length (M4.iv fs)) :
    Calls Try.prog 44 #[.slice a xs.length ca, .int .i64 f, .int .i64 t, .slice fa xs.length fc] w fun e w' => e = .returned (.int .i64 (FL.augN xs fs f t)) ∧ w'.ownsRow 0 3 1 (.slice fa xs.length fc) xs.length (M4.iv (FL.augL xs fs f t)) ∧ MC.Only (FL.pb fa w.heap.size) w w' := by
  have hl : fs.length = xs.length := by have := ho.1; simpa [M4.iv] using this
  have hlen := hA.len
  have RF := rowsFrom_any a fa ca fc xs fs f w hA.ok hA.f0 hA.f7 hl hfit hin (M5.own_ints ho)
  obtain ⟨tn, rfl⟩ := Int.eq_ofNat_of_zero_le hA.t0
  have htn : tn < 8 := by have := hA.t7; omega
  have CI : Hid _ := FL.caseI_of hA hl hfit
  rw [hl] at RF
  have FB : Hid (∀ j, j < xs.length → 0 ≤ fs.getD j 0 ∧ fs.getD j 0 ≤ 100) := fun j hj => by
    have h1 := hfit j hj; have h2 := (hA.good hj).c1; exact ⟨h1.1, by omega⟩
  have HL : Hid _ := hl
  have HO : Hid (w.ownsRow 0 3 1 (.slice fa xs.length fc) xs.length (M4.iv fs)) := ho
  generalize FL.srch xs fs f = S at *
  generalize FL.augN xs fs f (tn : Int) = N at *
  generalize FL.augL xs fs f (tn : Int) = LL at *
  have RF1 : Hid _ := RF
  clear hin hA hfit hl ho RF
  have tt0 : (0 : Int) ≤ (tn : Int) := by omega
  have tt8 : (tn : Int) < 8 := by omega
  have EQN := eqNil8
  have EQF := eqFun8
  go_enter Try.func44, Try.ntmps44
  go_wp2_with fail
  refine Calls.mono RF1.out ?_
  rintro e w1 ⟨vf, rfl, hFn, hb1⟩
  have IX : ∀ W : World, (Instr.index 63 (.agg (FL.vl vf).toArray) (.int .i64 (tn : Int))).run Try.prog W = .ok (vf tn) W := fun W => MA.run_index Try.underlying63 (by go_simp) (by go_simp) htn (FL.vl_get _ htn)
  have hO1 := M5.own_below HO.out hb1
  have HO1 : Hid (w1.ownsRow 0 3 1 (.slice fa xs.length fc) xs.length (M4.iv fs)) := hO1
  clear RF1 HO hO1
  rcases hFn.is tn htn with ⟨hby, hvf⟩ | ⟨hby, F, cs, hvf, hRF⟩
  · obtain ⟨h1, h2⟩ := CI.out.no hby
    rw [hvf] at IX
    clear hFn hvf hby CI
    subst h1 h2
    go_wp2
    go_ret
    exact ⟨rfl, HO1.out, MC.Only.of_below hb1⟩
  · have AG : Hid _ := CI.out.yes hby
    have RM : Hid _ := room_any w.heap.size F cs (S.L tn) w1 hRF
    rw [AG.out.n] at RM
    have hx0 : 0 < xs.length := by
      cases hc : S.L tn with
      | nil => exact absurd hc AG.out.non
      | cons x l => have := AG.out.k x (by rw [hc]; simp); rw [HL.out] at this; omega
    obtain ⟨gf, rfl⟩ : ∃ gf, fa = some ⟨gf, 0, none⟩ := by
      rcases HO1.out.2 with ⟨h, h0⟩ | ⟨g, c, cur, h, _⟩
      · omega
      · cases h; exact ⟨g, rfl⟩
    have HRF : Hid _ := hRF
    rw [hvf] at IX
    clear hFn hvf hby CI hRF
    go_wp2_with fail
    refine Calls.mono RM.out ?_
    rintro e w2 ⟨rfl, hb2⟩
    have PO : Hid _ := putOn_any w.heap.size F gf xs.length fc cs (S.L tn) fs N w2 (HRF.out.keep fun k hk _ _ => hb2.block k hk) (M5.own_below HO1.out hb2) (by omega) AG.out.pos AG.out.up (fun x hx => by rw [← HL.out]; exact AG.out.k x hx) FB.out AG.out.one
    rw [AG.out.l] at PO
    have hB2 : Below w.heap.size w w2 := hb1.trans (hb2.mono hb1.size)
    clear RM HRF HO1 AG FB IX hb2 hb1
    go_wp2_with fail
    refine Calls.mono PO.out ?_
    rintro e w3 ⟨rfl, h1, h2⟩
    clear PO
    go_wp2
    go_ret
    exact ⟨rfl, h1, (MC.Only.of_below hB2).trans h2⟩
end Go.Proofs.Ytkciheanjcnkkaa
