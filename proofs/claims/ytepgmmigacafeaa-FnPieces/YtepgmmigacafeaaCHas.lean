/- Whether a stack has a piece (AddPiece). -/
import Derived.Test.YtepgmmigacafeaaRows
import Derived.Test.YtepgmmigacafeaaCStackOf
import Derived.Test.YtepgmmigacafeaaMPD
import Derived.Test.YtepgmmigacafeaaCPiece
import Derived.WalkKit
import Derived.WalkSpells
import Derived.WalkLawsBesides
import Derived.Outline
namespace Go.Proofs.Ytepgmmigacafeaa
open Go.RowKit
theorem list_eqB (a b : ByteArray) : (a.toList == b.toList) = decide (a = b) := by
  by_cases h : a = b
  · subst h; simp
  · rw [decide_eq_false h, beq_eq_false_iff_ne, ByteArray.toList_eq, ByteArray.toList_eq]
    intro e
    exact h (ByteArray.ext (by rw [← Array.toList_inj]; exact e))
/-- The same piece. -/
abbrev sameP (a b : Bd) : Bool := PD.same a b
set_option linter.unusedSimpArgs false in
set_option maxHeartbeats 400000 in
set_option maxRecDepth 100000 in
theorem isSameP_any (a b : Bd) (w : World) (R : Bool) (hR : Hid (sameP a b = R)) :
    Calls Try.prog 62 #[a.v, b.v] w fun e w' => e = .returned (.bool R) ∧ Below w.heap.size w w' := by
  have hA0 := BdAt.box w a 62
  have hA := hA0.below ((Below.refl _ _).alloc (Nat.le_refl _) (.cells #[.int .i64 b.fr, .int .i64 b.to, .bool b.gr, .int .i64 b.md, .int .i64 b.no, .int .i64 b.lf, .int .i64 b.hp, .int .i64 b.of, .int .i64 b.tl, .string b.py] 62)) hA0.1
  have hC : BdAt _ (w.heap.size + 1) b := BdAt.box' (w.alloc (.cells #[.int .i64 a.fr, .int .i64 a.to, .bool a.gr, .int .i64 a.md, .int .i64 a.no, .int .i64 a.lf, .int .i64 a.hp, .int .i64 a.of, .int .i64 a.tl, .string a.py] 62)) b 62 (w.heap.size + 1) (by simp)
  have hB : Below w.heap.size w _ := ((Below.refl _ w).alloc (Nat.le_refl _) (.cells #[.int .i64 a.fr, .int .i64 a.to, .bool a.gr, .int .i64 a.md, .int .i64 a.no, .int .i64 a.lf, .int .i64 a.hp, .int .i64 a.of, .int .i64 a.tl, .string a.py] 62)).alloc (by simp) (.cells #[.int .i64 b.fr, .int .i64 b.to, .bool b.gr, .int .i64 b.md, .int .i64 b.no, .int .i64 b.lf, .int .i64 b.hp, .int .i64 b.of, .int .i64 b.tl, .string b.py] 62)
  have HS : Hid _ := And.intro hB (And.intro hA hC)
  obtain ⟨r, hr⟩ : ∃ r, PL.one a b = r := ⟨_, rfl⟩
  have OW : Hid _ := fun W => isOfOneWith_any a b W r hr
  have HR : Hid ((r && decide (a.of = b.of) && decide (a.py = b.py)) = R) := by have := hR.out; rw [sameP, PD.same, hr] at this; exact this
  clear hA0 hA hC hB hr hR
  go_enter Try.func62, Try.ntmps62
  go_wp2_with fail
  refine Calls.mono (OW.out _) ?_
  rintro e w2 ⟨rfl, hb2⟩
  have hS := keep2 HS.out hb2
  have hB2 := hS.1
  have c7 := hS.2.1.2.2.2.2.2.2.2.2.1
  have c9 := hS.2.1.2.2.2.2.2.2.2.2.2.2
  have d7 := hS.2.2.2.2.2.2.2.2.2.2.1
  have d9 := hS.2.2.2.2.2.2.2.2.2.2.2.2
  clear hS hb2 OW HS
  cases r with
  | false =>
    go_wp2
    go_ret
    refine ⟨?_, hB2⟩
    rw [← HR.out]; simp
  | true =>
    go_wp2
    · rename_i ho
      go_ret
      refine ⟨?_, hB2⟩
      rw [← HR.out, ho, list_eqB]; simp
    · rename_i ho
      go_ret
      refine ⟨?_, hB2⟩
      rw [← HR.out]; simp [ho]
set_option linter.unusedSimpArgs false in
set_option maxHeartbeats 800000 in
set_option maxRecDepth 100000 in
/-- The first place at which a piece is the same, at a row of pieces. -/
theorem indexP_any (x : Bd) (g cap : Nat) (xs : List Bd) (w : World) (hn : xs.length ≤ 60) (hin : MP.BsAt w (some ⟨g, 0, none⟩) xs) :
    Calls Try.prog 69 #[.slice (some ⟨g, 0, none⟩) xs.length cap, .func (.func 62) #[.agg x.cs.toArray] #[]] w fun e w' => (∃ r : Int, e = .returned (.int .i64 r) ∧ (decide (0 ≤ r) = xs.any (sameP x))) ∧ Below w.heap.size w w' := by
  go_enter Try.func69, Try.ntmps69
  go_wp2
  go_loopw [8] (fun iv wr => ∃ k : Nat, iv = .int .i64 k ∧ k ≤ xs.length ∧ Below w.heap.size w wr ∧ ∀ i, i < k → sameP x (MP.at_ xs i) = false) (fun iv _ => (xs.length - intOf iv).toNat)
  case atStart => exact ⟨0, rfl, by omega, Below.refl _ _, fun i hi => absurd hi (by omega)⟩
  case round =>
    obtain ⟨k, rfl, hk, hB, hno⟩ := hrel
    have HNO : Hid _ := hno
    clear hno
    by_cases hl : k < xs.length
    · obtain ⟨b, off, hab, hbl0, rg⟩ := MA.row_range (hin.below hB) hl
      cases hab
      rw [Nat.zero_add] at rg
      have RG : Hid _ := rg
      obtain ⟨y, hy⟩ : ∃ y, MP.at_ xs k = y := ⟨_, rfl⟩
      rw [hy] at RG
      have HY : Hid (MP.at_ xs k = y) := hy
      obtain ⟨r, hr⟩ : ∃ r, sameP x y = r := ⟨_, rfl⟩
      have SP : Hid (∀ W, Calls Try.prog 62 #[.agg x.cs.toArray, .agg y.cs.toArray] W fun e w' => e = .returned (.bool r) ∧ Below W.heap.size W w') := fun W => isSameP_any x y W r hr
      have HR : Hid _ := hr
      have hk0 : (0 : Int) ≤ (k : Int) := by omega
      have hkn : (k : Int) < (xs.length : Int) := by omega
      clear hy rg hr
      go_wp2_with (first
        | (refine MA.load_r rfl 62 _ rfl rfl (cs := y.cs) ?_ Try.underlying62 rfl Try.sizeParcel rfl ?_; exact RG.out))
      refine Calls.mono (SP.out _) ?_
      rintro e w2 ⟨rfl, hb2⟩
      have hB2 := hB.trans (hb2.mono hB.size)
      clear hb2 SP RG
      cases r with
      | true =>
        have hany : Hid (xs.any (sameP x) = true) := List.any_eq_true.2 ⟨xs[k], List.getElem_mem hl, by rw [← MP.at_eq xs k hl, HY.out]; exact HR.out⟩
        go_wp2
        go_ret
        exact ⟨⟨k, rfl, by rw [hany.out]; simp⟩, hB2⟩
      | false =>
        go_wp2
        go_roundw
        case rel => exact ⟨k + 1, by go_num, by omega, hB2, fun i hi => if e : i = k then by rw [e, HY.out]; exact HR.out else HNO.out i (by omega)⟩
        case measure => simp [intOf]; omega
    · obtain rfl : k = xs.length := by omega
      have hany : Hid (xs.any (sameP x) = false) := by
        show _ = _
        rw [List.any_eq_false]
        intro y hy
        obtain ⟨i, hi, rfl⟩ := List.getElem_of_mem hy
        have := HNO.out i hi
        rw [MP.at_eq xs i hi] at this
        simp [this]
      go_wp2
      go_ret
      exact ⟨⟨-1, rfl, by rw [hany.out]; rfl⟩, hB⟩
set_option linter.unusedSimpArgs false in
set_option maxHeartbeats 800000 in
set_option maxRecDepth 100000 in
theorem containsP_any (x : Bd) (g cap : Nat) (xs : List Bd) (w : World) (hn : xs.length ≤ 60) (hin : MP.BsAt w (some ⟨g, 0, none⟩) xs) :
    Calls Try.prog 61 #[.slice (some ⟨g, 0, none⟩) xs.length cap, .func (.func 62) #[.agg x.cs.toArray] #[]] w fun e w' => e = .returned (.bool (xs.any (sameP x))) ∧ Below w.heap.size w w' := by
  have IX : Hid _ := indexP_any x g cap xs w hn hin
  go_enter Try.func61, Try.ntmps61
  go_wp2_with fail
  refine Calls.mono IX.out ?_
  rintro e w2 ⟨⟨r, rfl, hr⟩, hb2⟩
  have HR : Hid _ := hr
  clear hr IX
  go_wp2
  go_ret
  refine ⟨?_, hb2⟩
  rw [← HR.out]; rfl
set_option linter.unusedSimpArgs false in
set_option maxHeartbeats 800000 in
set_option maxRecDepth 100000 in
theorem hasP_any (x : Bd) (g : Nat) (xs : List Bd) (s : PL.Sh) (w : World) (hn : xs.length ≤ 60) (hin : MP.BsAt w (some ⟨g, 0, none⟩) xs) :
    Calls Try.prog 40 #[.agg (stF (.slice (some ⟨g, 0, none⟩) xs.length xs.length) s).toArray, .agg x.cs.toArray] w fun e w' => e = .returned (.bool (xs.any (sameP x))) ∧ Below w.heap.size w w' := by
  have hL0 : (stF (.slice (some ⟨g, 0, none⟩) xs.length xs.length) s)[0]? = some (.slice (some ⟨g, 0, none⟩) xs.length xs.length) := rfl
  generalize stF (.slice (some ⟨g, 0, none⟩) xs.length xs.length) s = L at *
  have hB : Below w.heap.size w ((w.alloc (.cells L.toArray 75)).alloc (.cells x.cs.toArray 62)) := ((Below.refl _ w).alloc (Nat.le_refl _) _).alloc (by simp) _
  have CO : Hid _ := containsP_any x g xs.length xs _ hn (hin.below hB)
  have RX := MA.Rg.new' (w.alloc (.cells L.toArray 75)) x.cs 62 (w.heap.size + 1) (by simp)
  have HX : Hid _ := RX
  clear RX
  go_enter Try.func40, Try.ntmps40
  go_wp2_with (first
    | (refine MA.load_r rfl 62 _ rfl rfl (cs := x.cs) ?_ Try.underlying62 rfl Try.sizeParcel rfl ?_; exact HX.out.rng))
  refine Calls.mono CO.out ?_
  rintro e w2 ⟨rfl, hb2⟩
  have hB2 := hB.trans (hb2.mono hB.size)
  clear hb2 CO HX hB
  go_wp2
  go_ret
  exact ⟨rfl, hB2⟩
end Go.Proofs.Ytepgmmigacafeaa
