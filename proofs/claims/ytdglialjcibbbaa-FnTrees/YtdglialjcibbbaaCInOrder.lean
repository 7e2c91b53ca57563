/- The nodes of a map in order. -/
import Derived.Test.YtdglialjcibbbaaRows
import Derived.Test.YtdglialjcibbbaaMPM
import Derived.Test.YtdglialjcibbbaaMSI
import Derived.Test.YtdglialjcibbbaaM5
import Derived.Test.YtdglialjcibbbaaMInfo
import Derived.WalkKit
import Derived.WalkSpells
import Derived.WalkLawsBesides
import Derived.Outline
import Derived.Sort.OwnSorted
namespace Go.Proofs.Ytdglialjcibbbaa
open Go.RowKit Go.Maps
namespace EG
/-- The nodes that were met: none twice; just those that are no longer to come. -/
structure Met (left : Lit → Bool) (zs : List Int) : Prop where
  nd : zs.Nodup
  is : ∀ x, x ∈ zs ↔ ((∃ i : Nat, i < 8 ∧ x = (i : Int)) ∧ left (.int .i64 x) = false)
theorem sort_unique {l l' : List Int} (h : l.Perm l') (hs : l'.Pairwise (· ≤ ·)) : l.mergeSort (fun x y => decide (x ≤ y)) = l' := by
  have tr : ∀ a b c : Int, decide (a ≤ b) = true → decide (b ≤ c) = true → decide (a ≤ c) = true := fun a b c h1 h2 => by simp only [decide_eq_true_eq] at *; omega
  have to : ∀ a b : Int, (decide (a ≤ b) || decide (b ≤ a)) = true := fun a b => by simp only [Bool.or_eq_true, decide_eq_true_eq]; omega
  refine List.Perm.eq_of_pairwise (le := fun a b => a ≤ b) (fun a b _ _ h1 h2 => by omega) ?_ hs ((List.mergeSort_perm l _).trans h)
  have := List.pairwise_mergeSort tr to l
  exact this.imp fun h => by simpa using h
def eight : List Int := [0, 1, 2, 3, 4, 5, 6, 7]
theorem met_all {left : Lit → Bool} {zs : List Int} (h : Met left zs) (hl : ∀ kl, left kl = false) : zs.mergeSort (fun x y => decide (x ≤ y)) = eight := by
  refine sort_unique ((List.perm_ext_iff_of_nodup h.nd (by decide)).2 fun x => ?_) (by decide)
  rw [h.is x]
  simp only [hl, and_true]
  constructor
  · rintro ⟨i, hi, rfl⟩
    have : i = 0 ∨ i = 1 ∨ i = 2 ∨ i = 3 ∨ i = 4 ∨ i = 5 ∨ i = 6 ∨ i = 7 := by omega
    rcases this with rfl | rfl | rfl | rfl | rfl | rfl | rfl | rfl <;> decide
  · intro hx
    simp only [eight, List.mem_cons, List.not_mem_nil, or_false] at hx
    exact ⟨x.toNat, by omega, by omega⟩
theorem met_len {left : Lit → Bool} {zs : List Int} (h : Met left zs) : zs.length ≤ 8 := by
  have := pigeon 8 (zs.map Int.toNat) (by
    refine List.pairwise_map.2 (h.nd.imp_of_mem fun {a b} ha hb hne e => hne ?_)
    obtain ⟨⟨i, _, rfl⟩, _⟩ := (h.is a).1 ha
    obtain ⟨⟨j, _, rfl⟩, _⟩ := (h.is b).1 hb
    omega) (by
    intro x hx
    obtain ⟨y, hy, rfl⟩ := List.mem_map.1 hx
    obtain ⟨⟨i, hi, rfl⟩, _⟩ := (h.is y).1 hy
    omega)
  simpa using this
theorem met_step {left : Lit → Bool} {zs : List Int} (h : Met left zs) {i : Nat} (hi : i < 8) (hl : left (.int .i64 (i : Int)) = true) : Met (fun z => left z && !z.sameKey (.int .i64 (i : Int))) (zs ++ [(i : Int)]) := by
  have hnew : (i : Int) ∉ zs := fun hx => by have := ((h.is _).1 hx).2; rw [hl] at this; cases this
  refine ⟨List.nodup_append.2 ⟨h.nd, by simp, fun a ha b hb => by simp at hb; subst hb; exact fun e => hnew (e ▸ ha)⟩, fun x => ?_⟩
  by_cases hx : x = (i : Int)
  · subst hx; simp [Lit.sameKey]; exact ⟨i, hi, rfl⟩
  · simp [h.is x, hx, Lit.sameKey]
end EG
set_option maxHeartbeats 1600000 in
set_option maxRecDepth 100000 in
theorem inOrder_any (SRT : SortsI) (b : Nat) (f : Nat → Nat) (w : World) (hP : PMn w b 8 f) :
    Calls Try.prog 38 #[.map (some b)] w fun e w' => ∃ g c1, e = .returned (.slice (some ⟨g, 0, none⟩) 8 c1) ∧ w'.ownsRow w.heap.size 3 1 (.slice (some ⟨g, 0, none⟩) 8 c1) 8 (M4.iv EG.eight) ∧ Below w.heap.size w w' := by
  obtain ⟨i0, hi, hz0, hz1, hz2⟩ := info_parts Try.info3
  obtain ⟨D, hown, hmap, hat, hks⟩ := hP.is
  have hbl := hown.lt
  have hst : ∀ left, left = has D → EG.Met left [] := fun left hl => ⟨List.nodup_nil, fun x => by
    subst hl
    simp only [List.not_mem_nil, false_iff, not_and]
    rintro ⟨i, hi, rfl⟩
    rw [has_true_of_atKey (hat i hi)]; simp⟩
  have own0 : (w.alloc (.cells #[] 3)).ownsRow w.heap.size 3 1 (.slice (some ⟨w.heap.size, 0, none⟩) 0 0) ([] : List Int).length (M4.iv []) := by
    have := World.ownsRow_lit (base := w.heap.size) (e := 3) (size := 1) w #[] 0 (by simp) (by unfold maxLen; omega) (by simp)
    simpa [M4.iv] using this
  have OWN0 : Hid _ := own0
  have HST : Hid _ := hst
  have HKS : Hid _ := hks
  clear own0 hst hat hks hP
  have hownA := hown.alloc (.cells #[] 3)
  go_enter Try.func38, Try.ntmps38
  go_wp2_with (first
    | (at_range; refine wpList_range_own _ rfl _ 52 rfl 3 3 keyed3 under53 _ b 8 _ rfl hownA ?_; intro w0 hrg0 hg0 hs0)
    | go_in)
  go_frame
  have HST1 : Hid _ := HST.out _ rfl
  clear HST
  generalize hr : (w.alloc (.cells #[] 3)).heap.size = r at *
  have hrs : w.heap.size ≤ r := by rw [← hr]; simp
  clear hr hs0
  go_loopw [3] (fun v wr => ∃ (left : Lit → Bool) (cnt : Nat) (zs : List Int), wr.ranges Try.prog 3 (plainElem Try.prog 3) b r 8 D left cnt ∧ Hid (EG.Met left zs) ∧ wr.ownsRow w.heap.size 3 1 v zs.length (M4.iv zs) ∧ v ≠ .slice none 0 0 ∧ Below w.heap.size w wr)
    (fun _ wr => wr.rangeLeft b r)
  case atStart =>
    exact ⟨_, _, [], hrg0, HST1, World.ownsRow.kept OWN0.out hg0 (Or.inr (by simp [Value.ownBlock])), by simp, ((Below.refl _ _).alloc (Nat.le_refl _) _).grown hg0 (by simp) (fun j hj => by cases hj)⟩
  case round =>
    obtain ⟨left, cnt, zs, hrg, hM, hrow, hnn, hnx⟩ := hrel
    have hzl := EG.met_len hM.out
    clear OWN0 HST1
    go_wp2_with (first
      | (at_next; refine wpList_next_ranges_ii _ rfl _ rfl 3 3 .i64 .i64 keyed3 Try.underlying3 Try.underlying3 b r 8 _ _ _ rfl hrg ?_ ?_)
      | go_in)
    · intro hc0 hl0
      rcases hrow.2 with ⟨hnil, _⟩ | ⟨g, cap, cur, rfl, hrest⟩
      · exact absurd hnil hnn
      have hS : Hid (Calls Try.prog 34 #[.slice (some ⟨g, 0, none⟩) zs.length cap] wr fun e w' => e = .returned (.tuple #[]) ∧ w'.ownsRow w.heap.size 3 1 (.slice (some ⟨g, 0, none⟩) zs.length cap) zs.length (M4.iv (zs.mergeSort fun x y => decide (x ≤ y))) ∧ wr.grownBy w' (some g)) := SRT w.heap.size g cap zs wr ⟨hrow.1, .inr ⟨g, cap, cur, rfl, hrest⟩⟩ (by omega)
      have h8 := congrArg List.length (EG.met_all hM.out hl0)
      rw [List.length_mergeSort] at h8
      have H8 : Hid _ := h8
      clear h8
      have hgb : w.heap.size ≤ g := hrest.1
      have HE : Hid _ := EG.met_all hM.out hl0
      have HB : Hid _ := hnx
      clear hrow hrest hM hrg hnx hnn hl0 hc0 hzl
      go_wp2_with fail
      refine Calls.mono hS.out ?_
      rintro e w' ⟨rfl, ho, hg⟩
      clear hS
      go_wp2
      go_ret
      have h8' : zs.length = 8 := H8.out
      rw [HE.out, h8'] at ho
      exact ⟨g, cap, by rw [h8']; rfl, ho, HB.out.grown hg HB.out.size (fun j hj => by cases hj; exact hgb)⟩
    · intro x c w2 cnt2 hwx hwc hlx hat hrg2 hlt hg2 hs2 hen
      obtain ⟨i, hi8, hxi⟩ := HKS.out _ (has_true_of_atKey hat)
      obtain rfl : x = (i : Int) := by simpa using hxi
      have hM2 : Hid _ := EG.met_step hM.out hi8 hlx
      have hrow2 := hrow.kept hg2 (Or.inr (row_ne_iter hrow hrg).symm)
      have hbs := hnx.size
      have hgs := hg2.size
      clear hs2 hxi hat hM
      go_wp2_with (first
        | (at_builtin; go_loud (refine wpList_append_own _ rfl _ _ 24 rfl w.heap.size 3 i0 (.int .i64 0) 1 8 Try.underlying24 hi hz0 hz1 hz2 rfl (by decide) _ _ _ rfl (World.ownsRow.alloc hrow2 _) ⟨w2.heap.size, 0, none⟩ 1 1 [.int .i64 (i : Int)] rfl rfl ?c1 ?c2 ?c3 ?c4 ?c5 ?_))
        | go_in)
      all_goals try (first | rfl | omega | exact M2.new1 _ _ _ | exact M2.one1 _ _ | (unfold maxLen; omega) | (simp; omega))
      intro v' w3 hown' hg3 hnil3
      have hrg3 := (hrg2.alloc _).kept hg3 (row_ne_low hrow2 hbl) (row_ne_iter hrow2 hrg2)
      clear hown hownA hrg0
      go_wp2
      go_roundw
      case rel =>
        refine ⟨_, cnt2, zs ++ [(i : Int)], hrg3, hM2, by simpa [M4.iv] using hown', fun hv' => hnil3 hv', ?_⟩
        exact ((hnx.grown hg2 hnx.size (fun j hj => by cases hj; omega)).alloc (by omega) _).grown hg3 (by simp; omega) (fun j hj => (hrow2.lt j hj).1)
      case measure => rw [hrg3.left_eq, hrg.left_eq]; exact hlt
end Go.Proofs.Ytdglialjcibbbaa
