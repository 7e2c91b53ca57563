/- A way back, road by road: plain facts. -/
import Derived.Test.YtclhfhjkcocdcaaMRJ
import Derived.Test.YtclhfhjkcocdcaaCHasS
namespace Go.Proofs.Ytclhfhjkcocdcaa
namespace RD
open Go.RowKit
/-- Whether one may come by that road: it leads there, costs just what it costs there, and comes from none of those. -/
def hit (xs : List I3) (c : Cs) (at_ : Int) (ns : List Int) (k : Nat) : Bool :=
  (decide ((MI3.at_ xs k).a1 = at_) && decide (ov c (MI3.at_ xs k) = c (MI3.at_ xs k).a1.toNat)) && !EG.hasB ns (MI3.at_ xs k).a0
def noH (xs : List I3) (c : Cs) (at_ : Int) (ns : List Int) (k : Nat) : Prop := ∀ j, j < k → hit xs c at_ ns j = false
theorem noH_succ {xs : List I3} {c : Cs} {at_ : Int} {ns : List Int} {k : Nat} (h : noH xs c at_ ns k) (h1 : hit xs c at_ ns k = false) : noH xs c at_ ns (k + 1) := fun j hj => by
  by_cases e : j = k
  · rw [e]; exact h1
  · exact h j (by omega)
def bk (xs : List I3) (c : Cs) (at_ : Int) (ns : List Int) : Option Nat := (List.range xs.length).find? (hit xs c at_ ns)
theorem bk_some {xs : List I3} {c : Cs} {at_ : Int} {ns : List Int} {k : Nat} (hk : k < xs.length) (h : noH xs c at_ ns k) (h1 : hit xs c at_ ns k = true) : bk xs c at_ ns = some k := by
  unfold bk
  rw [List.find?_range_eq_some]
  exact ⟨h1, by simpa using hk, fun j hj => by simp [h j hj]⟩
theorem bk_none {xs : List I3} {c : Cs} {at_ : Int} {ns : List Int} (h : noH xs c at_ ns xs.length) : bk xs c at_ ns = none := by
  unfold bk
  rw [List.find?_eq_none]
  intro j hj
  simp [h j (by simpa using hj)]
theorem bk_is {xs : List I3} {c : Cs} {at_ : Int} {ns : List Int} {k : Nat} (h : bk xs c at_ ns = some k) : k < xs.length ∧ hit xs c at_ ns k = true := by
  unfold bk at h
  rw [List.find?_range_eq_some] at h
  exact ⟨by simpa using h.2.1, h.1⟩
theorem hit_same {xs : List I3} {c : Cs} {at_ : Int} {ns ms : List Int} (h : ∀ x, EG.hasB ms x = EG.hasB ns x) (k : Nat) : hit xs c at_ ms k = hit xs c at_ ns k := by
  unfold hit; rw [h]
/-- The way, gone back from there. -/
def wy (xs : List I3) (c : Cs) (f : Int) : Nat → Int → List Int → List Int → Option (List Int)
  | 0, _, _, _ => none
  | n + 1, at_, way, ns => if at_ = f then some way else match bk xs c at_ ns with
    | none => none
    | some k => wy xs c f n (MI3.at_ xs k).a0 ((k : Int) :: way) ((MI3.at_ xs k).a0 :: ns)
theorem wy_end {xs : List I3} {c : Cs} {f : Int} {n : Nat} {way ns : List Int} : wy xs c f (n + 1) f way ns = some way := by rw [wy, if_pos rfl]
theorem wy_none {xs : List I3} {c : Cs} {f at_ : Int} {n : Nat} {way ns : List Int} (h : at_ ≠ f) (hb : bk xs c at_ ns = none) : wy xs c f (n + 1) at_ way ns = none := by rw [wy, if_neg h, hb]
theorem wy_some {xs : List I3} {c : Cs} {f at_ : Int} {n k : Nat} {way ns : List Int} (h : at_ ≠ f) (hb : bk xs c at_ ns = some k) : wy xs c f (n + 1) at_ way ns = wy xs c f n (MI3.at_ xs k).a0 ((k : Int) :: way) ((MI3.at_ xs k).a0 :: ns) := by rw [wy, if_neg h, hb]
/-- Where one is on the way back. -/
structure On (xs : List I3) (c : Cs) (f : Int) (R : Option (List Int)) (at_ : Int) (way ns : List Int) : Prop where
  lo : 0 ≤ at_
  hi : at_ ≤ 7
  hd : ns[0]? = some at_
  nd : ns.Nodup
  rg : ∀ x, x ∈ ns → 0 ≤ x ∧ x ≤ 7
  len : ns.length = way.length + 1
  nf : c at_.toNat ≠ far
  is : wy xs c f (9 - ns.length) at_ way ns = R
theorem On.le {xs : List I3} {c : Cs} {f : Int} {R : Option (List Int)} {at_ : Int} {way ns : List Int} (h : On xs c f R at_ way ns) : ns.length ≤ 8 := by
  have := pigeon 8 (ns.map Int.toNat) (by
    refine List.pairwise_map.2 (h.nd.imp_of_mem fun {a b} ha hb hne e => hne ?_)
    have := h.rg a ha; have := h.rg b hb; omega) (by
    intro x hx
    obtain ⟨y, hy, rfl⟩ := List.mem_map.1 hx
    have := h.rg y hy; omega)
  simpa using this
theorem On.step {xs : List I3} (hg : Gd xs) {c : Cs} {f : Int} {R : Option (List Int)} {at_ : Int} {way ns : List Int} (h : On xs c f R at_ way ns) (hf : at_ ≠ f) {k : Nat} (hb : bk xs c at_ ns = some k) : On xs c f R (MI3.at_ xs k).a0 ((k : Int) :: way) ((MI3.at_ xs k).a0 :: ns) := by
  obtain ⟨hk, hh⟩ := bk_is hb
  have G : Good (MI3.at_ xs k) := by rw [MI3.at_eq xs k hk]; exact hg _ (List.getElem_mem hk)
  have hle := h.le
  unfold hit at hh
  simp only [Bool.and_eq_true, decide_eq_true_eq, Bool.not_eq_true'] at hh
  obtain ⟨⟨h1, h2⟩, h3⟩ := hh
  have hni : (MI3.at_ xs k).a0 ∉ ns := by simpa [EG.hasB] using h3
  refine ⟨G.f0, G.f1, rfl, List.nodup_cons.2 ⟨hni, h.nd⟩, fun x hx => ?_, by simp [h.len], fun e => ?_, ?_⟩
  · rcases List.mem_cons.1 hx with rfl | hx
    · exact ⟨G.f0, G.f1⟩
    · exact h.rg x hx
  · rw [ov, if_pos e] at h2
    rw [h1] at h2
    exact h.nf h2.symm
  · have := h.is
    rw [show 9 - ns.length = (9 - ((MI3.at_ xs k).a0 :: ns).length) + 1 from by simp; omega, wy_some hf hb] at this
    exact this
theorem On.end {xs : List I3} {c : Cs} {f : Int} {R : Option (List Int)} {way ns : List Int} (h : On xs c f R f way ns) : R = some way := by
  have := h.is; have := h.le
  rw [← h.is, show 9 - ns.length = (8 - ns.length) + 1 from by omega, wy_end]
theorem On.stop {xs : List I3} {c : Cs} {f : Int} {R : Option (List Int)} {at_ : Int} {way ns : List Int} (h : On xs c f R at_ way ns) (hf : at_ ≠ f) (hb : bk xs c at_ ns = none) : R = none := by
  have := h.le
  rw [← h.is, show 9 - ns.length = (8 - ns.length) + 1 from by omega, wy_none hf hb]
/-- The answer. -/
def wbO (xs : List I3) (f t : Int) : Option (List Int) :=
  if (fine xs && nodeOk f) && nodeOk t then (if frm xs f.toNat t.toNat = far then none else wy xs (frm xs f.toNat) f 8 t [] [t]) else none
def wbL (xs : List I3) (f t : Int) : List Int := (wbO xs f t).getD []
theorem wy_len {xs : List I3} {c : Cs} {f : Int} : ∀ (n : Nat) (at_ : Int) (way ns : List Int), ((wy xs c f n at_ way ns).getD []).length ≤ way.length + n
  | 0, _, _, _ => by simp [wy]
  | n + 1, at_, way, ns => by
    rw [wy]
    split
    · simp
    · split
      · simp
      · have := wy_len (xs := xs) (c := c) (f := f) n (MI3.at_ xs ‹_›).a0 ((‹Nat› : Int) :: way) ((MI3.at_ xs ‹_›).a0 :: ns)
        simp only [List.length_cons] at this
        omega
theorem wbL_len8 (xs : List I3) (f t : Int) : (wbL xs f t).length ≤ 8 := by
  unfold wbL wbO
  split
  · split
    · simp
    · have := wy_len (xs := xs) (c := frm xs f.toNat) (f := f) 8 t [] [t]
      simp only [List.length_nil] at this
      omega
  · simp
theorem wbL_len (xs : List I3) (f t : Int) : (wbL xs f t).length ≤ 1048576 := Nat.le_trans (wbL_len8 xs f t) (by omega)
theorem on_start {xs : List I3} {c : Cs} {f t : Int} (h0 : 0 ≤ t) (h1 : t ≤ 7) (hf : c t.toNat ≠ far) : On xs c f (wy xs c f 8 t [] [t]) t [] [t] :=
  ⟨h0, h1, rfl, by simp, fun x hx => by simp at hx; omega, rfl, hf, rfl⟩
/-- What the specification asks of a road. -/
theorem hit_spec {xs : List I3} {c : Cs} {B : Int} (hB : B < far) (hc : Bd B c) {at_ : Int} {ns : List Int} {k : Nat} (hnf : c at_.toNat ≠ far) : hit xs c at_ ns k = (((decide ((MI3.at_ xs k).a1 = at_) && decide (c (MI3.at_ xs k).a0.toNat < far)) && decide (c (MI3.at_ xs k).a0.toNat + (MI3.at_ xs k).a2 = c at_.toNat)) && !EG.hasB ns (MI3.at_ xs k).a0) := by
  unfold hit
  congr 1
  by_cases e : (MI3.at_ xs k).a1 = at_
  · rw [decide_eq_true e, Bool.true_and, Bool.true_and, e]
    by_cases e2 : c (MI3.at_ xs k).a0.toNat = far
    · rw [ov, if_pos e2, e2, decide_eq_false (fun h => hnf h.symm), decide_eq_false (by omega)]; rfl
    · rw [ov, if_neg e2, decide_eq_true (bd_lt hB hc e2), Bool.true_and]
  · rw [decide_eq_false e]; rfl
end RD
end Go.Proofs.Ytclhfhjkcocdcaa
