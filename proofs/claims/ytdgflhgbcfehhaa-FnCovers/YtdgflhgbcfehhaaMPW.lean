/- The whole of a pile (chapter 4): plain facts, no program is named here. -/
import Derived.Test.YtdgflhgbcfehhaaCCovS
namespace Go.Proofs.Ytdgflhgbcfehhaa
/-- The least hops of the first k pieces. -/
def minH (xs : List Bd) : Nat → Int
  | 0 => (MP.at_ xs 0).hp
  | k + 1 => if (MP.at_ xs k).hp < minH xs k then (MP.at_ xs k).hp else minH xs k
/-- A text out of the bytes of a sheet. -/
def textN (n : Nat) (g : Nat → Nat) : ByteArray := ⟨((List.range n).map fun p => UInt8.ofNat (g p)).toArray⟩
/-- What WholeOf answers. -/
def wholeOk (xs : List Bd) : Bool := PL.good xs && decide (xs ≠ []) && decide (missN xs ≤ 0)
def wholeB (xs : List Bd) : Bd := if wholeOk xs = true then ⟨(MP.at_ xs 0).fr, (MP.at_ xs 0).to, (MP.at_ xs 0).gr, (MP.at_ xs 0).md, (MP.at_ xs 0).no, (MP.at_ xs 0).lf, minH xs xs.length, 0, 0, textN (PL.total xs) (PL.sh xs xs.length).by_⟩ else B1.zero
theorem whole_no {xs : List Bd} (h : wholeOk xs = false) : wholeB xs = B1.zero := by simp [wholeB, h]
theorem whole_yes {xs : List Bd} (h : wholeOk xs = true) : wholeB xs = ⟨(MP.at_ xs 0).fr, (MP.at_ xs 0).to, (MP.at_ xs 0).gr, (MP.at_ xs 0).md, (MP.at_ xs 0).no, (MP.at_ xs 0).lf, minH xs xs.length, 0, 0, textN (PL.total xs) (PL.sh xs xs.length).by_⟩ := by simp [wholeB, h]
theorem filter_all {f : Nat → Bool} (n : Nat) : ((List.range n).filter f).length = n ↔ ∀ p, p < n → f p = true := by
  constructor
  · intro h p hp
    have : (List.range n).filter f = List.range n := (List.filter_sublist).eq_of_length (by simpa using h)
    have hm : p ∈ (List.range n).filter f := by rw [this]; simpa using hp
    exact (List.mem_filter.1 hm).2
  · intro h
    have : (List.range n).filter f = List.range n := List.filter_eq_self.2 (fun p hp => h p (by simpa using hp))
    rw [this]; simp
/-- Nothing is missing just where all the marks of the bundle's bytes are there. -/
theorem miss_iff {xs : List Bd} (h : PL.good xs = true) : missN xs ≤ 0 ↔ ∀ p, p < 60 → (PL.sh xs xs.length).th p = decide (p < PL.total xs) := by
  have hT := PL.total_le h
  have hl := List.length_filter_le (PL.sh xs xs.length).th (List.range (PL.total xs))
  rw [missN_yes h, ← covL_spec h]
  have e : (plF (PL.sh xs xs.length).th (PL.total xs)).length = ((List.range (PL.total xs)).filter (PL.sh xs xs.length).th).length := by simp [plF]
  rw [e]
  simp only [List.length_range] at hl
  constructor
  · intro hm p _
    have := (filter_all (f := (PL.sh xs xs.length).th) (PL.total xs)).1 (by omega)
    by_cases hp : p < PL.total xs
    · rw [this p hp]; simp [hp]
    · cases ht : (PL.sh xs xs.length).th p with
      | false => simp [hp]
      | true => exact absurd (PL.th_lt h ht) hp
  · intro hall
    have := (filter_all (f := (PL.sh xs xs.length).th) (PL.total xs)).2 (fun p hp => by rw [hall p (by omega)]; simp [hp])
    omega
/-- The sheet's bytes are bytes. -/
theorem by_lt (xs : List Bd) (k p : Nat) : (PL.sh xs k).by_ p < 256 := by
  have step : ∀ (l : List Bd) (s : PL.Sh), (∀ p, s.by_ p < 256) → ∀ p, (l.foldl PL.lay s).by_ p < 256 := by
    intro l
    induction l with
    | nil => intro s hs p; exact hs p
    | cons b l ih =>
      intro s hs p
      exact ih (PL.lay s b) (fun q => by simp only [PL.lay]; split; exact PL.val_lt _ _; exact hs q) p
  exact step _ _ (fun p => by simp [PL.blank]) p
theorem yN_bv (n : Nat) (g : Nat → Nat) (h : ∀ p, g p < 256) : MA.yN n g = M2.bv ((List.range n).map fun p => UInt8.ofNat (g p)) := by
  unfold MA.yN M2.bv
  rw [List.map_map]
  apply List.map_congr_left
  intro p _
  simp [Nat.mod_eq_of_lt (h p)]
end Go.Proofs.Ytdgflhgbcfehhaa
