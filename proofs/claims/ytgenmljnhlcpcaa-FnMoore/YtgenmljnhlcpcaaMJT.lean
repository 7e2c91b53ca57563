/- Jobs by due time, as numbers in rows that the call owns: plain facts. -/
import Derived.Test.YtgenmljnhlcpcaaMJS
import Derived.Test.YtgenmljnhlcpcaaM5
namespace Go.Proofs.Ytgenmljnhlcpcaa
namespace JD
open Go.RowKit
/-- The numbers below n. -/
def nums (n : Nat) : List Int := (List.range n).map fun k : Nat => (k : Int)
theorem nums_len (n : Nat) : (nums n).length = n := by simp [nums]
theorem nums_succ (n : Nat) : nums (n + 1) = nums n ++ [(n : Int)] := by simp [nums, List.range_succ]
theorem nums_mem (n : Nat) (z : Int) : z ∈ nums n ↔ 0 ≤ z ∧ z < n := by
  simp only [nums, List.mem_map, List.mem_range]
  constructor
  · rintro ⟨k, hk, rfl⟩; omega
  · rintro ⟨h0, h1⟩; exact ⟨z.toNat, by omega, by omega⟩
theorem nums_nodup (n : Nat) : (nums n).Nodup := by
  unfold nums
  refine List.Pairwise.map _ (fun a b h e => h (by exact Int.ofNat.inj e)) (List.nodup_range (n := n))
/-- What a job's rank is by due time, by length. -/
def dueN (xs : List I2) (z : Int) : Nat := (MI2.at_ xs z.toNat).a1.toNat
def lngN (xs : List I2) (z : Int) : Nat := (MI2.at_ xs z.toNat).a0.toNat
theorem due_is {xs : List I2} (h : okP xs = true) {z : Int} (h0 : 0 ≤ z) (h1 : z < xs.length) : (MI2.at_ xs z.toNat).a1 = (dueN xs z : Int) := by
  have := (okP_good h (k := z.toNat) (by omega)).d0
  unfold dueN; omega
theorem lng_is {xs : List I2} (h : okP xs = true) {z : Int} (h0 : 0 ≤ z) (h1 : z < xs.length) : (MI2.at_ xs z.toNat).a0 = (lngN xs z : Int) := by
  have := (okP_good h (k := z.toNat) (by omega)).l0
  unfold lngN; omega
theorem due_lt {xs : List I2} (h : okP xs = true) {z : Int} (h0 : 0 ≤ z) (h1 : z < xs.length) : dueN xs z < 1001 := by
  have := (okP_good h (k := z.toNat) (by omega)).d1
  unfold dueN; omega
theorem lng_lt {xs : List I2} (h : okP xs = true) {z : Int} (h0 : 0 ≤ z) (h1 : z < xs.length) : lngN xs z < 1001 := by
  have := (okP_good h (k := z.toNat) (by omega)).l1
  unfold lngN; omega
/-- All jobs by due time. -/
def byD (xs : List I2) : List Int := srt (dueN xs) (nums xs.length) 1001
theorem byD_len {xs : List I2} (h : okP xs = true) : (byD xs).length = xs.length := by
  unfold byD
  rw [srt_all, nums_len]
  intro z hz
  have := (nums_mem _ _).1 hz
  exact due_lt h this.1 this.2
theorem byD_mem {xs : List I2} (h : okP xs = true) (z : Int) : z ∈ byD xs ↔ 0 ≤ z ∧ z < xs.length := by
  unfold byD
  rw [srt_mem, nums_mem]
  exact ⟨fun k => k.1, fun k => ⟨k, due_lt h k.1 k.2⟩⟩
theorem byD_nodup (xs : List I2) : (byD xs).Nodup := srt_nodup _ (nums_nodup _) _
theorem getD_mem {zs : List Int} {k : Nat} (h : k < zs.length) : zs.getD k 0 ∈ zs := by
  rw [List.getD_eq_getElem?_getD, List.getElem?_eq_getElem h]; exact List.getElem_mem h
theorem nat_at {n : Nat} {zs : List Int} (hr : ∀ z, z ∈ zs → 0 ≤ z ∧ z < n) {k : Nat} (h : k < zs.length) : ∃ z : Nat, zs.getD k 0 = (z : Int) ∧ z < n := by
  obtain ⟨h0, h1⟩ := hr _ (getD_mem h)
  exact ⟨(zs.getD k 0).toNat, by omega, by omega⟩
theorem srtk_len {xs : List I2} (hg : okP xs = true) {zs : List Int} (hr : ∀ z, z ∈ zs → 0 ≤ z ∧ z < xs.length) {k : Nat} (hk : k ≤ zs.length) : (srt (dueN xs) (zs.take k) 1001).length = k := by
  rw [srt_all, List.length_take]
  · omega
  · intro z hz
    have := hr z (List.mem_of_mem_take hz)
    exact due_lt hg this.1 this.2
theorem srtk_at {xs : List I2} (hg : okP xs = true) {zs : List Int} (hr : ∀ z, z ∈ zs → 0 ≤ z ∧ z < xs.length) {k j : Nat} (hk : k ≤ zs.length) (hj : j < k) : ∃ p : Nat, (srt (dueN xs) (zs.take k) 1001).getD j 0 = (p : Int) ∧ p < xs.length :=
  nat_at (fun z hz => hr z (List.mem_of_mem_take ((srt_mem _ _ _ _).1 hz).1)) (by rw [srtk_len hg hr hk]; exact hj)
theorem own_le {w : World} {base base' e sz n : Nat} {v : Value} {xs : List Value} (h : w.ownsRow base' e sz v n xs) (hb : base ≤ base') : w.ownsRow base e sz v n xs := by
  refine ⟨h.1, ?_⟩
  rcases h.2 with hn | ⟨g', cap', cur, e1, e2, rest⟩
  · exact .inl hn
  · exact .inr ⟨g', cap', cur, e1, Nat.le_trans hb e2, rest⟩
theorem own_slice {w : World} {base e sz n : Nat} {v : Value} {xs : List Value} (h : w.ownsRow base e sz v n xs) : ∃ a c, v = .slice a n c := by
  rcases h.2 with ⟨rfl, h0⟩ | ⟨g', cap', cur, e1, _⟩
  · exact ⟨none, 0, by rw [h0]⟩
  · exact ⟨_, _, e1⟩
theorem own_some {w : World} {base e sz n c : Nat} {a : Option Addr} {xs : List Value} (h : w.ownsRow base e sz (.slice a n c) n xs) (hn : 0 < n) : ∃ g, a = some ⟨g, 0, none⟩ := by
  rcases h.2 with ⟨_, h0⟩ | ⟨g', cap', cur, e1, _⟩
  · omega
  · simp only [Value.slice.injEq] at e1
    exact ⟨g', e1.1⟩
theorem own_cap {w : World} {base e sz n c : Nat} {a : Addr} {xs : List Value} (h : w.ownsRow base e sz (.slice (some a) n c) n xs) : n ≤ c ∧ c ≤ maxLen := by
  rcases h.2 with ⟨h, _⟩ | ⟨g', c', cur, hv, _, _, h1, h2, _⟩
  · cases h
  · cases hv; exact ⟨h1, h2⟩
theorem own_zero {w : World} {base e sz n c : Nat} {xs : List Value} (h : w.ownsRow base e sz (.slice none n c) n xs) : n = 0 ∧ c = 0 := by
  rcases h.2 with ⟨h, h0⟩ | ⟨g', cap', cur, e1, _⟩
  · simp only [Value.slice.injEq] at h; exact ⟨h0, h.2.2⟩
  · cases e1
theorem own_some2 {w : World} {base e sz n c : Nat} {a : Option Addr} {xs : List Value} (h : w.ownsRow base e sz (.slice a n c) n xs) (hn : a ≠ none) : ∃ g, a = some ⟨g, 0, none⟩ := by
  rcases h.2 with ⟨h1, h0⟩ | ⟨g', cap', cur, e1, _⟩
  · simp only [Value.slice.injEq] at h1; exact absurd h1.1 hn
  · simp only [Value.slice.injEq] at e1
    exact ⟨g', e1.1⟩
theorem own_cells {w : World} {base g n c : Nat} {zs : List Int} (h : w.ownsRow base 3 1 (.slice (some ⟨g, 0, none⟩) n c) n (M4.iv zs)) : ∀ j u, (M4.iv zs)[j]? = some u → w.cell? ((⟨g, 0, none⟩ : Addr).add j) = some u := by
  intro j u hj
  have hjl : j < n := by have h1 := (List.getElem?_eq_some_iff.1 hj).1; have := h.1; omega
  have e : (⟨g, 0, none⟩ : Addr).add j = ⟨g, 0 + j, none⟩ := by unfold Addr.add; split <;> simp_all
  rw [e, Nat.zero_add, h.cellAt j (by omega)]
  exact hj
theorem cell_at {w : World} {base g n c : Nat} {zs : List Int} (h : w.ownsRow base 3 1 (.slice (some ⟨g, 0, none⟩) n c) n (M4.iv zs)) {k : Nat} (hk : k < n) : w.cell? ⟨g, k, none⟩ = some (.int .i64 (zs.getD k 0)) := by
  have hl : zs.length = n := by have := h.1; simpa [M4.iv] using this
  obtain ⟨b, off, hb, _, hc⟩ := (M4.IntsAt.of_own h).at (k := k) (by omega)
  cases hb
  rw [Nat.zero_add] at hc
  exact hc
end JD
end Go.Proofs.Ytgenmljnhlcpcaa
