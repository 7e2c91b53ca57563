/- slices.Insert ahead of a row of numbers that the call owns, by the library's contracts. -/
import Derived.Test.YtdglialjcibbbaaRows
import Derived.Test.YtdglialjcibbbaaMINS
import Derived.Test.YtdglialjcibbbaaLayIns
namespace Go.Proofs.Ytdglialjcibbbaa
open Go.RowKit
namespace INS
/-- What setCells leaves in a row. -/
def putL (l : List Value) : Nat → List Value → List Value
  | _, [] => l
  | o, v :: r => putL (l.set o v) (o + 1) r
theorem putL_len : ∀ (vs : List Value) (l : List Value) (o : Nat), (putL l o vs).length = l.length
  | [], l, o => rfl
  | v :: r, l, o => by rw [putL, putL_len r]; simp
theorem putL_get : ∀ (vs : List Value) (l : List Value) (o j : Nat), o + vs.length ≤ l.length → (putL l o vs)[j]? = if o ≤ j ∧ j < o + vs.length then vs[j - o]? else l[j]?
  | [], l, o, j, h => by rw [putL, if_neg (by simp only [List.length_nil]; omega)]
  | v :: r, l, o, j, h => by
    simp only [List.length_cons] at h
    rw [putL, putL_get r (l.set o v) (o + 1) j (by simp; omega)]
    simp only [List.length_cons]
    by_cases h1 : o + 1 ≤ j ∧ j < o + 1 + r.length
    · rw [if_pos h1, if_pos (by omega)]
      have : j - o = (j - (o + 1)) + 1 := by omega
      rw [this, List.getElem?_cons_succ]
    · rw [if_neg h1]
      by_cases h2 : j = o
      · subst h2
        rw [if_pos (by omega), Nat.sub_self, List.getElem?_set_self (by omega)]; rfl
      · rw [if_neg (by omega), List.getElem?_set_ne (by omega)]
theorem blk {g : Nat} {e : TypeId} : ∀ (vs : List Value) (o : Nat) (w : World) (cur : Array Value), w.heap[g]? = some (.cells cur e (0, 0)) → ∃ cur', (w.setCells g o vs).heap[g]? = some (.cells cur' e (0, 0)) ∧ cur'.toList = putL cur.toList o vs
  | [], o, w, cur, h => ⟨cur, h, rfl⟩
  | v :: r, o, w, cur, h => by
    obtain ⟨cur', h1, h2⟩ := blk r (o + 1) (w.setCell ⟨g, o, none⟩ v) (cur.setIfInBounds o v) (heap_setCell_same w g o cur e v h)
    exact ⟨cur', h1, by rw [h2, Array.toList_setIfInBounds]; rfl⟩
theorem below {B g : Nat} (hg : B ≤ g) : ∀ (vs : List Value) (o : Nat) (a w : World), Below B a w → Below B a (w.setCells g o vs)
  | [], _, _, _, h => h
  | v :: r, o, a, _, h => below hg r (o + 1) a _ (h.setCell (p := ⟨g, o, none⟩) hg v)
/-- A row whose first n + 1 cells are k and zs. -/
theorem own {w : World} {base g cap : Nat} {cur : Array Value} {zs : List Int} {k : Int} (hb : base ≤ g) (hg : w.heap[g]? = some (.cells cur 3 (0, 0))) (hn : zs.length + 1 ≤ cap) (hm : cap ≤ maxLen) (hs : cur.size = cap) (hc : ∀ j, j < zs.length + 1 → cur.toList[j]? = (M4.iv (k :: zs))[j]?) :
    w.ownsRow base 3 1 (.slice (some ⟨g, 0, none⟩) (zs.length + 1) cap) (zs.length + 1) (M4.iv (k :: zs)) := by
  refine ⟨by simp [M4.iv], .inr ⟨g, cap, cur, rfl, hb, hg, hn, hm, by omega, ?_⟩⟩
  refine List.ext_getElem? fun j => ?_
  rw [Nat.mul_one, List.getElem?_take]
  by_cases hj : j < zs.length + 1
  · rw [if_pos hj]; exact hc j hj
  · rw [if_neg hj, List.getElem?_eq_none (by simp [M4.iv]; omega)]
theorem put_is {l : List Value} {zs : List Int} {k : Int} (hl : zs.length + 1 ≤ l.length) : ∀ j, j < zs.length + 1 → (putL (putL l 1 (M4.iv zs)) 0 [.int .i64 k])[j]? = (M4.iv (k :: zs))[j]? := by
  intro j hj
  have hz : (M4.iv zs).length = zs.length := by simp [M4.iv]
  rw [putL_get _ _ _ _ (by rw [putL_len]; simp; omega), putL_get _ _ _ _ (by rw [hz]; omega)]
  simp only [List.length_singleton]
  by_cases h0 : j = 0
  · subst h0; rfl
  · rw [if_neg (by omega), if_pos (by rw [hz]; omega)]
    obtain ⟨i, rfl⟩ : ∃ i, j = i + 1 := ⟨j - 1, by omega⟩
    rw [Nat.add_sub_cancel]; rfl
theorem put_is2 {l : List Value} {zs : List Int} {k : Int} (hl : zs.length + 1 ≤ l.length) : ∀ j, j < zs.length + 1 → (putL (putL l 0 [.int .i64 k]) 1 (M4.iv zs))[j]? = (M4.iv (k :: zs))[j]? := by
  intro j hj
  have hz : (M4.iv zs).length = zs.length := by simp [M4.iv]
  rw [putL_get _ _ _ _ (by rw [putL_len, hz]; omega), putL_get _ _ _ _ (by simp; omega)]
  simp only [List.length_singleton]
  by_cases h0 : j = 0
  · subst h0; rfl
  · rw [if_pos (by rw [hz]; omega)]
    obtain ⟨i, rfl⟩ : ∃ i, j = i + 1 := ⟨j - 1, by omega⟩
    rw [Nat.add_sub_cancel]; rfl
end INS
set_option maxHeartbeats 800000 in
theorem insertsI : InsertsI := by
  intro base a cap zs k w hbase ho hz
  have hiv : (M4.iv zs).length = zs.length := by simp [M4.iv]
  have hone : ∀ v, v ∈ M4.iv zs → v.oneCell' = true := by intro u hu; simp only [M4.iv, List.mem_map] at hu; obtain ⟨z, _, rfl⟩ := hu; rfl
  have hk1 : ∀ v, v ∈ [Value.int .i64 k] → v.oneCell' = true := by intro u hu; simp at hu; subst hu; rfl
  have hB : Below base w (w.alloc (.cells #[.int .i64 k] 3)) := (Below.refl _ w).alloc hbase _
  have hvs : ∀ j v, [Value.int .i64 k][j]? = some v → (w.alloc (.cells #[.int .i64 k] 3)).cell? ⟨w.heap.size, 0 + j, none⟩ = some v := fun j v hj => by
    rw [Nat.zero_add, World.cell?_alloc_new]; simpa using hj
  have hsz : (w.alloc (.cells #[.int .i64 k] 3)).heap.size = w.heap.size + 1 := by simp
  have hnew : (w.alloc (.cells #[.int .i64 k] 3)).heap[w.heap.size]? = some (.cells #[.int .i64 k] 3 (0, 0)) := heap_alloc_new w _
  have grow0 : zs = [] → ∀ c, c = 0 → ∀ b : Option Addr, Calls Try.prog 64 #[.slice b 0 c, .int .i64 0, .slice (some ⟨w.heap.size, 0, none⟩) 1 1] (w.alloc (.cells #[.int .i64 k] 3)) fun e w' => ∃ a1 c1, e = .returned (.slice a1 (0 + 1) c1) ∧ w'.ownsRow base 3 1 (.slice a1 (0 + 1) c1) (0 + 1) (M4.iv [k]) ∧ Below base w w' := by
    rintro rfl c rfl b
    refine (Any2.slices_Insert_int_end_grow Try.laysLayIns b 0 0 w.heap.size 0 1 1 [] [.int .i64 k] _ (by omega) (by omega) (by omega) (by omega) rfl rfl (fun _ => rfl) (fun _ _ j v hj => by simp at hj) hvs hk1).mono ?_
    rintro e w' ⟨rfl, rfl⟩
    refine ⟨_, _, rfl, INS.own (zs := []) (by rw [hsz]; omega) (heap_alloc_new _ _) ?_ ?_ ?_ ?_, ?_⟩
    · exact grownCap_ge _ _ _ _
    · exact grownCap_le_maxLen _ _ _ _ (by unfold maxLen; omega)
    · have := grownCap_ge (w.alloc (.cells #[.int .i64 k] 3)) (0 + 1) 0 (Try.laysLayIns_ren.t 3)
      simp [size_zeroCells, Value.cells]
      simp only [Nat.zero_add] at this
      omega
    · intro j hj
      have : j = 0 := by simpa using hj
      subst this; simp [M4.iv]
    · exact (hB.trans (Below.refl _ _).drew).alloc (by show base ≤ (w.alloc _).heap.size; rw [hsz]; omega) _
  rcases ho.2 with ⟨hv, h0⟩ | ⟨g, cap', cur, hv, hbg, hg, hnc, hcm, hcs, ht⟩
  · obtain rfl : zs = [] := List.eq_nil_of_length_eq_zero h0
    have e1 : cap = 0 := (Value.slice.inj hv).2.2
    exact grow0 rfl cap e1 a
  · have e1 : a = some ⟨g, 0, none⟩ := (Value.slice.inj hv).1
    have e2 : cap = cap' := (Value.slice.inj hv).2.2
    subst e1 e2
    have hgl : g < w.heap.size := (Array.getElem?_eq_some_iff.1 hg).1
    have hgW : (w.alloc (.cells #[.int .i64 k] 3)).heap[g]? = some (.cells cur 3 (0, 0)) := (Below.heap_alloc w _ g hgl).trans hg
    have hcell : ∀ j, (w.alloc (.cells #[.int .i64 k] 3)).cell? ⟨g, j, none⟩ = cur[j]? := fun j => by simp [World.cell?, hgW]
    have hfz : ∀ j, (w.alloc (.cells #[.int .i64 k] 3)).frozen? ⟨g, j, none⟩ = false := fun j => by simp [World.frozen?, hgW]
    have hcs' : cur.size = cap := by omega
    have hcc : ∀ j v, (M4.iv zs)[j]? = some v → (w.alloc (.cells #[.int .i64 k] 3)).cell? ⟨g, 0 + j, none⟩ = some v := fun j v hj => by
      rw [Nat.zero_add, hcell, ← Array.getElem?_toList]
      have hjl : j < zs.length := by have := (List.getElem?_eq_some_iff.1 hj).1; omega
      have : (cur.toList.take (zs.length * 1))[j]? = (M4.iv zs)[j]? := by rw [ht]
      rw [List.getElem?_take, if_pos (by omega)] at this
      rw [this]; exact hj
    by_cases hn0 : zs.length = 0
    · obtain rfl : zs = [] := List.eq_nil_of_length_eq_zero hn0
      by_cases hc0 : cap = 0
      · exact grow0 rfl cap hc0 _
      · refine (Any2.slices_Insert_int_end_room Try.laysLayIns g 0 0 cap w.heap.size 0 1 1 [.int .i64 k] _ (by omega) (by omega) (by unfold maxLen at hcm; omega) rfl (fun j hj => by
          rw [hcell, Array.getElem?_eq_getElem (by omega)]; rfl) (fun j _ => hfz _) hvs hk1).mono ?_
        rintro e w' ⟨rfl, rfl⟩
        obtain ⟨cur', h1, h2⟩ := INS.blk [.int .i64 k] (0 + 0) _ cur hgW
        refine ⟨_, _, rfl, INS.own (zs := []) hbg h1 (by simp; omega) hcm ?_ ?_, INS.below hbg _ _ _ _ hB⟩
        · rw [← Array.length_toList, h2, INS.putL_len, Array.length_toList]; exact hcs'
        · intro j hj
          have : j = 0 := by simpa using hj
          subst this
          rw [h2, INS.putL_get _ _ _ _ (by simp; omega)]; rfl
    · by_cases hroom : zs.length + 1 ≤ cap
      · refine (Any2.slices_Insert_int_shift Try.laysLayIns g 0 zs.length cap 0 w.heap.size 0 1 1 (M4.iv zs) [.int .i64 k] _ (by omega) (by omega) hroom (by unfold maxLen at hcm; omega) (by omega) hiv rfl hcc
          (fun j hj => by rw [hcell, Array.getElem?_eq_getElem (by omega)]; rfl) (fun j _ => hfz _) hvs hone hk1 3 3 1 cap (by unfold World.shape?; rw [hnew]; rfl) (by simp [World.shape?, hgW, hcs']) (by omega) (by unfold World.frozen?; rw [hnew]; rfl) (by unfold World.frozen?; rw [hnew]; rfl)).mono ?_
        rintro e w' ⟨rfl, rfl⟩
        obtain ⟨cur1, h1, h2⟩ := INS.blk ((M4.iv zs).drop 0) (0 + (0 + 1)) (w.alloc (.cells #[.int .i64 k] 3)).drew cur hgW
        obtain ⟨cur2, h3, h4⟩ := INS.blk [.int .i64 k] (0 + 0) _ cur1 h1
        refine ⟨_, _, rfl, INS.own hbg h3 hroom hcm ?_ ?_, INS.below hbg _ _ _ _ (INS.below hbg _ _ _ _ (hB.trans (Below.refl _ _).drew))⟩
        · rw [← Array.length_toList, h4, INS.putL_len, h2, INS.putL_len, Array.length_toList]; exact hcs'
        · rw [h4, h2]
          have := INS.put_is (l := cur.toList) (zs := zs) (k := k) (by have : cur.toList.length = cur.size := Array.length_toList; omega)
          exact this
      · refine (Any2.slices_Insert_int_grow Try.laysLayIns g 0 zs.length cap 0 w.heap.size 0 1 1 (M4.iv zs) [.int .i64 k] _ (by omega) (by omega) hnc (by omega) (by omega) hiv rfl hcc hvs hone hk1).mono ?_
        rintro e w' ⟨rfl, rfl⟩
        have hge := grownCap_ge (w.alloc (.cells #[.int .i64 k] 3)) (zs.length + 1) cap (Try.laysLayIns_ren.t 3)
        obtain ⟨cur1, h1, h2⟩ := INS.blk [.int .i64 k] 0 (World.drew ((w.alloc (.cells #[.int .i64 k] 3)).alloc (.cells (((M4.iv zs).take 0).toArray ++ Builtin.zeroCells (Value.int .i64 0).cells (zs.length + 1 - 0) ++ Builtin.zeroCells (Value.int .i64 0).cells (grownCap (w.alloc (.cells #[.int .i64 k] 3)) (zs.length + 1) cap (Try.laysLayIns_ren.t 3) - (zs.length + 1))) (Try.laysLayIns_ren.t 3)))) _ (heap_alloc_new _ _)
        obtain ⟨cur2, h3, h4⟩ := INS.blk ((M4.iv zs).drop 0) (0 + 1) (World.drew (World.setCells (World.drew ((w.alloc (.cells #[.int .i64 k] 3)).alloc (.cells (((M4.iv zs).take 0).toArray ++ Builtin.zeroCells (Value.int .i64 0).cells (zs.length + 1 - 0) ++ Builtin.zeroCells (Value.int .i64 0).cells (grownCap (w.alloc (.cells #[.int .i64 k] 3)) (zs.length + 1) cap (Try.laysLayIns_ren.t 3) - (zs.length + 1))) (Try.laysLayIns_ren.t 3)))) (w.alloc (.cells #[.int .i64 k] 3)).heap.size 0 [.int .i64 k])) cur1 h1
        have hl0 : ((((M4.iv zs).take 0).toArray ++ Builtin.zeroCells (Value.int .i64 0).cells (zs.length + 1 - 0) ++ Builtin.zeroCells (Value.int .i64 0).cells (grownCap (w.alloc (.cells #[.int .i64 k] 3)) (zs.length + 1) cap (Try.laysLayIns_ren.t 3) - (zs.length + 1))).toList).length = grownCap (w.alloc (.cells #[.int .i64 k] 3)) (zs.length + 1) cap (Try.laysLayIns_ren.t 3) := by
          simp [size_zeroCells, Value.cells]; omega
        have hbW : base ≤ (w.alloc (.cells #[.int .i64 k] 3)).heap.size := by rw [hsz]; omega
        refine ⟨_, _, rfl, INS.own hbW h3 hge (grownCap_le_maxLen _ _ _ _ (by unfold maxLen; omega)) ?_ ?_, INS.below hbW _ _ _ _ (Below.drew (INS.below hbW _ _ _ _ (Below.drew (hB.alloc hbW _))))⟩
        · rw [← Array.length_toList, h4, INS.putL_len, h2, INS.putL_len, hl0]
        · rw [h4, h2]
          exact INS.put_is2 (by rw [hl0]; exact hge)
end Go.Proofs.Ytdglialjcibbbaa
