/- The walks of DrawSdnvList and DrawReadSdnvs: some numbers; some text. -/
import Derived.Test.YtapojeehidhhnaaCNumber
import Derived.Test.YtapojeehidhhnaaCSpoilt
import Derived.Test.YtapojeehidhhnaaCSpecSdnvList
namespace Go.Proofs.Ytapojeehidhhnaa
open Go.RowKit
/-- A new cursor. -/
theorem cur_new {w : World} {T : TypeId} {a : Option Addr} {zs : List Int} {cap : Nat} (h : MC.BytesAt w w.heap.size a zs) : MC.Cur (w.alloc (.cells #[.slice a zs.length cap, .int .i64 0, .int .u64 0] T)) w.heap.size a zs cap 0 := by
  have hc : ∀ j, (w.alloc (.cells #[.slice a zs.length cap, .int .i64 0, .int .u64 0] T)).cell? ⟨w.heap.size, j, none⟩ = (#[.slice a zs.length cap, .int .i64 0, .int .u64 0] : Array Value)[j]? := fun j => World.cell?_alloc_at _ _ _ _ (by rfl)
  refine ⟨by simp, hc 0, ⟨0, hc 1, by omega⟩, ⟨0, hc 2, by omega⟩, World.frozen?_alloc_at _ _ _ _ (by rfl), World.frozen?_alloc_at _ _ _ _ (by rfl), ?_⟩
  exact h.only (q := w.heap.size) (MC.Only.of_below ((Below.refl _ _).alloc (Nat.le_refl _) _)) (Nat.le_refl _) (Nat.le_refl _)
theorem new_below {p : Nat} {w w' : World} {o : Obj} (hp : p = w.heap.size) (h : MC.Only p (w.alloc o) w') : Below w.heap.size w w' :=
  ((Below.refl _ _).alloc (Nat.le_refl _) o).trans (h.below (by omega) (by simp))
theorem sl_len (zs : List Int) (h : zs.all okN = true) : (sl zs).length ≤ 5 * zs.length := by
  induction zs with
  | nil => simp [sl]
  | cons z zs ih =>
    simp only [List.all_cons, Bool.and_eq_true] at h
    have h1 : z ≤ 1000000000 ∧ 0 ≤ z := by have := h.1; simp [okN] at this; omega
    have := M1.sdnv_len z.toNat (by omega)
    have := ih h.2
    simp only [sl, List.flatMap_cons, List.length_append, List.length_cons] at *
    omega
theorem slStr_size (zs : List Int) : (slStr zs).size ≤ 200 := by
  unfold slStr
  split
  · rename_i h
    simp only [slOk, Bool.and_eq_true, decide_eq_true_eq] at h
    have := sl_len zs h.1
    show (sl zs).toArray.size ≤ 200
    simp; omega
  · show (#[] : Array UInt8).size ≤ 200; simp
set_option maxHeartbeats 800000 in
set_option maxRecDepth 100000 in
theorem drawSdnvList_any (a : Option Addr) (zs : List Int) (cap : Nat) (w : World) (hz : zs.length ≤ 140737488355328) (hb : MC.BytesAt w w.heap.size a zs) :
    Calls Try.prog 4 #[.slice a zs.length cap] w fun e w' => ∃ av lc l, e = .returned (.slice av (List.length l) lc) ∧ l.length ≤ 41 ∧ w'.ownsRow w.heap.size 3 1 (.slice av l.length lc) l.length (M4.iv l) ∧ Below w.heap.size w w' := by
  go_enter Try.func4, Try.ntmps4
  go_wp2_with fail
  refine (numbers_any w.heap.size a zs cap 0 _ hz (by omega) (cur_new hb)).mono ?_
  rintro e w1 ⟨av, lc, l, rfl, hl, hown, hc, ho⟩
  go_wp2
  go_ret
  refine ⟨av, lc, l, rfl, hl, ?_, new_below rfl ho⟩
  refine ⟨hown.1, ?_⟩
  rcases hown.2 with h | ⟨g, c2, cur, e1, hg, rest⟩
  · exact .inl h
  · exact .inr ⟨g, c2, cur, e1, by simp at hg; omega, rest⟩
set_option maxHeartbeats 800000 in
set_option maxRecDepth 100000 in
theorem drawReadSdnvs_any (a : Option Addr) (zs : List Int) (cap : Nat) (w : World) (hz : zs.length ≤ 140737488355328) (hb : MC.BytesAt w w.heap.size a zs) :
    Calls Try.prog 11 #[.slice a zs.length cap] w fun e w' => ∃ t : ByteArray, e = .returned (.string t) ∧ t.size ≤ 202 ∧ Below w.heap.size w w' := by
  go_enter Try.func11, Try.ntmps11
  go_wp2_with fail
  refine (numbers_any w.heap.size a zs cap 0 _ hz (by omega) (cur_new hb)).mono ?_
  rintro e w1 ⟨av, lc, l, rfl, hl, hown, hc, ho⟩
  have hin := M5.own_ints hown
  have hs := slStr_size l
  clear hown
  go_wp2_with fail
  refine (specSdnvList_any av lc l _ (by omega) hin).mono ?_
  rintro e w2 ⟨rfl, hb2⟩
  have hc2 := hc.below hb2
  have ho2 := ho.trans (MC.Only.of_below hb2)
  clear hc hin ho hb2
  generalize slStr l = s at *
  go_wp2_with fail
  refine (one_any w.heap.size a zs cap (0 + 400) _ _ hz (by omega) hc2).mono ?_
  rintro e w3 ⟨b, rfl, hc3, ho3⟩
  have ho3' := ho2.trans ho3
  clear hc2 ho2 ho3
  cases b with
  | false =>
    go_wp2
    go_ret
    exact ⟨s, rfl, by omega, new_below rfl ho3'⟩
  | true =>
    go_wp2_with fail
    refine (spoilt_any w.heap.size a zs cap (0 + 400 + 2) s _ _ hz (by omega) hc3 (by omega) (by decide) (by decide)).mono ?_
    rintro e w4 ⟨t, rfl, ht, hc4, ho4⟩
    go_wp2
    go_ret
    exact ⟨t, rfl, by omega, new_below rfl (ho3'.trans ho4)⟩
end Go.Proofs.Ytapojeehidhhnaa
