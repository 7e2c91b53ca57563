/- Costs by node as answers: plain facts. -/
import Derived.Test.YtclhfhjkcocdcaaMRI
import Derived.Test.YtclhfhjkcocdcaaM5
import Derived.Test.YtclhfhjkcocdcaaCNodeR
namespace Go.Proofs.Ytclhfhjkcocdcaa
namespace RD
open Go.RowKit
def li (c : Cs) : List Int := (List.range 8).map c
theorem li_len (c : Cs) : (li c).length = 8 := by simp [li]
theorem iv_li (c : Cs) : M4.iv (li c) = il c := by simp [M4.iv, li, il]
theorem li_get (c : Cs) {i : Nat} (h : i < 8) : (li c).getD i 0 = c i := by simp [li, h, List.getD_eq_getElem?_getD]
theorem li_ext {c d : Cs} (h : ∀ i, i < 8 → c i = d i) : li c = li d := List.map_congr_left fun p hp => by rw [h p (by simpa using hp)]
theorem li_set (c : Cs) (i : Nat) (b : Int) : (li c).set i b = li (put c i b) := by
  unfold li
  rw [MA.range_set]
  refine List.map_congr_left fun p _ => ?_
  unfold put; rfl
/-- A row of one's own, its cells put there anew. -/
theorem own_put {base e g n cap : Nat} : ∀ (vs : List Value) (o : Nat) (w : World) (xs : List Value), w.ownsRow base e 1 (.slice (some ⟨g, 0, none⟩) n cap) n xs → o + vs.length ≤ n →
    (w.setCells g o vs).ownsRow base e 1 (.slice (some ⟨g, 0, none⟩) n cap) n (xs.take o ++ (vs ++ xs.drop (o + vs.length)))
  | [], o, w, xs, h, _ => by
    show w.ownsRow _ _ _ _ _ (xs.take o ++ ([] ++ xs.drop (o + 0)))
    rw [List.nil_append, Nat.add_zero, List.take_append_drop]; exact h
  | v :: r, o, w, xs, h, hl => by
    have hxl : xs.length = n := by have := h.1; omega
    simp only [List.length_cons] at hl
    have ih := own_put r (o + 1) (w.setCell ⟨g, o, none⟩ v) (xs.set o v) (h.stored o v).1 (by omega)
    have e1 : (xs.set o v).take (o + 1) = xs.take o ++ [v] := by
      rw [List.set_eq_take_append_cons_drop, if_pos (by omega), List.take_append, List.take_of_length_le (by simp; omega)]
      simp [List.length_take, show min o xs.length = o from by omega]
    have e2 : (xs.set o v).drop (o + 1 + r.length) = xs.drop (o + (r.length + 1)) := by
      rw [List.drop_set_of_lt (by omega)]; congr 1; omega
    rw [e1, e2] at ih
    show ((w.setCell ⟨g, o, none⟩ v).setCells g (o + 1) r).ownsRow _ _ _ _ _ _
    simpa using ih
/-- A new array, put there, cut as a row. -/
theorem own_box (w : World) (t : TypeId) (base : Nat) (hb : base ≤ w.heap.size) (d : Cs) : ((w.alloc (.cells (il zero).toArray t)).setCells w.heap.size 0 (il d)).ownsRow base t 1 (.slice (some ⟨w.heap.size, 0, none⟩) (li d).length 8) (li d).length (M4.iv (li d)) := by
  have h0 : (w.alloc (.cells (il zero).toArray t)).ownsRow base t 1 (.slice (some ⟨w.heap.size, 0, none⟩) 8 8) 8 (il zero) := by
    have := World.ownsRow_lit (base := base) (e := t) (size := 1) w (il zero).toArray 8 hb (by unfold maxLen; omega) (by simp [il_len])
    simpa using this
  have h1 := own_put (il d) 0 _ _ h0 (by rw [il_len]; omega)
  rw [il_len] at h1
  rw [li_len, iv_li]
  have e : (il zero).take 0 ++ (il d ++ (il zero).drop (0 + 8)) = il d := by
    rw [List.take_zero, List.nil_append, List.drop_of_length_le (by rw [il_len]; omega), List.append_nil]
  rw [e] at h1; exact h1
/-- As far as k roads were taken in a pass. -/
def pasN (xs : List I3) (c : Cs) (k : Nat) : Cs := pas (xs.take k) c
def chgN (xs : List I3) (c : Cs) (k : Nat) : Bool := chg (xs.take k) c
theorem chg_app (ys : List I3) (r : I3) : ∀ c : Cs, chg (ys ++ [r]) c = (chg ys c || low (pas ys c) r) := by
  induction ys with
  | nil => intro c; simp [chg, pas]
  | cons s ys ih => intro c; show (low c s || chg (ys ++ [r]) (rel c s)) = _; rw [ih, ← Bool.or_assoc]; rfl
theorem pasN_succ {xs : List I3} {c : Cs} {k : Nat} (hk : k < xs.length) : pasN xs c (k + 1) = rel (pasN xs c k) (MI3.at_ xs k) := by
  rw [pasN, List.take_succ_eq_append_getElem hk, pas, List.foldl_append, MI3.at_eq xs k hk]; rfl
theorem chgN_succ {xs : List I3} {c : Cs} {k : Nat} (hk : k < xs.length) : chgN xs c (k + 1) = (chgN xs c k || low (pasN xs c k) (MI3.at_ xs k)) := by
  rw [chgN, List.take_succ_eq_append_getElem hk, chg_app, MI3.at_eq xs k hk]; rfl
theorem pasN_all (xs : List I3) (c : Cs) : pasN xs c xs.length = pas xs c := by rw [pasN, List.take_length]
theorem chgN_all (xs : List I3) (c : Cs) : chgN xs c xs.length = chg xs c := by rw [chgN, List.take_length]
theorem rel_yes {e : Cs} {r : I3} (h : low e r = true) : rel e r = put e r.a1.toNat (e r.a0.toNat + r.a2) := by rw [rel, h]; rfl
theorem rel_no {e : Cs} {r : I3} (h : low e r = false) : rel e r = e := by rw [rel, h]; rfl
theorem relax_succ (xs : List I3) (n : Nat) (c : Cs) : relax xs (n + 1) c = if chg xs c then relax xs n (pas xs c) else (pas xs c, false) := rfl
/-- The answers. -/
def may (xs : List I3) (f : Int) : Bool := fine xs && nodeOk f
def cfL (xs : List I3) (f : Int) : List Int := if may xs f then li (frm xs f.toNat) else []
def poL (xs : List I3) : List Int := if fine xs then li (pot xs) else []
theorem cfL_len (xs : List I3) (f : Int) : (cfL xs f).length ≤ 1048576 := by unfold cfL; split <;> simp [li_len]
theorem poL_len (xs : List I3) : (poL xs).length ≤ 1048576 := by unfold poL; split <;> simp [li_len]
theorem fine_is {xs : List I3} (h : fine xs = true) : okP xs = true ∧ calm xs = true := by rwa [fine, Bool.and_eq_true] at h
theorem cfL_yes {xs : List I3} {fn : Nat} (h : fine xs = true) (hf : fn < 8) : cfL xs (fn : Int) = li (frm xs fn) := by
  rw [cfL, may, h, show nodeOk (fn : Int) = true from by simp only [nodeOk, decide_eq_true_eq]; omega]; rfl
theorem cfL_no {xs : List I3} {f : Int} (h : may xs f = false) : cfL xs f = [] := by rw [cfL, h]; rfl
theorem poL_yes {xs : List I3} (h : fine xs = true) : poL xs = li (pot xs) := by rw [poL, h]; rfl
theorem poL_no {xs : List I3} (h : fine xs = false) : poL xs = [] := by rw [poL, h]; rfl
end RD
end Go.Proofs.Ytclhfhjkcocdcaa
