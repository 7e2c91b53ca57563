/- Copies of rows whose elements have many cells, and a row that is put together out of two parts and one element between. Plain facts. -/
import Derived.Test.YtdgflhgbcfehhaaMA2
import Derived.Test.YtdgflhgbcfehhaaMPD
import Derived.Laws.IdiomCopy
import Derived.Laws.CopyOwn
namespace Go.Proofs.Ytdgflhgbcfehhaa
namespace PC
open Go.RowKit MP
variable {P : Program}
/-- copy, at elements of sz cells each. -/
theorem run_copy (w : World) (dT sT ty elem : TypeId) (b o dLen dCap : Nat) (a : Addr) (sLen sCap n sz : Nat) (cs cur : List Value)
    (hu : P.underlying dT = some (.slice elem)) (hs : (P.info? elem).map (·.size) = some sz) (hm : Nat.min sLen dLen = n) (hn : cs.length = n * sz)
    (hsrc : ∀ j v, cs[j]? = some v → w.cell? (a.add j) = some v) (hR : MA.Rg w b o cur) (hl : cs.length ≤ cur.length) (h1 : ∀ v ∈ cs, v.oneCell' = true) :
    (Builtin.copy_ #[dT, sT] ty #[.slice (some ⟨b, o, none⟩) dLen dCap, .slice (some a) sLen sCap]).run P w = .ok (goInt n) (w.setCells b o cs) := by
  have hl' := run_loadCells_list (P := P) w a cs hsrc
  rw [hn] at hl'
  have hst := run_storeCells_cells (P := P) b o cs 0 w (fun j hj => by
      have := hR.cell (j := j) (List.getElem?_eq_getElem (by omega))
      simp [this]) (fun j hj => by have := hR.free (j := j) (by omega); simpa using this) h1
  cases hq : P.info? elem with
  | none => simp [hq] at hs
  | some i =>
    have hi : i.size = sz := by simpa [hq] using hs
    simp [Builtin.copy_, run_underlying hu, Builtin.lenOf, Builtin.firstCells, sizeOf, typeInfo, hq, hi, hm, hl', hst]
theorem flat_one (xs : List Bd) : ∀ v ∈ flat xs, v.oneCell' = true := by
  intro v hv
  obtain ⟨x, _, hx⟩ := List.mem_flatMap.1 hv
  exact MA.cs_one x v hx
/-- The cells of a part of a row that lies at g. -/
theorem row_cells {w : World} {g : Nat} {xs : List Bd} (h : BsAt w (some ⟨g, 0, none⟩) xs) {k m : Nat} (hk : k + m ≤ xs.length) :
    ∀ j v, (flat ((xs.drop k).take m))[j]? = some v → w.cell? ((⟨g, k * 10, none⟩ : Addr).add j) = some v := by
  intro j v hv
  have hadd : (⟨g, k * 10, none⟩ : Addr).add j = ⟨g, k * 10 + j, none⟩ := by unfold Addr.add; split <;> simp_all
  have hlen := flat_len ((xs.drop k).take m)
  have hL : ((xs.drop k).take m).length = m := by simp; omega
  have hj : j < m * 10 := by
    have := (List.getElem?_eq_some_iff.1 hv).1
    omega
  have hi : j / 10 < m := by omega
  have e : j = 10 * (j / 10) + j % 10 := by omega
  rw [e, flat_get _ (j / 10) (j % 10) (by omega) (by omega)] at hv
  have hat : at_ ((xs.drop k).take m) (j / 10) = at_ xs (k + j / 10) := by
    unfold at_
    rw [List.getElem?_take_of_lt hi, List.getElem?_drop]
  rw [hat] at hv
  obtain ⟨b, off, hab, _, rg⟩ := MA.row_range h (k := k + j / 10) (by omega)
  cases hab
  rw [hadd]
  have := rg (j % 10) v hv
  rw [show 0 + (k + j / 10) * 10 + j % 10 = k * 10 + j by omega] at this
  exact this
/-- Three writes lay the row with x at the place k. -/
theorem three {w : World} {G k : Nat} {xs : List Bd} {x : Bd} {m : List Value} (hk : k ≤ xs.length) (hm : m.length = (xs.length + 1) * 10) (h : MA.Rg w G 0 m) :
    MA.Rg (((w.setCells G 0 (flat (xs.take k))).setCells G (k * 10) x.cs).setCells G ((k + 1) * 10) (flat (xs.drop k))) G 0 (flat (PD.put xs x k)) := by
  have l1 : (flat (xs.take k)).length = k * 10 := by rw [flat_len]; simp; omega
  have l2 : x.cs.length = 10 := rfl
  have l3 : (flat (xs.drop k)).length = (xs.length - k) * 10 := by rw [flat_len]; simp
  have len1 : (splice m 0 (flat (xs.take k))).length = m.length := length_splice _ _ _ (by omega)
  have len2 : (splice (splice m 0 (flat (xs.take k))) (k * 10) x.cs).length = m.length := by rw [length_splice _ _ _ (by omega), len1]
  have q1 : MA.Rg (w.setCells G 0 (flat (xs.take k))) G 0 (splice m 0 (flat (xs.take k))) := h.mid (p := 0) (by omega)
  have q2 := q1.mid (p := k * 10) (vs := x.cs) (by omega)
  rw [Nat.zero_add] at q2
  change MA.Rg _ G 0 (splice (splice m 0 (flat (xs.take k))) (k * 10) x.cs) at q2
  have q3 := q2.mid (p := k * 10 + 10) (vs := flat (xs.drop k)) (by omega)
  change MA.Rg _ G 0 (splice (splice (splice m 0 (flat (xs.take k))) (k * 10) x.cs) (k * 10 + 10) (flat (xs.drop k))) at q3
  rw [splice_splice_splice m _ _ _ (k * 10) 10 l1 l2 (by omega), Nat.zero_add] at q3
  rw [show (k + 1) * 10 = k * 10 + 10 by omega]
  have e : flat (PD.put xs x k) = flat (xs.take k) ++ (x.cs ++ flat (xs.drop k)) := by simp [PD.put, flat]
  rw [e]
  exact q3
/-- The row after the first write, and after the second. -/
theorem one_two {w : World} {G k : Nat} {xs : List Bd} {x : Bd} {m : List Value} (hk : k ≤ xs.length) (hm : m.length = (xs.length + 1) * 10) (h : MA.Rg w G 0 m) :
    (∃ c, c.length = (xs.length + 1) * 10 ∧ MA.Rg (w.setCells G 0 (flat (xs.take k))) G 0 c) ∧ (∃ c, c.length = (xs.length + 1) * 10 ∧ MA.Rg ((w.setCells G 0 (flat (xs.take k))).setCells G (k * 10) x.cs) G 0 c) := by
  have l1 : (flat (xs.take k)).length = k * 10 := by rw [flat_len]; simp; omega
  have l2 : x.cs.length = 10 := rfl
  have len1 : (splice m 0 (flat (xs.take k))).length = m.length := length_splice _ _ _ (by omega)
  have len2 : (splice (splice m 0 (flat (xs.take k))) (k * 10) x.cs).length = m.length := by rw [length_splice _ _ _ (by omega), len1]
  have q1 : MA.Rg (w.setCells G 0 (flat (xs.take k))) G 0 (splice m 0 (flat (xs.take k))) := h.mid (p := 0) (by omega)
  have q2 := q1.mid (p := k * 10) (vs := x.cs) (by omega)
  rw [Nat.zero_add] at q2
  exact ⟨⟨_, len1.trans hm, q1⟩, ⟨_, len2.trans hm, q2⟩⟩
end PC
end Go.Proofs.Ytdgflhgbcfehhaa
