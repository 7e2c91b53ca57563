/- The edges' numbers, cheapest first: cheapestFirst of the program. -/
import Derived.Test.YtdglialjcibbbaaRows
import Derived.Test.YtdglialjcibbbaaCStable
import Derived.Test.YtdglialjcibbbaaCByC
import Derived.Test.YtdglialjcibbbaaMKr
import Derived.Test.YtdglialjcibbbaaMInfo
import Derived.Test.YtdglialjcibbbaaCNumB
import Derived.Lib.OwnBridge
namespace Go.Proofs.Ytdglialjcibbbaa
open Go.RowKit
open MSym
namespace MSym
theorem ar_row (f : Nat → Nat) (n : Nat) : ar f n = (row id f n).toArray := by
  apply Array.ext_getElem?
  intro k
  by_cases hk : k < n
  · simp [ar, row, hk]
  · simp [ar, row, hk]
theorem row_id (n : Nat) : row id id n = List.range n := by simp [row]
theorem iv_nv (T : List Nat) : M4.iv (EG.tks T) = T.map nv := by simp [M4.iv, EG.tks, nv]
theorem Lay.block {w wr : World} {blk off N : Nat} {h : Nat → Nat} (l : Lay w wr blk off h N) : wr.os = w.os ∧ wr.tape = w.tape ∧ wr.output = w.output ∧ wr.heap.size = w.heap.size ∧ ∀ k, k ≠ blk → wr.heap[k]? = w.heap[k]? := by
  obtain ⟨q, rfl⟩ := l
  refine ⟨rfl, rfl, rfl, ?_, fun k hk => ?_⟩
  · show (Sort.putRow nv w blk off (ar h N)).heap.size = _
    simp [Sort.putRow, Sort.mapBlock]
  · show (Sort.putRow nv w blk off (ar h N)).heap[k]? = _
    simp [Sort.putRow, Sort.mapBlock, Array.getElem?_modify, Ne.symm hk]
theorem Lay.below {w0 w wr : World} {B blk off N : Nat} {h : Nat → Nat} (l : Lay w wr blk off h N) (hb : Below B w0 w) (hg : B ≤ blk) : Below B w0 wr := by
  obtain ⟨a1, a2, a3, a4, a5⟩ := l.block
  exact ⟨a1.trans hb.os, a2.trans hb.tape, a3.trans hb.output, by rw [a4]; exact hb.size, fun k hk => (a5 k (by omega)).trans (hb.block k hk)⟩
theorem Lay.own {w wr : World} {g N cap base : Nat} {f h : Nat → Nat} (l : Lay w wr g 0 h N) (ho : w.ownsRow base 3 1 (.slice (some ⟨g, 0, none⟩) N cap) N (M4.iv (EG.tks (row id f N)))) : wr.ownsRow base 3 1 (.slice (some ⟨g, 0, none⟩) N cap) N (M4.iv (EG.tks (row id h N))) := by
  obtain ⟨q, rfl⟩ := l
  rw [iv_nv] at ho ⊢
  have := Lib.ownsRow_putRow (q := 0) (k := N) (ys := row id h N) ho (row_len _ _ _) (Nat.le_refl _)
  rw [List.take_of_length_le (by rw [row_len]; exact Nat.le_refl _), ← ar_row] at this
  exact this
end MSym
theorem cmpI_lt2 {xs : List I3} (h : EG.okP xs = true) (x y : Nat) : EG.cmpI (EG.cost xs x) (EG.cost xs y) < 0 ↔ EG.cst xs x < EG.cst xs y := by
  rw [EG.cst_is h x, EG.cst_is h y]
  unfold EG.cmpI
  split
  · omega
  · split <;> omega
set_option linter.unusedSimpArgs false in
set_option maxHeartbeats 1600000 in
set_option maxRecDepth 100000 in
theorem sortStable_any (g cap c : Nat) (a : Option Addr) (ca : Nat) (xs : List I3) (w0 w : World) (base : Nat) (hg : EG.okP xs = true) (hin : MI3.RowAt w0 a xs) (hb : Below w0.heap.size w0 w) (hgb : w0.heap.size ≤ g) (hc : w.cell? ⟨c, 0, none⟩ = some (.slice a xs.length ca)) (_hcl : c < w.heap.size) (hcg : c ≠ g) (ho : w.ownsRow base 3 1 (.slice (some ⟨g, 0, none⟩) xs.length cap) xs.length (M4.iv (EG.tks (List.range xs.length)))) :
    Calls Try.prog 59 #[.slice (some ⟨g, 0, none⟩) xs.length cap, .func (.func 66) #[] #[.pointer (some ⟨c, 0, none⟩)]] w fun e w' => e = .returned (.tuple #[]) ∧ w'.ownsRow base 3 1 (.slice (some ⟨g, 0, none⟩) xs.length cap) xs.length (M4.iv (EG.tks (EG.krO xs))) ∧ Below w0.heap.size w0 w' := by
  have hlen := ((EG.okP_iff xs).1 hg).1
  rw [← row_id] at ho
  have hH : Sort.Holds nv w g 0 (ar id xs.length) := by
    have h2 := ho
    rw [iv_nv] at h2
    obtain ⟨g', cap', e, _, _, _, _, _, hh⟩ := Lib.holds_of_ownsRow h2 (by simp)
    simp only [Value.slice.injEq, Option.some.injEq, Addr.mk.injEq, and_true] at e
    obtain ⟨rfl, -⟩ := e
    rw [ar_row]; exact hh
  have hC : Cmps w g 0 xs.length 66 #[.pointer (some ⟨c, 0, none⟩)] (fun x y => EG.cmpI (EG.cost xs x) (EG.cost xs y)) := by
    intro wr h l x y hx hy n
    obtain ⟨_, _, _, b4, b5⟩ := l.block
    have hbw := l.below hb hgb
    refine (cmpC_any a ca c xs x y (wr.drewN n) hx hy hlen ?_ (hin.below (hbw.trans ⟨rfl, rfl, rfl, Nat.le_refl _, fun _ _ => rfl⟩))).mono (fun e w' h => h)
    show wr.cell? ⟨c, 0, none⟩ = _
    rw [World.cell?_of_block (w := w) (b5 c hcg)]; exact hc
  have ST : Hid _ := stable_any g 0 cap xs.length 66 #[.pointer (some ⟨c, 0, none⟩)] (EG.cst xs) _ id w hH (enters_of Try.func66 (by rfl) rfl) hC (cmpI_lt2 hg) (fun k hk => hk) (fun i j _ h _ => h) hlen
  have FIN : Hid (∀ h w', Lay w w' g 0 h xs.length → Up (Lex (EG.cst xs)) h 0 xs.length → From h id 0 xs.length → w'.ownsRow base 3 1 (.slice (some ⟨g, 0, none⟩) xs.length cap) xs.length (M4.iv (EG.tks (EG.krO xs))) ∧ Below w0.heap.size w0 w') := fun h w' l u fr => by
    have s := sorted (c := EG.cst xs) (m := 1001) (fun x _ => EG.cst_lt hg x) u fr
    have o := l.own ho
    rw [s] at o
    exact ⟨o, l.below hb hgb⟩
  clear hH hC ho hc hb hin
  go_enter Try.func59, Try.ntmps59
  go_wp2_with fail
  refine Calls.mono ST.out ?_
  rintro e w1 ⟨rfl, h, l, u, fr⟩
  obtain ⟨f1, f2⟩ := FIN.out h w1 l u fr
  have F1 : Hid _ := f1
  clear ST FIN l u fr f1
  go_wp2
  go_end0
  exact ⟨rfl, F1.out, f2⟩
set_option linter.unusedSimpArgs false in
set_option maxHeartbeats 1600000 in
set_option maxRecDepth 100000 in
theorem cheapest_any (a : Option Addr) (ca : Nat) (xs : List I3) (w : World) (hg : EG.okP xs = true) (hin : MI3.RowAt w a xs) :
    Calls Try.prog 32 #[.slice a xs.length ca] w fun e w' => ∃ g c1, e = .returned (.slice (some ⟨g, 0, none⟩) xs.length c1) ∧ w'.ownsRow w.heap.size 3 1 (.slice (some ⟨g, 0, none⟩) xs.length c1) xs.length (M4.iv (EG.tks (EG.krO xs))) ∧ Below w.heap.size w w' := by
  have hlen := ((EG.okP_iff xs).1 hg).1
  have NB : Hid _ := numbersBelow_any xs.length w (by omega)
  have SS : Hid (∀ (wr : World) (g c : Nat), wr.ownsRow w.heap.size 3 1 (.slice (some ⟨g, 0, none⟩) xs.length c) xs.length (M4.iv (JD.nums xs.length)) → Below w.heap.size w wr → Calls Try.prog 59 #[.slice (some ⟨g, 0, none⟩) xs.length c, .func (.func 66) #[] #[.pointer (some ⟨wr.heap.size, 0, none⟩)]] (wr.alloc (.cells #[.slice a xs.length ca] 23)) fun e w' => e = .returned (.tuple #[]) ∧ w'.ownsRow w.heap.size 3 1 (.slice (some ⟨g, 0, none⟩) xs.length c) xs.length (M4.iv (EG.tks (EG.krO xs))) ∧ Below w.heap.size w w') := fun wr g c ho hb => by
    have hgl := ho.lt g rfl
    exact sortStable_any g c wr.heap.size a ca xs w (wr.alloc (.cells #[.slice a xs.length ca] 23)) w.heap.size hg hin (hb.alloc hb.size _) hgl.1 (by rw [World.cell?_alloc_new]; rfl) (by simp) (by omega) (World.ownsRow.alloc ho _)
  clear hin hg
  go_enter Try.func32, Try.ntmps32
  go_wp2_with fail
  refine Calls.mono NB.out ?_
  rintro e wr ⟨g, c, rfl, ho, hb⟩
  have S1 : Hid _ := SS.out wr g c ho hb
  clear NB SS ho hb
  go_wp2_with fail
  refine Calls.mono (byCost_any a ca xs.length _) ?_
  rintro e w2 ⟨rfl, rfl⟩
  go_wp2_with fail
  refine Calls.mono S1.out ?_
  rintro e w3 ⟨rfl, o3, b3⟩
  have HO3 : Hid _ := o3
  clear S1 o3
  go_wp2
  go_ret
  exact ⟨g, c, rfl, HO3.out, b3⟩
end Go.Proofs.Ytdglialjcibbbaa
