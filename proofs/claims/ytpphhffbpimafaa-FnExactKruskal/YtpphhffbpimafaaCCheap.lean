/- The edges' numbers, cheapest first: cheapestFirst of the program. -/
import Derived.Test.YtpphhffbpimafaaRows
import Derived.Test.YtpphhffbpimafaaCStable
import Derived.Test.YtpphhffbpimafaaCByC
import Derived.Test.YtpphhffbpimafaaMKr
import Derived.Test.YtpphhffbpimafaaMInfo
import Derived.Lib.OwnBridge
namespace Go.Proofs.Ytpphhffbpimafaa
open Go.RowKit
open MSym
namespace MSym
theorem ar_row (f : Nat → Nat) (n : Nat) : ar f n = (row id f n).toArray := by
  apply Array.ext_getElem?
  intro k
  by_cases hk : k < n
  · simp [ar, row, hk]
  · simp [ar, row, hk]
theorem row_id (n : Nat) : row id id n = List.range n := by simp [row]
theorem iv_nv (T : List Nat) : M4.iv (EG.tks T) = T.map nv := by simp [M4.iv, EG.tks, nv]
theorem Lay.block {w wr : World} {blk off N : Nat} {h : Nat → Nat} (l : Lay w wr blk off h N) : wr.os = w.os ∧ wr.tape = w.tape ∧ wr.output = w.output ∧ wr.heap.size = w.heap.size ∧ ∀ k, k ≠ blk → wr.heap[k]? = w.heap[k]? := by
  obtain ⟨q, rfl⟩ := l
  refine ⟨rfl, rfl, rfl, ?_, fun k hk => ?_⟩
  · show (Sort.putRow nv w blk off (ar h N)).heap.size = _
    simp [Sort.putRow, Sort.mapBlock]
  · show (Sort.putRow nv w blk off (ar h N)).heap[k]? = _
    simp [Sort.putRow, Sort.mapBlock, Array.getElem?_modify, Ne.symm hk]
theorem Lay.below {w0 w wr : World} {B blk off N : Nat} {h : Nat → Nat} (l : Lay w wr blk off h N) (hb : Below B w0 w) (hg : B ≤ blk) : Below B w0 wr := by
  obtain ⟨a1, a2, a3, a4, a5⟩ := l.block
  exact ⟨a1.trans hb.os, a2.trans hb.tape, a3.trans hb.output, by rw [a4]; exact hb.size, fun k hk => (a5 k (by omega)).trans (hb.block k hk)⟩
theorem Lay.own {w wr : World} {g N cap base : Nat} {f h : Nat → Nat} (l : Lay w wr g 0 h N) (ho : w.ownsRow base 3 1 (.slice (some ⟨g, 0, none⟩) N cap) N (M4.iv (EG.tks (row id f N)))) : wr.ownsRow base 3 1 (.slice (some ⟨g, 0, none⟩) N cap) N (M4.iv (EG.tks (row id h N))) := by
  obtain ⟨q, rfl⟩ := l
  rw [iv_nv] at ho ⊢
  have := Lib.ownsRow_putRow (q := 0) (k := N) (ys := row id h N) ho (row_len _ _ _) (Nat.le_refl _)
  rw [List.take_of_length_le (by rw [row_len]; exact Nat.le_refl _), ← ar_row] at this
  exact this
end MSym
theorem cmpI_lt2 {xs : List I3} (h : EG.okP xs = true) (x y : Nat) : EG.cmpI (EG.cost xs x) (EG.cost xs y) < 0 ↔ EG.cst xs x < EG.cst xs y := by
  rw [EG.cst_is h x, EG.cst_is h y]
  unfold EG.cmpI
  split
  · omega
  · split <;> omega
set_option linter.unusedSimpArgs false in
set_option maxHeartbeats 1600000 in
set_option maxRecDepth 100000 in
theorem sortStable_any (g cap c : Nat) (a : Option Addr) (ca : Nat) (xs : List I3) (w0 w : World) (base : Nat) (hg : EG.okP xs = true) (hin : MI3.RowAt w0 a xs) (hb : Below w0.heap.size w0 w) (hgb : w0.heap.size ≤ g) (hc : w.cell? ⟨c, 0, none⟩ = some (.slice a xs.length ca)) (_hcl : c < w.heap.size) (hcg : c ≠ g) (ho : w.ownsRow base 3 1 (.slice (some ⟨g, 0, none⟩) xs.length cap) xs.length (M4.iv (EG.tks (List.range xs.length)))) :
    Calls Try.prog 28 #[.slice (some ⟨g, 0, none⟩) xs.length cap, .func (.func 36) #[] #[.pointer (some ⟨c, 0, none⟩)]] w fun e w' => e = .returned (.tuple #[]) ∧ w'.ownsRow base 3 1 (.slice (some ⟨g, 0, none⟩) xs.length cap) xs.length (M4.iv (EG.tks (EG.krO xs))) ∧ Below w0.heap.size w0 w' := by
  have hlen := ((EG.okP_iff xs).1 hg).1
  rw [← row_id] at ho
  have hH : Sort.Holds nv w g 0 (ar id xs.length) := by
    have h2 := ho
    rw [iv_nv] at h2
    obtain ⟨g', cap', e, _, _, _, _, _, hh⟩ := Lib.holds_of_ownsRow h2 (by simp)
    simp only [Value.slice.injEq, Option.some.injEq, Addr.mk.injEq, and_true] at e
    obtain ⟨rfl, -⟩ := e
    rw [ar_row]; exact hh
  have hC : Cmps w g 0 xs.length 36 #[.pointer (some ⟨c, 0, none⟩)] (fun x y => EG.cmpI (EG.cost xs x) (EG.cost xs y)) := by
    intro wr h l x y hx hy n
    obtain ⟨_, _, _, b4, b5⟩ := l.block
    have hbw := l.below hb hgb
    refine (cmpC_any a ca c xs x y (wr.drewN n) hx hy hlen ?_ (hin.below (hbw.trans ⟨rfl, rfl, rfl, Nat.le_refl _, fun _ _ => rfl⟩))).mono (fun e w' h => h)
    show wr.cell? ⟨c, 0, none⟩ = _
    rw [World.cell?_of_block (w := w) (b5 c hcg)]; exact hc
  have ST : Hid _ := stable_any g 0 cap xs.length 36 #[.pointer (some ⟨c, 0, none⟩)] (EG.cst xs) _ id w hH (enters_of Try.func36 (by rfl) rfl) hC (cmpI_lt2 hg) (fun k hk => hk) (fun i j _ h _ => h) hlen
  have FIN : Hid (∀ h w', Lay w w' g 0 h xs.length → Up (Lex (EG.cst xs)) h 0 xs.length → From h id 0 xs.length → w'.ownsRow base 3 1 (.slice (some ⟨g, 0, none⟩) xs.length cap) xs.length (M4.iv (EG.tks (EG.krO xs))) ∧ Below w0.heap.size w0 w') := fun h w' l u fr => by
    have s := sorted (c := EG.cst xs) (m := 1001) (fun x _ => EG.cst_lt hg x) u fr
    have o := l.own ho
    rw [s] at o
    exact ⟨o, l.below hb hgb⟩
  clear hH hC ho hc hb hin
  go_enter Try.func28, Try.ntmps28
  go_wp2_with fail
  refine Calls.mono ST.out ?_
  rintro e w1 ⟨rfl, h, l, u, fr⟩
  obtain ⟨f1, f2⟩ := FIN.out h w1 l u fr
  have F1 : Hid _ := f1
  clear ST FIN l u fr f1
  go_wp2
  go_end0
  exact ⟨rfl, F1.out, f2⟩
set_option linter.unusedSimpArgs false in
set_option maxHeartbeats 1600000 in
set_option maxRecDepth 100000 in
theorem cheapest_any (a : Option Addr) (ca : Nat) (xs : List I3) (w : World) (hg : EG.okP xs = true) (hin : MI3.RowAt w a xs) :
    Calls Try.prog 20 #[.slice a xs.length ca] w fun e w' => ∃ g c1, e = .returned (.slice (some ⟨g, 0, none⟩) xs.length c1) ∧ w'.ownsRow w.heap.size 3 1 (.slice (some ⟨g, 0, none⟩) xs.length c1) xs.length (M4.iv (EG.tks (EG.krO xs))) ∧ Below w.heap.size w w' := by
  obtain ⟨i0, hi, hz0, hz1, hz2⟩ := info_parts Try.info3
  have hlen := ((EG.okP_iff xs).1 hg).1
  have HI : Hid (MI3.RowAt w a xs) := hin
  have HG : Hid _ := hg
  have OW0 : Hid (World.ownsRow (w.alloc (.cells #[] 3)) w.heap.size 3 1 (.slice (some ⟨w.heap.size, 0, none⟩) 0 0) 0 (M4.iv (EG.tks (List.range 0)))) := by
    have := World.ownsRow_lit (base := w.heap.size) (e := 3) (size := 1) w #[] 0 (Nat.le_refl _) (by unfold maxLen; omega) (by simp)
    show World.ownsRow _ _ _ _ _ _ _
    simpa [M4.iv, EG.tks] using this
  clear hin hg
  go_enter Try.func20, Try.ntmps20
  go_wp2
  go_loopw [3, 4, 8] (fun v _ iv wr => ∃ (k g c : Nat), iv = .int .i64 k ∧ k ≤ xs.length ∧ v = .slice (some ⟨g, 0, none⟩) k c ∧ Hid (World.ownsRow wr w.heap.size 3 1 (.slice (some ⟨g, 0, none⟩) k c) k (M4.iv (EG.tks (List.range k)))) ∧ Below w.heap.size w wr) (fun _ _ iv _ => (xs.length - intOf iv).toNat)
  case atStart => exact ⟨0, w.heap.size, 0, rfl, by omega, rfl, OW0, (Below.refl _ _).alloc (Nat.le_refl _) _⟩
  case round =>
    clear OW0
    obtain ⟨k, g, c, rfl, hk, rfl, HO, hb⟩ := hrel
    have hbs := hb.size
    by_cases hlk : k < xs.length
    · have kn : (k : Int) < (xs.length : Int) := by omega
      go_wp2_with (at_builtin; go_loud (refine wpList_append_own _ rfl _ _ 24 rfl w.heap.size 3 i0 (.int .i64 0) 1 8 Try.underlying24 hi hz0 hz1 hz2 rfl (by decide) _ _ _ rfl (World.ownsRow.alloc HO.out _) ⟨wr.heap.size, 0, none⟩ 1 1 [.int .i64 (k : Int)] rfl rfl ?c1 ?c2 ?c3 ?c4 ?c5 ?_))
      all_goals try (first | rfl | omega | exact M2.new1 _ _ _ | exact M2.one1 _ _ | (unfold maxLen; omega) | (simp; omega))
      intro v' wn hown1 hgrow _
      have R1 : wn.ownsRow w.heap.size 3 1 v' (k + 1) (M4.iv (EG.tks (List.range (k + 1)))) := by
        rw [List.range_succ, EG.tks_app]; simpa [M4.iv] using hown1
      have R3 := (hb.alloc hbs _).grown hgrow (by simp; omega) (fun j hj => (HO.out.lt j hj).1)
      obtain ⟨g', c', rfl⟩ : ∃ g' c', v' = .slice (some ⟨g', 0, none⟩) (k + 1) c' := by
        rcases R1.2 with ⟨-, h0⟩ | ⟨g', c', cur, rfl, -⟩
        · omega
        · exact ⟨g', c', rfl⟩
      have HR1 : Hid _ := R1
      clear hown1 hgrow HO R1
      go_wp2
      go_roundw
      case rel => exact ⟨k + 1, g', c', by go_num, by omega, rfl, HR1, R3⟩
      case measure => simp [intOf]; omega
    · obtain rfl : k = xs.length := by omega
      have hgl := HO.out.lt g rfl
      have SS : Hid _ := sortStable_any g c wr.heap.size a ca xs w (wr.alloc (.cells #[.slice a xs.length ca] 27)) w.heap.size HG.out HI.out (hb.alloc hbs _) hgl.1 (by rw [World.cell?_alloc_new]; rfl) (by simp) (by omega) (World.ownsRow.alloc HO.out _)
      clear HO HI hb
      go_wp2_with fail
      refine Calls.mono (byCost_any a ca xs.length _) ?_
      rintro e w2 ⟨rfl, rfl⟩
      go_wp2_with fail
      refine Calls.mono SS.out ?_
      rintro e w3 ⟨rfl, o3, b3⟩
      have HO3 : Hid _ := o3
      clear SS o3
      go_wp2
      go_ret
      exact ⟨g, c, rfl, HO3.out, b3⟩
end Go.Proofs.Ytpphhffbpimafaa
