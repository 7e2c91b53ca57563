/- The stable sort of at most ten numbers that the call owns, by a function value that reads: rank by rank. -/
import Derived.Test.YtgenmljnhlcpcaaRows
import Derived.Test.YtgenmljnhlcpcaaCInsG
import Derived.Test.YtgenmljnhlcpcaaMJS
import Derived.Test.YtgenmljnhlcpcaaM5
import Derived.Test.YtgenmljnhlcpcaaMCur
import Derived.Lib.OwnBridge
namespace Go.Proofs.Ytgenmljnhlcpcaa
open Go.RowKit
open MSym MSg
namespace MSg
theorem ar_row (f : Nat → Nat) (n : Nat) : ar f n = (row id f n).toArray := by
  apply Array.ext_getElem?
  intro k
  by_cases hk : k < n
  · simp [ar, row, hk]
  · simp [ar, row, hk]
theorem row_id (n : Nat) : row id id n = List.range n := by simp [row]
/-- the labels' row -/
theorem iv_lv (e : Nat → Int) (T : List Nat) : M4.iv (T.map e) = T.map (lv e) := by
  simp only [M4.iv, List.map_map]; rfl
theorem Lay.only {e : Nat → Int} {w wr : World} {blk off N : Nat} {h : Nat → Nat} (l : Lay e w wr blk off h N) : wr.os = w.os ∧ wr.tape = w.tape ∧ wr.output = w.output ∧ wr.heap.size = w.heap.size ∧ ∀ k, k ≠ blk → wr.heap[k]? = w.heap[k]? := by
  obtain ⟨q, rfl⟩ := l
  refine ⟨rfl, rfl, rfl, ?_, fun k hk => ?_⟩
  · show (Sort.putRow (lv e) w blk off (ar h N)).heap.size = _
    simp [Sort.putRow, Sort.mapBlock]
  · show (Sort.putRow (lv e) w blk off (ar h N)).heap[k]? = _
    simp [Sort.putRow, Sort.mapBlock, Array.getElem?_modify, Ne.symm hk]
theorem Lay.own {e : Nat → Int} {w wr : World} {g N cap base : Nat} {f h : Nat → Nat} (l : Lay e w wr g 0 h N) (ho : w.ownsRow base 3 1 (.slice (some ⟨g, 0, none⟩) N cap) N (M4.iv ((row id f N).map e))) : wr.ownsRow base 3 1 (.slice (some ⟨g, 0, none⟩) N cap) N (M4.iv ((row id h N).map e)) := by
  obtain ⟨q, rfl⟩ := l
  rw [iv_lv] at ho ⊢
  have := Lib.ownsRow_putRow (q := 0) (k := N) (ys := row id h N) ho (row_len _ _ _) (Nat.le_refl _)
  rw [List.take_of_length_le (by rw [row_len]; exact Nat.le_refl _), ← ar_row] at this
  exact this
/-- The function value answers cf of any two of the row, and only reads, while all blocks but the row's are as they were. -/
def Reads (w : World) (g : Nat) (zs : List Int) (fn : Nat) (cb : Array Value) (cf : Int → Int → Int) : Prop :=
  ∀ wr : World, wr.os = w.os → wr.tape = w.tape → wr.output = w.output → wr.heap.size = w.heap.size → (∀ k, k ≠ g → wr.heap[k]? = w.heap[k]?) → ∀ x y, x ∈ zs → y ∈ zs → Calls Try.prog fn (#[.int .i64 x, .int .i64 y] ++ cb) wr fun e w' => e = .returned (.int .i64 (cf x y)) ∧ ∃ q, w' = wr.drewN q
end MSg
set_option linter.unusedSimpArgs false in
set_option maxHeartbeats 3200000 in
set_option maxRecDepth 1000000 in
theorem stableG_any (e : Nat → Int) (blk off cap N g : Nat) (cb : Array Value) (c : Nat → Nat) (cf : Nat → Nat → Int) (w : World) (hH : Sort.Holds (lv e) w blk off (ar id N)) (eg : ∀ args w, (callFunc g args).run Try.prog w = .ok (.enter g args) w) (hC : Cmps e w blk off N g cb cf) (hcf : ∀ x y, cf x y < 0 ↔ c x < c y) (hN : N ≤ 10) :
    Calls Try.prog 74 #[.slice (some ⟨blk, off, none⟩) N cap, .int .i64 N, .func (.func g) #[] cb] w fun ex w' => ex = .returned (.tuple #[]) ∧ ∃ h, Lay e w w' blk off h N ∧ Up (Lex c) h 0 N ∧ From h id 0 N := by
  have h20z : ¬ (20 : Int) ≤ (N : Int) := by omega
  have h21z : ¬ (20 : Int) < (N : Int) := by omega
  have I1 : Hid _ := insSortG_any e blk off cap N 0 N g cb c cf id w hH eg hC hcf (fun k hk => hk) (fun i j _ h _ => h) (by omega) (Nat.le_refl _) (by omega)
  clear hH hC hcf
  go_enter Try.func74, Try.ntmps74
  go_wp2
  go_loopw [7, 8] (fun av bv wr => av = .int .i64 0 ∧ bv = .int .i64 20 ∧ wr = w) (fun _ _ _ => 0)
  case atStart => exact ⟨rfl, rfl, rfl⟩
  case round =>
    obtain ⟨rfl, rfl, rfl⟩ := hrel
    go_wp2_with fail
    refine Calls.mono I1.out ?_
    rintro ex w1 ⟨rfl, hF⟩
    have HF : Hid _ := hF
    clear I1 hF
    go_wp2
    go_loopw [6, 7, 8, 9] (fun sv _ _ _ wr => sv = .int .i64 20 ∧ wr = w1) (fun _ _ _ _ _ => 0)
    case atStart => exact ⟨rfl, rfl⟩
    case round =>
      obtain ⟨rfl, rfl⟩ := hrel
      go_wp2
      go_end0
      exact ⟨rfl, HF.out⟩
set_option linter.unusedSimpArgs false in
set_option maxHeartbeats 1600000 in
set_option maxRecDepth 100000 in
theorem sortG_any (g cap base : Nat) (zs : List Int) (r : Int → Nat) (m fn : Nat) (cb : Array Value) (cf : Int → Int → Int) (w : World) (hl : zs.length ≤ 10) (ho : w.ownsRow base 3 1 (.slice (some ⟨g, 0, none⟩) zs.length cap) zs.length (M4.iv zs)) (eg : ∀ args w, (callFunc fn args).run Try.prog w = .ok (.enter fn args) w) (hC : Reads w g zs fn cb cf) (hcf : ∀ x y, cf x y < 0 ↔ r x < r y) (hm : ∀ z, z ∈ zs → r z < m) :
    Calls Try.prog 57 #[.slice (some ⟨g, 0, none⟩) zs.length cap, .func (.func fn) #[] cb] w fun e w' => e = .returned (.tuple #[]) ∧ w'.ownsRow base 3 1 (.slice (some ⟨g, 0, none⟩) zs.length cap) zs.length (M4.iv (JD.srt r zs m)) ∧ w'.os = w.os ∧ w'.tape = w.tape ∧ w'.output = w.output ∧ w'.heap.size = w.heap.size ∧ ∀ k, k ≠ g → w'.heap[k]? = w.heap[k]? := by
  have hrow : (row id id zs.length).map (fun k => zs.getD k 0) = zs := by rw [row_id]; exact JD.range_get zs
  have ho2 : w.ownsRow base 3 1 (.slice (some ⟨g, 0, none⟩) zs.length cap) zs.length (M4.iv ((row id id zs.length).map (fun k => zs.getD k 0))) := by rw [hrow]; exact ho
  have hH : Sort.Holds (lv (fun k => zs.getD k 0)) w g 0 (ar id zs.length) := by
    have h2 := ho2
    rw [iv_lv] at h2
    obtain ⟨g', cap', e, _, _, _, _, _, hh⟩ := Lib.holds_of_ownsRow h2 (by simp)
    simp only [Value.slice.injEq, Option.some.injEq, Addr.mk.injEq, and_true] at e
    obtain ⟨rfl, -⟩ := e
    rw [ar_row]; exact hh
  have hmem : ∀ x, x < zs.length → zs.getD x 0 ∈ zs := fun x hx => by rw [List.getD_eq_getElem?_getD, List.getElem?_eq_getElem hx]; exact List.getElem_mem hx
  have hC2 : Cmps (fun k => zs.getD k 0) w g 0 zs.length fn cb (fun x y => cf (zs.getD x 0) (zs.getD y 0)) := by
    intro wr h l x y hx hy n
    obtain ⟨b1, b2, b3, b4, b5⟩ := l.only
    exact hC (wr.drewN n) b1 b2 b3 b4 b5 _ _ (hmem x hx) (hmem y hy)
  have ST : Hid _ := stableG_any (fun k => zs.getD k 0) g 0 cap zs.length fn cb (fun k => r (zs.getD k 0)) _ w hH eg hC2 (fun x y => hcf _ _) hl
  have FIN : Hid (∀ h w', Lay (fun k => zs.getD k 0) w w' g 0 h zs.length → Up (Lex (fun k => r (zs.getD k 0))) h 0 zs.length → From h id 0 zs.length → w'.ownsRow base 3 1 (.slice (some ⟨g, 0, none⟩) zs.length cap) zs.length (M4.iv (JD.srt r zs m)) ∧ w'.os = w.os ∧ w'.tape = w.tape ∧ w'.output = w.output ∧ w'.heap.size = w.heap.size ∧ ∀ k, k ≠ g → w'.heap[k]? = w.heap[k]?) := fun h w' l u fr => by
    have s := sorted (c := fun k => r (zs.getD k 0)) (m := m) (fun x hx => hm _ (hmem x hx)) u fr
    have o := l.own ho2
    rw [s, JD.srt_is] at o
    exact ⟨o, l.only⟩
  clear hH hC hC2 ho ho2 hcf hm hmem hrow
  go_enter Try.func57, Try.ntmps57
  go_wp2_with fail
  refine Calls.mono ST.out ?_
  rintro e w1 ⟨rfl, h, l, u, fr⟩
  have F1 : Hid _ := FIN.out h w1 l u fr
  clear ST FIN l u fr
  go_wp2
  go_end0
  exact ⟨rfl, F1.out⟩
set_option linter.unusedSimpArgs false in
set_option maxHeartbeats 1600000 in
set_option maxRecDepth 100000 in
theorem sortG_nil (fn : Nat) (cb : Array Value) (w : World) :
    Calls Try.prog 57 #[.slice none 0 0, .func (.func fn) #[] cb] w fun e w' => e = .returned (.tuple #[]) ∧ w = w' := by
  have I1 : Hid (∀ W : World, Calls Try.prog 81 #[.slice none 0 0, .int .i64 0, .int .i64 0, .func (.func fn) #[] cb] W fun e w' => e = .returned (.tuple #[]) ∧ W = w') := fun W => by
    go_enter Try.func81, Try.ntmps81
    go_wp2
    go_loopw [8] (fun iv wr => iv = .int .i64 1 ∧ W = wr) (fun _ _ => 0)
    case atStart => exact ⟨rfl, rfl⟩
    case round =>
      obtain ⟨rfl, rfl⟩ := hrel
      go_wp2
      go_end0
      exact ⟨rfl, rfl⟩
  have I2 : Hid (∀ W : World, Calls Try.prog 74 #[.slice none 0 0, .int .i64 0, .func (.func fn) #[] cb] W fun e w' => e = .returned (.tuple #[]) ∧ W = w') := fun W => by
    go_enter Try.func74, Try.ntmps74
    go_wp2
    go_loopw [7, 8] (fun av bv wr => av = .int .i64 0 ∧ bv = .int .i64 20 ∧ wr = W) (fun _ _ _ => 0)
    case atStart => exact ⟨rfl, rfl, rfl⟩
    case round =>
      obtain ⟨rfl, rfl, rfl⟩ := hrel
      go_wp2_with fail
      refine Calls.mono (I1.out _) ?_
      rintro ex w1 ⟨rfl, rfl⟩
      clear I1
      go_wp2
      go_loopw [6, 7, 8, 9] (fun sv _ _ _ wr2 => sv = .int .i64 20 ∧ wr2 = wr) (fun _ _ _ _ _ => 0)
      case atStart => exact ⟨rfl, rfl⟩
      case round =>
        obtain ⟨rfl, rfl⟩ := hrel
        go_wp2
        go_end0
        exact ⟨rfl, rfl⟩
  clear I1
  go_enter Try.func57, Try.ntmps57
  go_wp2_with fail
  refine Calls.mono (I2.out _) ?_
  rintro e w1 ⟨rfl, rfl⟩
  clear I2
  go_wp2
  go_end0
  exact ⟨rfl, rfl⟩
end Go.Proofs.Ytgenmljnhlcpcaa
