/- beneath: the bytes of a sheet with those of another on top. -/
import Derived.Test.YtdgflhgbcfehhaaRows
import Derived.Test.YtdgflhgbcfehhaaCInfoSheet
import Derived.WalkKit
import Derived.WalkSpells
import Derived.WalkLawsBesides
import Derived.Outline
namespace Go.Proofs.Ytdgflhgbcfehhaa
open Go.RowKit
def benF (s t : PL.Sh) (k p : Nat) : Nat := if decide (p < k) = true ∧ t.th p = true then t.by_ p else s.by_ p
theorem benF_skip {s t : PL.Sh} {k : Nat} (h : t.th k = false) (p : Nat) : benF s t k p = benF s t (k + 1) p := by
  unfold benF
  by_cases e : p = k
  · subst e; simp [h]
  · have : (p < k + 1) ↔ (p < k) := by omega
    simp [this]
theorem benF_put {s t : PL.Sh} {k : Nat} (h : t.th k = true) (p : Nat) : (if p = k then t.by_ k else benF s t k p) = benF s t (k + 1) p := by
  unfold benF
  by_cases e : p = k
  · subst e; simp [h]
  · have : (p < k + 1) ↔ (p < k) := by omega
    simp [this, e]
set_option maxHeartbeats 800000 in
set_option maxRecDepth 100000 in
theorem beneath_any (s t : PL.Sh) (w : World) :
    Calls Try.prog 71 #[.agg (MA.sF s).toArray, .agg (MA.sF t).toArray] w fun e w' => e = .returned (.agg (MA.yF (benF s t 60)).toArray) ∧ Below w.heap.size w w' := by
  have ra := (((MA.Rg.new w (MA.sF s) 73).alloc (.cells (MA.sF t).toArray 73)).alloc (.cells (MA.yF fun _ => 0).toArray 71)).sheet.2
  have rb := ((MA.Rg.new' (w.alloc (.cells (MA.sF s).toArray 73)) (MA.sF t) 73 (w.heap.size + 1) (by simp)).alloc (.cells (MA.yF fun _ => 0).toArray 71)).alloc (.cells (MA.yF fun _ => 0).toArray 71)
  have rc := (MA.Rg.new' ((w.alloc (.cells (MA.sF s).toArray 73)).alloc (.cells (MA.sF t).toArray 73)) (MA.yF fun _ => 0) 71 (w.heap.size + 1 + 1) (by simp)).alloc (.cells (MA.yF fun _ => 0).toArray 71)
  have rd := MA.Rg.new' (((w.alloc (.cells (MA.sF s).toArray 73)).alloc (.cells (MA.sF t).toArray 73)).alloc (.cells (MA.yF fun _ => 0).toArray 71)) (MA.yF fun _ => 0) 71 (w.heap.size + 1 + 1 + 1) (by simp)
  have hb : Below w.heap.size w ((((w.alloc (.cells (MA.sF s).toArray 73)).alloc (.cells (MA.sF t).toArray 73)).alloc (.cells (MA.yF fun _ => 0).toArray 71)).alloc (.cells (MA.yF fun _ => 0).toArray 71)) := ((((Below.refl _ w).alloc (Nat.le_refl _) _).alloc (by simp) _).alloc (by simp; omega) _).alloc (by simp; omega) _
  have sb := rb.other (k' := w.heap.size + 1 + 1 + 1) (o' := 0) (vs := MA.yF s.by_) (.inl (by omega))
  have sc := rc.other (k' := w.heap.size + 1 + 1 + 1) (o' := 0) (vs := MA.yF s.by_) (.inl (by omega))
  have sd := rd.put (vs := MA.yF s.by_) (by rw [MA.yF_len, MA.yF_len])
  have hb2 := MA.below_cells (b := w.heap.size + 1 + 1 + 1) (by omega) (MA.yF s.by_) 0 _ hb
  have SB : Hid _ := sb
  have SB1 : Hid _ := sb.sheet.1
  have SC : Hid _ := sc
  have SD : Hid _ := sd
  have HB : Hid _ := hb2
  have RA : Hid _ := ra
  have RD : Hid _ := rd
  clear hb rb rc sb sc sd hb2 ra rd
  go_enter Try.func71, Try.ntmps71
  go_wp2_with (first
    | (refine MA.alloc_z rfl 71 rfl _ _ Try.infoLetters ?_; simp only [MA.sz_alloc])
    | (refine MA.load_m rfl 71 _ rfl rfl (cs := MA.yF s.by_) ?_ Try.underlying71 rfl Try.sizeLetters (MA.yF_len _) ?_; exact RA.out)
    | (refine MA.store_m rfl 71 _ _ rfl rfl rfl (cs := MA.yF fun _ => 0) ?_ Try.sizeLetters (MA.yF_len _) (MA.yF_len _) (MA.yF_one _) ?_; exact RD.out; clear RA RD; generalize World.setCells _ _ _ _ = W at *)
    | (refine MA.load_m rfl 69 _ rfl rfl (cs := MA.tF t.th) ?_ Try.underlying69 rfl Try.sizeMarks (MA.tF_len _) ?_; exact SB1.out))
  have sb := SB.out
  have sc := SC.out
  have sd := SD.out
  have hb2 := HB.out
  clear SB SB1 SC SD HB
  rw [MA.yF_ext (g' := benF s t 0) (fun p _ => by simp [benF])] at sd
  go_loopw [6, 7, 12] (fun _ _ iv wr => ∃ k : Nat, iv = .int .i64 k ∧ k ≤ 60 ∧ MA.Rg wr (w.heap.size + 1) 0 (MA.sF t) ∧ MA.Rg wr (w.heap.size + 1 + 1) 0 (MA.yF fun _ => 0) ∧ MA.Rg wr (w.heap.size + 1 + 1 + 1) 0 (MA.yF (benF s t k)) ∧ Below w.heap.size w wr) (fun _ _ iv _ => (60 - intOf iv).toNat)
  case atStart => exact ⟨0, rfl, by omega, sb, sc, sd, hb2⟩
  case round =>
    clear sb sc sd hb2
    obtain ⟨k, rfl, hk, sb, sc, sd, hb⟩ := hrel
    by_cases hl : k < 60
    · have hk0 : (0 : Int) ≤ (k : Int) := by omega
      have hk1 : (k : Int) < 60 := by omega
      have hg : ∀ W, (Instr.index 69 (.agg (MA.tF t.th).toArray) (.int .i64 (k : Int))).run Try.prog W = .ok (.bool (t.th k)) W := fun W => MA.run_index Try.underlying69 (by go_simp) (by go_simp) hl (MA.tF_get _ hl)
      cases hf : t.th k with
      | false =>
        rw [hf] at hg
        rw [MA.yF_ext (g' := benF s t (k + 1)) (fun p _ => benF_skip hf p)] at sd
        clear hf
        go_wp2
        go_roundw
        case rel => exact ⟨k + 1, by go_num, by omega, sb, sc, sd, hb⟩
        case measure => simp [intOf]; omega
      | true =>
        rw [hf] at hg
        have c0 : wr.cell? ⟨w.heap.size + 1, 60 + k, none⟩ = some (.int .u8 (t.by_ k : Int)) := by have := sb.sheet.2.cell (MA.yF_get _ (p := k) hl); rwa [Nat.zero_add] at this
        have c1 : wr.cell? ⟨w.heap.size + 1 + 1 + 1, k, none⟩ = some (.int .u8 (benF s t k k : Int)) := by have := sd.cell (MA.yF_get _ (p := k) hl); rwa [Nat.zero_add] at this
        have f1 : wr.frozen? ⟨w.heap.size + 1 + 1 + 1, k, none⟩ = false := by have := sd.free (j := k) (by rw [MA.yF_len]; omega); rwa [Nat.zero_add] at this
        have q1 := sd.put1 (j := k) (by rw [MA.yF_len]; omega) (.int .u8 (t.by_ k : Int))
        rw [MA.yF_set, MA.yF_ext (g' := benF s t (k + 1)) (fun p _ => benF_put hf p), Nat.zero_add] at q1
        have q2 := sb.other (k' := w.heap.size + 1 + 1 + 1) (o' := k) (vs := [.int .u8 (t.by_ k : Int)]) (.inl (by omega))
        have q3 := sc.other (k' := w.heap.size + 1 + 1 + 1) (o' := k) (vs := [.int .u8 (t.by_ k : Int)]) (.inl (by omega))
        have q4 := hb.setCell (p := ⟨w.heap.size + 1 + 1 + 1, k, none⟩) (by simp; omega) (.int .u8 (t.by_ k : Int))
        clear hf sb sc sd hb
        go_wp2
        go_roundw
        case rel => exact ⟨k + 1, by go_num, by omega, q2, q3, q1, q4⟩
        case measure => simp [intOf]; omega
    · obtain rfl : k = 60 := by omega
      go_wp2_with (first | refine MA.load_m rfl 71 _ rfl rfl sd Try.underlying71 rfl Try.sizeLetters (MA.yF_len _) ?_ | refine MA.store_m rfl 71 _ _ rfl rfl rfl sc Try.sizeLetters (MA.yF_len _) (MA.yF_len _) (MA.yF_one _) ?_)
      refine bodyPost_ret (MA.ret_cell rfl rfl (MA.load_rg (sc.put (by rw [MA.yF_len, MA.yF_len])) Try.underlying71 rfl Try.sizeLetters (MA.yF_len _))) rfl ⟨rfl, ?_⟩
      exact MA.below_cells (by omega) _ _ _ hb
end Go.Proofs.Ytdgflhgbcfehhaa
