import Derived.Test.YtgenmljnhlcpcaaRows
import Derived.Test.YtgenmljnhlcpcaaMSym
import Derived.WalkKit
import Derived.WalkSpells
import Derived.WalkLawsBesides
import Derived.Outline
import Derived.Sort.WalkB12
import Derived.Sort.WalkC
import Derived.BigRegion
import Derived.Deep.QuietTactic
import Derived.BigQuiet
import Derived.Shelf.Abstract
import Derived.Test.YtgenmljnhlcpcaaMJS
import Derived.Test.YtgenmljnhlcpcaaM5
import Derived.Test.YtgenmljnhlcpcaaMCur
import Derived.Lib.OwnBridge
/- The stable sort's insertion sort of a row of numbers that are told by labels, by a function value that reads. -/
namespace Go.Proofs.Ytgenmljnhlcpcaa
open Go.RowKit
namespace MSg
open MSym
def ar (f : Nat → Nat) (n : Nat) : Array Nat := Array.ofFn (fun k : Fin n => f k)
/-- what lies there is told by a label -/
def lv (e : Nat → Int) (x : Nat) : Value := .int .i64 (e x)
theorem ar_size (f : Nat → Nat) (n : Nat) : (ar f n).size = n := by simp [ar]
theorem ar_at (f : Nat → Nat) {n k : Nat} (h : k < n) : (ar f n)[k]! = f k := by
  simp [ar, h]
theorem ar_swp (f : Nat → Nat) {n i j : Nat} (hi : i < n) (hj : j < n) :
    Sort.swp (ar f n) i j = ar (swp f i j) n := by
  have hs : ∀ (k : Nat), (ar f n)[k]? = if k < n then some (f k) else none := by
    intro k; simp [ar, Array.getElem?_ofFn]
  have hs2 : ∀ (k : Nat), (ar (swp f i j) n)[k]? = if k < n then some (swp f i j k) else none := by
    intro k; simp [ar, Array.getElem?_ofFn]
  apply Array.ext_getElem?
  intro k
  rw [hs2, Sort.swp, ar_at f hi, ar_at f hj, Array.getElem?_setIfInBounds, Array.getElem?_setIfInBounds, hs]
  simp only [Array.size_setIfInBounds, ar_size, swp]
  by_cases e1 : j = k
  · subst e1
    by_cases e2 : j = i
    · subst e2; simp [hj]
    · simp [hj, e2]
  · by_cases e2 : i = k
    · subst e2; simp [e1, hi]
    · simp [e1, e2, Ne.symm e1, Ne.symm e2]
/-- wr is w with the row g laid there, and some draws on -/
def Lay (e : Nat → Int) (w wr : World) (blk off : Nat) (g : Nat → Nat) (N : Nat) : Prop :=
  ∃ q, wr = (Sort.putRow (lv e) w blk off (ar g N)).drewN q
theorem Lay.self {e : Nat → Int} {w : World} {blk off N : Nat} {f : Nat → Nat} (h : Sort.Holds (lv e) w blk off (ar f N)) : Lay e w w blk off f N :=
  ⟨0, (Sort.putRow_self (lv e) w blk off _ h).symm⟩
theorem Lay.holds {e : Nat → Int} {w wr : World} {blk off N : Nat} {f g : Nat → Nat} (l : Lay e w wr blk off g N) (h : Sort.Holds (lv e) w blk off (ar f N)) :
    Sort.Holds (lv e) wr blk off (ar g N) := by
  obtain ⟨q, rfl⟩ := l
  exact Sort.holds_putRow (lv e) w blk off (ar f N) (ar g N) h (by simp [ar_size])
theorem Lay.trans {e : Nat → Int} {w w1 w2 : World} {blk off N : Nat} {g h : Nat → Nat} (l : Lay e w w1 blk off g N) (k : Lay e w1 w2 blk off h N) :
    Lay e w w2 blk off h N := by
  obtain ⟨q, rfl⟩ := l
  obtain ⟨r, rfl⟩ := k
  refine ⟨q + r, ?_⟩
  have e9 := Sort.putRow_putRow (lv e) w blk off (ar g N) (ar h N) (by simp [ar_size])
  rw [← e9, ← World.drewN_drewN]
  rfl
/-- the function value answers cf, in every world of the sort's; it reads, and may draw -/
def Cmps (e : Nat → Int) (w : World) (blk off N g : Nat) (cb : Array Value) (cf : Nat → Nat → Int) : Prop :=
  ∀ wr h, Lay e w wr blk off h N → ∀ x y, x < N → y < N → ∀ n, Calls Try.prog g (#[.int .i64 (e x), .int .i64 (e y)] ++ cb) (wr.drewN n) fun ex w' => ex = .returned (.int .i64 (cf x y)) ∧ ∃ q, w' = (wr.drewN n).drewN q
theorem Lay.drewN {e : Nat → Int} {w wr : World} {blk off N : Nat} {h : Nat → Nat} (l : Lay e w wr blk off h N) (n : Nat) : Lay e w (wr.drewN n) blk off h N := by
  obtain ⟨q, rfl⟩ := l
  exact ⟨q + n, World.drewN_drewN _ _ _⟩
theorem Lay.cell {e : Nat → Int} {w wr : World} {blk off N k : Nat} {f h : Nat → Nat} (l : Lay e w wr blk off h N) (hH : Sort.Holds (lv e) w blk off (ar f N)) (hk : k < N) :
    wr.cell? ⟨blk, off + k, none⟩ = some (.int .i64 (e (h k))) ∧ wr.frozen? ⟨blk, off + k, none⟩ = false := by
  have := l.holds hH k (by rw [ar_size]; exact hk)
  rw [ar_at _ hk] at this
  exact this
theorem Lay.swp {e : Nat → Int} {w wr : World} {blk off N i j : Nat} {h : Nat → Nat} (l : Lay e w wr blk off h N) (hi : i < N) (hj : j < N) :
    Lay e w ((wr.setCell ⟨blk, off + i, none⟩ (.int .i64 (e (h j)))).setCell ⟨blk, off + j, none⟩ (.int .i64 (e (h i)))).drew blk off (MSym.swp h i j) N := by
  obtain ⟨q, rfl⟩ := l
  have e9 := swap_worldC (lv e) w blk off (ar h N) q i j (by rw [ar_size]; exact hi) (by rw [ar_size]; exact hj)
  rw [ar_at _ hi, ar_at _ hj, ar_swp _ hi hj] at e9
  exact ⟨q + 1, e9⟩
end MSg
open MSym MSg
set_option linter.unusedSimpArgs false in
set_option maxHeartbeats 3200000 in
set_option maxRecDepth 1000000 in
theorem insSortG_any (e : Nat → Int) (blk off cap N a b g : Nat) (cb : Array Value) (c : Nat → Nat) (cf : Nat → Nat → Int) (f : Nat → Nat) (w : World) (hH : Sort.Holds (lv e) w blk off (ar f N)) (eg : ∀ args w, (callFunc g args).run Try.prog w = .ok (.enter g args) w) (hC : Cmps e w blk off N g cb cf) (hcf : ∀ x y, cf x y < 0 ↔ c x < c y) (hv : ∀ k, k < N → f k < N) (hX : Up (· < ·) f a b) (hab : a ≤ b) (hb : b ≤ N) (hN : N ≤ 1000) :
    Calls Try.prog 81 #[.slice (some ⟨blk, off, none⟩) N cap, .int .i64 a, .int .i64 b, .func (.func g) #[] cb] w fun ex w' => ex = .returned (.tuple #[]) ∧ ∃ h, Lay e w w' blk off h N ∧ Up (Lex c) h a b ∧ From h f a b := by
  have HH : Hid (Sort.Holds (lv e) w blk off (ar f N)) := hH
  have HST : Hid (Lay e w w blk off f N) := Lay.self hH
  have HC : Aside _ := hC
  have HV : Aside _ := hv
  have HX : Aside _ := hX
  have HCF : Aside _ := hcf
  clear hH hC hv hX hcf
  go_enter Try.func81, Try.ntmps81
  go_wp2
  go_loopw [8] (fun iv wr => ∃ (i : Nat) (h : Nat → Nat), iv = .int .i64 i ∧ a < i ∧ i ≤ b + 1 ∧ Hid (Lay e w wr blk off h N) ∧ Hid (i ≤ b ∨ a = b ∧ i = b + 1) ∧ Hid (Up (Lex c) h a i ∧ From h f a i)) (fun iv _ => (b + 1 - intOf iv).toNat)
  case atStart => exact ⟨a + 1, f, by go_num, by omega, by omega, HST, (show Hid _ from by show _ ∨ _; omega), (show Hid _ from ⟨fun p q _ _ _ => by omega, From.refl _ _ _⟩)⟩
  case round =>
    clear HST
    obtain ⟨i, h, rfl, hai, hib, HL, HB, HU⟩ := hrel
    by_cases hlt : i < b
    · have hlz : (i : Int) < (b : Int) := by omega
      go_wp2
      go_loopw [9] (fun jv wr2 => ∃ j : Nat, jv = .int .i64 j ∧ a ≤ j ∧ j ≤ i ∧ Hid (Lay e w wr2 blk off (rot h j i (i + 1)) N) ∧ Hid (j < i → Lex c (h i) (h j))) (fun jv _ => (intOf jv).toNat)
      case atStart => exact ⟨i, rfl, by omega, Nat.le_refl _, (show Hid _ from by show Lay e _ _ _ _ _ _; rw [down_zero]; exact HL.out), (show Hid _ from fun h => absurd h (Nat.lt_irrefl _))⟩
      case round =>
        clear HL
        obtain ⟨j, rfl, haj, hji, HL2, HK⟩ := hrel
        have OUT : Aside ((a < j → Lex c (h (j - 1)) (h i)) → Hid (Up (Lex c) (rot h j i (i + 1)) a (i + 1) ∧ From (rot h j i (i + 1)) f a (i + 1))) := fun k1 => ⟨ins_hi (Lex.tr c) haj hji HU.out.1 k1 HK.out, ((rot_from hji (Nat.le_succ i)).wide haj (Nat.le_refl _)).trans (HU.out.2.wide (Nat.le_refl _) (Nat.le_succ i))⟩
        by_cases hja : a < j
        · obtain ⟨jp, rfl⟩ : ∃ jp, j = jp + 1 := ⟨j - 1, by omega⟩
          have hxi : rot h (jp + 1) i (i + 1) (jp + 1) = h i := by rw [rot_l (Nat.le_refl _) (by omega)]; congr 1; omega
          have hxp : rot h (jp + 1) i (i + 1) jp = h jp := rot_lo (by omega)
          obtain ⟨cj, fj⟩ := HL2.out.cell HH.out (k := jp + 1) (by omega)
          obtain ⟨cp, fp⟩ := HL2.out.cell HH.out (k := jp) (by omega)
          rw [hxi] at cj
          rw [hxp] at cp
          obtain ⟨ip, ip1, ip2, ipe⟩ := HU.out.2.2.1 jp (by omega) (by omega)
          have v1 : h i < N := by rw [HU.out.2.1 i (Or.inr (Nat.le_refl _))]; exact HV.out i (by omega)
          have v2 : h jp < N := by rw [ipe]; exact HV.out ip (by omega)
          have HLT : Hid (h jp < h i) := by
            show _ < _
            rw [ipe, HU.out.2.1 i (Or.inr (Nat.le_refl _))]; exact HX.out ip i ip1 ip2 hlt
          have hc := HC.out _ _ HL2.out (h i) (h jp) v1 v2
          have HCI : Hid (cf (h i) (h jp) < 0 ↔ c (h i) < c (h jp)) := HCF.out _ _
          obtain ⟨x, hx⟩ : ∃ x, h i = x := ⟨_, rfl⟩
          obtain ⟨y, hy⟩ : ∃ y, h jp = y := ⟨_, rfl⟩
          rw [hx] at cj hc
          rw [hy] at cp hc
          have HXX : Hid (h i = x) := hx
          have HYY : Hid (h jp = y) := hy
          have HXI : Hid _ := hxi
          have HXP : Hid _ := hxp
          clear hxi hxp ip1 ip2 ipe v1 v2 hx hy
          have hwp : IntKind.i64.wrap (jp : Int) = (jp : Int) := by rw [IntKind.wrap_i64]; omega
          have jz : (jp : Int) + 1 < (N : Int) := by omega
          have jz1 : (jp : Int) < (N : Int) := by omega
          have hjaz' : (a : Int) < (jp : Int) + 1 := by omega
          have hjad : decide ((jp : Int) + 1 > (a : Int)) = true := decide_eq_true (by omega)
          have p0 : (0 : Int) ≤ (jp : Int) + 1 := by omega
          have e0 : ((jp : Int) + 1).toNat = jp + 1 := by omega
          by_cases hlv : cf x y < 0
          · go_wp2_with fail
            go_quiet (first | (go_at_fn g; refine Calls.quiet_of (hc _)))
            go_wp2_with fail
            have HL3 : Hid (Lay e w (wr.drewN nq) blk off (rot h (jp + 1) i (i + 1)) N) := HL2.out.drewN nq
            have cj2 : (wr.drewN nq).cell? ⟨blk, off + (jp + 1), none⟩ = some (.int .i64 (e x)) := cj
            have cp2 : (wr.drewN nq).cell? ⟨blk, off + jp, none⟩ = some (.int .i64 (e y)) := cp
            have fj2 : (wr.drewN nq).frozen? ⟨blk, off + (jp + 1), none⟩ = false := fj
            have fp2 : (wr.drewN nq).frozen? ⟨blk, off + jp, none⟩ = false := fp
            clear cj cp fj fp hc HL2 HK OUT
            generalize wr.drewN nq = wq2 at HL3 cj2 cp2 fj2 fp2 ⊢
            obtain ⟨j1, hj1⟩ : ∃ j1, j1 = jp + 1 := ⟨_, rfl⟩
            rw [← hj1] at cj2 fj2 e0
            have J1 : Hid (j1 = jp + 1) := hj1
            clear hj1
            go_region
            all_goals go_wp2
            all_goals go_roundw
            case rel =>
              refine ⟨jp, by first | rfl | go_num, by omega, by omega, ?_, (show Hid _ from fun _ => Or.inl (HCI.out.1 (by rw [HXX.out, HYY.out]; exact hlv)))⟩
              show Lay e _ _ _ _ _ _
              have L := HL3.out.swp (i := jp + 1) (j := jp) (by omega) (by omega)
              have D : swp (rot h (jp + 1) i (i + 1)) (jp + 1) jp = rot h jp i (i + 1) := down_step (f := h) (k := jp + 1) (m := i) (by omega) (by omega)
              rw [HXI.out, HXP.out, HXX.out, HYY.out, D] at L
              rw [J1.out]
              exact L
            case measure => simp [intOf]
          · go_wp2_with fail
            go_quiet (first | (go_at_fn g; refine Calls.quiet_of (hc _)))
            go_wp2
            go_roundw
            case rel => exact ⟨i + 1, _, by go_num, by omega, by omega, HL2.out.drewN nq, (show Hid _ from Or.inl hlt), OUT.out (fun _ => by
              have q := HLT.out
              have q2 := HCI.out
              rw [HXX.out, HYY.out] at q2
              have q3 : ¬ c x < c y := fun hh => by have := q2.2 hh; omega
              rw [HXX.out, HYY.out] at q
              show Lex c (h jp) (h i)
              rw [HXX.out, HYY.out]
              simp only [Lex]; omega)⟩
            case measure => simp [intOf]; omega
        · have hjad : decide ((j : Int) > (a : Int)) = false := decide_eq_false (by omega)
          have hjaz' : ¬ (a : Int) < (j : Int) := by omega
          go_wp2_with fail
          go_quiet (fail)
          go_wp2
          go_roundw
          case rel => exact ⟨i + 1, _, by go_num, by omega, by omega, HL2.out.drewN nq, (show Hid _ from Or.inl hlt), OUT.out (fun hh => absurd hh hja)⟩
          case measure => simp [intOf]; omega
    · have hlz : ¬ (i : Int) < (b : Int) := by omega
      go_wp2
      go_end0
      refine ⟨rfl, h, HL.out, ?_⟩
      rcases HB.out with hh | hh
      · obtain rfl : i = b := by omega
        exact HU.out
      · obtain ⟨rfl, rfl⟩ := hh
        refine ⟨fun p q _ _ _ => by omega, ?_⟩
        have F := HU.out.2
        refine ⟨fun k hk => ?_, fun k k1 k2 => by omega, fun k k1 k2 => by omega⟩
        by_cases e1 : k = a
        · subst e1
          obtain ⟨i', i1, i2, e'⟩ := F.2.1 k (Nat.le_refl _) (by omega)
          rw [e']; congr 1; omega
        · exact F.1 k (by omega)
end Go.Proofs.Ytgenmljnhlcpcaa

/- The stable sort of at most ten numbers that the call owns, by a function value that reads: rank by rank. -/
namespace Go.Proofs.Ytgenmljnhlcpcaa
open Go.RowKit
open MSym MSg
namespace MSg
theorem ar_row (f : Nat → Nat) (n : Nat) : ar f n = (row id f n).toArray := by
  apply Array.ext_getElem?
  intro k
  by_cases hk : k < n
  · simp [ar, row, hk]
  · simp [ar, row, hk]
theorem row_id (n : Nat) : row id id n = List.range n := by simp [row]
/-- the labels' row -/
theorem iv_lv (e : Nat → Int) (T : List Nat) : M4.iv (T.map e) = T.map (lv e) := by
  simp only [M4.iv, List.map_map]; rfl
theorem Lay.only {e : Nat → Int} {w wr : World} {blk off N : Nat} {h : Nat → Nat} (l : Lay e w wr blk off h N) : wr.os = w.os ∧ wr.tape = w.tape ∧ wr.output = w.output ∧ wr.heap.size = w.heap.size ∧ ∀ k, k ≠ blk → wr.heap[k]? = w.heap[k]? := by
  obtain ⟨q, rfl⟩ := l
  refine ⟨rfl, rfl, rfl, ?_, fun k hk => ?_⟩
  · show (Sort.putRow (lv e) w blk off (ar h N)).heap.size = _
    simp [Sort.putRow, Sort.mapBlock]
  · show (Sort.putRow (lv e) w blk off (ar h N)).heap[k]? = _
    simp [Sort.putRow, Sort.mapBlock, Array.getElem?_modify, Ne.symm hk]
theorem Lay.own {e : Nat → Int} {w wr : World} {g N cap base : Nat} {f h : Nat → Nat} (l : Lay e w wr g 0 h N) (ho : w.ownsRow base 3 1 (.slice (some ⟨g, 0, none⟩) N cap) N (M4.iv ((row id f N).map e))) : wr.ownsRow base 3 1 (.slice (some ⟨g, 0, none⟩) N cap) N (M4.iv ((row id h N).map e)) := by
  obtain ⟨q, rfl⟩ := l
  rw [iv_lv] at ho ⊢
  have := Lib.ownsRow_putRow (q := 0) (k := N) (ys := row id h N) ho (row_len _ _ _) (Nat.le_refl _)
  rw [List.take_of_length_le (by rw [row_len]; exact Nat.le_refl _), ← ar_row] at this
  exact this
/-- The function value answers cf of any two of the row, and only reads, while all blocks but the row's are as they were. -/
def Reads (w : World) (g : Nat) (zs : List Int) (fn : Nat) (cb : Array Value) (cf : Int → Int → Int) : Prop :=
  ∀ wr : World, wr.os = w.os → wr.tape = w.tape → wr.output = w.output → wr.heap.size = w.heap.size → (∀ k, k ≠ g → wr.heap[k]? = w.heap[k]?) → ∀ x y, x ∈ zs → y ∈ zs → Calls Try.prog fn (#[.int .i64 x, .int .i64 y] ++ cb) wr fun e w' => e = .returned (.int .i64 (cf x y)) ∧ ∃ q, w' = wr.drewN q
end MSg
set_option linter.unusedSimpArgs false in
set_option maxHeartbeats 3200000 in
set_option maxRecDepth 1000000 in
theorem stableG_any (e : Nat → Int) (blk off cap N g : Nat) (cb : Array Value) (c : Nat → Nat) (cf : Nat → Nat → Int) (w : World) (hH : Sort.Holds (lv e) w blk off (ar id N)) (eg : ∀ args w, (callFunc g args).run Try.prog w = .ok (.enter g args) w) (hC : Cmps e w blk off N g cb cf) (hcf : ∀ x y, cf x y < 0 ↔ c x < c y) (hN : N ≤ 10) :
    Calls Try.prog 74 #[.slice (some ⟨blk, off, none⟩) N cap, .int .i64 N, .func (.func g) #[] cb] w fun ex w' => ex = .returned (.tuple #[]) ∧ ∃ h, Lay e w w' blk off h N ∧ Up (Lex c) h 0 N ∧ From h id 0 N := by
  have h20z : ¬ (20 : Int) ≤ (N : Int) := by omega
  have h21z : ¬ (20 : Int) < (N : Int) := by omega
  have I1 : Hid _ := insSortG_any e blk off cap N 0 N g cb c cf id w hH eg hC hcf (fun k hk => hk) (fun i j _ h _ => h) (by omega) (Nat.le_refl _) (by omega)
  clear hH hC hcf
  go_enter Try.func74, Try.ntmps74
  go_wp2
  go_loopw [7, 8] (fun av bv wr => av = .int .i64 0 ∧ bv = .int .i64 20 ∧ wr = w) (fun _ _ _ => 0)
  case atStart => exact ⟨rfl, rfl, rfl⟩
  case round =>
    obtain ⟨rfl, rfl, rfl⟩ := hrel
    go_wp2_with fail
    refine Calls.mono I1.out ?_
    rintro ex w1 ⟨rfl, hF⟩
    have HF : Hid _ := hF
    clear I1 hF
    go_wp2
    go_loopw [6, 7, 8, 9] (fun sv _ _ _ wr => sv = .int .i64 20 ∧ wr = w1) (fun _ _ _ _ _ => 0)
    case atStart => exact ⟨rfl, rfl⟩
    case round =>
      obtain ⟨rfl, rfl⟩ := hrel
      go_wp2
      go_end0
      exact ⟨rfl, HF.out⟩
set_option linter.unusedSimpArgs false in
set_option maxHeartbeats 1600000 in
set_option maxRecDepth 100000 in
theorem sortG_any (g cap base : Nat) (zs : List Int) (r : Int → Nat) (m fn : Nat) (cb : Array Value) (cf : Int → Int → Int) (w : World) (hl : zs.length ≤ 10) (ho : w.ownsRow base 3 1 (.slice (some ⟨g, 0, none⟩) zs.length cap) zs.length (M4.iv zs)) (eg : ∀ args w, (callFunc fn args).run Try.prog w = .ok (.enter fn args) w) (hC : Reads w g zs fn cb cf) (hcf : ∀ x y, cf x y < 0 ↔ r x < r y) (hm : ∀ z, z ∈ zs → r z < m) :
    Calls Try.prog 57 #[.slice (some ⟨g, 0, none⟩) zs.length cap, .func (.func fn) #[] cb] w fun e w' => e = .returned (.tuple #[]) ∧ w'.ownsRow base 3 1 (.slice (some ⟨g, 0, none⟩) zs.length cap) zs.length (M4.iv (JD.srt r zs m)) ∧ w'.os = w.os ∧ w'.tape = w.tape ∧ w'.output = w.output ∧ w'.heap.size = w.heap.size ∧ ∀ k, k ≠ g → w'.heap[k]? = w.heap[k]? := by
  have hrow : (row id id zs.length).map (fun k => zs.getD k 0) = zs := by rw [row_id]; exact JD.range_get zs
  have ho2 : w.ownsRow base 3 1 (.slice (some ⟨g, 0, none⟩) zs.length cap) zs.length (M4.iv ((row id id zs.length).map (fun k => zs.getD k 0))) := by rw [hrow]; exact ho
  have hH : Sort.Holds (lv (fun k => zs.getD k 0)) w g 0 (ar id zs.length) := by
    have h2 := ho2
    rw [iv_lv] at h2
    obtain ⟨g', cap', e, _, _, _, _, _, hh⟩ := Lib.holds_of_ownsRow h2 (by simp)
    simp only [Value.slice.injEq, Option.some.injEq, Addr.mk.injEq, and_true] at e
    obtain ⟨rfl, -⟩ := e
    rw [ar_row]; exact hh
  have hmem : ∀ x, x < zs.length → zs.getD x 0 ∈ zs := fun x hx => by rw [List.getD_eq_getElem?_getD, List.getElem?_eq_getElem hx]; exact List.getElem_mem hx
  have hC2 : Cmps (fun k => zs.getD k 0) w g 0 zs.length fn cb (fun x y => cf (zs.getD x 0) (zs.getD y 0)) := by
    intro wr h l x y hx hy n
    obtain ⟨b1, b2, b3, b4, b5⟩ := l.only
    exact hC (wr.drewN n) b1 b2 b3 b4 b5 _ _ (hmem x hx) (hmem y hy)
  have ST : Hid _ := stableG_any (fun k => zs.getD k 0) g 0 cap zs.length fn cb (fun k => r (zs.getD k 0)) _ w hH eg hC2 (fun x y => hcf _ _) hl
  have FIN : Hid (∀ h w', Lay (fun k => zs.getD k 0) w w' g 0 h zs.length → Up (Lex (fun k => r (zs.getD k 0))) h 0 zs.length → From h id 0 zs.length → w'.ownsRow base 3 1 (.slice (some ⟨g, 0, none⟩) zs.length cap) zs.length (M4.iv (JD.srt r zs m)) ∧ w'.os = w.os ∧ w'.tape = w.tape ∧ w'.output = w.output ∧ w'.heap.size = w.heap.size ∧ ∀ k, k ≠ g → w'.heap[k]? = w.heap[k]?) := fun h w' l u fr => by
    have s := sorted (c := fun k => r (zs.getD k 0)) (m := m) (fun x hx => hm _ (hmem x hx)) u fr
    have o := l.own ho2
    rw [s, JD.srt_is] at o
    exact ⟨o, l.only⟩
  clear hH hC hC2 ho ho2 hcf hm hmem hrow
  go_enter Try.func57, Try.ntmps57
  go_wp2_with fail
  refine Calls.mono ST.out ?_
  rintro e w1 ⟨rfl, h, l, u, fr⟩
  have F1 : Hid _ := FIN.out h w1 l u fr
  clear ST FIN l u fr
  go_wp2
  go_end0
  exact ⟨rfl, F1.out⟩
set_option linter.unusedSimpArgs false in
set_option maxHeartbeats 1600000 in
set_option maxRecDepth 100000 in
theorem sortG_nil (fn : Nat) (cb : Array Value) (w : World) :
    Calls Try.prog 57 #[.slice none 0 0, .func (.func fn) #[] cb] w fun e w' => e = .returned (.tuple #[]) ∧ w = w' := by
  have I1 : Hid (∀ W : World, Calls Try.prog 81 #[.slice none 0 0, .int .i64 0, .int .i64 0, .func (.func fn) #[] cb] W fun e w' => e = .returned (.tuple #[]) ∧ W = w') := fun W => by
    go_enter Try.func81, Try.ntmps81
    go_wp2
    go_loopw [8] (fun iv wr => iv = .int .i64 1 ∧ W = wr) (fun _ _ => 0)
    case atStart => exact ⟨rfl, rfl⟩
    case round =>
      obtain ⟨rfl, rfl⟩ := hrel
      go_wp2
      go_end0
      exact ⟨rfl, rfl⟩
  have I2 : Hid (∀ W : World, Calls Try.prog 74 #[.slice none 0 0, .int .i64 0, .func (.func fn) #[] cb] W fun e w' => e = .returned (.tuple #[]) ∧ W = w') := fun W => by
    go_enter Try.func74, Try.ntmps74
    go_wp2
    go_loopw [7, 8] (fun av bv wr => av = .int .i64 0 ∧ bv = .int .i64 20 ∧ wr = W) (fun _ _ _ => 0)
    case atStart => exact ⟨rfl, rfl, rfl⟩
    case round =>
      obtain ⟨rfl, rfl, rfl⟩ := hrel
      go_wp2_with fail
      refine Calls.mono (I1.out _) ?_
      rintro ex w1 ⟨rfl, rfl⟩
      clear I1
      go_wp2
      go_loopw [6, 7, 8, 9] (fun sv _ _ _ wr2 => sv = .int .i64 20 ∧ wr2 = wr) (fun _ _ _ _ _ => 0)
      case atStart => exact ⟨rfl, rfl⟩
      case round =>
        obtain ⟨rfl, rfl⟩ := hrel
        go_wp2
        go_end0
        exact ⟨rfl, rfl⟩
  clear I1
  go_enter Try.func57, Try.ntmps57
  go_wp2_with fail
  refine Calls.mono (I2.out _) ?_
  rintro e w1 ⟨rfl, rfl⟩
  clear I2
  go_wp2
  go_end0
  exact ⟨rfl, rfl⟩
end Go.Proofs.Ytgenmljnhlcpcaa
