import Derived.Test.YtdglialjcibbbaaRows
import Derived.Test.YtdglialjcibbbaaMSym
import Derived.WalkKit
import Derived.WalkSpells
import Derived.WalkLawsBesides
import Derived.Outline
import Derived.Sort.WalkB12
import Derived.Sort.WalkC
import Derived.BigRegion
import Derived.Deep.QuietTactic
import Derived.BigQuiet
import Derived.Shelf.Abstract
/- Two blocks of a row of numbers change places (the stable sort's swapRange). -/
namespace Go.Proofs.Ytdglialjcibbbaa
open Go.RowKit
namespace MSym
def ar (f : Nat → Nat) (n : Nat) : Array Nat := Array.ofFn (fun k : Fin n => f k)
def nv (x : Nat) : Value := .int .i64 x
theorem ar_size (f : Nat → Nat) (n : Nat) : (ar f n).size = n := by simp [ar]
theorem ar_at (f : Nat → Nat) {n k : Nat} (h : k < n) : (ar f n)[k]! = f k := by
  simp [ar, h]
theorem ar_swp (f : Nat → Nat) {n i j : Nat} (hi : i < n) (hj : j < n) :
    Sort.swp (ar f n) i j = ar (swp f i j) n := by
  have hs : ∀ (k : Nat), (ar f n)[k]? = if k < n then some (f k) else none := by
    intro k; simp [ar, Array.getElem?_ofFn]
  have hs2 : ∀ (k : Nat), (ar (swp f i j) n)[k]? = if k < n then some (swp f i j k) else none := by
    intro k; simp [ar, Array.getElem?_ofFn]
  apply Array.ext_getElem?
  intro k
  rw [hs2, Sort.swp, ar_at f hi, ar_at f hj, Array.getElem?_setIfInBounds, Array.getElem?_setIfInBounds, hs]
  simp only [Array.size_setIfInBounds, ar_size, swp]
  by_cases e1 : j = k
  · subst e1
    by_cases e2 : j = i
    · subst e2; simp [hj]
    · simp [hj, e2]
  · by_cases e2 : i = k
    · subst e2; simp [e1, hi]
    · simp [e1, e2, Ne.symm e1, Ne.symm e2]
end MSym
open MSym
set_option linter.unusedSimpArgs false in
set_option maxHeartbeats 1600000 in
set_option maxRecDepth 1000000 in
theorem swapRange_any (blk off cap N a b m : Nat) (f : Nat → Nat) (fv : Value) (w : World) (hH : Sort.Holds nv w blk off (ar f N)) (hd : a + m ≤ b) (hb : b + m ≤ N) (hN : N ≤ 1000) :
    Calls Try.prog 94 #[.slice (some ⟨blk, off, none⟩) N cap, .int .i64 a, .int .i64 b, .int .i64 m, fv] w fun e w' => e = .returned (.tuple #[]) ∧ ∃ q, w' = (Sort.putRow nv w blk off (ar (swr f a b m) N)).drewN q := by
  have HH : Hid (Sort.Holds nv w blk off (ar f N)) := hH
  have HST : Hid (w = (Sort.putRow nv w blk off (ar (swr f a b 0) N)).drewN 0) := by
    show _ = _
    rw [swr_zero]; exact (Sort.putRow_self nv w blk off _ hH).symm
  clear hH
  go_enter Try.func94, Try.ntmps94
  go_wp2
  go_loopw [10] (fun iv wr => ∃ i q : Nat, iv = .int .i64 i ∧ i ≤ m ∧ wr = (Sort.putRow nv w blk off (ar (swr f a b i) N)).drewN q) (fun iv _ => (m - intOf iv).toNat)
  case atStart => exact ⟨0, 0, rfl, by omega, HST.out⟩
  case round =>
    obtain ⟨i, q, rfl, hi, hwr⟩ := hrel
    clear HST
    by_cases hlt : i < m
    · have hHj := Sort.holds_putRow nv w blk off (ar f N) (ar (swr f a b i) N) HH.out (by simp [ar_size])
      obtain ⟨cj, fj⟩ := hHj (a + i) (by rw [ar_size]; omega)
      obtain ⟨cp, fp⟩ := hHj (b + i) (by rw [ar_size]; omega)
      rw [ar_at _ (by omega)] at cj cp
      obtain ⟨x, hx⟩ : ∃ x, swr f a b i (a + i) = x := ⟨_, rfl⟩
      obtain ⟨y, hy⟩ : ∃ y, swr f a b i (b + i) = y := ⟨_, rfl⟩
      rw [hx] at cj
      rw [hy] at cp
      have cj' : wr.cell? ⟨blk, off + (a + i), none⟩ = some (.int .i64 (x : Int)) := by rw [hwr]; exact cj
      have cp' : wr.cell? ⟨blk, off + (b + i), none⟩ = some (.int .i64 (y : Int)) := by rw [hwr]; exact cp
      have fj' : wr.frozen? ⟨blk, off + (a + i), none⟩ = false := by rw [hwr]; exact fj
      have fp' : wr.frozen? ⟨blk, off + (b + i), none⟩ = false := by rw [hwr]; exact fp
      have HX : Hid (swr f a b i (a + i) = x) := hx
      have HY : Hid (swr f a b i (b + i) = y) := hy
      have HW : Hid _ := hwr
      clear cj cp fj fp hHj hx hy hwr HH
      obtain ⟨p, hp⟩ : ∃ p, p = a + i := ⟨_, rfl⟩
      obtain ⟨r, hr⟩ : ∃ r, r = b + i := ⟨_, rfl⟩
      rw [← hp] at cj' fj'
      rw [← hr] at cp' fp'
      have ep : ((a : Int) + (i : Int)).toNat = p := by omega
      have er : ((b : Int) + (i : Int)).toNat = r := by omega
      have bp : (a : Int) + (i : Int) < (N : Int) := by omega
      have br : (b : Int) + (i : Int) < (N : Int) := by omega
      have p0 : (0 : Int) ≤ (a : Int) + (i : Int) := by omega
      have r0 : (0 : Int) ≤ (b : Int) + (i : Int) := by omega
      have wp : IntKind.i64.wrap ((a : Int) + (i : Int)) = (a : Int) + (i : Int) := by rw [IntKind.wrap_i64]; omega
      have wr_ : IntKind.i64.wrap ((b : Int) + (i : Int)) = (b : Int) + (i : Int) := by rw [IntKind.wrap_i64]; omega
      have hlz : (i : Int) < (m : Int) := by omega
      have HP : Hid (p = a + i) := hp
      have HR : Hid (r = b + i) := hr
      clear hp hr
      go_wp2_with fail
      go_region
      all_goals go_wp2
      all_goals go_roundw
      case rel =>
        refine ⟨i + 1, q + 1, by go_num, by omega, ?_⟩
        have e := swap_worldC nv w blk off (ar (swr f a b i) N) q (a + i) (b + i) (by rw [ar_size]; omega) (by rw [ar_size]; omega)
        rw [ar_at _ (by omega), ar_at _ (by omega), HX.out, HY.out, ar_swp _ (by omega) (by omega), swr_step (n := m) hd hlt] at e
        rw [← e, HW.out, HP.out, HR.out]
        rfl
      case measure => simp [intOf]; omega
    · have hlz : ¬ (i : Int) < (m : Int) := by omega
      have e : i = m := by omega
      subst e
      go_wp2
      go_end0
      exact ⟨rfl, q, rfl⟩
end Go.Proofs.Ytdglialjcibbbaa

/- Two neighbouring blocks of a row of numbers change places (the stable sort's rotate). -/
namespace Go.Proofs.Ytdglialjcibbbaa
open Go.RowKit
open MSym
namespace MSym
/-- wr is w with the row g laid there, and some draws on -/
def Lay (w wr : World) (blk off : Nat) (g : Nat → Nat) (N : Nat) : Prop :=
  ∃ q, wr = (Sort.putRow nv w blk off (ar g N)).drewN q
theorem Lay.self {w : World} {blk off N : Nat} {f : Nat → Nat} (h : Sort.Holds nv w blk off (ar f N)) : Lay w w blk off f N :=
  ⟨0, (Sort.putRow_self nv w blk off _ h).symm⟩
theorem Lay.holds {w wr : World} {blk off N : Nat} {f g : Nat → Nat} (l : Lay w wr blk off g N) (h : Sort.Holds nv w blk off (ar f N)) :
    Sort.Holds nv wr blk off (ar g N) := by
  obtain ⟨q, rfl⟩ := l
  exact Sort.holds_putRow nv w blk off (ar f N) (ar g N) h (by simp [ar_size])
theorem Lay.trans {w w1 w2 : World} {blk off N : Nat} {g h : Nat → Nat} (l : Lay w w1 blk off g N) (k : Lay w1 w2 blk off h N) :
    Lay w w2 blk off h N := by
  obtain ⟨q, rfl⟩ := l
  obtain ⟨r, rfl⟩ := k
  refine ⟨q + r, ?_⟩
  have e := Sort.putRow_putRow nv w blk off (ar g N) (ar h N) (by simp [ar_size])
  rw [← e, ← World.drewN_drewN]
  rfl
end MSym
set_option linter.unusedSimpArgs false in
set_option maxHeartbeats 1600000 in
set_option maxRecDepth 1000000 in
theorem rotate_any (blk off cap N a m b : Nat) (f : Nat → Nat) (fv : Value) (w : World) (hH : Sort.Holds nv w blk off (ar f N)) (ham : a < m) (hmb : m < b) (hb : b ≤ N) (hN : N ≤ 1000) :
    Calls Try.prog 91 #[.slice (some ⟨blk, off, none⟩) N cap, .int .i64 a, .int .i64 m, .int .i64 b, fv] w fun e w' => e = .returned (.tuple #[]) ∧ Lay w w' blk off (rot f a m b) N := by
  have HH : Hid (Sort.Holds nv w blk off (ar f N)) := hH
  have HST : Hid (Lay w w blk off f N) := Lay.self hH
  clear hH
  have w1 : IntKind.i64.wrap ((m : Int) - (a : Int)) = (m : Int) - (a : Int) := by rw [IntKind.wrap_i64]; omega
  have w2 : IntKind.i64.wrap ((b : Int) - (m : Int)) = (b : Int) - (m : Int) := by rw [IntKind.wrap_i64]; omega
  go_enter Try.func91, Try.ntmps91
  go_wp2
  clear w1 w2
  go_loopw [10, 11] (fun iv jv wr => ∃ (i j : Nat) (g : Nat → Nat), iv = .int .i64 i ∧ jv = .int .i64 j ∧ 0 < i ∧ 0 < j ∧ i ≤ m ∧ m + j ≤ b ∧ Hid (Lay w wr blk off g N) ∧ Hid (rot g (m - i) m (m + j) = rot f a m b)) (fun iv jv _ => (intOf iv + intOf jv).toNat)
  case atStart => exact ⟨m - a, b - m, f, by congr 1; omega, by congr 1; omega, by omega, by omega, by omega, by omega, HST, (show Hid _ from by show _ = _; rw [show m - (m - a) = a by omega, show m + (b - m) = b by omega])⟩
  case round =>
    obtain ⟨i, j, g, rfl, rfl, hi0, hj0, him, hjb, HL, HE⟩ := hrel
    clear HST
    have x1 : IntKind.i64.wrap ((m : Int) - (i : Int)) = (m : Int) - (i : Int) := by rw [IntKind.wrap_i64]; omega
    by_cases hij : i = j
    · subst hij
      have C : Hid (Calls Try.prog 94 #[.slice (some ⟨blk, off, none⟩) N cap, .int .i64 ((m : Int) - (i : Int)), .int .i64 m, .int .i64 i, fv] wr fun e w' => e = .returned (.tuple #[]) ∧ ∃ q, w' = (Sort.putRow nv wr blk off (ar (swr g (m - i) m i) N)).drewN q) := by
        show Calls _ _ _ _ _
        have e : (m : Int) - (i : Int) = ((m - i : Nat) : Int) := by omega
        rw [e]
        exact swapRange_any blk off cap N (m - i) m i g fv wr (HL.out.holds HH.out) (by omega) (by omega) hN
      go_wp2_with fail
      refine Calls.mono C.out ?_
      rintro e w3 ⟨rfl, k⟩
      go_wp2
      go_end0
      refine ⟨rfl, ?_⟩
      have := HL.out.trans k
      rw [rot_even him, HE.out] at this
      exact this
    · have hne : ¬ (i : Int) = (j : Int) := by omega
      by_cases hgt : j < i
      · have hgz : (j : Int) < (i : Int) := by omega
        have x2 : IntKind.i64.wrap ((i : Int) - (j : Int)) = (i : Int) - (j : Int) := by rw [IntKind.wrap_i64]; omega
        have C : Hid (Calls Try.prog 94 #[.slice (some ⟨blk, off, none⟩) N cap, .int .i64 ((m : Int) - (i : Int)), .int .i64 m, .int .i64 j, fv] wr fun e w' => e = .returned (.tuple #[]) ∧ ∃ q, w' = (Sort.putRow nv wr blk off (ar (swr g (m - i) m j) N)).drewN q) := by
          show Calls _ _ _ _ _
          have e : (m : Int) - (i : Int) = ((m - i : Nat) : Int) := by omega
          rw [e]
          exact swapRange_any blk off cap N (m - i) m j g fv wr (HL.out.holds HH.out) (by omega) (by omega) hN
        go_wp2_with fail
        refine Calls.mono C.out ?_
        rintro e w3 ⟨rfl, k⟩
        have HL3 : Hid (Lay w w3 blk off (swr g (m - i) m j) N) := HL.out.trans k
        clear k C HL
        go_wp2
        go_roundw
        case rel => exact ⟨i - j, j, _, by congr 1; omega, rfl, by omega, hj0, by omega, hjb, HL3, (show Hid _ from by show _ = _; rw [rot_more him hgt]; exact HE.out)⟩
        case measure => simp [intOf]; omega
      · have hgz : ¬ (j : Int) < (i : Int) := by omega
        have x2 : IntKind.i64.wrap ((j : Int) - (i : Int)) = (j : Int) - (i : Int) := by rw [IntKind.wrap_i64]; omega
        have x3 : IntKind.i64.wrap ((m : Int) + (j : Int)) = (m : Int) + (j : Int) := by rw [IntKind.wrap_i64]; omega
        have x4 : IntKind.i64.wrap ((m : Int) + (j : Int) - (i : Int)) = (m : Int) + (j : Int) - (i : Int) := by rw [IntKind.wrap_i64]; omega
        have C : Hid (Calls Try.prog 94 #[.slice (some ⟨blk, off, none⟩) N cap, .int .i64 ((m : Int) - (i : Int)), .int .i64 ((m : Int) + (j : Int) - (i : Int)), .int .i64 i, fv] wr fun e w' => e = .returned (.tuple #[]) ∧ ∃ q, w' = (Sort.putRow nv wr blk off (ar (swr g (m - i) (m + j - i) i) N)).drewN q) := by
          show Calls _ _ _ _ _
          have e : (m : Int) - (i : Int) = ((m - i : Nat) : Int) := by omega
          have e2 : (m : Int) + (j : Int) - (i : Int) = ((m + j - i : Nat) : Int) := by omega
          rw [e, e2]
          exact swapRange_any blk off cap N (m - i) (m + j - i) i g fv wr (HL.out.holds HH.out) (by omega) (by omega) hN
        go_wp2_with fail
        refine Calls.mono C.out ?_
        rintro e w3 ⟨rfl, k⟩
        have HL3 : Hid (Lay w w3 blk off (swr g (m - i) (m + j - i) i) N) := HL.out.trans k
        clear k C HL
        go_wp2
        go_roundw
        case rel => exact ⟨i, j - i, _, rfl, by congr 1; omega, hi0, by omega, him, by omega, HL3, (show Hid _ from by show _ = _; rw [rot_less him (by omega)]; exact HE.out)⟩
        case measure => simp [intOf]; omega
end Go.Proofs.Ytdglialjcibbbaa

/- The stable sort's insertion sort of a row of numbers, by a function value that reads. -/
namespace Go.Proofs.Ytdglialjcibbbaa
open Go.RowKit
open MSym
namespace MSym
/-- the function value answers cf, in every world of the sort's; it reads, and may draw -/
def Cmps (w : World) (blk off N g : Nat) (cb : Array Value) (cf : Nat → Nat → Int) : Prop :=
  ∀ wr h, Lay w wr blk off h N → ∀ x y, x < N → y < N → ∀ n, Calls Try.prog g (#[.int .i64 (x : Int), .int .i64 (y : Int)] ++ cb) (wr.drewN n) fun e w' => e = .returned (.int .i64 (cf x y)) ∧ ∃ q, w' = (wr.drewN n).drewN q
theorem Lay.drewN {w wr : World} {blk off N : Nat} {h : Nat → Nat} (l : Lay w wr blk off h N) (n : Nat) : Lay w (wr.drewN n) blk off h N := by
  obtain ⟨q, rfl⟩ := l
  exact ⟨q + n, World.drewN_drewN _ _ _⟩
theorem Lay.cell {w wr : World} {blk off N k : Nat} {f h : Nat → Nat} (l : Lay w wr blk off h N) (hH : Sort.Holds nv w blk off (ar f N)) (hk : k < N) :
    wr.cell? ⟨blk, off + k, none⟩ = some (.int .i64 (h k : Int)) ∧ wr.frozen? ⟨blk, off + k, none⟩ = false := by
  have := l.holds hH k (by rw [ar_size]; exact hk)
  rw [ar_at _ hk] at this
  exact this
theorem Lay.swp {w wr : World} {blk off N i j : Nat} {h : Nat → Nat} (l : Lay w wr blk off h N) (hi : i < N) (hj : j < N) :
    Lay w ((wr.setCell ⟨blk, off + i, none⟩ (.int .i64 (h j : Int))).setCell ⟨blk, off + j, none⟩ (.int .i64 (h i : Int))).drew blk off (MSym.swp h i j) N := by
  obtain ⟨q, rfl⟩ := l
  have e := swap_worldC nv w blk off (ar h N) q i j (by rw [ar_size]; exact hi) (by rw [ar_size]; exact hj)
  rw [ar_at _ hi, ar_at _ hj, ar_swp _ hi hj] at e
  exact ⟨q + 1, e⟩
end MSym
set_option linter.unusedSimpArgs false in
set_option maxHeartbeats 3200000 in
set_option maxRecDepth 1000000 in
theorem insSort_any (blk off cap N a b g : Nat) (cb : Array Value) (c : Nat → Nat) (cf : Nat → Nat → Int) (f : Nat → Nat) (w : World) (hH : Sort.Holds nv w blk off (ar f N)) (eg : ∀ args w, (callFunc g args).run Try.prog w = .ok (.enter g args) w) (hC : Cmps w blk off N g cb cf) (hcf : ∀ x y, cf x y < 0 ↔ c x < c y) (hv : ∀ k, k < N → f k < N) (hX : Up (· < ·) f a b) (hab : a ≤ b) (hb : b ≤ N) (hN : N ≤ 1000) :
    Calls Try.prog 83 #[.slice (some ⟨blk, off, none⟩) N cap, .int .i64 a, .int .i64 b, .func (.func g) #[] cb] w fun e w' => e = .returned (.tuple #[]) ∧ ∃ h, Lay w w' blk off h N ∧ Up (Lex c) h a b ∧ From h f a b := by
  have HH : Hid (Sort.Holds nv w blk off (ar f N)) := hH
  have HST : Hid (Lay w w blk off f N) := Lay.self hH
  have HC : Aside _ := hC
  have HV : Aside _ := hv
  have HX : Aside _ := hX
  have HCF : Aside _ := hcf
  clear hH hC hv hX hcf
  go_enter Try.func83, Try.ntmps83
  go_wp2
  go_loopw [8] (fun iv wr => ∃ (i : Nat) (h : Nat → Nat), iv = .int .i64 i ∧ a < i ∧ i ≤ b + 1 ∧ Hid (Lay w wr blk off h N) ∧ Hid (i ≤ b ∨ a = b ∧ i = b + 1) ∧ Hid (Up (Lex c) h a i ∧ From h f a i)) (fun iv _ => (b + 1 - intOf iv).toNat)
  case atStart => exact ⟨a + 1, f, by go_num, by omega, by omega, HST, (show Hid _ from by show _ ∨ _; omega), (show Hid _ from ⟨fun p q _ _ _ => by omega, From.refl _ _ _⟩)⟩
  case round =>
    clear HST
    obtain ⟨i, h, rfl, hai, hib, HL, HB, HU⟩ := hrel
    by_cases hlt : i < b
    · have hlz : (i : Int) < (b : Int) := by omega
      go_wp2
      go_loopw [9] (fun jv wr2 => ∃ j : Nat, jv = .int .i64 j ∧ a ≤ j ∧ j ≤ i ∧ Hid (Lay w wr2 blk off (rot h j i (i + 1)) N) ∧ Hid (j < i → Lex c (h i) (h j))) (fun jv _ => (intOf jv).toNat)
      case atStart => exact ⟨i, rfl, by omega, Nat.le_refl _, (show Hid _ from by show Lay _ _ _ _ _ _; rw [down_zero]; exact HL.out), (show Hid _ from fun h => absurd h (Nat.lt_irrefl _))⟩
      case round =>
        clear HL
        obtain ⟨j, rfl, haj, hji, HL2, HK⟩ := hrel
        have OUT : Aside ((a < j → Lex c (h (j - 1)) (h i)) → Hid (Up (Lex c) (rot h j i (i + 1)) a (i + 1) ∧ From (rot h j i (i + 1)) f a (i + 1))) := fun k1 => ⟨ins_hi (Lex.tr c) haj hji HU.out.1 k1 HK.out, ((rot_from hji (Nat.le_succ i)).wide haj (Nat.le_refl _)).trans (HU.out.2.wide (Nat.le_refl _) (Nat.le_succ i))⟩
        by_cases hja : a < j
        · obtain ⟨jp, rfl⟩ : ∃ jp, j = jp + 1 := ⟨j - 1, by omega⟩
          have hxi : rot h (jp + 1) i (i + 1) (jp + 1) = h i := by rw [rot_l (Nat.le_refl _) (by omega)]; congr 1; omega
          have hxp : rot h (jp + 1) i (i + 1) jp = h jp := rot_lo (by omega)
          obtain ⟨cj, fj⟩ := HL2.out.cell HH.out (k := jp + 1) (by omega)
          obtain ⟨cp, fp⟩ := HL2.out.cell HH.out (k := jp) (by omega)
          rw [hxi] at cj
          rw [hxp] at cp
          obtain ⟨ip, ip1, ip2, ipe⟩ := HU.out.2.2.1 jp (by omega) (by omega)
          have v1 : h i < N := by rw [HU.out.2.1 i (Or.inr (Nat.le_refl _))]; exact HV.out i (by omega)
          have v2 : h jp < N := by rw [ipe]; exact HV.out ip (by omega)
          have HLT : Hid (h jp < h i) := by
            show _ < _
            rw [ipe, HU.out.2.1 i (Or.inr (Nat.le_refl _))]; exact HX.out ip i ip1 ip2 hlt
          have hc := HC.out _ _ HL2.out (h i) (h jp) v1 v2
          have HCI : Hid (cf (h i) (h jp) < 0 ↔ c (h i) < c (h jp)) := HCF.out _ _
          obtain ⟨x, hx⟩ : ∃ x, h i = x := ⟨_, rfl⟩
          obtain ⟨y, hy⟩ : ∃ y, h jp = y := ⟨_, rfl⟩
          rw [hx] at cj hc
          rw [hy] at cp hc
          have HXX : Hid (h i = x) := hx
          have HYY : Hid (h jp = y) := hy
          have HXI : Hid _ := hxi
          have HXP : Hid _ := hxp
          clear hxi hxp ip1 ip2 ipe v1 v2 hx hy
          have hwp : IntKind.i64.wrap (jp : Int) = (jp : Int) := by rw [IntKind.wrap_i64]; omega
          have jz : (jp : Int) + 1 < (N : Int) := by omega
          have jz1 : (jp : Int) < (N : Int) := by omega
          have hjaz' : (a : Int) < (jp : Int) + 1 := by omega
          have hjad : decide ((jp : Int) + 1 > (a : Int)) = true := decide_eq_true (by omega)
          have p0 : (0 : Int) ≤ (jp : Int) + 1 := by omega
          have e0 : ((jp : Int) + 1).toNat = jp + 1 := by omega
          by_cases hlv : cf x y < 0
          · go_wp2_with fail
            go_quiet (first | (go_at_fn g; refine Calls.quiet_of (hc _)))
            go_wp2_with fail
            have HL3 : Hid (Lay w (wr.drewN nq) blk off (rot h (jp + 1) i (i + 1)) N) := HL2.out.drewN nq
            have cj2 : (wr.drewN nq).cell? ⟨blk, off + (jp + 1), none⟩ = some (.int .i64 (x : Int)) := cj
            have cp2 : (wr.drewN nq).cell? ⟨blk, off + jp, none⟩ = some (.int .i64 (y : Int)) := cp
            have fj2 : (wr.drewN nq).frozen? ⟨blk, off + (jp + 1), none⟩ = false := fj
            have fp2 : (wr.drewN nq).frozen? ⟨blk, off + jp, none⟩ = false := fp
            clear cj cp fj fp hc HL2 HK OUT
            generalize wr.drewN nq = wq2 at HL3 cj2 cp2 fj2 fp2 ⊢
            obtain ⟨j1, hj1⟩ : ∃ j1, j1 = jp + 1 := ⟨_, rfl⟩
            rw [← hj1] at cj2 fj2 e0
            have J1 : Hid (j1 = jp + 1) := hj1
            clear hj1
            go_region
            all_goals go_wp2
            all_goals go_roundw
            case rel =>
              refine ⟨jp, by first | rfl | go_num, by omega, by omega, ?_, (show Hid _ from fun _ => Or.inl (HCI.out.1 (by rw [HXX.out, HYY.out]; exact hlv)))⟩
              show Lay _ _ _ _ _ _
              have L := HL3.out.swp (i := jp + 1) (j := jp) (by omega) (by omega)
              have D : swp (rot h (jp + 1) i (i + 1)) (jp + 1) jp = rot h jp i (i + 1) := down_step (f := h) (k := jp + 1) (m := i) (by omega) (by omega)
              rw [HXI.out, HXP.out, HXX.out, HYY.out, D] at L
              rw [J1.out]
              exact L
            case measure => simp [intOf]
          · go_wp2_with fail
            go_quiet (first | (go_at_fn g; refine Calls.quiet_of (hc _)))
            go_wp2
            go_roundw
            case rel => exact ⟨i + 1, _, by go_num, by omega, by omega, HL2.out.drewN nq, (show Hid _ from Or.inl hlt), OUT.out (fun _ => by
              have q := HLT.out
              have q2 := HCI.out
              rw [HXX.out, HYY.out] at q2
              have q3 : ¬ c x < c y := fun hh => by have := q2.2 hh; omega
              rw [HXX.out, HYY.out] at q
              show Lex c (h jp) (h i)
              rw [HXX.out, HYY.out]
              simp only [Lex]; omega)⟩
            case measure => simp [intOf]; omega
        · have hjad : decide ((j : Int) > (a : Int)) = false := decide_eq_false (by omega)
          have hjaz' : ¬ (a : Int) < (j : Int) := by omega
          go_wp2_with fail
          go_quiet (fail)
          go_wp2
          go_roundw
          case rel => exact ⟨i + 1, _, by go_num, by omega, by omega, HL2.out.drewN nq, (show Hid _ from Or.inl hlt), OUT.out (fun hh => absurd hh hja)⟩
          case measure => simp [intOf]; omega
    · have hlz : ¬ (i : Int) < (b : Int) := by omega
      go_wp2
      go_end0
      refine ⟨rfl, h, HL.out, ?_⟩
      rcases HB.out with hh | hh
      · obtain rfl : i = b := by omega
        exact HU.out
      · obtain ⟨rfl, rfl⟩ := hh
        refine ⟨fun p q _ _ _ => by omega, ?_⟩
        have F := HU.out.2
        refine ⟨fun k hk => ?_, fun k k1 k2 => by omega, fun k k1 k2 => by omega⟩
        by_cases e : k = a
        · subst e
          obtain ⟨i', i1, i2, e'⟩ := F.2.1 k (Nat.le_refl _) (by omega)
          rw [e']; congr 1; omega
        · exact F.1 k (by omega)
end Go.Proofs.Ytdglialjcibbbaa
