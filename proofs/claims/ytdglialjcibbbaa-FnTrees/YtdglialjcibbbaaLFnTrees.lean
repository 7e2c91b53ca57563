import Derived.Test.YtdglialjcibbbaaMFU
import Derived.Test.YtdglialjcibbbaaMPQ
import Derived.Test.YtdglialjcibbbaaRows
import Derived.Test.YtdglialjcibbbaaCHasI
import Derived.WalkKit
import Derived.WalkSpells
import Derived.WalkLawsBesides
import Derived.Outline
import Derived.Test.YtdglialjcibbbaaM4
import Derived.Deep.QuietTactic
import Derived.BigQuiet
import Derived.Test.YtdglialjcibbbaaCKrI
import Derived.Test.YtdglialjcibbbaaCPrimI
import Derived.Test.YtdglialjcibbbaaCPrimS
import Derived.Test.YtdglialjcibbbaaCKrS
import Derived.Test.YtdglialjcibbbaaCPartsI
import Derived.Test.YtdglialjcibbbaaCPathK
import Derived.Test.YtdglialjcibbbaaCSort
import Derived.Test.YtdglialjcibbbaaCEdgeE
import Derived.Maps.AppendAt
/- Prim's tree is Kruskal's. -/
namespace Go.Proofs.Ytdglialjcibbbaa
open Go.RowKit
namespace EG
theorem prim_kru (xs : List I3) : primL xs = kruL xs := by
  by_cases h : okP xs = true
  · have s := kru_srt h
    have p : (tks (outer xs 8).2).Perm (tks (krT xs (krO xs))) := ((List.perm_ext_iff_of_nodup (outer_nodup xs 8 (Nat.le_refl _) h).nd (krO_kt xs).nd).2 (fun k => same_edges h k)).map _
    unfold primL
    rw [if_pos h]
    exact sort_unique (p.trans s.pm.symm) s.so
  · unfold primL kruL; rw [if_neg h, if_neg h]
theorem prim_cost (xs : List I3) : primC xs = kruC xs := by unfold primC kruC; rw [prim_kru]
end EG
end Go.Proofs.Ytdglialjcibbbaa

/- The way in the tree between the ends of an edge: plain facts for FnTrees. -/
namespace Go.Proofs.Ytdglialjcibbbaa
open Go.RowKit
namespace EG
theorem wk_snoc {en : Nat → Nat × Nat} {S : Nat → Prop} {k c b : Nat} : ∀ (p : List Nat) (came : Option Nat) (a : Nat), Wk en S p came a c → S k → some k ≠ lst p came → jn (en k) c = some b → Wk en S (p ++ [k]) came a b
  | [], came, a, h, hs, hn, hj => by cases h; exact ⟨hs, hn, b, hj, rfl⟩
  | j :: p, came, a, h, hs, hn, hj => by
    obtain ⟨h1, h2, d, h3, h4⟩ := h
    exact ⟨h1, h2, d, h3, wk_snoc p (some j) d h4 hs hn hj⟩
theorem lst_snoc : ∀ (p : List Nat) (came : Option Nat) (k : Nat), lst (p ++ [k]) came = some k
  | [], _, _ => rfl
  | j :: p, _, k => lst_snoc p (some j) k
theorem lst_some : ∀ (p : List Nat) (k : Nat), lst p none = some k → ∃ q, p = q ++ [k] := fun p k h => by
  rcases List.eq_nil_or_concat p with rfl | ⟨q, j, rfl⟩
  · cases h
  · rw [List.concat_eq_append, lst_snoc] at h
    cases h; exact ⟨q, by rw [List.concat_eq_append]⟩
theorem wk_step {en : Nat → Nat × Nat} {S : Nat → Prop} {a x y k : Nat} (hs : S k) (hj : jn (en k) x = some y) (h : ∃ ks, Wk en S ks none a x) : ∃ ks, Wk en S ks none a y := by
  obtain ⟨ks, hw⟩ := h
  by_cases e : some k = lst ks none
  · obtain ⟨q, rfl⟩ := lst_some ks k e.symm
    obtain ⟨z, h1, h2⟩ := wk_app q [k] none a x hw
    obtain ⟨h3, h4, c, h5, h6⟩ := h2
    have h6' : c = x := h6
    subst h6'
    have : z = y := by rcases jn_is hj with ⟨e1, e2⟩ | ⟨e1, e2⟩ <;> rcases jn_is h5 with ⟨f1, f2⟩ | ⟨f1, f2⟩ <;> omega
    exact ⟨q, this ▸ h1⟩
  · exact ⟨ks ++ [k], wk_snoc ks none a hw hs e hj⟩
open Classical in
theorem cn_wk {en : Nat → Nat × Nat} {S : Nat → Prop} {a b : Nat} (h : Cn en S a b) : ∃ ks, Wk en S ks none a b := by
  have := h (fun n => if ∃ ks, Wk en S ks none a n then 1 else 0) (fun k hk => by
    have j1 : jn (en k) (en k).1 = some (en k).2 := by simp [jn]
    have j2 : jn (en k) (en k).2 = some (en k).1 := by
      unfold jn; split
      · rename_i e; rw [e]
      · simp
    have : (∃ ks, Wk en S ks none a (en k).1) ↔ (∃ ks, Wk en S ks none a (en k).2) := ⟨wk_step hk j1, wk_step hk j2⟩
    simp only [this])
  replace this : (if ∃ ks, Wk en S ks none a a then 1 else 0) = (if ∃ ks, Wk en S ks none a b then 1 else 0) := this
  rw [if_pos ⟨[], rfl⟩] at this
  by_cases e : ∃ ks, Wk en S ks none a b
  · exact e
  · rw [if_neg e] at this; cases this
theorem pthL_some {en : Nat → Nat × Nat} {rec : Nat → Nat → Option (List Int)} {came : Option Nat} {a c k : Nat} (hj : jn (en k) a = some c) (hn : some k ≠ came) (hr : rec k c ≠ none) : ∀ (os : List Int), (k : Int) ∈ os → pthL en rec came a os ≠ none
  | [], h => by cases h
  | z :: os, h => by
    rw [pthL]
    by_cases e : (k : Int) = z
    · subst e
      simp only [Int.toNat_natCast, hj, if_neg hn]
      cases hx : rec k c with
      | none => exact absurd hx hr
      | some r => simp
    · have ih := pthL_some hj hn hr os ((List.mem_cons.1 h).resolve_left e)
      cases hx : jn (en z.toNat) a with
      | none => exact ih
      | some d =>
        show (if some z.toNat = came then _ else _) ≠ none
        split
        · exact ih
        · cases hy : rec z.toNat d with
          | none => exact ih
          | some r => simp
theorem pth_some {en : Nat → Nat × Nat} {os : List Int} {b : Nat} : ∀ (f : Nat) (ks : List Nat) (came : Option Nat) (a : Nat), Wk en (SS os) ks came a b → ks.length < f → pth en os b f came a ≠ none
  | 0, ks, came, a, h, hl => by omega
  | f + 1, ks, came, a, h, hl => by
    rw [pth]
    split
    · simp
    · rename_i hne
      cases ks with
      | nil => exact absurd h hne
      | cons k ks =>
        obtain ⟨h1, h2, c, h3, h4⟩ := h
        exact pthL_some h3 h2 (pth_some f ks (some k) c h4 (by simp at hl; omega)) os h1
theorem pthL_wk {en : Nat → Nat × Nat} {rec : Nat → Nat → Option (List Int)} {S : Nat → Prop} {came : Option Nat} {a b : Nat} (hr : ∀ k c r, rec k c = some r → Wk en S (nat r) (some k) c b) : ∀ (os : List Int), (∀ z, z ∈ os → S z.toNat) → ∀ r, pthL en rec came a os = some r → Wk en S (nat r) came a b
  | [], _, r, h => by cases h
  | z :: os, hS, r, h => by
    rw [pthL] at h
    have ih := pthL_wk (came := came) (a := a) hr os (fun y hy => hS y (List.mem_cons_of_mem _ hy))
    cases hx : jn (en z.toNat) a with
    | none => rw [hx] at h; exact ih r h
    | some d =>
      rw [hx] at h
      replace h : (if some z.toNat = came then pthL en rec came a os else match rec z.toNat d with
        | some r => some (z :: r)
        | none => pthL en rec came a os) = some r := h
      split at h
      · exact ih r h
      · rename_i hn
        cases hy : rec z.toNat d with
        | none => rw [hy] at h; exact ih r h
        | some q =>
          rw [hy] at h
          replace h : some (z :: q) = some r := h
          cases h
          exact ⟨hS z (by simp), hn, d, hx, hr _ _ _ hy⟩
theorem pth_wk {en : Nat → Nat × Nat} {os : List Int} {b : Nat} (hos : ∀ z, z ∈ os → 0 ≤ z) : ∀ (f : Nat) (came : Option Nat) (a : Nat) (r : List Int), pth en os b f came a = some r → Wk en (SS os) (nat r) came a b
  | 0, came, a, r, h => by cases h
  | f + 1, came, a, r, h => by
    rw [pth] at h
    split at h
    · rename_i e; cases h; exact e
    · exact pthL_wk (fun k c r hr => pth_wk hos f (some k) c r hr) os (fun z hz => by show ((z.toNat : Nat) : Int) ∈ os; rw [Int.toNat_of_nonneg (hos z hz)]; exact hz) r h
theorem pthL_in {en : Nat → Nat × Nat} {rec : Nat → Nat → Option (List Int)} {L : List Int} {came : Option Nat} {a : Nat} (hr : ∀ k c r, rec k c = some r → ∀ z, z ∈ r → z ∈ L) : ∀ (os : List Int), (∀ z, z ∈ os → z ∈ L) → ∀ r, pthL en rec came a os = some r → ∀ z, z ∈ r → z ∈ L
  | [], _, r, h => by cases h
  | z :: os, hS, r, h => by
    rw [pthL] at h
    have ih := pthL_in (en := en) (came := came) (a := a) hr os (fun y hy => hS y (List.mem_cons_of_mem _ hy))
    cases hx : jn (en z.toNat) a with
    | none => rw [hx] at h; exact ih r h
    | some d =>
      rw [hx] at h
      replace h : (if some z.toNat = came then pthL en rec came a os else match rec z.toNat d with
        | some r => some (z :: r)
        | none => pthL en rec came a os) = some r := h
      split at h
      · exact ih r h
      · cases hy : rec z.toNat d with
        | none => rw [hy] at h; exact ih r h
        | some q =>
          rw [hy] at h
          replace h : some (z :: q) = some r := h
          cases h
          intro y hy'
          rcases List.mem_cons.1 hy' with rfl | hy'
          · exact hS _ (by simp)
          · exact hr _ _ _ hy y hy'
theorem pth_in (en : Nat → Nat × Nat) (os : List Int) (b : Nat) : ∀ (f : Nat) (came : Option Nat) (a : Nat) (r : List Int), pth en os b f came a = some r → ∀ z, z ∈ r → z ∈ os
  | 0, came, a, r, h => by cases h
  | f + 1, came, a, r, h => by
    rw [pth] at h
    split at h
    · cases h; intro z hz; cases hz
    · exact pthL_in (fun k c r hr => pth_in en os b f (some k) c r hr) os (fun z hz => hz) r h
/-- An edge on a way in a forest is needed. -/
theorem way_needs {en : Nat → Nat × Nat} {S : Nat → Prop} (hF : Fo en S) (hN : ∀ k, S k → ¬ Cn en (fun j => S j ∧ j ≠ k) (en k).1 (en k).2) {ks : List Nat} {a b j : Nat} (h : Wk en S ks none a b) (hj : j ∈ ks) : ¬ Cn en (fun i => S i ∧ i ≠ j) a b := fun hc => by
  obtain ⟨p, q, rfl, hp⟩ := List.eq_append_cons_of_mem hj
  obtain ⟨x, h1, h2, h3, y, h4, h5⟩ := wk_app p (j :: q) none a b h
  have no : ¬ Cn en (fun i => S i ∧ i ≠ j) x y := fun hc' => hN j h2 (by
    rcases jn_is h4 with ⟨e1, e2⟩ | ⟨e1, e2⟩
    · rw [e1, e2]; exact hc'
    · rw [e1, e2]; exact hc'.symm)
  have cp := wk_cn (T := fun i => S i ∧ i ≠ j) p none a x h1 (fun i hi hs => ⟨hs, fun e => hp (e ▸ hi)⟩)
  by_cases hq : j ∈ q
  · obtain ⟨p', q', rfl, hp'⟩ := List.eq_append_cons_of_mem hq
    obtain ⟨z, g1, g2, g3, z', g4, g5⟩ := wk_app p' (j :: q') (some j) y b h5
    have cz := wk_cn (T := fun i => S i ∧ i ≠ j) p' (some j) y z g1 (fun i hi hs => ⟨hs, fun e => hp' (e ▸ hi)⟩)
    by_cases hz : z = y
    · subst hz
      obtain ⟨n, hn⟩ := le_bound p'
      have := wk_closed hF n p' (some j) z hn g1
      subst this
      exact g3 rfl
    · have hzx : z = x := by
        rcases jn_is h4 with ⟨e1, e2⟩ | ⟨e1, e2⟩ <;> rcases jn_is g4 with ⟨f1, f2⟩ | ⟨f1, f2⟩ <;> omega
      subst hzx
      exact no cz.symm
  · have cq := wk_cn (T := fun i => S i ∧ i ≠ j) q (some j) y b h5 (fun i hi hs => ⟨hs, fun e => hq (e ▸ hi)⟩)
    exact no ((cp.symm.trans hc).trans cq.symm)
theorem kr_mono (xs : List I3) (p : List Nat) : ∀ q, ∀ k, k ∈ krT xs p → k ∈ krT xs (p ++ q) := fun q => rev_ind (P := fun q => ∀ k, k ∈ krT xs p → k ∈ krT xs (p ++ q)) (fun k h => by simpa using h) (fun q j ih k h => by
  rw [← List.append_assoc, kr_snoc]
  unfold krS; split
  · exact ih k h
  · exact List.mem_append_left _ (ih k h)) q
theorem kru_fo {xs : List I3} (h : okP xs = true) : Fo (en xs) (SS (kruL xs)) := forest_fo (kru_rise h) (kru_fst h)
theorem kru_less {xs : List I3} (h : okP xs = true) : ∀ k, SS (kruL xs) k → ¬ Cn (en xs) (fun j => SS (kruL xs) j ∧ j ≠ k) (en xs k).1 (en xs k).2 := fun k hk hc =>
  kr_forest xs (krO xs) k ((kru_mem h k).1 hk) (hc.mono (fun j hj => ⟨(kru_mem h j).1 hj.1, hj.2⟩))
/-- An edge that is left out: the way in the tree between its ends, no edge on it dearer. -/
theorem way_ok {xs : List I3} (h : okP xs = true) {k : Nat} (hk : k < xs.length) : ∃ r, patM xs (kruL xs) (MI3.at_ xs k).a0 (MI3.at_ xs k).a1 = some r ∧ r ≠ [] ∧ ∀ j, j ∈ r → ∃ i : Nat, j = i ∧ i < xs.length ∧ (MI3.at_ xs i).a2 ≤ (MI3.at_ xs k).a2 := by
  have g := okP_good h hk
  have hko : k ∈ krO xs := (MSym.byCost_mem _ _ _ _).2 ⟨hk, cst_lt h k⟩
  have hen := ends_lt h hk
  have hlt : ∀ i, SS (kruL xs) i → i < xs.length := fun i hi => (krO_kt xs).lt i ((kru_mem h i).1 hi)
  have hnn : ∀ z, z ∈ kruL xs → ∃ i : Nat, z = i ∧ i ∈ krT xs (krO xs) := fun z hz => by
    obtain ⟨i, hi, e⟩ := List.mem_map.1 ((kru_srt h).pm.mem_iff.1 hz)
    exact ⟨i, e.symm, hi⟩
  have hcn : Cn (en xs) (SS (kruL xs)) (en xs k).1 (en xs k).2 := (kr_all xs (krO xs) k hko).mono (fun j hj => (kru_mem h j).2 hj)
  obtain ⟨ks, hw⟩ := cn_wk hcn
  have hsh := wk_short (kru_fo h) (fun i hi => ends_lt h (hlt i hi)) hen.1 hw
  have hp : patM xs (kruL xs) (MI3.at_ xs k).a0 (MI3.at_ xs k).a1 = pth (en xs) (kruL xs) (en xs k).2 8 none (en xs k).1 := by
    have n1 : nodeOk (MI3.at_ xs k).a0 = true := by unfold nodeOk; rw [decide_eq_true_eq]; exact ⟨g.f0, g.f1⟩
    have n2 : nodeOk (MI3.at_ xs k).a1 = true := by unfold nodeOk; rw [decide_eq_true_eq]; exact ⟨g.t0, g.t1⟩
    unfold patM
    rw [if_pos ⟨kru_sok h, n1, n2, kru_fst h⟩]
    rfl
  rw [hp]
  have hs := pth_some 8 ks none (en xs k).1 hw hsh
  cases hr : pth (en xs) (kruL xs) (en xs k).2 8 none (en xs k).1 with
  | none => exact absurd hr hs
  | some r =>
    have hwr := pth_wk (fun z hz => by obtain ⟨i, rfl, _⟩ := hnn z hz; omega) 8 none (en xs k).1 r hr
    refine ⟨r, rfl, fun e => ?_, fun j hj => ?_⟩
    · subst e
      have e1 : (en xs k).1 = (en xs k).2 := hwr
      have e2 : (MI3.at_ xs k).a0.toNat = (MI3.at_ xs k).a1.toNat := e1
      have := g.ne; have := g.f0; have := g.t0
      omega
    · have hjs := pth_in (en xs) (kruL xs) (en xs k).2 8 none (en xs k).1 r hr j hj
      obtain ⟨i, rfl, hi⟩ := hnn j hjs
      have hil := (krO_kt xs).lt i hi
      refine ⟨i, rfl, hil, Classical.byContradiction fun hc => ?_⟩
      obtain ⟨p, q, hpq⟩ := List.append_of_mem hko
      have hup : (krO xs).Pairwise (MSym.Lex (cst xs)) := MSym.byCost_up _ _ _
      have hpk : krO xs = (p ++ [k]) ++ q := by rw [hpq]; simp
      refine way_needs (kru_fo h) (kru_less h) hwr (j := i) (List.mem_map.2 ⟨(i : Int), hj, by simp⟩) ((kr_all xs (p ++ [k]) k (by simp)).mono (fun m hm => ⟨(kru_mem h m).2 (by rw [hpk]; exact kr_mono xs _ _ m hm), fun e => ?_⟩))
      subst e
      have hmp := kr_sub xs _ m hm
      rcases List.mem_append.1 hmp with hmp | hmp
      · rw [hpq] at hup
        have hl := (List.pairwise_append.1 hup).2.2 m hmp k (by simp)
        have c1 := cst_is h m
        have c2 := cst_is h k
        have d1 : cost xs m = (MI3.at_ xs m).a2 := rfl
        have d2 : cost xs k = (MI3.at_ xs k).a2 := rfl
        unfold MSym.Lex at hl
        omega
      · have := List.mem_singleton.1 hmp
        subst this
        omega
end EG
end Go.Proofs.Ytdglialjcibbbaa

/- The laws' has: whether a number is in a row. -/
namespace Go.Proofs.Ytdglialjcibbbaa
open Go.RowKit
set_option maxHeartbeats 1600000 in
set_option maxRecDepth 100000 in
theorem hasL_any (a : Option Addr) (cap : Nat) (zs : List Int) (x : Int) (w : World) (ho : zs.length ≤ 1048576) (hos : M4.IntsAt w a zs) :
    Calls Try.prog 10 #[.slice a zs.length cap, .int .i64 x] w fun e w' => e = .returned (.bool (EG.hasB zs x)) ∧ w = w' := by
  go_enter Try.func10, Try.ntmps10
  go_wp2
  go_loopw [9] (fun iv wr => ∃ k : Nat, iv = .int .i64 k ∧ k ≤ zs.length ∧ Hid (EG.noUp zs x k) ∧ w = wr) (fun iv _ => (zs.length - intOf iv).toNat)
  case atStart => exact ⟨0, rfl, by omega, show Hid _ from fun j hj => by omega, rfl⟩
  case round =>
    obtain ⟨k, rfl, hk, hT, rfl⟩ := hrel
    by_cases hlk : k < zs.length
    · obtain ⟨b1, off1, rfl, hlt1, hc1⟩ := hos.at hlk
      have HY : Hid _ := fun h => EG.hasB_yes (x := x) hlk h
      have HN : Hid _ := fun h => EG.noUp_succ hT.out (k := k) h
      clear hos hT
      generalize zs.getD k 0 = y at *
      by_cases hxy : y = x
      · have hF : Hid _ := HY.out hxy
        subst hxy
        clear HY HN
        go_wp2
        go_ret
        exact ⟨retB7 hF.out.symm, rfl⟩
      · have hT : Hid _ := HN.out hxy
        clear HY HN
        go_wp2
        go_roundw
        case rel => exact ⟨k + 1, by go_num, by omega, hT, trivial⟩
        case measure => simp [intOf]; omega
    · obtain rfl : k = zs.length := by omega
      have hF : Hid _ := EG.hasB_no hT.out
      clear hos hT
      go_wp2
      go_ret
      exact ⟨retB7 hF.out.symm, rfl⟩
end Go.Proofs.Ytdglialjcibbbaa

/- The laws' sameInts tells whether two slices hold the same numbers. -/
namespace Go.Proofs.Ytdglialjcibbbaa
open Go.RowKit
set_option maxHeartbeats 800000 in
set_option maxRecDepth 100000 in
theorem sameInts_any (a b : Option Addr) (ca cb : Nat) (xs ys : List Int) (w : World) (hx : xs.length ≤ 140737488355328) (hy : ys.length ≤ 140737488355328) (hax : M4.IntsAt w a xs) (hay : M4.IntsAt w b ys) :
    Calls Try.prog 8 #[.slice a xs.length ca, .slice b ys.length cb] w fun e w' => e = .returned (.bool (decide (xs = ys))) ∧ Below w.heap.size w w' := by
  by_cases hl : xs.length = ys.length
  · have hne : ((xs.length : Int) != (ys.length : Int)) = false := by simp [hl]
    have l1 : xs.length ≤ ys.length := by omega
    have HL : Hid (xs.length = ys.length) := hl
    clear hl
    go_enter Try.func8, Try.ntmps8
    go_wp2
    go_loopw [5, 13] (fun _ iv wr => ∃ k : Nat, iv = .int .i64 k ∧ k ≤ xs.length ∧ Hid (xs.take k = ys.take k) ∧ Below w.heap.size w wr) (fun _ iv _ => (xs.length - intOf iv).toNat)
    case atStart => exact ⟨0, rfl, by omega, rfl, Below.refl _ _⟩
    case round =>
      obtain ⟨k, rfl, hk, hT, hb⟩ := hrel
      by_cases hl : k < xs.length
      · have hly : k < ys.length := by omega
        obtain ⟨b1, off1, rfl, hlt1, hc1⟩ := (hax.below hb).at hl
        obtain ⟨b2, off2, rfl, hlt2, hc2⟩ := (hay.below hb).at hly
        clear hax hay
        obtain ⟨x, hx'⟩ : ∃ x, x = xs.getD k 0 := ⟨_, rfl⟩
        obtain ⟨y, hy'⟩ : ∃ y, y = ys.getD k 0 := ⟨_, rfl⟩
        rw [← hx'] at hc1
        rw [← hy'] at hc2
        have HX : Hid (x = xs.getD k 0) := hx'
        have HY : Hid (y = ys.getD k 0) := hy'
        clear hx' hy'
        by_cases hxy : x = y
        · have hT' : Hid (xs.take (k + 1) = ys.take (k + 1)) := by
            show _ = _
            rw [M4.take_snoc xs k hl, M4.take_snoc ys k hly, hT.out, ← HX.out, ← HY.out, hxy]
          subst hxy
          go_wp2
          go_quiet (fail)
          go_wp2
          go_roundw
          case rel => exact ⟨k + 1, by go_num, by omega, hT', below_drewN hb _⟩
          case measure => simp [intOf]; omega
        · have hbe : (x != y) = true := by simp [hxy]
          have hF : Hid (decide (xs = ys) = false) := by
            show _ = _
            simp only [decide_eq_false_iff_not]
            exact M4.take_ne xs ys k (by rw [← HX.out, ← HY.out]; exact hxy)
          clear hxy
          go_wp2
          go_quiet (fail)
          go_wp2
          go_ret
          exact ⟨M4.ret_bool hF.out.symm, below_drewN hb _⟩
      · obtain rfl : k = xs.length := by omega
        have hF : Hid (decide (xs = ys) = true) := by
          show _ = _
          simp only [decide_eq_true_eq]
          exact M4.take_eq xs ys HL.out hT.out
        go_wp2
        go_ret
        exact ⟨M4.ret_bool hF.out.symm, hb⟩
  · have hne : ((xs.length : Int) != (ys.length : Int)) = true := by simp; omega
    have hF : Hid (decide (xs = ys) = false) := by
      show _ = _
      simp only [decide_eq_false_iff_not]
      exact fun e => hl (by rw [e])
    clear hl
    go_enter Try.func8, Try.ntmps8
    go_wp2
    go_ret
    exact ⟨M4.ret_bool hF.out.symm, Below.refl _ _⟩
end Go.Proofs.Ytdglialjcibbbaa

/- What FnTrees calls: what it draws, both trees as one, the way for an edge. -/
namespace Go.Proofs.Ytdglialjcibbbaa
open Go.RowKit
set_option maxHeartbeats 1600000 in
set_option maxRecDepth 100000 in
theorem drawGoodEdges_any (a : Option Addr) (zs : List Int) (cap : Nat) (w : World) (hz : zs.length ≤ 140737488355328) (hb : MC.BytesAt w w.heap.size a zs) :
    Calls Try.prog 47 #[.slice a zs.length cap] w fun e w' => ∃ (a1 : Option Addr) (c1 : Nat) (xs : List I3), e = .returned (.slice a1 xs.length c1) ∧ xs.length ≤ 25 ∧ MI3.RowAt w' a1 xs ∧ Below w.heap.size w w' := by
  go_enter Try.func47, Try.ntmps47
  go_wp2_with fail
  refine (edges_any w.heap.size a zs cap 0 _ hz (by omega) (cur_new hb)).mono ?_
  rintro e w1 ⟨a1, c1, xs, rfl, hxl, hX, hc1, ho1⟩
  have HX : Hid (World.ownsRow w1 (w.heap.size + 1) 33 3 (.slice a1 xs.length c1) xs.length (MI3.flat xs)) := EDD.up hX (by simp)
  have hB := new_below rfl ho1
  have hR := EDD.row HX.out (MC.Only.refl w.heap.size w1) (by omega)
  clear hb hX HX hc1 ho1
  go_wp2
  go_ret
  exact ⟨a1, c1, xs, rfl, hxl, hR, hB⟩
set_option maxHeartbeats 1600000 in
set_option maxRecDepth 100000 in
theorem drawKruskal_any (a : Option Addr) (zs : List Int) (cap : Nat) (w : World) (hz : zs.length ≤ 140737488355328) (hb : MC.BytesAt w w.heap.size a zs) :
    Calls Try.prog 19 #[.slice a zs.length cap] w fun e w' => ∃ (a1 : Option Addr) (c1 : Nat) (xs : List I3), e = .returned (.slice a1 xs.length c1) ∧ xs.length ≤ 25 ∧ MI3.RowAt w' a1 xs ∧ Below w.heap.size w w' := by
  go_enter Try.func19, Try.ntmps19
  go_wp2_with fail
  refine Calls.mono (drawGoodEdges_any a zs cap _ hz hb) ?_
  rintro e w1 ⟨a1, c1, xs, rfl, hxl, hR, hB⟩
  clear hb
  go_wp2
  go_ret
  exact ⟨a1, c1, xs, rfl, hxl, hR, hB⟩
theorem implPrimK_any (a : Option Addr) (ca : Nat) (xs : List I3) (w : World) (hn0 : xs.length ≤ 1048576) (hin : MI3.RowAt w a xs) :
    Calls Try.prog 21 #[.slice a xs.length ca] w fun e w' => ∃ a1 c1, e = .returned (.tuple #[.slice a1 (EG.kruL xs).length c1, .int .i64 (EG.kruC xs), .bool (EG.okP xs)]) ∧ w'.ownsRow w.heap.size 3 1 (.slice a1 (EG.kruL xs).length c1) (EG.kruL xs).length (M4.iv (EG.kruL xs)) ∧ Below w.heap.size w w' := by
  have := implPrim_any a ca xs w hn0 hin
  rw [EG.prim_kru, EG.prim_cost] at this
  exact this
theorem specPrimK_any (a : Option Addr) (ca : Nat) (xs : List I3) (w : World) (hn0 : xs.length ≤ 1048576) (hin : MI3.RowAt w a xs) :
    Calls Try.prog 22 #[.slice a xs.length ca] w fun e w' => ∃ a1 c1, e = .returned (.tuple #[.slice a1 (EG.kruL xs).length c1, .int .i64 (EG.kruC xs), .bool (EG.okP xs)]) ∧ w'.ownsRow w.heap.size 3 1 (.slice a1 (EG.kruL xs).length c1) (EG.kruL xs).length (M4.iv (EG.kruL xs)) ∧ Below w.heap.size w w' := by
  have := specPrim_any a ca xs w hn0 hin
  rw [EG.prim_kru, EG.prim_cost] at this
  exact this
theorem sameT_self (a b : Option Addr) (ca cb : Nat) (xs : List Int) (w : World) (hx : xs.length ≤ 140737488355328) (hax : M4.IntsAt w a xs) (hay : M4.IntsAt w b xs) :
    Calls Try.prog 8 #[.slice a xs.length ca, .slice b xs.length cb] w fun e w' => e = .returned (.bool true) ∧ Below w.heap.size w w' := by
  have := sameInts_any a b ca cb xs xs w hx hx hax hay
  rwa [show decide (xs = xs) = true by simp] at this
namespace EG
theorem all_snoc (k : Nat) : allL (k + 1) = allL k ++ [(k : Int)] := prL_id k
theorem all_len (k : Nat) : (allL k).length = k := by simp [allL]
/-- What the law asks of a way for edge k. -/
structure WayQ (xs : List I3) (k : Nat) (r : List Int) : Prop where
  ne : 0 < r.length
  at_ : ∀ j, j < r.length → ∃ i : Nat, r.getD j 0 = i ∧ i < xs.length ∧ (MI3.at_ xs i).a2 ≤ (MI3.at_ xs k).a2
theorem wayQ {xs : List I3} (h : okP xs = true) {k : Nat} (hk : k < xs.length) : ∃ r, patM xs (kruL xs) (MI3.at_ xs k).a0 (MI3.at_ xs k).a1 = some r ∧ r.length ≤ 1048576 ∧ WayQ xs k r := by
  obtain ⟨r, h1, h2, h3⟩ := way_ok h hk
  refine ⟨r, h1, ?_, List.length_pos_iff.2 h2, fun j hj => ?_⟩
  · have := patM_len xs (kruL xs) (MI3.at_ xs k).a0 (MI3.at_ xs k).a1
    rw [h1] at this
    exact this
  · have hm : r.getD j 0 ∈ r := by rw [List.getD_eq_getElem?_getD, List.getElem?_eq_getElem hj]; exact List.getElem_mem hj
    exact h3 _ hm
end EG
theorem implWay_any (a b : Option Addr) (ca cb : Nat) (xs : List I3) (h : EG.okP xs = true) {k : Nat} (hk : k < xs.length) (w : World) (hn0 : xs.length ≤ 1048576) (hin : MI3.RowAt w a xs) (hos : M4.IntsAt w b (EG.kruL xs)) :
    Calls Try.prog 17 #[.slice a xs.length ca, .slice b (EG.kruL xs).length cb, .int .i64 (MI3.at_ xs k).a0, .int .i64 (MI3.at_ xs k).a1] w fun e w' => ∃ a1 c1 r, e = .returned (.tuple #[.slice a1 (List.length r) c1, .bool true]) ∧ r.length ≤ 1048576 ∧ EG.WayQ xs k r ∧ M4.IntsAt w' a1 r ∧ Below w.heap.size w w' := by
  obtain ⟨r, h1, h2, h3⟩ := EG.wayQ h hk
  have := implPath_any a b ca cb xs (EG.kruL xs) (MI3.at_ xs k).a0 (MI3.at_ xs k).a1 w hn0 (EG.kruL_len xs) hin hos
  rw [h1] at this
  refine this.mono ?_
  rintro e w' ⟨a1, c1, he, ho, hb⟩
  exact ⟨a1, c1, r, he, h2, h3, M5.own_ints ho, hb⟩
end Go.Proofs.Ytdglialjcibbbaa

/- The law FnTrees answers true at every row of bytes. -/
namespace Go.Proofs.Ytdglialjcibbbaa
open Go.RowKit
set_option linter.unusedSimpArgs false in
set_option maxHeartbeats 6400000 in
set_option maxRecDepth 100000 in
theorem lawFnTrees_any (a : Option Addr) (zs : List Int) (ca : Nat) (w : World) (hz : zs.length ≤ 140737488355328) (hbz : MC.BytesAt w w.heap.size a zs) :
    Calls Try.prog 4 #[.slice a zs.length ca] w fun e w' => e = .returned (.bool true) ∧ Below w.heap.size w w' := by
  by_cases h20 : zs.length ≤ 1048576
  · obtain ⟨i0, hi, hz0, hz1, hz2⟩ := info_parts Try.info3
    go_enter Try.func4, Try.ntmps4
    go_wp2_with fail
    refine Calls.mono (drawKruskal_any a zs ca _ hz hbz) ?_
    rintro e W ⟨a1, c1, xs, rfl, hxl, hX, BW0⟩
    have HB0 : Hid _ := BW0
    have HX : Hid _ := hX
    have P1 : Hid _ := implKruskal_any a1 c1 xs W (by omega) hX
    have P2 : Hid (∀ V : World, Below W.heap.size W V → _) := fun V h => specKruskal_any a1 c1 xs V (by omega) (hX.below h)
    have P3 : Hid (∀ V : World, Below W.heap.size W V → _) := fun V h => implPrimK_any a1 c1 xs V (by omega) (hX.below h)
    have P4 : Hid (∀ V : World, Below W.heap.size W V → _) := fun V h => specPrimK_any a1 c1 xs V (by omega) (hX.below h)
    have P5 : Hid (∀ V : World, Below W.heap.size W V → _) := fun V h => implGoodEdges_any a1 c1 xs V (by omega) (hX.below h) _ rfl
    have P6 : Hid (EG.okP xs = true → ∀ (b : Option Addr) (cb : Nat) (V : World), MI3.RowAt V a1 xs → M4.IntsAt V b (EG.kruL xs) → Calls Try.prog 12 #[.slice a1 xs.length c1, .slice b (EG.kruL xs).length cb] V fun e w' => ∃ a1 k1, e = .returned (.tuple #[.slice a1 (EG.parL xs (EG.allL xs.length)).length k1, .bool true]) ∧ w'.ownsRow V.heap.size 3 1 (.slice a1 (EG.parL xs (EG.allL xs.length)).length k1) (EG.parL xs (EG.allL xs.length)).length (M4.iv (EG.parL xs (EG.allL xs.length))) ∧ Below V.heap.size V w') := fun h b cb V hr hv => by
      have := implParts_any sortsI a1 b c1 cb xs (EG.kruL xs) V (by omega) (EG.kruL_len xs) hr hv
      rwa [EG.kru_sok h, EG.par_kru h] at this
    have P7 : Hid (EG.okP xs = true → ∀ (b : Option Addr) (cb : Nat) (V : World), MI3.RowAt V a1 xs → M4.IntsAt V b (EG.allL xs.length) → Calls Try.prog 12 #[.slice a1 xs.length c1, .slice b (EG.allL xs.length).length cb] V fun e w' => ∃ a1 k1, e = .returned (.tuple #[.slice a1 (EG.parL xs (EG.allL xs.length)).length k1, .bool true]) ∧ w'.ownsRow V.heap.size 3 1 (.slice a1 (EG.parL xs (EG.allL xs.length)).length k1) (EG.parL xs (EG.allL xs.length)).length (M4.iv (EG.parL xs (EG.allL xs.length))) ∧ Below V.heap.size V w') := fun h b cb V hr hv => by
      have := implParts_any sortsI a1 b c1 cb xs (EG.allL xs.length) V (by omega) (by rw [EG.all_len]; omega) hr hv
      rwa [EG.all_sok h] at this
    have P8 : Hid (EG.okP xs = true → ∀ (b : Option Addr) (cb : Nat) (V : World), MI3.RowAt V a1 xs → M4.IntsAt V b (EG.kruL xs) → Calls Try.prog 14 #[.slice a1 xs.length c1, .slice b (EG.kruL xs).length cb] V fun e w' => e = .returned (.tuple #[.bool true, .bool true]) ∧ Below V.heap.size V w') := fun h b cb V hr hv => by
      have := implForest_any sortsI a1 b c1 cb xs (EG.kruL xs) V (by omega) (EG.kruL_len xs) hr hv
      rwa [EG.kru_sok h, EG.kru_for h] at this
    have P9 : Hid (EG.okP xs = true → ∀ (k : Nat), k < xs.length → ∀ (b : Option Addr) (cb : Nat) (V : World), MI3.RowAt V a1 xs → M4.IntsAt V b (EG.kruL xs) → Calls Try.prog 17 #[.slice a1 xs.length c1, .slice b (EG.kruL xs).length cb, .int .i64 (MI3.at_ xs k).a0, .int .i64 (MI3.at_ xs k).a1] V fun e w' => ∃ a1 c1 r, e = .returned (.tuple #[.slice a1 (List.length r) c1, .bool true]) ∧ r.length ≤ 1048576 ∧ EG.WayQ xs k r ∧ M4.IntsAt w' a1 r ∧ Below V.heap.size V w') := fun h k hk b cb V hr hv => implWay_any a1 b c1 cb xs h hk V (by omega) hr hv
    have HK0 : Hid (EG.okP xs = false → (EG.kruL xs).length = 0) := fun h => by simp [EG.kruL, h]
    have hkl := EG.kruL_len xs
    have hpl := EG.parL_len xs (EG.allL xs.length)
    generalize EG.parL xs (EG.allL xs.length) = PL at *
    generalize EG.kruL xs = K at *
    generalize EG.kruC xs = C at *
    generalize EG.okP xs = G at *
    clear hbz BW0 hX
    go_wp2_with fail
    refine Calls.mono P1.out ?_
    rintro e w2 ⟨a3, c3, rfl, o3, b3⟩
    have I3 : Hid (M4.IntsAt w2 a3 K) := M5.own_ints o3
    have B3 : Hid _ := b3
    clear P1 o3 b3
    go_wp2_with fail
    refine Calls.mono (P2.out _ B3.out) ?_
    rintro e w3 ⟨a4, c4, rfl, o4, b4⟩
    have I33 : Hid (M4.IntsAt w3 a3 K) := M4.IntsAt.below I3.out b4
    have I43 : Hid (M4.IntsAt w3 a4 K) := M5.own_ints o4
    have B4 : Hid (Below W.heap.size W w3) := B3.out.trans (b4.mono B3.out.size)
    clear P2 o4 b4 B3 I3
    go_wp2_with fail
    refine Calls.mono (P3.out _ B4.out) ?_
    rintro e w4 ⟨a5, c5, rfl, o5, b5⟩
    have I34 : Hid (M4.IntsAt w4 a3 K) := M4.IntsAt.below I33.out b5
    have I44 : Hid (M4.IntsAt w4 a4 K) := M4.IntsAt.below I43.out b5
    have I54 : Hid (M4.IntsAt w4 a5 K) := M5.own_ints o5
    have B5 : Hid (Below W.heap.size W w4) := B4.out.trans (b5.mono B4.out.size)
    clear P3 o5 b5 B4 I33 I43
    go_wp2_with fail
    refine Calls.mono (P4.out _ B5.out) ?_
    rintro e w5 ⟨a6, c6, rfl, o6, b6⟩
    have I35 : Hid (M4.IntsAt w5 a3 K) := M4.IntsAt.below I34.out b6
    have I55 : Hid (M4.IntsAt w5 a5 K) := M4.IntsAt.below I54.out b6
    have I65 : Hid (M4.IntsAt w5 a6 K) := M5.own_ints o6
    have SI0 : Hid _ := sameT_self a3 a4 c3 c4 K w5 (by omega) I35.out (M4.IntsAt.below I44.out b6)
    have B6 : Hid (Below W.heap.size W w5) := B5.out.trans (b6.mono B5.out.size)
    clear P4 o6 b6 B5 I34 I44 I54
    have egg : (G != G) = false := by simp
    have ecc : (C != C) = false := by simp
    go_wp2_with fail
    refine Calls.mono SI0.out ?_
    rintro e w6 ⟨rfl, b7⟩
    have I36 : Hid (M4.IntsAt w6 a3 K) := M4.IntsAt.below I35.out b7
    have SI1 : Hid _ := sameT_self a5 a6 c5 c6 K w6 (by omega) (M4.IntsAt.below I55.out b7) (M4.IntsAt.below I65.out b7)
    have B7 : Hid (Below W.heap.size W w6) := B6.out.trans (b7.mono B6.out.size)
    clear SI0 b7 B6 I35 I55 I65
    go_wp2_with fail
    refine Calls.mono SI1.out ?_
    rintro e w7 ⟨rfl, b8⟩
    have I37 : Hid (M4.IntsAt w7 a3 K) := M4.IntsAt.below I36.out b8
    have B8 : Hid (Below W.heap.size W w7) := B7.out.trans (b8.mono B7.out.size)
    clear SI1 b8 B7 I36
    go_wp2_with fail
    refine Calls.mono (P5.out _ B8.out) ?_
    rintro e w8 ⟨rfl, b9⟩
    have I38 : Hid (M4.IntsAt w8 a3 K) := M4.IntsAt.below I37.out b9
    have B9 : Hid (Below W.heap.size W w8) := B8.out.trans (b9.mono B8.out.size)
    have X8 : Hid (MI3.RowAt w8 a1 xs) := HX.out.below B9.out
    have BW8 : Hid (Below w.heap.size w w8) := HB0.out.trans (B9.out.mono HB0.out.size)
    clear P5 b9 B8 I37 HX HB0 B9
    cases G with
    | false =>
      have hk0 := HK0.out rfl
      have hk0' : (K.length : Int) = 0 := by omega
      clear P6 P7 P8 P9 I38 X8
      go_wp2
      go_ret
      exact ⟨by simp [hk0], BW8.out⟩
    | true =>
      have HPL : Hid _ := P7.out rfl
      have HP6 : Hid _ := P6.out rfl
      have HP8 : Hid _ := P8.out rfl
      have HP9 : Hid _ := P9.out rfl
      clear P6 P7 P8 P9 HK0 egg
      have al0 : (EG.allL 0).length = 0 := rfl
      go_wp2_with fail
      go_loopw [16, 102] (fun v iv wr => ∃ k : Nat, iv = .int .i64 k ∧ k ≤ xs.length ∧ wr.ownsRow w8.heap.size 3 1 v (EG.allL k).length (M4.iv (EG.allL k)) ∧ Below w8.heap.size w8 wr) (fun _ iv _ => (xs.length - intOf iv).toNat)
      case atStart => exact ⟨0, rfl, by omega, World.ownsRow_nil _ _ _ _, Below.refl _ _⟩
      case round =>
        obtain ⟨k, rfl, hk, hown, hb⟩ := hrel
        have hbs := hb.size
        by_cases hlk : k < xs.length
        · have HE : Hid _ := EG.all_snoc k
          have HLN : Hid _ := EG.all_len k
          have hak : (EG.allL k).length ≤ 25 := by rw [EG.all_len]; omega
          have HO2 : Hid _ := hown
          have HB2 : Hid _ := hb
          clear hown hb HPL HP6 HP8 HP9
          go_wp2_with (at_builtin; go_loud (refine wpList_append_own _ rfl _ _ 24 rfl w8.heap.size 3 i0 (.int .i64 0) 1 8 Try.underlying24 hi hz0 hz1 hz2 rfl (by decide) _ _ _ rfl (World.ownsRow.alloc HO2.out _) ⟨wr.heap.size, 0, none⟩ 1 1 [.int .i64 (k : Int)] rfl rfl ?c1 ?c2 ?c3 ?c4 ?c5 ?_))
          all_goals try (first | rfl | omega | exact M2.new1 _ _ _ | exact M2.one1 _ _ | (unfold maxLen; omega) | (simp; omega))
          intro v' w9 hown1 hgrow _
          have R := M5.growI HO2.out HB2.out hbs (by exact hown1) hgrow
          have R1 := R.1
          have R2 := R.2
          rw [← HE.out] at R1
          clear hown1 hgrow R HE HLN HO2 HB2
          go_wp2
          go_roundw
          case rel => exact ⟨k + 1, by go_num, by omega, R1, R2⟩
          case measure => simp [intOf]; omega
        · obtain rfl : k = xs.length := by omega
          obtain ⟨a7, c7, hv, _⟩ := M5.own_view hown
          rw [hv] at hown ⊢
          have X9 : Hid (MI3.RowAt wr a1 xs) := X8.out.below hb
          have I39 : Hid (M4.IntsAt wr a3 K) := M4.IntsAt.below I38.out hb
          have IA9 : Hid (M4.IntsAt wr a7 (EG.allL xs.length)) := M5.own_ints hown
          have BW9 : Hid (Below w.heap.size w wr) := BW8.out.trans (hb.mono BW8.out.size)
          clear hv hown hb hbs X8 I38 BW8 hlk hk
          go_wp2_with fail
          refine Calls.mono (HP6.out a3 c3 _ X9.out I39.out) ?_
          rintro e v1 ⟨a8, c8, rfl, o8, b10⟩
          have J8 : Hid (M4.IntsAt v1 a8 PL) := M5.own_ints o8
          have X10 : Hid (MI3.RowAt v1 a1 xs) := X9.out.below b10
          have I310 : Hid (M4.IntsAt v1 a3 K) := M4.IntsAt.below I39.out b10
          have IA10 : Hid (M4.IntsAt v1 a7 (EG.allL xs.length)) := M4.IntsAt.below IA9.out b10
          have BW10 : Hid (Below w.heap.size w v1) := BW9.out.trans (b10.mono BW9.out.size)
          clear HP6 o8 b10 X9 I39 IA9 BW9
          go_wp2_with fail
          refine Calls.mono (HPL.out a7 c7 _ X10.out IA10.out) ?_
          rintro e v2 ⟨a9, c9, rfl, o9, b11⟩
          have J82 : Hid (M4.IntsAt v2 a8 PL) := M4.IntsAt.below J8.out b11
          have J92 : Hid (M4.IntsAt v2 a9 PL) := M5.own_ints o9
          have X11 : Hid (MI3.RowAt v2 a1 xs) := X10.out.below b11
          have I311 : Hid (M4.IntsAt v2 a3 K) := M4.IntsAt.below I310.out b11
          have BW11 : Hid (Below w.heap.size w v2) := BW10.out.trans (b11.mono BW10.out.size)
          clear HPL o9 b11 X10 I310 IA10 BW10 J8
          go_wp2_with fail
          refine Calls.mono (HP8.out a3 c3 _ X11.out I311.out) ?_
          rintro e v3 ⟨rfl, b12⟩
          have SI2 : Hid _ := sameT_self a8 a9 c8 c9 PL v3 (by omega) (M4.IntsAt.below J82.out b12) (M4.IntsAt.below J92.out b12)
          have X12 : Hid (MI3.RowAt v3 a1 xs) := X11.out.below b12
          have I312 : Hid (M4.IntsAt v3 a3 K) := M4.IntsAt.below I311.out b12
          have BW12 : Hid (Below w.heap.size w v3) := BW11.out.trans (b12.mono BW11.out.size)
          clear HP8 b12 X11 I311 BW11 J82 J92
          go_wp2_with fail
          refine Calls.mono SI2.out ?_
          rintro e v4 ⟨rfl, b13⟩
          have X13 : Hid (MI3.RowAt v4 a1 xs) := X12.out.below b13
          have I313 : Hid (M4.IntsAt v4 a3 K) := M4.IntsAt.below I312.out b13
          have BW13 : Hid (Below w.heap.size w v4) := BW12.out.trans (b13.mono BW12.out.size)
          clear SI2 b13 X12 I312 BW12 hpl ecc
          go_wp2_with fail
          go_loopw [155] (fun iv wr => ∃ k : Nat, iv = .int .i64 k ∧ k ≤ xs.length ∧ Below v4.heap.size v4 wr) (fun iv _ => (xs.length - intOf iv).toNat)
          case atStart => exact ⟨0, rfl, by omega, Below.refl _ _⟩
          case round =>
            obtain ⟨k, rfl, hk, hb⟩ := hrel
            have hbs := hb.size
            by_cases hlk : k < xs.length
            · obtain ⟨b1, off, rfl, hlt, c0, c1', c2⟩ := (X13.out.below hb).at hlk
              have HP : Hid _ := HP9.out k hlk
              have HWQ : Hid (∀ r, EG.WayQ xs k r → 0 < r.length ∧ ∀ j, j < r.length → ∃ i : Nat, r.getD j 0 = i ∧ i < xs.length ∧ (MI3.at_ xs i).a2 ≤ (MI3.at_ xs k).a2) := fun r h => ⟨h.ne, h.at_⟩
              generalize MI3.at_ xs k = x at *
              obtain ⟨x0, x1, x2⟩ := x
              have hbA : Below v4.heap.size v4 (wr.alloc (.cells #[.int .i64 x0, .int .i64 x1, .int .i64 x2] 33)) := hb.alloc hbs _
              have HAS : Hid _ := hasL_any a3 c3 K (k : Int) (wr.alloc (.cells #[.int .i64 x0, .int .i64 x1, .int .i64 x2] 33)) (by omega) (M4.IntsAt.below I313.out hbA)
              have HBA : Hid _ := hbA
              clear hbA
              generalize EG.hasB K (k : Int) = B at *
              go_wp2_with fail
              refine Calls.mono HAS.out ?_
              rintro e w2 ⟨rfl, rfl⟩
              clear HAS
              cases B with
              | true =>
                clear HP HWQ
                go_wp2
                go_roundw
                case rel => exact ⟨k + 1, by go_num, by omega, HBA.out⟩
                case measure => simp [intOf]; omega
              | false =>
                have HPa : Hid _ := HP.out a3 c3 (wr.alloc (.cells #[.int .i64 x0, .int .i64 x1, .int .i64 x2] 33)) (X13.out.below HBA.out) (M4.IntsAt.below I313.out HBA.out)
                clear HP
                go_wp2_with fail
                refine Calls.mono HPa.out ?_
                rintro e v5 ⟨a10, c10, r, rfl, hrl, hq, J10, b14⟩
                have HQ : Hid _ := HWQ.out r hq
                have hc2 : v5.cell? ⟨wr.heap.size, 2, none⟩ = some (.int .i64 x2) := (b14.cell (p := ⟨wr.heap.size, 2, none⟩) (by simp)).trans (by rw [World.cell?_alloc_at _ _ _ _ (by rfl)]; rfl)
                have hwl : wr.heap.size < v5.heap.size := by have := b14.size; simp at this; omega
                have BV : Hid (Below v4.heap.size v4 v5) := HBA.out.trans (b14.mono HBA.out.size)
                have X14 : Hid _ := X13.out.below BV.out
                have HJ : Hid _ := J10
                have HC2 : Hid _ := hc2
                have HWL : Hid _ := hwl
                have hr0 : 0 < r.length := HQ.out.1
                have hr0' : ¬ ((r.length : Int) = 0) := by omega
                clear HPa HWQ hq J10 b14 HBA c0 c1' c2 hlt hc2 hwl hb hbs
                generalize wr.heap.size = QQ at *
                go_wp2_with fail
                go_loopw [182] (fun iv wr => ∃ m : Nat, iv = .int .i64 m ∧ m ≤ r.length ∧ Below v5.heap.size v5 wr) (fun iv _ => (r.length - intOf iv).toNat)
                case atStart => exact ⟨0, rfl, by omega, Below.refl _ _⟩
                case round =>
                  obtain ⟨m, rfl, hm, hbm⟩ := hrel
                  by_cases hlm : m < r.length
                  · obtain ⟨yb, yo, hey, hylt, hyc⟩ := M4.IntsAt.at (M4.IntsAt.below HJ.out hbm) hlm
                    obtain ⟨i, hii, hil, hle⟩ := HQ.out.2 m hlm
                    rw [hii] at hyc
                    obtain ⟨zb, zo, hez, hzlt, -, -, hzc⟩ := (X14.out.below hbm).at hil
                    simp only [Option.some.injEq, Addr.mk.injEq] at hez
                    obtain ⟨rfl, rfl, -⟩ := hez
                    subst hey
                    generalize (MI3.at_ xs i).a2 = y2 at *
                    have hle' : y2 ≤ x2 := hle
                    have hcm : wr.cell? ⟨QQ, 2, none⟩ = some (.int .i64 x2) := (hbm.cell (p := ⟨QQ, 2, none⟩) (by simpa using HWL.out)).trans HC2.out
                    have HBM : Hid _ := hbm
                    clear hle hii HQ hbm
                    go_wp2_with fail
                    go_quiet (fail)
                    have HB5 : Hid _ := below_drewN HBM.out nq
                    go_wp2
                    go_roundw
                    case rel => exact ⟨m + 1, by go_num, by omega, HB5.out⟩
                    case measure => simp [intOf]; omega
                  · obtain rfl : m = r.length := by omega
                    have HB6 : Hid (Below v4.heap.size v4 wr) := BV.out.trans (hbm.mono BV.out.size)
                    clear HQ HC2 hlm hbm
                    go_wp2
                    go_roundw
                    case rel => exact ⟨k + 1, by go_num, by omega, HB6.out⟩
                    case measure => simp [intOf]; omega
            · obtain rfl : k = xs.length := by omega
              clear hlk hk HP9
              go_wp2
              go_ret
              exact ⟨rfl, BW13.out.trans (hb.mono BW13.out.size)⟩
  · have h21 : (1048576 : Int) < (zs.length : Int) := by omega
    clear hbz
    go_enter Try.func4, Try.ntmps4
    go_wp2
    go_ret
    exact ⟨rfl, Below.refl _ _⟩
end Go.Proofs.Ytdglialjcibbbaa
