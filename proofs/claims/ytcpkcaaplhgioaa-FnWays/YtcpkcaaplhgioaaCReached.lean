import Derived.Test.YtcpkcaaplhgioaaRows
import Derived.Test.YtcpkcaaplhgioaaCRowsF
import Derived.Test.YtcpkcaaplhgioaaMFM
import Derived.Test.YtcpkcaaplhgioaaM5
import Derived.Test.YtcpkcaaplhgioaaMInfo
import Derived.WalkKit
import Derived.WalkSpells
import Derived.WalkLawsBesides
import Derived.Outline
import Derived.Test.YtcpkcaaplhgioaaMRetB
import Derived.Deep.QuietTactic
import Derived.BigQuiet
import Derived.Test.YtcpkcaaplhgioaaMPS
import Derived.Test.YtcpkcaaplhgioaaMCur
import Derived.Laws.AppendOwnNone
import Derived.Test.YtcpkcaaplhgioaaMRB
import Derived.Test.YtcpkcaaplhgioaaCLinks
import Derived.Test.YtcpkcaaplhgioaaCAskI
import Derived.Test.YtcpkcaaplhgioaaCHasI
/- reachedFrom of the program. -/
namespace Go.Proofs.Ytcpkcaaplhgioaa
open Go.RowKit
set_option maxRecDepth 100000 in
theorem neNil8 (W : World) : (binOp .neq 75 .nilFunc .nilFunc).run Try.prog W = .ok (.bool false) W := by kernel_rfl
set_option maxRecDepth 100000 in
theorem neFun8 (W : World) (F : Nat) (cs : Array Value) : (binOp .neq 75 (.func (.func F) #[] cs) .nilFunc).run Try.prog W = .ok (.bool true) W := by kernel_rfl
set_option linter.unusedSimpArgs false in
set_option maxHeartbeats 1600000 in
set_option maxRecDepth 100000 in
theorem reachedFrom_any (a v : Option Addr) (ca cv : Nat) (xs : List I3) (fs : List Int) (f : Int) (w : World) (hok : FL.okP xs = true) (hf0 : 0 ≤ f) (hf7 : f ≤ 7) (hl : fs.length = xs.length) (hfit : FL.fitUp xs fs xs.length) (hin : MI3.RowAt w a xs) (hos : M4.IntsAt w v fs) (L : List Int) (hL : Hid (FL.sideUp (FL.srch xs fs f).by_ 8 = L)) :
    Calls Try.prog 29 #[.slice a xs.length ca, .int .i64 f, .slice v xs.length cv] w fun e w' => ∃ a1 c1, e = .returned (.slice a1 L.length c1) ∧ w'.ownsRow w.heap.size 3 1 (.slice a1 L.length c1) L.length (M4.iv L) ∧ Below w.heap.size w w' := by
  obtain ⟨i0, hi, hz0, hz1, hz2⟩ := info_parts Try.info3
  have own0 : (w.alloc (.cells #[] 3)).ownsRow w.heap.size 3 1 (.slice (some ⟨w.heap.size, 0, none⟩) 0 0) ([] : List Int).length (M4.iv []) := by
    have := World.ownsRow_lit (base := w.heap.size) (e := 3) (size := 1) w #[] 0 (by simp) (by unfold maxLen; omega) (by simp)
    simpa [M4.iv] using this
  have OWN0 : Hid ((w.alloc (.cells #[] 3)).ownsRow w.heap.size 3 1 (.slice (some ⟨w.heap.size, 0, none⟩) 0 0) 0 (M4.iv [])) := own0
  have hb0a : Below w.heap.size w (w.alloc (.cells #[] 3)) := (Below.refl _ w).alloc (Nat.le_refl _) _
  have SE : Hid (Calls Try.prog 48 #[.slice a xs.length ca, .int .i64 f, .slice v xs.length cv] (w.alloc (.cells #[] 3)) fun e w' => ∃ vf, e = .returned (.agg (FL.vl vf).toArray) ∧ FL.FnOk (w.alloc (.cells #[] 3)).heap.size w' (FL.srch xs fs f) vf ∧ Below (w.alloc (.cells #[] 3)).heap.size (w.alloc (.cells #[] 3)) w') := by
    have := rowsFrom_any a v ca cv xs fs f (w.alloc (.cells #[] 3)) hok hf0 hf7 hl hfit (hin.below hb0a) (M4.IntsAt.below hos hb0a)
    rwa [hl] at this
  have h8 : Hid ((FL.srch xs fs f).by_.length = 8) := (FL.srch_tree hok ⟨hf0, hf7⟩).len
  generalize FL.srch xs fs f = S at *
  clear hin hos own0 hok hfit hl
  go_enter Try.func29, Try.ntmps29
  go_wp2_with fail
  refine Calls.mono SE.out ?_
  rintro e w2 ⟨vf, rfl, hFn, hb2⟩
  have hb02 := hb0a.trans (hb2.mono hb0a.size)
  replace OWN0 : Hid (w2.ownsRow w.heap.size 3 1 (.slice (some ⟨w.heap.size, 0, none⟩) 0 0) 0 (M4.iv [])) := M5.own_below OWN0.out hb2
  have CE : Hid (∀ j, j < 8 → (S.by_.getD j 0 = -1 ∧ vf j = .nilFunc) ∨ (S.by_.getD j 0 ≠ -1 ∧ ∃ F cs, vf j = .func (.func F) #[] cs)) := fun j hj => by
    rcases hFn.is j hj with h | ⟨h, F, cs, h2, _⟩
    · exact .inl h
    · exact .inr ⟨h, F, cs, h2⟩
  clear SE hb2 hFn hb0a
  generalize S.by_ = B at *
  have EQN := neNil8
  have EQF := neFun8
  go_wp2
  go_loopw [7, 15] (fun v iv wr => ∃ m : Nat, iv = .int .i64 m ∧ m ≤ 8 ∧ (∃ s : List Int, Hid (FL.sideUp B m = s) ∧ wr.ownsRow w.heap.size 3 1 v s.length (M4.iv s)) ∧ Below w.heap.size w wr) (fun _ iv _ => (8 - intOf iv).toNat)
  case atStart => exact ⟨0, rfl, by omega, ⟨[], rfl, OWN0.out⟩, hb02⟩
  case round =>
    clear OWN0 hb02
    obtain ⟨m, rfl, hm, ⟨s, hs, hown⟩, hb⟩ := hrel
    have hsl : s.length ≤ m := by rw [← hs.out]; exact FL.side_len B m
    have hbs := hb.size
    by_cases hl : m < 8
    · have EY : Hid _ := fun h => FL.side_yes (l := B) (m := m) h
      have EN : Hid _ := fun h => FL.side_no (l := B) (m := m) h
      rw [hs.out] at EY EN
      have mm8 : (m : Int) < 8 := by omega
      have HOA : Hid _ := hown
      have IX : ∀ W : World, (Instr.index 76 (.agg (FL.vl vf).toArray) (.int .i64 (m : Int))).run Try.prog W = .ok (vf m) W := fun W => MA.run_index Try.underlying76 (by go_simp) (by go_simp) hl (FL.vl_get _ hl)
      clear hown hs hL
      rcases CE.out m hl with ⟨hzz, hvf⟩ | ⟨hzz, F', cs', hvf⟩
      · have hE : Hid _ := EN.out hzz
        rw [hvf] at IX
        clear EY EN hvf hzz
        go_wp2
        go_roundw
        case rel => exact ⟨m + 1, by go_num, by omega, ⟨s, hE, HOA.out⟩, hb⟩
        case measure => simp [intOf]; omega
      · have hE : Hid _ := EY.out hzz
        rw [hvf] at IX
        clear EY EN hvf hzz
        go_wp2_with (at_builtin; go_loud (refine wpList_append_own _ rfl _ _ 24 rfl w.heap.size 3 i0 (.int .i64 0) 1 8 Try.underlying24 hi hz0 hz1 hz2 rfl (by decide) _ _ _ rfl (World.ownsRow.alloc HOA.out _) ⟨wr.heap.size, 0, none⟩ 1 1 [.int .i64 (m : Int)] rfl rfl ?c1 ?c2 ?c3 ?c4 ?c5 ?_))
        all_goals try (first | rfl | omega | exact M2.new1 _ _ _ | exact M2.one1 _ _ | (unfold maxLen; omega) | (simp; omega))
        intro v' w3 hown1 hgrow _
        have R := M5.growI HOA.out hb hbs (by exact hown1) hgrow
        have R1 := R.1
        have R2 := R.2
        clear hown1 hgrow R HOA
        go_wp2
        go_roundw
        case rel => exact ⟨m + 1, by go_num, by omega, ⟨s ++ [(m : Int)], hE, R1⟩, R2⟩
        case measure => simp [intOf]; omega
    · obtain rfl : m = 8 := by omega
      have hE : s = L := by rw [← hs.out, ← hL.out]
      subst hE
      obtain ⟨a3, c3, hv, hiv⟩ := M5.own_view hown
      rw [hv] at hown ⊢
      have HO3 : Hid _ := hown
      clear hv hown hiv CE hs h8 EQN EQF hL
      generalize hsll : s.length = sl at *
      have HSL : Hid _ := hsll
      clear hsll
      go_wp2
      go_ret
      exact ⟨a3, c3, by rw [HSL.out]; rfl, by rw [HSL.out]; exact HO3.out, hb⟩
end Go.Proofs.Ytcpkcaaplhgioaa

/- impl.isWithin. -/
namespace Go.Proofs.Ytcpkcaaplhgioaa
open Go.RowKit
set_option maxHeartbeats 400000 in
set_option maxRecDepth 100000 in
theorem within7_any (n lo hi : Int) (w : World) : Calls Try.prog 45 #[.int .i64 n, .int .i64 lo, .int .i64 hi] w fun e w' => e = .returned (.bool (decide (lo ≤ n ∧ n ≤ hi))) ∧ w = w' := by
  by_cases h1 : lo ≤ n
  · go_enter Try.func45, Try.ntmps45
    go_wp2
    go_ret
    exact ⟨retB7 (by simp [h1]), rfl⟩
  · go_enter Try.func45, Try.ntmps45
    go_wp2
    go_ret
    exact ⟨retB7 (by rw [decide_eq_false (by omega : ¬ lo ≤ n)]; rfl), rfl⟩
end Go.Proofs.Ytcpkcaaplhgioaa

/- Numbers that rise: areRising, areEdges (the program's), l1Some (the specification's). -/
namespace Go.Proofs.Ytcpkcaaplhgioaa
open Go.RowKit
namespace EG
theorem ints_at2 {w : World} {a : Option Addr} {zs : List Int} (h : M4.IntsAt w a zs) {k : Nat} (hk : k + 1 < zs.length) : ∃ b off, a = some ⟨b, off, none⟩ ∧ b < w.heap.size ∧ w.cell? ⟨b, off + k, none⟩ = some (.int .i64 (zs.getD k 0)) ∧ w.cell? ⟨b, off + (k + 1), none⟩ = some (.int .i64 (zs.getD (k + 1) 0)) := by
  rcases h with rfl | ⟨b, off, rfl, hlt, hc⟩
  · simp at hk
  · exact ⟨b, off, rfl, hlt, hc k (by omega), hc (k + 1) hk⟩
end EG
set_option maxHeartbeats 1600000 in
set_option maxRecDepth 100000 in
theorem areRising_any (b : Option Addr) (cb : Nat) (n : Nat) (os : List Int) (w : World) (_hn : n ≤ 1048576) (ho : os.length ≤ 1048576) (hos : M4.IntsAt w b os) (R : Bool) (hR : Hid (EG.rises n os = R)) :
    Calls Try.prog 28 #[.slice b os.length cb, .int .i64 ((n : Int) - 1)] w fun e w' => e = .returned (.bool R) ∧ w = w' := by
  go_enter Try.func28, Try.ntmps28
  go_wp2
  go_loopw [9] (fun iv wr => ∃ k : Nat, iv = .int .i64 k ∧ k ≤ os.length ∧ Hid (EG.riseUp n os k) ∧ w = wr) (fun iv _ => (os.length - intOf iv).toNat)
  case atStart => exact ⟨0, rfl, by omega, show Hid _ from fun i hi => by omega, rfl⟩
  case round =>
    obtain ⟨k, rfl, hk, hT, rfl⟩ := hrel
    by_cases hlk : k < os.length
    · have HN : Hid _ := fun h => EG.rises_no (n := n) hlk h
      have HY : Hid _ := fun h => EG.riseUp_succ hT.out (k := k) h
      cases k with
      | zero =>
        obtain ⟨b1, off1, rfl, hlt1, hc1⟩ := hos.at hlk
        clear hos hT
        rw [Nat.add_zero] at hc1
        generalize os.getD 0 0 = o at *
        rw [show ((0 : Nat) : Int) = 0 from rfl]
        by_cases h0 : 0 ≤ o ∧ o < n
        · have hT : Hid _ := HY.out ⟨h0.1, h0.2, fun h => by omega⟩
          have h1 : decide (0 ≤ o ∧ o ≤ (n : Int) - 1) = true := by simp; omega
          clear HN HY hR h0
          go_wp2_with (go_at_call 45; refine (within7_any _ _ _ _).mono ?_; rintro e w2 ⟨rfl, rfl⟩; rw [h1])
          go_roundw
          case rel => exact ⟨1, by go_num, by omega, hT, trivial⟩
          case measure => simp [intOf]; omega
        · have hF : Hid (R = false) := by show R = false; rw [← hR.out]; exact HN.out (by omega)
          have h1 : decide (0 ≤ o ∧ o ≤ (n : Int) - 1) = false := by simp; omega
          clear HN HY hR h0
          go_wp2_with (go_at_call 45; refine (within7_any _ _ _ _).mono ?_; rintro e w2 ⟨rfl, rfl⟩; rw [h1])
          go_ret
          exact ⟨retB7 hF.out.symm, rfl⟩
      | succ k =>
        obtain ⟨b1, off1, rfl, hlt1, hc0, hc1⟩ := EG.ints_at2 hos hlk
        clear hos hT
        rw [Nat.add_sub_cancel] at HN HY
        generalize os.getD k 0 = p at *
        generalize os.getD (k + 1) 0 = o at *
        rw [show ((k + 1 : Nat) : Int) = (k : Int) + 1 from rfl]
        by_cases h0 : 0 ≤ o ∧ o < n
        · have h1 : decide (0 ≤ o ∧ o ≤ (n : Int) - 1) = true := by simp; omega
          by_cases hpo : o ≤ p
          · have hF : Hid (R = false) := by show R = false; rw [← hR.out]; exact HN.out (fun h => by have := h.2.2 (by omega); omega)
            have h2 : decide (o ≤ p) = true := by simp [hpo]
            clear HN HY hR h0 hpo
            go_wp2_with (go_at_call 45; refine (within7_any _ _ _ _).mono ?_; rintro e w2 ⟨rfl, rfl⟩; rw [h1])
            go_ret
            exact ⟨retB7 hF.out.symm, rfl⟩
          · have hT : Hid _ := HY.out ⟨h0.1, h0.2, fun h => by omega⟩
            have h2 : decide (o ≤ p) = false := by simp; omega
            clear HN HY hR h0 hpo
            go_wp2_with (go_at_call 45; refine (within7_any _ _ _ _).mono ?_; rintro e w2 ⟨rfl, rfl⟩; rw [h1])
            go_roundw
            case rel => exact ⟨k + 2, by go_num, by omega, hT, trivial⟩
            case measure => simp [intOf]; omega
        · have hF : Hid (R = false) := by show R = false; rw [← hR.out]; exact HN.out (by omega)
          have h1 : decide (0 ≤ o ∧ o ≤ (n : Int) - 1) = false := by simp; omega
          clear HN HY hR h0
          go_wp2_with (go_at_call 45; refine (within7_any _ _ _ _).mono ?_; rintro e w2 ⟨rfl, rfl⟩; rw [h1])
          go_ret
          exact ⟨retB7 hF.out.symm, rfl⟩
    · obtain rfl : k = os.length := by omega
      have hF : Hid (R = true) := by show R = true; rw [← hR.out]; exact EG.rises_yes hT.out
      clear hos hT hR
      go_wp2
      go_ret
      exact ⟨retB7 hF.out.symm, rfl⟩
set_option maxHeartbeats 1600000 in
set_option maxRecDepth 100000 in
theorem l1Some_any (b : Option Addr) (cb : Nat) (n : Nat) (os : List Int) (w : World) (_hn : n ≤ 1048576) (ho : os.length ≤ 1048576) (hos : M4.IntsAt w b os) (R : Bool) (hR : Hid (EG.rises n os = R)) :
    Calls Try.prog 35 #[.slice b os.length cb, .int .i64 n] w fun e w' => e = .returned (.bool R) ∧ Below w.heap.size w w' := by
  go_enter Try.func35, Try.ntmps35
  go_wp2
  go_loopw [9] (fun iv wr => ∃ k : Nat, iv = .int .i64 k ∧ k ≤ os.length ∧ Hid (EG.riseUp n os k) ∧ Below w.heap.size w wr) (fun iv _ => (os.length - intOf iv).toNat)
  case atStart => exact ⟨0, rfl, by omega, show Hid _ from fun i hi => by omega, Below.refl _ _⟩
  case round =>
    obtain ⟨k, rfl, hk, hT, hb⟩ := hrel
    replace hos := hos.below hb
    by_cases hlk : k < os.length
    · have HN : Hid _ := fun h => EG.rises_no (n := n) hlk h
      have HY : Hid _ := fun h => EG.riseUp_succ hT.out (k := k) h
      cases k with
      | zero =>
        obtain ⟨b1, off1, rfl, hlt1, hc1⟩ := hos.at hlk
        clear hos hT
        rw [Nat.add_zero] at hc1
        generalize os.getD 0 0 = o at *
        rw [show ((0 : Nat) : Int) = 0 from rfl]
        by_cases h0 : 0 ≤ o
        · obtain ⟨j, rfl⟩ := Int.eq_ofNat_of_zero_le h0
          have h1 : decide ((j : Int) < 0) = false := by simp
          by_cases h3 : j < n
          · have hT : Hid _ := HY.out ⟨h0, by omega, fun h => by omega⟩
            have h2 : decide (n ≤ j) = false := by simp; omega
            clear HN HY hR h0
            go_wp2
            go_roundw
            case rel => exact ⟨1, by go_num, by omega, hT, hb⟩
            case measure => simp [intOf]; omega
          · have hF : Hid (R = false) := by show R = false; rw [← hR.out]; exact HN.out (by omega)
            have h2 : decide (n ≤ j) = true := by simp; omega
            clear HN HY hR h0
            go_wp2
            go_ret
            exact ⟨retB7 hF.out.symm, hb⟩
        · have hF : Hid (R = false) := by show R = false; rw [← hR.out]; exact HN.out (by omega)
          have h1 : decide (o < 0) = true := by simp; omega
          clear HN HY hR h0
          go_wp2
          go_ret
          exact ⟨retB7 hF.out.symm, hb⟩
      | succ k =>
        obtain ⟨b1, off1, rfl, hlt1, hc0, hc1⟩ := EG.ints_at2 hos hlk
        clear hos hT
        rw [Nat.add_sub_cancel] at HN HY
        generalize os.getD k 0 = p at *
        generalize os.getD (k + 1) 0 = o at *
        rw [show ((k + 1 : Nat) : Int) = (k : Int) + 1 from rfl]
        by_cases h0 : 0 ≤ o
        · obtain ⟨j, rfl⟩ := Int.eq_ofNat_of_zero_le h0
          have h1 : decide ((j : Int) < 0) = false := by simp
          by_cases h3 : j < n
          · have h2 : decide (n ≤ j) = false := by simp; omega
            by_cases hpo : (j : Int) ≤ p
            · have hF : Hid (R = false) := by show R = false; rw [← hR.out]; exact HN.out (fun h => by have := h.2.2 (by omega); omega)
              have h4 : decide ((j : Int) ≤ p) = true := by simp [hpo]
              clear HN HY hR h0 hpo
              go_wp2
              go_ret
              exact ⟨retB7 hF.out.symm, hb⟩
            · have hT : Hid _ := HY.out ⟨h0, by omega, fun h => by omega⟩
              have h4 : decide ((j : Int) ≤ p) = false := by simp; omega
              clear HN HY hR h0 hpo
              go_wp2
              go_roundw
              case rel => exact ⟨k + 2, by go_num, by omega, hT, hb⟩
              case measure => simp [intOf]; omega
          · have hF : Hid (R = false) := by show R = false; rw [← hR.out]; exact HN.out (by omega)
            have h2 : decide (n ≤ j) = true := by simp; omega
            clear HN HY hR h0
            go_wp2
            go_ret
            exact ⟨retB7 hF.out.symm, hb⟩
        · have hF : Hid (R = false) := by show R = false; rw [← hR.out]; exact HN.out (by omega)
          have h1 : decide (o < 0) = true := by simp; omega
          clear HN HY hR h0
          go_wp2
          go_ret
          exact ⟨retB7 hF.out.symm, hb⟩
    · obtain rfl : k = os.length := by omega
      have hF : Hid (R = true) := by show R = true; rw [← hR.out]; exact EG.rises_yes hT.out
      clear hos hT hR
      go_wp2
      go_ret
      exact ⟨retB7 hF.out.symm, hb⟩
end Go.Proofs.Ytcpkcaaplhgioaa

/- l7Put of the specification: a number to its place in a rising row. -/
namespace Go.Proofs.Ytcpkcaaplhgioaa
open Go.RowKit
namespace EG
def ltUp (os : List Int) (n : Int) (k : Nat) : Prop := ∀ j, j < k → os.getD j 0 < n
theorem ltUp_succ {os : List Int} {n : Int} {k : Nat} (h : ltUp os n k) (h1 : os.getD k 0 < n) : ltUp os n (k + 1) := by
  intro j hj
  by_cases e : j = k
  · subst e; exact h1
  · exact h j (by omega)
theorem iv_one (l : List Int) : ∀ u, u ∈ M4.iv l → u.oneCell' = true := by intro u hu; simp only [M4.iv, List.mem_map] at hu; obtain ⟨z, _, rfl⟩ := hu; rfl
theorem add_is (g k j : Nat) : (⟨g, k, none⟩ : Addr).add j = ⟨g, k + j, none⟩ := by unfold Addr.add; split <;> simp_all
theorem cells_take {w : World} {base g ca : Nat} {os : List Int} (h : w.ownsRow base 3 1 (.slice (some ⟨g, 0, none⟩) os.length ca) os.length (M4.iv os)) (k : Nat) : ∀ j u, (M4.iv (os.take k))[j]? = some u → w.cell? ((⟨g, 0, none⟩ : Addr).add j) = some u := by
  intro j u hj
  have hjl : j < (os.take k).length := by have := (List.getElem?_eq_some_iff.1 hj).1; simpa [M4.iv] using this
  rw [List.length_take] at hjl
  rw [add_is, Nat.zero_add, h.cellAt j (by omega)]
  rw [M4.iv, List.getElem?_map, List.getElem?_take, if_pos (by omega)] at hj
  rw [M4.iv, List.getElem?_map]; exact hj
theorem cells_drop {w W : World} {base g ca : Nat} {os : List Int} (h : w.ownsRow base 3 1 (.slice (some ⟨g, 0, none⟩) os.length ca) os.length (M4.iv os)) (k : Nat) (hg : g < w.heap.size) (hW : Below w.heap.size w W) : ∀ j u, (M4.iv (os.drop k))[j]? = some u → W.cell? ((⟨g, k, none⟩ : Addr).add j) = some u := by
  intro j u hj
  have hjl : j < (os.drop k).length := by have := (List.getElem?_eq_some_iff.1 hj).1; simpa [M4.iv] using this
  rw [List.length_drop] at hjl
  rw [add_is, hW.cell (p := ⟨g, k + j, none⟩) hg, h.cellAt (k + j) (by omega)]
  rw [M4.iv, List.getElem?_map, List.getElem?_drop] at hj
  rw [M4.iv, List.getElem?_map]; exact hj
theorem iv_app3 (l r : List Int) (n : Int) : M4.iv (l ++ [n]) ++ M4.iv r = M4.iv (l ++ n :: r) := by simp [M4.iv]
theorem put_len (os : List Int) (n : Int) {k : Nat} (_hk : k ≤ os.length) : (os.take k ++ n :: os.drop k).length = (os.take k ++ [n]).length + (os.length - k) := by simp; omega
end EG
set_option linter.unusedSimpArgs false in
set_option maxHeartbeats 1600000 in
set_option maxRecDepth 100000 in
theorem l7Put_some (base g ca : Nat) (os : List Int) (n : Int) (w : World) (ho : os.length ≤ 1000) (hn : n ∉ os) (hown : w.ownsRow base 3 1 (.slice (some ⟨g, 0, none⟩) os.length ca) os.length (M4.iv os)) :
    Calls Try.prog 36 #[.slice (some ⟨g, 0, none⟩) os.length ca, .int .i64 n] w fun e w' => ∃ a1 c1, e = .returned (.slice a1 (EG.putS os n).length c1) ∧ w'.ownsRow w.heap.size 3 1 (.slice a1 (EG.putS os n).length c1) (EG.putS os n).length (M4.iv (EG.putS os n)) ∧ Below w.heap.size w w' := by
  obtain ⟨i0, hi, hz0, hz1, hz2⟩ := info_parts Try.info3
  have hcap : os.length ≤ ca ∧ ca ≤ maxLen := by
    rcases hown.2 with ⟨h, _⟩ | ⟨g', c', cur, hv, _, _, h1, h2, _⟩
    · cases h
    · cases hv; exact ⟨h1, h2⟩
  obtain ⟨hc1, hc2⟩ := hcap
  have hc63 : ca ≤ 9223372036854775807 := by unfold maxLen at hc2; omega
  have HS : Hid (M4.IntsAt w (some ⟨g, 0, none⟩) os) := M4.IntsAt.of_own hown
  have hgl := (hown.lt g rfl).2
  have HO : Hid _ := hown
  clear hown hc2
  go_enter Try.func36, Try.ntmps36
  go_wp2
  go_loopw [5] (fun iv wr => ∃ k : Nat, iv = .int .i64 k ∧ k ≤ os.length ∧ Hid (EG.ltUp os n k) ∧ w = wr) (fun iv _ => (os.length - intOf iv).toNat)
  case atStart => exact ⟨0, rfl, by omega, show Hid _ from fun j hj => by omega, rfl⟩
  case round =>
    obtain ⟨k, rfl, hk, hT, rfl⟩ := hrel
    by_cases hlk : k < os.length ∧ os.getD k 0 < n
    · obtain ⟨hlk, hon⟩ := hlk
      obtain ⟨b1, off1, hbb, hlt1, hc⟩ := M4.IntsAt.at HS.out hlk
      cases hbb
      have HT : Hid _ := EG.ltUp_succ hT.out hon
      have hq : decide (os.getD k 0 < n) = true := by simp; exact hon
      rw [Nat.zero_add] at hc
      clear hT HS HO hon
      generalize os.getD k 0 = o at *
      go_wp2
      go_roundw
      case rel => exact ⟨k + 1, by go_num, by omega, HT, trivial⟩
      case measure => simp [intOf]; omega
    · have HP : Hid (EG.putS os n = os.take k ++ n :: os.drop k) := EG.putS_at os n k hk hT.out (fun h => by
        by_cases c : os.getD k 0 < n
        · exact absurd ⟨h, c⟩ hlk
        · omega)
      by_cases hkl : k < os.length
      · obtain ⟨b1, off1, hbb, hlt1, hc⟩ := M4.IntsAt.at HS.out hkl
        cases hbb
        have hne : os.getD k 0 ≠ n := fun e => hn (by rw [← e, List.getD_eq_getElem?_getD, List.getElem?_eq_getElem hkl]; exact List.getElem_mem hkl)
        have hge : ¬ os.getD k 0 < n := fun c => hlk ⟨hkl, c⟩
        have hq : decide (os.getD k 0 < n) = false := decide_eq_false hge
        have hq2 : (os.getD k 0 == n) = false := by rw [beq_eq_false_iff_ne]; exact hne
        rw [Nat.zero_add] at hc
        have HLK1 : Hid ((os.take k).length = k) := by show _ = _; rw [List.length_take]; omega
        have hlk1 : (os.take k).length ≤ 1000 := by rw [HLK1.out]; omega
        have N1 : Hid (∀ j u, (M4.iv (os.take k))[j]? = some u → w.cell? ((⟨g, 0, none⟩ : Addr).add j) = some u) := EG.cells_take HO.out k
        have N2 : Hid (∀ W, Below w.heap.size w W → ∀ j u, (M4.iv (os.drop k))[j]? = some u → W.cell? ((⟨g, k, none⟩ : Addr).add j) = some u) := fun W hW => EG.cells_drop HO.out k hgl hW
        have hkc : ¬ (ca = k) := by omega
        have hkc' : ¬ (k = ca) := by omega
        have HLD : Hid ((os.drop k).length = os.length - k) := List.length_drop
        have HPL : Hid _ := EG.put_len os n hk
        generalize os.take k = tk at *
        generalize os.drop k = dk at *
        clear hT hlk hne hge HO HS
        generalize os.getD k 0 = o at *
        go_wp2_with (at_builtin; refine wpList_append_own _ rfl _ _ 24 rfl w.heap.size 3 i0 (.int .i64 0) 1 8 Try.underlying24 hi hz0 hz1 hz2 rfl (by decide) _ _ _ rfl (World.ownsRow_nil _ _ _ _) ⟨g, 0, none⟩ k ca (M4.iv tk) rfl ?h1_0 ?h1_1 ?h1_2 ?h1_3 ?h1_4 ?h1_5 ?_)
        case h1_0 => have := HLK1.out; simp [M4.iv]; omega
        case h1_1 => exact N1.out
        case h1_2 => exact EG.iv_one _
        case h1_3 => unfold maxLen; omega
        case h1_4 => omega
        case h1_5 => omega
        intro v1 w1 hown1 hgrow1 _
        have O1 : w1.ownsRow w.heap.size 3 1 v1 tk.length (M4.iv tk) := by
          rw [HLK1.out, ← Nat.zero_add k]; simpa using hown1
        have B1 : Below w.heap.size w w1 := (Below.refl _ w).grown hgrow1 (Nat.le_refl _) (fun j hj => by cases hj)
        have hs1 := B1.size
        have HO1 : Hid _ := O1
        have HB1 : Hid _ := B1
        clear hown1 hgrow1 O1 B1 N1
        go_wp2_with (at_builtin; go_loud (refine wpList_append_own _ rfl _ _ 24 rfl w.heap.size 3 i0 (.int .i64 0) 1 8 Try.underlying24 hi hz0 hz1 hz2 rfl (by decide) _ _ _ rfl (World.ownsRow.alloc HO1.out _) ⟨w1.heap.size, 0, none⟩ 1 1 [.int .i64 n] rfl rfl ?h2_1 ?h2_2 ?h2_3 ?h2_4 ?h2_5 ?_))
        all_goals try (first | rfl | omega | exact M2.new1 _ _ _ | exact M2.one1 _ _ | (unfold maxLen; omega) | (simp; omega))
        intro v2 w2 hown2 hgrow2 _
        have R := M5.growI HO1.out HB1.out hs1 (by exact hown2) hgrow2
        have HO2 : Hid _ := R.1
        have HB2 : Hid _ := R.2
        have hs2 := R.2.size
        clear hown2 hgrow2 R HO1 HB1
        go_wp2_with (at_builtin; refine wpList_append_own _ rfl _ _ 24 rfl w.heap.size 3 i0 (.int .i64 0) 1 8 Try.underlying24 hi hz0 hz1 hz2 rfl (by decide) _ _ _ rfl HO2.out ⟨g, k, none⟩ (os.length - k) (ca - k) (M4.iv dk) rfl ?h3_0 ?h3_1 ?h3_2 ?h3_3 ?h3_4 ?h3_5 ?_)
        case h3_0 => have := HLD.out; simp [M4.iv]; omega
        case h3_1 => exact N2.out _ HB2.out
        case h3_2 => exact EG.iv_one _
        case h3_3 => simp; unfold maxLen; omega
        case h3_4 => simp; omega
        case h3_5 => omega
        intro v3 w3 hown3 hgrow3 _
        have R1 : w3.ownsRow w.heap.size 3 1 v3 (EG.putS os n).length (M4.iv (EG.putS os n)) := by
          rw [HP.out, HPL.out]
          have h := hown3
          rw [EG.iv_app3] at h
          simpa using h
        have R2 : Below w.heap.size w w3 := HB2.out.grown hgrow3 (by omega) (fun j hj => (World.ownsRow.lt HO2.out j hj).1)
        obtain ⟨a5, c5, rfl, _⟩ := M5.own_view R1
        have HR1 : Hid _ := R1
        clear hown3 hgrow3 R1 HO2 HB2 N2
        go_wp2
        go_ret
        exact ⟨a5, c5, rfl, HR1.out, R2⟩
      · have hkb : decide (k < os.length) = false := by simp; omega
        by_cases hkc : ca = k
        · have hkc' : k = ca := hkc.symm
          clear hkc
          subst hkc'
          have HZZ : Hid (os.length - k = 0) := by show _ = _; omega
          have HLK1 : Hid ((os.take k).length = k) := by show _ = _; rw [List.length_take]; omega
          have hlk1 : (os.take k).length ≤ 1000 := by rw [HLK1.out]; omega
          have N1 : Hid (∀ j u, (M4.iv (os.take k))[j]? = some u → w.cell? ((⟨g, 0, none⟩ : Addr).add j) = some u) := EG.cells_take HO.out k
          have N2 : Hid (∀ W, Below w.heap.size w W → ∀ j u, (M4.iv (os.drop k))[j]? = some u → W.cell? ((⟨g, 0, none⟩ : Addr).add j) = some u) := fun W hW j u hj => by rw [List.drop_of_length_le (by omega)] at hj; simp [M4.iv] at hj
          have HLD : Hid ((os.drop k).length = os.length - k) := List.length_drop
          have HPL : Hid _ := EG.put_len os n hk
          generalize os.take k = tk at *
          generalize os.drop k = dk at *
          clear hT hlk HO HS
          go_wp2_with (at_builtin; refine wpList_append_own _ rfl _ _ 24 rfl w.heap.size 3 i0 (.int .i64 0) 1 8 Try.underlying24 hi hz0 hz1 hz2 rfl (by decide) _ _ _ rfl (World.ownsRow_nil _ _ _ _) ⟨g, 0, none⟩ k k (M4.iv tk) rfl ?h4_0 ?h4_1 ?h4_2 ?h4_3 ?h4_4 ?h4_5 ?_)
          case h4_0 => have := HLK1.out; simp [M4.iv]; omega
          case h4_1 => exact N1.out
          case h4_2 => exact EG.iv_one _
          case h4_3 => unfold maxLen; omega
          case h4_4 => omega
          case h4_5 => omega
          intro v1 w1 hown1 hgrow1 _
          have O1 : w1.ownsRow w.heap.size 3 1 v1 tk.length (M4.iv tk) := by
            rw [HLK1.out, ← Nat.zero_add k]; simpa using hown1
          have B1 : Below w.heap.size w w1 := (Below.refl _ w).grown hgrow1 (Nat.le_refl _) (fun j hj => by cases hj)
          have hs1 := B1.size
          have HO1 : Hid _ := O1
          have HB1 : Hid _ := B1
          clear hown1 hgrow1 O1 B1 N1
          go_wp2_with (at_builtin; go_loud (refine wpList_append_own _ rfl _ _ 24 rfl w.heap.size 3 i0 (.int .i64 0) 1 8 Try.underlying24 hi hz0 hz1 hz2 rfl (by decide) _ _ _ rfl (World.ownsRow.alloc HO1.out _) ⟨w1.heap.size, 0, none⟩ 1 1 [.int .i64 n] rfl rfl ?h5_1 ?h5_2 ?h5_3 ?h5_4 ?h5_5 ?_))
          all_goals try (first | rfl | omega | exact M2.new1 _ _ _ | exact M2.one1 _ _ | (unfold maxLen; omega) | (simp; omega))
          intro v2 w2 hown2 hgrow2 _
          have R := M5.growI HO1.out HB1.out hs1 (by exact hown2) hgrow2
          have HO2 : Hid _ := R.1
          have HB2 : Hid _ := R.2
          have hs2 := R.2.size
          clear hown2 hgrow2 R HO1 HB1
          go_wp2_with (at_builtin; refine wpList_append_own _ rfl _ _ 24 rfl w.heap.size 3 i0 (.int .i64 0) 1 8 Try.underlying24 hi hz0 hz1 hz2 rfl (by decide) _ _ _ rfl HO2.out ⟨g, 0, none⟩ 0 0 (M4.iv dk) rfl ?h6_0 ?h6_1 ?h6_2 ?h6_3 ?h6_4 ?h6_5 ?_)
          case h6_0 => have := HLD.out; have := HZZ.out; simp [M4.iv]; exact List.eq_nil_of_length_eq_zero (by omega)
          case h6_1 => exact N2.out _ HB2.out
          case h6_2 => exact EG.iv_one _
          case h6_3 => simp; unfold maxLen; omega
          case h6_4 => simp; omega
          case h6_5 => omega
          intro v3 w3 hown3 hgrow3 _
          have R1 : w3.ownsRow w.heap.size 3 1 v3 (EG.putS os n).length (M4.iv (EG.putS os n)) := by
            rw [HP.out, HPL.out, HZZ.out]
            have h := hown3
            rw [EG.iv_app3] at h
            simpa using h
          have R2 : Below w.heap.size w w3 := HB2.out.grown hgrow3 (by omega) (fun j hj => (World.ownsRow.lt HO2.out j hj).1)
          obtain ⟨a5, c5, rfl, _⟩ := M5.own_view R1
          have HR1 : Hid _ := R1
          clear hown3 hgrow3 R1 HO2 HB2 N2
          go_wp2
          go_ret
          exact ⟨a5, c5, rfl, HR1.out, R2⟩
        · have hkc' : ¬ (k = ca) := by omega
          have HLK1 : Hid ((os.take k).length = k) := by show _ = _; rw [List.length_take]; omega
          have hlk1 : (os.take k).length ≤ 1000 := by rw [HLK1.out]; omega
          have N1 : Hid (∀ j u, (M4.iv (os.take k))[j]? = some u → w.cell? ((⟨g, 0, none⟩ : Addr).add j) = some u) := EG.cells_take HO.out k
          have N2 : Hid (∀ W, Below w.heap.size w W → ∀ j u, (M4.iv (os.drop k))[j]? = some u → W.cell? ((⟨g, k, none⟩ : Addr).add j) = some u) := fun W hW => EG.cells_drop HO.out k hgl hW
          have HLD : Hid ((os.drop k).length = os.length - k) := List.length_drop
          have HPL : Hid _ := EG.put_len os n hk
          generalize os.take k = tk at *
          generalize os.drop k = dk at *
          clear hT hlk HO HS
          go_wp2_with (at_builtin; refine wpList_append_own _ rfl _ _ 24 rfl w.heap.size 3 i0 (.int .i64 0) 1 8 Try.underlying24 hi hz0 hz1 hz2 rfl (by decide) _ _ _ rfl (World.ownsRow_nil _ _ _ _) ⟨g, 0, none⟩ k ca (M4.iv tk) rfl ?h7_0 ?h7_1 ?h7_2 ?h7_3 ?h7_4 ?h7_5 ?_)
          case h7_0 => have := HLK1.out; simp [M4.iv]; omega
          case h7_1 => exact N1.out
          case h7_2 => exact EG.iv_one _
          case h7_3 => unfold maxLen; omega
          case h7_4 => omega
          case h7_5 => omega
          intro v1 w1 hown1 hgrow1 _
          have O1 : w1.ownsRow w.heap.size 3 1 v1 tk.length (M4.iv tk) := by
            rw [HLK1.out, ← Nat.zero_add k]; simpa using hown1
          have B1 : Below w.heap.size w w1 := (Below.refl _ w).grown hgrow1 (Nat.le_refl _) (fun j hj => by cases hj)
          have hs1 := B1.size
          have HO1 : Hid _ := O1
          have HB1 : Hid _ := B1
          clear hown1 hgrow1 O1 B1 N1
          go_wp2_with (at_builtin; go_loud (refine wpList_append_own _ rfl _ _ 24 rfl w.heap.size 3 i0 (.int .i64 0) 1 8 Try.underlying24 hi hz0 hz1 hz2 rfl (by decide) _ _ _ rfl (World.ownsRow.alloc HO1.out _) ⟨w1.heap.size, 0, none⟩ 1 1 [.int .i64 n] rfl rfl ?h8_1 ?h8_2 ?h8_3 ?h8_4 ?h8_5 ?_))
          all_goals try (first | rfl | omega | exact M2.new1 _ _ _ | exact M2.one1 _ _ | (unfold maxLen; omega) | (simp; omega))
          intro v2 w2 hown2 hgrow2 _
          have R := M5.growI HO1.out HB1.out hs1 (by exact hown2) hgrow2
          have HO2 : Hid _ := R.1
          have HB2 : Hid _ := R.2
          have hs2 := R.2.size
          clear hown2 hgrow2 R HO1 HB1
          go_wp2_with (at_builtin; refine wpList_append_own _ rfl _ _ 24 rfl w.heap.size 3 i0 (.int .i64 0) 1 8 Try.underlying24 hi hz0 hz1 hz2 rfl (by decide) _ _ _ rfl HO2.out ⟨g, k, none⟩ (os.length - k) (ca - k) (M4.iv dk) rfl ?h9_0 ?h9_1 ?h9_2 ?h9_3 ?h9_4 ?h9_5 ?_)
          case h9_0 => have := HLD.out; simp [M4.iv]; omega
          case h9_1 => exact N2.out _ HB2.out
          case h9_2 => exact EG.iv_one _
          case h9_3 => simp; unfold maxLen; omega
          case h9_4 => simp; omega
          case h9_5 => omega
          intro v3 w3 hown3 hgrow3 _
          have R1 : w3.ownsRow w.heap.size 3 1 v3 (EG.putS os n).length (M4.iv (EG.putS os n)) := by
            rw [HP.out, HPL.out]
            have h := hown3
            rw [EG.iv_app3] at h
            simpa using h
          have R2 : Below w.heap.size w w3 := HB2.out.grown hgrow3 (by omega) (fun j hj => (World.ownsRow.lt HO2.out j hj).1)
          obtain ⟨a5, c5, rfl, _⟩ := M5.own_view R1
          have HR1 : Hid _ := R1
          clear hown3 hgrow3 R1 HO2 HB2 N2
          go_wp2
          go_ret
          exact ⟨a5, c5, rfl, HR1.out, R2⟩
set_option linter.unusedSimpArgs false in
set_option maxHeartbeats 800000 in
set_option maxRecDepth 100000 in
theorem l7Put_nil (n : Int) (w : World) :
    Calls Try.prog 36 #[.slice none 0 0, .int .i64 n] w fun e w' => ∃ a1 c1, e = .returned (.slice a1 1 c1) ∧ w'.ownsRow w.heap.size 3 1 (.slice a1 1 c1) 1 (M4.iv [n]) ∧ Below w.heap.size w w' := by
  obtain ⟨i0, hi, hz0, hz1, hz2⟩ := info_parts Try.info3
  go_enter Try.func36, Try.ntmps36
  go_wp2
  refine wp_loop_rounds 1 ?_
  rw [rounds_succ]
  go_wp2_with (first
    | (at_builtin; refine wpList_append_own_none rfl _ _ 24 rfl w.heap.size 3 i0 1 Try.underlying24 hi _ _ _ rfl (World.ownsRow_nil _ _ _ _) rfl ?_)
    | (at_builtin; refine wpList_append_own _ rfl _ _ 24 rfl w.heap.size 3 i0 (.int .i64 0) 1 8 Try.underlying24 hi hz0 hz1 hz2 rfl (by decide) _ _ _ rfl (World.ownsRow.alloc (World.ownsRow_nil _ _ _ _) _) ⟨w.heap.size, 0, none⟩ 1 1 [.int .i64 n] rfl rfl ?c1 ?c2 ?c3 ?c4 ?c5 ?_))
  all_goals try (first | rfl | omega | exact M2.new1 _ _ _ | exact M2.one1 _ _ | (unfold maxLen; omega) | (simp; done) | (simp; omega))
  intro v2 w2 hown2 hgrow2 _
  have O2 : w2.ownsRow w.heap.size 3 1 v2 1 (M4.iv [n]) := by simpa [M4.iv] using hown2
  have B2 : Below w.heap.size w w2 := ((Below.refl _ w).alloc (Nat.le_refl _) _).grown hgrow2 (by simp) (fun j hj => by cases hj)
  have HO2 : Hid _ := O2
  clear hown2 hgrow2
  go_wp2_with (at_builtin; refine wpList_append_own_none rfl _ _ 24 rfl w.heap.size 3 i0 1 Try.underlying24 hi _ _ _ rfl O2 rfl ?_)
  obtain ⟨a5, c5, rfl, _⟩ := M5.own_view (zs := [n]) O2
  go_wp2
  go_ret
  exact ⟨a5, c5, rfl, HO2.out, B2⟩
/-- Whatever row the call owns. -/
theorem l7Put_any (base : Nat) (v : Value) (os : List Int) (n : Int) (w : World) (ho : os.length ≤ 1000) (hn : n ∉ os) (hown : w.ownsRow base 3 1 v os.length (M4.iv os)) :
    Calls Try.prog 36 #[v, .int .i64 n] w fun e w' => ∃ a1 c1, e = .returned (.slice a1 (EG.putS os n).length c1) ∧ w'.ownsRow w.heap.size 3 1 (.slice a1 (EG.putS os n).length c1) (EG.putS os n).length (M4.iv (EG.putS os n)) ∧ Below w.heap.size w w' := by
  rcases hown.2 with ⟨rfl, h0⟩ | ⟨g, cap, cur, rfl, hrest⟩
  · obtain rfl : os = [] := List.eq_nil_of_length_eq_zero h0
    exact l7Put_nil n w
  · exact l7Put_some base g cap os n w ho hn ⟨hown.1, .inr ⟨g, cap, cur, rfl, hrest⟩⟩
end Go.Proofs.Ytcpkcaaplhgioaa

/- ReachedBy of the program and of the specification. -/
namespace Go.Proofs.Ytcpkcaaplhgioaa
open Go.RowKit
namespace LK
theorem flat_put : ∀ (ps : List I3) (k : Nat) (c : I3), k < ps.length → (MI3.at_ ps k).a0 = c.a0 → (MI3.at_ ps k).a1 = c.a1 → (MI3.flat ps).set (k * 3 + 2) (.int .i64 c.a2) = MI3.flat (ps.set k c)
  | [], k, c, h, _, _ => by simp at h
  | x :: ps, 0, c, h, h0, h1 => by
    have e0 : x.a0 = c.a0 := h0
    have e1 : x.a1 = c.a1 := h1
    simp [MI3.flat, I3.cs, e0, e1]
  | x :: ps, k + 1, c, h, h0, h1 => by
    have ih := flat_put ps k c (by simpa using h) h0 h1
    show (x.cs ++ MI3.flat ps).set ((k + 1) * 3 + 2) _ = x.cs ++ MI3.flat (ps.set k c)
    have hx : x.cs.length = 3 := rfl
    rw [List.set_append_right _ _ (by omega), hx, show (k + 1) * 3 + 2 - 3 = k * 3 + 2 from by omega, ih]
def lenV : Value → Nat
  | .slice _ n _ => n
  | _ => 0
theorem rises_at {n : Nat} {wo : List Int} (h : EG.rises n wo = true) {m : Nat} (hm : m < wo.length) : ∃ j : Nat, wo.getD m 0 = (j : Int) ∧ j < n := by
  have := EG.rises_is h m hm
  exact ⟨(wo.getD m 0).toNat, by omega, by omega⟩
theorem up_at {l : List Int} (h : Up l) {n : Int} (hn : n ∈ l) : ∃ k, k < l.length ∧ l.getD k 0 = n ∧ ∀ j, j < k → l.getD j 0 < n := by
  induction l with
  | nil => cases hn
  | cons x l ih =>
    unfold Up at h
    rw [List.pairwise_cons] at h
    rcases List.mem_cons.1 hn with rfl | hn
    · exact ⟨0, by simp, rfl, fun j hj => by omega⟩
    · obtain ⟨k, h1, h2, h3⟩ := ih h.2 hn
      refine ⟨k + 1, by simp; omega, by simpa using h2, fun j hj => ?_⟩
      cases j with
      | zero => simpa using h.1 n hn
      | succ j => simpa using h3 j (by omega)
end LK
set_option linter.unusedSimpArgs false in
set_option maxHeartbeats 1600000 in
set_option maxRecDepth 100000 in
/-- A number that is there already. -/
theorem l7Put_has (a : Option Addr) (ca : Nat) (os : List Int) (n : Int) (w : World) (ho : os.length ≤ 1000) (hu : LK.Up os) (hn : n ∈ os) (hos : M4.IntsAt w a os) :
    Calls Try.prog 36 #[.slice a os.length ca, .int .i64 n] w fun e w' => e = .returned (.slice a os.length ca) ∧ w = w' := by
  obtain ⟨p, hp, hpn, hlo⟩ := LK.up_at hu hn
  have HLO : Hid (∀ j, j < p → os.getD j 0 < n) := hlo
  have HPN : Hid (os.getD p 0 = n) := hpn
  have HS : Hid (M4.IntsAt w a os) := hos
  clear hlo hpn hos hu hn
  go_enter Try.func36, Try.ntmps36
  go_wp2
  go_loopw [5] (fun iv wr => ∃ k : Nat, iv = .int .i64 k ∧ k ≤ p ∧ w = wr) (fun iv _ => (p - intOf iv).toNat)
  case atStart => exact ⟨0, rfl, by omega, rfl⟩
  case round =>
    obtain ⟨k, rfl, hk, rfl⟩ := hrel
    have hkl : k < os.length := by omega
    obtain ⟨b, off, rfl, hlt, c0⟩ := M4.IntsAt.at HS.out hkl
    by_cases e : k = p
    · subst e
      rw [HPN.out] at c0
      clear HLO HPN HS
      go_wp2
      go_ret
      exact ⟨rfl, rfl⟩
    · have hl := HLO.out k (by omega)
      generalize os.getD k 0 = y at *
      clear HLO HPN HS
      go_wp2
      go_roundw
      case rel => exact ⟨k + 1, by go_num, by omega, trivial⟩
      case measure => simp [intOf]; omega
set_option linter.unusedSimpArgs false in
set_option maxHeartbeats 1600000 in
set_option maxRecDepth 100000 in
theorem implReached_any (a b : Option Addr) (ca cb : Nat) (xs : List I2) (f : Int) (wo : List Int) (w : World) (hn : xs.length ≤ 1048576) (hz : wo.length ≤ 1048576) (hin : MI2.RowAt w a xs) (hos : M4.IntsAt w b wo) :
    Calls Try.prog 7 #[.slice a xs.length ca, .int .i64 f, .slice b wo.length cb] w fun e w' => ∃ a1 c1, e = .returned (.tuple #[.slice a1 (LK.rbL xs f wo).length c1, .bool (LK.rbOk xs f wo)]) ∧ w'.ownsRow w.heap.size 3 1 (.slice a1 (LK.rbL xs f wo).length c1) (LK.rbL xs f wo).length (M4.iv (LK.rbL xs f wo)) ∧ Below w.heap.size w w' := by
  obtain ⟨i0, hi, hz0, hz1, hz2⟩ := info_parts Try.info3
  have HI : Hid (MI2.RowAt w a xs) := hin
  have HS : Hid (M4.IntsAt w b wo) := hos
  have GL : Hid _ := implGoodLinks_any a ca xs w hn hin _ rfl
  have NO : Hid (∀ W : World, _) := fun W => node8I_any f W
  have RI : Hid (∀ W : World, M4.IntsAt W b wo → Calls Try.prog 28 #[.slice b wo.length cb, .int .i64 ((xs.length : Int) - 1)] W fun e w' => e = .returned (.bool (EG.rises xs.length wo)) ∧ W = w') := fun W h => areRising_any b cb xs.length wo W hn hz h _ rfl
  have PO : Hid (∀ W : World, MI2.RowAt W a xs → _) := fun W h => pipesOfOne_any a ca xs W hn h
  have NK : Hid _ := fun h => LK.rb_no (xs := xs) (f := f) (wo := wo) h
  have YK : Hid _ := fun h => LK.rb_yes (xs := xs) (f := f) (wo := wo) h
  have OK : Hid (LK.rbOk xs f wo = (FL.okP (LK.pip xs) && (FL.nodeOk f && EG.rises xs.length wo))) := rfl
  have NF : Hid _ := fun h => FL.node_yes (n := f) h
  have RE : Hid (FL.okP (LK.pip xs) = true → 0 ≤ f → f ≤ 7 → ∀ (g : Nat) (v : Option Addr) (cv : Nat) (W : World), MI3.RowAt W (some ⟨g, 0, none⟩) (LK.pwL xs wo) → M4.IntsAt W v (List.replicate xs.length 0) → Calls Try.prog 29 #[.slice (some ⟨g, 0, none⟩) xs.length xs.length, .int .i64 f, .slice v xs.length cv] W fun e w' => ∃ a1 c1, e = .returned (.slice a1 (FL.sideUp (LK.reachB xs f wo) 8).length c1) ∧ w'.ownsRow W.heap.size 3 1 (.slice a1 (FL.sideUp (LK.reachB xs f wo) 8).length c1) (FL.sideUp (LK.reachB xs f wo) 8).length (M4.iv (FL.sideUp (LK.reachB xs f wo) 8)) ∧ Below W.heap.size W w') := fun h h0 h7 g v cv W h1 h2 => by
    have := reachedFrom_any (some ⟨g, 0, none⟩) v xs.length cv (LK.pwL xs wo) (List.replicate xs.length 0) f W (LK.pw_ok h) h0 h7 (by rw [LK.pw_len]; simp) (LK.pw_fit xs wo) h1 h2 (FL.sideUp (LK.reachB xs f wo) 8) rfl
    rwa [LK.pw_len] at this
  generalize LK.rbOk xs f wo = is at *
  generalize LK.rbL xs f wo = L at *
  generalize FL.sideUp (LK.reachB xs f wo) 8 = M at *
  generalize FL.okP (LK.pip xs) = p at *
  generalize FL.nodeOk f = q at *
  have RA : Hid (EG.rises xs.length wo = true → ∀ m, m < wo.length → ∃ j : Nat, wo.getD m 0 = (j : Int) ∧ j < xs.length) := fun h m hm => LK.rises_at h hm
  generalize EG.rises xs.length wo = r at *
  clear hin hos
  go_enter Try.func7, Try.ntmps7
  go_wp2_with fail
  refine Calls.mono GL.out ?_
  rintro e w0 ⟨rfl, hb0⟩
  clear GL
  cases p with
  | false =>
    have h0 : is = false := OK.out
    subst h0
    have hL := NK.out (by trivial)
    subst hL
    clear NO RI PO NK YK OK NF RE RA
    go_wp2
    go_ret2
    exact ⟨none, 0, rfl, World.ownsRow_nil _ _ _ _, hb0⟩
  | true =>
    go_wp2_with fail
    refine (NO.out _).mono ?_
    rintro e w1 ⟨rfl, rfl⟩
    clear NO
    cases q with
    | false =>
      have h0 : is = false := OK.out
      subst h0
      have hL := NK.out (by trivial)
      subst hL
      clear RI PO NK YK OK NF RE RA
      go_wp2
      go_ret2
      exact ⟨none, 0, rfl, World.ownsRow_nil _ _ _ _, hb0⟩
    | true =>
      have RI2 : Hid _ := RI.out w0 (M4.IntsAt.below HS.out hb0)
      clear RI
      go_wp2_with fail
      refine Calls.mono RI2.out ?_
      rintro e w1 ⟨rfl, rfl⟩
      clear RI2
      cases r with
      | false =>
        have h0 : is = false := OK.out
        subst h0
        have hL := NK.out (by trivial)
        subst hL
        clear PO NK YK OK NF RE RA
        go_wp2
        go_ret2
        exact ⟨none, 0, rfl, World.ownsRow_nil _ _ _ _, hb0⟩
      | true =>
        have h0 : is = true := OK.out
        subst h0
        have hL := YK.out (by trivial)
        subst hL
        obtain ⟨f0, f7⟩ := NF.out (by trivial)
        have RE2 : Hid _ := RE.out (by trivial) f0 f7
        have PO2 : Hid _ := PO.out w0 (HI.out.below hb0)
        have RA2 : Hid _ := RA.out (by trivial)
        clear PO NK YK OK NF RE RA HI
        go_wp2_with fail
        refine Calls.mono PO2.out ?_
        rintro e w1 ⟨g, rfl, ho, hb1⟩
        have hB1 := hb0.trans (hb1.mono hb0.size)
        have HO : Hid (World.ownsRow w1 w0.heap.size 58 3 (.slice (some ⟨g, 0, none⟩) xs.length xs.length) xs.length (MI3.flat (LK.pwL xs (wo.take 0)))) := by
          show World.ownsRow _ _ _ _ _ _ _; rw [List.take_zero, LK.pw_nil]; exact ho
        have hg1 := (ho.lt g rfl).1
        clear PO2 ho
        have hS1 : Hid (M4.IntsAt w0 b wo) := M4.IntsAt.below HS.out hb0
        clear HS
        go_wp2
        go_loopw [31] (fun iv wr => ∃ m : Nat, iv = .int .i64 m ∧ m ≤ wo.length ∧ wr.ownsRow w0.heap.size 58 3 (.slice (some ⟨g, 0, none⟩) xs.length xs.length) xs.length (MI3.flat (LK.pwL xs (wo.take m))) ∧ Below w0.heap.size w0 wr) (fun iv _ => (wo.length - intOf iv).toNat)
        case atStart => exact ⟨0, rfl, by omega, HO.out, hb1⟩
        case round =>
          clear HO hb1 hB1
          obtain ⟨m, rfl, hm, hown, hb⟩ := hrel
          by_cases hlm : m < wo.length
          · obtain ⟨j, hj, hjx⟩ := RA2.out m hlm
            obtain ⟨b2, off2, rfl, hlt2, d0⟩ := M4.IntsAt.at (M4.IntsAt.below hS1.out hb) hlm
            rw [hj] at d0
            have HP : Hid _ := LK.pw_put xs wo hlm hj
            have hfl := LK.flat_put (LK.pwL xs (wo.take m)) j ⟨(MI2.at_ xs j).a0, (MI2.at_ xs j).a1, 0⟩ (by rw [LK.pw_len]; exact hjx) (by rw [LK.pw_at xs _ hjx]; rfl) (by rw [LK.pw_at xs _ hjx]; rfl)
            rw [← HP.out] at hfl
            have hlen := hown.1
            obtain ⟨y2, q2⟩ : ∃ y, wr.cell? ⟨g, j * 3 + 2, none⟩ = some y := MI3.some_at hown _ (by omega)
            have z2 := hown.frozenAt (j * 3 + 2)
            have s2 := World.ownsRow.stored hown (j * 3 + 2) (.int .i64 0)
            have R1 := s2.1
            rw [hfl] at R1
            have R2 := hb.grown s2.2 (hb.size) (fun j hj => by simp at hj; omega)
            clear s2 hfl hlen hown hb HP hj
            go_wp2
            go_roundw
            case rel => exact ⟨m + 1, by go_num, by omega, R1, R2⟩
            case measure => simp [intOf]; omega
          · obtain rfl : m = wo.length := by omega
            rw [List.take_length] at hown
            have HO : Hid (World.ownsRow wr w0.heap.size 58 3 (.slice (some ⟨g, 0, none⟩) xs.length xs.length) xs.length (MI3.flat (LK.pwL xs wo))) := hown
            clear hown RA2 hS1
            go_wp2_with (at_make; refine wpList_make_full _ rfl _ _ 24 rfl wr.heap.size 3 i0 (.int .i64 0) 1 Try.underlying24 hi hz0 hz1 .i64 .i64 _ _ xs.length rfl rfl rfl rfl ?_ ?_ ?_ ?_)
            · rw [hz2]; omega
            · unfold maxLen; omega
            · omega
            intro w2 hown2 hgrow
            rw [M4.made_iv] at hown2
            have hb2 : Below wr.heap.size wr w2 := (Below.refl _ _).grown hgrow (Nat.le_refl _) (fun k hk => by cases hk)
            have hB2 := (hb0.trans (hb.mono hb0.size)).trans (hb2.mono (Nat.le_trans hb0.size hb.size))
            have RE3 : Hid _ := RE2.out g (some ⟨wr.heap.size, 0, none⟩) xs.length w2 (MI3.RowAt.of_own (M5.own_below HO.out hb2)) (M4.IntsAt.of_own hown2)
            clear hgrow hown2 hb2 RE2 HO hi hz0 hz1 hz2
            generalize hll : L.length = ll at *
            have HLL : Hid _ := hll
            clear hll
            go_wp2_with fail
            refine Calls.mono RE3.out ?_
            rintro e w3 ⟨a3, c3, rfl, ho, hb3⟩
            have HO : Hid _ := FL.own_base ho hB2.size
            clear RE3 ho
            go_wp2
            go_ret2
            exact ⟨a3, c3, by rw [HLL.out]; rfl, by rw [HLL.out]; exact HO.out, hB2.trans (hb3.mono hB2.size)⟩
set_option linter.unusedSimpArgs false in
set_option maxHeartbeats 3200000 in
set_option maxRecDepth 100000 in
theorem specReached_any (a b : Option Addr) (ca cb : Nat) (xs : List I2) (f : Int) (wo : List Int) (w : World) (hn : xs.length ≤ 1048576) (hz : wo.length ≤ 1048576) (hin : MI2.RowAt w a xs) (hos : M4.IntsAt w b wo) :
    Calls Try.prog 11 #[.slice a xs.length ca, .int .i64 f, .slice b wo.length cb] w fun e w' => ∃ a1 c1, e = .returned (.tuple #[.slice a1 (LK.rbL xs f wo).length c1, .bool (LK.rbOk xs f wo)]) ∧ w'.ownsRow w.heap.size 3 1 (.slice a1 (LK.rbL xs f wo).length c1) (LK.rbL xs f wo).length (M4.iv (LK.rbL xs f wo)) ∧ Below w.heap.size w w' := by
  have HI : Hid (MI2.RowAt w a xs) := hin
  have HS : Hid (M4.IntsAt w b wo) := hos
  have GL : Hid _ := specGoodLinks_any a ca xs w hn hin _ rfl
  have NO : Hid (∀ W : World, _) := fun W => node8S_any f W
  have RI : Hid (∀ W : World, M4.IntsAt W b wo → Calls Try.prog 35 #[.slice b wo.length cb, .int .i64 (xs.length : Int)] W fun e w' => e = .returned (.bool (EG.rises xs.length wo)) ∧ Below W.heap.size W w') := fun W h => l1Some_any b cb xs.length wo W hn hz h _ rfl
  have NK : Hid _ := fun h => LK.rb_no (xs := xs) (f := f) (wo := wo) h
  have YK : Hid _ := fun h => LK.rb_yes (xs := xs) (f := f) (wo := wo) h
  have OK : Hid (LK.rbOk xs f wo = (FL.okP (LK.pip xs) && (FL.nodeOk f && EG.rises xs.length wo))) := rfl
  have NF : Hid _ := fun h => FL.node_yes (n := f) h
  have FI : Hid (FL.okP (LK.pip xs) = true → 0 ≤ f → f ≤ 7 → ∀ os, LK.Rb xs f wo os → LK.Pass xs wo os os xs.length → os = FL.sideUp (LK.reachB xs f wo) 8) := fun h h0 h7 os H P => H.fin h ⟨h0, h7⟩ P
  have ST : Hid (FL.okP (LK.pip xs) = true → 0 ≤ f → f ≤ 7 → LK.Rb xs f wo [f]) := fun h h0 h7 => LK.Rb.start h ⟨h0, h7⟩
  have PU : Hid (FL.okP (LK.pip xs) = true → 0 ≤ f → f ≤ 7 → ∀ os k, k < xs.length → (k : Int) ∉ wo → (MI2.at_ xs k).a0 ∈ os → (MI2.at_ xs k).a1 ∉ os → LK.Rb xs f wo os → LK.Rb xs f wo (EG.putS os (MI2.at_ xs k).a1)) := fun h h0 h7 os k hk hw h1 h2 H => H.put h ⟨h0, h7⟩ hk hw h1 h2
  generalize LK.rbOk xs f wo = is at *
  generalize LK.rbL xs f wo = L at *
  generalize FL.sideUp (LK.reachB xs f wo) 8 = M at *
  have H20 : Hid (FL.okP (LK.pip xs) = true → xs.length ≤ 20) := fun h => by have := ((FL.okP_iff _).1 h).1; rwa [LK.pip_len] at this
  generalize FL.okP (LK.pip xs) = p at *
  generalize FL.nodeOk f = q at *
  generalize EG.rises xs.length wo = r at *
  clear hin hos
  go_enter Try.func11, Try.ntmps11
  go_wp2_with fail
  refine Calls.mono GL.out ?_
  rintro e w0 ⟨rfl, hb0⟩
  clear GL
  cases p with
  | false =>
    have h0 : is = false := OK.out
    subst h0
    have hL := NK.out (by trivial)
    subst hL
    clear NO RI NK YK OK NF FI ST PU H20
    go_wp2
    go_ret2
    exact ⟨none, 0, rfl, World.ownsRow_nil _ _ _ _, hb0⟩
  | true =>
    go_wp2_with fail
    refine (NO.out _).mono ?_
    rintro e w1 ⟨rfl, rfl⟩
    clear NO
    cases q with
    | false =>
      have h0 : is = false := OK.out
      subst h0
      have hL := NK.out (by trivial)
      subst hL
      clear RI NK YK OK NF FI ST PU H20
      go_wp2
      go_ret2
      exact ⟨none, 0, rfl, World.ownsRow_nil _ _ _ _, hb0⟩
    | true =>
      have RI2 : Hid _ := RI.out w0 (M4.IntsAt.below HS.out hb0)
      clear RI
      go_wp2_with fail
      refine Calls.mono RI2.out ?_
      rintro e w1 ⟨rfl, hb1⟩
      have hB1 := hb0.trans (hb1.mono hb0.size)
      clear RI2 hb0 hb1
      cases r with
      | false =>
        have h0 : is = false := OK.out
        subst h0
        have hL := NK.out (by trivial)
        subst hL
        clear NK YK OK NF FI ST PU H20
        go_wp2
        go_ret2
        exact ⟨none, 0, rfl, World.ownsRow_nil _ _ _ _, hB1⟩
      | true =>
        have h0 : is = true := OK.out
        subst h0
        have hL := YK.out (by trivial)
        subst hL
        obtain ⟨f0, f7⟩ := NF.out (by trivial)
        have FI2 : Hid _ := FI.out (by trivial) f0 f7
        have ST2 : Hid _ := ST.out (by trivial) f0 f7
        have PU2 : Hid _ := PU.out (by trivial) f0 f7
        have h20 := H20.out (by trivial)
        have own0 : (w1.alloc (.cells #[.int .i64 f] 3)).ownsRow w1.heap.size 3 1 (.slice (some ⟨w1.heap.size, 0, none⟩) 1 1) 1 (M4.iv [f]) := by
          have := World.ownsRow_lit (base := w1.heap.size) (e := 3) (size := 1) w1 #[.int .i64 f] 1 (by simp) (by unfold maxLen; omega) (by simp)
          simpa [M4.iv] using this
        have OWN0 : Hid ((w1.alloc (.cells #[.int .i64 f] 3)).ownsRow w1.heap.size 3 1 (.slice (some ⟨w1.heap.size, 0, none⟩) 1 1) 1 (M4.iv [f])) := own0
        have hb2 : Below w1.heap.size w1 (w1.alloc (.cells #[.int .i64 f] 3)) := (Below.refl _ w1).alloc (Nat.le_refl _) _
        have HI1 : Hid (MI2.RowAt w1 a xs) := HI.out.below hB1
        have HS1 : Hid (M4.IntsAt w1 b wo) := M4.IntsAt.below HS.out hB1
        clear NK YK OK NF FI ST PU H20 HI HS own0
        go_wp2
        go_loopw [8] (fun v wr => ∃ (s : List Int) (a1 : Option Addr) (c1 : Nat), v = .slice a1 s.length c1 ∧ Hid (LK.Rb xs f wo s) ∧ wr.ownsRow w1.heap.size 3 1 (.slice a1 s.length c1) s.length (M4.iv s) ∧ Below w1.heap.size w1 wr) (fun v _ => 8 - LK.lenV v)
        case atStart => exact ⟨[f], some ⟨w1.heap.size, 0, none⟩, 1, rfl, ST2, OWN0.out, hb2⟩
        case round =>
          clear OWN0 hb2 ST2
          obtain ⟨bs, a1, c1, rfl, HRB, hown, hb⟩ := hrel
          have hbl : bs.length ≤ 8 := HRB.out.len
          have HOW : Hid _ := hown
          clear hown
          go_wp2
          go_loopw [8, 33] (fun v iv wi => ∃ (k : Nat) (s : List Int) (a2 : Option Addr) (c2 : Nat), iv = .int .i64 k ∧ k ≤ xs.length ∧ v = .slice a2 s.length c2 ∧ Hid (LK.Rb xs f wo s) ∧ Hid (LK.Pass xs wo bs s k) ∧ wi.ownsRow w1.heap.size 3 1 (.slice a2 s.length c2) s.length (M4.iv s) ∧ Below w1.heap.size w1 wi) (fun _ iv _ => (xs.length - intOf iv).toNat)
          case atStart => exact ⟨0, bs, a1, c1, rfl, by omega, rfl, HRB, LK.Pass.start _ _ _, HOW.out, hb⟩
          case round =>
            clear HOW hb
            obtain ⟨k, s, a2, c2, rfl, hk, rfl, HR2, HP, hown, hb⟩ := hrel
            have hsl : s.length ≤ 8 := HR2.out.len
            by_cases hlk : k < xs.length
            · obtain ⟨b1, off, rfl, hlt, c0, c1⟩ := (HI1.out.below hb).at hlk
              have PU3 : Hid _ := fun hw h0 h1 => PU2.out s k hlk hw h0 h1 HR2.out
              have SK : Hid _ := fun h => HP.out.skip h
              have HA : Hid _ := fun h => HP.out.has h
              have PT : Hid _ := HP.out.put
              generalize MI2.at_ xs k = x at *
              obtain ⟨x0, x1⟩ := x
              have HB : Hid (Below w1.heap.size w1 (wr.alloc (.cells #[.int .i64 x0, .int .i64 x1] 38))) := hb.alloc hb.size _
              have HO : Hid (World.ownsRow (wr.alloc (.cells #[.int .i64 x0, .int .i64 x1] 38)) w1.heap.size 3 1 (.slice a2 s.length c2) s.length (M4.iv s)) := hown.alloc _
              have H0 : Hid (Calls Try.prog 25 #[.slice b wo.length cb, .int .i64 (k : Int)] (wr.alloc (.cells #[.int .i64 x0, .int .i64 x1] 38)) fun e w' => e = .returned (.bool (EG.hasB wo (k : Int))) ∧ (wr.alloc (.cells #[.int .i64 x0, .int .i64 x1] 38)) = w') := l1Has_any _ _ wo _ _ hz (M4.IntsAt.below HS1.out HB.out)
              have H1 : Hid (Calls Try.prog 25 #[.slice a2 s.length c2, .int .i64 x0] (wr.alloc (.cells #[.int .i64 x0, .int .i64 x1] 38)) fun e w' => e = .returned (.bool (EG.hasB s x0)) ∧ (wr.alloc (.cells #[.int .i64 x0, .int .i64 x1] 38)) = w') := l1Has_any _ _ s _ _ (by omega) (M5.own_ints HO.out)
              have EW : Hid (EG.hasB wo (k : Int) = true ↔ (k : Int) ∈ wo) := by show _ ↔ _; simp [EG.hasB]
              have ES : Hid (EG.hasB s x0 = true ↔ x0 ∈ s) := by show _ ↔ _; simp [EG.hasB]
              generalize EG.hasB wo (k : Int) = p1 at *
              generalize EG.hasB s x0 = p2 at *
              clear hown hb HP PU2 FI2 HI1 HS1
              go_wp2_with fail
              refine Calls.mono H0.out ?_
              rintro e w3 ⟨rfl, rfl⟩
              clear H0
              cases p1 with
              | true =>
                have HE : Hid _ := SK.out (.inl (EW.out.1 rfl))
                clear SK HA PT PU3 EW ES H1
                go_wp2
                go_roundw
                case rel => exact ⟨k + 1, s, a2, c2, by go_num, by omega, rfl, HR2, HE, HO.out, HB.out⟩
                case measure => simp [intOf]; omega
              | false =>
                have hnw : (k : Int) ∉ wo := fun h => by have := EW.out.2 h; cases this
                have HNW : Hid _ := hnw
                clear hnw EW
                go_wp2_with fail
                refine Calls.mono H1.out ?_
                rintro e w3 ⟨rfl, rfl⟩
                clear H1
                cases p2 with
                | false =>
                  have HE : Hid _ := SK.out (.inr (fun h => by have := ES.out.2 h; cases this))
                  clear SK HA PT PU3 ES
                  go_wp2
                  go_roundw
                  case rel => exact ⟨k + 1, s, a2, c2, by go_num, by omega, rfl, HR2, HE, HO.out, HB.out⟩
                  case measure => simp [intOf]; omega
                | true =>
                  have HIN : Hid (x0 ∈ s) := ES.out.1 rfl
                  clear ES SK
                  by_cases h1 : x1 ∈ s
                  · have HE : Hid _ := HA.out h1
                    have PC : Hid _ := l7Put_has a2 c2 s x1 (wr.alloc (.cells #[.int .i64 x0, .int .i64 x1] 38)) (by omega) HR2.out.up h1 (M5.own_ints HO.out)
                    clear h1 HA PT PU3 HIN
                    go_wp2_with fail
                    refine Calls.mono PC.out ?_
                    rintro e w3 ⟨rfl, rfl⟩
                    clear PC
                    go_wp2
                    go_roundw
                    case rel => exact ⟨k + 1, s, a2, c2, by go_num, by omega, rfl, HR2, HE, HO.out, HB.out⟩
                    case measure => simp [intOf]; omega
                  · have HE : Hid _ := PT
                    have HR3 : Hid _ := PU3.out HNW.out HIN.out h1
                    have PC : Hid _ := l7Put_any w1.heap.size (.slice a2 s.length c2) s x1 (wr.alloc (.cells #[.int .i64 x0, .int .i64 x1] 38)) (by omega) h1 HO.out
                    generalize EG.putS s x1 = s' at *
                    have hsz := HB.out.size
                    clear h1 HA PT PU3 HIN HNW
                    go_wp2_with fail
                    refine Calls.mono PC.out ?_
                    rintro e w3 ⟨a3, c3, rfl, ho3, hb3⟩
                    have R1 : Hid (w3.ownsRow w1.heap.size 3 1 (.slice a3 s'.length c3) s'.length (M4.iv s')) := FL.own_base ho3 HB.out.size
                    have R2 := HB.out.trans (hb3.mono HB.out.size)
                    clear PC ho3 hb3 HO HB
                    go_wp2
                    go_roundw
                    case rel => exact ⟨k + 1, s', a3, c3, by go_num, by omega, rfl, HR3, HE, R1.out, R2⟩
                    case measure => simp [intOf]; omega
            · obtain rfl : k = xs.length := by omega
              have HO : Hid (World.ownsRow wr w1.heap.size 3 1 (.slice a2 s.length c2) s.length (M4.iv s)) := hown
              clear hown HI1 HS1 PU2
              by_cases hle : s.length = bs.length
              · have hsb : s = bs := by
                  rcases HP.out.alt with h | h
                  · exact h
                  · omega
                subst hsb
                have hE := FI2.out s HR2.out HP.out
                subst hE
                have HOB : Hid _ := FL.own_base HO.out hB1.size
                clear HP HR2 HRB FI2 HO hle
                generalize hll : s.length = ll at *
                have HLL : Hid _ := hll
                clear hll
                go_wp2
                go_ret2
                exact ⟨a2, c2, by rw [HLL.out]; rfl, by rw [HLL.out]; exact HOB.out, hB1.trans (hb.mono hB1.size)⟩
              · have hne : ((s.length : Int) == (bs.length : Int)) = false := by simp; omega
                have hlt : bs.length < s.length := by
                  rcases HP.out.alt with h | h
                  · exact absurd (by rw [h]) hle
                  · exact h
                clear HP FI2 hle HRB
                go_wp2
                go_roundw
                case rel => exact ⟨s, a2, c2, rfl, HR2, HO.out, hb⟩
                case measure => simp only [LK.lenV]; omega
end Go.Proofs.Ytcpkcaaplhgioaa
