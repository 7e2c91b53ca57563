import Derived.Test.YtcpkcaaplhgioaaRows
import Derived.Test.YtcpkcaaplhgioaaCLinksD
import Derived.Test.YtcpkcaaplhgioaaMCurNew
import Derived.WalkKit
import Derived.WalkSpells
import Derived.WalkLawsBesides
import Derived.Outline
import Derived.Test.YtcpkcaaplhgioaaCPick
import Derived.Test.YtcpkcaaplhgioaaCWaysS
import Derived.Test.YtcpkcaaplhgioaaCIsWay
import Derived.Test.YtcpkcaaplhgioaaMRB
import Derived.Test.YtcpkcaaplhgioaaMAA
import Derived.Test.YtcpkcaaplhgioaaCHasI
import Derived.Test.YtcpkcaaplhgioaaM4
import Derived.Deep.QuietTactic
import Derived.BigQuiet
import Derived.Test.YtcpkcaaplhgioaaCDrawIs
import Derived.Test.YtcpkcaaplhgioaaCReached
import Derived.Test.YtcpkcaaplhgioaaCApart9
/- DrawReachedBy: links, a node and some numbers, drawn. -/
namespace Go.Proofs.Ytcpkcaaplhgioaa
open Go.RowKit
set_option linter.unusedSimpArgs false in
set_option maxHeartbeats 1600000 in
set_option maxRecDepth 100000 in
theorem drawReached_any (a : Option Addr) (zs : List Int) (cap : Nat) (w : World) (hz : zs.length ≤ 140737488355328) (hb : MC.BytesAt w w.heap.size a zs) :
    Calls Try.prog 10 #[.slice a zs.length cap] w fun e w' => ∃ a1 c1 xs f a2 c2 wo, e = .returned (.tuple #[.slice a1 (List.length xs) c1, .int .i64 f, .slice a2 (List.length wo) c2]) ∧ xs.length ≤ 21 ∧ wo.length ≤ 21 ∧ MI2.RowAt w' a1 xs ∧ M4.IntsAt w' a2 wo ∧ Below w.heap.size w w' := by
  obtain ⟨i0, hi, hz0, hz1, hz2⟩ := info_parts Try.info3
  go_enter Try.func10, Try.ntmps10
  go_wp2_with fail
  refine (links_any w.heap.size a zs cap 0 _ hz (by omega) (cur_new hb)).mono ?_
  rintro e w1 ⟨a1, c1, xs, rfl, hxl, hX, hc1, ho1⟩
  have hplt := hc1.lt
  have hXb : w1.ownsRow (w.heap.size + 1) 38 2 (.slice a1 xs.length c1) xs.length (MI2.flat xs) := by
    refine ⟨hX.1, ?_⟩
    rcases hX.2 with h | ⟨g, c2, cur, e1, hg, rest⟩
    · exact .inl h
    · exact .inr ⟨g, c2, cur, e1, by simp at hg; omega, rest⟩
  have HX : Hid (World.ownsRow w1 (w.heap.size + 1) 38 2 (.slice a1 xs.length c1) xs.length (MI2.flat xs)) := hXb
  have hB1 := new_below rfl ho1
  clear hX hXb ho1 hb
  go_wp2_with fail
  go_loopw [7, 8, 16] (fun v _ iv wr => ∃ (k : Nat) (l : List Int), iv = .int .i64 k ∧ k ≤ xs.length ∧ l.length ≤ k ∧ wr.ownsRow w1.heap.size 3 1 v l.length (M4.iv l) ∧ MC.Cur wr w.heap.size a zs cap (100 + 2 * k) ∧ MC.Only w.heap.size w1 wr) (fun _ _ iv _ => (xs.length - intOf iv).toNat)
  case atStart => exact ⟨0, [], rfl, by omega, by simp, World.ownsRow_nil _ _ _ _, hc1.more (by omega), MC.Only.refl _ _⟩
  case round =>
    clear hc1
    obtain ⟨k, l, rfl, hk, hl, hown, hcr, hon⟩ := hrel
    have hws := hon.size
    by_cases hkn : k < xs.length
    · have kn : (k : Int) < (xs.length : Int) := by omega
      go_wp2_with fail
      refine (one_any w.heap.size a zs cap (100 + 2 * k) _ _ hz (by omega) hcr).mono ?_
      rintro e w2 ⟨b, rfl, hc2, ho2⟩
      have hownW := MC.own_only hown ho2 hplt
      have hon2 := hon.trans ho2
      have hs2 := hon2.size
      clear ho2 hown hcr hon
      cases b with
      | false =>
        go_wp2
        go_roundw
        case rel => exact ⟨k + 1, l, by go_num, by omega, by omega, hownW, hc2, hon2⟩
        case measure => simp [intOf]; omega
      | true =>
        go_wp2_with (at_builtin; refine wpList_append_own _ rfl _ _ 24 rfl w1.heap.size 3 i0 (.int .i64 0) 1 8 Try.underlying24 hi hz0 hz1 hz2 rfl (by decide) _ _ _ rfl (hownW.alloc _) ⟨w2.heap.size, 0, none⟩ 1 1 [.int .i64 (k : Int)] rfl rfl ?c1 ?c2 ?c3 ?c4 ?c5 ?_)
        case c1 => exact M2.new1 _ _ _
        case c2 => exact M2.one1 _ _
        case c3 => unfold maxLen; omega
        case c4 => omega
        case c5 => simp; omega
        intro v' wn hown1 hgrow _
        have R1 : wn.ownsRow w1.heap.size 3 1 v' (l ++ [(k : Int)]).length (M4.iv (l ++ [(k : Int)])) := by simpa [M4.iv] using hown1
        have R2 := (hc2.alloc _).grown hgrow (fun j hj => by have := (hownW.lt j hj).1; omega)
        have R3 := (hon2.alloc _).grown hgrow (fun j hj => (hownW.lt j hj).1)
        have hl2 : (l ++ [(k : Int)]).length ≤ k + 1 := by simp; omega
        clear hown1 hgrow hownW
        generalize l ++ [(k : Int)] = l2 at *
        go_wp2
        go_roundw
        case rel => exact ⟨k + 1, l2, by go_num, by omega, by omega, R1, R2, R3⟩
        case measure => simp [intOf]; omega
    · have hkl : k = xs.length := by omega
      have hnl : ¬ ((k : Int) < (xs.length : Int)) := by omega
      obtain ⟨av, lc, hv⟩ := M5.own_view hown
      rw [hv.1] at hown ⊢
      clear hv hkl
      go_wp2_with fail
      refine (pick_any w.heap.size a zs cap (100 + 2 * k) _ _ hz (by omega) hcr).mono ?_
      rintro e w2 ⟨r, rfl, _, _, hc2, ho2⟩
      have hownW := MC.own_only hown ho2 hplt
      have hon2 := hon.trans ho2
      have hX2 := MC.own_only HX.out hon2 (by omega)
      obtain ⟨a9, c9, e9, hR9⟩ := LK.own_row2 hX2
      simp only [Value.slice.injEq] at e9
      obtain ⟨rfl, -, -⟩ := e9
      have hI := M5.own_ints hownW
      have hB2 := hB1.trans (hon2.below (Nat.le_refl _) (by omega))
      have hl21 : l.length ≤ 21 := by omega
      clear hown ho2 hcr hon hX2 hownW hc2 HX
      go_wp2
      go_ret3
      exact ⟨a1, c1, xs, (r : Int), av, lc, l, rfl, hxl, hl21, hR9, hI, hB2⟩
end Go.Proofs.Ytcpkcaaplhgioaa

/- DrawAreApart: rows of numbers, drawn. -/
namespace Go.Proofs.Ytcpkcaaplhgioaa
open Go.RowKit

set_option linter.unusedSimpArgs false in
set_option maxHeartbeats 1600000 in
set_option maxRecDepth 100000 in
theorem drawApart_any (a : Option Addr) (zs : List Int) (cap : Nat) (w : World) (hz : zs.length ≤ 140737488355328) (hb : MC.BytesAt w w.heap.size a zs) :
    Calls Try.prog 13 #[.slice a zs.length cap] w fun e w' => ∃ a1 c1 ws, e = .returned (.slice a1 (List.length ws) c1) ∧ ws.length ≤ 3 ∧ NR.tot ws ≤ 9 ∧ NR.RowsAt w' a1 ws ∧ Below w.heap.size w w' := by
  obtain ⟨i0, hi, hz0, hz1, hz2⟩ := info_parts Try.info3
  obtain ⟨i1, hi', hz0', hz1', hz2'⟩ := info_parts Try.infoISS
  go_enter Try.func13, Try.ntmps13
  go_wp2_with fail
  refine (pick_any w.heap.size a zs cap 0 _ _ hz (by omega) (cur_new hb)).mono ?_
  rintro e w1 ⟨r, rfl, hr, _, hc1, ho1⟩
  have hr4 : r < 4 := by omega
  have hplt := hc1.lt
  have hB1 := new_below rfl ho1
  clear hr ho1 hb
  go_wp2_with fail
  go_loopw [4, 5, 6, 7] (fun v nv _ _ wr => ∃ (m : Nat) (ds : List (List Int)) (AA : Nat → Option Addr) (CC : Nat → Nat) (M' : Nat), nv = .int .i64 m ∧ ds.length + m ≤ 3 ∧ NR.tot ds ≤ 3 * ds.length ∧ Hid (NR.Own 24 wr w1.heap.size v ds AA CC) ∧ Hid (MC.Cur wr w.heap.size a zs cap M') ∧ M' + 10 * m ≤ 100 ∧ MC.Only w.heap.size w1 wr) (fun _ nv _ _ _ => (intOf nv).toNat)
  case atStart => exact ⟨r, [], fun _ => none, fun _ => 0, 2, rfl, by simp; omega, by simp [NR.tot], NR.Own.nil _ _ _ _ _, hc1.more (by omega), by omega, MC.Only.refl _ _⟩
  case round =>
    clear hc1
    obtain ⟨m, ds, AA, CC, M', rfl, hm, ht, HOW, HCR, hMr, hon⟩ := hrel
    rename World => W0
    have hsW := hon.size
    by_cases hm0 : 0 < m
    · have m0 : (0 : Int) < (m : Int) := by omega
      go_wp2_with fail
      refine (pick_any w.heap.size a zs cap M' _ _ hz (by omega) HCR.out).mono ?_
      rintro e w3 ⟨r3, rfl, hr3, _, hc3, ho3⟩
      have hr34 : r3 < 4 := by omega
      have hon3 := hon.trans ho3
      have HOW3 : Hid (NR.Own 24 w3 w1.heap.size _ ds AA CC) := HOW.out.only ho3 hplt
      have hs3 := hon3.size
      clear hr3 ho3 HOW HCR hon
      go_wp2_with fail
      go_loopw [6, 7] (fun v nv wr => ∃ (j : Nat) (l : List Int) (MJ2 : Nat), nv = .int .i64 j ∧ l.length + j ≤ 3 ∧ wr.ownsRow w3.heap.size 3 1 v l.length (M4.iv l) ∧ MC.Cur wr w.heap.size a zs cap MJ2 ∧ MJ2 + 2 * j ≤ M' + 8 ∧ MC.Only w.heap.size w3 wr) (fun _ nv _ => (intOf nv).toNat)
      case atStart => exact ⟨r3, [], M' + 2, rfl, by simp; omega, World.ownsRow_nil _ _ _ _, hc3, by omega, MC.Only.refl _ _⟩
      case round =>
        clear hc3
        obtain ⟨j, l, MJ2, rfl, hj, hown, hcr, hM2, hon4⟩ := hrel
        rename World => W4
        have hs4 := hon4.size
        by_cases hj0 : 0 < j
        · have j0 : (0 : Int) < (j : Int) := by omega
          go_wp2_with fail
          refine (pick_any w.heap.size a zs cap MJ2 _ _ hz (by omega) hcr).mono ?_
          rintro e w5 ⟨r5, rfl, _, _, hc5, ho5⟩
          have hownW := MC.own_only hown ho5 (by omega)
          have hon5 := hon4.trans ho5
          have hs5 := hon5.size
          clear ho5 hown hcr hon4
          go_wp2_with (at_builtin; refine wpList_append_own _ rfl _ _ 24 rfl w3.heap.size 3 i0 (.int .i64 0) 1 8 Try.underlying24 hi hz0 hz1 hz2 rfl (by decide) _ _ _ rfl (hownW.alloc _) ⟨w5.heap.size, 0, none⟩ 1 1 [.int .i64 (r5 : Int)] rfl rfl ?c1 ?c2 ?c3 ?c4 ?c5 ?_)
          case c1 => exact M2.new1 _ _ _
          case c2 => exact M2.one1 _ _
          case c3 => unfold maxLen; omega
          case c4 => omega
          case c5 => simp; omega
          intro v' wn hown1 hgrow _
          have R1 : wn.ownsRow w3.heap.size 3 1 v' (l ++ [(r5 : Int)]).length (M4.iv (l ++ [(r5 : Int)])) := by simpa [M4.iv] using hown1
          have R2 := (hc5.alloc _).grown hgrow (fun j hj => by have := (hownW.lt j hj).1; omega)
          have R3 := (hon5.alloc _).grown hgrow (fun j hj => (hownW.lt j hj).1)
          have hl2 : (l ++ [(r5 : Int)]).length = l.length + 1 := by simp
          clear hown1 hgrow hownW
          generalize l ++ [(r5 : Int)] = l2 at *
          go_wp2
          go_roundw
          case rel => exact ⟨j - 1, l2, _, by go_num, by omega, R1, R2, by omega, R3⟩
          case measure => simp [intOf]; omega
        · obtain rfl : j = 0 := by omega
          obtain ⟨a5, c5, hv⟩ := M5.own_view hown
          rw [hv.1] at hown ⊢
          have HI5 : Hid (NR.In W4 w3.heap.size a5 l) := NR.In.of_own hown
          have HOW5 : Hid (NR.Own 24 W4 w1.heap.size _ ds AA CC) := HOW3.out.only hon4 hplt
          have HLT : Hid (∀ j, j < ds.length → NR.rw_ ds j ≠ [] → ∀ g, AA j = some ⟨g, 0, none⟩ → g < w3.heap.size) := fun j hj h0 g hg => by
            have r := HOW3.out.row j hj
            rw [hg] at r; exact (r.lt h0).2
          have HC5 : Hid (MC.Cur W4 w.heap.size a zs cap MJ2) := hcr
          have hon5 := hon3.trans hon4
          have hl3 : l.length ≤ 3 := by omega
          clear hv hown HOW3 hcr hon4 hon3
          generalize hln : l.length = ln at *
          have HLL : Hid _ := hln
          clear hln
          go_wp2_with (at_builtin; go_loud (refine wpList_append_own _ rfl _ _ 33 rfl w1.heap.size 24 i1 (.slice none 0 0) 1 24 Try.underlying33 hi' hz0' hz1' hz2' rfl (by decide) _ _ _ rfl (World.ownsRow.alloc HOW5.out.out _) ⟨W4.heap.size, 0, none⟩ 1 1 [.slice a5 ln c5] rfl rfl ?c1 ?c2 ?c3 ?c4 ?c5 ?_))
          all_goals try (first | rfl | omega | exact M2.new1 _ _ _ | (intro u hu; simp at hu; subst hu; rfl) | (unfold maxLen; omega) | (simp; omega))
          intro v' w6 hown6 hgrow6 _
          have hold6 : ∀ j, j < ds.length → NR.In w6 w1.heap.size (AA j) (NR.rw_ ds j) := fun j hj => by
            have r := HOW5.out.row j hj
            have ra : NR.In (W4.alloc (.cells #[.slice a5 ln c5] 24)) w1.heap.size (AA j) (NR.rw_ ds j) := r.below ((Below.refl _ W4).alloc (Nat.le_refl _) _)
            exact LK.in_grown ra hgrow6 (fun h0 => LK.out_ne (by decide) HOW5.out.out r h0)
          have hnew6 : NR.In w6 w1.heap.size a5 l := by
            have ra : NR.In (W4.alloc (.cells #[.slice a5 ln c5] 24)) w3.heap.size a5 l := NR.In.below HI5.out ((Below.refl _ W4).alloc (Nat.le_refl _) _)
            exact (LK.in_grown ra hgrow6 (fun h0 => LK.out_ne (by decide) HOW5.out.out HI5.out h0)).mono (by omega)
          have hfar6 : l ≠ [] → ∀ j, j < ds.length → NR.rw_ ds j ≠ [] → AA j ≠ a5 := fun h0 j hj hj0 ea => by
            obtain ⟨g, hg⟩ := (HOW5.out.row j hj).some hj0
            have h1 := HLT.out j hj hj0 g hg
            have r := HI5.out
            rw [← ea, hg] at r
            have := (NR.In.lt r h0).1
            omega
          have hOW6 := HOW5.out.snoc (w' := w6) (v' := v') (l := l) (a := a5) (c := c5) hold6 hnew6 hfar6 (by rw [HLL.out]; exact hown6)
          have hC6 := (HC5.out.alloc (.cells #[.slice a5 ln c5] 24)).grown hgrow6 (fun j hj => by have := (HOW5.out.out.lt j hj).1; omega)
          have hO6 := (hon5.alloc (.cells #[.slice a5 ln c5] 24)).grown hgrow6 (fun j hj => (HOW5.out.out.lt j hj).1)
          have hl6 : (ds ++ [l]).length = ds.length + 1 := by simp
          have ht6 : NR.tot (ds ++ [l]) ≤ 3 * (ds.length + 1) := by rw [NR.tot_app, NR.tot_one, HLL.out]; omega
          have HOW6 : Hid _ := hOW6
          have HC6 : Hid (MC.Cur w6 w.heap.size a zs cap MJ2) := hC6
          clear hown6 hgrow6 hold6 hnew6 hfar6 hOW6 HOW5 HC5 HI5 HLT hC6 hon5 HLL
          generalize ds ++ [l] = ds2 at *
          go_wp2
          go_roundw
          case rel => exact ⟨m - 1, ds2, _, _, MJ2, by go_num, by omega, by rw [hl6]; exact ht6, HOW6, HC6, by omega, hO6⟩
          case measure => simp [intOf]; omega
    · obtain rfl : m = 0 := by omega
      obtain ⟨a9, c9, hv, hR9⟩ := HOW.out.view
      have HR9 : Hid _ := hR9
      have hB9 := hB1.trans (hon.below (Nat.le_refl _) (by omega))
      have hd3 : ds.length ≤ 3 := by omega
      have ht9 : NR.tot ds ≤ 9 := by omega
      rw [hv]
      clear HOW HCR hR9 hv hon
      go_wp2
      go_ret
      exact ⟨a9, c9, ds, rfl, hd3, ht9, HR9.out, hB9⟩
end Go.Proofs.Ytcpkcaaplhgioaa

/- FnWays as plain facts: a way's end is reached, a way is not empty and has no link twice. -/
namespace Go.Proofs.Ytcpkcaaplhgioaa
open Go.RowKit
namespace LK
/-- No number twice, each below n: n at most. -/
theorem pig : ∀ (n : Nat) (l : List Nat), l.Nodup → (∀ x, x ∈ l → x < n) → l.length ≤ n
  | 0, l, _, h => by
    cases l with
    | nil => simp
    | cons a l => exact absurd (h a (by simp)) (by omega)
  | n + 1, l, hd, h => by
    by_cases hm : n ∈ l
    · have := pig n (l.erase n) (hd.erase n) (fun x hx => by
        have h1 := h x (List.mem_of_mem_erase hx)
        have h2 : x ≠ n := ((List.Nodup.mem_erase_iff hd).1 hx).1
        omega)
      rw [List.length_erase_of_mem hm] at this
      omega
    · have := pig n l hd (fun x hx => by
        have h1 := h x hx
        have h2 : x ≠ n := fun e => hm (e ▸ hx)
        omega)
      omega
theorem wy_seen {xs : List I2} {f p : Int} {way seen : List Int} {k : Nat} (hk : k ≤ way.length) (h : wyUp xs f way k = some (p, seen)) : seen = f :: (way.take k).map (fun i => (MI2.at_ xs i.toNat).a1) ∧ seen.Nodup := by
  induction k generalizing p seen with
  | zero => simp only [wyUp, Option.some.injEq, Prod.mk.injEq] at h; rw [← h.2]; simp
  | succ k ih =>
    have hlt : k < way.length := by omega
    rw [wyUp] at h
    split at h
    · cases h
    · rename_i p' s' e
      obtain ⟨h1, h2⟩ := ih (by omega) e
      split at h
      · rename_i hc
        simp only [Option.some.injEq, Prod.mk.injEq] at h
        have e1 : way.take (k + 1) = way.take k ++ [way.getD k 0] := by
          rw [List.take_add_one, List.getElem?_eq_getElem hlt, List.getD_eq_getElem?_getD, List.getElem?_eq_getElem hlt]; rfl
        constructor
        · rw [← h.2, h1, e1, List.map_append]; rfl
        · rw [← h.2, List.nodup_append]
          refine ⟨h2, by simp, ?_⟩
          intro a ha b hb e
          simp only [List.mem_singleton] at hb
          exact hc.2 (by rw [← hb, ← e]; exact ha)
      · cases h
theorem wy_R {xs : List I2} {f p : Int} {way seen : List Int} (hok : FL.okP (pip xs) = true) (hf : 0 ≤ f ∧ f ≤ 7) (hin : PN.inUp xs.length way way.length) {k : Nat} (hk : k ≤ way.length) (h : wyUp xs f way k = some (p, seen)) : R xs f [] p := by
  induction k generalizing p seen with
  | zero => simp only [wyUp, Option.some.injEq, Prod.mk.injEq] at h; rw [← h.1]; exact R_start hok hf
  | succ k ih =>
    rw [wyUp] at h
    split at h
    · cases h
    · rename_i p' s' e
      have h1 := ih (by omega) e
      split at h
      · rename_i hc
        simp only [Option.some.injEq, Prod.mk.injEq] at h
        have hi := hin k (by omega)
        rw [← h.1]
        exact R_closed hok hf (by omega) (by simp) (by rw [hc.1]; exact h1)
      · cases h
structure WayC (xs : List I2) (f t : Int) (way : List Int) : Prop where
  rb : rbOk xs f [] = true
  has : t ∈ rbL xs f []
  some_ : 0 < way.length
  ok : NR.apOk [way] = true
  apart : NR.apB [way] = true
theorem wayC {xs : List I2} {f t : Int} {way : List Int} (hb : iwB xs f t way = true) : WayC xs f t way := by
  simp only [iwB, iwOk, Bool.and_eq_true] at hb
  obtain ⟨⟨ha, hp⟩, hw⟩ := hb
  have A := FL.ask_is ha
  have hin := (PN.inP_iff _ _).1 hp
  have hf : 0 ≤ f ∧ f ≤ 7 := ⟨A.f0, A.f7⟩
  have hrb : rbOk xs f [] = true := by
    unfold rbOk
    rw [A.ok, show FL.nodeOk f = true from by simp [FL.nodeOk, hf], EG.rises_yes (fun i hi => by simp at hi)]; rfl
  have hxl : xs.length ≤ 20 := by have := A.len; rwa [pip_len] at this
  unfold isW at hw
  split at hw
  · cases hw
  · rename_i p seen e
    simp only [beq_iff_eq] at hw
    subst hw
    obtain ⟨s1, s2⟩ := wy_seen (Nat.le_refl _) e
    rw [List.take_length] at s1
    have hnd : way.Nodup := by
      rw [s1, List.nodup_cons] at s2
      exact (List.pairwise_map.1 s2.2).imp (fun h e => h (by rw [e]))
    have hlen : way.length ≤ 20 := by
      have := pig 20 (way.map Int.toNat) ?_ ?_
      · simpa using this
      · rw [List.Nodup, List.pairwise_map]
        refine List.Pairwise.imp_of_mem ?_ hnd
        intro x y hx hy hne e
        have := List.all_eq_true.1 hp x hx
        have := List.all_eq_true.1 hp y hy
        simp only [decide_eq_true_eq] at *
        omega
      · intro x hx
        obtain ⟨y, hy, rfl⟩ := List.mem_map.1 hx
        have := List.all_eq_true.1 hp y hy
        simp only [decide_eq_true_eq] at this
        omega
    have hok : NR.apOk [way] = true := by
      unfold NR.apOk NR.rowsOk; simp [hlen]
    refine ⟨hrb, ?_, ?_, hok, ?_⟩
    · rw [rb_yes hrb, side_R]; exact wy_R A.ok hf hin (Nat.le_refl _) e
    · rcases Nat.eq_zero_or_pos way.length with h0 | h0
      · obtain rfl := List.eq_nil_of_length_eq_zero h0
        simp only [List.length_nil, wyUp, Option.some.injEq, Prod.mk.injEq] at e
        exact absurd e.1 A.ne
      · exact h0
    · unfold NR.apB NR.nodB
      rw [hok]; simp [hnd]
/-- What is reached goes on along the links that are not left out. -/
theorem rb_closed {xs : List I2} {f : Int} {wo : List Int} (h : rbOk xs f wo = true) {k : Nat} (hk : k < xs.length) (hw : (k : Int) ∉ wo) (h0 : (MI2.at_ xs k).a0 ∈ rbL xs f wo) : (MI2.at_ xs k).a1 ∈ rbL xs f wo := by
  have h' := h
  simp only [rbOk, Bool.and_eq_true] at h'
  rw [rb_yes h, side_R] at h0 ⊢
  exact R_closed h'.1 (FL.node_yes h'.2.1) hk hw h0
end LK
end Go.Proofs.Ytcpkcaaplhgioaa

/- The laws' has: whether a number is in a row. -/
namespace Go.Proofs.Ytcpkcaaplhgioaa
open Go.RowKit
set_option maxHeartbeats 1600000 in
set_option maxRecDepth 100000 in
theorem hasL_any (a : Option Addr) (cap : Nat) (zs : List Int) (x : Int) (w : World) (ho : zs.length ≤ 1048576) (hos : M4.IntsAt w a zs) :
    Calls Try.prog 8 #[.slice a zs.length cap, .int .i64 x] w fun e w' => e = .returned (.bool (EG.hasB zs x)) ∧ w = w' := by
  go_enter Try.func8, Try.ntmps8
  go_wp2
  go_loopw [9] (fun iv wr => ∃ k : Nat, iv = .int .i64 k ∧ k ≤ zs.length ∧ Hid (EG.noUp zs x k) ∧ w = wr) (fun iv _ => (zs.length - intOf iv).toNat)
  case atStart => exact ⟨0, rfl, by omega, show Hid _ from fun j hj => by omega, rfl⟩
  case round =>
    obtain ⟨k, rfl, hk, hT, rfl⟩ := hrel
    by_cases hlk : k < zs.length
    · obtain ⟨b1, off1, rfl, hlt1, hc1⟩ := hos.at hlk
      have HY : Hid _ := fun h => EG.hasB_yes (x := x) hlk h
      have HN : Hid _ := fun h => EG.noUp_succ hT.out (k := k) h
      clear hos hT
      generalize zs.getD k 0 = y at *
      by_cases hxy : y = x
      · have hF : Hid _ := HY.out hxy
        subst hxy
        clear HY HN
        go_wp2
        go_ret
        exact ⟨retB7 hF.out.symm, rfl⟩
      · have hT : Hid _ := HN.out hxy
        clear HY HN
        go_wp2
        go_roundw
        case rel => exact ⟨k + 1, by go_num, by omega, hT, trivial⟩
        case measure => simp [intOf]; omega
    · obtain rfl : k = zs.length := by omega
      have hF : Hid _ := EG.hasB_no hT.out
      clear hos hT
      go_wp2
      go_ret
      exact ⟨retB7 hF.out.symm, rfl⟩
end Go.Proofs.Ytcpkcaaplhgioaa

/- The laws' sameInts tells whether two slices hold the same numbers. -/
namespace Go.Proofs.Ytcpkcaaplhgioaa
open Go.RowKit
set_option maxHeartbeats 800000 in
set_option maxRecDepth 100000 in
theorem sameInts_any (a b : Option Addr) (ca cb : Nat) (xs ys : List Int) (w : World) (hx : xs.length ≤ 140737488355328) (hy : ys.length ≤ 140737488355328) (hax : M4.IntsAt w a xs) (hay : M4.IntsAt w b ys) :
    Calls Try.prog 12 #[.slice a xs.length ca, .slice b ys.length cb] w fun e w' => e = .returned (.bool (decide (xs = ys))) ∧ Below w.heap.size w w' := by
  by_cases hl : xs.length = ys.length
  · have hne : ((xs.length : Int) != (ys.length : Int)) = false := by simp [hl]
    have l1 : xs.length ≤ ys.length := by omega
    have HL : Hid (xs.length = ys.length) := hl
    clear hl
    go_enter Try.func12, Try.ntmps12
    go_wp2
    go_loopw [5, 13] (fun _ iv wr => ∃ k : Nat, iv = .int .i64 k ∧ k ≤ xs.length ∧ Hid (xs.take k = ys.take k) ∧ Below w.heap.size w wr) (fun _ iv _ => (xs.length - intOf iv).toNat)
    case atStart => exact ⟨0, rfl, by omega, rfl, Below.refl _ _⟩
    case round =>
      obtain ⟨k, rfl, hk, hT, hb⟩ := hrel
      by_cases hl : k < xs.length
      · have hly : k < ys.length := by omega
        obtain ⟨b1, off1, rfl, hlt1, hc1⟩ := (hax.below hb).at hl
        obtain ⟨b2, off2, rfl, hlt2, hc2⟩ := (hay.below hb).at hly
        clear hax hay
        obtain ⟨x, hx'⟩ : ∃ x, x = xs.getD k 0 := ⟨_, rfl⟩
        obtain ⟨y, hy'⟩ : ∃ y, y = ys.getD k 0 := ⟨_, rfl⟩
        rw [← hx'] at hc1
        rw [← hy'] at hc2
        have HX : Hid (x = xs.getD k 0) := hx'
        have HY : Hid (y = ys.getD k 0) := hy'
        clear hx' hy'
        by_cases hxy : x = y
        · have hT' : Hid (xs.take (k + 1) = ys.take (k + 1)) := by
            show _ = _
            rw [M4.take_snoc xs k hl, M4.take_snoc ys k hly, hT.out, ← HX.out, ← HY.out, hxy]
          subst hxy
          go_wp2
          go_quiet (fail)
          go_wp2
          go_roundw
          case rel => exact ⟨k + 1, by go_num, by omega, hT', below_drewN hb _⟩
          case measure => simp [intOf]; omega
        · have hbe : (x != y) = true := by simp [hxy]
          have hF : Hid (decide (xs = ys) = false) := by
            show _ = _
            simp only [decide_eq_false_iff_not]
            exact M4.take_ne xs ys k (by rw [← HX.out, ← HY.out]; exact hxy)
          clear hxy
          go_wp2
          go_quiet (fail)
          go_wp2
          go_ret
          exact ⟨M4.ret_bool hF.out.symm, below_drewN hb _⟩
      · obtain rfl : k = xs.length := by omega
        have hF : Hid (decide (xs = ys) = true) := by
          show _ = _
          simp only [decide_eq_true_eq]
          exact M4.take_eq xs ys HL.out hT.out
        go_wp2
        go_ret
        exact ⟨M4.ret_bool hF.out.symm, hb⟩
  · have hne : ((xs.length : Int) != (ys.length : Int)) = true := by simp; omega
    have hF : Hid (decide (xs = ys) = false) := by
      show _ = _
      simp only [decide_eq_false_iff_not]
      exact fun e => hl (by rw [e])
    clear hl
    go_enter Try.func12, Try.ntmps12
    go_wp2
    go_ret
    exact ⟨M4.ret_bool hF.out.symm, Below.refl _ _⟩
end Go.Proofs.Ytcpkcaaplhgioaa

/- The law FnWays answers true at every argument (laid by tools/gen_lfnways.py). -/
namespace Go.Proofs.Ytcpkcaaplhgioaa
open Go.RowKit
theorem NR.RowsAt.one {W : World} {a : Option Addr} {c : Nat} {T : TypeId} {way : List Int} (hl : way.length ≤ maxLen) (h : M4.IntsAt W a way) : NR.RowsAt (W.alloc (.cells #[.slice a way.length c] T)) (some ⟨W.heap.size, 0, none⟩) [way] := by
  refine ⟨.inr ⟨W.heap.size, 0, rfl, by simp, fun j hj => ?_⟩⟩
  obtain rfl : j = 0 := by simp at hj; omega
  exact ⟨a, c, World.cell?_alloc_at _ _ _ _ (by rfl), hl, h.below ((Below.refl _ _).alloc (Nat.le_refl _) _)⟩
theorem EG.hasB_mem {zs : List Int} {x : Int} (h : x ∈ zs) : EG.hasB zs x = true := by rw [EG.hasB, decide_eq_true_eq]; exact h
theorem EG.hasB_not {zs : List Int} {x : Int} (h : x ∉ zs) : EG.hasB zs x = false := by rw [EG.hasB, decide_eq_false_iff_not]; exact h
set_option linter.unusedSimpArgs false in
set_option maxHeartbeats 3200000 in
set_option maxRecDepth 100000 in
theorem lawFnWays_any (a b : Option Addr) (zs ys : List Int) (ca cb : Nat) (w : World) (hz : zs.length ≤ 140737488355328) (hy : ys.length ≤ 140737488355328) (hbz : MC.BytesAt w w.heap.size a zs) (hby : MC.BytesAt w w.heap.size b ys) :
    Calls Try.prog 3 #[.slice a zs.length ca, .slice b ys.length cb] w fun e w' => e = .returned (.bool true) ∧ Below w.heap.size w w' := by
  by_cases h20 : zs.length + ys.length ≤ 1048576
  · have HBY : Hid (∀ W : World, Below w.heap.size w W → MC.BytesAt W W.heap.size b ys) := fun W h => (hby.only (q := w.heap.size) (MC.Only.of_below h) (Nat.le_refl _) (Nat.le_refl _)).up h.size
    clear hby
    go_enter Try.func3, Try.ntmps3
    go_wp2_with fail
    refine (drawIsWay_any a zs ca _ hz hbz).mono ?_
    rintro e w1 ⟨a1, c1, xs, f, t, a2, c2, way, rfl, hx, hw, hR, hI, B1⟩
    clear hbz
    have hml : (1048576 : Nat) ≤ maxLen := by unfold maxLen; omega
    have II : Hid _ := implIsWay_any a1 a2 c1 c2 xs f t way w1 (by omega) hw hR hI
    have IS : Hid (∀ W : World, Below w1.heap.size w1 W → _) := fun W h => specIsWay_any a1 a2 c1 c2 xs f t way W (by omega) hw (hR.below h) (hI.below h)
    have YC : Hid (LK.iwB xs f t way = true → LK.iwOk xs f t way = true ∧ 0 < way.length ∧ t ∈ LK.rbL xs f [] ∧ (LK.rbL xs f []).length ≤ 1048576 ∧
        (∀ W : World, Below w1.heap.size w1 W → Calls Try.prog 7 #[.slice a1 xs.length c1, .int .i64 f, .slice none 0 0] W fun e w' => ∃ a3 c3, e = .returned (.tuple #[.slice a3 (LK.rbL xs f []).length c3, .bool true]) ∧ M4.IntsAt w' a3 (LK.rbL xs f []) ∧ Below W.heap.size W w') ∧
        (∀ W : World, Below w1.heap.size w1 W → Calls Try.prog 9 #[.slice (some ⟨W.heap.size, 0, none⟩) 1 1] (W.alloc (.cells #[.slice a2 way.length c2] 24)) fun e w' => e = .returned (.tuple #[.bool true, .bool true]) ∧ Below (W.heap.size + 1) (W.alloc (.cells #[.slice a2 way.length c2] 24)) w')) := fun h => by
      have C := LK.wayC h
      have hok : LK.iwOk xs f t way = true := by have := h; simp only [LK.iwB, Bool.and_eq_true] at this; exact this.1
      refine ⟨hok, C.some_, C.has, LK.rbL_len _ _ _, fun W hb => ?_, fun W hb => ?_⟩
      · refine (implReached_any a1 none c1 0 xs f [] W (by omega) (by simp) (hR.below hb) (.inl rfl)).mono ?_
        rintro e w' ⟨a3, c3, rfl, o, b⟩
        exact ⟨a3, c3, by rw [C.rb], M5.own_ints o, b⟩
      · refine (implApart_any (some ⟨W.heap.size, 0, none⟩) 1 [way] _ (by simp) (by rw [NR.tot_one]; exact hw) (NR.RowsAt.one (Nat.le_trans hw hml) (hI.below hb))).mono ?_
        rintro e w' ⟨rfl, b⟩
        refine ⟨by rw [C.ok, C.apart], ?_⟩
        simpa using b
    generalize LK.rbL xs f [] = L at *
    generalize LK.iwB xs f t way = x at *
    generalize LK.iwOk xs f t way = ok at *
    clear hR hI hml
    generalize way.length = wl at *
    go_wp2_with fail
    refine Calls.mono II.out ?_
    rintro e w2 ⟨rfl, b2⟩
    have IS2 : Hid _ := IS.out w2 b2
    have B2 := B1.trans (b2.mono B1.size)
    clear II IS B1
    go_wp2_with fail
    refine Calls.mono IS2.out ?_
    rintro e w3 ⟨rfl, b3⟩
    have b13 : Below w1.heap.size w1 w3 := b2.trans (b3.mono b2.size)
    have B3 := B2.trans (b3.mono B2.size)
    clear IS2 b2 b3 B2
    cases x with
    | true =>
      obtain ⟨rfl, hwl, hin, hLl, RI, AI⟩ := YC.out rfl
      have HAI : Hid _ := AI
      have HIN : Hid (EG.hasB L t = true) := EG.hasB_mem hin
      have RI2 : Hid _ := RI w3 b13
      have hwl0 : ((wl : Int) == 0) = false := by simp; omega
      clear YC AI hin RI
      go_wp2_with fail
      refine Calls.mono RI2.out ?_
      rintro e w4 ⟨a3, c3, rfl, hI3, b4⟩
      have HA : Hid _ := hasL_any a3 c3 L t w4 hLl hI3
      rw [HIN.out] at HA
      have b14 : Below w1.heap.size w1 w4 := b13.trans (b4.mono b13.size)
      have B4 := B3.trans (b4.mono B3.size)
      have AI2 : Hid _ := HAI.out w4 b14
      clear RI2 hI3 HIN HAI b13 b4 b14 B3
      go_wp2_with fail
      refine Calls.mono HA.out ?_
      rintro e w5 ⟨rfl, rfl⟩
      clear HA
      go_wp2_with fail
      refine Calls.mono AI2.out ?_
      rintro e w6 ⟨rfl, b6⟩
      have BX : Below w.heap.size w w6 := (B4.alloc B4.size (.cells #[.slice a2 wl c2] 24)).trans (b6.mono (by have := B4.size; omega))
      clear AI2 b6 B4
      go_wp2_with fail
      refine (drawReached_any b ys cb _ hy (HBY.out _ BX)).mono ?_
      rintro e v1 ⟨a1, c1, xs, f, a2, c2, wo, rfl, hx, hwo, hR, hI, b1⟩
      have B1 := BX.trans (b1.mono BX.size)
      clear b1 BX
      have RI : Hid _ := implReached_any a1 a2 c1 c2 xs f wo v1 (by omega) (by omega) hR hI
      have RS : Hid (∀ W : World, Below v1.heap.size v1 W → _) := fun W h => specReached_any a1 a2 c1 c2 xs f wo W (by omega) (by omega) (hR.below h) (hI.below h)
      have RC : Hid (LK.rbOk xs f wo = true → ∀ k, k < xs.length → (k : Int) ∉ wo → (MI2.at_ xs k).a0 ∈ LK.rbL xs f wo → (MI2.at_ xs k).a1 ∈ LK.rbL xs f wo) := fun h k hk => LK.rb_closed h hk
      have hLl := LK.rbL_len xs f wo
      have HR1 : Hid (MI2.RowAt v1 a1 xs) := hR
      have HI1 : Hid (M4.IntsAt v1 a2 wo) := hI
      generalize LK.rbL xs f wo = L at *
      generalize LK.rbOk xs f wo = ok at *
      clear hR hI
      go_wp2_with fail
      refine Calls.mono RI.out ?_
      rintro e v2 ⟨a3, c3, rfl, o3, b2⟩
      have RS2 : Hid _ := RS.out v2 b2
      have HI3 : Hid (M4.IntsAt v2 a3 L) := M5.own_ints o3
      have B2 := B1.trans (b2.mono B1.size)
      clear RI RS o3 B1
      go_wp2_with fail
      refine Calls.mono RS2.out ?_
      rintro e v3 ⟨a4, c4, rfl, o4, b3⟩
      have SI : Hid _ := sameInts_any a3 a4 c3 c4 L L v3 (by omega) (by omega) (HI3.out.below b3) (M5.own_ints o4)
      have b13 : Below v1.heap.size v1 v3 := b2.trans (b3.mono b2.size)
      have B3 := B2.trans (b3.mono B2.size)
      have HR3 : Hid (MI2.RowAt v3 a1 xs) := HR1.out.below b13
      have HIw : Hid (M4.IntsAt v3 a2 wo) := HI1.out.below b13
      have HIr : Hid (M4.IntsAt v3 a3 L) := HI3.out.below b3
      clear RS2 HI3 o4 b2 b3 b13 B2 HR1 HI1
      go_wp2_with fail
      refine Calls.mono SI.out ?_
      rintro e v4 ⟨rfl, b4⟩
      have B4 := B3.trans (b4.mono B3.size)
      have HR4 : Hid (MI2.RowAt v4 a1 xs) := HR3.out.below b4
      have HIw4 : Hid (M4.IntsAt v4 a2 wo) := HIw.out.below b4
      have HIr4 : Hid (M4.IntsAt v4 a3 L) := HIr.out.below b4
      clear SI B3 HR3 HIw HIr b4
      go_wp2_with fail
      go_loopw [24, 25, 134] (fun _ _ iv wr => ∃ k : Nat, iv = .int .i64 k ∧ k ≤ xs.length ∧ Below v4.heap.size v4 wr) (fun _ _ iv _ => (xs.length - intOf iv).toNat)
      case atStart => exact ⟨0, rfl, by omega, Below.refl _ _⟩
      case round =>
        obtain ⟨k, rfl, hk, hb⟩ := hrel
        rename World => W0
        by_cases hlk : k < xs.length
        · obtain ⟨g1, off1, e1, hlt1, d0, d1⟩ := (HR4.out.below hb).at hlk
          subst e1
          have RK : Hid _ := fun h => RC.out h k hlk
          have kn : (k : Int) < (xs.length : Int) := by omega
          generalize (MI2.at_ xs k).a0 = x0 at *
          generalize (MI2.at_ xs k).a1 = x1 at *
          have HW : Hid (∀ W : World, Below v4.heap.size v4 W → ∀ n : Int, Calls Try.prog 8 #[.slice a2 wo.length c2, .int .i64 n] W fun e w' => e = .returned (.bool (EG.hasB wo n)) ∧ W = w') := fun W h n => hasL_any a2 c2 wo n W (by omega) (HIw4.out.below h)
          have HL : Hid (∀ W : World, Below v4.heap.size v4 W → ∀ n : Int, Calls Try.prog 8 #[.slice a3 L.length c3, .int .i64 n] W fun e w' => e = .returned (.bool (EG.hasB L n)) ∧ W = w') := fun W h n => hasL_any a3 c3 L n W (by omega) (HIr4.out.below h)
          have hba : Below v4.heap.size v4 (W0.alloc (.cells #[.int .i64 x0, .int .i64 x1] 38)) := hb.alloc hb.size _
          have HW1 : Hid _ := HW.out _ hba (k : Int)
          have HL0 : Hid _ := HL.out _ hba x0
          have HL1 : Hid _ := HL.out _ hba x1
          clear HW HL HIw4 HIr4 HR4 RC
          cases ok with
          | false =>
            clear HW1 HL0 HL1 RK
            go_wp2
            go_roundw
            case rel => exact ⟨k + 1, by go_num, by omega, hba⟩
            case measure => simp [intOf]; omega
          | true =>
            by_cases hkw : (k : Int) ∈ wo
            · have h1 := EG.hasB_mem hkw
              rw [h1] at HW1
              clear RK hkw h1 HL0 HL1
              go_wp2_with fail
              refine Calls.mono HW1.out ?_
              rintro e v5 ⟨rfl, rfl⟩
              clear HW1
              go_wp2
              go_roundw
              case rel => exact ⟨k + 1, by go_num, by omega, hba⟩
              case measure => simp [intOf]; omega
            · have h1 := EG.hasB_not hkw
              rw [h1] at HW1
              have RK2 : Hid _ := RK.out rfl hkw
              clear RK hkw h1
              go_wp2_with fail
              refine Calls.mono HW1.out ?_
              rintro e v5 ⟨rfl, rfl⟩
              clear HW1
              by_cases h0 : x0 ∈ L
              · have h2 := EG.hasB_mem h0
                have h3 := EG.hasB_mem (RK2.out h0)
                rw [h2] at HL0
                rw [h3] at HL1
                clear RK2 h0 h2 h3
                go_wp2_with fail
                refine Calls.mono HL0.out ?_
                rintro e v6 ⟨rfl, rfl⟩
                clear HL0
                go_wp2_with fail
                refine Calls.mono HL1.out ?_
                rintro e v6 ⟨rfl, rfl⟩
                clear HL1
                go_wp2
                go_roundw
                case rel => exact ⟨k + 1, by go_num, by omega, hba⟩
                case measure => simp [intOf]; omega
              · have h2 := EG.hasB_not h0
                rw [h2] at HL0
                clear RK2 h0 h2 HL1
                go_wp2_with fail
                refine Calls.mono HL0.out ?_
                rintro e v6 ⟨rfl, rfl⟩
                clear HL0
                go_wp2
                go_roundw
                case rel => exact ⟨k + 1, by go_num, by omega, hba⟩
                case measure => simp [intOf]; omega
        · obtain rfl : k = xs.length := by omega
          have B5 := B4.trans (hb.mono B4.size)
          clear HR4 HIw4 HIr4 RC hb B4
          go_wp2_with fail
          refine (drawApart_any b ys cb _ hy (HBY.out _ B5)).mono ?_
          rintro e v6 ⟨a7, c7, ws, rfl, hws, hto, hRW, b6⟩
          have AI : Hid _ := implApart_any a7 c7 ws v6 (by omega) (by omega) hRW
          have AS : Hid (∀ W : World, Below v6.heap.size v6 W → _) := fun W h => specApart_any a7 c7 ws W (by omega) (by omega) (hRW.below h)
          have B6 := B5.trans (b6.mono B5.size)
          clear hRW b6 B5
          generalize NR.apB ws = p1 at *
          generalize NR.apOk ws = p2 at *
          go_wp2_with fail
          refine Calls.mono AI.out ?_
          rintro e v7 ⟨rfl, b7⟩
          have AS2 : Hid _ := AS.out v7 b7
          have B7 := B6.trans (b7.mono B6.size)
          clear AI AS b7 B6
          go_wp2_with fail
          refine Calls.mono AS2.out ?_
          rintro e v8 ⟨rfl, b8⟩
          have B8 := B7.trans (b8.mono B7.size)
          clear AS2 b8 B7
          go_wp2
          go_ret
          exact ⟨by simp, B8⟩
    | false =>
      have BX := B3
      clear YC B3 b13
      cases ok with
      | true =>
        go_wp2_with fail
        refine (drawReached_any b ys cb _ hy (HBY.out _ BX)).mono ?_
        rintro e v1 ⟨a1, c1, xs, f, a2, c2, wo, rfl, hx, hwo, hR, hI, b1⟩
        have B1 := BX.trans (b1.mono BX.size)
        clear b1 BX
        have RI : Hid _ := implReached_any a1 a2 c1 c2 xs f wo v1 (by omega) (by omega) hR hI
        have RS : Hid (∀ W : World, Below v1.heap.size v1 W → _) := fun W h => specReached_any a1 a2 c1 c2 xs f wo W (by omega) (by omega) (hR.below h) (hI.below h)
        have RC : Hid (LK.rbOk xs f wo = true → ∀ k, k < xs.length → (k : Int) ∉ wo → (MI2.at_ xs k).a0 ∈ LK.rbL xs f wo → (MI2.at_ xs k).a1 ∈ LK.rbL xs f wo) := fun h k hk => LK.rb_closed h hk
        have hLl := LK.rbL_len xs f wo
        have HR1 : Hid (MI2.RowAt v1 a1 xs) := hR
        have HI1 : Hid (M4.IntsAt v1 a2 wo) := hI
        generalize LK.rbL xs f wo = L at *
        generalize LK.rbOk xs f wo = ok at *
        clear hR hI
        go_wp2_with fail
        refine Calls.mono RI.out ?_
        rintro e v2 ⟨a3, c3, rfl, o3, b2⟩
        have RS2 : Hid _ := RS.out v2 b2
        have HI3 : Hid (M4.IntsAt v2 a3 L) := M5.own_ints o3
        have B2 := B1.trans (b2.mono B1.size)
        clear RI RS o3 B1
        go_wp2_with fail
        refine Calls.mono RS2.out ?_
        rintro e v3 ⟨a4, c4, rfl, o4, b3⟩
        have SI : Hid _ := sameInts_any a3 a4 c3 c4 L L v3 (by omega) (by omega) (HI3.out.below b3) (M5.own_ints o4)
        have b13 : Below v1.heap.size v1 v3 := b2.trans (b3.mono b2.size)
        have B3 := B2.trans (b3.mono B2.size)
        have HR3 : Hid (MI2.RowAt v3 a1 xs) := HR1.out.below b13
        have HIw : Hid (M4.IntsAt v3 a2 wo) := HI1.out.below b13
        have HIr : Hid (M4.IntsAt v3 a3 L) := HI3.out.below b3
        clear RS2 HI3 o4 b2 b3 b13 B2 HR1 HI1
        go_wp2_with fail
        refine Calls.mono SI.out ?_
        rintro e v4 ⟨rfl, b4⟩
        have B4 := B3.trans (b4.mono B3.size)
        have HR4 : Hid (MI2.RowAt v4 a1 xs) := HR3.out.below b4
        have HIw4 : Hid (M4.IntsAt v4 a2 wo) := HIw.out.below b4
        have HIr4 : Hid (M4.IntsAt v4 a3 L) := HIr.out.below b4
        clear SI B3 HR3 HIw HIr b4
        go_wp2_with fail
        go_loopw [24, 25, 134] (fun _ _ iv wr => ∃ k : Nat, iv = .int .i64 k ∧ k ≤ xs.length ∧ Below v4.heap.size v4 wr) (fun _ _ iv _ => (xs.length - intOf iv).toNat)
        case atStart => exact ⟨0, rfl, by omega, Below.refl _ _⟩
        case round =>
          obtain ⟨k, rfl, hk, hb⟩ := hrel
          rename World => W0
          by_cases hlk : k < xs.length
          · obtain ⟨g1, off1, e1, hlt1, d0, d1⟩ := (HR4.out.below hb).at hlk
            subst e1
            have RK : Hid _ := fun h => RC.out h k hlk
            have kn : (k : Int) < (xs.length : Int) := by omega
            generalize (MI2.at_ xs k).a0 = x0 at *
            generalize (MI2.at_ xs k).a1 = x1 at *
            have HW : Hid (∀ W : World, Below v4.heap.size v4 W → ∀ n : Int, Calls Try.prog 8 #[.slice a2 wo.length c2, .int .i64 n] W fun e w' => e = .returned (.bool (EG.hasB wo n)) ∧ W = w') := fun W h n => hasL_any a2 c2 wo n W (by omega) (HIw4.out.below h)
            have HL : Hid (∀ W : World, Below v4.heap.size v4 W → ∀ n : Int, Calls Try.prog 8 #[.slice a3 L.length c3, .int .i64 n] W fun e w' => e = .returned (.bool (EG.hasB L n)) ∧ W = w') := fun W h n => hasL_any a3 c3 L n W (by omega) (HIr4.out.below h)
            have hba : Below v4.heap.size v4 (W0.alloc (.cells #[.int .i64 x0, .int .i64 x1] 38)) := hb.alloc hb.size _
            have HW1 : Hid _ := HW.out _ hba (k : Int)
            have HL0 : Hid _ := HL.out _ hba x0
            have HL1 : Hid _ := HL.out _ hba x1
            clear HW HL HIw4 HIr4 HR4 RC
            cases ok with
            | false =>
              clear HW1 HL0 HL1 RK
              go_wp2
              go_roundw
              case rel => exact ⟨k + 1, by go_num, by omega, hba⟩
              case measure => simp [intOf]; omega
            | true =>
              by_cases hkw : (k : Int) ∈ wo
              · have h1 := EG.hasB_mem hkw
                rw [h1] at HW1
                clear RK hkw h1 HL0 HL1
                go_wp2_with fail
                refine Calls.mono HW1.out ?_
                rintro e v5 ⟨rfl, rfl⟩
                clear HW1
                go_wp2
                go_roundw
                case rel => exact ⟨k + 1, by go_num, by omega, hba⟩
                case measure => simp [intOf]; omega
              · have h1 := EG.hasB_not hkw
                rw [h1] at HW1
                have RK2 : Hid _ := RK.out rfl hkw
                clear RK hkw h1
                go_wp2_with fail
                refine Calls.mono HW1.out ?_
                rintro e v5 ⟨rfl, rfl⟩
                clear HW1
                by_cases h0 : x0 ∈ L
                · have h2 := EG.hasB_mem h0
                  have h3 := EG.hasB_mem (RK2.out h0)
                  rw [h2] at HL0
                  rw [h3] at HL1
                  clear RK2 h0 h2 h3
                  go_wp2_with fail
                  refine Calls.mono HL0.out ?_
                  rintro e v6 ⟨rfl, rfl⟩
                  clear HL0
                  go_wp2_with fail
                  refine Calls.mono HL1.out ?_
                  rintro e v6 ⟨rfl, rfl⟩
                  clear HL1
                  go_wp2
                  go_roundw
                  case rel => exact ⟨k + 1, by go_num, by omega, hba⟩
                  case measure => simp [intOf]; omega
                · have h2 := EG.hasB_not h0
                  rw [h2] at HL0
                  clear RK2 h0 h2 HL1
                  go_wp2_with fail
                  refine Calls.mono HL0.out ?_
                  rintro e v6 ⟨rfl, rfl⟩
                  clear HL0
                  go_wp2
                  go_roundw
                  case rel => exact ⟨k + 1, by go_num, by omega, hba⟩
                  case measure => simp [intOf]; omega
          · obtain rfl : k = xs.length := by omega
            have B5 := B4.trans (hb.mono B4.size)
            clear HR4 HIw4 HIr4 RC hb B4
            go_wp2_with fail
            refine (drawApart_any b ys cb _ hy (HBY.out _ B5)).mono ?_
            rintro e v6 ⟨a7, c7, ws, rfl, hws, hto, hRW, b6⟩
            have AI : Hid _ := implApart_any a7 c7 ws v6 (by omega) (by omega) hRW
            have AS : Hid (∀ W : World, Below v6.heap.size v6 W → _) := fun W h => specApart_any a7 c7 ws W (by omega) (by omega) (hRW.below h)
            have B6 := B5.trans (b6.mono B5.size)
            clear hRW b6 B5
            generalize NR.apB ws = p1 at *
            generalize NR.apOk ws = p2 at *
            go_wp2_with fail
            refine Calls.mono AI.out ?_
            rintro e v7 ⟨rfl, b7⟩
            have AS2 : Hid _ := AS.out v7 b7
            have B7 := B6.trans (b7.mono B6.size)
            clear AI AS b7 B6
            go_wp2_with fail
            refine Calls.mono AS2.out ?_
            rintro e v8 ⟨rfl, b8⟩
            have B8 := B7.trans (b8.mono B7.size)
            clear AS2 b8 B7
            go_wp2
            go_ret
            exact ⟨by simp, B8⟩
      | false =>
        go_wp2_with fail
        refine (drawReached_any b ys cb _ hy (HBY.out _ BX)).mono ?_
        rintro e v1 ⟨a1, c1, xs, f, a2, c2, wo, rfl, hx, hwo, hR, hI, b1⟩
        have B1 := BX.trans (b1.mono BX.size)
        clear b1 BX
        have RI : Hid _ := implReached_any a1 a2 c1 c2 xs f wo v1 (by omega) (by omega) hR hI
        have RS : Hid (∀ W : World, Below v1.heap.size v1 W → _) := fun W h => specReached_any a1 a2 c1 c2 xs f wo W (by omega) (by omega) (hR.below h) (hI.below h)
        have RC : Hid (LK.rbOk xs f wo = true → ∀ k, k < xs.length → (k : Int) ∉ wo → (MI2.at_ xs k).a0 ∈ LK.rbL xs f wo → (MI2.at_ xs k).a1 ∈ LK.rbL xs f wo) := fun h k hk => LK.rb_closed h hk
        have hLl := LK.rbL_len xs f wo
        have HR1 : Hid (MI2.RowAt v1 a1 xs) := hR
        have HI1 : Hid (M4.IntsAt v1 a2 wo) := hI
        generalize LK.rbL xs f wo = L at *
        generalize LK.rbOk xs f wo = ok at *
        clear hR hI
        go_wp2_with fail
        refine Calls.mono RI.out ?_
        rintro e v2 ⟨a3, c3, rfl, o3, b2⟩
        have RS2 : Hid _ := RS.out v2 b2
        have HI3 : Hid (M4.IntsAt v2 a3 L) := M5.own_ints o3
        have B2 := B1.trans (b2.mono B1.size)
        clear RI RS o3 B1
        go_wp2_with fail
        refine Calls.mono RS2.out ?_
        rintro e v3 ⟨a4, c4, rfl, o4, b3⟩
        have SI : Hid _ := sameInts_any a3 a4 c3 c4 L L v3 (by omega) (by omega) (HI3.out.below b3) (M5.own_ints o4)
        have b13 : Below v1.heap.size v1 v3 := b2.trans (b3.mono b2.size)
        have B3 := B2.trans (b3.mono B2.size)
        have HR3 : Hid (MI2.RowAt v3 a1 xs) := HR1.out.below b13
        have HIw : Hid (M4.IntsAt v3 a2 wo) := HI1.out.below b13
        have HIr : Hid (M4.IntsAt v3 a3 L) := HI3.out.below b3
        clear RS2 HI3 o4 b2 b3 b13 B2 HR1 HI1
        go_wp2_with fail
        refine Calls.mono SI.out ?_
        rintro e v4 ⟨rfl, b4⟩
        have B4 := B3.trans (b4.mono B3.size)
        have HR4 : Hid (MI2.RowAt v4 a1 xs) := HR3.out.below b4
        have HIw4 : Hid (M4.IntsAt v4 a2 wo) := HIw.out.below b4
        have HIr4 : Hid (M4.IntsAt v4 a3 L) := HIr.out.below b4
        clear SI B3 HR3 HIw HIr b4
        go_wp2_with fail
        go_loopw [24, 25, 134] (fun _ _ iv wr => ∃ k : Nat, iv = .int .i64 k ∧ k ≤ xs.length ∧ Below v4.heap.size v4 wr) (fun _ _ iv _ => (xs.length - intOf iv).toNat)
        case atStart => exact ⟨0, rfl, by omega, Below.refl _ _⟩
        case round =>
          obtain ⟨k, rfl, hk, hb⟩ := hrel
          rename World => W0
          by_cases hlk : k < xs.length
          · obtain ⟨g1, off1, e1, hlt1, d0, d1⟩ := (HR4.out.below hb).at hlk
            subst e1
            have RK : Hid _ := fun h => RC.out h k hlk
            have kn : (k : Int) < (xs.length : Int) := by omega
            generalize (MI2.at_ xs k).a0 = x0 at *
            generalize (MI2.at_ xs k).a1 = x1 at *
            have HW : Hid (∀ W : World, Below v4.heap.size v4 W → ∀ n : Int, Calls Try.prog 8 #[.slice a2 wo.length c2, .int .i64 n] W fun e w' => e = .returned (.bool (EG.hasB wo n)) ∧ W = w') := fun W h n => hasL_any a2 c2 wo n W (by omega) (HIw4.out.below h)
            have HL : Hid (∀ W : World, Below v4.heap.size v4 W → ∀ n : Int, Calls Try.prog 8 #[.slice a3 L.length c3, .int .i64 n] W fun e w' => e = .returned (.bool (EG.hasB L n)) ∧ W = w') := fun W h n => hasL_any a3 c3 L n W (by omega) (HIr4.out.below h)
            have hba : Below v4.heap.size v4 (W0.alloc (.cells #[.int .i64 x0, .int .i64 x1] 38)) := hb.alloc hb.size _
            have HW1 : Hid _ := HW.out _ hba (k : Int)
            have HL0 : Hid _ := HL.out _ hba x0
            have HL1 : Hid _ := HL.out _ hba x1
            clear HW HL HIw4 HIr4 HR4 RC
            cases ok with
            | false =>
              clear HW1 HL0 HL1 RK
              go_wp2
              go_roundw
              case rel => exact ⟨k + 1, by go_num, by omega, hba⟩
              case measure => simp [intOf]; omega
            | true =>
              by_cases hkw : (k : Int) ∈ wo
              · have h1 := EG.hasB_mem hkw
                rw [h1] at HW1
                clear RK hkw h1 HL0 HL1
                go_wp2_with fail
                refine Calls.mono HW1.out ?_
                rintro e v5 ⟨rfl, rfl⟩
                clear HW1
                go_wp2
                go_roundw
                case rel => exact ⟨k + 1, by go_num, by omega, hba⟩
                case measure => simp [intOf]; omega
              · have h1 := EG.hasB_not hkw
                rw [h1] at HW1
                have RK2 : Hid _ := RK.out rfl hkw
                clear RK hkw h1
                go_wp2_with fail
                refine Calls.mono HW1.out ?_
                rintro e v5 ⟨rfl, rfl⟩
                clear HW1
                by_cases h0 : x0 ∈ L
                · have h2 := EG.hasB_mem h0
                  have h3 := EG.hasB_mem (RK2.out h0)
                  rw [h2] at HL0
                  rw [h3] at HL1
                  clear RK2 h0 h2 h3
                  go_wp2_with fail
                  refine Calls.mono HL0.out ?_
                  rintro e v6 ⟨rfl, rfl⟩
                  clear HL0
                  go_wp2_with fail
                  refine Calls.mono HL1.out ?_
                  rintro e v6 ⟨rfl, rfl⟩
                  clear HL1
                  go_wp2
                  go_roundw
                  case rel => exact ⟨k + 1, by go_num, by omega, hba⟩
                  case measure => simp [intOf]; omega
                · have h2 := EG.hasB_not h0
                  rw [h2] at HL0
                  clear RK2 h0 h2 HL1
                  go_wp2_with fail
                  refine Calls.mono HL0.out ?_
                  rintro e v6 ⟨rfl, rfl⟩
                  clear HL0
                  go_wp2
                  go_roundw
                  case rel => exact ⟨k + 1, by go_num, by omega, hba⟩
                  case measure => simp [intOf]; omega
          · obtain rfl : k = xs.length := by omega
            have B5 := B4.trans (hb.mono B4.size)
            clear HR4 HIw4 HIr4 RC hb B4
            go_wp2_with fail
            refine (drawApart_any b ys cb _ hy (HBY.out _ B5)).mono ?_
            rintro e v6 ⟨a7, c7, ws, rfl, hws, hto, hRW, b6⟩
            have AI : Hid _ := implApart_any a7 c7 ws v6 (by omega) (by omega) hRW
            have AS : Hid (∀ W : World, Below v6.heap.size v6 W → _) := fun W h => specApart_any a7 c7 ws W (by omega) (by omega) (hRW.below h)
            have B6 := B5.trans (b6.mono B5.size)
            clear hRW b6 B5
            generalize NR.apB ws = p1 at *
            generalize NR.apOk ws = p2 at *
            go_wp2_with fail
            refine Calls.mono AI.out ?_
            rintro e v7 ⟨rfl, b7⟩
            have AS2 : Hid _ := AS.out v7 b7
            have B7 := B6.trans (b7.mono B6.size)
            clear AI AS b7 B6
            go_wp2_with fail
            refine Calls.mono AS2.out ?_
            rintro e v8 ⟨rfl, b8⟩
            have B8 := B7.trans (b8.mono B7.size)
            clear AS2 b8 B7
            go_wp2
            go_ret
            exact ⟨by simp, B8⟩
  · go_enter Try.func3, Try.ntmps3
    go_wp2
    go_ret
    exact ⟨rfl, Below.refl _ _⟩
end Go.Proofs.Ytcpkcaaplhgioaa
