/- Rows of rows of numbers, marked: markIntSS. -/
import Derived.Test.YtmgbckdomdoncaaRows
import Derived.Test.YtmgbckdomdoncaaMNE
import Derived.Test.YtmgbckdomdoncaaMRetB
import Derived.Test.YtmgbckdomdoncaaCNEe
import Derived.Test.YtmgbckdomdoncaaCMarkIntS
import Derived.WalkKit
import Derived.WalkSpells
import Derived.WalkLawsBesides
import Derived.Outline
import Derived.Deep.RegionWith
namespace Go.Proofs.Ytmgbckdomdoncaa
open Go.RowKit
namespace NE
theorem marks_take (k : Int) (i : Nat) (vs : List Value) (h : vs.take i = M4.iv (M5.marks k i)) (hi : i < vs.length) : (vs.set i (.int .i64 (k + i))).take (i + 1) = M4.iv (M5.marks k (i + 1)) := by
  have e : M5.marks k (i + 1) = M5.marks k i ++ [k + (i : Int)] := by simp [M5.marks, List.range_succ]
  rw [e, List.take_succ_eq_append_getElem (by simpa using hi), List.take_set_of_le (Nat.le_refl _), h, List.getElem_set_self]
  simp [M4.iv]
end NE
set_option maxHeartbeats 800000 in
set_option maxRecDepth 100000 in
theorem markIntS_in (B : Nat) (a : Option Addr) (cap : Nat) (l : List Int) (k : Int) (w : World) (hz : l.length ≤ 1048576) (hk0 : 0 ≤ k) (hk : k ≤ 1073741824) (hin : NE.In w B a l) :
    Calls Try.prog 25 #[.slice a l.length cap, .int .i64 k] w fun e w' => e = .returned (.int .i64 (k + l.length)) ∧ NE.In w' B a (M5.marks k l.length) ∧ (l = [] → w = w') ∧ ∀ g, a = some ⟨g, 0, none⟩ → MC.Only g w w' := by
  rcases hin.is with rfl | ⟨g, m, vs, rfl, hw, h1, h2⟩
  · clear hin
    go_enter Try.func25, Try.ntmps25
    go_wp2
    refine wp_loop_rounds 1 ?_
    rw [rounds_succ]
    go_wp2
    go_ret
    exact ⟨by simp, .nil _ _ _, fun _ => rfl, fun g _ => MC.Only.refl _ _⟩
  · clear hin h2
    generalize hln : l.length = n at *
    have HN : Hid (l = [] → n = 0) := fun e => by rw [← hln, e]; rfl
    clear hln
    have HW : Hid _ := hw
    clear hw
    go_enter Try.func25, Try.ntmps25
    go_wp2
    go_loopw [1, 5] (fun kv iv wr => ∃ i : Nat, kv = .int .i64 (k + i) ∧ iv = .int .i64 i ∧ i ≤ n ∧ (∃ vs', wr.ownsRow B 56 1 (.slice (some ⟨g, 0, none⟩) m m) m vs' ∧ vs'.take i = M4.iv (M5.marks k i)) ∧ MC.Only g w wr ∧ (i = 0 → w = wr)) (fun _ iv _ => (n - intOf iv).toNat)
    case atStart => exact ⟨0, by simp, rfl, by omega, ⟨vs, HW.out, by simp [M5.marks, M4.iv]⟩, MC.Only.refl _ _, fun _ => rfl⟩
    case round =>
      clear HW
      obtain ⟨i, rfl, rfl, hi, ⟨vs', hown, hvs⟩, hO, hz0⟩ := hrel
      by_cases hl : i < n
      · have hlen := hown.1
        have hcell : ∃ u, wr.cell? ⟨g, i, none⟩ = some u := by
          rw [hown.cellAt i (by omega)]
          exact ⟨_, List.getElem?_eq_getElem (by omega)⟩
        obtain ⟨u, hcell⟩ := hcell
        have hfz := hown.frozenAt i
        have hst := hown.stored i (.int .i64 (k + i))
        have R1 := hst.1
        have R2 := hO.setCell i (.int .i64 (k + i))
        have R3 := NE.marks_take k i vs' hvs (by omega)
        clear hst hown hO hvs hlen hz0
        go_wp2
        go_roundw
        case rel => exact ⟨i + 1, by go_num, by go_num, by omega, ⟨_, R1, R3⟩, R2, fun e => by omega⟩
        case measure => simp [intOf]; omega
      · obtain rfl : i = n := by omega
        have hI : NE.In wr B (some ⟨g, 0, none⟩) (M5.marks k i) := ⟨.inr ⟨g, m, vs', rfl, hown, by rw [M5.marks_len]; exact h1, by rw [M5.marks_len]; exact hvs⟩⟩
        have HI : Hid _ := hI
        clear hown hvs hI
        go_wp2
        go_ret
        exact ⟨rfl, HI.out, fun e => hz0 (HN.out e), fun g' hg' => by simp only [Option.some.injEq, Addr.mk.injEq, and_true] at hg'; rw [← hg']; exact hO⟩
set_option maxHeartbeats 1600000 in
set_option maxRecDepth 100000 in
theorem markIntSS_any (B : Nat) (a : Option Addr) (c : Nat) (ws : List (List Int)) (A : Nat → Option Addr) (C : Nat → Nat) (k : Int) (w : World) (hz : ws.length ≤ 1048576) (ht : NE.tot ws ≤ 1048576) (hk0 : 0 ≤ k) (hk : k ≤ 1048576) (hB : B ≤ w.heap.size) (hown : NE.Own 37 w B (.slice a ws.length c) ws A C) :
    Calls Try.prog 18 #[.slice a ws.length c, .int .i64 k] w fun e w' => e = .returned (.int .i64 (k + NE.tot ws)) ∧ NE.Own 37 w' B (.slice a ws.length c) (NE.mkUp k ws ws.length) A C ∧ Below B w w' := by
  have HO : Hid _ := hown
  clear hown
  go_enter Try.func18, Try.ntmps18
  go_wp2
  go_loopw [1, 5] (fun kv iv wr => ∃ i : Nat, kv = .int .i64 (k + NE.tot (ws.take i)) ∧ iv = .int .i64 i ∧ i ≤ ws.length ∧ Hid (NE.Own 37 wr B (.slice a ws.length c) (NE.mkUp k ws i) A C) ∧ Below B w wr) (fun _ iv _ => (ws.length - intOf iv).toNat)
  case atStart => exact ⟨0, by simp [NE.tot], rfl, by omega, by show NE.Own _ _ _ _ _ _ _; rw [NE.mk_zero]; exact HO.out, Below.refl _ _⟩
  case round =>
    clear HO
    obtain ⟨i, rfl, rfl, hi, HO, hb⟩ := hrel
    have tl := NE.tot_le ws i
    by_cases hl : i < ws.length
    · have hl' : i < (NE.mkUp k ws i).length := by rw [NE.mk_len]; exact hl
      have hRW : NE.RowsAt wr a (NE.mkUp k ws i) := HO.out.rows
      rcases HO.out.out.2 with ⟨h', h0⟩ | ⟨g, cap', cur, hv, -⟩
      · rw [NE.mk_len] at h0; omega
      · simp only [Value.slice.injEq] at hv
        obtain ⟨rfl, -, rfl⟩ := hv
        have oo := HO.out.out
        rw [NE.mk_len] at oo
        have c0 := oo.cellAt i (by omega)
        clear oo
        have hg := (HO.out.out.lt g rfl).2
        rw [NE.hd_get _ A C hl', NE.mk_row k ws i hl] at c0
        have hr := HO.out.row i hl'
        have hrl := NE.mk_row k ws i hl
        have hrt := NE.tot_row ws hl
        have htt := NE.tot_take ws hl
        have MK := markIntS_in B (A i) (C i) (NE.rw_ (NE.mkUp k ws i) i) (k + NE.tot (ws.take i)) wr (by omega) (by omega) (by omega) hr
        rw [hrl] at MK
        have HMK : Hid _ := MK
        have HNX : Hid (∀ w' : World, NE.In w' B (A i) (M5.marks (k + NE.tot (ws.take i)) (NE.rw_ ws i).length) → (NE.rw_ (NE.mkUp k ws i) i = [] → wr = w') → (∀ g, A i = some ⟨g, 0, none⟩ → MC.Only g wr w') → NE.Own 37 w' B (.slice (some ⟨g, 0, none⟩) ws.length c) (NE.mkUp k ws (i + 1)) A C) := fun w' h1 h2 h3 => HO.out.mark (by decide) hl h1 (fun e => h2 (by
          have := hrl; rw [e] at this; exact List.eq_nil_of_length_eq_zero this)) h3
        have HBL : Hid (∀ w' : World, (NE.rw_ (NE.mkUp k ws i) i = [] → wr = w') → (∀ g, A i = some ⟨g, 0, none⟩ → MC.Only g wr w') → Below B w w') := fun w' h2 h3 => by
          by_cases e : NE.rw_ (NE.mkUp k ws i) i = []
          · rw [← h2 e]; exact hb
          · obtain ⟨g', hg'⟩ := hr.some e
            rw [hg'] at hr
            exact hb.trans ((h3 g' hg').below (hr.lt e).1 (Nat.le_trans hB hb.size))
        have ET : Hid (NE.tot (ws.take (i + 1)) = NE.tot (ws.take i) + (NE.rw_ ws i).length) := htt
        clear hRW HO MK hr hrl htt
        generalize NE.tot (ws.take i) = ti at *
        generalize (NE.rw_ ws i).length = ri at *
        go_wp2_with fail
        refine Calls.mono HMK.out ?_
        rintro e w2 ⟨rfl, h1, h2, h3⟩
        have R1 := HNX.out w2 h1 h2 h3
        have R2 := HBL.out w2 h2 h3
        clear HMK HNX HBL h1 h2 h3 hb
        go_wp2
        go_roundw
        case rel => exact ⟨i + 1, by rw [ET.out]; push_cast; rw [Int.add_assoc], by go_num, by omega, R1, R2⟩
        case measure => simp [intOf]; omega
    · obtain rfl : i = ws.length := by omega
      rw [List.take_length]
      go_wp2
      go_ret
      exact ⟨rfl, HO.out, hb⟩
end Go.Proofs.Ytmgbckdomdoncaa
