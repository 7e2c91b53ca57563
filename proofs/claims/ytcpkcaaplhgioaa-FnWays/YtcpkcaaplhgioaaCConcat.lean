/- slices.Grow of nil, slices.Concat of rows of numbers. -/
import Derived.Test.YtcpkcaaplhgioaaRows
import Derived.Test.YtcpkcaaplhgioaaMNR
import Derived.Test.YtcpkcaaplhgioaaMInfo
import Derived.WalkKit
import Derived.WalkSpells
import Derived.WalkLawsBesides
import Derived.Outline
import Derived.Lib.SliceRun
import Derived.Lib.AppendZerosOnto
import Derived.Laws.AppendOwnNone
namespace Go.Proofs.Ytcpkcaaplhgioaa
open Go.RowKit
namespace NR
theorem run_append_empty {P : Program} {w : World} (base : Nat) (t ty e : TypeId) (i : TypeInfo) (size : Nat) (ht : P.underlying t = some (.slice e)) (hi : P.info? e = some i) (v : Value) (n : Nat) (xs : List Value) (hown : w.ownsRow base e size v n xs) (a : Option Addr) (c : Nat) : (Builtin.append_ #[t, t] ty #[v, .slice a 0 c]).run P w = .ok v w := by
  cases a with
  | none =>
    rcases hown.2 with ⟨rfl, rfl⟩ | ⟨g, cap, cur, rfl, _, _, hnc, _⟩
    · simp [Builtin.append_, run_underlying ht, sizeOf, typeInfo, hi, Builtin.lenOf, Builtin.firstCells]
    · simp [Builtin.append_, run_underlying ht, sizeOf, typeInfo, hi, Builtin.lenOf, Builtin.firstCells, hnc, storeCells]
  | some b =>
    rcases hown.2 with ⟨rfl, rfl⟩ | ⟨g, cap, cur, rfl, _, _, hnc, _⟩
    · simp [Builtin.append_, run_underlying ht, sizeOf, typeInfo, hi, Builtin.lenOf, Builtin.firstCells, loadCells, loadCellsFrom]
    · simp [Builtin.append_, run_underlying ht, sizeOf, typeInfo, hi, Builtin.lenOf, Builtin.firstCells, hnc, storeCells, loadCells, loadCellsFrom]
theorem flat_take (ws : List (List Int)) {i : Nat} (h : i < ws.length) : (ws.take (i + 1)).flatten = (ws.take i).flatten ++ rw_ ws i := by
  rw [List.take_succ_eq_append_getElem h, List.flatten_append, rw_eq ws i h]; simp
theorem flat_len (ws : List (List Int)) : ws.flatten.length = tot ws := by simp [tot, List.length_flatten]
theorem cells_of {w : World} {b off : Nat} {l : List Int} (h : M4.IntsAt w (some ⟨b, off, none⟩) l) : ∀ j u, (M4.iv l)[j]? = some u → w.cell? ((⟨b, off, none⟩ : Addr).add j) = some u := by
  intro j u hj
  have hjl : j < l.length := by have := (List.getElem?_eq_some_iff.1 hj).1; simpa [M4.iv] using this
  obtain ⟨b', o', e, _, hc⟩ := h.at hjl
  simp only [Option.some.injEq, Addr.mk.injEq, and_true] at e
  obtain ⟨rfl, rfl⟩ := e
  rw [show (⟨b, off, none⟩ : Addr).add j = ⟨b, off + j, none⟩ from by unfold Addr.add; split <;> simp_all, hc, ← hj]
  symm
  exact M4.iv_get _ _ _ (by rw [List.getD_eq_getElem?_getD, List.getElem?_eq_getElem hjl]; rfl)
theorem iv_one (l : List Int) : ∀ u, u ∈ M4.iv l → u.oneCell' = true := by intro u hu; simp only [M4.iv, List.mem_map] at hu; obtain ⟨z, _, rfl⟩ := hu; rfl
end NR
set_option linter.unusedSimpArgs false in
set_option maxHeartbeats 1600000 in
set_option maxRecDepth 100000 in
theorem growNil_any (n : Nat) (w : World) (hn : n ≤ 1048576) :
    Calls Try.prog 49 #[.slice none 0 0, .int .i64 (n : Int)] w fun e w' => ∃ v, e = .returned v ∧ w'.ownsRow w.heap.size 3 1 v 0 [] ∧ Below w.heap.size w w' := by
  obtain ⟨i0, hi, hz0, hz1, hz2⟩ := info_parts Try.info3
  by_cases h0 : n = 0
  · subst h0
    go_enter Try.func49, Try.ntmps49
    go_wp2
    go_ret
    exact ⟨_, rfl, World.ownsRow_nil _ _ _ _, Below.refl _ _⟩
  · have hrz : ∀ ty, (Builtin.append_ #[24, 3] ty #[.slice none 0 0, .int .i64 (n : Int)]).run Try.prog w = .ok (.slice (some ⟨w.heap.size, 0, none⟩) n (grownCap w n 0 3)) (w.drew.alloc (.cells ((#[] : Array Value) ++ Builtin.zeroCells (Value.cells (.int .i64 0)) n ++ Builtin.zeroCells (Value.cells (.int .i64 0)) (grownCap w n 0 3 - n)) 3)) := fun ty => by
      have h := Lib.run_append_grow_zeros (P := Try.prog) w 24 3 ty 3 i0 (.int .i64 0) .i64 .i64 Try.underlying24 Try.underlying3 hi hz0 none 0 0 [] (run_firstCells_none w.drew i0.size 0 0 0) n (by omega) (by omega) (by omega) (by omega) (by rw [hz2]; omega) (growslice_fits (by omega) (by rw [hz2]; omega))
      simpa using h
    have hG : n ≤ grownCap w n 0 3 := grownCap_ge w _ _ _
    have hG2 : grownCap w n 0 3 ≤ maxLen := grownCap_le_maxLen w n 0 3 (by unfold maxLen; omega)
    generalize grownCap w n 0 3 = G at *
    have hX : ((#[] : Array Value) ++ Builtin.zeroCells (Value.cells (.int .i64 0)) n ++ Builtin.zeroCells (Value.cells (.int .i64 0)) (G - n)).size = G := by
      have hsz : ∀ m, (Builtin.zeroCells (Value.cells (.int .i64 0)) m).size = m := fun m => by rw [size_zeroCells]; simp [Value.cells]
      rw [Array.size_append, Array.size_append, hsz, hsz]; simp; omega
    generalize ((#[] : Array Value) ++ Builtin.zeroCells (Value.cells (.int .i64 0)) n ++ Builtin.zeroCells (Value.cells (.int .i64 0)) (G - n)) = X at *
    have hown : ((w.alloc (.cells X 3)).drew).ownsRow w.heap.size 3 1 (.slice (some ⟨w.heap.size, 0, none⟩) 0 G) 0 [] :=
      ⟨rfl, .inr ⟨w.heap.size, G, X, rfl, Nat.le_refl _, heap_alloc_new w _, Nat.zero_le _, hG2, by omega, rfl⟩⟩
    have hB : Below w.heap.size w ((w.alloc (.cells X 3)).drew) := ((Below.refl _ w).alloc (Nat.le_refl _) _).drew
    have HO : Hid (World.ownsRow ((w.alloc (.cells X 3)).drew) w.heap.size 3 1 (.slice (some ⟨w.heap.size, 0, none⟩) 0 G) 0 []) := hown
    have HB : Hid _ := hB
    have hG63 : G ≤ 9223372036854775807 := by unfold maxLen at hG2; omega
    clear hown hB hX hG2
    go_enter Try.func49, Try.ntmps49
    go_wp2_with (at_builtin; refine Lib.wpList_append_run _ rfl _ _ _ _ rfl _ _ rfl rfl _ _ (hrz _) ?_)
    all_goals (go_ret; exact ⟨.slice (some ⟨w.heap.size, 0, none⟩) 0 G, rfl, HO.out, HB.out⟩)
set_option linter.unusedSimpArgs false in
set_option maxHeartbeats 1600000 in
set_option maxRecDepth 100000 in
theorem concat_any (a : Option Addr) (ca : Nat) (ws : List (List Int)) (w : World) (hn : ws.length ≤ 1048576) (ht : NR.tot ws ≤ 1048576) (hin : NR.RowsAt w a ws) :
    Calls Try.prog 30 #[.slice a ws.length ca] w fun e w' => ∃ a1 c1, e = .returned (.slice a1 ws.flatten.length c1) ∧ w'.ownsRow w.heap.size 3 1 (.slice a1 ws.flatten.length c1) ws.flatten.length (M4.iv ws.flatten) ∧ Below w.heap.size w w' := by
  obtain ⟨i0, hi, hz0, hz1, hz2⟩ := info_parts Try.info3
  have HI : Hid (NR.RowsAt w a ws) := hin
  have GN : Hid _ := growNil_any (NR.tot ws) w ht
  clear hin
  go_enter Try.func30, Try.ntmps30
  go_wp2
  go_loopw [3, 11] (fun sv iv wr => ∃ i : Nat, iv = .int .i64 i ∧ i ≤ ws.length ∧ sv = .int .i64 (NR.tot (ws.take i) : Int) ∧ w = wr) (fun _ iv _ => (ws.length - intOf iv).toNat)
  case atStart => exact ⟨0, rfl, by omega, by simp [NR.tot], rfl⟩
  case round =>
    obtain ⟨i, rfl, hiw, rfl, rfl⟩ := hrel
    have tl := NR.tot_le ws i
    by_cases hl : i < ws.length
    · obtain ⟨b1, off1, a1, c1, rfl, hlt1, d1, _, i1⟩ := HI.out.at hl
      have ET : Hid (NR.tot (ws.take (i + 1)) = NR.tot (ws.take i) + (NR.rw_ ws i).length) := NR.tot_take ws hl
      have hrt := NR.tot_row ws hl
      generalize NR.tot (ws.take i) = ti at *
      generalize (NR.rw_ ws i).length = ri at *
      have hp : (0 : Int) ≤ (ti : Int) + (ri : Int) := by omega
      clear HI GN i1
      go_wp2
      go_roundw
      case rel => exact ⟨i + 1, by go_num, by omega, by rw [ET.out]; push_cast; rfl, trivial⟩
      case measure => simp [intOf]; omega
    · obtain rfl : i = ws.length := by omega
      rw [List.take_length]
      go_wp2_with fail
      refine Calls.mono GN.out ?_
      rintro e w1 ⟨v1, rfl, ho, hb1⟩
      clear GN
      have HO0 : Hid (World.ownsRow w1 w.heap.size 3 1 v1 0 []) := ho
      clear ho
      go_wp2
      go_loopw [6, 27] (fun v iv wr => ∃ i : Nat, iv = .int .i64 i ∧ i ≤ ws.length ∧ Hid (World.ownsRow wr w.heap.size 3 1 v (ws.take i).flatten.length (M4.iv (ws.take i).flatten)) ∧ Below w.heap.size w wr) (fun _ iv _ => (ws.length - intOf iv).toNat)
      case atStart => exact ⟨0, rfl, by omega, by simpa [M4.iv] using HO0, hb1⟩
      case round =>
        clear HO0 hb1
        obtain ⟨i, rfl, hiw, HO, hb⟩ := hrel
        by_cases hl : i < ws.length
        · obtain ⟨b1, off1, a1, c1, rfl, hlt1, d1, _, j1⟩ := (HI.out.below hb).at hl
          have EF : Hid _ := NR.flat_take ws hl
          have hrt := NR.tot_row ws hl
          have hfl := NR.flat_len (ws.take i)
          have htt := NR.tot_take ws hl
          have htl := NR.tot_le ws (i + 1)
          have hs1 : (ws.take i).flatten.length + (NR.rw_ ws i).length ≤ 1048576 := by omega
          have J1 : Hid (M4.IntsAt wr a1 (NR.rw_ ws i)) := j1
          generalize NR.rw_ ws i = r at *
          generalize (ws.take i).flatten = fl at *
          clear HI j1 hfl htt htl hrt
          have hbs := hb.size
          by_cases hr : r = []
          · subst hr
            have EF2 : Hid ((ws.take (i + 1)).flatten = fl) := by show _ = _; rw [EF.out, List.append_nil]
            have run := fun ty => NR.run_append_empty (P := Try.prog) (w := wr) w.heap.size 24 ty 3 i0 1 Try.underlying24 hi _ _ _ HO.out a1 c1
            clear EF J1
            go_wp2_with (at_builtin; refine Lib.wpList_append_run _ rfl _ _ _ _ rfl _ _ rfl rfl _ _ (run _) ?_)
            go_roundw
            case rel => exact ⟨i + 1, by go_num, by omega, by rw [EF2.out]; exact HO, hb⟩
            case measure => simp [intOf]; omega
          · obtain ⟨b2, off2, rfl⟩ : ∃ b off, a1 = some ⟨b, off, none⟩ := by
              rcases J1.out with e | ⟨b, off, e, _⟩
              · exact absurd e hr
              · exact ⟨b, off, e⟩
            generalize hrl : r.length = rl at *
            have HRL : Hid _ := hrl
            clear hrl
            go_wp2_with (at_builtin; go_loud (refine wpList_append_own _ rfl _ _ 24 rfl w.heap.size 3 i0 (.int .i64 0) 1 8 Try.underlying24 hi hz0 hz1 hz2 rfl (by decide) _ _ _ rfl HO.out ⟨b2, off2, none⟩ rl c1 (M4.iv r) rfl ?c0 ?c1 ?c2 ?c3 ?c4 ?c5 ?_))
            all_goals try (first | omega | exact NR.cells_of J1.out | exact NR.iv_one _ | (unfold maxLen; omega) | (simp [M4.iv, HRL.out]; done))
            intro v' w3 hown1 hgrow _
            have R1 : Hid (World.ownsRow w3 w.heap.size 3 1 v' (ws.take (i + 1)).flatten.length (M4.iv (ws.take (i + 1)).flatten)) := by
              show World.ownsRow _ _ _ _ _ _ _
              rw [EF.out, List.length_append, HRL.out]
              simpa [M4.iv] using hown1
            have R2 := hb.grown hgrow hbs (fun j hj => (HO.out.lt j hj).1)
            clear hown1 hgrow HO EF
            go_wp2
            go_roundw
            case rel => exact ⟨i + 1, by go_num, by omega, R1, R2⟩
            case measure => simp [intOf]; omega
        · obtain rfl : i = ws.length := by omega
          rw [List.take_length] at HO
          obtain ⟨a3, c3, hv, _⟩ := M5.own_view HO.out
          rw [hv] at HO ⊢
          clear HI hv
          generalize hsll : ws.flatten.length = sl at *
          have HSL : Hid _ := hsll
          clear hsll
          go_wp2
          go_ret
          exact ⟨a3, c3, by rw [HSL.out]; rfl, by rw [HSL.out]; exact HO.out, hb⟩
end Go.Proofs.Ytcpkcaaplhgioaa
