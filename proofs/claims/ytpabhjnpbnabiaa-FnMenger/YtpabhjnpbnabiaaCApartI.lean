import Derived.Test.YtpabhjnpbnabiaaRows
import Derived.Test.YtpabhjnpbnabiaaMNR
import Derived.Test.YtpabhjnpbnabiaaMInfo
import Derived.WalkKit
import Derived.WalkSpells
import Derived.WalkLawsBesides
import Derived.Outline
import Derived.Lib.SliceRun
import Derived.Lib.AppendZerosOnto
import Derived.Laws.AppendOwnNone
import Derived.Test.YtpabhjnpbnabiaaM5
import Derived.Sort.OwnSorted
import Derived.Shelf.Small.Bits
import Derived.Shelf.Strconv.Itoa0
import Derived.Shelf.Sort.Plain
import Derived.Ground.Names2Prog
import Derived.Shelf.Slices.CompactI
import Derived.Shelf.Slices.SearchI
import Derived.Shelf.Slices.Cells
import Derived.Shelf.Slices.In.SortNone
import Derived.Test.YtpabhjnpbnabiaaProg
import Derived.Sort.OwnSortedInts
import Derived.Test.YtpabhjnpbnabiaaMAA
import Derived.Test.YtpabhjnpbnabiaaCHasI
/- slices.Grow of nil, slices.Concat of rows of numbers. -/
namespace Go.Proofs.Ytpabhjnpbnabiaa
open Go.RowKit
namespace NR
theorem run_append_empty {P : Program} {w : World} (base : Nat) (t ty e : TypeId) (i : TypeInfo) (size : Nat) (ht : P.underlying t = some (.slice e)) (hi : P.info? e = some i) (v : Value) (n : Nat) (xs : List Value) (hown : w.ownsRow base e size v n xs) (a : Option Addr) (c : Nat) : (Builtin.append_ #[t, t] ty #[v, .slice a 0 c]).run P w = .ok v w := by
  cases a with
  | none =>
    rcases hown.2 with ⟨rfl, rfl⟩ | ⟨g, cap, cur, rfl, _, _, hnc, _⟩
    · simp [Builtin.append_, run_underlying ht, sizeOf, typeInfo, hi, Builtin.lenOf, Builtin.firstCells]
    · simp [Builtin.append_, run_underlying ht, sizeOf, typeInfo, hi, Builtin.lenOf, Builtin.firstCells, hnc, storeCells]
  | some b =>
    rcases hown.2 with ⟨rfl, rfl⟩ | ⟨g, cap, cur, rfl, _, _, hnc, _⟩
    · simp [Builtin.append_, run_underlying ht, sizeOf, typeInfo, hi, Builtin.lenOf, Builtin.firstCells, loadCells, loadCellsFrom]
    · simp [Builtin.append_, run_underlying ht, sizeOf, typeInfo, hi, Builtin.lenOf, Builtin.firstCells, hnc, storeCells, loadCells, loadCellsFrom]
theorem flat_take (ws : List (List Int)) {i : Nat} (h : i < ws.length) : (ws.take (i + 1)).flatten = (ws.take i).flatten ++ rw_ ws i := by
  rw [List.take_succ_eq_append_getElem h, List.flatten_append, rw_eq ws i h]; simp
theorem flat_len (ws : List (List Int)) : ws.flatten.length = tot ws := by simp [tot, List.length_flatten]
theorem cells_of {w : World} {b off : Nat} {l : List Int} (h : M4.IntsAt w (some ⟨b, off, none⟩) l) : ∀ j u, (M4.iv l)[j]? = some u → w.cell? ((⟨b, off, none⟩ : Addr).add j) = some u := by
  intro j u hj
  have hjl : j < l.length := by have := (List.getElem?_eq_some_iff.1 hj).1; simpa [M4.iv] using this
  obtain ⟨b', o', e, _, hc⟩ := h.at hjl
  simp only [Option.some.injEq, Addr.mk.injEq, and_true] at e
  obtain ⟨rfl, rfl⟩ := e
  rw [show (⟨b, off, none⟩ : Addr).add j = ⟨b, off + j, none⟩ from by unfold Addr.add; split <;> simp_all, hc, ← hj]
  symm
  exact M4.iv_get _ _ _ (by rw [List.getD_eq_getElem?_getD, List.getElem?_eq_getElem hjl]; rfl)
theorem iv_one (l : List Int) : ∀ u, u ∈ M4.iv l → u.oneCell' = true := by intro u hu; simp only [M4.iv, List.mem_map] at hu; obtain ⟨z, _, rfl⟩ := hu; rfl
end NR
set_option linter.unusedSimpArgs false in
set_option maxHeartbeats 1600000 in
set_option maxRecDepth 100000 in
theorem growNil_any (n : Nat) (w : World) (hn : n ≤ 1048576) :
    Calls Try.prog 60 #[.slice none 0 0, .int .i64 (n : Int)] w fun e w' => ∃ v, e = .returned v ∧ w'.ownsRow w.heap.size 3 1 v 0 [] ∧ Below w.heap.size w w' := by
  obtain ⟨i0, hi, hz0, hz1, hz2⟩ := info_parts Try.info3
  by_cases h0 : n = 0
  · subst h0
    go_enter Try.func60, Try.ntmps60
    go_wp2
    go_ret
    exact ⟨_, rfl, World.ownsRow_nil _ _ _ _, Below.refl _ _⟩
  · have hrz : ∀ ty, (Builtin.append_ #[29, 3] ty #[.slice none 0 0, .int .i64 (n : Int)]).run Try.prog w = .ok (.slice (some ⟨w.heap.size, 0, none⟩) n (grownCap w n 0 3)) (w.drew.alloc (.cells ((#[] : Array Value) ++ Builtin.zeroCells (Value.cells (.int .i64 0)) n ++ Builtin.zeroCells (Value.cells (.int .i64 0)) (grownCap w n 0 3 - n)) 3)) := fun ty => by
      have h := Lib.run_append_grow_zeros (P := Try.prog) w 29 3 ty 3 i0 (.int .i64 0) .i64 .i64 Try.underlying29 Try.underlying3 hi hz0 none 0 0 [] (run_firstCells_none w.drew i0.size 0 0 0) n (by omega) (by omega) (by omega) (by omega) (by rw [hz2]; omega) (growslice_fits (by omega) (by rw [hz2]; omega))
      simpa using h
    have hG : n ≤ grownCap w n 0 3 := grownCap_ge w _ _ _
    have hG2 : grownCap w n 0 3 ≤ maxLen := grownCap_le_maxLen w n 0 3 (by unfold maxLen; omega)
    generalize grownCap w n 0 3 = G at *
    have hX : ((#[] : Array Value) ++ Builtin.zeroCells (Value.cells (.int .i64 0)) n ++ Builtin.zeroCells (Value.cells (.int .i64 0)) (G - n)).size = G := by
      have hsz : ∀ m, (Builtin.zeroCells (Value.cells (.int .i64 0)) m).size = m := fun m => by rw [size_zeroCells]; simp [Value.cells]
      rw [Array.size_append, Array.size_append, hsz, hsz]; simp; omega
    generalize ((#[] : Array Value) ++ Builtin.zeroCells (Value.cells (.int .i64 0)) n ++ Builtin.zeroCells (Value.cells (.int .i64 0)) (G - n)) = X at *
    have hown : ((w.alloc (.cells X 3)).drew).ownsRow w.heap.size 3 1 (.slice (some ⟨w.heap.size, 0, none⟩) 0 G) 0 [] :=
      ⟨rfl, .inr ⟨w.heap.size, G, X, rfl, Nat.le_refl _, heap_alloc_new w _, Nat.zero_le _, hG2, by omega, rfl⟩⟩
    have hB : Below w.heap.size w ((w.alloc (.cells X 3)).drew) := ((Below.refl _ w).alloc (Nat.le_refl _) _).drew
    have HO : Hid (World.ownsRow ((w.alloc (.cells X 3)).drew) w.heap.size 3 1 (.slice (some ⟨w.heap.size, 0, none⟩) 0 G) 0 []) := hown
    have HB : Hid _ := hB
    have hG63 : G ≤ 9223372036854775807 := by unfold maxLen at hG2; omega
    clear hown hB hX hG2
    go_enter Try.func60, Try.ntmps60
    go_wp2_with (at_builtin; refine Lib.wpList_append_run _ rfl _ _ _ _ rfl _ _ rfl rfl _ _ (hrz _) ?_)
    all_goals (go_ret; exact ⟨.slice (some ⟨w.heap.size, 0, none⟩) 0 G, rfl, HO.out, HB.out⟩)
set_option linter.unusedSimpArgs false in
set_option maxHeartbeats 1600000 in
set_option maxRecDepth 100000 in
theorem concat_any (a : Option Addr) (ca : Nat) (ws : List (List Int)) (w : World) (hn : ws.length ≤ 1048576) (ht : NR.tot ws ≤ 1048576) (hin : NR.RowsAt w a ws) :
    Calls Try.prog 38 #[.slice a ws.length ca] w fun e w' => ∃ a1 c1, e = .returned (.slice a1 ws.flatten.length c1) ∧ w'.ownsRow w.heap.size 3 1 (.slice a1 ws.flatten.length c1) ws.flatten.length (M4.iv ws.flatten) ∧ Below w.heap.size w w' := by
  obtain ⟨i0, hi, hz0, hz1, hz2⟩ := info_parts Try.info3
  have HI : Hid (NR.RowsAt w a ws) := hin
  have GN : Hid _ := growNil_any (NR.tot ws) w ht
  clear hin
  go_enter Try.func38, Try.ntmps38
  go_wp2
  go_loopw [3, 11] (fun sv iv wr => ∃ i : Nat, iv = .int .i64 i ∧ i ≤ ws.length ∧ sv = .int .i64 (NR.tot (ws.take i) : Int) ∧ w = wr) (fun _ iv _ => (ws.length - intOf iv).toNat)
  case atStart => exact ⟨0, rfl, by omega, by simp [NR.tot], rfl⟩
  case round =>
    obtain ⟨i, rfl, hiw, rfl, rfl⟩ := hrel
    have tl := NR.tot_le ws i
    by_cases hl : i < ws.length
    · obtain ⟨b1, off1, a1, c1, rfl, hlt1, d1, _, i1⟩ := HI.out.at hl
      have ET : Hid (NR.tot (ws.take (i + 1)) = NR.tot (ws.take i) + (NR.rw_ ws i).length) := NR.tot_take ws hl
      have hrt := NR.tot_row ws hl
      generalize NR.tot (ws.take i) = ti at *
      generalize (NR.rw_ ws i).length = ri at *
      have hp : (0 : Int) ≤ (ti : Int) + (ri : Int) := by omega
      clear HI GN i1
      go_wp2
      go_roundw
      case rel => exact ⟨i + 1, by go_num, by omega, by rw [ET.out]; push_cast; rfl, trivial⟩
      case measure => simp [intOf]; omega
    · obtain rfl : i = ws.length := by omega
      rw [List.take_length]
      go_wp2_with fail
      refine Calls.mono GN.out ?_
      rintro e w1 ⟨v1, rfl, ho, hb1⟩
      clear GN
      have HO0 : Hid (World.ownsRow w1 w.heap.size 3 1 v1 0 []) := ho
      clear ho
      go_wp2
      go_loopw [6, 27] (fun v iv wr => ∃ i : Nat, iv = .int .i64 i ∧ i ≤ ws.length ∧ Hid (World.ownsRow wr w.heap.size 3 1 v (ws.take i).flatten.length (M4.iv (ws.take i).flatten)) ∧ Below w.heap.size w wr) (fun _ iv _ => (ws.length - intOf iv).toNat)
      case atStart => exact ⟨0, rfl, by omega, by simpa [M4.iv] using HO0, hb1⟩
      case round =>
        clear HO0 hb1
        obtain ⟨i, rfl, hiw, HO, hb⟩ := hrel
        by_cases hl : i < ws.length
        · obtain ⟨b1, off1, a1, c1, rfl, hlt1, d1, _, j1⟩ := (HI.out.below hb).at hl
          have EF : Hid _ := NR.flat_take ws hl
          have hrt := NR.tot_row ws hl
          have hfl := NR.flat_len (ws.take i)
          have htt := NR.tot_take ws hl
          have htl := NR.tot_le ws (i + 1)
          have hs1 : (ws.take i).flatten.length + (NR.rw_ ws i).length ≤ 1048576 := by omega
          have J1 : Hid (M4.IntsAt wr a1 (NR.rw_ ws i)) := j1
          generalize NR.rw_ ws i = r at *
          generalize (ws.take i).flatten = fl at *
          clear HI j1 hfl htt htl hrt
          have hbs := hb.size
          by_cases hr : r = []
          · subst hr
            have EF2 : Hid ((ws.take (i + 1)).flatten = fl) := by show _ = _; rw [EF.out, List.append_nil]
            have run := fun ty => NR.run_append_empty (P := Try.prog) (w := wr) w.heap.size 29 ty 3 i0 1 Try.underlying29 hi _ _ _ HO.out a1 c1
            clear EF J1
            go_wp2_with (at_builtin; refine Lib.wpList_append_run _ rfl _ _ _ _ rfl _ _ rfl rfl _ _ (run _) ?_)
            go_roundw
            case rel => exact ⟨i + 1, by go_num, by omega, by rw [EF2.out]; exact HO, hb⟩
            case measure => simp [intOf]; omega
          · obtain ⟨b2, off2, rfl⟩ : ∃ b off, a1 = some ⟨b, off, none⟩ := by
              rcases J1.out with e | ⟨b, off, e, _⟩
              · exact absurd e hr
              · exact ⟨b, off, e⟩
            generalize hrl : r.length = rl at *
            have HRL : Hid _ := hrl
            clear hrl
            go_wp2_with (at_builtin; go_loud (refine wpList_append_own _ rfl _ _ 29 rfl w.heap.size 3 i0 (.int .i64 0) 1 8 Try.underlying29 hi hz0 hz1 hz2 rfl (by decide) _ _ _ rfl HO.out ⟨b2, off2, none⟩ rl c1 (M4.iv r) rfl ?c0 ?c1 ?c2 ?c3 ?c4 ?c5 ?_))
            all_goals try (first | omega | exact NR.cells_of J1.out | exact NR.iv_one _ | (unfold maxLen; omega) | (simp [M4.iv, HRL.out]; done))
            intro v' w3 hown1 hgrow _
            have R1 : Hid (World.ownsRow w3 w.heap.size 3 1 v' (ws.take (i + 1)).flatten.length (M4.iv (ws.take (i + 1)).flatten)) := by
              show World.ownsRow _ _ _ _ _ _ _
              rw [EF.out, List.length_append, HRL.out]
              simpa [M4.iv] using hown1
            have R2 := hb.grown hgrow hbs (fun j hj => (HO.out.lt j hj).1)
            clear hown1 hgrow HO EF
            go_wp2
            go_roundw
            case rel => exact ⟨i + 1, by go_num, by omega, R1, R2⟩
            case measure => simp [intOf]; omega
        · obtain rfl : i = ws.length := by omega
          rw [List.take_length] at HO
          obtain ⟨a3, c3, hv, _⟩ := M5.own_view HO.out
          rw [hv] at HO ⊢
          clear HI hv
          generalize hsll : ws.flatten.length = sl at *
          have HSL : Hid _ := hsll
          clear hsll
          go_wp2
          go_ret
          exact ⟨a3, c3, by rw [HSL.out]; rfl, by rw [HSL.out]; exact HO.out, hb⟩
end Go.Proofs.Ytpabhjnpbnabiaa

/- What slices.Sort does, as a hypothesis. -/
namespace Go.Proofs.Ytpabhjnpbnabiaa
open Go.RowKit Go.Maps
/-- What slices.Sort does to a row of numbers that the call owns. -/
def SortsI : Prop := ∀ (base g cap : Nat) (zs : List Int) (w : World), w.ownsRow base 3 1 (.slice (some ⟨g, 0, none⟩) zs.length cap) zs.length (M4.iv zs) → zs.length ≤ 1048576 →
  Calls Try.prog 39 #[.slice (some ⟨g, 0, none⟩) zs.length cap] w fun e w' => e = .returned (.tuple #[]) ∧ w'.ownsRow base 3 1 (.slice (some ⟨g, 0, none⟩) zs.length cap) zs.length (M4.iv (zs.mergeSort fun x y => decide (x ≤ y))) ∧ w.grownBy w' (some g)
end Go.Proofs.Ytpabhjnpbnabiaa

/- Contracts of the library at this program, laid by the kit's command. -/
namespace Go.Proofs
open Go.Shelf
def Try.lays189_ren : Go.Shelf.Ren := ⟨fun | 189 => 39 | 125 => 62 | 257 => 61 | 128 => 77 | 129 => 78 | 294 => 68 | 295 => 69 | 296 => 70 | 297 => 71 | 298 => 72 | 299 => 73 | 216 => 74 | 300 => 75 | 301 => 76 | 328 => 87 | 329 => 88 | 330 => 89 | 331 => 90 | 332 => 91 | 215 => 92 | 343 => 96 | n => n, fun | 28 => 29 | 3 => 3 | 46 => 85 | 0 => 0 | 51 => 104 | 53 => 43 | 4 => 4 | 183 => 96 | 182 => 95 | 131 => 101 | 5 => 5 | 9 => 9 | 218 => 116 | 222 => 120 | 228 => 124 | 229 => 91 | n => n, fun | n => n⟩
theorem Try.lays189 : Go.Proofs.Lays.n189 Try.prog Try.lays189_ren := {
  mixed := by kernel_rfl
  f125 := Try.func62.trans (congrArg some (by kernel_rfl))
  f128 := Try.func77.trans (congrArg some (by kernel_rfl))
  f129 := Try.func78.trans (congrArg some (by kernel_rfl))
  f189 := Try.func39.trans (congrArg some (by kernel_rfl))
  f215 := Try.func92.trans (congrArg some (by kernel_rfl))
  f216 := Try.func74.trans (congrArg some (by kernel_rfl))
  f257 := Try.func61.trans (congrArg some (by kernel_rfl))
  f294 := Try.func68.trans (congrArg some (by kernel_rfl))
  f295 := Try.func69.trans (congrArg some (by kernel_rfl))
  f296 := Try.func70.trans (congrArg some (by kernel_rfl))
  f297 := Try.func71.trans (congrArg some (by kernel_rfl))
  f298 := Try.func72.trans (congrArg some (by kernel_rfl))
  f299 := Try.func73.trans (congrArg some (by kernel_rfl))
  f300 := Try.func75.trans (congrArg some (by kernel_rfl))
  f301 := Try.func76.trans (congrArg some (by kernel_rfl))
  f328 := Try.func87.trans (congrArg some (by kernel_rfl))
  f329 := Try.func88.trans (congrArg some (by kernel_rfl))
  f330 := Try.func89.trans (congrArg some (by kernel_rfl))
  f331 := Try.func90.trans (congrArg some (by kernel_rfl))
  f332 := Try.func91.trans (congrArg some (by kernel_rfl))
  f343 := Try.func96.trans (congrArg some (by kernel_rfl))
  t0 := Try.underlying0
  a0 := Try.isAgg0
  z0 := Try.sizeOf0
  v0 := Try.zeroValue0
  t3 := Try.underlying3
  a3 := Try.isAgg3
  z3 := Try.sizeOf3
  v3 := Try.zeroValue3
  t4 := Try.underlying4
  a4 := Try.isAgg4
  z4 := Try.sizeOf4
  v4 := Try.zeroValue4
  t5 := Try.underlying5
  a5 := Try.isAgg5
  z5 := Try.sizeOf5
  v5 := Try.zeroValue5
  t9 := Try.underlying9
  a9 := Try.isAgg9
  z9 := Try.sizeOf9
  v9 := Try.zeroValue9
  t28 := Try.underlying29
  a28 := Try.isAgg29
  z28 := Try.sizeOf29
  v28 := Try.zeroValue29
  t46 := Try.underlying85
  a46 := Try.isAgg85
  z46 := Try.sizeOf85
  v46 := Try.zeroValue85
  t51 := Try.underlying104
  a51 := Try.isAgg104
  z51 := Try.sizeOf104
  v51 := Try.zeroValue104
  t53 := Try.underlying43
  a53 := Try.isAgg43
  z53 := Try.sizeOf43
  v53 := Try.zeroValue43
  t131 := Try.underlying101
  a131 := Try.isAgg101
  z131 := Try.sizeOf101
  v131 := Try.zeroValue101
  t182 := Try.underlying95
  a182 := Try.isAgg95
  z182 := Try.sizeOf95
  v182 := Try.zeroValue95
  t183 := Try.underlying96
  a183 := Try.isAgg96
  z183 := Try.sizeOf96
  v183 := Try.zeroValue96
  t218 := Try.underlying116
  a218 := Try.isAgg116
  z218 := Try.sizeOf116
  v218 := Try.zeroValue116
  t222 := Try.underlying120
  a222 := Try.isAgg120
  z222 := Try.sizeOf120
  v222 := Try.zeroValue120
  t228 := Try.underlying124
  a228 := Try.isAgg124
  z228 := Try.sizeOf124
  v228 := Try.zeroValue124
  t229 := Try.underlying91
  a229 := Try.isAgg91
  z229 := Try.sizeOf91
  v229 := Try.zeroValue91 }
open Go.Sort Go.RowKit in
theorem Try.slices_Sort_int (blk off cap : Nat) (zs : List Int) (w : World) (hH : Holds (Value.int .i64) w blk off zs.toArray) (hblk : blk < w.heap.size) (hsz : zs.length < 4611686018427387904) :
    Calls Try.prog 39 #[.slice (some ⟨blk, off, none⟩) zs.length cap] w fun e w' =>
      e = .returned (.tuple #[]) ∧ ∃ n os, w' = grow (putRow (Value.int .i64) (Sort.ahead w n) blk off (zs.mergeSort fun x y => decide (x ≤ y)).toArray) os := Any.slices_Sort_int Try.lays189 blk off cap zs w hH hblk hsz
end Go.Proofs

/- slices.Sort of a row of numbers that the call owns, by the library's contract. -/
namespace Go.Proofs.Ytpabhjnpbnabiaa
open Go.RowKit
theorem sortsI : SortsI := by
  intro base g cap zs w ho hz
  rcases ho.2 with ⟨h, _⟩ | ⟨g', cap', cur, hv, hbase, hb, h1, h2, h3, h4⟩
  · cases h
  · cases hv
    refine (Try.slices_Sort_int g 0 cap zs w (holds_of_blockI hb (by simpa [M4.iv] using h4)) (Array.getElem?_eq_some_iff.1 hb).1 (by omega)).mono ?_
    rintro e w' ⟨rfl, n, os, rfl⟩
    refine ⟨rfl, ?_, grownBy_sortedI _⟩
    have := ownsRow_sortedI (n := n) (os := os) (ss := zs) (ts := zs.mergeSort fun x y => decide (x ≤ y)) (List.length_mergeSort _) hbase hb h1 h2 h3
    exact this
end Go.Proofs.Ytpabhjnpbnabiaa

/- slices.Sort of no numbers at all. -/
namespace Go.Proofs.Ytpabhjnpbnabiaa
open Go.RowKit
set_option maxHeartbeats 1600000 in
set_option maxRecDepth 100000 in
theorem len64_0 (w : World) : Calls Try.prog 78 #[.int .u64 0] w fun e w' => (∃ z : Int, e = .returned (.int .i64 z)) ∧ w = w' := by
  go_enter Try.func78, Try.ntmps78
  go_wp2
  go_ret
  exact ⟨⟨_, rfl⟩, rfl⟩
set_option maxHeartbeats 1600000 in
set_option maxRecDepth 100000 in
theorem len_0 (w : World) : Calls Try.prog 62 #[.int .u64 0] w fun e w' => (∃ z : Int, e = .returned (.int .i64 z)) ∧ w = w' := by
  go_enter Try.func62, Try.ntmps62
  go_wp2_with fail
  refine (len64_0 w).mono ?_
  rintro e w1 ⟨⟨z, rfl⟩, rfl⟩
  go_wp2
  go_ret
  exact ⟨⟨z, rfl⟩, rfl⟩
set_option maxHeartbeats 1600000 in
set_option maxRecDepth 100000 in
theorem ins_0 (a : Option Addr) (c : Nat) (w : World) : Calls Try.prog 68 #[.slice a 0 c, .int .i64 0, .int .i64 0] w fun e w' => e = .returned (.tuple #[]) ∧ w = w' := by
  go_enter Try.func68, Try.ntmps68
  go_wp2
  refine wp_loop_rounds 1 ?_
  rw [rounds_succ]
  go_wp2
  go_end0
  exact ⟨rfl, rfl⟩
set_option maxHeartbeats 1600000 in
set_option maxRecDepth 100000 in
theorem pdq_0 (a : Option Addr) (c : Nat) (z : Int) (w : World) : Calls Try.prog 61 #[.slice a 0 c, .int .i64 0, .int .i64 0, .int .i64 z] w fun e w' => e = .returned (.tuple #[]) ∧ w = w' := by
  go_enter Try.func61, Try.ntmps61
  go_wp2_with fail
  refine wp_loop_rounds 1 ?_
  rw [rounds_succ]
  go_wp2_with fail
  refine (ins_0 a c w).mono ?_
  rintro e w1 ⟨rfl, rfl⟩
  go_wp2
  exact bodyPost_ret (v := .tuple #[]) (by simp [results, Try.results61, go_sem]) rfl ⟨rfl, rfl⟩
set_option maxHeartbeats 1600000 in
set_option maxRecDepth 100000 in
theorem sortI_0 (a : Option Addr) (c : Nat) (w : World) : Calls Try.prog 39 #[.slice a 0 c] w fun e w' => e = .returned (.tuple #[]) ∧ w = w' := by
  go_enter Try.func39, Try.ntmps39
  go_wp2_with fail
  refine (len_0 w).mono ?_
  rintro e w1 ⟨⟨z, rfl⟩, rfl⟩
  go_wp2_with fail
  refine (pdq_0 a c z w).mono ?_
  rintro e w1 ⟨rfl, rfl⟩
  go_wp2
  go_end0
  exact ⟨rfl, rfl⟩
end Go.Proofs.Ytpabhjnpbnabiaa

/- A laying of the library's contracts at this program, laid by the kit's command. -/
namespace Go.Proofs
open Go.Shelf
def Try.laysLayCmp_ren : Go.Shelf.Ren := ⟨fun | 20 => 40 | n => n, fun | 22 => 29 | 3 => 3 | 4 => 4 | 0 => 0 | n => n, fun | n => n⟩
theorem Try.laysLayCmp : Go.Proofs.Lays2.n20 Try.prog Try.laysLayCmp_ren := {
  mixed := by kernel_rfl
  f20 := Try.func40.trans (congrArg some (by kernel_rfl))
  t0 := Try.underlying0
  a0 := Try.isAgg0
  z0 := Try.sizeOf0
  v0 := Try.zeroValue0
  t3 := Try.underlying3
  a3 := Try.isAgg3
  z3 := Try.sizeOf3
  v3 := Try.zeroValue3
  t4 := Try.underlying4
  a4 := Try.isAgg4
  z4 := Try.sizeOf4
  v4 := Try.zeroValue4
  t22 := Try.underlying29
  a22 := Try.isAgg29
  z22 := Try.sizeOf29
  v22 := Try.zeroValue29
  i3 := by kernel_rfl }
end Go.Proofs

/- slices.Compact of a row of numbers that the call owns, by the library's contract. -/
namespace Go.Proofs.Ytpabhjnpbnabiaa
open Go.RowKit Go.Sort
theorem compactI (base g cap : Nat) (zs : List Int) (w : World) (ho : w.ownsRow base 3 1 (.slice (some ⟨g, 0, none⟩) zs.length cap) zs.length (M4.iv zs)) (hz : zs.length ≤ 1048576) :
    Calls Try.prog 40 #[.slice (some ⟨g, 0, none⟩) zs.length cap] w fun e w' => e = .returned (.slice (some ⟨g, 0, none⟩) (Lib.compact zs).length cap) ∧ w.grownBy w' (some g) := by
  rcases ho.2 with ⟨h, _⟩ | ⟨g', cap', cur, hv, hbase, hb, h1, h2, h3, h4⟩
  · cases h
  · cases hv
    refine (Any.slices_Compact_int Try.laysLayCmp g 0 cap zs w (holds_of_blockI hb (by simpa [M4.iv] using h4)) (by omega) h1).mono ?_
    rintro e w' ⟨rfl, q, rfl⟩
    refine ⟨rfl, ?_⟩
    have := grownBy_sortedI (w := w) (g := g) (n := q) (os := #[]) (Lib.compact zs ++ List.replicate (zs.length - (Lib.compact zs).length) 0).toArray
    rwa [grow_empty] at this
theorem compactI_0 (a : Option Addr) (cap : Nat) (w : World) : Calls Try.prog 40 #[.slice a 0 cap] w fun e w' => e = .returned (.slice a 0 cap) ∧ w' = w :=
  Any.slices_Compact_int_empty Try.laysLayCmp a cap w
end Go.Proofs.Ytpabhjnpbnabiaa

/- AreApart of the program. -/
namespace Go.Proofs.Ytpabhjnpbnabiaa
open Go.RowKit
set_option linter.unusedSimpArgs false in
set_option maxHeartbeats 1600000 in
set_option maxRecDepth 100000 in
theorem implApart_any (a : Option Addr) (ca : Nat) (ws : List (List Int)) (w : World) (hn : ws.length ≤ 1048576) (ht : NR.tot ws ≤ 1048576) (hin : NR.RowsAt w a ws) :
    Calls Try.prog 15 #[.slice a ws.length ca] w fun e w' => e = .returned (.tuple #[.bool (NR.apB ws), .bool (NR.apOk ws)]) ∧ Below w.heap.size w w' := by
  have AC : Hid _ := NR.apC ws
  have HI : Hid (NR.RowsAt w a ws) := hin
  have CC : Hid _ := concat_any a ca ws w hn ht hin
  have NB : Hid (decide ((Lib.compact (ws.flatten.mergeSort fun x y => decide (x ≤ y))).length = ws.flatten.length) = NR.nodB ws) := NR.sort_compact ws.flatten
  have hfl := NR.flat_len ws
  have hfl2 : ws.flatten.length ≤ 1048576 := by omega
  have RN : Hid _ := fun (k : Nat) (hk : k < ws.length) h => NR.rows_no hk h
  have RY : Hid _ := fun h => NR.rows_yes (ws := ws) h
  generalize NR.apB ws = B at *
  generalize NR.apOk ws = ok at *
  generalize NR.nodB ws = nb at *
  generalize ws.flatten = fl at *
  clear hin hfl
  by_cases hw : ws.length ≤ 20
  · go_enter Try.func15, Try.ntmps15
    go_wp2
    go_loopw [12] (fun iv wr => ∃ k : Nat, iv = .int .i64 k ∧ k ≤ ws.length ∧ Hid (NR.okUp ws k) ∧ w = wr) (fun iv _ => (ws.length - intOf iv).toNat)
    case atStart => exact ⟨0, rfl, by omega, show Hid _ from fun j hj => by omega, rfl⟩
    case round =>
      obtain ⟨k, rfl, hk, hT, rfl⟩ := hrel
      by_cases hlk : k < ws.length
      · obtain ⟨b1, off1, a1, c1, rfl, hlt1, d1, _, _⟩ := HI.out.at hlk
        have hrt := NR.tot_row ws hlk
        have HY : Hid _ := fun h => NR.okUp_succ hT.out (k := k) h
        have HN : Hid _ := fun h => RN.out k hlk h
        clear HI CC NB RN RY hT
        generalize (NR.rw_ ws k).length = rl at *
        by_cases hr : rl ≤ 20
        · have hT : Hid _ := HY.out hr
          clear HY HN AC
          go_wp2
          go_roundw
          case rel => exact ⟨k + 1, by go_num, by omega, hT, trivial⟩
          case measure => simp [intOf]; omega
        · have hF := HN.out (by omega)
          obtain ⟨rfl, rfl⟩ := AC.out.long hw hF
          have hr2 : (20 : Int) < (rl : Int) := by omega
          clear HY HN AC hF
          go_wp2
          go_ret2
          exact ⟨rfl, Below.refl _ _⟩
      · obtain rfl : k = ws.length := by omega
        obtain ⟨rfl, rfl⟩ := AC.out.yes hw (RY.out hT.out)
        clear HI RN RY hT AC
        go_wp2_with fail
        refine Calls.mono CC.out ?_
        rintro e w1 ⟨a1, c1, rfl, ho, hb1⟩
        clear CC
        rcases ho.2 with ⟨hv, h0⟩ | ⟨g, cap', cur, hv, hbg, _⟩
        · obtain rfl : fl = [] := List.eq_nil_of_length_eq_zero h0
          obtain rfl : B = true := by rw [← NB.out]; simp [Lib.compact, Lib.compactUpTo]
          simp only [Value.slice.injEq] at hv
          obtain ⟨rfl, -, rfl⟩ := hv
          clear ho NB h0
          have S0 : Hid _ := sortI_0 none 0 w1
          have K0 : Hid _ := compactI_0 none 0 w1
          simp only [List.length_nil]
          go_wp2_with fail
          refine Calls.mono S0.out ?_
          rintro e w2 ⟨rfl, rfl⟩
          clear S0
          go_wp2_with fail
          refine Calls.mono K0.out ?_
          rintro e w2 ⟨rfl, rfl⟩
          clear K0
          go_wp2
          go_ret2
          exact ⟨rfl, hb1⟩
        · simp only [Value.slice.injEq] at hv
          obtain ⟨rfl, -, rfl⟩ := hv
          have S1 : Hid _ := sortsI w.heap.size g c1 fl w1 ho hfl2
          have hml : (fl.mergeSort fun x y => decide (x ≤ y)).length = fl.length := List.length_mergeSort _
          have K1 : Hid (∀ W : World, W.ownsRow w.heap.size 3 1 (.slice (some ⟨g, 0, none⟩) fl.length c1) fl.length (M4.iv (fl.mergeSort fun x y => decide (x ≤ y))) → Calls Try.prog 40 #[.slice (some ⟨g, 0, none⟩) fl.length c1] W fun e w' => e = .returned (.slice (some ⟨g, 0, none⟩) (Lib.compact (fl.mergeSort fun x y => decide (x ≤ y))).length c1) ∧ W.grownBy w' (some g)) := fun W h => by
            have := compactI w.heap.size g c1 (fl.mergeSort fun x y => decide (x ≤ y)) W (by rw [hml]; exact h) (by omega)
            rwa [hml] at this
          have hcl : (Lib.compact (fl.mergeSort fun x y => decide (x ≤ y))).length ≤ 1048576 := by
            have h1 : (Lib.compact (fl.mergeSort fun x y => decide (x ≤ y))).length ≤ (fl.mergeSort fun x y => decide (x ≤ y)).length := by
              unfold Lib.compact Lib.compactUpTo
              rw [List.length_map]
              have := List.length_filter_le (Lib.keeps (fl.mergeSort fun x y => decide (x ≤ y)).toArray) (List.range (fl.mergeSort fun x y => decide (x ≤ y)).length)
              rwa [List.length_range] at this
            omega
          generalize (Lib.compact (fl.mergeSort fun x y => decide (x ≤ y))).length = cl at *
          have HML : Hid _ := hml
          clear hml ho
          generalize hflx : fl.length = fx at *
          clear hflx
          have HB : Hid (((cl : Int) == (fx : Int)) = B) := by
            show _ = B; rw [← NB.out, Bool.eq_iff_iff, beq_iff_eq, decide_eq_true_eq]; omega
          clear NB HML
          have hsz := hb1.size
          go_wp2_with fail
          refine Calls.mono S1.out ?_
          rintro e w2 ⟨rfl, ho2, hg2⟩
          have K2 : Hid _ := K1.out w2 ho2
          have hb2 : Below w.heap.size w w2 := hb1.grown hg2 hsz (fun q hq => by cases hq; exact hbg)
          clear S1 K1 ho2 hg2
          go_wp2_with fail
          refine Calls.mono K2.out ?_
          rintro e w3 ⟨rfl, hg3⟩
          have hb3 : Below w.heap.size w w3 := hb2.grown hg3 hb2.size (fun q hq => by cases hq; exact hbg)
          clear K2 hg3
          go_wp2
          go_ret2
          exact ⟨by rw [← HB.out]; rfl, hb3⟩
  · obtain ⟨rfl, rfl⟩ := AC.out.many (by omega)
    have hw2 : (20 : Int) < (ws.length : Int) := by omega
    clear AC HI CC NB RN RY
    go_enter Try.func15, Try.ntmps15
    go_wp2
    go_ret2
    exact ⟨rfl, Below.refl _ _⟩
end Go.Proofs.Ytpabhjnpbnabiaa
