import Derived.Test.YtepgmmigacafeaaRows
import Derived.Test.YtepgmmigacafeaaCBundleD
import Derived.Test.YtepgmmigacafeaaM2
import Derived.WalkKit
import Derived.WalkSpells
import Derived.WalkLawsBesides
import Derived.Outline
import Derived.Deep.DeepCutAuto
import Derived.Test.YtepgmmigacafeaaCCutBS
import Derived.Test.YtepgmmigacafeaaMCurNew
import Derived.Test.YtepgmmigacafeaaCAmong
import Derived.Deep.RegionHeld3
/- The cursor's wholeBundle: some bundle that is no piece, with a Payload of at most 61 bytes. -/
namespace Go.Proofs.Ytepgmmigacafeaa
open Go.RowKit
theorem Try.infoU8W : (Try.prog.info? 5).map (fun i => (i.zero, i.size, i.bytes)) = some (some (.int .u8 0), 1, 1) := by kernel_rfl
def wholeS : List ByteArray := [⟨#[104, 101, 108, 108, 111]⟩, ⟨#[97, 32, 108, 111, 110, 103, 101, 114, 32, 116, 101, 120, 116, 32, 111, 102, 32, 115, 111, 109, 101, 32, 98, 121, 116, 101, 115]⟩, ⟨#[120]⟩, ⟨#[48, 49, 50, 51, 52, 53, 54, 55, 56, 57]⟩]
theorem whole_at (w : World) : StrsAt (w.alloc (.cells #[.string ⟨#[104, 101, 108, 108, 111]⟩, .string ⟨#[97, 32, 108, 111, 110, 103, 101, 114, 32, 116, 101, 120, 116, 32, 111, 102, 32, 115, 111, 109, 101, 32, 98, 121, 116, 101, 115]⟩, .string ⟨#[120]⟩, .string ⟨#[48, 49, 50, 51, 52, 53, 54, 55, 56, 57]⟩] 9)) w.heap.size 0 wholeS := by
  refine ⟨by simp, fun j hj => ?_⟩
  rw [Nat.zero_add, World.cell?_alloc_at _ _ _ _ (by rfl)]
  have : j < 4 := hj
  match j, this with
  | 0, _ | 1, _ | 2, _ | 3, _ => rfl
theorem whole_size (s : ByteArray) (h : s ∈ wholeS) : s.size ≤ 61 := by
  simp only [wholeS, List.mem_cons, List.not_mem_nil, or_false] at h
  rcases h with rfl | rfl | rfl | rfl <;> decide
theorem zeros_bvW (n : Nat) : (madeCells #[Value.int .u8 0] n).toList = M2.bv (List.replicate n 0) := by
  rw [toList_madeCells_one]; simp [M2.bv]
theorem zeros_sizeW (n : Nat) : (⟨(List.replicate n (0 : UInt8)).toArray⟩ : ByteArray).size = n := by show (List.replicate n (0 : UInt8)).toArray.size = n; simp
set_option linter.unusedSimpArgs false in
set_option maxHeartbeats 3200000 in
set_option maxRecDepth 100000 in
theorem wholeBundle_any (p : Nat) (a : Option Addr) (zs : List Int) (cap M : Nat) (w : World) (hz : zs.length ≤ 140737488355328) (hM : M ≤ 140737488330000) (hc : MC.Cur w p a zs cap M) :
    Calls Try.prog 26 #[.pointer (some ⟨p, 0, none⟩)] w fun e w' => ∃ b : Bd, e = .returned b.v ∧ b.py.size ≤ 61 ∧ b.of = 0 ∧ b.tl = 0 ∧ MC.Cur w' p a zs cap (M + 60) ∧ MC.Only p w w' := by
  obtain ⟨i0, hi, hz0, hz1, hz2⟩ := info_parts Try.infoU8W
  have hplt := hc.lt
  have hbr := BX.Box.new w 24 B1.zero w.heap.size rfl
  have hor := (MC.Only.refl p w).alloc (.cells (BX.cs B1.zero).toArray 24)
  replace hc := hc.alloc (.cells (BX.cs B1.zero).toArray 24)
  simp only [BX.cs, Bd.cs, B1.zero] at hbr hor hc
  go_enter Try.func26, Try.ntmps26
  go_wp2_with fail
  generalize w.alloc (.cells #[.int .i64 0, .int .i64 0, .bool false, .int .i64 0, .int .i64 0, .int .i64 0, .int .i64 0, .int .i64 0, .int .i64 0, .string ⟨#[]⟩] 24) = w0 at *
  obtain ⟨r, hr⟩ : ∃ r, w.heap.size = r := ⟨_, rfl⟩
  rw [hr] at hbr hplt ⊢
  have hrp : r ≠ p := by omega
  change BX.Box w0 r 24 B1.zero at hbr
  refine (bundle_any p a zs cap M _ hz (by omega) hc).mono ?_
  rintro e w1 ⟨b, rfl, hpb, hc1, ho1⟩
  replace hbr := hbr.only ho1 hrp
  replace hor := hor.trans ho1
  clear hc ho1 hpb
  obtain ⟨x0, x1, x2, x3, x4, x5, x6, x7, x8, x9⟩ := b
  have hbq := BX.Box.new w1 24 ⟨x0, x1, x2, x3, x4, x5, x6, x7, x8, x9⟩ w1.heap.size rfl
  have hsw := hor.size
  have hrl := hbr.lt
  have hpl := hc1.lt
  have hc := hc1.alloc (.cells #[.int .i64 x0, .int .i64 x1, .bool x2, .int .i64 x3, .int .i64 x4, .int .i64 x5, .int .i64 x6, .int .i64 x7, .int .i64 x8, .string x9] 24)
  replace hbr := hbr.alloc (.cells #[.int .i64 x0, .int .i64 x1, .bool x2, .int .i64 x3, .int .i64 x4, .int .i64 x5, .int .i64 x6, .int .i64 x7, .int .i64 x8, .string x9] 24)
  replace hor := hor.alloc (.cells #[.int .i64 x0, .int .i64 x1, .bool x2, .int .i64 x3, .int .i64 x4, .int .i64 x5, .int .i64 x6, .int .i64 x7, .int .i64 x8, .string x9] 24)
  simp only [BX.cs, Bd.cs] at hbq
  clear hc1
  go_upto_region 2 with fail
  generalize w1.alloc (.cells #[.int .i64 x0, .int .i64 x1, .bool x2, .int .i64 x3, .int .i64 x4, .int .i64 x5, .int .i64 x6, .int .i64 x7, .int .i64 x8, .string x9] 24) = w2 at *
  obtain ⟨q, hq⟩ : ∃ q, w1.heap.size = q := ⟨_, rfl⟩
  rw [hq] at hbq hrl hpl hsw ⊢
  have hqp : q ≠ p := by omega
  have hpq : p < q := by omega
  have hrq : r ≠ q := by omega
  have hqw : w.heap.size ≤ q := by omega
  clear hq
  have st : BX.Box (w2.setCell ⟨q, 7, none⟩ (.int .i64 0)) q 24 ⟨x0, x1, x2, x3, x4, x5, x6, 0, x8, x9⟩ := hbq.set rfl
  have hc' := BX.cur_set (j := 7) (v := .int .i64 0) hc hpq
  have ho' := BX.only_set (j := 7) (v := .int .i64 0) hor hqw
  have hbr' := hbr.far (g := q) (j := 7) (v := .int .i64 0) hrq
  have kj := hbq.cells 7
  have gj := hbq.free 7
  have hql := hbq.lt
  simp [Bd.cs] at kj
  go_upto_region 3 with fail
  clear kj gj hql hbq hc hor hbr
  have hbq := st
  have hc := hc'
  have hor := ho'
  have hbr := hbr'
  clear st hc' ho' hbr'
  generalize w2.setCell ⟨q, 7, none⟩ (.int .i64 0) = w3 at *
  have st : BX.Box (w3.setCell ⟨q, 8, none⟩ (.int .i64 0)) q 24 ⟨x0, x1, x2, x3, x4, x5, x6, 0, 0, x9⟩ := hbq.set rfl
  have hc' := BX.cur_set (j := 8) (v := .int .i64 0) hc hpq
  have ho' := BX.only_set (j := 8) (v := .int .i64 0) hor hqw
  have hbr' := hbr.far (g := q) (j := 8) (v := .int .i64 0) hrq
  have kj := hbq.cells 8
  have gj := hbq.free 8
  have hql := hbq.lt
  simp [Bd.cs] at kj
  go_upto_region 4 with fail
  clear kj gj hql hbq hc hor hbr
  have hbq := st
  have hc := hc'
  have hor := ho'
  have hbr := hbr'
  clear st hc' ho' hbr'
  generalize w3.setCell ⟨q, 8, none⟩ (.int .i64 0) = w4 at *
  have hs4 := hor.size
  have hq4 := hbq.lt
  have h4 := whole_at w4
  replace hc := hc.alloc (.cells #[.string ⟨#[104, 101, 108, 108, 111]⟩, .string ⟨#[97, 32, 108, 111, 110, 103, 101, 114, 32, 116, 101, 120, 116, 32, 111, 102, 32, 115, 111, 109, 101, 32, 98, 121, 116, 101, 115]⟩, .string ⟨#[120]⟩, .string ⟨#[48, 49, 50, 51, 52, 53, 54, 55, 56, 57]⟩] 9)
  replace hbr := hbr.alloc (.cells #[.string ⟨#[104, 101, 108, 108, 111]⟩, .string ⟨#[97, 32, 108, 111, 110, 103, 101, 114, 32, 116, 101, 120, 116, 32, 111, 102, 32, 115, 111, 109, 101, 32, 98, 121, 116, 101, 115]⟩, .string ⟨#[120]⟩, .string ⟨#[48, 49, 50, 51, 52, 53, 54, 55, 56, 57]⟩] 9)
  replace hbq := hbq.alloc (.cells #[.string ⟨#[104, 101, 108, 108, 111]⟩, .string ⟨#[97, 32, 108, 111, 110, 103, 101, 114, 32, 116, 101, 120, 116, 32, 111, 102, 32, 115, 111, 109, 101, 32, 98, 121, 116, 101, 115]⟩, .string ⟨#[120]⟩, .string ⟨#[48, 49, 50, 51, 52, 53, 54, 55, 56, 57]⟩] 9)
  replace hor := hor.alloc (.cells #[.string ⟨#[104, 101, 108, 108, 111]⟩, .string ⟨#[97, 32, 108, 111, 110, 103, 101, 114, 32, 116, 101, 120, 116, 32, 111, 102, 32, 115, 111, 109, 101, 32, 98, 121, 116, 101, 115]⟩, .string ⟨#[120]⟩, .string ⟨#[48, 49, 50, 51, 52, 53, 54, 55, 56, 57]⟩] 9)
  go_wp2_with fail
  refine (of_any p a zs cap (M + 40) w4.heap.size 0 wholeS 4 _ hz (by omega) hc (by decide) (by decide) h4 (by omega)).mono ?_
  rintro e w5 ⟨s, rfl, hs, hc5, ho5⟩
  replace hs := whole_size s hs
  clear h4
  replace hbr := hbr.only ho5 hrp
  replace hbq := hbq.only ho5 hqp
  replace hor := hor.trans ho5
  clear hc ho5
  have hc := hc5
  clear hc5
  have st : BX.Box (w5.setCell ⟨q, 9, none⟩ (.string s)) q 24 ⟨x0, x1, x2, x3, x4, x5, x6, 0, 0, s⟩ := hbq.set rfl
  have hc' := BX.cur_set (j := 9) (v := .string s) hc hpq
  have ho' := BX.only_set (j := 9) (v := .string s) hor hqw
  have hbr' := hbr.far (g := q) (j := 9) (v := .string s) hrq
  have kj := hbq.cells 9
  have gj := hbq.free 9
  have hql := hbq.lt
  simp [Bd.cs] at kj
  go_wp2_with fail
  clear kj gj hql hbq hc hor hbr
  have hbq := st
  have hc := hc'
  have hor := ho'
  have hbr := hbr'
  clear st hc' ho' hbr'
  generalize w5.setCell ⟨q, 9, none⟩ (.string s) = w6 at *
  refine (one_any p a zs cap (M + 42) _ _ hz (by omega) hc).mono ?_
  rintro e w7 ⟨b7, rfl, hc7, ho7⟩
  replace hbr := hbr.only ho7 hrp
  replace hbq := hbq.only ho7 hqp
  replace hor := hor.trans ho7
  clear hc ho7
  have hc := hc7
  clear hc7
  cases b7
  · have k0 := hbq.cells 0
    have k1 := hbq.cells 1
    have k2 := hbq.cells 2
    have k3 := hbq.cells 3
    have k4 := hbq.cells 4
    have k5 := hbq.cells 5
    have k6 := hbq.cells 6
    have k7 := hbq.cells 7
    have k8 := hbq.cells 8
    have k9 := hbq.cells 9
    simp [Bd.cs, B1.zero] at k0 k1 k2 k3 k4 k5 k6 k7 k8 k9
    have m0 := hbr.cells 0
    have g0 := hbr.free 0
    have m1 := hbr.cells 1
    have g1 := hbr.free 1
    have m2 := hbr.cells 2
    have g2 := hbr.free 2
    have m3 := hbr.cells 3
    have g3 := hbr.free 3
    have m4 := hbr.cells 4
    have g4 := hbr.free 4
    have m5 := hbr.cells 5
    have g5 := hbr.free 5
    have m6 := hbr.cells 6
    have g6 := hbr.free 6
    have m7 := hbr.cells 7
    have g7 := hbr.free 7
    have m8 := hbr.cells 8
    have g8 := hbr.free 8
    have m9 := hbr.cells 9
    have g9 := hbr.free 9
    simp [Bd.cs, B1.zero] at m0 m1 m2 m3 m4 m5 m6 m7 m8 m9
    have hql := hbq.lt
    have hrl2 := hbr.lt
    have hP := hbr.put ⟨x0, x1, x2, x3, x4, x5, x6, 0, 0, s⟩
    have hcE := BX.cur_set (BX.cur_set (BX.cur_set (BX.cur_set (BX.cur_set (BX.cur_set (BX.cur_set (BX.cur_set (BX.cur_set (BX.cur_set (hc) (g := r) (j := 0) (v := .int .i64 x0) hplt) (g := r) (j := 1) (v := .int .i64 x1) hplt) (g := r) (j := 2) (v := .bool x2) hplt) (g := r) (j := 3) (v := .int .i64 x3) hplt) (g := r) (j := 4) (v := .int .i64 x4) hplt) (g := r) (j := 5) (v := .int .i64 x5) hplt) (g := r) (j := 6) (v := .int .i64 x6) hplt) (g := r) (j := 7) (v := .int .i64 0) hplt) (g := r) (j := 8) (v := .int .i64 0) hplt) (g := r) (j := 9) (v := .string s) hplt
    have hoE := BX.only_set (BX.only_set (BX.only_set (BX.only_set (BX.only_set (BX.only_set (BX.only_set (BX.only_set (BX.only_set (BX.only_set (hor) (g := r) (j := 0) (v := .int .i64 x0) (Nat.le_of_eq hr)) (g := r) (j := 1) (v := .int .i64 x1) (Nat.le_of_eq hr)) (g := r) (j := 2) (v := .bool x2) (Nat.le_of_eq hr)) (g := r) (j := 3) (v := .int .i64 x3) (Nat.le_of_eq hr)) (g := r) (j := 4) (v := .int .i64 x4) (Nat.le_of_eq hr)) (g := r) (j := 5) (v := .int .i64 x5) (Nat.le_of_eq hr)) (g := r) (j := 6) (v := .int .i64 x6) (Nat.le_of_eq hr)) (g := r) (j := 7) (v := .int .i64 0) (Nat.le_of_eq hr)) (g := r) (j := 8) (v := .int .i64 0) (Nat.le_of_eq hr)) (g := r) (j := 9) (v := .string s) (Nat.le_of_eq hr)
    go_wp2
    clear k0 m0 g0 k1 m1 g1 k2 m2 g2 k3 m3 g3 k4 m4 g4 k5 m5 g5 k6 m6 g6 k7 m7 g7 k8 m8 g8 k9 m9 g9 hbq hbr hc hor
    have n0 := hP.cells 0
    have n1 := hP.cells 1
    have n2 := hP.cells 2
    have n3 := hP.cells 3
    have n4 := hP.cells 4
    have n5 := hP.cells 5
    have n6 := hP.cells 6
    have n7 := hP.cells 7
    have n8 := hP.cells 8
    have n9 := hP.cells 9
    simp [Bd.cs, B1.zero] at n0 n1 n2 n3 n4 n5 n6 n7 n8 n9
    generalize ((((((((((((((((((((w7).setCell ⟨r, 0, none⟩ (.int .i64 x0))).setCell ⟨r, 1, none⟩ (.int .i64 x1))).setCell ⟨r, 2, none⟩ (.bool x2))).setCell ⟨r, 3, none⟩ (.int .i64 x3))).setCell ⟨r, 4, none⟩ (.int .i64 x4))).setCell ⟨r, 5, none⟩ (.int .i64 x5))).setCell ⟨r, 6, none⟩ (.int .i64 x6))).setCell ⟨r, 7, none⟩ (.int .i64 0))).setCell ⟨r, 8, none⟩ (.int .i64 0))).setCell ⟨r, 9, none⟩ (.string s)) = WE at *
    exact bodyPost_ret (v := .agg #[.int .i64 x0, .int .i64 x1, .bool x2, .int .i64 x3, .int .i64 x4, .int .i64 x5, .int .i64 x6, .int .i64 0, .int .i64 0, .string s]) (by simp [results, Try.results26, go_sem, n0, n1, n2, n3, n4, n5, n6, n7, n8, n9]) rfl ⟨⟨x0, x1, x2, x3, x4, x5, x6, 0, 0, s⟩, rfl, hs, rfl, rfl, hcE.more (by omega), hoE⟩
  · go_wp2_with fail
    refine (pick_any p a zs cap (M + 44) _ _ hz (by omega) hc).mono ?_
    rintro e w8 ⟨y, rfl, hry, hxy, hc8, ho8⟩
    replace hbr := hbr.only ho8 hrp
    replace hbq := hbq.only ho8 hqp
    replace hor := hor.trans ho8
    clear hc ho8
    have hc := hc8
    clear hc8
    have hy2 : y < 2 := by omega
    go_wp2_with (at_make; refine wpList_make_full _ rfl _ _ 22 rfl w8.heap.size 5 i0 (.int .u8 0) 1 Try.underlying22 hi hz0 hz1 .i64 .i64 _ _ (60 + y) rfl rfl (by omega) (by omega) ?_ ?_ ?_ ?_)
    · rw [hz2]; omega
    · unfold maxLen; omega
    · omega
    intro w9 hown hgrow
    have hown' : w9.ownsRow w8.heap.size 5 1 (.slice (some ⟨w8.heap.size, 0, none⟩) (60 + y) (60 + y)) (60 + y) (M2.bv (List.replicate (60 + y) 0)) := by
      have := hown; simpa [zeros_bvW] using this
    have hown2 : w9.ownsRow w8.heap.size 5 1 (.slice (some ⟨w8.heap.size, 0, none⟩) (60 + y) (60 + y)) (List.replicate (60 + y) (0 : UInt8)).length (M2.bv (List.replicate (60 + y) 0)) := by
      rw [List.length_replicate]; exact hown'
    have hcv := M2.conv_own (P := Try.prog) 22 9 5 Try.underlying22 Try.underlying5 Try.underlying9 hown2
    have hzs := zeros_sizeW (60 + y)
    generalize (⟨(List.replicate (60 + y) (0 : UInt8)).toArray⟩ : ByteArray) = zz at *
    have hzz : zz.size ≤ 61 := by omega
    have hB9 : Below w8.heap.size w8 w9 := (Below.refl _ _).grown hgrow (Nat.le_refl _) (fun k hk => by cases hk)
    replace hbq := hbq.below hB9 hbq.lt
    replace hbr := hbr.below hB9 hbr.lt
    replace hc := hc.grown hgrow (fun k hk => by cases hk)
    replace hor := hor.grown hgrow (fun k hk => by cases hk)
    clear hown hown' hown2 hgrow hB9 hzs hi hz0 hz1 hz2
    have st : BX.Box (w9.setCell ⟨q, 9, none⟩ (.string zz)) q 24 ⟨x0, x1, x2, x3, x4, x5, x6, 0, 0, zz⟩ := hbq.set rfl
    have hc' := BX.cur_set (j := 9) (v := .string zz) hc hpq
    have ho' := BX.only_set (j := 9) (v := .string zz) hor hqw
    have hbr' := hbr.far (g := q) (j := 9) (v := .string zz) hrq
    have kj := hbq.cells 9
    have gj := hbq.free 9
    have hql := hbq.lt
    simp [Bd.cs] at kj
    go_upto_region 7 with fail
    clear kj gj hql hbq hc hor hbr
    have hbq := st
    have hc := hc'
    have hor := ho'
    have hbr := hbr'
    clear st hc' ho' hbr'
    clear hcv
    generalize w9.setCell ⟨q, 9, none⟩ (.string zz) = w10 at *
    have k0 := hbq.cells 0
    have k1 := hbq.cells 1
    have k2 := hbq.cells 2
    have k3 := hbq.cells 3
    have k4 := hbq.cells 4
    have k5 := hbq.cells 5
    have k6 := hbq.cells 6
    have k7 := hbq.cells 7
    have k8 := hbq.cells 8
    have k9 := hbq.cells 9
    simp [Bd.cs, B1.zero] at k0 k1 k2 k3 k4 k5 k6 k7 k8 k9
    have m0 := hbr.cells 0
    have g0 := hbr.free 0
    have m1 := hbr.cells 1
    have g1 := hbr.free 1
    have m2 := hbr.cells 2
    have g2 := hbr.free 2
    have m3 := hbr.cells 3
    have g3 := hbr.free 3
    have m4 := hbr.cells 4
    have g4 := hbr.free 4
    have m5 := hbr.cells 5
    have g5 := hbr.free 5
    have m6 := hbr.cells 6
    have g6 := hbr.free 6
    have m7 := hbr.cells 7
    have g7 := hbr.free 7
    have m8 := hbr.cells 8
    have g8 := hbr.free 8
    have m9 := hbr.cells 9
    have g9 := hbr.free 9
    simp [Bd.cs, B1.zero] at m0 m1 m2 m3 m4 m5 m6 m7 m8 m9
    have hql := hbq.lt
    have hrl2 := hbr.lt
    have hP := hbr.put ⟨x0, x1, x2, x3, x4, x5, x6, 0, 0, zz⟩
    have hcE := BX.cur_set (BX.cur_set (BX.cur_set (BX.cur_set (BX.cur_set (BX.cur_set (BX.cur_set (BX.cur_set (BX.cur_set (BX.cur_set (hc) (g := r) (j := 0) (v := .int .i64 x0) hplt) (g := r) (j := 1) (v := .int .i64 x1) hplt) (g := r) (j := 2) (v := .bool x2) hplt) (g := r) (j := 3) (v := .int .i64 x3) hplt) (g := r) (j := 4) (v := .int .i64 x4) hplt) (g := r) (j := 5) (v := .int .i64 x5) hplt) (g := r) (j := 6) (v := .int .i64 x6) hplt) (g := r) (j := 7) (v := .int .i64 0) hplt) (g := r) (j := 8) (v := .int .i64 0) hplt) (g := r) (j := 9) (v := .string zz) hplt
    have hoE := BX.only_set (BX.only_set (BX.only_set (BX.only_set (BX.only_set (BX.only_set (BX.only_set (BX.only_set (BX.only_set (BX.only_set (hor) (g := r) (j := 0) (v := .int .i64 x0) (Nat.le_of_eq hr)) (g := r) (j := 1) (v := .int .i64 x1) (Nat.le_of_eq hr)) (g := r) (j := 2) (v := .bool x2) (Nat.le_of_eq hr)) (g := r) (j := 3) (v := .int .i64 x3) (Nat.le_of_eq hr)) (g := r) (j := 4) (v := .int .i64 x4) (Nat.le_of_eq hr)) (g := r) (j := 5) (v := .int .i64 x5) (Nat.le_of_eq hr)) (g := r) (j := 6) (v := .int .i64 x6) (Nat.le_of_eq hr)) (g := r) (j := 7) (v := .int .i64 0) (Nat.le_of_eq hr)) (g := r) (j := 8) (v := .int .i64 0) (Nat.le_of_eq hr)) (g := r) (j := 9) (v := .string zz) (Nat.le_of_eq hr)
    go_wp2
    clear k0 m0 g0 k1 m1 g1 k2 m2 g2 k3 m3 g3 k4 m4 g4 k5 m5 g5 k6 m6 g6 k7 m7 g7 k8 m8 g8 k9 m9 g9 hbq hbr hc hor
    have n0 := hP.cells 0
    have n1 := hP.cells 1
    have n2 := hP.cells 2
    have n3 := hP.cells 3
    have n4 := hP.cells 4
    have n5 := hP.cells 5
    have n6 := hP.cells 6
    have n7 := hP.cells 7
    have n8 := hP.cells 8
    have n9 := hP.cells 9
    simp [Bd.cs, B1.zero] at n0 n1 n2 n3 n4 n5 n6 n7 n8 n9
    generalize ((((((((((((((((((((w10).setCell ⟨r, 0, none⟩ (.int .i64 x0))).setCell ⟨r, 1, none⟩ (.int .i64 x1))).setCell ⟨r, 2, none⟩ (.bool x2))).setCell ⟨r, 3, none⟩ (.int .i64 x3))).setCell ⟨r, 4, none⟩ (.int .i64 x4))).setCell ⟨r, 5, none⟩ (.int .i64 x5))).setCell ⟨r, 6, none⟩ (.int .i64 x6))).setCell ⟨r, 7, none⟩ (.int .i64 0))).setCell ⟨r, 8, none⟩ (.int .i64 0))).setCell ⟨r, 9, none⟩ (.string zz)) = WE at *
    exact bodyPost_ret (v := .agg #[.int .i64 x0, .int .i64 x1, .bool x2, .int .i64 x3, .int .i64 x4, .int .i64 x5, .int .i64 x6, .int .i64 0, .int .i64 0, .string zz]) (by simp [results, Try.results26, go_sem, n0, n1, n2, n3, n4, n5, n6, n7, n8, n9]) rfl ⟨⟨x0, x1, x2, x3, x4, x5, x6, 0, 0, zz⟩, rfl, hzz, rfl, rfl, hcE.more (by omega), hoE⟩
end Go.Proofs.Ytepgmmigacafeaa

/- The cursor's piece: some bundle, a piece mostly, with a Payload of at most 61 bytes. -/
namespace Go.Proofs.Ytepgmmigacafeaa
open Go.RowKit
namespace CB
theorem res_some {b : Bd} {m : Int} (h : ok b m = true) : 0 < (res b m).length := by
  obtain ⟨h1, h2, h3, h4, h5⟩ := ok_is h
  obtain ⟨k, rfl⟩ := Int.eq_ofNat_of_zero_le (show (0 : Int) ≤ m by omega)
  rw [res_yes h, ls_len]
  have := num_lt (b := b) (m := k) (k := 0) (by omega) (by omega)
  omega
theorem res_len (b : Bd) (m : Int) (hs : b.py.size ≤ 61) : (res b m).length ≤ 61 := by
  cases h : ok b m
  · rw [res_no h]; simp
  · obtain ⟨h1, h2, h3, h4, h5⟩ := ok_is h
    obtain ⟨k, rfl⟩ := Int.eq_ofNat_of_zero_le (show (0 : Int) ≤ m by omega)
    rw [res_yes h, ls_len]
    unfold num
    have hk : 1 ≤ k := by omega
    have : (b.py.size + k - 1) / k ≤ b.py.size := by
      rw [Nat.div_le_iff_le_mul_add_pred (by omega)]
      have : b.py.size ≤ k * b.py.size := Nat.le_mul_of_pos_left _ (by omega)
      omega
    omega
theorem res_py (b : Bd) (m : Int) (hs : b.py.size ≤ 61) : ∀ c ∈ res b m, c.py.size ≤ 61 := by
  intro c hc
  cases h : ok b m
  · rw [res_no h] at hc; cases hc
  · obtain ⟨h1, h2, h3, h4, h5⟩ := ok_is h
    obtain ⟨k, rfl⟩ := Int.eq_ofNat_of_zero_le (show (0 : Int) ≤ m by omega)
    rw [res_yes h] at hc
    unfold ls at hc
    obtain ⟨j, hj, rfl⟩ := List.mem_map.1 hc
    show (b.py.extract _ _).size ≤ 61
    rw [ByteArray.size_extract]
    omega
end CB
set_option linter.unusedSimpArgs false in
set_option maxHeartbeats 3200000 in
set_option maxRecDepth 100000 in
theorem piece_any (p : Nat) (a : Option Addr) (zs : List Int) (cap M : Nat) (w : World) (hz : zs.length ≤ 140737488355328) (hM : M ≤ 140737488320000) (hc : MC.Cur w p a zs cap M) :
    Calls Try.prog 48 #[.pointer (some ⟨p, 0, none⟩)] w fun e w' => ∃ b : Bd, e = .returned b.v ∧ b.py.size ≤ 61 ∧ MC.Cur w' p a zs cap (M + 110) ∧ MC.Only p w w' := by
  have hplt := hc.lt
  have hbr := BX.Box.new w 24 B1.zero w.heap.size rfl
  have hor := (MC.Only.refl p w).alloc (.cells (BX.cs B1.zero).toArray 24)
  replace hc := hc.alloc (.cells (BX.cs B1.zero).toArray 24)
  simp only [BX.cs, Bd.cs, B1.zero] at hbr hor hc
  go_enter Try.func48, Try.ntmps48
  go_wp2_with fail
  generalize w.alloc (.cells #[.int .i64 0, .int .i64 0, .bool false, .int .i64 0, .int .i64 0, .int .i64 0, .int .i64 0, .int .i64 0, .int .i64 0, .string ⟨#[]⟩] 24) = w0 at *
  obtain ⟨r, hr⟩ : ∃ r, w.heap.size = r := ⟨_, rfl⟩
  rw [hr] at hbr hplt ⊢
  have hrp : r ≠ p := by omega
  change BX.Box w0 r 24 B1.zero at hbr
  refine (wholeBundle_any p a zs cap M _ hz (by omega) hc).mono ?_
  rintro e w1 ⟨b, rfl, hpb, -, -, hc1, ho1⟩
  replace hbr := hbr.only ho1 hrp
  replace hor := hor.trans ho1
  clear hc ho1
  have hc := hc1
  clear hc1
  go_wp2_with fail
  refine (pick_any p a zs cap (M + 60) _ _ hz (by omega) hc).mono ?_
  rintro e w2 ⟨y, rfl, hry, hxy, hc2, ho2⟩
  replace hbr := hbr.only ho2 hrp
  replace hor := hor.trans ho2
  clear hc ho2
  have hc := hc2
  clear hc2
  have hw1 : IntKind.i64.wrap (1 + (y : Int)) = 1 + (y : Int) := by rw [IntKind.wrap_i64]; omega
  have SC : Hid (∀ W : World, Calls Try.prog 7 #[.agg b.cs.toArray, .int .i64 (1 + (y : Int))] W fun e w' => ∃ a cap, e = .returned (.tuple #[.slice a (CB.res b (1 + (y : Int))).length cap, .bool (CB.ok b (1 + (y : Int)))]) ∧ w'.ownsRow W.heap.size 24 10 (.slice a (CB.res b (1 + (y : Int))).length cap) (CB.res b (1 + (y : Int))).length (MP.flat (CB.res b (1 + (y : Int)))) ∧ Below W.heap.size W w') := fun W => specCutB_any b (1 + (y : Int)) W (by omega)
  have HS : Hid (CB.ok b (1 + (y : Int)) = true → 0 < (CB.res b (1 + (y : Int))).length) := CB.res_some
  have hrl := CB.res_len b (1 + (y : Int)) hpb
  have HP : Hid (∀ c ∈ CB.res b (1 + (y : Int)), c.py.size ≤ 61) := CB.res_py b _ hpb
  generalize CB.ok b (1 + (y : Int)) = ok at *
  generalize CB.res b (1 + (y : Int)) = L at *
  obtain ⟨x0, x1, x2, x3, x4, x5, x6, x7, x8, x9⟩ := b
  simp only [Bd.cs] at SC
  go_wp2_with fail
  refine (SC.out _).mono ?_
  rintro e w3 ⟨al, cl, rfl, hown, hb⟩
  have hrlt := hbr.lt
  replace hbr := hbr.below hb hbr.lt
  replace hc := hc.below hb
  replace hor := hor.trans (MC.Only.of_below hb)
  have hs2 := hb.size
  have hp2 : p < w2.heap.size := by omega
  clear hb SC
  cases ok
  · clear HS HP hown
    go_wp2_with fail
    replace hc := hc.more (M' := M + 64) (by omega)
    refine (bundle_any p a zs cap (M + 64) _ hz (by omega) hc).mono ?_
    rintro e w7 ⟨b7, rfl, hp7, hc7, ho7⟩
    replace hbr := hbr.only ho7 hrp
    replace hor := hor.trans ho7
    clear hc ho7
    have hc := hc7
    clear hc7
    obtain ⟨y0, y1, y2, y3, y4, y5, y6, y7, y8, y9⟩ := b7
    have m0 := hbr.cells 0
    have g0 := hbr.free 0
    have m1 := hbr.cells 1
    have g1 := hbr.free 1
    have m2 := hbr.cells 2
    have g2 := hbr.free 2
    have m3 := hbr.cells 3
    have g3 := hbr.free 3
    have m4 := hbr.cells 4
    have g4 := hbr.free 4
    have m5 := hbr.cells 5
    have g5 := hbr.free 5
    have m6 := hbr.cells 6
    have g6 := hbr.free 6
    have m7 := hbr.cells 7
    have g7 := hbr.free 7
    have m8 := hbr.cells 8
    have g8 := hbr.free 8
    have m9 := hbr.cells 9
    have g9 := hbr.free 9
    simp [Bd.cs, B1.zero] at m0 m1 m2 m3 m4 m5 m6 m7 m8 m9
    have hrl2 := hbr.lt
    have hP := hbr.put ⟨y0, y1, y2, y3, y4, y5, y6, y7, y8, y9⟩
    have hcE := BX.cur_set (BX.cur_set (BX.cur_set (BX.cur_set (BX.cur_set (BX.cur_set (BX.cur_set (BX.cur_set (BX.cur_set (BX.cur_set (hc) (g := r) (j := 0) (v := .int .i64 y0) hplt) (g := r) (j := 1) (v := .int .i64 y1) hplt) (g := r) (j := 2) (v := .bool y2) hplt) (g := r) (j := 3) (v := .int .i64 y3) hplt) (g := r) (j := 4) (v := .int .i64 y4) hplt) (g := r) (j := 5) (v := .int .i64 y5) hplt) (g := r) (j := 6) (v := .int .i64 y6) hplt) (g := r) (j := 7) (v := .int .i64 y7) hplt) (g := r) (j := 8) (v := .int .i64 y8) hplt) (g := r) (j := 9) (v := .string y9) hplt
    have hoE := BX.only_set (BX.only_set (BX.only_set (BX.only_set (BX.only_set (BX.only_set (BX.only_set (BX.only_set (BX.only_set (BX.only_set (hor) (g := r) (j := 0) (v := .int .i64 y0) (Nat.le_of_eq hr)) (g := r) (j := 1) (v := .int .i64 y1) (Nat.le_of_eq hr)) (g := r) (j := 2) (v := .bool y2) (Nat.le_of_eq hr)) (g := r) (j := 3) (v := .int .i64 y3) (Nat.le_of_eq hr)) (g := r) (j := 4) (v := .int .i64 y4) (Nat.le_of_eq hr)) (g := r) (j := 5) (v := .int .i64 y5) (Nat.le_of_eq hr)) (g := r) (j := 6) (v := .int .i64 y6) (Nat.le_of_eq hr)) (g := r) (j := 7) (v := .int .i64 y7) (Nat.le_of_eq hr)) (g := r) (j := 8) (v := .int .i64 y8) (Nat.le_of_eq hr)) (g := r) (j := 9) (v := .string y9) (Nat.le_of_eq hr)
    go_wp2
    clear m0 g0 m1 g1 m2 g2 m3 g3 m4 g4 m5 g5 m6 g6 m7 g7 m8 g8 m9 g9 hbr hc hor
    have n0 := hP.cells 0
    have n1 := hP.cells 1
    have n2 := hP.cells 2
    have n3 := hP.cells 3
    have n4 := hP.cells 4
    have n5 := hP.cells 5
    have n6 := hP.cells 6
    have n7 := hP.cells 7
    have n8 := hP.cells 8
    have n9 := hP.cells 9
    simp [Bd.cs, B1.zero] at n0 n1 n2 n3 n4 n5 n6 n7 n8 n9
    generalize ((((((((((((((((((((w7).setCell ⟨r, 0, none⟩ (.int .i64 y0))).setCell ⟨r, 1, none⟩ (.int .i64 y1))).setCell ⟨r, 2, none⟩ (.bool y2))).setCell ⟨r, 3, none⟩ (.int .i64 y3))).setCell ⟨r, 4, none⟩ (.int .i64 y4))).setCell ⟨r, 5, none⟩ (.int .i64 y5))).setCell ⟨r, 6, none⟩ (.int .i64 y6))).setCell ⟨r, 7, none⟩ (.int .i64 y7))).setCell ⟨r, 8, none⟩ (.int .i64 y8))).setCell ⟨r, 9, none⟩ (.string y9)) = WE at *
    exact bodyPost_ret (v := .agg #[.int .i64 y0, .int .i64 y1, .bool y2, .int .i64 y3, .int .i64 y4, .int .i64 y5, .int .i64 y6, .int .i64 y7, .int .i64 y8, .string y9]) (by simp [results, Try.results48, go_sem, n0, n1, n2, n3, n4, n5, n6, n7, n8, n9]) rfl ⟨⟨y0, y1, y2, y3, y4, y5, y6, y7, y8, y9⟩, rfl, by show y9.size ≤ 61; have h7 : y9.size ≤ 60 := hp7; omega, hcE.more (by omega), hoE⟩
  · have h0 := HS.out rfl
    go_wp2_with fail
    refine (one_any p a zs cap (M + 62) _ _ hz (by omega) hc).mono ?_
    rintro e w4 ⟨b4, rfl, hc4, ho4⟩
    replace hown := MC.own_only hown ho4 hp2
    replace hbr := hbr.only ho4 hrp
    replace hor := hor.trans ho4
    clear hc ho4
    have hc := hc4
    clear hc4
    cases b4
    · go_wp2_with fail
      refine (pick_any p a zs cap (M + 64) _ _ hz (by omega) hc).mono ?_
      rintro e w5 ⟨k, rfl, hk, hkx, hc5, ho5⟩
      replace hown := MC.own_only hown ho5 hp2
      replace hbr := hbr.only ho5 hrp
      replace hor := hor.trans ho5
      clear hc ho5
      have hc := hc5
      clear hc5
      have hkn : k < L.length := by omega
      have hki : (k : Int) < (L.length : Int) := by omega
      obtain ⟨a9, c9, e9, hB⟩ := CB.view hown
      simp only [Value.slice.injEq] at e9
      obtain ⟨rfl, -, rfl⟩ := e9
      obtain ⟨bb, off, hab, hlt, k0, k1, k2, k3, k4, k5, k6, k7, k8, k9⟩ := hB.at hkn
      have hpk : (MP.at_ L k).py.size ≤ 61 := HP.out _ (by rw [MP.at_eq L k hkn]; exact List.getElem_mem hkn)
      generalize MP.at_ L k = bk at *
      obtain ⟨y0, y1, y2, y3, y4, y5, y6, y7, y8, y9⟩ := bk
      subst hab
      clear HS HP hown hB
      have m0 := hbr.cells 0
      have g0 := hbr.free 0
      have m1 := hbr.cells 1
      have g1 := hbr.free 1
      have m2 := hbr.cells 2
      have g2 := hbr.free 2
      have m3 := hbr.cells 3
      have g3 := hbr.free 3
      have m4 := hbr.cells 4
      have g4 := hbr.free 4
      have m5 := hbr.cells 5
      have g5 := hbr.free 5
      have m6 := hbr.cells 6
      have g6 := hbr.free 6
      have m7 := hbr.cells 7
      have g7 := hbr.free 7
      have m8 := hbr.cells 8
      have g8 := hbr.free 8
      have m9 := hbr.cells 9
      have g9 := hbr.free 9
      simp [Bd.cs, B1.zero] at m0 m1 m2 m3 m4 m5 m6 m7 m8 m9
      have hrl2 := hbr.lt
      have hP := hbr.put ⟨y0, y1, y2, y3, y4, y5, y6, y7, y8, y9⟩
      have hcE := BX.cur_set (BX.cur_set (BX.cur_set (BX.cur_set (BX.cur_set (BX.cur_set (BX.cur_set (BX.cur_set (BX.cur_set (BX.cur_set (hc) (g := r) (j := 0) (v := .int .i64 y0) hplt) (g := r) (j := 1) (v := .int .i64 y1) hplt) (g := r) (j := 2) (v := .bool y2) hplt) (g := r) (j := 3) (v := .int .i64 y3) hplt) (g := r) (j := 4) (v := .int .i64 y4) hplt) (g := r) (j := 5) (v := .int .i64 y5) hplt) (g := r) (j := 6) (v := .int .i64 y6) hplt) (g := r) (j := 7) (v := .int .i64 y7) hplt) (g := r) (j := 8) (v := .int .i64 y8) hplt) (g := r) (j := 9) (v := .string y9) hplt
      have hoE := BX.only_set (BX.only_set (BX.only_set (BX.only_set (BX.only_set (BX.only_set (BX.only_set (BX.only_set (BX.only_set (BX.only_set (hor) (g := r) (j := 0) (v := .int .i64 y0) (Nat.le_of_eq hr)) (g := r) (j := 1) (v := .int .i64 y1) (Nat.le_of_eq hr)) (g := r) (j := 2) (v := .bool y2) (Nat.le_of_eq hr)) (g := r) (j := 3) (v := .int .i64 y3) (Nat.le_of_eq hr)) (g := r) (j := 4) (v := .int .i64 y4) (Nat.le_of_eq hr)) (g := r) (j := 5) (v := .int .i64 y5) (Nat.le_of_eq hr)) (g := r) (j := 6) (v := .int .i64 y6) (Nat.le_of_eq hr)) (g := r) (j := 7) (v := .int .i64 y7) (Nat.le_of_eq hr)) (g := r) (j := 8) (v := .int .i64 y8) (Nat.le_of_eq hr)) (g := r) (j := 9) (v := .string y9) (Nat.le_of_eq hr)
      go_wp2
      clear m0 g0 m1 g1 m2 g2 m3 g3 m4 g4 m5 g5 m6 g6 m7 g7 m8 g8 m9 g9 hbr hc hor
      have n0 := hP.cells 0
      have n1 := hP.cells 1
      have n2 := hP.cells 2
      have n3 := hP.cells 3
      have n4 := hP.cells 4
      have n5 := hP.cells 5
      have n6 := hP.cells 6
      have n7 := hP.cells 7
      have n8 := hP.cells 8
      have n9 := hP.cells 9
      simp [Bd.cs, B1.zero] at n0 n1 n2 n3 n4 n5 n6 n7 n8 n9
      generalize ((((((((((((((((((((w5).setCell ⟨r, 0, none⟩ (.int .i64 y0))).setCell ⟨r, 1, none⟩ (.int .i64 y1))).setCell ⟨r, 2, none⟩ (.bool y2))).setCell ⟨r, 3, none⟩ (.int .i64 y3))).setCell ⟨r, 4, none⟩ (.int .i64 y4))).setCell ⟨r, 5, none⟩ (.int .i64 y5))).setCell ⟨r, 6, none⟩ (.int .i64 y6))).setCell ⟨r, 7, none⟩ (.int .i64 y7))).setCell ⟨r, 8, none⟩ (.int .i64 y8))).setCell ⟨r, 9, none⟩ (.string y9)) = WE at *
      exact bodyPost_ret (v := .agg #[.int .i64 y0, .int .i64 y1, .bool y2, .int .i64 y3, .int .i64 y4, .int .i64 y5, .int .i64 y6, .int .i64 y7, .int .i64 y8, .string y9]) (by simp [results, Try.results48, go_sem, n0, n1, n2, n3, n4, n5, n6, n7, n8, n9]) rfl ⟨⟨y0, y1, y2, y3, y4, y5, y6, y7, y8, y9⟩, rfl, hpk, hcE.more (by omega), hoE⟩
    · clear HS HP hown
      go_wp2_with fail
      refine (bundle_any p a zs cap (M + 64) _ hz (by omega) hc).mono ?_
      rintro e w7 ⟨b7, rfl, hp7, hc7, ho7⟩
      replace hbr := hbr.only ho7 hrp
      replace hor := hor.trans ho7
      clear hc ho7
      have hc := hc7
      clear hc7
      obtain ⟨y0, y1, y2, y3, y4, y5, y6, y7, y8, y9⟩ := b7
      have m0 := hbr.cells 0
      have g0 := hbr.free 0
      have m1 := hbr.cells 1
      have g1 := hbr.free 1
      have m2 := hbr.cells 2
      have g2 := hbr.free 2
      have m3 := hbr.cells 3
      have g3 := hbr.free 3
      have m4 := hbr.cells 4
      have g4 := hbr.free 4
      have m5 := hbr.cells 5
      have g5 := hbr.free 5
      have m6 := hbr.cells 6
      have g6 := hbr.free 6
      have m7 := hbr.cells 7
      have g7 := hbr.free 7
      have m8 := hbr.cells 8
      have g8 := hbr.free 8
      have m9 := hbr.cells 9
      have g9 := hbr.free 9
      simp [Bd.cs, B1.zero] at m0 m1 m2 m3 m4 m5 m6 m7 m8 m9
      have hrl2 := hbr.lt
      have hP := hbr.put ⟨y0, y1, y2, y3, y4, y5, y6, y7, y8, y9⟩
      have hcE := BX.cur_set (BX.cur_set (BX.cur_set (BX.cur_set (BX.cur_set (BX.cur_set (BX.cur_set (BX.cur_set (BX.cur_set (BX.cur_set (hc) (g := r) (j := 0) (v := .int .i64 y0) hplt) (g := r) (j := 1) (v := .int .i64 y1) hplt) (g := r) (j := 2) (v := .bool y2) hplt) (g := r) (j := 3) (v := .int .i64 y3) hplt) (g := r) (j := 4) (v := .int .i64 y4) hplt) (g := r) (j := 5) (v := .int .i64 y5) hplt) (g := r) (j := 6) (v := .int .i64 y6) hplt) (g := r) (j := 7) (v := .int .i64 y7) hplt) (g := r) (j := 8) (v := .int .i64 y8) hplt) (g := r) (j := 9) (v := .string y9) hplt
      have hoE := BX.only_set (BX.only_set (BX.only_set (BX.only_set (BX.only_set (BX.only_set (BX.only_set (BX.only_set (BX.only_set (BX.only_set (hor) (g := r) (j := 0) (v := .int .i64 y0) (Nat.le_of_eq hr)) (g := r) (j := 1) (v := .int .i64 y1) (Nat.le_of_eq hr)) (g := r) (j := 2) (v := .bool y2) (Nat.le_of_eq hr)) (g := r) (j := 3) (v := .int .i64 y3) (Nat.le_of_eq hr)) (g := r) (j := 4) (v := .int .i64 y4) (Nat.le_of_eq hr)) (g := r) (j := 5) (v := .int .i64 y5) (Nat.le_of_eq hr)) (g := r) (j := 6) (v := .int .i64 y6) (Nat.le_of_eq hr)) (g := r) (j := 7) (v := .int .i64 y7) (Nat.le_of_eq hr)) (g := r) (j := 8) (v := .int .i64 y8) (Nat.le_of_eq hr)) (g := r) (j := 9) (v := .string y9) (Nat.le_of_eq hr)
      go_wp2
      clear m0 g0 m1 g1 m2 g2 m3 g3 m4 g4 m5 g5 m6 g6 m7 g7 m8 g8 m9 g9 hbr hc hor
      have n0 := hP.cells 0
      have n1 := hP.cells 1
      have n2 := hP.cells 2
      have n3 := hP.cells 3
      have n4 := hP.cells 4
      have n5 := hP.cells 5
      have n6 := hP.cells 6
      have n7 := hP.cells 7
      have n8 := hP.cells 8
      have n9 := hP.cells 9
      simp [Bd.cs, B1.zero] at n0 n1 n2 n3 n4 n5 n6 n7 n8 n9
      generalize ((((((((((((((((((((w7).setCell ⟨r, 0, none⟩ (.int .i64 y0))).setCell ⟨r, 1, none⟩ (.int .i64 y1))).setCell ⟨r, 2, none⟩ (.bool y2))).setCell ⟨r, 3, none⟩ (.int .i64 y3))).setCell ⟨r, 4, none⟩ (.int .i64 y4))).setCell ⟨r, 5, none⟩ (.int .i64 y5))).setCell ⟨r, 6, none⟩ (.int .i64 y6))).setCell ⟨r, 7, none⟩ (.int .i64 y7))).setCell ⟨r, 8, none⟩ (.int .i64 y8))).setCell ⟨r, 9, none⟩ (.string y9)) = WE at *
      exact bodyPost_ret (v := .agg #[.int .i64 y0, .int .i64 y1, .bool y2, .int .i64 y3, .int .i64 y4, .int .i64 y5, .int .i64 y6, .int .i64 y7, .int .i64 y8, .string y9]) (by simp [results, Try.results48, go_sem, n0, n1, n2, n3, n4, n5, n6, n7, n8, n9]) rfl ⟨⟨y0, y1, y2, y3, y4, y5, y6, y7, y8, y9⟩, rfl, by show y9.size ≤ 61; have h7 : y9.size ≤ 60 := hp7; omega, hcE.more (by omega), hoE⟩
end Go.Proofs.Ytepgmmigacafeaa

/- DrawCutPiece: a bundle, a piece mostly, and a place. -/
namespace Go.Proofs.Ytepgmmigacafeaa
open Go.RowKit
theorem bytes_upP {w : World} {a : Option Addr} {zs : List Int} (o : Obj) (h : MC.BytesAt w w.heap.size a zs) : MC.BytesAt (w.alloc o) (w.alloc o).heap.size a zs := by
  have h1 := h.only (q := w.heap.size) (MC.Only.of_below ((Below.refl _ w).alloc (Nat.le_refl _) o)) (Nat.le_refl _) (Nat.le_refl _)
  exact h1.up (by simp)
set_option linter.unusedSimpArgs false in
set_option maxHeartbeats 3200000 in
set_option maxRecDepth 100000 in
theorem drawCutPiece_any (a : Option Addr) (zs : List Int) (cap : Nat) (w : World) (hz : zs.length ≤ 140737488355328) (hb : MC.BytesAt w w.heap.size a zs) :
    Calls Try.prog 14 #[.slice a zs.length cap] w fun e w' => ∃ (b : Bd) (n : Nat), e = .returned (.tuple #[b.v, .int .i64 (n : Int)]) ∧ b.py.size ≤ 61 ∧ n ≤ 8 ∧ Below w.heap.size w w' := by
  have hbr := BX.Box.new w 24 B1.zero w.heap.size rfl
  have hW0 : Below w.heap.size w (w.alloc (.cells (BX.cs B1.zero).toArray 24)) := (Below.refl _ w).alloc (Nat.le_refl _) _
  have hb0 := bytes_upP (.cells (BX.cs B1.zero).toArray 24) hb
  have hs0 : (w.alloc (.cells (BX.cs B1.zero).toArray 24)).heap.size = w.heap.size + 1 := by simp
  simp only [BX.cs, Bd.cs, B1.zero] at hbr hW0 hb0 hs0
  clear hb
  go_enter Try.func14, Try.ntmps14
  go_wp2_with fail
  generalize w.alloc (.cells #[.int .i64 0, .int .i64 0, .bool false, .int .i64 0, .int .i64 0, .int .i64 0, .int .i64 0, .int .i64 0, .int .i64 0, .string ⟨#[]⟩] 24) = W0 at *
  change BX.Box W0 w.heap.size 24 B1.zero at hbr
  obtain ⟨p, hp⟩ : ∃ p, W0.heap.size = p := ⟨_, rfl⟩
  rw [← hs0, hp]
  have hlt : w.heap.size < p := by omega
  have hcur := cur_new (T := 55) (cap := cap) hb0
  have hnb : Hid (∀ W, MC.Only p (W0.alloc (.cells #[.slice a zs.length cap, .int .i64 0, .int .u64 0] 55)) W → Below W0.heap.size W0 W) := fun W h => new_below hp.symm h
  rw [hp] at hcur hs0
  clear hs0
  refine (piece_any p a zs cap 0 _ hz (by omega) hcur).mono ?_
  rintro e w1 ⟨b, rfl, hpy, hc1, ho1⟩
  clear hcur
  go_wp2_with fail
  refine (pick_any p a zs cap (0 + 110) _ _ hz (by omega) hc1).mono ?_
  rintro e w2 ⟨n, rfl, hn, -, -, ho3⟩
  have hn2 : n ≤ 8 := by omega
  have hB1 := hnb.out _ (ho1.trans ho3)
  have hBw := hW0.trans (hB1.mono (by omega))
  replace hbr := hbr.below hB1 (by omega)
  clear ho1 ho3 hB1 hb0 hW0 hc1 hn
  obtain ⟨x0, x1, x2, x3, x4, x5, x6, x7, x8, x9⟩ := b
  have m0 := hbr.cells 0
  have g0 := hbr.free 0
  have m1 := hbr.cells 1
  have g1 := hbr.free 1
  have m2 := hbr.cells 2
  have g2 := hbr.free 2
  have m3 := hbr.cells 3
  have g3 := hbr.free 3
  have m4 := hbr.cells 4
  have g4 := hbr.free 4
  have m5 := hbr.cells 5
  have g5 := hbr.free 5
  have m6 := hbr.cells 6
  have g6 := hbr.free 6
  have m7 := hbr.cells 7
  have g7 := hbr.free 7
  have m8 := hbr.cells 8
  have g8 := hbr.free 8
  have m9 := hbr.cells 9
  have g9 := hbr.free 9
  simp [Bd.cs, B1.zero] at m0 m1 m2 m3 m4 m5 m6 m7 m8 m9
  have hrl := hbr.lt
  have hP := hbr.put ⟨x0, x1, x2, x3, x4, x5, x6, x7, x8, x9⟩
  have hBE := ((((((((((hBw.setCell (p := ⟨w.heap.size, 0, none⟩) (by simp) (.int .i64 x0)).setCell (p := ⟨w.heap.size, 1, none⟩) (by simp) (.int .i64 x1)).setCell (p := ⟨w.heap.size, 2, none⟩) (by simp) (.bool x2)).setCell (p := ⟨w.heap.size, 3, none⟩) (by simp) (.int .i64 x3)).setCell (p := ⟨w.heap.size, 4, none⟩) (by simp) (.int .i64 x4)).setCell (p := ⟨w.heap.size, 5, none⟩) (by simp) (.int .i64 x5)).setCell (p := ⟨w.heap.size, 6, none⟩) (by simp) (.int .i64 x6)).setCell (p := ⟨w.heap.size, 7, none⟩) (by simp) (.int .i64 x7)).setCell (p := ⟨w.heap.size, 8, none⟩) (by simp) (.int .i64 x8)).setCell (p := ⟨w.heap.size, 9, none⟩) (by simp) (.string x9))
  clear hbr
  go_wp2
  have n0 := hP.cells 0
  have n1 := hP.cells 1
  have n2 := hP.cells 2
  have n3 := hP.cells 3
  have n4 := hP.cells 4
  have n5 := hP.cells 5
  have n6 := hP.cells 6
  have n7 := hP.cells 7
  have n8 := hP.cells 8
  have n9 := hP.cells 9
  simp [Bd.cs, B1.zero] at n0 n1 n2 n3 n4 n5 n6 n7 n8 n9
  generalize ((((((((((((((((((((w2).setCell ⟨w.heap.size, 0, none⟩ (.int .i64 x0))).setCell ⟨w.heap.size, 1, none⟩ (.int .i64 x1))).setCell ⟨w.heap.size, 2, none⟩ (.bool x2))).setCell ⟨w.heap.size, 3, none⟩ (.int .i64 x3))).setCell ⟨w.heap.size, 4, none⟩ (.int .i64 x4))).setCell ⟨w.heap.size, 5, none⟩ (.int .i64 x5))).setCell ⟨w.heap.size, 6, none⟩ (.int .i64 x6))).setCell ⟨w.heap.size, 7, none⟩ (.int .i64 x7))).setCell ⟨w.heap.size, 8, none⟩ (.int .i64 x8))).setCell ⟨w.heap.size, 9, none⟩ (.string x9)) = WE at *
  exact bodyPost_ret (v := .tuple #[.agg #[.int .i64 x0, .int .i64 x1, .bool x2, .int .i64 x3, .int .i64 x4, .int .i64 x5, .int .i64 x6, .int .i64 x7, .int .i64 x8, .string x9], .int .i64 (n : Int)]) (by simp [results, Try.results14, go_sem, n0, n1, n2, n3, n4, n5, n6, n7, n8, n9]) rfl ⟨⟨x0, x1, x2, x3, x4, x5, x6, x7, x8, x9⟩, n, rfl, hpy, hn2, hBE⟩
end Go.Proofs.Ytepgmmigacafeaa

/- DrawCutBundle: a bundle, a whole one mostly, and a number of seven. -/
namespace Go.Proofs.Ytepgmmigacafeaa
open Go.RowKit
theorem MEM.lit_drew {w U : World} {p : Nat} {xs : List Int} {t : TypeId} (h : MC.Only p (World.drew (w.alloc (.cells (M4.iv xs).toArray t))) U) (hp : p < w.heap.size) : M4.IntsAt U (some ⟨w.heap.size, 0, none⟩) xs := by
  rcases BX.new_ints w xs t with e | ⟨b, off, he, hlt, hc⟩
  · exact .inl e
  · cases he
    exact .inr ⟨_, 0, rfl, Nat.lt_of_lt_of_le hlt h.size, fun j hj => (h.cell (x := ⟨w.heap.size, 0 + j, none⟩) hlt (by simp; omega)).trans (hc j hj)⟩
set_option linter.unusedSimpArgs false in
set_option maxHeartbeats 6400000 in
set_option maxRecDepth 100000 in
theorem drawCutBundle_any (a : Option Addr) (zs : List Int) (cap : Nat) (w : World) (hz : zs.length ≤ 140737488355328) (hb : MC.BytesAt w w.heap.size a zs) :
    Calls Try.prog 5 #[.slice a zs.length cap] w fun e w' => ∃ (b : Bd) (n : Int), e = .returned (.tuple #[b.v, .int .i64 n]) ∧ b.py.size ≤ 61 ∧ n ∈ [(0 : Int), 1, 2, 3, 7, 60, 61] ∧ Below w.heap.size w w' := by
  have hbr := BX.Box.new w 24 B1.zero w.heap.size rfl
  have hW0 : Below w.heap.size w (w.alloc (.cells (BX.cs B1.zero).toArray 24)) := (Below.refl _ w).alloc (Nat.le_refl _) _
  have hb0 := bytes_upP (.cells (BX.cs B1.zero).toArray 24) hb
  have hs0 : (w.alloc (.cells (BX.cs B1.zero).toArray 24)).heap.size = w.heap.size + 1 := by simp
  simp only [BX.cs, Bd.cs, B1.zero] at hbr hW0 hb0 hs0
  clear hb
  go_enter Try.func5, Try.ntmps5
  go_wp2_with fail
  generalize w.alloc (.cells #[.int .i64 0, .int .i64 0, .bool false, .int .i64 0, .int .i64 0, .int .i64 0, .int .i64 0, .int .i64 0, .int .i64 0, .string ⟨#[]⟩] 24) = W0 at *
  change BX.Box W0 w.heap.size 24 B1.zero at hbr
  obtain ⟨p, hp⟩ : ∃ p, W0.heap.size = p := ⟨_, rfl⟩
  rw [← hs0, hp]
  have hcur := cur_new (T := 55) (cap := cap) hb0
  have hnb : Hid (∀ W, MC.Only p (W0.alloc (.cells #[.slice a zs.length cap, .int .i64 0, .int .u64 0] 55)) W → Below w.heap.size w W) := fun W h => hW0.trans ((new_below hp.symm h).mono (by omega))
  have hcs : (W0.alloc (.cells #[.slice a zs.length cap, .int .i64 0, .int .u64 0] 55)).heap.size = p + 1 := by simp [hp]
  rw [hp] at hcur
  obtain ⟨r, hr⟩ : ∃ r, w.heap.size = r := ⟨_, rfl⟩
  have hrp : r < p := by omega
  replace hbr := hbr.alloc (.cells #[.slice a zs.length cap, .int .i64 0, .int .u64 0] 55)
  rw [hr] at hbr hnb ⊢
  clear hs0 hb0 hW0
  generalize W0.alloc (.cells #[.slice a zs.length cap, .int .i64 0, .int .u64 0] 55) = A0 at *
  clear hp
  refine (wholeBundle_any p a zs cap 0 _ hz (by omega) hcur).mono ?_
  rintro e w1 ⟨b, rfl, hpy, -, -, hc, hor⟩
  clear hcur
  replace hbr := hbr.only hor (by omega)
  have hsz := hor.size
  rw [hcs] at hsz
  obtain ⟨x0, x1, x2, x3, x4, x5, x6, x7, x8, x9⟩ := b
  have hbq := BX.Box.new w1 24 ⟨x0, x1, x2, x3, x4, x5, x6, x7, x8, x9⟩ w1.heap.size rfl
  replace hc := hc.alloc (.cells (BX.cs ⟨x0, x1, x2, x3, x4, x5, x6, x7, x8, x9⟩).toArray 24)
  replace hor := hor.alloc (.cells (BX.cs ⟨x0, x1, x2, x3, x4, x5, x6, x7, x8, x9⟩).toArray 24)
  replace hbr := hbr.alloc (.cells (BX.cs ⟨x0, x1, x2, x3, x4, x5, x6, x7, x8, x9⟩).toArray 24)
  simp only [BX.cs, Bd.cs] at hbq hc hor hbr
  go_wp2_with fail
  generalize w1.alloc (.cells #[.int .i64 x0, .int .i64 x1, .bool x2, .int .i64 x3, .int .i64 x4, .int .i64 x5, .int .i64 x6, .int .i64 x7, .int .i64 x8, .string x9] 24) = w2 at *
  change BX.Box w2 w1.heap.size 24 ⟨x0, x1, x2, x3, x4, x5, x6, x7, x8, x9⟩ at hbq
  obtain ⟨q, hq⟩ : ∃ q, w1.heap.size = q := ⟨_, rfl⟩
  rw [hq] at hbq hsz ⊢
  have hpq : p < q := by omega
  have hAq : A0.heap.size ≤ q := by omega
  clear hq hsz hcs
  refine (one_any p a zs cap (0 + 60) _ _ hz (by omega) hc).mono ?_
  rintro e w3 ⟨b3, rfl, hc3, ho3⟩
  replace hbr := hbr.only ho3 (by omega)
  replace hbq := hbq.only ho3 (by omega)
  replace hor := hor.trans ho3
  clear hc ho3
  have hc := hc3
  clear hc3
  cases b3
  · go_upto_region 5 with fail
    have hqp : q ≠ p := by omega
    have hrq : r ≠ q := by omega
    have hqr : q ≠ r := by omega
    have hrp' : r ≠ p := by omega
    have hDA : Below w3.heap.size w3 (World.drew w3) := (Below.refl _ w3).drew
    have HCA : Hid (MC.Cur (World.drew w3) p a zs cap (0 + 62)) := hc.below hDA
    have HQA : Hid (BX.Box (World.drew w3) q 24 ⟨x0, x1, x2, x3, x4, x5, x6, x7, x8, x9⟩) := hbq.below hDA hbq.lt
    have HRA : Hid (BX.Box (World.drew w3) r 24 B1.zero) := hbr.below hDA hbr.lt
    have HOA : Hid (MC.Only p A0 (World.drew w3)) := hor.trans (MC.Only.of_below hDA)
    have hDB : Below w3.heap.size w3 (World.drew (w3.alloc (.cells #[.int .i64 0, .int .i64 1, .int .i64 2, .int .i64 3, .int .i64 7, .int .i64 60, .int .i64 61] 3))) := ((Below.refl _ w3).alloc (Nat.le_refl _) (.cells #[.int .i64 0, .int .i64 1, .int .i64 2, .int .i64 3, .int .i64 7, .int .i64 60, .int .i64 61] 3)).drew
    have HCB : Hid (MC.Cur (World.drew (w3.alloc (.cells #[.int .i64 0, .int .i64 1, .int .i64 2, .int .i64 3, .int .i64 7, .int .i64 60, .int .i64 61] 3))) p a zs cap (0 + 62)) := hc.below hDB
    have HQB : Hid (BX.Box (World.drew (w3.alloc (.cells #[.int .i64 0, .int .i64 1, .int .i64 2, .int .i64 3, .int .i64 7, .int .i64 60, .int .i64 61] 3))) q 24 ⟨x0, x1, x2, x3, x4, x5, x6, x7, x8, x9⟩) := hbq.below hDB hbq.lt
    have HRB : Hid (BX.Box (World.drew (w3.alloc (.cells #[.int .i64 0, .int .i64 1, .int .i64 2, .int .i64 3, .int .i64 7, .int .i64 60, .int .i64 61] 3))) r 24 B1.zero) := hbr.below hDB hbr.lt
    have HOB : Hid (MC.Only p A0 (World.drew (w3.alloc (.cells #[.int .i64 0, .int .i64 1, .int .i64 2, .int .i64 3, .int .i64 7, .int .i64 60, .int .i64 61] 3)))) := hor.trans (MC.Only.of_below hDB)
    have hDC : Below w3.heap.size w3 ((World.drew w3).alloc (.cells #[.int .i64 0, .int .i64 1, .int .i64 2, .int .i64 3, .int .i64 7, .int .i64 60, .int .i64 61] 3)) := ((Below.refl _ w3).drew).alloc (by exact Nat.le_refl _) (.cells #[.int .i64 0, .int .i64 1, .int .i64 2, .int .i64 3, .int .i64 7, .int .i64 60, .int .i64 61] 3)
    have HCC : Hid (MC.Cur ((World.drew w3).alloc (.cells #[.int .i64 0, .int .i64 1, .int .i64 2, .int .i64 3, .int .i64 7, .int .i64 60, .int .i64 61] 3)) p a zs cap (0 + 62)) := hc.below hDC
    have HQC : Hid (BX.Box ((World.drew w3).alloc (.cells #[.int .i64 0, .int .i64 1, .int .i64 2, .int .i64 3, .int .i64 7, .int .i64 60, .int .i64 61] 3)) q 24 ⟨x0, x1, x2, x3, x4, x5, x6, x7, x8, x9⟩) := hbq.below hDC hbq.lt
    have HRC : Hid (BX.Box ((World.drew w3).alloc (.cells #[.int .i64 0, .int .i64 1, .int .i64 2, .int .i64 3, .int .i64 7, .int .i64 60, .int .i64 61] 3)) r 24 B1.zero) := hbr.below hDC hbr.lt
    have HOC : Hid (MC.Only p A0 ((World.drew w3).alloc (.cells #[.int .i64 0, .int .i64 1, .int .i64 2, .int .i64 3, .int .i64 7, .int .i64 60, .int .i64 61] 3))) := hor.trans (MC.Only.of_below hDC)
    have k0 := hbq.cells 0
    have k1 := hbq.cells 1
    have k2 := hbq.cells 2
    have k3 := hbq.cells 3
    have k4 := hbq.cells 4
    have k5 := hbq.cells 5
    have k6 := hbq.cells 6
    have k7 := hbq.cells 7
    have k8 := hbq.cells 8
    have k9 := hbq.cells 9
    simp [Bd.cs] at k0 k1 k2 k3 k4 k5 k6 k7 k8 k9
    have HMP : Hid (p < w3.heap.size) := Nat.lt_trans hpq hbq.lt
    clear hbq hbr hc hor hDA hDB hDC
    go_wp2
    go_region_held3 (fun w' => w'.cell? ⟨q, 0, none⟩ = some (.int .i64 x0) ∧ w'.cell? ⟨q, 1, none⟩ = some (.int .i64 x1) ∧ w'.cell? ⟨q, 2, none⟩ = some (.bool x2) ∧ w'.cell? ⟨q, 3, none⟩ = some (.int .i64 x3) ∧ w'.cell? ⟨q, 4, none⟩ = some (.int .i64 x4) ∧ w'.cell? ⟨q, 5, none⟩ = some (.int .i64 x5) ∧ w'.cell? ⟨q, 6, none⟩ = some (.int .i64 x6) ∧ w'.cell? ⟨q, 7, none⟩ = some (.int .i64 x7) ∧ w'.cell? ⟨q, 8, none⟩ = some (.int .i64 x8) ∧ w'.cell? ⟨q, 9, none⟩ = some (.string x9)) (first | go_keep | assumption) (first | (go_at_call 29; have hLI : M4.IntsAt (World.drew (w3.alloc (.cells #[.int .i64 0, .int .i64 1, .int .i64 2, .int .i64 3, .int .i64 7, .int .i64 60, .int .i64 61] 3))) (some ⟨w3.heap.size, 0, none⟩) [0, 1, 2, 3, 7, 60, 61] := MEM.lit_drew (xs := [0, 1, 2, 3, 7, 60, 61]) (t := 3) (MC.Only.refl p _) HMP.out; have hCA := among_any p a zs cap (0 + 62) (some ⟨w3.heap.size, 0, none⟩) [0, 1, 2, 3, 7, 60, 61] 7 _ hz (by omega) HCB.out (by simp) (by simp) hLI (fun b off e => by have h1 := HMP.out; cases e; first | omega | (simp; omega)); simp only [List.length_cons, List.length_nil, Nat.zero_add, Nat.reduceAdd] at hCA; (with_reducible refine Calls.mono hCA ?_); clear hCA hLI; rintro e U2 ⟨nn, rfl, hnn, hc, ho⟩; have HQ2 : Hid (BX.Box _ _ _ _) := HQB.out.only ho hqp; have HR2 : Hid (BX.Box _ _ _ _) := HRB.out.only ho hrp'; have HO2 : Hid (MC.Only p A0 U2) := HOB.out.trans ho; have hQ := HQ2.out; have k0 := hQ.cells 0; have k1 := hQ.cells 1; have k2 := hQ.cells 2; have k3 := hQ.cells 3; have k4 := hQ.cells 4; have k5 := hQ.cells 5; have k6 := hQ.cells 6; have k7 := hQ.cells 7; have k8 := hQ.cells 8; have k9 := hQ.cells 9; simp [Bd.cs] at k0 k1 k2 k3 k4 k5 k6 k7 k8 k9; have hR := HR2.out; have m0_ := hR.cells 0; have g0 := hR.free 0; have m1_ := hR.cells 1; have g1 := hR.free 1; have m2_ := hR.cells 2; have g2 := hR.free 2; have m3_ := hR.cells 3; have g3 := hR.free 3; have m4_ := hR.cells 4; have g4 := hR.free 4; have m5_ := hR.cells 5; have g5 := hR.free 5; have m6_ := hR.cells 6; have g6 := hR.free 6; have m7_ := hR.cells 7; have g7 := hR.free 7; have m8_ := hR.cells 8; have g8 := hR.free 8; have m9_ := hR.cells 9; have g9 := hR.free 9; simp [Bd.cs, B1.zero] at m0_ m1_ m2_ m3_ m4_ m5_ m6_ m7_ m8_ m9_; have hql := hQ.lt; have hrl := hR.lt; clear hQ hR hc ho HCA HCB HCC HQA HQB HQC HRA HRB HRC HOA HOB HOC) | (go_at_call 29; have hLI : M4.IntsAt ((World.drew w3).alloc (.cells #[.int .i64 0, .int .i64 1, .int .i64 2, .int .i64 3, .int .i64 7, .int .i64 60, .int .i64 61] 3)) (some ⟨(World.drew w3).heap.size, 0, none⟩) [0, 1, 2, 3, 7, 60, 61] := BX.new_ints (World.drew w3) [0, 1, 2, 3, 7, 60, 61] 3; have hCA := among_any p a zs cap (0 + 62) (some ⟨(World.drew w3).heap.size, 0, none⟩) [0, 1, 2, 3, 7, 60, 61] 7 _ hz (by omega) HCC.out (by simp) (by simp) hLI (fun b off e => by have h1 := HMP.out; cases e; first | omega | (simp; omega)); simp only [List.length_cons, List.length_nil, Nat.zero_add, Nat.reduceAdd] at hCA; (with_reducible refine Calls.mono hCA ?_); clear hCA hLI; rintro e U2 ⟨nn, rfl, hnn, hc, ho⟩; have HQ2 : Hid (BX.Box _ _ _ _) := HQC.out.only ho hqp; have HR2 : Hid (BX.Box _ _ _ _) := HRC.out.only ho hrp'; have HO2 : Hid (MC.Only p A0 U2) := HOC.out.trans ho; have hQ := HQ2.out; have k0 := hQ.cells 0; have k1 := hQ.cells 1; have k2 := hQ.cells 2; have k3 := hQ.cells 3; have k4 := hQ.cells 4; have k5 := hQ.cells 5; have k6 := hQ.cells 6; have k7 := hQ.cells 7; have k8 := hQ.cells 8; have k9 := hQ.cells 9; simp [Bd.cs] at k0 k1 k2 k3 k4 k5 k6 k7 k8 k9; have hR := HR2.out; have m0_ := hR.cells 0; have g0 := hR.free 0; have m1_ := hR.cells 1; have g1 := hR.free 1; have m2_ := hR.cells 2; have g2 := hR.free 2; have m3_ := hR.cells 3; have g3 := hR.free 3; have m4_ := hR.cells 4; have g4 := hR.free 4; have m5_ := hR.cells 5; have g5 := hR.free 5; have m6_ := hR.cells 6; have g6 := hR.free 6; have m7_ := hR.cells 7; have g7 := hR.free 7; have m8_ := hR.cells 8; have g8 := hR.free 8; have m9_ := hR.cells 9; have g9 := hR.free 9; simp [Bd.cs, B1.zero] at m0_ m1_ m2_ m3_ m4_ m5_ m6_ m7_ m8_ m9_; have hql := hQ.lt; have hrl := hR.lt; clear hQ hR hc ho HCA HCB HCC HQA HQB HQC HRA HRB HRC HOA HOB HOC))
    all_goals
      have hP := HR2.out.put ⟨x0, x1, x2, x3, x4, x5, x6, x7, x8, x9⟩
      have z0 := hP.cells 0
      have z1 := hP.cells 1
      have z2 := hP.cells 2
      have z3 := hP.cells 3
      have z4 := hP.cells 4
      have z5 := hP.cells 5
      have z6 := hP.cells 6
      have z7 := hP.cells 7
      have z8 := hP.cells 8
      have z9 := hP.cells 9
      simp [Bd.cs] at z0 z1 z2 z3 z4 z5 z6 z7 z8 z9
      have hBE := (((((((((((hnb.out _ HO2.out).setCell (p := ⟨r, 0, none⟩) (by simp) (.int .i64 x0)).setCell (p := ⟨r, 1, none⟩) (by simp) (.int .i64 x1)).setCell (p := ⟨r, 2, none⟩) (by simp) (.bool x2)).setCell (p := ⟨r, 3, none⟩) (by simp) (.int .i64 x3)).setCell (p := ⟨r, 4, none⟩) (by simp) (.int .i64 x4)).setCell (p := ⟨r, 5, none⟩) (by simp) (.int .i64 x5)).setCell (p := ⟨r, 6, none⟩) (by simp) (.int .i64 x6)).setCell (p := ⟨r, 7, none⟩) (by simp) (.int .i64 x7)).setCell (p := ⟨r, 8, none⟩) (by simp) (.int .i64 x8)).setCell (p := ⟨r, 9, none⟩) (by simp) (.string x9))
      generalize ((((((((((((((((((((U2).setCell ⟨r, 0, none⟩ (.int .i64 x0))).setCell ⟨r, 1, none⟩ (.int .i64 x1))).setCell ⟨r, 2, none⟩ (.bool x2))).setCell ⟨r, 3, none⟩ (.int .i64 x3))).setCell ⟨r, 4, none⟩ (.int .i64 x4))).setCell ⟨r, 5, none⟩ (.int .i64 x5))).setCell ⟨r, 6, none⟩ (.int .i64 x6))).setCell ⟨r, 7, none⟩ (.int .i64 x7))).setCell ⟨r, 8, none⟩ (.int .i64 x8))).setCell ⟨r, 9, none⟩ (.string x9)) = WE at *
      go_wp2
      exact bodyPost_ret (v := .tuple #[.agg #[.int .i64 x0, .int .i64 x1, .bool x2, .int .i64 x3, .int .i64 x4, .int .i64 x5, .int .i64 x6, .int .i64 x7, .int .i64 x8, .string x9], .int .i64 nn]) (by simp [results, Try.results5, go_sem, z0, z1, z2, z3, z4, z5, z6, z7, z8, z9]) rfl ⟨⟨x0, x1, x2, x3, x4, x5, x6, x7, x8, x9⟩, nn, rfl, hpy, hnn, hr ▸ hBE⟩
  · go_wp2_with fail
    refine (bundle_any p a zs cap (0 + 62) _ hz (by omega) hc).mono ?_
    rintro e w4 ⟨b4, rfl, hpy4, hc4, ho4⟩
    replace hbr := hbr.only ho4 (by omega)
    replace hbq := hbq.only ho4 (by omega)
    replace hor := hor.trans ho4
    clear hc ho4
    have hc := hc4
    clear hc4
    obtain ⟨y0, y1, y2, y3, y4, y5, y6, y7, y8, y9⟩ := b4
    have m0 := hbq.cells 0
    have g0 := hbq.free 0
    have m1 := hbq.cells 1
    have g1 := hbq.free 1
    have m2 := hbq.cells 2
    have g2 := hbq.free 2
    have m3 := hbq.cells 3
    have g3 := hbq.free 3
    have m4 := hbq.cells 4
    have g4 := hbq.free 4
    have m5 := hbq.cells 5
    have g5 := hbq.free 5
    have m6 := hbq.cells 6
    have g6 := hbq.free 6
    have m7 := hbq.cells 7
    have g7 := hbq.free 7
    have m8 := hbq.cells 8
    have g8 := hbq.free 8
    have m9 := hbq.cells 9
    have g9 := hbq.free 9
    simp [Bd.cs] at m0 m1 m2 m3 m4 m5 m6 m7 m8 m9
    have hql := hbq.lt
    have hP := hbq.put ⟨y0, y1, y2, y3, y4, y5, y6, y7, y8, y9⟩
    replace hc := BX.cur_set (BX.cur_set (BX.cur_set (BX.cur_set (BX.cur_set (BX.cur_set (BX.cur_set (BX.cur_set (BX.cur_set (BX.cur_set (hc) (g := q) (j := 0) (v := .int .i64 y0) hpq) (g := q) (j := 1) (v := .int .i64 y1) hpq) (g := q) (j := 2) (v := .bool y2) hpq) (g := q) (j := 3) (v := .int .i64 y3) hpq) (g := q) (j := 4) (v := .int .i64 y4) hpq) (g := q) (j := 5) (v := .int .i64 y5) hpq) (g := q) (j := 6) (v := .int .i64 y6) hpq) (g := q) (j := 7) (v := .int .i64 y7) hpq) (g := q) (j := 8) (v := .int .i64 y8) hpq) (g := q) (j := 9) (v := .string y9) hpq
    replace hor := BX.only_set (BX.only_set (BX.only_set (BX.only_set (BX.only_set (BX.only_set (BX.only_set (BX.only_set (BX.only_set (BX.only_set (hor) (g := q) (j := 0) (v := .int .i64 y0) hAq) (g := q) (j := 1) (v := .int .i64 y1) hAq) (g := q) (j := 2) (v := .bool y2) hAq) (g := q) (j := 3) (v := .int .i64 y3) hAq) (g := q) (j := 4) (v := .int .i64 y4) hAq) (g := q) (j := 5) (v := .int .i64 y5) hAq) (g := q) (j := 6) (v := .int .i64 y6) hAq) (g := q) (j := 7) (v := .int .i64 y7) hAq) (g := q) (j := 8) (v := .int .i64 y8) hAq) (g := q) (j := 9) (v := .string y9) hAq
    replace hbr := ((((((((((hbr.far (g := q) (j := 0) (v := .int .i64 y0) (by omega)).far (g := q) (j := 1) (v := .int .i64 y1) (by omega)).far (g := q) (j := 2) (v := .bool y2) (by omega)).far (g := q) (j := 3) (v := .int .i64 y3) (by omega)).far (g := q) (j := 4) (v := .int .i64 y4) (by omega)).far (g := q) (j := 5) (v := .int .i64 y5) (by omega)).far (g := q) (j := 6) (v := .int .i64 y6) (by omega)).far (g := q) (j := 7) (v := .int .i64 y7) (by omega)).far (g := q) (j := 8) (v := .int .i64 y8) (by omega)).far (g := q) (j := 9) (v := .string y9) (by omega))
    clear hbq
    go_upto_region 5 with fail
    clear m0 g0 m1 g1 m2 g2 m3 g3 m4 g4 m5 g5 m6 g6 m7 g7 m8 g8 m9 g9
    generalize ((((((((((((((((((((w4).setCell ⟨q, 0, none⟩ (.int .i64 y0))).setCell ⟨q, 1, none⟩ (.int .i64 y1))).setCell ⟨q, 2, none⟩ (.bool y2))).setCell ⟨q, 3, none⟩ (.int .i64 y3))).setCell ⟨q, 4, none⟩ (.int .i64 y4))).setCell ⟨q, 5, none⟩ (.int .i64 y5))).setCell ⟨q, 6, none⟩ (.int .i64 y6))).setCell ⟨q, 7, none⟩ (.int .i64 y7))).setCell ⟨q, 8, none⟩ (.int .i64 y8))).setCell ⟨q, 9, none⟩ (.string y9)) = w5 at *
    have hbq := hP
    clear hP hql
    change BX.Box w5 q 24 ⟨y0, y1, y2, y3, y4, y5, y6, y7, y8, y9⟩ at hbq
    have hqp : q ≠ p := by omega
    have hrq : r ≠ q := by omega
    have hqr : q ≠ r := by omega
    have hrp' : r ≠ p := by omega
    have hDA : Below w5.heap.size w5 (World.drew w5) := (Below.refl _ w5).drew
    have HCA : Hid (MC.Cur (World.drew w5) p a zs cap (0 + 102)) := hc.below hDA
    have HQA : Hid (BX.Box (World.drew w5) q 24 ⟨y0, y1, y2, y3, y4, y5, y6, y7, y8, y9⟩) := hbq.below hDA hbq.lt
    have HRA : Hid (BX.Box (World.drew w5) r 24 B1.zero) := hbr.below hDA hbr.lt
    have HOA : Hid (MC.Only p A0 (World.drew w5)) := hor.trans (MC.Only.of_below hDA)
    have hDB : Below w5.heap.size w5 (World.drew (w5.alloc (.cells #[.int .i64 0, .int .i64 1, .int .i64 2, .int .i64 3, .int .i64 7, .int .i64 60, .int .i64 61] 3))) := ((Below.refl _ w5).alloc (Nat.le_refl _) (.cells #[.int .i64 0, .int .i64 1, .int .i64 2, .int .i64 3, .int .i64 7, .int .i64 60, .int .i64 61] 3)).drew
    have HCB : Hid (MC.Cur (World.drew (w5.alloc (.cells #[.int .i64 0, .int .i64 1, .int .i64 2, .int .i64 3, .int .i64 7, .int .i64 60, .int .i64 61] 3))) p a zs cap (0 + 102)) := hc.below hDB
    have HQB : Hid (BX.Box (World.drew (w5.alloc (.cells #[.int .i64 0, .int .i64 1, .int .i64 2, .int .i64 3, .int .i64 7, .int .i64 60, .int .i64 61] 3))) q 24 ⟨y0, y1, y2, y3, y4, y5, y6, y7, y8, y9⟩) := hbq.below hDB hbq.lt
    have HRB : Hid (BX.Box (World.drew (w5.alloc (.cells #[.int .i64 0, .int .i64 1, .int .i64 2, .int .i64 3, .int .i64 7, .int .i64 60, .int .i64 61] 3))) r 24 B1.zero) := hbr.below hDB hbr.lt
    have HOB : Hid (MC.Only p A0 (World.drew (w5.alloc (.cells #[.int .i64 0, .int .i64 1, .int .i64 2, .int .i64 3, .int .i64 7, .int .i64 60, .int .i64 61] 3)))) := hor.trans (MC.Only.of_below hDB)
    have hDC : Below w5.heap.size w5 ((World.drew w5).alloc (.cells #[.int .i64 0, .int .i64 1, .int .i64 2, .int .i64 3, .int .i64 7, .int .i64 60, .int .i64 61] 3)) := ((Below.refl _ w5).drew).alloc (by exact Nat.le_refl _) (.cells #[.int .i64 0, .int .i64 1, .int .i64 2, .int .i64 3, .int .i64 7, .int .i64 60, .int .i64 61] 3)
    have HCC : Hid (MC.Cur ((World.drew w5).alloc (.cells #[.int .i64 0, .int .i64 1, .int .i64 2, .int .i64 3, .int .i64 7, .int .i64 60, .int .i64 61] 3)) p a zs cap (0 + 102)) := hc.below hDC
    have HQC : Hid (BX.Box ((World.drew w5).alloc (.cells #[.int .i64 0, .int .i64 1, .int .i64 2, .int .i64 3, .int .i64 7, .int .i64 60, .int .i64 61] 3)) q 24 ⟨y0, y1, y2, y3, y4, y5, y6, y7, y8, y9⟩) := hbq.below hDC hbq.lt
    have HRC : Hid (BX.Box ((World.drew w5).alloc (.cells #[.int .i64 0, .int .i64 1, .int .i64 2, .int .i64 3, .int .i64 7, .int .i64 60, .int .i64 61] 3)) r 24 B1.zero) := hbr.below hDC hbr.lt
    have HOC : Hid (MC.Only p A0 ((World.drew w5).alloc (.cells #[.int .i64 0, .int .i64 1, .int .i64 2, .int .i64 3, .int .i64 7, .int .i64 60, .int .i64 61] 3))) := hor.trans (MC.Only.of_below hDC)
    have k0 := hbq.cells 0
    have k1 := hbq.cells 1
    have k2 := hbq.cells 2
    have k3 := hbq.cells 3
    have k4 := hbq.cells 4
    have k5 := hbq.cells 5
    have k6 := hbq.cells 6
    have k7 := hbq.cells 7
    have k8 := hbq.cells 8
    have k9 := hbq.cells 9
    simp [Bd.cs] at k0 k1 k2 k3 k4 k5 k6 k7 k8 k9
    have HMP : Hid (p < w5.heap.size) := Nat.lt_trans hpq hbq.lt
    clear hbq hbr hc hor hDA hDB hDC
    go_wp2
    go_region_held3 (fun w' => w'.cell? ⟨q, 0, none⟩ = some (.int .i64 y0) ∧ w'.cell? ⟨q, 1, none⟩ = some (.int .i64 y1) ∧ w'.cell? ⟨q, 2, none⟩ = some (.bool y2) ∧ w'.cell? ⟨q, 3, none⟩ = some (.int .i64 y3) ∧ w'.cell? ⟨q, 4, none⟩ = some (.int .i64 y4) ∧ w'.cell? ⟨q, 5, none⟩ = some (.int .i64 y5) ∧ w'.cell? ⟨q, 6, none⟩ = some (.int .i64 y6) ∧ w'.cell? ⟨q, 7, none⟩ = some (.int .i64 y7) ∧ w'.cell? ⟨q, 8, none⟩ = some (.int .i64 y8) ∧ w'.cell? ⟨q, 9, none⟩ = some (.string y9)) (first | go_keep | assumption) (first | (go_at_call 29; have hLI : M4.IntsAt (World.drew (w5.alloc (.cells #[.int .i64 0, .int .i64 1, .int .i64 2, .int .i64 3, .int .i64 7, .int .i64 60, .int .i64 61] 3))) (some ⟨w5.heap.size, 0, none⟩) [0, 1, 2, 3, 7, 60, 61] := MEM.lit_drew (xs := [0, 1, 2, 3, 7, 60, 61]) (t := 3) (MC.Only.refl p _) HMP.out; have hCA := among_any p a zs cap (0 + 102) (some ⟨w5.heap.size, 0, none⟩) [0, 1, 2, 3, 7, 60, 61] 7 _ hz (by omega) HCB.out (by simp) (by simp) hLI (fun b off e => by have h1 := HMP.out; cases e; first | omega | (simp; omega)); simp only [List.length_cons, List.length_nil, Nat.zero_add, Nat.reduceAdd] at hCA; (with_reducible refine Calls.mono hCA ?_); clear hCA hLI; rintro e U2 ⟨nn, rfl, hnn, hc, ho⟩; have HQ2 : Hid (BX.Box _ _ _ _) := HQB.out.only ho hqp; have HR2 : Hid (BX.Box _ _ _ _) := HRB.out.only ho hrp'; have HO2 : Hid (MC.Only p A0 U2) := HOB.out.trans ho; have hQ := HQ2.out; have k0 := hQ.cells 0; have k1 := hQ.cells 1; have k2 := hQ.cells 2; have k3 := hQ.cells 3; have k4 := hQ.cells 4; have k5 := hQ.cells 5; have k6 := hQ.cells 6; have k7 := hQ.cells 7; have k8 := hQ.cells 8; have k9 := hQ.cells 9; simp [Bd.cs] at k0 k1 k2 k3 k4 k5 k6 k7 k8 k9; have hR := HR2.out; have m0_ := hR.cells 0; have g0 := hR.free 0; have m1_ := hR.cells 1; have g1 := hR.free 1; have m2_ := hR.cells 2; have g2 := hR.free 2; have m3_ := hR.cells 3; have g3 := hR.free 3; have m4_ := hR.cells 4; have g4 := hR.free 4; have m5_ := hR.cells 5; have g5 := hR.free 5; have m6_ := hR.cells 6; have g6 := hR.free 6; have m7_ := hR.cells 7; have g7 := hR.free 7; have m8_ := hR.cells 8; have g8 := hR.free 8; have m9_ := hR.cells 9; have g9 := hR.free 9; simp [Bd.cs, B1.zero] at m0_ m1_ m2_ m3_ m4_ m5_ m6_ m7_ m8_ m9_; have hql := hQ.lt; have hrl := hR.lt; clear hQ hR hc ho HCA HCB HCC HQA HQB HQC HRA HRB HRC HOA HOB HOC) | (go_at_call 29; have hLI : M4.IntsAt ((World.drew w5).alloc (.cells #[.int .i64 0, .int .i64 1, .int .i64 2, .int .i64 3, .int .i64 7, .int .i64 60, .int .i64 61] 3)) (some ⟨(World.drew w5).heap.size, 0, none⟩) [0, 1, 2, 3, 7, 60, 61] := BX.new_ints (World.drew w5) [0, 1, 2, 3, 7, 60, 61] 3; have hCA := among_any p a zs cap (0 + 102) (some ⟨(World.drew w5).heap.size, 0, none⟩) [0, 1, 2, 3, 7, 60, 61] 7 _ hz (by omega) HCC.out (by simp) (by simp) hLI (fun b off e => by have h1 := HMP.out; cases e; first | omega | (simp; omega)); simp only [List.length_cons, List.length_nil, Nat.zero_add, Nat.reduceAdd] at hCA; (with_reducible refine Calls.mono hCA ?_); clear hCA hLI; rintro e U2 ⟨nn, rfl, hnn, hc, ho⟩; have HQ2 : Hid (BX.Box _ _ _ _) := HQC.out.only ho hqp; have HR2 : Hid (BX.Box _ _ _ _) := HRC.out.only ho hrp'; have HO2 : Hid (MC.Only p A0 U2) := HOC.out.trans ho; have hQ := HQ2.out; have k0 := hQ.cells 0; have k1 := hQ.cells 1; have k2 := hQ.cells 2; have k3 := hQ.cells 3; have k4 := hQ.cells 4; have k5 := hQ.cells 5; have k6 := hQ.cells 6; have k7 := hQ.cells 7; have k8 := hQ.cells 8; have k9 := hQ.cells 9; simp [Bd.cs] at k0 k1 k2 k3 k4 k5 k6 k7 k8 k9; have hR := HR2.out; have m0_ := hR.cells 0; have g0 := hR.free 0; have m1_ := hR.cells 1; have g1 := hR.free 1; have m2_ := hR.cells 2; have g2 := hR.free 2; have m3_ := hR.cells 3; have g3 := hR.free 3; have m4_ := hR.cells 4; have g4 := hR.free 4; have m5_ := hR.cells 5; have g5 := hR.free 5; have m6_ := hR.cells 6; have g6 := hR.free 6; have m7_ := hR.cells 7; have g7 := hR.free 7; have m8_ := hR.cells 8; have g8 := hR.free 8; have m9_ := hR.cells 9; have g9 := hR.free 9; simp [Bd.cs, B1.zero] at m0_ m1_ m2_ m3_ m4_ m5_ m6_ m7_ m8_ m9_; have hql := hQ.lt; have hrl := hR.lt; clear hQ hR hc ho HCA HCB HCC HQA HQB HQC HRA HRB HRC HOA HOB HOC))
    all_goals
      have hP := HR2.out.put ⟨y0, y1, y2, y3, y4, y5, y6, y7, y8, y9⟩
      have z0 := hP.cells 0
      have z1 := hP.cells 1
      have z2 := hP.cells 2
      have z3 := hP.cells 3
      have z4 := hP.cells 4
      have z5 := hP.cells 5
      have z6 := hP.cells 6
      have z7 := hP.cells 7
      have z8 := hP.cells 8
      have z9 := hP.cells 9
      simp [Bd.cs] at z0 z1 z2 z3 z4 z5 z6 z7 z8 z9
      have hBE := (((((((((((hnb.out _ HO2.out).setCell (p := ⟨r, 0, none⟩) (by simp) (.int .i64 y0)).setCell (p := ⟨r, 1, none⟩) (by simp) (.int .i64 y1)).setCell (p := ⟨r, 2, none⟩) (by simp) (.bool y2)).setCell (p := ⟨r, 3, none⟩) (by simp) (.int .i64 y3)).setCell (p := ⟨r, 4, none⟩) (by simp) (.int .i64 y4)).setCell (p := ⟨r, 5, none⟩) (by simp) (.int .i64 y5)).setCell (p := ⟨r, 6, none⟩) (by simp) (.int .i64 y6)).setCell (p := ⟨r, 7, none⟩) (by simp) (.int .i64 y7)).setCell (p := ⟨r, 8, none⟩) (by simp) (.int .i64 y8)).setCell (p := ⟨r, 9, none⟩) (by simp) (.string y9))
      generalize ((((((((((((((((((((U2).setCell ⟨r, 0, none⟩ (.int .i64 y0))).setCell ⟨r, 1, none⟩ (.int .i64 y1))).setCell ⟨r, 2, none⟩ (.bool y2))).setCell ⟨r, 3, none⟩ (.int .i64 y3))).setCell ⟨r, 4, none⟩ (.int .i64 y4))).setCell ⟨r, 5, none⟩ (.int .i64 y5))).setCell ⟨r, 6, none⟩ (.int .i64 y6))).setCell ⟨r, 7, none⟩ (.int .i64 y7))).setCell ⟨r, 8, none⟩ (.int .i64 y8))).setCell ⟨r, 9, none⟩ (.string y9)) = WE at *
      go_wp2
      exact bodyPost_ret (v := .tuple #[.agg #[.int .i64 y0, .int .i64 y1, .bool y2, .int .i64 y3, .int .i64 y4, .int .i64 y5, .int .i64 y6, .int .i64 y7, .int .i64 y8, .string y9], .int .i64 nn]) (by simp [results, Try.results5, go_sem, z0, z1, z2, z3, z4, z5, z6, z7, z8, z9]) rfl ⟨⟨y0, y1, y2, y3, y4, y5, y6, y7, y8, y9⟩, nn, rfl, by show y9.size ≤ 61; have h7 : y9.size ≤ 60 := hpy4; omega, hnn, hr ▸ hBE⟩
end Go.Proofs.Ytepgmmigacafeaa
