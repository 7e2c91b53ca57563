import Derived.Test.YtdgflhgbcfehhaaRows
import Derived.Test.YtdgflhgbcfehhaaCBundleD
import Derived.Test.YtdgflhgbcfehhaaM2
import Derived.WalkKit
import Derived.WalkSpells
import Derived.WalkLawsBesides
import Derived.Outline
import Derived.Deep.DeepCutAuto
import Derived.Test.YtdgflhgbcfehhaaCCutBS
/- The cursor's wholeBundle: some bundle that is no piece, with a Payload of at most 61 bytes. -/
namespace Go.Proofs.Ytdgflhgbcfehhaa
open Go.RowKit
theorem Try.infoU8W : (Try.prog.info? 5).map (fun i => (i.zero, i.size, i.bytes)) = some (some (.int .u8 0), 1, 1) := by kernel_rfl
def wholeS : List ByteArray := [⟨#[104, 101, 108, 108, 111]⟩, ⟨#[97, 32, 108, 111, 110, 103, 101, 114, 32, 116, 101, 120, 116, 32, 111, 102, 32, 115, 111, 109, 101, 32, 98, 121, 116, 101, 115]⟩, ⟨#[120]⟩, ⟨#[48, 49, 50, 51, 52, 53, 54, 55, 56, 57]⟩]
theorem whole_at (w : World) : StrsAt (w.alloc (.cells #[.string ⟨#[104, 101, 108, 108, 111]⟩, .string ⟨#[97, 32, 108, 111, 110, 103, 101, 114, 32, 116, 101, 120, 116, 32, 111, 102, 32, 115, 111, 109, 101, 32, 98, 121, 116, 101, 115]⟩, .string ⟨#[120]⟩, .string ⟨#[48, 49, 50, 51, 52, 53, 54, 55, 56, 57]⟩] 9)) w.heap.size 0 wholeS := by
  refine ⟨by simp, fun j hj => ?_⟩
  rw [Nat.zero_add, World.cell?_alloc_at _ _ _ _ (by rfl)]
  have : j < 4 := hj
  match j, this with
  | 0, _ | 1, _ | 2, _ | 3, _ => rfl
theorem whole_size (s : ByteArray) (h : s ∈ wholeS) : s.size ≤ 61 := by
  simp only [wholeS, List.mem_cons, List.not_mem_nil, or_false] at h
  rcases h with rfl | rfl | rfl | rfl <;> decide
theorem zeros_bvW (n : Nat) : (madeCells #[Value.int .u8 0] n).toList = M2.bv (List.replicate n 0) := by
  rw [toList_madeCells_one]; simp [M2.bv]
theorem zeros_sizeW (n : Nat) : (⟨(List.replicate n (0 : UInt8)).toArray⟩ : ByteArray).size = n := by show (List.replicate n (0 : UInt8)).toArray.size = n; simp
set_option linter.unusedSimpArgs false in
set_option maxHeartbeats 3200000 in
set_option maxRecDepth 100000 in
theorem wholeBundle_any (p : Nat) (a : Option Addr) (zs : List Int) (cap M : Nat) (w : World) (hz : zs.length ≤ 140737488355328) (hM : M ≤ 140737488330000) (hc : MC.Cur w p a zs cap M) :
    Calls Try.prog 26 #[.pointer (some ⟨p, 0, none⟩)] w fun e w' => ∃ b : Bd, e = .returned b.v ∧ b.py.size ≤ 61 ∧ b.of = 0 ∧ b.tl = 0 ∧ MC.Cur w' p a zs cap (M + 60) ∧ MC.Only p w w' := by
  obtain ⟨i0, hi, hz0, hz1, hz2⟩ := info_parts Try.infoU8W
  have hplt := hc.lt
  have hbr := BX.Box.new w 24 B1.zero w.heap.size rfl
  have hor := (MC.Only.refl p w).alloc (.cells (BX.cs B1.zero).toArray 24)
  replace hc := hc.alloc (.cells (BX.cs B1.zero).toArray 24)
  simp only [BX.cs, Bd.cs, B1.zero] at hbr hor hc
  go_enter Try.func26, Try.ntmps26
  go_wp2_with fail
  generalize w.alloc (.cells #[.int .i64 0, .int .i64 0, .bool false, .int .i64 0, .int .i64 0, .int .i64 0, .int .i64 0, .int .i64 0, .int .i64 0, .string ⟨#[]⟩] 24) = w0 at *
  obtain ⟨r, hr⟩ : ∃ r, w.heap.size = r := ⟨_, rfl⟩
  rw [hr] at hbr hplt ⊢
  have hrp : r ≠ p := by omega
  change BX.Box w0 r 24 B1.zero at hbr
  refine (bundle_any p a zs cap M _ hz (by omega) hc).mono ?_
  rintro e w1 ⟨b, rfl, hpb, hc1, ho1⟩
  replace hbr := hbr.only ho1 hrp
  replace hor := hor.trans ho1
  clear hc ho1 hpb
  obtain ⟨x0, x1, x2, x3, x4, x5, x6, x7, x8, x9⟩ := b
  have hbq := BX.Box.new w1 24 ⟨x0, x1, x2, x3, x4, x5, x6, x7, x8, x9⟩ w1.heap.size rfl
  have hsw := hor.size
  have hrl := hbr.lt
  have hpl := hc1.lt
  have hc := hc1.alloc (.cells #[.int .i64 x0, .int .i64 x1, .bool x2, .int .i64 x3, .int .i64 x4, .int .i64 x5, .int .i64 x6, .int .i64 x7, .int .i64 x8, .string x9] 24)
  replace hbr := hbr.alloc (.cells #[.int .i64 x0, .int .i64 x1, .bool x2, .int .i64 x3, .int .i64 x4, .int .i64 x5, .int .i64 x6, .int .i64 x7, .int .i64 x8, .string x9] 24)
  replace hor := hor.alloc (.cells #[.int .i64 x0, .int .i64 x1, .bool x2, .int .i64 x3, .int .i64 x4, .int .i64 x5, .int .i64 x6, .int .i64 x7, .int .i64 x8, .string x9] 24)
  simp only [BX.cs, Bd.cs] at hbq
  clear hc1
  go_upto_region 2 with fail
  generalize w1.alloc (.cells #[.int .i64 x0, .int .i64 x1, .bool x2, .int .i64 x3, .int .i64 x4, .int .i64 x5, .int .i64 x6, .int .i64 x7, .int .i64 x8, .string x9] 24) = w2 at *
  obtain ⟨q, hq⟩ : ∃ q, w1.heap.size = q := ⟨_, rfl⟩
  rw [hq] at hbq hrl hpl hsw ⊢
  have hqp : q ≠ p := by omega
  have hpq : p < q := by omega
  have hrq : r ≠ q := by omega
  have hqw : w.heap.size ≤ q := by omega
  clear hq
  have st : BX.Box (w2.setCell ⟨q, 7, none⟩ (.int .i64 0)) q 24 ⟨x0, x1, x2, x3, x4, x5, x6, 0, x8, x9⟩ := hbq.set rfl
  have hc' := BX.cur_set (j := 7) (v := .int .i64 0) hc hpq
  have ho' := BX.only_set (j := 7) (v := .int .i64 0) hor hqw
  have hbr' := hbr.far (g := q) (j := 7) (v := .int .i64 0) hrq
  have kj := hbq.cells 7
  have gj := hbq.free 7
  have hql := hbq.lt
  simp [Bd.cs] at kj
  go_upto_region 3 with fail
  clear kj gj hql hbq hc hor hbr
  have hbq := st
  have hc := hc'
  have hor := ho'
  have hbr := hbr'
  clear st hc' ho' hbr'
  generalize w2.setCell ⟨q, 7, none⟩ (.int .i64 0) = w3 at *
  have st : BX.Box (w3.setCell ⟨q, 8, none⟩ (.int .i64 0)) q 24 ⟨x0, x1, x2, x3, x4, x5, x6, 0, 0, x9⟩ := hbq.set rfl
  have hc' := BX.cur_set (j := 8) (v := .int .i64 0) hc hpq
  have ho' := BX.only_set (j := 8) (v := .int .i64 0) hor hqw
  have hbr' := hbr.far (g := q) (j := 8) (v := .int .i64 0) hrq
  have kj := hbq.cells 8
  have gj := hbq.free 8
  have hql := hbq.lt
  simp [Bd.cs] at kj
  go_upto_region 4 with fail
  clear kj gj hql hbq hc hor hbr
  have hbq := st
  have hc := hc'
  have hor := ho'
  have hbr := hbr'
  clear st hc' ho' hbr'
  generalize w3.setCell ⟨q, 8, none⟩ (.int .i64 0) = w4 at *
  have hs4 := hor.size
  have hq4 := hbq.lt
  have h4 := whole_at w4
  replace hc := hc.alloc (.cells #[.string ⟨#[104, 101, 108, 108, 111]⟩, .string ⟨#[97, 32, 108, 111, 110, 103, 101, 114, 32, 116, 101, 120, 116, 32, 111, 102, 32, 115, 111, 109, 101, 32, 98, 121, 116, 101, 115]⟩, .string ⟨#[120]⟩, .string ⟨#[48, 49, 50, 51, 52, 53, 54, 55, 56, 57]⟩] 9)
  replace hbr := hbr.alloc (.cells #[.string ⟨#[104, 101, 108, 108, 111]⟩, .string ⟨#[97, 32, 108, 111, 110, 103, 101, 114, 32, 116, 101, 120, 116, 32, 111, 102, 32, 115, 111, 109, 101, 32, 98, 121, 116, 101, 115]⟩, .string ⟨#[120]⟩, .string ⟨#[48, 49, 50, 51, 52, 53, 54, 55, 56, 57]⟩] 9)
  replace hbq := hbq.alloc (.cells #[.string ⟨#[104, 101, 108, 108, 111]⟩, .string ⟨#[97, 32, 108, 111, 110, 103, 101, 114, 32, 116, 101, 120, 116, 32, 111, 102, 32, 115, 111, 109, 101, 32, 98, 121, 116, 101, 115]⟩, .string ⟨#[120]⟩, .string ⟨#[48, 49, 50, 51, 52, 53, 54, 55, 56, 57]⟩] 9)
  replace hor := hor.alloc (.cells #[.string ⟨#[104, 101, 108, 108, 111]⟩, .string ⟨#[97, 32, 108, 111, 110, 103, 101, 114, 32, 116, 101, 120, 116, 32, 111, 102, 32, 115, 111, 109, 101, 32, 98, 121, 116, 101, 115]⟩, .string ⟨#[120]⟩, .string ⟨#[48, 49, 50, 51, 52, 53, 54, 55, 56, 57]⟩] 9)
  go_wp2_with fail
  refine (of_any p a zs cap (M + 40) w4.heap.size 0 wholeS 4 _ hz (by omega) hc (by decide) (by decide) h4 (by omega)).mono ?_
  rintro e w5 ⟨s, rfl, hs, hc5, ho5⟩
  replace hs := whole_size s hs
  clear h4
  replace hbr := hbr.only ho5 hrp
  replace hbq := hbq.only ho5 hqp
  replace hor := hor.trans ho5
  clear hc ho5
  have hc := hc5
  clear hc5
  have st : BX.Box (w5.setCell ⟨q, 9, none⟩ (.string s)) q 24 ⟨x0, x1, x2, x3, x4, x5, x6, 0, 0, s⟩ := hbq.set rfl
  have hc' := BX.cur_set (j := 9) (v := .string s) hc hpq
  have ho' := BX.only_set (j := 9) (v := .string s) hor hqw
  have hbr' := hbr.far (g := q) (j := 9) (v := .string s) hrq
  have kj := hbq.cells 9
  have gj := hbq.free 9
  have hql := hbq.lt
  simp [Bd.cs] at kj
  go_wp2_with fail
  clear kj gj hql hbq hc hor hbr
  have hbq := st
  have hc := hc'
  have hor := ho'
  have hbr := hbr'
  clear st hc' ho' hbr'
  generalize w5.setCell ⟨q, 9, none⟩ (.string s) = w6 at *
  refine (one_any p a zs cap (M + 42) _ _ hz (by omega) hc).mono ?_
  rintro e w7 ⟨b7, rfl, hc7, ho7⟩
  replace hbr := hbr.only ho7 hrp
  replace hbq := hbq.only ho7 hqp
  replace hor := hor.trans ho7
  clear hc ho7
  have hc := hc7
  clear hc7
  cases b7
  · have k0 := hbq.cells 0
    have k1 := hbq.cells 1
    have k2 := hbq.cells 2
    have k3 := hbq.cells 3
    have k4 := hbq.cells 4
    have k5 := hbq.cells 5
    have k6 := hbq.cells 6
    have k7 := hbq.cells 7
    have k8 := hbq.cells 8
    have k9 := hbq.cells 9
    simp [Bd.cs, B1.zero] at k0 k1 k2 k3 k4 k5 k6 k7 k8 k9
    have m0 := hbr.cells 0
    have g0 := hbr.free 0
    have m1 := hbr.cells 1
    have g1 := hbr.free 1
    have m2 := hbr.cells 2
    have g2 := hbr.free 2
    have m3 := hbr.cells 3
    have g3 := hbr.free 3
    have m4 := hbr.cells 4
    have g4 := hbr.free 4
    have m5 := hbr.cells 5
    have g5 := hbr.free 5
    have m6 := hbr.cells 6
    have g6 := hbr.free 6
    have m7 := hbr.cells 7
    have g7 := hbr.free 7
    have m8 := hbr.cells 8
    have g8 := hbr.free 8
    have m9 := hbr.cells 9
    have g9 := hbr.free 9
    simp [Bd.cs, B1.zero] at m0 m1 m2 m3 m4 m5 m6 m7 m8 m9
    have hql := hbq.lt
    have hrl2 := hbr.lt
    have hP := hbr.put ⟨x0, x1, x2, x3, x4, x5, x6, 0, 0, s⟩
    have hcE := BX.cur_set (BX.cur_set (BX.cur_set (BX.cur_set (BX.cur_set (BX.cur_set (BX.cur_set (BX.cur_set (BX.cur_set (BX.cur_set (hc) (g := r) (j := 0) (v := .int .i64 x0) hplt) (g := r) (j := 1) (v := .int .i64 x1) hplt) (g := r) (j := 2) (v := .bool x2) hplt) (g := r) (j := 3) (v := .int .i64 x3) hplt) (g := r) (j := 4) (v := .int .i64 x4) hplt) (g := r) (j := 5) (v := .int .i64 x5) hplt) (g := r) (j := 6) (v := .int .i64 x6) hplt) (g := r) (j := 7) (v := .int .i64 0) hplt) (g := r) (j := 8) (v := .int .i64 0) hplt) (g := r) (j := 9) (v := .string s) hplt
    have hoE := BX.only_set (BX.only_set (BX.only_set (BX.only_set (BX.only_set (BX.only_set (BX.only_set (BX.only_set (BX.only_set (BX.only_set (hor) (g := r) (j := 0) (v := .int .i64 x0) (Nat.le_of_eq hr)) (g := r) (j := 1) (v := .int .i64 x1) (Nat.le_of_eq hr)) (g := r) (j := 2) (v := .bool x2) (Nat.le_of_eq hr)) (g := r) (j := 3) (v := .int .i64 x3) (Nat.le_of_eq hr)) (g := r) (j := 4) (v := .int .i64 x4) (Nat.le_of_eq hr)) (g := r) (j := 5) (v := .int .i64 x5) (Nat.le_of_eq hr)) (g := r) (j := 6) (v := .int .i64 x6) (Nat.le_of_eq hr)) (g := r) (j := 7) (v := .int .i64 0) (Nat.le_of_eq hr)) (g := r) (j := 8) (v := .int .i64 0) (Nat.le_of_eq hr)) (g := r) (j := 9) (v := .string s) (Nat.le_of_eq hr)
    go_wp2
    clear k0 m0 g0 k1 m1 g1 k2 m2 g2 k3 m3 g3 k4 m4 g4 k5 m5 g5 k6 m6 g6 k7 m7 g7 k8 m8 g8 k9 m9 g9 hbq hbr hc hor
    have n0 := hP.cells 0
    have n1 := hP.cells 1
    have n2 := hP.cells 2
    have n3 := hP.cells 3
    have n4 := hP.cells 4
    have n5 := hP.cells 5
    have n6 := hP.cells 6
    have n7 := hP.cells 7
    have n8 := hP.cells 8
    have n9 := hP.cells 9
    simp [Bd.cs, B1.zero] at n0 n1 n2 n3 n4 n5 n6 n7 n8 n9
    generalize ((((((((((((((((((((w7).setCell ⟨r, 0, none⟩ (.int .i64 x0))).setCell ⟨r, 1, none⟩ (.int .i64 x1))).setCell ⟨r, 2, none⟩ (.bool x2))).setCell ⟨r, 3, none⟩ (.int .i64 x3))).setCell ⟨r, 4, none⟩ (.int .i64 x4))).setCell ⟨r, 5, none⟩ (.int .i64 x5))).setCell ⟨r, 6, none⟩ (.int .i64 x6))).setCell ⟨r, 7, none⟩ (.int .i64 0))).setCell ⟨r, 8, none⟩ (.int .i64 0))).setCell ⟨r, 9, none⟩ (.string s)) = WE at *
    exact bodyPost_ret (v := .agg #[.int .i64 x0, .int .i64 x1, .bool x2, .int .i64 x3, .int .i64 x4, .int .i64 x5, .int .i64 x6, .int .i64 0, .int .i64 0, .string s]) (by simp [results, Try.results26, go_sem, n0, n1, n2, n3, n4, n5, n6, n7, n8, n9]) rfl ⟨⟨x0, x1, x2, x3, x4, x5, x6, 0, 0, s⟩, rfl, hs, rfl, rfl, hcE.more (by omega), hoE⟩
  · go_wp2_with fail
    refine (pick_any p a zs cap (M + 44) _ _ hz (by omega) hc).mono ?_
    rintro e w8 ⟨y, rfl, hry, hxy, hc8, ho8⟩
    replace hbr := hbr.only ho8 hrp
    replace hbq := hbq.only ho8 hqp
    replace hor := hor.trans ho8
    clear hc ho8
    have hc := hc8
    clear hc8
    have hy2 : y < 2 := by omega
    go_wp2_with (at_make; refine wpList_make_full _ rfl _ _ 22 rfl w8.heap.size 5 i0 (.int .u8 0) 1 Try.underlying22 hi hz0 hz1 .i64 .i64 _ _ (60 + y) rfl rfl (by omega) (by omega) ?_ ?_ ?_ ?_)
    · rw [hz2]; omega
    · unfold maxLen; omega
    · omega
    intro w9 hown hgrow
    have hown' : w9.ownsRow w8.heap.size 5 1 (.slice (some ⟨w8.heap.size, 0, none⟩) (60 + y) (60 + y)) (60 + y) (M2.bv (List.replicate (60 + y) 0)) := by
      have := hown; simpa [zeros_bvW] using this
    have hown2 : w9.ownsRow w8.heap.size 5 1 (.slice (some ⟨w8.heap.size, 0, none⟩) (60 + y) (60 + y)) (List.replicate (60 + y) (0 : UInt8)).length (M2.bv (List.replicate (60 + y) 0)) := by
      rw [List.length_replicate]; exact hown'
    have hcv := M2.conv_own (P := Try.prog) 22 9 5 Try.underlying22 Try.underlying5 Try.underlying9 hown2
    have hzs := zeros_sizeW (60 + y)
    generalize (⟨(List.replicate (60 + y) (0 : UInt8)).toArray⟩ : ByteArray) = zz at *
    have hzz : zz.size ≤ 61 := by omega
    have hB9 : Below w8.heap.size w8 w9 := (Below.refl _ _).grown hgrow (Nat.le_refl _) (fun k hk => by cases hk)
    replace hbq := hbq.below hB9 hbq.lt
    replace hbr := hbr.below hB9 hbr.lt
    replace hc := hc.grown hgrow (fun k hk => by cases hk)
    replace hor := hor.grown hgrow (fun k hk => by cases hk)
    clear hown hown' hown2 hgrow hB9 hzs hi hz0 hz1 hz2
    have st : BX.Box (w9.setCell ⟨q, 9, none⟩ (.string zz)) q 24 ⟨x0, x1, x2, x3, x4, x5, x6, 0, 0, zz⟩ := hbq.set rfl
    have hc' := BX.cur_set (j := 9) (v := .string zz) hc hpq
    have ho' := BX.only_set (j := 9) (v := .string zz) hor hqw
    have hbr' := hbr.far (g := q) (j := 9) (v := .string zz) hrq
    have kj := hbq.cells 9
    have gj := hbq.free 9
    have hql := hbq.lt
    simp [Bd.cs] at kj
    go_upto_region 7 with fail
    clear kj gj hql hbq hc hor hbr
    have hbq := st
    have hc := hc'
    have hor := ho'
    have hbr := hbr'
    clear st hc' ho' hbr'
    clear hcv
    generalize w9.setCell ⟨q, 9, none⟩ (.string zz) = w10 at *
    have k0 := hbq.cells 0
    have k1 := hbq.cells 1
    have k2 := hbq.cells 2
    have k3 := hbq.cells 3
    have k4 := hbq.cells 4
    have k5 := hbq.cells 5
    have k6 := hbq.cells 6
    have k7 := hbq.cells 7
    have k8 := hbq.cells 8
    have k9 := hbq.cells 9
    simp [Bd.cs, B1.zero] at k0 k1 k2 k3 k4 k5 k6 k7 k8 k9
    have m0 := hbr.cells 0
    have g0 := hbr.free 0
    have m1 := hbr.cells 1
    have g1 := hbr.free 1
    have m2 := hbr.cells 2
    have g2 := hbr.free 2
    have m3 := hbr.cells 3
    have g3 := hbr.free 3
    have m4 := hbr.cells 4
    have g4 := hbr.free 4
    have m5 := hbr.cells 5
    have g5 := hbr.free 5
    have m6 := hbr.cells 6
    have g6 := hbr.free 6
    have m7 := hbr.cells 7
    have g7 := hbr.free 7
    have m8 := hbr.cells 8
    have g8 := hbr.free 8
    have m9 := hbr.cells 9
    have g9 := hbr.free 9
    simp [Bd.cs, B1.zero] at m0 m1 m2 m3 m4 m5 m6 m7 m8 m9
    have hql := hbq.lt
    have hrl2 := hbr.lt
    have hP := hbr.put ⟨x0, x1, x2, x3, x4, x5, x6, 0, 0, zz⟩
    have hcE := BX.cur_set (BX.cur_set (BX.cur_set (BX.cur_set (BX.cur_set (BX.cur_set (BX.cur_set (BX.cur_set (BX.cur_set (BX.cur_set (hc) (g := r) (j := 0) (v := .int .i64 x0) hplt) (g := r) (j := 1) (v := .int .i64 x1) hplt) (g := r) (j := 2) (v := .bool x2) hplt) (g := r) (j := 3) (v := .int .i64 x3) hplt) (g := r) (j := 4) (v := .int .i64 x4) hplt) (g := r) (j := 5) (v := .int .i64 x5) hplt) (g := r) (j := 6) (v := .int .i64 x6) hplt) (g := r) (j := 7) (v := .int .i64 0) hplt) (g := r) (j := 8) (v := .int .i64 0) hplt) (g := r) (j := 9) (v := .string zz) hplt
    have hoE := BX.only_set (BX.only_set (BX.only_set (BX.only_set (BX.only_set (BX.only_set (BX.only_set (BX.only_set (BX.only_set (BX.only_set (hor) (g := r) (j := 0) (v := .int .i64 x0) (Nat.le_of_eq hr)) (g := r) (j := 1) (v := .int .i64 x1) (Nat.le_of_eq hr)) (g := r) (j := 2) (v := .bool x2) (Nat.le_of_eq hr)) (g := r) (j := 3) (v := .int .i64 x3) (Nat.le_of_eq hr)) (g := r) (j := 4) (v := .int .i64 x4) (Nat.le_of_eq hr)) (g := r) (j := 5) (v := .int .i64 x5) (Nat.le_of_eq hr)) (g := r) (j := 6) (v := .int .i64 x6) (Nat.le_of_eq hr)) (g := r) (j := 7) (v := .int .i64 0) (Nat.le_of_eq hr)) (g := r) (j := 8) (v := .int .i64 0) (Nat.le_of_eq hr)) (g := r) (j := 9) (v := .string zz) (Nat.le_of_eq hr)
    go_wp2
    clear k0 m0 g0 k1 m1 g1 k2 m2 g2 k3 m3 g3 k4 m4 g4 k5 m5 g5 k6 m6 g6 k7 m7 g7 k8 m8 g8 k9 m9 g9 hbq hbr hc hor
    have n0 := hP.cells 0
    have n1 := hP.cells 1
    have n2 := hP.cells 2
    have n3 := hP.cells 3
    have n4 := hP.cells 4
    have n5 := hP.cells 5
    have n6 := hP.cells 6
    have n7 := hP.cells 7
    have n8 := hP.cells 8
    have n9 := hP.cells 9
    simp [Bd.cs, B1.zero] at n0 n1 n2 n3 n4 n5 n6 n7 n8 n9
    generalize ((((((((((((((((((((w10).setCell ⟨r, 0, none⟩ (.int .i64 x0))).setCell ⟨r, 1, none⟩ (.int .i64 x1))).setCell ⟨r, 2, none⟩ (.bool x2))).setCell ⟨r, 3, none⟩ (.int .i64 x3))).setCell ⟨r, 4, none⟩ (.int .i64 x4))).setCell ⟨r, 5, none⟩ (.int .i64 x5))).setCell ⟨r, 6, none⟩ (.int .i64 x6))).setCell ⟨r, 7, none⟩ (.int .i64 0))).setCell ⟨r, 8, none⟩ (.int .i64 0))).setCell ⟨r, 9, none⟩ (.string zz)) = WE at *
    exact bodyPost_ret (v := .agg #[.int .i64 x0, .int .i64 x1, .bool x2, .int .i64 x3, .int .i64 x4, .int .i64 x5, .int .i64 x6, .int .i64 0, .int .i64 0, .string zz]) (by simp [results, Try.results26, go_sem, n0, n1, n2, n3, n4, n5, n6, n7, n8, n9]) rfl ⟨⟨x0, x1, x2, x3, x4, x5, x6, 0, 0, zz⟩, rfl, hzz, rfl, rfl, hcE.more (by omega), hoE⟩
end Go.Proofs.Ytdgflhgbcfehhaa

/- The cursor's piece: some bundle, a piece mostly, with a Payload of at most 61 bytes. -/
namespace Go.Proofs.Ytdgflhgbcfehhaa
open Go.RowKit
namespace CB
theorem res_some {b : Bd} {m : Int} (h : ok b m = true) : 0 < (res b m).length := by
  obtain ⟨h1, h2, h3, h4, h5⟩ := ok_is h
  obtain ⟨k, rfl⟩ := Int.eq_ofNat_of_zero_le (show (0 : Int) ≤ m by omega)
  rw [res_yes h, ls_len]
  have := num_lt (b := b) (m := k) (k := 0) (by omega) (by omega)
  omega
theorem res_len (b : Bd) (m : Int) (hs : b.py.size ≤ 61) : (res b m).length ≤ 61 := by
  cases h : ok b m
  · rw [res_no h]; simp
  · obtain ⟨h1, h2, h3, h4, h5⟩ := ok_is h
    obtain ⟨k, rfl⟩ := Int.eq_ofNat_of_zero_le (show (0 : Int) ≤ m by omega)
    rw [res_yes h, ls_len]
    unfold num
    have hk : 1 ≤ k := by omega
    have : (b.py.size + k - 1) / k ≤ b.py.size := by
      rw [Nat.div_le_iff_le_mul_add_pred (by omega)]
      have : b.py.size ≤ k * b.py.size := Nat.le_mul_of_pos_left _ (by omega)
      omega
    omega
theorem res_py (b : Bd) (m : Int) (hs : b.py.size ≤ 61) : ∀ c ∈ res b m, c.py.size ≤ 61 := by
  intro c hc
  cases h : ok b m
  · rw [res_no h] at hc; cases hc
  · obtain ⟨h1, h2, h3, h4, h5⟩ := ok_is h
    obtain ⟨k, rfl⟩ := Int.eq_ofNat_of_zero_le (show (0 : Int) ≤ m by omega)
    rw [res_yes h] at hc
    unfold ls at hc
    obtain ⟨j, hj, rfl⟩ := List.mem_map.1 hc
    show (b.py.extract _ _).size ≤ 61
    rw [ByteArray.size_extract]
    omega
end CB
set_option linter.unusedSimpArgs false in
set_option maxHeartbeats 3200000 in
set_option maxRecDepth 100000 in
theorem piece_any (p : Nat) (a : Option Addr) (zs : List Int) (cap M : Nat) (w : World) (hz : zs.length ≤ 140737488355328) (hM : M ≤ 140737488320000) (hc : MC.Cur w p a zs cap M) :
    Calls Try.prog 48 #[.pointer (some ⟨p, 0, none⟩)] w fun e w' => ∃ b : Bd, e = .returned b.v ∧ b.py.size ≤ 61 ∧ MC.Cur w' p a zs cap (M + 110) ∧ MC.Only p w w' := by
  have hplt := hc.lt
  have hbr := BX.Box.new w 24 B1.zero w.heap.size rfl
  have hor := (MC.Only.refl p w).alloc (.cells (BX.cs B1.zero).toArray 24)
  replace hc := hc.alloc (.cells (BX.cs B1.zero).toArray 24)
  simp only [BX.cs, Bd.cs, B1.zero] at hbr hor hc
  go_enter Try.func48, Try.ntmps48
  go_wp2_with fail
  generalize w.alloc (.cells #[.int .i64 0, .int .i64 0, .bool false, .int .i64 0, .int .i64 0, .int .i64 0, .int .i64 0, .int .i64 0, .int .i64 0, .string ⟨#[]⟩] 24) = w0 at *
  obtain ⟨r, hr⟩ : ∃ r, w.heap.size = r := ⟨_, rfl⟩
  rw [hr] at hbr hplt ⊢
  have hrp : r ≠ p := by omega
  change BX.Box w0 r 24 B1.zero at hbr
  refine (wholeBundle_any p a zs cap M _ hz (by omega) hc).mono ?_
  rintro e w1 ⟨b, rfl, hpb, -, -, hc1, ho1⟩
  replace hbr := hbr.only ho1 hrp
  replace hor := hor.trans ho1
  clear hc ho1
  have hc := hc1
  clear hc1
  go_wp2_with fail
  refine (pick_any p a zs cap (M + 60) _ _ hz (by omega) hc).mono ?_
  rintro e w2 ⟨y, rfl, hry, hxy, hc2, ho2⟩
  replace hbr := hbr.only ho2 hrp
  replace hor := hor.trans ho2
  clear hc ho2
  have hc := hc2
  clear hc2
  have hw1 : IntKind.i64.wrap (1 + (y : Int)) = 1 + (y : Int) := by rw [IntKind.wrap_i64]; omega
  have SC : Hid (∀ W : World, Calls Try.prog 7 #[.agg b.cs.toArray, .int .i64 (1 + (y : Int))] W fun e w' => ∃ a cap, e = .returned (.tuple #[.slice a (CB.res b (1 + (y : Int))).length cap, .bool (CB.ok b (1 + (y : Int)))]) ∧ w'.ownsRow W.heap.size 24 10 (.slice a (CB.res b (1 + (y : Int))).length cap) (CB.res b (1 + (y : Int))).length (MP.flat (CB.res b (1 + (y : Int)))) ∧ Below W.heap.size W w') := fun W => specCutB_any b (1 + (y : Int)) W (by omega)
  have HS : Hid (CB.ok b (1 + (y : Int)) = true → 0 < (CB.res b (1 + (y : Int))).length) := CB.res_some
  have hrl := CB.res_len b (1 + (y : Int)) hpb
  have HP : Hid (∀ c ∈ CB.res b (1 + (y : Int)), c.py.size ≤ 61) := CB.res_py b _ hpb
  generalize CB.ok b (1 + (y : Int)) = ok at *
  generalize CB.res b (1 + (y : Int)) = L at *
  obtain ⟨x0, x1, x2, x3, x4, x5, x6, x7, x8, x9⟩ := b
  simp only [Bd.cs] at SC
  go_wp2_with fail
  refine (SC.out _).mono ?_
  rintro e w3 ⟨al, cl, rfl, hown, hb⟩
  have hrlt := hbr.lt
  replace hbr := hbr.below hb hbr.lt
  replace hc := hc.below hb
  replace hor := hor.trans (MC.Only.of_below hb)
  have hs2 := hb.size
  have hp2 : p < w2.heap.size := by omega
  clear hb SC
  cases ok
  · clear HS HP hown
    go_wp2_with fail
    replace hc := hc.more (M' := M + 64) (by omega)
    refine (bundle_any p a zs cap (M + 64) _ hz (by omega) hc).mono ?_
    rintro e w7 ⟨b7, rfl, hp7, hc7, ho7⟩
    replace hbr := hbr.only ho7 hrp
    replace hor := hor.trans ho7
    clear hc ho7
    have hc := hc7
    clear hc7
    obtain ⟨y0, y1, y2, y3, y4, y5, y6, y7, y8, y9⟩ := b7
    have m0 := hbr.cells 0
    have g0 := hbr.free 0
    have m1 := hbr.cells 1
    have g1 := hbr.free 1
    have m2 := hbr.cells 2
    have g2 := hbr.free 2
    have m3 := hbr.cells 3
    have g3 := hbr.free 3
    have m4 := hbr.cells 4
    have g4 := hbr.free 4
    have m5 := hbr.cells 5
    have g5 := hbr.free 5
    have m6 := hbr.cells 6
    have g6 := hbr.free 6
    have m7 := hbr.cells 7
    have g7 := hbr.free 7
    have m8 := hbr.cells 8
    have g8 := hbr.free 8
    have m9 := hbr.cells 9
    have g9 := hbr.free 9
    simp [Bd.cs, B1.zero] at m0 m1 m2 m3 m4 m5 m6 m7 m8 m9
    have hrl2 := hbr.lt
    have hP := hbr.put ⟨y0, y1, y2, y3, y4, y5, y6, y7, y8, y9⟩
    have hcE := BX.cur_set (BX.cur_set (BX.cur_set (BX.cur_set (BX.cur_set (BX.cur_set (BX.cur_set (BX.cur_set (BX.cur_set (BX.cur_set (hc) (g := r) (j := 0) (v := .int .i64 y0) hplt) (g := r) (j := 1) (v := .int .i64 y1) hplt) (g := r) (j := 2) (v := .bool y2) hplt) (g := r) (j := 3) (v := .int .i64 y3) hplt) (g := r) (j := 4) (v := .int .i64 y4) hplt) (g := r) (j := 5) (v := .int .i64 y5) hplt) (g := r) (j := 6) (v := .int .i64 y6) hplt) (g := r) (j := 7) (v := .int .i64 y7) hplt) (g := r) (j := 8) (v := .int .i64 y8) hplt) (g := r) (j := 9) (v := .string y9) hplt
    have hoE := BX.only_set (BX.only_set (BX.only_set (BX.only_set (BX.only_set (BX.only_set (BX.only_set (BX.only_set (BX.only_set (BX.only_set (hor) (g := r) (j := 0) (v := .int .i64 y0) (Nat.le_of_eq hr)) (g := r) (j := 1) (v := .int .i64 y1) (Nat.le_of_eq hr)) (g := r) (j := 2) (v := .bool y2) (Nat.le_of_eq hr)) (g := r) (j := 3) (v := .int .i64 y3) (Nat.le_of_eq hr)) (g := r) (j := 4) (v := .int .i64 y4) (Nat.le_of_eq hr)) (g := r) (j := 5) (v := .int .i64 y5) (Nat.le_of_eq hr)) (g := r) (j := 6) (v := .int .i64 y6) (Nat.le_of_eq hr)) (g := r) (j := 7) (v := .int .i64 y7) (Nat.le_of_eq hr)) (g := r) (j := 8) (v := .int .i64 y8) (Nat.le_of_eq hr)) (g := r) (j := 9) (v := .string y9) (Nat.le_of_eq hr)
    go_wp2
    clear m0 g0 m1 g1 m2 g2 m3 g3 m4 g4 m5 g5 m6 g6 m7 g7 m8 g8 m9 g9 hbr hc hor
    have n0 := hP.cells 0
    have n1 := hP.cells 1
    have n2 := hP.cells 2
    have n3 := hP.cells 3
    have n4 := hP.cells 4
    have n5 := hP.cells 5
    have n6 := hP.cells 6
    have n7 := hP.cells 7
    have n8 := hP.cells 8
    have n9 := hP.cells 9
    simp [Bd.cs, B1.zero] at n0 n1 n2 n3 n4 n5 n6 n7 n8 n9
    generalize ((((((((((((((((((((w7).setCell ⟨r, 0, none⟩ (.int .i64 y0))).setCell ⟨r, 1, none⟩ (.int .i64 y1))).setCell ⟨r, 2, none⟩ (.bool y2))).setCell ⟨r, 3, none⟩ (.int .i64 y3))).setCell ⟨r, 4, none⟩ (.int .i64 y4))).setCell ⟨r, 5, none⟩ (.int .i64 y5))).setCell ⟨r, 6, none⟩ (.int .i64 y6))).setCell ⟨r, 7, none⟩ (.int .i64 y7))).setCell ⟨r, 8, none⟩ (.int .i64 y8))).setCell ⟨r, 9, none⟩ (.string y9)) = WE at *
    exact bodyPost_ret (v := .agg #[.int .i64 y0, .int .i64 y1, .bool y2, .int .i64 y3, .int .i64 y4, .int .i64 y5, .int .i64 y6, .int .i64 y7, .int .i64 y8, .string y9]) (by simp [results, Try.results48, go_sem, n0, n1, n2, n3, n4, n5, n6, n7, n8, n9]) rfl ⟨⟨y0, y1, y2, y3, y4, y5, y6, y7, y8, y9⟩, rfl, by show y9.size ≤ 61; have h7 : y9.size ≤ 60 := hp7; omega, hcE.more (by omega), hoE⟩
  · have h0 := HS.out rfl
    go_wp2_with fail
    refine (one_any p a zs cap (M + 62) _ _ hz (by omega) hc).mono ?_
    rintro e w4 ⟨b4, rfl, hc4, ho4⟩
    replace hown := MC.own_only hown ho4 hp2
    replace hbr := hbr.only ho4 hrp
    replace hor := hor.trans ho4
    clear hc ho4
    have hc := hc4
    clear hc4
    cases b4
    · go_wp2_with fail
      refine (pick_any p a zs cap (M + 64) _ _ hz (by omega) hc).mono ?_
      rintro e w5 ⟨k, rfl, hk, hkx, hc5, ho5⟩
      replace hown := MC.own_only hown ho5 hp2
      replace hbr := hbr.only ho5 hrp
      replace hor := hor.trans ho5
      clear hc ho5
      have hc := hc5
      clear hc5
      have hkn : k < L.length := by omega
      have hki : (k : Int) < (L.length : Int) := by omega
      obtain ⟨a9, c9, e9, hB⟩ := CB.view hown
      simp only [Value.slice.injEq] at e9
      obtain ⟨rfl, -, rfl⟩ := e9
      obtain ⟨bb, off, hab, hlt, k0, k1, k2, k3, k4, k5, k6, k7, k8, k9⟩ := hB.at hkn
      have hpk : (MP.at_ L k).py.size ≤ 61 := HP.out _ (by rw [MP.at_eq L k hkn]; exact List.getElem_mem hkn)
      generalize MP.at_ L k = bk at *
      obtain ⟨y0, y1, y2, y3, y4, y5, y6, y7, y8, y9⟩ := bk
      subst hab
      clear HS HP hown hB
      have m0 := hbr.cells 0
      have g0 := hbr.free 0
      have m1 := hbr.cells 1
      have g1 := hbr.free 1
      have m2 := hbr.cells 2
      have g2 := hbr.free 2
      have m3 := hbr.cells 3
      have g3 := hbr.free 3
      have m4 := hbr.cells 4
      have g4 := hbr.free 4
      have m5 := hbr.cells 5
      have g5 := hbr.free 5
      have m6 := hbr.cells 6
      have g6 := hbr.free 6
      have m7 := hbr.cells 7
      have g7 := hbr.free 7
      have m8 := hbr.cells 8
      have g8 := hbr.free 8
      have m9 := hbr.cells 9
      have g9 := hbr.free 9
      simp [Bd.cs, B1.zero] at m0 m1 m2 m3 m4 m5 m6 m7 m8 m9
      have hrl2 := hbr.lt
      have hP := hbr.put ⟨y0, y1, y2, y3, y4, y5, y6, y7, y8, y9⟩
      have hcE := BX.cur_set (BX.cur_set (BX.cur_set (BX.cur_set (BX.cur_set (BX.cur_set (BX.cur_set (BX.cur_set (BX.cur_set (BX.cur_set (hc) (g := r) (j := 0) (v := .int .i64 y0) hplt) (g := r) (j := 1) (v := .int .i64 y1) hplt) (g := r) (j := 2) (v := .bool y2) hplt) (g := r) (j := 3) (v := .int .i64 y3) hplt) (g := r) (j := 4) (v := .int .i64 y4) hplt) (g := r) (j := 5) (v := .int .i64 y5) hplt) (g := r) (j := 6) (v := .int .i64 y6) hplt) (g := r) (j := 7) (v := .int .i64 y7) hplt) (g := r) (j := 8) (v := .int .i64 y8) hplt) (g := r) (j := 9) (v := .string y9) hplt
      have hoE := BX.only_set (BX.only_set (BX.only_set (BX.only_set (BX.only_set (BX.only_set (BX.only_set (BX.only_set (BX.only_set (BX.only_set (hor) (g := r) (j := 0) (v := .int .i64 y0) (Nat.le_of_eq hr)) (g := r) (j := 1) (v := .int .i64 y1) (Nat.le_of_eq hr)) (g := r) (j := 2) (v := .bool y2) (Nat.le_of_eq hr)) (g := r) (j := 3) (v := .int .i64 y3) (Nat.le_of_eq hr)) (g := r) (j := 4) (v := .int .i64 y4) (Nat.le_of_eq hr)) (g := r) (j := 5) (v := .int .i64 y5) (Nat.le_of_eq hr)) (g := r) (j := 6) (v := .int .i64 y6) (Nat.le_of_eq hr)) (g := r) (j := 7) (v := .int .i64 y7) (Nat.le_of_eq hr)) (g := r) (j := 8) (v := .int .i64 y8) (Nat.le_of_eq hr)) (g := r) (j := 9) (v := .string y9) (Nat.le_of_eq hr)
      go_wp2
      clear m0 g0 m1 g1 m2 g2 m3 g3 m4 g4 m5 g5 m6 g6 m7 g7 m8 g8 m9 g9 hbr hc hor
      have n0 := hP.cells 0
      have n1 := hP.cells 1
      have n2 := hP.cells 2
      have n3 := hP.cells 3
      have n4 := hP.cells 4
      have n5 := hP.cells 5
      have n6 := hP.cells 6
      have n7 := hP.cells 7
      have n8 := hP.cells 8
      have n9 := hP.cells 9
      simp [Bd.cs, B1.zero] at n0 n1 n2 n3 n4 n5 n6 n7 n8 n9
      generalize ((((((((((((((((((((w5).setCell ⟨r, 0, none⟩ (.int .i64 y0))).setCell ⟨r, 1, none⟩ (.int .i64 y1))).setCell ⟨r, 2, none⟩ (.bool y2))).setCell ⟨r, 3, none⟩ (.int .i64 y3))).setCell ⟨r, 4, none⟩ (.int .i64 y4))).setCell ⟨r, 5, none⟩ (.int .i64 y5))).setCell ⟨r, 6, none⟩ (.int .i64 y6))).setCell ⟨r, 7, none⟩ (.int .i64 y7))).setCell ⟨r, 8, none⟩ (.int .i64 y8))).setCell ⟨r, 9, none⟩ (.string y9)) = WE at *
      exact bodyPost_ret (v := .agg #[.int .i64 y0, .int .i64 y1, .bool y2, .int .i64 y3, .int .i64 y4, .int .i64 y5, .int .i64 y6, .int .i64 y7, .int .i64 y8, .string y9]) (by simp [results, Try.results48, go_sem, n0, n1, n2, n3, n4, n5, n6, n7, n8, n9]) rfl ⟨⟨y0, y1, y2, y3, y4, y5, y6, y7, y8, y9⟩, rfl, hpk, hcE.more (by omega), hoE⟩
    · clear HS HP hown
      go_wp2_with fail
      refine (bundle_any p a zs cap (M + 64) _ hz (by omega) hc).mono ?_
      rintro e w7 ⟨b7, rfl, hp7, hc7, ho7⟩
      replace hbr := hbr.only ho7 hrp
      replace hor := hor.trans ho7
      clear hc ho7
      have hc := hc7
      clear hc7
      obtain ⟨y0, y1, y2, y3, y4, y5, y6, y7, y8, y9⟩ := b7
      have m0 := hbr.cells 0
      have g0 := hbr.free 0
      have m1 := hbr.cells 1
      have g1 := hbr.free 1
      have m2 := hbr.cells 2
      have g2 := hbr.free 2
      have m3 := hbr.cells 3
      have g3 := hbr.free 3
      have m4 := hbr.cells 4
      have g4 := hbr.free 4
      have m5 := hbr.cells 5
      have g5 := hbr.free 5
      have m6 := hbr.cells 6
      have g6 := hbr.free 6
      have m7 := hbr.cells 7
      have g7 := hbr.free 7
      have m8 := hbr.cells 8
      have g8 := hbr.free 8
      have m9 := hbr.cells 9
      have g9 := hbr.free 9
      simp [Bd.cs, B1.zero] at m0 m1 m2 m3 m4 m5 m6 m7 m8 m9
      have hrl2 := hbr.lt
      have hP := hbr.put ⟨y0, y1, y2, y3, y4, y5, y6, y7, y8, y9⟩
      have hcE := BX.cur_set (BX.cur_set (BX.cur_set (BX.cur_set (BX.cur_set (BX.cur_set (BX.cur_set (BX.cur_set (BX.cur_set (BX.cur_set (hc) (g := r) (j := 0) (v := .int .i64 y0) hplt) (g := r) (j := 1) (v := .int .i64 y1) hplt) (g := r) (j := 2) (v := .bool y2) hplt) (g := r) (j := 3) (v := .int .i64 y3) hplt) (g := r) (j := 4) (v := .int .i64 y4) hplt) (g := r) (j := 5) (v := .int .i64 y5) hplt) (g := r) (j := 6) (v := .int .i64 y6) hplt) (g := r) (j := 7) (v := .int .i64 y7) hplt) (g := r) (j := 8) (v := .int .i64 y8) hplt) (g := r) (j := 9) (v := .string y9) hplt
      have hoE := BX.only_set (BX.only_set (BX.only_set (BX.only_set (BX.only_set (BX.only_set (BX.only_set (BX.only_set (BX.only_set (BX.only_set (hor) (g := r) (j := 0) (v := .int .i64 y0) (Nat.le_of_eq hr)) (g := r) (j := 1) (v := .int .i64 y1) (Nat.le_of_eq hr)) (g := r) (j := 2) (v := .bool y2) (Nat.le_of_eq hr)) (g := r) (j := 3) (v := .int .i64 y3) (Nat.le_of_eq hr)) (g := r) (j := 4) (v := .int .i64 y4) (Nat.le_of_eq hr)) (g := r) (j := 5) (v := .int .i64 y5) (Nat.le_of_eq hr)) (g := r) (j := 6) (v := .int .i64 y6) (Nat.le_of_eq hr)) (g := r) (j := 7) (v := .int .i64 y7) (Nat.le_of_eq hr)) (g := r) (j := 8) (v := .int .i64 y8) (Nat.le_of_eq hr)) (g := r) (j := 9) (v := .string y9) (Nat.le_of_eq hr)
      go_wp2
      clear m0 g0 m1 g1 m2 g2 m3 g3 m4 g4 m5 g5 m6 g6 m7 g7 m8 g8 m9 g9 hbr hc hor
      have n0 := hP.cells 0
      have n1 := hP.cells 1
      have n2 := hP.cells 2
      have n3 := hP.cells 3
      have n4 := hP.cells 4
      have n5 := hP.cells 5
      have n6 := hP.cells 6
      have n7 := hP.cells 7
      have n8 := hP.cells 8
      have n9 := hP.cells 9
      simp [Bd.cs, B1.zero] at n0 n1 n2 n3 n4 n5 n6 n7 n8 n9
      generalize ((((((((((((((((((((w7).setCell ⟨r, 0, none⟩ (.int .i64 y0))).setCell ⟨r, 1, none⟩ (.int .i64 y1))).setCell ⟨r, 2, none⟩ (.bool y2))).setCell ⟨r, 3, none⟩ (.int .i64 y3))).setCell ⟨r, 4, none⟩ (.int .i64 y4))).setCell ⟨r, 5, none⟩ (.int .i64 y5))).setCell ⟨r, 6, none⟩ (.int .i64 y6))).setCell ⟨r, 7, none⟩ (.int .i64 y7))).setCell ⟨r, 8, none⟩ (.int .i64 y8))).setCell ⟨r, 9, none⟩ (.string y9)) = WE at *
      exact bodyPost_ret (v := .agg #[.int .i64 y0, .int .i64 y1, .bool y2, .int .i64 y3, .int .i64 y4, .int .i64 y5, .int .i64 y6, .int .i64 y7, .int .i64 y8, .string y9]) (by simp [results, Try.results48, go_sem, n0, n1, n2, n3, n4, n5, n6, n7, n8, n9]) rfl ⟨⟨y0, y1, y2, y3, y4, y5, y6, y7, y8, y9⟩, rfl, by show y9.size ≤ 61; have h7 : y9.size ≤ 60 := hp7; omega, hcE.more (by omega), hoE⟩
end Go.Proofs.Ytdgflhgbcfehhaa
