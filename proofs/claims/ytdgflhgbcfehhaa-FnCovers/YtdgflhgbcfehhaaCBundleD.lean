/- The cursor's bundle: some bundle with a Payload of at most 60 bytes. -/
import Derived.Test.YtdgflhgbcfehhaaRows
import Derived.Test.YtdgflhgbcfehhaaMBX
import Derived.Test.YtdgflhgbcfehhaaCOf
import Derived.Test.YtdgflhgbcfehhaaCAmong
import Derived.WalkKit
import Derived.WalkSpells
import Derived.WalkLawsBesides
import Derived.Outline
namespace Go.Proofs.Ytdgflhgbcfehhaa
open Go.RowKit
def fourS : List ByteArray := [⟨#[]⟩, ⟨#[104, 101, 108, 108, 111]⟩, ⟨#[97, 32, 108, 111, 110, 103, 101, 114, 32, 116, 101, 120, 116, 32, 111, 102, 32, 115, 111, 109, 101, 32, 98, 121, 116, 101, 115]⟩, ⟨#[0, 255]⟩]
theorem four_at (w : World) : StrsAt (w.alloc (.cells #[.string ⟨#[]⟩, .string ⟨#[104, 101, 108, 108, 111]⟩, .string ⟨#[97, 32, 108, 111, 110, 103, 101, 114, 32, 116, 101, 120, 116, 32, 111, 102, 32, 115, 111, 109, 101, 32, 98, 121, 116, 101, 115]⟩, .string ⟨#[0, 255]⟩] 9)) w.heap.size 0 fourS := by
  refine ⟨by simp, fun j hj => ?_⟩
  rw [Nat.zero_add, World.cell?_alloc_at _ _ _ _ (by rfl)]
  have : j < 4 := hj
  match j, this with
  | 0, _ | 1, _ | 2, _ | 3, _ => rfl
theorem four_size (s : ByteArray) (h : s ∈ fourS) : s.size ≤ 60 := by
  simp only [fourS, List.mem_cons, List.not_mem_nil, or_false] at h
  rcases h with rfl | rfl | rfl | rfl <;> decide
set_option maxHeartbeats 3200000 in
set_option maxRecDepth 100000 in
theorem bundle_any (p : Nat) (a : Option Addr) (zs : List Int) (cap M : Nat) (w : World) (hz : zs.length ≤ 140737488355328) (hM : M ≤ 140737488340000) (hc : MC.Cur w p a zs cap M) :
    Calls Try.prog 28 #[.pointer (some ⟨p, 0, none⟩)] w fun e w' => ∃ b : Bd, e = .returned b.v ∧ b.py.size ≤ 60 ∧ MC.Cur w' p a zs cap (M + 40) ∧ MC.Only p w w' := by
  have hplt := hc.lt
  have hbr := BX.Box.new w 24 B1.zero w.heap.size rfl
  have hor := (MC.Only.refl p w).alloc (.cells (BX.cs B1.zero).toArray 24)
  replace hc := hc.alloc (.cells (BX.cs B1.zero).toArray 24)
  simp only [BX.cs, Bd.cs, B1.zero] at hbr hor hc
  go_enter Try.func28, Try.ntmps28
  go_wp2_with fail
  generalize w.alloc (.cells #[.int .i64 0, .int .i64 0, .bool false, .int .i64 0, .int .i64 0, .int .i64 0, .int .i64 0, .int .i64 0, .int .i64 0, .string ⟨#[]⟩] 24) = w0 at *
  obtain ⟨r, hr⟩ : ∃ r, w.heap.size = r := ⟨_, rfl⟩
  rw [hr] at hbr hplt ⊢
  have hrp : r ≠ p := by omega
  change BX.Box w0 r 24 B1.zero at hbr
  refine (pick_any p a zs cap (M + 0) _ _ hz (by omega) hc).mono ?_
  rintro e w1 ⟨r1, rfl, hr1, hx1, hc1, ho1⟩
  replace hbr := hbr.only ho1 hrp
  replace hor := hor.trans ho1
  clear hc ho1
  have hc := hc1
  clear hc1
  go_wp2_with fail
  refine (pick_any p a zs cap (M + 2) _ _ hz (by omega) hc).mono ?_
  rintro e w2 ⟨r2, rfl, hr2, hx2, hc2, ho2⟩
  replace hbr := hbr.only ho2 hrp
  replace hor := hor.trans ho2
  clear hc ho2
  have hc := hc2
  clear hc2
  go_wp2_with fail
  refine (one_any p a zs cap (M + 4) _ _ hz (by omega) hc).mono ?_
  rintro e w3 ⟨b3, rfl, hc3, ho3⟩
  replace hbr := hbr.only ho3 hrp
  replace hor := hor.trans ho3
  clear hc ho3
  have hc := hc3
  clear hc3
  go_wp2_with fail
  refine (pick_any p a zs cap (M + 6) _ _ hz (by omega) hc).mono ?_
  rintro e w4 ⟨r4, rfl, hr4, hx4, hc4, ho4⟩
  replace hbr := hbr.only ho4 hrp
  replace hor := hor.trans ho4
  clear hc ho4
  have hc := hc4
  clear hc4
  go_wp2_with fail
  refine (pick_any p a zs cap (M + 8) _ _ hz (by omega) hc).mono ?_
  rintro e w5 ⟨r5, rfl, hr5, hx5, hc5, ho5⟩
  replace hbr := hbr.only ho5 hrp
  replace hor := hor.trans ho5
  clear hc ho5
  have hc := hc5
  clear hc5
  go_wp2_with fail
  refine (pick_any p a zs cap (M + 10) _ _ hz (by omega) hc).mono ?_
  rintro e w6 ⟨r6, rfl, hr6, hx6, hc6, ho6⟩
  replace hbr := hbr.only ho6 hrp
  replace hor := hor.trans ho6
  clear hc ho6
  have hc := hc6
  clear hc6
  go_wp2_with fail
  refine (pick_any p a zs cap (M + 12) _ _ hz (by omega) hc).mono ?_
  rintro e w7 ⟨r7, rfl, hr7, hx7, hc7, ho7⟩
  replace hbr := hbr.only ho7 hrp
  replace hor := hor.trans ho7
  clear hc ho7
  have hc := hc7
  clear hc7
  have h16 : IntKind.i64.wrap (1 + (r6 : Int)) = 1 + (r6 : Int) := by rw [IntKind.wrap_i64]; omega
  have hs7 := hor.size
  have h4 := four_at w7
  replace hc := hc.alloc (.cells #[.string ⟨#[]⟩, .string ⟨#[104, 101, 108, 108, 111]⟩, .string ⟨#[97, 32, 108, 111, 110, 103, 101, 114, 32, 116, 101, 120, 116, 32, 111, 102, 32, 115, 111, 109, 101, 32, 98, 121, 116, 101, 115]⟩, .string ⟨#[0, 255]⟩] 9)
  replace hbr := hbr.alloc (.cells #[.string ⟨#[]⟩, .string ⟨#[104, 101, 108, 108, 111]⟩, .string ⟨#[97, 32, 108, 111, 110, 103, 101, 114, 32, 116, 101, 120, 116, 32, 111, 102, 32, 115, 111, 109, 101, 32, 98, 121, 116, 101, 115]⟩, .string ⟨#[0, 255]⟩] 9)
  replace hor := hor.alloc (.cells #[.string ⟨#[]⟩, .string ⟨#[104, 101, 108, 108, 111]⟩, .string ⟨#[97, 32, 108, 111, 110, 103, 101, 114, 32, 116, 101, 120, 116, 32, 111, 102, 32, 115, 111, 109, 101, 32, 98, 121, 116, 101, 115]⟩, .string ⟨#[0, 255]⟩] 9)
  go_wp2_with fail
  refine (of_any p a zs cap (M + 14) w7.heap.size 0 fourS 4 _ hz (by omega) hc (by decide) (by decide) h4 (by omega)).mono ?_
  rintro e w8 ⟨s, rfl, hs, hc8, ho8⟩
  replace hs := four_size s hs
  replace hbr := hbr.only ho8 hrp
  replace hor := hor.trans ho8
  clear hc ho8 h4
  have hc := hc8
  clear hc8
  have hbq := BX.Box.new w8 24 ⟨(r1 : Int), (r2 : Int), b3, (r4 : Int), (r5 : Int), 1 + (r6 : Int), (r7 : Int), 0, 0, s⟩ w8.heap.size rfl
  have hs8 := hor.size
  have hrl := hbr.lt
  replace hc := hc.alloc (.cells (BX.cs ⟨(r1 : Int), (r2 : Int), b3, (r4 : Int), (r5 : Int), 1 + (r6 : Int), (r7 : Int), 0, 0, s⟩).toArray 24)
  replace hbr := hbr.alloc (.cells (BX.cs ⟨(r1 : Int), (r2 : Int), b3, (r4 : Int), (r5 : Int), 1 + (r6 : Int), (r7 : Int), 0, 0, s⟩).toArray 24)
  replace hor := hor.alloc (.cells (BX.cs ⟨(r1 : Int), (r2 : Int), b3, (r4 : Int), (r5 : Int), 1 + (r6 : Int), (r7 : Int), 0, 0, s⟩).toArray 24)
  simp only [BX.cs, Bd.cs] at hbq hor hc hbr
  clear hs7
  obtain ⟨q, hq⟩ : ∃ q, w8.heap.size = q := ⟨_, rfl⟩
  have hqp : q ≠ p := by omega
  have hpq : p < q := by omega
  have hrq : r ≠ q := by omega
  have hqr : q ≠ r := by omega
  have hqw : w.heap.size ≤ q := by omega
  by_cases he : s.toList.isEmpty = true
  · go_wp2_with fail
    generalize w8.alloc (.cells #[.int .i64 (r1 : Int), .int .i64 (r2 : Int), .bool b3, .int .i64 (r4 : Int), .int .i64 (r5 : Int), .int .i64 (1 + (r6 : Int)), .int .i64 (r7 : Int), .int .i64 0, .int .i64 0, .string s] 24) = W at *
    rw [hq] at hbq hrl hs8
    clear hq
    refine (pick_any p a zs cap (M + 16) _ _ hz (by omega) hc).mono ?_
    rintro e w10 ⟨r10, rfl, hr10, hx10, hc10, ho10⟩
    replace hbr := hbr.only ho10 hrp
    replace hbq := hbq.only ho10 hqp
    replace hor := hor.trans ho10
    clear hc ho10
    have hc := hc10
    clear hc10
    generalize hbb : (⟨(r1 : Int), (r2 : Int), b3, (r4 : Int), (r5 : Int), 1 + (r6 : Int), (r7 : Int), 0, 0, s⟩ : Bd) = bb at hbq
    have hpy : bb.py.size ≤ 60 := by rw [← hbb]; exact hs
    clear hbb
    by_cases h0 : r10 = 0
    · subst h0
      replace hc := hc.alloc (.cells #[.int .i64 0, .int .i64 1000000, .int .i64 1000001] 3)
      replace hbr := hbr.alloc (.cells #[.int .i64 0, .int .i64 1000000, .int .i64 1000001] 3)
      have hbl := hbq.lt
      replace hbq := hbq.alloc (.cells #[.int .i64 0, .int .i64 1000000, .int .i64 1000001] 3)
      have hsz := hor.size
      replace hor := hor.alloc (.cells #[.int .i64 0, .int .i64 1000000, .int .i64 1000001] 3)
      go_wp2_with fail
      refine (among_any p a zs cap (M + 18) (some ⟨w10.heap.size, 0, none⟩) [0, 1000000, 1000001] 3 _ hz (by omega) hc (by simp) (by simp) (BX.new_ints w10 [0, 1000000, 1000001] 3) (fun b off e => by simp at e; omega)).mono ?_
      rintro e w11 ⟨z, rfl, hzm, hc11, ho11⟩
      replace hbr := hbr.only ho11 hrp
      replace hbq := hbq.only ho11 hqp
      replace hor := hor.trans ho11
      clear hc ho11
      have hc := hc11
      clear hc11
      have kj := hbq.cells 5
      have gj := hbq.free 5
      have hql := hbq.lt
      simp [Bd.cs] at kj
      have st : BX.Box (w11.setCell ⟨q, 5, none⟩ (.int .i64 (z))) q 24 ({ bb with lf := z }) := hbq.set rfl
      have hc' := BX.cur_set (j := 5) (v := .int .i64 (z)) hc hpq
      have ho' := BX.only_set (j := 5) (v := .int .i64 (z)) hor hqw
      have hbr' := hbr.far (g := q) (j := 5) (v := .int .i64 (z)) hrq
      have hl' : q < (w11.setCell ⟨q, 5, none⟩ (.int .i64 (z))).heap.size := st.lt
      clear hbq hc hor hbr
      have hbq := st
      have hc := hc'
      have hor := ho'
      have hbr := hbr'
      clear st hc' ho' hbr'
      generalize hb2 : ({ bb with lf := z } : Bd) = bd at hbq
      have hpd : bd.py.size ≤ 60 := by rw [← hb2]; exact hpy
      clear hb2 hpy
      obtain ⟨x0, x1, x2, x3, x4, x5, x6, x7, x8, x9⟩ := bd
      have k0 := hbq.cells 0
      have k1 := hbq.cells 1
      have k2 := hbq.cells 2
      have k3 := hbq.cells 3
      have k4 := hbq.cells 4
      have k5 := hbq.cells 5
      have k6 := hbq.cells 6
      have k7 := hbq.cells 7
      have k8 := hbq.cells 8
      have k9 := hbq.cells 9
      have m0 := hbr.cells 0
      have g0 := hbr.free 0
      have m1 := hbr.cells 1
      have g1 := hbr.free 1
      have m2 := hbr.cells 2
      have g2 := hbr.free 2
      have m3 := hbr.cells 3
      have g3 := hbr.free 3
      have m4 := hbr.cells 4
      have g4 := hbr.free 4
      have m5 := hbr.cells 5
      have g5 := hbr.free 5
      have m6 := hbr.cells 6
      have g6 := hbr.free 6
      have m7 := hbr.cells 7
      have g7 := hbr.free 7
      have m8 := hbr.cells 8
      have g8 := hbr.free 8
      have m9 := hbr.cells 9
      have g9 := hbr.free 9
      have hql := hbq.lt
      have hrl2 := hbr.lt
      simp [Bd.cs] at k0 k1 k2 k3 k4 k5 k6 k7 k8 k9
      simp [Bd.cs, B1.zero] at m0 m1 m2 m3 m4 m5 m6 m7 m8 m9
      have hP := hbr.put ⟨x0, x1, x2, x3, x4, x5, x6, x7, x8, x9⟩
      have hcE := BX.cur_set (BX.cur_set (BX.cur_set (BX.cur_set (BX.cur_set (BX.cur_set (BX.cur_set (BX.cur_set (BX.cur_set (BX.cur_set (hc) (g := r) (j := 0) (v := .int .i64 x0) hplt) (g := r) (j := 1) (v := .int .i64 x1) hplt) (g := r) (j := 2) (v := .bool x2) hplt) (g := r) (j := 3) (v := .int .i64 x3) hplt) (g := r) (j := 4) (v := .int .i64 x4) hplt) (g := r) (j := 5) (v := .int .i64 x5) hplt) (g := r) (j := 6) (v := .int .i64 x6) hplt) (g := r) (j := 7) (v := .int .i64 x7) hplt) (g := r) (j := 8) (v := .int .i64 x8) hplt) (g := r) (j := 9) (v := .string x9) hplt
      have hoE := BX.only_set (BX.only_set (BX.only_set (BX.only_set (BX.only_set (BX.only_set (BX.only_set (BX.only_set (BX.only_set (BX.only_set (hor) (g := r) (j := 0) (v := .int .i64 x0) (Nat.le_of_eq hr)) (g := r) (j := 1) (v := .int .i64 x1) (Nat.le_of_eq hr)) (g := r) (j := 2) (v := .bool x2) (Nat.le_of_eq hr)) (g := r) (j := 3) (v := .int .i64 x3) (Nat.le_of_eq hr)) (g := r) (j := 4) (v := .int .i64 x4) (Nat.le_of_eq hr)) (g := r) (j := 5) (v := .int .i64 x5) (Nat.le_of_eq hr)) (g := r) (j := 6) (v := .int .i64 x6) (Nat.le_of_eq hr)) (g := r) (j := 7) (v := .int .i64 x7) (Nat.le_of_eq hr)) (g := r) (j := 8) (v := .int .i64 x8) (Nat.le_of_eq hr)) (g := r) (j := 9) (v := .string x9) (Nat.le_of_eq hr)
      go_wp2
      clear k0 m0 g0 k1 m1 g1 k2 m2 g2 k3 m3 g3 k4 m4 g4 k5 m5 g5 k6 m6 g6 k7 m7 g7 k8 m8 g8 k9 m9 g9 hbq hbr hc hor
      have n0 := hP.cells 0
      have n1 := hP.cells 1
      have n2 := hP.cells 2
      have n3 := hP.cells 3
      have n4 := hP.cells 4
      have n5 := hP.cells 5
      have n6 := hP.cells 6
      have n7 := hP.cells 7
      have n8 := hP.cells 8
      have n9 := hP.cells 9
      simp [Bd.cs] at n0 n1 n2 n3 n4 n5 n6 n7 n8 n9
      generalize ((((((((((((((((((((w11.setCell ⟨q, 5, none⟩ (.int .i64 z)).setCell ⟨r, 0, none⟩ (.int .i64 x0))).setCell ⟨r, 1, none⟩ (.int .i64 x1))).setCell ⟨r, 2, none⟩ (.bool x2))).setCell ⟨r, 3, none⟩ (.int .i64 x3))).setCell ⟨r, 4, none⟩ (.int .i64 x4))).setCell ⟨r, 5, none⟩ (.int .i64 x5))).setCell ⟨r, 6, none⟩ (.int .i64 x6))).setCell ⟨r, 7, none⟩ (.int .i64 x7))).setCell ⟨r, 8, none⟩ (.int .i64 x8))).setCell ⟨r, 9, none⟩ (.string x9)) = WE at *
      exact bodyPost_ret (v := .agg #[.int .i64 x0, .int .i64 x1, .bool x2, .int .i64 x3, .int .i64 x4, .int .i64 x5, .int .i64 x6, .int .i64 x7, .int .i64 x8, .string x9]) (by simp [results, Try.results28, go_sem, n0, n1, n2, n3, n4, n5, n6, n7, n8, n9]) rfl ⟨⟨x0, x1, x2, x3, x4, x5, x6, x7, x8, x9⟩, rfl, hpd, hcE.more (by omega), hoE⟩
    · by_cases h1 : r10 = 1
      · subst h1
        replace hc := hc.alloc (.cells #[.int .i64 (-1), .int .i64 30, .int .i64 31] 3)
        replace hbr := hbr.alloc (.cells #[.int .i64 (-1), .int .i64 30, .int .i64 31] 3)
        have hbl := hbq.lt
        replace hbq := hbq.alloc (.cells #[.int .i64 (-1), .int .i64 30, .int .i64 31] 3)
        have hsz := hor.size
        replace hor := hor.alloc (.cells #[.int .i64 (-1), .int .i64 30, .int .i64 31] 3)
        go_wp2_with fail
        refine (among_any p a zs cap (M + 18) (some ⟨w10.heap.size, 0, none⟩) [-1, 30, 31] 3 _ hz (by omega) hc (by simp) (by simp) (BX.new_ints w10 [-1, 30, 31] 3) (fun b off e => by simp at e; omega)).mono ?_
        rintro e w11 ⟨z, rfl, hzm, hc11, ho11⟩
        replace hbr := hbr.only ho11 hrp
        replace hbq := hbq.only ho11 hqp
        replace hor := hor.trans ho11
        clear hc ho11
        have hc := hc11
        clear hc11
        have kj := hbq.cells 6
        have gj := hbq.free 6
        have hql := hbq.lt
        simp [Bd.cs] at kj
        have st : BX.Box (w11.setCell ⟨q, 6, none⟩ (.int .i64 (z))) q 24 ({ bb with hp := z }) := hbq.set rfl
        have hc' := BX.cur_set (j := 6) (v := .int .i64 (z)) hc hpq
        have ho' := BX.only_set (j := 6) (v := .int .i64 (z)) hor hqw
        have hbr' := hbr.far (g := q) (j := 6) (v := .int .i64 (z)) hrq
        have hl' : q < (w11.setCell ⟨q, 6, none⟩ (.int .i64 (z))).heap.size := st.lt
        clear hbq hc hor hbr
        have hbq := st
        have hc := hc'
        have hor := ho'
        have hbr := hbr'
        clear st hc' ho' hbr'
        generalize hb2 : ({ bb with hp := z } : Bd) = bd at hbq
        have hpd : bd.py.size ≤ 60 := by rw [← hb2]; exact hpy
        clear hb2 hpy
        obtain ⟨x0, x1, x2, x3, x4, x5, x6, x7, x8, x9⟩ := bd
        have k0 := hbq.cells 0
        have k1 := hbq.cells 1
        have k2 := hbq.cells 2
        have k3 := hbq.cells 3
        have k4 := hbq.cells 4
        have k5 := hbq.cells 5
        have k6 := hbq.cells 6
        have k7 := hbq.cells 7
        have k8 := hbq.cells 8
        have k9 := hbq.cells 9
        have m0 := hbr.cells 0
        have g0 := hbr.free 0
        have m1 := hbr.cells 1
        have g1 := hbr.free 1
        have m2 := hbr.cells 2
        have g2 := hbr.free 2
        have m3 := hbr.cells 3
        have g3 := hbr.free 3
        have m4 := hbr.cells 4
        have g4 := hbr.free 4
        have m5 := hbr.cells 5
        have g5 := hbr.free 5
        have m6 := hbr.cells 6
        have g6 := hbr.free 6
        have m7 := hbr.cells 7
        have g7 := hbr.free 7
        have m8 := hbr.cells 8
        have g8 := hbr.free 8
        have m9 := hbr.cells 9
        have g9 := hbr.free 9
        have hql := hbq.lt
        have hrl2 := hbr.lt
        simp [Bd.cs] at k0 k1 k2 k3 k4 k5 k6 k7 k8 k9
        simp [Bd.cs, B1.zero] at m0 m1 m2 m3 m4 m5 m6 m7 m8 m9
        have hP := hbr.put ⟨x0, x1, x2, x3, x4, x5, x6, x7, x8, x9⟩
        have hcE := BX.cur_set (BX.cur_set (BX.cur_set (BX.cur_set (BX.cur_set (BX.cur_set (BX.cur_set (BX.cur_set (BX.cur_set (BX.cur_set (hc) (g := r) (j := 0) (v := .int .i64 x0) hplt) (g := r) (j := 1) (v := .int .i64 x1) hplt) (g := r) (j := 2) (v := .bool x2) hplt) (g := r) (j := 3) (v := .int .i64 x3) hplt) (g := r) (j := 4) (v := .int .i64 x4) hplt) (g := r) (j := 5) (v := .int .i64 x5) hplt) (g := r) (j := 6) (v := .int .i64 x6) hplt) (g := r) (j := 7) (v := .int .i64 x7) hplt) (g := r) (j := 8) (v := .int .i64 x8) hplt) (g := r) (j := 9) (v := .string x9) hplt
        have hoE := BX.only_set (BX.only_set (BX.only_set (BX.only_set (BX.only_set (BX.only_set (BX.only_set (BX.only_set (BX.only_set (BX.only_set (hor) (g := r) (j := 0) (v := .int .i64 x0) (Nat.le_of_eq hr)) (g := r) (j := 1) (v := .int .i64 x1) (Nat.le_of_eq hr)) (g := r) (j := 2) (v := .bool x2) (Nat.le_of_eq hr)) (g := r) (j := 3) (v := .int .i64 x3) (Nat.le_of_eq hr)) (g := r) (j := 4) (v := .int .i64 x4) (Nat.le_of_eq hr)) (g := r) (j := 5) (v := .int .i64 x5) (Nat.le_of_eq hr)) (g := r) (j := 6) (v := .int .i64 x6) (Nat.le_of_eq hr)) (g := r) (j := 7) (v := .int .i64 x7) (Nat.le_of_eq hr)) (g := r) (j := 8) (v := .int .i64 x8) (Nat.le_of_eq hr)) (g := r) (j := 9) (v := .string x9) (Nat.le_of_eq hr)
        go_wp2
        clear k0 m0 g0 k1 m1 g1 k2 m2 g2 k3 m3 g3 k4 m4 g4 k5 m5 g5 k6 m6 g6 k7 m7 g7 k8 m8 g8 k9 m9 g9 hbq hbr hc hor
        have n0 := hP.cells 0
        have n1 := hP.cells 1
        have n2 := hP.cells 2
        have n3 := hP.cells 3
        have n4 := hP.cells 4
        have n5 := hP.cells 5
        have n6 := hP.cells 6
        have n7 := hP.cells 7
        have n8 := hP.cells 8
        have n9 := hP.cells 9
        simp [Bd.cs] at n0 n1 n2 n3 n4 n5 n6 n7 n8 n9
        generalize ((((((((((((((((((((w11.setCell ⟨q, 6, none⟩ (.int .i64 z)).setCell ⟨r, 0, none⟩ (.int .i64 x0))).setCell ⟨r, 1, none⟩ (.int .i64 x1))).setCell ⟨r, 2, none⟩ (.bool x2))).setCell ⟨r, 3, none⟩ (.int .i64 x3))).setCell ⟨r, 4, none⟩ (.int .i64 x4))).setCell ⟨r, 5, none⟩ (.int .i64 x5))).setCell ⟨r, 6, none⟩ (.int .i64 x6))).setCell ⟨r, 7, none⟩ (.int .i64 x7))).setCell ⟨r, 8, none⟩ (.int .i64 x8))).setCell ⟨r, 9, none⟩ (.string x9)) = WE at *
        exact bodyPost_ret (v := .agg #[.int .i64 x0, .int .i64 x1, .bool x2, .int .i64 x3, .int .i64 x4, .int .i64 x5, .int .i64 x6, .int .i64 x7, .int .i64 x8, .string x9]) (by simp [results, Try.results28, go_sem, n0, n1, n2, n3, n4, n5, n6, n7, n8, n9]) rfl ⟨⟨x0, x1, x2, x3, x4, x5, x6, x7, x8, x9⟩, rfl, hpd, hcE.more (by omega), hoE⟩
      · by_cases h2 : r10 = 2
        · subst h2
          go_wp2_with fail
          refine (pick_any p a zs cap (M + 18) _ _ hz (by omega) hc).mono ?_
          rintro e w11 ⟨z, rfl, hrz, hxz, hc11, ho11⟩
          replace hbr := hbr.only ho11 hrp
          replace hbq := hbq.only ho11 hqp
          replace hor := hor.trans ho11
          clear hc ho11
          have hc := hc11
          clear hc11
          have kj := hbq.cells 7
          have gj := hbq.free 7
          have hql := hbq.lt
          simp [Bd.cs] at kj
          have st : BX.Box (w11.setCell ⟨q, 7, none⟩ (.int .i64 ((z : Int)))) q 24 ({ bb with of := (z : Int) }) := hbq.set rfl
          have hc' := BX.cur_set (j := 7) (v := .int .i64 ((z : Int))) hc hpq
          have ho' := BX.only_set (j := 7) (v := .int .i64 ((z : Int))) hor hqw
          have hbr' := hbr.far (g := q) (j := 7) (v := .int .i64 ((z : Int))) hrq
          have hl' : q < (w11.setCell ⟨q, 7, none⟩ (.int .i64 ((z : Int)))).heap.size := st.lt
          clear hbq hc hor hbr
          have hbq := st
          have hc := hc'
          have hor := ho'
          have hbr := hbr'
          clear st hc' ho' hbr'
          generalize hb2 : ({ bb with of := (z : Int) } : Bd) = bd at hbq
          have hpd : bd.py.size ≤ 60 := by rw [← hb2]; exact hpy
          clear hb2 hpy
          obtain ⟨x0, x1, x2, x3, x4, x5, x6, x7, x8, x9⟩ := bd
          have k0 := hbq.cells 0
          have k1 := hbq.cells 1
          have k2 := hbq.cells 2
          have k3 := hbq.cells 3
          have k4 := hbq.cells 4
          have k5 := hbq.cells 5
          have k6 := hbq.cells 6
          have k7 := hbq.cells 7
          have k8 := hbq.cells 8
          have k9 := hbq.cells 9
          have m0 := hbr.cells 0
          have g0 := hbr.free 0
          have m1 := hbr.cells 1
          have g1 := hbr.free 1
          have m2 := hbr.cells 2
          have g2 := hbr.free 2
          have m3 := hbr.cells 3
          have g3 := hbr.free 3
          have m4 := hbr.cells 4
          have g4 := hbr.free 4
          have m5 := hbr.cells 5
          have g5 := hbr.free 5
          have m6 := hbr.cells 6
          have g6 := hbr.free 6
          have m7 := hbr.cells 7
          have g7 := hbr.free 7
          have m8 := hbr.cells 8
          have g8 := hbr.free 8
          have m9 := hbr.cells 9
          have g9 := hbr.free 9
          have hql := hbq.lt
          have hrl2 := hbr.lt
          simp [Bd.cs] at k0 k1 k2 k3 k4 k5 k6 k7 k8 k9
          simp [Bd.cs, B1.zero] at m0 m1 m2 m3 m4 m5 m6 m7 m8 m9
          have hP := hbr.put ⟨x0, x1, x2, x3, x4, x5, x6, x7, x8, x9⟩
          have hcE := BX.cur_set (BX.cur_set (BX.cur_set (BX.cur_set (BX.cur_set (BX.cur_set (BX.cur_set (BX.cur_set (BX.cur_set (BX.cur_set (hc) (g := r) (j := 0) (v := .int .i64 x0) hplt) (g := r) (j := 1) (v := .int .i64 x1) hplt) (g := r) (j := 2) (v := .bool x2) hplt) (g := r) (j := 3) (v := .int .i64 x3) hplt) (g := r) (j := 4) (v := .int .i64 x4) hplt) (g := r) (j := 5) (v := .int .i64 x5) hplt) (g := r) (j := 6) (v := .int .i64 x6) hplt) (g := r) (j := 7) (v := .int .i64 x7) hplt) (g := r) (j := 8) (v := .int .i64 x8) hplt) (g := r) (j := 9) (v := .string x9) hplt
          have hoE := BX.only_set (BX.only_set (BX.only_set (BX.only_set (BX.only_set (BX.only_set (BX.only_set (BX.only_set (BX.only_set (BX.only_set (hor) (g := r) (j := 0) (v := .int .i64 x0) (Nat.le_of_eq hr)) (g := r) (j := 1) (v := .int .i64 x1) (Nat.le_of_eq hr)) (g := r) (j := 2) (v := .bool x2) (Nat.le_of_eq hr)) (g := r) (j := 3) (v := .int .i64 x3) (Nat.le_of_eq hr)) (g := r) (j := 4) (v := .int .i64 x4) (Nat.le_of_eq hr)) (g := r) (j := 5) (v := .int .i64 x5) (Nat.le_of_eq hr)) (g := r) (j := 6) (v := .int .i64 x6) (Nat.le_of_eq hr)) (g := r) (j := 7) (v := .int .i64 x7) (Nat.le_of_eq hr)) (g := r) (j := 8) (v := .int .i64 x8) (Nat.le_of_eq hr)) (g := r) (j := 9) (v := .string x9) (Nat.le_of_eq hr)
          go_wp2
          clear k0 m0 g0 k1 m1 g1 k2 m2 g2 k3 m3 g3 k4 m4 g4 k5 m5 g5 k6 m6 g6 k7 m7 g7 k8 m8 g8 k9 m9 g9 hbq hbr hc hor
          have n0 := hP.cells 0
          have n1 := hP.cells 1
          have n2 := hP.cells 2
          have n3 := hP.cells 3
          have n4 := hP.cells 4
          have n5 := hP.cells 5
          have n6 := hP.cells 6
          have n7 := hP.cells 7
          have n8 := hP.cells 8
          have n9 := hP.cells 9
          simp [Bd.cs] at n0 n1 n2 n3 n4 n5 n6 n7 n8 n9
          generalize ((((((((((((((((((((w11.setCell ⟨q, 7, none⟩ (.int .i64 (z : Int))).setCell ⟨r, 0, none⟩ (.int .i64 x0))).setCell ⟨r, 1, none⟩ (.int .i64 x1))).setCell ⟨r, 2, none⟩ (.bool x2))).setCell ⟨r, 3, none⟩ (.int .i64 x3))).setCell ⟨r, 4, none⟩ (.int .i64 x4))).setCell ⟨r, 5, none⟩ (.int .i64 x5))).setCell ⟨r, 6, none⟩ (.int .i64 x6))).setCell ⟨r, 7, none⟩ (.int .i64 x7))).setCell ⟨r, 8, none⟩ (.int .i64 x8))).setCell ⟨r, 9, none⟩ (.string x9)) = WE at *
          exact bodyPost_ret (v := .agg #[.int .i64 x0, .int .i64 x1, .bool x2, .int .i64 x3, .int .i64 x4, .int .i64 x5, .int .i64 x6, .int .i64 x7, .int .i64 x8, .string x9]) (by simp [results, Try.results28, go_sem, n0, n1, n2, n3, n4, n5, n6, n7, n8, n9]) rfl ⟨⟨x0, x1, x2, x3, x4, x5, x6, x7, x8, x9⟩, rfl, hpd, hcE.more (by omega), hoE⟩
        · have e0 : ((r10 : Int) == 0) = false := by simp; omega
          have e1 : ((r10 : Int) == 1) = false := by simp; omega
          have e2 : ((r10 : Int) == 2) = false := by simp; omega
          generalize hb2 : (bb : Bd) = bd at hbq
          have hpd : bd.py.size ≤ 60 := by rw [← hb2]; exact hpy
          clear hb2 hpy
          obtain ⟨x0, x1, x2, x3, x4, x5, x6, x7, x8, x9⟩ := bd
          have k0 := hbq.cells 0
          have k1 := hbq.cells 1
          have k2 := hbq.cells 2
          have k3 := hbq.cells 3
          have k4 := hbq.cells 4
          have k5 := hbq.cells 5
          have k6 := hbq.cells 6
          have k7 := hbq.cells 7
          have k8 := hbq.cells 8
          have k9 := hbq.cells 9
          have m0 := hbr.cells 0
          have g0 := hbr.free 0
          have m1 := hbr.cells 1
          have g1 := hbr.free 1
          have m2 := hbr.cells 2
          have g2 := hbr.free 2
          have m3 := hbr.cells 3
          have g3 := hbr.free 3
          have m4 := hbr.cells 4
          have g4 := hbr.free 4
          have m5 := hbr.cells 5
          have g5 := hbr.free 5
          have m6 := hbr.cells 6
          have g6 := hbr.free 6
          have m7 := hbr.cells 7
          have g7 := hbr.free 7
          have m8 := hbr.cells 8
          have g8 := hbr.free 8
          have m9 := hbr.cells 9
          have g9 := hbr.free 9
          have hql := hbq.lt
          have hrl2 := hbr.lt
          simp [Bd.cs] at k0 k1 k2 k3 k4 k5 k6 k7 k8 k9
          simp [Bd.cs, B1.zero] at m0 m1 m2 m3 m4 m5 m6 m7 m8 m9
          have hP := hbr.put ⟨x0, x1, x2, x3, x4, x5, x6, x7, x8, x9⟩
          have hcE := BX.cur_set (BX.cur_set (BX.cur_set (BX.cur_set (BX.cur_set (BX.cur_set (BX.cur_set (BX.cur_set (BX.cur_set (BX.cur_set (hc) (g := r) (j := 0) (v := .int .i64 x0) hplt) (g := r) (j := 1) (v := .int .i64 x1) hplt) (g := r) (j := 2) (v := .bool x2) hplt) (g := r) (j := 3) (v := .int .i64 x3) hplt) (g := r) (j := 4) (v := .int .i64 x4) hplt) (g := r) (j := 5) (v := .int .i64 x5) hplt) (g := r) (j := 6) (v := .int .i64 x6) hplt) (g := r) (j := 7) (v := .int .i64 x7) hplt) (g := r) (j := 8) (v := .int .i64 x8) hplt) (g := r) (j := 9) (v := .string x9) hplt
          have hoE := BX.only_set (BX.only_set (BX.only_set (BX.only_set (BX.only_set (BX.only_set (BX.only_set (BX.only_set (BX.only_set (BX.only_set (hor) (g := r) (j := 0) (v := .int .i64 x0) (Nat.le_of_eq hr)) (g := r) (j := 1) (v := .int .i64 x1) (Nat.le_of_eq hr)) (g := r) (j := 2) (v := .bool x2) (Nat.le_of_eq hr)) (g := r) (j := 3) (v := .int .i64 x3) (Nat.le_of_eq hr)) (g := r) (j := 4) (v := .int .i64 x4) (Nat.le_of_eq hr)) (g := r) (j := 5) (v := .int .i64 x5) (Nat.le_of_eq hr)) (g := r) (j := 6) (v := .int .i64 x6) (Nat.le_of_eq hr)) (g := r) (j := 7) (v := .int .i64 x7) (Nat.le_of_eq hr)) (g := r) (j := 8) (v := .int .i64 x8) (Nat.le_of_eq hr)) (g := r) (j := 9) (v := .string x9) (Nat.le_of_eq hr)
          go_wp2
          clear k0 m0 g0 k1 m1 g1 k2 m2 g2 k3 m3 g3 k4 m4 g4 k5 m5 g5 k6 m6 g6 k7 m7 g7 k8 m8 g8 k9 m9 g9 hbq hbr hc hor
          have n0 := hP.cells 0
          have n1 := hP.cells 1
          have n2 := hP.cells 2
          have n3 := hP.cells 3
          have n4 := hP.cells 4
          have n5 := hP.cells 5
          have n6 := hP.cells 6
          have n7 := hP.cells 7
          have n8 := hP.cells 8
          have n9 := hP.cells 9
          simp [Bd.cs] at n0 n1 n2 n3 n4 n5 n6 n7 n8 n9
          generalize ((((((((((((((((((((w10).setCell ⟨r, 0, none⟩ (.int .i64 x0))).setCell ⟨r, 1, none⟩ (.int .i64 x1))).setCell ⟨r, 2, none⟩ (.bool x2))).setCell ⟨r, 3, none⟩ (.int .i64 x3))).setCell ⟨r, 4, none⟩ (.int .i64 x4))).setCell ⟨r, 5, none⟩ (.int .i64 x5))).setCell ⟨r, 6, none⟩ (.int .i64 x6))).setCell ⟨r, 7, none⟩ (.int .i64 x7))).setCell ⟨r, 8, none⟩ (.int .i64 x8))).setCell ⟨r, 9, none⟩ (.string x9)) = WE at *
          exact bodyPost_ret (v := .agg #[.int .i64 x0, .int .i64 x1, .bool x2, .int .i64 x3, .int .i64 x4, .int .i64 x5, .int .i64 x6, .int .i64 x7, .int .i64 x8, .string x9]) (by simp [results, Try.results28, go_sem, n0, n1, n2, n3, n4, n5, n6, n7, n8, n9]) rfl ⟨⟨x0, x1, x2, x3, x4, x5, x6, x7, x8, x9⟩, rfl, hpd, hcE.more (by omega), hoE⟩
  · go_wp2_with fail
    generalize w8.alloc (.cells #[.int .i64 (r1 : Int), .int .i64 (r2 : Int), .bool b3, .int .i64 (r4 : Int), .int .i64 (r5 : Int), .int .i64 (1 + (r6 : Int)), .int .i64 (r7 : Int), .int .i64 0, .int .i64 0, .string s] 24) = W at *
    rw [hq] at hbq hrl hs8
    clear hq
    refine (one_any p a zs cap (M + 16) _ _ hz (by omega) hc).mono ?_
    rintro e w9 ⟨b9, rfl, hc9, ho9⟩
    replace hbr := hbr.only ho9 hrp
    replace hbq := hbq.only ho9 hqp
    replace hor := hor.trans ho9
    clear hc ho9
    have hc := hc9
    clear hc9
    cases b9
    · go_wp2_with fail
      refine (pick_any p a zs cap (M + 18) _ _ hz (by omega) hc).mono ?_
      rintro e w10 ⟨r10, rfl, hr10, hx10, hc10, ho10⟩
      replace hbr := hbr.only ho10 hrp
      replace hbq := hbq.only ho10 hqp
      replace hor := hor.trans ho10
      clear hc ho10
      have hc := hc10
      clear hc10
      generalize hbb : (⟨(r1 : Int), (r2 : Int), b3, (r4 : Int), (r5 : Int), 1 + (r6 : Int), (r7 : Int), 0, 0, s⟩ : Bd) = bb at hbq
      have hpy : bb.py.size ≤ 60 := by rw [← hbb]; exact hs
      clear hbb
      by_cases h0 : r10 = 0
      · subst h0
        replace hc := hc.alloc (.cells #[.int .i64 0, .int .i64 1000000, .int .i64 1000001] 3)
        replace hbr := hbr.alloc (.cells #[.int .i64 0, .int .i64 1000000, .int .i64 1000001] 3)
        have hbl := hbq.lt
        replace hbq := hbq.alloc (.cells #[.int .i64 0, .int .i64 1000000, .int .i64 1000001] 3)
        have hsz := hor.size
        replace hor := hor.alloc (.cells #[.int .i64 0, .int .i64 1000000, .int .i64 1000001] 3)
        go_wp2_with fail
        refine (among_any p a zs cap (M + 20) (some ⟨w10.heap.size, 0, none⟩) [0, 1000000, 1000001] 3 _ hz (by omega) hc (by simp) (by simp) (BX.new_ints w10 [0, 1000000, 1000001] 3) (fun b off e => by simp at e; omega)).mono ?_
        rintro e w11 ⟨z, rfl, hzm, hc11, ho11⟩
        replace hbr := hbr.only ho11 hrp
        replace hbq := hbq.only ho11 hqp
        replace hor := hor.trans ho11
        clear hc ho11
        have hc := hc11
        clear hc11
        have kj := hbq.cells 5
        have gj := hbq.free 5
        have hql := hbq.lt
        simp [Bd.cs] at kj
        have st : BX.Box (w11.setCell ⟨q, 5, none⟩ (.int .i64 (z))) q 24 ({ bb with lf := z }) := hbq.set rfl
        have hc' := BX.cur_set (j := 5) (v := .int .i64 (z)) hc hpq
        have ho' := BX.only_set (j := 5) (v := .int .i64 (z)) hor hqw
        have hbr' := hbr.far (g := q) (j := 5) (v := .int .i64 (z)) hrq
        have hl' : q < (w11.setCell ⟨q, 5, none⟩ (.int .i64 (z))).heap.size := st.lt
        clear hbq hc hor hbr
        have hbq := st
        have hc := hc'
        have hor := ho'
        have hbr := hbr'
        clear st hc' ho' hbr'
        generalize hb2 : ({ bb with lf := z } : Bd) = bd at hbq
        have hpd : bd.py.size ≤ 60 := by rw [← hb2]; exact hpy
        clear hb2 hpy
        obtain ⟨x0, x1, x2, x3, x4, x5, x6, x7, x8, x9⟩ := bd
        have k0 := hbq.cells 0
        have k1 := hbq.cells 1
        have k2 := hbq.cells 2
        have k3 := hbq.cells 3
        have k4 := hbq.cells 4
        have k5 := hbq.cells 5
        have k6 := hbq.cells 6
        have k7 := hbq.cells 7
        have k8 := hbq.cells 8
        have k9 := hbq.cells 9
        have m0 := hbr.cells 0
        have g0 := hbr.free 0
        have m1 := hbr.cells 1
        have g1 := hbr.free 1
        have m2 := hbr.cells 2
        have g2 := hbr.free 2
        have m3 := hbr.cells 3
        have g3 := hbr.free 3
        have m4 := hbr.cells 4
        have g4 := hbr.free 4
        have m5 := hbr.cells 5
        have g5 := hbr.free 5
        have m6 := hbr.cells 6
        have g6 := hbr.free 6
        have m7 := hbr.cells 7
        have g7 := hbr.free 7
        have m8 := hbr.cells 8
        have g8 := hbr.free 8
        have m9 := hbr.cells 9
        have g9 := hbr.free 9
        have hql := hbq.lt
        have hrl2 := hbr.lt
        simp [Bd.cs] at k0 k1 k2 k3 k4 k5 k6 k7 k8 k9
        simp [Bd.cs, B1.zero] at m0 m1 m2 m3 m4 m5 m6 m7 m8 m9
        have hP := hbr.put ⟨x0, x1, x2, x3, x4, x5, x6, x7, x8, x9⟩
        have hcE := BX.cur_set (BX.cur_set (BX.cur_set (BX.cur_set (BX.cur_set (BX.cur_set (BX.cur_set (BX.cur_set (BX.cur_set (BX.cur_set (hc) (g := r) (j := 0) (v := .int .i64 x0) hplt) (g := r) (j := 1) (v := .int .i64 x1) hplt) (g := r) (j := 2) (v := .bool x2) hplt) (g := r) (j := 3) (v := .int .i64 x3) hplt) (g := r) (j := 4) (v := .int .i64 x4) hplt) (g := r) (j := 5) (v := .int .i64 x5) hplt) (g := r) (j := 6) (v := .int .i64 x6) hplt) (g := r) (j := 7) (v := .int .i64 x7) hplt) (g := r) (j := 8) (v := .int .i64 x8) hplt) (g := r) (j := 9) (v := .string x9) hplt
        have hoE := BX.only_set (BX.only_set (BX.only_set (BX.only_set (BX.only_set (BX.only_set (BX.only_set (BX.only_set (BX.only_set (BX.only_set (hor) (g := r) (j := 0) (v := .int .i64 x0) (Nat.le_of_eq hr)) (g := r) (j := 1) (v := .int .i64 x1) (Nat.le_of_eq hr)) (g := r) (j := 2) (v := .bool x2) (Nat.le_of_eq hr)) (g := r) (j := 3) (v := .int .i64 x3) (Nat.le_of_eq hr)) (g := r) (j := 4) (v := .int .i64 x4) (Nat.le_of_eq hr)) (g := r) (j := 5) (v := .int .i64 x5) (Nat.le_of_eq hr)) (g := r) (j := 6) (v := .int .i64 x6) (Nat.le_of_eq hr)) (g := r) (j := 7) (v := .int .i64 x7) (Nat.le_of_eq hr)) (g := r) (j := 8) (v := .int .i64 x8) (Nat.le_of_eq hr)) (g := r) (j := 9) (v := .string x9) (Nat.le_of_eq hr)
        go_wp2
        clear k0 m0 g0 k1 m1 g1 k2 m2 g2 k3 m3 g3 k4 m4 g4 k5 m5 g5 k6 m6 g6 k7 m7 g7 k8 m8 g8 k9 m9 g9 hbq hbr hc hor
        have n0 := hP.cells 0
        have n1 := hP.cells 1
        have n2 := hP.cells 2
        have n3 := hP.cells 3
        have n4 := hP.cells 4
        have n5 := hP.cells 5
        have n6 := hP.cells 6
        have n7 := hP.cells 7
        have n8 := hP.cells 8
        have n9 := hP.cells 9
        simp [Bd.cs] at n0 n1 n2 n3 n4 n5 n6 n7 n8 n9
        generalize ((((((((((((((((((((w11.setCell ⟨q, 5, none⟩ (.int .i64 z)).setCell ⟨r, 0, none⟩ (.int .i64 x0))).setCell ⟨r, 1, none⟩ (.int .i64 x1))).setCell ⟨r, 2, none⟩ (.bool x2))).setCell ⟨r, 3, none⟩ (.int .i64 x3))).setCell ⟨r, 4, none⟩ (.int .i64 x4))).setCell ⟨r, 5, none⟩ (.int .i64 x5))).setCell ⟨r, 6, none⟩ (.int .i64 x6))).setCell ⟨r, 7, none⟩ (.int .i64 x7))).setCell ⟨r, 8, none⟩ (.int .i64 x8))).setCell ⟨r, 9, none⟩ (.string x9)) = WE at *
        exact bodyPost_ret (v := .agg #[.int .i64 x0, .int .i64 x1, .bool x2, .int .i64 x3, .int .i64 x4, .int .i64 x5, .int .i64 x6, .int .i64 x7, .int .i64 x8, .string x9]) (by simp [results, Try.results28, go_sem, n0, n1, n2, n3, n4, n5, n6, n7, n8, n9]) rfl ⟨⟨x0, x1, x2, x3, x4, x5, x6, x7, x8, x9⟩, rfl, hpd, hcE.more (by omega), hoE⟩
      · by_cases h1 : r10 = 1
        · subst h1
          replace hc := hc.alloc (.cells #[.int .i64 (-1), .int .i64 30, .int .i64 31] 3)
          replace hbr := hbr.alloc (.cells #[.int .i64 (-1), .int .i64 30, .int .i64 31] 3)
          have hbl := hbq.lt
          replace hbq := hbq.alloc (.cells #[.int .i64 (-1), .int .i64 30, .int .i64 31] 3)
          have hsz := hor.size
          replace hor := hor.alloc (.cells #[.int .i64 (-1), .int .i64 30, .int .i64 31] 3)
          go_wp2_with fail
          refine (among_any p a zs cap (M + 20) (some ⟨w10.heap.size, 0, none⟩) [-1, 30, 31] 3 _ hz (by omega) hc (by simp) (by simp) (BX.new_ints w10 [-1, 30, 31] 3) (fun b off e => by simp at e; omega)).mono ?_
          rintro e w11 ⟨z, rfl, hzm, hc11, ho11⟩
          replace hbr := hbr.only ho11 hrp
          replace hbq := hbq.only ho11 hqp
          replace hor := hor.trans ho11
          clear hc ho11
          have hc := hc11
          clear hc11
          have kj := hbq.cells 6
          have gj := hbq.free 6
          have hql := hbq.lt
          simp [Bd.cs] at kj
          have st : BX.Box (w11.setCell ⟨q, 6, none⟩ (.int .i64 (z))) q 24 ({ bb with hp := z }) := hbq.set rfl
          have hc' := BX.cur_set (j := 6) (v := .int .i64 (z)) hc hpq
          have ho' := BX.only_set (j := 6) (v := .int .i64 (z)) hor hqw
          have hbr' := hbr.far (g := q) (j := 6) (v := .int .i64 (z)) hrq
          have hl' : q < (w11.setCell ⟨q, 6, none⟩ (.int .i64 (z))).heap.size := st.lt
          clear hbq hc hor hbr
          have hbq := st
          have hc := hc'
          have hor := ho'
          have hbr := hbr'
          clear st hc' ho' hbr'
          generalize hb2 : ({ bb with hp := z } : Bd) = bd at hbq
          have hpd : bd.py.size ≤ 60 := by rw [← hb2]; exact hpy
          clear hb2 hpy
          obtain ⟨x0, x1, x2, x3, x4, x5, x6, x7, x8, x9⟩ := bd
          have k0 := hbq.cells 0
          have k1 := hbq.cells 1
          have k2 := hbq.cells 2
          have k3 := hbq.cells 3
          have k4 := hbq.cells 4
          have k5 := hbq.cells 5
          have k6 := hbq.cells 6
          have k7 := hbq.cells 7
          have k8 := hbq.cells 8
          have k9 := hbq.cells 9
          have m0 := hbr.cells 0
          have g0 := hbr.free 0
          have m1 := hbr.cells 1
          have g1 := hbr.free 1
          have m2 := hbr.cells 2
          have g2 := hbr.free 2
          have m3 := hbr.cells 3
          have g3 := hbr.free 3
          have m4 := hbr.cells 4
          have g4 := hbr.free 4
          have m5 := hbr.cells 5
          have g5 := hbr.free 5
          have m6 := hbr.cells 6
          have g6 := hbr.free 6
          have m7 := hbr.cells 7
          have g7 := hbr.free 7
          have m8 := hbr.cells 8
          have g8 := hbr.free 8
          have m9 := hbr.cells 9
          have g9 := hbr.free 9
          have hql := hbq.lt
          have hrl2 := hbr.lt
          simp [Bd.cs] at k0 k1 k2 k3 k4 k5 k6 k7 k8 k9
          simp [Bd.cs, B1.zero] at m0 m1 m2 m3 m4 m5 m6 m7 m8 m9
          have hP := hbr.put ⟨x0, x1, x2, x3, x4, x5, x6, x7, x8, x9⟩
          have hcE := BX.cur_set (BX.cur_set (BX.cur_set (BX.cur_set (BX.cur_set (BX.cur_set (BX.cur_set (BX.cur_set (BX.cur_set (BX.cur_set (hc) (g := r) (j := 0) (v := .int .i64 x0) hplt) (g := r) (j := 1) (v := .int .i64 x1) hplt) (g := r) (j := 2) (v := .bool x2) hplt) (g := r) (j := 3) (v := .int .i64 x3) hplt) (g := r) (j := 4) (v := .int .i64 x4) hplt) (g := r) (j := 5) (v := .int .i64 x5) hplt) (g := r) (j := 6) (v := .int .i64 x6) hplt) (g := r) (j := 7) (v := .int .i64 x7) hplt) (g := r) (j := 8) (v := .int .i64 x8) hplt) (g := r) (j := 9) (v := .string x9) hplt
          have hoE := BX.only_set (BX.only_set (BX.only_set (BX.only_set (BX.only_set (BX.only_set (BX.only_set (BX.only_set (BX.only_set (BX.only_set (hor) (g := r) (j := 0) (v := .int .i64 x0) (Nat.le_of_eq hr)) (g := r) (j := 1) (v := .int .i64 x1) (Nat.le_of_eq hr)) (g := r) (j := 2) (v := .bool x2) (Nat.le_of_eq hr)) (g := r) (j := 3) (v := .int .i64 x3) (Nat.le_of_eq hr)) (g := r) (j := 4) (v := .int .i64 x4) (Nat.le_of_eq hr)) (g := r) (j := 5) (v := .int .i64 x5) (Nat.le_of_eq hr)) (g := r) (j := 6) (v := .int .i64 x6) (Nat.le_of_eq hr)) (g := r) (j := 7) (v := .int .i64 x7) (Nat.le_of_eq hr)) (g := r) (j := 8) (v := .int .i64 x8) (Nat.le_of_eq hr)) (g := r) (j := 9) (v := .string x9) (Nat.le_of_eq hr)
          go_wp2
          clear k0 m0 g0 k1 m1 g1 k2 m2 g2 k3 m3 g3 k4 m4 g4 k5 m5 g5 k6 m6 g6 k7 m7 g7 k8 m8 g8 k9 m9 g9 hbq hbr hc hor
          have n0 := hP.cells 0
          have n1 := hP.cells 1
          have n2 := hP.cells 2
          have n3 := hP.cells 3
          have n4 := hP.cells 4
          have n5 := hP.cells 5
          have n6 := hP.cells 6
          have n7 := hP.cells 7
          have n8 := hP.cells 8
          have n9 := hP.cells 9
          simp [Bd.cs] at n0 n1 n2 n3 n4 n5 n6 n7 n8 n9
          generalize ((((((((((((((((((((w11.setCell ⟨q, 6, none⟩ (.int .i64 z)).setCell ⟨r, 0, none⟩ (.int .i64 x0))).setCell ⟨r, 1, none⟩ (.int .i64 x1))).setCell ⟨r, 2, none⟩ (.bool x2))).setCell ⟨r, 3, none⟩ (.int .i64 x3))).setCell ⟨r, 4, none⟩ (.int .i64 x4))).setCell ⟨r, 5, none⟩ (.int .i64 x5))).setCell ⟨r, 6, none⟩ (.int .i64 x6))).setCell ⟨r, 7, none⟩ (.int .i64 x7))).setCell ⟨r, 8, none⟩ (.int .i64 x8))).setCell ⟨r, 9, none⟩ (.string x9)) = WE at *
          exact bodyPost_ret (v := .agg #[.int .i64 x0, .int .i64 x1, .bool x2, .int .i64 x3, .int .i64 x4, .int .i64 x5, .int .i64 x6, .int .i64 x7, .int .i64 x8, .string x9]) (by simp [results, Try.results28, go_sem, n0, n1, n2, n3, n4, n5, n6, n7, n8, n9]) rfl ⟨⟨x0, x1, x2, x3, x4, x5, x6, x7, x8, x9⟩, rfl, hpd, hcE.more (by omega), hoE⟩
        · by_cases h2 : r10 = 2
          · subst h2
            go_wp2_with fail
            refine (pick_any p a zs cap (M + 20) _ _ hz (by omega) hc).mono ?_
            rintro e w11 ⟨z, rfl, hrz, hxz, hc11, ho11⟩
            replace hbr := hbr.only ho11 hrp
            replace hbq := hbq.only ho11 hqp
            replace hor := hor.trans ho11
            clear hc ho11
            have hc := hc11
            clear hc11
            have kj := hbq.cells 7
            have gj := hbq.free 7
            have hql := hbq.lt
            simp [Bd.cs] at kj
            have st : BX.Box (w11.setCell ⟨q, 7, none⟩ (.int .i64 ((z : Int)))) q 24 ({ bb with of := (z : Int) }) := hbq.set rfl
            have hc' := BX.cur_set (j := 7) (v := .int .i64 ((z : Int))) hc hpq
            have ho' := BX.only_set (j := 7) (v := .int .i64 ((z : Int))) hor hqw
            have hbr' := hbr.far (g := q) (j := 7) (v := .int .i64 ((z : Int))) hrq
            have hl' : q < (w11.setCell ⟨q, 7, none⟩ (.int .i64 ((z : Int)))).heap.size := st.lt
            clear hbq hc hor hbr
            have hbq := st
            have hc := hc'
            have hor := ho'
            have hbr := hbr'
            clear st hc' ho' hbr'
            generalize hb2 : ({ bb with of := (z : Int) } : Bd) = bd at hbq
            have hpd : bd.py.size ≤ 60 := by rw [← hb2]; exact hpy
            clear hb2 hpy
            obtain ⟨x0, x1, x2, x3, x4, x5, x6, x7, x8, x9⟩ := bd
            have k0 := hbq.cells 0
            have k1 := hbq.cells 1
            have k2 := hbq.cells 2
            have k3 := hbq.cells 3
            have k4 := hbq.cells 4
            have k5 := hbq.cells 5
            have k6 := hbq.cells 6
            have k7 := hbq.cells 7
            have k8 := hbq.cells 8
            have k9 := hbq.cells 9
            have m0 := hbr.cells 0
            have g0 := hbr.free 0
            have m1 := hbr.cells 1
            have g1 := hbr.free 1
            have m2 := hbr.cells 2
            have g2 := hbr.free 2
            have m3 := hbr.cells 3
            have g3 := hbr.free 3
            have m4 := hbr.cells 4
            have g4 := hbr.free 4
            have m5 := hbr.cells 5
            have g5 := hbr.free 5
            have m6 := hbr.cells 6
            have g6 := hbr.free 6
            have m7 := hbr.cells 7
            have g7 := hbr.free 7
            have m8 := hbr.cells 8
            have g8 := hbr.free 8
            have m9 := hbr.cells 9
            have g9 := hbr.free 9
            have hql := hbq.lt
            have hrl2 := hbr.lt
            simp [Bd.cs] at k0 k1 k2 k3 k4 k5 k6 k7 k8 k9
            simp [Bd.cs, B1.zero] at m0 m1 m2 m3 m4 m5 m6 m7 m8 m9
            have hP := hbr.put ⟨x0, x1, x2, x3, x4, x5, x6, x7, x8, x9⟩
            have hcE := BX.cur_set (BX.cur_set (BX.cur_set (BX.cur_set (BX.cur_set (BX.cur_set (BX.cur_set (BX.cur_set (BX.cur_set (BX.cur_set (hc) (g := r) (j := 0) (v := .int .i64 x0) hplt) (g := r) (j := 1) (v := .int .i64 x1) hplt) (g := r) (j := 2) (v := .bool x2) hplt) (g := r) (j := 3) (v := .int .i64 x3) hplt) (g := r) (j := 4) (v := .int .i64 x4) hplt) (g := r) (j := 5) (v := .int .i64 x5) hplt) (g := r) (j := 6) (v := .int .i64 x6) hplt) (g := r) (j := 7) (v := .int .i64 x7) hplt) (g := r) (j := 8) (v := .int .i64 x8) hplt) (g := r) (j := 9) (v := .string x9) hplt
            have hoE := BX.only_set (BX.only_set (BX.only_set (BX.only_set (BX.only_set (BX.only_set (BX.only_set (BX.only_set (BX.only_set (BX.only_set (hor) (g := r) (j := 0) (v := .int .i64 x0) (Nat.le_of_eq hr)) (g := r) (j := 1) (v := .int .i64 x1) (Nat.le_of_eq hr)) (g := r) (j := 2) (v := .bool x2) (Nat.le_of_eq hr)) (g := r) (j := 3) (v := .int .i64 x3) (Nat.le_of_eq hr)) (g := r) (j := 4) (v := .int .i64 x4) (Nat.le_of_eq hr)) (g := r) (j := 5) (v := .int .i64 x5) (Nat.le_of_eq hr)) (g := r) (j := 6) (v := .int .i64 x6) (Nat.le_of_eq hr)) (g := r) (j := 7) (v := .int .i64 x7) (Nat.le_of_eq hr)) (g := r) (j := 8) (v := .int .i64 x8) (Nat.le_of_eq hr)) (g := r) (j := 9) (v := .string x9) (Nat.le_of_eq hr)
            go_wp2
            clear k0 m0 g0 k1 m1 g1 k2 m2 g2 k3 m3 g3 k4 m4 g4 k5 m5 g5 k6 m6 g6 k7 m7 g7 k8 m8 g8 k9 m9 g9 hbq hbr hc hor
            have n0 := hP.cells 0
            have n1 := hP.cells 1
            have n2 := hP.cells 2
            have n3 := hP.cells 3
            have n4 := hP.cells 4
            have n5 := hP.cells 5
            have n6 := hP.cells 6
            have n7 := hP.cells 7
            have n8 := hP.cells 8
            have n9 := hP.cells 9
            simp [Bd.cs] at n0 n1 n2 n3 n4 n5 n6 n7 n8 n9
            generalize ((((((((((((((((((((w11.setCell ⟨q, 7, none⟩ (.int .i64 (z : Int))).setCell ⟨r, 0, none⟩ (.int .i64 x0))).setCell ⟨r, 1, none⟩ (.int .i64 x1))).setCell ⟨r, 2, none⟩ (.bool x2))).setCell ⟨r, 3, none⟩ (.int .i64 x3))).setCell ⟨r, 4, none⟩ (.int .i64 x4))).setCell ⟨r, 5, none⟩ (.int .i64 x5))).setCell ⟨r, 6, none⟩ (.int .i64 x6))).setCell ⟨r, 7, none⟩ (.int .i64 x7))).setCell ⟨r, 8, none⟩ (.int .i64 x8))).setCell ⟨r, 9, none⟩ (.string x9)) = WE at *
            exact bodyPost_ret (v := .agg #[.int .i64 x0, .int .i64 x1, .bool x2, .int .i64 x3, .int .i64 x4, .int .i64 x5, .int .i64 x6, .int .i64 x7, .int .i64 x8, .string x9]) (by simp [results, Try.results28, go_sem, n0, n1, n2, n3, n4, n5, n6, n7, n8, n9]) rfl ⟨⟨x0, x1, x2, x3, x4, x5, x6, x7, x8, x9⟩, rfl, hpd, hcE.more (by omega), hoE⟩
          · have e0 : ((r10 : Int) == 0) = false := by simp; omega
            have e1 : ((r10 : Int) == 1) = false := by simp; omega
            have e2 : ((r10 : Int) == 2) = false := by simp; omega
            generalize hb2 : (bb : Bd) = bd at hbq
            have hpd : bd.py.size ≤ 60 := by rw [← hb2]; exact hpy
            clear hb2 hpy
            obtain ⟨x0, x1, x2, x3, x4, x5, x6, x7, x8, x9⟩ := bd
            have k0 := hbq.cells 0
            have k1 := hbq.cells 1
            have k2 := hbq.cells 2
            have k3 := hbq.cells 3
            have k4 := hbq.cells 4
            have k5 := hbq.cells 5
            have k6 := hbq.cells 6
            have k7 := hbq.cells 7
            have k8 := hbq.cells 8
            have k9 := hbq.cells 9
            have m0 := hbr.cells 0
            have g0 := hbr.free 0
            have m1 := hbr.cells 1
            have g1 := hbr.free 1
            have m2 := hbr.cells 2
            have g2 := hbr.free 2
            have m3 := hbr.cells 3
            have g3 := hbr.free 3
            have m4 := hbr.cells 4
            have g4 := hbr.free 4
            have m5 := hbr.cells 5
            have g5 := hbr.free 5
            have m6 := hbr.cells 6
            have g6 := hbr.free 6
            have m7 := hbr.cells 7
            have g7 := hbr.free 7
            have m8 := hbr.cells 8
            have g8 := hbr.free 8
            have m9 := hbr.cells 9
            have g9 := hbr.free 9
            have hql := hbq.lt
            have hrl2 := hbr.lt
            simp [Bd.cs] at k0 k1 k2 k3 k4 k5 k6 k7 k8 k9
            simp [Bd.cs, B1.zero] at m0 m1 m2 m3 m4 m5 m6 m7 m8 m9
            have hP := hbr.put ⟨x0, x1, x2, x3, x4, x5, x6, x7, x8, x9⟩
            have hcE := BX.cur_set (BX.cur_set (BX.cur_set (BX.cur_set (BX.cur_set (BX.cur_set (BX.cur_set (BX.cur_set (BX.cur_set (BX.cur_set (hc) (g := r) (j := 0) (v := .int .i64 x0) hplt) (g := r) (j := 1) (v := .int .i64 x1) hplt) (g := r) (j := 2) (v := .bool x2) hplt) (g := r) (j := 3) (v := .int .i64 x3) hplt) (g := r) (j := 4) (v := .int .i64 x4) hplt) (g := r) (j := 5) (v := .int .i64 x5) hplt) (g := r) (j := 6) (v := .int .i64 x6) hplt) (g := r) (j := 7) (v := .int .i64 x7) hplt) (g := r) (j := 8) (v := .int .i64 x8) hplt) (g := r) (j := 9) (v := .string x9) hplt
            have hoE := BX.only_set (BX.only_set (BX.only_set (BX.only_set (BX.only_set (BX.only_set (BX.only_set (BX.only_set (BX.only_set (BX.only_set (hor) (g := r) (j := 0) (v := .int .i64 x0) (Nat.le_of_eq hr)) (g := r) (j := 1) (v := .int .i64 x1) (Nat.le_of_eq hr)) (g := r) (j := 2) (v := .bool x2) (Nat.le_of_eq hr)) (g := r) (j := 3) (v := .int .i64 x3) (Nat.le_of_eq hr)) (g := r) (j := 4) (v := .int .i64 x4) (Nat.le_of_eq hr)) (g := r) (j := 5) (v := .int .i64 x5) (Nat.le_of_eq hr)) (g := r) (j := 6) (v := .int .i64 x6) (Nat.le_of_eq hr)) (g := r) (j := 7) (v := .int .i64 x7) (Nat.le_of_eq hr)) (g := r) (j := 8) (v := .int .i64 x8) (Nat.le_of_eq hr)) (g := r) (j := 9) (v := .string x9) (Nat.le_of_eq hr)
            go_wp2
            clear k0 m0 g0 k1 m1 g1 k2 m2 g2 k3 m3 g3 k4 m4 g4 k5 m5 g5 k6 m6 g6 k7 m7 g7 k8 m8 g8 k9 m9 g9 hbq hbr hc hor
            have n0 := hP.cells 0
            have n1 := hP.cells 1
            have n2 := hP.cells 2
            have n3 := hP.cells 3
            have n4 := hP.cells 4
            have n5 := hP.cells 5
            have n6 := hP.cells 6
            have n7 := hP.cells 7
            have n8 := hP.cells 8
            have n9 := hP.cells 9
            simp [Bd.cs] at n0 n1 n2 n3 n4 n5 n6 n7 n8 n9
            generalize ((((((((((((((((((((w10).setCell ⟨r, 0, none⟩ (.int .i64 x0))).setCell ⟨r, 1, none⟩ (.int .i64 x1))).setCell ⟨r, 2, none⟩ (.bool x2))).setCell ⟨r, 3, none⟩ (.int .i64 x3))).setCell ⟨r, 4, none⟩ (.int .i64 x4))).setCell ⟨r, 5, none⟩ (.int .i64 x5))).setCell ⟨r, 6, none⟩ (.int .i64 x6))).setCell ⟨r, 7, none⟩ (.int .i64 x7))).setCell ⟨r, 8, none⟩ (.int .i64 x8))).setCell ⟨r, 9, none⟩ (.string x9)) = WE at *
            exact bodyPost_ret (v := .agg #[.int .i64 x0, .int .i64 x1, .bool x2, .int .i64 x3, .int .i64 x4, .int .i64 x5, .int .i64 x6, .int .i64 x7, .int .i64 x8, .string x9]) (by simp [results, Try.results28, go_sem, n0, n1, n2, n3, n4, n5, n6, n7, n8, n9]) rfl ⟨⟨x0, x1, x2, x3, x4, x5, x6, x7, x8, x9⟩, rfl, hpd, hcE.more (by omega), hoE⟩
    · go_wp2_with fail
      refine (pick_any p a zs cap (M + 18) _ _ hz (by omega) hc).mono ?_
      rintro e w12 ⟨y, rfl, hry, hxy, hc12, ho12⟩
      replace hbr := hbr.only ho12 hrp
      replace hbq := hbq.only ho12 hqp
      replace hor := hor.trans ho12
      clear hc ho12
      have hc := hc12
      clear hc12
      have h30 : IntKind.i64.wrap (30 + (y : Int)) = 30 + (y : Int) := by rw [IntKind.wrap_i64]; omega
      have kj := hbq.cells 8
      have gj := hbq.free 8
      have hql := hbq.lt
      simp [Bd.cs] at kj
      have st : BX.Box (w12.setCell ⟨q, 8, none⟩ (.int .i64 (30 + (y : Int)))) q 24 (⟨(r1 : Int), (r2 : Int), b3, (r4 : Int), (r5 : Int), 1 + (r6 : Int), (r7 : Int), 0, 30 + (y : Int), s⟩) := hbq.set rfl
      have hc' := BX.cur_set (j := 8) (v := .int .i64 (30 + (y : Int))) hc hpq
      have ho' := BX.only_set (j := 8) (v := .int .i64 (30 + (y : Int))) hor hqw
      have hbr' := hbr.far (g := q) (j := 8) (v := .int .i64 (30 + (y : Int))) hrq
      have hl' : q < (w12.setCell ⟨q, 8, none⟩ (.int .i64 (30 + (y : Int)))).heap.size := st.lt
      clear hbq hc hor hbr
      have hbq := st
      have hc := hc'
      have hor := ho'
      have hbr := hbr'
      clear st hc' ho' hbr'
      go_wp2_with fail
      clear kj gj hql hl'
      generalize w12.setCell ⟨q, 8, none⟩ (.int .i64 (30 + (y : Int))) = w13 at *
      refine (pick_any p a zs cap (M + 20) _ _ hz (by omega) hc).mono ?_
      rintro e w14 ⟨u, rfl, hru, hxu, hc14, ho14⟩
      replace hbr := hbr.only ho14 hrp
      replace hbq := hbq.only ho14 hqp
      replace hor := hor.trans ho14
      clear hc ho14
      have hc := hc14
      clear hc14
      have kj := hbq.cells 7
      have gj := hbq.free 7
      have hql := hbq.lt
      simp [Bd.cs] at kj
      have st : BX.Box (w14.setCell ⟨q, 7, none⟩ (.int .i64 ((u : Int)))) q 24 (⟨(r1 : Int), (r2 : Int), b3, (r4 : Int), (r5 : Int), 1 + (r6 : Int), (r7 : Int), (u : Int), 30 + (y : Int), s⟩) := hbq.set rfl
      have hc' := BX.cur_set (j := 7) (v := .int .i64 ((u : Int))) hc hpq
      have ho' := BX.only_set (j := 7) (v := .int .i64 ((u : Int))) hor hqw
      have hbr' := hbr.far (g := q) (j := 7) (v := .int .i64 ((u : Int))) hrq
      have hl' : q < (w14.setCell ⟨q, 7, none⟩ (.int .i64 ((u : Int)))).heap.size := st.lt
      clear hbq hc hor hbr
      have hbq := st
      have hc := hc'
      have hor := ho'
      have hbr := hbr'
      clear st hc' ho' hbr'
      go_wp2_with fail
      clear kj gj hql hl'
      generalize w14.setCell ⟨q, 7, none⟩ (.int .i64 (u : Int)) = w15 at *
      refine (pick_any p a zs cap (M + 22) _ _ hz (by omega) hc).mono ?_
      rintro e w10 ⟨r10, rfl, hr10, hx10, hc10, ho10⟩
      replace hbr := hbr.only ho10 hrp
      replace hbq := hbq.only ho10 hqp
      replace hor := hor.trans ho10
      clear hc ho10
      have hc := hc10
      clear hc10
      generalize hbb : (⟨(r1 : Int), (r2 : Int), b3, (r4 : Int), (r5 : Int), 1 + (r6 : Int), (r7 : Int), (u : Int), 30 + (y : Int), s⟩ : Bd) = bb at hbq
      have hpy : bb.py.size ≤ 60 := by rw [← hbb]; exact hs
      clear hbb
      by_cases h0 : r10 = 0
      · subst h0
        replace hc := hc.alloc (.cells #[.int .i64 0, .int .i64 1000000, .int .i64 1000001] 3)
        replace hbr := hbr.alloc (.cells #[.int .i64 0, .int .i64 1000000, .int .i64 1000001] 3)
        have hbl := hbq.lt
        replace hbq := hbq.alloc (.cells #[.int .i64 0, .int .i64 1000000, .int .i64 1000001] 3)
        have hsz := hor.size
        replace hor := hor.alloc (.cells #[.int .i64 0, .int .i64 1000000, .int .i64 1000001] 3)
        go_wp2_with fail
        refine (among_any p a zs cap (M + 24) (some ⟨w10.heap.size, 0, none⟩) [0, 1000000, 1000001] 3 _ hz (by omega) hc (by simp) (by simp) (BX.new_ints w10 [0, 1000000, 1000001] 3) (fun b off e => by simp at e; omega)).mono ?_
        rintro e w11 ⟨z, rfl, hzm, hc11, ho11⟩
        replace hbr := hbr.only ho11 hrp
        replace hbq := hbq.only ho11 hqp
        replace hor := hor.trans ho11
        clear hc ho11
        have hc := hc11
        clear hc11
        have kj := hbq.cells 5
        have gj := hbq.free 5
        have hql := hbq.lt
        simp [Bd.cs] at kj
        have st : BX.Box (w11.setCell ⟨q, 5, none⟩ (.int .i64 (z))) q 24 ({ bb with lf := z }) := hbq.set rfl
        have hc' := BX.cur_set (j := 5) (v := .int .i64 (z)) hc hpq
        have ho' := BX.only_set (j := 5) (v := .int .i64 (z)) hor hqw
        have hbr' := hbr.far (g := q) (j := 5) (v := .int .i64 (z)) hrq
        have hl' : q < (w11.setCell ⟨q, 5, none⟩ (.int .i64 (z))).heap.size := st.lt
        clear hbq hc hor hbr
        have hbq := st
        have hc := hc'
        have hor := ho'
        have hbr := hbr'
        clear st hc' ho' hbr'
        generalize hb2 : ({ bb with lf := z } : Bd) = bd at hbq
        have hpd : bd.py.size ≤ 60 := by rw [← hb2]; exact hpy
        clear hb2 hpy
        obtain ⟨x0, x1, x2, x3, x4, x5, x6, x7, x8, x9⟩ := bd
        have k0 := hbq.cells 0
        have k1 := hbq.cells 1
        have k2 := hbq.cells 2
        have k3 := hbq.cells 3
        have k4 := hbq.cells 4
        have k5 := hbq.cells 5
        have k6 := hbq.cells 6
        have k7 := hbq.cells 7
        have k8 := hbq.cells 8
        have k9 := hbq.cells 9
        have m0 := hbr.cells 0
        have g0 := hbr.free 0
        have m1 := hbr.cells 1
        have g1 := hbr.free 1
        have m2 := hbr.cells 2
        have g2 := hbr.free 2
        have m3 := hbr.cells 3
        have g3 := hbr.free 3
        have m4 := hbr.cells 4
        have g4 := hbr.free 4
        have m5 := hbr.cells 5
        have g5 := hbr.free 5
        have m6 := hbr.cells 6
        have g6 := hbr.free 6
        have m7 := hbr.cells 7
        have g7 := hbr.free 7
        have m8 := hbr.cells 8
        have g8 := hbr.free 8
        have m9 := hbr.cells 9
        have g9 := hbr.free 9
        have hql := hbq.lt
        have hrl2 := hbr.lt
        simp [Bd.cs] at k0 k1 k2 k3 k4 k5 k6 k7 k8 k9
        simp [Bd.cs, B1.zero] at m0 m1 m2 m3 m4 m5 m6 m7 m8 m9
        have hP := hbr.put ⟨x0, x1, x2, x3, x4, x5, x6, x7, x8, x9⟩
        have hcE := BX.cur_set (BX.cur_set (BX.cur_set (BX.cur_set (BX.cur_set (BX.cur_set (BX.cur_set (BX.cur_set (BX.cur_set (BX.cur_set (hc) (g := r) (j := 0) (v := .int .i64 x0) hplt) (g := r) (j := 1) (v := .int .i64 x1) hplt) (g := r) (j := 2) (v := .bool x2) hplt) (g := r) (j := 3) (v := .int .i64 x3) hplt) (g := r) (j := 4) (v := .int .i64 x4) hplt) (g := r) (j := 5) (v := .int .i64 x5) hplt) (g := r) (j := 6) (v := .int .i64 x6) hplt) (g := r) (j := 7) (v := .int .i64 x7) hplt) (g := r) (j := 8) (v := .int .i64 x8) hplt) (g := r) (j := 9) (v := .string x9) hplt
        have hoE := BX.only_set (BX.only_set (BX.only_set (BX.only_set (BX.only_set (BX.only_set (BX.only_set (BX.only_set (BX.only_set (BX.only_set (hor) (g := r) (j := 0) (v := .int .i64 x0) (Nat.le_of_eq hr)) (g := r) (j := 1) (v := .int .i64 x1) (Nat.le_of_eq hr)) (g := r) (j := 2) (v := .bool x2) (Nat.le_of_eq hr)) (g := r) (j := 3) (v := .int .i64 x3) (Nat.le_of_eq hr)) (g := r) (j := 4) (v := .int .i64 x4) (Nat.le_of_eq hr)) (g := r) (j := 5) (v := .int .i64 x5) (Nat.le_of_eq hr)) (g := r) (j := 6) (v := .int .i64 x6) (Nat.le_of_eq hr)) (g := r) (j := 7) (v := .int .i64 x7) (Nat.le_of_eq hr)) (g := r) (j := 8) (v := .int .i64 x8) (Nat.le_of_eq hr)) (g := r) (j := 9) (v := .string x9) (Nat.le_of_eq hr)
        go_wp2
        clear k0 m0 g0 k1 m1 g1 k2 m2 g2 k3 m3 g3 k4 m4 g4 k5 m5 g5 k6 m6 g6 k7 m7 g7 k8 m8 g8 k9 m9 g9 hbq hbr hc hor
        have n0 := hP.cells 0
        have n1 := hP.cells 1
        have n2 := hP.cells 2
        have n3 := hP.cells 3
        have n4 := hP.cells 4
        have n5 := hP.cells 5
        have n6 := hP.cells 6
        have n7 := hP.cells 7
        have n8 := hP.cells 8
        have n9 := hP.cells 9
        simp [Bd.cs] at n0 n1 n2 n3 n4 n5 n6 n7 n8 n9
        generalize ((((((((((((((((((((w11.setCell ⟨q, 5, none⟩ (.int .i64 z)).setCell ⟨r, 0, none⟩ (.int .i64 x0))).setCell ⟨r, 1, none⟩ (.int .i64 x1))).setCell ⟨r, 2, none⟩ (.bool x2))).setCell ⟨r, 3, none⟩ (.int .i64 x3))).setCell ⟨r, 4, none⟩ (.int .i64 x4))).setCell ⟨r, 5, none⟩ (.int .i64 x5))).setCell ⟨r, 6, none⟩ (.int .i64 x6))).setCell ⟨r, 7, none⟩ (.int .i64 x7))).setCell ⟨r, 8, none⟩ (.int .i64 x8))).setCell ⟨r, 9, none⟩ (.string x9)) = WE at *
        exact bodyPost_ret (v := .agg #[.int .i64 x0, .int .i64 x1, .bool x2, .int .i64 x3, .int .i64 x4, .int .i64 x5, .int .i64 x6, .int .i64 x7, .int .i64 x8, .string x9]) (by simp [results, Try.results28, go_sem, n0, n1, n2, n3, n4, n5, n6, n7, n8, n9]) rfl ⟨⟨x0, x1, x2, x3, x4, x5, x6, x7, x8, x9⟩, rfl, hpd, hcE.more (by omega), hoE⟩
      · by_cases h1 : r10 = 1
        · subst h1
          replace hc := hc.alloc (.cells #[.int .i64 (-1), .int .i64 30, .int .i64 31] 3)
          replace hbr := hbr.alloc (.cells #[.int .i64 (-1), .int .i64 30, .int .i64 31] 3)
          have hbl := hbq.lt
          replace hbq := hbq.alloc (.cells #[.int .i64 (-1), .int .i64 30, .int .i64 31] 3)
          have hsz := hor.size
          replace hor := hor.alloc (.cells #[.int .i64 (-1), .int .i64 30, .int .i64 31] 3)
          go_wp2_with fail
          refine (among_any p a zs cap (M + 24) (some ⟨w10.heap.size, 0, none⟩) [-1, 30, 31] 3 _ hz (by omega) hc (by simp) (by simp) (BX.new_ints w10 [-1, 30, 31] 3) (fun b off e => by simp at e; omega)).mono ?_
          rintro e w11 ⟨z, rfl, hzm, hc11, ho11⟩
          replace hbr := hbr.only ho11 hrp
          replace hbq := hbq.only ho11 hqp
          replace hor := hor.trans ho11
          clear hc ho11
          have hc := hc11
          clear hc11
          have kj := hbq.cells 6
          have gj := hbq.free 6
          have hql := hbq.lt
          simp [Bd.cs] at kj
          have st : BX.Box (w11.setCell ⟨q, 6, none⟩ (.int .i64 (z))) q 24 ({ bb with hp := z }) := hbq.set rfl
          have hc' := BX.cur_set (j := 6) (v := .int .i64 (z)) hc hpq
          have ho' := BX.only_set (j := 6) (v := .int .i64 (z)) hor hqw
          have hbr' := hbr.far (g := q) (j := 6) (v := .int .i64 (z)) hrq
          have hl' : q < (w11.setCell ⟨q, 6, none⟩ (.int .i64 (z))).heap.size := st.lt
          clear hbq hc hor hbr
          have hbq := st
          have hc := hc'
          have hor := ho'
          have hbr := hbr'
          clear st hc' ho' hbr'
          generalize hb2 : ({ bb with hp := z } : Bd) = bd at hbq
          have hpd : bd.py.size ≤ 60 := by rw [← hb2]; exact hpy
          clear hb2 hpy
          obtain ⟨x0, x1, x2, x3, x4, x5, x6, x7, x8, x9⟩ := bd
          have k0 := hbq.cells 0
          have k1 := hbq.cells 1
          have k2 := hbq.cells 2
          have k3 := hbq.cells 3
          have k4 := hbq.cells 4
          have k5 := hbq.cells 5
          have k6 := hbq.cells 6
          have k7 := hbq.cells 7
          have k8 := hbq.cells 8
          have k9 := hbq.cells 9
          have m0 := hbr.cells 0
          have g0 := hbr.free 0
          have m1 := hbr.cells 1
          have g1 := hbr.free 1
          have m2 := hbr.cells 2
          have g2 := hbr.free 2
          have m3 := hbr.cells 3
          have g3 := hbr.free 3
          have m4 := hbr.cells 4
          have g4 := hbr.free 4
          have m5 := hbr.cells 5
          have g5 := hbr.free 5
          have m6 := hbr.cells 6
          have g6 := hbr.free 6
          have m7 := hbr.cells 7
          have g7 := hbr.free 7
          have m8 := hbr.cells 8
          have g8 := hbr.free 8
          have m9 := hbr.cells 9
          have g9 := hbr.free 9
          have hql := hbq.lt
          have hrl2 := hbr.lt
          simp [Bd.cs] at k0 k1 k2 k3 k4 k5 k6 k7 k8 k9
          simp [Bd.cs, B1.zero] at m0 m1 m2 m3 m4 m5 m6 m7 m8 m9
          have hP := hbr.put ⟨x0, x1, x2, x3, x4, x5, x6, x7, x8, x9⟩
          have hcE := BX.cur_set (BX.cur_set (BX.cur_set (BX.cur_set (BX.cur_set (BX.cur_set (BX.cur_set (BX.cur_set (BX.cur_set (BX.cur_set (hc) (g := r) (j := 0) (v := .int .i64 x0) hplt) (g := r) (j := 1) (v := .int .i64 x1) hplt) (g := r) (j := 2) (v := .bool x2) hplt) (g := r) (j := 3) (v := .int .i64 x3) hplt) (g := r) (j := 4) (v := .int .i64 x4) hplt) (g := r) (j := 5) (v := .int .i64 x5) hplt) (g := r) (j := 6) (v := .int .i64 x6) hplt) (g := r) (j := 7) (v := .int .i64 x7) hplt) (g := r) (j := 8) (v := .int .i64 x8) hplt) (g := r) (j := 9) (v := .string x9) hplt
          have hoE := BX.only_set (BX.only_set (BX.only_set (BX.only_set (BX.only_set (BX.only_set (BX.only_set (BX.only_set (BX.only_set (BX.only_set (hor) (g := r) (j := 0) (v := .int .i64 x0) (Nat.le_of_eq hr)) (g := r) (j := 1) (v := .int .i64 x1) (Nat.le_of_eq hr)) (g := r) (j := 2) (v := .bool x2) (Nat.le_of_eq hr)) (g := r) (j := 3) (v := .int .i64 x3) (Nat.le_of_eq hr)) (g := r) (j := 4) (v := .int .i64 x4) (Nat.le_of_eq hr)) (g := r) (j := 5) (v := .int .i64 x5) (Nat.le_of_eq hr)) (g := r) (j := 6) (v := .int .i64 x6) (Nat.le_of_eq hr)) (g := r) (j := 7) (v := .int .i64 x7) (Nat.le_of_eq hr)) (g := r) (j := 8) (v := .int .i64 x8) (Nat.le_of_eq hr)) (g := r) (j := 9) (v := .string x9) (Nat.le_of_eq hr)
          go_wp2
          clear k0 m0 g0 k1 m1 g1 k2 m2 g2 k3 m3 g3 k4 m4 g4 k5 m5 g5 k6 m6 g6 k7 m7 g7 k8 m8 g8 k9 m9 g9 hbq hbr hc hor
          have n0 := hP.cells 0
          have n1 := hP.cells 1
          have n2 := hP.cells 2
          have n3 := hP.cells 3
          have n4 := hP.cells 4
          have n5 := hP.cells 5
          have n6 := hP.cells 6
          have n7 := hP.cells 7
          have n8 := hP.cells 8
          have n9 := hP.cells 9
          simp [Bd.cs] at n0 n1 n2 n3 n4 n5 n6 n7 n8 n9
          generalize ((((((((((((((((((((w11.setCell ⟨q, 6, none⟩ (.int .i64 z)).setCell ⟨r, 0, none⟩ (.int .i64 x0))).setCell ⟨r, 1, none⟩ (.int .i64 x1))).setCell ⟨r, 2, none⟩ (.bool x2))).setCell ⟨r, 3, none⟩ (.int .i64 x3))).setCell ⟨r, 4, none⟩ (.int .i64 x4))).setCell ⟨r, 5, none⟩ (.int .i64 x5))).setCell ⟨r, 6, none⟩ (.int .i64 x6))).setCell ⟨r, 7, none⟩ (.int .i64 x7))).setCell ⟨r, 8, none⟩ (.int .i64 x8))).setCell ⟨r, 9, none⟩ (.string x9)) = WE at *
          exact bodyPost_ret (v := .agg #[.int .i64 x0, .int .i64 x1, .bool x2, .int .i64 x3, .int .i64 x4, .int .i64 x5, .int .i64 x6, .int .i64 x7, .int .i64 x8, .string x9]) (by simp [results, Try.results28, go_sem, n0, n1, n2, n3, n4, n5, n6, n7, n8, n9]) rfl ⟨⟨x0, x1, x2, x3, x4, x5, x6, x7, x8, x9⟩, rfl, hpd, hcE.more (by omega), hoE⟩
        · by_cases h2 : r10 = 2
          · subst h2
            go_wp2_with fail
            refine (pick_any p a zs cap (M + 24) _ _ hz (by omega) hc).mono ?_
            rintro e w11 ⟨z, rfl, hrz, hxz, hc11, ho11⟩
            replace hbr := hbr.only ho11 hrp
            replace hbq := hbq.only ho11 hqp
            replace hor := hor.trans ho11
            clear hc ho11
            have hc := hc11
            clear hc11
            have kj := hbq.cells 7
            have gj := hbq.free 7
            have hql := hbq.lt
            simp [Bd.cs] at kj
            have st : BX.Box (w11.setCell ⟨q, 7, none⟩ (.int .i64 ((z : Int)))) q 24 ({ bb with of := (z : Int) }) := hbq.set rfl
            have hc' := BX.cur_set (j := 7) (v := .int .i64 ((z : Int))) hc hpq
            have ho' := BX.only_set (j := 7) (v := .int .i64 ((z : Int))) hor hqw
            have hbr' := hbr.far (g := q) (j := 7) (v := .int .i64 ((z : Int))) hrq
            have hl' : q < (w11.setCell ⟨q, 7, none⟩ (.int .i64 ((z : Int)))).heap.size := st.lt
            clear hbq hc hor hbr
            have hbq := st
            have hc := hc'
            have hor := ho'
            have hbr := hbr'
            clear st hc' ho' hbr'
            generalize hb2 : ({ bb with of := (z : Int) } : Bd) = bd at hbq
            have hpd : bd.py.size ≤ 60 := by rw [← hb2]; exact hpy
            clear hb2 hpy
            obtain ⟨x0, x1, x2, x3, x4, x5, x6, x7, x8, x9⟩ := bd
            have k0 := hbq.cells 0
            have k1 := hbq.cells 1
            have k2 := hbq.cells 2
            have k3 := hbq.cells 3
            have k4 := hbq.cells 4
            have k5 := hbq.cells 5
            have k6 := hbq.cells 6
            have k7 := hbq.cells 7
            have k8 := hbq.cells 8
            have k9 := hbq.cells 9
            have m0 := hbr.cells 0
            have g0 := hbr.free 0
            have m1 := hbr.cells 1
            have g1 := hbr.free 1
            have m2 := hbr.cells 2
            have g2 := hbr.free 2
            have m3 := hbr.cells 3
            have g3 := hbr.free 3
            have m4 := hbr.cells 4
            have g4 := hbr.free 4
            have m5 := hbr.cells 5
            have g5 := hbr.free 5
            have m6 := hbr.cells 6
            have g6 := hbr.free 6
            have m7 := hbr.cells 7
            have g7 := hbr.free 7
            have m8 := hbr.cells 8
            have g8 := hbr.free 8
            have m9 := hbr.cells 9
            have g9 := hbr.free 9
            have hql := hbq.lt
            have hrl2 := hbr.lt
            simp [Bd.cs] at k0 k1 k2 k3 k4 k5 k6 k7 k8 k9
            simp [Bd.cs, B1.zero] at m0 m1 m2 m3 m4 m5 m6 m7 m8 m9
            have hP := hbr.put ⟨x0, x1, x2, x3, x4, x5, x6, x7, x8, x9⟩
            have hcE := BX.cur_set (BX.cur_set (BX.cur_set (BX.cur_set (BX.cur_set (BX.cur_set (BX.cur_set (BX.cur_set (BX.cur_set (BX.cur_set (hc) (g := r) (j := 0) (v := .int .i64 x0) hplt) (g := r) (j := 1) (v := .int .i64 x1) hplt) (g := r) (j := 2) (v := .bool x2) hplt) (g := r) (j := 3) (v := .int .i64 x3) hplt) (g := r) (j := 4) (v := .int .i64 x4) hplt) (g := r) (j := 5) (v := .int .i64 x5) hplt) (g := r) (j := 6) (v := .int .i64 x6) hplt) (g := r) (j := 7) (v := .int .i64 x7) hplt) (g := r) (j := 8) (v := .int .i64 x8) hplt) (g := r) (j := 9) (v := .string x9) hplt
            have hoE := BX.only_set (BX.only_set (BX.only_set (BX.only_set (BX.only_set (BX.only_set (BX.only_set (BX.only_set (BX.only_set (BX.only_set (hor) (g := r) (j := 0) (v := .int .i64 x0) (Nat.le_of_eq hr)) (g := r) (j := 1) (v := .int .i64 x1) (Nat.le_of_eq hr)) (g := r) (j := 2) (v := .bool x2) (Nat.le_of_eq hr)) (g := r) (j := 3) (v := .int .i64 x3) (Nat.le_of_eq hr)) (g := r) (j := 4) (v := .int .i64 x4) (Nat.le_of_eq hr)) (g := r) (j := 5) (v := .int .i64 x5) (Nat.le_of_eq hr)) (g := r) (j := 6) (v := .int .i64 x6) (Nat.le_of_eq hr)) (g := r) (j := 7) (v := .int .i64 x7) (Nat.le_of_eq hr)) (g := r) (j := 8) (v := .int .i64 x8) (Nat.le_of_eq hr)) (g := r) (j := 9) (v := .string x9) (Nat.le_of_eq hr)
            go_wp2
            clear k0 m0 g0 k1 m1 g1 k2 m2 g2 k3 m3 g3 k4 m4 g4 k5 m5 g5 k6 m6 g6 k7 m7 g7 k8 m8 g8 k9 m9 g9 hbq hbr hc hor
            have n0 := hP.cells 0
            have n1 := hP.cells 1
            have n2 := hP.cells 2
            have n3 := hP.cells 3
            have n4 := hP.cells 4
            have n5 := hP.cells 5
            have n6 := hP.cells 6
            have n7 := hP.cells 7
            have n8 := hP.cells 8
            have n9 := hP.cells 9
            simp [Bd.cs] at n0 n1 n2 n3 n4 n5 n6 n7 n8 n9
            generalize ((((((((((((((((((((w11.setCell ⟨q, 7, none⟩ (.int .i64 (z : Int))).setCell ⟨r, 0, none⟩ (.int .i64 x0))).setCell ⟨r, 1, none⟩ (.int .i64 x1))).setCell ⟨r, 2, none⟩ (.bool x2))).setCell ⟨r, 3, none⟩ (.int .i64 x3))).setCell ⟨r, 4, none⟩ (.int .i64 x4))).setCell ⟨r, 5, none⟩ (.int .i64 x5))).setCell ⟨r, 6, none⟩ (.int .i64 x6))).setCell ⟨r, 7, none⟩ (.int .i64 x7))).setCell ⟨r, 8, none⟩ (.int .i64 x8))).setCell ⟨r, 9, none⟩ (.string x9)) = WE at *
            exact bodyPost_ret (v := .agg #[.int .i64 x0, .int .i64 x1, .bool x2, .int .i64 x3, .int .i64 x4, .int .i64 x5, .int .i64 x6, .int .i64 x7, .int .i64 x8, .string x9]) (by simp [results, Try.results28, go_sem, n0, n1, n2, n3, n4, n5, n6, n7, n8, n9]) rfl ⟨⟨x0, x1, x2, x3, x4, x5, x6, x7, x8, x9⟩, rfl, hpd, hcE.more (by omega), hoE⟩
          · have e0 : ((r10 : Int) == 0) = false := by simp; omega
            have e1 : ((r10 : Int) == 1) = false := by simp; omega
            have e2 : ((r10 : Int) == 2) = false := by simp; omega
            generalize hb2 : (bb : Bd) = bd at hbq
            have hpd : bd.py.size ≤ 60 := by rw [← hb2]; exact hpy
            clear hb2 hpy
            obtain ⟨x0, x1, x2, x3, x4, x5, x6, x7, x8, x9⟩ := bd
            have k0 := hbq.cells 0
            have k1 := hbq.cells 1
            have k2 := hbq.cells 2
            have k3 := hbq.cells 3
            have k4 := hbq.cells 4
            have k5 := hbq.cells 5
            have k6 := hbq.cells 6
            have k7 := hbq.cells 7
            have k8 := hbq.cells 8
            have k9 := hbq.cells 9
            have m0 := hbr.cells 0
            have g0 := hbr.free 0
            have m1 := hbr.cells 1
            have g1 := hbr.free 1
            have m2 := hbr.cells 2
            have g2 := hbr.free 2
            have m3 := hbr.cells 3
            have g3 := hbr.free 3
            have m4 := hbr.cells 4
            have g4 := hbr.free 4
            have m5 := hbr.cells 5
            have g5 := hbr.free 5
            have m6 := hbr.cells 6
            have g6 := hbr.free 6
            have m7 := hbr.cells 7
            have g7 := hbr.free 7
            have m8 := hbr.cells 8
            have g8 := hbr.free 8
            have m9 := hbr.cells 9
            have g9 := hbr.free 9
            have hql := hbq.lt
            have hrl2 := hbr.lt
            simp [Bd.cs] at k0 k1 k2 k3 k4 k5 k6 k7 k8 k9
            simp [Bd.cs, B1.zero] at m0 m1 m2 m3 m4 m5 m6 m7 m8 m9
            have hP := hbr.put ⟨x0, x1, x2, x3, x4, x5, x6, x7, x8, x9⟩
            have hcE := BX.cur_set (BX.cur_set (BX.cur_set (BX.cur_set (BX.cur_set (BX.cur_set (BX.cur_set (BX.cur_set (BX.cur_set (BX.cur_set (hc) (g := r) (j := 0) (v := .int .i64 x0) hplt) (g := r) (j := 1) (v := .int .i64 x1) hplt) (g := r) (j := 2) (v := .bool x2) hplt) (g := r) (j := 3) (v := .int .i64 x3) hplt) (g := r) (j := 4) (v := .int .i64 x4) hplt) (g := r) (j := 5) (v := .int .i64 x5) hplt) (g := r) (j := 6) (v := .int .i64 x6) hplt) (g := r) (j := 7) (v := .int .i64 x7) hplt) (g := r) (j := 8) (v := .int .i64 x8) hplt) (g := r) (j := 9) (v := .string x9) hplt
            have hoE := BX.only_set (BX.only_set (BX.only_set (BX.only_set (BX.only_set (BX.only_set (BX.only_set (BX.only_set (BX.only_set (BX.only_set (hor) (g := r) (j := 0) (v := .int .i64 x0) (Nat.le_of_eq hr)) (g := r) (j := 1) (v := .int .i64 x1) (Nat.le_of_eq hr)) (g := r) (j := 2) (v := .bool x2) (Nat.le_of_eq hr)) (g := r) (j := 3) (v := .int .i64 x3) (Nat.le_of_eq hr)) (g := r) (j := 4) (v := .int .i64 x4) (Nat.le_of_eq hr)) (g := r) (j := 5) (v := .int .i64 x5) (Nat.le_of_eq hr)) (g := r) (j := 6) (v := .int .i64 x6) (Nat.le_of_eq hr)) (g := r) (j := 7) (v := .int .i64 x7) (Nat.le_of_eq hr)) (g := r) (j := 8) (v := .int .i64 x8) (Nat.le_of_eq hr)) (g := r) (j := 9) (v := .string x9) (Nat.le_of_eq hr)
            go_wp2
            clear k0 m0 g0 k1 m1 g1 k2 m2 g2 k3 m3 g3 k4 m4 g4 k5 m5 g5 k6 m6 g6 k7 m7 g7 k8 m8 g8 k9 m9 g9 hbq hbr hc hor
            have n0 := hP.cells 0
            have n1 := hP.cells 1
            have n2 := hP.cells 2
            have n3 := hP.cells 3
            have n4 := hP.cells 4
            have n5 := hP.cells 5
            have n6 := hP.cells 6
            have n7 := hP.cells 7
            have n8 := hP.cells 8
            have n9 := hP.cells 9
            simp [Bd.cs] at n0 n1 n2 n3 n4 n5 n6 n7 n8 n9
            generalize ((((((((((((((((((((w10).setCell ⟨r, 0, none⟩ (.int .i64 x0))).setCell ⟨r, 1, none⟩ (.int .i64 x1))).setCell ⟨r, 2, none⟩ (.bool x2))).setCell ⟨r, 3, none⟩ (.int .i64 x3))).setCell ⟨r, 4, none⟩ (.int .i64 x4))).setCell ⟨r, 5, none⟩ (.int .i64 x5))).setCell ⟨r, 6, none⟩ (.int .i64 x6))).setCell ⟨r, 7, none⟩ (.int .i64 x7))).setCell ⟨r, 8, none⟩ (.int .i64 x8))).setCell ⟨r, 9, none⟩ (.string x9)) = WE at *
            exact bodyPost_ret (v := .agg #[.int .i64 x0, .int .i64 x1, .bool x2, .int .i64 x3, .int .i64 x4, .int .i64 x5, .int .i64 x6, .int .i64 x7, .int .i64 x8, .string x9]) (by simp [results, Try.results28, go_sem, n0, n1, n2, n3, n4, n5, n6, n7, n8, n9]) rfl ⟨⟨x0, x1, x2, x3, x4, x5, x6, x7, x8, x9⟩, rfl, hpd, hcE.more (by omega), hoE⟩
end Go.Proofs.Ytdgflhgbcfehhaa
