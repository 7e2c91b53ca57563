/- The law FnHeads answers true, whatever bytes it draws from. -/
import Derived.Test.YtdkhjnpdphnigaaRows
import Derived.Test.YtdkhjnpdphnigaaCHeadsD
import Derived.Test.YtdkhjnpdphnigaaCHeadOf
import Derived.Test.YtdkhjnpdphnigaaCTakeHead
import Derived.Test.YtdkhjnpdphnigaaCTakeHeadA
import Derived.Test.YtdkhjnpdphnigaaCNumberItem
import Derived.WalkKit
import Derived.WalkSpells
import Derived.WalkLawsBesides
import Derived.Outline
import Derived.Deep.DeepCutAuto
namespace Go.Proofs.Ytdkhjnpdphnigaa
open Go.RowKit
namespace HD
theorem bl_app (s t : ByteArray) : M8.bl (s ++ t) = M8.bl s ++ M8.bl t := by
  unfold M8.bl
  rw [ByteArray.data_append]
  simp
/-- How long the shortest head is. -/
def long (n : Int) : Nat := if 65535 < n then 5 else if 255 < n then 3 else if 23 < n then 2 else 1
theorem hb_long (m n : Nat) : (M7.hb m n).length = long n := by
  unfold M7.hb long
  by_cases h1 : n < 24
  · rw [if_pos h1, if_neg (by omega), if_neg (by omega), if_neg (by omega)]; rfl
  · by_cases h2 : n < 256
    · rw [if_neg h1, if_pos h2, if_neg (by omega), if_neg (by omega), if_pos (by omega)]; rfl
    · by_cases h3 : n < 65536
      · rw [if_neg h1, if_neg h2, if_pos h3, if_neg (by omega), if_pos (by omega)]; rfl
      · rw [if_neg h1, if_neg h2, if_neg h3, if_pos (by omega)]; rfl
/-- What is told of a head that there is. -/
structure Is (m n : Int) (s : ByteArray) : Prop where
  size : s.size = long n
  take : M10.hdF (s ++ ⟨#[120]⟩) 0 = (m.toNat, n.toNat, s.size, true)
  m0 : 0 ≤ m
  n0 : 0 ≤ n
theorem is_of {m n : Int} (h : okH m n = true) : Is m n (headStr m n) := by
  have h' := h
  simp only [okH, okN, Bool.and_eq_true, decide_eq_true_eq] at h'
  obtain ⟨⟨h0, h7⟩, hn0, hn1⟩ := h'
  have hs : (headStr m n).size = long n := by
    rw [okH_yes h]
    show (M7.hb m.toNat n.toNat).toArray.size = _
    rw [List.size_toArray, hb_long, Int.toNat_of_nonneg hn0]
  have h5 : (headStr m n).size ≤ 5 := by rw [hs]; unfold long; (repeat' split) <;> omega
  have h1 : 1 ≤ (headStr m n).size := by rw [hs]; unfold long; (repeat' split) <;> omega
  have hl : (headStr m n ++ ⟨#[120]⟩ : ByteArray).size = (headStr m n).size + 1 := by rw [ByteArray.size_append]; rfl
  refine ⟨hs, ?_, h0, hn0⟩
  have := M10.hdF_yes (s := headStr m n ++ ⟨#[120]⟩) (a := 0) (by omega) (by omega)
  rw [show ((0 : Nat) : Int) = 0 from rfl] at this
  rw [this]
  unfold M10.hdR
  rw [List.drop_zero, bl_app]
  have hb : M8.bl (headStr m n) = M7.hb m.toNat n.toNat := by rw [okH_yes h]; rfl
  rw [hb, M7.hd_hb m.toNat n.toNat (by omega) (by omega)]
  simp only [Nat.zero_add]
  rw [hs, hb_long, Int.toNat_of_nonneg hn0]
end HD
set_option linter.unusedSimpArgs false in
set_option maxHeartbeats 6400000 in
set_option maxRecDepth 100000 in
theorem lawFnHeads_any (a a' : Option Addr) (zs ys : List Int) (ca cb : Nat) (w : World) (hz : zs.length ≤ 140737488355328) (hy : ys.length ≤ 140737488355328) (hbz : MC.BytesAt w w.heap.size a zs) (hby : MC.BytesAt w w.heap.size a' ys) :
    Calls Try.prog 4 #[.slice a zs.length ca, .slice a' ys.length cb] w fun e w' => e = .returned (.bool true) ∧ Below w.heap.size w w' := by
  by_cases h20 : zs.length + ys.length ≤ 1048576
  · have HBY : Hid (∀ W : World, Below w.heap.size w W → MC.BytesAt W W.heap.size a' ys) := fun W h => (hby.only (q := w.heap.size) (MC.Only.of_below h) (Nat.le_refl _) (Nat.le_refl _)).up h.size
    clear hby
    go_enter Try.func4, Try.ntmps4
    go_wp2_with fail
    refine (drawHeadOf_any a zs ca _ hz hbz).mono ?_
    rintro e W1 ⟨m, n, rfl, BW⟩
    clear hbz
    have IH : Hid (∀ W : World, Calls Try.prog 16 #[.int .i64 m, .int .i64 n] W fun e w' => e = .returned (.tuple #[.string (headStr m n), .bool (okH m n)]) ∧ Below W.heap.size W w') := fun W => implHeadOf_any m n W
    have SH : Hid (∀ W : World, Calls Try.prog 17 #[.int .i64 m, .int .i64 n] W fun e w' => e = .returned (.tuple #[.string (headStr m n), .bool (okH m n)]) ∧ Below W.heap.size W w') := fun W => specHeadOf_any m n W
    have HI : Hid (okH m n = true → HD.Is m n (headStr m n)) := HD.is_of
    have NI : Hid (∀ W : World, Calls Try.prog 21 #[.int .i64 n] W fun e w' => e = .returned (.tuple #[(numIt n).v, .bool (okN n)]) ∧ Below W.heap.size W w') := fun W => implNumberItem_any n W
    have NS : Hid (∀ W : World, Calls Try.prog 22 #[.int .i64 n] W fun e w' => e = .returned (.tuple #[(numIt n).v, .bool (okN n)]) ∧ Below W.heap.size W w') := fun W => specNumberItem_any n W
    generalize okH m n = ok at *
    generalize headStr m n = s at *
    generalize okN n = on at *
    generalize numIt n = it at *
    obtain ⟨i0, i1, i2, i3⟩ := it
    go_wp2_with fail
    refine (IH.out _).mono ?_
    rintro e W2 ⟨rfl, hb⟩
    replace BW := BW.trans (hb.mono BW.size)
    clear hb
    go_wp2_with fail
    refine (SH.out _).mono ?_
    rintro e W3 ⟨rfl, hb⟩
    replace BW := BW.trans (hb.mono BW.size)
    clear hb IH SH
    have hoo : (ok != ok) = false := by simp
    have hss : (s.toList != s.toList) = false := by simp
    go_upto_if 61 with fail
    go_cut [11, 12, 13, 14, 15] (fun _ _ _ _ _ wx => Below w.heap.size w wx)
    case first =>
      clear HBY NI NS
      cases ok
      · clear HI
        go_wp2_with fail
        go_meet
        exact BW
      · have hI := HI.out rfl
        have TH : Hid (∀ W : World, Calls Try.prog 18 #[.string (s ++ ⟨#[120]⟩), .int .i64 0] W fun e w' => e = .returned (.tuple #[.int .i64 m, .int .i64 n, .int .i64 (s.size : Int), .bool true]) ∧ Below W.heap.size W w') := fun W => by
          have h5 : s.size ≤ 5 := by rw [hI.size]; unfold HD.long; (repeat' split) <;> omega
          have := implTakeHead_any (s ++ ⟨#[120]⟩) 0 W (by rw [ByteArray.size_append]; show s.size + 1 ≤ maxLen; unfold maxLen; omega)
          rw [hI.take] at this
          simp only [M10.t4, Int.toNat_of_nonneg hI.m0, Int.toNat_of_nonneg hI.n0] at this
          exact this
        have hsz := hI.size
        have h5 : s.size ≤ 5 := by rw [hI.size]; unfold HD.long; (repeat' split) <;> omega
        clear HI hI
        go_wp2_with fail
        refine (TH.out _).mono ?_
        rintro e W4 ⟨rfl, hb⟩
        replace BW := BW.trans (hb.mono BW.size)
        clear hb TH
        have hmm : (m != m) = false := by simp
        have hnn : (n != n) = false := by simp
        have hzz : ((s.size : Int) != (s.size : Int)) = false := by simp
        unfold HD.long at hsz
        by_cases n1 : 65535 < n
        · rw [if_pos n1] at hsz
          have hl : ((s.size : Int) != 5) = false := by rw [hsz]; rfl
          clear hsz
          go_wp2_with fail
          go_meet
          exact BW
        · rw [if_neg n1] at hsz
          by_cases n2 : 255 < n
          · rw [if_pos n2] at hsz
            have hl : ((s.size : Int) != 3) = false := by rw [hsz]; rfl
            clear hsz
            go_wp2_with fail
            go_meet
            exact BW
          · rw [if_neg n2] at hsz
            by_cases n3 : 23 < n
            · rw [if_pos n3] at hsz
              have hl : ((s.size : Int) != 2) = false := by rw [hsz]; rfl
              clear hsz
              go_wp2_with fail
              go_meet
              exact BW
            · rw [if_neg n3] at hsz
              have hl : ((s.size : Int) != 1) = false := by rw [hsz]; rfl
              clear hsz
              go_wp2_with fail
              go_meet
              exact BW
    case rest =>
    clear BW HI hoo hss
    have BW := hcut
    clear hcut
    go_wp2_with fail
    refine (drawTakeHead_any a' ys cb _ hy (HBY.out _ BW)).mono ?_
    rintro e V1 ⟨t, x, rfl, ht, hb⟩
    replace BW := BW.trans (hb.mono BW.size)
    clear hb HBY
    have IT : Hid (∀ W : World, Calls Try.prog 18 #[.string t, .int .i64 x] W fun e w' => e = .returned (M10.t4 (M10.hdF t x)) ∧ Below W.heap.size W w') := fun W => implTakeHead_any t x W (by unfold maxLen; omega)
    have ST : Hid (∀ W : World, Calls Try.prog 20 #[.string t, .int .i64 x] W fun e w' => e = .returned (M10.t4 (M10.hdF t x)) ∧ Below W.heap.size W w') := fun W => specTakeHead_any t x W (by unfold maxLen; omega)
    generalize M10.hdF t x = T at *
    obtain ⟨t1, t2, t3, t4⟩ := T
    simp only [M10.t4] at IT ST
    go_wp2_with fail
    refine (IT.out _).mono ?_
    rintro e V2 ⟨rfl, hb⟩
    replace BW := BW.trans (hb.mono BW.size)
    clear hb
    go_wp2_with fail
    refine (ST.out _).mono ?_
    rintro e V3 ⟨rfl, hb⟩
    replace BW := BW.trans (hb.mono BW.size)
    clear hb IT ST
    go_wp2_with fail
    refine (NI.out _).mono ?_
    rintro e V4 ⟨rfl, hb⟩
    replace BW := BW.trans (hb.mono BW.size)
    clear hb NI
    replace BW := BW.alloc BW.size (.cells #[.int .i64 i0, .int .i64 i1, .string i2, .int .i64 i3] 43)
    go_wp2_with fail
    refine (NS.out _).mono ?_
    rintro e V5 ⟨rfl, hb⟩
    have k0 : V5.cell? ⟨V4.heap.size, 0, none⟩ = _ := hb.cell (by simp)
    have k1 : V5.cell? ⟨V4.heap.size, 1, none⟩ = _ := hb.cell (by simp)
    have k2 : V5.cell? ⟨V4.heap.size, 2, none⟩ = _ := hb.cell (by simp)
    have k3 : V5.cell? ⟨V4.heap.size, 3, none⟩ = _ := hb.cell (by simp)
    simp at k0 k1 k2 k3
    have hs5 := hb.size
    simp at hs5
    have hl5 : V4.heap.size < V5.heap.size := by omega
    replace BW := BW.trans (hb.mono BW.size)
    replace BW := BW.alloc BW.size (.cells #[.int .i64 i0, .int .i64 i1, .string i2, .int .i64 i3] 43)
    clear hb NS
    cases t4 <;> cases on
    all_goals (go_wp2; go_ret; exact ⟨rfl, BW⟩)
  · have h20' : (1048576 : Int) < (zs.length : Int) + (ys.length : Int) := by omega
    go_enter Try.func4, Try.ntmps4
    go_wp2
    go_ret
    exact ⟨rfl, Below.refl _ _⟩
end Go.Proofs.Ytdkhjnpdphnigaa
