import Derived.Test.YtcpfbgogfhlmjaaDoorRows
import Derived.Test.YtcpfbgogfhlmjaaDoorM9
import Derived.WalkKit
import Derived.WalkSpells
import Derived.WalkLawsBesides
import Derived.Outline
/- The specification's l2Number: the lowest bytes of a number, the highest first. -/
namespace Go.Proofs.YtcpfbgogfhlmjaaDoor
open Go.RowKit
theorem Tryd.info5b : (Tryd.prog.info? 5).map (fun i => (i.zero, i.size, i.bytes)) = some (some (.int .u8 0), 1, 1) := by kernel_rfl
set_option maxHeartbeats 800000 in
set_option maxRecDepth 100000 in
theorem l2Number_any (n many : Nat) (w : World) (hn : n ≤ 4294967296) (hm : many ≤ 8) (hm1 : 1 ≤ many) :
    Calls Tryd.prog 84 #[.int .i64 n, .int .i64 many] w fun e w' => e = .returned (.string ⟨(M9.low n many).toArray⟩) ∧ Below w.heap.size w w' := by
  obtain ⟨i0, hi, hz0, hz1, hz2⟩ := info_parts Tryd.info5b
  go_enter Tryd.func84, Tryd.ntmps84
  go_wp2_with (at_make; refine wpList_make_full _ rfl _ _ 22 rfl w.heap.size 5 i0 (.int .u8 0) 1 Tryd.underlying22 hi hz0 hz1 .i64 .i64 _ _ many rfl rfl rfl rfl ?_ ?_ ?_ ?_)
  · rw [hz2]; omega
  · unfold maxLen; omega
  · omega
  intro w1 hown hgrow
  rw [M9.made_bv, ← M9.part_zero n many] at hown
  have hb1 : Below w.heap.size w w1 := (Below.refl _ _).grown hgrow (Nat.le_refl _) (fun k hk => by cases hk)
  clear hgrow hi hz0 hz1 hz2
  go_wp2_with fail
  go_loopw [0, 6] (fun nv iv wr => ∃ j q : Nat, nv = .int .i64 q ∧ iv = .int .i64 ((many : Int) - 1 - j) ∧ j ≤ many ∧ Hid (n / 256 ^ j = q) ∧ q ≤ 4294967296 ∧ wr.ownsRow w.heap.size 5 1 (.slice (some ⟨w.heap.size, 0, none⟩) many many) many (M2.bv (M9.part n many j)) ∧ Below w.heap.size w wr) (fun _ iv _ => (intOf iv + 1).toNat)
  case atStart => exact ⟨0, n, rfl, by simp, by omega, by show _ = _; simp, hn, hown, hb1⟩
  case round =>
    clear hown hb1
    obtain ⟨j, q, rfl, rfl, hj, hq, hqn, hown, hb⟩ := hrel
    by_cases hl : j < many
    · obtain ⟨i, hi⟩ : ∃ i : Nat, many - 1 - j = i := ⟨_, rfl⟩
      have hI : (many : Int) - 1 - j = (i : Int) := by omega
      rw [hI]
      obtain ⟨z, hz⟩ := M9.bv_some (M9.part n many j) i (by rw [M9.part_len _ _ _ hj]; omega)
      have hcell : wr.cell? ⟨w.heap.size, i, none⟩ = some (.int .u8 z) := by
        rw [hown.cellAt i (by omega)]; exact hz
      have hfz := hown.frozenAt i
      have hst := hown.stored i (.int .u8 ((q % 256 : Nat) : Int))
      rw [M9.bv_set, ← hq.out, ← hi, M9.part_set n many j hl, hi, hq.out] at hst
      have R1 := hst.1
      have R2 := hb.grown hst.2 hb.size (fun k hk => by simp at hk; omega)
      have hn2 : Hid (n / 256 ^ (j + 1) = q / 256) := by show _ = _; rw [← M9.div_next, hq.out]
      have hil : i < many := by omega
      have hI2 : Hid ((i : Int) - 1 = (many : Int) - 1 - ((j + 1 : Nat) : Int)) := by show _ = _; omega
      have HI : Hid (many - 1 - j = i) := hi
      have hsh := M1.div_cast q 8
      clear hst hown hz hi hI hq
      go_wp2
      go_roundw
      case rel => exact ⟨j + 1, q / 256, by go_num, by rw [← hI2.out], by omega, hn2, by omega, R1, R2⟩
      case measure => simp [intOf]
    · obtain rfl : j = many := by omega
      have hneg : ¬ ((j : Int) - 1 - j ≥ 0) := by omega
      have hown' := hown
      rw [M9.part_all] at hown'
      have hlen := M9.low_len n j
      have hc := M2.conv_own (P := Tryd.prog) 22 9 5 Tryd.underlying22 Tryd.underlying5 Tryd.underlying9 (W := wr) (base := w.heap.size) (v := .slice (some ⟨w.heap.size, 0, none⟩) j j) (bs := M9.low n j) (by rw [hlen]; exact hown')
      clear hown hown' hq
      generalize hL : M9.low n j = L at *
      have HL : Hid (M9.low n j = L) := hL
      clear hL
      go_wp2
      go_ret
      exact ⟨M9.ret_str (by rw [HL.out]), hb⟩
end Go.Proofs.YtcpfbgogfhlmjaaDoor

/- The specification's l2Head: a head's bytes. -/
namespace Go.Proofs.YtcpfbgogfhlmjaaDoor
open Go.RowKit
abbrev hs (m n : Nat) : ByteArray := ⟨(M7.hb m n).toArray⟩
set_option maxHeartbeats 800000 in
set_option maxRecDepth 100000 in
theorem l2Head_any (m n : Nat) (w : World) (hm : m ≤ 7) (hn : n ≤ 4294967296) :
    Calls Tryd.prog 70 #[.int .i64 m, .int .i64 n] w fun e w' => e = .returned (.string (hs m n)) ∧ Below w.heap.size w w' := by
  by_cases h1 : n < 24
  · have HB : Hid (_ = M7.hb m n) := M9.hb1 m n h1
    go_enter Tryd.func70, Tryd.ntmps70
    go_wp2_with fail
    have hx : (32 : Int) * m + n = ((32 * m + n : Nat) : Int) := by omega
    rw [hx]
    refine (l2Number_any (32 * m + n) 1 _ (by omega) (by omega) (by omega)).mono ?_
    rintro e w1 ⟨rfl, hb1⟩
    clear hx
    rw [HB.out]
    generalize hL : M7.hb m n = L at *
    have HL : Hid (M7.hb m n = L) := hL
    clear hL
    go_wp2
    go_ret
    exact ⟨M9.ret_str (congrArg (fun l : List UInt8 => (⟨l.toArray⟩ : ByteArray)) HL.out.symm), hb1⟩
  · by_cases h2 : n < 256
    · have HB : Hid (_ = M7.hb m n) := M9.hb2 m n h1 h2
      go_enter Tryd.func70, Tryd.ntmps70
      go_wp2_with fail
      have hx : (32 : Int) * m + 24 = ((32 * m + 24 : Nat) : Int) := by omega
      rw [hx]
      refine (l2Number_any (32 * m + 24) 1 _ (by omega) (by omega) (by omega)).mono ?_
      rintro e w1 ⟨rfl, hb1⟩
      clear hx
      generalize hL : M9.low (32 * m + 24) 1 = L
      have HL : Hid (M9.low (32 * m + 24) 1 = L) := hL
      have l1 : L.length = 1 := by rw [← hL]; exact M9.low_len _ _
      clear hL
      go_wp2_with fail
      refine (l2Number_any n 1 _ (by omega) (by omega) (by omega)).mono ?_
      rintro e w2 ⟨rfl, hb2⟩
      have hB := hb1.trans (hb2.mono hb1.size)
      generalize hK : M9.low n 1 = K
      have HK : Hid (M9.low n 1 = K) := hK
      have l2 : K.length = 1 := by rw [← hK]; exact M9.low_len _ _
      clear hK hb1 hb2
      go_wp2
      go_ret
      exact ⟨M9.ret_str (by rw [M9.str_app, ← HL.out, ← HK.out]; exact congrArg (fun l : List UInt8 => (⟨l.toArray⟩ : ByteArray)) HB.out), hB⟩
    · by_cases h3 : n < 65536
      · have HB : Hid (_ = M7.hb m n) := M9.hb3 m n h1 h2 h3
        have k1 : decide ((n : Int) < 24) = false := by simp; omega
        have k2 : decide ((n : Int) < 256) = false := by simp; omega
        have k3 : decide ((n : Int) < 65536) = true := by simp; omega
        have H3 : Hid (n < 65536) := h3
        clear h1 h2 h3
        go_enter Tryd.func70, Tryd.ntmps70
        go_wp2_with fail
        have hx : (32 : Int) * m + 25 = ((32 * m + 25 : Nat) : Int) := by omega
        rw [hx]
        refine (l2Number_any (32 * m + 25) 1 _ (by omega) (by omega) (by omega)).mono ?_
        rintro e w1 ⟨rfl, hb1⟩
        clear hx
        generalize hL : M9.low (32 * m + 25) 1 = L
        have HL : Hid (M9.low (32 * m + 25) 1 = L) := hL
        have l1 : L.length = 1 := by rw [← hL]; exact M9.low_len _ _
        clear hL
        go_wp2_with fail
        refine (l2Number_any n 2 _ (by omega) (by omega) (by omega)).mono ?_
        rintro e w2 ⟨rfl, hb2⟩
        have hB := hb1.trans (hb2.mono hb1.size)
        generalize hK : M9.low n 2 = K
        have HK : Hid (M9.low n 2 = K) := hK
        have l2 : K.length = 2 := by rw [← hK]; exact M9.low_len _ _
        clear hK hb1 hb2
        go_wp2
        go_ret
        exact ⟨M9.ret_str (by rw [M9.str_app, ← HL.out, ← HK.out]; exact congrArg (fun l : List UInt8 => (⟨l.toArray⟩ : ByteArray)) HB.out), hB⟩
      · have HB : Hid (_ = M7.hb m n) := M9.hb4 m n h1 h2 h3
        have k1 : decide ((n : Int) < 24) = false := by simp; omega
        have k2 : decide ((n : Int) < 256) = false := by simp; omega
        have k3 : decide ((n : Int) < 65536) = false := by simp; omega
        clear h1 h2 h3
        go_enter Tryd.func70, Tryd.ntmps70
        go_wp2_with fail
        have hx : (32 : Int) * m + 26 = ((32 * m + 26 : Nat) : Int) := by omega
        rw [hx]
        refine (l2Number_any (32 * m + 26) 1 _ (by omega) (by omega) (by omega)).mono ?_
        rintro e w1 ⟨rfl, hb1⟩
        clear hx
        generalize hL : M9.low (32 * m + 26) 1 = L
        have HL : Hid (M9.low (32 * m + 26) 1 = L) := hL
        have l1 : L.length = 1 := by rw [← hL]; exact M9.low_len _ _
        clear hL
        go_wp2_with fail
        refine (l2Number_any n 4 _ (by omega) (by omega) (by omega)).mono ?_
        rintro e w2 ⟨rfl, hb2⟩
        have hB := hb1.trans (hb2.mono hb1.size)
        generalize hK : M9.low n 4 = K
        have HK : Hid (M9.low n 4 = K) := hK
        have l2 : K.length = 4 := by rw [← hK]; exact M9.low_len _ _
        clear hK hb1 hb2
        go_wp2
        go_ret
        exact ⟨M9.ret_str (by rw [M9.str_app, ← HL.out, ← HK.out]; exact congrArg (fun l : List UInt8 => (⟨l.toArray⟩ : ByteArray)) HB.out), hB⟩
end Go.Proofs.YtcpfbgogfhlmjaaDoor
