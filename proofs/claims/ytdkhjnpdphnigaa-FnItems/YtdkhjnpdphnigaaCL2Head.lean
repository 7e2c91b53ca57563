/- The specification's l2Head: a head's bytes. -/
import Derived.Test.YtdkhjnpdphnigaaRows
import Derived.Test.YtdkhjnpdphnigaaCL2Number
import Derived.WalkKit
import Derived.WalkSpells
import Derived.WalkLawsBesides
import Derived.Outline
namespace Go.Proofs.Ytdkhjnpdphnigaa
open Go.RowKit
abbrev hs (m n : Nat) : ByteArray := ⟨(M7.hb m n).toArray⟩
set_option maxHeartbeats 800000 in
set_option maxRecDepth 100000 in
theorem l2Head_any (m n : Nat) (w : World) (hm : m ≤ 7) (hn : n ≤ 4294967296) :
    Calls Try.prog 42 #[.int .i64 m, .int .i64 n] w fun e w' => e = .returned (.string (hs m n)) ∧ Below w.heap.size w w' := by
  by_cases h1 : n < 24
  · have HB : Hid (_ = M7.hb m n) := M9.hb1 m n h1
    go_enter Try.func42, Try.ntmps42
    go_wp2_with fail
    have hx : (32 : Int) * m + n = ((32 * m + n : Nat) : Int) := by omega
    rw [hx]
    refine (l2Number_any (32 * m + n) 1 _ (by omega) (by omega) (by omega)).mono ?_
    rintro e w1 ⟨rfl, hb1⟩
    clear hx
    rw [HB.out]
    generalize hL : M7.hb m n = L at *
    have HL : Hid (M7.hb m n = L) := hL
    clear hL
    go_wp2
    go_ret
    exact ⟨M9.ret_str (congrArg (fun l : List UInt8 => (⟨l.toArray⟩ : ByteArray)) HL.out.symm), hb1⟩
  · by_cases h2 : n < 256
    · have HB : Hid (_ = M7.hb m n) := M9.hb2 m n h1 h2
      go_enter Try.func42, Try.ntmps42
      go_wp2_with fail
      have hx : (32 : Int) * m + 24 = ((32 * m + 24 : Nat) : Int) := by omega
      rw [hx]
      refine (l2Number_any (32 * m + 24) 1 _ (by omega) (by omega) (by omega)).mono ?_
      rintro e w1 ⟨rfl, hb1⟩
      clear hx
      generalize hL : M9.low (32 * m + 24) 1 = L
      have HL : Hid (M9.low (32 * m + 24) 1 = L) := hL
      have l1 : L.length = 1 := by rw [← hL]; exact M9.low_len _ _
      clear hL
      go_wp2_with fail
      refine (l2Number_any n 1 _ (by omega) (by omega) (by omega)).mono ?_
      rintro e w2 ⟨rfl, hb2⟩
      have hB := hb1.trans (hb2.mono hb1.size)
      generalize hK : M9.low n 1 = K
      have HK : Hid (M9.low n 1 = K) := hK
      have l2 : K.length = 1 := by rw [← hK]; exact M9.low_len _ _
      clear hK hb1 hb2
      go_wp2
      go_ret
      exact ⟨M9.ret_str (by rw [M9.str_app, ← HL.out, ← HK.out]; exact congrArg (fun l : List UInt8 => (⟨l.toArray⟩ : ByteArray)) HB.out), hB⟩
    · by_cases h3 : n < 65536
      · have HB : Hid (_ = M7.hb m n) := M9.hb3 m n h1 h2 h3
        have k1 : decide ((n : Int) < 24) = false := by simp; omega
        have k2 : decide ((n : Int) < 256) = false := by simp; omega
        have k3 : decide ((n : Int) < 65536) = true := by simp; omega
        have H3 : Hid (n < 65536) := h3
        clear h1 h2 h3
        go_enter Try.func42, Try.ntmps42
        go_wp2_with fail
        have hx : (32 : Int) * m + 25 = ((32 * m + 25 : Nat) : Int) := by omega
        rw [hx]
        refine (l2Number_any (32 * m + 25) 1 _ (by omega) (by omega) (by omega)).mono ?_
        rintro e w1 ⟨rfl, hb1⟩
        clear hx
        generalize hL : M9.low (32 * m + 25) 1 = L
        have HL : Hid (M9.low (32 * m + 25) 1 = L) := hL
        have l1 : L.length = 1 := by rw [← hL]; exact M9.low_len _ _
        clear hL
        go_wp2_with fail
        refine (l2Number_any n 2 _ (by omega) (by omega) (by omega)).mono ?_
        rintro e w2 ⟨rfl, hb2⟩
        have hB := hb1.trans (hb2.mono hb1.size)
        generalize hK : M9.low n 2 = K
        have HK : Hid (M9.low n 2 = K) := hK
        have l2 : K.length = 2 := by rw [← hK]; exact M9.low_len _ _
        clear hK hb1 hb2
        go_wp2
        go_ret
        exact ⟨M9.ret_str (by rw [M9.str_app, ← HL.out, ← HK.out]; exact congrArg (fun l : List UInt8 => (⟨l.toArray⟩ : ByteArray)) HB.out), hB⟩
      · have HB : Hid (_ = M7.hb m n) := M9.hb4 m n h1 h2 h3
        have k1 : decide ((n : Int) < 24) = false := by simp; omega
        have k2 : decide ((n : Int) < 256) = false := by simp; omega
        have k3 : decide ((n : Int) < 65536) = false := by simp; omega
        clear h1 h2 h3
        go_enter Try.func42, Try.ntmps42
        go_wp2_with fail
        have hx : (32 : Int) * m + 26 = ((32 * m + 26 : Nat) : Int) := by omega
        rw [hx]
        refine (l2Number_any (32 * m + 26) 1 _ (by omega) (by omega) (by omega)).mono ?_
        rintro e w1 ⟨rfl, hb1⟩
        clear hx
        generalize hL : M9.low (32 * m + 26) 1 = L
        have HL : Hid (M9.low (32 * m + 26) 1 = L) := hL
        have l1 : L.length = 1 := by rw [← hL]; exact M9.low_len _ _
        clear hL
        go_wp2_with fail
        refine (l2Number_any n 4 _ (by omega) (by omega) (by omega)).mono ?_
        rintro e w2 ⟨rfl, hb2⟩
        have hB := hb1.trans (hb2.mono hb1.size)
        generalize hK : M9.low n 4 = K
        have HK : Hid (M9.low n 4 = K) := hK
        have l2 : K.length = 4 := by rw [← hK]; exact M9.low_len _ _
        clear hK hb1 hb2
        go_wp2
        go_ret
        exact ⟨M9.ret_str (by rw [M9.str_app, ← HL.out, ← HK.out]; exact congrArg (fun l : List UInt8 => (⟨l.toArray⟩ : ByteArray)) HB.out), hB⟩
end Go.Proofs.Ytdkhjnpdphnigaa
