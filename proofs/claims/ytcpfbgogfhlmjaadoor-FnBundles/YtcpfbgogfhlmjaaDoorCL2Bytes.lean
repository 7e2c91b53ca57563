/- The specification's l2Bytes of items that may stand in a value. -/
import Derived.Test.YtcpfbgogfhlmjaaDoorRows
import Derived.Test.YtcpfbgogfhlmjaaDoorM13
import Derived.Test.YtcpfbgogfhlmjaaDoorCL2Head
import Derived.WalkKit
import Derived.WalkSpells
import Derived.WalkLawsBesides
import Derived.Outline
import Derived.Deep.RegionWith
namespace Go.Proofs.YtcpfbgogfhlmjaaDoor
open Go.RowKit
theorem l2Head_as (m n : Nat) (M : Int) (G : List UInt8) (hM : M = (m : Int)) (hG : M7.hb m n = G) (hm : m ≤ 7) (hn : n ≤ 4294967296) :
    Hid (∀ W : World, Calls Tryd.prog 70 #[.int .i64 M, .int .i64 (n : Int)] W fun e w' => e = .returned (.string ⟨G.toArray⟩) ∧ Below W.heap.size W w') := fun W => by
  subst hM hG; exact l2Head_any m n W hm hn
set_option maxHeartbeats 3200000 in
set_option maxRecDepth 100000 in
theorem l2Bytes_any (a : Option Addr) (cap : Nat) (xs : List It) (w : World) (hl : xs.length ≤ 40) (hf : Hid (∀ j, j < xs.length → M13.fine (M11.at_ xs j))) (hin : M11.ItemsAt w a xs) :
    Calls Tryd.prog 53 #[.slice a xs.length cap] w fun e w' => e = .returned (.string ⟨(M12.bytes xs).toArray⟩) ∧ Below w.heap.size w w' := by
  go_enter Tryd.func53, Tryd.ntmps53
  go_wp2
  go_loopw [3, 8] (fun sv iv wr => ∃ (k : Nat) (A : List UInt8), sv = .string ⟨A.toArray⟩ ∧ iv = .int .i64 (k : Int) ∧ k ≤ xs.length ∧ Hid (M12.bytes (xs.take k) = A) ∧ A.length ≤ 65 * k ∧ Below w.heap.size w wr) (fun _ iv _ => (xs.length - intOf iv).toNat)
  case atStart => exact ⟨0, [], rfl, rfl, by omega, show Hid _ from by simp [Hid, M12.bytes], by simp, Below.refl _ _⟩
  case round =>
    obtain ⟨k, A, rfl, rfl, hk, hA, hlA, hb⟩ := hrel
    by_cases hkl : k < xs.length
    · obtain ⟨b, off, rfl, hlt, c0, c1, c2, c3⟩ := (hin.below hb).at hkl
      have HBx := M13.bytes_snoc xs k hkl
      rw [hA.out] at HBx
      have HF : Hid _ := hf.out k hkl
      have hil := M13.ib_len HF.out
      clear hA hin hf
      generalize M11.at_ xs k = x at *
      obtain ⟨x0, x1, x2, x3⟩ := x
      simp only at c0 c1 c2 c3
      by_cases h1 : x0 = 1
      · subst h1
        have hN := M13.fine1 HF.out rfl
        simp only at hN
        obtain ⟨x1, rfl⟩ := Int.eq_ofNat_of_zero_le hN.1
        obtain ⟨G, hG⟩ : ∃ G, Hid (M7.hb 0 x1 = G) := ⟨_, rfl⟩
        have hIB := M13.ib1 (x := ⟨1, (x1 : Int), x2, x3⟩) rfl
        simp only [Int.toNat_natCast] at hIB
        rw [hIB, hG.out] at HBx hil
        have HBX : Hid _ := HBx
        have AH := l2Head_as 0 x1 0 G rfl hG.out (by omega) (by omega)
        clear HBx hIB hG HF
        go_wp2_with fail
        refine Calls.mono (AH.out _) ?_
        rintro e w2 ⟨rfl, hb2⟩
        have hB2 : Below w.heap.size w w2 := (hb.alloc hb.size _).trans (hb2.mono (by have := hb.size; simp; omega))
        clear hb2 hb AH c0 c1 c2 c3
        go_wp2
        go_roundw
        case rel => exact ⟨k + 1, A ++ G, by rw [M9.str_app], by go_num, by omega, HBX, by simp; omega, hB2⟩
        case measure => simp [intOf]; omega
      · by_cases h2 : x0 = 2
        · subst h2
          have hT : x2.size ≤ 60 := M13.fine23 HF.out (by simp)
          obtain ⟨G, hG⟩ : ∃ G, Hid (M7.hb 2 x2.size = G) := ⟨_, rfl⟩
          have hIB := M13.ib2 (x := ⟨2, x1, x2, x3⟩) rfl
          simp only at hIB
          rw [hIB, hG.out] at HBx hil
          have HBX : Hid _ := HBx
          have hbl := M8.bl_len x2
          rw [List.length_append, hbl] at hil
          have HBL : Hid _ := hbl
          have AH := l2Head_as 2 x2.size 2 G rfl hG.out (by omega) (by omega)
          clear HBx hIB hG HF hbl
          go_wp2
          go_region_with (go_at_call 70; refine Calls.mono (AH.out _) ?_; rintro e w2 ⟨rfl, hb2⟩; have q2 : w2.cell? ⟨wr.heap.size, 2, none⟩ = some (.string x2) := by rw [hb2.cell (by simp)]; simp)
          all_goals (
            have hB2 : Below w.heap.size w w2 := ((hb.alloc hb.size _).drew).trans (hb2.mono (by have := hb.size; simp; omega))
            clear hb2 hb AH c0 c1 c2 c3
            go_wp2
            go_roundw
            case rel => exact ⟨k + 1, A ++ (G ++ M8.bl x2), by rw [M13.text_app], by go_num, by omega, HBX, by simp [HBL.out]; omega, hB2⟩
            case measure => simp [intOf]; omega)
        · by_cases h3 : x0 = 3
          · subst h3
            have hT : x2.size ≤ 60 := M13.fine23 HF.out (by simp)
            obtain ⟨G, hG⟩ : ∃ G, Hid (M7.hb 3 x2.size = G) := ⟨_, rfl⟩
            have hIB := M13.ib3 (x := ⟨3, x1, x2, x3⟩) rfl
            simp only at hIB
            rw [hIB, hG.out] at HBx hil
            have HBX : Hid _ := HBx
            have hbl := M8.bl_len x2
            rw [List.length_append, hbl] at hil
            have HBL : Hid _ := hbl
            have AH := l2Head_as 3 x2.size 3 G rfl hG.out (by omega) (by omega)
            clear HBx hIB hG HF hbl
            go_wp2
            go_region_with (go_at_call 70; refine Calls.mono (AH.out _) ?_; rintro e w2 ⟨rfl, hb2⟩; have q2 : w2.cell? ⟨wr.heap.size, 2, none⟩ = some (.string x2) := by rw [hb2.cell (by simp)]; simp)
            all_goals (
              have hB2 : Below w.heap.size w w2 := ((hb.alloc hb.size _).drew).trans (hb2.mono (by have := hb.size; simp; omega))
              clear hb2 hb AH c0 c1 c2 c3
              go_wp2
              go_roundw
              case rel => exact ⟨k + 1, A ++ (G ++ M8.bl x2), by rw [M13.text_app], by go_num, by omega, HBX, by simp [HBL.out]; omega, hB2⟩
              case measure => simp [intOf]; omega)
          · have e1 : (x0 == 1) = false := by simp [h1]
            have e2 : (x0 == 2) = false := by simp [h2]
            have e3 : (x0 == 3) = false := by simp [h3]
            have hN := M13.fine4 HF.out h1 h2 h3
            simp only at hN
            obtain ⟨x3, rfl⟩ := Int.eq_ofNat_of_zero_le hN.1
            obtain ⟨G, hG⟩ : ∃ G, Hid (M7.hb 4 x3 = G) := ⟨_, rfl⟩
            have hIB := M13.ib4 (x := ⟨x0, x1, x2, (x3 : Int)⟩) h1 h2 h3
            simp only [Int.toNat_natCast] at hIB
            rw [hIB, hG.out] at HBx hil
            have HBX : Hid _ := HBx
            have AH := l2Head_as 4 x3 4 G rfl hG.out (by omega) (by omega)
            clear HBx hIB hG HF h1 h2 h3
            go_wp2_with fail
            refine Calls.mono (AH.out _) ?_
            rintro e w2 ⟨rfl, hb2⟩
            have hB2 : Below w.heap.size w w2 := (hb.alloc hb.size _).trans (hb2.mono (by have := hb.size; simp; omega))
            clear hb2 hb AH c0 c1 c2 c3
            go_wp2
            go_roundw
            case rel => exact ⟨k + 1, A ++ G, by rw [M9.str_app], by go_num, by omega, HBX, by simp; omega, hB2⟩
            case measure => simp [intOf]; omega
    · obtain rfl : k = xs.length := by omega
      have hfin : Hid (A = M12.bytes xs) := by have := hA.out; rw [List.take_length] at this; exact this.symm
      clear hin hf hA
      go_wp2
      go_ret
      exact ⟨M9.ret_str (by rw [hfin.out]), hb⟩
end Go.Proofs.YtcpfbgogfhlmjaaDoor
