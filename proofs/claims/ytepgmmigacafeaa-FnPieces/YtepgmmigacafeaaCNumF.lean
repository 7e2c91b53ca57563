/- The laws' numberOf, told by its bytes. -/
import Derived.Test.YtepgmmigacafeaaRows
import Derived.Test.YtepgmmigacafeaaMCur
import Derived.WalkKit
import Derived.WalkSpells
import Derived.WalkLawsBesides
import Derived.Outline
namespace Go.Proofs.Ytepgmmigacafeaa
open Go.RowKit
/-- The number of some bytes. -/
def numF (zs : List Int) : Nat → Nat
  | 0 => 0
  | k + 1 => (31 * numF zs k + (zs.getD k 0).toNat) % 1000003
theorem numF_lt (zs : List Int) : ∀ k, numF zs k < 1000003
  | 0 => by show (0 : Nat) < 1000003; decide
  | _ + 1 => Nat.mod_lt _ (by decide)
set_option maxHeartbeats 800000 in
set_option maxRecDepth 100000 in
theorem numberF_any (a : Option Addr) (zs : List Int) (cap p : Nat) (w : World) (hz : zs.length ≤ 140737488355328) (hb : MC.BytesAt w p a zs) :
    Calls Try.prog 8 #[.slice a zs.length cap] w fun e w' => e = .returned (.int .i64 (numF zs zs.length : Int)) ∧ w = w' := by
  have HN : Hid (∀ k, numF zs (k + 1) = (31 * numF zs k + (zs.getD k 0).toNat) % 1000003) := fun k => rfl
  have HL : Hid (∀ k, numF zs k < 1000003) := numF_lt zs
  have H0 : Hid (numF zs 0 = 0) := rfl
  generalize numF zs = nf at *
  go_enter Try.func8, Try.ntmps8
  go_wp2
  go_loop [3, 5, 8] (fun nv _ iv => ∃ n k : Nat, nv = .int .i64 n ∧ iv = .int .i64 k ∧ Hid (nf k = n) ∧ n < 1000003 ∧ k ≤ zs.length) (fun _ _ iv => (zs.length - intOf iv).toNat)
  case atStart => exact ⟨0, 0, rfl, rfl, H0.out, by omega, by omega⟩
  case round =>
    obtain ⟨n, k, rfl, rfl, hnf, hn, hk⟩ := hrel
    by_cases hl : k < zs.length
    · have hzb := hb.1 (zs.getD k 0) (by rw [List.getD_eq_getElem?_getD, List.getElem?_eq_getElem hl]; exact List.getElem_mem hl)
      obtain ⟨b, off, rfl, hbp, hc⟩ : ∃ b off, a = some ⟨b, off, none⟩ ∧ b < p ∧ w.cell? ⟨b, off + k, none⟩ = some (.int .u8 (zs.getD k 0)) := by
        rcases hb.2 with h | ⟨b, off, rfl, h1, h2⟩
        · rw [h] at hl; simp at hl
        · exact ⟨b, off, rfl, h1, h2 k hl⟩
      have hnext : Hid (nf (k + 1) = (31 * n + (zs.getD k 0).toNat) % 1000003) := by
        show _ = _
        rw [HN.out k, hnf.out]
      obtain ⟨m, hm⟩ := Int.eq_ofNat_of_zero_le hzb.1
      rw [hm] at hc hnext hzb
      clear hb hm
      go_wp2
      go_round
      case rel => exact ⟨(31 * n + m) % 1000003, k + 1, by go_num, by go_num, hnext.out, by omega, by omega⟩
      case measure => simp [intOf]; omega
    · obtain rfl : k = zs.length := by omega
      go_wp2
      go_ret
      exact ⟨by rw [hnf.out]; rfl, rfl⟩
end Go.Proofs.Ytepgmmigacafeaa
