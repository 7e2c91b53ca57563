/- The specification's l1Num: a number's digits. -/
import Derived.Test.YtcpfbgogfhlmjaaDoorRows
import Derived.Test.YtcpfbgogfhlmjaaDoorM2
import Derived.Lib.ItoaNum
import Derived.WalkKit
import Derived.WalkSpells
import Derived.WalkLawsBesides
import Derived.Outline
import Derived.Deep.QuietTactic
import Derived.BigQuiet
import Derived.Deep.RegionHeld3
import Derived.Deep.RegionWith
namespace Go.Proofs.YtcpfbgogfhlmjaaDoor
open Go.RowKit
theorem dd_small {n : Nat} (h : n < 10) : Lib.decDigits n = [UInt8.ofNat (48 + n)] := by rw [Lib.decDigits, dif_pos h]
theorem dd_step {n : Nat} (h : ¬ n < 10) : Lib.decDigits n = Lib.decDigits (n / 10) ++ [UInt8.ofNat (48 + n % 10)] := by rw [Lib.decDigits, dif_neg h]
theorem dd_len (n : Nat) : (Lib.decDigits n).length ≤ n + 1 := by
  induction n using Nat.strongRecOn with
  | ind n ih =>
    by_cases h : n < 10
    · rw [dd_small h]; simp
    · rw [dd_step h, List.length_append, List.length_singleton]
      have := ih (n / 10) (by omega)
      omega
/-- 'string' of a slice of one byte, wherever it lies. -/
theorem conv_at {P : Program} (src dst e : TypeId) (hs : P.underlying src = some (.slice e)) (he : P.underlying e = some (.int .u8)) (hd : P.underlying dst = some .string) (w : World) (g : Nat) (z : Int) (h : w.cell? ⟨g, 0, none⟩ = some (.int .u8 z)) :
    (convert src dst (.slice (some ⟨g, 0, none⟩) 1 1)).run P w = .ok (.string ⟨#[UInt8.ofNat z.toNat]⟩) w := by
  have := run_convert_bytes_arg (P := P) w src e hs he g 0 1 1 [z] rfl (fun i hi => by
    obtain rfl : i = 0 := by omega
    exact h) dst hd
  exact this
theorem z_text {M L : List UInt8} {n : Nat} {z : Int} (hz : z = 48 + ((n % 10 : Nat) : Int)) (hL : L = M ++ [UInt8.ofNat (48 + n % 10)]) : (⟨M.toArray⟩ : ByteArray) ++ ⟨#[UInt8.ofNat z.toNat]⟩ = ⟨L.toArray⟩ := by
  have : z.toNat = 48 + n % 10 := by omega
  rw [this, hL]; apply ByteArray.ext; simp
set_option maxHeartbeats 1600000 in
set_option maxRecDepth 100000 in
theorem l1Num_any : ∀ (n : Nat) (w : World), n ≤ 1000000000 →
    Calls Tryd.prog 65 #[.int .i64 (n : Int)] w fun e w' => e = .returned (.string ⟨(Lib.decDigits n).toArray⟩) ∧ Below w.heap.size w w' := by
  intro n
  induction n using Nat.strongRecOn with
  | ind n ih =>
    intro w hn
    have hc := M2.conv1 (P := Tryd.prog) 22 9 5 Tryd.underlying22 Tryd.underlying5 Tryd.underlying9
    by_cases h10 : n < 10
    · have HD : Hid _ := dd_small h10
      clear ih
      generalize Lib.decDigits n = L at *
      go_enter Tryd.func65, Tryd.ntmps65
      go_wp2
      go_ret
      refine ⟨?_, (Below.refl _ w).alloc (Nat.le_refl _) _⟩
      rw [HD.out]; rfl
    · have HD : Hid _ := dd_step h10
      have hl := dd_len (n / 10)
      have IH : Hid (∀ (W : World) (x : Int), x = ((n / 10 : Nat) : Int) → Calls Tryd.prog 65 #[.int .i64 x] W fun e w' => e = .returned (.string ⟨(Lib.decDigits (n / 10)).toArray⟩) ∧ Below W.heap.size W w') := fun W x hx => by rw [hx]; exact ih (n / 10) (by omega) W (by omega)
      clear ih
      generalize Lib.decDigits n = L at *
      generalize Lib.decDigits (n / 10) = M at *
      obtain ⟨z, hz⟩ : ∃ z : Int, z = 48 + ((n % 10 : Nat) : Int) := ⟨_, rfl⟩
      have e0 : IntKind.i64.wrap ((n : Int) / 10) = ((n / 10 : Nat) : Int) := by rw [IntKind.wrap_i64]; omega
      have et : (n : Int).tmod 10 = (n : Int) % 10 := Int.tmod_eq_emod_of_nonneg (by omega)
      have e1 : IntKind.i64.wrap (48 + (n : Int).tmod 10) = z := by rw [et, IntKind.wrap_i64]; omega
      have e3 : IntKind.u8.wrap z = z := by rw [hz]; simp [IntKind.wrap, IntKind.bits, IntKind.signed]; omega
      have E0 : Hid _ := e0
      have HZ : Hid _ := hz
      have HC : Hid _ := fun W g h => conv_at (P := Tryd.prog) 22 9 5 Tryd.underlying22 Tryd.underlying5 Tryd.underlying9 W g z h
      have hcd := HC.out (w.alloc (.cells #[.int .u8 z] 5)).drew w.heap.size (by simp)
      have hc' := fun W => hc W z
      clear hz et e0 hc
      go_enter Tryd.func65, Tryd.ntmps65
      go_wp2
      go_region_with (go_at_call 65; refine Calls.mono (IH.out _ _ E0.out) ?_; rintro e w2 ⟨rfl, hb2⟩; try (have hb3 : Below (w.alloc (.cells #[.int .u8 z] 5)).drew.heap.size (w.alloc (.cells #[.int .u8 z] 5)).drew w2 := hb2; have hcv := HC.out w2 w.heap.size ((hb3.cell (by simp)).trans (by simp)); clear hb3))
      all_goals go_wp2
      all_goals go_ret
      all_goals refine ⟨congrArg (fun x => Ending.returned (.string x)) (z_text HZ.out HD.out), ?_⟩
      · have h : Below w.heap.size w w2 := (Below.refl w.heap.size w).drew.trans hb2
        exact h.alloc h.size _
      · exact (((Below.refl _ w).alloc (Nat.le_refl _) _).drew).trans (hb2.mono (by simp))
      · exact (((Below.refl _ w).alloc (Nat.le_refl _) _).drew).trans (hb2.mono (by simp))
end Go.Proofs.YtcpfbgogfhlmjaaDoor
