/- The stable sort of at most 24 numbers by a function value that reads. -/
import Derived.Test.YtdglialjcibbbaaRows
import Derived.Test.YtdglialjcibbbaaCSymC
namespace Go.Proofs.Ytdglialjcibbbaa
open Go.RowKit
open MSym
set_option linter.unusedSimpArgs false in
set_option maxHeartbeats 3200000 in
set_option maxRecDepth 1000000 in
theorem stable_any (blk off cap N g : Nat) (cb : Array Value) (c : Nat → Nat) (cf : Nat → Nat → Int) (f : Nat → Nat) (w : World) (hH : Sort.Holds nv w blk off (ar f N)) (eg : ∀ args w, (callFunc g args).run Try.prog w = .ok (.enter g args) w) (hC : Cmps w blk off N g cb cf) (hcf : ∀ x y, cf x y < 0 ↔ c x < c y) (hv : ∀ k, k < N → f k < N) (hX : Up (· < ·) f 0 N) (hN : N ≤ 24) :
    Calls Try.prog 68 #[.slice (some ⟨blk, off, none⟩) N cap, .int .i64 N, .func (.func g) #[] cb] w fun e w' => e = .returned (.tuple #[]) ∧ ∃ h, Lay w w' blk off h N ∧ Up (Lex c) h 0 N ∧ From h f 0 N := by
  have HC : Hid (Cmps w blk off N g cb cf) := hC
  have HH : Hid (Sort.Holds nv w blk off (ar f N)) := hH
  have HV : Hid (∀ k, k < N → f k < N) := hv
  have HX : Hid (Up (· < ·) f 0 N) := hX
  by_cases h20 : 20 ≤ N
  · have h20z : (20 : Int) ≤ (N : Int) := by omega
    have I1 : Hid _ := insSort_any blk off cap N 0 20 g cb c cf f w hH eg hC hcf hv (fun i j h1 h2 h3 => hX i j h1 h2 (by omega)) (by omega) h20 (by omega)
    have I2 : Hid (∀ (f1 : Nat → Nat) (w1 : World), Lay w w1 blk off f1 N → Up (Lex c) f1 0 20 → From f1 f 0 20 → Calls Try.prog 83 #[.slice (some ⟨blk, off, none⟩) N cap, .int .i64 20, .int .i64 N, .func (.func g) #[] cb] w1 fun e w' => e = .returned (.tuple #[]) ∧ ∃ h, Lay w w' blk off h N ∧ Up (Lex c) h 0 20 ∧ Up (Lex c) h 20 N ∧ From h f 0 N ∧ Cross (· < ·) h 0 20 N ∧ (∀ k, k < N → h k < N)) := fun f1 w1 l1 u1 fr1 => by
      have same : ∀ k, 20 ≤ k → f1 k = f k := fun k hk => fr1.1 k (Or.inr hk)
      have v1 := fr1.vals h20 hv
      refine (insSort_any blk off cap N 20 N g cb c cf f1 w1 (l1.holds hH) eg (Cmps.lay hC l1) hcf v1 (fun i j h1 h2 h3 => by rw [same i h1, same j (by omega)]; exact hX i j (by omega) h2 h3) h20 (Nat.le_refl _) (by omega)).mono ?_
      rintro e w' ⟨rfl, h, l2, u2, fr2⟩
      have fr := (fr2.wide (Nat.zero_le _) (Nat.le_refl _)).trans (fr1.wide (Nat.le_refl _) h20)
      refine ⟨rfl, h, l1.trans l2, Up.same (fun k _ k2 => fr2.1 k (Or.inl k2)) u1, u2, fr, ?_, fr.vals (Nat.le_refl _) hv⟩
      intro i j h1 h2 h3 h4
      obtain ⟨i', a1, a2, e1⟩ := fr1.2.1 i h1 h2
      obtain ⟨j', b1, b2, e2⟩ := fr2.2.1 j h3 h4
      show h i < h j
      rw [fr2.1 i (Or.inl h2), e1, e2, same j' b1]
      exact hX i' j' (by omega) (by omega) b2
    have SM : Hid (20 < N → ∀ (f1 : Nat → Nat) (w1 : World), Lay w w1 blk off f1 N → Up (Lex c) f1 0 20 → Up (Lex c) f1 20 N → From f1 f 0 N → Cross (· < ·) f1 0 20 N → (∀ k, k < N → f1 k < N) → Calls Try.prog 84 #[.slice (some ⟨blk, off, none⟩) N cap, .int .i64 0, .int .i64 20, .int .i64 N, .func (.func g) #[] cb] w1 fun e w' => e = .returned (.tuple #[]) ∧ ∃ h, Lay w w' blk off h N ∧ Up (Lex c) h 0 N ∧ From h f 0 N) := fun k f1 w1 l1 u1 u2 fr x v1 => by
      refine (symMerge_any blk off cap N g cb c cf eg hcf (by omega) N 0 20 N (by omega) (by omega) k (Nat.le_refl _) f1 w1 (l1.holds hH) (Cmps.lay hC l1) v1 u1 u2 x).mono ?_
      rintro e w' ⟨rfl, h, l2, u3, fr3⟩
      exact ⟨rfl, h, l1.trans l2, u3, fr3.trans fr⟩
    clear hH hC hcf hv hX HC HH HV HX
    go_enter Try.func68, Try.ntmps68
    go_wp2
    go_loopw [7, 8] (fun av bv wr => (av = .int .i64 0 ∧ bv = .int .i64 20 ∧ wr = w) ∨ (av = .int .i64 20 ∧ bv = .int .i64 40 ∧ Hid (∃ f1, Lay w wr blk off f1 N ∧ Up (Lex c) f1 0 20 ∧ From f1 f 0 20))) (fun _ bv _ => (60 - intOf bv).toNat)
    case atStart => exact .inl ⟨rfl, rfl, rfl⟩
    case round =>
      rcases hrel with ⟨rfl, rfl, rfl⟩ | ⟨rfl, rfl, HF⟩
      · go_wp2_with fail
        refine Calls.mono I1.out ?_
        rintro e w1 ⟨rfl, f1, l1, u1, fr1⟩
        have HF : Hid (∃ f1, Lay _ w1 blk off f1 N ∧ Up (Lex c) f1 0 20 ∧ From f1 f 0 20) := ⟨f1, l1, u1, fr1⟩
        clear I1 I2 SM l1 u1 fr1
        go_wp2
        go_roundw
        case rel => exact .inr ⟨rfl, rfl, HF⟩
        case measure => simp [intOf]
      · have h40z : ¬ (40 : Int) ≤ (N : Int) := by omega
        obtain ⟨f1, l1, u1, fr1⟩ := HF.out
        have I3 : Hid _ := I2.out f1 _ l1 u1 fr1
        clear I1 I2 HF l1 u1 fr1
        go_wp2_with fail
        refine Calls.mono I3.out ?_
        rintro e w2 ⟨rfl, f2, l2, u2, u3, fr2, x2, v2⟩
        have SM2 : Hid (20 < N → _) := fun k => SM.out k f2 w2 l2 u2 u3 fr2 x2 v2
        have FIN : Hid (N = 20 → Lay w w2 blk off f2 N ∧ Up (Lex c) f2 0 N ∧ From f2 f 0 N) := fun k => ⟨l2, by rw [k]; exact u2, fr2⟩
        clear I3 SM l2 u2 u3 fr2 x2 v2
        by_cases hgt : 20 < N
        · have hgz : (20 : Int) < (N : Int) := by omega
          have SM3 : Hid _ := SM2.out hgt
          clear SM2 FIN
          go_wp2
          go_loopw [6, 7, 8, 9] (fun sv _ _ _ wr => (sv = .int .i64 20 ∧ wr = w2) ∨ (sv = .int .i64 40 ∧ Hid (∃ h, Lay w wr blk off h N ∧ Up (Lex c) h 0 N ∧ From h f 0 N))) (fun sv _ _ _ _ => (60 - intOf sv).toNat)
          case atStart => exact .inl ⟨rfl, rfl⟩
          case round =>
            rcases hrel with ⟨rfl, rfl⟩ | ⟨rfl, HF⟩
            · go_wp2
              go_loopw [7, 8] (fun av bv wr2 => av = .int .i64 0 ∧ bv = .int .i64 40 ∧ wr2 = wr) (fun _ _ _ => 0)
              case atStart => exact ⟨rfl, rfl, rfl⟩
              case round =>
                obtain ⟨rfl, rfl, rfl⟩ := hrel
                go_wp2_with fail
                refine Calls.mono SM3.out ?_
                rintro e w3 ⟨rfl, h, l3, u3, fr3⟩
                have HF : Hid (∃ h, Lay w w3 blk off h N ∧ Up (Lex c) h 0 N ∧ From h f 0 N) := ⟨h, l3, u3, fr3⟩
                clear SM3 l3 u3 fr3
                go_wp2
                go_roundw
                case rel => exact .inr ⟨rfl, HF⟩
                case measure => simp [intOf]
            · clear SM3
              go_wp2
              go_end0
              exact ⟨rfl, HF.out⟩
        · have hgz : ¬ (20 : Int) < (N : Int) := by omega
          have F2 : Hid _ := FIN.out (by omega)
          clear SM2 FIN
          go_wp2
          go_loopw [6, 7, 8, 9] (fun sv _ _ _ wr => sv = .int .i64 20 ∧ wr = w2) (fun _ _ _ _ _ => 0)
          case atStart => exact ⟨rfl, rfl⟩
          case round =>
            obtain ⟨rfl, rfl⟩ := hrel
            go_wp2
            go_end0
            exact ⟨rfl, f2, F2.out⟩
  · have h20z : ¬ (20 : Int) ≤ (N : Int) := by omega
    have h21z : ¬ (20 : Int) < (N : Int) := by omega
    have I1 : Hid _ := insSort_any blk off cap N 0 N g cb c cf f w hH eg hC hcf hv hX (by omega) (Nat.le_refl _) (by omega)
    clear hH hC hcf hv hX HC HH HV HX
    go_enter Try.func68, Try.ntmps68
    go_wp2
    go_loopw [7, 8] (fun av bv wr => av = .int .i64 0 ∧ bv = .int .i64 20 ∧ wr = w) (fun _ _ _ => 0)
    case atStart => exact ⟨rfl, rfl, rfl⟩
    case round =>
      obtain ⟨rfl, rfl, rfl⟩ := hrel
      go_wp2_with fail
      refine Calls.mono I1.out ?_
      rintro e w1 ⟨rfl, hF⟩
      have HF : Hid _ := hF
      clear I1 hF
      go_wp2
      go_loopw [6, 7, 8, 9] (fun sv _ _ _ wr => sv = .int .i64 20 ∧ wr = w1) (fun _ _ _ _ _ => 0)
      case atStart => exact ⟨rfl, rfl⟩
      case round =>
        obtain ⟨rfl, rfl⟩ := hrel
        go_wp2
        go_end0
        exact ⟨rfl, HF.out⟩
end Go.Proofs.Ytdglialjcibbbaa
