/- LatestFor, the program's. -/
import Derived.Test.YtlkjlechojgnbaaRows
import Derived.Test.YtlkjlechojgnbaaCLatestJ
import Derived.WalkKit
import Derived.WalkSpells
import Derived.WalkLawsBesides
import Derived.Outline
namespace Go.Proofs.Ytlkjlechojgnbaa
open Go.RowKit
theorem bits1000 : (FL.Mo.fin 1000).b = 4652007308841189376 := by kernel_rfl
set_option linter.unusedSimpArgs false in
set_option maxHeartbeats 3200000 in
set_option maxRecDepth 100000 in
theorem implLatest_any (a : Option Addr) (ca : Nat) (xs : List I5) (f t b : Int) (w : World) (hn : xs.length ≤ 1048576) (hin : MI5.RowAt w a xs) :
    Calls Try.prog 16 #[.slice a xs.length ca, .int .i64 f, .int .i64 t, .int .i64 b] w fun e w' => e = .returned (.tuple #[.int .i64 ((PN.latR xs f t b).getD 0), .bool (PN.latR xs f t b).isSome]) ∧ Below w.heap.size w w' := by
  have GP : Hid (∀ W : World, MI5.RowAt W a xs → Calls Try.prog 9 #[.slice a xs.length ca] W fun e w' => e = .returned (.bool (PN.okP xs)) ∧ Below W.heap.size W w') := fun W h => implGoodPlan_any a ca xs W hn h _ rfl
  have NI : Hid (∀ W : World, Calls Try.prog 35 #[.int .i64 f] W fun e w' => e = .returned (.bool (decide (0 ≤ f ∧ f ≤ 7))) ∧ W = w') := fun W => nodeI_any f W
  have NT : Hid (∀ W : World, Calls Try.prog 35 #[.int .i64 t] W fun e w' => e = .returned (.bool (decide (0 ≤ t ∧ t ≤ 7))) ∧ W = w') := fun W => nodeI_any t W
  have BI : Hid (∀ W : World, Calls Try.prog 44 #[.int .i64 b, .int .i64 0, .int .i64 2000] W fun e w' => e = .returned (.bool (decide (0 ≤ b ∧ b ≤ 2000))) ∧ W = w') := fun W => within_any b 0 2000 W
  have HI : Hid (MI5.RowAt w a xs) := hin
  clear hin
  obtain ⟨A, hA⟩ : ∃ A, PN.latR xs f t b = A := ⟨_, rfl⟩
  have NO : Hid (PN.askL xs f t b = false → A = none) := fun h => by rw [← hA, PN.latR_no h]
  have YES : Hid (PN.askL xs f t b = true → A = PN.latA xs t.toNat b f.toNat) := fun h => by rw [← hA, PN.latR_yes h]
  rw [hA]
  clear hA
  obtain ⟨q1, h1⟩ : ∃ q, decide (0 ≤ f ∧ f ≤ 7) = q := ⟨_, rfl⟩
  obtain ⟨q2, h2⟩ : ∃ q, decide (0 ≤ t ∧ t ≤ 7) = q := ⟨_, rfl⟩
  obtain ⟨q3, h3⟩ : ∃ q, decide (0 ≤ b ∧ b ≤ 2000) = q := ⟨_, rfl⟩
  obtain ⟨q0, h0⟩ : ∃ q, PN.okP xs = q := ⟨_, rfl⟩
  have hS : PN.askL xs f t b = (q0 && q1 && q2 && q3) := by rw [← h0, ← h1, ← h2, ← h3]; rfl
  rw [h0] at GP
  rw [h1] at NI
  rw [h2] at NT
  rw [h3] at BI
  have HS : Hid _ := hS
  clear h0 h1 h2 h3 hS
  go_enter Try.func16, Try.ntmps16
  go_wp2_with fail
  refine (GP.out _ HI.out).mono ?_
  rintro e w1 ⟨rfl, hb1⟩
  have HI1 : Hid (MI5.RowAt w1 a xs) := HI.out.below hb1
  clear GP HI
  cases q0 with
  | false =>
    obtain rfl := NO.out HS.out
    clear NO YES NI NT BI HS HI1
    go_wp2
    go_ret2
    exact ⟨rfl, hb1⟩
  | true =>
    go_wp2_with fail
    refine (NI.out _).mono ?_
    rintro e w' ⟨rfl, rfl⟩
    clear NI
    cases q1 with
    | false =>
      obtain rfl := NO.out HS.out
      clear NO YES NT BI HS HI1
      go_wp2
      go_ret2
      exact ⟨rfl, hb1⟩
    | true =>
      go_wp2_with fail
      refine (NT.out _).mono ?_
      rintro e w' ⟨rfl, rfl⟩
      clear NT
      cases q2 with
      | false =>
        obtain rfl := NO.out HS.out
        clear NO YES BI HS HI1
        go_wp2
        go_ret2
        exact ⟨rfl, hb1⟩
      | true =>
        go_wp2_with fail
        refine (BI.out _).mono ?_
        rintro e w' ⟨rfl, rfl⟩
        clear BI
        cases q3 with
        | false =>
          obtain rfl := NO.out HS.out
          clear NO YES HS HI1
          go_wp2
          go_ret2
          exact ⟨rfl, hb1⟩
        | true =>
          have hask : PN.askL xs f t b = true := HS.out
          obtain ⟨hok, hf0, hf1, ht0, ht1, hbb0, hbb1⟩ := PN.askL_is hask
          have HY : Hid (A = PN.latA xs t.toNat b f.toNat) := YES.out hask
          have HOK : Hid _ := hok
          clear NO YES HS hask hok
          obtain ⟨tn, rfl⟩ := Int.eq_ofNat_of_zero_le ht0
          obtain ⟨fn, rfl⟩ := Int.eq_ofNat_of_zero_le hf0
          have ht8 : tn < 8 := by omega
          have hf8 : fn < 8 := by omega
          have ff8 : (fn : Int) < 8 := by omega
          rw [show ((tn : Int)).toNat = tn from rfl, show ((fn : Int)).toNat = fn from rfl] at HY
          go_wp2_with fail
          refine (latestFor_any a ca xs tn b _ HOK.out ht8 hbb0 hbb1 HI1.out).mono ?_
          rintro e w2 ⟨s, rfl, hF, hSh, hb2⟩
          have hA := PN.latA_back HOK.out hF.ok hF.to hSh hF.snd fn
          rw [← HY.out] at hA
          have okf := hF.ok fn
          have HRN : Hid (MA.Rg (w2.alloc (.cells (PN.fl fun _ => 0).toArray 60)) w2.heap.size 0 (PN.fl fun _ => 0)) := MA.Rg.new _ _ _
          have HRP : Hid (MA.Rg ((w2.alloc (.cells (PN.fl fun _ => 0).toArray 60)).setCells w2.heap.size 0 (PN.fl (PN.mb s))) w2.heap.size 0 (PN.fl (PN.mb s))) := HRN.out.put (by rw [PN.fl_len, PN.fl_len])
          have HBP : Hid (Below w2.heap.size w2 ((w2.alloc (.cells (PN.fl fun _ => 0).toArray 60)).setCells w2.heap.size 0 (PN.fl (PN.mb s)))) := MA.below_cells (Nat.le_refl _) _ _ _ ((Below.refl _ w2).alloc (Nat.le_refl _) _)
          have HB2 : Hid (Below w.heap.size w w2) := hb1.trans (hb2.mono hb1.size)
          have HAA : Hid _ := hA
          clear HI1 hb1 hb2 hF hSh HY HOK hA
          have MN : ∀ ts ty (W : World), (Builtin.min_ ts ty #[.float .f64 (s fn).b, .float .f64 4652007308841189376]).run Try.prog W = .ok (.float .f64 ((s fn).minM (.fin 1000)).b) W := fun ts ty W => by
            have := FL.min_run (P := Try.prog) ts ty W (s fn) (.fin 1000) (PN.okL_ok okf) (by show _ < _; omega)
            rw [bits1000] at this; exact this
          have hmm : ((s fn).minM (.fin 1000) = .ago ∨ PN.okT ((s fn).minM (.fin 1000))) ∧ PN.tellN ((s fn).minM (.fin 1000)) = A.getD 0 ∧ PN.tellB ((s fn).minM (.fin 1000)) = A.isSome := by
            have hA' := HAA.out
            cases hq : s fn with
            | inf => rw [hq] at okf; exact absurd okf id
            | ago => rw [hq] at hA'; rw [hA']; exact ⟨.inl rfl, rfl, rfl⟩
            | fin l =>
              rw [hq] at hA' okf
              simp only [PN.okL] at okf
              rw [hA', FL.min_fin]
              exact ⟨.inr (by simp only [PN.okT]; omega), rfl, rfl⟩
          obtain ⟨hm1, hm2, hm3⟩ := hmm
          have TL : Hid (∀ W : World, Calls Try.prog 29 #[.float .f64 ((s fn).minM (.fin 1000)).b] W fun e w' => e = .returned (.tuple #[.int .i64 (A.getD 0), .bool A.isSome]) ∧ W = w') := fun W => by
            have := tell_any ((s fn).minM (.fin 1000)) W hm1
            rw [hm2, hm3] at this; exact this
          generalize FL.Mo.b ((s fn).minM (.fin 1000)) = z at *
          clear hm1 hm2 hm3 HAA okf
          go_wp2_with (first
            | (refine MA.alloc_z rfl 60 rfl _ _ Try.infoL ?_)
            | (refine MA.store_m rfl 60 _ _ rfl rfl rfl (vs := PN.fl (PN.mb s)) (cs := PN.fl fun _ => 0) ?_ Try.sizeL (PN.fl_len _) (PN.fl_len _) (PN.fl_one _) ?_; exact HRN.out; clear HRN; generalize World.setCells _ _ _ _ = W3 at *; have ct : W3.cell? ⟨w2.heap.size, fn, none⟩ = some (.float .f64 (s fn).b) := (by have h := HRP.out.cell (PN.fl_get (PN.mb s) hf8); rwa [Nat.zero_add] at h); have hl3 := HRP.out.lt))
          refine (TL.out _).mono ?_
          rintro e w' ⟨rfl, rfl⟩
          have HB3 : Hid (Below w.heap.size w W3) := HB2.out.trans (HBP.out.mono HB2.out.size)
          clear TL ct HBP HB2 MN HRP
          go_wp2
          go_ret2
          exact ⟨rfl, HB3.out⟩
end Go.Proofs.Ytlkjlechojgnbaa
