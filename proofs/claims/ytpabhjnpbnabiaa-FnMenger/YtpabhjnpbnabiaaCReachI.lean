import Derived.Test.YtpabhjnpbnabiaaRows
import Derived.Test.YtpabhjnpbnabiaaMRetB
import Derived.WalkKit
import Derived.WalkSpells
import Derived.WalkLawsBesides
import Derived.Outline
import Derived.Test.YtpabhjnpbnabiaaM5
import Derived.Deep.QuietTactic
import Derived.BigQuiet
import Derived.Test.YtpabhjnpbnabiaaMRB
import Derived.Test.YtpabhjnpbnabiaaCLinks
import Derived.Test.YtpabhjnpbnabiaaCReachF
import Derived.Test.YtpabhjnpbnabiaaCAskI
import Derived.Test.YtpabhjnpbnabiaaCHasI
/- impl.isWithin. -/
namespace Go.Proofs.Ytpabhjnpbnabiaa
open Go.RowKit
set_option maxHeartbeats 400000 in
set_option maxRecDepth 100000 in
theorem within7_any (n lo hi : Int) (w : World) : Calls Try.prog 58 #[.int .i64 n, .int .i64 lo, .int .i64 hi] w fun e w' => e = .returned (.bool (decide (lo ≤ n ∧ n ≤ hi))) ∧ w = w' := by
  by_cases h1 : lo ≤ n
  · go_enter Try.func58, Try.ntmps58
    go_wp2
    go_ret
    exact ⟨retB7 (by simp [h1]), rfl⟩
  · go_enter Try.func58, Try.ntmps58
    go_wp2
    go_ret
    exact ⟨retB7 (by rw [decide_eq_false (by omega : ¬ lo ≤ n)]; rfl), rfl⟩
end Go.Proofs.Ytpabhjnpbnabiaa

/- Numbers that rise: areRising of the program. -/
namespace Go.Proofs.Ytpabhjnpbnabiaa
open Go.RowKit
namespace EG
theorem ints_at2 {w : World} {a : Option Addr} {zs : List Int} (h : M4.IntsAt w a zs) {k : Nat} (hk : k + 1 < zs.length) : ∃ b off, a = some ⟨b, off, none⟩ ∧ b < w.heap.size ∧ w.cell? ⟨b, off + k, none⟩ = some (.int .i64 (zs.getD k 0)) ∧ w.cell? ⟨b, off + (k + 1), none⟩ = some (.int .i64 (zs.getD (k + 1) 0)) := by
  rcases h with rfl | ⟨b, off, rfl, hlt, hc⟩
  · simp at hk
  · exact ⟨b, off, rfl, hlt, hc k (by omega), hc (k + 1) hk⟩
end EG
set_option maxHeartbeats 1600000 in
set_option maxRecDepth 100000 in
theorem areRising_any (b : Option Addr) (cb : Nat) (n : Nat) (os : List Int) (w : World) (_hn : n ≤ 1048576) (ho : os.length ≤ 1048576) (hos : M4.IntsAt w b os) (R : Bool) (hR : Hid (EG.rises n os = R)) :
    Calls Try.prog 42 #[.slice b os.length cb, .int .i64 ((n : Int) - 1)] w fun e w' => e = .returned (.bool R) ∧ w = w' := by
  go_enter Try.func42, Try.ntmps42
  go_wp2
  go_loopw [9] (fun iv wr => ∃ k : Nat, iv = .int .i64 k ∧ k ≤ os.length ∧ Hid (EG.riseUp n os k) ∧ w = wr) (fun iv _ => (os.length - intOf iv).toNat)
  case atStart => exact ⟨0, rfl, by omega, show Hid _ from fun i hi => by omega, rfl⟩
  case round =>
    obtain ⟨k, rfl, hk, hT, rfl⟩ := hrel
    by_cases hlk : k < os.length
    · have HN : Hid _ := fun h => EG.rises_no (n := n) hlk h
      have HY : Hid _ := fun h => EG.riseUp_succ hT.out (k := k) h
      cases k with
      | zero =>
        obtain ⟨b1, off1, rfl, hlt1, hc1⟩ := hos.at hlk
        clear hos hT
        rw [Nat.add_zero] at hc1
        generalize os.getD 0 0 = o at *
        rw [show ((0 : Nat) : Int) = 0 from rfl]
        by_cases h0 : 0 ≤ o ∧ o < n
        · have hT : Hid _ := HY.out ⟨h0.1, h0.2, fun h => by omega⟩
          have h1 : decide (0 ≤ o ∧ o ≤ (n : Int) - 1) = true := by simp; omega
          clear HN HY hR h0
          go_wp2_with (go_at_call 58; refine (within7_any _ _ _ _).mono ?_; rintro e w2 ⟨rfl, rfl⟩; rw [h1])
          go_roundw
          case rel => exact ⟨1, by go_num, by omega, hT, trivial⟩
          case measure => simp [intOf]; omega
        · have hF : Hid (R = false) := by show R = false; rw [← hR.out]; exact HN.out (by omega)
          have h1 : decide (0 ≤ o ∧ o ≤ (n : Int) - 1) = false := by simp; omega
          clear HN HY hR h0
          go_wp2_with (go_at_call 58; refine (within7_any _ _ _ _).mono ?_; rintro e w2 ⟨rfl, rfl⟩; rw [h1])
          go_ret
          exact ⟨retB7 hF.out.symm, rfl⟩
      | succ k =>
        obtain ⟨b1, off1, rfl, hlt1, hc0, hc1⟩ := EG.ints_at2 hos hlk
        clear hos hT
        rw [Nat.add_sub_cancel] at HN HY
        generalize os.getD k 0 = p at *
        generalize os.getD (k + 1) 0 = o at *
        rw [show ((k + 1 : Nat) : Int) = (k : Int) + 1 from rfl]
        by_cases h0 : 0 ≤ o ∧ o < n
        · have h1 : decide (0 ≤ o ∧ o ≤ (n : Int) - 1) = true := by simp; omega
          by_cases hpo : o ≤ p
          · have hF : Hid (R = false) := by show R = false; rw [← hR.out]; exact HN.out (fun h => by have := h.2.2 (by omega); omega)
            have h2 : decide (o ≤ p) = true := by simp [hpo]
            clear HN HY hR h0 hpo
            go_wp2_with (go_at_call 58; refine (within7_any _ _ _ _).mono ?_; rintro e w2 ⟨rfl, rfl⟩; rw [h1])
            go_ret
            exact ⟨retB7 hF.out.symm, rfl⟩
          · have hT : Hid _ := HY.out ⟨h0.1, h0.2, fun h => by omega⟩
            have h2 : decide (o ≤ p) = false := by simp; omega
            clear HN HY hR h0 hpo
            go_wp2_with (go_at_call 58; refine (within7_any _ _ _ _).mono ?_; rintro e w2 ⟨rfl, rfl⟩; rw [h1])
            go_roundw
            case rel => exact ⟨k + 2, by go_num, by omega, hT, trivial⟩
            case measure => simp [intOf]; omega
        · have hF : Hid (R = false) := by show R = false; rw [← hR.out]; exact HN.out (by omega)
          have h1 : decide (0 ≤ o ∧ o ≤ (n : Int) - 1) = false := by simp; omega
          clear HN HY hR h0
          go_wp2_with (go_at_call 58; refine (within7_any _ _ _ _).mono ?_; rintro e w2 ⟨rfl, rfl⟩; rw [h1])
          go_ret
          exact ⟨retB7 hF.out.symm, rfl⟩
    · obtain rfl : k = os.length := by omega
      have hF : Hid (R = true) := by show R = true; rw [← hR.out]; exact EG.rises_yes hT.out
      clear hos hT hR
      go_wp2
      go_ret
      exact ⟨retB7 hF.out.symm, rfl⟩
end Go.Proofs.Ytpabhjnpbnabiaa

/- ReachedBy of the program. -/
namespace Go.Proofs.Ytpabhjnpbnabiaa
open Go.RowKit
namespace LK
theorem flat_put : ∀ (ps : List I3) (k : Nat) (c : I3), k < ps.length → (MI3.at_ ps k).a0 = c.a0 → (MI3.at_ ps k).a1 = c.a1 → (MI3.flat ps).set (k * 3 + 2) (.int .i64 c.a2) = MI3.flat (ps.set k c)
  | [], k, c, h, _, _ => by simp at h
  | x :: ps, 0, c, h, h0, h1 => by
    have e0 : x.a0 = c.a0 := h0
    have e1 : x.a1 = c.a1 := h1
    simp [MI3.flat, I3.cs, e0, e1]
  | x :: ps, k + 1, c, h, h0, h1 => by
    have ih := flat_put ps k c (by simpa using h) h0 h1
    show (x.cs ++ MI3.flat ps).set ((k + 1) * 3 + 2) _ = x.cs ++ MI3.flat (ps.set k c)
    have hx : x.cs.length = 3 := rfl
    rw [List.set_append_right _ _ (by omega), hx, show (k + 1) * 3 + 2 - 3 = k * 3 + 2 from by omega, ih]
def lenV : Value → Nat
  | .slice _ n _ => n
  | _ => 0
theorem rises_at {n : Nat} {wo : List Int} (h : EG.rises n wo = true) {m : Nat} (hm : m < wo.length) : ∃ j : Nat, wo.getD m 0 = (j : Int) ∧ j < n := by
  have := EG.rises_is h m hm
  exact ⟨(wo.getD m 0).toNat, by omega, by omega⟩
theorem up_at {l : List Int} (h : Up l) {n : Int} (hn : n ∈ l) : ∃ k, k < l.length ∧ l.getD k 0 = n ∧ ∀ j, j < k → l.getD j 0 < n := by
  induction l with
  | nil => cases hn
  | cons x l ih =>
    unfold Up at h
    rw [List.pairwise_cons] at h
    rcases List.mem_cons.1 hn with rfl | hn
    · exact ⟨0, by simp, rfl, fun j hj => by omega⟩
    · obtain ⟨k, h1, h2, h3⟩ := ih h.2 hn
      refine ⟨k + 1, by simp; omega, by simpa using h2, fun j hj => ?_⟩
      cases j with
      | zero => simpa using h.1 n hn
      | succ j => simpa using h3 j (by omega)
end LK
set_option linter.unusedSimpArgs false in
set_option maxHeartbeats 1600000 in
set_option maxRecDepth 100000 in
theorem implReached_any (a b : Option Addr) (ca cb : Nat) (xs : List I2) (f : Int) (wo : List Int) (w : World) (hn : xs.length ≤ 1048576) (hz : wo.length ≤ 1048576) (hin : MI2.RowAt w a xs) (hos : M4.IntsAt w b wo) :
    Calls Try.prog 16 #[.slice a xs.length ca, .int .i64 f, .slice b wo.length cb] w fun e w' => ∃ a1 c1, e = .returned (.tuple #[.slice a1 (LK.rbL xs f wo).length c1, .bool (LK.rbOk xs f wo)]) ∧ w'.ownsRow w.heap.size 3 1 (.slice a1 (LK.rbL xs f wo).length c1) (LK.rbL xs f wo).length (M4.iv (LK.rbL xs f wo)) ∧ Below w.heap.size w w' := by
  obtain ⟨i0, hi, hz0, hz1, hz2⟩ := info_parts Try.info3
  have HI : Hid (MI2.RowAt w a xs) := hin
  have HS : Hid (M4.IntsAt w b wo) := hos
  have GL : Hid _ := implGoodLinks_any a ca xs w hn hin _ rfl
  have NO : Hid (∀ W : World, _) := fun W => node8I_any f W
  have RI : Hid (∀ W : World, M4.IntsAt W b wo → Calls Try.prog 42 #[.slice b wo.length cb, .int .i64 ((xs.length : Int) - 1)] W fun e w' => e = .returned (.bool (EG.rises xs.length wo)) ∧ W = w') := fun W h => areRising_any b cb xs.length wo W hn hz h _ rfl
  have PO : Hid (∀ W : World, MI2.RowAt W a xs → _) := fun W h => pipesOfOne_any a ca xs W hn h
  have NK : Hid _ := fun h => LK.rb_no (xs := xs) (f := f) (wo := wo) h
  have YK : Hid _ := fun h => LK.rb_yes (xs := xs) (f := f) (wo := wo) h
  have OK : Hid (LK.rbOk xs f wo = (FL.okP (LK.pip xs) && (FL.nodeOk f && EG.rises xs.length wo))) := rfl
  have NF : Hid _ := fun h => FL.node_yes (n := f) h
  have RE : Hid (FL.okP (LK.pip xs) = true → 0 ≤ f → f ≤ 7 → ∀ (g : Nat) (v : Option Addr) (cv : Nat) (W : World), MI3.RowAt W (some ⟨g, 0, none⟩) (LK.pwL xs wo) → M4.IntsAt W v (List.replicate xs.length 0) → Calls Try.prog 43 #[.slice (some ⟨g, 0, none⟩) xs.length xs.length, .int .i64 f, .slice v xs.length cv] W fun e w' => ∃ a1 c1, e = .returned (.slice a1 (FL.sideUp (LK.reachB xs f wo) 8).length c1) ∧ w'.ownsRow W.heap.size 3 1 (.slice a1 (FL.sideUp (LK.reachB xs f wo) 8).length c1) (FL.sideUp (LK.reachB xs f wo) 8).length (M4.iv (FL.sideUp (LK.reachB xs f wo) 8)) ∧ Below W.heap.size W w') := fun h h0 h7 g v cv W h1 h2 => by
    have := reachedFrom_any (some ⟨g, 0, none⟩) v xs.length cv (LK.pwL xs wo) (List.replicate xs.length 0) f W (LK.pw_ok h) h0 h7 (by rw [LK.pw_len]; simp) (LK.pw_fit xs wo) h1 h2 (FL.sideUp (LK.reachB xs f wo) 8) rfl
    rwa [LK.pw_len] at this
  generalize LK.rbOk xs f wo = is at *
  generalize LK.rbL xs f wo = L at *
  generalize FL.sideUp (LK.reachB xs f wo) 8 = M at *
  generalize FL.okP (LK.pip xs) = p at *
  generalize FL.nodeOk f = q at *
  have RA : Hid (EG.rises xs.length wo = true → ∀ m, m < wo.length → ∃ j : Nat, wo.getD m 0 = (j : Int) ∧ j < xs.length) := fun h m hm => LK.rises_at h hm
  generalize EG.rises xs.length wo = r at *
  clear hin hos
  go_enter Try.func16, Try.ntmps16
  go_wp2_with fail
  refine Calls.mono GL.out ?_
  rintro e w0 ⟨rfl, hb0⟩
  clear GL
  cases p with
  | false =>
    have h0 : is = false := OK.out
    subst h0
    have hL := NK.out (by trivial)
    subst hL
    clear NO RI PO NK YK OK NF RE RA
    go_wp2
    go_ret2
    exact ⟨none, 0, rfl, World.ownsRow_nil _ _ _ _, hb0⟩
  | true =>
    go_wp2_with fail
    refine (NO.out _).mono ?_
    rintro e w1 ⟨rfl, rfl⟩
    clear NO
    cases q with
    | false =>
      have h0 : is = false := OK.out
      subst h0
      have hL := NK.out (by trivial)
      subst hL
      clear RI PO NK YK OK NF RE RA
      go_wp2
      go_ret2
      exact ⟨none, 0, rfl, World.ownsRow_nil _ _ _ _, hb0⟩
    | true =>
      have RI2 : Hid _ := RI.out w0 (M4.IntsAt.below HS.out hb0)
      clear RI
      go_wp2_with fail
      refine Calls.mono RI2.out ?_
      rintro e w1 ⟨rfl, rfl⟩
      clear RI2
      cases r with
      | false =>
        have h0 : is = false := OK.out
        subst h0
        have hL := NK.out (by trivial)
        subst hL
        clear PO NK YK OK NF RE RA
        go_wp2
        go_ret2
        exact ⟨none, 0, rfl, World.ownsRow_nil _ _ _ _, hb0⟩
      | true =>
        have h0 : is = true := OK.out
        subst h0
        have hL := YK.out (by trivial)
        subst hL
        obtain ⟨f0, f7⟩ := NF.out (by trivial)
        have RE2 : Hid _ := RE.out (by trivial) f0 f7
        have PO2 : Hid _ := PO.out w0 (HI.out.below hb0)
        have RA2 : Hid _ := RA.out (by trivial)
        clear PO NK YK OK NF RE RA HI
        go_wp2_with fail
        refine Calls.mono PO2.out ?_
        rintro e w1 ⟨g, rfl, ho, hb1⟩
        have hB1 := hb0.trans (hb1.mono hb0.size)
        have HO : Hid (World.ownsRow w1 w0.heap.size 68 3 (.slice (some ⟨g, 0, none⟩) xs.length xs.length) xs.length (MI3.flat (LK.pwL xs (wo.take 0)))) := by
          show World.ownsRow _ _ _ _ _ _ _; rw [List.take_zero, LK.pw_nil]; exact ho
        have hg1 := (ho.lt g rfl).1
        clear PO2 ho
        have hS1 : Hid (M4.IntsAt w0 b wo) := M4.IntsAt.below HS.out hb0
        clear HS
        go_wp2
        go_loopw [31] (fun iv wr => ∃ m : Nat, iv = .int .i64 m ∧ m ≤ wo.length ∧ wr.ownsRow w0.heap.size 68 3 (.slice (some ⟨g, 0, none⟩) xs.length xs.length) xs.length (MI3.flat (LK.pwL xs (wo.take m))) ∧ Below w0.heap.size w0 wr) (fun iv _ => (wo.length - intOf iv).toNat)
        case atStart => exact ⟨0, rfl, by omega, HO.out, hb1⟩
        case round =>
          clear HO hb1 hB1
          obtain ⟨m, rfl, hm, hown, hb⟩ := hrel
          by_cases hlm : m < wo.length
          · obtain ⟨j, hj, hjx⟩ := RA2.out m hlm
            obtain ⟨b2, off2, rfl, hlt2, d0⟩ := M4.IntsAt.at (M4.IntsAt.below hS1.out hb) hlm
            rw [hj] at d0
            have HP : Hid _ := LK.pw_put xs wo hlm hj
            have hfl := LK.flat_put (LK.pwL xs (wo.take m)) j ⟨(MI2.at_ xs j).a0, (MI2.at_ xs j).a1, 0⟩ (by rw [LK.pw_len]; exact hjx) (by rw [LK.pw_at xs _ hjx]; rfl) (by rw [LK.pw_at xs _ hjx]; rfl)
            rw [← HP.out] at hfl
            have hlen := hown.1
            obtain ⟨y2, q2⟩ : ∃ y, wr.cell? ⟨g, j * 3 + 2, none⟩ = some y := MI3.some_at hown _ (by omega)
            have z2 := hown.frozenAt (j * 3 + 2)
            have s2 := World.ownsRow.stored hown (j * 3 + 2) (.int .i64 0)
            have R1 := s2.1
            rw [hfl] at R1
            have R2 := hb.grown s2.2 (hb.size) (fun j hj => by simp at hj; omega)
            clear s2 hfl hlen hown hb HP hj
            go_wp2
            go_roundw
            case rel => exact ⟨m + 1, by go_num, by omega, R1, R2⟩
            case measure => simp [intOf]; omega
          · obtain rfl : m = wo.length := by omega
            rw [List.take_length] at hown
            have HO : Hid (World.ownsRow wr w0.heap.size 68 3 (.slice (some ⟨g, 0, none⟩) xs.length xs.length) xs.length (MI3.flat (LK.pwL xs wo))) := hown
            clear hown RA2 hS1
            go_wp2_with (at_make; refine wpList_make_full _ rfl _ _ 29 rfl wr.heap.size 3 i0 (.int .i64 0) 1 Try.underlying29 hi hz0 hz1 .i64 .i64 _ _ xs.length rfl rfl rfl rfl ?_ ?_ ?_ ?_)
            · rw [hz2]; omega
            · unfold maxLen; omega
            · omega
            intro w2 hown2 hgrow
            rw [M4.made_iv] at hown2
            have hb2 : Below wr.heap.size wr w2 := (Below.refl _ _).grown hgrow (Nat.le_refl _) (fun k hk => by cases hk)
            have hB2 := (hb0.trans (hb.mono hb0.size)).trans (hb2.mono (Nat.le_trans hb0.size hb.size))
            have RE3 : Hid _ := RE2.out g (some ⟨wr.heap.size, 0, none⟩) xs.length w2 (MI3.RowAt.of_own (M5.own_below HO.out hb2)) (M4.IntsAt.of_own hown2)
            clear hgrow hown2 hb2 RE2 HO hi hz0 hz1 hz2
            generalize hll : L.length = ll at *
            have HLL : Hid _ := hll
            clear hll
            go_wp2_with fail
            refine Calls.mono RE3.out ?_
            rintro e w3 ⟨a3, c3, rfl, ho, hb3⟩
            have HO : Hid _ := FL.own_base ho hB2.size
            clear RE3 ho
            go_wp2
            go_ret2
            exact ⟨a3, c3, by rw [HLL.out]; rfl, by rw [HLL.out]; exact HO.out, hB2.trans (hb3.mono hB2.size)⟩
end Go.Proofs.Ytpabhjnpbnabiaa
