/- spec.FloodUntil. -/
import Derived.Test.YtdimdhiknjimaaaRows
import Derived.Test.YtdimdhiknjimaaaMFe
import Derived.Test.YtdimdhiknjimaaaCSmall6
import Derived.Test.YtdimdhiknjimaaaCPlan
import Derived.Test.YtdimdhiknjimaaaMInfo
import Derived.WalkKit
import Derived.WalkSpells
import Derived.WalkLawsBesides
import Derived.Outline
namespace Go.Proofs.Ytdimdhiknjimaaa
open Go.RowKit
set_option linter.unusedSimpArgs false in
set_option maxHeartbeats 1600000 in
set_option maxRecDepth 100000 in
theorem specFlood_no (a : Option Addr) (ca : Nat) (xs : List I5) (f n u : Int) (w : World) (hz : xs.length ≤ 1048576) (hin : MI5.RowAt w a xs) (h : PN.fdOk xs f n u = false) :
    Calls Try.prog 6 #[.slice a xs.length ca, .int .i64 f, .int .i64 n, .int .i64 u] w fun e w' => e = .returned (.tuple #[.slice none 0 0, .bool false]) ∧ Below w.heap.size w w' := by
  obtain ⟨R, hR⟩ : ∃ R, PN.okP xs = R := ⟨_, rfl⟩
  have GP : Hid (Calls _ _ _ _ _) := specGoodPlan_any a ca xs w hz hin R hR
  have ND : Hid (∀ W : World, Calls Try.prog 19 #[.int .i64 f] W fun e w' => e = .returned (.bool (PN.nodeOk f)) ∧ W = w') := fun W => nodeS_any f W
  have WN : Hid (∀ W : World, Calls Try.prog 20 #[.int .i64 n] W fun e w' => e = .returned (.bool (PN.whenOk n)) ∧ W = w') := fun W => whenS_any n W
  have WU : Hid (∀ W : World, Calls Try.prog 20 #[.int .i64 u] W fun e w' => e = .returned (.bool (PN.whenOk u)) ∧ W = w') := fun W => whenS_any u W
  have hh : (R && PN.nodeOk f && PN.whenOk n && PN.whenOk u) = false := by rw [← hR]; exact h
  clear h hR hin
  generalize PN.nodeOk f = N1 at *
  generalize PN.whenOk n = N2 at *
  generalize PN.whenOk u = N3 at *
  go_enter Try.func6, Try.ntmps6
  go_wp2_with fail
  refine Calls.mono GP.out ?_
  rintro e w1 ⟨rfl, hb⟩
  clear GP
  cases R with
  | false =>
    clear hh ND WN WU
    go_wp2
    go_ret2
    exact ⟨rfl, hb⟩
  | true =>
    go_wp2_with fail
    refine Calls.mono (ND.out _) ?_
    rintro e w2 ⟨rfl, rfl⟩
    cases N1 with
    | false =>
      clear hh ND WN WU
      go_wp2
      go_ret2
      exact ⟨rfl, hb⟩
    | true =>
      go_wp2_with fail
      refine Calls.mono (WN.out _) ?_
      rintro e w2 ⟨rfl, rfl⟩
      cases N2 with
      | false =>
        clear hh ND WN WU
        go_wp2
        go_ret2
        exact ⟨rfl, hb⟩
      | true =>
        go_wp2_with fail
        refine Calls.mono (WU.out _) ?_
        rintro e w2 ⟨rfl, rfl⟩
        cases N3 with
        | false =>
          clear hh ND WN WU
          go_wp2
          go_ret2
          exact ⟨rfl, hb⟩
        | true => cases hh
set_option linter.unusedSimpArgs false in
set_option maxHeartbeats 6400000 in
set_option maxRecDepth 100000 in
theorem specFlood_yes (a : Option Addr) (ca : Nat) (xs : List I5) (f n u : Int) (w : World) (hz : xs.length ≤ 1048576) (hin : MI5.RowAt w a xs) (h : PN.fdOk xs f n u = true) :
    Calls Try.prog 6 #[.slice a xs.length ca, .int .i64 f, .int .i64 n, .int .i64 u] w fun e w' => ∃ a1 c1, e = .returned (.tuple #[.slice a1 (PN.fdL xs f n u).length c1, .bool true]) ∧ w'.ownsRow w.heap.size 3 1 (.slice a1 (PN.fdL xs f n u).length c1) (PN.fdL xs f n u).length (M4.iv (PN.fdL xs f n u)) ∧ Below w.heap.size w w' := by
  have eL : PN.fdL xs f n u = PN.frL (PN.eaW xs f n) u 8 := if_pos h
  rw [eL]
  simp only [PN.fdOk, Bool.and_eq_true, decide_eq_true_eq] at h
  obtain ⟨⟨⟨hok, f0, f1⟩, n0, n1⟩, u0, u1⟩ := h
  obtain ⟨i0, hi, hz0, hz1, hz2⟩ := info_parts Try.info3
  have GP : Hid (Calls _ _ _ _ _) := specGoodPlan_any a ca xs w hz hin true hok
  have ND : Hid (∀ W : World, Calls Try.prog 19 #[.int .i64 f] W fun e w' => e = .returned (.bool true) ∧ W = w') := fun W => by have := nodeS_any f W; rwa [show PN.nodeOk f = true from decide_eq_true ⟨f0, f1⟩] at this
  have WN : Hid (∀ W : World, Calls Try.prog 20 #[.int .i64 n] W fun e w' => e = .returned (.bool true) ∧ W = w') := fun W => by have := whenS_any n W; rwa [show PN.whenOk n = true from decide_eq_true ⟨n0, n1⟩] at this
  have WU : Hid (∀ W : World, Calls Try.prog 20 #[.int .i64 u] W fun e w' => e = .returned (.bool true) ∧ W = w') := fun W => by have := whenS_any u W; rwa [show PN.whenOk u = true from decide_eq_true ⟨u0, u1⟩] at this
  have HI : Hid (∀ W : World, Below w.heap.size w W → MI5.RowAt W a xs) := fun W hb => hin.below hb
  have hlen : xs.length ≤ 20 := ((PN.okP_iff xs).1 hok).1
  have GC : Hid (∀ k, k < xs.length → PN.Good (MI5.at_ xs k)) := fun k hk => PN.okP_good hok hk
  have FS : Hid (PN.FI xs f.toNat n (PN.eaW xs f n) (PN.st0 f n).wh) := PN.fi_start hok n0 n1
  have SAME : Hid (∀ (G : Nat → FL.Mo) (m : Int), u + 1 ≤ m ∨ m = n ∧ u + 1 ≤ n → PN.FI xs f.toNat n (PN.eaW xs f n) G → PN.Qd xs n (m - 1) G → PN.frL (PN.eaW xs f n) u 8 = PN.frL G u 8) := fun G m hm hF hQ => PN.frL_congr (PN.flood_same hok f0 f1 n0 n1 hF (hQ.less (by omega))) 8
  have TAKE : Hid (∀ (now : Int) (G0 G : Nat → FL.Mo) (k : Nat) (b : Bool), PN.PS xs f.toNat n now (PN.eaW xs f n) G0 G k b → n ≤ now → now ≤ 1000 → k < xs.length → ∀ t, PN.fl1 xs now G k = some t → PN.PS xs f.toNat n now (PN.eaW xs f n) G0 (PN.put G (MI5.at_ xs k).a1.toNat (.fin t)) (k + 1) true) := fun now G0 G k b h h0 h1 hk t ht => h.take hok n0 n1 h0 h1 hk ht
  have QS : Hid (PN.Qd xs n (n - 1) (PN.st0 f n).wh) := PN.Qd.start xs n _
  obtain ⟨fn, rfl⟩ : ∃ fn : Nat, f = (fn : Int) := Int.eq_ofNat_of_zero_le f0
  have hfn : fn < 8 := by omega
  have hst : (PN.st0 (fn : Int) n).wh = PN.put (fun _ => .inf) fn (.fin n) := rfl
  rw [hst] at FS QS
  clear eL hok hin hst
  obtain ⟨LL, hLL⟩ : ∃ LL, PN.frL (PN.eaW xs (fn : Int) n) u 8 = LL := ⟨_, rfl⟩
  rw [hLL] at SAME ⊢
  clear hLL
  generalize PN.eaW xs (fn : Int) n = E at *
  go_enter Try.func6, Try.ntmps6
  go_wp2_with fail
  refine Calls.mono GP.out ?_
  rintro e w1 ⟨rfl, hb⟩
  clear GP
  go_wp2_with fail
  refine Calls.mono (ND.out _) ?_
  rintro e w2 ⟨rfl, rfl⟩
  go_wp2_with fail
  refine Calls.mono (WN.out _) ?_
  rintro e w2 ⟨rfl, rfl⟩
  go_wp2_with fail
  refine Calls.mono (WU.out _) ?_
  rintro e w2 ⟨rfl, rfl⟩
  clear ND WN WU
  have HB : Hid _ := hb
  have hb1s := hb.size
  clear hb
  go_wp2
  go_loopw [10, 11] (fun v iv wr => ∃ k : Nat, iv = .int .i64 k ∧ k ≤ 8 ∧ wr.ownsRow w1.heap.size 3 1 v k (M4.iv (List.replicate k (-1))) ∧ Below w1.heap.size w1 wr) (fun _ iv _ => (8 - intOf iv).toNat)
  case atStart => exact ⟨0, rfl, by omega, World.ownsRow_nil _ _ _ _, Below.refl _ _⟩
  case round =>
    obtain ⟨k, rfl, hk, hT, hb⟩ := hrel
    have hbs := hb.size
    by_cases hl : k < 8
    · have hT' : Hid _ := hT
      clear hT
      have hk0 : (k : Int) < 8 := by omega
      go_wp2_with (at_builtin; refine wpList_append_own _ rfl _ _ 26 rfl w1.heap.size 3 i0 (.int .i64 0) 1 8 Try.underlying26 hi hz0 hz1 hz2 rfl (by decide) _ _ _ rfl (World.ownsRow.alloc hT'.out _) ⟨wr.heap.size, 0, none⟩ 1 1 [.int .i64 (-1)] rfl rfl ?c1 ?c2 ?c3 ?c4 ?c5 ?_)
      case c1 => exact M2.new1 _ _ _
      case c2 => exact M2.one1 _ _
      case c3 => unfold maxLen; omega
      case c4 => omega
      case c5 => simp; omega
      intro u' w2 hown2 hgrow2 _
      rw [PN.iv_snoc] at hown2
      have hb2 : Below w1.heap.size w1 w2 := (hb.alloc hbs _).grown hgrow2 (by simp; omega) (fun j hj => (World.ownsRow.lt hT'.out j hj).1)
      clear hT' hgrow2 hb hbs
      go_wp2
      go_roundw
      case rel => exact ⟨k + 1, by go_num, by omega, hown2, hb2⟩
      case measure => simp [intOf]; omega
    · obtain rfl : k = 8 := by omega
      obtain ⟨g, c, rfl⟩ := PN.own_some hT
      have hS : PN.OR w1 w1 wr g c (fun _ => .inf) := ⟨by rw [PN.whL_none]; exact hT, hb⟩
      have cf := hS.cell hfn
      have ff := hS.a.frozenAt fn
      have hS2 := hS.put (Nat.le_refl _) hfn (.fin n)
      have l1 := hS.lt
      have HS2 : Hid (PN.OR w1 w1 (wr.setCell ⟨g, fn, none⟩ (.int .i64 n)) g c (PN.put (fun _ => .inf) fn (.fin n))) := hS2
      clear hS hS2 hT hb hbs
      have ii0 : (0 : Int) ≤ (fn : Int) := by omega
      have ii8 : (fn : Int) < 8 := by omega
      go_wp2
      generalize wr.setCell ⟨g, fn, none⟩ (.int .i64 n) = W at *
      clear cf ff l1 hk hl
      go_loopw [12] (fun nv wo => ∃ (m : Int) (G : Nat → FL.Mo), nv = .int .i64 m ∧ n ≤ m ∧ (m ≤ u + 1 ∨ m = n) ∧ Hid (PN.FI xs fn n E G) ∧ Hid (PN.Qd xs n (m - 1) G) ∧ Hid (PN.OR w1 w1 wo g c G)) (fun nv _ => (u + 1 - intOf nv).toNat)
      case atStart => exact ⟨n, _, rfl, by omega, .inr rfl, FS, QS, HS2⟩
      case round =>
        clear HS2 FS QS
        obtain ⟨m, G, rfl, hnm, hmu, hF, hQ, hS⟩ := hrel
        by_cases hlm : m ≤ u
        · have hm1 : m ≤ 1000 := by omega
          have hm2 : m ≤ u + 1 := by omega
          clear hmu SAME
          obtain ⟨Wn, hWn⟩ : ∃ Wn, Wn = wr := ⟨_, rfl⟩
          go_wp2
          go_loopw [13] (fun bv wa => ∃ (b : Bool) (G : Nat → FL.Mo), bv = .bool b ∧ Hid (b = false → ∀ k, k < xs.length → PN.fl1 xs m G k = none) ∧ Hid (PN.FI xs fn n E G) ∧ Hid (PN.Qd xs n (m - 1) G) ∧ Hid (PN.OR w1 w1 wa g c G)) (fun bv wa => 2 * PN.MU g wa + PN.bN bv)
          case atStart => exact ⟨true, G, rfl, (show Hid _ from fun h => by cases h), hF, hQ, hS⟩
          case round =>
            clear hF hQ hS
            obtain ⟨b, G, rfl, hN, hF, hQ, hS⟩ := hrel
            cases b with
            | false =>
              have hQ2 : Hid (PN.Qd xs n (m + 1 - 1) G) := by have := hQ.out.done hF.out.na (hN.out rfl); rw [show m + 1 - 1 = m by omega]; exact this
              clear hQ hN
              go_wp2
              go_roundw
              case rel => exact ⟨m + 1, G, by go_num, by omega, .inl (by omega), hF, hQ2, hS⟩
              case measure => simp [intOf]; omega
            | true =>
              clear hN
              have HM : Hid (PN.MU g wr = PN.mu G) := hS.out.mu hF.out.ok
              have HP : Hid (PN.PS xs fn n m E G G 0 false) := ⟨hF.out, hQ.out, fun _ => ⟨rfl, fun j hj => by omega⟩, fun h => by cases h⟩
              clear hF hQ
              obtain ⟨Wa, hWa⟩ : ∃ Wa, Wa = wr := ⟨_, rfl⟩
              go_wp2
              go_loopw [13, 58] (fun bv iv wi => ∃ (k : Nat) (b : Bool) (G' : Nat → FL.Mo), bv = .bool b ∧ iv = .int .i64 k ∧ k ≤ xs.length ∧ Hid (PN.PS xs fn n m E G G' k b) ∧ Hid (PN.OR w1 w1 wi g c G')) (fun _ iv _ => (xs.length - intOf iv).toNat)
              case atStart => exact ⟨0, false, G, rfl, rfl, by omega, HP, hS⟩
              case round =>
                clear HP hS
                obtain ⟨k, b, G', rfl, rfl, hk, hP, hS⟩ := hrel
                by_cases hlk : k < xs.length
                · obtain ⟨b4, off4, rfl, hlt4, e0, e1, e2, e3, e4⟩ := (HI.out wr (HB.out.trans (hS.out.bl.mono HB.out.size))).at hlk
                  have Gd := GC.out k hlk
                  obtain ⟨i, hi'⟩ := Int.eq_ofNat_of_zero_le Gd.f0
                  obtain ⟨j, hj'⟩ := Int.eq_ofNat_of_zero_le Gd.t0
                  have hi8 : i < 8 := by have := Gd.f1; omega
                  have hj8 : j < 8 := by have := Gd.t1; omega
                  have ii0 : (0 : Int) ≤ (i : Int) := by omega
                  have ii8 : (i : Int) < 8 := by omega
                  have jj0 : (0 : Int) ≤ (j : Int) := by omega
                  have jj8 : (j : Int) < 8 := by omega
                  have hin : (MI5.at_ xs k).a0.toNat = i := by rw [hi']; rfl
                  have hjn : (MI5.at_ xs k).a1.toNat = j := by rw [hj']; rfl
                  have F1 : Hid _ := fun h => PN.fl1_inf (xs := xs) (now := m) (G := G') hin h
                  have F2 : Hid _ := fun p h hc => PN.fl1_shut (xs := xs) (now := m) (G := G') (p := p) hin h hc
                  have F3 : Hid _ := fun p q h hq hl => PN.fl1_late (xs := xs) (now := m) (G := G') (p := p) (q := q) hin h hjn hq hl
                  have F4 : Hid _ := fun p h hc hq => PN.fl1_new (xs := xs) (now := m) (G := G') (p := p) hin h hc hjn hq
                  have SK : Hid _ := fun h => hP.out.skip (k := k) h
                  have TK : Hid _ := fun t h => TAKE.out m G G' k b hP.out hnm hm1 hlk t h
                  rw [hjn] at TK
                  have oi := hP.out.fi.ok i
                  have oj := hP.out.fi.ok j
                  have ni := hP.out.fi.na i
                  have nj := hP.out.fi.na j
                  have ci := hS.out.cell hi8
                  have cj := hS.out.cell hj8
                  have l1 := hS.out.lt
                  have fj := hS.out.a.frozenAt j
                  rw [hi'] at e0
                  rw [hj'] at e1
                  have d0 := Gd.d0
                  have d1 := Gd.d1
                  have hS' := hS.out.kept ((Below.refl _ wr).alloc (Nat.le_refl _) (.cells #[.int .i64 (i : Int), .int .i64 (j : Int), .int .i64 (MI5.at_ xs k).a2, .int .i64 (MI5.at_ xs k).a3, .int .i64 (MI5.at_ xs k).a4] 55))
                  have PUT : Hid _ := fun t => (hS.out.put (Nat.le_refl _) hj8 (.fin t)).kept ((Below.refl _ _).alloc (Nat.le_refl _) (.cells #[.int .i64 (i : Int), .int .i64 (j : Int), .int .i64 (MI5.at_ xs k).a2, .int .i64 (MI5.at_ xs k).a3, .int .i64 (MI5.at_ xs k).a4] 55))
                  have HS : Hid _ := hS'
                  clear hS hS' GC HI TAKE hin hjn HM Gd
                  generalize hx : MI5.at_ xs k = x at *
                  obtain ⟨x0, x1, x2, x3, x4⟩ := x
                  simp only at hi' hj' e0 e1 e2 e3 e4 HS d0 d1 PUT
                  subst hi' hj'
                  generalize hmi : G' i = mi at *
                  generalize hmj : G' j = mj at *
                  cases mi with
                  | ago => exact absurd rfl ni
                  | inf =>
                    have hP2 : Hid _ := SK.out (F1.out rfl)
                    clear F1 F2 F3 F4 SK TK hP PUT hx
                    simp only [PN.tS] at ci
                    go_wp2
                    go_roundw
                    case rel => exact ⟨k + 1, b, G', rfl, by go_num, by omega, hP2, HS⟩
                    case measure => simp [intOf]; omega
                  | fin p =>
                    simp only [PN.tS] at ci
                    have hp0 : 0 ≤ p := oi.1
                    have b1 : decide (p < 0) = false := decide_eq_false (by omega)
                    by_cases h1 : p ≤ m
                    · have b2 : decide (m < p) = false := decide_eq_false (by omega)
                      by_cases h2 : x2 ≤ m
                      · have b3 : decide (m < x2) = false := decide_eq_false (by omega)
                        by_cases h3 : m < x3
                        · have b4 : decide (x3 ≤ m) = false := decide_eq_false (by omega)
                          have hwr : IntKind.i64.wrap (m + x4) = m + x4 := by rw [IntKind.wrap_i64]; omega
                          cases mj with
                          | ago => exact absurd rfl nj
                          | inf =>
                            simp only [PN.tS] at cj
                            have hP2 : Hid _ := TK.out _ (F4.out p rfl ⟨h1, h2, h3⟩ rfl)
                            have hS2 : Hid _ := PUT.out (m + x4)
                            simp only [PN.tS] at hS2
                            obtain ⟨-, hgl⟩ := l1
                            clear F1 F2 F3 F4 SK TK hP PUT hx oi oj ni nj hmi hmj d0 d1 hz n0 n1 u0 u1 hnm hlm hm1 hm2 hb1s  hfn HB HS hp0 h1 h2 h3
                            go_wp2
                            go_roundw
                            case rel => exact ⟨k + 1, true, _, rfl, by go_num, by omega, hP2, hS2⟩
                            case measure => simp [intOf]; omega
                          | fin q =>
                            simp only [PN.tS] at cj
                            have hq0 : 0 ≤ q := oj.1
                            have b5 : decide (q < 0) = false := decide_eq_false (by omega)
                            by_cases h4 : m + x4 < q
                            · have b6 : decide (m + x4 < q) = true := decide_eq_true h4
                              have hP2 : Hid _ := TK.out _ (F4.out p rfl ⟨h1, h2, h3⟩ (decide_eq_true h4))
                              have hS2 : Hid _ := PUT.out (m + x4)
                              simp only [PN.tS] at hS2
                              obtain ⟨-, hgl⟩ := l1
                              clear F1 F2 F3 F4 SK TK hP PUT hx oi oj ni nj hmi hmj d0 d1 hz n0 n1 u0 u1 hnm hlm hm1 hm2 hb1s  hfn HB HS hp0 hq0 h1 h2 h3 h4
                              go_wp2
                              go_roundw
                              case rel => exact ⟨k + 1, true, _, rfl, by go_num, by omega, hP2, hS2⟩
                              case measure => simp [intOf]; omega
                            · have b6 : decide (m + x4 < q) = false := decide_eq_false h4
                              have hP2 : Hid _ := SK.out (F3.out p q rfl rfl h4)
                              obtain ⟨-, hgl⟩ := l1
                              clear F1 F2 F3 F4 SK TK hP PUT hx oi oj ni nj hmi hmj d0 d1 hz n0 n1 u0 u1 hnm hlm hm1 hm2 hb1s  hfn HB hp0 hq0 h1 h2 h3 h4
                              go_wp2
                              go_roundw
                              case rel => exact ⟨k + 1, b, G', rfl, by go_num, by omega, hP2, HS⟩
                              case measure => simp [intOf]; omega
                        · have b4 : decide (x3 ≤ m) = true := decide_eq_true (by omega)
                          have hP2 : Hid _ := SK.out (F2.out p rfl (fun h => h3 h.2.2))
                          obtain ⟨-, hgl⟩ := l1
                          clear F1 F2 F3 F4 SK TK hP PUT hx oi oj ni nj hmi hmj d0 d1 hz n0 n1 u0 u1 hnm hlm hm1 hm2 hb1s  hfn HB hp0 h1 h2 h3
                          go_wp2
                          go_roundw
                          case rel => exact ⟨k + 1, b, G', rfl, by go_num, by omega, hP2, HS⟩
                          case measure => simp [intOf]; omega
                      · have b3 : decide (m < x2) = true := decide_eq_true (by omega)
                        have hP2 : Hid _ := SK.out (F2.out p rfl (fun h => h2 h.2.1))
                        obtain ⟨-, hgl⟩ := l1
                        clear F1 F2 F3 F4 SK TK hP PUT hx oi oj ni nj hmi hmj d0 d1 hz n0 n1 u0 u1 hnm hlm hm1 hm2 hb1s  hfn HB hp0 h1 h2
                        go_wp2
                        go_roundw
                        case rel => exact ⟨k + 1, b, G', rfl, by go_num, by omega, hP2, HS⟩
                        case measure => simp [intOf]; omega
                    · have b2 : decide (m < p) = true := decide_eq_true (by omega)
                      have hP2 : Hid _ := SK.out (F2.out p rfl (fun h => h1 h.1))
                      obtain ⟨-, hgl⟩ := l1
                      clear F1 F2 F3 F4 SK TK hP PUT hx oi oj ni nj hmi hmj d0 d1 hz n0 n1 u0 u1 hnm hlm hm1 hm2 hb1s  hfn HB hp0 h1
                      go_wp2
                      go_roundw
                      case rel => exact ⟨k + 1, b, G', rfl, by go_num, by omega, hP2, HS⟩
                      case measure => simp [intOf]; omega
                · obtain rfl : k = xs.length := by omega
                  cases b with
                  | false =>
                    obtain ⟨e1, e2⟩ := hP.out.no rfl
                    subst e1
                    have hF : Hid _ := hP.out.fi
                    have hQ : Hid _ := hP.out.qd
                    have hN : Hid (false = false → ∀ k, k < xs.length → PN.fl1 xs m G' k = none) := fun _ => e2
                    have HM2 := hS.out.mu hP.out.fi.ok
                    have HM1 := HM.out
                    clear hP e2
                    go_wp2
                    go_roundw
                    case rel => exact ⟨false, G', rfl, hN, hF, hQ, hS⟩
                    case measure => simp only [PN.bN]; omega
                  | true =>
                    have e1 := hP.out.yes rfl
                    have hF : Hid _ := hP.out.fi
                    have hQ : Hid _ := hP.out.qd
                    have hN : Hid (true = false → ∀ k, k < xs.length → PN.fl1 xs m G' k = none) := fun h => by cases h
                    have HM2 := hS.out.mu hP.out.fi.ok
                    have HM1 := HM.out
                    clear hP
                    go_wp2
                    go_roundw
                    case rel => exact ⟨true, G', rfl, hN, hF, hQ, hS⟩
                    case measure => simp only [PN.bN]; omega
        · have HL := SAME.out G m (by omega) hF.out hQ.out
          have HNA : Hid (∀ v, G v ≠ .ago) := hF.out.na
          have HOKT : Hid (PN.okS G) := hF.out.ok
          clear hF hQ SAME TAKE GC HI
          have hlt := hS.out.lt
          have CELL : Hid (∀ (i : Nat) (W : World), i < 8 → Below wr.heap.size wr W → W.cell? ⟨g, i, none⟩ = some (.int .i64 (PN.tS (G i)))) := fun i W hi hb => (hb.cell (p := ⟨g, i, none⟩) hlt.2).trans (hS.out.cell hi)
          have HBL : Hid (Below w1.heap.size w1 wr) := hS.out.bl
          clear hS
          obtain ⟨Wz, hWz⟩ : ∃ Wz, Wz = wr := ⟨_, rfl⟩
          subst hWz
          go_wp2
          go_loopw [17, 116] (fun ov iv wi => ∃ k : Nat, iv = .int .i64 k ∧ k ≤ 8 ∧ Hid (World.ownsRow wi Wz.heap.size 3 1 ov (PN.frL G u k).length (M4.iv (PN.frL G u k))) ∧ Below Wz.heap.size Wz wi) (fun _ iv _ => (8 - intOf iv).toNat)
          case atStart => exact ⟨0, rfl, by omega, World.ownsRow_nil _ _ _ _, Below.refl _ _⟩
          case round =>
            obtain ⟨k, rfl, hk, hO, hb⟩ := hrel
            by_cases hl8 : k < 8
            · have ck := CELL.out k wr hl8 hb
              have hbs := hb.size
              have hgl : g < wr.heap.size := by omega
              have ok := HOKT.out k
              have hna := HNA.out k
              have HY : Hid _ := @PN.frL_yes G u k
              have HN2 : Hid _ := @PN.frL_no G u k
              generalize hm : G k = mm at *
              have hkk0 : (0 : Int) ≤ (k : Int) := by omega
              have hkk8 : (k : Int) < 8 := by omega
              cases mm with
              | ago => exact absurd rfl hna
              | inf =>
                have hO2 : Hid (World.ownsRow wr Wz.heap.size 3 1 u17 (PN.frL G u (k + 1)).length (M4.iv (PN.frL G u (k + 1)))) := by rw [HN2.out rfl]; exact hO
                clear hO HY HN2 CELL
                simp only [PN.tS] at ck
                go_wp2
                go_roundw
                case rel => exact ⟨k + 1, by go_num, by omega, hO2, hb⟩
                case measure => simp [intOf]; omega
              | fin t =>
                simp only [PN.tS] at ck
                have ht0 : 0 ≤ t := ok.1
                by_cases htu : t ≤ u
                · have hE := HY.out (decide_eq_true htu)
                  have hO' : Hid _ := hO
                  have HEQ : Hid _ := hE
                  have hfl := PN.frL_len G u k
                  clear hO HY HN2 CELL hE hm
                  generalize hFk : PN.frL G u k = Fk at *
                  have HFk : Hid _ := hFk
                  clear hFk
                  go_wp2_with (at_builtin; refine wpList_append_own _ rfl _ _ 26 rfl Wz.heap.size 3 i0 (.int .i64 0) 1 8 Try.underlying26 hi hz0 hz1 hz2 rfl (by decide) _ _ _ rfl (World.ownsRow.alloc hO'.out _) ⟨wr.heap.size, 0, none⟩ 1 1 [.int .i64 (k : Int)] rfl rfl ?d1 ?d2 ?d3 ?d4 ?d5 ?_)
                  case d1 => exact M2.new1 _ _ _
                  case d2 => exact M2.one1 _ _
                  case d3 => unfold maxLen; omega
                  case d4 => omega
                  case d5 => simp; omega
                  intro u' w2 hown2 hgrow2 _
                  rw [PN.iv_snoc2] at hown2
                  have hb2 : Below Wz.heap.size Wz w2 := (hb.alloc hbs _).grown hgrow2 (by simp; omega) (fun j hj => (World.ownsRow.lt hO'.out j hj).1)
                  have hO2 : Hid (World.ownsRow w2 Wz.heap.size 3 1 u' (PN.frL G u (k + 1)).length (M4.iv (PN.frL G u (k + 1)))) := by rw [HEQ.out]; simpa [Hid] using hown2
                  clear hO' hgrow2 hown2 hb HEQ
                  go_wp2
                  go_roundw
                  case rel => exact ⟨k + 1, by go_num, by omega, hO2, hb2⟩
                  case measure => simp [intOf]; omega
                · have hO2 : Hid (World.ownsRow wr Wz.heap.size 3 1 u17 (PN.frL G u (k + 1)).length (M4.iv (PN.frL G u (k + 1)))) := by rw [HN2.out (decide_eq_false htu)]; exact hO
                  clear hO HY HN2 CELL
                  go_wp2
                  go_roundw
                  case rel => exact ⟨k + 1, by go_num, by omega, hO2, hb⟩
                  case measure => simp [intOf]; omega
            · obtain rfl : k = 8 := by omega
              have HOO : Hid (World.ownsRow wr Wz.heap.size 3 1 u17 LL.length (M4.iv LL)) := by rw [HL]; exact hO
              obtain ⟨a1, c1, rfl, -⟩ := M5.own_view HOO.out
              have hzz := HBL.out.size
              have HBB : Hid (Below w.heap.size w wr) := HB.out.trans ((HBL.out.trans (hb.mono HBL.out.size)).mono HB.out.size)
              clear CELL
              go_wp2
              go_ret2
              exact ⟨a1, c1, rfl, CS6.own_base HOO.out (by omega), HBB.out⟩
end Go.Proofs.Ytdimdhiknjimaaa
