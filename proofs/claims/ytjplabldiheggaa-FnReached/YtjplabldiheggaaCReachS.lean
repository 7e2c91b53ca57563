import Derived.Test.YtjplabldiheggaaRows
import Derived.Test.YtjplabldiheggaaMArr
import Derived.WalkKit
import Derived.WalkSpells
import Derived.WalkLawsBesides
import Derived.Outline
import Derived.Deep.RegionHeld3
import Derived.Test.YtjplabldiheggaaM6W
import Derived.Test.YtjplabldiheggaaCPlan
import Derived.Test.YtjplabldiheggaaCSmall6
import Derived.Test.YtjplabldiheggaaM6R
import Derived.Test.YtjplabldiheggaaMRou
import Derived.Deep.QuietTactic
import Derived.BigQuiet
import Derived.Laws.AppendOwnNone
import Derived.Test.YtjplabldiheggaaMReL
import Derived.Test.YtjplabldiheggaaCFits
import Derived.Test.YtjplabldiheggaaCRise
import Derived.Test.YtjplabldiheggaaCInfoRc
/- l6Over, the specification's. -/
namespace Go.Proofs.Ytjplabldiheggaa
open Go.RowKit
/-- What l6Over tells. -/
def PN.ov (c : I5) (n : Int) : Int := if c.a3 ≤ n then -1 else max n c.a2 + c.a4
set_option maxHeartbeats 800000 in
set_option maxRecDepth 100000 in
theorem l6Over_any (c : I5) (n : Int) (w : World) (hc : PN.Good c) (h0 : 0 ≤ n) (h1 : n ≤ 1048576) :
    Calls Try.prog 80 #[c.v, .int .i64 n] w fun e w' => e = .returned (.int .i64 (PN.ov c n)) ∧ Below w.heap.size w w' := by
  have hB : ∀ o, Below w.heap.size w (w.alloc o) := fun o => (Below.refl _ w).alloc (Nat.le_refl _) o
  obtain ⟨f0, f1, t0, t1, ne, e0, e1, s0, s1, d0, d1⟩ := hc
  obtain ⟨r, hr⟩ : ∃ r, PN.ov c n = r := ⟨_, rfl⟩
  rw [hr]
  obtain ⟨x0, x1, x2, x3, x4⟩ := c
  simp only [PN.ov] at *
  by_cases hl : x3 ≤ n
  · rw [if_pos hl] at hr
    subst hr
    go_enter Try.func80, Try.ntmps80
    go_wp2
    go_ret
    exact ⟨rfl, hB _⟩
  · rw [if_neg hl] at hr
    by_cases h2 : n < x2
    · obtain rfl : r = x2 + x4 := by omega
      clear hr
      go_enter Try.func80, Try.ntmps80
      go_wp2
      go_ret
      exact ⟨rfl, hB _⟩
    · obtain rfl : r = n + x4 := by omega
      clear hr
      go_enter Try.func80, Try.ntmps80
      go_wp2
      go_ret
      exact ⟨rfl, hB _⟩
theorem PN.ov_no {c : I5} {n : Int} (h : c.a3 ≤ n) : PN.ov c n = -1 ∧ PN.arr c (.fin n) = .inf := by simp [PN.ov, PN.arr, h]
theorem PN.ov_yes {c : I5} {n : Int} (h : ¬ c.a3 ≤ n) : PN.arr c (.fin n) = .fin (PN.ov c n) := by simp [PN.ov, PN.arr, h]
end Go.Proofs.Ytjplabldiheggaa

/- l6Search, the specification's. -/
namespace Go.Proofs.Ytjplabldiheggaa
open Go.RowKit
theorem new1' (W : World) (x : Value) (e : TypeId) : ∀ (j : Nat) (u : Value), [x][j]? = some u → (W.alloc (.cells #[x] e)).cell? ((⟨W.heap.size, 0, none⟩ : Addr).add j) = some u := M2.new1 W x e
set_option linter.unusedSimpArgs false in
set_option maxHeartbeats 3200000 in
set_option maxRecDepth 100000 in
theorem l6Search_any (a : Option Addr) (ca : Nat) (xs : List I5) (f n : Int) (w : World) (hok : PN.okP xs = true) (hf0 : 0 ≤ f) (hf1 : f ≤ 7) (hn0 : 0 ≤ n) (hn1 : n ≤ 1000) (hin : MI5.RowAt w a xs) :
    Calls Try.prog 74 #[.slice a xs.length ca, .int .i64 f, .int .i64 n] w fun e w' => ∃ g1 g2 c1 c2, e = .returned (.tuple #[.slice (some ⟨g1, 0, none⟩) 8 c1, .slice (some ⟨g2, 0, none⟩) 8 c2]) ∧ PN.SR w.heap.size w w' g1 g2 c1 c2 (PN.fin xs (PN.st0 f n)) := by
  obtain ⟨i0, hi, hz0, hz1, hz2⟩ := info_parts Try.info3
  have HI : Hid (MI5.RowAt w a xs) := hin
  have hlen : xs.length ≤ 20 := ((PN.okP_iff xs).1 hok).1
  have GC : Hid (∀ k, k < xs.length → PN.Good (MI5.at_ xs k)) := fun k hk => PN.okP_good hok hk
  have HOK : Hid _ := hok
  have hf : ∃ fn : Nat, f = (fn : Int) := Int.eq_ofNat_of_zero_le hf0
  obtain ⟨fn, rfl⟩ := hf
  have hfn : fn < 8 := by omega
  clear hin hok
  go_enter Try.func74, Try.ntmps74
  go_wp2
  go_loopw [8, 9, 10] (fun u v iv wr => ∃ k : Nat, iv = .int .i64 k ∧ k ≤ 8 ∧ PN.Two w.heap.size wr u v k (List.replicate k (-1)) (List.replicate k (-1)) ∧ Below w.heap.size w wr) (fun _ _ iv _ => (8 - intOf iv).toNat)
  case atStart => exact ⟨0, rfl, by omega, ⟨World.ownsRow_nil _ _ _ _, World.ownsRow_nil _ _ _ _, fun g hg => by cases hg⟩, Below.refl _ _⟩
  case round =>
    obtain ⟨k, rfl, hk, hT, hb⟩ := hrel
    have hbs := hb.size
    by_cases hl : k < 8
    · have hT' : Hid _ := hT
      clear hT
      have hk0 : (k : Int) < 8 := by omega
      go_wp2_with (at_builtin; refine wpList_append_own_at _ rfl _ _ 26 rfl w.heap.size 3 i0 (.int .i64 0) 1 8 Try.underlying26 hi hz0 hz1 hz2 rfl (by decide) _ _ _ rfl (hT'.out.a.alloc _) ⟨wr.heap.size, 0, none⟩ 1 1 [.int .i64 (-1)] rfl rfl ?c1 ?c2 ?c3 ?c4 ?c5 ?_)
      case c1 => exact M2.new1 _ _ _
      case c2 => exact M2.one1 _ _
      case c3 => unfold maxLen; omega
      case c4 => omega
      case c5 => simp; omega
      intro u' w2 hown2 hgrow2 _ loc2
      obtain ⟨rb2, ne2⟩ := PN.grown_a hT'.out.a hT'.out.b hT'.out.ne hown2 hgrow2 loc2
      rw [PN.iv_snoc] at hown2
      have hb2 : Below w.heap.size w w2 := (hb.alloc hbs _).grown hgrow2 (by simp; omega) (fun j hj => (hT'.out.a.lt j hj).1)
      have hbs2 := hb2.size
      have HA2 : Hid (w2.ownsRow w.heap.size 3 1 u' (k + 1) (M4.iv (List.replicate (k + 1) (-1)))) := hown2
      have HB2 : Hid (w2.ownsRow w.heap.size 3 1 u9 k (M4.iv (List.replicate k (-1)))) := rb2
      have NE2 : Hid (∀ g, u9.ownBlock = some g → u'.ownBlock ≠ some g) := fun g hg e => ne2 g e hg
      clear hT' hown2 hgrow2 loc2 rb2 ne2 hb hbs
      go_wp2_with (at_builtin; refine wpList_append_own_at _ rfl _ _ 26 rfl w.heap.size 3 i0 (.int .i64 0) 1 8 Try.underlying26 hi hz0 hz1 hz2 rfl (by decide) _ _ _ rfl (World.ownsRow.alloc HB2.out _) ⟨w2.heap.size, 0, none⟩ 1 1 [.int .i64 (-1)] rfl rfl ?c1 ?c2 ?c3 ?c4 ?c5 ?_)
      case c1 => exact M2.new1 _ _ _
      case c2 => exact M2.one1 _ _
      case c3 => unfold maxLen; omega
      case c4 => omega
      case c5 => simp; omega
      intro v' w3 hown3 hgrow3 _ loc3
      obtain ⟨ra3, ne3⟩ := PN.grown_a HB2.out HA2.out NE2.out hown3 hgrow3 loc3
      rw [PN.iv_snoc] at hown3
      have hb3 : Below w.heap.size w w3 := (hb2.alloc hbs2 _).grown hgrow3 (by simp; omega) (fun j hj => (World.ownsRow.lt HB2.out j hj).1)
      have R1 : PN.Two w.heap.size w3 u' v' (k + 1) (List.replicate (k + 1) (-1)) (List.replicate (k + 1) (-1)) := ⟨ra3, hown3, fun g hg e => ne3 g e hg⟩
      clear HA2 HB2 NE2 hown3 hgrow3 loc3 ra3 ne3 hb2 hbs2
      go_wp2
      go_roundw
      case rel => exact ⟨k + 1, by go_num, by omega, R1, hb3⟩
      case measure => simp [intOf]; omega
    · obtain rfl : k = 8 := by omega
      obtain ⟨g1, c1, rfl⟩ := PN.own_some hT.a
      obtain ⟨g2, c2, rfl⟩ := PN.own_some hT.b
      have hS : PN.SR w.heap.size w wr g1 g2 c1 c2 ⟨fun _ => .inf, fun _ => none⟩ := ⟨by rw [PN.whL_none]; exact hT.a, by rw [PN.laL_none]; exact hT.b, fun e => hT.ne g1 rfl (by rw [e]; rfl), hb⟩
      have cf := hS.cellA hfn
      have ff := hS.a.frozenAt fn
      have hS2 := hS.putA (Nat.le_refl _) hfn (.fin n)
      have l1 := hS.l1
      have HS2 : Hid (PN.SR w.heap.size w (wr.setCell ⟨g1, fn, none⟩ (.int .i64 n)) g1 g2 c1 c2 (PN.st0 (fn : Int) n)) := hS2
      have HF : Hid (PN.okS (PN.st0 (fn : Int) n).wh) := PN.st0_ok hn0 hn1
      clear hS hS2 hT hb hbs
      go_wp2
      generalize wr.setCell ⟨g1, fn, none⟩ (.int .i64 n) = W at *
      clear cf ff l1 hk hl
      go_loopw [11, 12] (fun _ _ wo => ∃ s : PN.St, PN.SR w.heap.size w wo g1 g2 c1 c2 s ∧ Hid (PN.okS s.wh) ∧ Hid (PN.fin xs s = PN.fin xs (PN.st0 (fn : Int) n))) (fun _ _ wo => PN.MU g1 wo)
      case atStart => exact ⟨_, HS2.out, HF, rfl⟩
      case round =>
        clear HS2 HF
        obtain ⟨s, hS, hO, hF⟩ := hrel
        have HM : Hid (PN.MU g1 wr = PN.mu s.wh) := hS.mu hO.out
        have HS : Hid _ := hS
        clear hS
        go_wp2
        go_loopw [11, 12, 13, 15, 32] (fun bv tv _ _ iv wi => ∃ (k : Nat) (b t : Int), bv = .int .i64 b ∧ tv = .int .i64 t ∧ iv = .int .i64 k ∧ k ≤ xs.length ∧ Hid (PN.BT (PN.best xs s.wh k) b t) ∧ PN.SR w.heap.size w wi g1 g2 c1 c2 s) (fun _ _ _ _ iv _ => (xs.length - intOf iv).toNat)
        case atStart => exact ⟨0, -1, 0, rfl, rfl, rfl, by omega, show Hid _ from ⟨rfl, rfl⟩, HS.out⟩
        case round =>
          clear HS
          obtain ⟨k, b, t, rfl, rfl, rfl, hk, hT, hS⟩ := hrel
          by_cases hlk : k < xs.length
          · obtain ⟨b4, off4, rfl, hlt4, e0, e1, e2, e3, e4⟩ := (HI.out.below hS.bl).at hlk
            have G := GC.out k hlk
            obtain ⟨i, hi⟩ := Int.eq_ofNat_of_zero_le G.f0
            obtain ⟨j, hj⟩ := Int.eq_ofNat_of_zero_le G.t0
            have hi8 : i < 8 := by have := G.f1; omega
            have hj8 : j < 8 := by have := G.t1; omega
            have ii0 : (0 : Int) ≤ (i : Int) := by omega
            have ii8 : (i : Int) < 8 := by omega
            have jj0 : (0 : Int) ≤ (j : Int) := by omega
            have jj8 : (j : Int) < 8 := by omega
            have hin : (MI5.at_ xs k).a0.toNat = i := by rw [hi]; rfl
            have hjn : (MI5.at_ xs k).a1.toNat = j := by rw [hj]; rfl
            have B1 : Hid _ := @PN.best_skip xs s.wh k
            have B2 : Hid _ := @PN.best_late xs s.wh k
            have B3 : Hid _ := @PN.best_first xs s.wh k
            have B4 : Hid _ := @PN.best_new xs s.wh k
            have B5 : Hid _ := @PN.best_old xs s.wh k
            rw [hin] at B1 B2 B3 B4 B5
            rw [hjn] at B2 B3 B4 B5
            have oi := hO.out i
            have oj := hO.out j
            have ci := hS.cellA hi8
            have cj := hS.cellA hj8
            have l1 := hS.l1
            rw [hi] at e0
            rw [hj] at e1
            have hS' := hS.kept (Nat.le_refl _) ((Below.refl _ wr).alloc (Nat.le_refl _) (.cells #[.int .i64 (i : Int), .int .i64 (j : Int), .int .i64 (MI5.at_ xs k).a2, .int .i64 (MI5.at_ xs k).a3, .int .i64 (MI5.at_ xs k).a4] 91))
            have HS : Hid _ := hS'
            clear hS hS' GC HI HOK hin hjn hF HM
            generalize hx : MI5.at_ xs k = x at *
            obtain ⟨x0, x1, x2, x3, x4⟩ := x
            simp only at hi hj e0 e1 e2 e3 e4 HS
            subst hi hj
            generalize hmi : s.wh i = mi at *
            generalize hmj : s.wh j = mj at *
            cases mi with
            | ago => exact absurd oi id
            | inf =>
              have hT' : Hid (PN.BT (PN.best xs s.wh (k + 1)) b t) := by rw [B1.out rfl]; exact hT
              clear B1 B2 B3 B4 B5 hT G hx hO
              simp only [PN.tS] at ci
              go_wp2
              go_roundw
              case rel => exact ⟨k + 1, b, t, rfl, rfl, by go_num, by omega, hT', HS.out⟩
              case measure => simp [intOf]; omega
            | fin p =>
              obtain ⟨p0, p1⟩ : 0 ≤ p ∧ p ≤ 1048576 := oi
              have OV : Hid (∀ W : World, Calls Try.prog 80 #[.agg #[.int .i64 (i : Int), .int .i64 (j : Int), .int .i64 x2, .int .i64 x3, .int .i64 x4], .int .i64 p] W fun e w' => e = .returned (.int .i64 (PN.ov ⟨(i : Int), (j : Int), x2, x3, x4⟩ p)) ∧ Below W.heap.size W w') := fun W => l6Over_any ⟨(i : Int), (j : Int), x2, x3, x4⟩ p W G p0 p1
              have V1 : Hid _ := fun h => PN.ov_no (c := ⟨(i : Int), (j : Int), x2, x3, x4⟩) (n := p) h
              have V2 : Hid _ := fun h => PN.ov_yes (c := ⟨(i : Int), (j : Int), x2, x3, x4⟩) (n := p) h
              have OKR := PN.arr_okT G (m := .fin p) ⟨p0, p1⟩
              simp only [PN.tS] at ci
              clear G hx hO
              have hq : wr.heap.size < (wr.alloc (.cells #[.int .i64 (i : Int), .int .i64 (j : Int), .int .i64 x2, .int .i64 x3, .int .i64 x4] 91)).heap.size := by simp
              have f0 : (wr.alloc (.cells #[.int .i64 (i : Int), .int .i64 (j : Int), .int .i64 x2, .int .i64 x3, .int .i64 x4] 91)).cell? ⟨wr.heap.size, 0, none⟩ = some (.int .i64 (i : Int)) := by simp
              have f1 : (wr.alloc (.cells #[.int .i64 (i : Int), .int .i64 (j : Int), .int .i64 x2, .int .i64 x3, .int .i64 x4] 91)).cell? ⟨wr.heap.size, 1, none⟩ = some (.int .i64 (j : Int)) := by simp
              have f2 : (wr.alloc (.cells #[.int .i64 (i : Int), .int .i64 (j : Int), .int .i64 x2, .int .i64 x3, .int .i64 x4] 91)).cell? ⟨wr.heap.size, 2, none⟩ = some (.int .i64 x2) := by simp
              have f3 : (wr.alloc (.cells #[.int .i64 (i : Int), .int .i64 (j : Int), .int .i64 x2, .int .i64 x3, .int .i64 x4] 91)).cell? ⟨wr.heap.size, 3, none⟩ = some (.int .i64 x3) := by simp
              have f4 : (wr.alloc (.cells #[.int .i64 (i : Int), .int .i64 (j : Int), .int .i64 x2, .int .i64 x3, .int .i64 x4] 91)).cell? ⟨wr.heap.size, 4, none⟩ = some (.int .i64 x4) := by simp
              have hci := HS.out.cellA hi8
              have hcj := HS.out.cellA hj8
              have hl1 := HS.out.l1.2
              rw [hmi] at hci
              rw [hmj] at hcj
              simp only [PN.tS] at hci
              have F0 : Hid _ := f0
              have F1 : Hid _ := f1
              have F2 : Hid _ := f2
              have F3 : Hid _ := f3
              have F4 : Hid _ := f4
              have HCI : Hid _ := hci
              have HCJ : Hid _ := hcj
              have HQ : Hid _ := hq
              have HL1 : Hid _ := hl1
              clear f0 f1 f2 f3 f4 hci hcj hq hl1 cj
              go_wp2_with fail
              clear e0 e1 e2 e3 e4 ci hlt4
              generalize wr.alloc (.cells #[.int .i64 (i : Int), .int .i64 (j : Int), .int .i64 x2, .int .i64 x3, .int .i64 x4] 91) = W1 at *
              generalize wr.heap.size = q at *
              have f0 := F0.out
              have f1 := F1.out
              have f2 := F2.out
              have f3 := F3.out
              have f4 := F4.out
              have hci := HCI.out
              have hcj := HCJ.out
              have hq := HQ.out
              have hl1 := HL1.out
              clear F0 F1 F2 F3 F4 HCI HCJ HQ HL1
              go_region_held3 (fun w' => w'.cell? ⟨q, 0, none⟩ = some (.int .i64 (i : Int)) ∧ w'.cell? ⟨q, 1, none⟩ = some (.int .i64 (j : Int)) ∧ w'.cell? ⟨q, 2, none⟩ = some (.int .i64 x2) ∧ w'.cell? ⟨q, 3, none⟩ = some (.int .i64 x3) ∧ w'.cell? ⟨q, 4, none⟩ = some (.int .i64 x4) ∧ w'.cell? ⟨g1, i, none⟩ = some (.int .i64 p)) (first | assumption | go_keep) (first | (go_at_call 80; refine Calls.mono (OV.out _) ?_; rintro e w3 ⟨rfl, hb3⟩; have k0 : w3.cell? ⟨q, 0, none⟩ = some (.int .i64 (i : Int)) := (hb3.cell (p := ⟨q, 0, none⟩) (by simpa using hq)).trans (by simpa using f0); have k1 : w3.cell? ⟨q, 1, none⟩ = some (.int .i64 (j : Int)) := (hb3.cell (p := ⟨q, 1, none⟩) (by simpa using hq)).trans (by simpa using f1); have k2 : w3.cell? ⟨q, 2, none⟩ = some (.int .i64 x2) := (hb3.cell (p := ⟨q, 2, none⟩) (by simpa using hq)).trans (by simpa using f2); have k3 : w3.cell? ⟨q, 3, none⟩ = some (.int .i64 x3) := (hb3.cell (p := ⟨q, 3, none⟩) (by simpa using hq)).trans (by simpa using f3); have k4 : w3.cell? ⟨q, 4, none⟩ = some (.int .i64 x4) := (hb3.cell (p := ⟨q, 4, none⟩) (by simpa using hq)).trans (by simpa using f4); have ki : w3.cell? ⟨g1, i, none⟩ = some (.int .i64 p) := (hb3.cell (p := ⟨g1, i, none⟩) (by simpa using hl1)).trans (by simpa using hci)))
              have kj : w3.cell? ⟨g1, j, none⟩ = some (.int .i64 (PN.tS mj)) := (hb3.cell (p := ⟨g1, j, none⟩) (by simpa using hl1)).trans (by simpa using hcj)
              have hq3 : q < w3.heap.size := Nat.lt_of_lt_of_le (by simpa using hq) hb3.size
              have hl3 : g1 < w3.heap.size := Nat.lt_of_lt_of_le (by simpa using hl1) hb3.size
              have HS3 : Hid (PN.SR w.heap.size w w3 g1 g2 c1 c2 s) := HS.out.kept (Nat.le_refl _) (((Below.refl _ W1).drew).trans hb3)
              clear f0 f1 f2 f3 f4 hci hcj hq hl1 hb3 HS OV k0 k2 k3 k4 ki
              by_cases hx3 : x3 ≤ p
              · obtain ⟨v1, v2⟩ := V1.out hx3
                have hT' : Hid (PN.BT (PN.best xs s.wh (k + 1)) b t) := by rw [B1.out v2]; exact hT
                rw [v1]
                clear B1 B2 B3 B4 B5 hT V1 V2 v1 v2 OKR
                go_wp2
                go_roundw
                case rel => exact ⟨k + 1, b, t, rfl, rfl, by go_num, by omega, hT', HS3.out⟩
                case measure => simp [intOf]; omega
              · have v1 := V2.out (by omega)
                rw [v1] at OKR
                generalize PN.ov _ p = r at *
                obtain ⟨r0, r1⟩ : 0 ≤ r ∧ r ≤ 1048576 := OKR
                have A1 : Hid _ := v1
                clear V1 V2 v1 B1
                have late : PN.early r mj = false → ∃ u : Int, mj = .fin u ∧ 0 ≤ u ∧ u ≤ r := by
                  intro h
                  cases mj with
                  | ago => exact absurd oj id
                  | inf => cases h
                  | fin u => exact ⟨u, rfl, oj.1, by simpa [PN.early] using h⟩
                have soon : PN.early r mj = true → PN.tS mj < 0 ∨ (0 ≤ PN.tS mj ∧ r < PN.tS mj) := by
                  intro h
                  cases mj with
                  | ago => exact absurd oj id
                  | inf => left; decide
                  | fin u => right; exact ⟨oj.1, by show r < u; simpa [PN.early] using h⟩
                cases he : PN.early r mj with
                | false =>
                  obtain ⟨u, rfl, u0, u1⟩ := late he
                  have hT' : Hid (PN.BT (PN.best xs s.wh (k + 1)) b t) := by rw [B2.out A1.out he]; exact hT
                  simp only [PN.tS] at kj
                  clear B2 B3 B4 B5 hT A1 he late soon oj
                  go_wp2
                  go_roundw
                  case rel => exact ⟨k + 1, b, t, rfl, rfl, by go_num, by omega, hT', HS3.out⟩
                  case measure => simp [intOf]; omega
                | true =>
                  have sn := soon he
                  have hT1 := hT.out
                  have pick : (b < 0 ∧ Hid (PN.BT (PN.best xs s.wh (k + 1)) (k : Int) r)) ∨ (0 ≤ b ∧ r < t ∧ Hid (PN.BT (PN.best xs s.wh (k + 1)) (k : Int) r)) ∨ (0 ≤ b ∧ t ≤ r ∧ Hid (PN.BT (PN.best xs s.wh (k + 1)) b t)) := by
                    cases hbk : PN.best xs s.wh k with
                    | none =>
                      rw [hbk] at hT1
                      exact .inl ⟨by have := hT1.1; omega, by rw [B3.out A1.out he hbk]; exact ⟨rfl, rfl⟩⟩
                    | some z =>
                      obtain ⟨kb, u⟩ := z
                      rw [hbk] at hT1
                      obtain ⟨h1, h2⟩ := hT1
                      by_cases hlt : r < u
                      · exact .inr (.inl ⟨by omega, by omega, by rw [B4.out A1.out he hbk hlt]; exact ⟨rfl, rfl⟩⟩)
                      · exact .inr (.inr ⟨by omega, by omega, by rw [B5.out A1.out he hbk (by omega)]; exact ⟨h1, h2⟩⟩)
                  clear B2 B3 B4 B5 hT hT1 A1 he late soon oj hmj
                  generalize PN.tS mj = z at *
                  rcases sn with sn | ⟨sn1, sn2⟩
                  all_goals
                    rcases pick with ⟨pk, hT'⟩ | ⟨pk1, pk2, hT'⟩ | ⟨pk1, pk2, hT'⟩
                    · go_wp2
                      go_roundw
                      case rel => exact ⟨k + 1, _, _, rfl, rfl, by go_num, by omega, hT', HS3.out⟩
                      case measure => simp [intOf]; omega
                    · go_wp2
                      go_roundw
                      case rel => exact ⟨k + 1, _, _, rfl, rfl, by go_num, by omega, hT', HS3.out⟩
                      case measure => simp [intOf]; omega
                    · go_wp2
                      go_roundw
                      case rel => exact ⟨k + 1, _, _, rfl, rfl, by go_num, by omega, hT', HS3.out⟩
                      case measure => simp [intOf]; omega
          · obtain rfl : k = xs.length := by omega
            have hT' := hT.out
            cases hb : PN.best xs s.wh xs.length with
            | none =>
              rw [hb] at hT'
              obtain ⟨rfl, rfl⟩ := hT'
              have hE : Hid (s = PN.fin xs (PN.st0 (fn : Int) n)) := by show s = _; rw [← hF.out, PN.fin_none hb]
              clear hb hT hF HM hO GC HI HOK
              go_wp2
              go_ret2
              exact ⟨g1, g2, c1, c2, rfl, by rw [← hE.out]; exact hS⟩
            | some p =>
              obtain ⟨kb, tb⟩ := p
              rw [hb] at hT'
              obtain ⟨rfl, rfl⟩ := hT'
              obtain ⟨hkb, hA, hE⟩ := PN.best_is hb
              obtain ⟨hO2, hmu⟩ := PN.step_ok HOK.out hO.out hb
              have hF2 : Hid (PN.fin xs (PN.take1 xs s kb t) = PN.fin xs (PN.st0 (fn : Int) n)) := by show _ = _; rw [← hF.out, PN.fin_some HOK.out hO.out hb]
              have G := GC.out kb hkb
              obtain ⟨b4, off4, rfl, hlt4, -, e1, -⟩ := HI.out.at hkb
              replace e1 := (hS.bl.cell (p := ⟨b4, off4 + kb * 5 + 1, none⟩) hlt4).trans e1
              obtain ⟨j, hj⟩ := Int.eq_ofNat_of_zero_le G.t0
              have hj8 : j < 8 := by have := G.t1; omega
              rw [hj] at e1
              have hjn : (MI5.at_ xs kb).a1.toNat = j := by rw [hj]; rfl
              have q1 := hS.cellA hj8
              have z1 := hS.a.frozenAt j
              have hS1 := hS.putA (Nat.le_refl _) hj8 (.fin t)
              have q2 : (wr.setCell ⟨g1, j, none⟩ (.int .i64 t)).cell? ⟨g2, j, none⟩ = some (.int .i64 (PN.kS (s.la j))) := hS1.cellB hj8
              have z2 : (wr.setCell ⟨g1, j, none⟩ (.int .i64 t)).frozen? ⟨g2, j, none⟩ = false := hS1.b.frozenAt j
              have hS2 := hS1.putB (Nat.le_refl _) hj8 (some kb)
              have hST : (⟨PN.put s.wh j (.fin t), PN.put s.la j (some kb)⟩ : PN.St) = PN.take1 xs s kb t := by unfold PN.take1; rw [hjn]
              rw [hST] at hS2
              have hm2 := hS2.mu hO2
              have HS2 : Hid (PN.SR w.heap.size w ((wr.setCell ⟨g1, j, none⟩ (.int .i64 t)).setCell ⟨g2, j, none⟩ (.int .i64 (kb : Int))) g1 g2 c1 c2 (PN.take1 xs s kb t)) := hS2
              have l1 := hS.l1
              have l2 := hS.l2
              have hb4 : b4 < wr.heap.size := Nat.lt_of_lt_of_le hlt4 hS.bl.size
              have d1 : (wr.setCell ⟨g1, j, none⟩ (.int .i64 t)).cell? ⟨b4, off4 + kb * 5 + 1, none⟩ = some (.int .i64 (j : Int)) := (((MC.Only.refl g1 wr).setCell j (.int .i64 t)).cell (x := ⟨b4, off4 + kb * 5 + 1, none⟩) hb4 (by show b4 ≠ g1; omega)).trans e1
              have HO2 : Hid (PN.okS (PN.take1 xs s kb t).wh) := hO2
              have HMU : Hid (PN.MU g1 ((wr.setCell ⟨g1, j, none⟩ (.int .i64 t)).setCell ⟨g2, j, none⟩ (.int .i64 (kb : Int))) < PN.mu s.wh) := by have h := hmu; rw [← hm2] at h; exact h
              have kk0 : (0 : Int) ≤ (kb : Int) := by omega
              have kk1 : (kb : Int) < (xs.length : Int) := by omega
              have jj0 : (0 : Int) ≤ (j : Int) := by omega
              have jj8 : (j : Int) < 8 := by omega
              have gg2 : g2 < (wr.setCell ⟨g1, j, none⟩ (.int .i64 t)).heap.size := by simpa using l2.2
              clear hb hT hF hO GC HI HOK G hST hS1 hS2 hS hjn hj hA hE hm2 hO2 hmu
              go_wp2
              go_roundw
              case rel => exact ⟨_, HS2.out, HO2, hF2⟩
              case measure => rw [HM.out]; exact HMU.out
end Go.Proofs.Ytjplabldiheggaa

/- RouteTo, the specification's. -/
namespace Go.Proofs.Ytjplabldiheggaa
open Go.RowKit
namespace PN
theorem SR.grown {base : Nat} {w W W' : World} {g1 g2 c1 c2 : Nat} {s : St} {o : Obj} (h : SR base w W g1 g2 c1 c2 s) (hB : base ≤ w.heap.size) (hg : (W.alloc o).grownBy W' (some W.heap.size)) : SR base w W' g1 g2 c1 c2 s := by
  have l1 := h.l1
  have l2 := h.l2
  have hs := h.bl.size
  exact ⟨own_grown (h.a.alloc o) hg (fun g e => by simp only [Value.ownBlock, Option.some.injEq] at e; simp only [ne_eq, Option.some.injEq]; omega), own_grown (h.b.alloc o) hg (fun g e => by simp only [Value.ownBlock, Option.some.injEq] at e; simp only [ne_eq, Option.some.injEq]; omega), h.ne, (h.bl.alloc (Nat.le_trans hB hs) o).grown hg (by simp; omega) (fun k hk => by simp at hk; omega)⟩
end PN
set_option linter.unusedSimpArgs false in
set_option maxHeartbeats 3200000 in
set_option maxRecDepth 100000 in
theorem specRoute_any (a : Option Addr) (ca : Nat) (xs : List I5) (f n t : Int) (w : World) (hn : xs.length ≤ 1048576) (hin : MI5.RowAt w a xs) :
    Calls Try.prog 57 #[.slice a xs.length ca, .int .i64 f, .int .i64 n, .int .i64 t] w fun e w' => ∃ a1 c1, e = .returned (.tuple #[.slice a1 (PN.routeL xs f n t).length c1, .int .i64 (PN.tellN (PN.routeM xs f n t)), .bool (PN.tellB (PN.routeM xs f n t))]) ∧ w'.ownsRow w.heap.size 3 1 (.slice a1 (PN.routeL xs f n t).length c1) (PN.routeL xs f n t).length (M4.iv (PN.routeL xs f n t)) ∧ Below w.heap.size w w' := by
  obtain ⟨i0, hi, hz0, hz1, hz2⟩ := info_parts Try.info3
  have GP : Hid (∀ W : World, MI5.RowAt W a xs → Calls Try.prog 70 #[.slice a xs.length ca] W fun e w' => e = .returned (.bool (PN.okP xs)) ∧ Below W.heap.size W w') := fun W h => specGoodPlan_any a ca xs W hn h _ rfl
  have NI : Hid (∀ W : World, Calls Try.prog 72 #[.int .i64 f] W fun e w' => e = .returned (.bool (decide (0 ≤ f ∧ f ≤ 7))) ∧ W = w') := fun W => nodeS_any f W
  have NT : Hid (∀ W : World, Calls Try.prog 72 #[.int .i64 t] W fun e w' => e = .returned (.bool (decide (0 ≤ t ∧ t ≤ 7))) ∧ W = w') := fun W => nodeS_any t W
  have WI : Hid (∀ W : World, Calls Try.prog 73 #[.int .i64 n] W fun e w' => e = .returned (.bool (decide (0 ≤ n ∧ n ≤ 1000))) ∧ W = w') := fun W => whenS_any n W
  have HI : Hid (MI5.RowAt w a xs) := hin
  clear hin
  obtain ⟨N, hN⟩ : ∃ N, PN.tellN (PN.routeM xs f n t) = N := ⟨_, rfl⟩
  obtain ⟨T, hT⟩ : ∃ T, PN.tellB (PN.routeM xs f n t) = T := ⟨_, rfl⟩
  obtain ⟨L, hL⟩ : ∃ L, PN.routeL xs f n t = L := ⟨_, rfl⟩
  have NO : Hid (PN.askOk xs f n t = false → N = 0 ∧ T = false ∧ L = []) := fun h => by
    have hT' : PN.tellB (PN.routeM xs f n t) = false := by rw [PN.route_no h]; rfl
    rw [← hN, ← hT, ← hL, PN.routeL_no hT', PN.route_no h]; exact ⟨rfl, rfl, rfl⟩
  have YES : Hid (PN.askOk xs f n t = true → N = PN.tellN ((PN.fin xs (PN.st0 f n)).wh t.toNat) ∧ T = PN.tellB ((PN.fin xs (PN.st0 f n)).wh t.toNat) ∧ (T = false → L = []) ∧ (T = true → L = PN.way xs (PN.fin xs (PN.st0 f n)).la f.toNat 8 t.toNat)) := fun h => by
    rw [← hN, ← hT, ← hL, ← PN.route_yes h]; exact ⟨rfl, rfl, PN.routeL_no, PN.routeL_yes⟩
  have CS0 : Hid (PN.askOk xs f n t = true → ∀ W : World, MI5.RowAt W a xs → Calls Try.prog 74 #[.slice a xs.length ca, .int .i64 f, .int .i64 n] W fun e w' => ∃ g1 g2 c1 c2, e = .returned (.tuple #[.slice (some ⟨g1, 0, none⟩) 8 c1, .slice (some ⟨g2, 0, none⟩) 8 c2]) ∧ PN.SR W.heap.size W w' g1 g2 c1 c2 (PN.fin xs (PN.st0 f n))) := fun h W hr => by
    obtain ⟨h0, h1, h2, h3, h4⟩ := PN.start_is (PN.ask_is h).1
    exact l6Search_any a ca xs f n W h0 h1 h2 h3 h4 hr
  rw [hN, hT, hL]
  clear hN hT hL
  obtain ⟨q1, h1⟩ : ∃ q, decide (0 ≤ f ∧ f ≤ 7) = q := ⟨_, rfl⟩
  obtain ⟨q2, h2⟩ : ∃ q, decide (0 ≤ n ∧ n ≤ 1000) = q := ⟨_, rfl⟩
  obtain ⟨q3, h3⟩ : ∃ q, decide (0 ≤ t ∧ t ≤ 7) = q := ⟨_, rfl⟩
  obtain ⟨q0, h0⟩ : ∃ q, PN.okP xs = q := ⟨_, rfl⟩
  have hS : PN.askOk xs f n t = (q0 && q1 && q2 && q3) := by rw [← h0, ← h1, ← h2, ← h3]; rfl
  rw [h0] at GP
  rw [h1] at NI
  rw [h2] at WI
  rw [h3] at NT
  have HS : Hid _ := hS
  clear h0 h1 h2 h3 hS
  go_enter Try.func57, Try.ntmps57
  go_wp2_with fail
  refine (GP.out _ HI.out).mono ?_
  rintro e w1 ⟨rfl, hb1⟩
  have HI1 : Hid (MI5.RowAt w1 a xs) := HI.out.below hb1
  clear GP HI
  cases q0 with
  | false =>
    obtain ⟨rfl, rfl, rfl⟩ := NO.out HS.out
    clear NO YES CS0 NI NT WI HS HI1
    go_wp2
    go_ret3
    exact ⟨none, 0, rfl, World.ownsRow_nil _ _ _ _, hb1⟩
  | true =>
    go_wp2_with fail
    refine (NI.out _).mono ?_
    rintro e w' ⟨rfl, rfl⟩
    clear NI
    cases q1 with
    | false =>
      obtain ⟨rfl, rfl, rfl⟩ := NO.out HS.out
      clear NO YES CS0 NT WI HS HI1
      go_wp2
      go_ret3
      exact ⟨none, 0, rfl, World.ownsRow_nil _ _ _ _, hb1⟩
    | true =>
      go_wp2_with fail
      refine (WI.out _).mono ?_
      rintro e w' ⟨rfl, rfl⟩
      clear WI
      cases q2 with
      | false =>
        obtain ⟨rfl, rfl, rfl⟩ := NO.out HS.out
        clear NO YES CS0 NT HS HI1
        go_wp2
        go_ret3
        exact ⟨none, 0, rfl, World.ownsRow_nil _ _ _ _, hb1⟩
      | true =>
        go_wp2_with fail
        refine (NT.out _).mono ?_
        rintro e w' ⟨rfl, rfl⟩
        clear NT
        cases q3 with
        | false =>
          obtain ⟨rfl, rfl, rfl⟩ := NO.out HS.out
          clear NO YES CS0 HS HI1
          go_wp2
          go_ret3
          exact ⟨none, 0, rfl, World.ownsRow_nil _ _ _ _, hb1⟩
        | true =>
          have hask : PN.askOk xs f n t = true := HS.out
          obtain ⟨hst, ht0, ht1⟩ := PN.ask_is hask
          obtain ⟨hok, hf0, hf1, hn0, hn1⟩ := PN.start_is hst
          have CS : Hid _ := CS0.out hask
          have HY : Hid _ := YES.out hask
          have HOK : Hid _ := hok
          have GC : Hid (∀ k, k < xs.length → PN.Good (MI5.at_ xs k)) := fun k hk => PN.okP_good hok hk
          have HVI : Hid (∃ rk, PN.Via xs f.toNat (PN.fin xs (PN.st0 f n)) rk) := PN.via_fin hok (PN.st0_ok hn0 hn1) (PN.ord_st0 hok) (PN.via_st0 xs hf0 hf1)
          have HOS : Hid (PN.okS (PN.fin xs (PN.st0 f n)).wh) := PN.fin_okS hok (PN.st0_ok hn0 hn1)
          clear NO YES CS0 HS hask hst hok
          obtain ⟨tn, rfl⟩ := Int.eq_ofNat_of_zero_le ht0
          obtain ⟨fn, rfl⟩ := Int.eq_ofNat_of_zero_le hf0
          have ht8 : tn < 8 := by omega
          have tt8 : (tn : Int) < 8 := by omega
          generalize PN.fin xs (PN.st0 (fn : Int) n) = s at *
          rw [show ((tn : Int)).toNat = tn from rfl, show ((fn : Int)).toNat = fn from rfl] at HY
          rw [show ((fn : Int)).toNat = fn from rfl] at HVI
          go_wp2_with fail
          refine (CS.out _ HI1.out).mono ?_
          rintro e w2 ⟨g1, g2, c1, c2, rfl, hR⟩
          have hci := hR.cellA ht8
          have l1 := hR.l1
          have HR : Hid _ := hR
          have hB2 : Below w.heap.size w w2 := hb1.trans (hR.bl.mono hb1.size)
          clear CS hR
          have okt := HOS.out tn
          cases hm : s.wh tn with
          | ago => rw [hm] at okt; exact absurd okt id
          | inf =>
            rw [hm] at hci HY
            obtain ⟨rfl, rfl, hLL, -⟩ := HY.out
            obtain rfl := hLL rfl
            simp only [PN.tS] at hci
            clear HY HOK GC HVI HOS HR HI1 hm okt
            go_wp2
            go_ret3
            exact ⟨none, 0, rfl, World.ownsRow_nil _ _ _ _, hB2⟩
          | fin p =>
            rw [hm] at hci HY okt
            obtain ⟨p0, p1⟩ : 0 ≤ p ∧ p ≤ 1048576 := okt
            obtain ⟨rfl, rfl, -, hLL⟩ := HY.out
            have hLw := hLL rfl
            obtain ⟨rk, hV⟩ := HVI.out
            have HB : Hid (PN.Back xs fn s L tn []) := by show PN.Back _ _ _ _ _ _; rw [hLw]; exact PN.Back.start hV ht8 hm
            have hl8 : L.length ≤ 8 := by rw [hLw]; exact PN.way_len xs s.la fn 8 tn
            clear hLw
            have HI2 : Hid (MI5.RowAt w1 a xs) := HI1.out
            simp only [PN.tS] at hci
            have HM : Hid (s.wh tn = .fin N) := hm
            clear HY hLL hV HVI HOS HI1 hm
            go_wp2
            go_loopw [13, 14] (fun ov nv wr => ∃ (v : Nat) (acc : List Int), nv = .int .i64 v ∧ Hid (PN.Back xs fn s L v acc) ∧ wr.ownsRow w1.heap.size 3 1 ov acc.length (M4.iv acc) ∧ PN.SR w1.heap.size w1 wr g1 g2 c1 c2 s) (fun ov _ _ => 8 - PN.lenV ov)
            case atStart => exact ⟨tn, [], rfl, HB, World.ownsRow_nil _ _ _ _, HR.out⟩
            case round =>
              clear HB HR hB2 hci l1
              obtain ⟨v, acc, rfl, hB, hown, hS⟩ := hrel
              by_cases hv : v = fn
              · obtain rfl := hv
                have hLe := PN.Back.end_ hB.out
                have hci : wr.cell? ⟨g1, tn, none⟩ = some (.int .i64 N) := by have := hS.cellA ht8; rw [HM.out] at this; exact this
                have l1 := hS.l1
                obtain ⟨a3, c3, hov, _⟩ := M5.own_view hown
                rw [hov] at hown ⊢
                have HO : Hid _ := hown
                have HBL : Hid (Below w.heap.size w wr) := hb1.trans (hS.bl.mono hb1.size)
                have HLE : Hid _ := hLe
                clear hB hown hS HOK GC HI2 hov hLe hi hz0 hz1 hz2
                go_wp2
                go_quiet (fail)
                go_wp2
                go_ret3
                exact ⟨a3, c3, by rw [HLE.out]; rfl, by rw [HLE.out]; exact M5.own_below (CS6.own_base HO.out hb1.size) (below_drewN (Below.refl _ wr) _), below_drewN HBL.out _⟩
              · obtain ⟨k, hk1, hk2, hk3, hk4⟩ := PN.Back.next HOK.out hB.out hv
                have hv8 := hB.out.lt
                have vv8 : (v : Int) < 8 := by omega
                have kk0 : (0 : Int) ≤ (k : Int) := by omega
                have kk1 : (k : Int) < (xs.length : Int) := by omega
                have hvf : ((v : Int) != (fn : Int)) = true := by simp; omega
                have cb : wr.cell? ⟨g2, v, none⟩ = some (.int .i64 (k : Int)) := by have := hS.cellB hv8; rw [hk1] at this; exact this
                have l2 := hS.l2
                have G := GC.out k hk2
                obtain ⟨i, hii⟩ := Int.eq_ofNat_of_zero_le G.f0
                have hin : (MI5.at_ xs k).a0.toNat = i := by rw [hii]; rfl
                rw [hin] at hk4
                obtain ⟨b4, off4, hab, hlt4, e0, -⟩ := HI2.out.at hk2
                have HB2 : Hid _ := hk4
                have hbs := hS.bl.size
                have hown0 : (wr.alloc (.cells #[.int .i64 (k : Int)] 3)).ownsRow w1.heap.size 3 1 (.slice (some ⟨wr.heap.size, 0, none⟩) 1 1) 1 [.int .i64 (k : Int)] := PN.own_lit1 wr _ _ hbs
                have HO0 : Hid _ := hown0
                have HOA : Hid _ := World.ownsRow.alloc hown (.cells #[.int .i64 (k : Int)] 3)
                have hl8' : acc.length < 8 := hk3
                have HS : Hid _ := hS
                have e0' := fun (W' : World) (h : PN.SR w1.heap.size w1 W' g1 g2 c1 c2 s) => (h.bl.cell (p := ⟨b4, off4 + k * 5, none⟩) hlt4).trans e0
                clear hB G hin hown0 hk4 e0
                rw [hii] at e0'
                have E0 : Hid _ := e0'
                have LA : Hid (s.la v = some k) := hk1
                clear e0' hk1
                rcases hown.2 with ⟨hov, hac⟩ | ⟨g, cap, cur, hov, hg, hgc⟩
                · subst hov
                  obtain rfl : acc = [] := List.eq_nil_of_length_eq_zero hac
                  have hS1 : PN.SR w1.heap.size w1 (wr.alloc (.cells #[.int .i64 (k : Int)] 3)) g1 g2 c1 c2 s := HS.out.kept (Nat.le_refl _) ((Below.refl _ wr).alloc (Nat.le_refl _) _)
                  have c0 := E0.out _ hS1
                  have cb1 : (wr.alloc (.cells #[.int .i64 (k : Int)] 3)).cell? ⟨g2, v, none⟩ = some (.int .i64 (k : Int)) := by have := hS1.cellB hv8; rw [LA.out] at this; exact this
                  have hb4 : b4 < (wr.alloc (.cells #[.int .i64 (k : Int)] 3)).heap.size := Nat.lt_of_lt_of_le hlt4 hS1.bl.size
                  have HS1 : Hid _ := hS1
                  clear hown HS hS hS1 HOA E0 LA
                  subst hab
                  go_wp2_with (at_builtin; refine wpList_append_own_none rfl _ _ 26 rfl w1.heap.size 3 i0 1 Try.underlying26 hi _ _ _ rfl HO0.out rfl ?_)
                  go_roundw
                  case rel => exact ⟨i, [(k : Int)], rfl, HB2, HO0.out, HS1.out⟩
                  case measure => simp [PN.lenV]
                · subst hov
                  have HRN : Hid (∀ j u, (M4.iv acc)[j]? = some u → (wr.alloc (.cells #[.int .i64 (k : Int)] 3)).cell? ((⟨g, 0, none⟩ : Addr).add j) = some u) := fun j u hj => by
                    have hjl : j < acc.length := by have := (List.getElem?_eq_some_iff.1 hj).1; simpa [M4.iv] using this
                    have hadd : (⟨g, 0, none⟩ : Addr).add j = ⟨g, j, none⟩ := by unfold Addr.add; split <;> simp_all
                    rw [hadd, World.ownsRow.cellAt HOA.out j (by omega)]; exact hj
                  clear hown hS hgc hg
                  subst hab
                  go_wp2_with (at_builtin; refine wpList_append_own _ rfl _ _ 26 rfl w1.heap.size 3 i0 (.int .i64 0) 1 8 Try.underlying26 hi hz0 hz1 hz2 rfl (by decide) _ _ _ rfl HO0.out ⟨g, 0, none⟩ acc.length cap (M4.iv acc) rfl ?c0 ?c1 ?c2 ?c3 ?c4 ?c5 ?_)
                  case c0 => simp [M4.iv]
                  case c1 => exact HRN.out
                  case c2 => intro u hu; simp only [M4.iv, List.mem_map] at hu; obtain ⟨z, _, rfl⟩ := hu; rfl
                  case c3 => unfold maxLen; omega
                  case c4 => omega
                  case c5 => simp; omega
                  intro v' w3 hown1 hgrow _
                  have hS3 : PN.SR w1.heap.size w1 w3 g1 g2 c1 c2 s := HS.out.grown (Nat.le_refl _) hgrow
                  have R1 : Hid (w3.ownsRow w1.heap.size 3 1 v' ((k : Int) :: acc).length (M4.iv ((k : Int) :: acc))) := by
                    show w3.ownsRow _ _ _ _ _ _
                    rw [List.length_cons, Nat.add_comm acc.length 1]; exact hown1
                  have hlv := PN.own_len R1.out
                  have c0 := E0.out _ hS3
                  have cb1 : w3.cell? ⟨g2, v, none⟩ = some (.int .i64 (k : Int)) := by have := hS3.cellB hv8; rw [LA.out] at this; exact this
                  have hb4 : b4 < w3.heap.size := Nat.lt_of_lt_of_le hlt4 hS3.bl.size
                  have l23 := hS3.l2
                  have HS3 : Hid _ := hS3
                  clear hown1 hgrow HS HOA HO0 E0 LA HRN hS3 l2 cb
                  go_wp2
                  go_roundw
                  case rel => exact ⟨i, (k : Int) :: acc, rfl, HB2, R1.out, HS3.out⟩
                  case measure => simp only [PN.lenV] at *; rw [hlv]; simp; omega
end Go.Proofs.Ytjplabldiheggaa

/- Who is reached, the specification's: l17Reach, l17Ask, ReachAll. -/
namespace Go.Proofs.Ytjplabldiheggaa
open Go.RowKit
set_option linter.unusedSimpArgs false in
set_option maxHeartbeats 3200000 in
set_option maxRecDepth 100000 in
theorem l17Reach_any (a d : Option Addr) (cap cd : Nat) (xs : List I5) (b : Bd) (ms : List Int) (w : World) (hf : GP.fitsB xs b = true) (hm : ms.length ≤ 8) (hn : xs.length ≤ 1048576) (hin : MI5.RowAt w a xs) (hin2 : M4.IntsAt w d ms) :
    Calls Try.prog 28 #[.slice a xs.length cap, b.v, .slice d ms.length cd] w fun e w' => ∃ a1 c1 ps, e = .returned (.slice a1 (List.length ps) c1) ∧ RQ.Own 37 w' w.heap.size (.slice a1 ps.length c1) ps ∧ ps.map Rq.said = RQ.reaL xs b ms ∧ Below w.heap.size w w' := by
  obtain ⟨i2, hi', hz0', hz1', hz2'⟩ := info_parts Try.infoRc
  have P2 : Hid (∀ (t : Int) (W : World), Below w.heap.size w W → Calls Try.prog 57 #[.slice a xs.length cap, .int .i64 b.fr, .int .i64 b.md, .int .i64 t] W fun e w' => ∃ a1 c1, e = .returned (.tuple #[.slice a1 (PN.routeL xs b.fr b.md t).length c1, .int .i64 (PN.tellN (PN.routeM xs b.fr b.md t)), .bool (PN.tellB (PN.routeM xs b.fr b.md t))]) ∧ w'.ownsRow W.heap.size 3 1 (.slice a1 (PN.routeL xs b.fr b.md t).length c1) (PN.routeL xs b.fr b.md t).length (M4.iv (PN.routeL xs b.fr b.md t)) ∧ Below W.heap.size W w') := fun t W h => specRoute_any a cap xs b.fr b.md t W hn (hin.below h)
  have HMS : Hid (M4.IntsAt w d ms) := hin2
  obtain ⟨_, _, _, _, ⟨hm0, hm1⟩, ⟨hf0, hf1⟩, _⟩ := GP.fits_is hf
  have YES : Hid (∀ k, k < ms.length → PN.tellB (PN.routeM xs b.fr b.md (ms.getD k 0)) = true → decide (PN.tellN (PN.routeM xs b.fr b.md (ms.getD k 0)) ≤ b.md + b.lf) = true → decide (((PN.routeL xs b.fr b.md (ms.getD k 0)).length : Int) ≤ b.hp) = true → RQ.reaL xs b (ms.take (k + 1)) = RQ.reaL xs b (ms.take k) ++ [(ms.getD k 0, PN.tellN (PN.routeM xs b.fr b.md (ms.getD k 0)), PN.routeL xs b.fr b.md (ms.getD k 0))]) := fun k hk h1 h2 h3 => RQ.reaL_yes hk (by unfold RQ.okOne RQ.there RQ.inTime RQ.near RQ.one; rw [h1, h2, h3]; rfl)
  have NO : Hid (∀ k, k < ms.length → (PN.tellB (PN.routeM xs b.fr b.md (ms.getD k 0)) && decide (PN.tellN (PN.routeM xs b.fr b.md (ms.getD k 0)) ≤ b.md + b.lf) && decide (((PN.routeL xs b.fr b.md (ms.getD k 0)).length : Int) ≤ b.hp)) = false → RQ.reaL xs b (ms.take (k + 1)) = RQ.reaL xs b (ms.take k)) := fun k hk h => RQ.reaL_no hk h
  have ML : Hid (∀ k, (RQ.reaL xs b (ms.take k)).length ≤ 8) := fun k => by have := RQ.reaL_len xs b (ms.take k); rw [List.length_take] at this; omega
  have RL : Hid (∀ t, (PN.routeL xs b.fr b.md t).length ≤ 1048576) := fun t => PN.routeL_len _ _ _ _
  have Z0 : Hid (RQ.reaL xs b (ms.take 0) = []) := (show _ = _ from by rw [List.take_zero]; rfl)
  have ZN : Hid (RQ.reaL xs b (ms.take ms.length) = RQ.reaL xs b ms) := (show _ = _ from by rw [List.take_length])
  have BA := BdAt.box w b 25
  have BB := (Below.refl _ w).alloc (Nat.le_refl _) (.cells #[.int .i64 b.fr, .int .i64 b.to, .bool b.gr, .int .i64 b.md, .int .i64 b.no, .int .i64 b.lf, .int .i64 b.hp, .int .i64 b.of, .int .i64 b.tl, .string b.py] 25)
  clear hin hin2 hf
  generalize RQ.reaL xs b ms = R at *
  generalize hR : (fun k => RQ.reaL xs b (ms.take k)) = RK at *
  have e1 : ∀ k, RQ.reaL xs b (ms.take k) = RK k := fun k => by rw [← hR]
  clear hR
  simp only [e1] at YES NO ML Z0 ZN
  clear e1
  generalize hR : (fun t => PN.routeM xs b.fr b.md t) = RM at *
  have e1 : ∀ t, PN.routeM xs b.fr b.md t = RM t := fun t => by rw [← hR]
  clear hR
  simp only [e1] at P2 YES NO
  clear e1
  generalize hR : (fun t => PN.routeL xs b.fr b.md t) = RT at *
  have e1 : ∀ t, PN.routeL xs b.fr b.md t = RT t := fun t => by rw [← hR]
  clear hR
  simp only [e1] at P2 YES NO RL
  clear e1
  obtain ⟨fr, to, gr, md, no, lf, hp, of, tl, py⟩ := b
  go_enter Try.func28, Try.ntmps28
  generalize hW1 : w.alloc _ = W1 at *
  go_wp2
  go_loopw [7, 9, 10, 11, 12, 15] (fun u _ _ _ _ iv wr => ∃ (k : Nat) (ps : List Rq), iv = .int .i64 k ∧ k ≤ ms.length ∧ Hid (ps.map Rq.said = RK k) ∧ Hid (RQ.Own 37 wr W1.heap.size u ps) ∧ Below W1.heap.size W1 wr) (fun _ _ _ _ _ iv _ => (ms.length - intOf iv).toNat)
  case atStart => exact ⟨0, [], rfl, by omega, by show _ = _; rw [Z0.out]; rfl, RQ.Own.nil _ _ _, Below.refl _ _⟩
  case round =>
    obtain ⟨k, ps, rfl, hk, hP, hO, hb⟩ := hrel
    have BA2 := BA.below hb BA.1
    have BB2 := BB.trans (hb.mono BB.size)
    have hbs := hb.size
    have hps : ps.length ≤ 8 := by have := congrArg List.length hP.out; rw [List.length_map] at this; rw [this]; exact ML.out k
    by_cases hlk : k < ms.length
    · obtain ⟨b1, off1, hd1, hlt1, hc1⟩ := M4.IntsAt.at (M4.IntsAt.below HMS.out BB2) hlk
      have Y1 : Hid _ := YES.out k hlk
      have N1 : Hid _ := NO.out k hlk
      generalize ms.getD k 0 = z at *
      have P2' : Hid (Calls _ _ _ _ _) := P2.out z wr BB2
      have hrl := RL.out z
      generalize RT z = L at *
      generalize PN.tellN (RM z) = tn at *
      generalize hTB : PN.tellB (RM z) = T at *
      clear hTB
      obtain ⟨hlt, c0, c1, c2, c3, c4, c5, c6, c7, c8, c9⟩ := id BA2
      clear c1 c2 c4 c5 c6 c7 c8 c9
      subst hd1
      go_wp2_with fail
      refine Calls.mono P2'.out ?_
      rintro e w2 ⟨a2, ca2, rfl, ho2, hb2⟩
      clear c0 c3 hlt hc1 P2'
      have BA3 := BA2.below hb2 BA2.1
      have BB3 := BB2.trans (hb2.mono BB2.size)
      have HB3 : Hid (Below W1.heap.size W1 w2) := hb.trans (hb2.mono hbs)
      have HO2 : Hid _ := hO.out.below hb2
      have HN2 : Hid (NR.In w2 wr.heap.size a2 L) := NR.In.of_own ho2
      have HOLD : Hid _ := hO.out.rows.lt
      have hb2s := hb2.size
      clear hb2 ho2 BA2 hO
      obtain ⟨hlt, c0, c1, c2, c3, c4, c5, c6, c7, c8, c9⟩ := id BA3
      clear c0 c1 c2 c4 c7 c8 c9
      cases T with
      | false =>
        have HR : Hid (RK (k + 1) = RK k) := N1.out (by simp)
        clear Y1 N1 HN2 HOLD
        go_wp2
        go_roundw
        case rel => exact ⟨k + 1, ps, by go_num, by omega, by show _ = _; rw [HR.out]; exact hP.out, HO2, HB3.out⟩
        case measure => simp [intOf]; omega
      | true =>
        cases h1 : decide (tn ≤ md + lf) with
        | false =>
          have HR : Hid (RK (k + 1) = RK k) := N1.out (by simp [h1])
          clear Y1 N1 HN2 HOLD
          go_wp2
          go_roundw
          case rel => exact ⟨k + 1, ps, by go_num, by omega, by show _ = _; rw [HR.out]; exact hP.out, HO2, HB3.out⟩
          case measure => simp [intOf]; omega
        | true =>
          cases h2 : decide ((L.length : Int) ≤ hp) with
          | false =>
            have HR : Hid (RK (k + 1) = RK k) := N1.out (by simp [h2])
            clear Y1 N1 HN2 HOLD
            go_wp2
            go_roundw
            case rel => exact ⟨k + 1, ps, by go_num, by omega, by show _ = _; rw [HR.out]; exact hP.out, HO2, HB3.out⟩
            case measure => simp [intOf]; omega
          | true =>
            have HR : Hid (RK (k + 1) = RK k ++ [(z, tn, L)]) := Y1.out (by first | rfl | trivial) h1 h2
            have HP : Hid _ := hP.out
            clear Y1 N1 hP
            have HLIT : Hid (RQ.Own 37 (w2.alloc (.cells #[.int .i64 z, .int .i64 tn, .slice a2 L.length ca2] 37)) W1.heap.size u7 ps) := HO2.out.below ((Below.refl _ w2).alloc (Nat.le_refl _) _)
            go_wp2_with (at_builtin; refine wpList_append_own _ rfl _ _ 29 rfl W1.heap.size 37 i2 (.agg #[.int .i64 0, .int .i64 0, .slice none 0 0]) 3 40 Try.underlying29 hi' hz0' hz1' hz2' rfl (by decide) _ _ _ rfl HLIT.out.out ⟨w2.heap.size, 0, none⟩ 1 1 [.int .i64 z, .int .i64 tn, .slice a2 L.length ca2] rfl rfl ?c1 ?c2 ?c3 ?c4 ?c5 ?_)
            case c1 => exact RQ.new3 _ _ _ _ _ _ rfl
            case c2 => exact RQ.one3 ⟨z, tn, L, a2, ca2⟩
            case c3 => unfold maxLen; omega
            case c4 => omega
            case c5 => have := HB3.out.size; simp; omega
            intro v' w6 hown1 hgrow _
            have HS : Hid (RQ.Own 37 w6 W1.heap.size v' (ps ++ [⟨z, tn, L, a2, ca2⟩])) := RQ.Own.snoc (q := ⟨z, tn, L, a2, ca2⟩) (by decide) HLIT.out (HN2.out.below ((Below.refl _ w2).alloc (Nat.le_refl _) _)) (by have := BB2.size; omega) HOLD.out hgrow hown1
            have HB6 : Hid (Below W1.heap.size W1 w6) := (HB3.out.alloc HB3.out.size _).grown hgrow (by have := HB3.out.size; simp; omega) (fun j hj => (HLIT.out.out.lt j hj).1)
            have hsl : (ps ++ [(⟨z, tn, L, a2, ca2⟩ : Rq)]).map Rq.said = RK (k + 1) := by rw [HR.out, List.map_append, HP.out]; rfl
            have HSL : Hid _ := hsl
            clear hown1 hgrow HLIT HN2 HOLD HO2 HP HR hsl
            generalize ps ++ [(⟨z, tn, L, a2, ca2⟩ : Rq)] = qs at *
            go_wp2
            go_roundw
            case rel => exact ⟨k + 1, qs, by go_num, by omega, HSL, HS, HB6.out⟩
            case measure => simp [intOf]; omega
    · obtain rfl : k = ms.length := by omega
      have HL : Hid (ps.map Rq.said = R) := by show _ = _; rw [hP.out, ZN.out]
      obtain ⟨a1, c1, rfl, -⟩ := hO.out.view
      clear P2 YES NO ML RL Z0 ZN BA BA2 hP
      go_wp2
      go_ret
      exact ⟨a1, c1, ps, rfl, hO.out.mono BB.size, HL.out, BB2⟩
set_option linter.unusedSimpArgs false in
set_option maxHeartbeats 1600000 in
set_option maxRecDepth 100000 in
theorem l17Ask_any (a d : Option Addr) (cap cd : Nat) (xs : List I5) (b : Bd) (ms : List Int) (w : World) (hm : ms.length ≤ 1048576) (hn : xs.length ≤ 1048576) (hs : b.py.size ≤ 1048576) (hin : MI5.RowAt w a xs) (hin2 : M4.IntsAt w d ms) :
    Calls Try.prog 27 #[.slice a xs.length cap, b.v, .slice d ms.length cd] w fun e w' => e = .returned (.bool (RQ.reaOk xs b ms)) ∧ Below w.heap.size w w' := by
  have P1 : Hid (∀ W : World, Below w.heap.size w W → Calls Try.prog 56 #[.slice a xs.length cap, b.v] W fun e w' => e = .returned (.bool (GP.fitsB xs b)) ∧ Below W.heap.size W w') := fun W h => fitsS_any a cap xs b W hn hs (hin.below h)
  have P2 : Hid (∀ W : World, Below w.heap.size w W → Calls Try.prog 44 #[.slice d ms.length cd, .int .i64 8] W fun e w' => e = .returned (.bool (EG.rises 8 ms)) ∧ Below W.heap.size W w') := fun W h => l1Some_any d cd 8 ms W (by omega) hm (M4.IntsAt.below hin2 h) _ rfl
  have HR : Hid (RQ.reaOk xs b ms = (GP.fitsB xs b && EG.rises 8 ms)) := show RQ.reaOk xs b ms = _ from rfl
  have BA := BdAt.box w b 25
  have BB := (Below.refl _ w).alloc (Nat.le_refl _) (.cells #[.int .i64 b.fr, .int .i64 b.to, .bool b.gr, .int .i64 b.md, .int .i64 b.no, .int .i64 b.lf, .int .i64 b.hp, .int .i64 b.of, .int .i64 b.tl, .string b.py] 25)
  clear hin hin2
  generalize RQ.reaOk xs b ms = R at *
  generalize GP.fitsB xs b = q1 at *
  generalize EG.rises 8 ms = q2 at *
  obtain ⟨fr, to, gr, md, no, lf, hp, of, tl, py⟩ := b
  obtain ⟨hlt, c0, c1, c2, c3, c4, c5, c6, c7, c8, c9⟩ := id BA
  go_enter Try.func27, Try.ntmps27
  go_wp2_with fail
  refine (P1.out _ BB).mono ?_
  rintro e w1 ⟨rfl, hb1⟩
  clear c0 c1 c2 c3 c4 c5 c6 c7 c8 c9 hlt P1
  have BB1 := BB.trans (hb1.mono BB.size)
  clear hb1 BA BB
  cases q1 with
  | false =>
    have hR : R = false := HR.out
    subst hR
    clear P2 HR
    go_wp2
    go_ret
    exact ⟨rfl, BB1⟩
  | true =>
    have hR : R = q2 := HR.out
    subst hR
    go_wp2_with fail
    refine (P2.out _ BB1).mono ?_
    rintro e w2 ⟨rfl, hb2⟩
    have BB2 := BB1.trans (hb2.mono BB1.size)
    clear P2 HR hb2
    go_wp2
    go_ret
    exact ⟨rfl, BB2⟩
set_option linter.unusedSimpArgs false in
set_option maxHeartbeats 1600000 in
set_option maxRecDepth 100000 in
theorem reachS_any (a d : Option Addr) (cap cd : Nat) (xs : List I5) (b : Bd) (ms : List Int) (w : World) (hm : ms.length ≤ 1048576) (hn : xs.length ≤ 1048576) (hs : b.py.size ≤ 1048576) (hin : MI5.RowAt w a xs) (hin2 : M4.IntsAt w d ms) :
    Calls Try.prog 6 #[.slice a xs.length cap, b.v, .slice d ms.length cd] w fun e w' => ∃ a1 c1 ps, e = .returned (.tuple #[.slice a1 (List.length ps) c1, .bool (RQ.reaOk xs b ms)]) ∧ RQ.Own 37 w' w.heap.size (.slice a1 ps.length c1) ps ∧ ps.map Rq.said = RQ.reaA xs b ms ∧ Below w.heap.size w w' := by
  have P1 : Hid (∀ W : World, Below w.heap.size w W → Calls Try.prog 27 #[.slice a xs.length cap, b.v, .slice d ms.length cd] W fun e w' => e = .returned (.bool (RQ.reaOk xs b ms)) ∧ Below W.heap.size W w') := fun W h => l17Ask_any a d cap cd xs b ms W hm hn hs (hin.below h) (M4.IntsAt.below hin2 h)
  have P2 : Hid (RQ.reaOk xs b ms = true → ∀ W : World, Below w.heap.size w W → Calls Try.prog 28 #[.slice a xs.length cap, b.v, .slice d ms.length cd] W fun e w' => ∃ a1 c1 ps, e = .returned (.slice a1 (List.length ps) c1) ∧ RQ.Own 37 w' W.heap.size (.slice a1 ps.length c1) ps ∧ ps.map Rq.said = RQ.reaA xs b ms ∧ Below W.heap.size W w') := fun hq W h => by
    rw [RQ.rea_yes hq]
    have hq' := hq
    unfold RQ.reaOk at hq'
    rw [Bool.and_eq_true] at hq'
    exact l17Reach_any a d cap cd xs b ms W hq'.1 (GP.rises_len hq'.2) hn (hin.below h) (M4.IntsAt.below hin2 h)
  have NO : Hid (RQ.reaOk xs b ms = false → RQ.reaA xs b ms = []) := fun h => RQ.rea_no h
  have BA := BdAt.box w b 25
  have BB := (Below.refl _ w).alloc (Nat.le_refl _) (.cells #[.int .i64 b.fr, .int .i64 b.to, .bool b.gr, .int .i64 b.md, .int .i64 b.no, .int .i64 b.lf, .int .i64 b.hp, .int .i64 b.of, .int .i64 b.tl, .string b.py] 25)
  clear hin hin2
  generalize RQ.reaOk xs b ms = R at *
  generalize RQ.reaA xs b ms = L at *
  obtain ⟨fr, to, gr, md, no, lf, hp, of, tl, py⟩ := b
  obtain ⟨hlt, c0, c1, c2, c3, c4, c5, c6, c7, c8, c9⟩ := id BA
  go_enter Try.func6, Try.ntmps6
  go_wp2_with fail
  refine (P1.out _ BB).mono ?_
  rintro e w1 ⟨rfl, hb1⟩
  clear c0 c1 c2 c3 c4 c5 c6 c7 c8 c9 hlt P1
  have BA1 := BA.below hb1 BA.1
  have BB1 := BB.trans (hb1.mono BB.size)
  clear hb1 BA BB
  cases R with
  | false =>
    have HL : Hid (L = []) := NO.out rfl
    clear P2 NO BA1
    go_wp2
    exact bodyPost_ret (v := .tuple #[.slice none 0 0, .bool false]) (by simp [results, Try.results6, go_sem]) rfl ⟨none, 0, [], rfl, RQ.Own.nil _ _ _, HL.out.symm, BB1⟩
  | true =>
    have P2' : Hid _ := P2.out (by first | rfl | trivial)
    clear P2 NO
    obtain ⟨hlt, c0, c1, c2, c3, c4, c5, c6, c7, c8, c9⟩ := id BA1
    go_wp2_with fail
    refine (P2'.out _ BB1).mono ?_
    rintro e w2 ⟨a2, c2', ps, rfl, ho, hL, hb2⟩
    clear c0 c1 c2 c3 c4 c5 c6 c7 c8 c9 hlt P2'
    have BB2 := BB1.trans (hb2.mono BB1.size)
    have HO : Hid _ := ho.mono BB1.size
    have HL : Hid _ := hL
    clear ho hL hb2 BA1
    go_wp2
    exact bodyPost_ret (v := .tuple #[.slice a2 ps.length c2', .bool true]) (by simp [results, Try.results6, go_sem]) rfl ⟨a2, c2', ps, rfl, HO.out, HL.out, BB2⟩
end Go.Proofs.Ytjplabldiheggaa
