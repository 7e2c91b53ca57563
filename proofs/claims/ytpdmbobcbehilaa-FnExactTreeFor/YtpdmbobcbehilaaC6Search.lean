import Derived.Test.YtpdmbobcbehilaaRows
import Derived.Test.YtpdmbobcbehilaaMArr
import Derived.WalkKit
import Derived.WalkSpells
import Derived.WalkLawsBesides
import Derived.Outline
import Derived.Deep.RegionHeld3
import Derived.Test.YtpdmbobcbehilaaM6W
import Derived.Test.YtpdmbobcbehilaaMInfo
/- l6Over, the specification's. -/
namespace Go.Proofs.Ytpdmbobcbehilaa
open Go.RowKit
/-- What l6Over tells. -/
def PN.ov (c : I5) (n : Int) : Int := if c.a3 ≤ n then -1 else max n c.a2 + c.a4
set_option maxHeartbeats 800000 in
set_option maxRecDepth 100000 in
theorem l6Over_any (c : I5) (n : Int) (w : World) (hc : PN.Good c) (h0 : 0 ≤ n) (h1 : n ≤ 1048576) :
    Calls Try.prog 70 #[c.v, .int .i64 n] w fun e w' => e = .returned (.int .i64 (PN.ov c n)) ∧ Below w.heap.size w w' := by
  have hB : ∀ o, Below w.heap.size w (w.alloc o) := fun o => (Below.refl _ w).alloc (Nat.le_refl _) o
  obtain ⟨f0, f1, t0, t1, ne, e0, e1, s0, s1, d0, d1⟩ := hc
  obtain ⟨r, hr⟩ : ∃ r, PN.ov c n = r := ⟨_, rfl⟩
  rw [hr]
  obtain ⟨x0, x1, x2, x3, x4⟩ := c
  simp only [PN.ov] at *
  by_cases hl : x3 ≤ n
  · rw [if_pos hl] at hr
    subst hr
    go_enter Try.func70, Try.ntmps70
    go_wp2
    go_ret
    exact ⟨rfl, hB _⟩
  · rw [if_neg hl] at hr
    by_cases h2 : n < x2
    · obtain rfl : r = x2 + x4 := by omega
      clear hr
      go_enter Try.func70, Try.ntmps70
      go_wp2
      go_ret
      exact ⟨rfl, hB _⟩
    · obtain rfl : r = n + x4 := by omega
      clear hr
      go_enter Try.func70, Try.ntmps70
      go_wp2
      go_ret
      exact ⟨rfl, hB _⟩
theorem PN.ov_no {c : I5} {n : Int} (h : c.a3 ≤ n) : PN.ov c n = -1 ∧ PN.arr c (.fin n) = .inf := by simp [PN.ov, PN.arr, h]
theorem PN.ov_yes {c : I5} {n : Int} (h : ¬ c.a3 ≤ n) : PN.arr c (.fin n) = .fin (PN.ov c n) := by simp [PN.ov, PN.arr, h]
end Go.Proofs.Ytpdmbobcbehilaa

/- l6Search, the specification's. -/
namespace Go.Proofs.Ytpdmbobcbehilaa
open Go.RowKit
theorem new1' (W : World) (x : Value) (e : TypeId) : ∀ (j : Nat) (u : Value), [x][j]? = some u → (W.alloc (.cells #[x] e)).cell? ((⟨W.heap.size, 0, none⟩ : Addr).add j) = some u := M2.new1 W x e
set_option linter.unusedSimpArgs false in
set_option maxHeartbeats 3200000 in
set_option maxRecDepth 100000 in
theorem l6Search_any (a : Option Addr) (ca : Nat) (xs : List I5) (f n : Int) (w : World) (hok : PN.okP xs = true) (hf0 : 0 ≤ f) (hf1 : f ≤ 7) (hn0 : 0 ≤ n) (hn1 : n ≤ 1000) (hin : MI5.RowAt w a xs) :
    Calls Try.prog 62 #[.slice a xs.length ca, .int .i64 f, .int .i64 n] w fun e w' => ∃ g1 g2 c1 c2, e = .returned (.tuple #[.slice (some ⟨g1, 0, none⟩) 8 c1, .slice (some ⟨g2, 0, none⟩) 8 c2]) ∧ PN.SR w.heap.size w w' g1 g2 c1 c2 (PN.fin xs (PN.st0 f n)) := by
  obtain ⟨i0, hi, hz0, hz1, hz2⟩ := info_parts Try.info3
  have HI : Hid (MI5.RowAt w a xs) := hin
  have hlen : xs.length ≤ 20 := ((PN.okP_iff xs).1 hok).1
  have GC : Hid (∀ k, k < xs.length → PN.Good (MI5.at_ xs k)) := fun k hk => PN.okP_good hok hk
  have HOK : Hid _ := hok
  have hf : ∃ fn : Nat, f = (fn : Int) := Int.eq_ofNat_of_zero_le hf0
  obtain ⟨fn, rfl⟩ := hf
  have hfn : fn < 8 := by omega
  clear hin hok
  go_enter Try.func62, Try.ntmps62
  go_wp2
  go_loopw [8, 9, 10] (fun u v iv wr => ∃ k : Nat, iv = .int .i64 k ∧ k ≤ 8 ∧ PN.Two w.heap.size wr u v k (List.replicate k (-1)) (List.replicate k (-1)) ∧ Below w.heap.size w wr) (fun _ _ iv _ => (8 - intOf iv).toNat)
  case atStart => exact ⟨0, rfl, by omega, ⟨World.ownsRow_nil _ _ _ _, World.ownsRow_nil _ _ _ _, fun g hg => by cases hg⟩, Below.refl _ _⟩
  case round =>
    obtain ⟨k, rfl, hk, hT, hb⟩ := hrel
    have hbs := hb.size
    by_cases hl : k < 8
    · have hT' : Hid _ := hT
      clear hT
      have hk0 : (k : Int) < 8 := by omega
      go_wp2_with (at_builtin; refine wpList_append_own_at _ rfl _ _ 25 rfl w.heap.size 3 i0 (.int .i64 0) 1 8 Try.underlying25 hi hz0 hz1 hz2 rfl (by decide) _ _ _ rfl (hT'.out.a.alloc _) ⟨wr.heap.size, 0, none⟩ 1 1 [.int .i64 (-1)] rfl rfl ?c1 ?c2 ?c3 ?c4 ?c5 ?_)
      case c1 => exact M2.new1 _ _ _
      case c2 => exact M2.one1 _ _
      case c3 => unfold maxLen; omega
      case c4 => omega
      case c5 => simp; omega
      intro u' w2 hown2 hgrow2 _ loc2
      obtain ⟨rb2, ne2⟩ := PN.grown_a hT'.out.a hT'.out.b hT'.out.ne hown2 hgrow2 loc2
      rw [PN.iv_snoc] at hown2
      have hb2 : Below w.heap.size w w2 := (hb.alloc hbs _).grown hgrow2 (by simp; omega) (fun j hj => (hT'.out.a.lt j hj).1)
      have hbs2 := hb2.size
      have HA2 : Hid (w2.ownsRow w.heap.size 3 1 u' (k + 1) (M4.iv (List.replicate (k + 1) (-1)))) := hown2
      have HB2 : Hid (w2.ownsRow w.heap.size 3 1 u9 k (M4.iv (List.replicate k (-1)))) := rb2
      have NE2 : Hid (∀ g, u9.ownBlock = some g → u'.ownBlock ≠ some g) := fun g hg e => ne2 g e hg
      clear hT' hown2 hgrow2 loc2 rb2 ne2 hb hbs
      go_wp2_with (at_builtin; refine wpList_append_own_at _ rfl _ _ 25 rfl w.heap.size 3 i0 (.int .i64 0) 1 8 Try.underlying25 hi hz0 hz1 hz2 rfl (by decide) _ _ _ rfl (World.ownsRow.alloc HB2.out _) ⟨w2.heap.size, 0, none⟩ 1 1 [.int .i64 (-1)] rfl rfl ?c1 ?c2 ?c3 ?c4 ?c5 ?_)
      case c1 => exact M2.new1 _ _ _
      case c2 => exact M2.one1 _ _
      case c3 => unfold maxLen; omega
      case c4 => omega
      case c5 => simp; omega
      intro v' w3 hown3 hgrow3 _ loc3
      obtain ⟨ra3, ne3⟩ := PN.grown_a HB2.out HA2.out NE2.out hown3 hgrow3 loc3
      rw [PN.iv_snoc] at hown3
      have hb3 : Below w.heap.size w w3 := (hb2.alloc hbs2 _).grown hgrow3 (by simp; omega) (fun j hj => (World.ownsRow.lt HB2.out j hj).1)
      have R1 : PN.Two w.heap.size w3 u' v' (k + 1) (List.replicate (k + 1) (-1)) (List.replicate (k + 1) (-1)) := ⟨ra3, hown3, fun g hg e => ne3 g e hg⟩
      clear HA2 HB2 NE2 hown3 hgrow3 loc3 ra3 ne3 hb2 hbs2
      go_wp2
      go_roundw
      case rel => exact ⟨k + 1, by go_num, by omega, R1, hb3⟩
      case measure => simp [intOf]; omega
    · obtain rfl : k = 8 := by omega
      obtain ⟨g1, c1, rfl⟩ := PN.own_some hT.a
      obtain ⟨g2, c2, rfl⟩ := PN.own_some hT.b
      have hS : PN.SR w.heap.size w wr g1 g2 c1 c2 ⟨fun _ => .inf, fun _ => none⟩ := ⟨by rw [PN.whL_none]; exact hT.a, by rw [PN.laL_none]; exact hT.b, fun e => hT.ne g1 rfl (by rw [e]; rfl), hb⟩
      have cf := hS.cellA hfn
      have ff := hS.a.frozenAt fn
      have hS2 := hS.putA (Nat.le_refl _) hfn (.fin n)
      have l1 := hS.l1
      have HS2 : Hid (PN.SR w.heap.size w (wr.setCell ⟨g1, fn, none⟩ (.int .i64 n)) g1 g2 c1 c2 (PN.st0 (fn : Int) n)) := hS2
      have HF : Hid (PN.okS (PN.st0 (fn : Int) n).wh) := PN.st0_ok hn0 hn1
      clear hS hS2 hT hb hbs
      go_wp2
      generalize wr.setCell ⟨g1, fn, none⟩ (.int .i64 n) = W at *
      clear cf ff l1 hk hl
      go_loopw [11, 12] (fun _ _ wo => ∃ s : PN.St, PN.SR w.heap.size w wo g1 g2 c1 c2 s ∧ Hid (PN.okS s.wh) ∧ Hid (PN.fin xs s = PN.fin xs (PN.st0 (fn : Int) n))) (fun _ _ wo => PN.MU g1 wo)
      case atStart => exact ⟨_, HS2.out, HF, rfl⟩
      case round =>
        clear HS2 HF
        obtain ⟨s, hS, hO, hF⟩ := hrel
        have HM : Hid (PN.MU g1 wr = PN.mu s.wh) := hS.mu hO.out
        have HS : Hid _ := hS
        clear hS
        go_wp2
        go_loopw [11, 12, 13, 15, 32] (fun bv tv _ _ iv wi => ∃ (k : Nat) (b t : Int), bv = .int .i64 b ∧ tv = .int .i64 t ∧ iv = .int .i64 k ∧ k ≤ xs.length ∧ Hid (PN.BT (PN.best xs s.wh k) b t) ∧ PN.SR w.heap.size w wi g1 g2 c1 c2 s) (fun _ _ _ _ iv _ => (xs.length - intOf iv).toNat)
        case atStart => exact ⟨0, -1, 0, rfl, rfl, rfl, by omega, show Hid _ from ⟨rfl, rfl⟩, HS.out⟩
        case round =>
          clear HS
          obtain ⟨k, b, t, rfl, rfl, rfl, hk, hT, hS⟩ := hrel
          by_cases hlk : k < xs.length
          · obtain ⟨b4, off4, rfl, hlt4, e0, e1, e2, e3, e4⟩ := (HI.out.below hS.bl).at hlk
            have G := GC.out k hlk
            obtain ⟨i, hi⟩ := Int.eq_ofNat_of_zero_le G.f0
            obtain ⟨j, hj⟩ := Int.eq_ofNat_of_zero_le G.t0
            have hi8 : i < 8 := by have := G.f1; omega
            have hj8 : j < 8 := by have := G.t1; omega
            have ii0 : (0 : Int) ≤ (i : Int) := by omega
            have ii8 : (i : Int) < 8 := by omega
            have jj0 : (0 : Int) ≤ (j : Int) := by omega
            have jj8 : (j : Int) < 8 := by omega
            have hin : (MI5.at_ xs k).a0.toNat = i := by rw [hi]; rfl
            have hjn : (MI5.at_ xs k).a1.toNat = j := by rw [hj]; rfl
            have B1 : Hid _ := @PN.best_skip xs s.wh k
            have B2 : Hid _ := @PN.best_late xs s.wh k
            have B3 : Hid _ := @PN.best_first xs s.wh k
            have B4 : Hid _ := @PN.best_new xs s.wh k
            have B5 : Hid _ := @PN.best_old xs s.wh k
            rw [hin] at B1 B2 B3 B4 B5
            rw [hjn] at B2 B3 B4 B5
            have oi := hO.out i
            have oj := hO.out j
            have ci := hS.cellA hi8
            have cj := hS.cellA hj8
            have l1 := hS.l1
            rw [hi] at e0
            rw [hj] at e1
            have hS' := hS.kept (Nat.le_refl _) ((Below.refl _ wr).alloc (Nat.le_refl _) (.cells #[.int .i64 (i : Int), .int .i64 (j : Int), .int .i64 (MI5.at_ xs k).a2, .int .i64 (MI5.at_ xs k).a3, .int .i64 (MI5.at_ xs k).a4] 50))
            have HS : Hid _ := hS'
            clear hS hS' GC HI HOK hin hjn hF HM
            generalize hx : MI5.at_ xs k = x at *
            obtain ⟨x0, x1, x2, x3, x4⟩ := x
            simp only at hi hj e0 e1 e2 e3 e4 HS
            subst hi hj
            generalize hmi : s.wh i = mi at *
            generalize hmj : s.wh j = mj at *
            cases mi with
            | ago => exact absurd oi id
            | inf =>
              have hT' : Hid (PN.BT (PN.best xs s.wh (k + 1)) b t) := by rw [B1.out rfl]; exact hT
              clear B1 B2 B3 B4 B5 hT G hx hO
              simp only [PN.tS] at ci
              go_wp2
              go_roundw
              case rel => exact ⟨k + 1, b, t, rfl, rfl, by go_num, by omega, hT', HS.out⟩
              case measure => simp [intOf]; omega
            | fin p =>
              obtain ⟨p0, p1⟩ : 0 ≤ p ∧ p ≤ 1048576 := oi
              have OV : Hid (∀ W : World, Calls Try.prog 70 #[.agg #[.int .i64 (i : Int), .int .i64 (j : Int), .int .i64 x2, .int .i64 x3, .int .i64 x4], .int .i64 p] W fun e w' => e = .returned (.int .i64 (PN.ov ⟨(i : Int), (j : Int), x2, x3, x4⟩ p)) ∧ Below W.heap.size W w') := fun W => l6Over_any ⟨(i : Int), (j : Int), x2, x3, x4⟩ p W G p0 p1
              have V1 : Hid _ := fun h => PN.ov_no (c := ⟨(i : Int), (j : Int), x2, x3, x4⟩) (n := p) h
              have V2 : Hid _ := fun h => PN.ov_yes (c := ⟨(i : Int), (j : Int), x2, x3, x4⟩) (n := p) h
              have OKR := PN.arr_okT G (m := .fin p) ⟨p0, p1⟩
              simp only [PN.tS] at ci
              clear G hx hO
              have hq : wr.heap.size < (wr.alloc (.cells #[.int .i64 (i : Int), .int .i64 (j : Int), .int .i64 x2, .int .i64 x3, .int .i64 x4] 50)).heap.size := by simp
              have f0 : (wr.alloc (.cells #[.int .i64 (i : Int), .int .i64 (j : Int), .int .i64 x2, .int .i64 x3, .int .i64 x4] 50)).cell? ⟨wr.heap.size, 0, none⟩ = some (.int .i64 (i : Int)) := by simp
              have f1 : (wr.alloc (.cells #[.int .i64 (i : Int), .int .i64 (j : Int), .int .i64 x2, .int .i64 x3, .int .i64 x4] 50)).cell? ⟨wr.heap.size, 1, none⟩ = some (.int .i64 (j : Int)) := by simp
              have f2 : (wr.alloc (.cells #[.int .i64 (i : Int), .int .i64 (j : Int), .int .i64 x2, .int .i64 x3, .int .i64 x4] 50)).cell? ⟨wr.heap.size, 2, none⟩ = some (.int .i64 x2) := by simp
              have f3 : (wr.alloc (.cells #[.int .i64 (i : Int), .int .i64 (j : Int), .int .i64 x2, .int .i64 x3, .int .i64 x4] 50)).cell? ⟨wr.heap.size, 3, none⟩ = some (.int .i64 x3) := by simp
              have f4 : (wr.alloc (.cells #[.int .i64 (i : Int), .int .i64 (j : Int), .int .i64 x2, .int .i64 x3, .int .i64 x4] 50)).cell? ⟨wr.heap.size, 4, none⟩ = some (.int .i64 x4) := by simp
              have hci := HS.out.cellA hi8
              have hcj := HS.out.cellA hj8
              have hl1 := HS.out.l1.2
              rw [hmi] at hci
              rw [hmj] at hcj
              simp only [PN.tS] at hci
              have F0 : Hid _ := f0
              have F1 : Hid _ := f1
              have F2 : Hid _ := f2
              have F3 : Hid _ := f3
              have F4 : Hid _ := f4
              have HCI : Hid _ := hci
              have HCJ : Hid _ := hcj
              have HQ : Hid _ := hq
              have HL1 : Hid _ := hl1
              clear f0 f1 f2 f3 f4 hci hcj hq hl1 cj
              go_wp2_with fail
              clear e0 e1 e2 e3 e4 ci hlt4
              generalize wr.alloc (.cells #[.int .i64 (i : Int), .int .i64 (j : Int), .int .i64 x2, .int .i64 x3, .int .i64 x4] 50) = W1 at *
              generalize wr.heap.size = q at *
              have f0 := F0.out
              have f1 := F1.out
              have f2 := F2.out
              have f3 := F3.out
              have f4 := F4.out
              have hci := HCI.out
              have hcj := HCJ.out
              have hq := HQ.out
              have hl1 := HL1.out
              clear F0 F1 F2 F3 F4 HCI HCJ HQ HL1
              go_region_held3 (fun w' => w'.cell? ⟨q, 0, none⟩ = some (.int .i64 (i : Int)) ∧ w'.cell? ⟨q, 1, none⟩ = some (.int .i64 (j : Int)) ∧ w'.cell? ⟨q, 2, none⟩ = some (.int .i64 x2) ∧ w'.cell? ⟨q, 3, none⟩ = some (.int .i64 x3) ∧ w'.cell? ⟨q, 4, none⟩ = some (.int .i64 x4) ∧ w'.cell? ⟨g1, i, none⟩ = some (.int .i64 p)) (first | assumption | go_keep) (first | (go_at_call 70; refine Calls.mono (OV.out _) ?_; rintro e w3 ⟨rfl, hb3⟩; have k0 : w3.cell? ⟨q, 0, none⟩ = some (.int .i64 (i : Int)) := (hb3.cell (p := ⟨q, 0, none⟩) (by simpa using hq)).trans (by simpa using f0); have k1 : w3.cell? ⟨q, 1, none⟩ = some (.int .i64 (j : Int)) := (hb3.cell (p := ⟨q, 1, none⟩) (by simpa using hq)).trans (by simpa using f1); have k2 : w3.cell? ⟨q, 2, none⟩ = some (.int .i64 x2) := (hb3.cell (p := ⟨q, 2, none⟩) (by simpa using hq)).trans (by simpa using f2); have k3 : w3.cell? ⟨q, 3, none⟩ = some (.int .i64 x3) := (hb3.cell (p := ⟨q, 3, none⟩) (by simpa using hq)).trans (by simpa using f3); have k4 : w3.cell? ⟨q, 4, none⟩ = some (.int .i64 x4) := (hb3.cell (p := ⟨q, 4, none⟩) (by simpa using hq)).trans (by simpa using f4); have ki : w3.cell? ⟨g1, i, none⟩ = some (.int .i64 p) := (hb3.cell (p := ⟨g1, i, none⟩) (by simpa using hl1)).trans (by simpa using hci)))
              have kj : w3.cell? ⟨g1, j, none⟩ = some (.int .i64 (PN.tS mj)) := (hb3.cell (p := ⟨g1, j, none⟩) (by simpa using hl1)).trans (by simpa using hcj)
              have hq3 : q < w3.heap.size := Nat.lt_of_lt_of_le (by simpa using hq) hb3.size
              have hl3 : g1 < w3.heap.size := Nat.lt_of_lt_of_le (by simpa using hl1) hb3.size
              have HS3 : Hid (PN.SR w.heap.size w w3 g1 g2 c1 c2 s) := HS.out.kept (Nat.le_refl _) (((Below.refl _ W1).drew).trans hb3)
              clear f0 f1 f2 f3 f4 hci hcj hq hl1 hb3 HS OV k0 k2 k3 k4 ki
              by_cases hx3 : x3 ≤ p
              · obtain ⟨v1, v2⟩ := V1.out hx3
                have hT' : Hid (PN.BT (PN.best xs s.wh (k + 1)) b t) := by rw [B1.out v2]; exact hT
                rw [v1]
                clear B1 B2 B3 B4 B5 hT V1 V2 v1 v2 OKR
                go_wp2
                go_roundw
                case rel => exact ⟨k + 1, b, t, rfl, rfl, by go_num, by omega, hT', HS3.out⟩
                case measure => simp [intOf]; omega
              · have v1 := V2.out (by omega)
                rw [v1] at OKR
                generalize PN.ov _ p = r at *
                obtain ⟨r0, r1⟩ : 0 ≤ r ∧ r ≤ 1048576 := OKR
                have A1 : Hid _ := v1
                clear V1 V2 v1 B1
                have late : PN.early r mj = false → ∃ u : Int, mj = .fin u ∧ 0 ≤ u ∧ u ≤ r := by
                  intro h
                  cases mj with
                  | ago => exact absurd oj id
                  | inf => cases h
                  | fin u => exact ⟨u, rfl, oj.1, by simpa [PN.early] using h⟩
                have soon : PN.early r mj = true → PN.tS mj < 0 ∨ (0 ≤ PN.tS mj ∧ r < PN.tS mj) := by
                  intro h
                  cases mj with
                  | ago => exact absurd oj id
                  | inf => left; decide
                  | fin u => right; exact ⟨oj.1, by show r < u; simpa [PN.early] using h⟩
                cases he : PN.early r mj with
                | false =>
                  obtain ⟨u, rfl, u0, u1⟩ := late he
                  have hT' : Hid (PN.BT (PN.best xs s.wh (k + 1)) b t) := by rw [B2.out A1.out he]; exact hT
                  simp only [PN.tS] at kj
                  clear B2 B3 B4 B5 hT A1 he late soon oj
                  go_wp2
                  go_roundw
                  case rel => exact ⟨k + 1, b, t, rfl, rfl, by go_num, by omega, hT', HS3.out⟩
                  case measure => simp [intOf]; omega
                | true =>
                  have sn := soon he
                  have hT1 := hT.out
                  have pick : (b < 0 ∧ Hid (PN.BT (PN.best xs s.wh (k + 1)) (k : Int) r)) ∨ (0 ≤ b ∧ r < t ∧ Hid (PN.BT (PN.best xs s.wh (k + 1)) (k : Int) r)) ∨ (0 ≤ b ∧ t ≤ r ∧ Hid (PN.BT (PN.best xs s.wh (k + 1)) b t)) := by
                    cases hbk : PN.best xs s.wh k with
                    | none =>
                      rw [hbk] at hT1
                      exact .inl ⟨by have := hT1.1; omega, by rw [B3.out A1.out he hbk]; exact ⟨rfl, rfl⟩⟩
                    | some z =>
                      obtain ⟨kb, u⟩ := z
                      rw [hbk] at hT1
                      obtain ⟨h1, h2⟩ := hT1
                      by_cases hlt : r < u
                      · exact .inr (.inl ⟨by omega, by omega, by rw [B4.out A1.out he hbk hlt]; exact ⟨rfl, rfl⟩⟩)
                      · exact .inr (.inr ⟨by omega, by omega, by rw [B5.out A1.out he hbk (by omega)]; exact ⟨h1, h2⟩⟩)
                  clear B2 B3 B4 B5 hT hT1 A1 he late soon oj hmj
                  generalize PN.tS mj = z at *
                  rcases sn with sn | ⟨sn1, sn2⟩
                  all_goals
                    rcases pick with ⟨pk, hT'⟩ | ⟨pk1, pk2, hT'⟩ | ⟨pk1, pk2, hT'⟩
                    · go_wp2
                      go_roundw
                      case rel => exact ⟨k + 1, _, _, rfl, rfl, by go_num, by omega, hT', HS3.out⟩
                      case measure => simp [intOf]; omega
                    · go_wp2
                      go_roundw
                      case rel => exact ⟨k + 1, _, _, rfl, rfl, by go_num, by omega, hT', HS3.out⟩
                      case measure => simp [intOf]; omega
                    · go_wp2
                      go_roundw
                      case rel => exact ⟨k + 1, _, _, rfl, rfl, by go_num, by omega, hT', HS3.out⟩
                      case measure => simp [intOf]; omega
          · obtain rfl : k = xs.length := by omega
            have hT' := hT.out
            cases hb : PN.best xs s.wh xs.length with
            | none =>
              rw [hb] at hT'
              obtain ⟨rfl, rfl⟩ := hT'
              have hE : Hid (s = PN.fin xs (PN.st0 (fn : Int) n)) := by show s = _; rw [← hF.out, PN.fin_none hb]
              clear hb hT hF HM hO GC HI HOK
              go_wp2
              go_ret2
              exact ⟨g1, g2, c1, c2, rfl, by rw [← hE.out]; exact hS⟩
            | some p =>
              obtain ⟨kb, tb⟩ := p
              rw [hb] at hT'
              obtain ⟨rfl, rfl⟩ := hT'
              obtain ⟨hkb, hA, hE⟩ := PN.best_is hb
              obtain ⟨hO2, hmu⟩ := PN.step_ok HOK.out hO.out hb
              have hF2 : Hid (PN.fin xs (PN.take1 xs s kb t) = PN.fin xs (PN.st0 (fn : Int) n)) := by show _ = _; rw [← hF.out, PN.fin_some HOK.out hO.out hb]
              have G := GC.out kb hkb
              obtain ⟨b4, off4, rfl, hlt4, -, e1, -⟩ := HI.out.at hkb
              replace e1 := (hS.bl.cell (p := ⟨b4, off4 + kb * 5 + 1, none⟩) hlt4).trans e1
              obtain ⟨j, hj⟩ := Int.eq_ofNat_of_zero_le G.t0
              have hj8 : j < 8 := by have := G.t1; omega
              rw [hj] at e1
              have hjn : (MI5.at_ xs kb).a1.toNat = j := by rw [hj]; rfl
              have q1 := hS.cellA hj8
              have z1 := hS.a.frozenAt j
              have hS1 := hS.putA (Nat.le_refl _) hj8 (.fin t)
              have q2 : (wr.setCell ⟨g1, j, none⟩ (.int .i64 t)).cell? ⟨g2, j, none⟩ = some (.int .i64 (PN.kS (s.la j))) := hS1.cellB hj8
              have z2 : (wr.setCell ⟨g1, j, none⟩ (.int .i64 t)).frozen? ⟨g2, j, none⟩ = false := hS1.b.frozenAt j
              have hS2 := hS1.putB (Nat.le_refl _) hj8 (some kb)
              have hST : (⟨PN.put s.wh j (.fin t), PN.put s.la j (some kb)⟩ : PN.St) = PN.take1 xs s kb t := by unfold PN.take1; rw [hjn]
              rw [hST] at hS2
              have hm2 := hS2.mu hO2
              have HS2 : Hid (PN.SR w.heap.size w ((wr.setCell ⟨g1, j, none⟩ (.int .i64 t)).setCell ⟨g2, j, none⟩ (.int .i64 (kb : Int))) g1 g2 c1 c2 (PN.take1 xs s kb t)) := hS2
              have l1 := hS.l1
              have l2 := hS.l2
              have hb4 : b4 < wr.heap.size := Nat.lt_of_lt_of_le hlt4 hS.bl.size
              have d1 : (wr.setCell ⟨g1, j, none⟩ (.int .i64 t)).cell? ⟨b4, off4 + kb * 5 + 1, none⟩ = some (.int .i64 (j : Int)) := (((MC.Only.refl g1 wr).setCell j (.int .i64 t)).cell (x := ⟨b4, off4 + kb * 5 + 1, none⟩) hb4 (by show b4 ≠ g1; omega)).trans e1
              have HO2 : Hid (PN.okS (PN.take1 xs s kb t).wh) := hO2
              have HMU : Hid (PN.MU g1 ((wr.setCell ⟨g1, j, none⟩ (.int .i64 t)).setCell ⟨g2, j, none⟩ (.int .i64 (kb : Int))) < PN.mu s.wh) := by have h := hmu; rw [← hm2] at h; exact h
              have kk0 : (0 : Int) ≤ (kb : Int) := by omega
              have kk1 : (kb : Int) < (xs.length : Int) := by omega
              have jj0 : (0 : Int) ≤ (j : Int) := by omega
              have jj8 : (j : Int) < 8 := by omega
              have gg2 : g2 < (wr.setCell ⟨g1, j, none⟩ (.int .i64 t)).heap.size := by simpa using l2.2
              clear hb hT hF hO GC HI HOK G hST hS1 hS2 hS hjn hj hA hE hm2 hO2 hmu
              go_wp2
              go_roundw
              case rel => exact ⟨_, HS2.out, HO2, hF2⟩
              case measure => rw [HM.out]; exact HMU.out
end Go.Proofs.Ytpdmbobcbehilaa
