import Derived.Test.YtpabhjnpbnabiaaRows
import Derived.Test.YtpabhjnpbnabiaaMCur
import Derived.WalkKit
import Derived.WalkSpells
import Derived.WalkLawsBesides
import Derived.Outline
import Derived.Test.YtpabhjnpbnabiaaMLK
import Derived.Test.YtpabhjnpbnabiaaMRA
import Derived.Test.YtpabhjnpbnabiaaMInfo
import Derived.Test.YtpabhjnpbnabiaaM5
/- The walk of the cursor's next: a byte, and the cursor goes on. -/
namespace Go.Proofs.Ytpabhjnpbnabiaa
open Go.RowKit
set_option maxHeartbeats 800000 in
set_option maxRecDepth 100000 in
theorem next_any (p : Nat) (a : Option Addr) (zs : List Int) (cap M : Nat) (w : World) (hz : zs.length ≤ 140737488355328) (hM : M ≤ 140737488355328) (hc : MC.Cur w p a zs cap M) :
    Calls Try.prog 46 #[.pointer (some ⟨p, 0, none⟩)] w fun e w' => ∃ b : Nat, e = .returned (.int .i64 (b : Int)) ∧ b ≤ 255 ∧ MC.Cur w' p a zs cap (M + 1) ∧ MC.Only p w w' := by
  have HC : Hid (MC.Cur w p a zs cap M) := hc
  obtain ⟨h1, h2, ⟨k, h3, h3'⟩, ⟨s, h4, h4'⟩, h5, h6, h7⟩ := hc
  by_cases hl : k < zs.length
  · obtain ⟨b, off, z, rfl, hb, hcz, hz0, hz1⟩ := h7.at hl
    clear h7
    go_enter Try.func46, Try.ntmps46
    go_wp2
    go_quiet (fail)
    go_wp2
    go_quiet (fail)
    go_wp2
    generalize hv : IntKind.u64.wrap (IntKind.u64.wrap (IntKind.u64.wrap ((s : Int) * 6364136223846793005) + z) + 1442695040888963407) = v
    have hv0 : 0 ≤ v := by rw [← hv]; exact wrap_u64_nonneg _
    have hv1 : v < 18446744073709551616 := by rw [← hv, IntKind.wrap_u64]; exact Int.emod_lt_of_pos _ (by decide)
    clear hv
    have HV : Hid (v < 18446744073709551616) := hv1
    clear hv1
    go_quiet (fail)
    go_wp2
    go_ret
    obtain ⟨zn, rfl⟩ := Int.eq_ofNat_of_zero_le hz0
    exact ⟨zn, rfl, by omega, HC.out.step (k := k + 1) (by omega) hv0 HV.out, ((((MC.Only.refl p w).drewN _).setCell 1 _).setCell 2 _).drewN _⟩
  · clear h7
    go_enter Try.func46, Try.ntmps46
    go_wp2
    go_quiet (fail)
    go_wp2
    generalize hv : IntKind.u64.wrap (IntKind.u64.wrap (IntKind.u64.wrap ((s : Int) * 6364136223846793005)) + 1442695040888963407) = v
    have hv0 : 0 ≤ v := by rw [← hv]; exact wrap_u64_nonneg _
    have hv1 : v < 18446744073709551616 := by rw [← hv, IntKind.wrap_u64]; exact Int.emod_lt_of_pos _ (by decide)
    clear hv
    obtain ⟨r, hr1, h255⟩ := MC.shr40 v hv0 hv1
    have HV : Hid (v < 18446744073709551616) := hv1
    clear hv1
    go_quiet (fail)
    go_wp2
    go_ret
    exact ⟨r, rfl, hr1, HC.out.step (k := k + 1) (by omega) hv0 HV.out, ((((MC.Only.refl p w).drewN _).setCell 1 _).setCell 2 _).drewN _⟩
end Go.Proofs.Ytpabhjnpbnabiaa

/- The walks of the cursor's pick, one, of, among: a number below n; yes or no; one of some. -/
namespace Go.Proofs.Ytpabhjnpbnabiaa
open Go.RowKit
set_option maxHeartbeats 800000 in
set_option maxRecDepth 100000 in
theorem pick_any (p : Nat) (a : Option Addr) (zs : List Int) (cap M : Nat) (n : Int) (w : World) (hz : zs.length ≤ 140737488355328) (hM : M ≤ 140737488350000) (hc : MC.Cur w p a zs cap M) :
    Calls Try.prog 19 #[.pointer (some ⟨p, 0, none⟩), .int .i64 n] w fun e w' => ∃ r : Nat, e = .returned (.int .i64 (r : Int)) ∧ (r = 0 ∨ (r : Int) < n) ∧ r ≤ 65535 ∧ MC.Cur w' p a zs cap (M + 2) ∧ MC.Only p w w' := by
  by_cases h1 : n ≤ 1
  · go_enter Try.func19, Try.ntmps19
    go_wp2
    go_ret
    exact ⟨0, rfl, .inl rfl, by omega, hc.more (by omega), MC.Only.refl _ _⟩
  · have hn : 0 < n := by omega
    by_cases h200 : n ≤ 200
    · go_enter Try.func19, Try.ntmps19
      go_wp2_with fail
      refine (next_any p a zs cap M _ hz (by omega) hc).mono ?_
      rintro e w1 ⟨b, rfl, hb, hc1, ho1⟩
      have hne : (n == 0) = false := by simp; omega
      have hm0 := Int.emod_nonneg (b : Int) (show n ≠ 0 by omega)
      have hm1 := Int.emod_lt_of_pos (b : Int) hn
      go_wp2
      go_ret
      obtain ⟨r, hr⟩ := Int.eq_ofNat_of_zero_le hm0
      refine ⟨r, ?_, .inr (by omega), by omega, hc1.more (by omega), ho1⟩
      rw [← hr]; rfl
    · go_enter Try.func19, Try.ntmps19
      go_wp2_with fail
      refine (next_any p a zs cap M _ hz (by omega) hc).mono ?_
      rintro e w1 ⟨b, rfl, hb, hc1, ho1⟩
      go_wp2_with fail
      refine (next_any p a zs cap (M + 1) _ hz (by omega) hc1).mono ?_
      rintro e w2 ⟨b2, rfl, hb2, hc2, ho2⟩
      have hne : (n == 0) = false := by simp; omega
      have hm0 := Int.emod_nonneg ((b : Int) * 256 + b2) (show n ≠ 0 by omega)
      have hm1 := Int.emod_lt_of_pos ((b : Int) * 256 + b2) hn
      have hm2 : ((b : Int) * 256 + b2) % n ≤ (b : Int) * 256 + b2 := MC.emod_le _ _ (by omega) hn
      go_wp2
      go_ret
      obtain ⟨r, hr⟩ := Int.eq_ofNat_of_zero_le hm0
      refine ⟨r, ?_, .inr (by omega), by omega, hc2, ho1.trans ho2⟩
      rw [← hr]; rfl
set_option maxHeartbeats 800000 in
set_option maxRecDepth 100000 in
theorem one_any (p : Nat) (a : Option Addr) (zs : List Int) (cap M : Nat) (n : Int) (w : World) (hz : zs.length ≤ 140737488355328) (hM : M ≤ 140737488350000) (hc : MC.Cur w p a zs cap M) :
    Calls Try.prog 44 #[.pointer (some ⟨p, 0, none⟩), .int .i64 n] w fun e w' => ∃ b : Bool, e = .returned (.bool b) ∧ MC.Cur w' p a zs cap (M + 2) ∧ MC.Only p w w' := by
  go_enter Try.func44, Try.ntmps44
  go_wp2_with fail
  refine (pick_any p a zs cap M n _ hz hM hc).mono ?_
  rintro e w1 ⟨r, rfl, _, _, hc1, ho1⟩
  go_wp2
  go_ret
  exact ⟨_, rfl, hc1, ho1⟩
end Go.Proofs.Ytpabhjnpbnabiaa

/- The walk of the cursor's among: one of some numbers. -/
namespace Go.Proofs.Ytpabhjnpbnabiaa
open Go.RowKit
set_option maxHeartbeats 800000 in
set_option maxRecDepth 100000 in
theorem among_any (p : Nat) (a : Option Addr) (zs : List Int) (cap M : Nat) (l : Option Addr) (xs : List Int) (lc : Nat) (w : World) (hz : zs.length ≤ 140737488355328) (hM : M ≤ 140737488350000) (hc : MC.Cur w p a zs cap M)
    (hx0 : 0 < xs.length) (hx : xs.length ≤ 1048576) (hl : M4.IntsAt w l xs) (hp : ∀ b off, l = some ⟨b, off, none⟩ → b ≠ p) :
    Calls Try.prog 45 #[.pointer (some ⟨p, 0, none⟩), .slice l xs.length lc] w fun e w' => ∃ z : Int, e = .returned (.int .i64 z) ∧ z ∈ xs ∧ MC.Cur w' p a zs cap (M + 2) ∧ MC.Only p w w' := by
  go_enter Try.func45, Try.ntmps45
  go_wp2_with fail
  refine (pick_any p a zs cap M _ _ hz hM hc).mono ?_
  rintro e w1 ⟨r, rfl, hr, _, hc1, ho1⟩
  have hr' : r < xs.length := by omega
  obtain ⟨b, off, rfl, hlt, hcell⟩ := (ho1.ints hl hp).at hr'
  have hmem : xs.getD r 0 ∈ xs := by rw [List.getD_eq_getElem?_getD, List.getElem?_eq_getElem hr']; exact List.getElem_mem hr'
  generalize xs.getD r 0 = z at *
  clear hl hp
  go_wp2
  go_ret
  exact ⟨z, rfl, hmem, hc1, ho1⟩
end Go.Proofs.Ytpabhjnpbnabiaa

/- Links that are drawn (laid by tools/gen_links.py). -/
namespace Go.Proofs.Ytpabhjnpbnabiaa
open Go.RowKit
theorem Try.infoLinkD : (Try.prog.info? 59).map (fun i => (i.zero, i.size, i.bytes)) = some (some (.agg #[.int .i64 0, .int .i64 0]), 2, 16) := by kernel_rfl
namespace LK
theorem flat_one (x0 x1 : Int) : MI2.flat [⟨x0, x1⟩] = [.int .i64 x0, .int .i64 x1] := rfl
theorem flat_to : ∀ (xs : List I2) (z : Int), 0 < xs.length → ∃ ys : List I2, ys.length = xs.length ∧ (MI2.flat xs).set 1 (.int .i64 z) = MI2.flat ys
  | x :: xs, z, _ => ⟨⟨x.a0, z⟩ :: xs, rfl, by simp [MI2.flat, I2.cs]⟩
theorem cur_only {w w' : World} {p q cap M : Nat} {a : Option Addr} {zs : List Int} (h : MC.Cur w p a zs cap M) (ho : MC.Only q w w') (hq : p < q) : MC.Cur w' p a zs cap M := by
  obtain ⟨h1, h2, ⟨k, h3, h3'⟩, ⟨s, h4, h4'⟩, h5, h6, h7⟩ := h
  have hc : ∀ j, w'.cell? ⟨p, j, none⟩ = w.cell? ⟨p, j, none⟩ := fun j => ho.cell (x := ⟨p, j, none⟩) h1 (by show p ≠ q; omega)
  have hf : ∀ j, w'.frozen? ⟨p, j, none⟩ = w.frozen? ⟨p, j, none⟩ := fun j => World.frozen?_of_block (w := w) (a := ⟨p, j, none⟩) (ho.block p h1 (by omega))
  exact ⟨Nat.lt_of_lt_of_le h1 ho.size, (hc 0).trans h2, ⟨k, (hc 1).trans h3, h3'⟩, ⟨s, (hc 2).trans h4, h4'⟩, (hf 1).trans h5, (hf 2).trans h6, h7.only (q := q) ho (by omega) (Nat.le_of_lt h1)⟩
theorem own_row2 {w : World} {base e n : Nat} {v : Value} {xs : List I2} (h : w.ownsRow base e 2 v n (MI2.flat xs)) : ∃ a cap, v = .slice a n cap ∧ MI2.RowAt w a xs := by
  have hlen : xs.length = n := by have := h.1; rw [MI2.flat_len] at this; omega
  rcases h.2 with ⟨rfl, h0⟩ | ⟨g, cap, cur, rfl, hb, hg, hc1, hc2, hc3, hc4⟩
  · subst h0
    exact ⟨none, 0, rfl, ⟨.inl (List.eq_nil_of_length_eq_zero hlen)⟩⟩
  · exact ⟨_, cap, rfl, MI2.RowAt.of_own h⟩
theorem own_some {w : World} {base e sz n : Nat} {v : Value} {xs : List Value} (h : w.ownsRow base e sz v n xs) (hn : 0 < n) : ∃ g cap, v = .slice (some ⟨g, 0, none⟩) n cap := by
  rcases h.2 with ⟨-, h0⟩ | ⟨g, cap, cur, rfl, -⟩
  · omega
  · exact ⟨g, cap, rfl⟩
theorem one2 (x y : Int) : ∀ u ∈ [Value.int .i64 x, .int .i64 y], u.oneCell' = true := by intro u hu; simp at hu; rcases hu with rfl | rfl <;> rfl
theorem flat_snoc (l : List I2) (x y : Int) : MI2.flat l ++ [Value.int .i64 x, .int .i64 y] = MI2.flat (l ++ [⟨x, y⟩]) := by rw [MI2.flat_app]; rfl
end LK
set_option linter.unusedSimpArgs false in
set_option maxHeartbeats 3200000 in
set_option maxRecDepth 100000 in
theorem links_any (p : Nat) (a : Option Addr) (zs : List Int) (cap M : Nat) (w : World) (hz : zs.length ≤ 140737488355328) (hM : M ≤ 140737488340000) (hc : MC.Cur w p a zs cap M) :
    Calls Try.prog 18 #[.pointer (some ⟨p, 0, none⟩)] w fun e w' => ∃ a1 c1 l, e = .returned (.slice a1 (List.length l) c1) ∧ l.length ≤ 21 ∧ w'.ownsRow w.heap.size 59 2 (.slice a1 l.length c1) l.length (MI2.flat l) ∧ MC.Cur w' p a zs cap (M + 100) ∧ MC.Only p w w' := by
  obtain ⟨i2, hi', hz0', hz1', hz2'⟩ := info_parts Try.infoLinkD
  have hplt := hc.lt
  go_enter Try.func18, Try.ntmps18
  go_wp2_with fail
  refine (pick_any p a zs cap M _ _ hz (by omega) hc).mono ?_
  rintro e w1 ⟨r, rfl, hr, _, hc1, ho1⟩
  have hr6 : r < 14 := by omega
  clear hr hc
  go_wp2_with fail
  refine (one_any p a zs cap (M + 2) _ _ hz (by omega) hc1).mono ?_
  rintro e w2 ⟨b, rfl, hc2, ho2⟩
  have hoA := ho1.trans ho2
  clear ho1 ho2 hc1
  cases b with
  | false =>
    go_wp2_with fail
    go_loopw [3, 4, 5] (fun lv nv kv wr => ∃ (m : Nat) (l : List I2) (M' : Nat), nv = .int .i64 m ∧ l.length + m ≤ 21 ∧ wr.ownsRow w.heap.size 59 2 lv l.length (MI2.flat l) ∧ MC.Cur wr p a zs cap M' ∧ M' + 4 * m ≤ M + 90 ∧ MC.Only p w wr) (fun _ nv _ _ => (intOf nv).toNat)
    case atStart => exact ⟨r, [], M + 4, rfl, by simp; omega, World.ownsRow_nil _ _ _ _, hc2, by omega, hoA⟩
    case round =>
      clear hc2 hoA
      obtain ⟨m, l, M', rfl, hm, hown, hcr, hMr, hor⟩ := hrel
      have hows := hor.size
      by_cases hm0 : 0 < m
      · have m0 : (0 : Int) < (m : Int) := by omega
        go_wp2_with fail
        refine (pick_any p a zs cap M' _ _ hz (by omega) hcr).mono ?_
        rintro e w3 ⟨r1, rfl, hr1, _, hc3, ho3⟩
        have hown3 := MC.own_only hown ho3 hplt
        have hor3 := hor.trans ho3
        have h15 : r1 < 5 := by omega
        clear hown ho3 hcr hr1 hor
        go_wp2_with fail
        refine (pick_any p a zs cap (M' + 2) _ _ hz (by omega) hc3).mono ?_
        rintro e w4 ⟨r2, rfl, hr2, _, hc4, ho4⟩
        have hownW := MC.own_only hown3 ho4 hplt
        have hor4 := hor3.trans ho4
        have hs4 := hor4.size
        have h25 : r2 < 5 := by omega
        clear hown3 ho4 hc3 hr2 hor3
        by_cases h12 : r1 = r2
        · subst h12
          go_wp2_with (at_builtin; refine wpList_append_own _ rfl _ _ 23 rfl w.heap.size 59 i2 (.agg #[.int .i64 0, .int .i64 0]) 2 16 Try.underlying23 hi' hz0' hz1' hz2' rfl (by decide) _ _ _ rfl ((hownW.alloc _).alloc _) ⟨w4.heap.size + 1, 0, none⟩ 1 1 [.int .i64 (r1 : Int), .int .i64 (((r1 : Int) + 1) % 5)] rfl rfl ?c1 ?c2 ?c3 ?c4 ?c5 ?_)
          case c1 => exact LK.newN _ _ _ _ (by simp)
          case c2 => exact LK.one2 _ _
          case c3 => unfold maxLen; omega
          case c4 => omega
          case c5 => simp; omega
          intro v' wn hown1 hgrow _
          have R1 : wn.ownsRow w.heap.size 59 2 v' (l ++ [(⟨(r1 : Int), (((r1 : Int) + 1) % 5)⟩ : I2)]).length (MI2.flat (l ++ [⟨(r1 : Int), (((r1 : Int) + 1) % 5)⟩])) := by rw [← LK.flat_snoc, List.length_append]; exact hown1
          have R2 := ((hc4.alloc _).alloc _).grown hgrow (fun j hj => by have := (hownW.lt j hj).1; omega)
          have R3 := ((hor4.alloc _).alloc _).grown hgrow (fun j hj => (hownW.lt j hj).1)
          have hl2 : (l ++ [(⟨(r1 : Int), (((r1 : Int) + 1) % 5)⟩ : I2)]).length = l.length + 1 := by simp
          clear hown1 hgrow hownW
          generalize l ++ [(⟨(r1 : Int), (((r1 : Int) + 1) % 5)⟩ : I2)] = l2 at *
          go_wp2
          go_roundw
          case rel => exact ⟨m - 1, l2, _, by go_num, by omega, R1, R2, by omega, R3⟩
          case measure => simp [intOf]; omega
        · have e12 : ((r1 : Int) == (r2 : Int)) = false := by simp; omega
          clear h12
          go_wp2_with (at_builtin; refine wpList_append_own _ rfl _ _ 23 rfl w.heap.size 59 i2 (.agg #[.int .i64 0, .int .i64 0]) 2 16 Try.underlying23 hi' hz0' hz1' hz2' rfl (by decide) _ _ _ rfl ((hownW.alloc _).alloc _) ⟨w4.heap.size + 1, 0, none⟩ 1 1 [.int .i64 (r1 : Int), .int .i64 (r2 : Int)] rfl rfl ?c1 ?c2 ?c3 ?c4 ?c5 ?_)
          case c1 => exact LK.newN _ _ _ _ (by simp)
          case c2 => exact LK.one2 _ _
          case c3 => unfold maxLen; omega
          case c4 => omega
          case c5 => simp; omega
          intro v' wn hown1 hgrow _
          have R1 : wn.ownsRow w.heap.size 59 2 v' (l ++ [(⟨(r1 : Int), (r2 : Int)⟩ : I2)]).length (MI2.flat (l ++ [⟨(r1 : Int), (r2 : Int)⟩])) := by rw [← LK.flat_snoc, List.length_append]; exact hown1
          have R2 := ((hc4.alloc _).alloc _).grown hgrow (fun j hj => by have := (hownW.lt j hj).1; omega)
          have R3 := ((hor4.alloc _).alloc _).grown hgrow (fun j hj => (hownW.lt j hj).1)
          have hl2 : (l ++ [(⟨(r1 : Int), (r2 : Int)⟩ : I2)]).length = l.length + 1 := by simp
          clear hown1 hgrow hownW
          generalize l ++ [(⟨(r1 : Int), (r2 : Int)⟩ : I2)] = l2 at *
          go_wp2
          go_roundw
          case rel => exact ⟨m - 1, l2, _, by go_num, by omega, R1, R2, by omega, R3⟩
          case measure => simp [intOf]; omega
      · obtain rfl : m = 0 := by omega
        by_cases h0 : l.length = 0
        · obtain ⟨av, lc, hv, -⟩ := LK.own_row2 hown
          rw [hv] at hown ⊢
          rw [h0] at hown ⊢
          clear hv
          go_wp2
          go_ret
          exact ⟨av, lc, l, by rw [h0]; rfl, by omega, by rw [h0]; exact hown, hcr.more (by omega), hor⟩
        · have h0' : (0 : Int) < (l.length : Int) := by omega
          obtain ⟨g, lc, hv⟩ := LK.own_some hown (by omega)
          rw [hv] at hown ⊢
          clear hv
          go_wp2_with fail
          refine (one_any p a zs cap M' _ _ hz (by omega) hcr).mono ?_
          rintro e w3 ⟨b, rfl, hc3, ho3⟩
          have hown3 := MC.own_only hown ho3 hplt
          have hor3 := hor.trans ho3
          have hs3 := hor3.size
          clear hown ho3 hcr hor
          cases b with
          | false =>
            go_wp2
            go_ret
            exact ⟨_, lc, l, rfl, by omega, hown3, hc3.more (by omega), hor3⟩
          | true =>
            have hgl := hown3.lt g rfl
            obtain ⟨-, hx0, hx1⟩ := (MI2.RowAt.of_own hown3).at0 (j := 0) (by omega)
            generalize (MI2.at_ l 0).a0 = z0 at hx0
            generalize (MI2.at_ l 0).a1 = z1 at hx1
            simp only [Nat.zero_mul, Nat.zero_add] at hx0 hx1
            go_wp2_with fail
            refine (among_any p a zs cap (M' + 2) (some ⟨w3.heap.size, 0, none⟩) [-1, z0, 8] 3 _ hz (by omega) (hc3.alloc _) (by simp) (by simp) ?_ ?_).mono ?_
            · exact .inr ⟨w3.heap.size, 0, rfl, by simp, fun j hj => by
                rw [Nat.zero_add]
                have h3 : j < 3 := hj
                rcases (show j = 0 ∨ j = 1 ∨ j = 2 by omega) with rfl | rfl | rfl <;> exact World.cell?_alloc_at _ _ _ _ (by rfl)⟩
            · intro b off hb; cases hb; have := hc3.lt; omega
            rintro e w4 ⟨z, rfl, -, hc4, ho4⟩
            have hown4 := MC.own_only (hown3.alloc (.cells #[.int .i64 (-1), .int .i64 z0, .int .i64 8] 3)) ho4 hplt
            have hor4 := (hor3.alloc (.cells #[.int .i64 (-1), .int .i64 z0, .int .i64 8] 3)).trans ho4
            have hs4 := ho4.size
            obtain ⟨-, -, hx4⟩ := (MI2.RowAt.of_own hown4).at0 (j := 0) (by omega)
            generalize (MI2.at_ l 0).a1 = z4 at hx4
            simp only [Nat.zero_mul, Nat.zero_add] at hx4
            have hf4 := hown4.frozenAt 1
            obtain ⟨ys, hyl, hys⟩ := LK.flat_to l z (by omega)
            have R1 := (hown4.stored 1 (.int .i64 z)).1
            have R0 := (hown4.stored 1 (.int .i64 z)).2
            have R2 := hc4.grown R0 (fun j hj => by cases hj; omega)
            have R3 := hor4.grown R0 (fun j hj => by cases hj; exact hgl.1)
            rw [hys, ← hyl] at R1
            have hy21 : ys.length ≤ 21 := by omega
            have hy0 : (0 : Int) < (ys.length : Int) := by omega
            rw [← hyl]
            clear hown4 hown3 hor4 hc4 R0 hc3 hor3 ho4 hys hx0 hx1 hyl h0 h0'
            go_wp2
            go_ret
            exact ⟨_, lc, ys, rfl, hy21, R1, R2.more (by omega), R3⟩
  | true =>
    go_wp2_with fail
    refine (pick_any p a zs cap (M + 4) _ _ hz (by omega) hc2).mono ?_
    rintro e w2' ⟨r2, rfl, hr2, _, hc2', ho2'⟩
    have hr22 : r2 < 2 := by omega
    have hoB := hoA.trans ho2'
    clear hr2 hc2 hoA ho2'
    go_wp2_with fail
    go_loopw [3, 4, 5] (fun lv nv kv wr => ∃ (m : Nat) (l : List I2) (M' : Nat), nv = .int .i64 m ∧ l.length + m ≤ 21 ∧ wr.ownsRow w.heap.size 59 2 lv l.length (MI2.flat l) ∧ MC.Cur wr p a zs cap M' ∧ M' + 4 * m ≤ M + 90 ∧ MC.Only p w wr) (fun _ nv _ _ => (intOf nv).toNat)
    case atStart => exact ⟨20 + r2, [], M + 6, by go_num, by simp; omega, World.ownsRow_nil _ _ _ _, hc2', by omega, hoB⟩
    case round =>
      clear hc2' hoB
      obtain ⟨m, l, M', rfl, hm, hown, hcr, hMr, hor⟩ := hrel
      have hows := hor.size
      by_cases hm0 : 0 < m
      · have m0 : (0 : Int) < (m : Int) := by omega
        go_wp2_with fail
        refine (pick_any p a zs cap M' _ _ hz (by omega) hcr).mono ?_
        rintro e w3 ⟨r1, rfl, hr1, _, hc3, ho3⟩
        have hown3 := MC.own_only hown ho3 hplt
        have hor3 := hor.trans ho3
        have h15 : r1 < 5 := by omega
        clear hown ho3 hcr hr1 hor
        go_wp2_with fail
        refine (pick_any p a zs cap (M' + 2) _ _ hz (by omega) hc3).mono ?_
        rintro e w4 ⟨r2, rfl, hr2, _, hc4, ho4⟩
        have hownW := MC.own_only hown3 ho4 hplt
        have hor4 := hor3.trans ho4
        have hs4 := hor4.size
        have h25 : r2 < 5 := by omega
        clear hown3 ho4 hc3 hr2 hor3
        by_cases h12 : r1 = r2
        · subst h12
          go_wp2_with (at_builtin; refine wpList_append_own _ rfl _ _ 23 rfl w.heap.size 59 i2 (.agg #[.int .i64 0, .int .i64 0]) 2 16 Try.underlying23 hi' hz0' hz1' hz2' rfl (by decide) _ _ _ rfl ((hownW.alloc _).alloc _) ⟨w4.heap.size + 1, 0, none⟩ 1 1 [.int .i64 (r1 : Int), .int .i64 (((r1 : Int) + 1) % 5)] rfl rfl ?c1 ?c2 ?c3 ?c4 ?c5 ?_)
          case c1 => exact LK.newN _ _ _ _ (by simp)
          case c2 => exact LK.one2 _ _
          case c3 => unfold maxLen; omega
          case c4 => omega
          case c5 => simp; omega
          intro v' wn hown1 hgrow _
          have R1 : wn.ownsRow w.heap.size 59 2 v' (l ++ [(⟨(r1 : Int), (((r1 : Int) + 1) % 5)⟩ : I2)]).length (MI2.flat (l ++ [⟨(r1 : Int), (((r1 : Int) + 1) % 5)⟩])) := by rw [← LK.flat_snoc, List.length_append]; exact hown1
          have R2 := ((hc4.alloc _).alloc _).grown hgrow (fun j hj => by have := (hownW.lt j hj).1; omega)
          have R3 := ((hor4.alloc _).alloc _).grown hgrow (fun j hj => (hownW.lt j hj).1)
          have hl2 : (l ++ [(⟨(r1 : Int), (((r1 : Int) + 1) % 5)⟩ : I2)]).length = l.length + 1 := by simp
          clear hown1 hgrow hownW
          generalize l ++ [(⟨(r1 : Int), (((r1 : Int) + 1) % 5)⟩ : I2)] = l2 at *
          go_wp2
          go_roundw
          case rel => exact ⟨m - 1, l2, _, by go_num, by omega, R1, R2, by omega, R3⟩
          case measure => simp [intOf]; omega
        · have e12 : ((r1 : Int) == (r2 : Int)) = false := by simp; omega
          clear h12
          go_wp2_with (at_builtin; refine wpList_append_own _ rfl _ _ 23 rfl w.heap.size 59 i2 (.agg #[.int .i64 0, .int .i64 0]) 2 16 Try.underlying23 hi' hz0' hz1' hz2' rfl (by decide) _ _ _ rfl ((hownW.alloc _).alloc _) ⟨w4.heap.size + 1, 0, none⟩ 1 1 [.int .i64 (r1 : Int), .int .i64 (r2 : Int)] rfl rfl ?c1 ?c2 ?c3 ?c4 ?c5 ?_)
          case c1 => exact LK.newN _ _ _ _ (by simp)
          case c2 => exact LK.one2 _ _
          case c3 => unfold maxLen; omega
          case c4 => omega
          case c5 => simp; omega
          intro v' wn hown1 hgrow _
          have R1 : wn.ownsRow w.heap.size 59 2 v' (l ++ [(⟨(r1 : Int), (r2 : Int)⟩ : I2)]).length (MI2.flat (l ++ [⟨(r1 : Int), (r2 : Int)⟩])) := by rw [← LK.flat_snoc, List.length_append]; exact hown1
          have R2 := ((hc4.alloc _).alloc _).grown hgrow (fun j hj => by have := (hownW.lt j hj).1; omega)
          have R3 := ((hor4.alloc _).alloc _).grown hgrow (fun j hj => (hownW.lt j hj).1)
          have hl2 : (l ++ [(⟨(r1 : Int), (r2 : Int)⟩ : I2)]).length = l.length + 1 := by simp
          clear hown1 hgrow hownW
          generalize l ++ [(⟨(r1 : Int), (r2 : Int)⟩ : I2)] = l2 at *
          go_wp2
          go_roundw
          case rel => exact ⟨m - 1, l2, _, by go_num, by omega, R1, R2, by omega, R3⟩
          case measure => simp [intOf]; omega
      · obtain rfl : m = 0 := by omega
        by_cases h0 : l.length = 0
        · obtain ⟨av, lc, hv, -⟩ := LK.own_row2 hown
          rw [hv] at hown ⊢
          rw [h0] at hown ⊢
          clear hv
          go_wp2
          go_ret
          exact ⟨av, lc, l, by rw [h0]; rfl, by omega, by rw [h0]; exact hown, hcr.more (by omega), hor⟩
        · have h0' : (0 : Int) < (l.length : Int) := by omega
          obtain ⟨g, lc, hv⟩ := LK.own_some hown (by omega)
          rw [hv] at hown ⊢
          clear hv
          go_wp2_with fail
          refine (one_any p a zs cap M' _ _ hz (by omega) hcr).mono ?_
          rintro e w3 ⟨b, rfl, hc3, ho3⟩
          have hown3 := MC.own_only hown ho3 hplt
          have hor3 := hor.trans ho3
          have hs3 := hor3.size
          clear hown ho3 hcr hor
          cases b with
          | false =>
            go_wp2
            go_ret
            exact ⟨_, lc, l, rfl, by omega, hown3, hc3.more (by omega), hor3⟩
          | true =>
            have hgl := hown3.lt g rfl
            obtain ⟨-, hx0, hx1⟩ := (MI2.RowAt.of_own hown3).at0 (j := 0) (by omega)
            generalize (MI2.at_ l 0).a0 = z0 at hx0
            generalize (MI2.at_ l 0).a1 = z1 at hx1
            simp only [Nat.zero_mul, Nat.zero_add] at hx0 hx1
            go_wp2_with fail
            refine (among_any p a zs cap (M' + 2) (some ⟨w3.heap.size, 0, none⟩) [-1, z0, 8] 3 _ hz (by omega) (hc3.alloc _) (by simp) (by simp) ?_ ?_).mono ?_
            · exact .inr ⟨w3.heap.size, 0, rfl, by simp, fun j hj => by
                rw [Nat.zero_add]
                have h3 : j < 3 := hj
                rcases (show j = 0 ∨ j = 1 ∨ j = 2 by omega) with rfl | rfl | rfl <;> exact World.cell?_alloc_at _ _ _ _ (by rfl)⟩
            · intro b off hb; cases hb; have := hc3.lt; omega
            rintro e w4 ⟨z, rfl, -, hc4, ho4⟩
            have hown4 := MC.own_only (hown3.alloc (.cells #[.int .i64 (-1), .int .i64 z0, .int .i64 8] 3)) ho4 hplt
            have hor4 := (hor3.alloc (.cells #[.int .i64 (-1), .int .i64 z0, .int .i64 8] 3)).trans ho4
            have hs4 := ho4.size
            obtain ⟨-, -, hx4⟩ := (MI2.RowAt.of_own hown4).at0 (j := 0) (by omega)
            generalize (MI2.at_ l 0).a1 = z4 at hx4
            simp only [Nat.zero_mul, Nat.zero_add] at hx4
            have hf4 := hown4.frozenAt 1
            obtain ⟨ys, hyl, hys⟩ := LK.flat_to l z (by omega)
            have R1 := (hown4.stored 1 (.int .i64 z)).1
            have R0 := (hown4.stored 1 (.int .i64 z)).2
            have R2 := hc4.grown R0 (fun j hj => by cases hj; omega)
            have R3 := hor4.grown R0 (fun j hj => by cases hj; exact hgl.1)
            rw [hys, ← hyl] at R1
            have hy21 : ys.length ≤ 21 := by omega
            have hy0 : (0 : Int) < (ys.length : Int) := by omega
            rw [← hyl]
            clear hown4 hown3 hor4 hc4 R0 hc3 hor3 ho4 hys hx0 hx1 hyl h0 h0'
            go_wp2
            go_ret
            exact ⟨_, lc, ys, rfl, hy21, R1, R2.more (by omega), R3⟩
end Go.Proofs.Ytpabhjnpbnabiaa

/- A new cursor, over whatever program. -/
namespace Go.Proofs.Ytpabhjnpbnabiaa
open Go.RowKit
/-- A new cursor. -/
theorem cur_new {w : World} {T : TypeId} {a : Option Addr} {zs : List Int} {cap : Nat} (h : MC.BytesAt w w.heap.size a zs) : MC.Cur (w.alloc (.cells #[.slice a zs.length cap, .int .i64 0, .int .u64 0] T)) w.heap.size a zs cap 0 := by
  have hc : ∀ j, (w.alloc (.cells #[.slice a zs.length cap, .int .i64 0, .int .u64 0] T)).cell? ⟨w.heap.size, j, none⟩ = (#[.slice a zs.length cap, .int .i64 0, .int .u64 0] : Array Value)[j]? := fun j => World.cell?_alloc_at _ _ _ _ (by rfl)
  refine ⟨by simp, hc 0, ⟨0, hc 1, by omega⟩, ⟨0, hc 2, by omega⟩, World.frozen?_alloc_at _ _ _ _ (by rfl), World.frozen?_alloc_at _ _ _ _ (by rfl), ?_⟩
  exact h.only (q := w.heap.size) (MC.Only.of_below ((Below.refl _ _).alloc (Nat.le_refl _) _)) (Nat.le_refl _) (Nat.le_refl _)
theorem new_below {p : Nat} {w w' : World} {o : Obj} (hp : p = w.heap.size) (h : MC.Only p (w.alloc o) w') : Below w.heap.size w w' :=
  ((Below.refl _ _).alloc (Nat.le_refl _) o).trans (h.below (by omega) (by simp))
theorem MC.BytesAt.up {w : World} {p q : Nat} {a : Option Addr} {zs : List Int} (h : MC.BytesAt w p a zs) (hp : p ≤ q) : MC.BytesAt w q a zs := by
  refine ⟨h.1, ?_⟩
  rcases h.2 with rfl | ⟨b, off, rfl, hlt, hc⟩
  · exact .inl rfl
  · exact .inr ⟨b, off, rfl, by omega, hc⟩
end Go.Proofs.Ytpabhjnpbnabiaa

/- DrawWaysApart: links and two nodes, drawn. -/
namespace Go.Proofs.Ytpabhjnpbnabiaa
open Go.RowKit
set_option linter.unusedSimpArgs false in
set_option maxHeartbeats 1600000 in
set_option maxRecDepth 100000 in
theorem drawWays_any (a : Option Addr) (zs : List Int) (cap : Nat) (w : World) (hz : zs.length ≤ 140737488355328) (hb : MC.BytesAt w w.heap.size a zs) :
    Calls Try.prog 4 #[.slice a zs.length cap] w fun e w' => ∃ a1 c1 xs f t, e = .returned (.tuple #[.slice a1 (List.length xs) c1, .int .i64 f, .int .i64 t]) ∧ xs.length ≤ 21 ∧ MI2.RowAt w' a1 xs ∧ Below w.heap.size w w' := by
  go_enter Try.func4, Try.ntmps4
  go_wp2_with fail
  refine (links_any w.heap.size a zs cap 0 _ hz (by omega) (cur_new hb)).mono ?_
  rintro e w1 ⟨a1, c1, xs, rfl, hxl, hX, hc1, ho1⟩
  have hplt := hc1.lt
  have hXb : w1.ownsRow (w.heap.size + 1) 59 2 (.slice a1 xs.length c1) xs.length (MI2.flat xs) := by
    refine ⟨hX.1, ?_⟩
    rcases hX.2 with h | ⟨g, c2, cur, e1, hg, rest⟩
    · exact .inl h
    · exact .inr ⟨g, c2, cur, e1, by simp at hg; omega, rest⟩
  have HX : Hid (∀ W : World, MC.Only w.heap.size w1 W → MI2.RowAt W a1 xs) := fun W h => by
    obtain ⟨a9, c9, e9, hR9⟩ := LK.own_row2 (MC.own_only hXb h (by omega))
    simp only [Value.slice.injEq] at e9
    obtain ⟨rfl, -, -⟩ := e9
    exact hR9
  have hB1 := new_below rfl ho1
  clear hX hXb ho1 hb
  go_wp2_with fail
  refine (pick_any w.heap.size a zs cap 140 _ _ hz (by omega) (hc1.more (by omega))).mono ?_
  rintro e w2 ⟨f, rfl, _, _, hc2, ho2⟩
  clear hc1
  go_wp2_with fail
  refine (pick_any w.heap.size a zs cap 142 _ _ hz (by omega) hc2).mono ?_
  rintro e w3 ⟨t, rfl, _, ht, hc3, ho3⟩
  have ho13 := ho2.trans ho3
  have hR := HX.out w3 ho13
  have hB := hB1.trans (ho13.below (Nat.le_refl _) (by omega))
  clear hc2 ho2 ho3 hc3 HX ho13 hB1
  go_wp2
  go_ret3
  exact ⟨a1, c1, xs, (f : Int), _, rfl, hxl, hR, hB⟩
end Go.Proofs.Ytpabhjnpbnabiaa
