import Derived.Test.YtdglialjcibbbaaRows
import Derived.Test.YtdglialjcibbbaaMCur
import Derived.WalkKit
import Derived.WalkSpells
import Derived.WalkLawsBesides
import Derived.Outline
import Derived.Test.YtdglialjcibbbaaMI3
import Derived.Test.YtdglialjcibbbaaM5
import Derived.Test.YtdglialjcibbbaaMInfo
import Derived.Test.YtdglialjcibbbaaCKrS
/- The walk of the cursor's next: a byte, and the cursor goes on. -/
namespace Go.Proofs.Ytdglialjcibbbaa
open Go.RowKit
set_option maxHeartbeats 800000 in
set_option maxRecDepth 100000 in
theorem next_any (p : Nat) (a : Option Addr) (zs : List Int) (cap M : Nat) (w : World) (hz : zs.length ≤ 140737488355328) (hM : M ≤ 140737488355328) (hc : MC.Cur w p a zs cap M) :
    Calls Try.prog 62 #[.pointer (some ⟨p, 0, none⟩)] w fun e w' => ∃ b : Nat, e = .returned (.int .i64 (b : Int)) ∧ b ≤ 255 ∧ MC.Cur w' p a zs cap (M + 1) ∧ MC.Only p w w' := by
  have HC : Hid (MC.Cur w p a zs cap M) := hc
  obtain ⟨h1, h2, ⟨k, h3, h3'⟩, ⟨s, h4, h4'⟩, h5, h6, h7⟩ := hc
  by_cases hl : k < zs.length
  · obtain ⟨b, off, z, rfl, hb, hcz, hz0, hz1⟩ := h7.at hl
    clear h7
    go_enter Try.func62, Try.ntmps62
    go_wp2
    go_quiet (fail)
    go_wp2
    go_quiet (fail)
    go_wp2
    generalize hv : IntKind.u64.wrap (IntKind.u64.wrap (IntKind.u64.wrap ((s : Int) * 6364136223846793005) + z) + 1442695040888963407) = v
    have hv0 : 0 ≤ v := by rw [← hv]; exact wrap_u64_nonneg _
    have hv1 : v < 18446744073709551616 := by rw [← hv, IntKind.wrap_u64]; exact Int.emod_lt_of_pos _ (by decide)
    clear hv
    have HV : Hid (v < 18446744073709551616) := hv1
    clear hv1
    go_quiet (fail)
    go_wp2
    go_ret
    obtain ⟨zn, rfl⟩ := Int.eq_ofNat_of_zero_le hz0
    exact ⟨zn, rfl, by omega, HC.out.step (k := k + 1) (by omega) hv0 HV.out, ((((MC.Only.refl p w).drewN _).setCell 1 _).setCell 2 _).drewN _⟩
  · clear h7
    go_enter Try.func62, Try.ntmps62
    go_wp2
    go_quiet (fail)
    go_wp2
    generalize hv : IntKind.u64.wrap (IntKind.u64.wrap (IntKind.u64.wrap ((s : Int) * 6364136223846793005)) + 1442695040888963407) = v
    have hv0 : 0 ≤ v := by rw [← hv]; exact wrap_u64_nonneg _
    have hv1 : v < 18446744073709551616 := by rw [← hv, IntKind.wrap_u64]; exact Int.emod_lt_of_pos _ (by decide)
    clear hv
    obtain ⟨r, hr1, h255⟩ := MC.shr40 v hv0 hv1
    have HV : Hid (v < 18446744073709551616) := hv1
    clear hv1
    go_quiet (fail)
    go_wp2
    go_ret
    exact ⟨r, rfl, hr1, HC.out.step (k := k + 1) (by omega) hv0 HV.out, ((((MC.Only.refl p w).drewN _).setCell 1 _).setCell 2 _).drewN _⟩
end Go.Proofs.Ytdglialjcibbbaa

/- The walks of the cursor's pick, one, of, among: a number below n; yes or no; one of some. -/
namespace Go.Proofs.Ytdglialjcibbbaa
open Go.RowKit
set_option maxHeartbeats 800000 in
set_option maxRecDepth 100000 in
theorem pick_any (p : Nat) (a : Option Addr) (zs : List Int) (cap M : Nat) (n : Int) (w : World) (hz : zs.length ≤ 140737488355328) (hM : M ≤ 140737488350000) (hc : MC.Cur w p a zs cap M) :
    Calls Try.prog 42 #[.pointer (some ⟨p, 0, none⟩), .int .i64 n] w fun e w' => ∃ r : Nat, e = .returned (.int .i64 (r : Int)) ∧ (r = 0 ∨ (r : Int) < n) ∧ r ≤ 65535 ∧ MC.Cur w' p a zs cap (M + 2) ∧ MC.Only p w w' := by
  by_cases h1 : n ≤ 1
  · go_enter Try.func42, Try.ntmps42
    go_wp2
    go_ret
    exact ⟨0, rfl, .inl rfl, by omega, hc.more (by omega), MC.Only.refl _ _⟩
  · have hn : 0 < n := by omega
    by_cases h200 : n ≤ 200
    · go_enter Try.func42, Try.ntmps42
      go_wp2_with fail
      refine (next_any p a zs cap M _ hz (by omega) hc).mono ?_
      rintro e w1 ⟨b, rfl, hb, hc1, ho1⟩
      have hne : (n == 0) = false := by simp; omega
      have hm0 := Int.emod_nonneg (b : Int) (show n ≠ 0 by omega)
      have hm1 := Int.emod_lt_of_pos (b : Int) hn
      go_wp2
      go_ret
      obtain ⟨r, hr⟩ := Int.eq_ofNat_of_zero_le hm0
      refine ⟨r, ?_, .inr (by omega), by omega, hc1.more (by omega), ho1⟩
      rw [← hr]; rfl
    · go_enter Try.func42, Try.ntmps42
      go_wp2_with fail
      refine (next_any p a zs cap M _ hz (by omega) hc).mono ?_
      rintro e w1 ⟨b, rfl, hb, hc1, ho1⟩
      go_wp2_with fail
      refine (next_any p a zs cap (M + 1) _ hz (by omega) hc1).mono ?_
      rintro e w2 ⟨b2, rfl, hb2, hc2, ho2⟩
      have hne : (n == 0) = false := by simp; omega
      have hm0 := Int.emod_nonneg ((b : Int) * 256 + b2) (show n ≠ 0 by omega)
      have hm1 := Int.emod_lt_of_pos ((b : Int) * 256 + b2) hn
      have hm2 : ((b : Int) * 256 + b2) % n ≤ (b : Int) * 256 + b2 := MC.emod_le _ _ (by omega) hn
      go_wp2
      go_ret
      obtain ⟨r, hr⟩ := Int.eq_ofNat_of_zero_le hm0
      refine ⟨r, ?_, .inr (by omega), by omega, hc2, ho1.trans ho2⟩
      rw [← hr]; rfl
set_option maxHeartbeats 800000 in
set_option maxRecDepth 100000 in
theorem one_any (p : Nat) (a : Option Addr) (zs : List Int) (cap M : Nat) (n : Int) (w : World) (hz : zs.length ≤ 140737488355328) (hM : M ≤ 140737488350000) (hc : MC.Cur w p a zs cap M) :
    Calls Try.prog 41 #[.pointer (some ⟨p, 0, none⟩), .int .i64 n] w fun e w' => ∃ b : Bool, e = .returned (.bool b) ∧ MC.Cur w' p a zs cap (M + 2) ∧ MC.Only p w w' := by
  go_enter Try.func41, Try.ntmps41
  go_wp2_with fail
  refine (pick_any p a zs cap M n _ hz hM hc).mono ?_
  rintro e w1 ⟨r, rfl, _, _, hc1, ho1⟩
  go_wp2
  go_ret
  exact ⟨_, rfl, hc1, ho1⟩
end Go.Proofs.Ytdglialjcibbbaa

/- The walk of the cursor's among: one of some numbers. -/
namespace Go.Proofs.Ytdglialjcibbbaa
open Go.RowKit
set_option maxHeartbeats 800000 in
set_option maxRecDepth 100000 in
theorem among_any (p : Nat) (a : Option Addr) (zs : List Int) (cap M : Nat) (l : Option Addr) (xs : List Int) (lc : Nat) (w : World) (hz : zs.length ≤ 140737488355328) (hM : M ≤ 140737488350000) (hc : MC.Cur w p a zs cap M)
    (hx0 : 0 < xs.length) (hx : xs.length ≤ 1048576) (hl : M4.IntsAt w l xs) (hp : ∀ b off, l = some ⟨b, off, none⟩ → b ≠ p) :
    Calls Try.prog 55 #[.pointer (some ⟨p, 0, none⟩), .slice l xs.length lc] w fun e w' => ∃ z : Int, e = .returned (.int .i64 z) ∧ z ∈ xs ∧ MC.Cur w' p a zs cap (M + 2) ∧ MC.Only p w w' := by
  go_enter Try.func55, Try.ntmps55
  go_wp2_with fail
  refine (pick_any p a zs cap M _ _ hz hM hc).mono ?_
  rintro e w1 ⟨r, rfl, hr, _, hc1, ho1⟩
  have hr' : r < xs.length := by omega
  obtain ⟨b, off, rfl, hlt, hcell⟩ := (ho1.ints hl hp).at hr'
  have hmem : xs.getD r 0 ∈ xs := by rw [List.getD_eq_getElem?_getD, List.getElem?_eq_getElem hr']; exact List.getElem_mem hr'
  generalize xs.getD r 0 = z at *
  clear hl hp
  go_wp2
  go_ret
  exact ⟨z, rfl, hmem, hc1, ho1⟩
end Go.Proofs.Ytdglialjcibbbaa

/- Edges that are drawn (CPipesD with other numbers). -/
namespace Go.Proofs.Ytdglialjcibbbaa
open Go.RowKit
theorem Try.infoEdgeD : (Try.prog.info? 33).map (fun i => (i.zero, i.size, i.bytes)) = some (some (.agg #[.int .i64 0, .int .i64 0, .int .i64 0]), 3, 24) := by kernel_rfl
namespace EDD
theorem flat_to : ∀ (xs : List I3) (z : Int), 0 < xs.length → ∃ ys : List I3, ys.length = xs.length ∧ (MI3.flat xs).set 2 (.int .i64 z) = MI3.flat ys
  | x :: xs, z, _ => ⟨⟨x.a0, x.a1, z⟩ :: xs, rfl, by simp [MI3.flat, I3.cs]⟩
theorem own_row3 {w : World} {base e n : Nat} {v : Value} {xs : List I3} (h : w.ownsRow base e 3 v n (MI3.flat xs)) : ∃ a cap, v = .slice a n cap ∧ MI3.RowAt w a xs := by
  have hlen : xs.length = n := by have := h.1; rw [MI3.flat_len] at this; omega
  rcases h.2 with ⟨rfl, h0⟩ | ⟨g, cap, cur, rfl, hb, hg, hc1, hc2, hc3, hc4⟩
  · subst h0
    exact ⟨none, 0, rfl, ⟨.inl (List.eq_nil_of_length_eq_zero hlen)⟩⟩
  · exact ⟨_, cap, rfl, MI3.RowAt.of_own h⟩
theorem own_some {w : World} {base e sz n : Nat} {v : Value} {xs : List Value} (h : w.ownsRow base e sz v n xs) (hn : 0 < n) : ∃ g cap, v = .slice (some ⟨g, 0, none⟩) n cap := by
  rcases h.2 with ⟨-, h0⟩ | ⟨g, cap, cur, rfl, -⟩
  · omega
  · exact ⟨g, cap, rfl⟩
theorem new3 (W : World) (cs : List Value) (e : TypeId) (n : Nat) (hn : W.heap.size = n) : ∀ (j : Nat) (u : Value), cs[j]? = some u → (W.alloc (.cells cs.toArray e)).cell? ((⟨n, 0, none⟩ : Addr).add j) = some u := by
  intro j u h
  subst hn
  have hadd : (⟨W.heap.size, 0, none⟩ : Addr).add j = ⟨W.heap.size, j, none⟩ := by unfold Addr.add; split <;> simp_all
  rw [hadd, World.cell?_alloc_at _ _ _ _ (by rfl)]
  simpa using h
theorem one3 (x y z : Int) : ∀ u ∈ [Value.int .i64 x, .int .i64 y, .int .i64 z], u.oneCell' = true := by intro u hu; simp at hu; rcases hu with rfl | rfl | rfl <;> rfl
theorem flat_snoc (l : List I3) (x y z : Int) : MI3.flat l ++ [Value.int .i64 x, .int .i64 y, .int .i64 z] = MI3.flat (l ++ [⟨x, y, z⟩]) := by rw [MI3.flat_app]; rfl
end EDD
set_option linter.unusedSimpArgs false in
set_option maxHeartbeats 3200000 in
set_option maxRecDepth 100000 in
theorem edges_any (p : Nat) (a : Option Addr) (zs : List Int) (cap M : Nat) (w : World) (hz : zs.length ≤ 140737488355328) (hM : M ≤ 140737488340000) (hc : MC.Cur w p a zs cap M) :
    Calls Try.prog 24 #[.pointer (some ⟨p, 0, none⟩)] w fun e w' => ∃ a1 c1 l, e = .returned (.slice a1 (List.length l) c1) ∧ l.length ≤ 25 ∧ w'.ownsRow w.heap.size 33 3 (.slice a1 l.length c1) l.length (MI3.flat l) ∧ MC.Cur w' p a zs cap (M + 180) ∧ MC.Only p w w' := by
  obtain ⟨i2, hi', hz0', hz1', hz2'⟩ := info_parts Try.infoEdgeD
  have hplt := hc.lt
  go_enter Try.func24, Try.ntmps24
  go_wp2_with fail
  refine (pick_any p a zs cap M _ _ hz (by omega) hc).mono ?_
  rintro e w1 ⟨r, rfl, hr, _, hc1, ho1⟩
  have hr6 : r < 14 := by omega
  clear hr hc
  go_wp2_with fail
  refine (one_any p a zs cap (M + 2) _ _ hz (by omega) hc1).mono ?_
  rintro e w2 ⟨b, rfl, hc2, ho2⟩
  have hoA := ho1.trans ho2
  clear ho1 ho2 hc1
  cases b with
  | false =>
    go_wp2_with fail
    go_loopw [3, 4, 5] (fun lv nv kv wr => ∃ (m : Nat) (l : List I3) (M' : Nat), nv = .int .i64 m ∧ l.length + m ≤ 25 ∧ wr.ownsRow w.heap.size 33 3 lv l.length (MI3.flat l) ∧ MC.Cur wr p a zs cap M' ∧ M' + 6 * m ≤ M + 164 ∧ MC.Only p w wr) (fun _ nv _ _ => (intOf nv).toNat)
    case atStart => exact ⟨r, [], M + 4, rfl, by simp; omega, World.ownsRow_nil _ _ _ _, hc2, by omega, hoA⟩
    case round =>
      clear hc2 hoA
      obtain ⟨m, l, M', rfl, hm, hown, hcr, hMr, hor⟩ := hrel
      have hows := hor.size
      by_cases hm0 : 0 < m
      · have m0 : (0 : Int) < (m : Int) := by omega
        go_wp2_with fail
        refine (pick_any p a zs cap M' _ _ hz (by omega) hcr).mono ?_
        rintro e w3 ⟨r1, rfl, hr1, _, hc3, ho3⟩
        have hown3 := MC.own_only hown ho3 hplt
        have hor3 := hor.trans ho3
        have h15 : r1 < 6 := by omega
        clear hown ho3 hcr hr1 hor
        go_wp2_with fail
        refine (pick_any p a zs cap (M' + 2) _ _ hz (by omega) hc3).mono ?_
        rintro e w5 ⟨r2, rfl, hr2, _, hc5, ho5⟩
        have hown5 := MC.own_only hown3 ho5 hplt
        have hor5 := hor3.trans ho5
        have h25 : r2 < 6 := by omega
        clear hown3 ho5 hc3 hr2 hor3
        go_wp2_with fail
        refine (pick_any p a zs cap (M' + 4) _ _ hz (by omega) hc5).mono ?_
        rintro e w4 ⟨r3, rfl, hr3, _, hc4, ho4⟩
        have hownW := MC.own_only hown5 ho4 hplt
        have hor4 := hor5.trans ho4
        have hs4 := hor4.size
        have h35 : r3 < 9 := by omega
        clear hown5 ho4 hc5 hr3 hor5
        by_cases h12 : r1 = r2
        · subst h12
          go_wp2_with (at_builtin; refine wpList_append_own _ rfl _ _ 23 rfl w.heap.size 33 i2 (.agg #[.int .i64 0, .int .i64 0, .int .i64 0]) 3 24 Try.underlying23 hi' hz0' hz1' hz2' rfl (by decide) _ _ _ rfl ((hownW.alloc _).alloc _) ⟨w4.heap.size + 1, 0, none⟩ 1 1 [.int .i64 (r1 : Int), .int .i64 (((r1 : Int) + 1) % 6), .int .i64 (r3 : Int)] rfl rfl ?c1 ?c2 ?c3 ?c4 ?c5 ?_)
          case c1 => exact EDD.new3 _ _ _ _ (by simp)
          case c2 => exact EDD.one3 _ _ _
          case c3 => unfold maxLen; omega
          case c4 => omega
          case c5 => simp; omega
          intro v' wn hown1 hgrow _
          have R1 : wn.ownsRow w.heap.size 33 3 v' (l ++ [(⟨(r1 : Int), (((r1 : Int) + 1) % 6), (r3 : Int)⟩ : I3)]).length (MI3.flat (l ++ [⟨(r1 : Int), (((r1 : Int) + 1) % 6), (r3 : Int)⟩])) := by rw [← EDD.flat_snoc, List.length_append]; exact hown1
          have R2 := ((hc4.alloc _).alloc _).grown hgrow (fun j hj => by have := (hownW.lt j hj).1; omega)
          have R3 := ((hor4.alloc _).alloc _).grown hgrow (fun j hj => (hownW.lt j hj).1)
          have hl2 : (l ++ [(⟨(r1 : Int), (((r1 : Int) + 1) % 6), (r3 : Int)⟩ : I3)]).length = l.length + 1 := by simp
          clear hown1 hgrow hownW
          generalize l ++ [(⟨(r1 : Int), (((r1 : Int) + 1) % 6), (r3 : Int)⟩ : I3)] = l2 at *
          go_wp2
          go_roundw
          case rel => exact ⟨m - 1, l2, _, by go_num, by omega, R1, R2, by omega, R3⟩
          case measure => simp [intOf]; omega
        · have e12 : ((r1 : Int) == (r2 : Int)) = false := by simp; omega
          clear h12
          go_wp2_with (at_builtin; refine wpList_append_own _ rfl _ _ 23 rfl w.heap.size 33 i2 (.agg #[.int .i64 0, .int .i64 0, .int .i64 0]) 3 24 Try.underlying23 hi' hz0' hz1' hz2' rfl (by decide) _ _ _ rfl ((hownW.alloc _).alloc _) ⟨w4.heap.size + 1, 0, none⟩ 1 1 [.int .i64 (r1 : Int), .int .i64 (r2 : Int), .int .i64 (r3 : Int)] rfl rfl ?c1 ?c2 ?c3 ?c4 ?c5 ?_)
          case c1 => exact EDD.new3 _ _ _ _ (by simp)
          case c2 => exact EDD.one3 _ _ _
          case c3 => unfold maxLen; omega
          case c4 => omega
          case c5 => simp; omega
          intro v' wn hown1 hgrow _
          have R1 : wn.ownsRow w.heap.size 33 3 v' (l ++ [(⟨(r1 : Int), (r2 : Int), (r3 : Int)⟩ : I3)]).length (MI3.flat (l ++ [⟨(r1 : Int), (r2 : Int), (r3 : Int)⟩])) := by rw [← EDD.flat_snoc, List.length_append]; exact hown1
          have R2 := ((hc4.alloc _).alloc _).grown hgrow (fun j hj => by have := (hownW.lt j hj).1; omega)
          have R3 := ((hor4.alloc _).alloc _).grown hgrow (fun j hj => (hownW.lt j hj).1)
          have hl2 : (l ++ [(⟨(r1 : Int), (r2 : Int), (r3 : Int)⟩ : I3)]).length = l.length + 1 := by simp
          clear hown1 hgrow hownW
          generalize l ++ [(⟨(r1 : Int), (r2 : Int), (r3 : Int)⟩ : I3)] = l2 at *
          go_wp2
          go_roundw
          case rel => exact ⟨m - 1, l2, _, by go_num, by omega, R1, R2, by omega, R3⟩
          case measure => simp [intOf]; omega
      · obtain rfl : m = 0 := by omega
        by_cases h0 : l.length = 0
        · obtain ⟨av, lc, hv, -⟩ := EDD.own_row3 hown
          rw [hv] at hown ⊢
          rw [h0] at hown ⊢
          clear hv
          go_wp2
          go_ret
          exact ⟨av, lc, l, by rw [h0]; rfl, by omega, by rw [h0]; exact hown, hcr.more (by omega), hor⟩
        · have h0' : (0 : Int) < (l.length : Int) := by omega
          obtain ⟨g, lc, hv⟩ := EDD.own_some hown (by omega)
          rw [hv] at hown ⊢
          clear hv
          go_wp2_with fail
          refine (one_any p a zs cap M' _ _ hz (by omega) hcr).mono ?_
          rintro e w3 ⟨b, rfl, hc3, ho3⟩
          have hown3 := MC.own_only hown ho3 hplt
          have hor3 := hor.trans ho3
          have hs3 := hor3.size
          clear hown ho3 hcr hor
          cases b with
          | false =>
            go_wp2
            go_ret
            exact ⟨_, lc, l, rfl, by omega, hown3, hc3.more (by omega), hor3⟩
          | true =>
            have hgl := hown3.lt g rfl
            go_wp2_with fail
            refine (among_any p a zs cap (M' + 2) (some ⟨w3.heap.size, 0, none⟩) [-1, 1000, 1001] 3 _ hz (by omega) (hc3.alloc _) (by simp) (by simp) ?_ ?_).mono ?_
            · exact .inr ⟨w3.heap.size, 0, rfl, by simp, fun j hj => by
                rw [Nat.zero_add]
                have h3 : j < 3 := hj
                rcases (show j = 0 ∨ j = 1 ∨ j = 2 by omega) with rfl | rfl | rfl <;> exact World.cell?_alloc_at _ _ _ _ (by rfl)⟩
            · intro b off hb; cases hb; have := hc3.lt; omega
            rintro e w4 ⟨z, rfl, -, hc4, ho4⟩
            have hown4 := MC.own_only (hown3.alloc (.cells #[.int .i64 (-1), .int .i64 1000, .int .i64 1001] 3)) ho4 hplt
            have hor4 := (hor3.alloc (.cells #[.int .i64 (-1), .int .i64 1000, .int .i64 1001] 3)).trans ho4
            have hs4 := ho4.size
            obtain ⟨-, -, -, hx4⟩ := (MI3.RowAt.of_own hown4).at0 (j := 0) (by omega)
            generalize (MI3.at_ l 0).a2 = z4 at hx4
            simp only [Nat.zero_mul, Nat.zero_add] at hx4
            have hf4 := hown4.frozenAt 2
            obtain ⟨ys, hyl, hys⟩ := EDD.flat_to l z (by omega)
            have R1 := (hown4.stored 2 (.int .i64 z)).1
            have R0 := (hown4.stored 2 (.int .i64 z)).2
            have R2 := hc4.grown R0 (fun j hj => by cases hj; omega)
            have R3 := hor4.grown R0 (fun j hj => by cases hj; exact hgl.1)
            rw [hys, ← hyl] at R1
            have hy21 : ys.length ≤ 25 := by omega
            have hy0 : (0 : Int) < (ys.length : Int) := by omega
            rw [← hyl]
            clear hown4 hown3 hor4 hc4 R0 hc3 hor3 ho4 hys hyl h0 h0'
            go_wp2
            go_ret
            exact ⟨_, lc, ys, rfl, hy21, R1, R2.more (by omega), R3⟩
  | true =>
    go_wp2_with fail
    refine (pick_any p a zs cap (M + 4) _ _ hz (by omega) hc2).mono ?_
    rintro e w2' ⟨r2, rfl, hr2, _, hc2', ho2'⟩
    have hr22 : r2 < 2 := by omega
    have hoB := hoA.trans ho2'
    clear hr2 hc2 hoA ho2'
    go_wp2_with fail
    go_loopw [3, 4, 5] (fun lv nv kv wr => ∃ (m : Nat) (l : List I3) (M' : Nat), nv = .int .i64 m ∧ l.length + m ≤ 25 ∧ wr.ownsRow w.heap.size 33 3 lv l.length (MI3.flat l) ∧ MC.Cur wr p a zs cap M' ∧ M' + 6 * m ≤ M + 164 ∧ MC.Only p w wr) (fun _ nv _ _ => (intOf nv).toNat)
    case atStart => exact ⟨24 + r2, [], M + 6, by go_num, by simp; omega, World.ownsRow_nil _ _ _ _, hc2', by omega, hoB⟩
    case round =>
      clear hc2' hoB
      obtain ⟨m, l, M', rfl, hm, hown, hcr, hMr, hor⟩ := hrel
      have hows := hor.size
      by_cases hm0 : 0 < m
      · have m0 : (0 : Int) < (m : Int) := by omega
        go_wp2_with fail
        refine (pick_any p a zs cap M' _ _ hz (by omega) hcr).mono ?_
        rintro e w3 ⟨r1, rfl, hr1, _, hc3, ho3⟩
        have hown3 := MC.own_only hown ho3 hplt
        have hor3 := hor.trans ho3
        have h15 : r1 < 6 := by omega
        clear hown ho3 hcr hr1 hor
        go_wp2_with fail
        refine (pick_any p a zs cap (M' + 2) _ _ hz (by omega) hc3).mono ?_
        rintro e w5 ⟨r2, rfl, hr2, _, hc5, ho5⟩
        have hown5 := MC.own_only hown3 ho5 hplt
        have hor5 := hor3.trans ho5
        have h25 : r2 < 6 := by omega
        clear hown3 ho5 hc3 hr2 hor3
        go_wp2_with fail
        refine (pick_any p a zs cap (M' + 4) _ _ hz (by omega) hc5).mono ?_
        rintro e w4 ⟨r3, rfl, hr3, _, hc4, ho4⟩
        have hownW := MC.own_only hown5 ho4 hplt
        have hor4 := hor5.trans ho4
        have hs4 := hor4.size
        have h35 : r3 < 9 := by omega
        clear hown5 ho4 hc5 hr3 hor5
        by_cases h12 : r1 = r2
        · subst h12
          go_wp2_with (at_builtin; refine wpList_append_own _ rfl _ _ 23 rfl w.heap.size 33 i2 (.agg #[.int .i64 0, .int .i64 0, .int .i64 0]) 3 24 Try.underlying23 hi' hz0' hz1' hz2' rfl (by decide) _ _ _ rfl ((hownW.alloc _).alloc _) ⟨w4.heap.size + 1, 0, none⟩ 1 1 [.int .i64 (r1 : Int), .int .i64 (((r1 : Int) + 1) % 6), .int .i64 (r3 : Int)] rfl rfl ?c1 ?c2 ?c3 ?c4 ?c5 ?_)
          case c1 => exact EDD.new3 _ _ _ _ (by simp)
          case c2 => exact EDD.one3 _ _ _
          case c3 => unfold maxLen; omega
          case c4 => omega
          case c5 => simp; omega
          intro v' wn hown1 hgrow _
          have R1 : wn.ownsRow w.heap.size 33 3 v' (l ++ [(⟨(r1 : Int), (((r1 : Int) + 1) % 6), (r3 : Int)⟩ : I3)]).length (MI3.flat (l ++ [⟨(r1 : Int), (((r1 : Int) + 1) % 6), (r3 : Int)⟩])) := by rw [← EDD.flat_snoc, List.length_append]; exact hown1
          have R2 := ((hc4.alloc _).alloc _).grown hgrow (fun j hj => by have := (hownW.lt j hj).1; omega)
          have R3 := ((hor4.alloc _).alloc _).grown hgrow (fun j hj => (hownW.lt j hj).1)
          have hl2 : (l ++ [(⟨(r1 : Int), (((r1 : Int) + 1) % 6), (r3 : Int)⟩ : I3)]).length = l.length + 1 := by simp
          clear hown1 hgrow hownW
          generalize l ++ [(⟨(r1 : Int), (((r1 : Int) + 1) % 6), (r3 : Int)⟩ : I3)] = l2 at *
          go_wp2
          go_roundw
          case rel => exact ⟨m - 1, l2, _, by go_num, by omega, R1, R2, by omega, R3⟩
          case measure => simp [intOf]; omega
        · have e12 : ((r1 : Int) == (r2 : Int)) = false := by simp; omega
          clear h12
          go_wp2_with (at_builtin; refine wpList_append_own _ rfl _ _ 23 rfl w.heap.size 33 i2 (.agg #[.int .i64 0, .int .i64 0, .int .i64 0]) 3 24 Try.underlying23 hi' hz0' hz1' hz2' rfl (by decide) _ _ _ rfl ((hownW.alloc _).alloc _) ⟨w4.heap.size + 1, 0, none⟩ 1 1 [.int .i64 (r1 : Int), .int .i64 (r2 : Int), .int .i64 (r3 : Int)] rfl rfl ?c1 ?c2 ?c3 ?c4 ?c5 ?_)
          case c1 => exact EDD.new3 _ _ _ _ (by simp)
          case c2 => exact EDD.one3 _ _ _
          case c3 => unfold maxLen; omega
          case c4 => omega
          case c5 => simp; omega
          intro v' wn hown1 hgrow _
          have R1 : wn.ownsRow w.heap.size 33 3 v' (l ++ [(⟨(r1 : Int), (r2 : Int), (r3 : Int)⟩ : I3)]).length (MI3.flat (l ++ [⟨(r1 : Int), (r2 : Int), (r3 : Int)⟩])) := by rw [← EDD.flat_snoc, List.length_append]; exact hown1
          have R2 := ((hc4.alloc _).alloc _).grown hgrow (fun j hj => by have := (hownW.lt j hj).1; omega)
          have R3 := ((hor4.alloc _).alloc _).grown hgrow (fun j hj => (hownW.lt j hj).1)
          have hl2 : (l ++ [(⟨(r1 : Int), (r2 : Int), (r3 : Int)⟩ : I3)]).length = l.length + 1 := by simp
          clear hown1 hgrow hownW
          generalize l ++ [(⟨(r1 : Int), (r2 : Int), (r3 : Int)⟩ : I3)] = l2 at *
          go_wp2
          go_roundw
          case rel => exact ⟨m - 1, l2, _, by go_num, by omega, R1, R2, by omega, R3⟩
          case measure => simp [intOf]; omega
      · obtain rfl : m = 0 := by omega
        by_cases h0 : l.length = 0
        · obtain ⟨av, lc, hv, -⟩ := EDD.own_row3 hown
          rw [hv] at hown ⊢
          rw [h0] at hown ⊢
          clear hv
          go_wp2
          go_ret
          exact ⟨av, lc, l, by rw [h0]; rfl, by omega, by rw [h0]; exact hown, hcr.more (by omega), hor⟩
        · have h0' : (0 : Int) < (l.length : Int) := by omega
          obtain ⟨g, lc, hv⟩ := EDD.own_some hown (by omega)
          rw [hv] at hown ⊢
          clear hv
          go_wp2_with fail
          refine (one_any p a zs cap M' _ _ hz (by omega) hcr).mono ?_
          rintro e w3 ⟨b, rfl, hc3, ho3⟩
          have hown3 := MC.own_only hown ho3 hplt
          have hor3 := hor.trans ho3
          have hs3 := hor3.size
          clear hown ho3 hcr hor
          cases b with
          | false =>
            go_wp2
            go_ret
            exact ⟨_, lc, l, rfl, by omega, hown3, hc3.more (by omega), hor3⟩
          | true =>
            have hgl := hown3.lt g rfl
            go_wp2_with fail
            refine (among_any p a zs cap (M' + 2) (some ⟨w3.heap.size, 0, none⟩) [-1, 1000, 1001] 3 _ hz (by omega) (hc3.alloc _) (by simp) (by simp) ?_ ?_).mono ?_
            · exact .inr ⟨w3.heap.size, 0, rfl, by simp, fun j hj => by
                rw [Nat.zero_add]
                have h3 : j < 3 := hj
                rcases (show j = 0 ∨ j = 1 ∨ j = 2 by omega) with rfl | rfl | rfl <;> exact World.cell?_alloc_at _ _ _ _ (by rfl)⟩
            · intro b off hb; cases hb; have := hc3.lt; omega
            rintro e w4 ⟨z, rfl, -, hc4, ho4⟩
            have hown4 := MC.own_only (hown3.alloc (.cells #[.int .i64 (-1), .int .i64 1000, .int .i64 1001] 3)) ho4 hplt
            have hor4 := (hor3.alloc (.cells #[.int .i64 (-1), .int .i64 1000, .int .i64 1001] 3)).trans ho4
            have hs4 := ho4.size
            obtain ⟨-, -, -, hx4⟩ := (MI3.RowAt.of_own hown4).at0 (j := 0) (by omega)
            generalize (MI3.at_ l 0).a2 = z4 at hx4
            simp only [Nat.zero_mul, Nat.zero_add] at hx4
            have hf4 := hown4.frozenAt 2
            obtain ⟨ys, hyl, hys⟩ := EDD.flat_to l z (by omega)
            have R1 := (hown4.stored 2 (.int .i64 z)).1
            have R0 := (hown4.stored 2 (.int .i64 z)).2
            have R2 := hc4.grown R0 (fun j hj => by cases hj; omega)
            have R3 := hor4.grown R0 (fun j hj => by cases hj; exact hgl.1)
            rw [hys, ← hyl] at R1
            have hy21 : ys.length ≤ 25 := by omega
            have hy0 : (0 : Int) < (ys.length : Int) := by omega
            rw [← hyl]
            clear hown4 hown3 hor4 hc4 R0 hc3 hor3 ho4 hys hyl h0 h0'
            go_wp2
            go_ret
            exact ⟨_, lc, ys, rfl, hy21, R1, R2.more (by omega), R3⟩
end Go.Proofs.Ytdglialjcibbbaa

/- Some of a row's numbers, drawn. -/
namespace Go.Proofs.Ytdglialjcibbbaa
open Go.RowKit
set_option linter.unusedSimpArgs false in
set_option maxHeartbeats 1600000 in
set_option maxRecDepth 100000 in
theorem someOf_any (p : Nat) (a : Option Addr) (zs : List Int) (cap M n : Nat) (w : World) (hz : zs.length ≤ 140737488355328) (hM : M ≤ 140737488340000) (hn : n ≤ 1000) (hc : MC.Cur w p a zs cap M) :
    Calls Try.prog 25 #[.pointer (some ⟨p, 0, none⟩), .int .i64 (n : Int)] w fun e w' => ∃ a1 c1 l, e = .returned (.slice a1 (List.length l) c1) ∧ l.length ≤ n + 1 ∧ w'.ownsRow w.heap.size 3 1 (.slice a1 l.length c1) l.length (M4.iv l) ∧ MC.Cur w' p a zs cap (M + 2 * n + 2) ∧ MC.Only p w w' := by
  obtain ⟨i0, hi, hz0, hz1, hz2⟩ := info_parts Try.info3
  have hplt := hc.lt
  go_enter Try.func25, Try.ntmps25
  go_wp2
  go_loopw [5, 6] (fun v iv wr => ∃ (k : Nat) (l : List Int), iv = .int .i64 k ∧ k ≤ n ∧ l.length ≤ k ∧ wr.ownsRow w.heap.size 3 1 v l.length (M4.iv l) ∧ MC.Cur wr p a zs cap (M + 2 * k) ∧ MC.Only p w wr) (fun _ iv _ => (n - intOf iv).toNat)
  case atStart => exact ⟨0, [], rfl, by omega, by simp, World.ownsRow_nil _ _ _ _, hc, MC.Only.refl _ _⟩
  case round =>
    clear hc
    obtain ⟨k, l, rfl, hk, hl, hown, hcr, hon⟩ := hrel
    have hws := hon.size
    by_cases hkn : k < n
    · have kn : (k : Int) < (n : Int) := by omega
      go_wp2_with fail
      refine (one_any p a zs cap (M + 2 * k) _ _ hz (by omega) hcr).mono ?_
      rintro e w1 ⟨b, rfl, hc1, ho1⟩
      have hownW := MC.own_only hown ho1 hplt
      have hon1 := hon.trans ho1
      have hs1 := hon1.size
      clear ho1 hown hcr hon
      cases b with
      | false =>
        go_wp2
        go_roundw
        case rel => exact ⟨k + 1, l, by go_num, by omega, by omega, hownW, hc1, hon1⟩
        case measure => simp [intOf]; omega
      | true =>
        go_wp2_with (at_builtin; refine wpList_append_own _ rfl _ _ 24 rfl w.heap.size 3 i0 (.int .i64 0) 1 8 Try.underlying24 hi hz0 hz1 hz2 rfl (by decide) _ _ _ rfl (hownW.alloc _) ⟨w1.heap.size, 0, none⟩ 1 1 [.int .i64 (k : Int)] rfl rfl ?c1 ?c2 ?c3 ?c4 ?c5 ?_)
        case c1 => exact M2.new1 _ _ _
        case c2 => exact M2.one1 _ _
        case c3 => unfold maxLen; omega
        case c4 => omega
        case c5 => simp; omega
        intro v' wn hown1 hgrow _
        have R1 : wn.ownsRow w.heap.size 3 1 v' (l ++ [(k : Int)]).length (M4.iv (l ++ [(k : Int)])) := by simpa [M4.iv] using hown1
        have R2 := (hc1.alloc _).grown hgrow (fun j hj => by have := (hownW.lt j hj).1; omega)
        have R3 := (hon1.alloc _).grown hgrow (fun j hj => (hownW.lt j hj).1)
        have hl2 : (l ++ [(k : Int)]).length ≤ k + 1 := by simp; omega
        clear hown1 hgrow hownW
        generalize l ++ [(k : Int)] = l2 at *
        go_wp2
        go_roundw
        case rel => exact ⟨k + 1, l2, by go_num, by omega, by omega, R1, R2, R3⟩
        case measure => simp [intOf]; omega
    · obtain rfl : k = n := by omega
      go_wp2_with fail
      refine (one_any p a zs cap (M + 2 * k) _ _ hz (by omega) hcr).mono ?_
      rintro e w1 ⟨b, rfl, hc1, ho1⟩
      have hownW := MC.own_only hown ho1 hplt
      have hon1 := hon.trans ho1
      have hs1 := hon1.size
      clear ho1 hown hcr hon
      cases b with
      | false =>
        obtain ⟨av, lc, hv⟩ := M5.own_view hownW
        rw [hv.1] at hownW ⊢
        go_wp2
        go_ret
        exact ⟨av, lc, l, rfl, by omega, hownW, hc1, hon1⟩
      | true =>
        go_wp2_with (at_builtin; refine wpList_append_own _ rfl _ _ 24 rfl w.heap.size 3 i0 (.int .i64 0) 1 8 Try.underlying24 hi hz0 hz1 hz2 rfl (by decide) _ _ _ rfl (hownW.alloc _) ⟨w1.heap.size, 0, none⟩ 1 1 [.int .i64 (k : Int)] rfl rfl ?c1 ?c2 ?c3 ?c4 ?c5 ?_)
        case c1 => exact M2.new1 _ _ _
        case c2 => exact M2.one1 _ _
        case c3 => unfold maxLen; omega
        case c4 => omega
        case c5 => simp; omega
        intro v' wn hown1 hgrow _
        have R1 : wn.ownsRow w.heap.size 3 1 v' (l ++ [(k : Int)]).length (M4.iv (l ++ [(k : Int)])) := by simpa [M4.iv] using hown1
        have R2 := (hc1.alloc _).grown hgrow (fun j hj => by have := (hownW.lt j hj).1; omega)
        have R3 := (hon1.alloc _).grown hgrow (fun j hj => (hownW.lt j hj).1)
        have hl2 : (l ++ [(k : Int)]).length ≤ k + 1 := by simp; omega
        clear hown1 hgrow hownW
        generalize l ++ [(k : Int)] = l2 at *
        obtain ⟨av, lc, hv⟩ := M5.own_view R1
        rw [hv.1] at R1 ⊢
        go_wp2
        go_ret
        exact ⟨av, lc, l2, rfl, by omega, R1, R2, R3⟩
end Go.Proofs.Ytdglialjcibbbaa

/- A new cursor, over whatever program. -/
namespace Go.Proofs.Ytdglialjcibbbaa
open Go.RowKit
/-- A new cursor. -/
theorem cur_new {w : World} {T : TypeId} {a : Option Addr} {zs : List Int} {cap : Nat} (h : MC.BytesAt w w.heap.size a zs) : MC.Cur (w.alloc (.cells #[.slice a zs.length cap, .int .i64 0, .int .u64 0] T)) w.heap.size a zs cap 0 := by
  have hc : ∀ j, (w.alloc (.cells #[.slice a zs.length cap, .int .i64 0, .int .u64 0] T)).cell? ⟨w.heap.size, j, none⟩ = (#[.slice a zs.length cap, .int .i64 0, .int .u64 0] : Array Value)[j]? := fun j => World.cell?_alloc_at _ _ _ _ (by rfl)
  refine ⟨by simp, hc 0, ⟨0, hc 1, by omega⟩, ⟨0, hc 2, by omega⟩, World.frozen?_alloc_at _ _ _ _ (by rfl), World.frozen?_alloc_at _ _ _ _ (by rfl), ?_⟩
  exact h.only (q := w.heap.size) (MC.Only.of_below ((Below.refl _ _).alloc (Nat.le_refl _) _)) (Nat.le_refl _) (Nat.le_refl _)
theorem new_below {p : Nat} {w w' : World} {o : Obj} (hp : p = w.heap.size) (h : MC.Only p (w.alloc o) w') : Below w.heap.size w w' :=
  ((Below.refl _ _).alloc (Nat.le_refl _) o).trans (h.below (by omega) (by simp))
theorem MC.BytesAt.up {w : World} {p q : Nat} {a : Option Addr} {zs : List Int} (h : MC.BytesAt w p a zs) (hp : p ≤ q) : MC.BytesAt w q a zs := by
  refine ⟨h.1, ?_⟩
  rcases h.2 with rfl | ⟨b, off, rfl, hlt, hc⟩
  · exact .inl rfl
  · exact .inr ⟨b, off, rfl, by omega, hc⟩
end Go.Proofs.Ytdglialjcibbbaa

/- What FnCuts draws: edges with sides, with some, with a forest and two nodes. -/
namespace Go.Proofs.Ytdglialjcibbbaa
open Go.RowKit
theorem EDD.up {w : World} {base base' e sz n : Nat} {v : Value} {xs : List Value} (h : w.ownsRow base' e sz v n xs) (hb : base ≤ base') : w.ownsRow base e sz v n xs := by
  refine ⟨h.1, ?_⟩
  rcases h.2 with h' | ⟨g, cap, cur, h1, h2, h3⟩
  · exact .inl h'
  · exact .inr ⟨g, cap, cur, h1, by omega, h3⟩
theorem EDD.row {w W : World} {p base e c : Nat} {a1 : Option Addr} {xs : List I3} (h : w.ownsRow base e 3 (.slice a1 xs.length c) xs.length (MI3.flat xs)) (ho : MC.Only p w W) (hp : p < base) : MI3.RowAt W a1 xs := by
  obtain ⟨a9, c9, e9, hR9⟩ := EDD.own_row3 (MC.own_only h ho hp)
  simp only [Value.slice.injEq] at e9
  obtain ⟨rfl, -, -⟩ := e9
  exact hR9
set_option maxHeartbeats 1600000 in
set_option maxRecDepth 100000 in
theorem drawCutOf_any (a : Option Addr) (zs : List Int) (cap : Nat) (w : World) (hz : zs.length ≤ 140737488355328) (hb : MC.BytesAt w w.heap.size a zs) :
    Calls Try.prog 5 #[.slice a zs.length cap] w fun e w' => ∃ (a1 : Option Addr) (c1 : Nat) (xs : List I3) (a2 : Option Addr) (c2 : Nat) (os : List Int), e = .returned (.tuple #[.slice a1 xs.length c1, .slice a2 os.length c2]) ∧ xs.length ≤ 25 ∧ os.length ≤ 26 ∧ MI3.RowAt w' a1 xs ∧ M4.IntsAt w' a2 os ∧ Below w.heap.size w w' := by
  go_enter Try.func5, Try.ntmps5
  go_wp2_with fail
  refine (edges_any w.heap.size a zs cap 0 _ hz (by omega) (cur_new hb)).mono ?_
  rintro e w1 ⟨a1, c1, xs, rfl, hxl, hX, hc1, ho1⟩
  have HX : Hid (World.ownsRow w1 (w.heap.size + 1) 33 3 (.slice a1 xs.length c1) xs.length (MI3.flat xs)) := EDD.up hX (by simp)
  clear hb hX
  go_wp2_with fail
  refine (someOf_any w.heap.size a zs cap 180 8 _ hz (by omega) (by omega) (hc1.more (by omega))).mono ?_
  rintro e w2 ⟨a2, c2, os, rfl, hol, hO, hc2, ho2⟩
  have hB := new_below rfl (ho1.trans ho2)
  have hR := EDD.row HX.out ho2 (by omega)
  have hI := M5.own_ints hO
  clear HX hO hc1 hc2 ho1 ho2
  go_wp2
  go_ret2
  exact ⟨a1, c1, xs, a2, c2, os, rfl, hxl, by omega, hR, hI, hB⟩
set_option maxHeartbeats 1600000 in
set_option maxRecDepth 100000 in
theorem drawPartsOf_any (a : Option Addr) (zs : List Int) (cap : Nat) (w : World) (hz : zs.length ≤ 140737488355328) (hb : MC.BytesAt w w.heap.size a zs) :
    Calls Try.prog 11 #[.slice a zs.length cap] w fun e w' => ∃ (a1 : Option Addr) (c1 : Nat) (xs : List I3) (a2 : Option Addr) (c2 : Nat) (os : List Int), e = .returned (.tuple #[.slice a1 xs.length c1, .slice a2 os.length c2]) ∧ xs.length ≤ 25 ∧ os.length ≤ 26 ∧ MI3.RowAt w' a1 xs ∧ M4.IntsAt w' a2 os ∧ Below w.heap.size w w' := by
  go_enter Try.func11, Try.ntmps11
  go_wp2_with fail
  refine (edges_any w.heap.size a zs cap 0 _ hz (by omega) (cur_new hb)).mono ?_
  rintro e w1 ⟨a1, c1, xs, rfl, hxl, hX, hc1, ho1⟩
  have HX : Hid (World.ownsRow w1 (w.heap.size + 1) 33 3 (.slice a1 xs.length c1) xs.length (MI3.flat xs)) := EDD.up hX (by simp)
  clear hb hX
  go_wp2_with fail
  refine (someOf_any w.heap.size a zs cap 180 xs.length _ hz (by omega) (by omega) (hc1.more (by omega))).mono ?_
  rintro e w2 ⟨a2, c2, os, rfl, hol, hO, hc2, ho2⟩
  have hB := new_below rfl (ho1.trans ho2)
  have hR := EDD.row HX.out ho2 (by omega)
  have hI := M5.own_ints hO
  clear HX hO hc1 hc2 ho1 ho2
  go_wp2
  go_ret2
  exact ⟨a1, c1, xs, a2, c2, os, rfl, hxl, by omega, hR, hI, hB⟩
set_option maxHeartbeats 1600000 in
set_option maxRecDepth 100000 in
theorem drawPathIn_any (a : Option Addr) (zs : List Int) (cap : Nat) (w : World) (hz : zs.length ≤ 140737488355328) (hb : MC.BytesAt w w.heap.size a zs) :
    Calls Try.prog 16 #[.slice a zs.length cap] w fun e w' => ∃ (a1 : Option Addr) (c1 : Nat) (xs : List I3) (a2 : Option Addr) (c2 : Nat) (os : List Int) (p q : Int), e = .returned (.tuple #[.slice a1 xs.length c1, .slice a2 os.length c2, .int .i64 p, .int .i64 q]) ∧ xs.length ≤ 25 ∧ os.length ≤ 1048576 ∧ MI3.RowAt w' a1 xs ∧ M4.IntsAt w' a2 os ∧ Below w.heap.size w w' := by
  go_enter Try.func16, Try.ntmps16
  go_wp2_with fail
  refine (edges_any w.heap.size a zs cap 0 _ hz (by omega) (cur_new hb)).mono ?_
  rintro e w1 ⟨a1, c1, xs, rfl, hxl, hX, hc1, ho1⟩
  have HX : Hid (World.ownsRow w1 (w.heap.size + 1) 33 3 (.slice a1 xs.length c1) xs.length (MI3.flat xs)) := EDD.up hX (by simp)
  have HB1 : Hid (Below w.heap.size w w1) := new_below rfl ho1
  have hplt := hc1.lt
  have HW : Hid (w.heap.size ≤ w1.heap.size) := HB1.out.size
  have hR1 := EDD.row HX.out (MC.Only.refl w.heap.size w1) (by omega)
  have KS : Hid _ := specKruskal_any a1 c1 xs w1 (by omega) hR1
  have hkl := EG.kruL_len xs
  generalize EG.kruL xs = K at *
  generalize EG.kruC xs = C at *
  generalize EG.okP xs = G at *
  clear hb hX ho1 hR1
  go_wp2_with fail
  refine Calls.mono KS.out ?_
  rintro e w2 ⟨a2, c2, rfl, o2, b2⟩
  have b2s := b2.size
  have hc2 := hc1.below b2
  have ho2 : MC.Only w.heap.size w1 w2 := MC.Only.of_below b2
  have O2 : Hid (World.ownsRow w2 (w.heap.size + 1) 3 1 (.slice a2 K.length c2) K.length (M4.iv K)) := EDD.up o2 (by omega)
  clear KS hc1 o2 b2
  cases G with
  | false =>
    go_wp2_with fail
    refine (someOf_any w.heap.size a zs cap 180 xs.length _ hz (by omega) (by omega) (hc2.more (by omega))).mono ?_
    rintro e w4 ⟨a4, c4, os, rfl, hol, hO, hc4, ho4⟩
    have O4 : Hid (World.ownsRow w4 (w.heap.size + 1) 3 1 (.slice a4 os.length c4) os.length (M4.iv os)) := EDD.up hO (by omega)
    clear hO hc2 O2
    go_wp2_with fail
    refine (pick_any w.heap.size a zs cap 240 _ _ hz (by omega) (hc4.more (by omega))).mono ?_
    rintro e w5 ⟨r5, rfl, hr5, _, hc5, ho5⟩
    go_wp2_with fail
    refine (pick_any w.heap.size a zs cap 242 _ _ hz (by omega) hc5).mono ?_
    rintro e w6 ⟨r6, rfl, hr6, _, hc6, ho6⟩
    have hon := (ho2.trans ho4).trans (ho5.trans ho6)
    have hB := HB1.out.trans (hon.below (Nat.le_refl _) HW.out)
    have hR := EDD.row HX.out hon (by omega)
    have hI := M5.own_ints (MC.own_only O4.out (ho5.trans ho6) (by omega))
    clear HX HB1 hc5 hc6 ho5 ho6 hon
    go_wp2
    exact bodyPost_ret (v := .tuple #[.slice a1 xs.length c1, .slice a4 os.length c4, .int .i64 (r5 : Int), .int .i64 (r6 : Int)]) (by simp [results, Try.results16, go_sem]) rfl ⟨a1, c1, xs, _, _, os, _, _, rfl, hxl, by omega, hR, hI, hB⟩
  | true =>
    go_wp2_with fail
    refine (one_any w.heap.size a zs cap 180 _ _ hz (by omega) (hc2.more (by omega))).mono ?_
    rintro e w3 ⟨b, rfl, hc3, ho3⟩
    have b3s := ho3.size
    have ho23 := ho2.trans ho3
    clear hc2
    cases b with
    | false =>
      have O3 : Hid (World.ownsRow w3 (w.heap.size + 1) 3 1 (.slice a2 K.length c2) K.length (M4.iv K)) := MC.own_only O2.out ho3 (by omega)
      clear O2 ho3 ho2
      go_wp2_with fail
      refine (pick_any w.heap.size a zs cap 182 _ _ hz (by omega) (hc3)).mono ?_
      rintro e w5 ⟨r5, rfl, hr5, _, hc5, ho5⟩
      go_wp2_with fail
      refine (pick_any w.heap.size a zs cap 184 _ _ hz (by omega) hc5).mono ?_
      rintro e w6 ⟨r6, rfl, hr6, _, hc6, ho6⟩
      have hon := ho23.trans (ho5.trans ho6)
      have hB := HB1.out.trans (hon.below (Nat.le_refl _) HW.out)
      have hR := EDD.row HX.out hon (by omega)
      have hI := M5.own_ints (MC.own_only O3.out (ho5.trans ho6) (by omega))
      clear HX HB1 hc5 hc6 ho5 ho6 hon
      go_wp2
      exact bodyPost_ret (v := .tuple #[.slice a1 xs.length c1, .slice a2 K.length c2, .int .i64 (r5 : Int), .int .i64 (r6 : Int)]) (by simp [results, Try.results16, go_sem]) rfl ⟨a1, c1, xs, _, _, K, _, _, rfl, hxl, hkl, hR, hI, hB⟩
    | true =>
      go_wp2_with fail
      refine (someOf_any w.heap.size a zs cap 182 xs.length _ hz (by omega) (by omega) hc3).mono ?_
      rintro e w4 ⟨a4, c4, os, rfl, hol, hO, hc4, ho4⟩
      have O4 : Hid (World.ownsRow w4 (w.heap.size + 1) 3 1 (.slice a4 os.length c4) os.length (M4.iv os)) := EDD.up hO (by omega)
      clear hO hc3 O2 ho3
      go_wp2_with fail
      refine (pick_any w.heap.size a zs cap 240 _ _ hz (by omega) (hc4.more (by omega))).mono ?_
      rintro e w5 ⟨r5, rfl, hr5, _, hc5, ho5⟩
      go_wp2_with fail
      refine (pick_any w.heap.size a zs cap 242 _ _ hz (by omega) hc5).mono ?_
      rintro e w6 ⟨r6, rfl, hr6, _, hc6, ho6⟩
      have hon := (ho23.trans ho4).trans (ho5.trans ho6)
      have hB := HB1.out.trans (hon.below (Nat.le_refl _) HW.out)
      have hR := EDD.row HX.out hon (by omega)
      have hI := M5.own_ints (MC.own_only O4.out (ho5.trans ho6) (by omega))
      clear HX HB1 hc5 hc6 ho5 ho6 hon
      go_wp2
      exact bodyPost_ret (v := .tuple #[.slice a1 xs.length c1, .slice a4 os.length c4, .int .i64 (r5 : Int), .int .i64 (r6 : Int)]) (by simp [results, Try.results16, go_sem]) rfl ⟨a1, c1, xs, _, _, os, _, _, rfl, hxl, by omega, hR, hI, hB⟩
end Go.Proofs.Ytdglialjcibbbaa
