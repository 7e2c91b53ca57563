/- The cursor's value, and the draws of items, bytes and heads. -/
import Derived.Test.YtdkhjnpdphnigaaRows
import Derived.Test.YtdkhjnpdphnigaaCItemsD
import Derived.Test.YtdkhjnpdphnigaaMCurNew
import Derived.WalkKit
import Derived.WalkSpells
import Derived.WalkLawsBesides
import Derived.Outline
import Derived.Deep.DeepCutAuto
namespace Go.Proofs.Ytdkhjnpdphnigaa
open Go.RowKit
namespace ID
theorem own_some {w : World} {base e sz n : Nat} {v : Value} {xs : List Value} (h : w.ownsRow base e sz v n xs) (hn : 0 < n) : ∃ g cap, v = .slice (some ⟨g, 0, none⟩) n cap := by
  rcases h.2 with ⟨-, h0⟩ | ⟨g, cap, cur, rfl, -⟩
  · omega
  · exact ⟨g, cap, rfl⟩
/-- One field of one item is another. -/
theorem set_kind (xs : List It) (k : Nat) (z : Int) (h : k < xs.length) : ∃ ys : List It, ys.length = xs.length ∧ (Sm xs → Sm ys) ∧ (M11.flat xs).set (k * 4) (.int .i64 z) = M11.flat ys := by
  refine ⟨xs.take k ++ { xs[k] with kind := z } :: xs.drop (k + 1), by simp; omega, fun hs y hy => ?_, ?_⟩
  · rcases List.mem_append.1 hy with h1 | h1
    · exact hs y (List.mem_of_mem_take h1)
    · rcases List.mem_cons.1 h1 with rfl | h2
      · exact hs xs[k] (List.getElem_mem h)
      · exact hs y (List.mem_of_mem_drop h2)
  · conv => lhs; rw [show xs = xs.take k ++ xs[k] :: xs.drop (k + 1) from by rw [List.getElem_cons_drop, List.take_append_drop]]
    rw [M11.flat_app, M11.flat_app, List.set_append_right _ _ (by rw [M11.flat_len]; simp; omega), M11.flat_len]
    rw [show k * 4 - (xs.take k).length * 4 = 0 from by simp; omega]
    rfl
theorem set_num (xs : List It) (k : Nat) (z : Int) (h : k < xs.length) : ∃ ys : List It, ys.length = xs.length ∧ (Sm xs → Sm ys) ∧ (M11.flat xs).set (k * 4 + 1) (.int .i64 z) = M11.flat ys := by
  refine ⟨xs.take k ++ { xs[k] with num := z } :: xs.drop (k + 1), by simp; omega, fun hs y hy => ?_, ?_⟩
  · rcases List.mem_append.1 hy with h1 | h1
    · exact hs y (List.mem_of_mem_take h1)
    · rcases List.mem_cons.1 h1 with rfl | h2
      · exact hs xs[k] (List.getElem_mem h)
      · exact hs y (List.mem_of_mem_drop h2)
  · conv => lhs; rw [show xs = xs.take k ++ xs[k] :: xs.drop (k + 1) from by rw [List.getElem_cons_drop, List.take_append_drop]]
    rw [M11.flat_app, M11.flat_app, List.set_append_right _ _ (by rw [M11.flat_len]; simp; omega), M11.flat_len]
    rw [show k * 4 + 1 - (xs.take k).length * 4 = 1 from by simp; omega]
    rfl
theorem set_many (xs : List It) (k : Nat) (z : Int) (h : k < xs.length) (hz : z ≤ 1000000001) : ∃ ys : List It, ys.length = xs.length ∧ (Sm xs → Sm ys) ∧ (M11.flat xs).set (k * 4 + 3) (.int .i64 z) = M11.flat ys := by
  refine ⟨xs.take k ++ { xs[k] with many := z } :: xs.drop (k + 1), by simp; omega, fun hs y hy => ?_, ?_⟩
  · rcases List.mem_append.1 hy with h1 | h1
    · exact hs y (List.mem_of_mem_take h1)
    · rcases List.mem_cons.1 h1 with rfl | h2
      · exact ⟨(hs xs[k] (List.getElem_mem h)).1, hz⟩
      · exact hs y (List.mem_of_mem_drop h2)
  · conv => lhs; rw [show xs = xs.take k ++ xs[k] :: xs.drop (k + 1) from by rw [List.getElem_cons_drop, List.take_append_drop]]
    rw [M11.flat_app, M11.flat_app, List.set_append_right _ _ (by rw [M11.flat_len]; simp; omega), M11.flat_len]
    rw [show k * 4 + 3 - (xs.take k).length * 4 = 3 from by simp; omega]
    rfl
theorem take_one {xs : List It} (h : 0 < xs.length) : ∃ x, xs.take 1 = [x] ∧ (Sm xs → Sm [x]) := by
  cases xs with
  | nil => simp at h
  | cons x xs => exact ⟨x, rfl, fun hs y hy => by rw [List.mem_singleton.1 hy]; exact hs x (List.mem_cons_self)⟩
theorem own_cut {w : World} {base e sz g n cap k : Nat} {xs : List Value} (h : w.ownsRow base e sz (.slice (some ⟨g, 0, none⟩) n cap) n xs) (hk : k ≤ n) : w.ownsRow base e sz (.slice (some ⟨g, 0, none⟩) k cap) k (xs.take (k * sz)) := by
  have hl := h.1
  rcases h.2 with ⟨h0, -⟩ | ⟨g', cap', cur, h1, h2, h3, h4, h5, h6, h7⟩
  · cases h0
  · simp only [Value.slice.injEq, Option.some.injEq, Addr.mk.injEq] at h1
    obtain ⟨⟨rfl, -⟩, -, rfl⟩ := h1
    have hm : k * sz ≤ n * sz := Nat.mul_le_mul_right _ hk
    refine ⟨by simp; omega, .inr ⟨g, cap, cur, rfl, h2, h3, by omega, h5, h6, ?_⟩⟩
    rw [← h7, List.take_take, Nat.min_eq_left hm]
theorem own_cap {w : World} {base e sz g n cap : Nat} {xs : List Value} (h : w.ownsRow base e sz (.slice (some ⟨g, 0, none⟩) n cap) n xs) : n ≤ cap := by
  rcases h.2 with ⟨h0, -⟩ | ⟨g', cap', cur, h1, h2, h3, h4, -⟩
  · cases h0
  · simp only [Value.slice.injEq] at h1
    omega
theorem flat_take1 (xs : List It) (x : It) (h : xs.take 1 = [x]) : (M11.flat xs).take (1 * 4) = M11.flat [x] := by
  cases xs with
  | nil => simp at h
  | cons y ys =>
    simp only [List.take_succ_cons, List.take_zero, List.cons.injEq, and_true] at h
    subst h
    rfl
end ID
set_option maxHeartbeats 6400000 in
set_option maxRecDepth 100000 in
theorem value_any (p : Nat) (a : Option Addr) (zs : List Int) (cap M : Nat) (w : World) (hz : zs.length ≤ 140737488355328) (hM : M ≤ 140737488300000) (hc : MC.Cur w p a zs cap M) :
    Calls Try.prog 32 #[.pointer (some ⟨p, 0, none⟩)] w fun e w' => ∃ a1 c1 xs, e = .returned (.slice a1 (List.length xs) c1) ∧ 0 < xs.length ∧ xs.length ≤ 1100 ∧ w'.ownsRow w.heap.size 43 4 (.slice a1 xs.length c1) xs.length (M11.flat xs) ∧ ID.Sm xs ∧ MC.Cur w' p a zs cap (M + 12000) ∧ MC.Only p w w' := by
  have hpl := hc.lt
  have hsz : ID.sz 6 = 1093 := rfl
  go_enter Try.func32, Try.ntmps32
  go_wp2_with fail
  refine (pick_any p a zs cap M _ _ hz (by omega) hc).mono ?_
  rintro e w1 ⟨r, rfl, hr, hx, hc1, ho1⟩
  go_wp2_with fail
  refine (items_any p a zs cap w hz hpl 6 r (M + 2) (.slice none 0 0) [] w1 (by omega) (by omega) (by rw [hsz]; omega) (by rw [hsz]; simp) hc1 (World.ownsRow_nil _ _ _ _) ID.Sm.nil ho1).mono ?_
  rintro e w2 ⟨v, xs, rfl, hown, hx0, hx1, hsm, hc2, hor⟩
  rw [hsz] at hx1 hc2
  simp only [List.length_nil, Nat.zero_add] at hx0 hx1
  obtain ⟨g, cp, rfl⟩ := ID.own_some hown hx0
  replace hc2 := hc2.more (M' := M + 10990) (by omega)
  clear hc hc1 ho1 hsz
  have hc := hc2
  clear hc2
  obtain ⟨n, hn⟩ : ∃ n, xs.length = n := ⟨_, rfl⟩
  rw [hn]
  go_upto_region 2 with fail
  go_cut [16] (fun s wx => ∃ b : Bool, s = .bool b ∧ wx.ownsRow w.heap.size 43 4 (.slice (some ⟨g, 0, none⟩) n cp) n (M11.flat xs) ∧ MC.Cur wx p a zs cap (M + 10992) ∧ MC.Only p w wx)
  case first =>
    rw [hn] at hown
    by_cases h40 : (40 : Int) < (n : Int)
    · go_wp2_with fail
      refine (one_any p a zs cap (M + 10990) _ _ hz (by omega) hc).mono ?_
      rintro e w3 ⟨b, rfl, hc3, ho3⟩
      replace hown := MC.own_only hown ho3 hpl
      replace hor := hor.trans ho3
      clear hc ho3
      have hc := hc3
      clear hc3
      go_wp2_with fail
      go_meet
      exact ⟨_, rfl, hown, hc, hor⟩
    · go_wp2_with fail
      go_meet
      exact ⟨_, rfl, hown, hc.more (by omega), hor⟩
  case rest =>
  clear hown hc hor
  obtain ⟨b, rfl, hown, hc, hor⟩ := hcut
  go_upto_if 16 with fail
  go_cut [3] (fun s3 wx => ∃ (g n cp : Nat) (xs : List It), s3 = .slice (some ⟨g, 0, none⟩) n cp ∧ n = xs.length ∧ 0 < xs.length ∧ xs.length ≤ 1100 ∧ wx.ownsRow w.heap.size 43 4 (.slice (some ⟨g, 0, none⟩) n cp) xs.length (M11.flat xs) ∧ ID.Sm xs ∧ MC.Cur wx p a zs cap (M + 11000) ∧ MC.Only p w wx)
  case first =>
    cases b
    · go_wp2_with fail
      go_meet
      exact ⟨g, n, cp, xs, rfl, hn.symm, by omega, by omega, by rw [hn]; exact hown, hsm, hc.more (by omega), hor⟩
    · obtain ⟨x, hx1', hxs⟩ := ID.take_one (xs := xs) (by omega)
      have hcut1 := ID.own_cut hown (k := 1) (by omega)
      rw [ID.flat_take1 xs x hx1'] at hcut1
      have hn1 : (1 : Int) ≤ (n : Int) := by omega
      have hcp : (1 : Int) ≤ (cp : Int) := by have := ID.own_cap hown; omega
      obtain ⟨us, hul, hus, hue⟩ := ID.set_many [x] 0 0 (by simp) (by omega)
      obtain ⟨y, hyc⟩ : ∃ y, wc.cell? ⟨g, 3, none⟩ = some y := M11.some_at hcut1 _ (by omega)
      have hfz := hcut1.frozenAt 3
      have hgl := (hcut1.lt g rfl).2
      have hge := (hcut1.lt g rfl).1
      have st := hcut1.stored 3 (.int .i64 0)
      have R1 := st.1
      rw [show (3 : Nat) = 0 * 4 + 3 from rfl, hue] at R1
      have R2 := hc.grown st.2 (fun j hj => by simp at hj; omega)
      have R3 := hor.grown st.2 (fun j hj => by simp at hj; omega)
      have HR1 : Hid _ := R1
      have HR2 : Hid _ := R2
      have HR3 : Hid _ := R3
      have hsm1 := hus (hxs hsm)
      clear st hown hc hor hue hus R1 R2 R3 hcut1 hsm hxs
      go_wp2_with fail
      go_meet
      exact ⟨g, 1, cp, us, rfl, by simp [hul], by simp [hul], by simp [hul], by rw [hul]; exact HR1.out, hsm1, HR2.out.more (by omega), HR3.out⟩
  case rest =>
  clear hown hc hor hsm hx0 hx1 hn
  obtain ⟨g, n, cp, xs, rfl, hn, hx0, hx1, hown, hsm, hc, hor⟩ := hcut
  subst hn
  have hge := (hown.lt g rfl).1
  go_wp2_with fail
  refine (one_any p a zs cap (M + 11000) _ _ hz (by omega) hc).mono ?_
  rintro e w3 ⟨b, rfl, hc3, ho3⟩
  replace hown := MC.own_only hown ho3 hpl
  replace hor := hor.trans ho3
  clear hc ho3
  have hc := hc3
  clear hc3
  cases b
  · go_wp2
    go_ret
    exact ⟨some ⟨g, 0, none⟩, cp, xs, rfl, hx0, hx1, hown, hsm, hc.more (by omega), hor⟩
  · go_wp2_with fail
    refine (pick_any p a zs cap (M + 11002) _ _ hz (by omega) hc).mono ?_
    rintro e w4 ⟨k, rfl, hk, hkx, hc4, ho4⟩
    replace hown := MC.own_only hown ho4 hpl
    replace hor := hor.trans ho4
    clear hc ho4
    have hc := hc4
    clear hc4
    have hkn : k < xs.length := by omega
    have hki : (k : Int) < (xs.length : Int) := by omega
    go_wp2_with fail
    refine (pick_any p a zs cap (M + 11004) _ _ hz (by omega) hc).mono ?_
    rintro e w5 ⟨sw, rfl, hs, hsx, hc5, ho5⟩
    replace hown := MC.own_only hown ho5 hpl
    replace hor := hor.trans ho5
    clear hc ho5
    have hc := hc5
    clear hc5
    by_cases s0 : sw = 0
    · subst s0
      go_wp2_with fail
      refine (pick_any p a zs cap (M + 11006) _ _ hz (by omega) hc).mono ?_
      rintro e w6 ⟨z, rfl, hz3, hzx, hc6, ho6⟩
      replace hown := MC.own_only hown ho6 hpl
      replace hor := hor.trans ho6
      clear hc ho6
      have hc := hc6
      clear hc6
      obtain ⟨us, hul, hus, hue⟩ := ID.set_many xs k z hkn (by omega)
      obtain ⟨y, hyc⟩ : ∃ y, w6.cell? ⟨g, k * 4 + 3, none⟩ = some y := M11.some_at hown _ (by omega)
      have hfz := hown.frozenAt (k * 4 + 3)
      have hgl := (hown.lt g rfl).2
      have hge := (hown.lt g rfl).1
      have st := hown.stored (k * 4 + 3) (.int .i64 ((z : Int)))
      have R1 := st.1
      rw [hue] at R1
      have R2 := hc.grown st.2 (fun j hj => by simp at hj; omega)
      have R3 := hor.grown st.2 (fun j hj => by simp at hj; omega)
      have HR1 : Hid _ := R1
      have HR2 : Hid _ := R2
      have HR3 : Hid _ := R3
      replace hsm := hus hsm
      clear st hown hc hor hue hus R1 R2 R3
      go_wp2
      go_ret
      exact ⟨some ⟨g, 0, none⟩, cp, us, by rw [hul]; rfl, by omega, by omega, by rw [hul]; exact HR1.out, hsm, HR2.out.more (by omega), HR3.out⟩
    · by_cases s1 : sw = 1
      · subst s1
        have hsw := hor.size
        replace hc := hc.alloc (.cells #[.int .i64 (-1), .int .i64 1, .int .i64 1000000001] 3)
        replace hown := hown.alloc (.cells #[.int .i64 (-1), .int .i64 1, .int .i64 1000000001] 3)
        replace hor := hor.alloc (.cells #[.int .i64 (-1), .int .i64 1, .int .i64 1000000001] 3)
        go_wp2_with fail
        refine (among_any p a zs cap (M + 11006) (some ⟨w5.heap.size, 0, none⟩) [-1, 1, 1000000001] 3 _ hz (by omega) hc (by simp) (by simp) (ID.new_ints w5 [-1, 1, 1000000001] 3) (fun b off e => by simp at e; omega)).mono ?_
        rintro e w6 ⟨z, rfl, hzm, hc6, ho6⟩
        replace hown := MC.own_only hown ho6 hpl
        replace hor := hor.trans ho6
        clear hc ho6
        have hc := hc6
        clear hc6
        obtain ⟨us, hul, hus, hue⟩ := ID.set_num xs k z hkn
        obtain ⟨y, hyc⟩ : ∃ y, w6.cell? ⟨g, k * 4 + 1, none⟩ = some y := M11.some_at hown _ (by omega)
        have hfz := hown.frozenAt (k * 4 + 1)
        have hgl := (hown.lt g rfl).2
        have hge := (hown.lt g rfl).1
        have st := hown.stored (k * 4 + 1) (.int .i64 (z))
        have R1 := st.1
        rw [hue] at R1
        have R2 := hc.grown st.2 (fun j hj => by simp at hj; omega)
        have R3 := hor.grown st.2 (fun j hj => by simp at hj; omega)
        have HR1 : Hid _ := R1
        have HR2 : Hid _ := R2
        have HR3 : Hid _ := R3
        replace hsm := hus hsm
        clear st hown hc hor hue hus R1 R2 R3
        go_wp2
        go_ret
        exact ⟨some ⟨g, 0, none⟩, cp, us, by rw [hul]; rfl, by omega, by omega, by rw [hul]; exact HR1.out, hsm, HR2.out.more (by omega), HR3.out⟩
      · have e0 : ((sw : Int) == 0) = false := by simp; omega
        have e1 : ((sw : Int) == 1) = false := by simp; omega
        go_wp2_with fail
        refine (pick_any p a zs cap (M + 11006) _ _ hz (by omega) hc).mono ?_
        rintro e w6 ⟨z, rfl, hz3, hzx, hc6, ho6⟩
        replace hown := MC.own_only hown ho6 hpl
        replace hor := hor.trans ho6
        clear hc ho6
        have hc := hc6
        clear hc6
        obtain ⟨us, hul, hus, hue⟩ := ID.set_kind xs k z hkn
        obtain ⟨y, hyc⟩ : ∃ y, w6.cell? ⟨g, k * 4, none⟩ = some y := M11.some_at hown _ (by omega)
        have hfz := hown.frozenAt (k * 4)
        have hgl := (hown.lt g rfl).2
        have hge := (hown.lt g rfl).1
        have st := hown.stored (k * 4) (.int .i64 ((z : Int)))
        have R1 := st.1
        rw [hue] at R1
        have R2 := hc.grown st.2 (fun j hj => by simp at hj; omega)
        have R3 := hor.grown st.2 (fun j hj => by simp at hj; omega)
        have HR1 : Hid _ := R1
        have HR2 : Hid _ := R2
        have HR3 : Hid _ := R3
        replace hsm := hus hsm
        clear st hown hc hor hue hus R1 R2 R3
        go_wp2
        go_ret
        exact ⟨some ⟨g, 0, none⟩, cp, us, by rw [hul]; rfl, by omega, by omega, by rw [hul]; exact HR1.out, hsm, HR2.out.more (by omega), HR3.out⟩
end Go.Proofs.Ytdkhjnpdphnigaa
