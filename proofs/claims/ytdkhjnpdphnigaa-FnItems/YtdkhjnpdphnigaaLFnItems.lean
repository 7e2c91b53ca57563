/- The law FnItems answers true, whatever bytes it draws from. -/
import Derived.Test.YtdkhjnpdphnigaaRows
import Derived.Test.YtdkhjnpdphnigaaCSameIt
import Derived.Test.YtdkhjnpdphnigaaCImplRead
import Derived.Test.YtdkhjnpdphnigaaCSpecRead
import Derived.Test.YtdkhjnpdphnigaaCImplItems
import Derived.Test.YtdkhjnpdphnigaaCImplBytes
import Derived.WalkKit
import Derived.WalkSpells
import Derived.WalkLawsBesides
import Derived.Outline
import Derived.Deep.DeepCutAuto
namespace Go.Proofs.Ytdkhjnpdphnigaa
open Go.RowKit
namespace IT
theorem good_wf {L : List It} (h : M12.good L = true) : M11.Wf L :=
  can_wf (M16.good_can h) (fun x hx => Nat.le_trans (can_text (M16.good_can h) (n := 400) (M16.good_one h).2 x hx) (by omega))
theorem read_wf (s : ByteArray) : M11.Wf (M16.read s).1 := by
  by_cases h : (M16.read s).2 = true
  · exact good_wf (M16.read_good h).1
  · have : (M16.read s).1 = [] := by
      by_cases h' : ∃ L, M12.good L = true ∧ M12.bytes L = M8.bl s
      · obtain ⟨L, h1, h2⟩ := h'
        have h4 : s.size ≤ 400 := by have := (M16.good_one h1).2; rw [h2, M8.bl_len] at this; exact this
        rw [M16.read_yes h1 h2 h4] at h
        exact absurd rfl h
      · rw [M16.read_no (fun L h1 h2 => h' ⟨L, h1, h2⟩)]
    rw [this]
    intro j hj
    simp at hj
theorem back {xs : List It} (h : M12.good xs = true) : M16.read (M12.strR xs) = (xs, true) := by
  have e : M12.strR xs = ⟨(M12.bytes xs).toArray⟩ := by simp [M12.strR, h]
  refine M16.read_yes h ?_ (ID.strR_size xs)
  rw [e]; rfl
theorem deep5 (xs : List It) : M12.deepR xs ≤ 5 := by
  unfold M12.deepR M12.deepL
  split
  · split
    · omega
    · rename_i h; exact M12.vl_dep 5 _ _ _ h
  · omega
theorem again {t : ByteArray} (h : (M16.read t).2 = true) : M12.good (M16.read t).1 = true ∧ M12.strR (M16.read t).1 = t := by
  obtain ⟨h1, h2⟩ := M16.read_good h
  refine ⟨h1, ?_⟩
  have e : M12.strR (M16.read t).1 = ⟨(M12.bytes (M16.read t).1).toArray⟩ := by simp [M12.strR, h1]
  rw [e, h2]
  simp [M8.bl]
theorem own_items {w : World} {base e c1 : Nat} {a1 : Option Addr} {xs : List It} (h : w.ownsRow base e 4 (.slice a1 xs.length c1) xs.length (M11.flat xs)) : M11.ItemsAt w a1 xs := by
  by_cases h0 : 0 < xs.length
  · exact ID.own_items h h0
  · exact .inl (List.eq_nil_of_length_eq_zero (by omega))
end IT
set_option linter.unusedSimpArgs false in
set_option maxHeartbeats 6400000 in
set_option maxRecDepth 100000 in
theorem lawFnItems_any (a a' : Option Addr) (zs ys : List Int) (ca cb : Nat) (w : World) (hz : zs.length ≤ 140737488355328) (hy : ys.length ≤ 140737488355328) (hbz : MC.BytesAt w w.heap.size a zs) (hby : MC.BytesAt w w.heap.size a' ys) :
    Calls Try.prog 3 #[.slice a zs.length ca, .slice a' ys.length cb] w fun e w' => e = .returned (.bool true) ∧ Below w.heap.size w w' := by
  by_cases h20 : zs.length + ys.length ≤ 1048576
  · have HBY : Hid (∀ W : World, Below w.heap.size w W → MC.BytesAt W W.heap.size a' ys) := fun W h => (hby.only (q := w.heap.size) (MC.Only.of_below h) (Nat.le_refl _) (Nat.le_refl _)).up h.size
    clear hby
    go_enter Try.func3, Try.ntmps3
    go_wp2_with fail
    refine (drawItemsBytes_any a zs ca _ hz hbz).mono ?_
    rintro e W1 ⟨l, cl, xs, rfl, hxl, hin, hsm, BW⟩
    clear hbz
    have hwf := hsm.wf
    have BI : Hid (∀ W : World, M11.ItemsAt W l xs → Calls Try.prog 6 #[.slice l xs.length cl] W fun e w' => e = .returned (.tuple #[.string (M12.strR xs), .bool (M12.good xs)]) ∧ Below W.heap.size W w') := fun W h => implItemsBytes_any l cl xs W (by omega) hwf h
    have BS : Hid (∀ W : World, M11.ItemsAt W l xs → Calls Try.prog 7 #[.slice l xs.length cl] W fun e w' => e = .returned (.tuple #[.string (M12.strR xs), .bool (M12.good xs)]) ∧ Below W.heap.size W w') := fun W h => specItemsBytes_any l cl xs W (by omega) hwf h
    have DI : Hid (∀ W : World, M11.ItemsAt W l xs → Calls Try.prog 8 #[.slice l xs.length cl] W fun e w' => e = .returned (.tuple #[.int .i64 (M12.deepR xs : Int), .bool (M12.good xs)]) ∧ Below W.heap.size W w') := fun W h => implDeepOf_any l cl xs W (by omega) hwf h
    have DS : Hid (∀ W : World, M11.ItemsAt W l xs → Calls Try.prog 9 #[.slice l xs.length cl] W fun e w' => e = .returned (.tuple #[.int .i64 (M12.deepR xs : Int), .bool (M12.good xs)]) ∧ Below W.heap.size W w') := fun W h => specDeepOf_any l cl xs W (by omega) hwf h
    have GI : Hid (∀ W : World, M11.ItemsAt W l xs → Calls Try.prog 10 #[.slice l xs.length cl] W fun e w' => e = .returned (.bool (M12.good xs)) ∧ Below W.heap.size W w') := fun W h => implGood_any l cl xs W (by omega) hwf h
    have RI : Hid (∀ (_ : M12.good xs = true) (W : World), Calls Try.prog 11 #[.string (M12.strR xs)] W fun e w' => ∃ b cb, e = .returned (.tuple #[.slice b xs.length cb, .bool true]) ∧ M11.ItemsAt w' b xs ∧ Below W.heap.size W w') := fun hg W => by
      have := implReadItems_any (M12.strR xs) W (by have := ID.strR_size xs; unfold maxLen; omega)
      rw [IT.back hg] at this
      refine this.mono ?_
      rintro e w' ⟨b, cb, rfl, ho, hb⟩
      exact ⟨b, cb, rfl, IT.own_items ho, hb⟩
    have SM : Hid (∀ (b : Option Addr) (cb : Nat) (W : World), M11.ItemsAt W b xs → M11.ItemsAt W l xs → Calls Try.prog 12 #[.slice b xs.length cb, .slice l xs.length cl] W fun e w' => e = .returned (.bool true) ∧ Below W.heap.size W w') := fun b cb W h1 h2 => sameItems_same b l cb cl xs W (by omega) h1 h2
    have h5 := IT.deep5 xs
    clear hwf hsm
    generalize M12.good xs = G at *
    generalize M12.strR xs = S at *
    generalize M12.deepR xs = D at *
    go_wp2_with fail
    refine (BI.out _ hin).mono ?_
    rintro e W2 ⟨rfl, hb⟩
    replace hin := hin.below hb
    replace BW := BW.trans (hb.mono BW.size)
    clear hb
    go_wp2_with fail
    refine (BS.out _ hin).mono ?_
    rintro e W3 ⟨rfl, hb⟩
    replace hin := hin.below hb
    replace BW := BW.trans (hb.mono BW.size)
    clear hb
    go_wp2_with fail
    refine (DI.out _ hin).mono ?_
    rintro e W4 ⟨rfl, hb⟩
    replace hin := hin.below hb
    replace BW := BW.trans (hb.mono BW.size)
    clear hb
    go_wp2_with fail
    refine (DS.out _ hin).mono ?_
    rintro e W5 ⟨rfl, hb⟩
    replace hin := hin.below hb
    replace BW := BW.trans (hb.mono BW.size)
    clear hb BI BS DI DS
    have hGG : (G != G) = false := by simp
    have hSS : (S.toList != S.toList) = false := by simp
    have hDD : ((D : Int) != (D : Int)) = false := by simp
    go_wp2_with fail
    refine (GI.out _ hin).mono ?_
    rintro e W6 ⟨rfl, hb⟩
    replace hin := hin.below hb
    replace BW := BW.trans (hb.mono BW.size)
    clear hb GI
    go_upto_if 75 with fail
    go_cut [14, 15] (fun _ _ wx => Below w.heap.size w wx)
    case first =>
      clear HBY
      cases G
      · clear RI SM hin
        go_wp2_with fail
        go_meet
        exact BW
      · replace RI : Hid _ := RI.out rfl
        have h5' : (D : Int) ≤ 5 := by omega
        go_wp2_with fail
        refine (RI.out _).mono ?_
        rintro e W7 ⟨b, cb', rfl, hib, hb⟩
        replace hin := hin.below hb
        replace BW := BW.trans (hb.mono BW.size)
        clear hb RI
        go_wp2_with fail
        refine (SM.out b cb' _ hib hin).mono ?_
        rintro e W8 ⟨rfl, hb⟩
        replace BW := BW.trans (hb.mono BW.size)
        clear hb SM hin hib
        go_wp2_with fail
        go_meet
        exact BW
    case rest =>
    clear BW RI SM hin hGG hSS hDD
    have BW := hcut
    clear hcut
    go_wp2_with fail
    refine (drawReadItems_any a' ys cb _ hy (HBY.out _ BW)).mono ?_
    rintro e V1 ⟨t, rfl, ht, hb⟩
    replace BW := BW.trans (hb.mono BW.size)
    clear hb HBY
    have RT : Hid (∀ W : World, Calls Try.prog 11 #[.string t] W fun e w' => ∃ b cb, e = .returned (.tuple #[.slice b (M16.read t).1.length cb, .bool (M16.read t).2]) ∧ M11.ItemsAt w' b (M16.read t).1 ∧ Below W.heap.size W w') := fun W => by
      refine (implReadItems_any t W (by unfold maxLen; omega)).mono ?_
      rintro e w' ⟨b, cb, rfl, ho, hb⟩
      exact ⟨b, cb, rfl, IT.own_items ho, hb⟩
    have ST : Hid (∀ W : World, Calls Try.prog 14 #[.string t] W fun e w' => ∃ b cb, e = .returned (.tuple #[.slice b (M16.read t).1.length cb, .bool (M16.read t).2]) ∧ M11.ItemsAt w' b (M16.read t).1 ∧ Below W.heap.size W w') := fun W => by
      refine (specReadItems_any t W (by unfold maxLen; omega)).mono ?_
      rintro e w' ⟨b, cb, rfl, ho, hb⟩
      exact ⟨b, cb, rfl, IT.own_items ho, hb⟩
    have hAg : Hid ((M16.read t).2 = true → M12.good (M16.read t).1 = true ∧ M12.strR (M16.read t).1 = t) := IT.again
    have hwf := IT.read_wf t
    have h40 := M16.read_len t
    generalize (M16.read t).2 = R at *
    generalize (M16.read t).1 = X at *
    have BX : Hid (∀ (b : Option Addr) (cb : Nat) (W : World), M11.ItemsAt W b X → Calls Try.prog 6 #[.slice b X.length cb] W fun e w' => e = .returned (.tuple #[.string (M12.strR X), .bool (M12.good X)]) ∧ Below W.heap.size W w') := fun b cb W h => implItemsBytes_any b cb X W (by omega) hwf h
    have SX : Hid (∀ (b c : Option Addr) (cb cc : Nat) (W : World), M11.ItemsAt W b X → M11.ItemsAt W c X → Calls Try.prog 12 #[.slice b X.length cb, .slice c X.length cc] W fun e w' => e = .returned (.bool true) ∧ Below W.heap.size W w') := fun b c cb cc W h1 h2 => sameItems_same b c cb cc X W (by omega) h1 h2
    clear hwf h40
    generalize M12.good X = G2 at *
    generalize M12.strR X = S2 at *
    go_wp2_with fail
    refine (RT.out _).mono ?_
    rintro e V2 ⟨b1, c1, rfl, hi1, hb⟩
    replace BW := BW.trans (hb.mono BW.size)
    clear hb
    go_wp2_with fail
    refine (ST.out _).mono ?_
    rintro e V3 ⟨b2, c2, rfl, hi2, hb⟩
    replace BW := BW.trans (hb.mono BW.size)
    replace hi1 := hi1.below hb
    clear hb RT ST
    have hRR : (R != R) = false := by simp
    go_wp2_with fail
    refine (SX.out b1 b2 c1 c2 _ hi1 hi2).mono ?_
    rintro e V4 ⟨rfl, hb⟩
    replace BW := BW.trans (hb.mono BW.size)
    replace hi1 := hi1.below hb
    clear hb SX hi2 hRR
    go_wp2_with fail
    refine (BX.out b1 c1 _ hi1).mono ?_
    rintro e V5 ⟨rfl, hb⟩
    replace BW := BW.trans (hb.mono BW.size)
    clear hb BX hi1
    cases R
    · go_wp2
      go_ret
      exact ⟨rfl, BW⟩
    · obtain ⟨rfl, rfl⟩ := hAg.out rfl
      have hself : (S2.toList == S2.toList) = true := by simp
      clear hAg
      go_wp2
      go_ret
      exact ⟨rfl, BW⟩
  · have h20' : (1048576 : Int) < (zs.length : Int) + (ys.length : Int) := by omega
    go_enter Try.func3, Try.ntmps3
    go_wp2
    go_ret
    exact ⟨rfl, Below.refl _ _⟩
end Go.Proofs.Ytdkhjnpdphnigaa
