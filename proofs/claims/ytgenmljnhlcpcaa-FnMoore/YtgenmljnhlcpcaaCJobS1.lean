/- l12All, l12By of the specification: the numbers below one, and jobs laid one by one to their place by due time. -/
import Derived.Test.YtgenmljnhlcpcaaRows
import Derived.Test.YtgenmljnhlcpcaaMJT
import Derived.Test.YtgenmljnhlcpcaaCPut
namespace Go.Proofs.Ytgenmljnhlcpcaa
open Go.RowKit
set_option linter.unusedSimpArgs false in
set_option maxHeartbeats 800000 in
set_option maxRecDepth 100000 in
theorem l12All_any (n : Nat) (w : World) (hn : n ≤ 1000) :
    Calls Try.prog 29 #[.int .i64 (n : Int)] w fun e w' => ∃ a c1, e = .returned (.slice a n c1) ∧ w'.ownsRow w.heap.size 3 1 (.slice a n c1) n (M4.iv (JD.nums n)) ∧ Below w.heap.size w w' := by
  obtain ⟨i0, hi, hz0, hz1, hz2⟩ := info_parts Try.info3
  go_enter Try.func29, Try.ntmps29
  go_wp2
  go_loopw [3, 4] (fun v iv wr => ∃ (k : Nat) (a : Option Addr) (c : Nat), iv = .int .i64 k ∧ k ≤ n ∧ v = .slice a k c ∧ Hid (World.ownsRow wr w.heap.size 3 1 (.slice a k c) k (M4.iv (JD.nums k))) ∧ Below w.heap.size w wr) (fun _ iv _ => (n - intOf iv).toNat)
  case atStart => exact ⟨0, none, 0, rfl, by omega, rfl, (show Hid _ from World.ownsRow_nil _ _ _ _), Below.refl _ _⟩
  case round =>
    obtain ⟨k, a, c, rfl, hk, rfl, HO, hb⟩ := hrel
    have hbs := hb.size
    by_cases hlk : k < n
    · have kn : (k : Int) < (n : Int) := by omega
      go_wp2_with (at_builtin; go_loud (refine wpList_append_own _ rfl _ _ 24 rfl w.heap.size 3 i0 (.int .i64 0) 1 8 Try.underlying24 hi hz0 hz1 hz2 rfl (by decide) _ _ _ rfl (World.ownsRow.alloc HO.out _) ⟨wr.heap.size, 0, none⟩ 1 1 [.int .i64 ((k : Int))] rfl rfl ?h1_1 ?h1_2 ?h1_3 ?h1_4 ?h1_5 ?_))
      all_goals try (first | rfl | omega | exact M2.new1 _ _ _ | exact M2.one1 _ _ | (unfold maxLen; omega) | (simp; omega))
      intro v' wn hown1 hgrow _
      have R1 : wn.ownsRow w.heap.size 3 1 v' (k + 1) (M4.iv (JD.nums (k + 1))) := by
        rw [JD.nums_succ]; simpa [M4.iv] using hown1
      have R3 := (hb.alloc hbs _).grown hgrow (by simp; omega) (fun j hj => (HO.out.lt j hj).1)
      obtain ⟨a', c', rfl⟩ : ∃ a' c', v' = .slice a' (k + 1) c' := JD.own_slice R1
      have HR1 : Hid _ := R1
      clear hown1 hgrow HO R1
      go_wp2
      go_roundw
      case rel => exact ⟨k + 1, a', c', by go_num, by omega, rfl, HR1, R3⟩
      case measure => simp [intOf]; omega
    · obtain rfl : k = n := by omega
      go_wp2
      go_ret
      exact ⟨a, c, rfl, HO.out, hb⟩
set_option linter.unusedSimpArgs false in
set_option maxHeartbeats 3200000 in
set_option maxRecDepth 100000 in
theorem l12By_any (a b : Option Addr) (ca cb : Nat) (xs : List I2) (zs : List Int) (w : World) (hg : JD.okP xs = true) (hin : MI2.RowAt w a xs) (hzl : zs.length ≤ 10) (hzi : M4.IntsAt w b zs) (hzr : ∀ z, z ∈ zs → 0 ≤ z ∧ z < xs.length) :
    Calls Try.prog 28 #[.slice a xs.length ca, .slice b zs.length cb] w fun e w' => ∃ a1 c1, e = .returned (.slice a1 zs.length c1) ∧ w'.ownsRow w.heap.size 3 1 (.slice a1 zs.length c1) zs.length (M4.iv (JD.srt (JD.dueN xs) zs 1001)) ∧ Below w.heap.size w w' := by
  obtain ⟨i0, hi, hz0, hz1, hz2⟩ := info_parts Try.info3
  have hlen := ((JD.okP_iff xs).1 hg).1
  have HXI : Hid (MI2.RowAt w a xs) := hin
  have HZI : Hid (M4.IntsAt w b zs) := hzi
  have HZR : Hid (∀ z, z ∈ zs → 0 ≤ z ∧ z < xs.length) := hzr
  have HG : Hid _ := hg
  clear hin hzi hzr hg
  go_enter Try.func28, Try.ntmps28
  go_wp2
  go_loopw [5, 7, 8, 9, 12] (fun v _ _ _ iv wr => ∃ (k : Nat) (oa : Option Addr) (oc : Nat), iv = .int .i64 k ∧ k ≤ zs.length ∧ v = .slice oa k oc ∧ Hid (World.ownsRow wr w.heap.size 3 1 (.slice oa k oc) k (M4.iv (JD.srt (JD.dueN xs) (zs.take k) 1001))) ∧ Below w.heap.size w wr) (fun _ _ _ _ iv _ => (zs.length - intOf iv).toNat)
  case atStart => exact ⟨0, none, 0, rfl, by omega, rfl, (show Hid _ from by show World.ownsRow _ _ _ _ _ _ _; rw [List.take_zero, JD.srt_nil]; exact World.ownsRow_nil _ _ _ _), Below.refl _ _⟩
  case round =>
    obtain ⟨k, oa, oc, rfl, hk, rfl, HO, hb⟩ := hrel
    have hbs := hb.size
    by_cases hlk : k < zs.length
    · obtain ⟨b6, off6, rfl, hlt6, hc6⟩ := (HZI.out.below hb).at hlk
      obtain ⟨z, hz, hzx⟩ : ∃ z : Nat, zs.getD k 0 = (z : Int) ∧ z < xs.length := JD.nat_at HZR.out hlk
      rw [hz] at hc6
      have HZ : Hid (zs.getD k 0 = (z : Int)) := hz
      clear hz
      have HTK : Hid (zs.take (k + 1) = zs.take k ++ [(z : Int)]) := by show _ = _; rw [M4.take_snoc _ _ hlk, HZ.out]
      have HNS : Hid (∀ i, i ≤ k → (∀ j, j < i → JD.dueN xs ((JD.srt (JD.dueN xs) (zs.take k) 1001).getD j 0) ≤ JD.dueN xs z) → (i < k → ¬ JD.dueN xs ((JD.srt (JD.dueN xs) (zs.take k) 1001).getD i 0) ≤ JD.dueN xs z) → JD.srt (JD.dueN xs) (zs.take (k + 1)) 1001 = (JD.srt (JD.dueN xs) (zs.take k) 1001).take i ++ (z : Int) :: (JD.srt (JD.dueN xs) (zs.take k) 1001).drop i) := fun i hi h1 h2 => by
        have hl := JD.srtk_len HG.out HZR.out (Nat.le_of_lt hlk)
        rw [HTK.out]
        exact JD.srt_put _ _ _ (JD.due_lt HG.out (by omega) (by omega)) i (by omega) h1 (fun h => h2 (by omega))
      have HOL : Hid ((JD.srt (JD.dueN xs) (zs.take k) 1001).length = k) := JD.srtk_len HG.out HZR.out (Nat.le_of_lt hlk)
      have HOM : Hid (∀ j, j < k → ∃ p : Nat, (JD.srt (JD.dueN xs) (zs.take k) 1001).getD j 0 = (p : Int) ∧ p < xs.length) := fun j hj => JD.srtk_at HG.out HZR.out (Nat.le_of_lt hlk) hj
      generalize hos : JD.srt (JD.dueN xs) (zs.take k) 1001 = os at *
      clear hos
      go_wp2
      go_loopw [8] (fun iv2 wx => ∃ i : Nat, iv2 = .int .i64 i ∧ i ≤ k ∧ Hid (∀ j, j < i → JD.dueN xs (os.getD j 0) ≤ JD.dueN xs z) ∧ Hid (World.ownsRow wx w.heap.size 3 1 (.slice oa k oc) k (M4.iv os)) ∧ Below w.heap.size w wx) (fun iv2 _ => (k - intOf iv2).toNat)
      case atStart => exact ⟨0, rfl, by omega, (show Hid _ from fun j hj => by omega), HO, hb⟩
      case round =>
        clear HO hb hbs hc6 hlt6
        obtain ⟨wx, hwx⟩ : ∃ wx, wx = wr := ⟨_, rfl⟩
        subst hwx
        obtain ⟨i, rfl, hik, HT, HO, hb⟩ := hrel
        have hbs := hb.size
        by_cases hii : i < k ∧ JD.dueN xs (os.getD i 0) ≤ JD.dueN xs z
        · obtain ⟨hil, hdu⟩ := hii
          have HT2 : Hid (∀ j, j < i + 1 → JD.dueN xs (os.getD j 0) ≤ JD.dueN xs z) := fun j hj => by
            by_cases e : j = i
            · subst e; exact hdu
            · exact HT.out j (by omega)
          obtain ⟨p, hp, hpx⟩ := HOM.out i hil
          obtain ⟨og, rfl⟩ := JD.own_some HO.out (by omega)
          obtain ⟨b7, off7, hb7, hlt7, hc7⟩ := (M4.IntsAt.of_own HO.out).at (k := i) (by rw [HOL.out]; exact hil)
          cases hb7
          rw [hp] at hc7
          obtain ⟨b8, off8, rfl, hlt8, -, hc8⟩ := (HXI.out.below hb).at hpx
          obtain ⟨b9, off9, hb9, hlt9, -, hc9⟩ := (HXI.out.below hb).at hzx
          cases hb9
          have e8 := JD.due_is HG.out (z := (p : Int)) (by omega) (by omega)
          have e9 := JD.due_is HG.out (z := (z : Int)) (by omega) (by omega)
          rw [Int.toNat_natCast] at e8 e9
          rw [e8] at hc8
          rw [e9] at hc9
          rw [hp] at hdu
          clear e8 e9 hp HOM HT HNS HTK HZ HOL
          generalize JD.dueN xs (p : Int) = dp at *
          generalize JD.dueN xs (z : Int) = dz at *
          have q1 : (i : Int) < (k : Int) := by omega
          have q2 : (dp : Int) ≤ (dz : Int) := by omega
          rw [Nat.zero_add] at hc7
          have KO : Hid (∀ n, World.ownsRow (wx.drewN n) w.heap.size 3 1 (.slice (some ⟨og, 0, none⟩) k oc) k (M4.iv os)) := fun n => HO.out
          have KB : Hid (∀ n, Below w.heap.size w (wx.drewN n)) := fun n => ⟨hb.os, hb.tape, hb.output, hb.size, hb.block⟩
          go_wp2_with fail
          go_quiet (fail)
          go_wp2
          go_roundw
          case rel => exact ⟨i + 1, by go_num, by omega, HT2, KO.out _, KB.out _⟩
          case measure => simp [intOf]; omega
        · have HNX : Hid (JD.srt (JD.dueN xs) (zs.take (k + 1)) 1001 = os.take i ++ (z : Int) :: os.drop i) := HNS.out i hik HT.out (fun h1 h2 => hii ⟨h1, h2⟩)
          by_cases hil : i < k
          · have hdu : ¬ JD.dueN xs (os.getD i 0) ≤ JD.dueN xs z := fun h => hii ⟨hil, h⟩
            obtain ⟨p, hp, hpx⟩ := HOM.out i hil
            obtain ⟨g, rfl⟩ := JD.own_some HO.out (by omega)
            obtain ⟨hoc1, hoc2⟩ := JD.own_cap HO.out
            obtain ⟨b7, off7, hb7, hlt7, hc7⟩ := (M4.IntsAt.of_own HO.out).at (k := i) (by rw [HOL.out]; exact hil)
            cases hb7
            rw [hp] at hc7
            obtain ⟨b8, off8, rfl, hlt8, -, hc8⟩ := (HXI.out.below hb).at hpx
            obtain ⟨b9, off9, hb9, hlt9, -, hc9⟩ := (HXI.out.below hb).at hzx
            cases hb9
            have e8 := JD.due_is HG.out (z := (p : Int)) (by omega) (by omega)
            have e9 := JD.due_is HG.out (z := (z : Int)) (by omega) (by omega)
            rw [Int.toNat_natCast] at e8 e9
            rw [e8] at hc8
            rw [e9] at hc9
            rw [hp] at hdu
            clear e8 e9 hp HOM HT HNS HTK HZ hii
            generalize JD.dueN xs (p : Int) = dp at hdu hc8
            generalize JD.dueN xs (z : Int) = dz at hdu hc9
            have q1 : (i : Int) < (k : Int) := by omega
            have q2 : decide (dp ≤ dz) = false := by simp; omega
            clear hdu
            rw [Nat.zero_add] at hc7
            have KO : Hid (∀ n, World.ownsRow (wx.drewN n) w.heap.size 3 1 (.slice (some ⟨g, 0, none⟩) k oc) k (M4.iv os)) := fun n => HO.out
            have KB : Hid (∀ n, Below w.heap.size w (wx.drewN n)) := fun n => ⟨hb.os, hb.tape, hb.output, hb.size, hb.block⟩
            go_wp2_with fail
            go_quiet (fail)
            clear hc7 hc8 hc9 hlt7 hlt8 hlt9
            have HO2 : Hid (World.ownsRow (wx.drewN nq) w.heap.size 3 1 (.slice (some ⟨g, 0, none⟩) k oc) k (M4.iv os)) := KO.out nq
            have hby := KB.out nq
            have hbsy := hby.size
            clear HO hb hbs KO KB
            generalize wx.drewN nq = wy at *
            clear wx
            have hgl := (HO2.out.lt g rfl).2
            have HOW : Hid (World.ownsRow wy w.heap.size 3 1 (.slice (some ⟨g, 0, none⟩) os.length oc) os.length (M4.iv os)) := by
              show World.ownsRow _ _ _ _ _ _ _
              rw [HOL.out]; exact HO2.out
            have HO : Hid True := trivial
            clear HO2
            have hc63 : oc ≤ 9223372036854775807 := by unfold maxLen at hoc2; omega
            have hki : ¬ (oc = i) := by omega
            have hki2 : ¬ (i = oc) := by omega
            have HLK1 : Hid ((os.take i).length = i) := by show _ = _; rw [List.length_take, HOL.out]; omega
            have hlk1 : (os.take i).length ≤ 1000 := by rw [HLK1.out]; omega
            have N1 : Hid (∀ j u, (M4.iv (os.take i))[j]? = some u → wy.cell? ((⟨g, 0, none⟩ : Addr).add j) = some u) := EG.cells_take (HOW.out) i
            have N2 : Hid (∀ W, Below wy.heap.size wy W → ∀ j u, (M4.iv (os.drop i))[j]? = some u → W.cell? ((⟨g, i, none⟩ : Addr).add j) = some u) := fun W hW => EG.cells_drop HOW.out i hgl hW
            have HLD : Hid ((os.drop i).length = (k - i)) := by show _ = _; rw [List.length_drop, HOL.out]; try omega
            generalize os.take i = tk at *
            generalize os.drop i = dk at *
            clear HO HOL HOW
            go_wp2_with (at_builtin; refine wpList_append_own _ rfl _ _ 24 rfl wy.heap.size 3 i0 (.int .i64 0) 1 8 Try.underlying24 hi hz0 hz1 hz2 rfl (by decide) _ _ _ rfl (World.ownsRow_nil _ _ _ _) ⟨g, 0, none⟩ i oc (M4.iv tk) rfl ?h2_0 ?h2_1 ?h2_2 ?h2_3 ?h2_4 ?h2_5 ?_)
            case h2_0 => have := HLK1.out; simp [M4.iv]; omega
            case h2_1 => exact N1.out
            case h2_2 => exact EG.iv_one _
            case h2_3 => unfold maxLen; omega
            case h2_4 => omega
            case h2_5 => omega
            intro v1 w1 hown1 hgrow1 _
            have O1 : w1.ownsRow wy.heap.size 3 1 v1 tk.length (M4.iv tk) := by
              rw [HLK1.out, ← Nat.zero_add i]; simpa using hown1
            have B1 : Below wy.heap.size wy w1 := (Below.refl _ wy).grown hgrow1 (Nat.le_refl _) (fun j hj => by cases hj)
            have hs1 := B1.size
            have HO1 : Hid _ := O1
            have HB1 : Hid _ := B1
            clear hown1 hgrow1 O1 B1 N1
            go_wp2_with (at_builtin; go_loud (refine wpList_append_own _ rfl _ _ 24 rfl wy.heap.size 3 i0 (.int .i64 0) 1 8 Try.underlying24 hi hz0 hz1 hz2 rfl (by decide) _ _ _ rfl (World.ownsRow.alloc HO1.out _) ⟨w1.heap.size, 0, none⟩ 1 1 [.int .i64 ((z : Int))] rfl rfl ?h3_1 ?h3_2 ?h3_3 ?h3_4 ?h3_5 ?_))
            all_goals try (first | rfl | omega | exact M2.new1 _ _ _ | exact M2.one1 _ _ | (unfold maxLen; omega) | (simp; omega))
            intro v2 w2 hown2 hgrow2 _
            have R := M5.growI HO1.out HB1.out hs1 (by exact hown2) hgrow2
            have HO2 : Hid _ := R.1
            have HB2 : Hid _ := R.2
            have hs2 := R.2.size
            clear hown2 hgrow2 R HO1 HB1
            go_wp2_with (at_builtin; refine wpList_append_own _ rfl _ _ 24 rfl wy.heap.size 3 i0 (.int .i64 0) 1 8 Try.underlying24 hi hz0 hz1 hz2 rfl (by decide) _ _ _ rfl HO2.out ⟨g, i, none⟩ (k - i) (oc - i) (M4.iv dk) rfl ?h4_0 ?h4_1 ?h4_2 ?h4_3 ?h4_4 ?h4_5 ?_)
            case h4_0 => have := HLD.out; simp [M4.iv]; first | omega | exact List.eq_nil_of_length_eq_zero (by omega)
            case h4_1 => exact N2.out _ HB2.out
            case h4_2 => exact EG.iv_one _
            case h4_3 => simp; unfold maxLen; omega
            case h4_4 => simp; omega
            case h4_5 => omega
            intro v3 w3 hown3 hgrow3 _
            have R1 : w3.ownsRow wy.heap.size 3 1 v3 (k + 1) (M4.iv (JD.srt (JD.dueN xs) (zs.take (k + 1)) 1001)) := by
              have h := hown3
              rw [EG.iv_app3] at h
              rw [HNX.out]
              have e : tk.length + 1 + ((k - i)) = k + 1 := by rw [HLK1.out]; try omega
              try simp only [List.length_append, List.length_singleton] at h
              rw [e] at h; exact h
            have R2 : Below wy.heap.size wy w3 := HB2.out.grown hgrow3 (by omega) (fun j hj => (World.ownsRow.lt HO2.out j hj).1)
            have R3 : w3.ownsRow w.heap.size 3 1 v3 (k + 1) (M4.iv (JD.srt (JD.dueN xs) (zs.take (k + 1)) 1001)) := JD.own_le R1 hbsy
            have R4 : Below w.heap.size w w3 := hby.trans (R2.mono hbsy)
            obtain ⟨a5, c5, rfl⟩ : ∃ a5 c5, v3 = .slice a5 (k + 1) c5 := JD.own_slice R3
            have HR3 : Hid _ := R3
            clear hown3 hgrow3 R1 HO2 HB2 N2 R2 R3
            go_wp2
            go_roundw
            case rel => exact ⟨k + 1, a5, c5, by go_num, by omega, rfl, HR3, R4⟩
            case measure => simp [intOf]; omega
          · have q1 : decide (i < k) = false := by simp; omega
            clear HOM HT HNS HTK HZ hii
            by_cases hoa : oa = none
            · subst hoa
              obtain ⟨hk0, hc0⟩ := JD.own_zero HO.out
              subst hk0 hc0
              obtain rfl : i = 0 := by omega
              have KO : Hid (∀ n, World.ownsRow (wx.drewN n) w.heap.size 3 1 (.slice none 0 0) 0 (M4.iv os)) := fun n => HO.out
              have KB : Hid (∀ n, Below w.heap.size w (wx.drewN n)) := fun n => ⟨hb.os, hb.tape, hb.output, hb.size, hb.block⟩
              have HOE : Hid (os = []) := List.eq_nil_of_length_eq_zero HOL.out
              go_wp2_with fail
              go_quiet (fail)
              have HO2 : Hid (World.ownsRow (wx.drewN nq) w.heap.size 3 1 (.slice none 0 0) 0 (M4.iv os)) := KO.out nq
              have hby := KB.out nq
              have hbsy := hby.size
              clear HO hb hbs KO KB
              generalize wx.drewN nq = wy at *
              clear wx
              go_wp2_with (first
                | (at_builtin; refine wpList_append_own_none rfl _ _ 24 rfl w.heap.size 3 i0 1 Try.underlying24 hi _ _ _ rfl (World.ownsRow_nil _ _ _ _) rfl ?_)
                | (at_builtin; refine wpList_append_own _ rfl _ _ 24 rfl wy.heap.size 3 i0 (.int .i64 0) 1 8 Try.underlying24 hi hz0 hz1 hz2 rfl (by decide) _ _ _ rfl (World.ownsRow.alloc (World.ownsRow_nil _ _ _ _) _) ⟨wy.heap.size, 0, none⟩ 1 1 [.int .i64 (z : Int)] rfl rfl ?c1 ?c2 ?c3 ?c4 ?c5 ?_))
              all_goals try (first | rfl | omega | exact M2.new1 _ _ _ | exact M2.one1 _ _ | (unfold maxLen; omega) | (simp; done) | (simp; omega))
              intro v2 w2 hown2 hgrow2 _
              have O2 : w2.ownsRow wy.heap.size 3 1 v2 1 (M4.iv [(z : Int)]) := by simpa [M4.iv] using hown2
              have B2 : Below wy.heap.size wy w2 := ((Below.refl _ wy).alloc (Nat.le_refl _) _).grown hgrow2 (by simp) (fun j hj => by cases hj)
              have HO2 : Hid _ := O2
              have HB2 : Hid _ := B2
              clear hown2 hgrow2
              go_wp2_with (at_builtin; refine wpList_append_own_none rfl _ _ 24 rfl wy.heap.size 3 i0 1 Try.underlying24 hi _ _ _ rfl O2 rfl ?_)
              have R3 : w2.ownsRow w.heap.size 3 1 v2 (0 + 1) (M4.iv (JD.srt (JD.dueN xs) (zs.take (0 + 1)) 1001)) := by
                rw [HNX.out, HOE.out]; exact JD.own_le HO2.out hbsy
              have R4 : Below w.heap.size w w2 := hby.trans (HB2.out.mono hbsy)
              obtain ⟨a5, c5, rfl⟩ : ∃ a5 c5, v2 = .slice a5 (0 + 1) c5 := JD.own_slice R3
              have HR3 : Hid _ := R3
              clear O2 HO2 HB2 R3 B2
              go_wp2
              go_roundw
              case rel => exact ⟨1, a5, c5, by go_num, by omega, rfl, HR3, R4⟩
              case measure => simp [intOf]; omega
            · obtain ⟨g, hg1⟩ : ∃ g, oa = some ⟨g, 0, none⟩ := JD.own_some2 HO.out hoa
              clear hoa
              subst hg1
              obtain ⟨hoc1, hoc2⟩ := JD.own_cap HO.out
              have KO : Hid (∀ n, World.ownsRow (wx.drewN n) w.heap.size 3 1 (.slice (some ⟨g, 0, none⟩) k oc) k (M4.iv os)) := fun n => HO.out
              have KB : Hid (∀ n, Below w.heap.size w (wx.drewN n)) := fun n => ⟨hb.os, hb.tape, hb.output, hb.size, hb.block⟩
              go_wp2_with fail
              go_quiet (fail)
              have HO2 : Hid (World.ownsRow (wx.drewN nq) w.heap.size 3 1 (.slice (some ⟨g, 0, none⟩) k oc) k (M4.iv os)) := KO.out nq
              have hby := KB.out nq
              have hbsy := hby.size
              clear HO hb hbs KO KB
              generalize wx.drewN nq = wy at *
              clear wx
              have hgl := (HO2.out.lt g rfl).2
              have HOW : Hid (World.ownsRow wy w.heap.size 3 1 (.slice (some ⟨g, 0, none⟩) os.length oc) os.length (M4.iv os)) := by
                show World.ownsRow _ _ _ _ _ _ _
                rw [HOL.out]; exact HO2.out
              have HO : Hid True := trivial
              clear HO2
              have hc63 : oc ≤ 9223372036854775807 := by unfold maxLen at hoc2; omega
              by_cases hki : oc = i
              · have h1 : k = oc := by omega
                have h2 : k = i := by omega
                clear hki hil hik q1 hoc1
                subst h1
                subst h2
                have HLK1 : Hid ((os.take k).length = k) := by show _ = _; rw [List.length_take, HOL.out]; omega
                have hlk1 : (os.take k).length ≤ 1000 := by rw [HLK1.out]; omega
                have N1 : Hid (∀ j u, (M4.iv (os.take k))[j]? = some u → wy.cell? ((⟨g, 0, none⟩ : Addr).add j) = some u) := EG.cells_take (HOW.out) k
                have N2 : Hid (∀ W, Below wy.heap.size wy W → ∀ j u, (M4.iv (os.drop k))[j]? = some u → W.cell? ((⟨g, 0, none⟩ : Addr).add j) = some u) := fun W hW j u hj => by rw [List.drop_of_length_le (by rw [HOL.out]; omega)] at hj; simp [M4.iv] at hj
                have HLD : Hid ((os.drop k).length = 0) := by show _ = _; rw [List.length_drop, HOL.out]; try omega
                generalize os.take k = tk at *
                generalize os.drop k = dk at *
                clear HO HOL HOW
                go_wp2_with (at_builtin; refine wpList_append_own _ rfl _ _ 24 rfl wy.heap.size 3 i0 (.int .i64 0) 1 8 Try.underlying24 hi hz0 hz1 hz2 rfl (by decide) _ _ _ rfl (World.ownsRow_nil _ _ _ _) ⟨g, 0, none⟩ k k (M4.iv tk) rfl ?h5_0 ?h5_1 ?h5_2 ?h5_3 ?h5_4 ?h5_5 ?_)
                case h5_0 => have := HLK1.out; simp [M4.iv]; omega
                case h5_1 => exact N1.out
                case h5_2 => exact EG.iv_one _
                case h5_3 => unfold maxLen; omega
                case h5_4 => omega
                case h5_5 => omega
                intro v1 w1 hown1 hgrow1 _
                have O1 : w1.ownsRow wy.heap.size 3 1 v1 tk.length (M4.iv tk) := by
                  rw [HLK1.out, ← Nat.zero_add k]; simpa using hown1
                have B1 : Below wy.heap.size wy w1 := (Below.refl _ wy).grown hgrow1 (Nat.le_refl _) (fun j hj => by cases hj)
                have hs1 := B1.size
                have HO1 : Hid _ := O1
                have HB1 : Hid _ := B1
                clear hown1 hgrow1 O1 B1 N1
                go_wp2_with (at_builtin; go_loud (refine wpList_append_own _ rfl _ _ 24 rfl wy.heap.size 3 i0 (.int .i64 0) 1 8 Try.underlying24 hi hz0 hz1 hz2 rfl (by decide) _ _ _ rfl (World.ownsRow.alloc HO1.out _) ⟨w1.heap.size, 0, none⟩ 1 1 [.int .i64 ((z : Int))] rfl rfl ?h6_1 ?h6_2 ?h6_3 ?h6_4 ?h6_5 ?_))
                all_goals try (first | rfl | omega | exact M2.new1 _ _ _ | exact M2.one1 _ _ | (unfold maxLen; omega) | (simp; omega))
                intro v2 w2 hown2 hgrow2 _
                have R := M5.growI HO1.out HB1.out hs1 (by exact hown2) hgrow2
                have HO2 : Hid _ := R.1
                have HB2 : Hid _ := R.2
                have hs2 := R.2.size
                clear hown2 hgrow2 R HO1 HB1
                go_wp2_with (at_builtin; refine wpList_append_own _ rfl _ _ 24 rfl wy.heap.size 3 i0 (.int .i64 0) 1 8 Try.underlying24 hi hz0 hz1 hz2 rfl (by decide) _ _ _ rfl HO2.out ⟨g, 0, none⟩ 0 0 (M4.iv dk) rfl ?h7_0 ?h7_1 ?h7_2 ?h7_3 ?h7_4 ?h7_5 ?_)
                case h7_0 => have := HLD.out; simp [M4.iv]; first | omega | exact List.eq_nil_of_length_eq_zero (by omega)
                case h7_1 => exact N2.out _ HB2.out
                case h7_2 => exact EG.iv_one _
                case h7_3 => simp; unfold maxLen; omega
                case h7_4 => simp; omega
                case h7_5 => omega
                intro v3 w3 hown3 hgrow3 _
                have R1 : w3.ownsRow wy.heap.size 3 1 v3 (k + 1) (M4.iv (JD.srt (JD.dueN xs) (zs.take (k + 1)) 1001)) := by
                  have h := hown3
                  rw [EG.iv_app3] at h
                  rw [HNX.out]
                  have e : tk.length + 1 + (0) = k + 1 := by rw [HLK1.out]; try omega
                  try simp only [List.length_append, List.length_singleton] at h
                  rw [e] at h; exact h
                have R2 : Below wy.heap.size wy w3 := HB2.out.grown hgrow3 (by omega) (fun j hj => (World.ownsRow.lt HO2.out j hj).1)
                have R3 : w3.ownsRow w.heap.size 3 1 v3 (k + 1) (M4.iv (JD.srt (JD.dueN xs) (zs.take (k + 1)) 1001)) := JD.own_le R1 hbsy
                have R4 : Below w.heap.size w w3 := hby.trans (R2.mono hbsy)
                obtain ⟨a5, c5, rfl⟩ : ∃ a5 c5, v3 = .slice a5 (k + 1) c5 := JD.own_slice R3
                have HR3 : Hid _ := R3
                clear hown3 hgrow3 R1 HO2 HB2 N2 R2 R3
                go_wp2
                go_roundw
                case rel => exact ⟨k + 1, a5, c5, by go_num, by omega, rfl, HR3, R4⟩
                case measure => simp [intOf]; omega
              · have hki2 : ¬ (i = oc) := by omega
                have HLK1 : Hid ((os.take i).length = i) := by show _ = _; rw [List.length_take, HOL.out]; omega
                have hlk1 : (os.take i).length ≤ 1000 := by rw [HLK1.out]; omega
                have N1 : Hid (∀ j u, (M4.iv (os.take i))[j]? = some u → wy.cell? ((⟨g, 0, none⟩ : Addr).add j) = some u) := EG.cells_take (HOW.out) i
                have N2 : Hid (∀ W, Below wy.heap.size wy W → ∀ j u, (M4.iv (os.drop i))[j]? = some u → W.cell? ((⟨g, i, none⟩ : Addr).add j) = some u) := fun W hW => EG.cells_drop HOW.out i hgl hW
                have HLD : Hid ((os.drop i).length = (k - i)) := by show _ = _; rw [List.length_drop, HOL.out]; try omega
                generalize os.take i = tk at *
                generalize os.drop i = dk at *
                clear HO HOL HOW
                go_wp2_with (at_builtin; refine wpList_append_own _ rfl _ _ 24 rfl wy.heap.size 3 i0 (.int .i64 0) 1 8 Try.underlying24 hi hz0 hz1 hz2 rfl (by decide) _ _ _ rfl (World.ownsRow_nil _ _ _ _) ⟨g, 0, none⟩ i oc (M4.iv tk) rfl ?h8_0 ?h8_1 ?h8_2 ?h8_3 ?h8_4 ?h8_5 ?_)
                case h8_0 => have := HLK1.out; simp [M4.iv]; omega
                case h8_1 => exact N1.out
                case h8_2 => exact EG.iv_one _
                case h8_3 => unfold maxLen; omega
                case h8_4 => omega
                case h8_5 => omega
                intro v1 w1 hown1 hgrow1 _
                have O1 : w1.ownsRow wy.heap.size 3 1 v1 tk.length (M4.iv tk) := by
                  rw [HLK1.out, ← Nat.zero_add i]; simpa using hown1
                have B1 : Below wy.heap.size wy w1 := (Below.refl _ wy).grown hgrow1 (Nat.le_refl _) (fun j hj => by cases hj)
                have hs1 := B1.size
                have HO1 : Hid _ := O1
                have HB1 : Hid _ := B1
                clear hown1 hgrow1 O1 B1 N1
                go_wp2_with (at_builtin; go_loud (refine wpList_append_own _ rfl _ _ 24 rfl wy.heap.size 3 i0 (.int .i64 0) 1 8 Try.underlying24 hi hz0 hz1 hz2 rfl (by decide) _ _ _ rfl (World.ownsRow.alloc HO1.out _) ⟨w1.heap.size, 0, none⟩ 1 1 [.int .i64 ((z : Int))] rfl rfl ?h9_1 ?h9_2 ?h9_3 ?h9_4 ?h9_5 ?_))
                all_goals try (first | rfl | omega | exact M2.new1 _ _ _ | exact M2.one1 _ _ | (unfold maxLen; omega) | (simp; omega))
                intro v2 w2 hown2 hgrow2 _
                have R := M5.growI HO1.out HB1.out hs1 (by exact hown2) hgrow2
                have HO2 : Hid _ := R.1
                have HB2 : Hid _ := R.2
                have hs2 := R.2.size
                clear hown2 hgrow2 R HO1 HB1
                go_wp2_with (at_builtin; refine wpList_append_own _ rfl _ _ 24 rfl wy.heap.size 3 i0 (.int .i64 0) 1 8 Try.underlying24 hi hz0 hz1 hz2 rfl (by decide) _ _ _ rfl HO2.out ⟨g, i, none⟩ (k - i) (oc - i) (M4.iv dk) rfl ?h10_0 ?h10_1 ?h10_2 ?h10_3 ?h10_4 ?h10_5 ?_)
                case h10_0 => have := HLD.out; simp [M4.iv]; first | omega | exact List.eq_nil_of_length_eq_zero (by omega)
                case h10_1 => exact N2.out _ HB2.out
                case h10_2 => exact EG.iv_one _
                case h10_3 => simp; unfold maxLen; omega
                case h10_4 => simp; omega
                case h10_5 => omega
                intro v3 w3 hown3 hgrow3 _
                have R1 : w3.ownsRow wy.heap.size 3 1 v3 (k + 1) (M4.iv (JD.srt (JD.dueN xs) (zs.take (k + 1)) 1001)) := by
                  have h := hown3
                  rw [EG.iv_app3] at h
                  rw [HNX.out]
                  have e : tk.length + 1 + ((k - i)) = k + 1 := by rw [HLK1.out]; try omega
                  try simp only [List.length_append, List.length_singleton] at h
                  rw [e] at h; exact h
                have R2 : Below wy.heap.size wy w3 := HB2.out.grown hgrow3 (by omega) (fun j hj => (World.ownsRow.lt HO2.out j hj).1)
                have R3 : w3.ownsRow w.heap.size 3 1 v3 (k + 1) (M4.iv (JD.srt (JD.dueN xs) (zs.take (k + 1)) 1001)) := JD.own_le R1 hbsy
                have R4 : Below w.heap.size w w3 := hby.trans (R2.mono hbsy)
                obtain ⟨a5, c5, rfl⟩ : ∃ a5 c5, v3 = .slice a5 (k + 1) c5 := JD.own_slice R3
                have HR3 : Hid _ := R3
                clear hown3 hgrow3 R1 HO2 HB2 N2 R2 R3
                go_wp2
                go_roundw
                case rel => exact ⟨k + 1, a5, c5, by go_num, by omega, rfl, HR3, R4⟩
                case measure => simp [intOf]; omega
    · obtain rfl : k = zs.length := by omega
      rw [List.take_length] at HO
      go_wp2
      go_ret
      exact ⟨oa, oc, rfl, HO.out, hb⟩
end Go.Proofs.Ytgenmljnhlcpcaa
