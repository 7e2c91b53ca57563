import Derived.Test.YtpabhjnpbnabiaaRows
import Derived.Test.YtpabhjnpbnabiaaMWA
import Derived.Test.YtpabhjnpbnabiaaMInfo
import Derived.Test.YtpabhjnpbnabiaaMRetB
import Derived.WalkKit
import Derived.WalkSpells
import Derived.WalkLawsBesides
import Derived.Outline
import Derived.Test.YtpabhjnpbnabiaaMWZ
import Derived.Test.YtpabhjnpbnabiaaCLinksI
import Derived.Test.YtpabhjnpbnabiaaCMaxI
/- Ways along a flow: firstWithFlow, withoutRound, followWay of the program. -/
namespace Go.Proofs.Ytpabhjnpbnabiaa
open Go.RowKit
theorem retI9 {x y : Int} (h : x = y) : Ending.returned (.int .i64 x) = Ending.returned (.int .i64 y) := by rw [h]
set_option linter.unusedSimpArgs false in
set_option maxHeartbeats 1600000 in
set_option maxRecDepth 100000 in
theorem firstWithFlow_any (a b : Option Addr) (ca cb : Nat) (xs : List I2) (fs : List Int) (u : Int) (k0 : Nat) (w : World) (hn : xs.length ≤ 1048576) (hl : fs.length = xs.length) (hF : LK.Fst xs fs u k0) (hin : MI2.RowAt w a xs) (hos : M4.IntsAt w b fs) :
    Calls Try.prog 49 #[.slice a xs.length ca, .int .i64 u, .slice b xs.length cb] w fun e w' => e = .returned (.int .i64 (k0 : Int)) ∧ w = w' := by
  have hk0 := hF.lt
  have HF : Hid _ := hF
  have HI : Hid (MI2.RowAt w a xs) := hin
  have HS : Hid (M4.IntsAt w b fs) := hos
  have HL : Hid _ := hl
  clear hF hin hos hl
  go_enter Try.func49, Try.ntmps49
  go_wp2
  go_loopw [7] (fun iv wr => ∃ k : Nat, iv = .int .i64 k ∧ k ≤ k0 ∧ w = wr) (fun iv _ => (k0 - intOf iv).toNat)
  case atStart => exact ⟨0, rfl, by omega, rfl⟩
  case round =>
    obtain ⟨k, rfl, hk, rfl⟩ := hrel
    have hkx : k < xs.length := by omega
    obtain ⟨b1, off, rfl, hlt, c0, c1⟩ := HI.out.at hkx
    obtain ⟨b2, off2, rfl, hlt2, d0⟩ := M4.IntsAt.at HS.out (show k < fs.length by rw [HL.out]; exact hkx)
    have kkx : (k : Int) < (xs.length : Int) := by omega
    by_cases e : k = k0
    · subst e
      obtain ⟨h1, h2⟩ := HF.out.is
      rw [h1] at c0
      generalize fs.getD k 0 = y at *
      clear HF HI HS HL h1
      go_wp2
      go_ret
      exact ⟨rfl, rfl⟩
    · have hno := HF.out.no k (by omega)
      have hd : (MI2.at_ xs k).a0 ≠ u ∨ fs.getD k 0 = 0 := by
        by_cases h1 : (MI2.at_ xs k).a0 = u
        · by_cases h2 : fs.getD k 0 = 0
          · exact .inr h2
          · exact absurd ⟨h1, h2⟩ hno
        · exact .inl h1
      generalize MI2.at_ xs k = x at *
      obtain ⟨x0, x1⟩ := x
      generalize fs.getD k 0 = y at *
      clear HF HI HS HL hno
      by_cases h1 : x0 = u
      · have h2 : y = 0 := hd.elim (fun h => absurd h1 h) id
        subst h1 h2
        go_wp2
        go_roundw
        case rel => exact ⟨k + 1, by go_num, by omega, trivial⟩
        case measure => simp [intOf]; omega
      · have h1' : x0 ≠ u := h1
        simp only at c0 c1
        go_wp2
        go_roundw
        case rel => exact ⟨k + 1, by go_num, by omega, trivial⟩
        case measure => simp [intOf]; omega
set_option linter.unusedSimpArgs false in
set_option maxHeartbeats 1600000 in
set_option maxRecDepth 100000 in
theorem withoutRound_any (a : Option Addr) (ca B g c : Nat) (xs : List I2) (l : List Int) (u : Int) (w : World) (_hn : xs.length ≤ 1048576) (hl : l.length ≤ 1000) (hv : ∀ x ∈ l, ∃ k : Nat, x = (k : Int) ∧ k < xs.length) (hin : MI2.RowAt w a xs) (hW : LK.Wy w B (.slice (some ⟨g, 0, none⟩) l.length c) l) :
    Calls Try.prog 50 #[.slice a xs.length ca, .slice (some ⟨g, 0, none⟩) l.length c, .int .i64 u] w fun e w' => ∃ c', e = .returned (.slice (some ⟨g, 0, none⟩) (LK.cutW xs l u).length c') ∧ LK.Wy w B (.slice (some ⟨g, 0, none⟩) (LK.cutW xs l u).length c') (LK.cutW xs l u) ∧ w = w' := by
  obtain ⟨g', c2, hv2, hB, hg, hc1, hc2, hI⟩ := hW.view
  simp only [Value.slice.injEq, Option.some.injEq, Addr.mk.injEq, and_true] at hv2
  obtain ⟨rfl, -, rfl⟩ := hv2
  have HI : Hid (MI2.RowAt w a xs) := hin
  have HS : Hid (M4.IntsAt w (some ⟨g, 0, none⟩) l) := hI.ints
  have HW : Hid _ := hW
  have HV : Hid (∀ j, j < l.length → ∃ k : Nat, l.getD j 0 = (k : Int) ∧ k < xs.length) := fun j hj => hv _ (by rw [List.getD_eq_getElem?_getD, List.getElem?_eq_getElem hj]; exact List.getElem_mem hj)
  have CA : Hid _ := fun i h1 h2 h3 => LK.cut_at (xs := xs) (u := u) (l := l) (i := i) h1 h2 h3
  have CN : Hid _ := fun h => LK.cut_none (xs := xs) (u := u) (l := l) h
  have hc63 : c ≤ 9223372036854775807 := by unfold maxLen at hc2; omega
  clear hin hI hW hv hc2
  generalize LK.cutW xs l u = L at *
  go_enter Try.func50, Try.ntmps50
  go_wp2
  go_loopw [11] (fun iv wr => ∃ i : Nat, iv = .int .i64 i ∧ i ≤ l.length ∧ Hid (∀ j, j < i → (MI2.at_ xs (l.getD j 0).toNat).a0 ≠ u) ∧ w = wr) (fun iv _ => (l.length - intOf iv).toNat)
  case atStart => exact ⟨0, rfl, by omega, show Hid _ from fun j hj => by omega, rfl⟩
  case round =>
    obtain ⟨i, rfl, hi, HN, rfl⟩ := hrel
    by_cases hli : i < l.length
    · obtain ⟨k, hk, hkx⟩ := HV.out i hli
      obtain ⟨b1, off, rfl, hlt, c0, c1⟩ := HI.out.at hkx
      have d0 := (M4.IntsAt.at HS.out hli)
      obtain ⟨b2, off2, he, hlt2, d0⟩ := d0
      simp only [Option.some.injEq, Addr.mk.injEq, and_true] at he
      obtain ⟨rfl, rfl⟩ := he
      rw [Nat.zero_add, hk] at d0
      have kkx : (k : Int) < (xs.length : Int) := by omega
      have HNX : Hid ((MI2.at_ xs k).a0 ≠ u → ∀ j, j < i + 1 → (MI2.at_ xs (l.getD j 0).toNat).a0 ≠ u) := fun h j hj => by
        by_cases e : j = i
        · subst e; rw [hk, show ((k : Nat) : Int).toNat = k from by omega]; exact h
        · exact HN.out j (by omega)
      have HCT : Hid ((MI2.at_ xs k).a0 = u → L = l.take i) := fun h => CA.out i hli HN.out (by rw [hk, show ((k : Nat) : Int).toNat = k from by omega]; exact h)
      generalize MI2.at_ xs k = x at *
      obtain ⟨x0, x1⟩ := x
      simp only at c0 c1
      clear HV HI HS CA CN HN hk
      by_cases h1 : x0 = u
      · have hE := HCT.out h1
        have hWC := HW.out.cut (i := i) (by omega) i rfl
        have hln : (l.take i).length = i := by simp; omega
        rw [← hE] at hWC hln
        rw [hln] at hWC
        have HWC : Hid _ := hWC
        have HLN : Hid _ := hln
        clear HW hWC hE HCT HNX hln
        subst h1
        go_wp2
        go_ret
        exact ⟨i, by rw [HLN.out]; rfl, by rw [HLN.out]; exact HWC.out, rfl⟩
      · have hT : Hid _ := HNX.out h1
        clear HCT HNX
        go_wp2
        go_roundw
        case rel => exact ⟨i + 1, by go_num, by omega, hT, trivial⟩
        case measure => simp [intOf]; omega
    · obtain rfl : i = l.length := by omega
      have hE := CN.out HN.out
      have HE : Hid _ := hE
      clear HV HI HS CA CN HN hE
      go_wp2
      go_ret
      exact ⟨c, by rw [HE.out]; rfl, by rw [HE.out]; exact HW.out, rfl⟩
namespace LK
theorem row_only {w w' : World} {a : Option Addr} {xs : List I2} {p : Nat} (h : MI2.RowAt w a xs) (ho : MC.Only p w w') (hp : ∀ b off, a = some ⟨b, off, none⟩ → b ≠ p) : MI2.RowAt w' a xs := by
  rcases h.is with rfl | ⟨b, off, rfl, hlt, hc⟩
  · exact ⟨.inl rfl⟩
  · refine ⟨.inr ⟨b, off, rfl, Nat.lt_of_lt_of_le hlt ho.size, fun j hj => ?_⟩⟩
    obtain ⟨c0, c1⟩ := hc j hj
    have hne := hp b off rfl
    exact ⟨(ho.cell (x := ⟨b, _, none⟩) hlt hne).trans c0, (ho.cell (x := ⟨b, _, none⟩) hlt hne).trans c1⟩
/-- How many links have flow, read out of memory. -/
noncomputable def muW (W : World) (n : Nat) (v : Value) : Nat := cntUp (FL.rdL W n v) n
theorem mu_is {W : World} {b n : Nat} {v : Value} {fs : List Int} (h : W.ownsRow b 3 1 v n (M4.iv fs)) : muW W n v = cntUp fs n := by unfold muW; rw [FL.rdL_own h]
end LK
set_option linter.unusedSimpArgs false in
set_option maxHeartbeats 3200000 in
set_option maxRecDepth 100000 in
theorem followWay_any (a : Option Addr) (ca gf cf : Nat) (xs : List I2) (f t : Int) (r : Nat) (fs : List Int) (w : World) (hok : FL.okP (LK.pip xs) = true) (hG : LK.Gone xs f t r ⟨f, fs, []⟩) (hin : MI2.RowAt w a xs) (hne : ∀ b off, a = some ⟨b, off, none⟩ → b ≠ gf) (hown : w.ownsRow 0 3 1 (.slice (some ⟨gf, 0, none⟩) xs.length cf) xs.length (M4.iv fs)) :
    Calls Try.prog 22 #[.slice a xs.length ca, .int .i64 f, .int .i64 t, .slice (some ⟨gf, 0, none⟩) xs.length cf] w fun e w' => ∃ a1 c1, e = .returned (.slice a1 (LK.strt xs (LK.fin xs f t fs).way).length c1) ∧ NR.In w' w.heap.size a1 (LK.strt xs (LK.fin xs f t fs).way) ∧ w'.ownsRow 0 3 1 (.slice (some ⟨gf, 0, none⟩) xs.length cf) xs.length (M4.iv (LK.fin xs f t fs).fs) ∧ MC.Only gf w w' := by
  obtain ⟨i0, hi, hz0, hz1, hz2⟩ := info_parts Try.info3
  have hx20 : xs.length ≤ 20 := by have := ((FL.okP_iff _).1 hok).1; rwa [LK.pip_len] at this
  have hgf := (hown.lt gf rfl).2
  have FN : Hid (∀ i s, LK.AtW xs f t r fs i s → s.pos = t → LK.fin xs f t fs = s ∧ LK.ers xs s.way = LK.strt xs s.way) := fun i s h hp => ⟨h.fin hp, h.same hok hG hp⟩
  have SM : Hid (∀ i s, LK.AtW xs f t r fs i s → s.pos ≠ t → ∃ k, LK.Fst xs s.fs s.pos k) := fun i s h hp => h.go.some hp
  have NX : Hid (∀ i k s, LK.AtW xs f t r fs i s → s.pos ≠ t → LK.Fst xs s.fs s.pos k → LK.AtW xs f t r fs (i + 1) ⟨(MI2.at_ xs k).a1, s.fs.set k 0, s.way ++ [(k : Int)]⟩ ∧ LK.cntUp (s.fs.set k 0) xs.length < LK.cntUp s.fs xs.length) := fun i k s h hp hk => h.step hok hp hk
  have FW : Hid (∀ (W : World) (u : Int) (fs' : List Int) (k0 : Nat), fs'.length = xs.length → LK.Fst xs fs' u k0 → MI2.RowAt W a xs → M4.IntsAt W (some ⟨gf, 0, none⟩) fs' → Calls Try.prog 49 #[.slice a xs.length ca, .int .i64 u, .slice (some ⟨gf, 0, none⟩) xs.length cf] W fun e w' => e = .returned (.int .i64 (k0 : Int)) ∧ W = w') := fun W u fs' k0 h1 h2 h3 h4 => firstWithFlow_any a (some ⟨gf, 0, none⟩) ca cf xs fs' u k0 W (by omega) h1 h2 h3 h4
  have ST : Hid (LK.AtW xs f t r fs 0 ⟨f, fs, []⟩) := LK.AtW.start hG
  have HI : Hid (MI2.RowAt w a xs) := hin
  have HNE : Hid _ := hne
  have WS : Hid (LK.Wy (w.alloc (.cells #[] 3)) w.heap.size (.slice (some ⟨w.heap.size, 0, none⟩) 0 0) []) := LK.Wy.start w
  have OW0 : Hid (World.ownsRow (w.alloc (.cells #[] 3)) 0 3 1 (.slice (some ⟨gf, 0, none⟩) xs.length cf) xs.length (M4.iv fs)) := hown.alloc _
  have ON0 : Hid (MC.Only gf w (w.alloc (.cells #[] 3))) := (MC.Only.refl gf w).alloc _
  generalize LK.fin xs f t fs = FI at *
  clear hin hne hown hG
  go_enter Try.func22, Try.ntmps22
  go_wp2
  go_loopw [9, 10] (fun v uv wr => ∃ (i : Nat) (s : LK.Wk) (g c : Nat) (l : List Int), uv = .int .i64 s.pos ∧ v = .slice (some ⟨g, 0, none⟩) l.length c ∧ Hid (LK.AtW xs f t r fs i s) ∧ Hid (LK.ers xs s.way = l) ∧ Hid (LK.Wy wr w.heap.size (.slice (some ⟨g, 0, none⟩) l.length c) l) ∧ wr.ownsRow 0 3 1 (.slice (some ⟨gf, 0, none⟩) xs.length cf) xs.length (M4.iv s.fs) ∧ MC.Only gf w wr) (fun _ _ wr => LK.muW wr xs.length (.slice (some ⟨gf, 0, none⟩) xs.length cf))
  case atStart => exact ⟨0, ⟨f, fs, []⟩, w.heap.size, 0, [], rfl, rfl, ST, rfl, WS, OW0.out, ON0.out⟩
  case round =>
    clear ST WS OW0 ON0
    obtain ⟨i, ⟨p, fs', wy⟩, g, c, l, rfl, rfl, hA, hE, HWY0, hown, hO⟩ := hrel
    by_cases hp : p = t
    · obtain ⟨e1, e2⟩ := FN.out i _ hA.out hp
      have hE2 := hE.out
      simp only at e2 hE2
      obtain ⟨g', c2, hv2, _, _, _, _, hI⟩ := HWY0.out.view
      simp only [Value.slice.injEq, Option.some.injEq, Addr.mk.injEq, and_true] at hv2
      obtain ⟨rfl, -, rfl⟩ := hv2
      have HFI : Hid (LK.strt xs FI.way = l) := by show _ = _; rw [e1]; rw [← e2, hE2]
      have HFF : Hid (FI.fs = fs') := by show _ = _; rw [e1]
      have HIN : Hid _ := hI
      have HOW : Hid _ := hown
      have HON : Hid _ := hO
      clear FN SM NX FW HI HNE e1 e2 hE2 hE hA HWY0 hI hown hO
      subst hp
      go_wp2
      go_ret
      exact ⟨some ⟨g, 0, none⟩, ⟨c, by rw [HFI.out]; rfl⟩, by rw [HFI.out]; exact HIN.out, by rw [HFF.out]; exact HOW.out, HON.out⟩
    · obtain ⟨k, hk⟩ := SM.out i _ hA.out hp
      obtain ⟨hA2, hcnt⟩ := NX.out i k _ hA.out hp hk
      have hkx : k < xs.length := hk.lt
      have hfl : fs'.length = xs.length := by have := hown.1; simpa [M4.iv] using this
      have HI1 : MI2.RowAt wr a xs := LK.row_only HI.out hO HNE.out
      have FW2 : Hid _ := FW.out wr p fs' k hfl hk HI1 (M4.IntsAt.of_own hown)
      obtain ⟨b1, off, rfl, hlt, c0, c1⟩ := HI1.at hkx
      have hb1n := HNE.out b1 off rfl
      have hb1 : b1 < w.heap.size := by
        rcases HI.out.is with e | ⟨b, o, e, h, _⟩
        · rw [e] at hkx; simp at hkx
        · simp only [Option.some.injEq, Addr.mk.injEq, and_true] at e; rw [e.1]; exact h
      have HLE : Hid (LK.ers xs (wy ++ [(k : Int)]) = LK.cutW xs (l ++ [(k : Int)]) (MI2.at_ xs k).a1) := by
        show _ = _
        have := hE.out
        simp only at this
        rw [LK.ers_snoc, this, show ((k : Nat) : Int).toNat = k from by omega]
      have HVL : Hid (∀ x ∈ l ++ [(k : Int)], ∃ j : Nat, x = (j : Int) ∧ j < xs.length) := fun x hx => by
        have := hE.out
        simp only at this
        rcases List.mem_append.1 hx with hx | hx
        · rw [← this] at hx
          obtain ⟨j, e1, e2, _⟩ := hA.out.no x (LK.ers_mem xs _ _ rfl hx)
          exact ⟨j, e1, e2⟩
        · rw [List.mem_singleton] at hx; exact ⟨k, hx, hkx⟩
      have hll : l.length ≤ 20 := by
        have e := hE.out
        simp only at e
        rw [← e]
        have h1 := LK.ers_len xs _ wy rfl
        have h2 := hA.out.len
        have h3 := hA.out.up
        simp only at h2
        omega
      have hcell : ∃ u, wr.cell? ⟨gf, k, none⟩ = some u := by
        rw [hown.cellAt k (by omega)]
        exact ⟨_, List.getElem?_eq_getElem (by have := hown.1; omega)⟩
      obtain ⟨u, hcell⟩ := hcell
      have hfz := hown.frozenAt k
      have hst := hown.stored k (.int .i64 0)
      rw [M4.iv_set] at hst
      have hOs := hO.setCell k (.int .i64 0)
      have HWs := HWY0.out.only ((MC.Only.refl gf wr).setCell k (.int .i64 0)) hgf
      have hgs := (HWY0.out.view)
      obtain ⟨g', c2, hv2, hgB, hgl, _, _, _⟩ := hgs
      simp only [Value.slice.injEq, Option.some.injEq, Addr.mk.injEq, and_true] at hv2
      obtain ⟨rfl, -, rfl⟩ := hv2
      have c5' : (wr.setCell ⟨gf, k, none⟩ (.int .i64 0)).cell? ⟨b1, off + k * 2 + 1, none⟩ = some (.int .i64 (MI2.at_ xs k).a1) := (((MC.Only.refl gf wr).setCell k (.int .i64 0)).cell (x := ⟨b1, off + k * 2 + 1, none⟩) hlt hb1n).trans c1
      have HMU : Hid (∀ W' v', World.ownsRow W' 0 3 1 v' xs.length (M4.iv (fs'.set k 0)) → LK.muW W' xs.length v' < LK.muW wr xs.length (.slice (some ⟨gf, 0, none⟩) xs.length cf)) := fun W' v' h => by rw [LK.mu_is h, LK.mu_is hown]; exact hcnt
      have HA2 : Hid _ := hA2
      generalize MI2.at_ xs k = x at *
      obtain ⟨x0, x1⟩ := x
      simp only at c5' HA2 HLE
      have HWY : Hid _ := HWs
      have HFL : Hid _ := hst.1
      have HON : Hid _ := hOs
      have C5 : Hid _ := c5'
      clear FN SM NX FW hA hA2 hk hcnt HI1 HWY0 hown hO hst hOs HWs c0 c1 c5' hfl hE
      go_wp2_with fail
      refine Calls.mono FW2.out ?_
      rintro e w3 ⟨rfl, rfl⟩
      clear FW2
      go_wp2_with fail
      have c5 := C5.out
      clear C5 hcell hfz
      have kk0 : (0 : Int) ≤ (k : Int) := by omega
      have kkx : (k : Int) < (xs.length : Int) := by omega
      generalize wr.setCell ⟨gf, k, none⟩ (.int .i64 0) = W5 at *
      refine MR.frame fun A hA => ?_
      have hsz : A.tmps.size = 38 := by rw [hA]; rfl
      have e9 : A.eval (.tmp 9) = .slice (some ⟨g, 0, none⟩) l.length c := by rw [hA]; rfl
      have f9 := MR.read (t := 9) (by rw [hsz]; decide) e9
      have e11 : A.eval (.tmp 11) = .int .i64 (k : Int) := by rw [hA]; rfl
      have f11 := MR.read (t := 11) (by rw [hsz]; decide) e11
      have e0 : A.eval (.tmp 0) = .slice (some ⟨b1, off, none⟩) xs.length ca := by rw [hA]; rfl
      have f0 := MR.read (t := 0) (by rw [hsz]; decide) e0
      have HA : Hid (A = _) := hA
      clear hA
      refine MR.cut (fun aa w' => ∃ (v0 : World) (v' : Value), aa = (((((((((((A.put (some 24) (.slice (some ⟨g, 0, none⟩) l.length c)).put (some 25) (.int .i64 (k : Int))).put (some 28) (.slice (some ⟨b1, off, none⟩) xs.length ca)).put (some 29) (.int .i64 (k : Int))).put (some 30) (.pointer (some ⟨b1, off + k * 2, none⟩))).put (some 31) (.pointer (some ⟨b1, off + k * 2 + 1, none⟩))).put (some 32) (.int .i64 x1)).put (some 26) (.slice (some ⟨v0.heap.size, 0, none⟩) 1 1)).put (some 27) (v')).put (some 9) (v')).put (some 10) (.int .i64 x1)) ∧ Hid (LK.Wy w' w.heap.size v' (l ++ [(k : Int)]) ∧ w'.ownsRow 0 3 1 (.slice (some ⟨gf, 0, none⟩) xs.length cf) xs.length (M4.iv (fs'.set k 0)) ∧ MC.Only gf w w')) ?_ ?_
      · have hS : (fun w' : World => w'.cell? ⟨b1, off + k * 2 + 1, none⟩ = some (.int .i64 x1)) (World.drew W5) := c5
        refine wp_region_held (S := fun w' : World => w'.cell? ⟨b1, off + k * 2 + 1, none⟩ = some (.int .i64 x1)) (by kernel_rfl) ?_
        change wpAnyH _ _ _ _ _ _ _ _ (World.drew _)
        refine MR.takeH (i := 0) (some 24) (.slice (some ⟨g, 0, none⟩) l.length c) rfl rfl (by kernel_rfl) (by kernel_rfl) (by kernel_rfl) nofun hS (MR.free rfl) (fun wq hw => by simp [execOp, MR.ev, MR.size, hsz, e9, f9, e11, f11, e0, f0, go_sem]) ?_
        refine MR.takeH (i := 1) (some 25) (.int .i64 (k : Int)) rfl rfl (by kernel_rfl) (by kernel_rfl) (by kernel_rfl) nofun hS (MR.free rfl) (fun wq hw => by simp [execOp, MR.ev, MR.size, hsz, e9, f9, e11, f11, e0, f0, go_sem]) ?_
        refine MR.takeH (i := 4) (some 28) (.slice (some ⟨b1, off, none⟩) xs.length ca) rfl rfl (by kernel_rfl) (by kernel_rfl) (by kernel_rfl) nofun hS (MR.free rfl) (fun wq hw => by simp [execOp, MR.ev, MR.size, hsz, e9, f9, e11, f11, e0, f0, go_sem]) ?_
        refine MR.takeH (i := 5) (some 29) (.int .i64 (k : Int)) rfl rfl (by kernel_rfl) (by kernel_rfl) (by kernel_rfl) nofun hS (MR.free rfl) (fun wq hw => by simp [execOp, MR.ev, MR.size, hsz, e9, f9, e11, f11, e0, f0, go_sem]) ?_
        refine MR.takeH (i := 6) (some 30) (.pointer (some ⟨b1, off + k * 2, none⟩)) rfl rfl (by kernel_rfl) (by kernel_rfl) (by kernel_rfl) nofun hS (MR.free rfl) (fun wq hw => by simp [execOp, MR.ev, MR.size, hsz, e9, f9, e11, f11, e0, f0, kk0, kkx, hkx, go_sem]) ?_
        refine MR.takeH (i := 7) (some 31) (.pointer (some ⟨b1, off + k * 2 + 1, none⟩)) rfl rfl (by kernel_rfl) (by kernel_rfl) (by kernel_rfl) nofun hS (MR.free rfl) (fun wq hw => by simp [execOp, MR.ev, MR.size, hsz, e9, f9, e11, f11, e0, f0, go_sem]) ?_
        refine MR.takeH (i := 8) (some 32) (.int .i64 x1) rfl rfl (by kernel_rfl) (by kernel_rfl) (by kernel_rfl) nofun hS (MR.free rfl) (fun wq hw => by simp [execOp, MR.ev, MR.size, hsz, e9, f9, e11, f11, e0, f0, (show wq.cell? ⟨b1, off + k * 2 + 1, none⟩ = some (.int .i64 x1) from hw), go_sem]) ?_
        have hWd : LK.Wy (World.drew W5) w.heap.size (.slice (some ⟨g, 0, none⟩) l.length c) l := HWY.out.below (Below.refl _ W5).drew
        have hFd := M5.own_below HFL.out (Below.refl _ W5).drew
        have hOd : MC.Only gf w (World.drew W5) := HON.out.trans (MC.Only.of_below (Below.refl _ W5).drew)
        generalize World.drew W5 = v0 at hS hWd hFd hOd ⊢
        have hWa := hWd.below ((Below.refl _ v0).alloc (Nat.le_refl _) (.cells #[.int .i64 (k : Int)] 3))
        have hFa := hFd.alloc (.cells #[.int .i64 (k : Int)] 3)
        have hOa := hOd.alloc (.cells #[.int .i64 (k : Int)] 3)
        have hSa : (v0.alloc (.cells #[.int .i64 (k : Int)] 3)).cell? ⟨b1, off + k * 2 + 1, none⟩ = some (.int .i64 x1) := (World.cell?_alloc_lt _ _ _ (Nat.lt_of_lt_of_le hb1 hOd.size)).trans hS
        refine MR.nowH (w' := v0.alloc (.cells #[.int .i64 (k : Int)] 3)) (i := 2) (some 26) (.slice (some ⟨v0.heap.size, 0, none⟩) 1 1) (by kernel_rfl) rfl rfl (MR.free rfl) (by simp [execOp, MR.ev, MR.size, hsz, e9, f9, e11, f11, e0, f0, go_sem]) ⟨hSa, ?_⟩
        obtain ⟨v', w6, hrun, hW6, hg6⟩ := hWa.grow (P := Try.prog) (t := 29) (ty := 29) (x := (k : Int)) (ad := ⟨v0.heap.size, 0, none⟩) Try.underlying29 hi hz0 hz1 hz2 hOa.size (by omega) (M2.new1 _ _ _)
        have hF6 := hFa.kept hg6 (.inr (fun e => by simp only [Value.ownBlock, Option.some.injEq] at e; omega))
        have hO6 := hOa.grown hg6 (fun q hq => by simp only [Value.ownBlock, Option.some.injEq] at hq; omega)
        have hS6 : w6.cell? ⟨b1, off + k * 2 + 1, none⟩ = some (.int .i64 x1) := hg6.cell hSa (fun e => by simp only [Value.ownBlock, Option.some.injEq] at e; omega)
        refine MR.nowH (w' := w6) (i := 3) (some 27) v' (by kernel_rfl) rfl rfl (MR.free rfl) (RA.app_run rfl (by simp [MR.ev, MR.size, hsz, e9, f9, e11, f11, e0, f0]) (by simp [MR.ev, MR.size, hsz, e9, f9, e11, f11, e0, f0]) hrun) ⟨hS6, ?_⟩
        refine MR.takeH (i := 9) (some 9) (v') rfl rfl (by kernel_rfl) (by kernel_rfl) (by kernel_rfl) nofun hS6 (MR.free rfl) (fun wq hw => by simp [execOp, MR.ev, MR.size, hsz, e9, f9, e11, f11, e0, f0, go_sem]) ?_
        refine MR.takeH (i := 10) (some 10) (.int .i64 x1) rfl rfl (by kernel_rfl) (by kernel_rfl) (by kernel_rfl) nofun hS6 (MR.free rfl) (fun wq hw => by simp [execOp, MR.ev, MR.size, hsz, e9, f9, e11, f11, e0, f0, go_sem]) ?_
        refine wpAnyH_done (by kernel_rfl) ⟨rfl, v0, v', ?_, ⟨hW6, hF6, hO6⟩⟩ _
        rw [HA.out]
        all_goals (simp only [Act.put, List.setIfInBounds_toArray, List.set_cons_succ, List.set_cons_zero])
        all_goals rfl
      rintro aa w7 ⟨v0, v', rfl, hf⟩
      rw [HA.out]
      clear HA hsz e9 f9 e11 f11 e0 f0
      simp only [Act.put, List.setIfInBounds_toArray, List.set_cons_succ, List.set_cons_zero]
      obtain ⟨hW7, hF7, hO7⟩ := hf.out
      clear hf HWY HFL HON c5
      obtain ⟨g7, c7, rfl, _, _, _, _, _⟩ := hW7.view
      have HR7 : MI2.RowAt w7 (some ⟨b1, off, none⟩) xs := LK.row_only HI.out hO7 HNE.out
      have WR : Hid _ := withoutRound_any (some ⟨b1, off, none⟩) ca w.heap.size g7 c7 xs (l ++ [(k : Int)]) x1 w7 (by omega) (by simp; omega) HVL.out HR7 hW7
      have HF7 : Hid _ := hF7
      have HO7 : Hid _ := hO7
      have HM7 : Hid _ := HMU.out _ _ hF7
      clear HR7 hW7 hF7 hO7 HVL HMU
      generalize LK.cutW xs (l ++ [(k : Int)]) x1 = l' at *
      generalize (l ++ [(k : Int)]) = l2 at *
      go_wp2_with fail
      refine Calls.mono WR.out ?_
      rintro e w8 ⟨c8, rfl, hW8, rfl⟩
      clear WR
      go_wp2
      go_roundw
      case rel => exact ⟨i + 1, ⟨x1, fs'.set k 0, wy ++ [(k : Int)]⟩, g7, c8, l', rfl, rfl, HA2, HLE, hW8, HF7.out, HO7.out⟩
      case measure => exact HM7.out
end Go.Proofs.Ytpabhjnpbnabiaa

/- WaysApart of the program. -/
namespace Go.Proofs.Ytpabhjnpbnabiaa
open Go.RowKit
theorem Try.infoIS : (Try.prog.info? 29).map (fun i => (i.zero, i.size, i.bytes)) = some (some (.slice none 0 0), 1, 24) := by kernel_rfl
set_option linter.unusedSimpArgs false in
set_option maxHeartbeats 3200000 in
set_option maxRecDepth 100000 in
theorem implWays_any (a : Option Addr) (ca : Nat) (xs : List I2) (f t : Int) (w : World) (hn : xs.length ≤ 1048576) (hin : MI2.RowAt w a xs) :
    Calls Try.prog 5 #[.slice a xs.length ca, .int .i64 f, .int .i64 t] w fun e w' => ∃ a1 c1 AA CC, e = .returned (.tuple #[.slice a1 (LK.wsL xs f t).length c1, .bool (FL.ask (LK.pip xs) f t)]) ∧ NR.Own 29 w' w.heap.size (.slice a1 (LK.wsL xs f t).length c1) (LK.wsL xs f t) AA CC ∧ Below w.heap.size w w' := by
  obtain ⟨i1, hi', hz0', hz1', hz2'⟩ := info_parts Try.infoIS
  have WC : Hid _ := LK.wsC xs f t
  have PO : Hid _ := pipesOfOne_any a ca xs w hn hin
  have HI : Hid (MI2.RowAt w a xs) := hin
  have MXC : Hid (FL.ask (LK.pip xs) f t = true → FL.mxN (LK.pip xs) f t = FL.outUp (LK.pip xs) (FL.maxF (LK.pip xs) f t) f xs.length ∧ FL.mxL (LK.pip xs) f t = FL.maxF (LK.pip xs) f t) := fun h => by
    have := (FL.mxC (LK.pip xs) f t).yes h
    rwa [LK.pip_len] at this
  have MX : Hid (∀ (g : Nat) (W : World), MI3.RowAt W (some ⟨g, 0, none⟩) (LK.pip xs) → Calls Try.prog 20 #[.slice (some ⟨g, 0, none⟩) xs.length xs.length, .int .i64 f, .int .i64 t] W fun e w' => ∃ a1 c1, e = .returned (.tuple #[.slice a1 (FL.mxL (LK.pip xs) f t).length c1, .int .i64 (FL.mxN (LK.pip xs) f t), .bool (FL.ask (LK.pip xs) f t)]) ∧ w'.ownsRow W.heap.size 3 1 (.slice a1 (FL.mxL (LK.pip xs) f t).length c1) (FL.mxL (LK.pip xs) f t).length (M4.iv (FL.mxL (LK.pip xs) f t)) ∧ Below W.heap.size W w') := fun g W h => by
    have := implMaxFlow_any (some ⟨g, 0, none⟩) xs.length (LK.pip xs) f t W (by rw [LK.pip_len]; exact hn) h
    rwa [LK.pip_len] at this
  generalize LK.wsL xs f t = L at *
  generalize FL.mxL (LK.pip xs) f t = ML at *
  generalize FL.mxN (LK.pip xs) f t = MN at *
  generalize FL.outUp (LK.pip xs) (FL.maxF (LK.pip xs) f t) f xs.length = N0 at *
  generalize FL.maxF (LK.pip xs) f t = F at *
  generalize FL.ask (LK.pip xs) f t = is at *
  clear hin
  go_enter Try.func5, Try.ntmps5
  go_wp2_with fail
  refine Calls.mono PO.out ?_
  rintro e w0 ⟨g, rfl, ho, hb0⟩
  have MX2 : Hid _ := MX.out g w0 (MI3.RowAt.of_own ho)
  clear PO MX ho
  go_wp2_with fail
  refine Calls.mono MX2.out ?_
  rintro e w1 ⟨a1, c1, rfl, ho, hb1⟩
  have hB1 := hb0.trans (hb1.mono hb0.size)
  clear MX2
  cases is with
  | false =>
    have hL := WC.out.no rfl
    subst hL
    clear WC MXC HI ho
    go_wp2
    go_ret2
    exact ⟨none, 0, fun _ => none, fun _ => 0, rfl, NR.Own.nil _ _ _ _ _, hB1⟩
  | true =>
    obtain ⟨hok, hx20, hfl, hL, hN0, hN2, hft⟩ := WC.out.yes rfl
    have HFT : Hid _ := hft
    obtain ⟨e1, e2⟩ := MXC.out rfl
    subst e1 e2
    obtain ⟨N, hN⟩ := Int.eq_ofNat_of_zero_le hN0
    subst hN
    rw [show ((N : Nat) : Int).toNat = N from by omega] at hfl hL
    have hfl0 := hfl.len
    have hLN : L.length = N := by rw [hL]; exact LK.ways_len _ _ _ _ _
    have HLN : Hid _ := hLN
    have HLE : Hid (L = (LK.waysUp xs f t ML N).1) := hL
    have NXT : Hid (∀ i, i < N → ∀ ds fs, LK.waysUp xs f t ML i = (ds, fs) → LK.Gone xs f t (N - i - 1) ⟨f, fs, []⟩ ∧ LK.waysUp xs f t ML (i + 1) = (ds ++ [LK.strt xs (LK.fin xs f t fs).way], (LK.fin xs f t fs).fs) ∧ ds.length = i ∧ (LK.strt xs (LK.fin xs f t fs).way).length ≤ 20) := fun i hi ds fs e => by
      have g := LK.ways_flw hok hfl i (by omega)
      rw [e] at g
      refine ⟨g.gone (by omega), by rw [LK.waysUp, e], ?_, LK.way_len hok g (by omega)⟩
      have := LK.ways_len xs f t ML i; rw [e] at this; exact this
    have FW : Hid (∀ (W : World) (gf r : Nat) (fs : List Int), LK.Gone xs f t r ⟨f, fs, []⟩ → MI2.RowAt W a xs → (∀ b off, a = some ⟨b, off, none⟩ → b ≠ gf) → W.ownsRow 0 3 1 (.slice (some ⟨gf, 0, none⟩) xs.length c1) xs.length (M4.iv fs) → Calls Try.prog 22 #[.slice a xs.length ca, .int .i64 f, .int .i64 t, .slice (some ⟨gf, 0, none⟩) xs.length c1] W fun e w' => ∃ a1 c2, e = .returned (.slice a1 (LK.strt xs (LK.fin xs f t fs).way).length c2) ∧ NR.In w' W.heap.size a1 (LK.strt xs (LK.fin xs f t fs).way) ∧ w'.ownsRow 0 3 1 (.slice (some ⟨gf, 0, none⟩) xs.length c1) xs.length (M4.iv (LK.fin xs f t fs).fs) ∧ MC.Only gf W w') := fun W gf r fs h1 h2 h3 h4 => followWay_any a ca gf c1 xs f t r fs W hok h1 h2 h3 h4
    have ST : Hid (LK.waysUp xs f t ML 0 = ([], ML)) := rfl
    rw [hfl0] at ho ⊢
    have HO1 : Hid (World.ownsRow w1 w0.heap.size 3 1 (.slice a1 xs.length c1) xs.length (M4.iv ML)) := ho
    have hs0 := hb0.size
    have hs1 := hb1.size
    clear WC MXC hok hfl hL hfl0 ho hN0 hLN hb0 hb1 hft
    go_wp2_with (at_make; refine wpList_make_full _ rfl _ _ 26 rfl w1.heap.size 29 i1 (.slice none 0 0) 1 Try.underlying26 hi' hz0' hz1' .i64 .i64 _ _ N rfl rfl rfl rfl ?_ ?_ ?_ ?_)
    · rw [hz2']; omega
    · unfold maxLen; omega
    · omega
    intro w2 hown hgrow
    rw [toList_madeCells_one] at hown
    have hb2 : Below w1.heap.size w1 w2 := (Below.refl _ _).grown hgrow (Nat.le_refl _) (fun k hk => by cases hk)
    have HW0 : Hid (LK.Ws 29 w2 w1.heap.size w1.heap.size N [] (fun _ => none) (fun _ => 0)) := ⟨by simpa [NR.hd] using hown, fun j hj => by simp at hj, fun i j _ hj => by simp at hj⟩
    have HO2 : Hid _ := M5.own_below HO1.out hb2
    have hB2 := hB1.trans (hb2.mono hB1.size)
    have hgl : ∀ gf, a1 = some ⟨gf, 0, none⟩ → w0.heap.size ≤ gf ∧ gf < w1.heap.size := fun gf e => HO1.out.lt gf (by rw [e]; rfl)
    have HGL : Hid _ := hgl
    clear hgrow hown HO1 hi' hz0' hz1' hz2' hb2 hgl
    go_wp2
    go_loopw [28] (fun iv wr => ∃ (i : Nat) (ds : List (List Int)) (fs : List Int) (AA : Nat → Option Addr) (CC : Nat → Nat), iv = .int .i64 i ∧ i ≤ N ∧ Hid (LK.waysUp xs f t ML i = (ds, fs)) ∧ Hid (LK.Ws 29 wr w1.heap.size w1.heap.size N ds AA CC) ∧ Hid (World.ownsRow wr w0.heap.size 3 1 (.slice a1 xs.length c1) xs.length (M4.iv fs)) ∧ Below w.heap.size w wr ∧ w1.heap.size ≤ wr.heap.size) (fun iv _ => (N - intOf iv).toNat)
    case atStart => exact ⟨0, [], ML, _, _, rfl, by omega, ST, HW0, HO2, hB2, Nat.le_of_lt (HW0.out.out.lt _ rfl).2⟩
    case round =>
      clear ST HW0 HO2 hB2
      obtain ⟨i, ds, fs, AA, CC, rfl, hi, hU, HWs, HOF, hb, hsz⟩ := hrel
      by_cases hl : i < N
      · obtain ⟨hG, hU2, hdl, hwl⟩ := NXT.out i hl ds fs hU.out
        have hxp : 0 < xs.length := by
          obtain ⟨k, hk⟩ := hG.some HFT.out; exact Nat.lt_of_le_of_lt (Nat.zero_le _) hk.lt
        obtain ⟨gf, rfl⟩ : ∃ gf, a1 = some ⟨gf, 0, none⟩ := by
          rcases HOF.out.2 with ⟨h', h0⟩ | ⟨gf, cap, cur, hv, _⟩
          · omega
          · simp only [Value.slice.injEq] at hv; exact ⟨gf, hv.1⟩
        obtain ⟨hg0, hg1⟩ := HGL.out gf rfl
        have hne : ∀ b off, a = some ⟨b, off, none⟩ → b ≠ gf := fun b off e => by
          rcases HI.out.is with e2 | ⟨b', o', e2, h2, _⟩
          · rw [e2] at hxp; simp at hxp
          · rw [e] at e2; simp only [Option.some.injEq, Addr.mk.injEq, and_true] at e2; omega
        have FW2 : Hid _ := FW.out wr gf (N - i - 1) fs hG (HI.out.below hb) hne (FL.own_base HOF.out (Nat.zero_le _))
        have HU2 : Hid _ := hU2
        have HDL : Hid _ := hdl
        generalize LK.strt xs (LK.fin xs f t fs).way = l at *
        generalize (LK.fin xs f t fs).fs = fs2 at *
        clear NXT FW hG hU2 hdl hU
        go_wp2_with fail
        refine Calls.mono FW2.out ?_
        rintro e w3 ⟨a2, c2, rfl, hI2, hF2, hO2⟩
        have hW3 := HWs.out.only hO2 hg1
        have hdN : ds.length < N := by rw [HDL.out]; exact hl
        have hW4 := hW3.put (c := c2) (by decide) hdN hI2 hsz (fun j hj h0 g' hg' => HWs.out.lt j hj h0 g' hg')
        rw [HDL.out] at hW4
        have hlen := hW3.out.1
        have hcell : ∃ u, w3.cell? ⟨w1.heap.size, i, none⟩ = some u := by
          rw [hW3.out.cellAt i (by omega)]
          exact ⟨_, List.getElem?_eq_getElem (by omega)⟩
        obtain ⟨u, hcell⟩ := hcell
        have hfz := hW3.out.frozenAt i
        have hb3 : Below w.heap.size w w3 := hb.trans (hO2.below (by omega) hb.size)
        have on4 := (MC.Only.refl w1.heap.size w3).setCell i (.slice a2 l.length c2)
        have hF4 := NR.own_only hF2 on4 (fun e => by simp only [Value.ownBlock, Option.some.injEq] at e; omega)
        have hb4 := hb3.trans (on4.below (by have := hB1.size; omega) hb3.size)
        have hs4 : w1.heap.size ≤ (w3.setCell ⟨w1.heap.size, i, none⟩ (.slice a2 l.length c2)).heap.size := Nat.le_trans hsz (Nat.le_trans hO2.size on4.size)
        have HW4 : Hid _ := hW4
        have HF4 : Hid (World.ownsRow (w3.setCell ⟨w1.heap.size, i, none⟩ (.slice a2 l.length c2)) w0.heap.size 3 1 (.slice (some ⟨gf, 0, none⟩) xs.length c1) xs.length (M4.iv fs2)) := FL.own_rebase hF4 hg0
        clear FW2 hI2 hF2 hO2 hW3 hW4 HWs HOF hlen hb3 on4 hF4 hb HDL hdN hne
        go_wp2
        go_roundw
        case rel => exact ⟨i + 1, _, fs2, _, _, by go_num, by omega, HU2, HW4, HF4, hb4, hs4⟩
        case measure => simp [intOf]; omega
      · obtain rfl : i = N := by omega
        have hE : L = ds := by have h1 := HLE.out; rw [hU.out] at h1; exact h1
        subst hE
        have hOw := HWs.out.own HLN.out
        have HRES : Hid (NR.Own 29 wr w.heap.size (.slice (some ⟨w1.heap.size, 0, none⟩) i i) L AA CC) := ⟨FL.own_base hOw.out hB1.size, fun j hj => (hOw.row j hj).mono hB1.size, hOw.far⟩
        clear NXT FW HLE HWs HOF hOw hU HGL HI
        go_wp2
        go_ret2
        exact ⟨some ⟨w1.heap.size, 0, none⟩, i, AA, CC, by rw [HLN.out]; rfl, by rw [HLN.out]; exact HRES.out, hb⟩
end Go.Proofs.Ytpabhjnpbnabiaa
