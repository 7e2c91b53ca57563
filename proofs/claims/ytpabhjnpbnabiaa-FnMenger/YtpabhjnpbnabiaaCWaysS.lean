/- Ways along a flow of the specification: l9Way, l9Straight, WaysApart. -/
import Derived.Test.YtpabhjnpbnabiaaRows
import Derived.Test.YtpabhjnpbnabiaaMWZ
import Derived.Test.YtpabhjnpbnabiaaMInfo
import Derived.Test.YtpabhjnpbnabiaaCLinks
import Derived.Test.YtpabhjnpbnabiaaCMaxS
import Derived.Test.YtpabhjnpbnabiaaCOutS
import Derived.WalkKit
import Derived.WalkSpells
import Derived.WalkLawsBesides
import Derived.Outline
import Derived.Deep.QuietTactic
import Derived.BigQuiet
namespace Go.Proofs.Ytpabhjnpbnabiaa
open Go.RowKit
namespace LK
theorem row_onlyS {w w' : World} {a : Option Addr} {xs : List I2} {p : Nat} (h : MI2.RowAt w a xs) (ho : MC.Only p w w') (hp : ∀ b off, a = some ⟨b, off, none⟩ → b ≠ p) : MI2.RowAt w' a xs := by
  rcases h.is with rfl | ⟨b, off, rfl, hlt, hc⟩
  · exact ⟨.inl rfl⟩
  · refine ⟨.inr ⟨b, off, rfl, Nat.lt_of_lt_of_le hlt ho.size, fun j hj => ?_⟩⟩
    obtain ⟨c0, c1⟩ := hc j hj
    have hne := hp b off rfl
    exact ⟨(ho.cell (x := ⟨b, _, none⟩) hlt hne).trans c0, (ho.cell (x := ⟨b, _, none⟩) hlt hne).trans c1⟩
/-- How many links have flow, read out of memory. -/
noncomputable def muS (W : World) (n : Nat) (v : Value) : Nat := cntUp (FL.rdL W n v) n
theorem muS_is {W : World} {b n : Nat} {v : Value} {fs : List Int} (h : W.ownsRow b 3 1 v n (M4.iv fs)) : muS W n v = cntUp fs n := by unfold muS; rw [FL.rdL_own h]
theorem lastOf_none {xs : List I2} {u : Int} : ∀ {l : List Int}, (∀ m, m < l.length → (MI2.at_ xs (l.getD m 0).toNat).a0 ≠ u) → lastOf xs u l = none
  | [], _ => rfl
  | y :: l, h => by
    rw [lastOf, lastOf_none (l := l) (fun m hm => by simpa using h (m + 1) (by simpa using hm))]
    simp only
    rw [if_neg (by simpa using h 0 (by simp))]
theorem lastOf_at {xs : List I2} {u : Int} : ∀ {l : List Int} {j : Nat}, j < l.length → (MI2.at_ xs (l.getD j 0).toNat).a0 = u → (∀ m, j < m → m < l.length → (MI2.at_ xs (l.getD m 0).toNat).a0 ≠ u) → lastOf xs u l = some (l.getD j 0, l.drop (j + 1))
  | y :: l, 0, _, h1, h2 => by
    rw [lastOf, lastOf_none (l := l) (fun m hm => by simpa using h2 (m + 1) (by omega) (by simpa using hm))]
    simp only
    rw [if_pos (by simpa using h1)]; rfl
  | y :: l, j + 1, hj, h1, h2 => by
    rw [lastOf, lastOf_at (l := l) (j := j) (by simpa using hj) (by simpa using h1) (fun m hm hl => by simpa using h2 (m + 1) (by omega) (by simpa using hl))]
    simp
theorem strt_at {xs : List I2} {l : List Int} {i j : Nat} (hi : i ≤ j) (hj : j < l.length) (h1 : (MI2.at_ xs (l.getD j 0).toNat).a0 = (MI2.at_ xs (l.getD i 0).toNat).a0) (h2 : ∀ m, j < m → m < l.length → (MI2.at_ xs (l.getD m 0).toNat).a0 ≠ (MI2.at_ xs (l.getD i 0).toNat).a0) : strt xs (l.drop i) = l.getD j 0 :: strt xs (l.drop (j + 1)) := by
  have hg : ∀ m, (l.drop i).getD m 0 = l.getD (i + m) 0 := fun m => by simp [List.getD_eq_getElem?_getD]
  have e : l.drop i = l.getD i 0 :: l.drop (i + 1) := by
    rw [List.drop_eq_getElem_cons (by omega), List.getD_eq_getElem?_getD, List.getElem?_eq_getElem (by omega)]; rfl
  have k := lastOf_at (xs := xs) (u := (MI2.at_ xs (l.getD i 0).toNat).a0) (l := l.drop i) (j := j - i) (by simp; omega) (by rw [hg, show i + (j - i) = j from by omega]; exact h1) (fun m hm hl => by rw [hg]; exact h2 (i + m) (by omega) (by simp at hl; omega))
  rw [hg, show i + (j - i) = j from by omega, List.drop_drop, show i + (j - i + 1) = j + 1 from by omega] at k
  rw [e] at k ⊢
  exact strt_cons k
end LK
set_option linter.unusedSimpArgs false in
set_option maxHeartbeats 3200000 in
set_option maxRecDepth 100000 in
theorem l9Way_any (a : Option Addr) (ca gf cf : Nat) (xs : List I2) (f t : Int) (r : Nat) (fs : List Int) (w : World) (hok : FL.okP (LK.pip xs) = true) (hG : LK.Gone xs f t r ⟨f, fs, []⟩) (hin : MI2.RowAt w a xs) (hne : ∀ b off, a = some ⟨b, off, none⟩ → b ≠ gf) (hown : w.ownsRow 0 3 1 (.slice (some ⟨gf, 0, none⟩) xs.length cf) xs.length (M4.iv fs)) :
    Calls Try.prog 28 #[.slice a xs.length ca, .int .i64 f, .int .i64 t, .slice (some ⟨gf, 0, none⟩) xs.length cf] w fun e w' => ∃ a1 c1, e = .returned (.slice a1 (LK.fin xs f t fs).way.length c1) ∧ w'.ownsRow w.heap.size 3 1 (.slice a1 (LK.fin xs f t fs).way.length c1) (LK.fin xs f t fs).way.length (M4.iv (LK.fin xs f t fs).way) ∧ w'.ownsRow 0 3 1 (.slice (some ⟨gf, 0, none⟩) xs.length cf) xs.length (M4.iv (LK.fin xs f t fs).fs) ∧ MC.Only gf w w' := by
  obtain ⟨i0, hi, hz0, hz1, hz2⟩ := info_parts Try.info3
  have hx20 : xs.length ≤ 20 := by have := ((FL.okP_iff _).1 hok).1; rwa [LK.pip_len] at this
  have hgf := (hown.lt gf rfl).2
  have FN : Hid (∀ i s, LK.AtW xs f t r fs i s → s.pos = t → LK.fin xs f t fs = s) := fun i s h hp => h.fin hp
  have SM : Hid (∀ i s, LK.AtW xs f t r fs i s → s.pos ≠ t → ∃ k, LK.Fst xs s.fs s.pos k) := fun i s h hp => h.go.some hp
  have NX : Hid (∀ i k s, LK.AtW xs f t r fs i s → s.pos ≠ t → LK.Fst xs s.fs s.pos k → LK.AtW xs f t r fs (i + 1) ⟨(MI2.at_ xs k).a1, s.fs.set k 0, s.way ++ [(k : Int)]⟩ ∧ LK.cntUp (s.fs.set k 0) xs.length < LK.cntUp s.fs xs.length) := fun i k s h hp hk => h.step hok hp hk
  have ST : Hid (LK.AtW xs f t r fs 0 ⟨f, fs, []⟩) := LK.AtW.start hG
  have HI : Hid (MI2.RowAt w a xs) := hin
  have HNE : Hid _ := hne
  have OW0 : Hid (World.ownsRow w 0 3 1 (.slice (some ⟨gf, 0, none⟩) xs.length cf) xs.length (M4.iv fs)) := hown
  generalize LK.fin xs f t fs = FI at *
  clear hin hne hown hG
  go_enter Try.func28, Try.ntmps28
  go_wp2
  go_loopw [9, 10] (fun v uv wr => ∃ (i : Nat) (s : LK.Wk), uv = .int .i64 s.pos ∧ Hid (LK.AtW xs f t r fs i s) ∧ Hid (World.ownsRow wr w.heap.size 3 1 v s.way.length (M4.iv s.way)) ∧ wr.ownsRow 0 3 1 (.slice (some ⟨gf, 0, none⟩) xs.length cf) xs.length (M4.iv s.fs) ∧ MC.Only gf w wr) (fun _ _ wr => LK.muS wr xs.length (.slice (some ⟨gf, 0, none⟩) xs.length cf))
  case atStart => exact ⟨0, ⟨f, fs, []⟩, rfl, ST, World.ownsRow_nil _ _ _ _, OW0.out, MC.Only.refl _ _⟩
  case round =>
    clear ST OW0
    obtain ⟨i, ⟨p, fs', wy⟩, rfl, hA, HWY0, hown, hO⟩ := hrel
    by_cases hp : p = t
    · have e1 := FN.out i _ hA.out hp
      obtain ⟨a3, c3, hv, _⟩ := M5.own_view HWY0.out
      simp only at hv
      rw [hv] at HWY0 ⊢
      have HFW : Hid (FI.way = wy) := by show _ = _; rw [e1]
      have HFF : Hid (FI.fs = fs') := by show _ = _; rw [e1]
      have HOW : Hid _ := hown
      have HON : Hid _ := hO
      clear FN SM NX HI HNE e1 hA hown hO hv
      subst hp
      generalize hwl : wy.length = wl at *
      have HWL : Hid _ := hwl
      clear hwl
      go_wp2
      go_ret
      exact ⟨a3, c3, by rw [HFW.out, HWL.out]; rfl, by rw [HFW.out, HWL.out]; exact HWY0.out, by rw [HFF.out]; exact HOW.out, HON.out⟩
    · obtain ⟨k0, hk⟩ := SM.out i _ hA.out hp
      obtain ⟨hA2, hcnt⟩ := NX.out i k0 _ hA.out hp hk
      have hkx : k0 < xs.length := hk.lt
      have hfl : fs'.length = xs.length := by have := hown.1; simpa [M4.iv] using this
      have h01 : ∀ k, k < xs.length → fs'.getD k 0 = 0 ∨ fs'.getD k 0 = 1 := hA.out.go.one
      have hwl : wy.length ≤ 20 := by
        have h2 := hA.out.len
        have h3 := hA.out.up
        simp only at h2
        omega
      have HK : Hid (LK.Fst xs fs' p k0) := hk
      have H01 : Hid _ := h01
      have HOF : Hid _ := hown
      have HON : Hid _ := hO
      have HA2 : Hid _ := hA2
      have HCN : Hid _ := hcnt
      clear FN SM NX hA hA2 hk hcnt h01 hown hO hfl
      have hpt : p ≠ t := hp
      rename World => W0
      go_wp2
      go_loopw [9, 10, 19] (fun v uv iv wi => ∃ k : Nat, iv = .int .i64 k ∧ k ≤ k0 ∧ uv = .int .i64 p ∧ Hid (World.ownsRow wi w.heap.size 3 1 v wy.length (M4.iv wy)) ∧ Below W0.heap.size W0 wi) (fun _ _ iv _ => (xs.length - intOf iv).toNat)
      case atStart => exact ⟨0, rfl, by omega, rfl, HWY0, Below.refl _ _⟩
      case round =>
        clear HWY0
        obtain ⟨k, rfl, hk, rfl, HWY, hb⟩ := hrel
        have hkl : k < xs.length := by omega
        have hgl0 : gf < W0.heap.size := Nat.lt_of_lt_of_le hgf HON.out.size
        have HI1 : MI2.RowAt wr a xs := (LK.row_onlyS HI.out HON.out HNE.out).below hb
        have hOF : World.ownsRow wr 0 3 1 (.slice (some ⟨gf, 0, none⟩) xs.length cf) xs.length (M4.iv fs') := M5.own_below HOF.out hb
        obtain ⟨b1, off, rfl, hlt, c0, c1⟩ := HI1.at hkl
        have d0 : wr.cell? ⟨gf, k, none⟩ = some (.int .i64 (fs'.getD k 0)) := by
          have hfl : fs'.length = xs.length := by have := hOF.1; simpa [M4.iv] using this
          have := M4.IntsAt.of_own hOF
          obtain ⟨b2, o2, e2, _, e3⟩ := this.at (k := k) (by omega)
          simp only [Option.some.injEq, Addr.mk.injEq, and_true] at e2
          obtain ⟨rfl, rfl⟩ := e2
          rwa [Nat.zero_add] at e3
        have hglw : gf < wr.heap.size := Nat.lt_of_lt_of_le hgl0 hb.size
        have kkx : (k : Int) < (xs.length : Int) := by omega
        by_cases e : k = k0
        · subst e
          obtain ⟨h1, h2⟩ := HK.out.is
          have h3 : fs'.getD k 0 = 1 := (H01.out k hkl).elim (fun e => absurd e h2) id
          rw [h3] at d0
          rw [h1] at c0
          have hfz := hOF.frozenAt k
          have hst := hOF.stored k (.int .i64 0)
          rw [M4.iv_set] at hst
          have on1 := (MC.Only.refl gf wr).setCell k (.int .i64 0)
          have hW1 := NR.own_only HWY.out on1 (fun e => by have := (HWY.out.lt _ e).1; omega)
          have HMU : Hid (∀ W' v', World.ownsRow W' 0 3 1 v' xs.length (M4.iv (fs'.set k 0)) → LK.muS W' xs.length v' < LK.muS W0 xs.length (.slice (some ⟨gf, 0, none⟩) xs.length cf)) := fun W' v' h => by rw [LK.muS_is h, LK.muS_is HOF.out]; exact HCN.out
          generalize MI2.at_ xs k = x at *
          obtain ⟨x0, x1⟩ := x
          simp only at c0 c1 h1 HA2
          subst h1
          have HFL : Hid _ := hst.1.alloc (.cells #[.int .i64 x0, .int .i64 x1] 59)
          have HON2 : Hid (MC.Only gf w ((wr.setCell ⟨gf, k, none⟩ (.int .i64 0)).alloc (.cells #[.int .i64 x0, .int .i64 x1] 59))) := ((HON.out.trans (MC.Only.of_below hb)).setCell k (.int .i64 0)).alloc _
          have HO : Hid _ := hW1.alloc (.cells #[.int .i64 x0, .int .i64 x1] 59)
          have hvb : ∀ g, Value.ownBlock _ = some g → g < wr.heap.size ∧ w.heap.size ≤ g := fun g hg => ⟨(HWY.out.lt g hg).2, (HWY.out.lt g hg).1⟩
          have HVB : Hid _ := hvb
          have hsw := HON.out.size
          have hsb := hb.size
          clear hvb HWY HK H01 HOF HON HCN HI1 hOF hst on1 hW1 hb h2 h3
          go_wp2_with (at_builtin; go_loud (refine wpList_append_own _ rfl _ _ 29 rfl w.heap.size 3 i0 (.int .i64 0) 1 8 Try.underlying29 hi hz0 hz1 hz2 rfl (by decide) _ _ _ rfl (World.ownsRow.alloc HO.out _) ⟨wr.heap.size + 1, 0, none⟩ 1 1 [.int .i64 (k : Int)] rfl rfl ?c1 ?c2 ?c3 ?c4 ?c5 ?_))
          all_goals try (first | rfl | omega | exact LK.newN _ _ _ _ (by simp) | exact M2.one1 _ _ | (unfold maxLen; omega) | (simp; omega))
          intro v' w3 hown1 hgrow _
          have R1 : Hid (World.ownsRow w3 w.heap.size 3 1 v' (wy ++ [(k : Int)]).length (M4.iv (wy ++ [(k : Int)]))) := by
            show World.ownsRow _ _ _ _ _ _ _; simpa [M4.iv] using hown1
          have R2 : Hid (World.ownsRow w3 0 3 1 (.slice (some ⟨gf, 0, none⟩) xs.length cf) xs.length (M4.iv (fs'.set k 0))) := World.ownsRow.kept (World.ownsRow.alloc HFL.out _) hgrow (.inr (fun e => by simp only [Value.ownBlock] at e; have := HVB.out gf e.symm; omega))
          have R3 : Hid (MC.Only gf w w3) := (HON2.out.alloc _).grown hgrow (fun q hq => (HVB.out q hq).2)
          have qx : w3.cell? ⟨wr.heap.size, 1, none⟩ = some (.int .i64 x1) := by
            refine hgrow.cell ?_ (fun e => by have := (HVB.out wr.heap.size e.symm).1; omega)
            rw [World.cell?_alloc_lt _ _ _ (by simp), World.cell?_alloc_at _ _ _ _ (by simp)]; rfl
          have HM := HMU.out _ _ R2.out
          clear hown1 hgrow HMU HVB HFL HON2 HO
          generalize wy ++ [(k : Int)] = wy' at *
          go_wp2
          go_roundw
          case rel => exact ⟨i + 1, ⟨x1, fs'.set k 0, wy'⟩, rfl, HA2, R1, R2.out, R3.out⟩
          case measure => exact HM
        · have hno := HK.out.no k (by omega)
          have hd : (MI2.at_ xs k).a0 ≠ p ∨ fs'.getD k 0 = 0 := by
            by_cases h1 : (MI2.at_ xs k).a0 = p
            · by_cases h2 : fs'.getD k 0 = 0
              · exact .inr h2
              · exact absurd ⟨h1, h2⟩ hno
            · exact .inl h1
          generalize MI2.at_ xs k = x at *
          obtain ⟨x0, x1⟩ := x
          generalize fs'.getD k 0 = y at *
          simp only at c0 c1 hd
          have HB : Hid (Below W0.heap.size W0 (wr.alloc (.cells #[.int .i64 x0, .int .i64 x1] 59))) := hb.alloc hb.size _
          have HO : Hid _ := HWY.out.alloc (.cells #[.int .i64 x0, .int .i64 x1] 59)
          clear HK H01 HOF HON HCN HI1 hOF hno HWY hb HA2
          by_cases h1 : x0 = p
          · have h2 : y = 0 := hd.elim (fun h => absurd h1 h) id
            subst h1 h2
            go_wp2
            go_roundw
            case rel => exact ⟨k + 1, by go_num, by omega, rfl, HO, HB.out⟩
            case measure => simp [intOf]; omega
          · have h1' : x0 ≠ p := h1
            go_wp2
            go_roundw
            case rel => exact ⟨k + 1, by go_num, by omega, rfl, HO, HB.out⟩
            case measure => simp [intOf]; omega
set_option linter.unusedSimpArgs false in
set_option maxHeartbeats 3200000 in
set_option maxRecDepth 100000 in
theorem l9Straight_any (a b : Option Addr) (ca cb : Nat) (xs : List I2) (f : Int) (way : List Int) (w : World) (_hn : xs.length ≤ 1048576) (hl : way.length ≤ 1000) (hv : ∀ x ∈ way, ∃ k : Nat, x = (k : Int) ∧ k < xs.length) (hin : MI2.RowAt w a xs) (hos : M4.IntsAt w b way) :
    Calls Try.prog 27 #[.slice a xs.length ca, .int .i64 f, .slice b way.length cb] w fun e w' => ∃ a1 c1, e = .returned (.slice a1 (LK.strt xs way).length c1) ∧ w'.ownsRow w.heap.size 3 1 (.slice a1 (LK.strt xs way).length c1) (LK.strt xs way).length (M4.iv (LK.strt xs way)) ∧ Below w.heap.size w w' := by
  obtain ⟨i0, hi, hz0, hz1, hz2⟩ := info_parts Try.info3
  have HI : Hid (MI2.RowAt w a xs) := hin
  have HS : Hid (M4.IntsAt w b way) := hos
  have HV : Hid (∀ j, j < way.length → ∃ k : Nat, way.getD j 0 = (k : Int) ∧ k < xs.length) := fun j hj => hv _ (by rw [List.getD_eq_getElem?_getD, List.getElem?_eq_getElem hj]; exact List.getElem_mem hj)
  have ST : Hid (LK.strt xs way = [] ++ LK.strt xs (way.drop 0)) := by show _ = _; simp
  have SA : Hid (∀ i j, i ≤ j → j < way.length → (MI2.at_ xs (way.getD j 0).toNat).a0 = (MI2.at_ xs (way.getD i 0).toNat).a0 → (∀ m, j < m → m < way.length → (MI2.at_ xs (way.getD m 0).toNat).a0 ≠ (MI2.at_ xs (way.getD i 0).toNat).a0) → LK.strt xs (way.drop i) = way.getD j 0 :: LK.strt xs (way.drop (j + 1))) := fun i j h1 h2 h3 h4 => LK.strt_at h1 h2 h3 h4
  have SN : Hid (LK.strt xs (way.drop way.length) = []) := by show _ = _; rw [List.drop_length]; exact LK.strt_nil xs
  generalize LK.strt xs way = L at *
  clear hin hos hv
  go_enter Try.func27, Try.ntmps27
  go_wp2
  go_loopw [7, 8] (fun v iv wr => ∃ (i : Nat) (s : List Int), iv = .int .i64 i ∧ i ≤ way.length ∧ Hid (L = s ++ LK.strt xs (way.drop i)) ∧ s.length ≤ i ∧ Hid (World.ownsRow wr w.heap.size 3 1 v s.length (M4.iv s)) ∧ Below w.heap.size w wr) (fun _ iv _ => (way.length - intOf iv).toNat)
  case atStart => exact ⟨0, [], rfl, by omega, ST, by simp, World.ownsRow_nil _ _ _ _, Below.refl _ _⟩
  case round =>
    clear ST
    obtain ⟨i, s, rfl, hiw, hE, hsl, HO, hb⟩ := hrel
    by_cases hli : i < way.length
    · obtain ⟨ki, hki, hkix⟩ := HV.out i hli
      rename World => W0
      have HB0 : Hid _ := hb
      have ii : IntKind.i64.wrap ((i : Int) + 1) = (i : Int) + 1 := by rw [IntKind.wrap_i64]; omega
      go_wp2
      go_loopw [9, 10] (fun jv kv wi => ∃ k j : Nat, kv = .int .i64 k ∧ jv = .int .i64 j ∧ i + 1 ≤ k ∧ k ≤ way.length ∧ i ≤ j ∧ j < k ∧ Hid ((MI2.at_ xs (way.getD j 0).toNat).a0 = (MI2.at_ xs (way.getD i 0).toNat).a0 ∧ ∀ m, j < m → m < k → (MI2.at_ xs (way.getD m 0).toNat).a0 ≠ (MI2.at_ xs (way.getD i 0).toNat).a0) ∧ Hid (World.ownsRow wi w.heap.size 3 1 u7 s.length (M4.iv s)) ∧ Below w.heap.size w wi) (fun _ kv _ => (way.length - intOf kv).toNat)
      case atStart => exact ⟨i + 1, i, by go_num, rfl, by omega, by omega, by omega, by omega, ⟨rfl, fun m h1 h2 => by omega⟩, HO, hb⟩
      case round =>
        clear HO hb HB0
        obtain ⟨k, j, rfl, rfl, hk1, hk2, hj1, hj2, HJ, HO, hb⟩ := hrel
        by_cases hlk : k < way.length
        · obtain ⟨kk, hkk, hkkx⟩ := HV.out k hlk
          have HIN := HI.out.below hb
          have HOS := M4.IntsAt.below HS.out hb
          obtain ⟨b1, off1, rfl, hlt1, d0⟩ := HOS.at hlk
          obtain ⟨b1', off1', e1, _, d1⟩ := HOS.at hli
          simp only [Option.some.injEq, Addr.mk.injEq, and_true] at e1
          obtain ⟨rfl, rfl⟩ := e1
          obtain ⟨b2, off2, rfl, hlt2, c0, -⟩ := HIN.at hkkx
          obtain ⟨b2', off2', e2, _, c2, -⟩ := HIN.at hkix
          simp only [Option.some.injEq, Addr.mk.injEq, and_true] at e2
          obtain ⟨rfl, rfl⟩ := e2
          rw [hkk] at d0
          rw [hki] at d1
          have HJ2 : Hid ((MI2.at_ xs kk).a0 ≠ (MI2.at_ xs ki).a0 → (MI2.at_ xs (way.getD j 0).toNat).a0 = (MI2.at_ xs (way.getD i 0).toNat).a0 ∧ ∀ m, j < m → m < k + 1 → (MI2.at_ xs (way.getD m 0).toNat).a0 ≠ (MI2.at_ xs (way.getD i 0).toNat).a0) := fun h => ⟨HJ.out.1, fun m h1 h2 => by
            by_cases e : m = k
            · subst e; rw [hkk, hki, show ((kk : Nat) : Int).toNat = kk from by omega, show ((ki : Nat) : Int).toNat = ki from by omega]; exact h
            · exact HJ.out.2 m h1 (by omega)⟩
          have HJ3 : Hid ((MI2.at_ xs kk).a0 = (MI2.at_ xs ki).a0 → (MI2.at_ xs (way.getD k 0).toNat).a0 = (MI2.at_ xs (way.getD i 0).toNat).a0 ∧ ∀ m, k < m → m < k + 1 → (MI2.at_ xs (way.getD m 0).toNat).a0 ≠ (MI2.at_ xs (way.getD i 0).toNat).a0) := fun h => ⟨by rw [hkk, hki, show ((kk : Nat) : Int).toNat = kk from by omega, show ((ki : Nat) : Int).toNat = ki from by omega]; exact h, fun m h1 h2 => by omega⟩
          have kk1 : (kk : Int) < (xs.length : Int) := by omega
          have kk2 : (ki : Int) < (xs.length : Int) := by omega
          have ww1 : (k : Int) < (way.length : Int) := by omega
          have ww2 : (i : Int) < (way.length : Int) := by omega
          have kw : IntKind.i64.wrap ((k : Int) + 1) = (k : Int) + 1 := by rw [IntKind.wrap_i64]; omega
          clear HJ HI HS HV SA SN hE HIN HOS hkk hki
          generalize (MI2.at_ xs kk).a0 = x0 at *
          generalize (MI2.at_ xs ki).a0 = y0 at *
          by_cases hxy : x0 = y0
          · have HJ4 : Hid _ := HJ3.out hxy
            clear HJ2 HJ3
            subst hxy
            go_wp2
            go_quiet (fail)
            go_wp2
            go_roundw
            case rel => exact ⟨k + 1, k, by go_num, rfl, by omega, by omega, by omega, by omega, HJ4, M5.own_below HO.out (below_drewN (Below.refl _ _) _), below_drewN hb _⟩
            case measure => simp [intOf]; omega
          · have HJ4 : Hid _ := HJ2.out hxy
            have hxn : (x0 == y0) = false := by simpa using hxy
            clear HJ2 HJ3
            go_wp2
            go_quiet (fail)
            go_wp2
            go_roundw
            case rel => exact ⟨k + 1, j, by go_num, rfl, by omega, by omega, by omega, by omega, HJ4, M5.own_below HO.out (below_drewN (Below.refl _ _) _), below_drewN hb _⟩
            case measure => simp [intOf]; omega
        · obtain rfl : k = way.length := by omega
          have hE2 := SA.out i j hj1 hj2 HJ.out.1 HJ.out.2
          have HOS := M4.IntsAt.below HS.out hb
          obtain ⟨b1, off1, rfl, hlt1, d0⟩ := HOS.at hj2
          have HE2 : Hid (L = (s ++ [way.getD j 0]) ++ LK.strt xs (way.drop (j + 1))) := by show _ = _; rw [hE.out, hE2]; simp
          have ww1 : (j : Int) < (way.length : Int) := by omega
          have jw : IntKind.i64.wrap ((j : Int) + 1) = (j : Int) + 1 := by rw [IntKind.wrap_i64]; omega
          have hbs := hb.size
          clear HJ HI HS HV SA SN hE HOS hki hE2
          generalize way.getD j 0 = y at *
          go_wp2_with (at_builtin; go_loud (refine wpList_append_own _ rfl _ _ 29 rfl w.heap.size 3 i0 (.int .i64 0) 1 8 Try.underlying29 hi hz0 hz1 hz2 rfl (by decide) _ _ _ rfl (World.ownsRow.alloc HO.out _) ⟨wr.heap.size, 0, none⟩ 1 1 [.int .i64 y] rfl rfl ?c1 ?c2 ?c3 ?c4 ?c5 ?_))
          all_goals try (first | rfl | omega | exact M2.new1 _ _ _ | exact M2.one1 _ _ | (unfold maxLen; omega) | (simp; omega))
          intro v' w3 hown1 hgrow _
          have R := M5.growI HO.out hb hbs (by exact hown1) hgrow
          have R1 : Hid _ := R.1
          have R2 := R.2
          have hs2 : (s ++ [y]).length ≤ j + 1 := by simp; omega
          clear hown1 hgrow R HO
          generalize s ++ [y] = s' at *
          go_wp2
          go_roundw
          case rel => exact ⟨j + 1, s', by go_num, by omega, HE2, hs2, R1, R2⟩
          case measure => simp [intOf]; omega
    · obtain rfl : i = way.length := by omega
      have hLs : L = s := by rw [hE.out, SN.out, List.append_nil]
      subst hLs
      obtain ⟨a3, c3, hv, _⟩ := M5.own_view HO.out
      rw [hv] at HO ⊢
      clear HI HS HV SA SN hE hv
      generalize hsll : L.length = sl at *
      have HSL : Hid _ := hsll
      clear hsll
      go_wp2
      go_ret
      exact ⟨a3, c3, by rw [HSL.out]; rfl, by rw [HSL.out]; exact HO.out, hb⟩
namespace LK
theorem in_grown {w w' : World} {B : Nat} {a : Option Addr} {l : List Int} {row : Option Nat} (h : NR.In w B a l) (hg : w.grownBy w' row) (hne : l ≠ [] → ∀ g, a = some ⟨g, 0, none⟩ → some g ≠ row) : NR.In w' B a l := by
  by_cases el : l = []
  · rw [el]; exact .nil _ _ _
  · rcases h.is with e | ⟨g, m, vs, ha, hw, h1, h2⟩
    · exact absurd e el
    · exact ⟨.inr ⟨g, m, vs, ha, hw.kept hg (.inr (hne el g ha)), h1, h2⟩⟩
/-- The rows' blocks are none of the outer row's. -/
theorem out_ne {T : TypeId} (hT : T ≠ 3) {w : World} {B B' n : Nat} {v : Value} {vs : List Value} {a : Option Addr} {l : List Int} (ho : w.ownsRow B T 1 v n vs) (h : NR.In w B' a l) (hl : l ≠ []) : ∀ g, a = some ⟨g, 0, none⟩ → some g ≠ v.ownBlock := by
  intro g ea e
  rcases ho.2 with ⟨rfl, _⟩ | ⟨g4, cap4, cur4, rfl, _, hg4, _⟩
  · cases e
  · simp only [Value.ownBlock, Option.some.injEq] at e
    subst e
    rcases h.is with e | ⟨g', m, us, ha, hw, _⟩
    · exact hl e
    · rw [ea] at ha
      simp only [Option.some.injEq, Addr.mk.injEq, and_true] at ha
      subst ha
      rcases hw.2 with ⟨h', _⟩ | ⟨g3, cap3, cur3, hv3, _, hg3, _⟩
      · cases h'
      · simp only [Value.slice.injEq, Option.some.injEq, Addr.mk.injEq, and_true] at hv3
        obtain ⟨rfl, _⟩ := hv3
        rw [hg4] at hg3
        simp only [Option.some.injEq, Obj.cells.injEq] at hg3
        exact hT hg3.2.1
end LK
theorem Try.infoISS : (Try.prog.info? 29).map (fun i => (i.zero, i.size, i.bytes)) = some (some (.slice none 0 0), 1, 24) := by kernel_rfl
set_option linter.unusedSimpArgs false in
set_option maxHeartbeats 3200000 in
set_option maxRecDepth 100000 in
theorem specWaysO_any (a : Option Addr) (ca : Nat) (xs : List I2) (f t : Int) (w : World) (hn : xs.length ≤ 1048576) (hin : MI2.RowAt w a xs) :
    Calls Try.prog 6 #[.slice a xs.length ca, .int .i64 f, .int .i64 t] w fun e w' => ∃ a1 c1 AA CC, e = .returned (.tuple #[.slice a1 (LK.wsL xs f t).length c1, .bool (FL.ask (LK.pip xs) f t)]) ∧ NR.Own 29 w' w.heap.size (.slice a1 (LK.wsL xs f t).length c1) (LK.wsL xs f t) AA CC ∧ Below w.heap.size w w' := by
  obtain ⟨i1, hi', hz0', hz1', hz2'⟩ := info_parts Try.infoISS
  have WC : Hid _ := LK.wsC xs f t
  have AK : Hid _ := l9Ask_any a ca xs f t w hn hin _ rfl
  have HI : Hid (MI2.RowAt w a xs) := hin
  have PO : Hid (∀ W : World, MI2.RowAt W a xs → _) := fun W h => l9Pipes_any a ca xs W hn h
  have MX : Hid (FL.ask (LK.pip xs) f t = true → ∀ (b : Option Addr) (cb : Nat) (W : World), MI3.RowAt W b (LK.pip xs) → Calls Try.prog 25 #[.slice b xs.length cb, .int .i64 f, .int .i64 t] W fun e w' => ∃ a1 c1, e = .returned (.slice a1 xs.length c1) ∧ w'.ownsRow W.heap.size 3 1 (.slice a1 xs.length c1) xs.length (M4.iv (FL.maxF (LK.pip xs) f t)) ∧ Below W.heap.size W w') := fun h b cb W h1 => by
    have := l8Max_any b cb (LK.pip xs) f t W (FL.ask_is h) h1
    rwa [LK.pip_len] at this
  have OU : Hid (FL.ask (LK.pip xs) f t = true → ∀ (b c : Option Addr) (cb cc : Nat) (W : World), MI3.RowAt W b (LK.pip xs) → M4.IntsAt W c (FL.maxF (LK.pip xs) f t) → Calls Try.prog 26 #[.slice b xs.length cb, .slice c xs.length cc, .int .i64 f] W fun e w' => e = .returned (.int .i64 (FL.outUp (LK.pip xs) (FL.maxF (LK.pip xs) f t) f xs.length)) ∧ Below W.heap.size W w') := fun h b c cb cc W h1 h2 => by
    have A := FL.ask_is h
    have o := FL.maxF_ok A
    have := l8Out_any b c cb cc (LK.pip xs) (FL.maxF (LK.pip xs) f t) f W A.ok o.1 o.2 h1 h2 _ rfl
    rw [o.1, LK.pip_len] at this
    exact this
  generalize LK.wsL xs f t = L at *
  generalize FL.outUp (LK.pip xs) (FL.maxF (LK.pip xs) f t) f xs.length = N0 at *
  generalize FL.maxF (LK.pip xs) f t = ML at *
  generalize FL.ask (LK.pip xs) f t = is at *
  clear hin
  go_enter Try.func6, Try.ntmps6
  go_wp2_with fail
  refine Calls.mono AK.out ?_
  rintro e w0 ⟨rfl, hb0⟩
  clear AK
  cases is with
  | false =>
    have hL := WC.out.no rfl
    subst hL
    clear WC HI PO MX OU
    go_wp2
    go_ret2
    exact ⟨none, 0, fun _ => none, fun _ => 0, rfl, NR.Own.nil _ _ _ _ _, hb0⟩
  | true =>
    obtain ⟨hok, hx20, hfl, hL, hN0, hN2, hft⟩ := WC.out.yes (by trivial)
    have HFT : Hid _ := hft
    obtain ⟨N, hN⟩ := Int.eq_ofNat_of_zero_le hN0
    subst hN
    rw [show ((N : Nat) : Int).toNat = N from by omega] at hfl hL
    have hLN : L.length = N := by rw [hL]; exact LK.ways_len _ _ _ _ _
    have HLN : Hid _ := hLN
    have HLE : Hid (L = (LK.waysUp xs f t ML N).1) := hL
    have NXT : Hid (∀ i, i < N → ∀ ds fs, LK.waysUp xs f t ML i = (ds, fs) → LK.Gone xs f t (N - i - 1) ⟨f, fs, []⟩ ∧ LK.waysUp xs f t ML (i + 1) = (ds ++ [LK.strt xs (LK.fin xs f t fs).way], (LK.fin xs f t fs).fs) ∧ ds.length = i ∧ (LK.strt xs (LK.fin xs f t fs).way).length ≤ 20 ∧ (LK.fin xs f t fs).way.length ≤ 20 ∧ ∀ x ∈ (LK.fin xs f t fs).way, ∃ k : Nat, x = (k : Int) ∧ k < xs.length) := fun i hi ds fs e => by
      have g := LK.ways_flw hok hfl i (by omega)
      rw [e] at g
      replace g : LK.Flw xs f t (N - i) fs := g
      obtain ⟨i', h1, h2⟩ := LK.fin_end hok (g.gone (by omega))
      refine ⟨g.gone (by omega), by rw [LK.waysUp, e], ?_, LK.way_len hok g (by omega), by have := h1.len; have := h1.up; omega, fun x hx => ?_⟩
      · have := LK.ways_len xs f t ML i; rw [e] at this; exact this
      · obtain ⟨k, e1, e2, _⟩ := h1.no x hx; exact ⟨k, e1, e2⟩
    have WF : Hid (∀ (W : World) (gf c1 r : Nat) (fs : List Int), LK.Gone xs f t r ⟨f, fs, []⟩ → MI2.RowAt W a xs → (∀ b off, a = some ⟨b, off, none⟩ → b ≠ gf) → W.ownsRow 0 3 1 (.slice (some ⟨gf, 0, none⟩) xs.length c1) xs.length (M4.iv fs) → Calls Try.prog 28 #[.slice a xs.length ca, .int .i64 f, .int .i64 t, .slice (some ⟨gf, 0, none⟩) xs.length c1] W fun e w' => ∃ a1 c2, e = .returned (.slice a1 (LK.fin xs f t fs).way.length c2) ∧ w'.ownsRow W.heap.size 3 1 (.slice a1 (LK.fin xs f t fs).way.length c2) (LK.fin xs f t fs).way.length (M4.iv (LK.fin xs f t fs).way) ∧ w'.ownsRow 0 3 1 (.slice (some ⟨gf, 0, none⟩) xs.length c1) xs.length (M4.iv (LK.fin xs f t fs).fs) ∧ MC.Only gf W w') := fun W gf c1 r fs h1 h2 h3 h4 => l9Way_any a ca gf c1 xs f t r fs W hok h1 h2 h3 h4
    have SF : Hid (∀ (W : World) (b : Option Addr) (cb : Nat) (way : List Int), way.length ≤ 20 → (∀ x ∈ way, ∃ k : Nat, x = (k : Int) ∧ k < xs.length) → MI2.RowAt W a xs → M4.IntsAt W b way → Calls Try.prog 27 #[.slice a xs.length ca, .int .i64 f, .slice b way.length cb] W fun e w' => ∃ a1 c1, e = .returned (.slice a1 (LK.strt xs way).length c1) ∧ w'.ownsRow W.heap.size 3 1 (.slice a1 (LK.strt xs way).length c1) (LK.strt xs way).length (M4.iv (LK.strt xs way)) ∧ Below W.heap.size W w') := fun W b cb way h1 h2 h3 h4 => l9Straight_any a b ca cb xs f way W (by omega) (by omega) h2 h3 h4
    have ST : Hid (LK.waysUp xs f t ML 0 = ([], ML)) := rfl
    have PO2 : Hid _ := PO.out w0 (HI.out.below hb0)
    have MX2 : Hid _ := MX.out (by trivial)
    have OU2 : Hid _ := OU.out (by trivial)
    clear WC PO MX OU hok hfl hL hN0 hLN hft
    go_wp2_with fail
    refine Calls.mono PO2.out ?_
    rintro e w1 ⟨b1, cb1, rfl, hr, hb1⟩
    have HR : Hid (MI3.RowAt w1 b1 (LK.pip xs)) := hr
    have hB1 := hb0.trans (hb1.mono hb0.size)
    have MX3 : Hid _ := MX2.out b1 cb1 w1 hr
    clear PO2 MX2 hr hb0 hb1
    go_wp2_with fail
    refine Calls.mono MX3.out ?_
    rintro e w2 ⟨a1, c1, rfl, ho, hb2⟩
    have hB2 := hB1.trans (hb2.mono hB1.size)
    have OU3 : Hid _ := OU2.out b1 a1 cb1 c1 w2 (HR.out.below hb2) (M5.own_ints ho)
    have HO2 : Hid (World.ownsRow w2 w1.heap.size 3 1 (.slice a1 xs.length c1) xs.length (M4.iv ML)) := ho
    have hsB := hB1.size
    clear MX3 OU2 HR ho hb2 hB1
    go_wp2_with fail
    refine Calls.mono OU3.out ?_
    rintro e w3 ⟨rfl, hb3⟩
    have hB3 := hB2.trans (hb3.mono hB2.size)
    have hgl : ∀ gf, a1 = some ⟨gf, 0, none⟩ → w1.heap.size ≤ gf ∧ gf < w3.heap.size := fun gf e => ⟨(HO2.out.lt gf (by rw [e]; rfl)).1, Nat.lt_of_lt_of_le (HO2.out.lt gf (by rw [e]; rfl)).2 hb3.size⟩
    have HGL : Hid _ := hgl
    have HO3 : Hid (World.ownsRow w3 w1.heap.size 3 1 (.slice a1 xs.length c1) xs.length (M4.iv ML)) := M5.own_below HO2.out hb3
    clear OU3 hb3 hB2 hgl HO2
    go_wp2
    go_loopw [10, 11] (fun nv v wr => ∃ (i : Nat) (ds : List (List Int)) (fs : List Int) (AA : Nat → Option Addr) (CC : Nat → Nat), nv = .int .i64 ((N : Int) - (i : Int)) ∧ i ≤ N ∧ Hid (LK.waysUp xs f t ML i = (ds, fs)) ∧ Hid (NR.Own 29 wr w3.heap.size v ds AA CC) ∧ Hid (World.ownsRow wr w1.heap.size 3 1 (.slice a1 xs.length c1) xs.length (M4.iv fs)) ∧ Below w.heap.size w wr ∧ w3.heap.size ≤ wr.heap.size) (fun nv _ _ => (intOf nv).toNat)
    case atStart => exact ⟨0, [], ML, fun _ => none, fun _ => 0, by simp, by omega, ST, NR.Own.nil _ _ _ _ _, HO3, hB3, Nat.le_refl _⟩
    case round =>
      clear ST HO3
      obtain ⟨i, ds, fs, AA, CC, rfl, hi, hU, HOW, HOF, hb, hsz⟩ := hrel
      by_cases hl : i < N
      · obtain ⟨hG, hU2, hdl, hwl, hyl, hyv⟩ := NXT.out i hl ds fs hU.out
        have hxp : 0 < xs.length := by
          obtain ⟨k, hk⟩ := hG.some HFT.out; exact Nat.lt_of_le_of_lt (Nat.zero_le _) hk.lt
        obtain ⟨gf, rfl⟩ : ∃ gf, a1 = some ⟨gf, 0, none⟩ := by
          rcases HOF.out.2 with ⟨h', h0⟩ | ⟨gf, cap, cur, hv, _⟩
          · omega
          · simp only [Value.slice.injEq] at hv; exact ⟨gf, hv.1⟩
        obtain ⟨hg0, hg1⟩ := HGL.out gf rfl
        have hne : ∀ b off, a = some ⟨b, off, none⟩ → b ≠ gf := fun b off e => by
          rcases HI.out.is with e2 | ⟨b', o', e2, h2, _⟩
          · rw [e2] at hxp; simp at hxp
          · rw [e] at e2; simp only [Option.some.injEq, Addr.mk.injEq, and_true] at e2; omega
        have WF2 : Hid _ := WF.out wr gf c1 (N - i - 1) fs hG (HI.out.below hb) hne (FL.own_base HOF.out (Nat.zero_le _))
        have SF2 : Hid _ := fun W b cb h1 h2 => SF.out W b cb (LK.fin xs f t fs).way hyl hyv h1 h2
        have HU2 : Hid _ := hU2
        have HDL : Hid _ := hdl
        generalize LK.strt xs (LK.fin xs f t fs).way = l at *
        generalize (LK.fin xs f t fs).fs = fs2 at *
        generalize (LK.fin xs f t fs).way = wy at *
        have hNi : (0 : Int) < (N : Int) - (i : Int) := by omega
        have hWr : IntKind.i64.wrap ((N : Int) - (i : Int) - 1) = (N : Int) - (i : Int) - 1 := by rw [IntKind.wrap_i64]; omega
        clear NXT WF SF hG hU2 hdl hU hyv
        generalize hyn : wy.length = yn at *
        clear hyn
        generalize hln : l.length = ln at *
        have HLL : Hid _ := hln
        clear hln
        go_wp2_with fail
        refine Calls.mono WF2.out ?_
        rintro e w4 ⟨a4, c4, rfl, hY, hF4, hO4⟩
        have hb4 : Below w.heap.size w w4 := hb.trans (hO4.below (by omega) hb.size)
        have SF3 : Hid _ := SF2.out w4 a4 c4 (HI.out.below hb4) (M5.own_ints hY)
        clear WF2 SF2 hY
        go_wp2_with fail
        refine Calls.mono SF3.out ?_
        rintro e w5 ⟨a5, c5, rfl, hZ, hb5⟩
        have hB5 := hb4.trans (hb5.mono hb4.size)
        have hOW5 := (HOW.out.only hO4 hg1).below hb5
        have hF5 := M5.own_below hF4 hb5
        have hI5 : NR.In w5 w4.heap.size a5 l := NR.In.of_own hZ
        have hlt4 : ∀ j, j < ds.length → NR.rw_ ds j ≠ [] → ∀ g, AA j = some ⟨g, 0, none⟩ → g < w4.heap.size := fun j hj h0 g hg => by
          have r := (HOW.out.only hO4 hg1).row j hj
          rw [hg] at r; exact (r.lt h0).2
        have hs5 : w3.heap.size ≤ w5.heap.size := Nat.le_trans hsz (Nat.le_trans hO4.size hb5.size)
        have hs45 : w3.heap.size ≤ w4.heap.size := Nat.le_trans hsz hO4.size
        have HOW5 : Hid _ := hOW5
        have HF5 : Hid _ := hF5
        have HI5 : Hid _ := hI5
        have HLT4 : Hid _ := hlt4
        clear SF3 hZ hOW5 hF5 hI5 hlt4 hF4 hO4 hb4 hb5 HOW HOF hb
        go_wp2_with (at_builtin; go_loud (refine wpList_append_own _ rfl _ _ 26 rfl w3.heap.size 29 i1 (.slice none 0 0) 1 24 Try.underlying26 hi' hz0' hz1' hz2' rfl (by decide) _ _ _ rfl (World.ownsRow.alloc HOW5.out.out _) ⟨w5.heap.size, 0, none⟩ 1 1 [.slice a5 ln c5] rfl rfl ?c1 ?c2 ?c3 ?c4 ?c5 ?_))
        all_goals try (first | rfl | omega | exact M2.new1 _ _ _ | (intro u hu; simp at hu; subst hu; rfl) | (unfold maxLen; rw [HDL.out]; omega) | (rw [HDL.out]; omega) | (simp; omega))
        intro v' w6 hown6 hgrow6 _
        have hold6 : ∀ j, j < ds.length → NR.In w6 w3.heap.size (AA j) (NR.rw_ ds j) := fun j hj => by
          have r := HOW5.out.row j hj
          have ra : NR.In (w5.alloc (.cells #[.slice a5 ln c5] 29)) w3.heap.size (AA j) (NR.rw_ ds j) := r.below ((Below.refl _ w5).alloc (Nat.le_refl _) _)
          exact LK.in_grown ra hgrow6 (fun h0 => LK.out_ne (by decide) HOW5.out.out r h0)
        have hnew6 : NR.In w6 w3.heap.size a5 l := by
          have ra : NR.In (w5.alloc (.cells #[.slice a5 ln c5] 29)) w4.heap.size a5 l := NR.In.below HI5.out ((Below.refl _ w5).alloc (Nat.le_refl _) _)
          exact (LK.in_grown ra hgrow6 (fun h0 => LK.out_ne (by decide) HOW5.out.out HI5.out h0)).mono hs45
        have hfar6 : l ≠ [] → ∀ j, j < ds.length → NR.rw_ ds j ≠ [] → AA j ≠ a5 := fun h0 j hj hj0 ea => by
          obtain ⟨g, hg⟩ := (HOW5.out.row j hj).some hj0
          have h1 := HLT4.out j hj hj0 g hg
          have r := HI5.out
          rw [← ea, hg] at r
          have := (NR.In.lt r h0).1
          omega
        have hOW6 := HOW5.out.snoc (w' := w6) (v' := v') (l := l) (a := a5) (c := c5) hold6 hnew6 hfar6 (by rw [HLL.out]; exact hown6)
        have hF6 : World.ownsRow w6 w1.heap.size 3 1 (.slice (some ⟨gf, 0, none⟩) xs.length c1) xs.length (M4.iv fs2) := by
          have k0 := World.ownsRow.kept (World.ownsRow.alloc HF5.out (.cells #[.slice a5 ln c5] 29)) hgrow6 (.inr (fun e => by
            simp only [Value.ownBlock] at e
            have := (HOW5.out.out.lt gf e.symm).1
            omega))
          rcases k0.2 with ⟨h', _⟩ | ⟨g', c', cur, hv, _, rest⟩
          · cases h'
          · simp only [Value.slice.injEq, Option.some.injEq, Addr.mk.injEq, and_true] at hv
            obtain ⟨rfl, -, rfl⟩ := hv
            exact ⟨k0.1, .inr ⟨gf, c1, cur, rfl, hg0, rest⟩⟩
        have hB6 : Below w.heap.size w w6 := (hB5.alloc hB5.size _).grown hgrow6 (by have := hB5.size; simp; omega) (fun q hq => by have := (HOW5.out.out.lt q hq).1; have := hB3.size; omega)
        have hs6 : w3.heap.size ≤ w6.heap.size := by have := hgrow6.size; simp at this; omega
        have HOW6 : Hid _ := hOW6
        have HF6 : Hid _ := hF6
        clear hown6 hgrow6 hold6 hnew6 hfar6 hOW6 hF6 HOW5 HF5 HI5 HLT4 hB5
        go_wp2
        go_roundw
        case rel => exact ⟨i + 1, _, fs2, _, _, by push_cast; congr 1; omega, by omega, HU2, HOW6, HF6, hB6, hs6⟩
        case measure => simp [intOf]; omega
      · obtain rfl : i = N := by omega
        have hE : L = ds := by have h1 := HLE.out; rw [hU.out] at h1; exact h1
        subst hE
        obtain ⟨a9, c9, hv, -⟩ := HOW.out.view
        have hz : ((i : Int) - (i : Int)) = 0 := by omega
        rw [hz]
        rw [hv] at HOW ⊢
        have HRW : Hid (NR.Own 29 wr w.heap.size (.slice a9 L.length c9) L AA CC) := ⟨FL.own_base HOW.out.out hB3.size, fun j hj => (HOW.out.row j hj).mono hB3.size, HOW.out.far⟩
        clear NXT WF SF HLE HOF hU HGL HI HOW hv
        generalize hll : L.length = ll at *
        have HLL : Hid _ := hll
        clear hll
        go_wp2
        go_ret2
        exact ⟨a9, c9, AA, CC, by rw [HLL.out]; rfl, by rw [HLL.out]; exact HRW.out, hb⟩
theorem specWays_any (a : Option Addr) (ca : Nat) (xs : List I2) (f t : Int) (w : World) (hn : xs.length ≤ 1048576) (hin : MI2.RowAt w a xs) :
    Calls Try.prog 6 #[.slice a xs.length ca, .int .i64 f, .int .i64 t] w fun e w' => ∃ a1 c1, e = .returned (.tuple #[.slice a1 (LK.wsL xs f t).length c1, .bool (FL.ask (LK.pip xs) f t)]) ∧ NR.RowsAt w' a1 (LK.wsL xs f t) ∧ Below w.heap.size w w' :=
  (specWaysO_any a ca xs f t w hn hin).mono fun _ _ ⟨a1, c1, _, _, h1, h2, h3⟩ => ⟨a1, c1, h1, h2.rows, h3⟩
end Go.Proofs.Ytpabhjnpbnabiaa
