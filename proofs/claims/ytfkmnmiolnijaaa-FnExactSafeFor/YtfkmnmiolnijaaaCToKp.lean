/- The laws' toKeeper copies a keeper, each row of it; toKeeperS copies a slice of them. -/
import Derived.Test.YtfkmnmiolnijaaaRows
import Derived.Test.YtfkmnmiolnijaaaMKp
import Derived.Test.YtfkmnmiolnijaaaMBxN
import Derived.Test.YtfkmnmiolnijaaaCToIntS
import Derived.Test.YtfkmnmiolnijaaaCToHold
import Derived.WalkKit
import Derived.WalkSpells
import Derived.WalkLawsBesides
import Derived.Outline
namespace Go.Proofs.Ytfkmnmiolnijaaa
open Go.RowKit
namespace KP
theorem IA.new {w w' : World} {B : Nat} {l : List Int} (h : M4.IntsAt w' (some ⟨w.heap.size, 0, none⟩) l) (hB : B ≤ w.heap.size) : IA w' B (some ⟨w.heap.size, 0, none⟩) l := ⟨h, fun _ b off e => by simp only [Option.some.injEq, Addr.mk.injEq] at e; omega⟩
theorem HA.of_own {w : World} {B base e g n cap : Nat} {l : List I2} (h : w.ownsRow base e 2 (.slice (some ⟨g, 0, none⟩) n cap) n (MI2.flat l)) (hB : B ≤ base) : HA w B (some ⟨g, 0, none⟩) l := ⟨MI2.RowAt.of_own h, fun _ b off e => by simp only [Option.some.injEq, Addr.mk.injEq] at e; have := (h.lt g rfl).1; omega⟩
end KP
set_option linter.unusedSimpArgs false in
set_option maxHeartbeats 3200000 in
set_option maxRecDepth 100000 in
theorem toKeeper_any (p : Kp) (w : World) (hp : KP.In w 0 p) (h1 : p.ss.length ≤ 1048576) (h2 : p.hs.length ≤ 1048576) (h3 : p.ts.length ≤ 1048576) :
    Calls Try.prog 38 #[p.v] w fun e w' => ∃ q : Kp, e = .returned q.v ∧ q.said = p.said ∧ KP.In w' w.heap.size q ∧ Below w.heap.size w w' := by
  obtain ⟨ss, hs, ts, sa, ha, ta, sc, hc, tc⟩ := p
  simp only at h1 h2 h3
  have S1 : Hid (∀ W : World, Below w.heap.size w W → Calls Try.prog 21 #[.slice sa ss.length sc] W fun e w' => e = .returned (.slice (some ⟨W.heap.size, 0, none⟩) ss.length ss.length) ∧ M4.IntsAt w' (some ⟨W.heap.size, 0, none⟩) ss ∧ Below W.heap.size W w') := fun W h => toIntS_any sa sc ss W h1 (M4.IntsAt.below hp.s.at_ h)
  have S2 : Hid (∀ W : World, Below w.heap.size w W → Calls Try.prog 54 #[.slice ha hs.length hc] W fun e w' => ∃ g, e = .returned (.slice (some ⟨g, 0, none⟩) hs.length hs.length) ∧ w'.ownsRow W.heap.size 61 2 (.slice (some ⟨g, 0, none⟩) hs.length hs.length) hs.length (MI2.flat hs) ∧ Below W.heap.size W w') := fun W h => toHoldS_any ha hc hs W h2 (hp.h.at_.below h)
  have S3 : Hid (∀ W : World, Below w.heap.size w W → Calls Try.prog 21 #[.slice ta ts.length tc] W fun e w' => e = .returned (.slice (some ⟨W.heap.size, 0, none⟩) ts.length ts.length) ∧ M4.IntsAt w' (some ⟨W.heap.size, 0, none⟩) ts ∧ Below W.heap.size W w') := fun W h => toIntS_any ta tc ts W h3 (M4.IntsAt.below hp.t.at_ h)
  have HL1 : Hid (ss.length ≤ maxLen) := hp.sl
  have HL2 : Hid (hs.length ≤ maxLen) := hp.hl
  have HL3 : Hid (ts.length ≤ maxLen) := hp.tl
  clear hp
  go_enter Try.func38, Try.ntmps38
  go_wp2_with fail
  have hB : Below w.heap.size w (((w.alloc (.cells #[.slice sa ss.length sc, .slice ha hs.length hc, .slice ta ts.length tc] 66)).alloc (.cells #[.slice none 0 0, .slice none 0 0, .slice none 0 0] 50)).alloc (.cells #[.slice none 0 0, .slice none 0 0, .slice none 0 0] 50)) := (((Below.refl _ w).alloc (Nat.le_refl _) _).alloc (by simp) _).alloc (by simp; omega) _
  have x0 : BxN (((w.alloc (.cells #[.slice sa ss.length sc, .slice ha hs.length hc, .slice ta ts.length tc] 66)).alloc (.cells #[.slice none 0 0, .slice none 0 0, .slice none 0 0] 50)).alloc (.cells #[.slice none 0 0, .slice none 0 0, .slice none 0 0] 50)) w.heap.size [.slice sa ss.length sc, .slice ha hs.length hc, .slice ta ts.length tc] 66 := ((BxN.new w _ _ rfl).alloc _).alloc _
  have x1 : BxN (((w.alloc (.cells #[.slice sa ss.length sc, .slice ha hs.length hc, .slice ta ts.length tc] 66)).alloc (.cells #[.slice none 0 0, .slice none 0 0, .slice none 0 0] 50)).alloc (.cells #[.slice none 0 0, .slice none 0 0, .slice none 0 0] 50)) (w.heap.size + 1) [.slice none 0 0, .slice none 0 0, .slice none 0 0] 50 := (BxN.new _ _ _ (by simp)).alloc _
  have x2 : BxN (((w.alloc (.cells #[.slice sa ss.length sc, .slice ha hs.length hc, .slice ta ts.length tc] 66)).alloc (.cells #[.slice none 0 0, .slice none 0 0, .slice none 0 0] 50)).alloc (.cells #[.slice none 0 0, .slice none 0 0, .slice none 0 0] 50)) (w.heap.size + 1 + 1) [.slice none 0 0, .slice none 0 0, .slice none 0 0] 50 := BxN.new _ _ _ (by simp)
  generalize (((w.alloc (.cells #[.slice sa ss.length sc, .slice ha hs.length hc, .slice ta ts.length tc] 66)).alloc (.cells #[.slice none 0 0, .slice none 0 0, .slice none 0 0] 50)).alloc (.cells #[.slice none 0 0, .slice none 0 0, .slice none 0 0] 50)) = W0 at *
  refine (S1.out W0 hB).mono ?_
  rintro e w1 ⟨rfl, i0, hb⟩
  have hq := x2.lt
  have I0 : KP.IA w1 (w.heap.size + 1 + 1 + 1) (some ⟨W0.heap.size, 0, none⟩) ss := KP.IA.new i0 (by omega)
  replace hB := hB.trans (hb.mono hB.size)
  replace x0 := x0.below hb x0.lt
  replace x1 := x1.below hb x1.lt
  replace x2 := x2.below hb x2.lt
  obtain ⟨g0, hg0⟩ : ∃ g, W0.heap.size = g := ⟨_, rfl⟩
  rw [hg0] at I0 ⊢
  clear hg0
  clear hb hq S1
  have k1 := x0.cell 1 rfl
  have k2 := x2.cell 0 rfl
  have k3 := x2.free 0
  have on := (MC.Only.refl (w.heap.size + 1 + 1) w1).setCell 0 (.slice (some ⟨g0, 0, none⟩) ss.length ss.length)
  go_wp2_with fail
  replace I0 := I0.only on (by omega)
  replace hB := hB.trans (on.below (B := w.heap.size) (by omega) hB.size)
  replace x0 := x0.only on (by omega)
  replace x1 := x1.only on (by omega)
  replace x2 := x2.set 0 (.slice (some ⟨g0, 0, none⟩) ss.length ss.length)
  clear k1 k2 k3 on
  generalize w1.setCell ⟨w.heap.size + 1 + 1, 0, none⟩ (.slice (some ⟨g0, 0, none⟩) ss.length ss.length) = W1 at *
  refine (S2.out W1 hB).mono ?_
  rintro e w2 ⟨g1, rfl, ho, hb⟩
  have hq := x2.lt
  replace I0 := I0.below hb
  have I1 : KP.HA w2 (w.heap.size + 1 + 1 + 1) (some ⟨g1, 0, none⟩) hs := KP.HA.of_own ho (by omega)
  replace hB := hB.trans (hb.mono hB.size)
  replace x0 := x0.below hb x0.lt
  replace x1 := x1.below hb x1.lt
  replace x2 := x2.below hb x2.lt
  clear hb hq S2 ho
  have k1 := x0.cell 2 rfl
  have k2 := x2.cell 1 rfl
  have k3 := x2.free 1
  have on := (MC.Only.refl (w.heap.size + 1 + 1) w2).setCell 1 (.slice (some ⟨g1, 0, none⟩) hs.length hs.length)
  go_wp2_with fail
  replace I0 := I0.only on (by omega)
  replace I1 := I1.only on (by omega)
  replace hB := hB.trans (on.below (B := w.heap.size) (by omega) hB.size)
  replace x0 := x0.only on (by omega)
  replace x1 := x1.only on (by omega)
  replace x2 := x2.set 1 (.slice (some ⟨g1, 0, none⟩) hs.length hs.length)
  clear k1 k2 k3 on
  generalize w2.setCell ⟨w.heap.size + 1 + 1, 1, none⟩ (.slice (some ⟨g1, 0, none⟩) hs.length hs.length) = W2 at *
  refine (S3.out W2 hB).mono ?_
  rintro e w3 ⟨rfl, i2, hb⟩
  have hq := x2.lt
  replace I0 := I0.below hb
  replace I1 := I1.below hb
  have I2 : KP.IA w3 (w.heap.size + 1 + 1 + 1) (some ⟨W2.heap.size, 0, none⟩) ts := KP.IA.new i2 (by omega)
  replace hB := hB.trans (hb.mono hB.size)
  replace x0 := x0.below hb x0.lt
  replace x1 := x1.below hb x1.lt
  replace x2 := x2.below hb x2.lt
  obtain ⟨g2, hg2⟩ : ∃ g, W2.heap.size = g := ⟨_, rfl⟩
  rw [hg2] at I2 ⊢
  clear hg2
  clear hb hq S3
  have k10 := x2.cell 0 rfl
  have k11 := x2.cell 1 rfl
  have j0 := x1.cell 0 rfl
  have f0 := x1.free 0
  have j1 := x1.cell 1 rfl
  have f1 := x1.free 1
  have j2 := x1.cell 2 rfl
  have f2 := x1.free 2
  have k2 := x2.cell 2 rfl
  have k3 := x2.free 2
  have on := (MC.Only.refl (w.heap.size + 1 + 1) w3).setCell 2 (.slice (some ⟨g2, 0, none⟩) ts.length ts.length)
  replace I0 := I0.only on (by omega)
  replace I1 := I1.only on (by omega)
  replace I2 := I2.only on (by omega)
  replace hB := hB.trans (on.below (B := w.heap.size) (by omega) hB.size)
  have on2 := ((((MC.Only.refl (w.heap.size + 1) (w3.setCell ⟨w.heap.size + 1 + 1, 2, none⟩ (.slice (some ⟨g2, 0, none⟩) ts.length ts.length))).setCell 0 (.slice (some ⟨g0, 0, none⟩) ss.length ss.length)).setCell 1 (.slice (some ⟨g1, 0, none⟩) hs.length hs.length)).setCell 2 (.slice (some ⟨g2, 0, none⟩) ts.length ts.length))
  have RX := ((((x1.only on (by omega)).set 0 (.slice (some ⟨g0, 0, none⟩) ss.length ss.length)).set 1 (.slice (some ⟨g1, 0, none⟩) hs.length hs.length)).set 2 (.slice (some ⟨g2, 0, none⟩) ts.length ts.length))
  have RB := hB.trans (on2.below (B := w.heap.size) (by omega) hB.size)
  obtain ⟨WF, hWF⟩ : ∃ W, ((((w3.setCell ⟨w.heap.size + 1 + 1, 2, none⟩ (.slice (some ⟨g2, 0, none⟩) ts.length ts.length)).setCell ⟨w.heap.size + 1, 0, none⟩ (.slice (some ⟨g0, 0, none⟩) ss.length ss.length)).setCell ⟨w.heap.size + 1, 1, none⟩ (.slice (some ⟨g1, 0, none⟩) hs.length hs.length)).setCell ⟨w.heap.size + 1, 2, none⟩ (.slice (some ⟨g2, 0, none⟩) ts.length ts.length)) = W := ⟨_, rfl⟩
  rw [hWF] at on2 RX RB
  have R0 := I0.only on2 (by omega)
  have R1 := I1.only on2 (by omega)
  have R2 := I2.only on2 (by omega)
  have HR : Hid (KP.In WF w.heap.size ⟨ss, hs, ts, some ⟨g0, 0, none⟩, some ⟨g1, 0, none⟩, some ⟨g2, 0, none⟩, ss.length, hs.length, ts.length⟩) := ⟨R0.mono (by omega), R1.mono (by omega), R2.mono (by omega), HL1.out, HL2.out, HL3.out, ⟨Nat.le_refl _, Nat.le_refl _, Nat.le_refl _⟩⟩
  clear I0 I1 I2 R0 R1 R2 HL1 HL2 HL3
  have r0 := RX.cell 0 rfl
  have r1 := RX.cell 1 rfl
  have r2 := RX.cell 2 rfl
  clear hB on on2 RX
  go_wp2
  exact bodyPost_ret (v := .agg #[.slice (some ⟨g0, 0, none⟩) ss.length ss.length, .slice (some ⟨g1, 0, none⟩) hs.length hs.length, .slice (some ⟨g2, 0, none⟩) ts.length ts.length]) (by simp [results, Try.results38, go_sem, r0, r1, r2]) rfl ⟨⟨ss, hs, ts, some ⟨g0, 0, none⟩, some ⟨g1, 0, none⟩, some ⟨g2, 0, none⟩, ss.length, hs.length, ts.length⟩, rfl, rfl, HR.out, RB⟩
theorem Try.infoKeeper : (Try.prog.info? 50).map (fun i => (i.zero, i.size, i.bytes)) = some (some (.agg #[.slice none 0 0, .slice none 0 0, .slice none 0 0]), 3, 72) := by kernel_rfl
set_option linter.unusedSimpArgs false in
set_option maxHeartbeats 3200000 in
set_option maxRecDepth 100000 in
theorem toKeeperS_any (a : Option Addr) (cap : Nat) (ps : List Kp) (w : World) (hz : ps.length ≤ 1048576) (hl : ∀ j, j < ps.length → (KP.at_ ps j).ss.length ≤ 1048576 ∧ (KP.at_ ps j).hs.length ≤ 1048576 ∧ (KP.at_ ps j).ts.length ≤ 1048576) (hin : KP.RowAt w 0 a ps) :
    Calls Try.prog 22 #[.slice a ps.length cap] w fun e w' => ∃ g qs, e = .returned (.slice (some ⟨g, 0, none⟩) ps.length ps.length) ∧ List.length qs = ps.length ∧ qs.map Kp.said = ps.map Kp.said ∧ KP.RowAt w' w.heap.size (some ⟨g, 0, none⟩) qs ∧ w.heap.size ≤ g ∧ Below w.heap.size w w' := by
  have HL : Hid (∀ j, j < ps.length → (KP.at_ ps j).ss.length ≤ 1048576 ∧ (KP.at_ ps j).hs.length ≤ 1048576 ∧ (KP.at_ ps j).ts.length ≤ 1048576) := hl
  have HI : Hid (KP.RowAt w 0 a ps) := hin
  clear hl hin
  obtain ⟨i0, hi, hz0, hz1, hz2⟩ := info_parts Try.infoKeeper
  go_enter Try.func22, Try.ntmps22
  go_wp2_with (at_make; refine wpList_make_full _ rfl _ _ 29 rfl w.heap.size 50 i0 (.agg #[.slice none 0 0, .slice none 0 0, .slice none 0 0]) 3 Try.underlying29 hi hz0 hz1 .i64 .i64 _ _ ps.length rfl rfl rfl rfl ?_ ?_ ?_ ?_)
  · rw [hz2]; omega
  · unfold maxLen; omega
  · omega
  intro w1 hown hgrow
  have hb1 : Below w.heap.size w w1 := (Below.refl _ _).grown hgrow (Nat.le_refl _) (fun k hk => by cases hk)
  have hml := hown.1
  generalize (madeCells _ _).toList = m at *
  rw [← KP.mix_nil m] at hown
  have HM : Hid (m.length = ps.length * 3) := hml
  have HO1 : Hid (World.ownsRow w1 w.heap.size 50 3 (.slice (some ⟨w.heap.size, 0, none⟩) ps.length ps.length) ps.length (KP.mix [] m)) := hown
  clear hgrow hi hz0 hz1 hz2 hml hown
  go_wp2_with fail
  go_loopw [4] (fun iv wr => ∃ (i : Nat) (qs : List Kp), iv = .int .i64 i ∧ i ≤ ps.length ∧ Hid (qs.length = i) ∧ Hid (qs.map Kp.said = (ps.take i).map Kp.said) ∧ Hid (wr.ownsRow w.heap.size 50 3 (.slice (some ⟨w.heap.size, 0, none⟩) ps.length ps.length) ps.length (KP.mix qs m)) ∧ Hid (∀ q, q ∈ qs → KP.In wr (w.heap.size + 1) q) ∧ Below w.heap.size w wr) (fun iv _ => (ps.length - intOf iv).toNat)
  case atStart => exact ⟨0, [], rfl, by omega, rfl, rfl, HO1, (fun q hq => by simp at hq), hb1⟩
  case round =>
    clear HO1 hb1
    obtain ⟨i, qs, rfl, hi, HN, HS, HO, HQ, hb⟩ := hrel
    by_cases hil : i < ps.length
    · obtain ⟨b, off, rfl, hlt, c0, c1, c2, hk⟩ := (HI.out.below hb).at hil
      obtain ⟨l1, l2, l3⟩ := HL.out i hil
      have TK : Hid (Calls Try.prog 38 #[(KP.at_ ps i).v] wr fun e w' => ∃ q : Kp, e = .returned q.v ∧ q.said = (KP.at_ ps i).said ∧ KP.In w' wr.heap.size q ∧ Below wr.heap.size wr w') := toKeeper_any (KP.at_ ps i) wr hk l1 l2 l3
      have ES : Hid ((ps.take (i + 1)).map Kp.said = (ps.take i).map Kp.said ++ [(KP.at_ ps i).said]) := by show _ = _; rw [List.take_succ_eq_append_getElem hil, List.map_append, ← KP.at_eq hil]; rfl
      have hlo := HO.out.lt w.heap.size rfl
      clear HL HI hk l1 l2 l3
      generalize KP.at_ ps i = p at *
      obtain ⟨ss, hs, ts, sa, ha, ta, sc, hc, tc⟩ := p
      go_wp2_with fail
      refine Calls.mono TK.out ?_
      rintro e w2 ⟨q, rfl, hqs, hqi, hb2⟩
      have hm := HM.out
      have hqn := HN.out
      have hO2 := KP.own_below HO.out hb2
      have hB2 := hb.trans (hb2.mono hb.size)
      have hlen := KP.mix_len qs m (by omega)
      obtain ⟨ss', hs', ts', sa', ha', ta', sc', hc', tc'⟩ := q
      obtain ⟨y0, q0⟩ : ∃ y, w2.cell? ⟨w.heap.size, i * 3, none⟩ = some y := MI2.some_at hO2 _ (by omega)
      obtain ⟨y1, q1⟩ : ∃ y, w2.cell? ⟨w.heap.size, i * 3 + 1, none⟩ = some y := MI2.some_at hO2 _ (by omega)
      obtain ⟨y2, q2⟩ : ∃ y, w2.cell? ⟨w.heap.size, i * 3 + 2, none⟩ = some y := MI2.some_at hO2 _ (by omega)
      have z0 := hO2.frozenAt (i * 3)
      have z1 := hO2.frozenAt (i * 3 + 1)
      have z2 := hO2.frozenAt (i * 3 + 2)
      have s0 := hO2.stored (i * 3) (.slice sa' ss'.length sc')
      have s1 := s0.1.stored (i * 3 + 1) (.slice ha' hs'.length hc')
      have s2 := s1.1.stored (i * 3 + 2) (.slice ta' ts'.length tc')
      have hmx := KP.mix_set qs m ⟨ss', hs', ts', sa', ha', ta', sc', hc', tc'⟩ i hqn (by omega)
      have R1 := s2.1
      rw [hmx] at R1
      have HR1 : Hid _ := R1
      have on := (((MC.Only.refl w.heap.size w2).setCell (i * 3) (.slice sa' ss'.length sc')).setCell (i * 3 + 1) (.slice ha' hs'.length hc')).setCell (i * 3 + 2) (.slice ta' ts'.length tc')
      have R2 := hB2.trans (on.below (B := w.heap.size) (Nat.le_refl _) hB2.size)
      have HQ2 : Hid (∀ q, q ∈ qs ++ [(⟨ss', hs', ts', sa', ha', ta', sc', hc', tc'⟩ : Kp)] → KP.In (((w2.setCell ⟨w.heap.size, i * 3, none⟩ (.slice sa' ss'.length sc')).setCell ⟨w.heap.size, i * 3 + 1, none⟩ (.slice ha' hs'.length hc')).setCell ⟨w.heap.size, i * 3 + 2, none⟩ (.slice ta' ts'.length tc')) (w.heap.size + 1) q) := fun q hq => by
        rcases List.mem_append.1 hq with h | h
        · exact ((HQ.out q h).below hb2).only on (by omega)
        · rw [List.mem_singleton.1 h]
          exact (hqi.mono (by omega)).only on (by omega)
      have HS2 : Hid ((qs ++ [(⟨ss', hs', ts', sa', ha', ta', sc', hc', tc'⟩ : Kp)]).map Kp.said = (ps.take (i + 1)).map Kp.said) := by
        show _ = _
        rw [ES.out, List.map_append, HS.out]
        simp only [List.map_cons, List.map_nil, hqs]
      have HN2 : Hid ((qs ++ [(⟨ss', hs', ts', sa', ha', ta', sc', hc', tc'⟩ : Kp)]).length = i + 1) := by show _ = _; rw [List.length_append, hqn]; rfl
      clear s0 s1 s2 hmx R1 hO2 hB2 HO HQ HS HN hqs hqi hqn hb2 hb ES TK hlen c0 c1 c2 hm on hlo
      generalize qs ++ [(⟨ss', hs', ts', sa', ha', ta', sc', hc', tc'⟩ : Kp)] = qs2 at *
      go_wp2
      go_roundw
      case rel => exact ⟨i + 1, qs2, by go_num, by omega, HN2, HS2, HR1, HQ2, R2⟩
      case measure => simp [intOf]; omega
    · obtain rfl : i = ps.length := by omega
      have hqn := HN.out
      have hO := HO.out
      rw [KP.mix_all _ _ (by rw [hqn]; exact HM.out)] at hO
      have hR : KP.RowAt wr w.heap.size (some ⟨w.heap.size, 0, none⟩) qs := KP.RowAt.of_own hO (fun q hq => (HQ.out q hq).mono (by omega))
      have hS := HS.out
      rw [List.take_length] at hS
      have HR : Hid (qs.length = ps.length ∧ qs.map Kp.said = ps.map Kp.said ∧ KP.RowAt wr w.heap.size (some ⟨w.heap.size, 0, none⟩) qs) := ⟨hqn, hS, hR⟩
      clear HO HQ HS HN hqn hO hR hS HL HI HM
      go_wp2
      go_ret
      exact ⟨w.heap.size, qs, rfl, HR.out.1, HR.out.2.1, HR.out.2.2, Nat.le_refl _, hb⟩
set_option linter.unusedSimpArgs false in
set_option maxHeartbeats 3200000 in
set_option maxRecDepth 100000 in
theorem szInts_any (a : Option Addr) (cap : Nat) (n : Nat) (w : World) (left : Int) (h0 : 0 ≤ left) (h1 : left ≤ 1048576) (hl : n ≤ maxLen) :
    Calls Try.prog 12 #[.slice a n cap, .int .i64 left] w fun e w' => ∃ r : Int, e = .returned (.int .i64 r) ∧ (r < 0 ∨ (0 ≤ r ∧ r ≤ left ∧ (n : Int) ≤ left)) ∧ w = w' := by
  unfold maxLen at hl
  by_cases h : left - (n : Int) < 0
  · go_enter Try.func12, Try.ntmps12
    go_wp2
    go_ret
    exact ⟨-1, rfl, .inl (by omega), rfl⟩
  · go_enter Try.func12, Try.ntmps12
    go_wp2
    go_ret
    exact ⟨left - n, rfl, .inr (by omega), rfl⟩

set_option linter.unusedSimpArgs false in
set_option maxHeartbeats 3200000 in
set_option maxRecDepth 100000 in
theorem szKeeper_any (p : Kp) (w : World) (left : Int) (h0 : 0 ≤ left) (h1 : left ≤ 1048576) (hp : p.ss.length ≤ maxLen ∧ p.hs.length ≤ maxLen ∧ p.ts.length ≤ maxLen) :
    Calls Try.prog 34 #[p.v, .int .i64 left] w fun e w' => ∃ r : Int, e = .returned (.int .i64 r) ∧ (r < 0 ∨ (0 ≤ r ∧ r ≤ left ∧ ((p.ss.length : Int) ≤ left ∧ (p.hs.length : Int) ≤ left ∧ (p.ts.length : Int) ≤ left))) ∧ Below w.heap.size w w' := by
  obtain ⟨ss, hs, ts, sa, ha, ta, sc, hc, tc⟩ := p
  obtain ⟨m1, m2, m3⟩ := hp
  simp only at m1 m2 m3
  have S0 : Hid (∀ (W : World) (left : Int), 0 ≤ left → left ≤ 1048576 → Below w.heap.size w W → Calls Try.prog 12 #[.slice sa ss.length sc, .int .i64 left] W fun e w' => ∃ r : Int, e = .returned (.int .i64 r) ∧ (r < 0 ∨ (0 ≤ r ∧ r ≤ left ∧ (ss.length : Int) ≤ left)) ∧ W = w') := fun W left h0 h1 h => szInts_any sa sc ss.length W left h0 h1 m1
  have S1 : Hid (∀ (W : World) (left : Int), 0 ≤ left → left ≤ 1048576 → Below w.heap.size w W → Calls Try.prog 53 #[.slice ha hs.length hc, .int .i64 left] W fun e w' => ∃ r : Int, e = .returned (.int .i64 r) ∧ (r < 0 ∨ (0 ≤ r ∧ r ≤ left ∧ (hs.length : Int) ≤ left)) ∧ W = w') := fun W left h0 h1 h => szHoldS_any ha hc hs.length W left h0 h1 m2
  have S2 : Hid (∀ (W : World) (left : Int), 0 ≤ left → left ≤ 1048576 → Below w.heap.size w W → Calls Try.prog 12 #[.slice ta ts.length tc, .int .i64 left] W fun e w' => ∃ r : Int, e = .returned (.int .i64 r) ∧ (r < 0 ∨ (0 ≤ r ∧ r ≤ left ∧ (ts.length : Int) ≤ left)) ∧ W = w') := fun W left h0 h1 h => szInts_any ta tc ts.length W left h0 h1 m3
  clear m1 m2 m3
  have hB0 : Below w.heap.size w (w.alloc (.cells #[.slice sa ss.length sc, .slice ha hs.length hc, .slice ta ts.length tc] 66)) := (Below.refl _ w).alloc (Nat.le_refl _) _
  have x0 : BxN (w.alloc (.cells #[.slice sa ss.length sc, .slice ha hs.length hc, .slice ta ts.length tc] 66)) w.heap.size [.slice sa ss.length sc, .slice ha hs.length hc, .slice ta ts.length tc] 66 := BxN.new w _ _ rfl
  go_enter Try.func34, Try.ntmps34
  go_wp2_with fail
  generalize w.alloc (.cells #[.slice sa ss.length sc, .slice ha hs.length hc, .slice ta ts.length tc] 66) = W0 at *
  refine (S0.out W0 left (by omega) (by omega) hB0).mono ?_
  rintro e w0 ⟨l0, rfl, hr0, rfl⟩
  have k0 := x0.cell 1 rfl
  by_cases h0 : l0 < 0
  · clear hr0 S0 S1 S2
    go_wp2
    go_ret
    exact ⟨-1, rfl, .inl (by omega), hB0⟩
  · have hs0 := hr0.resolve_left (by omega)
    have hu0 := hs0.1
    have hv0 := hs0.2.1
    have HS0 : Hid _ := hs0.2.2
    clear hr0 hs0 S0
    go_wp2_with fail
    refine (S1.out W0 l0 (by omega) (by omega) hB0).mono ?_
    rintro e w1 ⟨l1, rfl, hr1, rfl⟩
    have k1 := x0.cell 2 rfl
    by_cases h1 : l1 < 0
    · clear hr1 S1 S2
      go_wp2
      go_ret
      exact ⟨-1, rfl, .inl (by omega), hB0⟩
    · have hs1 := hr1.resolve_left (by omega)
      have hu1 := hs1.1
      have hv1 := hs1.2.1
      have HS1 : Hid _ := hs1.2.2
      clear hr1 hs1 S1
      go_wp2_with fail
      refine (S2.out W0 l1 (by omega) (by omega) hB0).mono ?_
      rintro e w2 ⟨l2, rfl, hr2, rfl⟩
      by_cases h2 : l2 < 0
      · clear hr2 S2
        go_wp2
        go_ret
        exact ⟨-1, rfl, .inl (by omega), hB0⟩
      · have hs2 := hr2.resolve_left (by omega)
        have hu2 := hs2.1
        have hv2 := hs2.2.1
        have HS2 : Hid _ := hs2.2.2
        clear hr2 hs2 S2
        go_wp2
        go_ret
        exact ⟨l2, rfl, .inr ⟨hu2, by omega, ⟨HS0.out, by have := HS1.out; omega, by have := HS2.out; omega⟩⟩, hB0⟩
set_option linter.unusedSimpArgs false in
set_option maxHeartbeats 3200000 in
set_option maxRecDepth 100000 in
theorem szKeeperS_any (a : Option Addr) (cap : Nat) (ps : List Kp) (w : World) (left : Int) (h0 : 0 ≤ left) (h1 : left ≤ 1048576) (hl : ps.length ≤ maxLen) (hin : KP.RowAt w 0 a ps) :
    Calls Try.prog 13 #[.slice a ps.length cap, .int .i64 left] w fun e w' => ∃ r : Int, e = .returned (.int .i64 r) ∧ (r < 0 ∨ (0 ≤ r ∧ r ≤ left ∧ ((ps.length : Int) ≤ left ∧ ∀ j, j < ps.length → ((KP.at_ ps j).ss.length : Int) ≤ left ∧ ((KP.at_ ps j).hs.length : Int) ≤ left ∧ ((KP.at_ ps j).ts.length : Int) ≤ left))) ∧ Below w.heap.size w w' := by
  unfold maxLen at hl
  have HI : Hid (KP.RowAt w 0 a ps) := hin
  clear hin
  by_cases h : left - (ps.length : Int) < 0
  · clear HI
    go_enter Try.func13, Try.ntmps13
    go_wp2
    go_ret
    exact ⟨-1, rfl, .inl (by omega), Below.refl _ _⟩
  · go_enter Try.func13, Try.ntmps13
    go_wp2
    go_loopw [1, 5] (fun lv iv wr => ∃ (i : Nat) (l : Int), iv = .int .i64 i ∧ i ≤ ps.length ∧ lv = .int .i64 l ∧ 0 ≤ l ∧ l ≤ left ∧ Hid (∀ j, j < i → ((KP.at_ ps j).ss.length : Int) ≤ left ∧ ((KP.at_ ps j).hs.length : Int) ≤ left ∧ ((KP.at_ ps j).ts.length : Int) ≤ left) ∧ Below w.heap.size w wr) (fun _ iv _ => (ps.length - intOf iv).toNat)
    case atStart => exact ⟨0, _, rfl, by omega, rfl, by omega, by omega, (fun j hj => by omega), Below.refl _ _⟩
    case round =>
      obtain ⟨i, l, rfl, hi, rfl, hl0, hl1, HT, hb⟩ := hrel
      by_cases hil : i < ps.length
      · obtain ⟨b, off, rfl, hlt, c0, c1, c2, hk⟩ := (HI.out.below hb).at hil
        have SK : Hid (Calls Try.prog 34 #[(KP.at_ ps i).v, .int .i64 l] wr fun e w' => ∃ r : Int, e = .returned (.int .i64 r) ∧ (r < 0 ∨ (0 ≤ r ∧ r ≤ l ∧ (((KP.at_ ps i).ss.length : Int) ≤ l ∧ ((KP.at_ ps i).hs.length : Int) ≤ l ∧ ((KP.at_ ps i).ts.length : Int) ≤ l))) ∧ Below wr.heap.size wr w') := szKeeper_any (KP.at_ ps i) wr l hl0 (by omega) ⟨hk.sl, hk.hl, hk.tl⟩
        have HNX : Hid (((KP.at_ ps i).ss.length : Int) ≤ left ∧ ((KP.at_ ps i).hs.length : Int) ≤ left ∧ ((KP.at_ ps i).ts.length : Int) ≤ left → ∀ j, j < i + 1 → ((KP.at_ ps j).ss.length : Int) ≤ left ∧ ((KP.at_ ps j).hs.length : Int) ≤ left ∧ ((KP.at_ ps j).ts.length : Int) ≤ left) := fun hn j hj => by
          by_cases e : j = i
          · subst e; exact hn
          · exact HT.out j (by omega)
        clear HT HI hk
        generalize KP.at_ ps i = p at *
        obtain ⟨ss, hs, ts, sa, ha, ta, sc, hc, tc⟩ := p
        go_wp2_with fail
        refine Calls.mono SK.out ?_
        rintro e w2 ⟨r, rfl, hr, hb2⟩
        have hB2 := hb.trans (hb2.mono hb.size)
        clear SK hb hb2 c0 c1 c2
        by_cases hr0 : r < 0
        · clear hr HNX
          go_wp2
          go_ret
          exact ⟨-1, rfl, .inl (by omega), hB2⟩
        · obtain ⟨r0, r1, r2, r3, r4⟩ := hr.resolve_left (by omega)
          have HT2 : Hid _ := HNX.out ⟨by omega, by omega, by omega⟩
          have hrl : r ≤ left := by omega
          clear HNX hr r2 r3 r4
          go_wp2
          go_roundw
          case rel => exact ⟨i + 1, r, by go_num, by omega, rfl, r0, hrl, HT2, hB2⟩
          case measure => simp [intOf]; omega
      · obtain rfl : i = ps.length := by omega
        clear HI
        go_wp2
        go_ret
        exact ⟨l, rfl, .inr ⟨hl0, hl1, by omega, HT.out⟩, hb⟩

end Go.Proofs.Ytfkmnmiolnijaaa
