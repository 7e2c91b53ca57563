import Derived.Test.YtlcdimiookaefaaRows
import Derived.Test.YtlcdimiookaefaaCPairLaw
import Derived.Test.YtlcdimiookaefaaM5
import Derived.Test.YtlcdimiookaefaaMCur
import Derived.Test.YtlcdimiookaefaaCEqIntS
import Derived.Test.YtlcdimiookaefaaCMarkIntS
import Derived.WalkKit
import Derived.WalkSpells
import Derived.WalkLawsBesides
import Derived.Outline
import Derived.Deep.RegionWith
import Derived.Deep.RegionHeld3
/- A row of numbers marked, and what lies elsewhere: markIntS. -/
namespace Go.Proofs.Ytlcdimiookaefaa
open Go.RowKit
namespace PG
theorem In_mid {w w' : World} {B lo hi : Nat} {a : Option Addr} {l : List Int} (h : NR.In w B a l) (m : Mid lo hi w w') (hb : ∀ g, a = some ⟨g, 0, none⟩ → g < lo) : NR.In w' B a l := by
  rcases h.is with rfl | ⟨g, k, vs, ha, ho, h1, h2⟩
  · exact .nil _ _ _
  · refine ⟨.inr ⟨g, k, vs, ha, ⟨ho.1, ?_⟩, h1, h2⟩⟩
    rcases ho.2 with h' | ⟨g', cap', cur, hv, hB, hg, rest⟩
    · exact .inl h'
    · refine .inr ⟨g', cap', cur, hv, hB, ?_, rest⟩
      have e : g' = g := by simp only [Value.slice.injEq, Option.some.injEq, Addr.mk.injEq, and_true] at hv; exact hv.1.symm
      exact (m.block g' (Array.getElem?_eq_some_iff.1 hg).1 (.inl (by rw [e]; exact hb g ha))).trans hg
theorem block_of {a : Option Addr} {n c M : Nat} (h : ∀ k, (Value.slice a n c).ownBlock = some k → k < M) : ∀ g, a = some ⟨g, 0, none⟩ → g < M := fun g hg => h g (by rw [hg]; rfl)
end PG
theorem markRow_any (base hi : Nat) (a : Option Addr) (c : Nat) (L : List Int) (k : Int) (w : World) (hz : L.length ≤ 1048576) (hk0 : 0 ≤ k) (hk : k ≤ 1073741824) (hlt : ∀ g, a = some ⟨g, 0, none⟩ → g < hi) (hown : w.ownsRow base 3 1 (.slice a L.length c) L.length (M4.iv L)) :
    Calls Try.prog 18 #[.slice a L.length c, .int .i64 k] w fun e w' => e = .returned (.int .i64 (k + L.length)) ∧ NR.In w' base a (M5.marks k L.length) ∧ PG.Mid base hi w w' := by
  have hI := NR.In.of_own (l := L) hown
  refine (markIntS_in base a c L k w hz hk0 hk hI).mono fun e w' ⟨h1, h2, h3, h4⟩ => ⟨h1, h2, ?_⟩
  by_cases e0 : L = []
  · rw [← h3 e0]; exact PG.Mid.refl _ _ _
  · obtain ⟨g, hg⟩ := hI.some e0
    have hl := hI
    rw [hg] at hl
    exact PG.Mid.of_only (h4 g hg) (hl.lt e0).1 (hlt g hg)
end Go.Proofs.Ytlcdimiookaefaa

/- The law FnExactCoverOf answers true, whatever the arguments, by contracts of the two functions. -/
namespace Go.Proofs.Ytlcdimiookaefaa
open Go.RowKit
set_option linter.unusedSimpArgs false in
set_option maxHeartbeats 3200000 in
set_option maxRecDepth 100000 in
theorem lawCoverOf_any (l0 r0_ : Int) (a0 : Option Addr) (cap0 : Nat) (xs0 : List (List Int)) (L : List Int) (hL : L.length ≤ 1000000) (K : List Int) (hK : K.length ≤ 1000) (r2 : Bool)
    (SG0 : xs0.length ≤ 1048576 → NR.tot xs0 ≤ 1048576 → ∀ (g0 : Nat) (W : World), NR.RowsAt W (some ⟨g0, 0, none⟩) xs0 → Calls Try.prog 25 #[PG.pv l0 r0_ (.slice (some ⟨g0, 0, none⟩) xs0.length xs0.length)] W fun e w' => ∃ a1 c1 a2 c2 M, e = .returned (.tuple #[.slice a1 L.length c1, .slice a2 K.length c2, .bool r2]) ∧ W.heap.size ≤ M ∧ M ≤ w'.heap.size ∧ w'.ownsRow W.heap.size 3 1 (.slice a1 L.length c1) L.length (M4.iv L) ∧ (∀ k, (Value.slice a1 L.length c1).ownBlock = some k → k < M) ∧ w'.ownsRow M 3 1 (.slice a2 K.length c2) K.length (M4.iv K) ∧ Below W.heap.size W w')
    (IG0 : xs0.length ≤ 1048576 → NR.tot xs0 ≤ 1048576 → ∀ (g0 : Nat) (W : World), NR.RowsAt W (some ⟨g0, 0, none⟩) xs0 → Calls Try.prog 26 #[PG.pv l0 r0_ (.slice (some ⟨g0, 0, none⟩) xs0.length xs0.length)] W fun e w' => ∃ a1 c1 a2 c2 M, e = .returned (.tuple #[.slice a1 L.length c1, .slice a2 K.length c2, .bool r2]) ∧ W.heap.size ≤ M ∧ M ≤ w'.heap.size ∧ w'.ownsRow W.heap.size 3 1 (.slice a1 L.length c1) L.length (M4.iv L) ∧ (∀ k, (Value.slice a1 L.length c1).ownBlock = some k → k < M) ∧ w'.ownsRow M 3 1 (.slice a2 K.length c2) K.length (M4.iv K) ∧ Below W.heap.size W w')
    (w : World) (hl0 : xs0.length ≤ maxLen) (hi0 : NR.RowsAt w a0 xs0) :
    Calls Try.prog 7 #[PG.pv l0 r0_ (.slice a0 xs0.length cap0)] w fun e w' => e = .returned (.bool true) ∧ Below w.heap.size w w' := by
  have H0 : Hid (NR.RowsAt w a0 xs0) := hi0
  have SG1 : Hid _ := SG0
  have IG1 : Hid _ := IG0
  clear SG0 IG0
  have SZ0 : Hid (∀ W : World, Below w.heap.size w W → _) := fun W hb => szPairing_any l0 r0_ a0 cap0 xs0 W 1048576 (by omega) (by omega) hl0 (hi0.below hb)
  clear hl0 hi0
  go_enter Try.func7, Try.ntmps7
  go_wp2_with fail
  have B : Below w.heap.size w _ := (Below.refl _ w).alloc (Nat.le_refl _) (Obj.cells #[.int .i64 l0, .int .i64 r0_, .slice a0 xs0.length cap0] 24)
  have HBX : (w.alloc (Obj.cells #[.int .i64 l0, .int .i64 r0_, .slice a0 xs0.length cap0] 24)).cell? ⟨w.heap.size, 0, none⟩ = some (.int .i64 l0) ∧ (w.alloc (Obj.cells #[.int .i64 l0, .int .i64 r0_, .slice a0 xs0.length cap0] 24)).cell? ⟨w.heap.size, 1, none⟩ = some (.int .i64 r0_) ∧ (w.alloc (Obj.cells #[.int .i64 l0, .int .i64 r0_, .slice a0 xs0.length cap0] 24)).cell? ⟨w.heap.size, 2, none⟩ = some (.slice a0 xs0.length cap0) := by simp
  have HSZ : w.heap.size < (w.alloc (Obj.cells #[.int .i64 l0, .int .i64 r0_, .slice a0 xs0.length cap0] 24)).heap.size := by simp
  have SZ := SZ0.out _ B
  clear SZ0
  generalize w.alloc (Obj.cells #[.int .i64 l0, .int .i64 r0_, .slice a0 xs0.length cap0] 24) = w0 at *
  refine SZ.mono ?_
  rintro e w1 ⟨q0, rfl, hr0, hb⟩
  clear SZ
  replace B := B.trans (hb.mono B.size)
  have BX0 : Hid (w1.cell? ⟨w.heap.size, 0, none⟩ = some (.int .i64 l0) ∧ w1.cell? ⟨w.heap.size, 1, none⟩ = some (.int .i64 r0_) ∧ w1.cell? ⟨w.heap.size, 2, none⟩ = some (.slice a0 xs0.length cap0)) := ⟨(hb.cell (p := ⟨w.heap.size, 0, none⟩) HSZ).trans HBX.1, (hb.cell (p := ⟨w.heap.size, 1, none⟩) HSZ).trans HBX.2.1, (hb.cell (p := ⟨w.heap.size, 2, none⟩) HSZ).trans HBX.2.2⟩
  have hs0 : w.heap.size < w1.heap.size := Nat.lt_of_lt_of_le HSZ hb.size
  clear HBX hb HSZ
  by_cases h0 : q0 < 0
  · clear hr0 BX0
    go_wp2
    go_ret
    exact ⟨rfl, B⟩
  · have hz0 : xs0.length ≤ 1048576 := by omega
    have ht0 : NR.tot xs0 ≤ 1048576 := by omega
    have hq00 : 0 ≤ q0 := by omega
    have hq01 : q0 ≤ 1048576 := by omega
    clear hr0
    have SG : Hid _ := SG1.out hz0 ht0 
    have IG : Hid _ := IG1.out hz0 ht0 
    clear SG1 IG1
    have TP0 : Hid _ := fun W h => toPairing_own l0 r0_ a0 cap0 xs0 W hz0 ht0 h
    have EQ0 : Hid _ := fun g g2 W h1 h2 => eqPairing_any l0 r0_ (some ⟨g, 0, none⟩) (some ⟨g2, 0, none⟩) xs0.length xs0.length xs0 W hz0 ht0 h1 h2
    obtain ⟨x00, x01, x02⟩ := BX0.out
    go_wp2_with fail
    clear x00 x01 x02
    refine (TP0.out _ (NR.RowsAt.below H0.out B)).mono ?_
    rintro e w2 ⟨g0s, AY, CY, rfl, ho, hb⟩
    replace B := B.trans (hb.mono B.size)
    replace BX0 : Hid (w2.cell? ⟨w.heap.size, 0, none⟩ = some (.int .i64 l0) ∧ w2.cell? ⟨w.heap.size, 1, none⟩ = some (.int .i64 r0_) ∧ w2.cell? ⟨w.heap.size, 2, none⟩ = some (.slice a0 xs0.length cap0)) := ⟨(hb.cell (p := ⟨w.heap.size, 0, none⟩) hs0).trans BX0.out.1, (hb.cell (p := ⟨w.heap.size, 1, none⟩) hs0).trans BX0.out.2.1, (hb.cell (p := ⟨w.heap.size, 2, none⟩) hs0).trans BX0.out.2.2⟩
    replace hs0 : w.heap.size < w2.heap.size := Nat.lt_of_lt_of_le hs0 hb.size
    clear hb
    have X0s : Hid (NR.RowsAt w2 (some ⟨g0s, 0, none⟩) xs0) := ho.rows
    clear ho
    go_wp2_with fail
    refine (SG.out g0s _ X0s.out).mono ?_
    rintro e w3 ⟨az, cz, ay, cy, MS, rfl, -, -, owns, -, owns2, hb⟩
    replace B := B.trans (hb.mono B.size)
    replace BX0 : Hid (w3.cell? ⟨w.heap.size, 0, none⟩ = some (.int .i64 l0) ∧ w3.cell? ⟨w.heap.size, 1, none⟩ = some (.int .i64 r0_) ∧ w3.cell? ⟨w.heap.size, 2, none⟩ = some (.slice a0 xs0.length cap0)) := ⟨(hb.cell (p := ⟨w.heap.size, 0, none⟩) hs0).trans BX0.out.1, (hb.cell (p := ⟨w.heap.size, 1, none⟩) hs0).trans BX0.out.2.1, (hb.cell (p := ⟨w.heap.size, 2, none⟩) hs0).trans BX0.out.2.2⟩
    replace hs0 : w.heap.size < w3.heap.size := Nat.lt_of_lt_of_le hs0 hb.size
    clear hb
    clear X0s SG
    have IN0 : Hid (M4.IntsAt w3 az L) := M5.own_ints owns
    clear owns
    have IN1 : Hid (M4.IntsAt w3 ay K) := M5.own_ints owns2
    clear owns2
    have C : Below w3.heap.size w3 w3 := Below.refl _ _
    obtain ⟨x00, x01, x02⟩ := BX0.out
    go_wp2_with fail
    clear x00 x01 x02
    refine (TP0.out _ (NR.RowsAt.below H0.out B)).mono ?_
    rintro e w4 ⟨g0x, AX, CX, rfl, ho, hb⟩
    have hTop : ∀ j, j < xs0.length → NR.rw_ xs0 j ≠ [] → ∀ g, AX j = some ⟨g, 0, none⟩ → g < w4.heap.size := fun j hj hne g hg => by have r := ho.row j hj; rw [hg] at r; exact (r.lt hne).2
    have HTop : Hid _ := hTop
    clear hTop
    have hLT : w3.heap.size ≤ w4.heap.size := hb.size
    have hLo : w.heap.size < w3.heap.size := hs0
    have hC : w3.heap.size ≤ w3.heap.size := C.size
    replace B := B.trans (hb.mono B.size)
    replace BX0 : Hid (w4.cell? ⟨w.heap.size, 0, none⟩ = some (.int .i64 l0) ∧ w4.cell? ⟨w.heap.size, 1, none⟩ = some (.int .i64 r0_) ∧ w4.cell? ⟨w.heap.size, 2, none⟩ = some (.slice a0 xs0.length cap0)) := ⟨(hb.cell (p := ⟨w.heap.size, 0, none⟩) hs0).trans BX0.out.1, (hb.cell (p := ⟨w.heap.size, 1, none⟩) hs0).trans BX0.out.2.1, (hb.cell (p := ⟨w.heap.size, 2, none⟩) hs0).trans BX0.out.2.2⟩
    replace hs0 : w.heap.size < w4.heap.size := Nat.lt_of_lt_of_le hs0 hb.size
    replace C := C.trans (hb.mono C.size)
    clear hb
    have X0x : Hid (NR.Own 31 w4 w3.heap.size (.slice (some ⟨g0x, 0, none⟩) xs0.length xs0.length) xs0 AX CX) := ho
    clear ho
    go_wp2_with fail
    have hb : Below w4.heap.size w4 (w4.alloc (Obj.cells #[.int .i64 l0, .int .i64 r0_, .slice (some ⟨g0x, 0, none⟩) xs0.length xs0.length] 27)) := (Below.refl _ _).alloc (Nat.le_refl _) _
    have hcx : (w4.alloc (Obj.cells #[.int .i64 l0, .int .i64 r0_, .slice (some ⟨g0x, 0, none⟩) xs0.length xs0.length] 27)).cell? ⟨w4.heap.size, 0, none⟩ = some (.int .i64 l0) ∧ (w4.alloc (Obj.cells #[.int .i64 l0, .int .i64 r0_, .slice (some ⟨g0x, 0, none⟩) xs0.length xs0.length] 27)).cell? ⟨w4.heap.size, 1, none⟩ = some (.int .i64 r0_) ∧ (w4.alloc (Obj.cells #[.int .i64 l0, .int .i64 r0_, .slice (some ⟨g0x, 0, none⟩) xs0.length xs0.length] 27)).cell? ⟨w4.heap.size, 2, none⟩ = some (.slice (some ⟨g0x, 0, none⟩) xs0.length xs0.length) := by simp
    have hsx : w4.heap.size < (w4.alloc (Obj.cells #[.int .i64 l0, .int .i64 r0_, .slice (some ⟨g0x, 0, none⟩) xs0.length xs0.length] 27)).heap.size := by simp
    generalize w4.alloc (Obj.cells #[.int .i64 l0, .int .i64 r0_, .slice (some ⟨g0x, 0, none⟩) xs0.length xs0.length] 27) = w5 at *
    replace B := B.trans (hb.mono B.size)
    replace BX0 : Hid (w5.cell? ⟨w.heap.size, 0, none⟩ = some (.int .i64 l0) ∧ w5.cell? ⟨w.heap.size, 1, none⟩ = some (.int .i64 r0_) ∧ w5.cell? ⟨w.heap.size, 2, none⟩ = some (.slice a0 xs0.length cap0)) := ⟨(hb.cell (p := ⟨w.heap.size, 0, none⟩) hs0).trans BX0.out.1, (hb.cell (p := ⟨w.heap.size, 1, none⟩) hs0).trans BX0.out.2.1, (hb.cell (p := ⟨w.heap.size, 2, none⟩) hs0).trans BX0.out.2.2⟩
    replace hs0 : w.heap.size < w5.heap.size := Nat.lt_of_lt_of_le hs0 hb.size
    replace C := C.trans (hb.mono C.size)
    replace X0x : Hid (NR.Own 31 w5 w3.heap.size (.slice (some ⟨g0x, 0, none⟩) xs0.length xs0.length) xs0 AX CX) := NR.Own.below X0x.out hb
    clear hb
    have BXx : Hid (w5.cell? ⟨w4.heap.size, 0, none⟩ = some (.int .i64 l0) ∧ w5.cell? ⟨w4.heap.size, 1, none⟩ = some (.int .i64 r0_) ∧ w5.cell? ⟨w4.heap.size, 2, none⟩ = some (.slice (some ⟨g0x, 0, none⟩) xs0.length xs0.length)) := hcx
    clear hcx
    refine (IG.out g0x _ X0x.out.rows).mono ?_
    rintro e w6 ⟨ai, ci, ak, ck, MI, rfl, hM1, hM2, owni, hM3, ownk, hb⟩
    have hTw : w4.heap.size ≤ w5.heap.size := Nat.le_of_lt hsx
    have SW : w5.heap.size ≤ w6.heap.size := hb.size
    have SC : w3.heap.size ≤ w5.heap.size := C.size
    have SB : w.heap.size ≤ w5.heap.size := B.size
    have hS0 : w.heap.size < w5.heap.size := hs0
    have hSx : w4.heap.size < w5.heap.size := hsx
    replace B := B.trans (hb.mono B.size)
    replace BX0 : Hid (w6.cell? ⟨w.heap.size, 0, none⟩ = some (.int .i64 l0) ∧ w6.cell? ⟨w.heap.size, 1, none⟩ = some (.int .i64 r0_) ∧ w6.cell? ⟨w.heap.size, 2, none⟩ = some (.slice a0 xs0.length cap0)) := ⟨(hb.cell (p := ⟨w.heap.size, 0, none⟩) hs0).trans BX0.out.1, (hb.cell (p := ⟨w.heap.size, 1, none⟩) hs0).trans BX0.out.2.1, (hb.cell (p := ⟨w.heap.size, 2, none⟩) hs0).trans BX0.out.2.2⟩
    replace hs0 : w.heap.size < w6.heap.size := Nat.lt_of_lt_of_le hs0 hb.size
    replace BXx : Hid (w6.cell? ⟨w4.heap.size, 0, none⟩ = some (.int .i64 l0) ∧ w6.cell? ⟨w4.heap.size, 1, none⟩ = some (.int .i64 r0_) ∧ w6.cell? ⟨w4.heap.size, 2, none⟩ = some (.slice (some ⟨g0x, 0, none⟩) xs0.length xs0.length)) := ⟨(hb.cell (p := ⟨w4.heap.size, 0, none⟩) hsx).trans BXx.out.1, (hb.cell (p := ⟨w4.heap.size, 1, none⟩) hsx).trans BXx.out.2.1, (hb.cell (p := ⟨w4.heap.size, 2, none⟩) hsx).trans BXx.out.2.2⟩
    replace hsx : w4.heap.size < w6.heap.size := Nat.lt_of_lt_of_le hsx hb.size
    replace C := C.trans (hb.mono C.size)
    replace X0x : Hid (NR.Own 31 w6 w3.heap.size (.slice (some ⟨g0x, 0, none⟩) xs0.length xs0.length) xs0 AX CX) := NR.Own.below X0x.out hb
    clear hb
    have OG : Hid (World.ownsRow w6 w5.heap.size 3 1 (.slice ai L.length ci) L.length (M4.iv L)) := owni
    clear owni
    have OK : Hid (World.ownsRow w6 MI 3 1 (.slice ak K.length ck) K.length (M4.iv K)) := ownk
    clear ownk
    have HM2 : Hid (MI ≤ w6.heap.size) := hM2
    clear hM2
    go_wp2_with fail
    refine (eqIntS_any _ _ _ _ L L _ (by omega) (by omega) (M5.own_ints OG.out) (M4.IntsAt.below IN0.out C)).mono ?_
    rintro e w7 ⟨rfl, hb⟩
    replace B := B.trans (hb.mono B.size)
    replace BX0 : Hid (w7.cell? ⟨w.heap.size, 0, none⟩ = some (.int .i64 l0) ∧ w7.cell? ⟨w.heap.size, 1, none⟩ = some (.int .i64 r0_) ∧ w7.cell? ⟨w.heap.size, 2, none⟩ = some (.slice a0 xs0.length cap0)) := ⟨(hb.cell (p := ⟨w.heap.size, 0, none⟩) hs0).trans BX0.out.1, (hb.cell (p := ⟨w.heap.size, 1, none⟩) hs0).trans BX0.out.2.1, (hb.cell (p := ⟨w.heap.size, 2, none⟩) hs0).trans BX0.out.2.2⟩
    replace hs0 : w.heap.size < w7.heap.size := Nat.lt_of_lt_of_le hs0 hb.size
    replace BXx : Hid (w7.cell? ⟨w4.heap.size, 0, none⟩ = some (.int .i64 l0) ∧ w7.cell? ⟨w4.heap.size, 1, none⟩ = some (.int .i64 r0_) ∧ w7.cell? ⟨w4.heap.size, 2, none⟩ = some (.slice (some ⟨g0x, 0, none⟩) xs0.length xs0.length)) := ⟨(hb.cell (p := ⟨w4.heap.size, 0, none⟩) hsx).trans BXx.out.1, (hb.cell (p := ⟨w4.heap.size, 1, none⟩) hsx).trans BXx.out.2.1, (hb.cell (p := ⟨w4.heap.size, 2, none⟩) hsx).trans BXx.out.2.2⟩
    replace hsx : w4.heap.size < w7.heap.size := Nat.lt_of_lt_of_le hsx hb.size
    replace C := C.trans (hb.mono C.size)
    replace SW : w5.heap.size ≤ w7.heap.size := Nat.le_trans SW hb.size
    replace X0x : Hid (NR.Own 31 w7 w3.heap.size (.slice (some ⟨g0x, 0, none⟩) xs0.length xs0.length) xs0 AX CX) := NR.Own.below X0x.out hb
    replace OG : Hid (World.ownsRow w7 w5.heap.size 3 1 (.slice ai L.length ci) L.length (M4.iv L)) := M5.own_below OG.out hb
    replace OK : Hid (World.ownsRow w7 MI 3 1 (.slice ak K.length ck) K.length (M4.iv K)) := M5.own_below OK.out hb
    replace HM2 : Hid (MI ≤ w7.heap.size) := Nat.le_trans HM2.out hb.size
    clear hb
    go_wp2_with fail
    refine (eqIntS_any _ _ _ _ K K _ (by omega) (by omega) (M5.own_ints OK.out) (M4.IntsAt.below IN1.out C)).mono ?_
    rintro e w8 ⟨rfl, hb⟩
    replace B := B.trans (hb.mono B.size)
    replace BX0 : Hid (w8.cell? ⟨w.heap.size, 0, none⟩ = some (.int .i64 l0) ∧ w8.cell? ⟨w.heap.size, 1, none⟩ = some (.int .i64 r0_) ∧ w8.cell? ⟨w.heap.size, 2, none⟩ = some (.slice a0 xs0.length cap0)) := ⟨(hb.cell (p := ⟨w.heap.size, 0, none⟩) hs0).trans BX0.out.1, (hb.cell (p := ⟨w.heap.size, 1, none⟩) hs0).trans BX0.out.2.1, (hb.cell (p := ⟨w.heap.size, 2, none⟩) hs0).trans BX0.out.2.2⟩
    replace hs0 : w.heap.size < w8.heap.size := Nat.lt_of_lt_of_le hs0 hb.size
    replace BXx : Hid (w8.cell? ⟨w4.heap.size, 0, none⟩ = some (.int .i64 l0) ∧ w8.cell? ⟨w4.heap.size, 1, none⟩ = some (.int .i64 r0_) ∧ w8.cell? ⟨w4.heap.size, 2, none⟩ = some (.slice (some ⟨g0x, 0, none⟩) xs0.length xs0.length)) := ⟨(hb.cell (p := ⟨w4.heap.size, 0, none⟩) hsx).trans BXx.out.1, (hb.cell (p := ⟨w4.heap.size, 1, none⟩) hsx).trans BXx.out.2.1, (hb.cell (p := ⟨w4.heap.size, 2, none⟩) hsx).trans BXx.out.2.2⟩
    replace hsx : w4.heap.size < w8.heap.size := Nat.lt_of_lt_of_le hsx hb.size
    replace C := C.trans (hb.mono C.size)
    replace SW : w5.heap.size ≤ w8.heap.size := Nat.le_trans SW hb.size
    replace X0x : Hid (NR.Own 31 w8 w3.heap.size (.slice (some ⟨g0x, 0, none⟩) xs0.length xs0.length) xs0 AX CX) := NR.Own.below X0x.out hb
    replace OG : Hid (World.ownsRow w8 w5.heap.size 3 1 (.slice ai L.length ci) L.length (M4.iv L)) := M5.own_below OG.out hb
    replace OK : Hid (World.ownsRow w8 MI 3 1 (.slice ak K.length ck) K.length (M4.iv K)) := M5.own_below OK.out hb
    replace HM2 : Hid (MI ≤ w8.heap.size) := Nat.le_trans HM2.out hb.size
    clear hb
    have KP : ∀ w1 w2 : World, (Below w8.heap.size w8 w1 ∧ w1.cell? ⟨w.heap.size, 0, none⟩ = some (.int .i64 l0) ∧ w1.cell? ⟨w.heap.size, 1, none⟩ = some (.int .i64 r0_) ∧ w1.cell? ⟨w.heap.size, 2, none⟩ = some (.slice a0 xs0.length cap0) ∧ w1.cell? ⟨w4.heap.size, 0, none⟩ = some (.int .i64 l0) ∧ w1.cell? ⟨w4.heap.size, 1, none⟩ = some (.int .i64 r0_) ∧ w1.cell? ⟨w4.heap.size, 2, none⟩ = some (.slice (some ⟨g0x, 0, none⟩) xs0.length xs0.length)) → Below w1.heap.size w1 w2 → (Below w8.heap.size w8 w2 ∧ w2.cell? ⟨w.heap.size, 0, none⟩ = some (.int .i64 l0) ∧ w2.cell? ⟨w.heap.size, 1, none⟩ = some (.int .i64 r0_) ∧ w2.cell? ⟨w.heap.size, 2, none⟩ = some (.slice a0 xs0.length cap0) ∧ w2.cell? ⟨w4.heap.size, 0, none⟩ = some (.int .i64 l0) ∧ w2.cell? ⟨w4.heap.size, 1, none⟩ = some (.int .i64 r0_) ∧ w2.cell? ⟨w4.heap.size, 2, none⟩ = some (.slice (some ⟨g0x, 0, none⟩) xs0.length xs0.length)) := fun w1 w2 h hb => PG.keep2 hs0 hsx h hb
    have TQ : Hid (∀ W' : World, (Below w8.heap.size w8 W' ∧ W'.cell? ⟨w.heap.size, 0, none⟩ = some (.int .i64 l0) ∧ W'.cell? ⟨w.heap.size, 1, none⟩ = some (.int .i64 r0_) ∧ W'.cell? ⟨w.heap.size, 2, none⟩ = some (.slice a0 xs0.length cap0) ∧ W'.cell? ⟨w4.heap.size, 0, none⟩ = some (.int .i64 l0) ∧ W'.cell? ⟨w4.heap.size, 1, none⟩ = some (.int .i64 r0_) ∧ W'.cell? ⟨w4.heap.size, 2, none⟩ = some (.slice (some ⟨g0x, 0, none⟩) xs0.length xs0.length)) → Calls Try.prog 11 #[PG.pv l0 r0_ (.slice a0 xs0.length cap0)] W' fun e w' => ∃ g : Nat, e = .returned (PG.pv l0 r0_ (.slice (some ⟨g, 0, none⟩) xs0.length xs0.length)) ∧ NR.RowsAt w' (some ⟨g, 0, none⟩) xs0 ∧ (Below w8.heap.size w8 w' ∧ w'.cell? ⟨w.heap.size, 0, none⟩ = some (.int .i64 l0) ∧ w'.cell? ⟨w.heap.size, 1, none⟩ = some (.int .i64 r0_) ∧ w'.cell? ⟨w.heap.size, 2, none⟩ = some (.slice a0 xs0.length cap0) ∧ w'.cell? ⟨w4.heap.size, 0, none⟩ = some (.int .i64 l0) ∧ w'.cell? ⟨w4.heap.size, 1, none⟩ = some (.int .i64 r0_) ∧ w'.cell? ⟨w4.heap.size, 2, none⟩ = some (.slice (some ⟨g0x, 0, none⟩) xs0.length xs0.length))) := fun W' h => (TP0.out W' (NR.RowsAt.below H0.out (B.trans (h.1.mono B.size)))).mono fun e w' ⟨g, _, _, e1, ho, hb⟩ => ⟨g, e1, ho.rows, KP _ _ h hb⟩
    have XR : Hid _ := X0x.out.rows
    have EQQ : Hid (∀ (g : Nat) (W' : World), (Below w8.heap.size w8 W' ∧ W'.cell? ⟨w.heap.size, 0, none⟩ = some (.int .i64 l0) ∧ W'.cell? ⟨w.heap.size, 1, none⟩ = some (.int .i64 r0_) ∧ W'.cell? ⟨w.heap.size, 2, none⟩ = some (.slice a0 xs0.length cap0) ∧ W'.cell? ⟨w4.heap.size, 0, none⟩ = some (.int .i64 l0) ∧ W'.cell? ⟨w4.heap.size, 1, none⟩ = some (.int .i64 r0_) ∧ W'.cell? ⟨w4.heap.size, 2, none⟩ = some (.slice (some ⟨g0x, 0, none⟩) xs0.length xs0.length)) → NR.RowsAt W' (some ⟨g, 0, none⟩) xs0 → Calls Try.prog 13 #[PG.pv l0 r0_ (.slice (some ⟨g0x, 0, none⟩) xs0.length xs0.length), PG.pv l0 r0_ (.slice (some ⟨g, 0, none⟩) xs0.length xs0.length)] W' fun e w' => e = .returned (.bool true) ∧ (Below w8.heap.size w8 w' ∧ w'.cell? ⟨w.heap.size, 0, none⟩ = some (.int .i64 l0) ∧ w'.cell? ⟨w.heap.size, 1, none⟩ = some (.int .i64 r0_) ∧ w'.cell? ⟨w.heap.size, 2, none⟩ = some (.slice a0 xs0.length cap0) ∧ w'.cell? ⟨w4.heap.size, 0, none⟩ = some (.int .i64 l0) ∧ w'.cell? ⟨w4.heap.size, 1, none⟩ = some (.int .i64 r0_) ∧ w'.cell? ⟨w4.heap.size, 2, none⟩ = some (.slice (some ⟨g0x, 0, none⟩) xs0.length xs0.length))) := fun g W' h h2 => (EQ0.out g0x g W' (NR.RowsAt.below XR.out h.1) h2).mono fun e w' ⟨e1, hb⟩ => ⟨e1, KP _ _ h hb⟩
    obtain ⟨x00, x01, x02⟩ := BX0.out
    obtain ⟨xx0, xx1, xx2⟩ := BXx.out
    have hSd : Below w8.heap.size w8 w8.drew ∧ w8.drew.cell? ⟨w.heap.size, 0, none⟩ = some (.int .i64 l0) ∧ w8.drew.cell? ⟨w.heap.size, 1, none⟩ = some (.int .i64 r0_) ∧ w8.drew.cell? ⟨w.heap.size, 2, none⟩ = some (.slice a0 xs0.length cap0) ∧ w8.drew.cell? ⟨w4.heap.size, 0, none⟩ = some (.int .i64 l0) ∧ w8.drew.cell? ⟨w4.heap.size, 1, none⟩ = some (.int .i64 r0_) ∧ w8.drew.cell? ⟨w4.heap.size, 2, none⟩ = some (.slice (some ⟨g0x, 0, none⟩) xs0.length xs0.length) := ⟨(Below.refl _ _).drew, x00, x01, x02, xx0, xx1, xx2⟩
    clear KP XR
    go_wp2
    go_region_held3 (fun w' => Below w8.heap.size w8 w' ∧ w'.cell? ⟨w.heap.size, 0, none⟩ = some (.int .i64 l0) ∧ w'.cell? ⟨w.heap.size, 1, none⟩ = some (.int .i64 r0_) ∧ w'.cell? ⟨w.heap.size, 2, none⟩ = some (.slice a0 xs0.length cap0) ∧ w'.cell? ⟨w4.heap.size, 0, none⟩ = some (.int .i64 l0) ∧ w'.cell? ⟨w4.heap.size, 1, none⟩ = some (.int .i64 r0_) ∧ w'.cell? ⟨w4.heap.size, 2, none⟩ = some (.slice (some ⟨g0x, 0, none⟩) xs0.length xs0.length)) (first | assumption | (show _ ∧ _; assumption)) (first | (go_at_call 11; refine Calls.mono (TQ.out _ (by assumption)) ?_; (rintro e wq ⟨gq, rfl, hrq, hSq⟩)) | (go_at_call 13; refine Calls.mono (EQQ.out _ _ (by assumption) (by assumption)) ?_; (rintro e w9 ⟨rfl, hSr⟩)))
    have hb := hSr.1
    clear hSd hSq hSr hrq TQ EQQ x00 x01 x02 xx0 xx1 xx2
    replace B := B.trans (hb.mono B.size)
    replace BX0 : Hid (w9.cell? ⟨w.heap.size, 0, none⟩ = some (.int .i64 l0) ∧ w9.cell? ⟨w.heap.size, 1, none⟩ = some (.int .i64 r0_) ∧ w9.cell? ⟨w.heap.size, 2, none⟩ = some (.slice a0 xs0.length cap0)) := ⟨(hb.cell (p := ⟨w.heap.size, 0, none⟩) hs0).trans BX0.out.1, (hb.cell (p := ⟨w.heap.size, 1, none⟩) hs0).trans BX0.out.2.1, (hb.cell (p := ⟨w.heap.size, 2, none⟩) hs0).trans BX0.out.2.2⟩
    replace hs0 : w.heap.size < w9.heap.size := Nat.lt_of_lt_of_le hs0 hb.size
    replace BXx : Hid (w9.cell? ⟨w4.heap.size, 0, none⟩ = some (.int .i64 l0) ∧ w9.cell? ⟨w4.heap.size, 1, none⟩ = some (.int .i64 r0_) ∧ w9.cell? ⟨w4.heap.size, 2, none⟩ = some (.slice (some ⟨g0x, 0, none⟩) xs0.length xs0.length)) := ⟨(hb.cell (p := ⟨w4.heap.size, 0, none⟩) hsx).trans BXx.out.1, (hb.cell (p := ⟨w4.heap.size, 1, none⟩) hsx).trans BXx.out.2.1, (hb.cell (p := ⟨w4.heap.size, 2, none⟩) hsx).trans BXx.out.2.2⟩
    replace hsx : w4.heap.size < w9.heap.size := Nat.lt_of_lt_of_le hsx hb.size
    replace C := C.trans (hb.mono C.size)
    replace SW : w5.heap.size ≤ w9.heap.size := Nat.le_trans SW hb.size
    replace X0x : Hid (NR.Own 31 w9 w3.heap.size (.slice (some ⟨g0x, 0, none⟩) xs0.length xs0.length) xs0 AX CX) := NR.Own.below X0x.out hb
    replace OG : Hid (World.ownsRow w9 w5.heap.size 3 1 (.slice ai L.length ci) L.length (M4.iv L)) := M5.own_below OG.out hb
    replace OK : Hid (World.ownsRow w9 MI 3 1 (.slice ak K.length ck) K.length (M4.iv K)) := M5.own_below OK.out hb
    replace HM2 : Hid (MI ≤ w9.heap.size) := Nat.le_trans HM2.out hb.size
    clear hb
    obtain ⟨xx0, xx1, xx2⟩ := BXx.out
    go_wp2_with fail
    clear xx0 xx1 xx2
    refine (markPairing_any l0 r0_ w3.heap.size w4.heap.size (some ⟨g0x, 0, none⟩) xs0.length xs0 AX CX 1 _ hz0 ht0 (by omega) (by omega) HTop.out X0x.out).mono ?_
    rintro e w10 ⟨rfl, hm⟩
    replace BX0 : Hid (w10.cell? ⟨w.heap.size, 0, none⟩ = some (.int .i64 l0) ∧ w10.cell? ⟨w.heap.size, 1, none⟩ = some (.int .i64 r0_) ∧ w10.cell? ⟨w.heap.size, 2, none⟩ = some (.slice a0 xs0.length cap0)) := ⟨(World.cell?_of_block (a := ⟨w.heap.size, 0, none⟩) (hm.block w.heap.size hs0 (.inl hLo))).trans BX0.out.1, (World.cell?_of_block (a := ⟨w.heap.size, 1, none⟩) (hm.block w.heap.size hs0 (.inl hLo))).trans BX0.out.2.1, (World.cell?_of_block (a := ⟨w.heap.size, 2, none⟩) (hm.block w.heap.size hs0 (.inl hLo))).trans BX0.out.2.2⟩
    replace hs0 : w.heap.size < w10.heap.size := Nat.lt_of_lt_of_le hs0 hm.size
    replace BXx : Hid (w10.cell? ⟨w4.heap.size, 0, none⟩ = some (.int .i64 l0) ∧ w10.cell? ⟨w4.heap.size, 1, none⟩ = some (.int .i64 r0_) ∧ w10.cell? ⟨w4.heap.size, 2, none⟩ = some (.slice (some ⟨g0x, 0, none⟩) xs0.length xs0.length)) := ⟨(World.cell?_of_block (a := ⟨w4.heap.size, 0, none⟩) (hm.block w4.heap.size hsx (.inr (Nat.le_refl _)))).trans BXx.out.1, (World.cell?_of_block (a := ⟨w4.heap.size, 1, none⟩) (hm.block w4.heap.size hsx (.inr (Nat.le_refl _)))).trans BXx.out.2.1, (World.cell?_of_block (a := ⟨w4.heap.size, 2, none⟩) (hm.block w4.heap.size hsx (.inr (Nat.le_refl _)))).trans BXx.out.2.2⟩
    replace hsx : w4.heap.size < w10.heap.size := Nat.lt_of_lt_of_le hsx hm.size
    replace B := B.trans (hm.below (Nat.le_of_lt hLo) B.size)
    replace C := C.trans (hm.below hC C.size)
    replace SW : w5.heap.size ≤ w10.heap.size := Nat.le_trans SW hm.size
    replace OG : Hid (World.ownsRow w10 w5.heap.size 3 1 (.slice ai L.length ci) L.length (M4.iv L)) := PG.Mid.own OG.out hm hTw
    replace OK : Hid (World.ownsRow w10 MI 3 1 (.slice ak K.length ck) K.length (M4.iv K)) := PG.Mid.own OK.out hm (Nat.le_trans hTw hM1)
    replace HM2 : Hid (MI ≤ w10.heap.size) := Nat.le_trans HM2.out hm.size
    clear hm X0x HTop
    go_wp2_with fail
    refine (eqIntS_any _ _ _ _ L L _ (by omega) (by omega) (M5.own_ints OG.out) (M4.IntsAt.below IN0.out C)).mono ?_
    rintro e w11 ⟨rfl, hb⟩
    replace B := B.trans (hb.mono B.size)
    replace BX0 : Hid (w11.cell? ⟨w.heap.size, 0, none⟩ = some (.int .i64 l0) ∧ w11.cell? ⟨w.heap.size, 1, none⟩ = some (.int .i64 r0_) ∧ w11.cell? ⟨w.heap.size, 2, none⟩ = some (.slice a0 xs0.length cap0)) := ⟨(hb.cell (p := ⟨w.heap.size, 0, none⟩) hs0).trans BX0.out.1, (hb.cell (p := ⟨w.heap.size, 1, none⟩) hs0).trans BX0.out.2.1, (hb.cell (p := ⟨w.heap.size, 2, none⟩) hs0).trans BX0.out.2.2⟩
    replace hs0 : w.heap.size < w11.heap.size := Nat.lt_of_lt_of_le hs0 hb.size
    replace BXx : Hid (w11.cell? ⟨w4.heap.size, 0, none⟩ = some (.int .i64 l0) ∧ w11.cell? ⟨w4.heap.size, 1, none⟩ = some (.int .i64 r0_) ∧ w11.cell? ⟨w4.heap.size, 2, none⟩ = some (.slice (some ⟨g0x, 0, none⟩) xs0.length xs0.length)) := ⟨(hb.cell (p := ⟨w4.heap.size, 0, none⟩) hsx).trans BXx.out.1, (hb.cell (p := ⟨w4.heap.size, 1, none⟩) hsx).trans BXx.out.2.1, (hb.cell (p := ⟨w4.heap.size, 2, none⟩) hsx).trans BXx.out.2.2⟩
    replace hsx : w4.heap.size < w11.heap.size := Nat.lt_of_lt_of_le hsx hb.size
    replace C := C.trans (hb.mono C.size)
    replace SW : w5.heap.size ≤ w11.heap.size := Nat.le_trans SW hb.size
    replace OG : Hid (World.ownsRow w11 w5.heap.size 3 1 (.slice ai L.length ci) L.length (M4.iv L)) := M5.own_below OG.out hb
    replace OK : Hid (World.ownsRow w11 MI 3 1 (.slice ak K.length ck) K.length (M4.iv K)) := M5.own_below OK.out hb
    replace HM2 : Hid (MI ≤ w11.heap.size) := Nat.le_trans HM2.out hb.size
    clear hb
    go_wp2_with fail
    refine (eqIntS_any _ _ _ _ K K _ (by omega) (by omega) (M5.own_ints OK.out) (M4.IntsAt.below IN1.out C)).mono ?_
    rintro e w12 ⟨rfl, hb⟩
    replace B := B.trans (hb.mono B.size)
    replace BX0 : Hid (w12.cell? ⟨w.heap.size, 0, none⟩ = some (.int .i64 l0) ∧ w12.cell? ⟨w.heap.size, 1, none⟩ = some (.int .i64 r0_) ∧ w12.cell? ⟨w.heap.size, 2, none⟩ = some (.slice a0 xs0.length cap0)) := ⟨(hb.cell (p := ⟨w.heap.size, 0, none⟩) hs0).trans BX0.out.1, (hb.cell (p := ⟨w.heap.size, 1, none⟩) hs0).trans BX0.out.2.1, (hb.cell (p := ⟨w.heap.size, 2, none⟩) hs0).trans BX0.out.2.2⟩
    replace hs0 : w.heap.size < w12.heap.size := Nat.lt_of_lt_of_le hs0 hb.size
    replace BXx : Hid (w12.cell? ⟨w4.heap.size, 0, none⟩ = some (.int .i64 l0) ∧ w12.cell? ⟨w4.heap.size, 1, none⟩ = some (.int .i64 r0_) ∧ w12.cell? ⟨w4.heap.size, 2, none⟩ = some (.slice (some ⟨g0x, 0, none⟩) xs0.length xs0.length)) := ⟨(hb.cell (p := ⟨w4.heap.size, 0, none⟩) hsx).trans BXx.out.1, (hb.cell (p := ⟨w4.heap.size, 1, none⟩) hsx).trans BXx.out.2.1, (hb.cell (p := ⟨w4.heap.size, 2, none⟩) hsx).trans BXx.out.2.2⟩
    replace hsx : w4.heap.size < w12.heap.size := Nat.lt_of_lt_of_le hsx hb.size
    replace C := C.trans (hb.mono C.size)
    replace SW : w5.heap.size ≤ w12.heap.size := Nat.le_trans SW hb.size
    replace OG : Hid (World.ownsRow w12 w5.heap.size 3 1 (.slice ai L.length ci) L.length (M4.iv L)) := M5.own_below OG.out hb
    replace OK : Hid (World.ownsRow w12 MI 3 1 (.slice ak K.length ck) K.length (M4.iv K)) := M5.own_below OK.out hb
    replace HM2 : Hid (MI ≤ w12.heap.size) := Nat.le_trans HM2.out hb.size
    clear hb
    go_wp2_with fail
    refine (markRow_any w5.heap.size MI ai ci L 1 _ (by omega) (by omega) (by omega) (PG.block_of hM3) OG.out).mono ?_
    rintro e w13 ⟨rfl, hin, hm⟩
    replace BX0 : Hid (w13.cell? ⟨w.heap.size, 0, none⟩ = some (.int .i64 l0) ∧ w13.cell? ⟨w.heap.size, 1, none⟩ = some (.int .i64 r0_) ∧ w13.cell? ⟨w.heap.size, 2, none⟩ = some (.slice a0 xs0.length cap0)) := ⟨(World.cell?_of_block (a := ⟨w.heap.size, 0, none⟩) (hm.block w.heap.size hs0 (.inl (by omega)))).trans BX0.out.1, (World.cell?_of_block (a := ⟨w.heap.size, 1, none⟩) (hm.block w.heap.size hs0 (.inl (by omega)))).trans BX0.out.2.1, (World.cell?_of_block (a := ⟨w.heap.size, 2, none⟩) (hm.block w.heap.size hs0 (.inl (by omega)))).trans BX0.out.2.2⟩
    replace hs0 : w.heap.size < w13.heap.size := Nat.lt_of_lt_of_le hs0 hm.size
    replace BXx : Hid (w13.cell? ⟨w4.heap.size, 0, none⟩ = some (.int .i64 l0) ∧ w13.cell? ⟨w4.heap.size, 1, none⟩ = some (.int .i64 r0_) ∧ w13.cell? ⟨w4.heap.size, 2, none⟩ = some (.slice (some ⟨g0x, 0, none⟩) xs0.length xs0.length)) := ⟨(World.cell?_of_block (a := ⟨w4.heap.size, 0, none⟩) (hm.block w4.heap.size hsx (.inl (by omega)))).trans BXx.out.1, (World.cell?_of_block (a := ⟨w4.heap.size, 1, none⟩) (hm.block w4.heap.size hsx (.inl (by omega)))).trans BXx.out.2.1, (World.cell?_of_block (a := ⟨w4.heap.size, 2, none⟩) (hm.block w4.heap.size hsx (.inl (by omega)))).trans BXx.out.2.2⟩
    replace hsx : w4.heap.size < w13.heap.size := Nat.lt_of_lt_of_le hsx hm.size
    replace B := B.trans (hm.below SB B.size)
    replace C := C.trans (hm.below SC C.size)
    replace SW : w5.heap.size ≤ w13.heap.size := Nat.le_trans SW hm.size
    replace OK : Hid (World.ownsRow w13 MI 3 1 (.slice ak K.length ck) K.length (M4.iv K)) := PG.Mid.own OK.out hm (Nat.le_refl _)
    replace HM2 : Hid (MI ≤ w13.heap.size) := Nat.le_trans HM2.out hm.size
    have IM0 : Hid (NR.In w13 w5.heap.size ai (M5.marks 1 L.length)) := hin
    clear hin hm OG
    go_wp2_with fail
    refine (markRow_any MI w13.heap.size ak ck K (1 + L.length) _ (by omega) (by omega) (by omega) (fun g hg => (OK.out.lt g (by rw [hg]; rfl)).2) OK.out).mono ?_
    rintro e w14 ⟨rfl, hin, hm⟩
    replace BX0 : Hid (w14.cell? ⟨w.heap.size, 0, none⟩ = some (.int .i64 l0) ∧ w14.cell? ⟨w.heap.size, 1, none⟩ = some (.int .i64 r0_) ∧ w14.cell? ⟨w.heap.size, 2, none⟩ = some (.slice a0 xs0.length cap0)) := ⟨(World.cell?_of_block (a := ⟨w.heap.size, 0, none⟩) (hm.block w.heap.size hs0 (.inl (by omega)))).trans BX0.out.1, (World.cell?_of_block (a := ⟨w.heap.size, 1, none⟩) (hm.block w.heap.size hs0 (.inl (by omega)))).trans BX0.out.2.1, (World.cell?_of_block (a := ⟨w.heap.size, 2, none⟩) (hm.block w.heap.size hs0 (.inl (by omega)))).trans BX0.out.2.2⟩
    replace hs0 : w.heap.size < w14.heap.size := Nat.lt_of_lt_of_le hs0 hm.size
    replace BXx : Hid (w14.cell? ⟨w4.heap.size, 0, none⟩ = some (.int .i64 l0) ∧ w14.cell? ⟨w4.heap.size, 1, none⟩ = some (.int .i64 r0_) ∧ w14.cell? ⟨w4.heap.size, 2, none⟩ = some (.slice (some ⟨g0x, 0, none⟩) xs0.length xs0.length)) := ⟨(World.cell?_of_block (a := ⟨w4.heap.size, 0, none⟩) (hm.block w4.heap.size hsx (.inl (by omega)))).trans BXx.out.1, (World.cell?_of_block (a := ⟨w4.heap.size, 1, none⟩) (hm.block w4.heap.size hsx (.inl (by omega)))).trans BXx.out.2.1, (World.cell?_of_block (a := ⟨w4.heap.size, 2, none⟩) (hm.block w4.heap.size hsx (.inl (by omega)))).trans BXx.out.2.2⟩
    replace hsx : w4.heap.size < w14.heap.size := Nat.lt_of_lt_of_le hsx hm.size
    replace B := B.trans (hm.below (Nat.le_trans SB hM1) B.size)
    replace C := C.trans (hm.below (Nat.le_trans SC hM1) C.size)
    replace SW : w5.heap.size ≤ w14.heap.size := Nat.le_trans SW hm.size
    replace HM2 : Hid (MI ≤ w14.heap.size) := Nat.le_trans HM2.out hm.size
    replace IM0 : Hid (NR.In w14 w5.heap.size ai (M5.marks 1 L.length)) := PG.In_mid IM0.out hm (PG.block_of hM3)
    have IM1 : Hid (NR.In w14 MI ak (M5.marks (1 + L.length) K.length)) := hin
    clear hin hm OK SW
    go_wp2_with fail
    refine (heldIntS_any _ _ L.length 1 _ (by omega) (by omega) (by omega) IM0.out.ints).mono ?_
    rintro e w' ⟨rfl, rfl⟩
    go_wp2_with fail
    refine (heldIntS_any _ _ K.length (1 + L.length) _ (by omega) (by omega) (by omega) IM1.out.ints).mono ?_
    rintro e w' ⟨rfl, rfl⟩
    obtain ⟨x00, x01, x02⟩ := BX0.out
    go_wp2_with fail
    clear x00 x01 x02
    refine (TP0.out _ (NR.RowsAt.below H0.out B)).mono ?_
    rintro e w15 ⟨g0y, AY, CY, rfl, ho, hb⟩
    replace B := B.trans (hb.mono B.size)
    replace BX0 : Hid (w15.cell? ⟨w.heap.size, 0, none⟩ = some (.int .i64 l0) ∧ w15.cell? ⟨w.heap.size, 1, none⟩ = some (.int .i64 r0_) ∧ w15.cell? ⟨w.heap.size, 2, none⟩ = some (.slice a0 xs0.length cap0)) := ⟨(hb.cell (p := ⟨w.heap.size, 0, none⟩) hs0).trans BX0.out.1, (hb.cell (p := ⟨w.heap.size, 1, none⟩) hs0).trans BX0.out.2.1, (hb.cell (p := ⟨w.heap.size, 2, none⟩) hs0).trans BX0.out.2.2⟩
    replace hs0 : w.heap.size < w15.heap.size := Nat.lt_of_lt_of_le hs0 hb.size
    replace BXx : Hid (w15.cell? ⟨w4.heap.size, 0, none⟩ = some (.int .i64 l0) ∧ w15.cell? ⟨w4.heap.size, 1, none⟩ = some (.int .i64 r0_) ∧ w15.cell? ⟨w4.heap.size, 2, none⟩ = some (.slice (some ⟨g0x, 0, none⟩) xs0.length xs0.length)) := ⟨(hb.cell (p := ⟨w4.heap.size, 0, none⟩) hsx).trans BXx.out.1, (hb.cell (p := ⟨w4.heap.size, 1, none⟩) hsx).trans BXx.out.2.1, (hb.cell (p := ⟨w4.heap.size, 2, none⟩) hsx).trans BXx.out.2.2⟩
    replace hsx : w4.heap.size < w15.heap.size := Nat.lt_of_lt_of_le hsx hb.size
    replace C := C.trans (hb.mono C.size)
    replace HM2 : Hid (MI ≤ w15.heap.size) := Nat.le_trans HM2.out hb.size
    replace IM0 : Hid (NR.In w15 w5.heap.size ai (M5.marks 1 L.length)) := NR.In.below IM0.out hb
    replace IM1 : Hid (NR.In w15 MI ak (M5.marks (1 + L.length) K.length)) := NR.In.below IM1.out hb
    clear hb
    have X0y : Hid (NR.RowsAt w15 (some ⟨g0y, 0, none⟩) xs0) := ho.rows
    clear ho
    go_wp2_with fail
    refine (IG.out g0y _ X0y.out).mono ?_
    rintro e w16 ⟨ay_, cy_, az_, cz_, MY, rfl, -, -, owny, -, ownz, hb⟩
    replace B := B.trans (hb.mono B.size)
    replace BX0 : Hid (w16.cell? ⟨w.heap.size, 0, none⟩ = some (.int .i64 l0) ∧ w16.cell? ⟨w.heap.size, 1, none⟩ = some (.int .i64 r0_) ∧ w16.cell? ⟨w.heap.size, 2, none⟩ = some (.slice a0 xs0.length cap0)) := ⟨(hb.cell (p := ⟨w.heap.size, 0, none⟩) hs0).trans BX0.out.1, (hb.cell (p := ⟨w.heap.size, 1, none⟩) hs0).trans BX0.out.2.1, (hb.cell (p := ⟨w.heap.size, 2, none⟩) hs0).trans BX0.out.2.2⟩
    replace hs0 : w.heap.size < w16.heap.size := Nat.lt_of_lt_of_le hs0 hb.size
    replace BXx : Hid (w16.cell? ⟨w4.heap.size, 0, none⟩ = some (.int .i64 l0) ∧ w16.cell? ⟨w4.heap.size, 1, none⟩ = some (.int .i64 r0_) ∧ w16.cell? ⟨w4.heap.size, 2, none⟩ = some (.slice (some ⟨g0x, 0, none⟩) xs0.length xs0.length)) := ⟨(hb.cell (p := ⟨w4.heap.size, 0, none⟩) hsx).trans BXx.out.1, (hb.cell (p := ⟨w4.heap.size, 1, none⟩) hsx).trans BXx.out.2.1, (hb.cell (p := ⟨w4.heap.size, 2, none⟩) hsx).trans BXx.out.2.2⟩
    replace hsx : w4.heap.size < w16.heap.size := Nat.lt_of_lt_of_le hsx hb.size
    replace C := C.trans (hb.mono C.size)
    replace HM2 : Hid (MI ≤ w16.heap.size) := Nat.le_trans HM2.out hb.size
    replace IM0 : Hid (NR.In w16 w5.heap.size ai (M5.marks 1 L.length)) := NR.In.below IM0.out hb
    replace IM1 : Hid (NR.In w16 MI ak (M5.marks (1 + L.length) K.length)) := NR.In.below IM1.out hb
    clear hb
    clear X0y IG
    have INY : Hid (M4.IntsAt w16 ay_ L) := M5.own_ints owny
    clear owny
    have INZ : Hid (M4.IntsAt w16 az_ K) := M5.own_ints ownz
    clear ownz
    go_wp2_with fail
    refine (eqIntS_any _ _ _ _ L L _ (by omega) (by omega) (INY.out) (M4.IntsAt.below IN0.out C)).mono ?_
    rintro e w17 ⟨rfl, hb⟩
    replace B := B.trans (hb.mono B.size)
    replace BX0 : Hid (w17.cell? ⟨w.heap.size, 0, none⟩ = some (.int .i64 l0) ∧ w17.cell? ⟨w.heap.size, 1, none⟩ = some (.int .i64 r0_) ∧ w17.cell? ⟨w.heap.size, 2, none⟩ = some (.slice a0 xs0.length cap0)) := ⟨(hb.cell (p := ⟨w.heap.size, 0, none⟩) hs0).trans BX0.out.1, (hb.cell (p := ⟨w.heap.size, 1, none⟩) hs0).trans BX0.out.2.1, (hb.cell (p := ⟨w.heap.size, 2, none⟩) hs0).trans BX0.out.2.2⟩
    replace hs0 : w.heap.size < w17.heap.size := Nat.lt_of_lt_of_le hs0 hb.size
    replace BXx : Hid (w17.cell? ⟨w4.heap.size, 0, none⟩ = some (.int .i64 l0) ∧ w17.cell? ⟨w4.heap.size, 1, none⟩ = some (.int .i64 r0_) ∧ w17.cell? ⟨w4.heap.size, 2, none⟩ = some (.slice (some ⟨g0x, 0, none⟩) xs0.length xs0.length)) := ⟨(hb.cell (p := ⟨w4.heap.size, 0, none⟩) hsx).trans BXx.out.1, (hb.cell (p := ⟨w4.heap.size, 1, none⟩) hsx).trans BXx.out.2.1, (hb.cell (p := ⟨w4.heap.size, 2, none⟩) hsx).trans BXx.out.2.2⟩
    replace hsx : w4.heap.size < w17.heap.size := Nat.lt_of_lt_of_le hsx hb.size
    replace C := C.trans (hb.mono C.size)
    replace HM2 : Hid (MI ≤ w17.heap.size) := Nat.le_trans HM2.out hb.size
    replace IM0 : Hid (NR.In w17 w5.heap.size ai (M5.marks 1 L.length)) := NR.In.below IM0.out hb
    replace IM1 : Hid (NR.In w17 MI ak (M5.marks (1 + L.length) K.length)) := NR.In.below IM1.out hb
    replace INY : Hid (M4.IntsAt w17 ay_ L) := M4.IntsAt.below INY.out hb
    replace INZ : Hid (M4.IntsAt w17 az_ K) := M4.IntsAt.below INZ.out hb
    clear hb
    go_wp2_with fail
    refine (eqIntS_any _ _ _ _ K K _ (by omega) (by omega) (INZ.out) (M4.IntsAt.below IN1.out C)).mono ?_
    rintro e w18 ⟨rfl, hb⟩
    replace B := B.trans (hb.mono B.size)
    replace BX0 : Hid (w18.cell? ⟨w.heap.size, 0, none⟩ = some (.int .i64 l0) ∧ w18.cell? ⟨w.heap.size, 1, none⟩ = some (.int .i64 r0_) ∧ w18.cell? ⟨w.heap.size, 2, none⟩ = some (.slice a0 xs0.length cap0)) := ⟨(hb.cell (p := ⟨w.heap.size, 0, none⟩) hs0).trans BX0.out.1, (hb.cell (p := ⟨w.heap.size, 1, none⟩) hs0).trans BX0.out.2.1, (hb.cell (p := ⟨w.heap.size, 2, none⟩) hs0).trans BX0.out.2.2⟩
    replace hs0 : w.heap.size < w18.heap.size := Nat.lt_of_lt_of_le hs0 hb.size
    replace BXx : Hid (w18.cell? ⟨w4.heap.size, 0, none⟩ = some (.int .i64 l0) ∧ w18.cell? ⟨w4.heap.size, 1, none⟩ = some (.int .i64 r0_) ∧ w18.cell? ⟨w4.heap.size, 2, none⟩ = some (.slice (some ⟨g0x, 0, none⟩) xs0.length xs0.length)) := ⟨(hb.cell (p := ⟨w4.heap.size, 0, none⟩) hsx).trans BXx.out.1, (hb.cell (p := ⟨w4.heap.size, 1, none⟩) hsx).trans BXx.out.2.1, (hb.cell (p := ⟨w4.heap.size, 2, none⟩) hsx).trans BXx.out.2.2⟩
    replace hsx : w4.heap.size < w18.heap.size := Nat.lt_of_lt_of_le hsx hb.size
    replace C := C.trans (hb.mono C.size)
    replace HM2 : Hid (MI ≤ w18.heap.size) := Nat.le_trans HM2.out hb.size
    replace IM0 : Hid (NR.In w18 w5.heap.size ai (M5.marks 1 L.length)) := NR.In.below IM0.out hb
    replace IM1 : Hid (NR.In w18 MI ak (M5.marks (1 + L.length) K.length)) := NR.In.below IM1.out hb
    replace INY : Hid (M4.IntsAt w18 ay_ L) := M4.IntsAt.below INY.out hb
    replace INZ : Hid (M4.IntsAt w18 az_ K) := M4.IntsAt.below INZ.out hb
    clear hb
    go_wp2_with fail
    refine (heldIntS_any _ _ L.length 1 _ (by omega) (by omega) (by omega) IM0.out.ints).mono ?_
    rintro e w' ⟨rfl, rfl⟩
    go_wp2_with fail
    refine (heldIntS_any _ _ K.length (1 + L.length) _ (by omega) (by omega) (by omega) IM1.out.ints).mono ?_
    rintro e w' ⟨rfl, rfl⟩
    clear H0 TP0 EQ0
    go_wp2
    go_ret
    exact ⟨rfl, B⟩
end Go.Proofs.Ytlcdimiookaefaa
