/- The program's searches, one after another: findsRow, lastSearch. -/
import Derived.Test.YtjfnmhkhjaafkaaRows
import Derived.Test.YtjfnmhkhjaafkaaCPairTk
import Derived.Test.YtjfnmhkhjaafkaaCPairGood
import Derived.Test.YtjfnmhkhjaafkaaCRepeat
import Derived.Deep.RegionHeld3
import Derived.WalkKit
import Derived.WalkSpells
import Derived.WalkLawsBesides
import Derived.Outline
namespace Go.Proofs.Ytjfnmhkhjaafkaa
open Go.RowKit
namespace PG
theorem fnd_skip {ws : List (List Int)} {s : St} {n k : Nat} (hl : s.1.length = n) (hk : k < n) (h : s.1.getD k 0 ≠ -1) : fnd ws (n - k) s = fnd ws (n - (k + 1)) s := by
  obtain ⟨i, hi⟩ : ∃ i, n - k = i + 1 := ⟨n - k - 1, by omega⟩
  rw [hi, fnd, show s.1.length - (i + 1) = k from by omega, if_neg h, show n - (k + 1) = i from by omega]
theorem fnd_try {ws : List (List Int)} {s : St} {n k : Nat} (hl : s.1.length = n) (hk : k < n) (h : s.1.getD k 0 = -1) : fnd ws (n - k) s = if (tr ws 9 k s).1 = true then tr ws 9 k s else fnd ws (n - (k + 1)) (tr ws 9 k s).2 := by
  obtain ⟨i, hi⟩ : ∃ i, n - k = i + 1 := ⟨n - k - 1, by omega⟩
  rw [hi, fnd, show s.1.length - (i + 1) = k from by omega, if_pos h, show n - (k + 1) = i from by omega]
end PG
set_option maxHeartbeats 3200000 in
set_option maxRecDepth 100000 in
theorem finds_any (n : Nat) (a : Option Addr) (cap gs gm cm : Nat) (ws : List (List Int)) (W0 : World) (hn8 : n ≤ 8) (hwn : Hid (ws.length = n)) (hcm : n ≤ cm) (ht : NR.tot ws ≤ 1048576) (hG : Hid (PG.Gd ws)) (hin : Hid (NR.RowsAt W0 a ws)) (s : PG.St) (w : World) (hb0 : Below W0.heap.size W0 w) (hs : PG.Im 47 W0.heap.size gs gm cm n (.slice a ws.length cap) w s) (Z : Bool × PG.St) (hZ : Hid (PG.fnd ws n s = Z)) :
    Calls Try.prog 37 #[.pointer (some ⟨gs, 0, none⟩)] w fun e w' => e = .returned (.bool Z.1) ∧ PG.Im 47 W0.heap.size gs gm cm n (.slice a ws.length cap) w' Z.2 ∧ PG.But gm gs w w' := by
  have hgl := hs.lt
  have cu := hs.match_
  have HS : Hid _ := hs
  clear hs
  go_enter Try.func37, Try.ntmps37
  go_wp2
  go_loopw [10] (fun iv wr => ∃ (k : Nat) (sk : PG.St), iv = .int .i64 k ∧ k ≤ n ∧ Hid (PG.fnd ws (n - k) sk = Z) ∧ Hid (PG.Im 47 W0.heap.size gs gm cm n (.slice a ws.length cap) wr sk) ∧ PG.But gm gs w wr) (fun iv _ => (n - intOf iv).toNat)
  case atStart => exact ⟨0, s, rfl, by omega, hZ, HS, PG.But.refl _ _ _⟩
  case round =>
    clear HS hZ cu
    obtain ⟨k, sk, rfl, hk, hZ, hP, hbt⟩ := hrel
    have hbW : Below W0.heap.size W0 wr := hb0.trans (hbt.below hgl.1 hgl.2.2.1 hb0.size)
    by_cases hl : k < n
    · have hlen := hP.out.len
      have hc := hP.out.m.cellAt k (by omega)
      rw [M4.iv_get sk.1 k (sk.1.getD k 0) (by rw [List.getD_eq_getElem?_getD, List.getElem?_eq_getElem (by omega)]; rfl)] at hc
      by_cases hx : sk.1.getD k 0 = -1
      · rw [hx] at hc
        have hT := hZ.out
        rw [PG.fnd_try hlen hl hx] at hT
        have TK : Hid _ := takes_any n a cap gs gm cm ws W0 hn8 hwn hcm ht hG hin 9 k sk wr hl (by have := PG.un_le sk.2; omega) hbW hP.out
        generalize PG.tr ws 9 k sk = q at *
        have HT : Hid _ := hT
        clear hT hZ hlen hx hP
        go_wp2_with fail
        refine Calls.mono TK.out ?_
        rintro e w3 ⟨rfl, hP3, hb3⟩
        have hbt3 := hbt.trans hb3
        obtain ⟨qb, qs⟩ := q
        simp only at hP3 HT
        have HP3 : Hid _ := hP3
        clear TK hb3 hP3 hbt hc hbW
        cases qb
        · have hT := HT.out
          simp only [Bool.false_eq_true, if_false] at hT
          have HT2 : Hid _ := hT
          clear HT hT
          go_wp2
          go_roundw
          case rel => exact ⟨k + 1, qs, by go_num, by omega, HT2, HP3, hbt3⟩
          case measure => simp [intOf]; omega
        · have hT := HT.out
          simp only [if_true] at hT
          subst hT
          clear HT
          go_wp2
          go_ret
          exact ⟨rfl, HP3.out, hbt3⟩
      · have hT := hZ.out
        rw [PG.fnd_skip hlen hl hx] at hT
        have HT : Hid _ := hT
        have hxb : (sk.1.getD k 0 == -1) = false := by simpa using hx
        clear hT hZ hlen hx
        generalize sk.1.getD k 0 = x at *
        go_wp2
        go_roundw
        case rel => exact ⟨k + 1, sk, by go_num, by omega, HT, hP, hbt⟩
        case measure => simp [intOf]; omega
    · obtain rfl : k = n := by omega
      have hT := hZ.out
      rw [Nat.sub_self, PG.fnd] at hT
      subst hT
      clear hZ
      go_wp2
      go_ret
      exact ⟨rfl, hP.out, hbt⟩
set_option maxHeartbeats 3200000 in
set_option maxRecDepth 100000 in
theorem lastSearch_any (n R : Nat) (a : Option Addr) (cap : Nat) (ws : List (List Int)) (w : World) (hn8 : n ≤ 8) (hn1 : 1 ≤ n) (hwn : Hid (ws.length = n)) (ht : NR.tot ws ≤ 1048576) (hG : Hid (PG.Gd ws)) (hin : NR.RowsAt w a ws) (L : List Int) (hL : Hid (PG.mAll ws n = L)) :
    Calls Try.prog 24 #[PG.pv n R (.slice a ws.length cap)] w fun e w' => ∃ gs gm, e = .returned (.pointer (some ⟨gs, 0, none⟩)) ∧ PG.Im 47 w.heap.size gs gm n n (.slice a ws.length cap) w' (L, PG.ask ws L) ∧ Below w.heap.size w w' := by
  have hB : Below w.heap.size w (w.alloc (Obj.cells #[.int .i64 (n : Int), .int .i64 (R : Int), .slice a ws.length cap] 25)) := (Below.refl _ _).alloc (Nat.le_refl _) _
  have hC : (w.alloc (Obj.cells #[.int .i64 (n : Int), .int .i64 (R : Int), .slice a ws.length cap] 25)).cell? ⟨w.heap.size, 0, none⟩ = some (.int .i64 (n : Int)) ∧ (w.alloc (Obj.cells #[.int .i64 (n : Int), .int .i64 (R : Int), .slice a ws.length cap] 25)).cell? ⟨w.heap.size, 2, none⟩ = some (.slice a ws.length cap) := by simp
  have hS : w.heap.size < (w.alloc (Obj.cells #[.int .i64 (n : Int), .int .i64 (R : Int), .slice a ws.length cap] 25)).heap.size := by simp
  have HI : Hid (NR.RowsAt _ a ws) := hin.below hB
  clear hin
  obtain ⟨hC0, hC2⟩ := hC
  go_enter Try.func24, Try.ntmps24
  go_wp2
  generalize w.alloc (Obj.cells #[.int .i64 (n : Int), .int .i64 (R : Int), .slice a ws.length cap] 25) = W1 at *
  have RPT : Hid (∀ W : World, W1.heap.size < W.heap.size → W.cell? ⟨W1.heap.size, 0, none⟩ = some (.int .i64 (-1)) → Calls Try.prog 47 #[.slice (some ⟨W1.heap.size, 0, none⟩) 1 1, .int .i64 (n : Int)] W fun e w' => ∃ a, e = .returned (.slice (some ⟨a, 0, none⟩) n n) ∧ w'.ownsRow W.heap.size 3 1 (.slice (some ⟨a, 0, none⟩) n n) n (M4.iv (List.replicate n (-1))) ∧ Below W.heap.size W w') := fun W h1 h2 => repeat_any W1.heap.size 1 (-1) n W hn8 hn1 h1 h2
  go_region_held3 (fun w' => w'.cell? ⟨w.heap.size, 0, none⟩ = some (.int .i64 (n : Int)) ∧ w'.cell? ⟨w.heap.size, 2, none⟩ = some (.slice a ws.length cap)) (first | assumption | go_keep) (first | (go_at_call 47; refine Calls.mono (RPT.out _ (by simp) (by simp)) ?_; (rintro e w3 ⟨gm, rfl, ho3, hb3⟩; have k0 := (hb3.cell (p := ⟨w.heap.size, 0, none⟩) (by simp; omega)).trans ((World.cell?_alloc_lt _ _ _ hS).trans hC0); have k2 := (hb3.cell (p := ⟨w.heap.size, 2, none⟩) (by simp; omega)).trans ((World.cell?_alloc_lt _ _ _ hS).trans hC2))))
  rename_i hHeld
  clear hHeld RPT k0 k2
  simp only [World.size_alloc, World.drew] at ho3
  have hbW1 : Below W1.heap.size W1 w3 := (((Below.refl _ W1).alloc (Nat.le_refl _) (Obj.cells #[.int .i64 (-1)] 3)).drew).trans (hb3.mono (by simp))
  have hg3 := ho3.lt gm rfl
  have HP0 : Hid (PG.Im 47 W1.heap.size w3.heap.size gm n n (.slice a ws.length cap) (w3.alloc (Obj.cells #[.slice a ws.length cap, .slice (some ⟨gm, 0, none⟩) n n, .bool false, .bool false, .bool false, .bool false, .bool false, .bool false, .bool false, .bool false] 47)) (PG.none_ n, PG.No)) :=
    ⟨heap_alloc_new w3 _, PG.own_mono (M5.own_below ho3 ((Below.refl _ w3).alloc (Nat.le_refl _) _)) (by omega), by omega, hbW1.size⟩
  have hb4 : Below W1.heap.size W1 (w3.alloc (Obj.cells #[.slice a ws.length cap, .slice (some ⟨gm, 0, none⟩) n n, .bool false, .bool false, .bool false, .bool false, .bool false, .bool false, .bool false, .bool false] 47)) := hbW1.alloc hbW1.size _
  generalize w3.alloc (Obj.cells #[.slice a ws.length cap, .slice (some ⟨gm, 0, none⟩) n n, .bool false, .bool false, .bool false, .bool false, .bool false, .bool false, .bool false, .bool false] 47) = W4 at *
  generalize w3.heap.size = gs at *
  clear ho3 hb3 hbW1
  have HF0 : Hid (PG.fr (PG.none_ n) < 9) := PG.fr_none n hn8
  have hL2 : Hid (PG.all ws 9 (PG.none_ n) = L) := hL
  clear hL
  go_wp2
  go_loopw [13] (fun _ wr => ∃ (f : Nat) (m : List Int), Hid (PG.Im 47 W1.heap.size gs gm n n (.slice a ws.length cap) wr (m, PG.No)) ∧ Hid (PG.fr m < f) ∧ Hid (PG.Inj m) ∧ Hid (PG.all ws f m = L) ∧ Below W1.heap.size W1 wr) (fun _ wr => PG.mv (.slice (some ⟨gm, 0, none⟩) n n) wr)
  case atStart => exact ⟨9, PG.none_ n, HP0, HF0, PG.none_inj n, hL2, hb4⟩
  case round =>
    clear HP0 HF0 hL2 hb4
    obtain ⟨f, m, HP, HF, HJ, HL, hb⟩ := hrel
    have hml := HP.out.len
    have hgl := HP.out.lt
    have FN := finds_any n a cap gs gm n ws W1 hn8 hwn (Nat.le_refl _) ht hG HI (m, PG.No) wr hb HP.out _ rfl
    have FI := PG.fnd_imp hG.out m n PG.No (by simp only at hml; omega) (PG.cl_no ws m)
    have MV := PG.mv_is HP.out.m
    have IS := fun m' (h : PG.imp ws m n = some m') => PG.imp_some hG.out HJ.out n m' (by simp only at hml; omega) h
    obtain ⟨f', rfl⟩ : ∃ f', f = f' + 1 := ⟨f - 1, by have := HF.out; omega⟩
    simp only at hml
    have AN : PG.imp ws m n = none → L = m ∧ (PG.fnd ws n (m, PG.No)).2.2 = PG.ask ws m := fun h => ⟨by rw [← HL.out, PG.all_none f' (by rw [hml]; exact h)], by rw [PG.ask, hml]⟩
    have AS : ∀ m', PG.imp ws m n = some m' → PG.all ws f' m' = L := fun m' h => by rw [← HL.out, PG.all_some f' (by rw [hml]; exact h)]
    generalize PG.fnd ws n (m, PG.No) = Z at *
    have HQ : Hid _ := And.intro FI (And.intro MV (And.intro IS (And.intro AN (And.intro AS hml))))
    have HFN : Hid _ := FN
    clear FI MV IS AN AS hml FN HL
    go_wp2_with fail
    refine Calls.mono HFN.out ?_
    rintro e w5 ⟨rfl, hP5, hb5⟩
    obtain ⟨FI, MV, IS, AN, AS, hml⟩ := HQ.out
    have hb6 : Below W1.heap.size W1 w5 := hb.trans (hb5.below hgl.1 hgl.2.2.1 hb.size)
    obtain ⟨zb, zm, zA⟩ := Z
    simp only at hP5 FI AN
    cases hi : PG.imp ws m n with
    | none =>
      obtain ⟨g1, g2, g3⟩ := FI.2 hi
      obtain ⟨h1, h2⟩ := AN hi
      subst g1 g2 h1 h2
      have HP5 : Hid _ := hP5.base hB.size
      have hB6 := hB.trans (hb6.mono hB.size)
      clear FI MV IS AN AS hml HQ HFN hP5 g3 hi hb5 HP HF HJ
      go_wp2
      go_ret
      exact ⟨gs, gm, rfl, HP5.out, hB6⟩
    | some m' =>
      obtain ⟨g1, g2⟩ := FI.1 m' hi
      subst g1 g2
      obtain ⟨k1, k2, k3, _⟩ := IS zm hi
      have HA : Hid _ := AS zm hi
      have c2 := hP5.asked (j := 0) (by omega)
      have c3 := hP5.asked (j := 1) (by omega)
      have c4 := hP5.asked (j := 2) (by omega)
      have c5 := hP5.asked (j := 3) (by omega)
      have c6 := hP5.asked (j := 4) (by omega)
      have c7 := hP5.asked (j := 5) (by omega)
      have c8 := hP5.asked (j := 6) (by omega)
      have c9 := hP5.asked (j := 7) (by omega)
      simp only [Nat.reduceAdd] at c2 c3 c4 c5 c6 c7 c8 c9
      have z2 := hP5.free 2
      have z3 := hP5.free 3
      have z4 := hP5.free 4
      have z5 := hP5.free 5
      have z6 := hP5.free 6
      have z7 := hP5.free 7
      have z8 := hP5.free 8
      have z9 := hP5.free 9
      obtain ⟨hW, hOW⟩ := hP5.wipe
      have hb7 := hb6.trans (hOW.below hgl.2.2.1 hb6.size)
      have hlt := k3
      rw [← PG.mv_is hW.m, ← MV] at hlt
      have HM : Hid _ := hlt
      have HW : Hid _ := hW
      have HF5 : Hid (PG.fr zm < f') := by show _ < _; have := HF.out; omega
      have HJ5 : Hid _ := k1
      clear FI MV IS AN AS hml HQ HFN hP5 hi hb5 HP HF HJ hW hOW k1 k2 k3 hlt
      go_wp2
      go_roundw
      case rel => exact ⟨f', zm, HW, HF5, HJ5, HA, hb7⟩
      case measure => exact HM.out
end Go.Proofs.Ytjfnmhkhjaafkaa
