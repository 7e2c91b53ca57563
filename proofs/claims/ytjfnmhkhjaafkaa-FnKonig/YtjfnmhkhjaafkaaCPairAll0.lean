/- The specification's most pairs: l10All, MatchAll. -/
import Derived.Test.YtjfnmhkhjaafkaaRows
import Derived.Test.YtjfnmhkhjaafkaaCPairImp0
import Derived.Test.YtjfnmhkhjaafkaaCPairGood
import Derived.WalkKit
import Derived.WalkSpells
import Derived.WalkLawsBesides
import Derived.Outline
namespace Go.Proofs.Ytjfnmhkhjaafkaa
open Go.RowKit
namespace PG
theorem none_snoc (k : Nat) : M4.iv (none_ k) ++ [.int .i64 (-1)] = M4.iv (none_ (k + 1)) := by
  simp [M4.iv, none_, List.replicate_succ']
theorem none_len (k : Nat) : (none_ k).length = k := by simp [none_]
end PG
set_option maxHeartbeats 3200000 in
set_option maxRecDepth 100000 in
theorem l10All_any (n R : Nat) (a : Option Addr) (cap : Nat) (ws : List (List Int)) (w : World) (hR8 : R ≤ 8) (hn8 : n ≤ 8) (hn1 : 1 ≤ n) (hwn : ws.length = n) (ht : NR.tot ws ≤ 1048576) (hG : Hid (∀ j x, x ∈ NR.rw_ ws j → 0 ≤ x ∧ x < (R : Int))) (hin : NR.RowsAt w a ws) (L : List Int) (hL : Hid (PG.mAll ws n = L)) :
    Calls Try.prog 26 #[PG.pv n R (.slice a ws.length cap)] w fun e w' => ∃ a1 c1, e = .returned (.slice a1 n c1) ∧ w'.ownsRow w.heap.size 3 1 (.slice a1 n c1) n (M4.iv L) ∧ Below w.heap.size w w' := by
  have hB : Below w.heap.size w (w.alloc (Obj.cells #[.int .i64 (n : Int), .int .i64 (R : Int), .slice a ws.length cap] 25)) := (Below.refl _ _).alloc (Nat.le_refl _) _
  have hC : (w.alloc (Obj.cells #[.int .i64 (n : Int), .int .i64 (R : Int), .slice a ws.length cap] 25)).cell? ⟨w.heap.size, 0, none⟩ = some (.int .i64 (n : Int)) ∧ (w.alloc (Obj.cells #[.int .i64 (n : Int), .int .i64 (R : Int), .slice a ws.length cap] 25)).cell? ⟨w.heap.size, 1, none⟩ = some (.int .i64 (R : Int)) ∧ (w.alloc (Obj.cells #[.int .i64 (n : Int), .int .i64 (R : Int), .slice a ws.length cap] 25)).cell? ⟨w.heap.size, 2, none⟩ = some (.slice a ws.length cap) := by simp
  have hS : w.heap.size < (w.alloc (Obj.cells #[.int .i64 (n : Int), .int .i64 (R : Int), .slice a ws.length cap] 25)).heap.size := by simp
  have HG : Hid (PG.Gd ws) := fun j x hx => by have := hG.out j x hx; omega
  have HI : Hid (NR.RowsAt _ a ws) := hin.below hB
  obtain ⟨i0, hi, hz0, hz1, hz2⟩ := info_parts Try.info3
  have HWN : Hid _ := hwn
  clear hin hwn
  obtain ⟨hC0, hC1, hC2⟩ := hC
  go_enter Try.func26, Try.ntmps26
  go_wp2
  generalize w.alloc (Obj.cells #[.int .i64 (n : Int), .int .i64 (R : Int), .slice a ws.length cap] 25) = W1 at *
  go_loopw [3, 4] (fun mv iv wr => ∃ k : Nat, iv = .int .i64 k ∧ k ≤ n ∧ Hid (wr.ownsRow W1.heap.size 3 1 mv k (M4.iv (PG.none_ k))) ∧ Below W1.heap.size W1 wr) (fun _ iv _ => (n - intOf iv).toNat)
  case atStart => exact ⟨0, rfl, by omega, World.ownsRow_nil _ _ _ _, Below.refl _ _⟩
  case round =>
    obtain ⟨k, rfl, hk, HO, hb⟩ := hrel
    have c0 := (hb.cell (p := ⟨w.heap.size, 0, none⟩) hS).trans hC0
    have c1 := (hb.cell (p := ⟨w.heap.size, 1, none⟩) hS).trans hC1
    have c2 := (hb.cell (p := ⟨w.heap.size, 2, none⟩) hS).trans hC2
    have hbs := hb.size
    by_cases hl : k < n
    · go_wp2_with (at_builtin; (refine wpList_append_own _ rfl _ _ 27 rfl W1.heap.size 3 i0 (.int .i64 0) 1 8 Try.underlying27 hi hz0 hz1 hz2 rfl (by decide) _ _ _ rfl (World.ownsRow.alloc HO.out _) ⟨wr.heap.size, 0, none⟩ 1 1 [.int .i64 (-1)] rfl rfl ?c1 ?c2 ?c3 ?c4 ?c5 ?_))
      all_goals try (first | rfl | omega | exact M2.new1 _ _ _ | exact M2.one1 _ _ | (unfold maxLen; omega) | (simp; omega))
      intro v' w4 hown1 hgrow _
      rw [PG.none_snoc] at hown1
      have hb4 : Below W1.heap.size W1 w4 := (hb.alloc hbs _).grown hgrow (by simp; omega) (fun j hj => (World.ownsRow.lt HO.out j hj).1)
      have HO4 : Hid _ := hown1
      clear hown1 hgrow HO
      go_wp2
      go_roundw
      case rel => exact ⟨k + 1, by go_num, by omega, HO4, hb4⟩
      case measure => simp [intOf]; omega
    · obtain rfl : k = n := by omega
      obtain ⟨g0, d0, rfl⟩ : ∃ g0 d0, u3 = .slice (some ⟨g0, 0, none⟩) k d0 := by
        rcases HO.out.2 with ⟨_, h'⟩ | ⟨g, cap, cur, rfl, _⟩
        · omega
        · exact ⟨g, cap, rfl⟩
      have HF0 : Hid (PG.fr (PG.none_ k) < 9) := PG.fr_none k hn8
      have hL2 : Hid (PG.all ws 9 (PG.none_ k) = L) := hL
      clear hL
      go_wp2
      go_loopw [3] (fun v wr => ∃ (f : Nat) (m : List Int) (g d : Nat), v = .slice (some ⟨g, 0, none⟩) k d ∧ Hid (wr.ownsRow W1.heap.size 3 1 (.slice (some ⟨g, 0, none⟩) k d) k (M4.iv m)) ∧ Hid (PG.fr m < f) ∧ Hid (PG.Inj m) ∧ Hid (PG.all ws f m = L) ∧ Below W1.heap.size W1 wr) (fun v wr => PG.mv v wr)
      case atStart => exact ⟨9, PG.none_ k, g0, d0, rfl, HO, HF0, PG.none_inj k, hL2, hb⟩
      case round =>
        clear HO HF0 hL2 c0 c1 c2 hb hbs
        obtain ⟨f, m, g, d, rfl, HO, HF, HJ, HL, hb⟩ := hrel
        have c0 := (hb.cell (p := ⟨w.heap.size, 0, none⟩) hS).trans hC0
        have c1 := (hb.cell (p := ⟨w.heap.size, 1, none⟩) hS).trans hC1
        have c2 := (hb.cell (p := ⟨w.heap.size, 2, none⟩) hS).trans hC2
        have hB2 := hB.trans (hb.mono hB.size)
        have hml : m.length = k := by have := HO.out.1; simpa [M4.iv] using this
        have hdk : k ≤ d := by
          rcases HO.out.2 with ⟨h', _⟩ | ⟨_, _, _, hv, _, _, h1, _⟩
          · cases h'
          · cases hv; exact h1
        have LI := l10Improve_any k R a (some ⟨g, 0, none⟩) cap d ws m _ hR8 (by omega) (by rw [HWN.out, hml]) (by omega) ht hG (HI.out.below hb) (M5.own_ints HO.out) _ rfl
        have MV := PG.mv_is HO.out
        have IS := fun m' (h : PG.imp ws m m.length = some m') => PG.imp_some HG.out HJ.out _ m' (Nat.le_refl _) h
        obtain ⟨f', rfl⟩ : ∃ f', f = f' + 1 := ⟨f - 1, by have := HF.out; omega⟩
        have AN : Hid (PG.imp ws m m.length = none → L = m) := fun h => by rw [← HL.out, PG.all_none f' h]
        have AS : Hid (∀ m', PG.imp ws m m.length = some m' → PG.all ws f' m' = L) := fun m' h => by rw [← HL.out, PG.all_some f' h]
        have HMV : Hid _ := MV
        have HIS : Hid _ := IS
        clear MV IS HL
        generalize PG.imp ws m m.length = q at *
        rw [hml] at LI
        have HLI : Hid _ := LI
        clear LI
        have HML : Hid _ := hml
        clear hml
        go_wp2_with fail
        refine Calls.mono HLI.out ?_
        rintro e w4 ⟨a1, e1, rfl, ho4, hb4⟩
        have hb5 := hb.trans (hb4.mono hb.size)
        have hB5 := hB2.trans (hb4.mono hB2.size)
        cases q with
        | none =>
          obtain rfl := AN.out rfl
          have HO5 : Hid _ := PG.own_mono (M5.own_below HO.out hb4) hB.size
          clear HLI ho4 hb4 AN AS HMV HIS HF HJ HO
          rw [show ((none : Option (List Int)).getD []).length = 0 from rfl, show (none : Option (List Int)).isSome = false from rfl]
          go_wp2
          go_ret
          exact ⟨_, _, rfl, HO5.out, hB5⟩
        | some m' =>
          obtain ⟨k1, k2, k3, _⟩ := HIS.out m' rfl
          simp only [Option.getD_some] at ho4
          have hm' : m'.length = k := by rw [k2, HML.out]
          rw [hm'] at ho4
          obtain ⟨g5, d5, hv5⟩ : ∃ g5 d5, Value.slice a1 k e1 = .slice (some ⟨g5, 0, none⟩) k d5 := by
            rcases ho4.2 with ⟨_, h'⟩ | ⟨g, cap, cur, hv, _⟩
            · omega
            · exact ⟨g, cap, hv⟩
          simp only [Value.slice.injEq, true_and] at hv5
          obtain ⟨rfl, rfl⟩ := hv5
          have HO5 : Hid (w4.ownsRow W1.heap.size 3 1 (.slice (some ⟨g5, 0, none⟩) k e1) k (M4.iv m')) := PG.own_mono ho4 hb.size
          have HF5 : Hid (PG.fr m' < f') := by show _ < _; have := HF.out; omega
          have HJ5 : Hid _ := k1
          have HA5 : Hid _ := AS.out m' rfl
          have HM5 : Hid (PG.mv (.slice (some ⟨g5, 0, none⟩) k e1) w4 < PG.mv (.slice (some ⟨g, 0, none⟩) k d) wr) := by
            show _ < _
            rw [HMV.out, PG.mv_is HO5.out]; exact k3
          rw [show ((some m' : Option (List Int)).getD []).length = k from hm', show (some m' : Option (List Int)).isSome = true from rfl]
          clear HLI ho4 hb4 AN AS HMV HIS HF HJ HO k1 k2 k3 hm'
          go_wp2
          go_roundw
          case rel => exact ⟨f', m', g5, e1, rfl, HO5, HF5, HJ5, HA5, hb5⟩
          case measure => exact HM5.out
namespace PG
noncomputable def allL (l r : Int) (ws : List (List Int)) : List Int := if good l r ws = true then mAll ws l.toNat else []
theorem allL_yes {l r : Int} {ws : List (List Int)} (h : good l r ws = true) : mAll ws l.toNat = allL l r ws := by rw [allL, if_pos h]
theorem allL_no {l r : Int} {ws : List (List Int)} (h : good l r ws = false) : allL l r ws = [] := by rw [allL, h]; rfl
theorem allL_len {l r : Int} {ws : List (List Int)} (h : good l r ws = true) : (allL l r ws).length = l.toNat := by
  rw [← allL_yes h]
  have := (good_is h).1
  exact (mAll_end (good_Gd h) l.toNat (by omega)).2.2
theorem allL_le (l r : Int) (ws : List (List Int)) : (allL l r ws).length ≤ 8 := by
  by_cases h : good l r ws = true
  · rw [allL_len h]; have := (good_is h).1; omega
  · simp only [Bool.not_eq_true] at h; rw [allL_no h]; simp
end PG
end Go.Proofs.Ytjfnmhkhjaafkaa
