/- IsForest and PartsOf of the program. -/
import Derived.Test.YtdglialjcibbbaaRows
import Derived.Test.YtdglialjcibbbaaCAreEdges
import Derived.WalkKit
import Derived.WalkSpells
import Derived.WalkLawsBesides
import Derived.Outline
import Derived.Maps.AppendAt
namespace Go.Proofs.Ytdglialjcibbbaa
open Go.RowKit
set_option maxHeartbeats 800000 in
set_option maxRecDepth 100000 in
theorem implForest_any (SRT : SortsI) (a b : Option Addr) (ca cb : Nat) (xs : List I3) (os : List Int) (w : World) (hn0 : xs.length ≤ 1048576) (ho : os.length ≤ 1048576) (hin : MI3.RowAt w a xs) (hos : M4.IntsAt w b os) :
    Calls Try.prog 14 #[.slice a xs.length ca, .slice b os.length cb] w fun e w' => e = .returned (.tuple #[.bool (EG.forB xs os), .bool (EG.sok xs os)]) ∧ Below w.heap.size w w' := by
  have AE : Hid _ := areEdges_any a b ca cb xs os w hn0 ho hin hos _ rfl
  have HI : Hid (MI3.RowAt w a xs) := hin
  have HS : Hid (M4.IntsAt w b os) := hos
  clear hin hos
  go_enter Try.func14, Try.ntmps14
  go_wp2_with fail
  refine Calls.mono AE.out ?_
  rintro e w1 ⟨rfl, hb1⟩
  clear AE
  cases hg : EG.sok xs os with
  | false =>
    have hF : Hid (EG.forB xs os = false) := by show _ = _; simp [EG.forB, hg]
    have HK : Hid _ := hg
    clear hg HI HS
    go_wp2
    go_ret2
    exact ⟨by rw [hF.out, HK.out]; rfl, hb1⟩
  | true =>
    have hF : Hid (EG.forB xs os = EG.fst xs os os.length) := by show _ = _; simp [EG.forB, hg]
    obtain ⟨hp, hr⟩ := EG.sok_is hg
    have LK : Hid _ := linked_any SRT a b ca cb xs os w1 hp ho hr (HI.out.below hb1) (HS.out.below hb1)
    have HK : Hid _ := hg
    clear hg HI HS hp hr
    go_wp2_with fail
    refine Calls.mono LK.out ?_
    rintro e w2 ⟨rfl, _, hb2⟩
    clear LK
    go_wp2
    go_ret2
    exact ⟨by rw [hF.out, HK.out]; rfl, hb1.trans (hb2.mono hb1.size)⟩
set_option linter.unusedSimpArgs false in
set_option maxHeartbeats 1600000 in
set_option maxRecDepth 100000 in
theorem implParts_any (SRT : SortsI) (a b : Option Addr) (ca cb : Nat) (xs : List I3) (os : List Int) (w : World) (hn0 : xs.length ≤ 1048576) (ho : os.length ≤ 1048576) (hin : MI3.RowAt w a xs) (hos : M4.IntsAt w b os) :
    Calls Try.prog 12 #[.slice a xs.length ca, .slice b os.length cb] w fun e w' => ∃ a1 c1, e = .returned (.tuple #[.slice a1 (EG.parL xs os).length c1, .bool (EG.sok xs os)]) ∧ w'.ownsRow w.heap.size 3 1 (.slice a1 (EG.parL xs os).length c1) (EG.parL xs os).length (M4.iv (EG.parL xs os)) ∧ Below w.heap.size w w' := by
  obtain ⟨i0, hi, hz0, hz1, hz2⟩ := info_parts Try.info3
  have AE : Hid _ := areEdges_any a b ca cb xs os w hn0 ho hin hos _ rfl
  have HI : Hid (MI3.RowAt w a xs) := hin
  have HS : Hid (M4.IntsAt w b os) := hos
  clear hin hos
  go_enter Try.func12, Try.ntmps12
  go_wp2_with fail
  refine Calls.mono AE.out ?_
  rintro e w1 ⟨rfl, hb1⟩
  clear AE
  cases hg : EG.sok xs os with
  | false =>
    have hC : Hid (EG.parL xs os = []) := by show _ = _; simp [EG.parL, hg]
    have HK : Hid _ := hg
    clear hg HI HS
    go_wp2
    go_ret2
    exact ⟨none, 0, by rw [hC.out, HK.out]; rfl, by rw [hC.out]; exact World.ownsRow_nil _ _ _ _, hb1⟩
  | true =>
    obtain ⟨hp, hr⟩ := EG.sok_is hg
    have hC : Hid (EG.parL xs os = EG.prU (EG.prt xs os os.length) 8) := by show _ = _; simp only [EG.parL, hg, if_true]; rfl
    have LK : Hid _ := linked_any SRT a b ca cb xs os w1 hp ho hr (HI.out.below hb1) (HS.out.below hb1)
    have hlt8 : Hid _ := fun i (hi : i < 8) => EG.prt_lt8 (xs := xs) (os := os) (k := os.length) (Nat.le_refl _) hi
    have HK : Hid _ := hg
    clear hg HI HS hp hr
    generalize EG.prt xs os os.length = f at *
    go_wp2_with fail
    refine Calls.mono LK.out ?_
    rintro e w2 ⟨rfl, hP2, hb2⟩
    have hB2 := hb1.trans (hb2.mono hb1.size)
    have hbl := hP2.lt
    clear LK hb2
    have own0 : (w2.alloc (.cells #[] 3)).ownsRow w2.heap.size 3 1 (.slice (some ⟨w2.heap.size, 0, none⟩) 0 0) (EG.prU f 0).length (M4.iv (EG.prU f 0)) := by
      have := World.ownsRow_lit (base := w2.heap.size) (e := 3) (size := 1) w2 #[] 0 (by simp) (by unfold maxLen; omega) (by simp)
      simpa [EG.prU, M4.iv] using this
    have hbA : Below w2.heap.size w2 (w2.alloc (.cells #[] 3)) := (Below.refl _ _).alloc (Nat.le_refl _) _
    have IO : Hid _ := inOrder_any SRT w1.heap.size f (w2.alloc (.cells #[] 3)) (hP2.below hbA)
    have OWN0 : Hid _ := own0
    have HBA : Hid _ := hbA
    have HP2 : Hid _ := hP2
    clear own0 hbA hP2
    go_wp2_with fail
    refine Calls.mono IO.out ?_
    rintro e w3 ⟨g, c3, rfl, ho3, hb3⟩
    have hB3 := HBA.out.trans (hb3.mono HBA.out.size)
    have own3 := M5.own_below OWN0.out hb3
    have hcell : ∀ j, j < 8 → w3.cell? ⟨g, j, none⟩ = some (.int .i64 (j : Int)) := fun j hj => by
      have := ho3.cellAt j (by omega)
      rw [this, EG.eight_get hj]
    have hgl : g < w3.heap.size := (ho3.lt g rfl).2
    have hgs : w2.heap.size < g := by have := (ho3.lt g rfl).1; simp at this; omega
    have HC : Hid _ := hcell
    have OWN3 : Hid _ := own3
    have HB3 : Hid _ := hB3
    clear IO ho3 hb3 OWN0 HBA hcell own3 hB3
    go_wp2
    go_loopw [8, 25] (fun v iv wr => ∃ k : Nat, iv = .int .i64 k ∧ k ≤ 8 ∧ wr.ownsRow w2.heap.size 3 1 v (EG.prU f k).length (M4.iv (EG.prU f k)) ∧ Hid (v.ownBlock ≠ some g) ∧ Hid (wr.heap[g]? = w3.heap[g]?) ∧ g < wr.heap.size ∧ Below w2.heap.size w2 wr) (fun _ iv _ => (8 - intOf iv).toNat)
    case atStart => exact ⟨0, rfl, by omega, OWN3.out, (by show _ ≠ _; simp [Value.ownBlock]; omega), show Hid _ from rfl, hgl, HB3.out⟩
    case round =>
      obtain ⟨k, rfl, hk, hown, hnb, hgb, hgw, hb⟩ := hrel
      have hbs := hb.size
      have hln := EG.prU_len f k
      by_cases hlk : k < 8
      · have hc : wr.cell? ⟨g, k, none⟩ = some (.int .i64 (k : Int)) := by
          rw [World.cell?_of_block (w := w3) hgb.out]; exact HC.out k hlk
        have hL := PMn.look (HP2.out.below hb) hlk (Nat.le_refl 8)
        have hsu := EG.prU_succ f k
        have HSU : Hid _ := hsu
        have hf8 := hlt8.out k hlk
        have HL : Hid _ := hln
        have hl0 : (EG.prU f k).length ≤ 8 := by omega
        clear hsu HC hlt8 HB3 OWN3 hln
        generalize f k = fk at *
        go_wp2_with (first
          | (at_builtin; go_loud (refine wpList_append_own_at _ rfl _ _ 24 rfl w2.heap.size 3 i0 (.int .i64 0) 1 8 Try.underlying24 hi hz0 hz1 hz2 rfl (by decide) _ _ _ rfl (World.ownsRow.alloc hown _) ⟨wr.heap.size, 0, none⟩ 1 1 [.int .i64 (fk : Int)] rfl rfl ?c1 ?c2 ?c3 ?c4 ?c5 ?_))
          | go_in)
        all_goals try (first | rfl | omega | exact M2.new1 _ _ _ | exact M2.one1 _ _ | (unfold maxLen; omega) | (simp; omega))
        intro v' w4 hown1 hgrow _ hloc
        have R := M5.growI hown hb hbs (by exact hown1) hgrow
        have R1 := R.1
        have R2 := R.2
        rw [← HSU.out] at R1
        have N1 : Hid (v'.ownBlock ≠ some g) := by
          show _ ≠ _
          rcases hloc with h | h
          · rw [h]; exact hnb.out
          · rw [h]; simp; omega
        have N2 : Hid (w4.heap[g]? = w3.heap[g]?) := by
          show _ = _
          rw [hgrow.block g (by simp; omega) (fun e => hnb.out e.symm), Below.heap_alloc _ _ _ hgw, hgb.out]
        have hgw4 : g < w4.heap.size := by have := hgrow.size; simp at this; omega
        clear hown1 hgrow R HSU hown hnb hgb hb hloc hL hc
        go_wp2
        go_roundw
        case rel => exact ⟨k + 1, by go_num, by omega, R1, N1, N2, hgw4, R2⟩
        case measure => simp [intOf]; omega
      · obtain rfl : k = 8 := by omega
        obtain ⟨a3, c3, hv, _⟩ := M5.own_view hown
        rw [hv] at hown ⊢
        have HO : Hid _ := hown
        clear hln hv hown HC hlt8 HB3 OWN3 hnb
        go_wp2
        go_ret2
        have HO' := HO.out
        rw [← hC.out] at HO'
        exact ⟨a3, c3, by rw [hC.out, HK.out]; rfl, EG.own_base' HO' hB2.size, hB2.trans (hb.mono hB2.size)⟩
end Go.Proofs.Ytdglialjcibbbaa
