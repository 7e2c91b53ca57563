/- The specification's ReadItems at any text. -/
import Derived.Test.YtkpkahhhmoaafaaRows
import Derived.Test.YtkpkahhhmoaafaaCImplRead
import Derived.Test.YtkpkahhhmoaafaaCSpecBytes
import Derived.WalkKit
import Derived.WalkSpells
import Derived.WalkLawsBesides
import Derived.Outline
namespace Go.Proofs.Ytkpkahhhmoaafaa
open Go.RowKit
/-- Items that were read. -/
def Rd (L : List It) : Prop := ∀ x ∈ L, M15.can x ∧ x.text.size ≤ 1048576
theorem Rd.snoc {L : List It} {x : It} {l : List UInt8} {c : Nat} (h : Rd L) (hx : M15.flat1 l = some (x, c)) (hl : l.length ≤ 400) : Rd (L ++ [x]) := by
  intro y hy
  rcases List.mem_append.1 hy with hy | hy
  · exact h y hy
  · simp at hy
    subst hy
    obtain ⟨_, h2, h3⟩ := M15.flat1_is hx
    have hc := M16.flat1_can hx
    refine ⟨hc, Nat.le_trans (can_text (L := [y]) (n := 400) (fun z hz => by simp at hz; subst hz; exact hc) ?_ y (by simp)) (by omega)⟩
    rw [M16.bytes_cons, ← h3, List.length_append, List.length_take]; simp [M12.bytes]; omega
theorem Rd.wf {L : List It} (h : Rd L) : M11.Wf L := can_wf (fun x hx => (h x hx).1) (fun x hx => (h x hx).2)
theorem hdR_none {s : ByteArray} {k : Nat} (h : M7.hd ((M8.bl s).drop k) = none) : M10.hdR s k = M10.no := by unfold M10.hdR; rw [h]
theorem hdR_some {s : ByteArray} {k m n c : Nat} (h : M7.hd ((M8.bl s).drop k) = some (m, n, c)) : M10.hdR s k = (m, n, k + c, true) := by unfold M10.hdR; rw [h]
theorem rdS_stop {s : ByteArray} {f k : Nat} {acc : List It} (hk : k < s.size ∧ acc.length ≤ 40) (h : M15.flat1 ((M8.bl s).drop k) = none) : M16.rdS s (f + 1) k acc = ([], false) := by rw [M16.rdS, if_pos hk, h]
theorem rdS_next {s : ByteArray} {f k c : Nat} {x : It} {acc : List It} (hk : k < s.size ∧ acc.length ≤ 40) (h : M15.flat1 ((M8.bl s).drop k) = some (x, c)) : M16.rdS s (f + 1) k acc = M16.rdS s f (k + c) (acc ++ [x]) := by rw [M16.rdS, if_pos hk, h]
theorem rdS_end {s : ByteArray} {f k : Nat} {acc : List It} (hk : ¬ (k < s.size ∧ acc.length ≤ 40)) : M16.rdS s f k acc = M16.fin s acc := by
  cases f with
  | zero => rfl
  | succ f => rw [M16.rdS, if_neg hk]
set_option maxHeartbeats 3200000 in
set_option maxRecDepth 100000 in
theorem specReadItems_any (s : ByteArray) (w : World) (hs0 : s.size ≤ maxLen) :
    Calls Try.prog 16 #[.string s] w fun e w' => LeftI w w' (M16.read s) e := by
  have hs := hs0
  unfold maxLen at hs
  obtain ⟨i0, hi, hz0, hz1, hz2⟩ := info_parts Try.infoItem
  by_cases h400 : s.size ≤ 400
  · have HR0 : Hid (M16.rdS s s.size 0 [] = M16.read s) := M16.rdS_read h400
    generalize M16.read s = r at *
    go_enter Try.func16, Try.ntmps16
    go_wp2
    go_loopw [4, 5, 6, 7, 8, 9] (fun v av _ _ _ _ wr => ∃ (f k : Nat) (acc : List It), av = .int .i64 k ∧ k ≤ s.size ∧ s.size ≤ k + f ∧ acc.length ≤ k ∧ Hid (Rd acc) ∧ Hid (M16.rdS s f k acc = r) ∧ wr.ownsRow w.heap.size 43 4 v acc.length (M11.flat acc) ∧ Below w.heap.size w wr) (fun _ av _ _ _ _ _ => (s.size - intOf av).toNat)
    case atStart => exact ⟨s.size, 0, [], rfl, by omega, by omega, by simp, show Hid (Rd []) from fun x hx => by simp at hx, HR0, World.ownsRow_nil _ _ _ _, Below.refl _ _⟩
    case round =>
      obtain ⟨f, k, acc, rfl, hk, hf, hacc, HRD, HR, hown, hb⟩ := hrel
      obtain ⟨ao, co, hv⟩ := own_slice hown
      rw [hv] at hown ⊢
      clear hv
      by_cases hl : k < s.size ∧ acc.length ≤ 40
      · obtain ⟨f, rfl⟩ : ∃ f', f = f' + 1 := ⟨f - 1, by omega⟩
        have HL : Hid _ := hl
        obtain ⟨hk1, ha40⟩ := hl
        have hlen : ((M8.bl s).drop k).length = s.size - k := by rw [List.length_drop, M8.bl_len]
        have h1 := HR.out
        cases hh : M7.hd ((M8.bl s).drop k) with
        | none =>
          rw [rdS_stop HL.out (M17.flat_none hh)] at h1
          have HN : Hid (([], false) = r) := h1
          have TH : Hid _ := fun W => l2TakeHead_in s k W h400 hk1 _ (hdR_none hh)
          clear h1 HR hh hlen HL HRD hown
          unfold M10.no at TH
          go_wp2_with fail
          refine Calls.mono (TH.out _) ?_
          rintro e w1 ⟨rfl, hb1⟩
          have hB1 := hb.trans (hb1.mono hb.size)
          clear TH hb1 hb
          go_wp2
          exact bodyPost_ret (v := .tuple #[.slice none 0 0, .bool false]) (by simp [results, Try.results16, go_sem]) rfl (leftI_no HN.out hB1)
        | some q =>
          obtain ⟨m, n, c⟩ := q
          obtain ⟨_, hkc, hc1, hm7, hn9⟩ := M17.hdF_some h400 hh
          have TH : Hid _ := fun W => l2TakeHead_in s k W h400 hk1 _ (hdR_some hh)
          by_cases e0 : m = 0
          · subst e0
            have hfl := M17.flat_num hh
            rw [rdS_next HL.out hfl] at h1
            have HN : Hid _ := h1
            have HRD2 : Hid _ := Rd.snoc HRD.out hfl (by rw [hlen]; omega)
            have h63 : acc.length + 1 ≤ maxLen := by unfold maxLen; omega
            have H63 : Hid _ := h63
            clear h1 HR hh hlen HL HRD hfl h63
            go_wp2_with fail
            refine Calls.mono (TH.out _) ?_
            rintro e w1 ⟨rfl, hb1⟩
            have hB1 := hb.trans (hb1.mono hb.size)
            have hown1 := M11.own_below hown hb1
            have hbs := hB1.size
            clear TH hb1 hb hown
            go_wp2_with (at_builtin; refine wpList_append_own _ rfl _ _ 23 rfl w.heap.size 43 i0 _ 4 40 Try.underlying23 hi hz0 hz1 hz2 rfl (by decide) _ _ _ rfl (hown1.alloc _) ⟨w1.heap.size, 0, none⟩ 1 1 (It.cs (⟨1, (n : Int), ⟨#[]⟩, 0⟩ : It)) rfl rfl (M9.newN w1 (It.cs (⟨1, (n : Int), ⟨#[]⟩, 0⟩ : It)) 43) (It.cs_one _) H63.out (by omega) (by simp; omega) ?_)
            intro v' w2 hown2 hgrow _
            have R1 : w2.ownsRow w.heap.size 43 4 v' (acc ++ [(⟨1, (n : Int), ⟨#[]⟩, 0⟩ : It)]).length (M11.flat (acc ++ [(⟨1, (n : Int), ⟨#[]⟩, 0⟩ : It)])) := by
              rw [M11.flat_app, List.length_append]
              simpa [M11.flat] using hown2
            have R2 : Below w.heap.size w w2 := (hB1.alloc hbs _).grown hgrow (by simp; omega) (fun g hg => (hown1.lt g hg).1)
            clear hown2 hgrow hown1 hB1 H63
            go_wp2
            go_roundw
            case rel => exact ⟨f, k + c, acc ++ [_], by go_num, by omega, by omega, by rw [List.length_append, List.length_singleton]; omega, HRD2, HN, R1, R2⟩
            case measure => simp [intOf]; omega
          · have b0 : ((m : Int) == 0) = false := by simp; omega
            by_cases e4 : m = 4
            · subst e4
              clear b0 e0
              have hfl := M17.flat_lst hh
              rw [rdS_next HL.out hfl] at h1
              have HN : Hid _ := h1
              have HRD2 : Hid _ := Rd.snoc HRD.out hfl (by rw [hlen]; omega)
              have h63 : acc.length + 1 ≤ maxLen := by unfold maxLen; omega
              have H63 : Hid _ := h63
              clear h1 HR hh hlen HL HRD hfl h63
              go_wp2_with fail
              refine Calls.mono (TH.out _) ?_
              rintro e w1 ⟨rfl, hb1⟩
              have hB1 := hb.trans (hb1.mono hb.size)
              have hown1 := M11.own_below hown hb1
              have hbs := hB1.size
              clear TH hb1 hb hown
              go_wp2_with (at_builtin; refine wpList_append_own _ rfl _ _ 23 rfl w.heap.size 43 i0 _ 4 40 Try.underlying23 hi hz0 hz1 hz2 rfl (by decide) _ _ _ rfl (hown1.alloc _) ⟨w1.heap.size, 0, none⟩ 1 1 (It.cs (⟨4, 0, ⟨#[]⟩, (n : Int)⟩ : It)) rfl rfl (M9.newN w1 (It.cs (⟨4, 0, ⟨#[]⟩, (n : Int)⟩ : It)) 43) (It.cs_one _) H63.out (by omega) (by simp; omega) ?_)
              intro v' w2 hown2 hgrow _
              have R1 : w2.ownsRow w.heap.size 43 4 v' (acc ++ [(⟨4, 0, ⟨#[]⟩, (n : Int)⟩ : It)]).length (M11.flat (acc ++ [(⟨4, 0, ⟨#[]⟩, (n : Int)⟩ : It)])) := by
                rw [M11.flat_app, List.length_append]
                simpa [M11.flat] using hown2
              have R2 : Below w.heap.size w w2 := (hB1.alloc hbs _).grown hgrow (by simp; omega) (fun g hg => (hown1.lt g hg).1)
              clear hown2 hgrow hown1 hB1 H63
              go_wp2
              go_roundw
              case rel => exact ⟨f, k + c, acc ++ [_], by go_num, by omega, by omega, by rw [List.length_append, List.length_singleton]; omega, HRD2, HN, R1, R2⟩
              case measure => simp [intOf]; omega
            · have b4 : ((m : Int) == 4) = false := by simp; omega
              by_cases e2 : m = 2
              · subst e2
                clear b0 b4 e0 e4
                by_cases hn : n ≤ s.size - (k + c)
                · have hg : decide ((n : Int) ≤ (s.size : Int) - ((k + c : Nat) : Int)) = true := by simp; omega
                  have hfl := M17.flat_two hh (by rw [hlen]; omega)
                  rw [M17.text_at] at hfl
                  rw [rdS_next HL.out hfl] at h1
                  have HN : Hid _ := h1
                  have HRD2 : Hid _ := Rd.snoc HRD.out hfl (by rw [hlen]; omega)
                  have h63 : acc.length + 1 ≤ maxLen := by unfold maxLen; omega
                  have H63 : Hid _ := h63
                  clear h1 HR hh hlen HL HRD hfl h63
                  go_wp2_with fail
                  refine Calls.mono (TH.out _) ?_
                  rintro e w1 ⟨rfl, hb1⟩
                  have hB1 := hb.trans (hb1.mono hb.size)
                  have hown1 := M11.own_below hown hb1
                  have hbs := hB1.size
                  clear TH hb1 hb hown
                  go_wp2_with (at_builtin; refine wpList_append_own _ rfl _ _ 23 rfl w.heap.size 43 i0 _ 4 40 Try.underlying23 hi hz0 hz1 hz2 rfl (by decide) _ _ _ rfl (hown1.alloc _) ⟨w1.heap.size, 0, none⟩ 1 1 (It.cs (⟨2, 0, s.extract (k + c) (k + c + n), 0⟩ : It)) rfl rfl (M9.newN w1 (It.cs (⟨2, 0, s.extract (k + c) (k + c + n), 0⟩ : It)) 43) (It.cs_one _) H63.out (by omega) (by simp; omega) ?_)
                  intro v' w2 hown2 hgrow _
                  have R1 : w2.ownsRow w.heap.size 43 4 v' (acc ++ [(⟨2, 0, s.extract (k + c) (k + c + n), 0⟩ : It)]).length (M11.flat (acc ++ [(⟨2, 0, s.extract (k + c) (k + c + n), 0⟩ : It)])) := by
                    rw [M11.flat_app, List.length_append]
                    simpa [M11.flat] using hown2
                  have R2 : Below w.heap.size w w2 := (hB1.alloc hbs _).grown hgrow (by simp; omega) (fun g hg => (hown1.lt g hg).1)
                  clear hown2 hgrow hown1 hB1 H63
                  go_wp2
                  go_roundw
                  case rel => exact ⟨f, k + (c + n), acc ++ [_], by go_num, by omega, by omega, by rw [List.length_append, List.length_singleton]; omega, HRD2, HN, R1, R2⟩
                  case measure => simp [intOf]; omega
                · have hg : decide ((n : Int) ≤ (s.size : Int) - ((k + c : Nat) : Int)) = false := by simp; omega
                  rw [rdS_stop HL.out (M17.flat_short hh (.inl rfl) (by rw [hlen]; omega))] at h1
                  have HN : Hid (([], false) = r) := h1
                  clear h1 HR hh hlen HL HRD
                  go_wp2_with fail
                  refine Calls.mono (TH.out _) ?_
                  rintro e w1 ⟨rfl, hb1⟩
                  have hB1 := hb.trans (hb1.mono hb.size)
                  have hown1 := M11.own_below hown hb1
                  have hbs := hB1.size
                  clear TH hb1 hb hown
                  clear hown1
                  go_wp2
                  exact bodyPost_ret (v := .tuple #[.slice none 0 0, .bool false]) (by simp [results, Try.results16, go_sem]) rfl (leftI_no HN.out hB1)
              · have b2 : ((m : Int) == 2) = false := by simp; omega
                by_cases e3 : m = 3
                · subst e3
                  clear b0 b4 e0 e4 e2 b2
                  by_cases hn : n ≤ s.size - (k + c)
                  · have hg : decide ((n : Int) ≤ (s.size : Int) - ((k + c : Nat) : Int)) = true := by simp; omega
                    have hfl := M17.flat_three hh (by rw [hlen]; omega)
                    rw [M17.text_at] at hfl
                    rw [rdS_next HL.out hfl] at h1
                    have HN : Hid _ := h1
                    have HRD2 : Hid _ := Rd.snoc HRD.out hfl (by rw [hlen]; omega)
                    have h63 : acc.length + 1 ≤ maxLen := by unfold maxLen; omega
                    have H63 : Hid _ := h63
                    clear h1 HR hh hlen HL HRD hfl h63
                    go_wp2_with fail
                    refine Calls.mono (TH.out _) ?_
                    rintro e w1 ⟨rfl, hb1⟩
                    have hB1 := hb.trans (hb1.mono hb.size)
                    have hown1 := M11.own_below hown hb1
                    have hbs := hB1.size
                    clear TH hb1 hb hown
                    go_wp2_with (at_builtin; refine wpList_append_own _ rfl _ _ 23 rfl w.heap.size 43 i0 _ 4 40 Try.underlying23 hi hz0 hz1 hz2 rfl (by decide) _ _ _ rfl (hown1.alloc _) ⟨w1.heap.size, 0, none⟩ 1 1 (It.cs (⟨3, 0, s.extract (k + c) (k + c + n), 0⟩ : It)) rfl rfl (M9.newN w1 (It.cs (⟨3, 0, s.extract (k + c) (k + c + n), 0⟩ : It)) 43) (It.cs_one _) H63.out (by omega) (by simp; omega) ?_)
                    intro v' w2 hown2 hgrow _
                    have R1 : w2.ownsRow w.heap.size 43 4 v' (acc ++ [(⟨3, 0, s.extract (k + c) (k + c + n), 0⟩ : It)]).length (M11.flat (acc ++ [(⟨3, 0, s.extract (k + c) (k + c + n), 0⟩ : It)])) := by
                      rw [M11.flat_app, List.length_append]
                      simpa [M11.flat] using hown2
                    have R2 : Below w.heap.size w w2 := (hB1.alloc hbs _).grown hgrow (by simp; omega) (fun g hg => (hown1.lt g hg).1)
                    clear hown2 hgrow hown1 hB1 H63
                    go_wp2
                    go_roundw
                    case rel => exact ⟨f, k + (c + n), acc ++ [_], by go_num, by omega, by omega, by rw [List.length_append, List.length_singleton]; omega, HRD2, HN, R1, R2⟩
                    case measure => simp [intOf]; omega
                  · have hg : decide ((n : Int) ≤ (s.size : Int) - ((k + c : Nat) : Int)) = false := by simp; omega
                    rw [rdS_stop HL.out (M17.flat_short hh (.inr rfl) (by rw [hlen]; omega))] at h1
                    have HN : Hid (([], false) = r) := h1
                    clear h1 HR hh hlen HL HRD
                    go_wp2_with fail
                    refine Calls.mono (TH.out _) ?_
                    rintro e w1 ⟨rfl, hb1⟩
                    have hB1 := hb.trans (hb1.mono hb.size)
                    have hown1 := M11.own_below hown hb1
                    have hbs := hB1.size
                    clear TH hb1 hb hown
                    clear hown1
                    go_wp2
                    exact bodyPost_ret (v := .tuple #[.slice none 0 0, .bool false]) (by simp [results, Try.results16, go_sem]) rfl (leftI_no HN.out hB1)
                · have b3 : ((m : Int) == 3) = false := by simp; omega
                  rw [rdS_stop HL.out (M17.flat_other hh e0 e2 e3 e4)] at h1
                  have HN : Hid (([], false) = r) := h1
                  clear h1 HR hh hlen HL HRD
                  clear e0 e2 e3 e4
                  go_wp2_with fail
                  refine Calls.mono (TH.out _) ?_
                  rintro e w1 ⟨rfl, hb1⟩
                  have hB1 := hb.trans (hb1.mono hb.size)
                  have hown1 := M11.own_below hown hb1
                  have hbs := hB1.size
                  clear TH hb1 hb hown
                  clear hown1
                  go_wp2
                  exact bodyPost_ret (v := .tuple #[.slice none 0 0, .bool false]) (by simp [results, Try.results16, go_sem]) rfl (leftI_no HN.out hB1)
      · have h1 := HR.out
        rw [rdS_end hl] at h1
        unfold M16.fin at h1
        have hin := own_items hown rfl
        have SG : Hid _ := fun W h => specGood_any ao co acc W (by omega) HRD.out.wf h
        by_cases hg : M12.good acc = true
        · have ho := (M16.good_one hg).1
          have h40 := (M13.one_some ho).1
          have hf1 : Hid _ := M13.one_fine ho
          have LB : Hid _ := fun W h => l2Bytes_any ao co acc W h40 hf1 h
          rw [hg] at SG
          have hks : ¬ k < s.size := by omega
          have hk2 : decide ((k : Int) < (s.size : Int)) = false := by simp; omega
          by_cases he : M12.bytes acc = M8.bl s
          · rw [if_pos ⟨hg, he⟩] at h1
            have HT : Hid ((acc, true) = r) := h1
            have hst : (⟨(M12.bytes acc).toArray⟩ : ByteArray) = s := M8.bl_inj he
            rw [hst] at LB
            clear h1 HR hl HRD hg ho h40 hf1 he hst
            go_wp2_with fail
            refine Calls.mono (SG.out _ hin) ?_
            rintro e w1 ⟨rfl, hb1⟩
            have hB1 := hb.trans (hb1.mono hb.size)
            have hown1 := M11.own_below hown hb1
            have hin1 := hin.below hb1
            clear SG hb1 hb hown hin
            go_wp2_with fail
            refine Calls.mono (LB.out _ hin1) ?_
            rintro e w2 ⟨rfl, hb2⟩
            have hB2 := hB1.trans (hb2.mono hB1.size)
            have hown2 := M11.own_below hown1 hb2
            clear LB hb2 hB1 hown1 hin1
            go_wp2
            exact bodyPost_ret (v := .tuple #[.slice ao acc.length co, .bool true]) (by simp [results, Try.results16, go_sem]) rfl (leftI_yes HT.out rfl hown2 hB2)
          · rw [if_neg (fun h => he h.2)] at h1
            have HN : Hid (([], false) = r) := h1
            have hst : ¬ (⟨(M12.bytes acc).toArray⟩ : ByteArray) = s := fun h => he (congrArg M8.bl h)
            have hne : ((⟨(M12.bytes acc).toArray⟩ : ByteArray).toList == s.toList) = false := M8.beq_no hst
            generalize (⟨(M12.bytes acc).toArray⟩ : ByteArray) = X at *
            clear h1 HR hl HRD hg ho h40 hf1 he hst
            go_wp2_with fail
            refine Calls.mono (SG.out _ hin) ?_
            rintro e w1 ⟨rfl, hb1⟩
            have hB1 := hb.trans (hb1.mono hb.size)
            have hin1 := hin.below hb1
            clear SG hb1 hb hown hin
            go_wp2_with fail
            refine Calls.mono (LB.out _ hin1) ?_
            rintro e w2 ⟨rfl, hb2⟩
            have hB2 := hB1.trans (hb2.mono hB1.size)
            clear LB hb2 hB1 hin1
            go_wp2
            exact bodyPost_ret (v := .tuple #[.slice none 0 0, .bool false]) (by simp [results, Try.results16, go_sem]) rfl (leftI_no HN.out hB2)
        · rw [if_neg (fun h => hg h.1)] at h1
          have HN : Hid (([], false) = r) := h1
          have hgf : M12.good acc = false := by simpa using hg
          rw [hgf] at SG
          clear h1 HR HRD hg hgf
          by_cases hks : k < s.size
          · have ha40 : decide ((acc.length : Int) ≤ 40) = false := by simp; omega
            clear hl
            go_wp2_with fail
            refine Calls.mono (SG.out _ hin) ?_
            rintro e w1 ⟨rfl, hb1⟩
            have hB1 := hb.trans (hb1.mono hb.size)
            clear SG hb1 hb hown hin
            go_wp2
            exact bodyPost_ret (v := .tuple #[.slice none 0 0, .bool false]) (by simp [results, Try.results16, go_sem]) rfl (leftI_no HN.out hB1)
          · have hk2 : decide ((k : Int) < (s.size : Int)) = false := by simp; omega
            clear hl
            go_wp2_with fail
            refine Calls.mono (SG.out _ hin) ?_
            rintro e w1 ⟨rfl, hb1⟩
            have hB1 := hb.trans (hb1.mono hb.size)
            clear SG hb1 hb hown hin
            go_wp2
            exact bodyPost_ret (v := .tuple #[.slice none 0 0, .bool false]) (by simp [results, Try.results16, go_sem]) rfl (leftI_no HN.out hB1)
  · have HR : Hid (([], false) = M16.read s) := by show _ = _; unfold M16.read; rw [if_neg h400]
    generalize M16.read s = r at *
    go_enter Try.func16, Try.ntmps16
    go_wp2
    exact bodyPost_ret (v := .tuple #[.slice none 0 0, .bool false]) (by simp [results, Try.results16, go_sem]) rfl (leftI_no HR.out (Below.refl _ _))
end Go.Proofs.Ytkpkahhhmoaafaa
