/- The program's ReadItems at any text. -/
import Derived.Test.YtkpkahhhmoaafaaRows
import Derived.Test.YtkpkahhhmoaafaaCReadValue
import Derived.Test.YtkpkahhhmoaafaaCAppendItemsL
import Derived.Test.YtkpkahhhmoaafaaCImplItems
import Derived.WalkKit
import Derived.WalkSpells
import Derived.WalkLawsBesides
import Derived.Outline
namespace Go.Proofs.Ytkpkahhhmoaafaa
open Go.RowKit
/-- What the call leaves: a row of items of its own. -/
def LeftI (w w' : World) (r : List It × Bool) (e : Ending) : Prop := ∃ a cap, e = .returned (.tuple #[.slice a r.1.length cap, .bool r.2]) ∧ w'.ownsRow w.heap.size 43 4 (.slice a r.1.length cap) r.1.length (M11.flat r.1) ∧ Below w.heap.size w w'
theorem leftI_no {w w' : World} {r : List It × Bool} (h : ([], false) = r) (hb : Below w.heap.size w w') : LeftI w w' r (.returned (.tuple #[.slice none 0 0, .bool false])) := by
  subst h; exact ⟨none, 0, rfl, World.ownsRow_nil _ _ _ _, hb⟩
theorem own_slice {w : World} {base e : Nat} {v : Value} {xs : List It} (h : w.ownsRow base e 4 v xs.length (M11.flat xs)) : ∃ a cap, v = .slice a xs.length cap := by
  rcases h.2 with ⟨rfl, h0⟩ | ⟨g, cap, cur, rfl, hb, hg, hc1, hc2, hc3, hc4⟩
  · exact ⟨none, 0, by rw [h0]⟩
  · exact ⟨_, cap, rfl⟩
theorem own_items {w : World} {base e n cap : Nat} {a : Option Addr} {xs : List It} (h : w.ownsRow base e 4 (.slice a n cap) n (M11.flat xs)) (hn : xs.length = n) : M11.ItemsAt w a xs := by
  rcases h.2 with ⟨he, h0⟩ | ⟨g, cap', cur, he, hb, hg, hc1, hc2, hc3, hc4⟩
  · exact .inl (List.eq_nil_of_length_eq_zero (by omega))
  · simp only [Value.slice.injEq] at he
    obtain ⟨rfl, _, rfl⟩ := he
    exact M11.ItemsAt.of_own h
theorem leftI_yes {w w' : World} {r : List It × Bool} {a : Option Addr} {n cap : Nat} {xs : List It} (h : (xs, true) = r) (hn : xs.length = n) (hown : w'.ownsRow w.heap.size 43 4 (.slice a n cap) n (M11.flat xs)) (hb : Below w.heap.size w w') : LeftI w w' r (.returned (.tuple #[.slice a n cap, .bool true])) := by
  subst h hn; exact ⟨a, cap, rfl, hown, hb⟩
theorem can_wf {L : List It} (h : ∀ x ∈ L, M15.can x) (hs : ∀ x ∈ L, x.text.size ≤ 1048576) : M11.Wf L := fun j hj => by
  rw [M11.at_eq L j hj]
  refine ⟨hs _ (List.getElem_mem hj), ?_⟩
  rcases h _ (List.getElem_mem hj) with ⟨n, hn, e⟩ | ⟨t, ht, e⟩ | ⟨t, ht, e⟩ | ⟨n, hn, e⟩ <;> rw [e] <;> simp <;> omega
theorem bytes_mem {L : List It} {x : It} (h : x ∈ L) : (M12.ib x).length ≤ (M12.bytes L).length := by
  induction L with
  | nil => simp at h
  | cons y L ih =>
    rw [M16.bytes_cons, List.length_append]
    rcases List.mem_cons.1 h with rfl | h
    · omega
    · have := ih h; omega
theorem can_text {L : List It} {n : Nat} (h : ∀ x ∈ L, M15.can x) (hn : (M12.bytes L).length ≤ n) : ∀ x ∈ L, x.text.size ≤ n := fun x hx => by
  have hb := bytes_mem hx
  rcases h x hx with ⟨m, _, rfl⟩ | ⟨t, _, rfl⟩ | ⟨t, _, rfl⟩ | ⟨m, _, rfl⟩
  · exact Nat.zero_le _
  · rw [M13.ib2 rfl, List.length_append, M8.bl_len] at hb; simp only at hb ⊢; omega
  · rw [M13.ib3 rfl, List.length_append, M8.bl_len] at hb; simp only at hb ⊢; omega
  · exact Nat.zero_le _
set_option maxHeartbeats 1600000 in
set_option maxRecDepth 100000 in
theorem implReadItems_any (s : ByteArray) (w : World) (hs0 : s.size ≤ maxLen) :
    Calls Try.prog 13 #[.string s] w fun e w' => LeftI w w' (M16.read s) e := by
  have hs := hs0
  unfold maxLen at hs
  by_cases h400 : s.size ≤ 400
  · have RVv : Hid _ := readValue_any s.size s 0 w h400 (by omega) (by omega)
    rw [List.drop_zero] at RVv
    have HR : Hid (M16.pick s (M16.rv s.size (M8.bl s)) = M16.read s) := by show _ = _; unfold M16.read; rw [if_pos h400]
    have HOK : Hid (∀ L c, M16.rv s.size (M8.bl s) = some (L, c) → c ≤ s.size ∧ (M12.bytes L).length = c ∧ (∀ x ∈ L, M15.can x) ∧ L.length ≤ c) := fun L c h => by
      obtain ⟨_, a1, a2, a3, a4⟩ := M16.rv_ok _ _ L c h
      rw [M8.bl_len] at a1
      exact ⟨a1, by rw [a2, List.length_take, M8.bl_len]; omega, a3, a4⟩
    generalize M16.read s = r at *
    generalize hO : M16.rv s.size (M8.bl s) = O at *
    clear hO
    go_enter Try.func13, Try.ntmps13
    go_wp2_with fail
    refine Calls.mono RVv.out ?_
    rintro e w1 ⟨he, hb1⟩
    clear RVv
    cases O with
    | none =>
      obtain ⟨u, p, rfl⟩ := M17.RT.none' he rfl
      have HN : Hid (([], false) = r) := HR.out
      clear HR HOK he
      go_wp2
      exact bodyPost_ret (v := .tuple #[.slice none 0 0, .bool false]) (by simp [results, Try.results13, go_sem]) rfl (leftI_no HN.out hb1)
    | some q =>
      obtain ⟨L, c⟩ := q
      obtain ⟨u, D, rfl, hu⟩ := M17.RT.some' he rfl
      obtain ⟨hc, hbl, hcan, hLc⟩ := HOK.out L c rfl
      have hz : (((0 + c : Nat)) : Int) = (c : Int) := by omega
      rw [hz]
      have hr1 := HR.out
      unfold M16.pick at hr1
      simp only at hr1
      by_cases hcs : c = s.size
      · have hwf : Hid (M11.Wf L) := can_wf hcan (fun x hx => Nat.le_trans (can_text hcan (n := 400) (by omega) x hx) (by omega))
        have hu2 := M14.VAt.keep (S' := fun b => b < w1.heap.size) (Nat.le_refl _) (fun _ _ _ => rfl) (fun b _ h => h) s.size u L D hu
        have AI : Hid _ := appendItems_any s.size w1 w1.heap.size (.slice none 0 0) [] u L D hu2 ⟨by simp [M11.flat], .inl ⟨rfl, rfl⟩⟩ (Nat.le_refl _) (by simp; omega)
        simp only [List.nil_append] at AI
        have IG : Hid _ := fun W a cap h => implGood_any a cap L W (by omega) hwf h
        have HG : Hid (if M12.good L = true then (L, true) = r else ([], false) = r) := by
          show ite _ _ _
          split
          · rename_i h; rw [← hr1, if_pos ⟨hcs, h⟩]
          · rename_i h; rw [← hr1, if_neg (fun hh => h hh.2)]
        have hcb : ((c : Int) == (s.size : Int)) = true := by simp; omega
        obtain ⟨tu, xu, rfl⟩ := hu.shape
        generalize M12.good L = G at *
        clear hr1 HR HOK he hz hu hu2 hwf hcan hbl hcs
        go_wp2_with fail
        refine Calls.mono AI.out ?_
        rintro e w2 ⟨v2, rfl, hown2, hb2⟩
        have hB2 := hb1.trans (hb2.mono hb1.size)
        obtain ⟨a2, cap2, rfl⟩ := own_slice hown2
        have hin2 := own_items hown2 rfl
        have hownw : w2.ownsRow w.heap.size 43 4 (.slice a2 L.length cap2) L.length (M11.flat L) := by
          refine ⟨hown2.1, ?_⟩
          rcases hown2.2 with h | ⟨g, cp, cur, e1, e2, e3⟩
          · exact .inl h
          · exact .inr ⟨g, cp, cur, e1, Nat.le_trans hb1.size e2, e3⟩
        clear AI hb2 hown2
        go_wp2_with fail
        refine Calls.mono (IG.out _ _ _ hin2) ?_
        rintro e w3 ⟨rfl, hb3⟩
        have hB3 := hB2.trans (hb3.mono hB2.size)
        have hown3 := M11.own_below hownw hb3
        clear IG hb3 hB2 hin2 hownw
        cases G with
        | true =>
          have HT : Hid ((L, true) = r) := HG.out
          clear HG
          go_wp2
          exact bodyPost_ret (v := .tuple #[.slice a2 L.length cap2, .bool true]) (by simp [results, Try.results13, go_sem]) rfl (leftI_yes HT.out rfl hown3 hB3)
        | false =>
          have HT : Hid (([], false) = r) := HG.out
          clear HG hown3
          go_wp2
          exact bodyPost_ret (v := .tuple #[.slice none 0 0, .bool false]) (by simp [results, Try.results13, go_sem]) rfl (leftI_no HT.out hB3)
      · have HN : Hid (([], false) = r) := by rw [if_neg (fun h => hcs h.1)] at hr1; exact hr1
        have hcb : ((c : Int) == (s.size : Int)) = false := by simp; omega
        have hcn : ((c : Int) != (s.size : Int)) = true := by simp; omega
        clear hr1 HR HOK he hz hu hcan hbl hcs
        go_wp2
        exact bodyPost_ret (v := .tuple #[.slice none 0 0, .bool false]) (by simp [results, Try.results13, go_sem]) rfl (leftI_no HN.out hb1)
  · have HR : Hid (([], false) = M16.read s) := by show _ = _; unfold M16.read; rw [if_neg h400]
    generalize M16.read s = r at *
    go_enter Try.func13, Try.ntmps13
    go_wp2
    exact bodyPost_ret (v := .tuple #[.slice none 0 0, .bool false]) (by simp [results, Try.results13, go_sem]) rfl (leftI_no HR.out (Below.refl _ _))
end Go.Proofs.Ytkpkahhhmoaafaa
