/- impl.readList: the values that bytes begin with, one behind the other. -/
import Derived.Test.YtkpkahhhmoaafaaRows
import Derived.Test.YtkpkahhhmoaafaaM17
import Derived.Test.YtkpkahhhmoaafaaCTakeList
import Derived.WalkKit
import Derived.WalkSpells
import Derived.WalkLawsBesides
import Derived.Outline
namespace Go.Proofs.Ytkpkahhhmoaafaa
open Go.RowKit
/-- What readValue says, r lists within one another at most. -/
def RV (r : Nat) : Prop := ∀ (s : ByteArray) (k : Nat) (w : World), s.size ≤ 400 → k ≤ s.size → s.size ≤ k + r →
    Calls Try.prog 39 #[.string s, .int .i64 (k : Int)] w fun e w' => M17.RT r w' w.heap.size k (M16.rv r ((M8.bl s).drop k)) e ∧ Below w.heap.size w w'
set_option maxHeartbeats 3200000 in
set_option maxRecDepth 100000 in
theorem readList_any (r : Nat) (ih : Hid (RV r)) (s : ByteArray) (k m : Nat) (w : World) (hl : s.size ≤ 400) (hk : k ≤ s.size) (hr : s.size ≤ k + r) (hm : m ≤ 1000000000)
    (o : M16.RO) (ho : Hid (M16.rn (M16.rv r) m ((M8.bl s).drop k) = o)) :
    Calls Try.prog 58 #[.string s, .int .i64 (k : Int), .int .i64 (m : Int)] w fun e w' => M17.RL r w' w.heap.size k m o e ∧ Below w.heap.size w w' := by
  obtain ⟨i0, hi, hz0, hz1, hz2⟩ := info_parts Try.infoVal
  go_enter Try.func58, Try.ntmps58
  go_wp2
  go_loopw [1, 9, 14] (fun av lv iv wr => ∃ (j c D : Nat) (L : List It) (vs : List Value) (Ls : List (List It)) (Ds : List Nat), av = .int .i64 ((k + c : Nat) : Int) ∧ iv = .int .i64 (j : Int) ∧ j ≤ m ∧ Hid (M16.rn (M16.rv r) j ((M8.bl s).drop k) = some (L, c)) ∧ k + c ≤ s.size ∧ j ≤ c ∧ wr.ownsRow w.heap.size 56 1 lv j vs ∧ M14.Kids r wr w.heap.size lv.ownBlock vs Ls Ds ∧ Hid (Ls.flatten = L) ∧ Hid (Ds.foldl max 0 = D) ∧ Below w.heap.size w wr) (fun _ _ iv _ => (m - intOf iv).toNat)
  case atStart => exact ⟨0, 0, 0, [], [], [], [], by go_num, rfl, by omega, show Hid _ from rfl, by omega, by omega, ⟨rfl, .inl ⟨rfl, rfl⟩⟩, M14.Kids.nil _ _ _ _, show Hid _ from rfl, show Hid _ from rfl, Below.refl _ _⟩
  case round =>
    obtain ⟨j, c, D, L, vs, Ls, Ds, rfl, rfl, hj, hN, hkc, hjc, hown, hkids, hfl, hmx, hb⟩ := hrel
    by_cases hjl : j < m
    · have CC : Hid _ := ih.out s (k + c) wr hl hkc (by omega)
      have hdd : ((M8.bl s).drop k).drop c = (M8.bl s).drop (k + c) := by rw [List.drop_drop]
      have HN1 : Hid _ := fun h => M16.rn_stop hN.out (by rw [hdd]; exact h) hjl
      have HN2 : Hid _ := fun L' c' h => M16.rn_next (L' := L') (c' := c') hN.out (by rw [hdd]; exact h)
      have HL : Hid (∀ L' c', M16.rv r ((M8.bl s).drop (k + c)) = some (L', c') → 1 ≤ c' ∧ c' ≤ s.size - (k + c)) := fun L' c' h => by
        obtain ⟨a1, a2, _⟩ := M16.rv_ok r _ L' c' h
        rw [List.length_drop, M8.bl_len] at a2
        exact ⟨a1, a2⟩
      clear hN hdd
      generalize hO : M16.rv r ((M8.bl s).drop (k + c)) = O at *
      clear hO
      go_wp2_with fail
      refine Calls.mono CC.out ?_
      rintro e w2 ⟨he, hb2⟩
      have hBw := hb.trans (hb2.mono hb.size)
      clear CC
      cases O with
      | none =>
        obtain ⟨u, p, rfl⟩ := M17.RT.none' he rfl
        obtain rfl : o = none := ho.out.symm.trans (HN1.out rfl)
        clear HN1 HN2 HL ih hb2 hkids hown
        go_wp2
        exact bodyPost_ret (v := .tuple #[.nilIface, .int .i64 (0), .bool false]) (by simp [results, Try.results58, go_sem]) rfl ⟨M17.RL.no _ _, hBw⟩
      | some q =>
        obtain ⟨L', c'⟩ := q
        obtain ⟨u, D', rfl, hu⟩ := M17.RT.some' he rfl
        have hNN : Hid _ := HN2.out L' c' rfl
        have hl1 := HL.out L' c' rfl
        have hu1 := hu.one
        obtain ⟨tu, xu, rfl⟩ := hu.shape
        have hown2 := M11.own_below hown hb2
        have hvl : vs.length = j := by have := hown.1; omega
        clear HN1 HN2 HL he
        have HU : Hid _ := hu
        have HK : Hid _ := hkids
        have HW : Hid _ := hown
        clear hu hkids hown
        have hbs := hBw.size
        have h63 : j + 1 ≤ maxLen := by unfold maxLen; omega
        have h140 : (j + 1) * 16 ≤ 140737488355328 := by omega
        have hone : ∀ y ∈ [Value.iface tu xu], y.oneCell' = true := by intro y hy; simp at hy; subst hy; exact hu1
        have HONE : Hid _ := hone
        have H63 : Hid _ := h63
        clear hone h63 hu1
        go_wp2_with (at_builtin; refine M14.append_tell _ rfl _ _ 94 rfl w.heap.size 56 i0 .nilIface 1 16 Try.underlying94 hi hz0 hz1 hz2 rfl (by decide) _ _ _ rfl (hown2.alloc _) ⟨w2.heap.size, 0, none⟩ 1 1 [.iface tu xu] rfl rfl (M14.newV _ _ _) HONE.out H63.out h140 (by simp; omega) (by decide) ?_)
        intro v' w3 hown3 hgrow htell
        have hK3 := M14.kids_step HK.out HW.out hb.size hb2 HU.out hgrow (v' := v') (fun g hg => by have := htell g hg; simpa using this)
        have hB3 : Below w.heap.size w w3 := (hBw.alloc hbs _).grown hgrow (by simp; omega) (fun g hg => (World.ownsRow.lt HW.out g hg).1)
        have hfl2 : Hid _ := M17.flat_snoc (L' := L') hfl.out
        have hmx2 : Hid _ := M14.max_snoc (D' := D') hmx.out
        clear hgrow htell HK HW HU hown2 hb2 hBw hb hfl hmx HONE H63 h140
        go_wp2
        go_roundw
        case rel => exact ⟨j + 1, c + c', max D D', L ++ L', vs ++ [.iface tu xu], _, _, by go_num, by go_num, by omega, hNN, by omega, by omega, hown3, hK3, hfl2, hmx2, hB3⟩
        case measure => simp [intOf]; omega
    · obtain rfl : j = m := by omega
      obtain rfl : o = some (L, c) := ho.out.symm.trans hN.out
      have hV := M14.Kids.done hkids hown (by omega)
      rw [hfl.out, hmx.out] at hV
      have HV : Hid _ := hV
      clear hN hkids hown ih hfl hmx hV
      go_wp2
      exact bodyPost_ret (v := .tuple #[.iface 94 u9, .int .i64 (((k + c : Nat) : Int)), .bool true]) (by simp [results, Try.results58, go_sem]) rfl ⟨M17.RL.yes HV.out, hb⟩
end Go.Proofs.Ytkpkahhhmoaafaa
