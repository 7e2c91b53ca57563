/- impl.readValue: the value that bytes begin with. -/
import Derived.Test.YtkpkahhhmoaafaaRows
import Derived.Test.YtkpkahhhmoaafaaCReadList
import Derived.Test.YtkpkahhhmoaafaaCTakeHead
import Derived.Test.YtkpkahhhmoaafaaCClone
import Derived.WalkKit
import Derived.WalkSpells
import Derived.WalkLawsBesides
import Derived.Outline
namespace Go.Proofs.Ytkpkahhhmoaafaa
open Go.RowKit
theorem ext_size (s : ByteArray) (a b : Nat) (h : s.size ≤ 400) : (s.extract a b).size ≤ 1048576 := by
  rw [ByteArray.size_extract]; omega
set_option maxHeartbeats 3200000 in
set_option maxRecDepth 100000 in
theorem readValue_step (r : Nat) (ih : Hid (∀ r', r = r' + 1 → RV r')) : RV r := by
  intro s k w hl hk hr
  have hsm : s.size ≤ maxLen := by unfold maxLen; omega
  have TH : Hid _ := implTakeHead_any s (k : Int) w hsm
  clear hsm
  cases hh : M7.hd ((M8.bl s).drop k) with
  | none =>
    have HO : Hid _ := M17.rv_none (r := r) (M17.flat_none hh)
    rw [M17.hdF_none hh] at TH
    clear hh ih
    unfold M10.no at TH
    go_enter Try.func39, Try.ntmps39
    go_wp2_with fail
    refine Calls.mono TH.out ?_
    rintro e w1 ⟨rfl, hb1⟩
    clear TH
    go_wp2
    exact bodyPost_ret (v := .tuple #[.nilIface, .int .i64 0, .bool false]) (by simp [results, Try.results39, go_sem]) rfl ⟨M17.RT.no HO.out _ _, hb1⟩
  | some q =>
    obtain ⟨m, n, c⟩ := q
    obtain ⟨hF, hkc, hc1, hm7, hn9⟩ := M17.hdF_some hl hh
    rw [hF] at TH
    clear hF
    have hlen : ((M8.bl s).drop k).length = s.size - k := by rw [List.length_drop, M8.bl_len]
    by_cases e0 : m = 0
    · subst e0
      have HO : Hid _ := M17.rv_leaf (r := r) (M17.flat_num hh) (by simp)
      clear hh ih hlen
      go_enter Try.func39, Try.ntmps39
      go_wp2_with fail
      refine Calls.mono TH.out ?_
      rintro e w1 ⟨rfl, hb1⟩
      clear TH
      go_wp2
      exact bodyPost_ret (v := .tuple #[.iface 96 (.int .i64 (n : Int)), .int .i64 ((k + c : Nat) : Int), .bool true]) (by simp [results, Try.results39, go_sem]) rfl ⟨M17.RT.yes HO.out rfl (M14.VAt.num _ _ _ _), hb1⟩
    · have b0 : ((m : Int) == 0) = false := by simp; omega
      by_cases e4 : m = 4
      · subst e4
        obtain ⟨r', rfl⟩ : ∃ r', r = r' + 1 := ⟨r - 1, by omega⟩
        have IH : Hid (RV r') := ih.out r' rfl
        have LL : Hid _ := fun W => readList_any r' IH s (k + c) n W hl hkc (by omega) hn9 _ rfl
        have hdd : ((M8.bl s).drop k).drop c = (M8.bl s).drop (k + c) := by rw [List.drop_drop]
        have HY : Hid (∀ L' c', M16.rn (M16.rv r') n ((M8.bl s).drop (k + c)) = some (L', c') → M16.rv (r' + 1) ((M8.bl s).drop k) = some (⟨4, 0, ⟨#[]⟩, (n : Int)⟩ :: L', c + c')) := fun L' c' h => M17.rv_list_yes (M17.flat_lst hh) rfl (by rw [hdd]; simpa using h)
        have HNO : Hid (M16.rn (M16.rv r') n ((M8.bl s).drop (k + c)) = none → M16.rv (r' + 1) ((M8.bl s).drop k) = none) := fun h => M17.rv_list_no (M17.flat_lst hh) rfl (by rw [hdd]; simpa using h)
        clear hh ih hlen hdd e0 b0
        go_enter Try.func39, Try.ntmps39
        go_wp2_with fail
        refine Calls.mono TH.out ?_
        rintro e w1 ⟨rfl, hb1⟩
        clear TH
        go_wp2_with fail
        refine Calls.mono (LL.out _) ?_
        rintro e w2 ⟨he, hb2⟩
        have hB2 := hb1.trans (hb2.mono hb1.size)
        have hsz1 := hb1.size
        clear LL hb1 hb2
        generalize hO : M16.rn (M16.rv r') n ((M8.bl s).drop (k + c)) = O at *
        cases O with
        | none =>
          obtain ⟨u, p, rfl⟩ := M17.RL.none' he
          have HR : Hid _ := HNO.out rfl
          clear HY HNO hO IH
          go_wp2
          exact bodyPost_ret (v := .tuple #[u, .int .i64 (p), .bool false]) (by simp [results, Try.results39, go_sem]) rfl ⟨M17.RT.no HR.out _ _, hB2⟩
        | some q =>
          obtain ⟨L', c'⟩ := q
          obtain ⟨u, D, rfl, hu⟩ := M17.RL.some' he
          have HR : Hid _ := HY.out L' c' rfl
          have HU : Hid _ := hu
          clear HY HNO hO IH hu he
          go_wp2
          exact bodyPost_ret (v := .tuple #[u, .int .i64 (((k + c + c' : Nat) : Int)), .bool true]) (by simp [results, Try.results39, go_sem]) rfl ⟨M17.RT.yes HR.out (by omega) (M14.VAt.keep (Nat.le_refl _) (fun _ _ _ => rfl) (fun b hb _ => Nat.le_trans hsz1 hb) _ _ _ _ HU.out), hB2⟩
      · have b4 : ((m : Int) == 4) = false := by simp; omega
        clear ih
        by_cases e2 : m = 2
        · subst e2
          by_cases hn : n ≤ s.size - (k + c)
          · have HO : Hid _ := M17.rv_leaf (r := r) (M17.flat_two hh (by rw [hlen]; omega)) (by simp)
            rw [M17.text_at] at HO
            have CL : Hid _ := fun W => clone_any (s.extract (k + c) (k + c + n)) W (ext_size s _ _ hl)
            have hg : decide ((s.size : Int) - ((k + c : Nat) : Int) < (n : Int)) = false := by simp; omega
            clear hh hlen b0 b4 e0 e4
            go_enter Try.func39, Try.ntmps39
            go_wp2_with fail
            refine Calls.mono TH.out ?_
            rintro e w1 ⟨rfl, hb1⟩
            clear TH
            go_wp2_with fail
            refine Calls.mono (CL.out _) ?_
            rintro e w2 ⟨rfl, hb2⟩
            have hB2 := hb1.trans (hb2.mono hb1.size)
            clear CL hb1 hb2
            go_wp2
            exact bodyPost_ret (v := .tuple #[.iface 91 (.string (s.extract (k + c) (k + c + n))), .int .i64 ((k : Int) + c + n), .bool true]) (by simp [results, Try.results39, go_sem]) rfl ⟨M17.RT.yes HO.out (by omega) (M14.VAt.byt _ _ _ _), hB2⟩
          · have HO : Hid _ := M17.rv_none (r := r) (M17.flat_short hh (.inl rfl) (by rw [hlen]; omega))
            have hg : decide ((s.size : Int) - ((k + c : Nat) : Int) < (n : Int)) = true := by simp; omega
            clear hh hlen b0 b4 e0 e4
            go_enter Try.func39, Try.ntmps39
            go_wp2_with fail
            refine Calls.mono TH.out ?_
            rintro e w1 ⟨rfl, hb1⟩
            clear TH
            go_wp2
            exact bodyPost_ret (v := .tuple #[.nilIface, .int .i64 0, .bool false]) (by simp [results, Try.results39, go_sem]) rfl ⟨M17.RT.no HO.out _ _, hb1⟩
        · have b2 : ((m : Int) == 2) = false := by simp; omega
          by_cases e3 : m = 3
          · subst e3
            clear e2
            by_cases hn : n ≤ s.size - (k + c)
            · have HO : Hid _ := M17.rv_leaf (r := r) (M17.flat_three hh (by rw [hlen]; omega)) (by simp)
              rw [M17.text_at] at HO
              have CL : Hid _ := fun W => clone_any (s.extract (k + c) (k + c + n)) W (ext_size s _ _ hl)
              have hg : decide ((s.size : Int) - ((k + c : Nat) : Int) < (n : Int)) = false := by simp; omega
              clear hh hlen b0 b4 e0 e4
              go_enter Try.func39, Try.ntmps39
              go_wp2_with fail
              refine Calls.mono TH.out ?_
              rintro e w1 ⟨rfl, hb1⟩
              clear TH
              go_wp2_with fail
              refine Calls.mono (CL.out _) ?_
              rintro e w2 ⟨rfl, hb2⟩
              have hB2 := hb1.trans (hb2.mono hb1.size)
              clear CL hb1 hb2
              go_wp2
              exact bodyPost_ret (v := .tuple #[.iface 92 (.string (s.extract (k + c) (k + c + n))), .int .i64 ((k : Int) + c + n), .bool true]) (by simp [results, Try.results39, go_sem]) rfl ⟨M17.RT.yes HO.out (by omega) (M14.VAt.txt _ _ _ _), hB2⟩
            · have HO : Hid _ := M17.rv_none (r := r) (M17.flat_short hh (.inr rfl) (by rw [hlen]; omega))
              have hg : decide ((s.size : Int) - ((k + c : Nat) : Int) < (n : Int)) = true := by simp; omega
              clear hh hlen b0 b4 e0 e4
              go_enter Try.func39, Try.ntmps39
              go_wp2_with fail
              refine Calls.mono TH.out ?_
              rintro e w1 ⟨rfl, hb1⟩
              clear TH
              go_wp2
              exact bodyPost_ret (v := .tuple #[.nilIface, .int .i64 0, .bool false]) (by simp [results, Try.results39, go_sem]) rfl ⟨M17.RT.no HO.out _ _, hb1⟩
          · have b3 : ((m : Int) == 3) = false := by simp; omega
            have HO : Hid _ := M17.rv_none (r := r) (M17.flat_other hh e0 e2 e3 e4)
            clear hh hlen e0 e2 e3 e4
            go_enter Try.func39, Try.ntmps39
            go_wp2_with fail
            refine Calls.mono TH.out ?_
            rintro e w1 ⟨rfl, hb1⟩
            clear TH
            go_wp2
            exact bodyPost_ret (v := .tuple #[.nilIface, .int .i64 0, .bool false]) (by simp [results, Try.results39, go_sem]) rfl ⟨M17.RT.no HO.out _ _, hb1⟩
theorem readValue_any (r : Nat) : RV r := by
  induction r with
  | zero => exact readValue_step 0 (fun r' h => by omega)
  | succ r ih => exact readValue_step (r + 1) (fun r' h => (Nat.succ.inj h) ▸ ih)
end Go.Proofs.Ytkpkahhhmoaafaa
