/- impl.takeValue at any item; impl.valueOf. -/
import Derived.Test.YtdkhjnpdphnigaaRows
import Derived.Test.YtdkhjnpdphnigaaCTakeLeaf
import Derived.Test.YtdkhjnpdphnigaaCTakeList
import Derived.WalkKit
import Derived.WalkSpells
import Derived.WalkLawsBesides
import Derived.Outline
namespace Go.Proofs.Ytdkhjnpdphnigaa
open Go.RowKit
set_option maxHeartbeats 3200000 in
set_option maxRecDepth 100000 in
theorem takeValue_list (r : Nat) (ih : Hid (∀ r', r = r' + 1 → TV r')) (a : Option Addr) (cap : Nat) (xs : List It) (k d : Nat) (w : World) (hl : xs.length ≤ 1048576) (hd : d + r = 5) (hk : k < xs.length)
    (hts : Hid (M11.Wf xs)) (hin : M11.ItemsAt w a xs) (h1 : (M11.at_ xs k).kind = 4) :
    Calls Try.prog 43 #[.slice a xs.length cap, .int .i64 (k : Int), .int .i64 (d : Int)] w fun e w' => M14.TRes r w' w.heap.size k (xs.drop k) (M12.vl r (xs.drop k)) e ∧ Below w.heap.size w w' := by
  have hm64 := (hts.out k hk).2
  obtain ⟨b, off, rfl, hlt, c0, c1, c2, c3⟩ := hin.at hk
  have hdr := M12.drop_cons hk
  have hlf : M12.leaf (M11.at_ xs k) = false := M12.leaf0 (by omega) (by omega) (by omega)
  have hls := M12.lst4 h1
  rw [hdr]
  clear hdr
  generalize M11.at_ xs k = x at *
  obtain ⟨x0, x1, x2, x3⟩ := x
  simp only at h1 hls c0 c1 c2 c3 hm64
  subst h1
  have hB : Below w.heap.size w (w.alloc (.cells #[.int .i64 4, .int .i64 x1, .string x2, .int .i64 x3] 43)) := (Below.refl _ w).alloc (Nat.le_refl _) _
  by_cases hok : x1 = 0 ∧ x2 = ⟨#[]⟩ ∧ 0 ≤ x3
  · obtain ⟨rfl, rfl, h30⟩ := hok
    obtain ⟨x3, rfl⟩ := Int.eq_ofNat_of_zero_le h30
    have hls' : M12.lst ⟨4, 0, ⟨#[]⟩, (x3 : Int)⟩ = true := by rw [hls]; simp
    clear hls hlf
    cases r with
    | zero =>
      have HR : Hid _ := M12.vl_deep (l := xs.drop (k + 1)) (M12.lst_leaf hls')
      obtain rfl : d = 5 := by omega
      clear hls' ih
      go_enter Try.func43, Try.ntmps43
      go_wp2
      exact bodyPost_ret (v := .tuple #[.nilIface, .int .i64 (0), .bool false]) (by simp [results, Try.results43, go_sem]) rfl ⟨M14.TRes.no HR.out _ _, hB⟩
    | succ r =>
      have IH : Hid (TV r) := ih.out r rfl
      have HLS : Hid _ := hls'
      have d5 : ((d : Int) == 5) = false := by simp; omega
      have LL : Hid _ := fun W h => takeList_any r IH (some ⟨b, off, none⟩) cap xs (k + 1) x3 (d + 1) W hl (by omega) (by omega) (by omega) hts h _ rfl
      have hin1 := hin.below hB
      have HY : Hid _ := fun c D (h : M12.nOf (M12.vl r) x3 (xs.drop (k + 1)) = some (c, D)) => M12.vl_list_yes (r := r) (l := xs.drop (k + 1)) (c := c) (d := D) HLS.out (by simpa using h)
      have HNO : Hid _ := fun (h : M12.nOf (M12.vl r) x3 (xs.drop (k + 1)) = none) => M12.vl_list_no (r := r) (l := xs.drop (k + 1)) HLS.out (by simpa using h)
      clear hls' ih
      go_enter Try.func43, Try.ntmps43
      go_wp2_with fail
      refine Calls.mono (LL.out _ hin1) ?_
      rintro e w2 ⟨he, hb2⟩
      have hB2 : Below w.heap.size w w2 := hB.trans (hb2.mono (by simp))
      clear LL hin1 c0 c1 c2 c3 hin hb2
      generalize hO : M12.nOf (M12.vl r) x3 (xs.drop (k + 1)) = O at *
      cases O with
      | none =>
        obtain ⟨u, p, rfl⟩ := M14.LRes.none' he
        have HR : Hid _ := HNO.out rfl
        clear HY HNO hO IH
        go_wp2
        exact bodyPost_ret (v := .tuple #[u, .int .i64 (p), .bool false]) (by simp [results, Try.results43, go_sem]) rfl ⟨M14.TRes.no HR.out _ _, hB2⟩
      | some q =>
        obtain ⟨c, D⟩ := q
        obtain ⟨u, rfl, hu⟩ := M14.LRes.some' he
        have HR : Hid _ := HY.out c D rfl
        have HU : Hid _ := hu
        clear HY HNO hO IH hu
        go_wp2
        exact bodyPost_ret (v := .tuple #[u, .int .i64 (((k + 1 + c : Nat) : Int)), .bool true]) (by simp [results, Try.results43, go_sem]) rfl ⟨M14.TRes.yes HR.out (by omega) (by rw [List.take_succ_cons]) (M14.VAt.keep (Nat.le_refl _) (fun _ _ _ => rfl) (fun b hb _ => by simp at hb; omega) _ _ _ _ HU.out), hB2⟩
  · have hlf2 : M12.lst ⟨4, x1, x2, x3⟩ = false := by
      rw [hls]
      by_cases e1 : x1 = 0
      · by_cases e2 : x2 = ⟨#[]⟩
        · have e3 : ¬ 0 ≤ x3 := fun h => hok ⟨e1, e2, h⟩
          simp [e3]
        · simp [e2]
      · simp [e1]
    have HR : Hid _ := M12.vl_bad (l := xs.drop (k + 1)) r hlf hlf2
    clear hlf hls hlf2 ih hin hts
    by_cases e1 : x1 = 0
    · subst e1
      by_cases e2 : x2 = ⟨#[]⟩
      · subst e2
        have e3 : x3 < 0 := by
          by_cases h : 0 ≤ x3
          · exact absurd ⟨rfl, rfl, h⟩ hok
          · omega
        clear hok
        go_enter Try.func43, Try.ntmps43
        go_wp2
        exact bodyPost_ret (v := .tuple #[.nilIface, .int .i64 (0), .bool false]) (by simp [results, Try.results43, go_sem]) rfl ⟨M14.TRes.no HR.out _ _, hB⟩
      · have e2a : (x2.toList == (⟨#[]⟩ : ByteArray).toList) = false := M8.beq_no e2
        have e2b : (x2.toList == []) = false := M8.nil_no e2
        clear hok e2
        by_cases e3 : x3 < 0
        · go_enter Try.func43, Try.ntmps43
          go_wp2
          exact bodyPost_ret (v := .tuple #[.nilIface, .int .i64 (0), .bool false]) (by simp [results, Try.results43, go_sem]) rfl ⟨M14.TRes.no HR.out _ _, hB⟩
        · go_enter Try.func43, Try.ntmps43
          go_wp2
          exact bodyPost_ret (v := .tuple #[.nilIface, .int .i64 (0), .bool false]) (by simp [results, Try.results43, go_sem]) rfl ⟨M14.TRes.no HR.out _ _, hB⟩
    · have e1a : (x1 == 0) = false := by simp [e1]
      clear hok
      by_cases e3 : x3 < 0
      · go_enter Try.func43, Try.ntmps43
        go_wp2
        exact bodyPost_ret (v := .tuple #[.nilIface, .int .i64 (0), .bool false]) (by simp [results, Try.results43, go_sem]) rfl ⟨M14.TRes.no HR.out _ _, hB⟩
      · go_enter Try.func43, Try.ntmps43
        go_wp2
        exact bodyPost_ret (v := .tuple #[.nilIface, .int .i64 (0), .bool false]) (by simp [results, Try.results43, go_sem]) rfl ⟨M14.TRes.no HR.out _ _, hB⟩
set_option maxHeartbeats 800000 in
set_option maxRecDepth 100000 in
theorem takeValue_step (r : Nat) (ih : Hid (∀ r', r = r' + 1 → TV r')) : TV r := by
  intro a cap xs k d w hl hd hk hts hin
  by_cases hkl : k < xs.length
  · have hdr := M12.drop_cons hkl
    by_cases h4 : (M11.at_ xs k).kind = 4
    · exact takeValue_list r ih a cap xs k d w hl hd hkl hts hin h4
    · have hy : Hid (M12.leaf (M11.at_ xs k) = true → M12.vl r (xs.drop k) = some (1, 0)) := fun h => by rw [hdr]; exact M12.vl_leaf r h
      have hn : Hid (M12.leaf (M11.at_ xs k) = false → M12.vl r (xs.drop k) = none) := fun h => by rw [hdr]; exact M12.vl_bad r h (M12.lst0 h4)
      by_cases h1 : (M11.at_ xs k).kind = 1
      · exact takeValue_num r a cap xs k d w hl (by omega) hkl hin h1 _ hy hn
      · by_cases h2 : (M11.at_ xs k).kind = 2
        · exact takeValue_k2 r a cap xs k d w hl (by omega) hkl (hts.out k hkl).1 hin h2 _ hy hn
        · by_cases h3 : (M11.at_ xs k).kind = 3
          · exact takeValue_k3 r a cap xs k d w hl (by omega) hkl (hts.out k hkl).1 hin h3 _ hy hn
          · have HR : Hid _ := hn.out (M12.leaf0 h1 h2 h3)
            obtain ⟨b, off, rfl, hlt, c0, c1, c2, c3⟩ := hin.at hkl
            clear hy hn hdr hin hts ih
            generalize M11.at_ xs k = x at *
            obtain ⟨x0, x1, x2, x3⟩ := x
            simp only at h1 h2 h3 h4 c0 c1 c2 c3
            have e1 : (x0 == 1) = false := by simp [h1]
            have e2 : (x0 == 2) = false := by simp [h2]
            have e3 : (x0 == 3) = false := by simp [h3]
            have e4 : (x0 == 4) = false := by simp [h4]
            clear h1 h2 h3 h4
            go_enter Try.func43, Try.ntmps43
            go_wp2
            exact bodyPost_ret (v := .tuple #[.nilIface, .int .i64 (0), .bool false]) (by simp [results, Try.results43, go_sem]) rfl ⟨M14.TRes.no HR.out _ _, (Below.refl _ w).alloc (Nat.le_refl _) _⟩
  · obtain rfl : k = xs.length := by omega
    have HR : Hid (M12.vl r (xs.drop xs.length) = none) := by show _ = _; rw [List.drop_length]; exact M12.vl_nil r
    clear hin hts ih
    go_enter Try.func43, Try.ntmps43
    go_wp2
    exact bodyPost_ret (v := .tuple #[.nilIface, .int .i64 (0), .bool false]) (by simp [results, Try.results43, go_sem]) rfl ⟨M14.TRes.no HR.out _ _, Below.refl _ _⟩
theorem takeValue_any (r : Nat) : TV r := by
  induction r with
  | zero => exact takeValue_step 0 (fun r' h => by omega)
  | succ r ih => exact takeValue_step (r + 1) (fun r' h => (Nat.succ.inj h) ▸ ih)
end Go.Proofs.Ytdkhjnpdphnigaa
