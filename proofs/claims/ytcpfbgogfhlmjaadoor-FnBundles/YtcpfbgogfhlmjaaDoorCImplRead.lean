import Derived.Test.YtcpfbgogfhlmjaaDoorM16
import Derived.Test.YtcpfbgogfhlmjaaDoorM14
import Derived.Test.YtcpfbgogfhlmjaaDoorRows
import Derived.Test.YtcpfbgogfhlmjaaDoorCTakeList
import Derived.WalkKit
import Derived.WalkSpells
import Derived.WalkLawsBesides
import Derived.Outline
import Derived.Test.YtcpfbgogfhlmjaaDoorCTakeHeadA
import Derived.Test.YtcpfbgogfhlmjaaDoorCClone
import Derived.Test.YtcpfbgogfhlmjaaDoorCAppendItems
import Derived.Test.YtcpfbgogfhlmjaaDoorCImplBytes
/- The steps of reading a value (chapter 2): plain facts; the numbers of the program's types alone are named. -/
namespace Go.Proofs.YtcpfbgogfhlmjaaDoor
namespace M17
open M15 M16
theorem rv_none {r : Nat} {l : List UInt8} (h : flat1 l = none) : rv r l = none := by cases r <;> simp [rv, rstep, h]
theorem rv_leaf {r : Nat} {l : List UInt8} {x : It} {c : Nat} (h : flat1 l = some (x, c)) (hk : x.kind ≠ 4) : rv r l = some ([x], c) := by cases r <;> simp [rv, rstep, h, hk]
theorem rv_list_no {r : Nat} {l : List UInt8} {x : It} {c : Nat} (h : flat1 l = some (x, c)) (hk : x.kind = 4) (hn : rn (rv r) x.many.toNat (l.drop c) = none) : rv (r + 1) l = none := by simp [rv, rstep, h, hk, hn]
theorem rv_list_yes {r : Nat} {l : List UInt8} {x : It} {c c' : Nat} {L : List It} (h : flat1 l = some (x, c)) (hk : x.kind = 4) (hn : rn (rv r) x.many.toNat (l.drop c) = some (L, c')) : rv (r + 1) l = some (x :: L, c + c') := by simp [rv, rstep, h, hk, hn]
theorem flat_none {l : List UInt8} (h : M7.hd l = none) : flat1 l = none := by simp [flat1, h]
theorem flat_num {l : List UInt8} {n c : Nat} (h : M7.hd l = some (0, n, c)) : flat1 l = some (⟨1, (n : Int), ⟨#[]⟩, 0⟩, c) := by simp [flat1, h]
theorem flat_lst {l : List UInt8} {n c : Nat} (h : M7.hd l = some (4, n, c)) : flat1 l = some (⟨4, 0, ⟨#[]⟩, (n : Int)⟩, c) := by simp [flat1, h]
theorem flat_two {l : List UInt8} {n c : Nat} (h : M7.hd l = some (2, n, c)) (hn : n ≤ l.length - c) : flat1 l = some (⟨2, 0, ⟨((l.drop c).take n).toArray⟩, 0⟩, c + n) := by simp [flat1, h, hn]
theorem flat_three {l : List UInt8} {n c : Nat} (h : M7.hd l = some (3, n, c)) (hn : n ≤ l.length - c) : flat1 l = some (⟨3, 0, ⟨((l.drop c).take n).toArray⟩, 0⟩, c + n) := by simp [flat1, h, hn]
theorem flat_short {l : List UInt8} {m n c : Nat} (h : M7.hd l = some (m, n, c)) (hm : m = 2 ∨ m = 3) (hn : ¬ n ≤ l.length - c) : flat1 l = none := by
  unfold flat1; rw [h]; rcases hm with rfl | rfl <;> simp [hn]
theorem flat_other {l : List UInt8} {m n c : Nat} (h : M7.hd l = some (m, n, c)) (h0 : m ≠ 0) (h2 : m ≠ 2) (h3 : m ≠ 3) (h4 : m ≠ 4) : flat1 l = none := by simp [flat1, h, h0, h2, h3, h4]
theorem text_at (s : ByteArray) (k c n : Nat) : (⟨(((M8.bl s).drop k).drop c |>.take n).toArray⟩ : ByteArray) = s.extract (k + c) (k + c + n) := by
  apply M8.bl_inj
  rw [M10.ext_bl, show k + c + n - (k + c) = n from by omega, ← List.drop_drop]; rfl
/-- What TakeHead answers at a place. -/
theorem hdF_none {s : ByteArray} {k : Nat} (h : M7.hd ((M8.bl s).drop k) = none) : M10.hdF s (k : Int) = M10.no := by
  by_cases hk : s.size ≤ 400 ∧ (0 : Int) ≤ k ∧ (k : Int) < s.size
  · rw [M10.hdF_yes hk.1 (by omega)]; unfold M10.hdR; rw [h]
  · exact M10.hdF_no hk
theorem hdF_some {s : ByteArray} {k m n c : Nat} (h4 : s.size ≤ 400) (h : M7.hd ((M8.bl s).drop k) = some (m, n, c)) : M10.hdF s (k : Int) = (m, n, k + c, true) ∧ k + c ≤ s.size ∧ 1 ≤ c ∧ m ≤ 7 ∧ n ≤ 1000000000 := by
  obtain ⟨h1, h2, h3, h5, _⟩ := M7.hd_is h
  rw [List.length_drop, M8.bl_len] at h5
  refine ⟨?_, by omega, h3, h1, h2⟩
  rw [M10.hdF_yes h4 (by omega)]; unfold M10.hdR; rw [h]
/-- The answer on a value that is read. -/
def RT (r : Nat) (w' : World) (B k : Nat) (o : RO) (e : Ending) : Prop := match o with
  | none => ∃ (u : Value) (p : Int), e = .returned (.tuple #[u, .int .i64 p, .bool false])
  | some (L, c) => ∃ (u : Value) (D : Nat), e = .returned (.tuple #[u, .int .i64 ((k + c : Nat) : Int), .bool true]) ∧ M14.VAt r w' (fun b => B ≤ b) u L D
theorem RT.no {r : Nat} {w' : World} {B k : Nat} {o : RO} (h : o = none) (u : Value) (p : Int) : RT r w' B k o (.returned (.tuple #[u, .int .i64 p, .bool false])) := by rw [h]; exact ⟨u, p, rfl⟩
theorem RT.yes {r : Nat} {w' : World} {B k c D : Nat} {L : List It} {o : RO} (h : o = some (L, c)) {u : Value} {p : Int} (hp : p = ((k + c : Nat) : Int)) (hv : M14.VAt r w' (fun b => B ≤ b) u L D) : RT r w' B k o (.returned (.tuple #[u, .int .i64 p, .bool true])) := by
  rw [h, hp]; exact ⟨u, D, rfl, hv⟩
theorem RT.none' {r : Nat} {w' : World} {B k : Nat} {o : RO} {e : Ending} (h : RT r w' B k o e) (ho : o = none) : ∃ (u : Value) (p : Int), e = .returned (.tuple #[u, .int .i64 p, .bool false]) := by rw [ho] at h; exact h
theorem RT.some' {r : Nat} {w' : World} {B k c : Nat} {L : List It} {o : RO} {e : Ending} (h : RT r w' B k o e) (ho : o = some (L, c)) : ∃ (u : Value) (D : Nat), e = .returned (.tuple #[u, .int .i64 ((k + c : Nat) : Int), .bool true]) ∧ M14.VAt r w' (fun b => B ≤ b) u L D := by rw [ho] at h; exact h
/-- The answer on the values of a list. -/
def RL (r : Nat) (w' : World) (B k m : Nat) (o : RO) (e : Ending) : Prop := match o with
  | none => ∃ (u : Value) (p : Int), e = .returned (.tuple #[u, .int .i64 p, .bool false])
  | some (L, c) => ∃ (u : Value) (D : Nat), e = .returned (.tuple #[u, .int .i64 ((k + c : Nat) : Int), .bool true]) ∧ M14.VAt (r + 1) w' (fun b => B ≤ b) u (⟨4, 0, ⟨#[]⟩, (m : Int)⟩ :: L) D
theorem RL.no {r : Nat} {w' : World} {B k m : Nat} (u : Value) (p : Int) : RL r w' B k m none (.returned (.tuple #[u, .int .i64 p, .bool false])) := ⟨u, p, rfl⟩
theorem RL.yes {r : Nat} {w' : World} {B k m c D : Nat} {L : List It} {u : Value} (h : M14.VAt (r + 1) w' (fun b => B ≤ b) u (⟨4, 0, ⟨#[]⟩, (m : Int)⟩ :: L) D) : RL r w' B k m (some (L, c)) (.returned (.tuple #[u, .int .i64 ((k + c : Nat) : Int), .bool true])) := ⟨u, D, rfl, h⟩
theorem RL.none' {r : Nat} {w' : World} {B k m : Nat} {e : Ending} (h : RL r w' B k m none e) : ∃ (u : Value) (p : Int), e = .returned (.tuple #[u, .int .i64 p, .bool false]) := h
theorem RL.some' {r : Nat} {w' : World} {B k m c : Nat} {L : List It} {e : Ending} (h : RL r w' B k m (some (L, c)) e) : ∃ (u : Value) (D : Nat), e = .returned (.tuple #[u, .int .i64 ((k + c : Nat) : Int), .bool true]) ∧ M14.VAt (r + 1) w' (fun b => B ≤ b) u (⟨4, 0, ⟨#[]⟩, (m : Int)⟩ :: L) D := h
theorem flat_snoc {Ls : List (List It)} {L L' : List It} (h : Ls.flatten = L) : (Ls ++ [L']).flatten = L ++ L' := by rw [List.flatten_append, h]; simp
end M17
end Go.Proofs.YtcpfbgogfhlmjaaDoor

/- impl.readList: the values that bytes begin with, one behind the other. -/
namespace Go.Proofs.YtcpfbgogfhlmjaaDoor
open Go.RowKit
/-- What readValue says, r lists within one another at most. -/
def RV (r : Nat) : Prop := ∀ (s : ByteArray) (k : Nat) (w : World), s.size ≤ 400 → k ≤ s.size → s.size ≤ k + r →
    Calls Tryd.prog 55 #[.string s, .int .i64 (k : Int)] w fun e w' => M17.RT r w' w.heap.size k (M16.rv r ((M8.bl s).drop k)) e ∧ Below w.heap.size w w'
set_option maxHeartbeats 3200000 in
set_option maxRecDepth 100000 in
theorem readList_any (r : Nat) (ih : Hid (RV r)) (s : ByteArray) (k m : Nat) (w : World) (hl : s.size ≤ 400) (hk : k ≤ s.size) (hr : s.size ≤ k + r) (hm : m ≤ 1000000000)
    (o : M16.RO) (ho : Hid (M16.rn (M16.rv r) m ((M8.bl s).drop k) = o)) :
    Calls Tryd.prog 72 #[.string s, .int .i64 (k : Int), .int .i64 (m : Int)] w fun e w' => M17.RL r w' w.heap.size k m o e ∧ Below w.heap.size w w' := by
  obtain ⟨i0, hi, hz0, hz1, hz2⟩ := info_parts Tryd.infoVal
  go_enter Tryd.func72, Tryd.ntmps72
  go_wp2
  go_loopw [1, 9, 14] (fun av lv iv wr => ∃ (j c D : Nat) (L : List It) (vs : List Value) (Ls : List (List It)) (Ds : List Nat), av = .int .i64 ((k + c : Nat) : Int) ∧ iv = .int .i64 (j : Int) ∧ j ≤ m ∧ Hid (M16.rn (M16.rv r) j ((M8.bl s).drop k) = some (L, c)) ∧ k + c ≤ s.size ∧ j ≤ c ∧ wr.ownsRow w.heap.size 71 1 lv j vs ∧ M14.Kids r wr w.heap.size lv.ownBlock vs Ls Ds ∧ Hid (Ls.flatten = L) ∧ Hid (Ds.foldl max 0 = D) ∧ Below w.heap.size w wr) (fun _ _ iv _ => (m - intOf iv).toNat)
  case atStart => exact ⟨0, 0, 0, [], [], [], [], by go_num, rfl, by omega, show Hid _ from rfl, by omega, by omega, ⟨rfl, .inl ⟨rfl, rfl⟩⟩, M14.Kids.nil _ _ _ _, show Hid _ from rfl, show Hid _ from rfl, Below.refl _ _⟩
  case round =>
    obtain ⟨j, c, D, L, vs, Ls, Ds, rfl, rfl, hj, hN, hkc, hjc, hown, hkids, hfl, hmx, hb⟩ := hrel
    by_cases hjl : j < m
    · have CC : Hid _ := ih.out s (k + c) wr hl hkc (by omega)
      have hdd : ((M8.bl s).drop k).drop c = (M8.bl s).drop (k + c) := by rw [List.drop_drop]
      have HN1 : Hid _ := fun h => M16.rn_stop hN.out (by rw [hdd]; exact h) hjl
      have HN2 : Hid _ := fun L' c' h => M16.rn_next (L' := L') (c' := c') hN.out (by rw [hdd]; exact h)
      have HL : Hid (∀ L' c', M16.rv r ((M8.bl s).drop (k + c)) = some (L', c') → 1 ≤ c' ∧ c' ≤ s.size - (k + c)) := fun L' c' h => by
        obtain ⟨a1, a2, _⟩ := M16.rv_ok r _ L' c' h
        rw [List.length_drop, M8.bl_len] at a2
        exact ⟨a1, a2⟩
      clear hN hdd
      generalize hO : M16.rv r ((M8.bl s).drop (k + c)) = O at *
      clear hO
      go_wp2_with fail
      refine Calls.mono CC.out ?_
      rintro e w2 ⟨he, hb2⟩
      have hBw := hb.trans (hb2.mono hb.size)
      clear CC
      cases O with
      | none =>
        obtain ⟨u, p, rfl⟩ := M17.RT.none' he rfl
        obtain rfl : o = none := ho.out.symm.trans (HN1.out rfl)
        clear HN1 HN2 HL ih hb2 hkids hown
        go_wp2
        exact bodyPost_ret (v := .tuple #[.nilIface, .int .i64 (0), .bool false]) (by simp [results, Tryd.results72, go_sem]) rfl ⟨M17.RL.no _ _, hBw⟩
      | some q =>
        obtain ⟨L', c'⟩ := q
        obtain ⟨u, D', rfl, hu⟩ := M17.RT.some' he rfl
        have hNN : Hid _ := HN2.out L' c' rfl
        have hl1 := HL.out L' c' rfl
        have hu1 := hu.one
        obtain ⟨tu, xu, rfl⟩ := hu.shape
        have hown2 := M11.own_below hown hb2
        have hvl : vs.length = j := by have := hown.1; omega
        clear HN1 HN2 HL he
        have HU : Hid _ := hu
        have HK : Hid _ := hkids
        have HW : Hid _ := hown
        clear hu hkids hown
        have hbs := hBw.size
        have h63 : j + 1 ≤ maxLen := by unfold maxLen; omega
        have h140 : (j + 1) * 16 ≤ 140737488355328 := by omega
        have hone : ∀ y ∈ [Value.iface tu xu], y.oneCell' = true := by intro y hy; simp at hy; subst hy; exact hu1
        have HONE : Hid _ := hone
        have H63 : Hid _ := h63
        clear hone h63 hu1
        go_wp2_with (at_builtin; refine M14.append_tell _ rfl _ _ 99 rfl w.heap.size 71 i0 .nilIface 1 16 Tryd.underlying99 hi hz0 hz1 hz2 rfl (by decide) _ _ _ rfl (hown2.alloc _) ⟨w2.heap.size, 0, none⟩ 1 1 [.iface tu xu] rfl rfl (M14.newV _ _ _) HONE.out H63.out h140 (by simp; omega) (by decide) ?_)
        intro v' w3 hown3 hgrow htell
        have hK3 := M14.kids_step HK.out HW.out hb.size hb2 HU.out hgrow (v' := v') (fun g hg => by have := htell g hg; simpa using this)
        have hB3 : Below w.heap.size w w3 := (hBw.alloc hbs _).grown hgrow (by simp; omega) (fun g hg => (World.ownsRow.lt HW.out g hg).1)
        have hfl2 : Hid _ := M17.flat_snoc (L' := L') hfl.out
        have hmx2 : Hid _ := M14.max_snoc (D' := D') hmx.out
        clear hgrow htell HK HW HU hown2 hb2 hBw hb hfl hmx HONE H63 h140
        go_wp2
        go_roundw
        case rel => exact ⟨j + 1, c + c', max D D', L ++ L', vs ++ [.iface tu xu], _, _, by go_num, by go_num, by omega, hNN, by omega, by omega, hown3, hK3, hfl2, hmx2, hB3⟩
        case measure => simp [intOf]; omega
    · obtain rfl : j = m := by omega
      obtain rfl : o = some (L, c) := ho.out.symm.trans hN.out
      have hV := M14.Kids.done hkids hown (by omega)
      rw [hfl.out, hmx.out] at hV
      have HV : Hid _ := hV
      clear hN hkids hown ih hfl hmx hV
      go_wp2
      exact bodyPost_ret (v := .tuple #[.iface 99 u9, .int .i64 (((k + c : Nat) : Int)), .bool true]) (by simp [results, Tryd.results72, go_sem]) rfl ⟨M17.RL.yes HV.out, hb⟩
end Go.Proofs.YtcpfbgogfhlmjaaDoor

/- impl.readValue: the value that bytes begin with. -/
namespace Go.Proofs.YtcpfbgogfhlmjaaDoor
open Go.RowKit
theorem ext_size (s : ByteArray) (a b : Nat) (h : s.size ≤ 400) : (s.extract a b).size ≤ 1048576 := by
  rw [ByteArray.size_extract]; omega
set_option maxHeartbeats 3200000 in
set_option maxRecDepth 100000 in
theorem readValue_step (r : Nat) (ih : Hid (∀ r', r = r' + 1 → RV r')) : RV r := by
  intro s k w hl hk hr
  have hsm : s.size ≤ maxLen := by unfold maxLen; omega
  have TH : Hid _ := implTakeHead_any s (k : Int) w hsm
  clear hsm
  cases hh : M7.hd ((M8.bl s).drop k) with
  | none =>
    have HO : Hid _ := M17.rv_none (r := r) (M17.flat_none hh)
    rw [M17.hdF_none hh] at TH
    clear hh ih
    unfold M10.no at TH
    go_enter Tryd.func55, Tryd.ntmps55
    go_wp2_with fail
    refine Calls.mono TH.out ?_
    rintro e w1 ⟨rfl, hb1⟩
    clear TH
    go_wp2
    exact bodyPost_ret (v := .tuple #[.nilIface, .int .i64 0, .bool false]) (by simp [results, Tryd.results55, go_sem]) rfl ⟨M17.RT.no HO.out _ _, hb1⟩
  | some q =>
    obtain ⟨m, n, c⟩ := q
    obtain ⟨hF, hkc, hc1, hm7, hn9⟩ := M17.hdF_some hl hh
    rw [hF] at TH
    clear hF
    have hlen : ((M8.bl s).drop k).length = s.size - k := by rw [List.length_drop, M8.bl_len]
    by_cases e0 : m = 0
    · subst e0
      have HO : Hid _ := M17.rv_leaf (r := r) (M17.flat_num hh) (by simp)
      clear hh ih hlen
      go_enter Tryd.func55, Tryd.ntmps55
      go_wp2_with fail
      refine Calls.mono TH.out ?_
      rintro e w1 ⟨rfl, hb1⟩
      clear TH
      go_wp2
      exact bodyPost_ret (v := .tuple #[.iface 102 (.int .i64 (n : Int)), .int .i64 ((k + c : Nat) : Int), .bool true]) (by simp [results, Tryd.results55, go_sem]) rfl ⟨M17.RT.yes HO.out rfl (M14.VAt.num _ _ _ _), hb1⟩
    · have b0 : ((m : Int) == 0) = false := by simp; omega
      by_cases e4 : m = 4
      · subst e4
        obtain ⟨r', rfl⟩ : ∃ r', r = r' + 1 := ⟨r - 1, by omega⟩
        have IH : Hid (RV r') := ih.out r' rfl
        have LL : Hid _ := fun W => readList_any r' IH s (k + c) n W hl hkc (by omega) hn9 _ rfl
        have hdd : ((M8.bl s).drop k).drop c = (M8.bl s).drop (k + c) := by rw [List.drop_drop]
        have HY : Hid (∀ L' c', M16.rn (M16.rv r') n ((M8.bl s).drop (k + c)) = some (L', c') → M16.rv (r' + 1) ((M8.bl s).drop k) = some (⟨4, 0, ⟨#[]⟩, (n : Int)⟩ :: L', c + c')) := fun L' c' h => M17.rv_list_yes (M17.flat_lst hh) rfl (by rw [hdd]; simpa using h)
        have HNO : Hid (M16.rn (M16.rv r') n ((M8.bl s).drop (k + c)) = none → M16.rv (r' + 1) ((M8.bl s).drop k) = none) := fun h => M17.rv_list_no (M17.flat_lst hh) rfl (by rw [hdd]; simpa using h)
        clear hh ih hlen hdd e0 b0
        go_enter Tryd.func55, Tryd.ntmps55
        go_wp2_with fail
        refine Calls.mono TH.out ?_
        rintro e w1 ⟨rfl, hb1⟩
        clear TH
        go_wp2_with fail
        refine Calls.mono (LL.out _) ?_
        rintro e w2 ⟨he, hb2⟩
        have hB2 := hb1.trans (hb2.mono hb1.size)
        have hsz1 := hb1.size
        clear LL hb1 hb2
        generalize hO : M16.rn (M16.rv r') n ((M8.bl s).drop (k + c)) = O at *
        cases O with
        | none =>
          obtain ⟨u, p, rfl⟩ := M17.RL.none' he
          have HR : Hid _ := HNO.out rfl
          clear HY HNO hO IH
          go_wp2
          exact bodyPost_ret (v := .tuple #[u, .int .i64 (p), .bool false]) (by simp [results, Tryd.results55, go_sem]) rfl ⟨M17.RT.no HR.out _ _, hB2⟩
        | some q =>
          obtain ⟨L', c'⟩ := q
          obtain ⟨u, D, rfl, hu⟩ := M17.RL.some' he
          have HR : Hid _ := HY.out L' c' rfl
          have HU : Hid _ := hu
          clear HY HNO hO IH hu he
          go_wp2
          exact bodyPost_ret (v := .tuple #[u, .int .i64 (((k + c + c' : Nat) : Int)), .bool true]) (by simp [results, Tryd.results55, go_sem]) rfl ⟨M17.RT.yes HR.out (by omega) (M14.VAt.keep (Nat.le_refl _) (fun _ _ _ => rfl) (fun b hb _ => Nat.le_trans hsz1 hb) _ _ _ _ HU.out), hB2⟩
      · have b4 : ((m : Int) == 4) = false := by simp; omega
        clear ih
        by_cases e2 : m = 2
        · subst e2
          by_cases hn : n ≤ s.size - (k + c)
          · have HO : Hid _ := M17.rv_leaf (r := r) (M17.flat_two hh (by rw [hlen]; omega)) (by simp)
            rw [M17.text_at] at HO
            have CL : Hid _ := fun W => clone_any (s.extract (k + c) (k + c + n)) W (ext_size s _ _ hl)
            have hg : decide ((s.size : Int) - ((k + c : Nat) : Int) < (n : Int)) = false := by simp; omega
            clear hh hlen b0 b4 e0 e4
            go_enter Tryd.func55, Tryd.ntmps55
            go_wp2_with fail
            refine Calls.mono TH.out ?_
            rintro e w1 ⟨rfl, hb1⟩
            clear TH
            go_wp2_with fail
            refine Calls.mono (CL.out _) ?_
            rintro e w2 ⟨rfl, hb2⟩
            have hB2 := hb1.trans (hb2.mono hb1.size)
            clear CL hb1 hb2
            go_wp2
            exact bodyPost_ret (v := .tuple #[.iface 96 (.string (s.extract (k + c) (k + c + n))), .int .i64 ((k : Int) + c + n), .bool true]) (by simp [results, Tryd.results55, go_sem]) rfl ⟨M17.RT.yes HO.out (by omega) (M14.VAt.byt _ _ _ _), hB2⟩
          · have HO : Hid _ := M17.rv_none (r := r) (M17.flat_short hh (.inl rfl) (by rw [hlen]; omega))
            have hg : decide ((s.size : Int) - ((k + c : Nat) : Int) < (n : Int)) = true := by simp; omega
            clear hh hlen b0 b4 e0 e4
            go_enter Tryd.func55, Tryd.ntmps55
            go_wp2_with fail
            refine Calls.mono TH.out ?_
            rintro e w1 ⟨rfl, hb1⟩
            clear TH
            go_wp2
            exact bodyPost_ret (v := .tuple #[.nilIface, .int .i64 0, .bool false]) (by simp [results, Tryd.results55, go_sem]) rfl ⟨M17.RT.no HO.out _ _, hb1⟩
        · have b2 : ((m : Int) == 2) = false := by simp; omega
          by_cases e3 : m = 3
          · subst e3
            clear e2
            by_cases hn : n ≤ s.size - (k + c)
            · have HO : Hid _ := M17.rv_leaf (r := r) (M17.flat_three hh (by rw [hlen]; omega)) (by simp)
              rw [M17.text_at] at HO
              have CL : Hid _ := fun W => clone_any (s.extract (k + c) (k + c + n)) W (ext_size s _ _ hl)
              have hg : decide ((s.size : Int) - ((k + c : Nat) : Int) < (n : Int)) = false := by simp; omega
              clear hh hlen b0 b4 e0 e4
              go_enter Tryd.func55, Tryd.ntmps55
              go_wp2_with fail
              refine Calls.mono TH.out ?_
              rintro e w1 ⟨rfl, hb1⟩
              clear TH
              go_wp2_with fail
              refine Calls.mono (CL.out _) ?_
              rintro e w2 ⟨rfl, hb2⟩
              have hB2 := hb1.trans (hb2.mono hb1.size)
              clear CL hb1 hb2
              go_wp2
              exact bodyPost_ret (v := .tuple #[.iface 97 (.string (s.extract (k + c) (k + c + n))), .int .i64 ((k : Int) + c + n), .bool true]) (by simp [results, Tryd.results55, go_sem]) rfl ⟨M17.RT.yes HO.out (by omega) (M14.VAt.txt _ _ _ _), hB2⟩
            · have HO : Hid _ := M17.rv_none (r := r) (M17.flat_short hh (.inr rfl) (by rw [hlen]; omega))
              have hg : decide ((s.size : Int) - ((k + c : Nat) : Int) < (n : Int)) = true := by simp; omega
              clear hh hlen b0 b4 e0 e4
              go_enter Tryd.func55, Tryd.ntmps55
              go_wp2_with fail
              refine Calls.mono TH.out ?_
              rintro e w1 ⟨rfl, hb1⟩
              clear TH
              go_wp2
              exact bodyPost_ret (v := .tuple #[.nilIface, .int .i64 0, .bool false]) (by simp [results, Tryd.results55, go_sem]) rfl ⟨M17.RT.no HO.out _ _, hb1⟩
          · have b3 : ((m : Int) == 3) = false := by simp; omega
            have HO : Hid _ := M17.rv_none (r := r) (M17.flat_other hh e0 e2 e3 e4)
            clear hh hlen e0 e2 e3 e4
            go_enter Tryd.func55, Tryd.ntmps55
            go_wp2_with fail
            refine Calls.mono TH.out ?_
            rintro e w1 ⟨rfl, hb1⟩
            clear TH
            go_wp2
            exact bodyPost_ret (v := .tuple #[.nilIface, .int .i64 0, .bool false]) (by simp [results, Tryd.results55, go_sem]) rfl ⟨M17.RT.no HO.out _ _, hb1⟩
theorem readValue_any (r : Nat) : RV r := by
  induction r with
  | zero => exact readValue_step 0 (fun r' h => by omega)
  | succ r ih => exact readValue_step (r + 1) (fun r' h => (Nat.succ.inj h) ▸ ih)
end Go.Proofs.YtcpfbgogfhlmjaaDoor

/- impl.appendItems at any value: its items behind a row of items that its caller owns. -/
namespace Go.Proofs.YtcpfbgogfhlmjaaDoor
open Go.RowKit
theorem flat_le {Ls : List (List It)} (j : Nat) : ((Ls.take j).flatten).length ≤ Ls.flatten.length := by
  conv => rhs; rw [← List.take_append_drop j Ls, List.flatten_append, List.length_append]
  omega
set_option maxHeartbeats 1600000 in
set_option maxRecDepth 100000 in
theorem appendItems_any (r : Nat) : ∀ (w : World) (base : Nat) (ov : Value) (L0 : List It) (v : Value) (L : List It) (D : Nat), M14.VAt r w (fun b => b < base) v L D → w.ownsRow base 65 4 ov L0.length (M11.flat L0) → base ≤ w.heap.size → L0.length + L.length ≤ 1000000 →
    Calls Tryd.prog 56 #[ov, v] w fun e w' => ∃ v', e = .returned v' ∧ w'.ownsRow base 65 4 v' (L0 ++ L).length (M11.flat (L0 ++ L)) ∧ Below base w w' := by
  induction r with
  | zero =>
    intro w base ov L0 v L D h hown hbase hlen
    rcases h with ⟨n, rfl, rfl, rfl⟩ | ⟨s, rfl, rfl, rfl⟩ | ⟨s, rfl, rfl, rfl⟩
    · exact appendItems_num n base ov L0 w (by omega) hbase hown
    · exact appendItems_byt s base ov L0 w (by omega) hbase hown
    · exact appendItems_txt s base ov L0 w (by omega) hbase hown
  | succ r ih =>
    intro w base ov L0 v L D h hown hbase hlen
    rcases h with ⟨n, rfl, rfl, rfl⟩ | ⟨s, rfl, rfl, rfl⟩ | ⟨s, rfl, rfl, rfl⟩ | ⟨a, cap, vs, Ls, Ds, rfl, h2, h3, h4, h5, rfl, rfl, h8⟩
    · exact appendItems_num n base ov L0 w (by omega) hbase hown
    · exact appendItems_byt s base ov L0 w (by omega) hbase hown
    · exact appendItems_txt s base ov L0 w (by omega) hbase hown
    · obtain ⟨i0, hi, hz0, hz1, hz2⟩ := info_parts Tryd.infoItem
      have a0 := Tryd.taLN (.slice a vs.length cap)
      have a1 := Tryd.taLB (.slice a vs.length cap)
      have a2 := Tryd.taLT (.slice a vs.length cap)
      have a3 := Tryd.taLL (.slice a vs.length cap)
      rw [List.length_cons] at hlen
      have IH : Hid _ := ih
      have h63 : L0.length + 1 ≤ maxLen := by unfold maxLen; omega
      have H63 : Hid _ := h63
      clear ih h63
      have hV : Hid (∀ i, i < vs.length → ∃ u, vs[i]? = some u ∧ M14.VAt r w (fun b => b < base) u (Ls.getD i []) (Ds.getD i 0)) := h5
      have hR : Hid (M14.RowAt w (fun b => b < base) a vs) := h4
      clear h4 h5
      go_enter Tryd.func56, Tryd.ntmps56
      go_wp2_with (at_builtin; refine wpList_append_own _ rfl _ _ 49 rfl base 65 i0 _ 4 40 Tryd.underlying49 hi hz0 hz1 hz2 rfl (by decide) _ _ _ rfl (hown.alloc _) ⟨w.heap.size, 0, none⟩ 1 1 (It.cs (⟨4, 0, ⟨#[]⟩, (vs.length : Int)⟩ : It)) rfl rfl (M9.newN w (It.cs (⟨4, 0, ⟨#[]⟩, (vs.length : Int)⟩ : It)) 65) (It.cs_one _) H63.out (by omega) (by simp; omega) ?_)
      intro v1 w1 hown0 hgrow _
      have hown1 : w1.ownsRow base 65 4 v1 (L0 ++ [(⟨4, 0, ⟨#[]⟩, (vs.length : Int)⟩ : It)]).length (M11.flat (L0 ++ [(⟨4, 0, ⟨#[]⟩, (vs.length : Int)⟩ : It)])) := by
        rw [M11.flat_app, List.length_append]
        simpa [M11.flat] using hown0
      have hb1 : Below base w w1 := ((Below.refl base w).alloc hbase _).grown hgrow (by simp; omega) (fun g hg => (hown.lt g hg).1)
      clear hown0 hgrow hown H63
      generalize hG : L0 ++ [(⟨4, 0, ⟨#[]⟩, (vs.length : Int)⟩ : It)] = G at *
      have HG : Hid (L0 ++ [(⟨4, 0, ⟨#[]⟩, (vs.length : Int)⟩ : It)] = G) := hG
      have hGl : G.length + Ls.flatten.length ≤ 1000000 := by rw [← hG, List.length_append, List.length_singleton]; omega
      have HGL : Hid _ := hGl
      clear hG hGl hlen
      go_wp2
      go_loopw [0, 47] (fun ov iv wr => ∃ (j : Nat) (H : List It), iv = .int .i64 (j : Int) ∧ j ≤ vs.length ∧ wr.ownsRow base 65 4 ov H.length (M11.flat H) ∧ Hid (H = G ++ (Ls.take j).flatten) ∧ Below base w wr) (fun _ iv _ => (vs.length - intOf iv).toNat)
      case atStart => exact ⟨0, G, rfl, by omega, hown1, show Hid _ from by simp [Hid], hb1⟩
      case round =>
        clear hown1 hb1
        obtain ⟨j, H, rfl, hj, hownr, hH, hb⟩ := hrel
        by_cases hjl : j < vs.length
        · obtain ⟨g, rfl, hg, hc⟩ := (M14.RowAt.keep hR.out hb.size (fun b h _ => hb.block b h) (fun _ h _ => h)).at hjl
          obtain ⟨u, hu, hv⟩ := hV.out j hjl
          rw [hu] at hc
          have hvr := hv.below hb
          have hfl := M14.flat_take (Ls := Ls) (j := j) (by omega)
          have hln := flat_le (Ls := Ls) (j + 1)
          rw [hfl, List.length_append] at hln
          have hHl : H.length = G.length + ((Ls.take j).flatten).length := by rw [hH.out, List.length_append]
          have hgl := HGL.out
          have CC : Hid _ := IH.out wr base _ H u (Ls.getD j []) _ hvr hownr (Nat.le_trans hbase hb.size) (by omega)
          obtain ⟨tu, xu, rfl⟩ := hv.shape
          have hH2 : Hid (H ++ Ls.getD j [] = G ++ (Ls.take (j + 1)).flatten) := by show _ = _; rw [hH.out, hfl, List.append_assoc]
          clear hvr hv hu hfl hln hHl hgl hH hownr
          go_wp2_with fail
          refine Calls.mono CC.out ?_
          rintro e w2 ⟨v2, rfl, hown2, hb2⟩
          have hB2 := hb.trans hb2
          clear CC hb hb2
          generalize H ++ Ls.getD j [] = K at *
          go_wp2
          go_roundw
          case rel => exact ⟨j + 1, K, by go_num, by omega, hown2, hH2, hB2⟩
          case measure => simp [intOf]; omega
        · obtain rfl : j = vs.length := by omega
          have hfin : H = L0 ++ ((⟨4, 0, ⟨#[]⟩, (vs.length : Int)⟩ : It) :: Ls.flatten) := by
            have e := hH.out
            rw [← h2, List.take_length] at e
            rw [e, ← HG.out, List.append_assoc]; rfl
          subst hfin
          clear hH IH hV hR HG HGL
          go_wp2
          go_ret
          exact ⟨_, rfl, hownr, hb⟩
end Go.Proofs.YtcpfbgogfhlmjaaDoor

/- The program's ReadItems at any text. -/
namespace Go.Proofs.YtcpfbgogfhlmjaaDoor
open Go.RowKit
/-- What the call leaves: a row of items of its own. -/
def LeftI (w w' : World) (r : List It × Bool) (e : Ending) : Prop := ∃ a cap, e = .returned (.tuple #[.slice a r.1.length cap, .bool r.2]) ∧ w'.ownsRow w.heap.size 65 4 (.slice a r.1.length cap) r.1.length (M11.flat r.1) ∧ Below w.heap.size w w'
theorem leftI_no {w w' : World} {r : List It × Bool} (h : ([], false) = r) (hb : Below w.heap.size w w') : LeftI w w' r (.returned (.tuple #[.slice none 0 0, .bool false])) := by
  subst h; exact ⟨none, 0, rfl, World.ownsRow_nil _ _ _ _, hb⟩
theorem own_slice {w : World} {base e : Nat} {v : Value} {xs : List It} (h : w.ownsRow base e 4 v xs.length (M11.flat xs)) : ∃ a cap, v = .slice a xs.length cap := by
  rcases h.2 with ⟨rfl, h0⟩ | ⟨g, cap, cur, rfl, hb, hg, hc1, hc2, hc3, hc4⟩
  · exact ⟨none, 0, by rw [h0]⟩
  · exact ⟨_, cap, rfl⟩
theorem own_items {w : World} {base e n cap : Nat} {a : Option Addr} {xs : List It} (h : w.ownsRow base e 4 (.slice a n cap) n (M11.flat xs)) (hn : xs.length = n) : M11.ItemsAt w a xs := by
  rcases h.2 with ⟨he, h0⟩ | ⟨g, cap', cur, he, hb, hg, hc1, hc2, hc3, hc4⟩
  · exact .inl (List.eq_nil_of_length_eq_zero (by omega))
  · simp only [Value.slice.injEq] at he
    obtain ⟨rfl, _, rfl⟩ := he
    exact M11.ItemsAt.of_own h
theorem leftI_yes {w w' : World} {r : List It × Bool} {a : Option Addr} {n cap : Nat} {xs : List It} (h : (xs, true) = r) (hn : xs.length = n) (hown : w'.ownsRow w.heap.size 65 4 (.slice a n cap) n (M11.flat xs)) (hb : Below w.heap.size w w') : LeftI w w' r (.returned (.tuple #[.slice a n cap, .bool true])) := by
  subst h hn; exact ⟨a, cap, rfl, hown, hb⟩
theorem can_wf {L : List It} (h : ∀ x ∈ L, M15.can x) (hs : ∀ x ∈ L, x.text.size ≤ 1048576) : M11.Wf L := fun j hj => by
  rw [M11.at_eq L j hj]
  refine ⟨hs _ (List.getElem_mem hj), ?_⟩
  rcases h _ (List.getElem_mem hj) with ⟨n, hn, e⟩ | ⟨t, ht, e⟩ | ⟨t, ht, e⟩ | ⟨n, hn, e⟩ <;> rw [e] <;> simp <;> omega
theorem bytes_mem {L : List It} {x : It} (h : x ∈ L) : (M12.ib x).length ≤ (M12.bytes L).length := by
  induction L with
  | nil => simp at h
  | cons y L ih =>
    rw [M16.bytes_cons, List.length_append]
    rcases List.mem_cons.1 h with rfl | h
    · omega
    · have := ih h; omega
theorem can_text {L : List It} {n : Nat} (h : ∀ x ∈ L, M15.can x) (hn : (M12.bytes L).length ≤ n) : ∀ x ∈ L, x.text.size ≤ n := fun x hx => by
  have hb := bytes_mem hx
  rcases h x hx with ⟨m, _, rfl⟩ | ⟨t, _, rfl⟩ | ⟨t, _, rfl⟩ | ⟨m, _, rfl⟩
  · exact Nat.zero_le _
  · rw [M13.ib2 rfl, List.length_append, M8.bl_len] at hb; simp only at hb ⊢; omega
  · rw [M13.ib3 rfl, List.length_append, M8.bl_len] at hb; simp only at hb ⊢; omega
  · exact Nat.zero_le _
set_option maxHeartbeats 1600000 in
set_option maxRecDepth 100000 in
theorem implReadItems_any (s : ByteArray) (w : World) (hs0 : s.size ≤ maxLen) :
    Calls Tryd.prog 32 #[.string s] w fun e w' => LeftI w w' (M16.read s) e := by
  have hs := hs0
  unfold maxLen at hs
  by_cases h400 : s.size ≤ 400
  · have RVv : Hid _ := readValue_any s.size s 0 w h400 (by omega) (by omega)
    rw [List.drop_zero] at RVv
    have HR : Hid (M16.pick s (M16.rv s.size (M8.bl s)) = M16.read s) := by show _ = _; unfold M16.read; rw [if_pos h400]
    have HOK : Hid (∀ L c, M16.rv s.size (M8.bl s) = some (L, c) → c ≤ s.size ∧ (M12.bytes L).length = c ∧ (∀ x ∈ L, M15.can x) ∧ L.length ≤ c) := fun L c h => by
      obtain ⟨_, a1, a2, a3, a4⟩ := M16.rv_ok _ _ L c h
      rw [M8.bl_len] at a1
      exact ⟨a1, by rw [a2, List.length_take, M8.bl_len]; omega, a3, a4⟩
    generalize M16.read s = r at *
    generalize hO : M16.rv s.size (M8.bl s) = O at *
    clear hO
    go_enter Tryd.func32, Tryd.ntmps32
    go_wp2_with fail
    refine Calls.mono RVv.out ?_
    rintro e w1 ⟨he, hb1⟩
    clear RVv
    cases O with
    | none =>
      obtain ⟨u, p, rfl⟩ := M17.RT.none' he rfl
      have HN : Hid (([], false) = r) := HR.out
      clear HR HOK he
      go_wp2
      exact bodyPost_ret (v := .tuple #[.slice none 0 0, .bool false]) (by simp [results, Tryd.results32, go_sem]) rfl (leftI_no HN.out hb1)
    | some q =>
      obtain ⟨L, c⟩ := q
      obtain ⟨u, D, rfl, hu⟩ := M17.RT.some' he rfl
      obtain ⟨hc, hbl, hcan, hLc⟩ := HOK.out L c rfl
      have hz : (((0 + c : Nat)) : Int) = (c : Int) := by omega
      rw [hz]
      have hr1 := HR.out
      unfold M16.pick at hr1
      simp only at hr1
      by_cases hcs : c = s.size
      · have hwf : Hid (M11.Wf L) := can_wf hcan (fun x hx => Nat.le_trans (can_text hcan (n := 400) (by omega) x hx) (by omega))
        have hu2 := M14.VAt.keep (S' := fun b => b < w1.heap.size) (Nat.le_refl _) (fun _ _ _ => rfl) (fun b _ h => h) s.size u L D hu
        have AI : Hid _ := appendItems_any s.size w1 w1.heap.size (.slice none 0 0) [] u L D hu2 ⟨by simp [M11.flat], .inl ⟨rfl, rfl⟩⟩ (Nat.le_refl _) (by simp; omega)
        simp only [List.nil_append] at AI
        have IG : Hid _ := fun W a cap h => implGood_any a cap L W (by omega) hwf h
        have HG : Hid (if M12.good L = true then (L, true) = r else ([], false) = r) := by
          show ite _ _ _
          split
          · rename_i h; rw [← hr1, if_pos ⟨hcs, h⟩]
          · rename_i h; rw [← hr1, if_neg (fun hh => h hh.2)]
        have hcb : ((c : Int) == (s.size : Int)) = true := by simp; omega
        obtain ⟨tu, xu, rfl⟩ := hu.shape
        generalize M12.good L = G at *
        clear hr1 HR HOK he hz hu hu2 hwf hcan hbl hcs
        go_wp2_with fail
        refine Calls.mono AI.out ?_
        rintro e w2 ⟨v2, rfl, hown2, hb2⟩
        have hB2 := hb1.trans (hb2.mono hb1.size)
        obtain ⟨a2, cap2, rfl⟩ := own_slice hown2
        have hin2 := own_items hown2 rfl
        have hownw : w2.ownsRow w.heap.size 65 4 (.slice a2 L.length cap2) L.length (M11.flat L) := by
          refine ⟨hown2.1, ?_⟩
          rcases hown2.2 with h | ⟨g, cp, cur, e1, e2, e3⟩
          · exact .inl h
          · exact .inr ⟨g, cp, cur, e1, Nat.le_trans hb1.size e2, e3⟩
        clear AI hb2 hown2
        go_wp2_with fail
        refine Calls.mono (IG.out _ _ _ hin2) ?_
        rintro e w3 ⟨rfl, hb3⟩
        have hB3 := hB2.trans (hb3.mono hB2.size)
        have hown3 := M11.own_below hownw hb3
        clear IG hb3 hB2 hin2 hownw
        cases G with
        | true =>
          have HT : Hid ((L, true) = r) := HG.out
          clear HG
          go_wp2
          exact bodyPost_ret (v := .tuple #[.slice a2 L.length cap2, .bool true]) (by simp [results, Tryd.results32, go_sem]) rfl (leftI_yes HT.out rfl hown3 hB3)
        | false =>
          have HT : Hid (([], false) = r) := HG.out
          clear HG hown3
          go_wp2
          exact bodyPost_ret (v := .tuple #[.slice none 0 0, .bool false]) (by simp [results, Tryd.results32, go_sem]) rfl (leftI_no HT.out hB3)
      · have HN : Hid (([], false) = r) := by rw [if_neg (fun h => hcs h.1)] at hr1; exact hr1
        have hcb : ((c : Int) == (s.size : Int)) = false := by simp; omega
        have hcn : ((c : Int) != (s.size : Int)) = true := by simp; omega
        clear hr1 HR HOK he hz hu hcan hbl hcs
        go_wp2
        exact bodyPost_ret (v := .tuple #[.slice none 0 0, .bool false]) (by simp [results, Tryd.results32, go_sem]) rfl (leftI_no HN.out hb1)
  · have HR : Hid (([], false) = M16.read s) := by show _ = _; unfold M16.read; rw [if_neg h400]
    generalize M16.read s = r at *
    go_enter Tryd.func32, Tryd.ntmps32
    go_wp2
    exact bodyPost_ret (v := .tuple #[.slice none 0 0, .bool false]) (by simp [results, Tryd.results32, go_sem]) rfl (leftI_no HR.out (Below.refl _ _))
end Go.Proofs.YtcpfbgogfhlmjaaDoor
