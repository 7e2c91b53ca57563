import Derived.Test.YtcpfbgogfhlmjaaDoorRows
import Derived.Test.YtcpfbgogfhlmjaaDoorM13
import Derived.WalkKit
import Derived.WalkSpells
import Derived.WalkLawsBesides
import Derived.Outline
import Derived.Test.YtcpfbgogfhlmjaaDoorMR
import Derived.OrdersHeld
import Derived.Test.YtcpfbgogfhlmjaaDoorM14
import Derived.Test.YtcpfbgogfhlmjaaDoorCIsNumber
import Derived.Deep.QuietTactic
import Derived.BigQuiet
import Derived.Deep.RegionHeld3
import Derived.Test.YtcpfbgogfhlmjaaDoorCTakeList
/- impl.isStringItem and impl.isPlain. -/
namespace Go.Proofs.YtcpfbgogfhlmjaaDoor
open Go.RowKit
def strOk (x : It) : Bool := decide (x.text.size ≤ 60) && decide (x.num = 0) && decide (x.many = 0)
set_option maxHeartbeats 800000 in
set_option maxRecDepth 100000 in
theorem isStringItem_any (x : It) (w : World) (hs : x.text.size ≤ 1048576) : Calls Tryd.prog 79 #[x.v] w fun e w' => e = .returned (.bool (strOk x)) ∧ Below w.heap.size w w' := by
  obtain ⟨x0, x1, x2, x3⟩ := x
  simp only at hs
  have hB : ∀ o, Below w.heap.size w (w.alloc o) := fun o => (Below.refl _ w).alloc (Nat.le_refl _) o
  by_cases h1 : x2.size ≤ 60
  · by_cases h2 : x1 = 0
    · subst h2
      have HR : Hid (decide (x3 = 0) = strOk ⟨x0, 0, x2, x3⟩) := by show _ = _; simp [strOk, h1]
      go_enter Tryd.func79, Tryd.ntmps79
      go_wp2
      go_ret
      exact ⟨M4.ret_bool ((show (x3 == 0) = decide (x3 = 0) by by_cases h : x3 = 0 <;> simp [h]).trans HR.out), hB _⟩
    · have HR : Hid (false = strOk ⟨x0, x1, x2, x3⟩) := by show _ = _; simp [strOk, h2]
      have h2b : (x1 == 0) = false := by simp [h2]
      clear h2
      go_enter Tryd.func79, Tryd.ntmps79
      go_wp2
      go_ret
      exact ⟨M4.ret_bool HR.out, hB _⟩
  · have HR : Hid (false = strOk ⟨x0, x1, x2, x3⟩) := by show _ = _; simp [strOk, h1]
    go_enter Tryd.func79, Tryd.ntmps79
    go_wp2
    go_ret
    exact ⟨M4.ret_bool HR.out, hB _⟩
set_option maxHeartbeats 800000 in
set_option maxRecDepth 100000 in
theorem isPlain_any (s : ByteArray) (w : World) (hs : s.size ≤ 1048576) : Calls Tryd.prog 80 #[.string s] w fun e w' => e = .returned (.bool (M12.plain s)) ∧ w = w' := by
  go_enter Tryd.func80, Tryd.ntmps80
  go_wp2
  go_loop [3] (fun iv => ∃ j : Nat, iv = .int .i64 j ∧ j ≤ s.size ∧ Hid (∀ i, i < j → 32 ≤ M3.gb s i ∧ M3.gb s i ≤ 126)) (fun iv => (s.size - intOf iv).toNat)
  case atStart => exact ⟨0, rfl, by omega, show Hid _ from fun i hi => by omega⟩
  case round =>
    obtain ⟨j, rfl, hj, hP⟩ := hrel
    by_cases hjl : j < s.size
    · have hg := M3.gb_eq s j hjl
      have hlt2 := M3.gb_lt s j
      have HP1 : Hid _ := fun (h : 32 ≤ M3.gb s j ∧ M3.gb s j ≤ 126) i (hi : i < j + 1) => (if e : i = j then e ▸ h else hP.out i (by omega) : 32 ≤ M3.gb s i ∧ M3.gb s i ≤ 126)
      have HP2 : Hid _ := fun h => M12.plain_no (s := s) hjl h
      generalize M3.gb s j = c at *
      by_cases h32 : c < 32
      · have HR : Hid _ := HP2.out (by omega)
        clear HP1 HP2 hP
        go_wp2
        go_ret
        exact ⟨M4.ret_bool HR.out.symm, rfl⟩
      · by_cases h126 : 126 < c
        · have HR : Hid _ := HP2.out (by omega)
          clear HP1 HP2 hP
          go_wp2
          go_ret
          exact ⟨M4.ret_bool HR.out.symm, rfl⟩
        · have HP : Hid _ := HP1.out (by omega)
          clear HP1 HP2 hP
          go_wp2
          go_round
          case rel => first | exact ⟨j + 1, by go_num, by omega, HP⟩ | exact ⟨_, .int .i64 ((j : Int) + 1), ⟨j + 1, by go_num, by omega, HP⟩, rfl, rfl⟩
          case measure => simp [intOf]; omega
    · obtain rfl : j = s.size := by omega
      have HR : Hid _ := M12.plain_yes hP.out
      clear hP
      go_wp2
      go_ret
      exact ⟨M4.ret_bool HR.out.symm, rfl⟩
end Go.Proofs.YtcpfbgogfhlmjaaDoor

/- A region that draws its order, walked by hand, its loads first: plain facts, over whatever program. -/
namespace Go.Proofs.YtcpfbgogfhlmjaaDoor
namespace MR
open Go.RowKit
variable {P : Program} {md : Region.Mode} {ops : Array Oper} {Q : Exit → Act → World → Prop} {S : World → Prop}
theorem unwant {o : Oper} {a : Act} {g d : Nat} {b b' : Bool} (hg : o.guard = some (g, b)) (hd : (ops[g]?).bind (·.dst) = some d) (hs : d < a.tmps.size) (hv : a.eval (.tmp d) = .bool b') (hne : b' ≠ b) : Region.wanted o (yielded ops a.tmps) = false := by
  simp only [Act.eval] at hv
  have : a.tmps[d]? = some (.bool b') := by
    rw [Array.getElem?_eq_getElem hs]
    simpa [Array.getD, hs] using hv
  simp [Region.wanted, hg, yielded, hd, this, hne]
theorem unwantU {o : Oper} {a : Act} {g d : Nat} {b : Bool} (hg : o.guard = some (g, b)) (hd : (ops[g]?).bind (·.dst) = some d) (hs : d < a.tmps.size) (hv : a.eval (.tmp d) = undef) : Region.wanted o (yielded ops a.tmps) = false := by
  simp only [Act.eval] at hv
  have : a.tmps[d]? = some undef := by
    rw [Array.getElem?_eq_getElem hs]
    simpa [Array.getD, hs] using hv
  simp [Region.wanted, hg, yielded, hd, this, undef]
theorem takeH {i : Nat} (d : Option Tmp) (v : Value) {oi : Oper} {fuel : Nat} {listed : Array Bool} {a : Act} {w : World} (hi : ops[i]? = some oi) (hd : oi.dst = d)
    (hs : Region.noSelect ops = true) (hf : Region.free md ops listed i = true) (hr : (Region.ready md ops listed).contains i = true)
    (hQ : ∀ c a w, Q (.panic c) (a.put d v) w → Q (.panic c) a w) (hS : S w) (hw : Region.wanted oi (yielded ops a.tmps) = true) (hx : ∀ w, S w → (execOp a.eval oi).run P w = .ok (.value v) w)
    (h : wpAnyH P md ops Q S fuel (listed.setIfInBounds i true) (a.put d v) w) : wpAnyH P md ops Q S (fuel + 1) listed a w := by
  subst hd
  exact wpAnyH_take hi hs hf hr hQ (.inl ⟨hw, hx⟩) hS h
theorem skipH {i : Nat} (d : Option Tmp) {oi : Oper} {fuel : Nat} {listed : Array Bool} {a : Act} {w : World} (hi : ops[i]? = some oi) (hd : oi.dst = d)
    (hs : Region.noSelect ops = true) (hf : Region.free md ops listed i = true) (hr : (Region.ready md ops listed).contains i = true)
    (hQ : ∀ c a w, Q (.panic c) (a.put d undef) w → Q (.panic c) a w) (hS : S w) (hw : Region.wanted oi (yielded ops a.tmps) = false)
    (h : wpAnyH P md ops Q S fuel (listed.setIfInBounds i true) (a.put d undef) w) : wpAnyH P md ops Q S (fuel + 1) listed a w := by
  subst hd
  exact wpAnyH_take hi hs hf hr hQ (.inr ⟨hw, rfl⟩) hS h
theorem callH {i : Nat} (d : Option Tmp) (f : FuncId) (args : Array Value) {o : Oper} {fuel : Nat} {listed : Array Bool} {a : Act} {w : World} (hr : Region.ready md ops listed = [i]) (hi : ops[i]? = some o) (hd : o.dst = d)
    (hw : Region.wanted o (yielded ops a.tmps) = true) (hx : (execOp a.eval o).run P w = .ok (.enter f args) w)
    (h : Calls P f args w fun e w' => ∃ v, e = .returned v ∧ S w' ∧ wpAnyH P md ops Q S fuel (listed.setIfInBounds i true) (a.put d v) w') : wpAnyH P md ops Q S (fuel + 1) listed a w := by
  subst hd
  refine wpAnyH_all hr (by simp) (fun j hj => ?_)
  obtain rfl : j = i := by simpa using hj
  refine wpOp_step hi (fun K hK => ?_)
  rw [if_pos hw]
  unfold Oper.wp
  rw [hx, Oper.upon_enter]
  refine h.mono ?_
  rintro e w' ⟨v, rfl, h⟩
  exact hK _ _ h
theorem storeH {i : Nat} {w' : World} {o : Oper} {fuel : Nat} {listed : Array Bool} {a : Act} {w : World} (hr : Region.ready md ops listed = [i]) (hi : ops[i]? = some o)
    (hw : Region.wanted o (yielded ops a.tmps) = true) (hx : (execOp a.eval o).run P w = .ok .skip w')
    (h : S w' ∧ wpAnyH P md ops Q S fuel (listed.setIfInBounds i true) (a.put o.dst undef) w') : wpAnyH P md ops Q S (fuel + 1) listed a w := by
  refine wpAnyH_all hr (by simp) (fun j hj => ?_)
  obtain rfl : j = i := by simpa using hj
  refine wpOp_step hi (fun K hK => ?_)
  rw [if_pos hw]
  unfold Oper.wp
  rw [hx, Oper.upon_skip]
  exact hK _ _ h
theorem nowH {i : Nat} (d : Option Tmp) (v : Value) {w' : World} {o : Oper} {fuel : Nat} {listed : Array Bool} {a : Act} {w : World} (hr : Region.ready md ops listed = [i]) (hi : ops[i]? = some o) (hd : o.dst = d)
    (hw : Region.wanted o (yielded ops a.tmps) = true) (hx : (execOp a.eval o).run P w = .ok (.value v) w')
    (h : S w' ∧ wpAnyH P md ops Q S fuel (listed.setIfInBounds i true) (a.put d v) w') : wpAnyH P md ops Q S (fuel + 1) listed a w := by
  subst hd
  refine wpAnyH_all hr (by simp) (fun j hj => ?_)
  obtain rfl : j = i := by simpa using hj
  refine wpOp_step hi (fun K hK => ?_)
  rw [if_pos hw]
  unfold Oper.wp
  rw [hx, Oper.upon_value]
  exact hK _ _ h
end MR
end Go.Proofs.YtcpfbgogfhlmjaaDoor

/- impl.takeValue at an item that is a number, or a text. -/
namespace Go.Proofs.YtcpfbgogfhlmjaaDoor
open Go.RowKit
set_option maxHeartbeats 3200000 in
set_option maxRecDepth 100000 in
theorem takeValue_num (r : Nat) (a : Option Addr) (cap : Nat) (xs : List It) (k d : Nat) (w : World) (hl : xs.length ≤ 1048576) (_ : d ≤ 5) (hk : k < xs.length) (hin : M11.ItemsAt w a xs) (h1 : (M11.at_ xs k).kind = 1) (o : M12.O)
    (hy : Hid (M12.leaf (M11.at_ xs k) = true → o = some (1, 0))) (hn : Hid (M12.leaf (M11.at_ xs k) = false → o = none)) :
    Calls Tryd.prog 66 #[.slice a xs.length cap, .int .i64 (k : Int), .int .i64 (d : Int)] w fun e w' => M14.TRes r w' w.heap.size k (xs.drop k) o e ∧ Below w.heap.size w w' := by
  have hdr := M12.drop_cons hk
  obtain ⟨b, off, rfl, hlt, c0, c1, c2, c3⟩ := hin.at hk
  have hlf := M12.leaf1 h1
  have hy' := hy.out
  have hn' := hn.out
  rw [hlf] at hy' hn'
  have HT : Hid ((xs.drop k).take 1 = [M11.at_ xs k]) := by show _ = _; rw [hdr]; rfl
  clear hdr
  generalize M11.at_ xs k = x at *
  obtain ⟨x0, x1, x2, x3⟩ := x
  simp only at h1 hy' hn' c0 c1 c2 c3
  subst h1
  have HY : Hid _ := hy'
  have HN : Hid _ := hn'
  clear hy' hn' hlf hy hn hin
  have hB : Below w.heap.size w (w.alloc (.cells #[.int .i64 1, .int .i64 x1, .string x2, .int .i64 x3] 65)) := (Below.refl _ w).alloc (Nat.le_refl _) _
  cases hb : okN x1
  · have HR : Hid _ := HN.out (by simp [hb])
    have IN : Hid (∀ W : World, Calls Tryd.prog 78 #[.int .i64 x1] W fun e w' => e = .returned (.bool false) ∧ W = w') := fun W => by have := isNumber_any x1 W; rwa [hb] at this
    clear hb HY HN
    go_enter Tryd.func66, Tryd.ntmps66
    go_wp2
    go_quiet ((go_at_call 78; exact (IN.out _).mono (by rintro e w' ⟨rfl, rfl⟩; exact ⟨rfl, _, rfl⟩)))
    go_wp2
    exact bodyPost_ret (v := .tuple #[.iface 102 (.int .i64 x1), .int .i64 ((k : Int) + 1), .bool false]) (by simp [results, Tryd.results66, go_sem]) rfl ⟨M14.TRes.no HR.out _ _, below_drewN hB _⟩
  · have IN : Hid (∀ W : World, Calls Tryd.prog 78 #[.int .i64 x1] W fun e w' => e = .returned (.bool true) ∧ W = w') := fun W => by have := isNumber_any x1 W; rwa [hb] at this
    by_cases ht : x2 = ⟨#[]⟩
    · subst ht
      by_cases hm : x3 = 0
      · subst hm
        have HR : Hid _ := HY.out (by simp [hb])
        clear hb HY HN
        go_enter Tryd.func66, Tryd.ntmps66
        go_wp2
        go_quiet ((go_at_call 78; exact (IN.out _).mono (by rintro e w' ⟨rfl, rfl⟩; exact ⟨rfl, _, rfl⟩)))
        go_wp2
        exact bodyPost_ret (v := .tuple #[.iface 102 (.int .i64 x1), .int .i64 ((k : Int) + 1), .bool true]) (by simp [results, Tryd.results66, go_sem]) rfl ⟨M14.TRes.yes HR.out (by omega) HT.out (M14.VAt.num _ _ _ _), below_drewN hB _⟩
      · have HR : Hid _ := HN.out (by simp [hm])
        have hm2 : (x3 == 0) = false := by simp [hm]
        clear hb HY HN hm
        go_enter Tryd.func66, Tryd.ntmps66
        go_wp2
        go_quiet ((go_at_call 78; exact (IN.out _).mono (by rintro e w' ⟨rfl, rfl⟩; exact ⟨rfl, _, rfl⟩)))
        go_wp2
        exact bodyPost_ret (v := .tuple #[.iface 102 (.int .i64 x1), .int .i64 ((k : Int) + 1), .bool false]) (by simp [results, Tryd.results66, go_sem]) rfl ⟨M14.TRes.no HR.out _ _, below_drewN hB _⟩
    · have HR : Hid _ := HN.out (by simp [ht])
      have ht2 : (x2.toList == (⟨#[]⟩ : ByteArray).toList) = false := M8.beq_no ht
      have ht3 : (x2.toList == []) = false := M8.nil_no ht
      clear hb HY HN ht
      go_enter Tryd.func66, Tryd.ntmps66
      go_wp2
      go_quiet ((go_at_call 78; exact (IN.out _).mono (by rintro e w' ⟨rfl, rfl⟩; exact ⟨rfl, _, rfl⟩)))
      go_wp2
      exact bodyPost_ret (v := .tuple #[.iface 102 (.int .i64 x1), .int .i64 ((k : Int) + 1), .bool false]) (by simp [results, Tryd.results66, go_sem]) rfl ⟨M14.TRes.no HR.out _ _, below_drewN hB _⟩
set_option maxHeartbeats 3200000 in
set_option maxRecDepth 100000 in
theorem takeValue_k2 (r : Nat) (a : Option Addr) (cap : Nat) (xs : List It) (k d : Nat) (w : World) (hl : xs.length ≤ 1048576) (_ : d ≤ 5) (hk : k < xs.length) (hts : (M11.at_ xs k).text.size ≤ 1048576) (hin : M11.ItemsAt w a xs) (h1 : (M11.at_ xs k).kind = 2) (o : M12.O)
    (hy : Hid (M12.leaf (M11.at_ xs k) = true → o = some (1, 0))) (hn : Hid (M12.leaf (M11.at_ xs k) = false → o = none)) :
    Calls Tryd.prog 66 #[.slice a xs.length cap, .int .i64 (k : Int), .int .i64 (d : Int)] w fun e w' => M14.TRes r w' w.heap.size k (xs.drop k) o e ∧ Below w.heap.size w w' := by
  have hdr := M12.drop_cons hk
  obtain ⟨b, off, rfl, hlt, c0, c1, c2, c3⟩ := hin.at hk
  have hlf := M12.leaf2 h1
  have hy' := hy.out
  have hn' := hn.out
  rw [hlf] at hy' hn'
  have HT : Hid ((xs.drop k).take 1 = [M11.at_ xs k]) := by show _ = _; rw [hdr]; rfl
  clear hdr
  generalize M11.at_ xs k = x at *
  obtain ⟨x0, x1, x2, x3⟩ := x
  simp only at h1 hy' hn' c0 c1 c2 c3 hts
  subst h1
  have HY : Hid _ := hy'
  have HN : Hid _ := hn'
  clear hy' hn' hlf hy hn hin
  have hB : Below w.heap.size w (w.alloc (.cells #[.int .i64 2, .int .i64 x1, .string x2, .int .i64 x3] 65)) := (Below.refl _ w).alloc (Nat.le_refl _) _
  have IS : Hid (∀ W : World, Calls Tryd.prog 79 #[.agg #[.int .i64 2, .int .i64 x1, .string x2, .int .i64 x3]] W fun e w' => e = .returned (.bool (strOk ⟨2, x1, x2, x3⟩)) ∧ Below W.heap.size W w') := fun W => isStringItem_any ⟨2, x1, x2, x3⟩ W hts
  cases hbq : strOk ⟨2, x1, x2, x3⟩
  · rw [hbq] at IS
    have HR : Hid _ := HN.out (by rw [← hbq]; rfl)
    clear hbq HY HN
    go_enter Tryd.func66, Tryd.ntmps66
    go_wp2
    go_region_held3 (fun w' => w'.cell? ⟨w.heap.size, 0, none⟩ = some (.int .i64 2) ∧ w'.cell? ⟨w.heap.size, 1, none⟩ = some (.int .i64 x1) ∧ w'.cell? ⟨w.heap.size, 2, none⟩ = some (.string x2) ∧ w'.cell? ⟨w.heap.size, 3, none⟩ = some (.int .i64 x3)) (go_keep) (first | (go_at_call 79; refine Calls.mono (IS.out _) ?_; rintro e w2 ⟨rfl, hb2⟩; have p0 : w2.cell? ⟨w.heap.size, 0, none⟩ = some (.int .i64 2) := (hb2.cell (by simp)).trans (by simp); have p1 : w2.cell? ⟨w.heap.size, 1, none⟩ = some (.int .i64 x1) := (hb2.cell (by simp)).trans (by simp); have p2 : w2.cell? ⟨w.heap.size, 2, none⟩ = some (.string x2) := (hb2.cell (by simp)).trans (by simp); have p3 : w2.cell? ⟨w.heap.size, 3, none⟩ = some (.int .i64 x3) := (hb2.cell (by simp)).trans (by simp)))
    have hB2 : Below w.heap.size w w2 := hB.drew.trans (hb2.mono (by simp))
    clear hb2 hB IS p0 p1 p2 p3
    go_wp2
    exact bodyPost_ret (v := .tuple #[.iface 96 (.string x2), .int .i64 (IntKind.i64.wrap ((k : Int) + 1)), .bool false]) (by simp [results, Tryd.results66, go_sem]) rfl ⟨M14.TRes.no HR.out _ _, hB2⟩
  · rw [hbq] at IS
    have HR : Hid _ := HY.out (by rw [← hbq]; rfl)
    have hz : x1 = 0 ∧ x3 = 0 := by simp [strOk] at hbq; exact ⟨hbq.1.2, hbq.2⟩
    obtain ⟨rfl, rfl⟩ := hz
    clear hbq HY HN
    go_enter Tryd.func66, Tryd.ntmps66
    go_wp2
    go_region_held3 (fun w' => w'.cell? ⟨w.heap.size, 0, none⟩ = some (.int .i64 2) ∧ w'.cell? ⟨w.heap.size, 1, none⟩ = some (.int .i64 0) ∧ w'.cell? ⟨w.heap.size, 2, none⟩ = some (.string x2) ∧ w'.cell? ⟨w.heap.size, 3, none⟩ = some (.int .i64 0)) (go_keep) (first | (go_at_call 79; refine Calls.mono (IS.out _) ?_; rintro e w2 ⟨rfl, hb2⟩; have p0 : w2.cell? ⟨w.heap.size, 0, none⟩ = some (.int .i64 2) := (hb2.cell (by simp)).trans (by simp); have p1 : w2.cell? ⟨w.heap.size, 1, none⟩ = some (.int .i64 0) := (hb2.cell (by simp)).trans (by simp); have p2 : w2.cell? ⟨w.heap.size, 2, none⟩ = some (.string x2) := (hb2.cell (by simp)).trans (by simp); have p3 : w2.cell? ⟨w.heap.size, 3, none⟩ = some (.int .i64 0) := (hb2.cell (by simp)).trans (by simp)))
    have hB2 : Below w.heap.size w w2 := hB.drew.trans (hb2.mono (by simp))
    clear hb2 hB IS p0 p1 p2 p3
    go_wp2
    exact bodyPost_ret (v := .tuple #[.iface 96 (.string x2), .int .i64 (IntKind.i64.wrap ((k : Int) + 1)), .bool true]) (by simp [results, Tryd.results66, go_sem]) rfl ⟨M14.TRes.yes HR.out (by rw [IntKind.wrap_i64]; omega) HT.out (M14.VAt.byt _ _ _ _), hB2⟩
set_option linter.unusedSimpArgs false in
set_option maxHeartbeats 3200000 in
set_option maxRecDepth 100000 in
theorem takeValue_k3 (r : Nat) (a : Option Addr) (cap : Nat) (xs : List It) (k d : Nat) (w : World) (hl : xs.length ≤ 1048576) (_ : d ≤ 5) (hk : k < xs.length) (hts : (M11.at_ xs k).text.size ≤ 1048576) (hin : M11.ItemsAt w a xs) (h1 : (M11.at_ xs k).kind = 3) (o : M12.O)
    (hy : Hid (M12.leaf (M11.at_ xs k) = true → o = some (1, 0))) (hn : Hid (M12.leaf (M11.at_ xs k) = false → o = none)) :
    Calls Tryd.prog 66 #[.slice a xs.length cap, .int .i64 (k : Int), .int .i64 (d : Int)] w fun e w' => M14.TRes r w' w.heap.size k (xs.drop k) o e ∧ Below w.heap.size w w' := by
  have hdr := M12.drop_cons hk
  obtain ⟨b, off, rfl, hlt, c0, c1, c2, c3⟩ := hin.at hk
  have hlf := M12.leaf3 h1
  have hy' := hy.out
  have hn' := hn.out
  rw [hlf] at hy' hn'
  have HT : Hid ((xs.drop k).take 1 = [M11.at_ xs k]) := by show _ = _; rw [hdr]; rfl
  clear hdr
  generalize M11.at_ xs k = x at *
  obtain ⟨x0, x1, x2, x3⟩ := x
  simp only at h1 hy' hn' c0 c1 c2 c3 hts
  subst h1
  have HY : Hid _ := hy'
  have HN : Hid _ := hn'
  clear hy' hn' hlf hy hn hin
  have hB : Below w.heap.size w (w.alloc (.cells #[.int .i64 3, .int .i64 x1, .string x2, .int .i64 x3] 65)) := (Below.refl _ w).alloc (Nat.le_refl _) _
  have IS : Hid (∀ W : World, Calls Tryd.prog 79 #[.agg #[.int .i64 3, .int .i64 x1, .string x2, .int .i64 x3]] W fun e w' => e = .returned (.bool (strOk ⟨3, x1, x2, x3⟩)) ∧ Below W.heap.size W w') := fun W => isStringItem_any ⟨3, x1, x2, x3⟩ W hts
  cases hbq : strOk ⟨3, x1, x2, x3⟩
  · rw [hbq] at IS
    have HR : Hid _ := HN.out (by
      have : (decide (x2.size ≤ 60) && decide (x1 = 0) && decide (x3 = 0)) = false := hbq
      rw [this]; rfl)
    clear hbq HY HN
    go_enter Tryd.func66, Tryd.ntmps66
    go_wp2
    refine MR.frame fun A hA => ?_
    have hsz : A.tmps.size = 93 := by rw [hA]; rfl
    have e1 : A.eval (.tmp 1) = .int .i64 (k : Int) := by rw [hA]; rfl
    have f1 := MR.read (t := 1) (by rw [hsz]; decide) e1
    have e9 : A.eval (.tmp 9) = .pointer (some ⟨w.heap.size, 0, none⟩) := by rw [hA]; rfl
    have f9 := MR.read (t := 9) (by rw [hsz]; decide) e9
    have HA : Hid (A = _) := hA
    clear hA
    refine wp_region_held (S := fun w' => w'.cell? ⟨w.heap.size, 0, none⟩ = some (.int .i64 3) ∧ w'.cell? ⟨w.heap.size, 1, none⟩ = some (.int .i64 x1) ∧ w'.cell? ⟨w.heap.size, 2, none⟩ = some (.string x2) ∧ w'.cell? ⟨w.heap.size, 3, none⟩ = some (.int .i64 x3)) (by kernel_rfl) ?_
    change wpAnyH _ _ _ _ _ _ _ _ (World.drew _)
    have hS : (fun w' : World => w'.cell? ⟨w.heap.size, 0, none⟩ = some (.int .i64 3) ∧ w'.cell? ⟨w.heap.size, 1, none⟩ = some (.int .i64 x1) ∧ w'.cell? ⟨w.heap.size, 2, none⟩ = some (.string x2) ∧ w'.cell? ⟨w.heap.size, 3, none⟩ = some (.int .i64 x3)) (w.alloc (.cells #[.int .i64 3, .int .i64 x1, .string x2, .int .i64 x3] 65)).drew := by simp
    refine MR.takeH (i := 0) (some 51) (.pointer (some ⟨w.heap.size, 2, none⟩)) rfl rfl (by kernel_rfl) (by kernel_rfl) (by kernel_rfl) (fun _ _ _ h => h) hS (MR.free rfl) (fun w hw => by simp [execOp, MR.ev, MR.size, hsz, e1, f1, e9, f9, go_sem]) ?_
    refine MR.takeH (i := 1) (some 52) (.string x2) rfl rfl (by kernel_rfl) (by kernel_rfl) (by kernel_rfl) (fun _ _ _ h => h) hS (MR.free rfl) (fun w hw => by simp [execOp, MR.ev, MR.size, hsz, e1, f1, e9, f9, hw.1, hw.2.1, hw.2.2.1, hw.2.2.2, go_sem]) ?_
    refine MR.takeH (i := 2) (some 53) (.iface 97 (.string x2)) rfl rfl (by kernel_rfl) (by kernel_rfl) (by kernel_rfl) (fun _ _ _ h => h) hS (MR.free rfl) (fun w hw => by simp [execOp, MR.ev, MR.size, hsz, e1, f1, e9, f9, go_sem]) ?_
    refine MR.takeH (i := 3) (some 54) (.int .i64 (k : Int)) rfl rfl (by kernel_rfl) (by kernel_rfl) (by kernel_rfl) (fun _ _ _ h => h) hS (MR.free rfl) (fun w hw => by simp [execOp, MR.ev, MR.size, hsz, e1, f1, e9, f9, go_sem]) ?_
    refine MR.takeH (i := 4) (some 55) (.int .i64 (IntKind.i64.wrap ((k : Int) + 1))) rfl rfl (by kernel_rfl) (by kernel_rfl) (by kernel_rfl) (fun _ _ _ h => h) hS (MR.free rfl) (fun w hw => by simp [execOp, MR.ev, MR.size, hsz, e1, f1, e9, f9, go_sem]) ?_
    refine MR.takeH (i := 5) (some 56) (.agg #[.int .i64 3, .int .i64 x1, .string x2, .int .i64 x3]) rfl rfl (by kernel_rfl) (by kernel_rfl) (by kernel_rfl) (fun _ _ _ h => h) hS (MR.free rfl) (fun w hw => by simp [execOp, MR.ev, MR.size, hsz, e1, f1, e9, f9, hw.1, hw.2.1, hw.2.2.1, hw.2.2.2, go_sem]) ?_
    refine MR.callH (i := 6) (some 57) (79) (#[.agg #[.int .i64 3, .int .i64 x1, .string x2, .int .i64 x3]]) (by kernel_rfl) rfl rfl (MR.free rfl) (by simp [execOp, MR.ev, MR.size, hsz, e1, f1, e9, f9, go_sem]) ?_
    refine Calls.mono (IS.out _) ?_
    rintro e w2 ⟨rfl, hb2⟩
    have hS2 : w2.cell? ⟨w.heap.size, 0, none⟩ = some (.int .i64 3) ∧ w2.cell? ⟨w.heap.size, 1, none⟩ = some (.int .i64 x1) ∧ w2.cell? ⟨w.heap.size, 2, none⟩ = some (.string x2) ∧ w2.cell? ⟨w.heap.size, 3, none⟩ = some (.int .i64 x3) := ⟨(hb2.cell (by simp)).trans hS.1, (hb2.cell (by simp)).trans hS.2.1, (hb2.cell (by simp)).trans hS.2.2.1, (hb2.cell (by simp)).trans hS.2.2.2⟩
    refine ⟨_, rfl, hS2, ?_⟩
    refine MR.takeH (i := 7) (some 58) (.bool false) rfl rfl (by kernel_rfl) (by kernel_rfl) (by kernel_rfl) (fun _ _ _ h => h) hS2 (MR.free rfl) (fun w hw => by simp [execOp, MR.ev, MR.size, hsz, e1, f1, e9, f9, go_sem]) ?_
    refine MR.skipH (i := 8) (some 59) rfl rfl (by kernel_rfl) (by kernel_rfl) (by kernel_rfl) (fun _ _ _ h => h) hS2 (MR.unwant (d := 58) (b' := false) rfl rfl (by simp [MR.size, hsz]) (by simp [MR.ev, MR.size, hsz, e1, f1, e9, f9]) (by decide)) ?_
    refine MR.skipH (i := 9) (some 60) rfl rfl (by kernel_rfl) (by kernel_rfl) (by kernel_rfl) (fun _ _ _ h => h) hS2 (MR.unwant (d := 58) (b' := false) rfl rfl (by simp [MR.size, hsz]) (by simp [MR.ev, MR.size, hsz, e1, f1, e9, f9]) (by decide)) ?_
    refine MR.skipH (i := 10) (some 61) rfl rfl (by kernel_rfl) (by kernel_rfl) (by kernel_rfl) (fun _ _ _ h => h) hS2 (MR.unwant (d := 58) (b' := false) rfl rfl (by simp [MR.size, hsz]) (by simp [MR.ev, MR.size, hsz, e1, f1, e9, f9]) (by decide)) ?_
    refine MR.takeH (i := 11) (some 62) (.bool false) rfl rfl (by kernel_rfl) (by kernel_rfl) (by kernel_rfl) (fun _ _ _ h => h) hS2 (MR.free rfl) (fun w hw => by simp [execOp, MR.ev, MR.size, hsz, e1, f1, e9, f9, go_sem]) ?_
    refine MR.takeH (i := 12) (some 6) (.iface 97 (.string x2)) rfl rfl (by kernel_rfl) (by kernel_rfl) (by kernel_rfl) (fun _ _ _ h => h) hS2 (MR.free rfl) (fun w hw => by simp [execOp, MR.ev, MR.size, hsz, e1, f1, e9, f9, go_sem]) ?_
    refine MR.takeH (i := 13) (some 7) (.int .i64 (IntKind.i64.wrap ((k : Int) + 1))) rfl rfl (by kernel_rfl) (by kernel_rfl) (by kernel_rfl) (fun _ _ _ h => h) hS2 (MR.free rfl) (fun w hw => by simp [execOp, MR.ev, MR.size, hsz, e1, f1, e9, f9, go_sem]) ?_
    refine MR.takeH (i := 14) (some 8) (.bool false) rfl rfl (by kernel_rfl) (by kernel_rfl) (by kernel_rfl) (fun _ _ _ h => h) hS2 (MR.free rfl) (fun w hw => by simp [execOp, MR.ev, MR.size, hsz, e1, f1, e9, f9, go_sem]) ?_
    refine wpAnyH_done (by kernel_rfl) ?_ _
    have hB2 : Below w.heap.size w w2 := hB.drew.trans (hb2.mono (by simp))
    rw [HA.out]
    clear hb2 hB IS hS hS2 HA f1 f9 e1 e9 hsz
    simp only [Act.put, List.setIfInBounds_toArray, List.set_cons_succ, List.set_cons_zero]
    go_wp2
    exact bodyPost_ret (v := .tuple #[.iface 97 (.string x2), .int .i64 (IntKind.i64.wrap ((k : Int) + 1)), .bool false]) (by simp [results, Tryd.results66, go_sem]) rfl ⟨M14.TRes.no HR.out _ _, hB2⟩
  · rw [hbq] at IS
    have hst : (decide (x2.size ≤ 60) && decide (x1 = 0) && decide (x3 = 0)) = true := hbq
    rw [hst, Bool.true_and] at HY HN
    have hz : x1 = 0 ∧ x3 = 0 := by simp [strOk] at hbq; exact ⟨hbq.1.2, hbq.2⟩
    obtain ⟨rfl, rfl⟩ := hz
    have IP : Hid (∀ W : World, Calls Tryd.prog 80 #[.string x2] W fun e w' => e = .returned (.bool (M12.plain x2)) ∧ W = w') := fun W => isPlain_any x2 W hts
    clear hbq hst
    cases hpq : M12.plain x2
    · rw [hpq] at IP
      have HR : Hid _ := HN.out hpq
      clear hpq HY HN
      go_enter Tryd.func66, Tryd.ntmps66
      go_wp2
      go_region_held3 (fun w' => w'.cell? ⟨w.heap.size, 0, none⟩ = some (.int .i64 3) ∧ w'.cell? ⟨w.heap.size, 1, none⟩ = some (.int .i64 0) ∧ w'.cell? ⟨w.heap.size, 2, none⟩ = some (.string x2) ∧ w'.cell? ⟨w.heap.size, 3, none⟩ = some (.int .i64 0)) (go_keep) (first | (go_at_call 79; refine Calls.mono (IS.out _) ?_; rintro e w2 ⟨rfl, hb2⟩; have p0 : w2.cell? ⟨w.heap.size, 0, none⟩ = some (.int .i64 3) := (hb2.cell (by simp)).trans (by simp); have p1 : w2.cell? ⟨w.heap.size, 1, none⟩ = some (.int .i64 0) := (hb2.cell (by simp)).trans (by simp); have p2 : w2.cell? ⟨w.heap.size, 2, none⟩ = some (.string x2) := (hb2.cell (by simp)).trans (by simp); have p3 : w2.cell? ⟨w.heap.size, 3, none⟩ = some (.int .i64 0) := (hb2.cell (by simp)).trans (by simp)) | (go_at_call 80; refine Calls.mono (IP.out _) ?_; rintro e w' ⟨rfl, rfl⟩))
      have hB2 : Below w.heap.size w w2 := hB.drew.trans (hb2.mono (by simp))
      clear hb2 hB IS IP p0 p1 p2 p3
      go_wp2
      exact bodyPost_ret (v := .tuple #[.iface 97 (.string x2), .int .i64 (IntKind.i64.wrap ((k : Int) + 1)), .bool false]) (by simp [results, Tryd.results66, go_sem]) rfl ⟨M14.TRes.no HR.out _ _, hB2⟩
    · rw [hpq] at IP
      have HR : Hid _ := HY.out hpq
      clear hpq HY HN
      go_enter Tryd.func66, Tryd.ntmps66
      go_wp2
      go_region_held3 (fun w' => w'.cell? ⟨w.heap.size, 0, none⟩ = some (.int .i64 3) ∧ w'.cell? ⟨w.heap.size, 1, none⟩ = some (.int .i64 0) ∧ w'.cell? ⟨w.heap.size, 2, none⟩ = some (.string x2) ∧ w'.cell? ⟨w.heap.size, 3, none⟩ = some (.int .i64 0)) (go_keep) (first | (go_at_call 79; refine Calls.mono (IS.out _) ?_; rintro e w2 ⟨rfl, hb2⟩; have p0 : w2.cell? ⟨w.heap.size, 0, none⟩ = some (.int .i64 3) := (hb2.cell (by simp)).trans (by simp); have p1 : w2.cell? ⟨w.heap.size, 1, none⟩ = some (.int .i64 0) := (hb2.cell (by simp)).trans (by simp); have p2 : w2.cell? ⟨w.heap.size, 2, none⟩ = some (.string x2) := (hb2.cell (by simp)).trans (by simp); have p3 : w2.cell? ⟨w.heap.size, 3, none⟩ = some (.int .i64 0) := (hb2.cell (by simp)).trans (by simp)) | (go_at_call 80; refine Calls.mono (IP.out _) ?_; rintro e w' ⟨rfl, rfl⟩))
      have hB2 : Below w.heap.size w w2 := hB.drew.trans (hb2.mono (by simp))
      clear hb2 hB IS IP p0 p1 p2 p3
      go_wp2
      exact bodyPost_ret (v := .tuple #[.iface 97 (.string x2), .int .i64 (IntKind.i64.wrap ((k : Int) + 1)), .bool true]) (by simp [results, Tryd.results66, go_sem]) rfl ⟨M14.TRes.yes HR.out (by rw [IntKind.wrap_i64]; omega) HT.out (M14.VAt.txt _ _ _ _), hB2⟩
end Go.Proofs.YtcpfbgogfhlmjaaDoor

/- impl.takeValue at any item; impl.valueOf. -/
namespace Go.Proofs.YtcpfbgogfhlmjaaDoor
open Go.RowKit
set_option maxHeartbeats 3200000 in
set_option maxRecDepth 100000 in
theorem takeValue_list (r : Nat) (ih : Hid (∀ r', r = r' + 1 → TV r')) (a : Option Addr) (cap : Nat) (xs : List It) (k d : Nat) (w : World) (hl : xs.length ≤ 1048576) (hd : d + r = 5) (hk : k < xs.length)
    (hts : Hid (M11.Wf xs)) (hin : M11.ItemsAt w a xs) (h1 : (M11.at_ xs k).kind = 4) :
    Calls Tryd.prog 66 #[.slice a xs.length cap, .int .i64 (k : Int), .int .i64 (d : Int)] w fun e w' => M14.TRes r w' w.heap.size k (xs.drop k) (M12.vl r (xs.drop k)) e ∧ Below w.heap.size w w' := by
  have hm64 := (hts.out k hk).2
  obtain ⟨b, off, rfl, hlt, c0, c1, c2, c3⟩ := hin.at hk
  have hdr := M12.drop_cons hk
  have hlf : M12.leaf (M11.at_ xs k) = false := M12.leaf0 (by omega) (by omega) (by omega)
  have hls := M12.lst4 h1
  rw [hdr]
  clear hdr
  generalize M11.at_ xs k = x at *
  obtain ⟨x0, x1, x2, x3⟩ := x
  simp only at h1 hls c0 c1 c2 c3 hm64
  subst h1
  have hB : Below w.heap.size w (w.alloc (.cells #[.int .i64 4, .int .i64 x1, .string x2, .int .i64 x3] 65)) := (Below.refl _ w).alloc (Nat.le_refl _) _
  by_cases hok : x1 = 0 ∧ x2 = ⟨#[]⟩ ∧ 0 ≤ x3
  · obtain ⟨rfl, rfl, h30⟩ := hok
    obtain ⟨x3, rfl⟩ := Int.eq_ofNat_of_zero_le h30
    have hls' : M12.lst ⟨4, 0, ⟨#[]⟩, (x3 : Int)⟩ = true := by rw [hls]; simp
    clear hls hlf
    cases r with
    | zero =>
      have HR : Hid _ := M12.vl_deep (l := xs.drop (k + 1)) (M12.lst_leaf hls')
      obtain rfl : d = 5 := by omega
      clear hls' ih
      go_enter Tryd.func66, Tryd.ntmps66
      go_wp2
      exact bodyPost_ret (v := .tuple #[.nilIface, .int .i64 (0), .bool false]) (by simp [results, Tryd.results66, go_sem]) rfl ⟨M14.TRes.no HR.out _ _, hB⟩
    | succ r =>
      have IH : Hid (TV r) := ih.out r rfl
      have HLS : Hid _ := hls'
      have d5 : ((d : Int) == 5) = false := by simp; omega
      have LL : Hid _ := fun W h => takeList_any r IH (some ⟨b, off, none⟩) cap xs (k + 1) x3 (d + 1) W hl (by omega) (by omega) (by omega) hts h _ rfl
      have hin1 := hin.below hB
      have HY : Hid _ := fun c D (h : M12.nOf (M12.vl r) x3 (xs.drop (k + 1)) = some (c, D)) => M12.vl_list_yes (r := r) (l := xs.drop (k + 1)) (c := c) (d := D) HLS.out (by simpa using h)
      have HNO : Hid _ := fun (h : M12.nOf (M12.vl r) x3 (xs.drop (k + 1)) = none) => M12.vl_list_no (r := r) (l := xs.drop (k + 1)) HLS.out (by simpa using h)
      clear hls' ih
      go_enter Tryd.func66, Tryd.ntmps66
      go_wp2_with fail
      refine Calls.mono (LL.out _ hin1) ?_
      rintro e w2 ⟨he, hb2⟩
      have hB2 : Below w.heap.size w w2 := hB.trans (hb2.mono (by simp))
      clear LL hin1 c0 c1 c2 c3 hin hb2
      generalize hO : M12.nOf (M12.vl r) x3 (xs.drop (k + 1)) = O at *
      cases O with
      | none =>
        obtain ⟨u, p, rfl⟩ := M14.LRes.none' he
        have HR : Hid _ := HNO.out rfl
        clear HY HNO hO IH
        go_wp2
        exact bodyPost_ret (v := .tuple #[u, .int .i64 (p), .bool false]) (by simp [results, Tryd.results66, go_sem]) rfl ⟨M14.TRes.no HR.out _ _, hB2⟩
      | some q =>
        obtain ⟨c, D⟩ := q
        obtain ⟨u, rfl, hu⟩ := M14.LRes.some' he
        have HR : Hid _ := HY.out c D rfl
        have HU : Hid _ := hu
        clear HY HNO hO IH hu
        go_wp2
        exact bodyPost_ret (v := .tuple #[u, .int .i64 (((k + 1 + c : Nat) : Int)), .bool true]) (by simp [results, Tryd.results66, go_sem]) rfl ⟨M14.TRes.yes HR.out (by omega) (by rw [List.take_succ_cons]) (M14.VAt.keep (Nat.le_refl _) (fun _ _ _ => rfl) (fun b hb _ => by simp at hb; omega) _ _ _ _ HU.out), hB2⟩
  · have hlf2 : M12.lst ⟨4, x1, x2, x3⟩ = false := by
      rw [hls]
      by_cases e1 : x1 = 0
      · by_cases e2 : x2 = ⟨#[]⟩
        · have e3 : ¬ 0 ≤ x3 := fun h => hok ⟨e1, e2, h⟩
          simp [e3]
        · simp [e2]
      · simp [e1]
    have HR : Hid _ := M12.vl_bad (l := xs.drop (k + 1)) r hlf hlf2
    clear hlf hls hlf2 ih hin hts
    by_cases e1 : x1 = 0
    · subst e1
      by_cases e2 : x2 = ⟨#[]⟩
      · subst e2
        have e3 : x3 < 0 := by
          by_cases h : 0 ≤ x3
          · exact absurd ⟨rfl, rfl, h⟩ hok
          · omega
        clear hok
        go_enter Tryd.func66, Tryd.ntmps66
        go_wp2
        exact bodyPost_ret (v := .tuple #[.nilIface, .int .i64 (0), .bool false]) (by simp [results, Tryd.results66, go_sem]) rfl ⟨M14.TRes.no HR.out _ _, hB⟩
      · have e2a : (x2.toList == (⟨#[]⟩ : ByteArray).toList) = false := M8.beq_no e2
        have e2b : (x2.toList == []) = false := M8.nil_no e2
        clear hok e2
        by_cases e3 : x3 < 0
        · go_enter Tryd.func66, Tryd.ntmps66
          go_wp2
          exact bodyPost_ret (v := .tuple #[.nilIface, .int .i64 (0), .bool false]) (by simp [results, Tryd.results66, go_sem]) rfl ⟨M14.TRes.no HR.out _ _, hB⟩
        · go_enter Tryd.func66, Tryd.ntmps66
          go_wp2
          exact bodyPost_ret (v := .tuple #[.nilIface, .int .i64 (0), .bool false]) (by simp [results, Tryd.results66, go_sem]) rfl ⟨M14.TRes.no HR.out _ _, hB⟩
    · have e1a : (x1 == 0) = false := by simp [e1]
      clear hok
      by_cases e3 : x3 < 0
      · go_enter Tryd.func66, Tryd.ntmps66
        go_wp2
        exact bodyPost_ret (v := .tuple #[.nilIface, .int .i64 (0), .bool false]) (by simp [results, Tryd.results66, go_sem]) rfl ⟨M14.TRes.no HR.out _ _, hB⟩
      · go_enter Tryd.func66, Tryd.ntmps66
        go_wp2
        exact bodyPost_ret (v := .tuple #[.nilIface, .int .i64 (0), .bool false]) (by simp [results, Tryd.results66, go_sem]) rfl ⟨M14.TRes.no HR.out _ _, hB⟩
set_option maxHeartbeats 800000 in
set_option maxRecDepth 100000 in
theorem takeValue_step (r : Nat) (ih : Hid (∀ r', r = r' + 1 → TV r')) : TV r := by
  intro a cap xs k d w hl hd hk hts hin
  by_cases hkl : k < xs.length
  · have hdr := M12.drop_cons hkl
    by_cases h4 : (M11.at_ xs k).kind = 4
    · exact takeValue_list r ih a cap xs k d w hl hd hkl hts hin h4
    · have hy : Hid (M12.leaf (M11.at_ xs k) = true → M12.vl r (xs.drop k) = some (1, 0)) := fun h => by rw [hdr]; exact M12.vl_leaf r h
      have hn : Hid (M12.leaf (M11.at_ xs k) = false → M12.vl r (xs.drop k) = none) := fun h => by rw [hdr]; exact M12.vl_bad r h (M12.lst0 h4)
      by_cases h1 : (M11.at_ xs k).kind = 1
      · exact takeValue_num r a cap xs k d w hl (by omega) hkl hin h1 _ hy hn
      · by_cases h2 : (M11.at_ xs k).kind = 2
        · exact takeValue_k2 r a cap xs k d w hl (by omega) hkl (hts.out k hkl).1 hin h2 _ hy hn
        · by_cases h3 : (M11.at_ xs k).kind = 3
          · exact takeValue_k3 r a cap xs k d w hl (by omega) hkl (hts.out k hkl).1 hin h3 _ hy hn
          · have HR : Hid _ := hn.out (M12.leaf0 h1 h2 h3)
            obtain ⟨b, off, rfl, hlt, c0, c1, c2, c3⟩ := hin.at hkl
            clear hy hn hdr hin hts ih
            generalize M11.at_ xs k = x at *
            obtain ⟨x0, x1, x2, x3⟩ := x
            simp only at h1 h2 h3 h4 c0 c1 c2 c3
            have e1 : (x0 == 1) = false := by simp [h1]
            have e2 : (x0 == 2) = false := by simp [h2]
            have e3 : (x0 == 3) = false := by simp [h3]
            have e4 : (x0 == 4) = false := by simp [h4]
            clear h1 h2 h3 h4
            go_enter Tryd.func66, Tryd.ntmps66
            go_wp2
            exact bodyPost_ret (v := .tuple #[.nilIface, .int .i64 (0), .bool false]) (by simp [results, Tryd.results66, go_sem]) rfl ⟨M14.TRes.no HR.out _ _, (Below.refl _ w).alloc (Nat.le_refl _) _⟩
  · obtain rfl : k = xs.length := by omega
    have HR : Hid (M12.vl r (xs.drop xs.length) = none) := by show _ = _; rw [List.drop_length]; exact M12.vl_nil r
    clear hin hts ih
    go_enter Tryd.func66, Tryd.ntmps66
    go_wp2
    exact bodyPost_ret (v := .tuple #[.nilIface, .int .i64 (0), .bool false]) (by simp [results, Tryd.results66, go_sem]) rfl ⟨M14.TRes.no HR.out _ _, Below.refl _ _⟩
theorem takeValue_any (r : Nat) : TV r := by
  induction r with
  | zero => exact takeValue_step 0 (fun r' h => by omega)
  | succ r ih => exact takeValue_step (r + 1) (fun r' h => (Nat.succ.inj h) ▸ ih)
end Go.Proofs.YtcpfbgogfhlmjaaDoor
