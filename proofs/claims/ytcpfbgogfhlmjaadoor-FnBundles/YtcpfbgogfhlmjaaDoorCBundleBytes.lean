/- BundleBytes, the specification's and the program's, at any bundle. -/
import Derived.Test.YtcpfbgogfhlmjaaDoorRows
import Derived.Test.YtcpfbgogfhlmjaaDoorCGoodBundle
import Derived.Test.YtcpfbgogfhlmjaaDoorCItemsS
import Derived.Test.YtcpfbgogfhlmjaaDoorCImplBytes
import Derived.Test.YtcpfbgogfhlmjaaDoorCL2Bytes
import Derived.Test.YtcpfbgogfhlmjaaDoorCWithBase
import Derived.WalkKit
import Derived.WalkSpells
import Derived.WalkLawsBesides
import Derived.Outline
namespace Go.Proofs.YtcpfbgogfhlmjaaDoor
open Go.RowKit
/-- A bundle's bytes. -/
def bbS (b : Bd) : ByteArray := withS ⟨(M12.bytes (B2.items b)).toArray⟩
def bbR (b : Bd) : ByteArray := if B1.good b = true then bbS b else ⟨#[]⟩
theorem bbR_no {b : Bd} (h : B1.good b = false) : ⟨#[]⟩ = bbR b := by simp [bbR, h]
theorem bbR_yes {b : Bd} (h : B1.good b = true) : bbS b = bbR b := by simp [bbR, h]
theorem ret_sbBB {s t : ByteArray} {a b : Bool} (h1 : s = t) (h2 : a = b) : Ending.returned (.tuple #[.string s, .bool a]) = .returned (.tuple #[.string t, .bool b]) := by rw [h1, h2]
theorem bb_size {b : Bd} (h : B1.good b = true) : (⟨(M12.bytes (B2.items b)).toArray⟩ : ByteArray).size ≤ 115 := by
  have := B2.bytes_items (b := b) (B1.good_is h).2.2.2.2.2.2.1
  show ((M12.bytes (B2.items b)).toArray).size ≤ 115
  simpa using this
set_option maxHeartbeats 400000 in
set_option maxRecDepth 100000 in
theorem l3Bytes_any {b : Bd} (h : B1.good b = true) (w : World) :
    Calls Tryd.prog 30 #[b.v] w fun e w' => e = .returned (.string (bbS b)) ∧ Below w.heap.size w w' := by
  have LI : Hid _ := fun W => specItems_any b W
  have ho := B2.one_items h
  have hf : Hid _ := M13.one_fine ho
  have LB : Hid (∀ (W : World) (a : Option Addr) (cap : Nat), M11.ItemsAt W a (B2.items b) → Calls Tryd.prog 53 #[.slice a 11 cap] W fun e w' => e = .returned (.string ⟨(M12.bytes (B2.items b)).toArray⟩) ∧ Below W.heap.size W w') := fun W a cap hin => l2Bytes_any a cap (B2.items b) W (by rw [B2.items_len]; omega) hf hin
  have LW : Hid _ := fun W => l1With_any (⟨(M12.bytes (B2.items b)).toArray⟩ : ByteArray) W (Nat.le_trans (bb_size h) (by omega))
  unfold bbS
  generalize B2.items b = L at *
  generalize (⟨(M12.bytes L).toArray⟩ : ByteArray) = X at *
  generalize withS X = Y at *
  clear ho hf h
  obtain ⟨fr, to, gr, md, no, lf, hp, of, tl, py⟩ := b
  go_enter Tryd.func30, Tryd.ntmps30
  go_wp2_with fail
  refine Calls.mono (LI.out _) ?_
  rintro e w1 ⟨a1, c1, rfl, hin1, hb1⟩
  have hB1 : Below w.heap.size w w1 := ((Below.refl _ w).alloc (Nat.le_refl _) _).trans (hb1.mono (by simp))
  clear LI hb1
  go_wp2_with fail
  refine Calls.mono (LB.out _ _ _ hin1) ?_
  rintro e w2 ⟨rfl, hb2⟩
  have hB2 := hB1.trans (hb2.mono hB1.size)
  clear LB hb2 hB1 hin1
  go_wp2_with fail
  refine Calls.mono (LW.out _) ?_
  rintro e w3 ⟨rfl, hb3⟩
  have hB3 := hB2.trans (hb3.mono hB2.size)
  clear LW hb3 hB2
  go_wp2
  go_ret
  exact ⟨rfl, hB3⟩
set_option maxHeartbeats 800000 in
set_option maxRecDepth 100000 in
theorem specBundleBytes_any (b : Bd) (w : World) (hs : b.py.size ≤ 1048576) :
    Calls Tryd.prog 7 #[b.v] w fun e w' => e = .returned (.tuple #[.string (bbR b), .bool (B1.good b)]) ∧ Below w.heap.size w w' := by
  have SG : Hid (∀ W : World, Calls Tryd.prog 29 #[b.v] W fun e w' => e = .returned (.bool (B1.good b)) ∧ Below W.heap.size W w') := fun W => specGoodBundle_any b W hs _ rfl
  have LI : Hid (∀ (_ : B1.good b = true) (W : World), Calls Tryd.prog 30 #[b.v] W fun e w' => e = .returned (.string (bbR b)) ∧ Below W.heap.size W w') := fun h W => by rw [← bbR_yes h]; exact l3Bytes_any h W
  have HN : Hid (B1.good b = false → ⟨#[]⟩ = bbR b) := fun h => bbR_no h
  have hA : BdAt _ _ b := BdAt.box w b 24
  have hB : Below w.heap.size w _ := (Below.refl _ w).alloc (Nat.le_refl _) (.cells #[.int .i64 b.fr, .int .i64 b.to, .bool b.gr, .int .i64 b.md, .int .i64 b.no, .int .i64 b.lf, .int .i64 b.hp, .int .i64 b.of, .int .i64 b.tl, .string b.py] 24)
  generalize B1.good b = G at *
  generalize bbR b = X at *
  obtain ⟨fr, to, gr, md, no, lf, hp, of, tl, py⟩ := b
  clear hs
  go_enter Tryd.func7, Tryd.ntmps7
  go_wp2_with fail
  refine (SG.out _).mono ?_
  rintro e w1 ⟨rfl, hb1⟩
  have hA1 := hA.below hb1 hA.1
  have hB1 := hB.trans (hb1.mono hB.size)
  clear SG hb1 hA hB
  cases G with
  | false =>
    have HR : Hid _ := HN.out rfl
    clear HN LI hA1
    go_wp2
    go_ret2
    exact ⟨ret_sbBB HR.out rfl, hB1⟩
  | true =>
    obtain ⟨hlt, q0, q1, q2, q3, q4, q5, q6, q7, q8, q9⟩ := hA1
    clear HN
    go_wp2_with fail
    refine Calls.mono (LI.out (by trivial) _) ?_
    rintro e w2 ⟨rfl, hb2⟩
    have hB2 := hB1.trans (hb2.mono hB1.size)
    clear LI hb2 hB1 q0 q1 q2 q3 q4 q5 q6 q7 q8 q9
    go_wp2
    go_ret2
    exact ⟨rfl, hB2⟩
theorem items_wf {b : Bd} (hs : b.py.size ≤ 1048576) : M11.Wf (B2.items b) := fun j hj => by
  rw [B2.items_len] at hj
  have key : ∀ x ∈ B2.items b, x.text.size ≤ 1048576 ∧ x.many ≤ 9223372036854775807 := by
    intro x hx
    unfold B2.items B2.num at hx
    simp at hx
    rcases hx with rfl | ⟨n, _, rfl⟩ | rfl
    · exact ⟨Nat.zero_le _, by simp⟩
    · exact ⟨Nat.zero_le _, by simp⟩
    · exact ⟨hs, by simp⟩
  rw [M11.at_eq _ _ (by rw [B2.items_len]; exact hj)]
  exact key _ (List.getElem_mem _)
set_option maxHeartbeats 1600000 in
set_option maxRecDepth 100000 in
theorem implBundleBytes_any (b : Bd) (w : World) (hs : b.py.size ≤ 1048576) (hT : Tab w) :
    Calls Tryd.prog 6 #[b.v] w fun e w' => e = .returned (.tuple #[.string (bbR b), .bool (B1.good b)]) ∧ Below w.heap.size w w' := by
  have IG : Hid (∀ W : World, Calls Tryd.prog 25 #[b.v] W fun e w' => e = .returned (.bool (B1.good b)) ∧ Below W.heap.size W w') := fun W => isGood_any b W hs _ rfl
  have PO : Hid _ := fun W => parcelOf_any b W
  have II : Hid _ := fun W => implItems_any b W
  have HN : Hid (B1.good b = false → ⟨#[]⟩ = bbR b) := fun h => bbR_no h
  have IB : Hid (∀ (_ : B1.good b = true) (W : World) (a : Option Addr), M11.ItemsAt W a (B2.items b) → Calls Tryd.prog 26 #[.slice a 11 11] W fun e w' => e = .returned (.tuple #[.string ⟨(M12.bytes (B2.items b)).toArray⟩, .bool true]) ∧ Below W.heap.size W w') := fun h W a hin => by
    have hg := B2.good_items h
    have := implItemsBytes_any a 11 (B2.items b) W (by rw [B2.items_len]; omega) (items_wf hs) hin
    rw [hg] at this
    have e : M12.strR (B2.items b) = ⟨(M12.bytes (B2.items b)).toArray⟩ := by simp [M12.strR, hg]
    rw [e] at this
    exact this
  have IW : Hid (∀ (_ : B1.good b = true) (W : World), Tab W → Calls Tryd.prog 28 #[.string ⟨(M12.bytes (B2.items b)).toArray⟩] W fun e w' => e = .returned (.tuple #[.string (bbR b), .bool true]) ∧ Below W.heap.size W w') := fun h W ht => by
    have hsz := bb_size h
    have := implWith_any (⟨(M12.bytes (B2.items b)).toArray⟩ : ByteArray) W (by unfold maxLen; omega) ht
    rw [← wF_yes (Nat.le_trans hsz (by omega))] at this
    have e : decide ((⟨(M12.bytes (B2.items b)).toArray⟩ : ByteArray).size ≤ 398) = true := by simp only [decide_eq_true_eq]; omega
    rw [e] at this
    rw [← bbR_yes h]
    exact this
  have BX : Hid (∀ W : World, BdAt (W.alloc (.cells #[.int .i64 b.fr, .int .i64 b.to, .bool b.gr, .int .i64 b.md, .int .i64 b.no, .int .i64 b.lf, .int .i64 b.hp, .int .i64 b.of, .int .i64 b.tl, .string b.py] 45)) W.heap.size b) := fun W => BdAt.box W b 45
  have HT : Hid (∀ W : World, Below w.heap.size w W → Tab W) := fun W hb => hT.below hb
  generalize B1.good b = G at *
  generalize bbR b = X at *
  generalize B2.items b = L at *
  generalize (⟨(M12.bytes L).toArray⟩ : ByteArray) = Y at *
  obtain ⟨fr, to, gr, md, no, lf, hp, of, tl, py⟩ := b
  simp only at BX
  clear hs hT
  go_enter Tryd.func6, Tryd.ntmps6
  go_wp2_with fail
  refine Calls.mono (PO.out _) ?_
  rintro e w1 ⟨rfl, hb1⟩
  have hB1 : Below w.heap.size w w1 := ((Below.refl _ w).alloc (Nat.le_refl _) _).trans (hb1.mono (by simp))
  have hA1 := BX.out w1
  have hB1a : Below w.heap.size w _ := hB1.alloc hB1.size (.cells #[.int .i64 fr, .int .i64 to, .bool gr, .int .i64 md, .int .i64 no, .int .i64 lf, .int .i64 hp, .int .i64 of, .int .i64 tl, .string py] 45)
  clear PO hb1 BX
  go_wp2_with fail
  refine Calls.mono (IG.out _) ?_
  rintro e w2 ⟨rfl, hb2⟩
  have hB2 := hB1a.trans (hb2.mono hB1a.size)
  have hA2 := hA1.below hb2 hA1.1
  clear IG hb2 hB1a hA1 hB1
  cases G with
  | false =>
    have HR : Hid _ := HN.out rfl
    clear HN IB IW II hA2 HT
    go_wp2
    go_ret2
    exact ⟨ret_sbBB HR.out rfl, hB2⟩
  | true =>
    obtain ⟨hlt, q0, q1, q2, q3, q4, q5, q6, q7, q8, q9⟩ := hA2
    clear HN
    go_wp2_with fail
    refine Calls.mono (II.out _) ?_
    rintro e w3 ⟨g3, rfl, hin3, hb3⟩
    have hB3 := hB2.trans (hb3.mono hB2.size)
    clear II hb3 hB2 q0 q1 q2 q3 q4 q5 q6 q7 q8 q9
    go_wp2_with fail
    refine Calls.mono (IB.out (by trivial) _ _ hin3) ?_
    rintro e w4 ⟨rfl, hb4⟩
    have hB4 := hB3.trans (hb4.mono hB3.size)
    have hT4 := HT.out _ hB4
    clear IB hb4 hB3 hin3 HT
    go_wp2_with fail
    refine Calls.mono (IW.out (by trivial) _ hT4) ?_
    rintro e w5 ⟨rfl, hb5⟩
    have hB5 := hB4.trans (hb5.mono hB4.size)
    clear IW hb5 hB4 hT4
    go_wp2
    go_ret2
    exact ⟨rfl, hB5⟩
end Go.Proofs.YtcpfbgogfhlmjaaDoor
