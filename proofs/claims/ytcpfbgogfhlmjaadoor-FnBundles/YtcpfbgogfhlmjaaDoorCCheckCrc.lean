import Derived.Test.YtcpfbgogfhlmjaaDoorRows
import Derived.Test.YtcpfbgogfhlmjaaDoorOkN
import Derived.WalkKit
import Derived.WalkSpells
import Derived.WalkLawsBesides
import Derived.Outline
import Derived.Test.YtcpfbgogfhlmjaaDoorCWithBase
/- The specification's l1In tells whether a number lies between two. -/
namespace Go.Proofs.YtcpfbgogfhlmjaaDoor
open Go.RowKit
set_option maxHeartbeats 400000 in
set_option maxRecDepth 100000 in
theorem l1In_any (n lo hi : Int) (w : World) : Calls Tryd.prog 43 #[.int .i64 n, .int .i64 lo, .int .i64 hi] w fun e w' => e = .returned (.bool (inB n lo hi)) ∧ w = w' := by
  by_cases h0 : lo ≤ n
  · by_cases h1 : n ≤ hi
    · go_enter Tryd.func43, Tryd.ntmps43
      go_wp2
      go_ret
      exact ⟨by simp [inB, h0, h1], rfl⟩
    · go_enter Tryd.func43, Tryd.ntmps43
      go_wp2
      go_ret
      exact ⟨by simp [inB]; omega, rfl⟩
  · go_enter Tryd.func43, Tryd.ntmps43
    go_wp2
    go_ret
    exact ⟨by simp [inB]; omega, rfl⟩
end Go.Proofs.YtcpfbgogfhlmjaaDoor

/- The walks of both CheckCrc. -/
namespace Go.Proofs.YtcpfbgogfhlmjaaDoor
open Go.RowKit
/-- All but the last two bytes. -/
def bodyOf (s : ByteArray) : ByteArray := s.extract 0 (s.size - 2)
def chk (s : ByteArray) : Bool := decide (2 ≤ s.size ∧ s.size ≤ 400) && decide (withS (bodyOf s) = s)
def chkS (s : ByteArray) : ByteArray := if chk s = true then bodyOf s else ⟨#[]⟩
theorem chkS_yes {s : ByteArray} (h : chk s = true) : bodyOf s = chkS s := by simp [chkS, h]
theorem chkS_no {s : ByteArray} (h : chk s = false) : ⟨#[]⟩ = chkS s := by simp [chkS, h]
theorem chk_yes {s : ByteArray} (h1 : 2 ≤ s.size) (h2 : s.size ≤ 400) (h3 : withS (bodyOf s) = s) : chk s = true := by simp [chk, h1, h2, h3]
theorem chk_no {s : ByteArray} (h : ¬ (2 ≤ s.size ∧ s.size ≤ 400 ∧ withS (bodyOf s) = s)) : chk s = false := by
  unfold chk
  by_cases h1 : 2 ≤ s.size ∧ s.size ≤ 400
  · have : ¬ withS (bodyOf s) = s := fun e => h ⟨h1.1, h1.2, e⟩
    simp [this]
  · simp only [h1, decide_false, Bool.false_and]
theorem beq_yes {a b : ByteArray} (h : a = b) : (a.toList == b.toList) = true := by rw [h]; simp
theorem beq_no {a b : ByteArray} (h : ¬ a = b) : (a.toList == b.toList) = false := by
  rw [beq_eq_false_iff_ne, ByteArray.toList_eq, ByteArray.toList_eq]
  intro e
  exact h (ByteArray.ext (by rw [← Array.toList_inj]; exact e))
theorem body_size (s : ByteArray) : (bodyOf s).size = s.size - 2 := by simp [bodyOf]
set_option maxHeartbeats 400000 in
set_option maxRecDepth 100000 in
theorem specCheck_any (s : ByteArray) (w : World) (hs0 : s.size ≤ maxLen) :
    Calls Tryd.prog 38 #[.string s] w fun e w' => e = .returned (.tuple #[.string (chkS s), .bool (chk s)]) ∧ Below w.heap.size w w' := by
  have hs := hs0
  unfold maxLen at hs
  by_cases h2 : 2 ≤ s.size
  · by_cases h400 : s.size ≤ 400
    · have hi : inB (s.size : Int) 2 400 = true := by simp [inB]; omega
      by_cases he : withS (bodyOf s) = s
      · have hk : Hid (chk s = true) := chk_yes h2 h400 he
        have hq : ((withS (s.extract 0 (s.size - 2))).toList == s.toList) = true := beq_yes he
        clear he
        go_enter Tryd.func38, Tryd.ntmps38
        go_wp2_with (first
          | (go_at_call 43; refine (l1In_any _ _ _ _).mono ?_; rintro e w' ⟨rfl, rfl⟩))
        refine (l1With_any (s.extract 0 (s.size - 2)) _ (by simp; omega)).mono ?_
        rintro e w1 ⟨rfl, hb1⟩
        go_wp2
        go_ret2
        exact ⟨ret_sbW (chkS_yes hk.out) hk.out.symm, hb1⟩
      · have hk : Hid (chk s = false) := chk_no (fun h => he h.2.2)
        have hq : ((withS (s.extract 0 (s.size - 2))).toList == s.toList) = false := beq_no he
        clear he
        go_enter Tryd.func38, Tryd.ntmps38
        go_wp2_with (first
          | (go_at_call 43; refine (l1In_any _ _ _ _).mono ?_; rintro e w' ⟨rfl, rfl⟩))
        refine (l1With_any (s.extract 0 (s.size - 2)) _ (by simp; omega)).mono ?_
        rintro e w1 ⟨rfl, hb1⟩
        go_wp2
        go_ret2
        exact ⟨ret_sbW (chkS_no hk.out) hk.out.symm, hb1⟩
    · have hi : inB (s.size : Int) 2 400 = false := by simp [inB]; omega
      have hk : Hid (chk s = false) := chk_no (fun h => h400 h.2.1)
      go_enter Tryd.func38, Tryd.ntmps38
      go_wp2_with (first
        | (go_at_call 43; refine (l1In_any _ _ _ _).mono ?_; rintro e w' ⟨rfl, rfl⟩))
      go_ret2
      exact ⟨ret_sbW (chkS_no hk.out) hk.out.symm, Below.refl _ _⟩
  · have hi : inB (s.size : Int) 2 400 = false := by simp [inB]; omega
    have hk : Hid (chk s = false) := chk_no (fun h => h2 h.1)
    go_enter Tryd.func38, Tryd.ntmps38
    go_wp2_with (first
      | (go_at_call 43; refine (l1In_any _ _ _ _).mono ?_; rintro e w' ⟨rfl, rfl⟩))
    go_ret2
    exact ⟨ret_sbW (chkS_no hk.out) hk.out.symm, Below.refl _ _⟩
theorem bytes_below (w : World) (e : TypeId) (s : ByteArray) : Below w.heap.size w (Lib.bytesWorld w e s) :=
  ⟨rfl, rfl, rfl, by rw [Lib.bytesWorld_size]; omega, fun k hk => Lib.bytesWorld_at_old w e s k hk⟩
theorem back {P : Program} (src dst e : TypeId) (hs : P.underlying src = some (.slice e)) (he : P.underlying e = some (.int .u8)) (hd : P.underlying dst = some .string) (s : ByteArray) (W : World) :
    (convert src dst (.slice (some ⟨W.heap.size, 0, none⟩) s.size (grownCap W s.size 0 e))).run P (Lib.bytesWorld W e s) = .ok (.string s) (Lib.bytesWorld W e s) := by
  have := run_convert_bytes_arg (P := P) (Lib.bytesWorld W e s) src e hs he W.heap.size 0 s.size (grownCap W s.size 0 e) (s.data.toList.map fun b => (b.toNat : Int)) (by simp) (fun i hi => by
    rw [Nat.zero_add, Lib.bytesWorld_cell W e s i hi]
    have hi' : i < s.data.toList.length := by simpa using hi
    simp [List.getD_eq_getElem?_getD, List.getElem?_eq_getElem hi']) dst hd
  rw [this]
  congr 2
  apply ByteArray.ext
  have h : (s.data.toList.map fun b => (b.toNat : Int)).map (fun n => UInt8.ofNat n.toNat) = s.data.toList := by
    rw [List.map_map]; exact (List.map_congr_left (fun b _ => by simp)).trans (List.map_id _)
  show ((s.data.toList.map fun b => (b.toNat : Int)).map (fun n => UInt8.ofNat n.toNat)).toArray = _
  rw [h]
set_option maxHeartbeats 800000 in
set_option maxRecDepth 100000 in
theorem implCheck_any (s : ByteArray) (w : World) (hs0 : s.size ≤ maxLen) (ht : Tab w) :
    Calls Tryd.prog 31 #[.string s] w fun e w' => e = .returned (.tuple #[.string (chkS s), .bool (chk s)]) ∧ Below w.heap.size w w' := by
  have hs := hs0
  unfold maxLen at hs
  by_cases h2 : 2 ≤ s.size
  · have hbs : (s.extract 0 (s.size - 2)).size ≤ maxLen := by unfold maxLen; simp; omega
    have hW := implWith_any (s.extract 0 (s.size - 2)) w hbs ht
    have hsz : (s.extract 0 (s.size - 2)).size = s.size - 2 := body_size s
    by_cases h400 : s.size ≤ 400
    · rw [← wF_yes (by omega), show decide ((s.extract 0 (s.size - 2)).size ≤ 398) = true from by simp only [decide_eq_true_eq]; omega] at hW
      have HW : Hid (Calls _ _ _ _ _) := hW
      clear hW hbs hsz
      by_cases he : withS (bodyOf s) = s
      · have hk : Hid (chk s = true) := chk_yes h2 h400 he
        have hq : ((withS (s.extract 0 (s.size - 2))).toList == s.toList) = true := beq_yes he
        have hB : Hid (s.extract 0 (s.size - 2) = bodyOf s) := rfl
        have c1 : ∀ W : World, (convert 9 22 (.string (s.extract 0 (s.size - 2)))).run Tryd.prog W = .ok (.slice (some ⟨W.heap.size, 0, none⟩) (s.extract 0 (s.size - 2)).size (grownCap W (s.extract 0 (s.size - 2)).size 0 5)) (Lib.bytesWorld W 5 (s.extract 0 (s.size - 2))) := fun W =>
          Lib.run_convert_string_bytes W 9 22 5 _ Tryd.underlying9 Tryd.underlying22 Tryd.underlying5
        have c2 : ∀ W : World, (convert 22 9 (.slice (some ⟨W.heap.size, 0, none⟩) (s.size - 2) (grownCap W (s.size - 2) 0 5))).run Tryd.prog (Lib.bytesWorld W 5 (s.extract 0 (s.size - 2))) = .ok (.string (s.extract 0 (s.size - 2))) (Lib.bytesWorld W 5 (s.extract 0 (s.size - 2))) := fun W => by
          have := back (P := Tryd.prog) 22 9 5 Tryd.underlying22 Tryd.underlying5 Tryd.underlying9 (s.extract 0 (s.size - 2)) W
          rw [show (s.extract 0 (s.size - 2)).size = s.size - 2 from body_size s] at this
          exact this
        clear he
        go_enter Tryd.func31, Tryd.ntmps31
        go_wp2_with fail
        refine (HW.out).mono ?_
        rintro e w1 ⟨rfl, hb1⟩
        go_wp2
        go_ret2
        exact ⟨ret_sbW (chkS_yes hk.out) hk.out.symm, hb1.trans ((bytes_below _ _ _).mono hb1.size)⟩
      · have hk : Hid (chk s = false) := chk_no (fun h => he h.2.2)
        have hq : ((withS (s.extract 0 (s.size - 2))).toList == s.toList) = false := beq_no he
        clear he
        go_enter Tryd.func31, Tryd.ntmps31
        go_wp2_with fail
        refine (HW.out).mono ?_
        rintro e w1 ⟨rfl, hb1⟩
        go_wp2
        go_ret2
        exact ⟨ret_sbW (chkS_no hk.out) hk.out.symm, hb1⟩
    · rw [show decide ((s.extract 0 (s.size - 2)).size ≤ 398) = false from by simp only [decide_eq_false_iff_not]; omega] at hW
      have HW : Hid (Calls _ _ _ _ _) := hW
      have hk : Hid (chk s = false) := chk_no (fun h => h400 h.2.1)
      clear hW hbs hsz
      go_enter Tryd.func31, Tryd.ntmps31
      go_wp2_with fail
      refine (HW.out).mono ?_
      rintro e w1 ⟨rfl, hb1⟩
      go_wp2
      go_ret2
      exact ⟨ret_sbW (chkS_no hk.out) hk.out.symm, hb1⟩
  · have hk : Hid (chk s = false) := chk_no (fun h => h2 h.1)
    go_enter Tryd.func31, Tryd.ntmps31
    go_wp2
    go_ret2
    exact ⟨ret_sbW (chkS_no hk.out) hk.out.symm, Below.refl _ _⟩
end Go.Proofs.YtcpfbgogfhlmjaaDoor
