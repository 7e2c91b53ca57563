/- The walks of impl.SdnvList and of the specification's SdnvList, and of the law FnExactSdnvList. -/
import Derived.Test.YtapojeehidhhnapW3
import Derived.Test.YtapojeehidhhnapW6
namespace Go.Proofs.Ytapojeehidhhnap
open Go.RowKit
/-- The bytes of a row of numbers. -/
def sl (zs : List Int) : List UInt8 := zs.flatMap fun z => M1.sdnv z.toNat
def slOk (zs : List Int) : Bool := zs.all okN && decide (zs.length ≤ 40)
def slStr (zs : List Int) : ByteArray := if slOk zs = true then ⟨(sl zs).toArray⟩ else ⟨#[]⟩
theorem sl_snoc (zs : List Int) (k : Nat) (h : k < zs.length) : sl (zs.take (k + 1)) = sl (zs.take k) ++ M1.sdnv (zs.getD k 0).toNat := by
  rw [M4.take_snoc zs k h]; simp [sl]
theorem slOk_no (zs : List Int) (h : slOk zs = false) : slStr zs = ⟨#[]⟩ := by simp [slStr, h]
theorem slOk_yes (zs : List Int) (h : slOk zs = true) : slStr zs = ⟨(sl zs).toArray⟩ := by simp [slStr, h]
theorem slOk_at (zs : List Int) (k : Nat) (h : k < zs.length) (hz : okN (zs.getD k 0) = false) : slOk zs = false := by
  have : zs.all okN = false := by
    rw [List.all_eq_false]
    exact ⟨zs[k], List.getElem_mem h, by simpa [List.getD_eq_getElem?_getD, List.getElem?_eq_getElem h] using hz⟩
  simp [slOk, this]
theorem slOk_long (zs : List Int) (h : 40 < zs.length) : slOk zs = false := by simp [slOk]; omega
theorem all_snoc (zs : List Int) (k : Nat) (h : k < zs.length) (h1 : (zs.take k).all okN = true) (hz : okN (zs.getD k 0) = true) : (zs.take (k + 1)).all okN = true := by
  rw [M4.take_snoc zs k h, List.all_append, h1]; simp only [List.all_cons, hz]; rfl
theorem slOk_all (zs : List Int) (h : zs.length ≤ 40) (h1 : (zs.take zs.length).all okN = true) : slOk zs = true := by
  rw [List.take_length] at h1; simp [slOk, h1, h]
theorem ret_sb {s t : ByteArray} {a b : Bool} (h1 : s = t) (h2 : a = b) : Ending.returned (.tuple #[.string s, .bool a]) = .returned (.tuple #[.string t, .bool b]) := by rw [h1, h2]
set_option maxHeartbeats 800000 in
set_option maxRecDepth 100000 in
theorem specSdnvList_any (a : Option Addr) (cap : Nat) (zs : List Int) (w : World) (hz : zs.length ≤ 1048576) (hin : M4.IntsAt w a zs) :
    Calls Try.prog 13 #[.slice a zs.length cap] w fun e w' => e = .returned (.tuple #[.string (slStr zs), .bool (slOk zs)]) ∧ Below w.heap.size w w' := by
  go_enter Try.func13, Try.ntmps13
  go_wp2
  go_loopw [4, 6, 9] (fun sv nv iv wr => ∃ (k : Nat) (l : List UInt8), sv = .string ⟨l.toArray⟩ ∧ iv = .int .i64 k ∧ k ≤ zs.length ∧ l.length ≤ 5 * k ∧ Hid (l = sl (zs.take k)) ∧ Hid ((zs.take k).all okN = true) ∧ Below w.heap.size w wr) (fun _ _ iv _ => (zs.length - intOf iv).toNat)
  case atStart => exact ⟨0, [], rfl, rfl, by omega, by simp, rfl, rfl, Below.refl _ _⟩
  case round =>
    obtain ⟨k, l, rfl, rfl, hk, hl5, HL, HA, hb⟩ := hrel
    by_cases hl : k < zs.length
    · obtain ⟨b, off, rfl, hlt, hc⟩ := (hin.below hb).at hl
      have hbs := hb.size
      obtain ⟨z, hz'⟩ : ∃ z, z = zs.getD k 0 := ⟨_, rfl⟩
      rw [← hz'] at hc
      have HZ : Hid (z = zs.getD k 0) := hz'
      clear hz'
      by_cases h : 0 ≤ z ∧ z ≤ 1000000000
      · obtain ⟨h1, _⟩ := okN_yes h
        have HA' : Hid ((zs.take (k + 1)).all okN = true) := all_snoc zs k hl HA.out (by rw [← HZ.out]; exact h1)
        have HL' : Hid (l ++ M1.sdnv z.toNat = sl (zs.take (k + 1))) := by
          show _ = _
          rw [sl_snoc zs k hl, HL.out, HZ.out]
        obtain ⟨m, rfl⟩ := Int.eq_ofNat_of_zero_le h.1
        have hm : m ≤ 1000000000 := by omega
        have hlen := M1.sdnv_len m hm
        rw [Int.toNat_natCast] at HL'
        clear h
        go_wp2_with (first
          | (go_at_call 18; refine (l1Value_any _ _).mono ?_; rintro e w' ⟨rfl, rfl⟩)
          | (go_at_call 19; refine (l1Sdnv_any m _ hm).mono ?_; rintro e w1 ⟨rfl, hb1⟩))
        go_roundw
        case rel => exact ⟨k + 1, l ++ M1.sdnv m, congrArg Value.string (M1.bs_app _ _), by go_num, by omega, by simp; omega, HL', HA', hb.trans (hb1.mono hb.size)⟩
        case measure => simp [intOf]; omega
      · obtain ⟨h1, _⟩ := okN_no h
        have hF : Hid (slOk zs = false) := slOk_at zs k hl (by rw [← HZ.out]; exact h1)
        clear h
        go_wp2_with (first
          | (go_at_call 18; refine (l1Value_any _ _).mono ?_; rintro e w' ⟨rfl, rfl⟩))
        go_ret2
        exact ⟨ret_sb (slOk_no _ hF.out).symm hF.out.symm, hb⟩
    · obtain rfl : k = zs.length := by omega
      have HS : Hid (l = sl zs) := by have := HL.out; rw [List.take_length] at this; exact this
      by_cases h40 : zs.length ≤ 40
      · have hF : Hid (slOk zs = true) := slOk_all zs h40 HA.out
        go_wp2
        go_ret2
        exact ⟨ret_sb (by rw [slOk_yes _ hF.out, HS.out]) hF.out.symm, hb⟩
      · have hF : Hid (slOk zs = false) := slOk_long zs (by omega)
        go_wp2
        go_ret2
        exact ⟨ret_sb (slOk_no _ hF.out).symm hF.out.symm, hb⟩
set_option maxHeartbeats 800000 in
set_option maxRecDepth 100000 in
theorem implSdnvList_any (a : Option Addr) (cap : Nat) (zs : List Int) (w : World) (hz : zs.length ≤ 1048576) (hin : M4.IntsAt w a zs) :
    Calls Try.prog 15 #[.slice a zs.length cap] w fun e w' => e = .returned (.tuple #[.string (slStr zs), .bool (slOk zs)]) ∧ Below w.heap.size w w' := by
  by_cases h40 : zs.length ≤ 40
  · go_enter Try.func15, Try.ntmps15
    go_wp2
    go_loopw [4, 6, 12] (fun sv nv iv wr => ∃ (k : Nat) (l : List UInt8), wr.ownsRow w.heap.size 5 1 sv l.length (M2.bv l) ∧ iv = .int .i64 k ∧ k ≤ zs.length ∧ l.length ≤ 5 * k ∧ Hid (l = sl (zs.take k)) ∧ Hid ((zs.take k).all okN = true) ∧ Below w.heap.size w wr) (fun _ _ iv _ => (zs.length - intOf iv).toNat)
    case atStart => exact ⟨0, [], World.ownsRow_nil _ _ _ _, rfl, by omega, by simp, rfl, rfl, Below.refl _ _⟩
    case round =>
      obtain ⟨k, l, hown, rfl, hk, hl5, HL, HA, hb⟩ := hrel
      by_cases hl : k < zs.length
      · obtain ⟨b, off, rfl, hlt, hc⟩ := (hin.below hb).at hl
        have hbs := hb.size
        obtain ⟨z, hz'⟩ : ∃ z, z = zs.getD k 0 := ⟨_, rfl⟩
        rw [← hz'] at hc
        have HZ : Hid (z = zs.getD k 0) := hz'
        clear hz'
        by_cases h : 0 ≤ z ∧ z ≤ 1000000000
        · have h1 := (okN_yes h).1
          have HA' : Hid ((zs.take (k + 1)).all okN = true) := all_snoc zs k hl HA.out (by rw [← HZ.out]; exact h1)
          have HL' : Hid (l ++ M1.sdnv z.toNat = sl (zs.take (k + 1))) := by
            show _ = _
            rw [sl_snoc zs k hl, HL.out, HZ.out]
          obtain ⟨m, rfl⟩ := Int.eq_ofNat_of_zero_le h.1
          have hm : m ≤ 1000000000 := by omega
          have hlen := M1.sdnv_len m hm
          rw [Int.toNat_natCast] at HL'
          clear h
          go_wp2_with (first
            | (go_at_call 20; refine (isNumber_any _ _).mono ?_; rintro e w' ⟨rfl, rfl⟩)
            | (go_at_call 21; refine (appendSdnv_any m w.heap.size _ l _ hm (by omega) hbs hown).mono ?_; rintro e w1 ⟨v1, rfl, hown1, hb1⟩))
          go_roundw
          case rel => exact ⟨k + 1, l ++ M1.sdnv m, hown1, by go_num, by omega, by simp; omega, HL', HA', hb.trans hb1⟩
          case measure => simp [intOf]; omega
        · have h1 := (okN_no h).1
          have hF : Hid (slOk zs = false) := slOk_at zs k hl (by rw [← HZ.out]; exact h1)
          clear h
          go_wp2_with (first
            | (go_at_call 20; refine (isNumber_any _ _).mono ?_; rintro e w' ⟨rfl, rfl⟩))
          go_ret2
          exact ⟨ret_sb (slOk_no _ hF.out).symm hF.out.symm, hb⟩
      · obtain rfl : k = zs.length := by omega
        have HS : Hid (l = sl zs) := by have := HL.out; rw [List.take_length] at this; exact this
        have hF : Hid (slOk zs = true) := slOk_all zs h40 HA.out
        have hcv := M2.conv_own (P := Try.prog) 39 9 5 Try.underlying39 Try.underlying5 Try.underlying9 hown
        go_wp2
        go_ret2
        exact ⟨ret_sb (by rw [slOk_yes _ hF.out, HS.out]) hF.out.symm, hb⟩
  · have hF : Hid (slOk zs = false) := slOk_long zs (by omega)
    go_enter Try.func15, Try.ntmps15
    go_wp2
    go_ret2
    exact ⟨ret_sb (slOk_no _ hF.out).symm hF.out.symm, Below.refl _ _⟩
set_option maxHeartbeats 800000 in
set_option maxRecDepth 100000 in
theorem lawSdnvList_any (a : Option Addr) (len cap : Nat) (zs : List Int) (w : World) (hl : len ≤ maxLen) (hz : zs.length = len) (hin : M4.IntsAt w a zs) :
    Calls Try.prog 6 #[.slice a len cap] w fun e w' => e = .returned (.bool true) ∧ Below w.heap.size w w' := by
  subst hz
  unfold maxLen at hl
  by_cases h1 : zs.length ≤ 1048576
  · go_enter Try.func6, Try.ntmps6
    go_wp2_with fail
    refine (toIntS_any a cap zs _ h1 hin).mono ?_
    rintro e w1 ⟨rfl, hin1, hb1⟩
    go_wp2_with fail
    refine (specSdnvList_any _ _ zs _ h1 hin1).mono ?_
    rintro e w2 ⟨rfl, hb2⟩
    have hB2 := hb1.trans (hb2.mono hb1.size)
    clear hb1 hb2 hin1
    go_wp2_with fail
    refine (toIntS_any a cap zs _ h1 (hin.below hB2)).mono ?_
    rintro e w3 ⟨rfl, hin3, hb3⟩
    have hB3 := hB2.trans (hb3.mono hB2.size)
    clear hb3
    go_wp2_with fail
    refine (implSdnvList_any _ _ zs _ h1 hin3).mono ?_
    rintro e w4 ⟨rfl, hb4⟩
    have hin4 := hin3.below hb4
    have hB4 := hB3.trans (hb4.mono hB3.size)
    clear hb4 hin3 hB2 hB3
    go_wp2_with fail
    refine (toIntS_any a cap zs _ h1 (hin.below hB4)).mono ?_
    rintro e w5 ⟨rfl, hin5, hb5⟩
    have hin45 := hin4.below hb5
    have hB5 := hB4.trans (hb5.mono hB4.size)
    clear hb5 hin4 hB4
    go_wp2_with fail
    refine (eqIntS_any _ _ _ _ zs zs _ (by omega) (by omega) hin45 hin5).mono ?_
    rintro e w6 ⟨rfl, hb6⟩
    have hB6 := hB5.trans (hb6.mono hB5.size)
    go_wp2
    go_ret
    exact ⟨rfl, hB6⟩
  · go_enter Try.func6, Try.ntmps6
    go_wp2
    go_ret
    exact ⟨rfl, Below.refl _ _⟩
end Go.Proofs.Ytapojeehidhhnap
