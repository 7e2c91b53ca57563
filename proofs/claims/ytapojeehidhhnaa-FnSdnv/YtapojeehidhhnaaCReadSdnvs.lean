/- The walks of impl.ReadSdnvs and of the specification's ReadSdnvs at every text: what each answers, in memory of its own. -/
import Derived.Test.YtapojeehidhhnaaCL1Take
import Derived.Test.YtapojeehidhhnaaCImplTake
import Derived.Test.YtapojeehidhhnaaM5
namespace Go.Proofs.Ytapojeehidhhnaa
open Go.RowKit
theorem Try.info3 : (Try.prog.info? 3).map (fun i => (i.zero, i.size, i.bytes)) = some (some (.int .i64 0), 1, 8) := by kernel_rfl
theorem retL {a : Option Addr} {cap n : Nat} {r : M5.L} {zs : List Int} {b : Bool} (h : (zs, b) = r) (hn : zs.length = n) : Ending.returned (.tuple #[.slice a n cap, .bool b]) = .returned (.tuple #[.slice a r.1.length cap, .bool r.2]) := by rw [← h, ← hn]
/-- What the call leaves: a row of its own. -/
def Left (w w' : World) (r : M5.L) (e : Ending) : Prop := ∃ a cap, e = .returned (.tuple #[.slice a r.1.length cap, .bool r.2]) ∧ w'.ownsRow w.heap.size 3 1 (.slice a r.1.length cap) r.1.length (M4.iv r.1) ∧ Below w.heap.size w w'
theorem left_no {w w' : World} {r : M5.L} (h : ([], false) = r) (hb : Below w.heap.size w w') : Left w w' r (.returned (.tuple #[.slice none 0 0, .bool false])) := by
  subst h; exact ⟨none, 0, rfl, World.ownsRow_nil _ _ _ _, hb⟩
theorem left_yes {w w' : World} {r : M5.L} {v : Value} {zs : List Int} (h : (zs, true) = r) (hown : w'.ownsRow w.heap.size 3 1 v zs.length (M4.iv zs)) (hb : Below w.heap.size w w') : Left w w' r (.returned (.tuple #[v, .bool true])) := by
  subst h
  obtain ⟨a, cap, rfl, _⟩ := M5.own_view hown
  exact ⟨a, cap, rfl, hown, hb⟩
theorem own_len {w : World} {base e : Nat} {v : Value} {zs : List Int} (h : w.ownsRow base e 1 v zs.length (M4.iv zs)) : ∃ a cap, v = .slice a zs.length cap := by
  obtain ⟨a, cap, h1, _⟩ := M5.own_view h; exact ⟨a, cap, h1⟩
set_option maxHeartbeats 1600000 in
set_option maxRecDepth 100000 in
theorem specRead_any (s : ByteArray) (w : World) (hs : s.size ≤ maxLen) :
    Calls Try.prog 12 #[.string s] w fun e w' => Left w w' (M5.readF s) e := by
  unfold maxLen at hs
  obtain ⟨i0, hi, hz0, hz1, hz2⟩ := info_parts Try.info3
  by_cases h400 : s.size ≤ 400
  · have HR0 : Hid (M5.rdS s s.size 0 [] = M5.readF s) := by show _ = _; unfold M5.readF; rw [if_pos h400]
    generalize M5.readF s = r at *
    go_enter Try.func12, Try.ntmps12
    go_wp2
    go_loopw [4, 5, 6, 7, 8] (fun v av nv ev kv wr => ∃ (f k : Nat) (acc : List Int), av = .int .i64 k ∧ k ≤ s.size ∧ s.size ≤ k + f ∧ acc.length ≤ k ∧ Hid (M5.rdS s f k acc = r) ∧ wr.ownsRow w.heap.size 3 1 v acc.length (M4.iv acc) ∧ Below w.heap.size w wr) (fun _ av _ _ _ _ => (s.size - intOf av).toNat)
    case atStart => exact ⟨s.size, 0, [], rfl, by omega, by omega, by simp, HR0, World.ownsRow_nil _ _ _ _, Below.refl _ _⟩
    case round =>
      obtain ⟨f, k, acc, rfl, hk, hf, hacc, HR, hown, hb⟩ := hrel
      have hbs := hb.size
      by_cases hl : k < s.size
      · obtain ⟨f, rfl⟩ : ∃ f', f = f' + 1 := ⟨f - 1, by omega⟩
        have HT : Hid (M3.tkS (M3.gb s) s.size k k 0 = M5.tk s k) := rfl
        have hR1 := HR.out
        rw [M5.rdS, if_pos hl] at hR1
        have hend : Hid ((M5.tk s k).2.2 = true → k < (M5.tk s k).2.1 ∧ (M5.tk s k).2.1 ≤ s.size) := M5.tkS_end _ _ _ _ _
        have hle : (M5.tk s k).1 ≤ 1000000000 := M5.tkS_le _ _ _ _ _
        generalize M5.tk s k = T at *
        obtain ⟨t1, t2, t3⟩ := T
        cases t3 with
        | false =>
          have hR2 : Hid (([], false) = r) := by show _ = _; simpa using hR1
          clear hR1 HR hend hown
          go_wp2_with (go_at_call 20; refine (l1Take_in s k _ h400 hl _ HT).mono ?_; rintro e w' ⟨rfl, rfl⟩)
          go_ret2
          exact left_no hR2.out hb
        | true =>
          have hR2 : Hid (M5.rdS s f t2 (acc ++ [(t1 : Int)]) = r) := by show _ = _; simpa using hR1
          obtain ⟨e1, e2⟩ := hend.out rfl
          simp only at e1 e2 hle
          clear hR1 HR hend
          go_wp2_with (first
            | (go_at_call 20; refine (l1Take_in s k _ h400 hl _ HT).mono ?_; rintro e w' ⟨rfl, rfl⟩)
            | (at_builtin; refine wpList_append_own _ rfl _ _ 23 rfl w.heap.size 3 i0 (.int .i64 0) 1 8 Try.underlying23 hi hz0 hz1 hz2 rfl (by decide) _ _ _ rfl (hown.alloc _) ⟨wr.heap.size, 0, none⟩ 1 1 [.int .i64 (t1 : Int)] rfl rfl ?c1 ?c2 ?c3 ?c4 ?c5 ?_))
          case c1 => exact M2.new1 _ _ _
          case c2 => exact M2.one1 _ _
          case c3 => unfold maxLen; omega
          case c4 => omega
          case c5 => simp; omega
          intro v' w1 hown1 hgrow _
          have R := M5.growI hown hb (by omega) (by exact hown1) hgrow
          have R1 := R.1
          have R2 := R.2
          clear hown1 hgrow hown R
          go_wp2
          go_roundw
          case rel => exact ⟨f, t2, acc ++ [(t1 : Int)], rfl, e2, by omega, by simp; omega, hR2, R1, R2⟩
          case measure => simp [intOf]; omega
      · have hR1 : M5.fin acc = r := by
          have := HR.out
          cases f with
          | zero => simpa [M5.rdS] using this
          | succ f => rw [M5.rdS, if_neg hl] at this; exact this
        unfold M5.fin at hR1
        obtain ⟨av, cap, hv⟩ := own_len hown
        by_cases h40 : acc.length ≤ 40
        · have hR2 : Hid ((acc, true) = r) := by rw [if_pos h40] at hR1; exact hR1
          clear hR1 HR
          rw [hv] at hown ⊢
          go_wp2
          go_ret2
          exact left_yes hR2.out hown hb
        · have hR2 : Hid (([], false) = r) := by rw [if_neg h40] at hR1; exact hR1
          clear hR1 HR
          rw [hv] at hown ⊢
          go_wp2
          go_ret2
          exact left_no hR2.out hb
  · have HR : Hid (([], false) = M5.readF s) := by show _ = _; unfold M5.readF; rw [if_neg h400]
    generalize M5.readF s = r at *
    go_enter Try.func12, Try.ntmps12
    go_wp2
    go_ret2
    exact left_no HR.out (Below.refl _ _)
set_option maxHeartbeats 1600000 in
set_option maxRecDepth 100000 in
theorem implRead_any (s : ByteArray) (w : World) (hs0 : s.size ≤ maxLen) :
    Calls Try.prog 7 #[.string s] w fun e w' => Left w w' (M5.readF s) e := by
  have hs := hs0
  unfold maxLen at hs
  obtain ⟨i0, hi, hz0, hz1, hz2⟩ := info_parts Try.info3
  by_cases h400 : s.size ≤ 400
  · have HR0 : Hid (M5.rdI s s.size 0 [] = M5.readF s) := by show _ = _; unfold M5.readF; rw [if_pos h400, M5.rd_same _ _ _ _ (by simp)]
    generalize M5.readF s = r at *
    go_enter Try.func7, Try.ntmps7
    go_wp2
    go_loopw [4, 5, 6, 7, 8] (fun v av nv ev kv wr => ∃ (f k : Nat) (acc : List Int), av = .int .i64 k ∧ k ≤ s.size ∧ s.size ≤ k + f ∧ acc.length ≤ 40 ∧ Hid (M5.rdI s f k acc = r) ∧ wr.ownsRow w.heap.size 3 1 v acc.length (M4.iv acc) ∧ Below w.heap.size w wr) (fun _ av _ _ _ _ => (s.size - intOf av).toNat)
    case atStart => exact ⟨s.size, 0, [], rfl, by omega, by omega, by simp, HR0, World.ownsRow_nil _ _ _ _, Below.refl _ _⟩
    case round =>
      obtain ⟨f, k, acc, rfl, hk, hf, hacc, HR, hown, hb⟩ := hrel
      have hbs := hb.size
      obtain ⟨av, cap, hv⟩ := own_len hown
      rw [hv] at hown ⊢
      clear hv
      by_cases hl : k < s.size
      · obtain ⟨f, rfl⟩ : ∃ f', f = f' + 1 := ⟨f - 1, by omega⟩
        have HT : Hid (M3.takeF s (k : Int) = M5.tk s k) := takeF_yes h400 hl
        have hR1 := HR.out
        rw [M5.rdI, if_pos hl] at hR1
        have hend : Hid ((M5.tk s k).2.2 = true → k < (M5.tk s k).2.1 ∧ (M5.tk s k).2.1 ≤ s.size) := M5.tkS_end _ _ _ _ _
        have hle : (M5.tk s k).1 ≤ 1000000000 := M5.tkS_le _ _ _ _ _
        have hC : ∀ wx, Calls Try.prog 10 #[.string s, .int .i64 (k : Int)] wx fun e w' => e = .returned (tk3 (M5.tk s k)) ∧ wx = w' := fun wx => by
          rw [← HT.out]; exact implTake_any s k wx hs0
        have HC : Hid _ := hC
        clear hC
        generalize M5.tk s k = T at *
        obtain ⟨t1, t2, t3⟩ := T
        cases t3 with
        | false =>
          have hR2 : Hid (([], false) = r) := by show _ = _; simpa using hR1
          clear hR1 HR hend hown
          go_wp2_with (go_at_call 10; refine (HC.out _).mono ?_; rintro e w' ⟨rfl, rfl⟩)
          go_ret2
          exact left_no hR2.out hb
        | true =>
          by_cases h40 : acc.length = 40
          · have hR2 : Hid (([], false) = r) := by show _ = _; simpa [h40] using hR1
            have hb40 : ((acc.length : Int) == 40) = true := by simp; omega
            have HL : Hid (acc.length = 40) := h40
            clear hR1 HR hend h40
            go_wp2_with (go_at_call 10; refine (HC.out _).mono ?_; rintro e w' ⟨rfl, rfl⟩)
            go_ret2
            exact left_no hR2.out hb
          · have hR2 : Hid (M5.rdI s f t2 (acc ++ [(t1 : Int)]) = r) := by show _ = _; simpa [h40] using hR1
            have hb40 : ((acc.length : Int) == 40) = false := by simp; omega
            have hlt40 : acc.length < 40 := by omega
            obtain ⟨e1, e2⟩ := hend.out rfl
            simp only at e1 e2 hle
            clear hR1 HR hend h40
            go_wp2_with (first
              | (go_at_call 10; refine (HC.out _).mono ?_; rintro e w' ⟨rfl, rfl⟩)
              | (at_builtin; refine wpList_append_own _ rfl _ _ 23 rfl w.heap.size 3 i0 (.int .i64 0) 1 8 Try.underlying23 hi hz0 hz1 hz2 rfl (by decide) _ _ _ rfl (hown.alloc _) ⟨wr.heap.size, 0, none⟩ 1 1 [.int .i64 (t1 : Int)] rfl rfl ?c1 ?c2 ?c3 ?c4 ?c5 ?_))
            case c1 => exact M2.new1 _ _ _
            case c2 => exact M2.one1 _ _
            case c3 => unfold maxLen; omega
            case c4 => omega
            case c5 => simp; omega
            intro v' w1 hown1 hgrow _
            have R := M5.growI hown hb (by omega) (by exact hown1) hgrow
            have R1 := R.1
            have R2 := R.2
            clear hown1 hgrow hown R
            go_wp2
            go_roundw
            case rel => exact ⟨f, t2, acc ++ [(t1 : Int)], rfl, e2, by omega, by simp; omega, hR2, R1, R2⟩
            case measure => simp [intOf]; omega
      · have hR1 : (acc, true) = r := by
          have := HR.out
          cases f with
          | zero => simpa [M5.rdI] using this
          | succ f => rw [M5.rdI, if_neg hl] at this; exact this
        have hR2 : Hid ((acc, true) = r) := hR1
        clear hR1 HR
        go_wp2
        go_ret2
        exact left_yes hR2.out hown hb
  · have HR : Hid (([], false) = M5.readF s) := by show _ = _; unfold M5.readF; rw [if_neg h400]
    generalize M5.readF s = r at *
    go_enter Try.func7, Try.ntmps7
    go_wp2
    go_ret2
    exact left_no HR.out (Below.refl _ _)
end Go.Proofs.Ytapojeehidhhnaa
