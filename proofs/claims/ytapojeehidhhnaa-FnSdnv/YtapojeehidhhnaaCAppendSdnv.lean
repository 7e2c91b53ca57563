/- impl.appendSdnv adds the bytes of a number in sevens to a row of bytes that its caller owns. -/
import Derived.Test.YtapojeehidhhnaaRows
import Derived.Test.YtapojeehidhhnaaM2
import Derived.WalkKit
import Derived.WalkSpells
import Derived.WalkLawsBesides
import Derived.Outline
namespace Go.Proofs.Ytapojeehidhhnaa
open Go.RowKit
theorem Try.info5 : (Try.prog.info? 5).map (fun i => (i.zero, i.size, i.bytes)) = some (some (.int .u8 0), 1, 1) := by kernel_rfl
set_option maxHeartbeats 400000 in
set_option maxRecDepth 100000 in
theorem appendSdnv_any (n : Nat) (base : Nat) (v : Value) (bs : List UInt8) (w : World) (hn : n ≤ 1000000000) (hbs : bs.length ≤ 1000) (hbase : base ≤ w.heap.size) (hown : w.ownsRow base 5 1 v bs.length (M2.bv bs)) :
    Calls Try.prog 15 #[v, .int .i64 n] w fun e w' => ∃ v', e = .returned v' ∧ w'.ownsRow base 5 1 v' (bs ++ M1.sdnv n).length (M2.bv (bs ++ M1.sdnv n)) ∧ Below base w w' := by
  obtain ⟨i0, hi, hz0, hz1, hz2⟩ := info_parts Try.info5
  go_enter Try.func15, Try.ntmps15
  go_wp2
  go_loop [5] (fun s => ∃ j : Nat, s = .int .i64 (7 * j : Nat) ∧ j ≤ 4 ∧ Hid (∀ i, 1 ≤ i → i ≤ j → n / 2 ^ (7 * i) ≠ 0)) (fun s => (40 - intOf s).toNat)
  case atStart => exact ⟨0, rfl, by omega, show Hid _ from fun i h1 h2 => by omega⟩
  case round =>
    obtain ⟨j, rfl, hj, hH⟩ := hrel
    have hq := M1.div_cast n (7 * j)
    have hqs := M1.div_succ n j
    have hql := M1.div_le n (7 * j) hn
    have hq4 : j = 4 → n / 2 ^ (7 * j) < 128 := fun h => by subst h; omega
    generalize hqq : n / 2 ^ (7 * j) = q at *
    have HQ : Hid (n / 2 ^ (7 * j) = q) := hqq
    have HS : Hid (n / 2 ^ (7 * (j + 1)) = q / 128) := hqs
    clear hqq hqs
    by_cases hc : 128 ≤ q
    · have hj4 : j < 4 := by omega
      clear hq4
      go_wp2
      go_round
      case rel => exact ⟨j + 1, by go_num, by omega, show Hid _ from fun i h1 h2 => by
        by_cases hi : i = j + 1
        · subst hi; rw [HS.out]; omega
        · exact hH.out i h1 (by omega)⟩
      case measure => simp [intOf]; omega
    · clear hq4
      go_wp2_with fail
      go_loopw [0, 5] (fun v s wr => ∃ j : Nat, s = .int .i64 (7 * j : Nat) ∧ j ≤ 4 ∧ Hid (∀ i, 1 ≤ i → i ≤ j → n / 2 ^ (7 * i) ≠ 0) ∧ wr.ownsRow base 5 1 v (bs ++ M1.hi7 (n / 2 ^ (7 * (j + 1)))).length (M2.bv (bs ++ M1.hi7 (n / 2 ^ (7 * (j + 1))))) ∧ Below base w wr) (fun _ s _ => (intOf s).toNat)
      case atStart =>
        refine ⟨j, rfl, hj, hH, ?_, Below.refl _ _⟩
        rw [HS.out, Nat.div_eq_of_lt (by omega), M1.hi7_zero, List.append_nil]; exact hown
      case round =>
        clear hq hql HQ HS hc hH hown
        rename_i q0 _ _ _
        obtain ⟨j, rfl, hj, hH, hown, hb⟩ := hrel
        have hsz := hb.size
        have hq := M1.div_cast n (7 * j)
        have hql := M1.div_le n (7 * j) hn
        have hlen : (bs ++ M1.hi7 (n / 2 ^ (7 * (j + 1)))).length ≤ 1005 := by
          have := M1.hi7_len (n / 2 ^ (7 * (j + 1))) 5 (by have := M1.div_le n (7 * (j + 1)) hn; omega)
          simp; omega
        by_cases hj0 : 0 < j
        · have hne := hH.out j hj0 (Nat.le_refl _)
          have hst : Hid _ := M1.hi7_div n j hne
          generalize hqq : n / 2 ^ (7 * j) = q at *
          have HQ : Hid (n / 2 ^ (7 * j) = q) := hqq
          generalize hLL : bs ++ M1.hi7 (n / 2 ^ (7 * (j + 1))) = L at *
          have HL : Hid (bs ++ M1.hi7 (n / 2 ^ (7 * (j + 1))) = L) := hLL
          clear hqq hLL
          have hj0' : (0 : Int) < 7 * j := by omega
          go_wp2_with (first
            | (at_builtin; refine wpList_append_own _ rfl _ _ 22 rfl base 5 i0 (.int .u8 0) 1 1 Try.underlying22 hi hz0 hz1 hz2 rfl (by decide) _ _ _ rfl (hown.alloc _) ⟨wr.heap.size, 0, none⟩ 1 1 [.int .u8 ((q % 128 + 128 : Nat) : Int)] rfl rfl ?c1 ?c2 ?c3 ?c4 ?c5 ?_)
            | go_in)
          case c1 => exact M2.new1 _ _ _
          case c2 => exact M2.one1 _ _
          case c3 => unfold maxLen; omega
          case c4 => omega
          case c5 => simp; omega
          intro v' w1 hown1 hgrow _
          have R := M2.grow1 (q := q % 128 + 128) (by omega) hown hb (by omega) (by exact hown1) hgrow
          obtain ⟨i, rfl⟩ : ∃ i, j = i + 1 := ⟨j - 1, by omega⟩
          have R1 : w1.ownsRow base 5 1 v' (bs ++ M1.hi7 (n / 2 ^ (7 * (i + 1)))).length (M2.bv (bs ++ M1.hi7 (n / 2 ^ (7 * (i + 1))))) := by
            rw [HQ.out, ← hst.out, ← List.append_assoc, HL.out]; exact R.1
          have R2 := R.2
          clear hown1 hgrow hown R hst HQ HL hq
          go_wp2
          go_roundw
          case rel => exact ⟨i, by go_num, by omega, show Hid _ from fun k h1 h2 => hH.out k h1 (by omega), R1, R2⟩
          case measure => simp [intOf]; omega
        · obtain rfl : j = 0 := by omega
          have e1 : n / 2 ^ (7 * (0 + 1)) = n / 128 := rfl
          rw [e1] at hown hlen
          clear hq hql e1
          generalize hLL : bs ++ M1.hi7 (n / 128) = L at *
          have HL : Hid (bs ++ M1.hi7 (n / 128) = L) := hLL
          clear hLL
          go_wp2_with (first
            | (at_builtin; refine wpList_append_own _ rfl _ _ 22 rfl base 5 i0 (.int .u8 0) 1 1 Try.underlying22 hi hz0 hz1 hz2 rfl (by decide) _ _ _ rfl (hown.alloc _) ⟨wr.heap.size, 0, none⟩ 1 1 [.int .u8 ((n % 128 : Nat) : Int)] rfl rfl ?d1 ?d2 ?d3 ?d4 ?d5 ?_)
            | go_in)
          case d1 => exact M2.new1 _ _ _
          case d2 => exact M2.one1 _ _
          case d3 => unfold maxLen; omega
          case d4 => omega
          case d5 => simp; omega
          intro v' w1 hown1 hgrow _
          have R := M2.grow1 (q := n % 128) (by omega) hown hb (by omega) (by exact hown1) hgrow
          have R1 : w1.ownsRow base 5 1 v' (bs ++ M1.sdnv n).length (M2.bv (bs ++ M1.sdnv n)) := by
            rw [M1.sdnv, ← List.append_assoc, HL.out]; exact R.1
          have R2 := R.2
          clear hown1 hgrow hown R HL
          go_wp2
          go_ret
          exact ⟨_, rfl, R1, R2⟩
end Go.Proofs.Ytapojeehidhhnaa
