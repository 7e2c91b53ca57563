/- The program's covers: thoseOf, isReached, isNotReached, wasAsked. -/
import Derived.Test.YtjfnmhkhjaafkaaRows
import Derived.Test.YtjfnmhkhjaafkaaMPE
import Derived.Test.YtjfnmhkhjaafkaaMPK
import Derived.Test.YtjfnmhkhjaafkaaMInfo
import Derived.WalkKit
import Derived.WalkSpells
import Derived.WalkLawsBesides
import Derived.Outline
namespace Go.Proofs.Ytjfnmhkhjaafkaa
open Go.RowKit
namespace PG
/-- Whether a left one is reached. -/
def rB (m : List Int) (A : Nat → Bool) (i : Nat) : Bool := decide (m.getD i 0 = -1) || A (m.getD i 0).toNat
end PG
set_option maxHeartbeats 1600000 in
set_option maxRecDepth 100000 in
theorem isReached_any (B gs gm cm n i : Nat) (v : Value) (m : List Int) (A : Nat → Bool) (w : World) (hi : i < n) (hs : PG.Im 47 B gs gm cm n v w (m, A)) (hm : m.getD i 0 = -1 ∨ (0 ≤ m.getD i 0 ∧ m.getD i 0 < 8)) (R : Bool) (hR : Hid (PG.rB m A i = R)) :
    Calls Try.prog 41 #[.pointer (some ⟨gs, 0, none⟩), .int .i64 (i : Int)] w fun e w' => e = .returned (.bool R) ∧ w = w' := by
  have cu := hs.match_
  have hc := hs.m.cellAt i (by omega)
  have hl := hs.len
  simp only at hl
  rw [M4.iv_get m i (m.getD i 0) (by rw [List.getD_eq_getElem?_getD, List.getElem?_eq_getElem (by omega)]; rfl)] at hc
  have hr := hR.out
  unfold PG.rB at hr
  rcases hm with hm | hm
  · rw [hm] at hc hr
    simp only [decide_true, Bool.true_or] at hr
    have HR : Hid _ := hr
    clear hR hr hm hs hl
    go_enter Try.func41, Try.ntmps41
    go_wp2
    go_ret
    exact ⟨retB7 HR.out, rfl⟩
  · obtain ⟨j, hj⟩ : ∃ j : Nat, m.getD i 0 = (j : Int) := ⟨(m.getD i 0).toNat, by omega⟩
    rw [hj] at hc hr hm
    have hj8 : j < 8 := by omega
    have ca := hs.asked hj8
    simp only at ca
    rw [Int.toNat_natCast, decide_eq_false (by omega), Bool.false_or] at hr
    rw [hr] at ca
    have hne : ((j : Int) == -1) = false := by simp
    have hj0 : (0 : Int) ≤ (j : Int) := by omega
    have hj8' : (j : Int) < 8 := by omega
    clear hR hr hm hs hl hj
    go_enter Try.func41, Try.ntmps41
    go_wp2
    go_ret
    exact ⟨rfl, rfl⟩
end Go.Proofs.Ytjfnmhkhjaafkaa
