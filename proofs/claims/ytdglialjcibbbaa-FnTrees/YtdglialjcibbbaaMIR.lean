/- Numbers of edges, and whether some of them are a forest: plain facts. -/
import Derived.Test.YtdglialjcibbbaaMEG
import Derived.Test.YtdglialjcibbbaaMPT
import Derived.Test.YtdglialjcibbbaaMCN
namespace Go.Proofs.Ytdglialjcibbbaa
open Go.RowKit
namespace EG
/-- Whether edge k of some links two that the k ahead of it do not. -/
def news (xs : List I3) (os : List Int) (k : Nat) : Bool := !(prt xs os k (ofN xs (os.getD k 0)).a0.toNat == prt xs os k (ofN xs (os.getD k 0)).a1.toNat)
/-- The first k are a forest. -/
def fst (xs : List I3) (os : List Int) : Nat → Bool
  | 0 => true
  | k + 1 => news xs os k && fst xs os k
/-- Numbers of edges. -/
structure InR (xs : List I3) (os : List Int) : Prop where
  is : ∀ k, k < os.length → 0 ≤ os.getD k 0 ∧ os.getD k 0 < xs.length
theorem InR.of_rise {xs : List I3} {os : List Int} (h : riseUp xs.length os os.length) : InR xs os := ⟨fun k hk => ⟨(h k hk).1, (h k hk).2.1⟩⟩
theorem prt_lt8 {xs : List I3} {os : List Int} {k : Nat} (hk : k ≤ os.length) {i : Nat} (hi : i < 8) : prt xs os k i < 8 := by
  rw [prt_is xs os k hk]; exact pt_lt hi
def prU (f : Nat → Nat) (k : Nat) : List Int := (List.range k).map fun i => (f i : Int)
theorem prU_succ (f : Nat → Nat) (k : Nat) : prU f (k + 1) = prU f k ++ [(f k : Int)] := by simp [prU, List.range_succ]
theorem prU_len (f : Nat → Nat) (k : Nat) : (prU f k).length = k := by simp [prU]
end EG
end Go.Proofs.Ytdglialjcibbbaa
