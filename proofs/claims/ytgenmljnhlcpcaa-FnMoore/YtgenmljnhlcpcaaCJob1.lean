/- The program's orders of jobs: function values that tell a rank, and the function value that compares two by it. -/
import Derived.Test.YtgenmljnhlcpcaaRows
import Derived.Test.YtgenmljnhlcpcaaMJS
import Derived.Test.YtgenmljnhlcpcaaM5
import Derived.WalkKit
import Derived.WalkSpells
import Derived.WalkLawsBesides
import Derived.Outline
import Derived.Deep.QuietTactic
import Derived.BigQuiet
import Derived.Shelf.Abstract
namespace Go.Proofs.Ytgenmljnhlcpcaa
open Go.RowKit
namespace JD
/-- What cmp.Compare answers. -/
def cmpI (x y : Int) : Int := if x < y then -1 else if y < x then 1 else 0
theorem cmpI_lt (x y : Nat) : cmpI (x : Int) (y : Int) < 0 ↔ x < y := by
  unfold cmpI
  split
  · omega
  · split <;> omega
end JD
set_option maxHeartbeats 400000 in
set_option maxRecDepth 100000 in
theorem compareJ_any (x y : Int) (w : World) : Calls Try.prog 59 #[.int .i64 x, .int .i64 y] w fun e w' => e = .returned (.int .i64 (JD.cmpI x y)) ∧ w = w' := by
  by_cases h1 : x < y
  · have hC : Hid (JD.cmpI x y = -1) := by show _ = _; simp [JD.cmpI, h1]
    go_enter Try.func59, Try.ntmps59
    go_wp2
    go_ret
    exact ⟨by rw [hC.out]; rfl, rfl⟩
  · by_cases h2 : y < x
    · have hC : Hid (JD.cmpI x y = 1) := by show _ = _; simp [JD.cmpI, h1, h2]
      go_enter Try.func59, Try.ntmps59
      go_wp2
      go_ret
      exact ⟨by rw [hC.out]; rfl, rfl⟩
    · have hC : Hid (JD.cmpI x y = 0) := by show _ = _; simp [JD.cmpI, h1, h2]
      go_enter Try.func59, Try.ntmps59
      go_wp2
      go_ret
      exact ⟨by rw [hC.out]; rfl, rfl⟩
set_option maxHeartbeats 800000 in
set_option maxRecDepth 100000 in
theorem ofCmp_any (F o : Nat) (cb : Array Value) (x y rx ry : Int) (w : World) (hc : w.cell? ⟨o, 0, none⟩ = some (.func (.func F) #[] cb)) (eg : ∀ args w, (callFunc F args).run Try.prog w = .ok (.enter F args) w)
    (hR : ∀ z rz, (z = x ∧ rz = rx) ∨ (z = y ∧ rz = ry) → ∀ n, Calls Try.prog F (#[.int .i64 z] ++ cb) (w.drewN n) fun e w' => e = .returned (.int .i64 rz) ∧ ∃ q, w' = (w.drewN n).drewN q) :
    Calls Try.prog 58 #[.int .i64 x, .int .i64 y, .pointer (some ⟨o, 0, none⟩)] w fun e w' => e = .returned (.int .i64 (JD.cmpI rx ry)) ∧ ∃ m, w' = w.drewN m := by
  have hx := hR x rx (.inl ⟨rfl, rfl⟩)
  have hy := hR y ry (.inr ⟨rfl, rfl⟩)
  clear hR
  go_enter Try.func58, Try.ntmps58
  go_wp2_with fail
  go_quiet (first | (go_at_fn F; refine Calls.quiet_of (hx _)) | (go_at_fn F; refine Calls.quiet_of (hy _)) | (go_at_call 59; exact (compareJ_any _ _ _).mono (by rintro e w' ⟨rfl, rfl⟩; exact ⟨rfl, _, rfl⟩)))
  go_wp2
  go_ret
  exact ⟨rfl, _, rfl⟩
set_option maxHeartbeats 800000 in
set_option maxRecDepth 100000 in
theorem rankDue_any (a : Option Addr) (ca c : Nat) (xs : List I2) (j : Nat) (w : World) (hj : j < xs.length) (_hl : xs.length ≤ 10) (hc : w.cell? ⟨c, 0, none⟩ = some (.slice a xs.length ca)) (hin : MI2.RowAt w a xs) :
    Calls Try.prog 61 #[.int .i64 (j : Int), .pointer (some ⟨c, 0, none⟩)] w fun e w' => e = .returned (.int .i64 (MI2.at_ xs j).a1) ∧ w = w' := by
  obtain ⟨b2, off2, rfl, hlt2, _, c2⟩ := hin.at hj
  clear hin
  generalize (MI2.at_ xs j).a1 = x at *
  go_enter Try.func61, Try.ntmps61
  go_wp2
  go_ret
  exact ⟨rfl, rfl⟩
set_option maxHeartbeats 800000 in
set_option maxRecDepth 100000 in
theorem orderDue_any (a : Option Addr) (ca n : Nat) (w : World) : Calls Try.prog 44 #[.slice a n ca] w fun e w' => e = .returned (.agg #[.func (.func 61) #[] #[.pointer (some ⟨w.heap.size, 0, none⟩)]]) ∧ w'.cell? ⟨w.heap.size, 0, none⟩ = some (.slice a n ca) ∧ w.heap.size < w'.heap.size ∧ Below w.heap.size w w' := by
  have SF : ∀ (W : World) (ad : Addr) (F : Nat) (cs : Array Value) (m : Mode), (store ad (.func (.func F) #[] cs) m).run Try.prog W = stored Try.prog W ad (.func (.func F) #[] cs) m := fun W ad F cs m => run_store _ W ad _ m rfl
  have FIN : Hid (∀ o2 : Obj, ((w.alloc (.cells #[.slice a n ca] 23)).alloc o2).cell? ⟨w.heap.size, 0, none⟩ = some (.slice a n ca) ∧ w.heap.size < ((w.alloc (.cells #[.slice a n ca] 23)).alloc o2).heap.size ∧ Below w.heap.size w ((w.alloc (.cells #[.slice a n ca] 23)).alloc o2)) := fun o2 => by
    refine ⟨?_, by simp; omega, ((Below.refl _ w).alloc (Nat.le_refl _) _).alloc (by simp) _⟩
    have h1 : (w.alloc (.cells #[.slice a n ca] 23)).cell? ⟨w.heap.size, 0, none⟩ = some (.slice a n ca) := by rw [World.cell?_alloc_new]; rfl
    exact (((Below.refl _ (w.alloc (.cells #[.slice a n ca] 23))).alloc (Nat.le_refl _) o2).cell (p := ⟨w.heap.size, 0, none⟩) (by simp)).trans h1
  go_enter Try.func44, Try.ntmps44
  go_wp2
  exact bodyPost_ret (v := .agg #[.func (.func 61) #[] #[.pointer (some ⟨w.heap.size, 0, none⟩)]]) (by simp [results, Try.results44, go_sem]) rfl ⟨rfl, FIN.out _⟩
end Go.Proofs.Ytgenmljnhlcpcaa
