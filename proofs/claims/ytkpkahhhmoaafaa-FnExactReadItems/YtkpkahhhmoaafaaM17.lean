/- The steps of reading a value (chapter 2): plain facts; the numbers of the program's types alone are named. -/
import Derived.Test.YtkpkahhhmoaafaaM16
import Derived.Test.YtkpkahhhmoaafaaM14
namespace Go.Proofs.Ytkpkahhhmoaafaa
namespace M17
open M15 M16
theorem rv_none {r : Nat} {l : List UInt8} (h : flat1 l = none) : rv r l = none := by cases r <;> simp [rv, rstep, h]
theorem rv_leaf {r : Nat} {l : List UInt8} {x : It} {c : Nat} (h : flat1 l = some (x, c)) (hk : x.kind ≠ 4) : rv r l = some ([x], c) := by cases r <;> simp [rv, rstep, h, hk]
theorem rv_list_no {r : Nat} {l : List UInt8} {x : It} {c : Nat} (h : flat1 l = some (x, c)) (hk : x.kind = 4) (hn : rn (rv r) x.many.toNat (l.drop c) = none) : rv (r + 1) l = none := by simp [rv, rstep, h, hk, hn]
theorem rv_list_yes {r : Nat} {l : List UInt8} {x : It} {c c' : Nat} {L : List It} (h : flat1 l = some (x, c)) (hk : x.kind = 4) (hn : rn (rv r) x.many.toNat (l.drop c) = some (L, c')) : rv (r + 1) l = some (x :: L, c + c') := by simp [rv, rstep, h, hk, hn]
theorem flat_none {l : List UInt8} (h : M7.hd l = none) : flat1 l = none := by simp [flat1, h]
theorem flat_num {l : List UInt8} {n c : Nat} (h : M7.hd l = some (0, n, c)) : flat1 l = some (⟨1, (n : Int), ⟨#[]⟩, 0⟩, c) := by simp [flat1, h]
theorem flat_lst {l : List UInt8} {n c : Nat} (h : M7.hd l = some (4, n, c)) : flat1 l = some (⟨4, 0, ⟨#[]⟩, (n : Int)⟩, c) := by simp [flat1, h]
theorem flat_two {l : List UInt8} {n c : Nat} (h : M7.hd l = some (2, n, c)) (hn : n ≤ l.length - c) : flat1 l = some (⟨2, 0, ⟨((l.drop c).take n).toArray⟩, 0⟩, c + n) := by simp [flat1, h, hn]
theorem flat_three {l : List UInt8} {n c : Nat} (h : M7.hd l = some (3, n, c)) (hn : n ≤ l.length - c) : flat1 l = some (⟨3, 0, ⟨((l.drop c).take n).toArray⟩, 0⟩, c + n) := by simp [flat1, h, hn]
theorem flat_short {l : List UInt8} {m n c : Nat} (h : M7.hd l = some (m, n, c)) (hm : m = 2 ∨ m = 3) (hn : ¬ n ≤ l.length - c) : flat1 l = none := by
  unfold flat1; rw [h]; rcases hm with rfl | rfl <;> simp [hn]
theorem flat_other {l : List UInt8} {m n c : Nat} (h : M7.hd l = some (m, n, c)) (h0 : m ≠ 0) (h2 : m ≠ 2) (h3 : m ≠ 3) (h4 : m ≠ 4) : flat1 l = none := by simp [flat1, h, h0, h2, h3, h4]
theorem text_at (s : ByteArray) (k c n : Nat) : (⟨(((M8.bl s).drop k).drop c |>.take n).toArray⟩ : ByteArray) = s.extract (k + c) (k + c + n) := by
  apply M8.bl_inj
  rw [M10.ext_bl, show k + c + n - (k + c) = n from by omega, ← List.drop_drop]; rfl
/-- What TakeHead answers at a place. -/
theorem hdF_none {s : ByteArray} {k : Nat} (h : M7.hd ((M8.bl s).drop k) = none) : M10.hdF s (k : Int) = M10.no := by
  by_cases hk : s.size ≤ 400 ∧ (0 : Int) ≤ k ∧ (k : Int) < s.size
  · rw [M10.hdF_yes hk.1 (by omega)]; unfold M10.hdR; rw [h]
  · exact M10.hdF_no hk
theorem hdF_some {s : ByteArray} {k m n c : Nat} (h4 : s.size ≤ 400) (h : M7.hd ((M8.bl s).drop k) = some (m, n, c)) : M10.hdF s (k : Int) = (m, n, k + c, true) ∧ k + c ≤ s.size ∧ 1 ≤ c ∧ m ≤ 7 ∧ n ≤ 1000000000 := by
  obtain ⟨h1, h2, h3, h5, _⟩ := M7.hd_is h
  rw [List.length_drop, M8.bl_len] at h5
  refine ⟨?_, by omega, h3, h1, h2⟩
  rw [M10.hdF_yes h4 (by omega)]; unfold M10.hdR; rw [h]
/-- The answer on a value that is read. -/
def RT (r : Nat) (w' : World) (B k : Nat) (o : RO) (e : Ending) : Prop := match o with
  | none => ∃ (u : Value) (p : Int), e = .returned (.tuple #[u, .int .i64 p, .bool false])
  | some (L, c) => ∃ (u : Value) (D : Nat), e = .returned (.tuple #[u, .int .i64 ((k + c : Nat) : Int), .bool true]) ∧ M14.VAt r w' (fun b => B ≤ b) u L D
theorem RT.no {r : Nat} {w' : World} {B k : Nat} {o : RO} (h : o = none) (u : Value) (p : Int) : RT r w' B k o (.returned (.tuple #[u, .int .i64 p, .bool false])) := by rw [h]; exact ⟨u, p, rfl⟩
theorem RT.yes {r : Nat} {w' : World} {B k c D : Nat} {L : List It} {o : RO} (h : o = some (L, c)) {u : Value} {p : Int} (hp : p = ((k + c : Nat) : Int)) (hv : M14.VAt r w' (fun b => B ≤ b) u L D) : RT r w' B k o (.returned (.tuple #[u, .int .i64 p, .bool true])) := by
  rw [h, hp]; exact ⟨u, D, rfl, hv⟩
theorem RT.none' {r : Nat} {w' : World} {B k : Nat} {o : RO} {e : Ending} (h : RT r w' B k o e) (ho : o = none) : ∃ (u : Value) (p : Int), e = .returned (.tuple #[u, .int .i64 p, .bool false]) := by rw [ho] at h; exact h
theorem RT.some' {r : Nat} {w' : World} {B k c : Nat} {L : List It} {o : RO} {e : Ending} (h : RT r w' B k o e) (ho : o = some (L, c)) : ∃ (u : Value) (D : Nat), e = .returned (.tuple #[u, .int .i64 ((k + c : Nat) : Int), .bool true]) ∧ M14.VAt r w' (fun b => B ≤ b) u L D := by rw [ho] at h; exact h
/-- The answer on the values of a list. -/
def RL (r : Nat) (w' : World) (B k m : Nat) (o : RO) (e : Ending) : Prop := match o with
  | none => ∃ (u : Value) (p : Int), e = .returned (.tuple #[u, .int .i64 p, .bool false])
  | some (L, c) => ∃ (u : Value) (D : Nat), e = .returned (.tuple #[u, .int .i64 ((k + c : Nat) : Int), .bool true]) ∧ M14.VAt (r + 1) w' (fun b => B ≤ b) u (⟨4, 0, ⟨#[]⟩, (m : Int)⟩ :: L) D
theorem RL.no {r : Nat} {w' : World} {B k m : Nat} (u : Value) (p : Int) : RL r w' B k m none (.returned (.tuple #[u, .int .i64 p, .bool false])) := ⟨u, p, rfl⟩
theorem RL.yes {r : Nat} {w' : World} {B k m c D : Nat} {L : List It} {u : Value} (h : M14.VAt (r + 1) w' (fun b => B ≤ b) u (⟨4, 0, ⟨#[]⟩, (m : Int)⟩ :: L) D) : RL r w' B k m (some (L, c)) (.returned (.tuple #[u, .int .i64 ((k + c : Nat) : Int), .bool true])) := ⟨u, D, rfl, h⟩
theorem RL.none' {r : Nat} {w' : World} {B k m : Nat} {e : Ending} (h : RL r w' B k m none e) : ∃ (u : Value) (p : Int), e = .returned (.tuple #[u, .int .i64 p, .bool false]) := h
theorem RL.some' {r : Nat} {w' : World} {B k m c : Nat} {L : List It} {e : Ending} (h : RL r w' B k m (some (L, c)) e) : ∃ (u : Value) (D : Nat), e = .returned (.tuple #[u, .int .i64 ((k + c : Nat) : Int), .bool true]) ∧ M14.VAt (r + 1) w' (fun b => B ≤ b) u (⟨4, 0, ⟨#[]⟩, (m : Int)⟩ :: L) D := h
theorem flat_snoc {Ls : List (List It)} {L L' : List It} (h : Ls.flatten = L) : (Ls ++ [L']).flatten = L ++ L' := by rw [List.flatten_append, h]; simp
end M17
end Go.Proofs.Ytkpkahhhmoaafaa
