/- A bundle's items (chapter 3): plain facts, no program is named here. -/
import Derived.Test.YtcpfbgogfhlmjaaDoorMB1
import Derived.Test.YtcpfbgogfhlmjaaDoorM16
namespace Go.Proofs.YtcpfbgogfhlmjaaDoor
namespace B2
def num (n : Int) : It := ⟨1, n, ⟨#[]⟩, 0⟩
def gn (b : Bd) : Int := if b.gr = true then 1 else 0
def nums (b : Bd) : List Int := [b.fr, b.to, gn b, b.md, b.no, b.lf, b.hp, b.of, b.tl]
/-- The items of a bundle. -/
def items (b : Bd) : List It := ⟨4, 0, ⟨#[]⟩, 10⟩ :: ((nums b).map num ++ [⟨2, 0, b.py, 0⟩])
theorem items_len (b : Bd) : (items b).length = 11 := rfl
theorem leaf_num {n : Int} (h : 0 ≤ n ∧ n ≤ 1000000000) : M12.leaf (num n) = true := by
  rw [M12.leaf1 rfl]; simp [num, okN, h]
theorem leaf_py {p : ByteArray} (h : p.size ≤ 60) : M12.leaf ⟨2, 0, p, 0⟩ = true := by
  rw [M12.leaf2 rfl]; simp [h]
/-- Leaves behind one another. -/
theorem nOf_leaves : ∀ (l : List It) (r : Nat), (∀ x ∈ l, M12.leaf x = true) → M12.nOf (M12.vl r) l.length l = some (l.length, 0) := by
  intro l r h
  have key : ∀ m, m ≤ l.length → M12.nOf (M12.vl r) m l = some (m, 0) := by
    intro m
    induction m with
    | zero => intro _; rfl
    | succ m ih =>
      intro hm
      have hx : M12.vl r (l.drop m) = some (1, 0) := by
        rw [List.drop_eq_getElem_cons (by omega)]
        exact M12.vl_leaf r (h _ (List.getElem_mem (by omega)))
      rw [M12.nOf_next (ih (by omega)) hx]; rfl
  exact key l.length (Nat.le_refl _)
theorem nums_in {b : Bd} (h : B1.good b = true) : ∀ n ∈ nums b, 0 ≤ n ∧ n ≤ 1000000000 := by
  have := B1.good_is h
  intro n hn
  unfold nums gn at hn
  simp at hn
  rcases hn with rfl | rfl | rfl | rfl | rfl | rfl | rfl | rfl | rfl
  all_goals first | omega | (split <;> omega)
theorem leaves {b : Bd} (h : B1.good b = true) : ∀ x ∈ (nums b).map num ++ [⟨2, 0, b.py, 0⟩], M12.leaf x = true := by
  intro x hx
  rcases List.mem_append.1 hx with hx | hx
  · obtain ⟨n, hn, rfl⟩ := List.mem_map.1 hx
    exact leaf_num (nums_in h n hn)
  · simp at hx
    subst hx
    exact leaf_py (B1.good_is h).2.2.2.2.2.2.1
theorem vl_items {b : Bd} (h : B1.good b = true) : M12.vl 5 (items b) = some (11, 1) := by
  have hl : M12.lst ⟨4, 0, ⟨#[]⟩, 10⟩ = true := by simp [M12.lst]
  have hn := nOf_leaves _ 4 (leaves h)
  unfold items
  generalize hG : (nums b).map num ++ [(⟨2, 0, b.py, 0⟩ : It)] = G at *
  have hlen : G.length = 10 := by rw [← hG]; rfl
  rw [hlen] at hn
  have e : (⟨4, 0, ⟨#[]⟩, 10⟩ : It).many.toNat = 10 := rfl
  rw [M12.vl_list 4 hl, e, hn]
theorem one_items {b : Bd} (h : B1.good b = true) : M12.one (items b) = true := by
  unfold M12.one
  rw [vl_items h, items_len]; rfl
theorem ib_small {x : It} (h : x.text.size ≤ 60) : (M12.ib x).length ≤ 65 := by
  unfold M12.ib
  have p := fun m n => (M7.hb_pos m n).2
  have b := M8.bl_len x.text
  split
  · have := p 0 x.num.toNat; omega
  · split
    · rw [List.length_append]; have := p 2 x.text.size; omega
    · split
      · rw [List.length_append]; have := p 3 x.text.size; omega
      · have := p 4 x.many.toNat; omega
theorem ib_num (n : Int) : (M12.ib (num n)).length ≤ 5 := by
  rw [M13.ib1 rfl]; exact (M7.hb_pos 0 _).2
theorem bytes_nums : ∀ l : List Int, (M12.bytes (l.map num)).length ≤ 5 * l.length := by
  intro l
  induction l with
  | nil => simp [M12.bytes]
  | cons n l ih =>
    rw [List.map_cons, M16.bytes_cons, List.length_append, List.length_cons]
    have := ib_num n
    omega
theorem bytes_items {b : Bd} (h : b.py.size ≤ 60) : (M12.bytes (items b)).length ≤ 115 := by
  unfold items
  rw [M16.bytes_cons, M12.bytes_app, List.length_append, List.length_append]
  have h1 : (M12.ib ⟨4, 0, ⟨#[]⟩, 10⟩).length ≤ 5 := by rw [M13.ib4 (by simp) (by simp) (by simp)]; exact (M7.hb_pos 4 _).2
  have h2 := bytes_nums (nums b)
  have h3 : (M12.bytes [⟨2, 0, b.py, 0⟩]).length ≤ 65 := by
    rw [M16.bytes_cons, List.length_append]
    have := ib_small (x := ⟨2, 0, b.py, 0⟩) h
    simp [M12.bytes]; exact this
  have h4 : (nums b).length = 9 := rfl
  omega
theorem good_items {b : Bd} (h : B1.good b = true) : M12.good (items b) = true := by
  have h1 := one_items h
  have h2 := bytes_items (B1.good_is h).2.2.2.2.2.2.1
  simp [M12.good, h1]; omega
end B2
end Go.Proofs.YtcpfbgogfhlmjaaDoor
