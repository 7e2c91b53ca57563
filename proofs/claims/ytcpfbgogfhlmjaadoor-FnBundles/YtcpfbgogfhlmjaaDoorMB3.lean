/- A bundle out of its items, and out of its bytes (chapter 3): plain facts. -/
import Derived.Test.YtcpfbgogfhlmjaaDoorMB2
import Derived.Test.YtcpfbgogfhlmjaaDoorCCheckCrc
namespace Go.Proofs.YtcpfbgogfhlmjaaDoor
namespace B3
abbrev it (L : List It) (j : Nat) : It := M11.at_ L j
/-- The fields that items tell. -/
def bOf (L : List It) : Bd := ⟨(it L 1).num, (it L 2).num, (it L 3).num == 1, (it L 4).num, (it L 5).num, (it L 6).num, (it L 7).num, (it L 8).num, (it L 9).num, (it L 10).text⟩
def L (s : ByteArray) : List It := (M16.read (bodyOf s)).1
/-- The bytes are a good bundle's. -/
def P (s : ByteArray) : Prop := chk s = true ∧ (M16.read (bodyOf s)).2 = true ∧ (L s).length = 11 ∧ B1.good (bOf (L s)) = true ∧ B2.items (bOf (L s)) = L s
theorem chk_is {s : ByteArray} (h : chk s = true) : 2 ≤ s.size ∧ s.size ≤ 400 ∧ withS (bodyOf s) = s := by
  unfold chk at h; simp at h; exact ⟨h.1.1, h.1.2, h.2⟩
theorem with_inj {x y : ByteArray} (h : withS x = withS y) : x = y := by
  have h1 := congrArg M8.bl h
  have e : ∀ z : ByteArray, M8.bl (withS z) = M8.bl z ++ [UInt8.ofNat (crcT z / 256), UInt8.ofNat (crcT z % 256)] := fun z => by unfold withS M8.bl; simp
  rw [e, e] at h1
  have hl := congrArg List.length h1
  simp only [List.length_append, List.length_cons, List.length_nil] at hl
  have := List.append_inj_left h1 (by omega)
  exact M8.bl_inj this
/-- The specification's last test. -/
theorem same_iff {s : ByteArray} {b : Bd} (h1 : chk s = true) (h2 : (M16.read (bodyOf s)).2 = true) (hg : B1.good b = true) : withS ⟨(M12.bytes (B2.items b)).toArray⟩ = s ↔ B2.items b = L s := by
  obtain ⟨c1, c2, c3⟩ := chk_is h1
  obtain ⟨g1, g2⟩ := M16.read_good h2
  constructor
  · intro h
    have h' := with_inj (h.trans c3.symm)
    have h3 : M12.bytes (B2.items b) = M8.bl (bodyOf s) := congrArg M8.bl h'
    have h4 := M16.read_yes (B2.good_items hg) h3 (by rw [body_size]; omega)
    unfold L; rw [h4]
  · intro h
    have h3 : M12.bytes (B2.items b) = M8.bl (bodyOf s) := by rw [h]; exact g2
    have : (⟨(M12.bytes (B2.items b)).toArray⟩ : ByteArray) = bodyOf s := M8.bl_inj h3
    rw [this]; exact c3
end B3
/-- What ReadBundle answers. -/
def RB (s : ByteArray) (e : Ending) : Prop := (B3.P s ∧ e = .returned (.tuple #[(B3.bOf (B3.L s)).v, .bool true])) ∨ (¬ B3.P s ∧ e = .returned (.tuple #[B1.zero.v, .bool false]))
end Go.Proofs.YtcpfbgogfhlmjaaDoor
