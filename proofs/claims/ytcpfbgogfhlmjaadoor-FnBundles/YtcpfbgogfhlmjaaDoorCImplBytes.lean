/- The program's GoodItems and ItemsBytes. -/
import Derived.Test.YtcpfbgogfhlmjaaDoorRows
import Derived.Test.YtcpfbgogfhlmjaaDoorCTakeValue
import Derived.Test.YtcpfbgogfhlmjaaDoorCAppendValue
import Derived.Test.YtcpfbgogfhlmjaaDoorSlF
import Derived.WalkKit
import Derived.WalkSpells
import Derived.WalkLawsBesides
import Derived.Outline
namespace Go.Proofs.YtcpfbgogfhlmjaaDoor
open Go.RowKit
theorem takeValue_all (a : Option Addr) (cap : Nat) (xs : List It) (w : World) (hl : xs.length ≤ 1048576) (hwf : Hid (M11.Wf xs)) (hin : M11.ItemsAt w a xs) :
    Calls Tryd.prog 66 #[.slice a xs.length cap, .int .i64 0, .int .i64 0] w fun e w' => M14.TRes 5 w' w.heap.size 0 xs (M12.vl 5 xs) e ∧ Below w.heap.size w w' := by
  have h := takeValue_any 5 a cap xs 0 0 w hl rfl (by omega) hwf hin
  rw [List.drop_zero] at h
  exact h
/-- What valueOf answers. -/
def VRes (w' : World) (B : Nat) (xs : List It) (e : Ending) : Prop := (M12.one xs = false ∧ ∃ u : Value, e = .returned (.tuple #[u, .bool false])) ∨ (M12.one xs = true ∧ ∃ (u : Value) (D : Nat), M12.vl 5 xs = some (xs.length, D) ∧ e = .returned (.tuple #[u, .bool true]) ∧ M14.VAt 5 w' (fun b => B ≤ b) u xs D)
theorem one_long {xs : List It} (h : ¬ xs.length ≤ 40) : M12.one xs = false := by simp [M12.one, h]
theorem one_none {xs : List It} (h : M12.vl 5 xs = none) : M12.one xs = false := by simp [M12.one, h]
theorem one_ne {xs : List It} {c d : Nat} (h : M12.vl 5 xs = some (c, d)) (hc : ¬ c = xs.length) : M12.one xs = false := by simp [M12.one, h, hc]
theorem one_eq {xs : List It} {d : Nat} (h : M12.vl 5 xs = some (xs.length, d)) (h4 : xs.length ≤ 40) : M12.one xs = true := by simp [M12.one, h, h4]
set_option maxHeartbeats 800000 in
set_option maxRecDepth 100000 in
theorem valueOf_any (a : Option Addr) (cap : Nat) (xs : List It) (w : World) (hl : xs.length ≤ 1048576) (hwf : Hid (M11.Wf xs)) (hin : M11.ItemsAt w a xs) :
    Calls Tryd.prog 48 #[.slice a xs.length cap] w fun e w' => VRes w' w.heap.size xs e ∧ Below w.heap.size w w' := by
  by_cases h40 : xs.length ≤ 40
  · have TVv : Hid _ := takeValue_all a cap xs w hl hwf hin
    have HL : Hid _ := fun c d => M12.vl_len 5 xs c d
    clear hin hwf
    go_enter Tryd.func48, Tryd.ntmps48
    go_wp2_with fail
    refine Calls.mono TVv.out ?_
    rintro e w1 ⟨he, hb⟩
    clear TVv
    cases hO : M12.vl 5 xs with
    | none =>
      have HR : Hid _ := one_none hO
      obtain ⟨u, p, rfl⟩ := M14.TRes.none' he hO
      clear he hO HL
      go_wp2
      go_ret2
      exact ⟨.inl ⟨HR.out, _, rfl⟩, hb⟩
    | some q =>
      obtain ⟨c, D⟩ := q
      obtain ⟨u, rfl, hu⟩ := M14.TRes.some' he hO
      have hcl := (HL.out c D hO).2
      have hz : (((0 + c : Nat)) : Int) = (c : Int) := by omega
      rw [hz]
      by_cases hc : c = xs.length
      · subst hc
        rw [List.take_length] at hu
        have HO : Hid _ := hO
        have HU : Hid _ := hu
        have HR : Hid _ := one_eq hO h40
        clear he hO HL hu hz
        go_wp2
        go_ret2
        exact ⟨.inr ⟨HR.out, u, D, HO.out, rfl, HU.out⟩, hb⟩
      · have HR : Hid _ := one_ne hO hc
        have hcb : ((c : Int) == (xs.length : Int)) = false := by simp; omega
        clear he hO HL hu hc hz
        go_wp2
        go_ret2
        exact ⟨.inl ⟨HR.out, _, rfl⟩, hb⟩
  · have HR : Hid _ := one_long h40
    clear hin hwf
    go_enter Tryd.func48, Tryd.ntmps48
    go_wp2
    go_ret2
    exact ⟨.inl ⟨HR.out, _, rfl⟩, Below.refl _ _⟩
set_option maxHeartbeats 800000 in
set_option maxRecDepth 100000 in
theorem implItemsBytes_any (a : Option Addr) (cap : Nat) (xs : List It) (w : World) (hl : xs.length ≤ 1048576) (hwf : Hid (M11.Wf xs)) (hin : M11.ItemsAt w a xs) :
    Calls Tryd.prog 26 #[.slice a xs.length cap] w fun e w' => e = .returned (.tuple #[.string (M12.strR xs), .bool (M12.good xs)]) ∧ Below w.heap.size w w' := by
  have VV : Hid _ := valueOf_any a cap xs w hl hwf hin
  clear hin hwf
  go_enter Tryd.func26, Tryd.ntmps26
  go_wp2_with fail
  refine Calls.mono VV.out ?_
  rintro e w1 ⟨he, hb⟩
  clear VV
  rcases he with ⟨ho, u, rfl⟩ | ⟨ho, u, D, hv, rfl, hu⟩
  · have hR : Hid (⟨#[]⟩ = M12.strR xs ∧ false = M12.good xs) := by
      have hg : M12.good xs = false := by simp [M12.good, ho]
      exact ⟨by simp [M12.strR, hg], hg.symm⟩
    clear ho
    go_wp2
    go_ret2
    exact ⟨ret_sb hR.out.1 hR.out.2, hb⟩
  · have h40 := (M13.one_some ho).1
    have hf := M13.one_fine ho
    have hbl := M13.bytes_len h40 hf
    have hfm : ∀ x ∈ xs, M13.fine x := fun x hx => by
      obtain ⟨j, hj, rfl⟩ := List.getElem_of_mem hx
      rw [← M11.at_eq xs j hj]; exact hf j hj
    have hu2 := M14.VAt.keep (S' := fun b => b < w1.heap.size) (Nat.le_refl _) (fun _ _ _ => rfl) (fun b _ h => h) 5 u xs D hu
    have AV : Hid _ := appendValue_any 5 w1 w1.heap.size (.slice none 0 0) [] u xs D hu2 ⟨by simp [M2.bv], .inl ⟨rfl, rfl⟩⟩ (Nat.le_refl _) hfm (by simp; omega)
    have hG : Hid (M12.good xs = decide ((M12.bytes xs).length ≤ 400)) := by show _ = _; simp [M12.good, ho]
    have hS : Hid (M12.good xs = true → ⟨(M12.bytes xs).toArray⟩ = M12.strR xs) := fun h => by simp [M12.strR, h]
    have hS0 : Hid (M12.good xs = false → ⟨#[]⟩ = M12.strR xs) := fun h => by simp [M12.strR, h]
    obtain ⟨tu, xu, rfl⟩ := hu.shape
    clear hv hu hu2 hf hfm ho
    simp only [List.nil_append] at AV
    generalize M12.bytes xs = Lb at *
    go_wp2_with fail
    refine Calls.mono AV.out ?_
    rintro e w2 ⟨v2, rfl, hown2, hb2⟩
    have hB := hb.trans (hb2.mono hb.size)
    clear AV hb hb2
    obtain ⟨ao, nn, cc, rfl, hnn⟩ : ∃ ao nn cc, v2 = .slice ao nn cc ∧ nn = Lb.length := by
      rcases hown2.2 with ⟨rfl, h0⟩ | ⟨g, cp, cur, rfl, _⟩
      · exact ⟨none, 0, 0, rfl, h0.symm⟩
      · exact ⟨_, _, _, rfl, rfl⟩
    subst hnn
    have hcv := M2.conv_own (P := Tryd.prog) 22 9 5 Tryd.underlying22 Tryd.underlying5 Tryd.underlying9 hown2
    clear hown2
    by_cases h4 : Lb.length ≤ 400
    · have hgt : Hid (true = M12.good xs) := by rw [hG.out]; show _ = _; simp [h4]
      have hst : Hid _ := hS.out hgt.out.symm
      clear hG hS hS0
      go_wp2
      go_ret2
      exact ⟨ret_sb hst.out hgt.out, hB⟩
    · have hgt : Hid (false = M12.good xs) := by rw [hG.out]; show _ = _; simp [h4]
      have hst : Hid _ := hS0.out hgt.out.symm
      clear hG hS hS0
      go_wp2
      go_ret2
      exact ⟨ret_sb hst.out hgt.out, hB⟩
set_option maxHeartbeats 800000 in
set_option maxRecDepth 100000 in
theorem implGood_any (a : Option Addr) (cap : Nat) (xs : List It) (w : World) (hl : xs.length ≤ 1048576) (hwf : Hid (M11.Wf xs)) (hin : M11.ItemsAt w a xs) :
    Calls Tryd.prog 57 #[.slice a xs.length cap] w fun e w' => e = .returned (.bool (M12.good xs)) ∧ Below w.heap.size w w' := by
  have IB : Hid _ := implItemsBytes_any a cap xs w hl hwf hin
  clear hin hwf
  generalize M12.good xs = R at *
  generalize M12.strR xs = T at *
  go_enter Tryd.func57, Tryd.ntmps57
  go_wp2_with fail
  refine Calls.mono IB.out ?_
  rintro e w1 ⟨rfl, hb⟩
  go_wp2
  go_ret
  exact ⟨rfl, hb⟩
end Go.Proofs.YtcpfbgogfhlmjaaDoor
