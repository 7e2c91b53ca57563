/- The walks of the cursor's of and text, of DrawCrcOf, DrawWithCrc, DrawCheckCrc, and of the laws' numberOf. -/
import Derived.Test.YtapojeehidhhnaaDoorCSpoilt
import Derived.Test.YtapojeehidhhnaaDoorCWithCrc
import Derived.Laws.OwnMore
namespace Go.Proofs.YtapojeehidhhnaaDoor
open Go.RowKit
theorem Tryd.info5 : (Tryd.prog.info? 5).map (fun i => (i.zero, i.size, i.bytes)) = some (some (.int .u8 0), 1, 1) := by kernel_rfl
/-- Some texts lie at an address. -/
def StrsAt (w : World) (b off : Nat) (xs : List ByteArray) : Prop := b < w.heap.size ∧ ∀ j, j < xs.length → w.cell? ⟨b, off + j, none⟩ = some (.string (xs.getD j ⟨#[]⟩))
set_option maxHeartbeats 800000 in
set_option maxRecDepth 100000 in
theorem of_any (p : Nat) (a : Option Addr) (zs : List Int) (cap M : Nat) (b off : Nat) (xs : List ByteArray) (lc : Nat) (w : World) (hz : zs.length ≤ 140737488355328) (hM : M ≤ 140737488350000) (hc : MC.Cur w p a zs cap M)
    (hx0 : 0 < xs.length) (hx : xs.length ≤ 1048576) (hl : StrsAt w b off xs) (hp : b ≠ p) :
    Calls Tryd.prog 25 #[.pointer (some ⟨p, 0, none⟩), .slice (some ⟨b, off, none⟩) xs.length lc] w fun e w' => ∃ s : ByteArray, e = .returned (.string s) ∧ s ∈ xs ∧ MC.Cur w' p a zs cap (M + 2) ∧ MC.Only p w w' := by
  go_enter Tryd.func25, Tryd.ntmps25
  go_wp2_with fail
  refine (pick_any p a zs cap M _ _ hz hM hc).mono ?_
  rintro e w1 ⟨r, rfl, hr, _, hc1, ho1⟩
  have hr' : r < xs.length := by omega
  have hcell : w1.cell? ⟨b, off + r, none⟩ = some (.string (xs.getD r ⟨#[]⟩)) := (ho1.cell (x := ⟨b, off + r, none⟩) hl.1 hp).trans (hl.2 r hr')
  have hmem : xs.getD r ⟨#[]⟩ ∈ xs := by rw [List.getD_eq_getElem?_getD, List.getElem?_eq_getElem hr']; exact List.getElem_mem hr'
  generalize xs.getD r ⟨#[]⟩ = s at *
  clear hl hp
  go_wp2
  go_ret
  exact ⟨s, rfl, hmem, hc1, ho1⟩
def fiveS : List ByteArray := [⟨#[]⟩, ⟨#[97]⟩, ⟨#[104, 101, 108, 108, 111]⟩, ⟨#[0, 255]⟩, ⟨#[115, 111, 109, 101, 32, 109, 111, 114, 101, 32, 116, 101, 120, 116]⟩]
theorem five_at (w : World) : StrsAt (w.alloc (.cells #[.string ⟨#[]⟩, .string ⟨#[97]⟩, .string ⟨#[104, 101, 108, 108, 111]⟩, .string ⟨#[0, 255]⟩, .string ⟨#[115, 111, 109, 101, 32, 109, 111, 114, 101, 32, 116, 101, 120, 116]⟩] 9)) w.heap.size 0 fiveS := by
  refine ⟨by simp, fun j hj => ?_⟩
  rw [Nat.zero_add, World.cell?_alloc_at _ _ _ _ (by rfl)]
  have : j < 5 := hj
  match j, this with
  | 0, _ | 1, _ | 2, _ | 3, _ | 4, _ => rfl
theorem five_size (s : ByteArray) (h : s ∈ fiveS) : s.size ≤ 14 := by
  simp only [fiveS, List.mem_cons, List.not_mem_nil, or_false] at h
  rcases h with rfl | rfl | rfl | rfl | rfl <;> decide
theorem zeros_bv (n : Nat) : (madeCells #[Value.int .u8 0] n).toList = M2.bv (List.replicate n 0) := by
  rw [toList_madeCells_one]; simp [M2.bv]
theorem zeros_size (n : Nat) : (⟨(List.replicate n (0 : UInt8)).toArray⟩ : ByteArray).size = n := by show (List.replicate n (0 : UInt8)).toArray.size = n; simp
set_option maxHeartbeats 800000 in
set_option maxRecDepth 100000 in
theorem text_any (p : Nat) (a : Option Addr) (zs : List Int) (cap M : Nat) (w : World) (hz : zs.length ≤ 140737488355328) (hM : M ≤ 140737488340000) (hc : MC.Cur w p a zs cap M) :
    Calls Tryd.prog 19 #[.pointer (some ⟨p, 0, none⟩)] w fun e w' => ∃ s : ByteArray, e = .returned (.string s) ∧ s.size ≤ 415 ∧ MC.Cur w' p a zs cap (M + 6) ∧ MC.Only p w w' := by
  obtain ⟨i0, hi, hz0, hz1, hz2⟩ := info_parts Tryd.info5
  have hplt := hc.lt
  go_enter Tryd.func19, Tryd.ntmps19
  go_wp2_with fail
  refine (of_any p a zs cap M w.heap.size 0 fiveS 5 _ hz (by omega) (hc.alloc _) (by decide) (by decide) (five_at w) (by omega)).mono ?_
  rintro e w1 ⟨s, rfl, hs, hc1, ho1⟩
  have hs14 := five_size s hs
  have ho1' := ((MC.Only.refl p w).alloc _).trans ho1
  clear hs ho1
  go_wp2_with fail
  refine (one_any p a zs cap (M + 2) _ _ hz (by omega) hc1).mono ?_
  rintro e w2 ⟨b, rfl, hc2, ho2⟩
  have ho2' := ho1'.trans ho2
  clear ho1' ho2 hc1
  cases b with
  | false =>
    go_wp2
    go_ret
    exact ⟨s, rfl, by omega, hc2.more (by omega), ho2'⟩
  | true =>
    go_wp2_with fail
    refine (pick_any p a zs cap (M + 4) _ _ hz (by omega) hc2).mono ?_
    rintro e w3 ⟨r, rfl, hr, _, hc3, ho3⟩
    have hr12 : r < 12 := by omega
    have ho3' := ho2'.trans ho3
    clear hr ho2' ho3 hc2
    go_wp2_with (at_make; refine wpList_make_full _ rfl _ _ 22 rfl w3.heap.size 5 i0 (.int .u8 0) 1 Tryd.underlying22 hi hz0 hz1 .i64 .i64 _ _ (390 + r) rfl rfl (by omega) (by omega) ?_ ?_ ?_ ?_)
    · rw [hz2]; omega
    · unfold maxLen; omega
    · omega
    intro w4 hown hgrow
    have hown' : w4.ownsRow w3.heap.size 5 1 (.slice (some ⟨w3.heap.size, 0, none⟩) (390 + r) (390 + r)) (390 + r) (M2.bv (List.replicate (390 + r) 0)) := by
      have := hown; simpa [zeros_bv] using this
    have hown2 : w4.ownsRow w3.heap.size 5 1 (.slice (some ⟨w3.heap.size, 0, none⟩) (390 + r) (390 + r)) (List.replicate (390 + r) (0 : UInt8)).length (M2.bv (List.replicate (390 + r) 0)) := by
      rw [List.length_replicate]; exact hown'
    have hcv := M2.conv_own (P := Tryd.prog) 22 9 5 Tryd.underlying22 Tryd.underlying5 Tryd.underlying9 hown2
    have hzs := zeros_size (390 + r)
    generalize (⟨(List.replicate (390 + r) (0 : UInt8)).toArray⟩ : ByteArray) = zz at *
    have hc4 := hc3.grown hgrow (fun k hk => by cases hk)
    have ho4 := ho3'.grown hgrow (fun k hk => by cases hk)
    have HZ : Hid (zz.size = 390 + r) := hzs
    have hz1' : zz.size ≤ 401 := by omega
    clear hown hown' hown2 hgrow ho3' hc3 hzs
    go_wp2
    go_ret
    refine ⟨_, rfl, ?_, hc4, ho4⟩
    simp; omega
end Go.Proofs.YtapojeehidhhnaaDoor
