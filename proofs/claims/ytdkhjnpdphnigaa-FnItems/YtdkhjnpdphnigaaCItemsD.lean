import Derived.Test.YtdkhjnpdphnigaaCPick
import Derived.Laws.OwnMore
import Derived.Test.YtdkhjnpdphnigaaRows
import Derived.Test.YtdkhjnpdphnigaaM11
import Derived.WalkKit
import Derived.WalkSpells
import Derived.WalkLawsBesides
import Derived.Outline
import Derived.OwnWalk
/- The cursor's of: one of some texts. -/
namespace Go.Proofs.Ytdkhjnpdphnigaa
open Go.RowKit
/-- Some texts lie at an address. -/
def StrsAt (w : World) (b off : Nat) (xs : List ByteArray) : Prop := b < w.heap.size ∧ ∀ j, j < xs.length → w.cell? ⟨b, off + j, none⟩ = some (.string (xs.getD j ⟨#[]⟩))
set_option maxHeartbeats 800000 in
set_option maxRecDepth 100000 in
theorem of_any (p : Nat) (a : Option Addr) (zs : List Int) (cap M : Nat) (b off : Nat) (xs : List ByteArray) (lc : Nat) (w : World) (hz : zs.length ≤ 140737488355328) (hM : M ≤ 140737488350000) (hc : MC.Cur w p a zs cap M)
    (hx0 : 0 < xs.length) (hx : xs.length ≤ 1048576) (hl : StrsAt w b off xs) (hp : b ≠ p) :
    Calls Try.prog 54 #[.pointer (some ⟨p, 0, none⟩), .slice (some ⟨b, off, none⟩) xs.length lc] w fun e w' => ∃ s : ByteArray, e = .returned (.string s) ∧ s ∈ xs ∧ MC.Cur w' p a zs cap (M + 2) ∧ MC.Only p w w' := by
  go_enter Try.func54, Try.ntmps54
  go_wp2_with fail
  refine (pick_any p a zs cap M _ _ hz hM hc).mono ?_
  rintro e w1 ⟨r, rfl, hr, _, hc1, ho1⟩
  have hr' : r < xs.length := by omega
  have hcell : w1.cell? ⟨b, off + r, none⟩ = some (.string (xs.getD r ⟨#[]⟩)) := (ho1.cell (x := ⟨b, off + r, none⟩) hl.1 hp).trans (hl.2 r hr')
  have hmem : xs.getD r ⟨#[]⟩ ∈ xs := by rw [List.getD_eq_getElem?_getD, List.getElem?_eq_getElem hr']; exact List.getElem_mem hr'
  generalize xs.getD r ⟨#[]⟩ = s at *
  clear hl hp
  go_wp2
  go_ret
  exact ⟨s, rfl, hmem, hc1, ho1⟩
end Go.Proofs.Ytdkhjnpdphnigaa

/- The walk of the cursor's among: one of some numbers. -/
namespace Go.Proofs.Ytdkhjnpdphnigaa
open Go.RowKit
set_option maxHeartbeats 800000 in
set_option maxRecDepth 100000 in
theorem among_any (p : Nat) (a : Option Addr) (zs : List Int) (cap M : Nat) (l : Option Addr) (xs : List Int) (lc : Nat) (w : World) (hz : zs.length ≤ 140737488355328) (hM : M ≤ 140737488350000) (hc : MC.Cur w p a zs cap M)
    (hx0 : 0 < xs.length) (hx : xs.length ≤ 1048576) (hl : M4.IntsAt w l xs) (hp : ∀ b off, l = some ⟨b, off, none⟩ → b ≠ p) :
    Calls Try.prog 37 #[.pointer (some ⟨p, 0, none⟩), .slice l xs.length lc] w fun e w' => ∃ z : Int, e = .returned (.int .i64 z) ∧ z ∈ xs ∧ MC.Cur w' p a zs cap (M + 2) ∧ MC.Only p w w' := by
  go_enter Try.func37, Try.ntmps37
  go_wp2_with fail
  refine (pick_any p a zs cap M _ _ hz hM hc).mono ?_
  rintro e w1 ⟨r, rfl, hr, _, hc1, ho1⟩
  have hr' : r < xs.length := by omega
  obtain ⟨b, off, rfl, hlt, hcell⟩ := (ho1.ints hl hp).at hr'
  have hmem : xs.getD r 0 ∈ xs := by rw [List.getD_eq_getElem?_getD, List.getElem?_eq_getElem hr']; exact List.getElem_mem hr'
  generalize xs.getD r 0 = z at *
  clear hl hp
  go_wp2
  go_ret
  exact ⟨z, rfl, hmem, hc1, ho1⟩
end Go.Proofs.Ytdkhjnpdphnigaa

/- The cursor's items: items behind those that are there, at least one and not too many. -/
namespace Go.Proofs.Ytdkhjnpdphnigaa
open Go.RowKit
theorem Try.infoItemD : (Try.prog.info? 43).map (fun i => (i.zero, i.size, i.bytes)) = some (some (.agg #[.int .i64 0, .int .i64 0, .string ⟨#[]⟩, .int .i64 0]), 4, 40) := by kernel_rfl
namespace ID
theorem new4 (W : World) (cs : List Value) (e : TypeId) (n : Nat) (hn : W.heap.size = n) : ∀ (j : Nat) (u : Value), cs[j]? = some u → (W.alloc (.cells cs.toArray e)).cell? ((⟨n, 0, none⟩ : Addr).add j) = some u := by
  intro j u h
  subst hn
  have hadd : (⟨W.heap.size, 0, none⟩ : Addr).add j = ⟨W.heap.size, j, none⟩ := by unfold Addr.add; split <;> simp_all
  rw [hadd, World.cell?_alloc_at _ _ _ _ (by rfl)]
  simpa using h
theorem one4 (x y : Int) (s : ByteArray) (z : Int) : ∀ t ∈ [Value.int .i64 x, .int .i64 y, .string s, .int .i64 z], t.oneCell' = true := by intro t ht; simp at ht; rcases ht with rfl | rfl | rfl | rfl <;> rfl
theorem flat_snoc (l : List It) (x y : Int) (s : ByteArray) (z : Int) : M11.flat l ++ [Value.int .i64 x, .int .i64 y, .string s, .int .i64 z] = M11.flat (l ++ [⟨x, y, s, z⟩]) := by rw [M11.flat_app]; rfl
theorem new_ints (w : World) (xs : List Int) (t : TypeId) : M4.IntsAt (w.alloc (.cells (M4.iv xs).toArray t)) (some ⟨w.heap.size, 0, none⟩) xs := by
  refine .inr ⟨w.heap.size, 0, rfl, by simp, fun j hj => ?_⟩
  rw [Nat.zero_add, World.cell?_alloc_at _ _ _ _ (by rfl)]
  simp [M4.iv, hj]
/-- Items with short texts and small numbers of items. -/
def Sm (xs : List It) : Prop := ∀ x ∈ xs, x.text.size ≤ 10 ∧ x.many ≤ 1000000001
theorem Sm.nil : Sm [] := fun _ h => by cases h
theorem Sm.snoc {xs : List It} {x : It} (h : Sm xs) (hx : x.text.size ≤ 10 ∧ x.many ≤ 1000000001) : Sm (xs ++ [x]) := by
  intro y hy
  rcases List.mem_append.1 hy with h1 | h1
  · exact h y h1
  · rw [List.mem_singleton.1 h1]; exact hx
theorem Sm.wf {xs : List It} (h : Sm xs) : M11.Wf xs := by
  intro j hj
  rw [M11.at_eq xs j hj]
  have := h xs[j] (List.getElem_mem hj)
  omega
/-- How many items there may come of it. -/
def sz : Nat → Nat
  | 0 => 1
  | d + 1 => 1 + 3 * sz d
theorem sz_pos (d : Nat) : 1 ≤ sz d := by cases d <;> simp [sz]
end ID
def threeB : List ByteArray := [⟨#[]⟩, ⟨#[0, 1]⟩, ⟨#[97, 98]⟩]
theorem threeB_at (w : World) : StrsAt (w.alloc (.cells #[.string ⟨#[]⟩, .string ⟨#[0, 1]⟩, .string ⟨#[97, 98]⟩] 9)) w.heap.size 0 threeB := by
  refine ⟨by simp, fun j hj => ?_⟩
  rw [Nat.zero_add, World.cell?_alloc_at _ _ _ _ (by rfl)]
  have : j < 3 := hj
  match j, this with
  | 0, _ | 1, _ | 2, _ => rfl
theorem threeB_size (s : ByteArray) (h : s ∈ threeB) : s.size ≤ 10 := by
  simp only [threeB, List.mem_cons, List.not_mem_nil, or_false] at h
  rcases h with rfl | rfl | rfl <;> decide
def threeT : List ByteArray := [⟨#[]⟩, ⟨#[120]⟩, ⟨#[110, 97, 109, 101, 32, 111, 102, 32, 105, 116]⟩]
theorem threeT_at (w : World) : StrsAt (w.alloc (.cells #[.string ⟨#[]⟩, .string ⟨#[120]⟩, .string ⟨#[110, 97, 109, 101, 32, 111, 102, 32, 105, 116]⟩] 9)) w.heap.size 0 threeT := by
  refine ⟨by simp, fun j hj => ?_⟩
  rw [Nat.zero_add, World.cell?_alloc_at _ _ _ _ (by rfl)]
  have : j < 3 := hj
  match j, this with
  | 0, _ | 1, _ | 2, _ => rfl
theorem threeT_size (s : ByteArray) (h : s ∈ threeT) : s.size ≤ 10 := by
  simp only [threeT, List.mem_cons, List.not_mem_nil, or_false] at h
  rcases h with rfl | rfl | rfl <;> decide
set_option maxHeartbeats 6400000 in
set_option maxRecDepth 100000 in
theorem items_any (p : Nat) (a : Option Addr) (zs : List Int) (cap : Nat) (w0 : World) (hz : zs.length ≤ 140737488355328) (hpl : p < w0.heap.size) : ∀ (d : Nat) (deep : Int) (M : Nat) (v : Value) (xs : List It) (w : World),
    deep ≤ (d : Int) → d ≤ 100 → M + 10 * ID.sz d ≤ 140737488340000 → xs.length + ID.sz d ≤ 100000 → MC.Cur w p a zs cap M → w.ownsRow w0.heap.size 43 4 v xs.length (M11.flat xs) → ID.Sm xs → MC.Only p w0 w →
    Calls Try.prog 47 #[.pointer (some ⟨p, 0, none⟩), .int .i64 deep, v] w fun e w' => ∃ v' ys, e = .returned v' ∧ w'.ownsRow w0.heap.size 43 4 v' (List.length ys) (M11.flat ys) ∧ xs.length < ys.length ∧ ys.length ≤ xs.length + ID.sz d ∧ ID.Sm ys ∧ MC.Cur w' p a zs cap (M + 10 * ID.sz d) ∧ MC.Only p w0 w' := by
  obtain ⟨i2, hi', hz0', hz1', hz2'⟩ := info_parts Try.infoItemD
  intro d
  induction d with
  | zero =>
    intro deep M v xs w h0 _ hM hxl hc hown hsm hor
    replace hxl : xs.length + 1 ≤ 100000 := hxl
    replace hM : M + 10 ≤ 140737488340000 := hM
    have h0' : deep ≤ 0 := by omega
    go_enter Try.func47, Try.ntmps47
    go_wp2_with fail
    replace hc := hc.more (M' := M + 2) (by omega)
    refine (pick_any p a zs cap (M + 2) _ _ hz (by omega) hc).mono ?_
    rintro e w1 ⟨r, rfl, hr, hx, hc1, ho1⟩
    replace hown := MC.own_only hown ho1 hpl
    replace hor := hor.trans ho1
    clear hc ho1
    have hc := hc1
    clear hc1
    by_cases r0 : r = 0
    · subst r0
      have hsw := hor.size
      have h3 := threeB_at w1
      replace hc := hc.alloc (.cells #[.string ⟨#[]⟩, .string ⟨#[0, 1]⟩, .string ⟨#[97, 98]⟩] 9)
      replace hown := hown.alloc (.cells #[.string ⟨#[]⟩, .string ⟨#[0, 1]⟩, .string ⟨#[97, 98]⟩] 9)
      replace hor := hor.alloc (.cells #[.string ⟨#[]⟩, .string ⟨#[0, 1]⟩, .string ⟨#[97, 98]⟩] 9)
      go_wp2_with fail
      refine (of_any p a zs cap (M + 4) w1.heap.size 0 threeB 3 _ hz (by omega) hc (by decide) (by decide) h3 (by omega)).mono ?_
      rintro e w2 ⟨s, rfl, hs, hc2, ho2⟩
      replace hs := threeB_size s hs
      replace hown := MC.own_only hown ho2 hpl
      replace hor := hor.trans ho2
      clear hc ho2 h3
      have hc := hc2
      clear hc2
      go_wp2_with (at_builtin; refine wpList_append_own _ rfl _ _ 23 rfl w0.heap.size 43 i2 (.agg #[.int .i64 0, .int .i64 0, .string ⟨#[]⟩, .int .i64 0]) 4 40 Try.underlying23 hi' hz0' hz1' hz2' rfl (by decide) _ _ _ rfl (hown.alloc _) ⟨w2.heap.size, 0, none⟩ 1 1 [.int .i64 2, .int .i64 0, .string s, .int .i64 0] rfl rfl ?c11 ?c12 ?c13 ?c14 ?c15 ?_)
      case c11 => exact ID.new4 _ _ _ _ rfl
      case c12 => exact ID.one4 _ _ _ _
      case c13 => unfold maxLen; omega
      case c14 => omega
      case c15 => have := hor.size; simp; omega
      intro v' wn hown1 hgrow _
      have R1 : wn.ownsRow w0.heap.size 43 4 v' (xs ++ [(⟨2, 0, s, 0⟩ : It)]).length (M11.flat (xs ++ [⟨2, 0, s, 0⟩])) := by rw [← ID.flat_snoc, List.length_append]; exact hown1
      have R2 := (hc.alloc _).grown hgrow (fun j hj => by have := (hown.lt j hj).1; omega)
      have R3 := (hor.alloc _).grown hgrow (fun j hj => (hown.lt j hj).1)
      have R4 : ID.Sm (xs ++ [(⟨2, 0, s, 0⟩ : It)]) := hsm.snoc ⟨hs, show (0 : Int) ≤ 1000000001 by decide⟩
      have hl2 : (xs ++ [(⟨2, 0, s, 0⟩ : It)]).length = xs.length + 1 := by simp
      clear hown1 hgrow hown hc hor hsm
      generalize xs ++ [(⟨2, 0, s, 0⟩ : It)] = l2 at *
      have hcE := R2.more (M' := M + 10 * ID.sz 0) (by have := ID.sz_pos 0; omega)
      go_wp2
      go_ret
      exact ⟨v', l2, rfl, R1, by omega, by have := ID.sz_pos 0; omega, R4, hcE, R3⟩
    · by_cases r1 : r = 1
      · subst r1
        have hsw := hor.size
        have h3 := threeT_at w1
        replace hc := hc.alloc (.cells #[.string ⟨#[]⟩, .string ⟨#[120]⟩, .string ⟨#[110, 97, 109, 101, 32, 111, 102, 32, 105, 116]⟩] 9)
        replace hown := hown.alloc (.cells #[.string ⟨#[]⟩, .string ⟨#[120]⟩, .string ⟨#[110, 97, 109, 101, 32, 111, 102, 32, 105, 116]⟩] 9)
        replace hor := hor.alloc (.cells #[.string ⟨#[]⟩, .string ⟨#[120]⟩, .string ⟨#[110, 97, 109, 101, 32, 111, 102, 32, 105, 116]⟩] 9)
        go_wp2_with fail
        refine (of_any p a zs cap (M + 4) w1.heap.size 0 threeT 3 _ hz (by omega) hc (by decide) (by decide) h3 (by omega)).mono ?_
        rintro e w2 ⟨s, rfl, hs, hc2, ho2⟩
        replace hs := threeT_size s hs
        replace hown := MC.own_only hown ho2 hpl
        replace hor := hor.trans ho2
        clear hc ho2 h3
        have hc := hc2
        clear hc2
        go_wp2_with (at_builtin; refine wpList_append_own _ rfl _ _ 23 rfl w0.heap.size 43 i2 (.agg #[.int .i64 0, .int .i64 0, .string ⟨#[]⟩, .int .i64 0]) 4 40 Try.underlying23 hi' hz0' hz1' hz2' rfl (by decide) _ _ _ rfl (hown.alloc _) ⟨w2.heap.size, 0, none⟩ 1 1 [.int .i64 3, .int .i64 0, .string s, .int .i64 0] rfl rfl ?c21 ?c22 ?c23 ?c24 ?c25 ?_)
        case c21 => exact ID.new4 _ _ _ _ rfl
        case c22 => exact ID.one4 _ _ _ _
        case c23 => unfold maxLen; omega
        case c24 => omega
        case c25 => have := hor.size; simp; omega
        intro v' wn hown1 hgrow _
        have R1 : wn.ownsRow w0.heap.size 43 4 v' (xs ++ [(⟨3, 0, s, 0⟩ : It)]).length (M11.flat (xs ++ [⟨3, 0, s, 0⟩])) := by rw [← ID.flat_snoc, List.length_append]; exact hown1
        have R2 := (hc.alloc _).grown hgrow (fun j hj => by have := (hown.lt j hj).1; omega)
        have R3 := (hor.alloc _).grown hgrow (fun j hj => (hown.lt j hj).1)
        have R4 : ID.Sm (xs ++ [(⟨3, 0, s, 0⟩ : It)]) := hsm.snoc ⟨hs, show (0 : Int) ≤ 1000000001 by decide⟩
        have hl2 : (xs ++ [(⟨3, 0, s, 0⟩ : It)]).length = xs.length + 1 := by simp
        clear hown1 hgrow hown hc hor hsm
        generalize xs ++ [(⟨3, 0, s, 0⟩ : It)] = l2 at *
        have hcE := R2.more (M' := M + 10 * ID.sz 0) (by have := ID.sz_pos 0; omega)
        go_wp2
        go_ret
        exact ⟨v', l2, rfl, R1, by omega, by have := ID.sz_pos 0; omega, R4, hcE, R3⟩
      · have e0 : ((r : Int) == 0) = false := by simp; omega
        have e1 : ((r : Int) == 1) = false := by simp; omega
        have hsw := hor.size
        replace hc := hc.alloc (.cells #[.int .i64 0, .int .i64 1, .int .i64 23, .int .i64 24, .int .i64 255, .int .i64 256, .int .i64 65535, .int .i64 65536, .int .i64 1000000000] 3)
        replace hown := hown.alloc (.cells #[.int .i64 0, .int .i64 1, .int .i64 23, .int .i64 24, .int .i64 255, .int .i64 256, .int .i64 65535, .int .i64 65536, .int .i64 1000000000] 3)
        replace hor := hor.alloc (.cells #[.int .i64 0, .int .i64 1, .int .i64 23, .int .i64 24, .int .i64 255, .int .i64 256, .int .i64 65535, .int .i64 65536, .int .i64 1000000000] 3)
        go_wp2_with fail
        refine (among_any p a zs cap (M + 4) (some ⟨w1.heap.size, 0, none⟩) [0, 1, 23, 24, 255, 256, 65535, 65536, 1000000000] 9 _ hz (by omega) hc (by simp) (by simp) (ID.new_ints w1 [0, 1, 23, 24, 255, 256, 65535, 65536, 1000000000] 3) (fun b off e => by simp at e; omega)).mono ?_
        rintro e w2 ⟨z, rfl, hzm, hc2, ho2⟩
        replace hown := MC.own_only hown ho2 hpl
        replace hor := hor.trans ho2
        clear hc ho2 hzm
        have hc := hc2
        clear hc2
        go_wp2_with (at_builtin; refine wpList_append_own _ rfl _ _ 23 rfl w0.heap.size 43 i2 (.agg #[.int .i64 0, .int .i64 0, .string ⟨#[]⟩, .int .i64 0]) 4 40 Try.underlying23 hi' hz0' hz1' hz2' rfl (by decide) _ _ _ rfl (hown.alloc _) ⟨w2.heap.size, 0, none⟩ 1 1 [.int .i64 1, .int .i64 z, .string ⟨#[]⟩, .int .i64 0] rfl rfl ?c31 ?c32 ?c33 ?c34 ?c35 ?_)
        case c31 => exact ID.new4 _ _ _ _ rfl
        case c32 => exact ID.one4 _ _ _ _
        case c33 => unfold maxLen; omega
        case c34 => omega
        case c35 => have := hor.size; simp; omega
        intro v' wn hown1 hgrow _
        have R1 : wn.ownsRow w0.heap.size 43 4 v' (xs ++ [(⟨1, z, ⟨#[]⟩, 0⟩ : It)]).length (M11.flat (xs ++ [⟨1, z, ⟨#[]⟩, 0⟩])) := by rw [← ID.flat_snoc, List.length_append]; exact hown1
        have R2 := (hc.alloc _).grown hgrow (fun j hj => by have := (hown.lt j hj).1; omega)
        have R3 := (hor.alloc _).grown hgrow (fun j hj => (hown.lt j hj).1)
        have R4 : ID.Sm (xs ++ [(⟨1, z, ⟨#[]⟩, 0⟩ : It)]) := hsm.snoc ⟨show (⟨#[]⟩ : ByteArray).size ≤ 10 by decide, show (0 : Int) ≤ 1000000001 by decide⟩
        have hl2 : (xs ++ [(⟨1, z, ⟨#[]⟩, 0⟩ : It)]).length = xs.length + 1 := by simp
        clear hown1 hgrow hown hc hor hsm
        generalize xs ++ [(⟨1, z, ⟨#[]⟩, 0⟩ : It)] = l2 at *
        have hcE := R2.more (M' := M + 10 * ID.sz 0) (by have := ID.sz_pos 0; omega)
        go_wp2
        go_ret
        exact ⟨v', l2, rfl, R1, by omega, by have := ID.sz_pos 0; omega, R4, hcE, R3⟩
  | succ d ih =>
    intro deep M v xs w hd h100 hM hxl hc hown hsm hor
    have hsz : ID.sz (d + 1) = 1 + 3 * ID.sz d := rfl
    have hsp := ID.sz_pos d
    rw [hsz] at hM hxl ⊢
    by_cases h0' : deep ≤ 0
    · clear ih
      go_enter Try.func47, Try.ntmps47
      go_wp2_with fail
      replace hc := hc.more (M' := M + 2) (by omega)
      refine (pick_any p a zs cap (M + 2) _ _ hz (by omega) hc).mono ?_
      rintro e w1 ⟨r, rfl, hr, hx, hc1, ho1⟩
      replace hown := MC.own_only hown ho1 hpl
      replace hor := hor.trans ho1
      clear hc ho1
      have hc := hc1
      clear hc1
      by_cases r0 : r = 0
      · subst r0
        have hsw := hor.size
        have h3 := threeB_at w1
        replace hc := hc.alloc (.cells #[.string ⟨#[]⟩, .string ⟨#[0, 1]⟩, .string ⟨#[97, 98]⟩] 9)
        replace hown := hown.alloc (.cells #[.string ⟨#[]⟩, .string ⟨#[0, 1]⟩, .string ⟨#[97, 98]⟩] 9)
        replace hor := hor.alloc (.cells #[.string ⟨#[]⟩, .string ⟨#[0, 1]⟩, .string ⟨#[97, 98]⟩] 9)
        go_wp2_with fail
        refine (of_any p a zs cap (M + 4) w1.heap.size 0 threeB 3 _ hz (by omega) hc (by decide) (by decide) h3 (by omega)).mono ?_
        rintro e w2 ⟨s, rfl, hs, hc2, ho2⟩
        replace hs := threeB_size s hs
        replace hown := MC.own_only hown ho2 hpl
        replace hor := hor.trans ho2
        clear hc ho2 h3
        have hc := hc2
        clear hc2
        go_wp2_with (at_builtin; refine wpList_append_own _ rfl _ _ 23 rfl w0.heap.size 43 i2 (.agg #[.int .i64 0, .int .i64 0, .string ⟨#[]⟩, .int .i64 0]) 4 40 Try.underlying23 hi' hz0' hz1' hz2' rfl (by decide) _ _ _ rfl (hown.alloc _) ⟨w2.heap.size, 0, none⟩ 1 1 [.int .i64 2, .int .i64 0, .string s, .int .i64 0] rfl rfl ?c41 ?c42 ?c43 ?c44 ?c45 ?_)
        case c41 => exact ID.new4 _ _ _ _ rfl
        case c42 => exact ID.one4 _ _ _ _
        case c43 => unfold maxLen; omega
        case c44 => omega
        case c45 => have := hor.size; simp; omega
        intro v' wn hown1 hgrow _
        have R1 : wn.ownsRow w0.heap.size 43 4 v' (xs ++ [(⟨2, 0, s, 0⟩ : It)]).length (M11.flat (xs ++ [⟨2, 0, s, 0⟩])) := by rw [← ID.flat_snoc, List.length_append]; exact hown1
        have R2 := (hc.alloc _).grown hgrow (fun j hj => by have := (hown.lt j hj).1; omega)
        have R3 := (hor.alloc _).grown hgrow (fun j hj => (hown.lt j hj).1)
        have R4 : ID.Sm (xs ++ [(⟨2, 0, s, 0⟩ : It)]) := hsm.snoc ⟨hs, show (0 : Int) ≤ 1000000001 by decide⟩
        have hl2 : (xs ++ [(⟨2, 0, s, 0⟩ : It)]).length = xs.length + 1 := by simp
        clear hown1 hgrow hown hc hor hsm
        generalize xs ++ [(⟨2, 0, s, 0⟩ : It)] = l2 at *
        have hcE := R2.more (M' := M + 10 * (1 + 3 * ID.sz d)) (by omega)
        go_wp2
        go_ret
        exact ⟨v', l2, rfl, R1, by omega, by omega, R4, hcE, R3⟩
      · by_cases r1 : r = 1
        · subst r1
          have hsw := hor.size
          have h3 := threeT_at w1
          replace hc := hc.alloc (.cells #[.string ⟨#[]⟩, .string ⟨#[120]⟩, .string ⟨#[110, 97, 109, 101, 32, 111, 102, 32, 105, 116]⟩] 9)
          replace hown := hown.alloc (.cells #[.string ⟨#[]⟩, .string ⟨#[120]⟩, .string ⟨#[110, 97, 109, 101, 32, 111, 102, 32, 105, 116]⟩] 9)
          replace hor := hor.alloc (.cells #[.string ⟨#[]⟩, .string ⟨#[120]⟩, .string ⟨#[110, 97, 109, 101, 32, 111, 102, 32, 105, 116]⟩] 9)
          go_wp2_with fail
          refine (of_any p a zs cap (M + 4) w1.heap.size 0 threeT 3 _ hz (by omega) hc (by decide) (by decide) h3 (by omega)).mono ?_
          rintro e w2 ⟨s, rfl, hs, hc2, ho2⟩
          replace hs := threeT_size s hs
          replace hown := MC.own_only hown ho2 hpl
          replace hor := hor.trans ho2
          clear hc ho2 h3
          have hc := hc2
          clear hc2
          go_wp2_with (at_builtin; refine wpList_append_own _ rfl _ _ 23 rfl w0.heap.size 43 i2 (.agg #[.int .i64 0, .int .i64 0, .string ⟨#[]⟩, .int .i64 0]) 4 40 Try.underlying23 hi' hz0' hz1' hz2' rfl (by decide) _ _ _ rfl (hown.alloc _) ⟨w2.heap.size, 0, none⟩ 1 1 [.int .i64 3, .int .i64 0, .string s, .int .i64 0] rfl rfl ?c51 ?c52 ?c53 ?c54 ?c55 ?_)
          case c51 => exact ID.new4 _ _ _ _ rfl
          case c52 => exact ID.one4 _ _ _ _
          case c53 => unfold maxLen; omega
          case c54 => omega
          case c55 => have := hor.size; simp; omega
          intro v' wn hown1 hgrow _
          have R1 : wn.ownsRow w0.heap.size 43 4 v' (xs ++ [(⟨3, 0, s, 0⟩ : It)]).length (M11.flat (xs ++ [⟨3, 0, s, 0⟩])) := by rw [← ID.flat_snoc, List.length_append]; exact hown1
          have R2 := (hc.alloc _).grown hgrow (fun j hj => by have := (hown.lt j hj).1; omega)
          have R3 := (hor.alloc _).grown hgrow (fun j hj => (hown.lt j hj).1)
          have R4 : ID.Sm (xs ++ [(⟨3, 0, s, 0⟩ : It)]) := hsm.snoc ⟨hs, show (0 : Int) ≤ 1000000001 by decide⟩
          have hl2 : (xs ++ [(⟨3, 0, s, 0⟩ : It)]).length = xs.length + 1 := by simp
          clear hown1 hgrow hown hc hor hsm
          generalize xs ++ [(⟨3, 0, s, 0⟩ : It)] = l2 at *
          have hcE := R2.more (M' := M + 10 * (1 + 3 * ID.sz d)) (by omega)
          go_wp2
          go_ret
          exact ⟨v', l2, rfl, R1, by omega, by omega, R4, hcE, R3⟩
        · have e0 : ((r : Int) == 0) = false := by simp; omega
          have e1 : ((r : Int) == 1) = false := by simp; omega
          have hsw := hor.size
          replace hc := hc.alloc (.cells #[.int .i64 0, .int .i64 1, .int .i64 23, .int .i64 24, .int .i64 255, .int .i64 256, .int .i64 65535, .int .i64 65536, .int .i64 1000000000] 3)
          replace hown := hown.alloc (.cells #[.int .i64 0, .int .i64 1, .int .i64 23, .int .i64 24, .int .i64 255, .int .i64 256, .int .i64 65535, .int .i64 65536, .int .i64 1000000000] 3)
          replace hor := hor.alloc (.cells #[.int .i64 0, .int .i64 1, .int .i64 23, .int .i64 24, .int .i64 255, .int .i64 256, .int .i64 65535, .int .i64 65536, .int .i64 1000000000] 3)
          go_wp2_with fail
          refine (among_any p a zs cap (M + 4) (some ⟨w1.heap.size, 0, none⟩) [0, 1, 23, 24, 255, 256, 65535, 65536, 1000000000] 9 _ hz (by omega) hc (by simp) (by simp) (ID.new_ints w1 [0, 1, 23, 24, 255, 256, 65535, 65536, 1000000000] 3) (fun b off e => by simp at e; omega)).mono ?_
          rintro e w2 ⟨z, rfl, hzm, hc2, ho2⟩
          replace hown := MC.own_only hown ho2 hpl
          replace hor := hor.trans ho2
          clear hc ho2 hzm
          have hc := hc2
          clear hc2
          go_wp2_with (at_builtin; refine wpList_append_own _ rfl _ _ 23 rfl w0.heap.size 43 i2 (.agg #[.int .i64 0, .int .i64 0, .string ⟨#[]⟩, .int .i64 0]) 4 40 Try.underlying23 hi' hz0' hz1' hz2' rfl (by decide) _ _ _ rfl (hown.alloc _) ⟨w2.heap.size, 0, none⟩ 1 1 [.int .i64 1, .int .i64 z, .string ⟨#[]⟩, .int .i64 0] rfl rfl ?c61 ?c62 ?c63 ?c64 ?c65 ?_)
          case c61 => exact ID.new4 _ _ _ _ rfl
          case c62 => exact ID.one4 _ _ _ _
          case c63 => unfold maxLen; omega
          case c64 => omega
          case c65 => have := hor.size; simp; omega
          intro v' wn hown1 hgrow _
          have R1 : wn.ownsRow w0.heap.size 43 4 v' (xs ++ [(⟨1, z, ⟨#[]⟩, 0⟩ : It)]).length (M11.flat (xs ++ [⟨1, z, ⟨#[]⟩, 0⟩])) := by rw [← ID.flat_snoc, List.length_append]; exact hown1
          have R2 := (hc.alloc _).grown hgrow (fun j hj => by have := (hown.lt j hj).1; omega)
          have R3 := (hor.alloc _).grown hgrow (fun j hj => (hown.lt j hj).1)
          have R4 : ID.Sm (xs ++ [(⟨1, z, ⟨#[]⟩, 0⟩ : It)]) := hsm.snoc ⟨show (⟨#[]⟩ : ByteArray).size ≤ 10 by decide, show (0 : Int) ≤ 1000000001 by decide⟩
          have hl2 : (xs ++ [(⟨1, z, ⟨#[]⟩, 0⟩ : It)]).length = xs.length + 1 := by simp
          clear hown1 hgrow hown hc hor hsm
          generalize xs ++ [(⟨1, z, ⟨#[]⟩, 0⟩ : It)] = l2 at *
          have hcE := R2.more (M' := M + 10 * (1 + 3 * ID.sz d)) (by omega)
          go_wp2
          go_ret
          exact ⟨v', l2, rfl, R1, by omega, by omega, R4, hcE, R3⟩
    · have h0n : decide (deep ≤ 0) = false := decide_eq_false h0'
      go_enter Try.func47, Try.ntmps47
      go_wp2_with fail
      refine (one_any p a zs cap M _ _ hz (by omega) hc).mono ?_
      rintro e w9 ⟨b9, rfl, hc9, ho9⟩
      replace hown := MC.own_only hown ho9 hpl
      replace hor := hor.trans ho9
      clear hc ho9
      have hc := hc9
      clear hc9
      cases b9
      · go_wp2_with fail
        refine (pick_any p a zs cap (M + 2) _ _ hz (by omega) hc).mono ?_
        rintro e w8 ⟨r, rfl, hr, hx, hc8, ho8⟩
        replace hown := MC.own_only hown ho8 hpl
        replace hor := hor.trans ho8
        clear hc ho8
        have hc := hc8
        clear hc8
        have hr3 : r ≤ 3 := by omega
        go_wp2_with (at_builtin; refine wpList_append_own _ rfl _ _ 23 rfl w0.heap.size 43 i2 (.agg #[.int .i64 0, .int .i64 0, .string ⟨#[]⟩, .int .i64 0]) 4 40 Try.underlying23 hi' hz0' hz1' hz2' rfl (by decide) _ _ _ rfl (hown.alloc _) ⟨w8.heap.size, 0, none⟩ 1 1 [.int .i64 4, .int .i64 0, .string ⟨#[]⟩, .int .i64 (r : Int)] rfl rfl ?c71 ?c72 ?c73 ?c74 ?c75 ?_)
        case c71 => exact ID.new4 _ _ _ _ rfl
        case c72 => exact ID.one4 _ _ _ _
        case c73 => unfold maxLen; omega
        case c74 => omega
        case c75 => have := hor.size; simp; omega
        intro v' wn hown1 hgrow _
        have R1 : wn.ownsRow w0.heap.size 43 4 v' (xs ++ [(⟨4, 0, ⟨#[]⟩, (r : Int)⟩ : It)]).length (M11.flat (xs ++ [⟨4, 0, ⟨#[]⟩, (r : Int)⟩])) := by rw [← ID.flat_snoc, List.length_append]; exact hown1
        have R2 := (hc.alloc _).grown hgrow (fun j hj => by have := (hown.lt j hj).1; omega)
        have R3 := (hor.alloc _).grown hgrow (fun j hj => (hown.lt j hj).1)
        have R4 : ID.Sm (xs ++ [(⟨4, 0, ⟨#[]⟩, (r : Int)⟩ : It)]) := hsm.snoc ⟨show (⟨#[]⟩ : ByteArray).size ≤ 10 by decide, show (r : Int) ≤ 1000000001 by omega⟩
        have hl2 : (xs ++ [(⟨4, 0, ⟨#[]⟩, (r : Int)⟩ : It)]).length = xs.length + 1 := by simp
        clear hown1 hgrow hown hc hor hsm
        generalize xs ++ [(⟨4, 0, ⟨#[]⟩, (r : Int)⟩ : It)] = l2 at *
        have HR1 : Hid _ := R1
        have HR2 : Hid _ := R2
        have HR3 : Hid _ := R3
        have HR4 : Hid _ := R4
        have IH : Hid _ := ih
        have hwd : IntKind.i64.wrap (deep - 1) = deep - 1 := by rw [IntKind.wrap_i64]; omega
        clear R1 R2 R3 R4 ih
        go_wp2
        go_loopw [2, 7] (fun ov nv wr => ∃ (m : Nat) (ys : List It) (M' : Nat), nv = .int .i64 (m : Int) ∧ m ≤ r ∧ wr.ownsRow w0.heap.size 43 4 ov ys.length (M11.flat ys) ∧ xs.length < ys.length ∧ ys.length + m * ID.sz d ≤ xs.length + 1 + r * ID.sz d ∧ ID.Sm ys ∧ MC.Cur wr p a zs cap M' ∧ M' + m * (10 * ID.sz d) ≤ M + 4 + r * (10 * ID.sz d) ∧ MC.Only p w0 wr) (fun _ nv _ => (intOf nv).toNat)
        case atStart => exact ⟨r, l2, M + 2 + 2, rfl, Nat.le_refl _, HR1.out, by omega, by omega, HR4.out, HR2.out, by omega, HR3.out⟩
        case round =>
          clear HR1 HR2 HR3 HR4
          obtain ⟨m, ys, M', rfl, hm, hown, hyl, hyt, hsm, hc, hMt, hor⟩ := hrel
          have hr1 : r * ID.sz d ≤ 3 * ID.sz d := Nat.mul_le_mul_right _ hr3
          have hr2 : r * (10 * ID.sz d) ≤ 3 * (10 * ID.sz d) := Nat.mul_le_mul_right _ hr3
          by_cases hm0 : 0 < m
          · obtain ⟨k, rfl⟩ : ∃ k, m = k + 1 := ⟨m - 1, by omega⟩
            rw [Nat.add_mul, Nat.one_mul] at hyt hMt
            have hm1 : (0 : Int) < ((k + 1 : Nat) : Int) := by omega
            go_wp2_with fail
            refine (IH.out (deep - 1) M' _ ys wr (by omega) (by omega) (by omega) (by omega) hc hown hsm hor).mono ?_
            rintro e w7 ⟨v7, y7, rfl, ho7, hl7, hu7, hs7, hc7, hr7⟩
            have HO7 : Hid _ := ho7
            have HC7 : Hid _ := hc7
            clear hc hown hsm hor IH ho7 hc7
            go_wp2
            go_roundw
            case rel => exact ⟨k, y7, M' + 10 * ID.sz d, by go_num, by omega, HO7.out, by omega, by omega, hs7, HC7.out, by omega, hr7⟩
            case measure => simp [intOf]
          · obtain rfl : m = 0 := by omega
            rw [Nat.zero_mul, Nat.add_zero] at hyt hMt
            have hcE := hc.more (M' := M + 10 * (1 + 3 * ID.sz d)) (by omega)
            clear hc IH
            go_wp2
            go_ret
            exact ⟨_, ys, rfl, hown, hyl, by omega, hsm, hcE, hor⟩
      · go_wp2_with fail
        refine (pick_any p a zs cap (M + 2) _ _ hz (by omega) hc).mono ?_
        rintro e w1 ⟨r, rfl, hr, hx, hc1, ho1⟩
        replace hown := MC.own_only hown ho1 hpl
        replace hor := hor.trans ho1
        clear hc ho1
        have hc := hc1
        clear hc1
        by_cases r0 : r = 0
        · subst r0
          have hsw := hor.size
          have h3 := threeB_at w1
          replace hc := hc.alloc (.cells #[.string ⟨#[]⟩, .string ⟨#[0, 1]⟩, .string ⟨#[97, 98]⟩] 9)
          replace hown := hown.alloc (.cells #[.string ⟨#[]⟩, .string ⟨#[0, 1]⟩, .string ⟨#[97, 98]⟩] 9)
          replace hor := hor.alloc (.cells #[.string ⟨#[]⟩, .string ⟨#[0, 1]⟩, .string ⟨#[97, 98]⟩] 9)
          go_wp2_with fail
          refine (of_any p a zs cap (M + 4) w1.heap.size 0 threeB 3 _ hz (by omega) hc (by decide) (by decide) h3 (by omega)).mono ?_
          rintro e w2 ⟨s, rfl, hs, hc2, ho2⟩
          replace hs := threeB_size s hs
          replace hown := MC.own_only hown ho2 hpl
          replace hor := hor.trans ho2
          clear hc ho2 h3
          have hc := hc2
          clear hc2
          go_wp2_with (at_builtin; refine wpList_append_own _ rfl _ _ 23 rfl w0.heap.size 43 i2 (.agg #[.int .i64 0, .int .i64 0, .string ⟨#[]⟩, .int .i64 0]) 4 40 Try.underlying23 hi' hz0' hz1' hz2' rfl (by decide) _ _ _ rfl (hown.alloc _) ⟨w2.heap.size, 0, none⟩ 1 1 [.int .i64 2, .int .i64 0, .string s, .int .i64 0] rfl rfl ?c81 ?c82 ?c83 ?c84 ?c85 ?_)
          case c81 => exact ID.new4 _ _ _ _ rfl
          case c82 => exact ID.one4 _ _ _ _
          case c83 => unfold maxLen; omega
          case c84 => omega
          case c85 => have := hor.size; simp; omega
          intro v' wn hown1 hgrow _
          have R1 : wn.ownsRow w0.heap.size 43 4 v' (xs ++ [(⟨2, 0, s, 0⟩ : It)]).length (M11.flat (xs ++ [⟨2, 0, s, 0⟩])) := by rw [← ID.flat_snoc, List.length_append]; exact hown1
          have R2 := (hc.alloc _).grown hgrow (fun j hj => by have := (hown.lt j hj).1; omega)
          have R3 := (hor.alloc _).grown hgrow (fun j hj => (hown.lt j hj).1)
          have R4 : ID.Sm (xs ++ [(⟨2, 0, s, 0⟩ : It)]) := hsm.snoc ⟨hs, show (0 : Int) ≤ 1000000001 by decide⟩
          have hl2 : (xs ++ [(⟨2, 0, s, 0⟩ : It)]).length = xs.length + 1 := by simp
          clear hown1 hgrow hown hc hor hsm
          generalize xs ++ [(⟨2, 0, s, 0⟩ : It)] = l2 at *
          have hcE := R2.more (M' := M + 10 * (1 + 3 * ID.sz d)) (by omega)
          go_wp2
          go_ret
          exact ⟨v', l2, rfl, R1, by omega, by omega, R4, hcE, R3⟩
        · by_cases r1 : r = 1
          · subst r1
            have hsw := hor.size
            have h3 := threeT_at w1
            replace hc := hc.alloc (.cells #[.string ⟨#[]⟩, .string ⟨#[120]⟩, .string ⟨#[110, 97, 109, 101, 32, 111, 102, 32, 105, 116]⟩] 9)
            replace hown := hown.alloc (.cells #[.string ⟨#[]⟩, .string ⟨#[120]⟩, .string ⟨#[110, 97, 109, 101, 32, 111, 102, 32, 105, 116]⟩] 9)
            replace hor := hor.alloc (.cells #[.string ⟨#[]⟩, .string ⟨#[120]⟩, .string ⟨#[110, 97, 109, 101, 32, 111, 102, 32, 105, 116]⟩] 9)
            go_wp2_with fail
            refine (of_any p a zs cap (M + 4) w1.heap.size 0 threeT 3 _ hz (by omega) hc (by decide) (by decide) h3 (by omega)).mono ?_
            rintro e w2 ⟨s, rfl, hs, hc2, ho2⟩
            replace hs := threeT_size s hs
            replace hown := MC.own_only hown ho2 hpl
            replace hor := hor.trans ho2
            clear hc ho2 h3
            have hc := hc2
            clear hc2
            go_wp2_with (at_builtin; refine wpList_append_own _ rfl _ _ 23 rfl w0.heap.size 43 i2 (.agg #[.int .i64 0, .int .i64 0, .string ⟨#[]⟩, .int .i64 0]) 4 40 Try.underlying23 hi' hz0' hz1' hz2' rfl (by decide) _ _ _ rfl (hown.alloc _) ⟨w2.heap.size, 0, none⟩ 1 1 [.int .i64 3, .int .i64 0, .string s, .int .i64 0] rfl rfl ?c91 ?c92 ?c93 ?c94 ?c95 ?_)
            case c91 => exact ID.new4 _ _ _ _ rfl
            case c92 => exact ID.one4 _ _ _ _
            case c93 => unfold maxLen; omega
            case c94 => omega
            case c95 => have := hor.size; simp; omega
            intro v' wn hown1 hgrow _
            have R1 : wn.ownsRow w0.heap.size 43 4 v' (xs ++ [(⟨3, 0, s, 0⟩ : It)]).length (M11.flat (xs ++ [⟨3, 0, s, 0⟩])) := by rw [← ID.flat_snoc, List.length_append]; exact hown1
            have R2 := (hc.alloc _).grown hgrow (fun j hj => by have := (hown.lt j hj).1; omega)
            have R3 := (hor.alloc _).grown hgrow (fun j hj => (hown.lt j hj).1)
            have R4 : ID.Sm (xs ++ [(⟨3, 0, s, 0⟩ : It)]) := hsm.snoc ⟨hs, show (0 : Int) ≤ 1000000001 by decide⟩
            have hl2 : (xs ++ [(⟨3, 0, s, 0⟩ : It)]).length = xs.length + 1 := by simp
            clear hown1 hgrow hown hc hor hsm
            generalize xs ++ [(⟨3, 0, s, 0⟩ : It)] = l2 at *
            have hcE := R2.more (M' := M + 10 * (1 + 3 * ID.sz d)) (by omega)
            go_wp2
            go_ret
            exact ⟨v', l2, rfl, R1, by omega, by omega, R4, hcE, R3⟩
          · have e0 : ((r : Int) == 0) = false := by simp; omega
            have e1 : ((r : Int) == 1) = false := by simp; omega
            have hsw := hor.size
            replace hc := hc.alloc (.cells #[.int .i64 0, .int .i64 1, .int .i64 23, .int .i64 24, .int .i64 255, .int .i64 256, .int .i64 65535, .int .i64 65536, .int .i64 1000000000] 3)
            replace hown := hown.alloc (.cells #[.int .i64 0, .int .i64 1, .int .i64 23, .int .i64 24, .int .i64 255, .int .i64 256, .int .i64 65535, .int .i64 65536, .int .i64 1000000000] 3)
            replace hor := hor.alloc (.cells #[.int .i64 0, .int .i64 1, .int .i64 23, .int .i64 24, .int .i64 255, .int .i64 256, .int .i64 65535, .int .i64 65536, .int .i64 1000000000] 3)
            go_wp2_with fail
            refine (among_any p a zs cap (M + 4) (some ⟨w1.heap.size, 0, none⟩) [0, 1, 23, 24, 255, 256, 65535, 65536, 1000000000] 9 _ hz (by omega) hc (by simp) (by simp) (ID.new_ints w1 [0, 1, 23, 24, 255, 256, 65535, 65536, 1000000000] 3) (fun b off e => by simp at e; omega)).mono ?_
            rintro e w2 ⟨z, rfl, hzm, hc2, ho2⟩
            replace hown := MC.own_only hown ho2 hpl
            replace hor := hor.trans ho2
            clear hc ho2 hzm
            have hc := hc2
            clear hc2
            go_wp2_with (at_builtin; refine wpList_append_own _ rfl _ _ 23 rfl w0.heap.size 43 i2 (.agg #[.int .i64 0, .int .i64 0, .string ⟨#[]⟩, .int .i64 0]) 4 40 Try.underlying23 hi' hz0' hz1' hz2' rfl (by decide) _ _ _ rfl (hown.alloc _) ⟨w2.heap.size, 0, none⟩ 1 1 [.int .i64 1, .int .i64 z, .string ⟨#[]⟩, .int .i64 0] rfl rfl ?c101 ?c102 ?c103 ?c104 ?c105 ?_)
            case c101 => exact ID.new4 _ _ _ _ rfl
            case c102 => exact ID.one4 _ _ _ _
            case c103 => unfold maxLen; omega
            case c104 => omega
            case c105 => have := hor.size; simp; omega
            intro v' wn hown1 hgrow _
            have R1 : wn.ownsRow w0.heap.size 43 4 v' (xs ++ [(⟨1, z, ⟨#[]⟩, 0⟩ : It)]).length (M11.flat (xs ++ [⟨1, z, ⟨#[]⟩, 0⟩])) := by rw [← ID.flat_snoc, List.length_append]; exact hown1
            have R2 := (hc.alloc _).grown hgrow (fun j hj => by have := (hown.lt j hj).1; omega)
            have R3 := (hor.alloc _).grown hgrow (fun j hj => (hown.lt j hj).1)
            have R4 : ID.Sm (xs ++ [(⟨1, z, ⟨#[]⟩, 0⟩ : It)]) := hsm.snoc ⟨show (⟨#[]⟩ : ByteArray).size ≤ 10 by decide, show (0 : Int) ≤ 1000000001 by decide⟩
            have hl2 : (xs ++ [(⟨1, z, ⟨#[]⟩, 0⟩ : It)]).length = xs.length + 1 := by simp
            clear hown1 hgrow hown hc hor hsm
            generalize xs ++ [(⟨1, z, ⟨#[]⟩, 0⟩ : It)] = l2 at *
            have hcE := R2.more (M' := M + 10 * (1 + 3 * ID.sz d)) (by omega)
            go_wp2
            go_ret
            exact ⟨v', l2, rfl, R1, by omega, by omega, R4, hcE, R3⟩
end Go.Proofs.Ytdkhjnpdphnigaa
