/- The draws of bytes and heads: DrawReadItems, DrawTakeHead, DrawHeadOf. -/
import Derived.Test.YtdkhjnpdphnigaaRows
import Derived.Test.YtdkhjnpdphnigaaCValueD
import Derived.Test.YtdkhjnpdphnigaaCSpecBytes
import Derived.Test.YtdkhjnpdphnigaaCSpoilt
import Derived.WalkKit
import Derived.WalkSpells
import Derived.WalkLawsBesides
import Derived.Outline
namespace Go.Proofs.Ytdkhjnpdphnigaa
open Go.RowKit
namespace ID
theorem strR_size (xs : List It) : (M12.strR xs).size ≤ 400 := by
  unfold M12.strR
  split
  · rename_i h
    unfold M12.good at h
    simp only [Bool.and_eq_true, decide_eq_true_eq] at h
    show (M12.bytes xs).toArray.size ≤ 400
    simpa using h.2
  · decide
theorem own_items {w : World} {base e c1 : Nat} {a1 : Option Addr} {xs : List It} (h : w.ownsRow base e 4 (.slice a1 xs.length c1) xs.length (M11.flat xs)) (h0 : 0 < xs.length) : M11.ItemsAt w a1 xs := by
  obtain ⟨g, cap, he⟩ := own_some h h0
  simp only [Value.slice.injEq] at he
  obtain ⟨rfl, -, rfl⟩ := he
  exact M11.ItemsAt.of_own h
end ID
set_option maxHeartbeats 3200000 in
set_option maxRecDepth 100000 in
theorem drawReadItems_any (a : Option Addr) (zs : List Int) (cap : Nat) (w : World) (hz : zs.length ≤ 140737488355328) (hb : MC.BytesAt w w.heap.size a zs) :
    Calls Try.prog 13 #[.slice a zs.length cap] w fun e w' => ∃ s : ByteArray, e = .returned (.string s) ∧ s.size ≤ 402 ∧ Below w.heap.size w w' := by
  go_enter Try.func13, Try.ntmps13
  go_wp2_with fail
  obtain ⟨p, hp⟩ : ∃ p, w.heap.size = p := ⟨_, rfl⟩
  have hcur := cur_new (T := 61) (cap := cap) hb
  have hnb : Hid (∀ W, MC.Only p (w.alloc (.cells #[.slice a zs.length cap, .int .i64 0, .int .u64 0] 61)) W → Below w.heap.size w W) := fun W h => new_below hp.symm h
  rw [hp] at hcur ⊢
  clear hp hb
  generalize w.alloc (.cells #[.slice a zs.length cap, .int .i64 0, .int .u64 0] 61) = W0 at *
  refine (value_any p a zs cap 0 _ hz (by omega) hcur).mono ?_
  rintro e w1 ⟨a1, c1, xs, rfl, h0, h1, hown, hsm, hc, hor⟩
  have hin := ID.own_items hown h0
  have hsz := ID.strR_size xs
  clear hcur hown
  go_wp2_with fail
  refine (specItemsBytes_any a1 c1 xs w1 (by omega) hsm.wf hin).mono ?_
  rintro e w2 ⟨rfl, hb2⟩
  replace hc := hc.below hb2
  replace hor := hor.trans (MC.Only.of_below hb2)
  clear hb2 hin hsm
  generalize M12.strR xs = s at *
  generalize M12.good xs = gd at *
  go_wp2_with fail
  refine (one_any p a zs cap (0 + 12000) _ _ hz (by omega) hc).mono ?_
  rintro e w3 ⟨b, rfl, hc3, ho3⟩
  replace hor := hor.trans ho3
  clear hc ho3
  cases b
  · have hB := hnb.out _ hor
    go_wp2
    go_ret
    exact ⟨s, rfl, by omega, hB⟩
  · go_wp2_with fail
    refine (spoilt_any p a zs cap (0 + 12000 + 2) s ⟨#[0, 24, 129, 130, 97]⟩ _ hz (by omega) hc3 (by omega) (by decide) (by decide)).mono ?_
    rintro e w4 ⟨t, rfl, ht, hc4, ho4⟩
    have hB := hnb.out _ (hor.trans ho4)
    clear hc4 hor ho4 hc3 hnb
    go_wp2
    go_ret
    exact ⟨t, rfl, by omega, hB⟩
set_option maxHeartbeats 3200000 in
set_option maxRecDepth 100000 in
theorem drawTakeHead_any (a : Option Addr) (zs : List Int) (cap : Nat) (w : World) (hz : zs.length ≤ 140737488355328) (hb : MC.BytesAt w w.heap.size a zs) :
    Calls Try.prog 19 #[.slice a zs.length cap] w fun e w' => ∃ (s : ByteArray) (x : Int), e = .returned (.tuple #[.string s, .int .i64 x]) ∧ s.size ≤ 402 ∧ Below w.heap.size w w' := by
  go_enter Try.func19, Try.ntmps19
  go_wp2_with fail
  obtain ⟨p, hp⟩ : ∃ p, w.heap.size = p := ⟨_, rfl⟩
  have hcur := cur_new (T := 61) (cap := cap) hb
  have hnb : Hid (∀ W, MC.Only p (w.alloc (.cells #[.slice a zs.length cap, .int .i64 0, .int .u64 0] 61)) W → Below w.heap.size w W) := fun W h => new_below hp.symm h
  have hb1 : MC.BytesAt (w.alloc (.cells #[.slice a zs.length cap, .int .i64 0, .int .u64 0] 61)) (w.alloc (.cells #[.slice a zs.length cap, .int .i64 0, .int .u64 0] 61)).heap.size a zs := (hb.only (q := w.heap.size) (MC.Only.of_below ((Below.refl _ w).alloc (Nat.le_refl _) _)) (Nat.le_refl _) (Nat.le_refl _)).up (by simp)
  rw [hp] at hcur ⊢
  clear hp hb
  generalize w.alloc (.cells #[.slice a zs.length cap, .int .i64 0, .int .u64 0] 61) = W0 at *
  refine (drawReadItems_any a zs cap W0 hz hb1).mono ?_
  rintro e w1 ⟨s, rfl, hs, hB1⟩
  have hc := hcur.below hB1
  have hor := MC.Only.of_below (p := p) hB1
  have hw2 : IntKind.i64.wrap ((s.size : Int) + 2) = (s.size : Int) + 2 := by rw [IntKind.wrap_i64]; omega
  clear hcur hB1 hb1
  go_wp2_with fail
  refine (pick_any p a zs cap 0 _ _ hz (by omega) hc).mono ?_
  rintro e w2 ⟨r, rfl, hr, hx, hc2, ho2⟩
  have hw3 : IntKind.i64.wrap ((r : Int) - 1) = (r : Int) - 1 := by rw [IntKind.wrap_i64]; omega
  have hB := hnb.out _ (hor.trans ho2)
  clear hc hc2 ho2 hor hnb
  go_wp2
  go_ret2
  exact ⟨s, _, rfl, hs, hB⟩
set_option maxHeartbeats 3200000 in
set_option maxRecDepth 100000 in
theorem drawHeadOf_any (a : Option Addr) (zs : List Int) (cap : Nat) (w : World) (hz : zs.length ≤ 140737488355328) (hb : MC.BytesAt w w.heap.size a zs) :
    Calls Try.prog 15 #[.slice a zs.length cap] w fun e w' => ∃ (m n : Int), e = .returned (.tuple #[.int .i64 m, .int .i64 n]) ∧ Below w.heap.size w w' := by
  go_enter Try.func15, Try.ntmps15
  go_wp2_with fail
  obtain ⟨p, hp⟩ : ∃ p, w.heap.size = p := ⟨_, rfl⟩
  have hcur := cur_new (T := 61) (cap := cap) hb
  have hnb : Hid (∀ W, MC.Only p (w.alloc (.cells #[.slice a zs.length cap, .int .i64 0, .int .u64 0] 61)) W → Below w.heap.size w W) := fun W h => new_below hp.symm h
  rw [hp] at hcur ⊢
  clear hp hb
  generalize w.alloc (.cells #[.slice a zs.length cap, .int .i64 0, .int .u64 0] 61) = W0 at *
  refine (pick_any p a zs cap 0 _ _ hz (by omega) hcur).mono ?_
  rintro e w1 ⟨r, rfl, hr, hx, hc, hor⟩
  have hpl := hc.lt
  have hw1 : IntKind.i64.wrap ((r : Int) - 1) = (r : Int) - 1 := by rw [IntKind.wrap_i64]; omega
  replace hc := hc.alloc (.cells #[.int .i64 (-1), .int .i64 0, .int .i64 23, .int .i64 24, .int .i64 255, .int .i64 256, .int .i64 65535, .int .i64 65536, .int .i64 1000000000, .int .i64 1000000001] 3)
  replace hor := hor.alloc (.cells #[.int .i64 (-1), .int .i64 0, .int .i64 23, .int .i64 24, .int .i64 255, .int .i64 256, .int .i64 65535, .int .i64 65536, .int .i64 1000000000, .int .i64 1000000001] 3)
  go_wp2_with fail
  refine (among_any p a zs cap (0 + 2) (some ⟨w1.heap.size, 0, none⟩) [-1, 0, 23, 24, 255, 256, 65535, 65536, 1000000000, 1000000001] 10 _ hz (by omega) hc (by simp) (by simp) (ID.new_ints w1 [-1, 0, 23, 24, 255, 256, 65535, 65536, 1000000000, 1000000001] 3) (fun b off e => by simp at e; omega)).mono ?_
  rintro e w2 ⟨n, rfl, hn, hc2, ho2⟩
  have hB := hnb.out _ (hor.trans ho2)
  clear hc hc2 ho2 hor hnb
  go_wp2
  go_ret2
  exact ⟨_, n, rfl, hB⟩
end Go.Proofs.Ytdkhjnpdphnigaa
