/- The contacts by which a group is reached, the specification's: TreeFor. -/
import Derived.Test.YtjplabldiheggaaRows
import Derived.Test.YtjplabldiheggaaCReachS
import Derived.Test.YtjplabldiheggaaMTreR
import Derived.Test.YtjplabldiheggaaCPutT
import Derived.Test.YtjplabldiheggaaCInfoRc
import Derived.WalkKit
import Derived.WalkSpells
import Derived.WalkLawsBesides
import Derived.Outline
namespace Go.Proofs.Ytjplabldiheggaa
open Go.RowKit
set_option linter.unusedSimpArgs false in
set_option maxHeartbeats 3200000 in
set_option maxRecDepth 100000 in
theorem treS_any (a d : Option Addr) (cap cd : Nat) (xs : List I5) (b : Bd) (ms : List Int) (w : World) (hm : ms.length ≤ 1048576) (hn : xs.length ≤ 1048576) (hs : b.py.size ≤ 1048576) (hin : MI5.RowAt w a xs) (hin2 : M4.IntsAt w d ms) :
    Calls Try.prog 8 #[.slice a xs.length cap, b.v, .slice d ms.length cd] w fun e w' => ∃ a1 c1, e = .returned (.tuple #[.slice a1 (RQ.treA xs b ms).length c1, .bool (RQ.reaOk xs b ms)]) ∧ w'.ownsRow w.heap.size 3 1 (.slice a1 (RQ.treA xs b ms).length c1) (RQ.treA xs b ms).length (M4.iv (RQ.treA xs b ms)) ∧ Below w.heap.size w w' := by
  have P1 : Hid (∀ W : World, Below w.heap.size w W → Calls Try.prog 27 #[.slice a xs.length cap, b.v, .slice d ms.length cd] W fun e w' => e = .returned (.bool (RQ.reaOk xs b ms)) ∧ Below W.heap.size W w') := fun W h => l17Ask_any a d cap cd xs b ms W hm hn hs (hin.below h) (M4.IntsAt.below hin2 h)
  have P3 : Hid (RQ.reaOk xs b ms = true → ∀ W : World, Below w.heap.size w W → Calls Try.prog 28 #[.slice a xs.length cap, b.v, .slice d ms.length cd] W fun e w' => ∃ a1 c1 ps, e = .returned (.slice a1 (List.length ps) c1) ∧ RQ.Own 37 w' W.heap.size (.slice a1 ps.length c1) ps ∧ ps.map Rq.said = RQ.reaL xs b ms ∧ Below W.heap.size W w') := fun hq W h => by
    have hq' := hq
    unfold RQ.reaOk at hq'
    rw [Bool.and_eq_true] at hq'
    exact l17Reach_any a d cap cd xs b ms W hq'.1 (GP.rises_len hq'.2) hn (hin.below h) (M4.IntsAt.below hin2 h)
  have NO : Hid (RQ.reaOk xs b ms = false → RQ.treA xs b ms = []) := fun h => RQ.tre_no h
  have YES : Hid (RQ.reaOk xs b ms = true → ∀ (ps : List Rq) T, ps.map Rq.said = RQ.reaL xs b ms → RQ.TrUp xs.length ps ps.length T → T = RQ.treA xs b ms) := fun h ps T hp ht => by
    rw [RQ.tre_yes h]; exact ht.end_ hp
  have OSI : Hid (∀ ps : List Rq, ps.map Rq.said = RQ.reaL xs b ms → ∀ k, k < ps.length → ∀ j, j < (RQ.at_ ps k).os.length → 0 ≤ (RQ.at_ ps k).os.getD j 0 ∧ (RQ.at_ ps k).os.getD j 0 < xs.length) := fun ps hp k hk => RQ.os_in hp hk
  have OSL : Hid (∀ ps : List Rq, ps.map Rq.said = RQ.reaL xs b ms → ∀ k, k < ps.length → (RQ.at_ ps k).os.length ≤ 1048576) := fun ps hp k hk => by
    have h1 : (RQ.at_ ps k).said ∈ RQ.reaL xs b ms := by rw [← hp]; exact List.mem_map_of_mem (RQ.at_mem hk)
    have h2 := (List.mem_filter.1 (List.mem_filter.1 h1).1).1
    obtain ⟨m, _, e⟩ := List.mem_map.1 h2
    have h3 := PN.routeL_len xs b.fr b.md m
    have h4 : PN.routeL xs b.fr b.md m = (RQ.at_ ps k).os := congrArg (fun r => r.2.2) e
    rw [h4] at h3; exact h3
  have XL : Hid (RQ.reaOk xs b ms = true → xs.length ≤ 20) := fun h => RQ.rea_plan h
  have ML : Hid (RQ.reaOk xs b ms = true → (RQ.reaL xs b ms).length ≤ 8) := fun h => by
    unfold RQ.reaOk at h
    rw [Bool.and_eq_true] at h
    exact Nat.le_trans (RQ.reaL_len xs b ms) (GP.rises_len h.2)
  have BA := BdAt.box w b 25
  have BB := (Below.refl _ w).alloc (Nat.le_refl _) (.cells #[.int .i64 b.fr, .int .i64 b.to, .bool b.gr, .int .i64 b.md, .int .i64 b.no, .int .i64 b.lf, .int .i64 b.hp, .int .i64 b.of, .int .i64 b.tl, .string b.py] 25)
  clear hin hin2
  generalize RQ.treA xs b ms = L at *
  generalize RQ.reaL xs b ms = AL at *
  generalize RQ.reaOk xs b ms = q1 at *
  obtain ⟨fr, to, gr, md, no, lf, hp, of, tl, py⟩ := b
  obtain ⟨hlt, c0, c1, c2, c3, c4, c5, c6, c7, c8, c9⟩ := id BA
  go_enter Try.func8, Try.ntmps8
  go_wp2_with fail
  refine (P1.out _ BB).mono ?_
  rintro e w1 ⟨rfl, hb1⟩
  clear c0 c1 c2 c3 c4 c5 c6 c7 c8 c9 hlt P1
  have BA1 := BA.below hb1 BA.1
  have BB1 := BB.trans (hb1.mono BB.size)
  clear hb1 BA BB
  cases q1 with
  | false =>
    have hL := NO.out (by first | rfl | trivial)
    subst hL
    clear P3 NO YES OSI OSL XL ML BA1
    go_wp2
    exact bodyPost_ret (v := .tuple #[.slice none 0 0, .bool false]) (by simp [results, Try.results8, go_sem]) rfl ⟨none, 0, rfl, World.ownsRow_nil _ _ _ _, BB1⟩
  | true =>
    have P3' : Hid _ := P3.out (by first | rfl | trivial)
    have YES' : Hid _ := YES.out (by first | rfl | trivial)
    have ML' := ML.out (by first | rfl | trivial)
    have h20 := XL.out (by first | rfl | trivial)
    clear P3 NO YES ML XL
    obtain ⟨hlt, c0, c1, c2, c3, c4, c5, c6, c7, c8, c9⟩ := id BA1
    go_wp2_with fail
    refine (P3'.out _ BB1).mono ?_
    rintro e w2 ⟨a2, c2', ps, rfl, ho, hL, hb2⟩
    clear c0 c1 c2 c3 c4 c5 c6 c7 c8 c9 hlt P3'
    have BB2 := BB1.trans (hb2.mono BB1.size)
    have HI : Hid (RQ.At w2 a2 ps) := ho.at
    have HY : Hid _ := fun T h => YES'.out ps T hL h
    have OI : Hid _ := OSI.out ps hL
    have OL : Hid _ := OSL.out ps hL
    have h8 : ps.length ≤ 8 := by have := congrArg List.length hL; rw [List.length_map] at this; rw [this]; exact ML'
    have hs2 := BB2.size
    clear ho hL hb2 BA1 BB1 YES' ML' OSI OSL
    go_wp2
    go_loopw [8, 10, 12, 23, 28, 29, 30] (fun u _ _ iv _ _ _ wr => ∃ (k : Nat) (T : List Int), iv = .int .i64 k ∧ k ≤ ps.length ∧ Hid (RQ.TrUp xs.length ps k T) ∧ Hid (wr.ownsRow w2.heap.size 3 1 u T.length (M4.iv T)) ∧ Below w2.heap.size w2 wr) (fun _ _ _ iv _ _ _ _ => (ps.length - intOf iv).toNat)
    case atStart => exact ⟨0, [], rfl, by omega, RQ.TrUp.start _ _, World.ownsRow_nil _ _ _ _, Below.refl _ _⟩
    case round =>
      obtain ⟨k, T, rfl, hk, hP, hO, hb⟩ := hrel
      have hbs := hb.size
      by_cases hlk : k < ps.length
      · obtain ⟨b1, o1, rfl, hlt1, p0, p1, p2, p3, p4⟩ := (HI.out.below hb).at hlk
        have OIk : Hid _ := OI.out k hlk
        have OLk := OL.out k hlk
        have NX : Hid _ := fun (T' : List Int) h => hP.out.next (T' := T') h
        have PU0 : Hid (GP.PutUp xs.length T (RQ.at_ ps k).os T 0) := GP.PutUp.start _ hP.out.up hP.out.bd
        clear hP p3
        generalize RQ.at_ ps k = p at *
        obtain ⟨m, t, ys, ya, yc⟩ := p
        have hb1 : Below wr.heap.size wr (wr.alloc (.cells #[.int .i64 m, .int .i64 t, .slice ya ys.length yc] 37)) := (Below.refl _ wr).alloc (Nat.le_refl _) _
        have HB3 : Hid _ := hb.trans (hb1.mono hbs)
        have HO2 : Hid _ := M5.own_below hO.out hb1
        have HYS : Hid (M4.IntsAt (wr.alloc (.cells #[.int .i64 m, .int .i64 t, .slice ya ys.length yc] 37)) ya ys) := M4.IntsAt.below p4 hb1
        clear hO hb hb1 p4
        obtain ⟨W0, hW0⟩ : ∃ W0, W0 = wr := ⟨_, rfl⟩
        go_wp2
        generalize wr.alloc (.cells #[.int .i64 m, .int .i64 t, .slice ya ys.length yc] 37) = W3 at *
        subst hW0
        go_loopw [8, 12, 30] (fun u _ jv wq => ∃ (j : Nat) (T1 : List Int), jv = .int .i64 j ∧ j ≤ ys.length ∧ Hid (GP.PutUp xs.length T ys T1 j) ∧ Hid (wq.ownsRow w2.heap.size 3 1 u T1.length (M4.iv T1)) ∧ Hid (M4.IntsAt wq ya ys) ∧ Below w2.heap.size w2 wq) (fun _ _ jv _ => (ys.length - intOf jv).toNat)
        case atStart => exact ⟨0, T, rfl, by omega, PU0, HO2, HYS, HB3.out⟩
        case round =>
          obtain ⟨j, T1, rfl, hj, hP, hO, hZ, hb⟩ := hrel
          have hbs := hb.size
          by_cases hlj : j < ys.length
          · obtain ⟨b5, o5, rfl, hlt5, hc5⟩ := M4.IntsAt.at hZ.out hlj
            have HP2 : Hid _ := hP.out.next hlj (OIk.out j hlj)
            have hT1 := hP.out.len
            have LP : Hid (Calls _ _ _ _ _) := l7Put_up w2.heap.size u8 T1 (ys.getD j 0) wr (by omega) hP.out.up hb.size hO.out
            clear hP hO PU0 HO2
            generalize ys.getD j 0 = z at *
            generalize GP.putT T1 z = T' at *
            go_wp2_with fail
            refine Calls.mono LP.out ?_
            rintro e w6 ⟨a1, c1, rfl, ho6, hb6⟩
            have HO6 : Hid _ := ho6
            have HZ6 : Hid _ := M4.IntsAt.below hZ.out hb6
            have HB6 := hb.trans (hb6.mono hbs)
            clear LP ho6 hb6 hc5 hZ hb
            go_wp2
            go_roundw
            case rel => exact ⟨j + 1, T', by go_num, by omega, HP2, HO6, HZ6, HB6⟩
            case measure => simp [intOf]; omega
          · obtain rfl : j = ys.length := by omega
            have HN : Hid _ := NX.out T1 hP.out
            clear hP PU0 HO2 NX OIk HYS hZ
            go_wp2
            go_roundw
            case rel => exact ⟨k + 1, T1, by go_num, by omega, HN, hO, hb⟩
            case measure => simp [intOf]; omega
      · obtain rfl : k = ps.length := by omega
        have hos := HY.out T hP.out
        subst hos
        obtain ⟨a1, c1, rfl, -⟩ := M5.own_view hO.out
        have HO1 := TR.own_mono hO.out hs2
        have BB3 := BB2.trans (hb.mono hs2)
        clear HI hP HY OI OL
        go_wp2
        exact bodyPost_ret (v := .tuple #[.slice a1 T.length c1, .bool true]) (by simp [results, Try.results8, go_sem]) rfl ⟨a1, c1, rfl, HO1, BB3⟩
end Go.Proofs.Ytjplabldiheggaa
