/- Who is there by a time, the specification's: DeliveredBy. -/
import Derived.Test.YtjplabldiheggaaRows
import Derived.Test.YtjplabldiheggaaCReachS
import Derived.Test.YtjplabldiheggaaMDel
import Derived.Test.YtjplabldiheggaaCInfoRc
import Derived.WalkKit
import Derived.WalkSpells
import Derived.WalkLawsBesides
import Derived.Outline
namespace Go.Proofs.Ytjplabldiheggaa
open Go.RowKit
set_option maxHeartbeats 400000 in
set_option maxRecDepth 100000 in
theorem l1In17_any (n : Int) (w : World) : Calls Try.prog 42 #[.int .i64 n, .int .i64 0, .int .i64 2000] w fun e w' => e = .returned (.bool (decide (0 ≤ n ∧ n ≤ 2000))) ∧ w = w' := by
  by_cases h0 : 0 ≤ n
  · by_cases h1 : n ≤ 2000
    · go_enter Try.func42, Try.ntmps42
      go_wp2
      go_ret
      exact ⟨by simp [h0, h1], rfl⟩
    · go_enter Try.func42, Try.ntmps42
      go_wp2
      go_ret
      exact ⟨by simp; omega, rfl⟩
  · go_enter Try.func42, Try.ntmps42
    go_wp2
    go_ret
    exact ⟨by simp; omega, rfl⟩
set_option linter.unusedSimpArgs false in
set_option maxHeartbeats 1600000 in
set_option maxRecDepth 100000 in
theorem delS_any (a d : Option Addr) (cap cd : Nat) (xs : List I5) (b : Bd) (ms : List Int) (n : Int) (w : World) (hm : ms.length ≤ 1048576) (hn : xs.length ≤ 1048576) (hs : b.py.size ≤ 1048576) (hin : MI5.RowAt w a xs) (hin2 : M4.IntsAt w d ms) :
    Calls Try.prog 14 #[.slice a xs.length cap, b.v, .slice d ms.length cd, .int .i64 n] w fun e w' => ∃ a1 c1, e = .returned (.tuple #[.slice a1 (RQ.delA xs b ms n).length c1, .bool (RQ.delOk xs b ms n)]) ∧ w'.ownsRow w.heap.size 3 1 (.slice a1 (RQ.delA xs b ms n).length c1) (RQ.delA xs b ms n).length (M4.iv (RQ.delA xs b ms n)) ∧ Below w.heap.size w w' := by
  obtain ⟨i0, hi, hz0, hz1, hz2⟩ := info_parts Try.info3
  have P1 : Hid (∀ W : World, Below w.heap.size w W → Calls Try.prog 27 #[.slice a xs.length cap, b.v, .slice d ms.length cd] W fun e w' => e = .returned (.bool (RQ.reaOk xs b ms)) ∧ Below W.heap.size W w') := fun W h => l17Ask_any a d cap cd xs b ms W hm hn hs (hin.below h) (M4.IntsAt.below hin2 h)
  have P2 : Hid (∀ W : World, Calls Try.prog 42 #[.int .i64 n, .int .i64 0, .int .i64 2000] W fun e w' => e = .returned (.bool (decide (0 ≤ n ∧ n ≤ 2000))) ∧ W = w') := fun W => l1In17_any n W
  have P3 : Hid (RQ.reaOk xs b ms = true → ∀ W : World, Below w.heap.size w W → Calls Try.prog 28 #[.slice a xs.length cap, b.v, .slice d ms.length cd] W fun e w' => ∃ a1 c1 ps, e = .returned (.slice a1 (List.length ps) c1) ∧ RQ.Own 37 w' W.heap.size (.slice a1 ps.length c1) ps ∧ ps.map Rq.said = RQ.reaL xs b ms ∧ Below W.heap.size W w') := fun hq W h => by
    have hq' := hq
    unfold RQ.reaOk at hq'
    rw [Bool.and_eq_true] at hq'
    exact l17Reach_any a d cap cd xs b ms W hq'.1 (GP.rises_len hq'.2) hn (hin.below h) (M4.IntsAt.below hin2 h)
  have HR : Hid (RQ.delOk xs b ms n = (RQ.reaOk xs b ms && decide (0 ≤ n ∧ n ≤ 2000))) := show RQ.delOk xs b ms n = _ from rfl
  have NO : Hid (RQ.delOk xs b ms n = false → RQ.delA xs b ms n = []) := fun h => RQ.del_no h
  have YES : Hid (RQ.delOk xs b ms n = true → ∀ ps : List Rq, ps.map Rq.said = RQ.reaL xs b ms → RQ.delUp ps n ps.length = RQ.delA xs b ms n) := fun h ps hp => by
    rw [RQ.del_yes h]
    exact RQ.delUp_end hp
  have ML : Hid (RQ.reaOk xs b ms = true → (RQ.reaL xs b ms).length ≤ 8) := fun h => by
    unfold RQ.reaOk at h
    rw [Bool.and_eq_true] at h
    exact Nat.le_trans (RQ.reaL_len xs b ms) (GP.rises_len h.2)
  have BA := BdAt.box w b 25
  have BB := (Below.refl _ w).alloc (Nat.le_refl _) (.cells #[.int .i64 b.fr, .int .i64 b.to, .bool b.gr, .int .i64 b.md, .int .i64 b.no, .int .i64 b.lf, .int .i64 b.hp, .int .i64 b.of, .int .i64 b.tl, .string b.py] 25)
  clear hin hin2
  generalize RQ.delOk xs b ms n = R at *
  generalize RQ.delA xs b ms n = L at *
  generalize RQ.reaL xs b ms = AL at *
  generalize RQ.reaOk xs b ms = q1 at *
  generalize hq2 : decide (0 ≤ n ∧ n ≤ 2000) = q2 at *
  clear hq2
  obtain ⟨fr, to, gr, md, no, lf, hp, of, tl, py⟩ := b
  obtain ⟨hlt, c0, c1, c2, c3, c4, c5, c6, c7, c8, c9⟩ := id BA
  go_enter Try.func14, Try.ntmps14
  go_wp2_with fail
  refine (P1.out _ BB).mono ?_
  rintro e w1 ⟨rfl, hb1⟩
  clear c0 c1 c2 c3 c4 c5 c6 c7 c8 c9 hlt P1
  have BA1 := BA.below hb1 BA.1
  have BB1 := BB.trans (hb1.mono BB.size)
  clear hb1 BA BB
  cases q1 with
  | false =>
    have hR : R = false := HR.out
    subst hR
    have hL := NO.out (by first | rfl | trivial)
    subst hL
    clear P2 P3 HR NO YES ML BA1
    go_wp2
    exact bodyPost_ret (v := .tuple #[.slice none 0 0, .bool false]) (by simp [results, Try.results14, go_sem]) rfl ⟨none, 0, rfl, World.ownsRow_nil _ _ _ _, BB1⟩
  | true =>
    have hR : R = q2 := HR.out
    subst hR
    go_wp2_with fail
    refine (P2.out _).mono ?_
    rintro e w' ⟨rfl, rfl⟩
    clear P2 HR
    cases R with
    | false =>
      have hL := NO.out (by first | rfl | trivial)
      subst hL
      clear P3 NO YES ML BA1
      go_wp2
      exact bodyPost_ret (v := .tuple #[.slice none 0 0, .bool false]) (by simp [results, Try.results14, go_sem]) rfl ⟨none, 0, rfl, World.ownsRow_nil _ _ _ _, BB1⟩
    | true =>
      have P3' : Hid _ := P3.out (by first | rfl | trivial)
      have YES' : Hid _ := YES.out (by first | rfl | trivial)
      have ML' := ML.out (by first | rfl | trivial)
      clear P3 NO YES ML
      obtain ⟨hlt, c0, c1, c2, c3, c4, c5, c6, c7, c8, c9⟩ := id BA1
      go_wp2_with fail
      refine (P3'.out _ BB1).mono ?_
      rintro e w2 ⟨a2, c2', ps, rfl, ho, hL, hb2⟩
      clear c0 c1 c2 c3 c4 c5 c6 c7 c8 c9 hlt P3'
      have BB2 := BB1.trans (hb2.mono BB1.size)
      have HI : Hid (RQ.At w2 a2 ps) := ho.at
      have HY : Hid _ := YES'.out ps hL
      have h8 : ps.length ≤ 8 := by have := congrArg List.length hL; rw [List.length_map] at this; rw [this]; exact ML'
      have hs2 := BB2.size
      clear ho hL hb2 BA1 BB1 YES' ML'
      go_wp2
      go_loopw [10, 12, 28] (fun u _ iv wr => ∃ (k : Nat) (os : List Int), iv = .int .i64 k ∧ k ≤ ps.length ∧ Hid (RQ.delUp ps n k = os) ∧ Hid (wr.ownsRow w2.heap.size 3 1 u os.length (M4.iv os)) ∧ Below w2.heap.size w2 wr) (fun _ _ iv _ => (ps.length - intOf iv).toNat)
      case atStart => exact ⟨0, [], rfl, by omega, by show _ = _; rfl, World.ownsRow_nil _ _ _ _, Below.refl _ _⟩
      case round =>
        obtain ⟨k, os, rfl, hk, hP, hO, hb⟩ := hrel
        have hbs := hb.size
        by_cases hlk : k < ps.length
        · obtain ⟨b1, o1, rfl, hlt1, p0, p1, p2, p3, p4⟩ := (HI.out.below hb).at hlk
          have hol : os.length ≤ 8 := by have := RQ.delUp_len ps n k; rw [hP.out] at this; omega
          have UY : Hid _ := RQ.delUp_yes (n := n) hlk
          have UN : Hid _ := RQ.delUp_no (n := n) hlk
          rw [hP.out] at UY UN
          clear hP p3 p4
          generalize RQ.at_ ps k = p at *
          obtain ⟨m, t, ys, ya, yc⟩ := p
          have hb1 : Below wr.heap.size wr (wr.alloc (.cells #[.int .i64 m, .int .i64 t, .slice ya ys.length yc] 37)) := (Below.refl _ wr).alloc (Nat.le_refl _) _
          have HB3 : Hid _ := hb.trans (hb1.mono hbs)
          have HO2 : Hid _ := M5.own_below hO.out hb1
          have hs3 := HB3.out.size
          have q0 : (wr.alloc (.cells #[.int .i64 m, .int .i64 t, .slice ya ys.length yc] 37)).cell? ⟨wr.heap.size, 0, none⟩ = some (.int .i64 m) := by rw [World.cell?_alloc_new]; rfl
          clear hO hb
          generalize hoo : os.length = ol at *
          have HOL : Hid (os.length = ol) := hoo
          clear hoo
          cases hq : decide (t ≤ n) with
          | false =>
            have HU : Hid (RQ.delUp ps n (k + 1) = os) := UN.out hq
            have HO2' : Hid ((wr.alloc (.cells #[.int .i64 m, .int .i64 t, .slice ya ys.length yc] 37)).ownsRow w2.heap.size 3 1 u10 os.length (M4.iv os)) := show World.ownsRow _ _ _ _ _ _ _ by rw [HOL.out]; exact HO2.out
            clear UY UN HO2 hb1
            go_wp2
            go_roundw
            case rel => exact ⟨k + 1, os, by go_num, by omega, HU, HO2', HB3.out⟩
            case measure => simp [intOf]; omega
          | true =>
            have HU : Hid (RQ.delUp ps n (k + 1) = os ++ [m]) := UY.out hq
            clear UY UN hb1
            go_wp2_with (at_builtin; (refine wpList_append_own _ rfl _ _ 26 rfl w2.heap.size 3 i0 (.int .i64 0) 1 8 Try.underlying26 hi hz0 hz1 hz2 rfl (by decide) _ _ _ rfl (World.ownsRow.alloc HO2.out _) _ 1 1 [.int .i64 m] rfl rfl ?c1 ?c2 ?c3 ?c4 ?c5 ?_))
            all_goals try (first | rfl | omega | exact M2.new1 _ _ _ | exact M2.one1 _ _ | (unfold maxLen; omega) | (simp; omega))
            intro v' w6 hown1 hgrow _
            have hb6 : Below w2.heap.size w2 w6 := (HB3.out.alloc hs3 _).grown hgrow (by simp; have := hs3; simp at this; omega) (fun j hj => (World.ownsRow.lt HO2.out j hj).1)
            have HT6 : Hid (w6.ownsRow w2.heap.size 3 1 v' (os ++ [m]).length (M4.iv (os ++ [m]))) := TR.own_snoc (by rw [HOL.out]; exact hown1) rfl
            clear hown1 hgrow HO2 HB3 hs3 HOL q0 p0 p1 p2
            generalize os ++ [m] = zs at *
            go_wp2
            go_roundw
            case rel => exact ⟨k + 1, zs, by go_num, by omega, HU, HT6, hb6⟩
            case measure => simp [intOf]; omega
        · obtain rfl : k = ps.length := by omega
          have hos : os = L := by rw [← hP.out]; exact HY.out
          subst hos
          obtain ⟨a1, c1, rfl, -⟩ := M5.own_view hO.out
          have HO1 := TR.own_mono hO.out hs2
          have BB3 := BB2.trans (hb.mono hs2)
          clear HI hP HY
          go_wp2
          exact bodyPost_ret (v := .tuple #[.slice a1 os.length c1, .bool true]) (by simp [results, Try.results14, go_sem]) rfl ⟨a1, c1, rfl, HO1, BB3⟩
end Go.Proofs.Ytjplabldiheggaa
