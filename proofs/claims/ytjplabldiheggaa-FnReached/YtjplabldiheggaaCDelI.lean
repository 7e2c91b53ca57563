import Derived.Test.YtjplabldiheggaaRows
import Derived.Test.YtjplabldiheggaaMDel
import Derived.Test.YtjplabldiheggaaCInfoRc
import Derived.Test.YtjplabldiheggaaMRou
import Derived.WalkKit
import Derived.WalkSpells
import Derived.WalkLawsBesides
import Derived.Outline
import Derived.Test.YtjplabldiheggaaCReaA
import Derived.Test.YtjplabldiheggaaMHasB
/- The members of reaches: toldOf of the program, handed (Reach).node. -/
namespace Go.Proofs.Ytjplabldiheggaa
open Go.RowKit
set_option maxHeartbeats 800000 in
set_option maxRecDepth 100000 in
theorem nodeRe_any (p : Rq) (w : World) : Calls Try.prog 41 #[p.v] w fun e w' => e = .returned (.int .i64 p.m) ∧ Below w.heap.size w w' := by
  obtain ⟨m, t, os, a, c⟩ := p
  have hB : ∀ o, Below w.heap.size w (w.alloc o) := fun o => (Below.refl _ w).alloc (Nat.le_refl _) o
  go_enter Try.func41, Try.ntmps41
  go_wp2
  go_ret
  exact ⟨rfl, hB _⟩
set_option linter.unusedSimpArgs false in
set_option maxHeartbeats 1600000 in
set_option maxRecDepth 100000 in
theorem toldOf_any (a : Option Addr) (c : Nat) (ps : List Rq) (w : World) (h8 : ps.length ≤ 8) (hin : RQ.At w a ps) (L : List Int) (hL : Hid (ps.map Rq.m = L)) :
    Calls Try.prog 40 #[.slice a ps.length c, .func (.func 41) #[] #[]] w fun e w' => ∃ a1 c1, e = .returned (.slice a1 L.length c1) ∧ w'.ownsRow w.heap.size 3 1 (.slice a1 L.length c1) L.length (M4.iv L) ∧ Below w.heap.size w w' := by
  obtain ⟨i0, hi, hz0, hz1, hz2⟩ := info_parts Try.info3
  have HI : Hid _ := hin
  have OW0 : Hid ((w.alloc (.cells #[] 3)).ownsRow w.heap.size 3 1 (.slice (some ⟨w.heap.size, 0, none⟩) 0 0) ([] : List Int).length (M4.iv [])) := PN.own_lit0 w w.heap.size (Nat.le_refl _)
  have HB0 : Hid (Below w.heap.size w (w.alloc (.cells #[] 3))) := (Below.refl _ w).alloc (Nat.le_refl _) _
  clear hin
  go_enter Try.func40, Try.ntmps40
  go_wp2
  generalize Value.slice (some ⟨w.heap.size, 0, none⟩) 0 0 = v0 at *
  generalize w.alloc (.cells #[] 3) = W0 at *
  go_loopw [5, 7, 11] (fun u _ iv wr => ∃ (k : Nat) (os : List Int), iv = .int .i64 k ∧ k ≤ ps.length ∧ Hid ((ps.take k).map Rq.m = os) ∧ Hid (wr.ownsRow w.heap.size 3 1 u os.length (M4.iv os)) ∧ Below w.heap.size w wr) (fun _ _ iv _ => (ps.length - intOf iv).toNat)
  case atStart => exact ⟨0, [], rfl, by omega, by show _ = _; simp, OW0, HB0.out⟩
  case round =>
    obtain ⟨k, os, rfl, hk, hP, hO, hb⟩ := hrel
    have hbs := hb.size
    by_cases hlk : k < ps.length
    · obtain ⟨b1, o1, rfl, hlt1, p0, p1, p2, p3, p4⟩ := (HI.out.below hb).at hlk
      have hol : os.length ≤ 8 := by have := congrArg List.length hP.out; rw [List.length_map, List.length_take] at this; omega
      have HSN : Hid ((ps.take (k + 1)).map Rq.m = os ++ [(RQ.at_ ps k).m]) := (show _ = _ from by rw [RQ.map_snoc hlk, hP.out])
      have ND : Hid _ := fun W => nodeRe_any (RQ.at_ ps k) W
      clear hP OW0 HB0 p3 p4
      generalize RQ.at_ ps k = p at *
      obtain ⟨m, t, ys, ya, yc⟩ := p
      have hb1 : Below wr.heap.size wr (wr.alloc (.cells #[.int .i64 m, .int .i64 t, .slice ya ys.length yc] 37)) := (Below.refl _ wr).alloc (Nat.le_refl _) _
      go_wp2_with fail
      refine Calls.mono (ND.out _) ?_
      rintro e w2 ⟨rfl, hb2⟩
      have hb3 := hb1.trans (hb2.mono hb1.size)
      have HB3 : Hid _ := hb.trans (hb3.mono hbs)
      have HO2 : Hid _ := M5.own_below hO.out hb3
      have hs3 := HB3.out.size
      clear hb1 hb2 ND p0 p1 p2 hO hb hb3
      generalize hoo : os.length = ol at *
      have HOL : Hid (os.length = ol) := hoo
      clear hoo
      go_wp2_with (at_builtin; (refine wpList_append_own _ rfl _ _ 26 rfl w.heap.size 3 i0 (.int .i64 0) 1 8 Try.underlying26 hi hz0 hz1 hz2 rfl (by decide) _ _ _ rfl (World.ownsRow.alloc HO2.out _) ⟨w2.heap.size, 0, none⟩ 1 1 [.int .i64 m] rfl rfl ?c1 ?c2 ?c3 ?c4 ?c5 ?_))
      all_goals try (first | rfl | omega | exact M2.new1 _ _ _ | exact M2.one1 _ _ | (unfold maxLen; omega) | (simp; omega))
      intro v' w6 hown1 hgrow _
      have hb6 : Below w.heap.size w w6 := (HB3.out.alloc hs3 _).grown hgrow (by simp; omega) (fun j hj => (World.ownsRow.lt HO2.out j hj).1)
      have HT6 : Hid (w6.ownsRow w.heap.size 3 1 v' (os ++ [m]).length (M4.iv (os ++ [m]))) := TR.own_snoc (by rw [HOL.out]; exact hown1) rfl
      clear hown1 hgrow HO2 HB3 hs3 HOL
      generalize os ++ [m] = zs at *
      go_wp2
      go_roundw
      case rel => exact ⟨k + 1, zs, by go_num, by omega, HSN, HT6, hb6⟩
      case measure => simp [intOf]; omega
    · obtain rfl : k = ps.length := by omega
      have hos : os = L := by rw [← hP.out, List.take_length]; exact hL.out
      subst hos
      obtain ⟨a1, c1, rfl, -⟩ := M5.own_view hO.out
      clear HI hP hL OW0 HB0
      go_wp2
      go_ret
      exact ⟨a1, c1, rfl, hO.out, hb⟩
end Go.Proofs.Ytjplabldiheggaa

/- Who is there by a time, the program's: DeliveredBy. -/
namespace Go.Proofs.Ytjplabldiheggaa
open Go.RowKit
set_option linter.unusedSimpArgs false in
set_option maxHeartbeats 1600000 in
set_option maxRecDepth 100000 in
theorem delI_any (a d : Option Addr) (cap cd : Nat) (xs : List I5) (b : Bd) (ms : List Int) (n : Int) (w : World) (hm : ms.length ≤ 1048576) (hn : xs.length ≤ 1048576) (hs : b.py.size ≤ 1048576) (hin : MI5.RowAt w a xs) (hin2 : M4.IntsAt w d ms) :
    Calls Try.prog 13 #[.slice a xs.length cap, b.v, .slice d ms.length cd, .int .i64 n] w fun e w' => ∃ a1 c1, e = .returned (.tuple #[.slice a1 (RQ.delA xs b ms n).length c1, .bool (RQ.delOk xs b ms n)]) ∧ w'.ownsRow w.heap.size 3 1 (.slice a1 (RQ.delA xs b ms n).length c1) (RQ.delA xs b ms n).length (M4.iv (RQ.delA xs b ms n)) ∧ Below w.heap.size w w' := by
  have P1 : Hid (∀ W : World, Below w.heap.size w W → Calls Try.prog 5 #[.slice a xs.length cap, b.v, .slice d ms.length cd] W fun e w' => ∃ a1 c1 ps, e = .returned (.tuple #[.slice a1 (List.length ps) c1, .bool (RQ.reaOk xs b ms)]) ∧ RQ.Own 37 w' W.heap.size (.slice a1 ps.length c1) ps ∧ ps.map Rq.said = RQ.reaA xs b ms ∧ (RQ.reaOk xs b ms = true → ∃ g, a1 = some ⟨g, 0, none⟩) ∧ Below W.heap.size W w') := fun W h => reachI2_any a d cap cd xs b ms W hm hn hs (hin.below h) (M4.IntsAt.below hin2 h)
  have P2 : Hid (∀ W : World, Calls Try.prog 39 #[.int .i64 n, .int .i64 0, .int .i64 2000] W fun e w' => e = .returned (.bool (decide (0 ≤ n ∧ n ≤ 2000))) ∧ W = w') := fun W => within7_any n 0 2000 W
  have HR : Hid (RQ.delOk xs b ms n = (RQ.reaOk xs b ms && decide (0 ≤ n ∧ n ≤ 2000))) := show RQ.delOk xs b ms n = _ from rfl
  have NO : Hid (RQ.delOk xs b ms n = false → RQ.delA xs b ms n = []) := fun h => RQ.del_no h
  have YES : Hid (RQ.delOk xs b ms n = true → ∀ ps : List Rq, ps.map Rq.said = RQ.reaA xs b ms → (ps.filter (fun p => RQ.inTime n p.said)).map Rq.m = RQ.delA xs b ms n) := fun h ps hp => by
    rw [RQ.del_yes h]
    have h' := h
    unfold RQ.delOk at h'
    rw [Bool.and_eq_true] at h'
    exact RQ.told_end (by rw [hp, RQ.rea_yes h'.1])
  have ML : Hid ((RQ.reaA xs b ms).length ≤ 8) := RQ.reaA_len xs b ms
  have BA := BdAt.box w b 25
  have BB := (Below.refl _ w).alloc (Nat.le_refl _) (.cells #[.int .i64 b.fr, .int .i64 b.to, .bool b.gr, .int .i64 b.md, .int .i64 b.no, .int .i64 b.lf, .int .i64 b.hp, .int .i64 b.of, .int .i64 b.tl, .string b.py] 25)
  clear hin hin2
  generalize RQ.delOk xs b ms n = R at *
  generalize RQ.delA xs b ms n = L at *
  generalize RQ.reaA xs b ms = AL at *
  generalize RQ.reaOk xs b ms = q1 at *
  generalize hq2 : decide (0 ≤ n ∧ n ≤ 2000) = q2 at *
  clear hq2
  obtain ⟨fr, to, gr, md, no, lf, hp, of, tl, py⟩ := b
  obtain ⟨hlt, c0, c1, c2, c3, c4, c5, c6, c7, c8, c9⟩ := id BA
  go_enter Try.func13, Try.ntmps13
  go_wp2_with fail
  refine (P1.out _ BB).mono ?_
  rintro e w1 ⟨a1, ca1, ps, rfl, ho, hL, hS, hb1⟩
  clear c0 c1 c2 c3 c4 c5 c6 c7 c8 c9 hlt P1
  have BB1 := BB.trans (hb1.mono BB.size)
  have HO : Hid _ := ho
  have h8 : ps.length ≤ 8 := by have := congrArg List.length hL; rw [List.length_map] at this; rw [this]; exact ML.out
  have HL : Hid _ := hL
  have HS : Hid _ := hS
  clear hb1 ho hL hS ML BA
  cases q1 with
  | false =>
    have hR : R = false := HR.out
    subst hR
    have hL := NO.out (by first | rfl | trivial)
    subst hL
    clear P2 HR NO YES HO HL HS
    go_wp2
    exact bodyPost_ret (v := .tuple #[.slice none 0 0, .bool false]) (by simp [results, Try.results13, go_sem]) rfl ⟨none, 0, rfl, World.ownsRow_nil _ _ _ _, BB1⟩
  | true =>
    have hR : R = q2 := HR.out
    subst hR
    obtain ⟨g, rfl⟩ := HS.out (by first | rfl | trivial)
    clear HS HR
    go_wp2_with fail
    refine (P2.out _).mono ?_
    rintro e w' ⟨rfl, rfl⟩
    clear P2
    cases R with
    | false =>
      have hL := NO.out (by first | rfl | trivial)
      subst hL
      clear NO YES HO HL
      go_wp2
      exact bodyPost_ret (v := .tuple #[.slice none 0 0, .bool false]) (by simp [results, Try.results13, go_sem]) rfl ⟨none, 0, rfl, World.ownsRow_nil _ _ _ _, BB1⟩
    | true =>
      have hY := YES.out (by first | rfl | trivial) ps HL.out
      obtain ⟨qs, hqs⟩ : ∃ qs, ps.filter (fun p => RQ.inTime n p.said) = qs := ⟨_, rfl⟩
      rw [hqs] at hY
      have hq8 : qs.length ≤ 8 := by rw [← hqs]; exact Nat.le_trans (List.length_filter_le _ _) h8
      have HY : Hid (qs.map Rq.m = L) := hY
      have Hgb : Hid _ := (HO.out.out.lt g rfl).1
      have NM : Hid (Calls _ _ _ _ _) := noMoreT_any _ g ca1 ps n w1 h8 HO.out qs hqs
      clear YES NO HL HO hqs hY
      go_wp2_with fail
      refine Calls.mono NM.out ?_
      rintro e w2 ⟨rfl, ho2, hO2⟩
      have BB2 := BB1.trans (hO2.below (Nat.le_trans BB.size Hgb.out) BB1.size)
      have TO : Hid (Calls _ _ _ _ _) := toldOf_any (some ⟨g, 0, none⟩) ca1 qs w2 hq8 ho2.at L HY
      clear NM ho2 hO2 HY Hgb
      go_wp2_with fail
      refine Calls.mono TO.out ?_
      rintro e w3 ⟨a3, c3, rfl, ho3, hb3⟩
      have HO3 : Hid _ := TR.own_mono ho3 BB2.size
      have BB3 := BB2.trans (hb3.mono BB2.size)
      clear TO ho3 hb3 BB1 BB
      go_wp2
      exact bodyPost_ret (v := .tuple #[.slice a3 L.length c3, .bool true]) (by simp [results, Try.results13, go_sem]) rfl ⟨a3, c3, rfl, HO3.out, BB3⟩
end Go.Proofs.Ytjplabldiheggaa
