import Derived.Test.YtjplabldiheggaaRows
import Derived.Test.YtjplabldiheggaaMTr
import Derived.WalkKit
import Derived.WalkSpells
import Derived.WalkLawsBesides
import Derived.Outline
import Derived.Deep.QuietTactic
import Derived.BigQuiet
import Derived.Test.YtjplabldiheggaaCReaA
import Derived.Test.YtjplabldiheggaaMTreR
import Derived.Test.YtjplabldiheggaaCHasJ
import Derived.Test.YtjplabldiheggaaCInfoRc
/- thoseOf of the program handed the closure impl.TreeFor$1. -/
namespace Go.Proofs.Ytjplabldiheggaa
open Go.RowKit
set_option maxHeartbeats 1600000 in
set_option maxRecDepth 100000 in
theorem thoseOfT_any (c1 : Value) (n : Nat) (P : Nat → Bool) (w : World) (hn8 : n ≤ 1000) (hF : ∀ (i : Nat) (W : World), i < n → Below w.heap.size w W → Calls Try.prog 30 #[.int .i64 (i : Int), c1] W fun e w' => e = .returned (.bool (P i)) ∧ Below W.heap.size W w') (L : List Int) (hL : Hid (TR.those n P = L)) :
    Calls Try.prog 29 #[.int .i64 (n : Int), .func (.func 30) #[] #[c1]] w fun e w' => ∃ a1 c1, e = .returned (.slice a1 L.length c1) ∧ w'.ownsRow w.heap.size 3 1 (.slice a1 L.length c1) L.length (M4.iv L) ∧ Below w.heap.size w w' := by
  have HF : Hid _ := hF
  clear hF
  obtain ⟨i0, hi, hz0, hz1, hz2⟩ := info_parts Try.info3
  go_enter Try.func29, Try.ntmps29
  go_wp2
  go_loopw [5, 8] (fun u iv wr => ∃ k : Nat, iv = .int .i64 k ∧ k ≤ n ∧ Hid (wr.ownsRow w.heap.size 3 1 u (TR.those k P).length (M4.iv (TR.those k P))) ∧ Below w.heap.size w wr) (fun _ iv _ => (n - intOf iv).toNat)
  case atStart => exact ⟨0, rfl, by omega, World.ownsRow_nil _ _ _ _, Below.refl _ _⟩
  case round =>
    obtain ⟨k, rfl, hk, hT, hb⟩ := hrel
    have hbs := hb.size
    by_cases hl : k < n
    · have hfl := TR.those_len k P
      have FK := HF.out k wr hl hb
      have TY := fun h => TR.those_yes (n := k) (P := P) h
      have TN := fun h => TR.those_no (n := k) (P := P) h
      generalize P k = q at *
      have HFK : Hid _ := FK
      have HTY : Hid _ := TY
      have HTN : Hid _ := TN
      clear FK TY TN
      generalize TR.those k P = K at *
      cases q
      · have hE := HTN.out rfl
        clear HTY HTN
        go_wp2_with fail
        refine Calls.mono HFK.out ?_
        rintro e w4 ⟨rfl, hb4⟩
        have HT4 : Hid (w4.ownsRow w.heap.size 3 1 u5 (TR.those (k + 1) P).length (M4.iv (TR.those (k + 1) P))) := by rw [hE]; exact M5.own_below hT.out hb4
        have hb5 := hb.trans (hb4.mono hb.size)
        clear HFK hT hb4 hE
        go_wp2
        go_roundw
        case rel => exact ⟨k + 1, by go_num, by omega, HT4, hb5⟩
        case measure => simp [intOf]; omega
      · have hE := HTY.out rfl
        have HE : Hid _ := hE
        clear HTY HTN hE
        go_wp2_with fail
        refine Calls.mono HFK.out ?_
        rintro e w4 ⟨rfl, hb4⟩
        have HT4 : Hid (w4.ownsRow w.heap.size 3 1 u5 K.length (M4.iv K)) := M5.own_below hT.out hb4
        have hb5 := hb.trans (hb4.mono hb.size)
        have hbs5 := hb5.size
        clear HFK hT hb4
        generalize hkl : K.length = kl at *
        have HKL : Hid _ := hkl
        clear hkl
        go_wp2_with (at_builtin; (refine wpList_append_own _ rfl _ _ 26 rfl w.heap.size 3 i0 (.int .i64 0) 1 8 Try.underlying26 hi hz0 hz1 hz2 rfl (by decide) _ _ _ rfl (World.ownsRow.alloc HT4.out _) ⟨w4.heap.size, 0, none⟩ 1 1 [.int .i64 (k : Int)] rfl rfl ?c1 ?c2 ?c3 ?c4 ?c5 ?_))
        all_goals try (first | rfl | omega | exact M2.new1 _ _ _ | exact M2.one1 _ _ | (unfold maxLen; omega) | (simp; omega))
        intro v' w6 hown1 hgrow _
        have hb6 : Below w.heap.size w w6 := (hb5.alloc hbs5 _).grown hgrow (by simp; omega) (fun j hj => (World.ownsRow.lt HT4.out j hj).1)
        have HT6 : Hid (w6.ownsRow w.heap.size 3 1 v' (TR.those (k + 1) P).length (M4.iv (TR.those (k + 1) P))) := by
          rw [HE.out]; exact TR.own_snoc (by rw [HKL.out]; exact hown1) rfl
        clear hown1 hgrow HT4 HE HKL hb5
        go_wp2
        go_roundw
        case rel => exact ⟨k + 1, by go_num, by omega, HT6, hb6⟩
        case measure => simp [intOf]; omega
    · obtain rfl : n = k := by omega
      have hLL := hL.out
      subst hLL
      obtain ⟨a1, c1, rfl, -⟩ := M5.own_view hT.out
      clear HF hL
      go_wp2
      go_ret
      exact ⟨a1, c1, rfl, hT.out, hb⟩
end Go.Proofs.Ytjplabldiheggaa

/- The contacts by which a group is reached, the program's: TreeFor. -/
namespace Go.Proofs.Ytjplabldiheggaa
open Go.RowKit
set_option linter.unusedSimpArgs false in
set_option maxHeartbeats 1600000 in
set_option maxRecDepth 100000 in
theorem goneBy_any (p : Rq) (g k : Nat) (w : World) (hz : p.os.length ≤ 1048576) (hg : g < w.heap.size) (hk : w.cell? ⟨g, 0, none⟩ = some (.int .i64 (k : Int))) (hin : M4.IntsAt w p.a p.os) (R : Bool) (hR : Hid (EG.hasB p.os (k : Int) = R)) :
    Calls Try.prog 32 #[p.v, .pointer (some ⟨g, 0, none⟩)] w fun e w' => e = .returned (.bool R) ∧ Below w.heap.size w w' := by
  obtain ⟨m, t, os, a, c⟩ := p
  have hb : Below w.heap.size w (w.alloc (.cells #[.int .i64 m, .int .i64 t, .slice a os.length c] 37)) := (Below.refl _ w).alloc (Nat.le_refl _) _
  have hk2 : (w.alloc (.cells #[.int .i64 m, .int .i64 t, .slice a os.length c] 37)).cell? ⟨g, 0, none⟩ = some (.int .i64 (k : Int)) := (hb.cell (p := ⟨g, 0, none⟩) hg).trans hk
  have CT : Hid (Calls _ _ _ _ _) := containsI_any a c os (k : Int) (w.alloc (.cells #[.int .i64 m, .int .i64 t, .slice a os.length c] 37)) hz (M4.IntsAt.below hin hb)
  rw [show EG.hasB os (k : Int) = R from hR.out] at CT
  clear hin hR hk
  go_enter Try.func32, Try.ntmps32
  go_wp2_with fail
  refine Calls.mono CT.out ?_
  rintro e w2 ⟨rfl, rfl⟩
  clear CT hk2
  go_wp2
  go_ret
  exact ⟨rfl, hb⟩
set_option linter.unusedSimpArgs false in
set_option maxHeartbeats 1600000 in
set_option maxRecDepth 100000 in
theorem indexRe_any (a : Option Addr) (c : Nat) (ps : List Rq) (g k : Nat) (w : World) (h8 : ps.length ≤ 8) (hz : ∀ p, p ∈ ps → p.os.length ≤ 1048576) (hg : g < w.heap.size) (hk : w.cell? ⟨g, 0, none⟩ = some (.int .i64 (k : Int))) (hin : RQ.At w a ps) (L : List (Int × Int × List Int)) (hs : ps.map Rq.said = L) :
    Calls Try.prog 58 #[.slice a ps.length c, .func (.func 32) #[] #[.pointer (some ⟨g, 0, none⟩)]] w fun e w' => ∃ i : Int, e = .returned (.int .i64 i) ∧ decide (0 ≤ i) = RQ.anyOf L k ∧ Below w.heap.size w w' := by
  have HI : Hid _ := hin
  have HZ : Hid _ := fun i (hi : i < ps.length) => hz _ (RQ.at_mem hi)
  have HY : Hid (∀ i, i < ps.length → EG.hasB (RQ.at_ ps i).os (k : Int) = true → RQ.anyOf L k = true) := fun i hi h => RQ.any_yes hs hi h
  have HN : Hid (RQ.anyUp ps k ps.length → RQ.anyOf L k = false) := fun h => RQ.any_no hs h
  clear hin hz hs
  go_enter Try.func58, Try.ntmps58
  go_wp2
  go_loopw [5, 8] (fun _ iv wr => ∃ i : Nat, iv = .int .i64 i ∧ i ≤ ps.length ∧ Hid (RQ.anyUp ps k i) ∧ Below w.heap.size w wr) (fun _ iv _ => (ps.length - intOf iv).toNat)
  case atStart => exact ⟨0, rfl, by omega, show Hid _ from fun j hj => by omega, Below.refl _ _⟩
  case round =>
    obtain ⟨i, rfl, hil, hT, hb⟩ := hrel
    by_cases hl : i < ps.length
    · obtain ⟨b1, o1, rfl, hlt1, p0, p1, p2, p3, p4⟩ := (HI.out.below hb).at hl
      have hzz := HZ.out i hl
      have hgr := Nat.lt_of_lt_of_le hg hb.size
      have hkr : wr.cell? ⟨g, 0, none⟩ = some (.int .i64 (k : Int)) := (hb.cell (p := ⟨g, 0, none⟩) hg).trans hk
      obtain ⟨q, hq⟩ : ∃ q, EG.hasB (RQ.at_ ps i).os (k : Int) = q := ⟨_, rfl⟩
      have GB : Hid (Calls _ _ _ _ _) := goneBy_any (RQ.at_ ps i) g k wr hzz hgr hkr p4 q hq
      have Y1 : Hid (q = true → RQ.anyOf L k = true) := fun h => HY.out i hl (hq.trans h)
      have N1 : Hid (q = false → RQ.anyUp ps k (i + 1)) := fun h => RQ.anyUp_succ hT.out (hq.trans h)
      clear HY HN hT p3 p4 hq
      generalize RQ.at_ ps i = p at *
      obtain ⟨m, t, ys, ya, yc⟩ := p
      go_wp2_with fail
      refine Calls.mono GB.out ?_
      rintro e w2 ⟨rfl, hb2⟩
      have hb3 := hb.trans (hb2.mono hb.size)
      clear GB hb2 hb p0 p1 p2
      cases q with
      | true =>
        have HT := Y1.out (by first | rfl | trivial)
        clear Y1 N1
        go_wp2
        go_ret
        exact ⟨i, rfl, by rw [HT]; simp, hb3⟩
      | false =>
        have HT : Hid _ := N1.out (by first | rfl | trivial)
        clear Y1 N1
        go_wp2
        go_roundw
        case rel => exact ⟨i + 1, by go_num, by omega, HT, hb3⟩
        case measure => simp [intOf]; omega
    · obtain rfl : i = ps.length := by omega
      have HF := HN.out hT.out
      clear HY HN hT HI
      go_wp2
      go_ret
      exact ⟨-1, rfl, by rw [HF]; rfl, hb⟩
set_option linter.unusedSimpArgs false in
set_option maxHeartbeats 1600000 in
set_option maxRecDepth 100000 in
theorem treeK_any (a : Option Addr) (c : Nat) (ps : List Rq) (g k : Nat) (w : World) (h8 : ps.length ≤ 8) (hz : ∀ p, p ∈ ps → p.os.length ≤ 1048576) (hg : w.cell? ⟨g, 0, none⟩ = some (.slice a ps.length c)) (hgl : g < w.heap.size) (hin : RQ.At w a ps) (L : List (Int × Int × List Int)) (hs : ps.map Rq.said = L) :
    Calls Try.prog 30 #[.int .i64 (k : Int), .pointer (some ⟨g, 0, none⟩)] w fun e w' => e = .returned (.bool (RQ.anyOf L k)) ∧ Below w.heap.size w w' := by
  have hb : Below w.heap.size w (w.alloc (.cells #[.int .i64 (k : Int)] 3)) := (Below.refl _ w).alloc (Nat.le_refl _) _
  have hg2 : (w.alloc (.cells #[.int .i64 (k : Int)] 3)).cell? ⟨g, 0, none⟩ = some (.slice a ps.length c) := (hb.cell (p := ⟨g, 0, none⟩) hgl).trans hg
  have hk2 : (w.alloc (.cells #[.int .i64 (k : Int)] 3)).cell? ⟨w.heap.size, 0, none⟩ = some (.int .i64 (k : Int)) := by rw [World.cell?_alloc_new]; rfl
  have IX : Hid (Calls _ _ _ _ _) := indexRe_any a c ps w.heap.size k (w.alloc (.cells #[.int .i64 (k : Int)] 3)) h8 hz (by simp) hk2 (hin.below hb) L hs
  have CF : Hid (Calls Try.prog 31 #[.slice a ps.length c, .func (.func 32) #[] #[.pointer (some ⟨w.heap.size, 0, none⟩)]] (w.alloc (.cells #[.int .i64 (k : Int)] 3)) fun e w' => e = .returned (.bool (RQ.anyOf L k)) ∧ Below w.heap.size w w') := by
    clear hin hz hk2 hg2 hg hs
    generalize RQ.anyOf L k = R at *
    generalize w.alloc (.cells #[.int .i64 (k : Int)] 3) = W at *
    show Calls _ _ _ _ _
    go_enter Try.func31, Try.ntmps31
    go_wp2_with fail
    refine Calls.mono IX.out ?_
    rintro e w2 ⟨i, rfl, hi, hb2⟩
    have hb3 := hb.trans (hb2.mono hb.size)
    clear IX hb2
    go_wp2
    go_ret
    exact ⟨rfl, hb3⟩
  clear IX hin hz hk2 hg hs
  go_enter Try.func30, Try.ntmps30
  go_wp2_with fail
  refine Calls.mono CF.out ?_
  rintro e w2 ⟨rfl, hb2⟩
  clear CF hg2
  go_wp2
  go_ret
  exact ⟨rfl, hb2⟩
set_option linter.unusedSimpArgs false in
set_option maxHeartbeats 1600000 in
set_option maxRecDepth 100000 in
theorem treI_any (a d : Option Addr) (cap cd : Nat) (xs : List I5) (b : Bd) (ms : List Int) (w : World) (hm : ms.length ≤ 1048576) (hn : xs.length ≤ 1048576) (hs : b.py.size ≤ 1048576) (hin : MI5.RowAt w a xs) (hin2 : M4.IntsAt w d ms) :
    Calls Try.prog 7 #[.slice a xs.length cap, b.v, .slice d ms.length cd] w fun e w' => ∃ a1 c1, e = .returned (.tuple #[.slice a1 (RQ.treA xs b ms).length c1, .bool (RQ.reaOk xs b ms)]) ∧ w'.ownsRow w.heap.size 3 1 (.slice a1 (RQ.treA xs b ms).length c1) (RQ.treA xs b ms).length (M4.iv (RQ.treA xs b ms)) ∧ Below w.heap.size w w' := by
  have P1 : Hid (∀ W : World, Below w.heap.size w W → Calls Try.prog 5 #[.slice a xs.length cap, b.v, .slice d ms.length cd] W fun e w' => ∃ a1 c1 ps, e = .returned (.tuple #[.slice a1 (List.length ps) c1, .bool (RQ.reaOk xs b ms)]) ∧ RQ.Own 37 w' W.heap.size (.slice a1 ps.length c1) ps ∧ ps.map Rq.said = RQ.reaA xs b ms ∧ Below W.heap.size W w') := fun W h => reachI_any a d cap cd xs b ms W hm hn hs (hin.below h) (M4.IntsAt.below hin2 h)
  have NO : Hid (RQ.reaOk xs b ms = false → RQ.treA xs b ms = []) := fun h => RQ.tre_no h
  have YES : Hid (RQ.reaOk xs b ms = true → TR.those xs.length (RQ.anyOf (RQ.reaA xs b ms)) = RQ.treA xs b ms ∧ xs.length ≤ 20) := fun h => ⟨by rw [RQ.tre_yes h, RQ.rea_yes h], RQ.rea_plan h⟩
  have ML : Hid ((RQ.reaA xs b ms).length ≤ 8) := RQ.reaA_len xs b ms
  have MZ : Hid (∀ r, r ∈ RQ.reaA xs b ms → r.2.2.length ≤ 1048576) := RQ.reaA_row xs b ms
  have BA := BdAt.box w b 25
  have BB := (Below.refl _ w).alloc (Nat.le_refl _) (.cells #[.int .i64 b.fr, .int .i64 b.to, .bool b.gr, .int .i64 b.md, .int .i64 b.no, .int .i64 b.lf, .int .i64 b.hp, .int .i64 b.of, .int .i64 b.tl, .string b.py] 25)
  clear hin hin2
  generalize RQ.reaA xs b ms = AL at *
  generalize RQ.treA xs b ms = L at *
  generalize RQ.reaOk xs b ms = q1 at *
  obtain ⟨fr, to, gr, md, no, lf, hp, of, tl, py⟩ := b
  obtain ⟨hlt, c0, c1, c2, c3, c4, c5, c6, c7, c8, c9⟩ := id BA
  go_enter Try.func7, Try.ntmps7
  go_wp2_with fail
  refine (P1.out _ BB).mono ?_
  rintro e w1 ⟨a1, ca1, ps, rfl, ho, hL, hb1⟩
  clear c0 c1 c2 c3 c4 c5 c6 c7 c8 c9 hlt P1
  have BB1 := BB.trans (hb1.mono BB.size)
  have HO : Hid (RQ.At w1 a1 ps) := ho.at
  have h8 : ps.length ≤ 8 := by have := congrArg List.length hL; rw [List.length_map] at this; rw [this]; exact ML.out
  have HPZ : Hid (∀ p, p ∈ ps → p.os.length ≤ 1048576) := fun p hp => MZ.out p.said (by rw [← hL]; exact List.mem_map_of_mem hp)
  have HL : Hid _ := hL
  have hbx : Below w1.heap.size w1 (w1.alloc (.cells #[.slice a1 ps.length ca1] 29)) := (Below.refl _ w1).alloc (Nat.le_refl _) _
  have HBX : Hid _ := hbx
  have hcx : (w1.alloc (.cells #[.slice a1 ps.length ca1] 29)).cell? ⟨w1.heap.size, 0, none⟩ = some (.slice a1 ps.length ca1) := by rw [World.cell?_alloc_new]; rfl
  have HCX : Hid _ := hcx
  have BB2 := BB1.trans (hbx.mono BB1.size)
  clear hb1 ho hL ML MZ BA hbx hcx
  cases q1 with
  | false =>
    have hL := NO.out (by first | rfl | trivial)
    subst hL
    clear NO YES HO HL HPZ HBX HCX
    go_wp2
    exact bodyPost_ret (v := .tuple #[.slice none 0 0, .bool false]) (by simp [results, Try.results7, go_sem]) rfl ⟨none, 0, rfl, World.ownsRow_nil _ _ _ _, BB2⟩
  | true =>
    obtain ⟨hY, h20⟩ := YES.out (by first | rfl | trivial)
    have TH : Hid (Calls _ _ _ _ _) := thoseOfT_any (.pointer (some ⟨w1.heap.size, 0, none⟩)) xs.length (RQ.anyOf AL) (w1.alloc (.cells #[.slice a1 ps.length ca1] 29)) (by omega) (fun i W1 hi hb => treeK_any a1 ca1 ps w1.heap.size i W1 h8 HPZ.out ((hb.cell (p := ⟨w1.heap.size, 0, none⟩) (by simp)).trans HCX.out) (by have := hb.size; simp at this; omega) ((HO.out.below HBX.out).below hb) AL HL.out) L hY
    have hs2 := BB2.size
    clear NO YES HO HL HPZ HBX HCX hY
    go_wp2_with fail
    refine Calls.mono TH.out ?_
    rintro e w3 ⟨a3, c3, rfl, ho3, hb3⟩
    have HO3 : Hid _ := TR.own_mono ho3 hs2
    have BB3 := BB2.trans (hb3.mono hs2)
    clear TH ho3 hb3 BB1 BB BB2
    go_wp2
    exact bodyPost_ret (v := .tuple #[.slice a3 L.length c3, .bool true]) (by simp [results, Try.results7, go_sem]) rfl ⟨a3, c3, rfl, HO3.out, BB3⟩
end Go.Proofs.Ytjplabldiheggaa
