/- Lists of members joined: JoinMembers of the specification. -/
import Derived.Test.YtggoaoieephbkaaRows
import Derived.Test.YtggoaoieephbkaaMGp
import Derived.Test.YtggoaoieephbkaaCRise
import Derived.Test.YtggoaoieephbkaaCPutT
import Derived.WalkKit
import Derived.WalkSpells
import Derived.WalkLawsBesides
import Derived.Outline
import Derived.Deep.QuietTactic
import Derived.BigQuiet
import Derived.Laws.AppendOwnNone
namespace Go.Proofs.Ytggoaoieephbkaa
open Go.RowKit
namespace GP
theorem cells_of {w : World} {b off : Nat} {l : List Int} (h : M4.IntsAt w (some ⟨b, off, none⟩) l) : ∀ j u, (M4.iv l)[j]? = some u → w.cell? ((⟨b, off, none⟩ : Addr).add j) = some u := by
  intro j u hj
  have hjl : j < l.length := by have := (List.getElem?_eq_some_iff.1 hj).1; simpa [M4.iv] using this
  obtain ⟨b1, off1, he, hlt, hc⟩ := M4.IntsAt.at h hjl
  cases he
  rw [EG.add_is, hc]
  rw [M4.iv, List.getElem?_map, List.getElem?_eq_getElem hjl] at hj
  rw [List.getD_eq_getElem?_getD, List.getElem?_eq_getElem hjl]
  simpa using hj
theorem nil_lit (W : World) (B : Nat) (hB : B ≤ W.heap.size) : (W.alloc (.cells #[] 3)).ownsRow B 3 1 (.slice (some ⟨W.heap.size, 0, none⟩) 0 0) ([] : List Int).length (M4.iv []) := by
  have := World.ownsRow_lit (base := B) (e := 3) (size := 1) W #[] 0 hB (by unfold maxLen; omega) (by simp)
  simpa [M4.iv] using this
end GP
set_option linter.unusedSimpArgs false in
set_option maxHeartbeats 1600000 in
set_option maxRecDepth 100000 in
theorem specJoin_any (a b : Option Addr) (ca cb : Nat) (xs zs : List Int) (w : World) (hz : xs.length ≤ 1048576) (hz2 : zs.length ≤ 1048576) (hc0 : a = none → ca = 0) (hin : M4.IntsAt w a xs) (hin2 : M4.IntsAt w b zs) :
    Calls Try.prog 4 #[.slice a xs.length ca, .slice b zs.length cb] w fun e w' => ∃ a1 c1, e = .returned (.tuple #[.slice a1 (GP.joinL xs zs).length c1, .bool (GP.joinOk xs zs)]) ∧ w'.ownsRow w.heap.size 3 1 (.slice a1 (GP.joinL xs zs).length c1) (GP.joinL xs zs).length (M4.iv (GP.joinL xs zs)) ∧ Below w.heap.size w w' := by
  obtain ⟨i0, hi, hz0, hz1, hz2'⟩ := info_parts Try.info3
  have H1 : Hid _ := hin
  have H2 : Hid _ := hin2
  have AM : Hid (∀ W, Below w.heap.size w W → Calls Try.prog 10 #[.slice a xs.length ca, .int .i64 8] W fun e w' => e = .returned (.bool (EG.rises 8 xs)) ∧ Below W.heap.size W w') := fun W h => l1Some_any a ca 8 xs W (by omega) hz (M4.IntsAt.below H1.out h) _ rfl
  have BM : Hid (∀ W, Below w.heap.size w W → Calls Try.prog 10 #[.slice b zs.length cb, .int .i64 8] W fun e w' => e = .returned (.bool (EG.rises 8 zs)) ∧ Below W.heap.size W w') := fun W h => l1Some_any b cb 8 zs W (by omega) hz2 (M4.IntsAt.below H2.out h) _ rfl
  have HJ : Hid (GP.joinOk xs zs = (EG.rises 8 xs && EG.rises 8 zs)) := show GP.joinOk xs zs = _ from rfl
  have hYY : Hid (EG.rises 8 xs = true → EG.rises 8 zs = true → GP.putAll xs zs = GP.joinL xs zs) := fun h1 h2 => by rw [GP.join_put h1 h2, GP.join_yes (by unfold GP.joinOk; rw [h1, h2]; rfl)]
  have hNN : Hid (GP.joinOk xs zs = false → GP.joinL xs zs = []) := fun h => GP.join_no h
  have PU : Hid (EG.rises 8 xs = true → GP.PutUp 8 xs zs xs 0) := fun h => GP.PutUp.start zs ((GP.rises_iff 8 xs).1 h).2 ((GP.rises_iff 8 xs).1 h).1
  have BD : Hid (EG.rises 8 zs = true → ∀ k, k < zs.length → 0 ≤ zs.getD k 0 ∧ zs.getD k 0 < 8) := fun h k hk => by have := (EG.rises_is h) k hk; exact ⟨this.1, this.2.1⟩
  have HXL : Hid (EG.rises 8 xs = true → xs.length ≤ 8) := fun h => GP.rises_len h
  clear hin hin2
  generalize GP.joinL xs zs = L at *
  generalize GP.joinOk xs zs = J at *
  generalize EG.rises 8 xs = q1 at *
  generalize EG.rises 8 zs = q2 at *
  go_enter Try.func4, Try.ntmps4
  go_wp2_with fail
  refine Calls.mono (AM.out _ (Below.refl _ _)) ?_
  rintro e w2 ⟨rfl, hb2⟩
  have HB2 : Hid _ := hb2
  clear AM hb2
  cases q1 with
  | false =>
    have hJ : J = false := HJ.out
    subst hJ
    obtain rfl := hNN.out rfl
    clear BM hYY hNN HJ PU BD HXL H1 H2
    go_wp2
    exact bodyPost_ret (v := .tuple #[.slice none 0 0, .bool false]) (by simp [results, Try.results4, go_sem]) rfl ⟨none, 0, rfl, World.ownsRow_nil _ _ _ _, HB2.out⟩
  | true =>
    go_wp2_with fail
    refine Calls.mono (BM.out _ HB2.out) ?_
    rintro e w3 ⟨rfl, hb3⟩
    have HB3 : Hid (Below w.heap.size w w3) := HB2.out.trans (hb3.mono HB2.out.size)
    clear BM hb3 HB2
    cases q2 with
    | false =>
      have hJ : J = false := HJ.out
      subst hJ
      obtain rfl := hNN.out rfl
      clear hYY hNN HJ PU BD HXL H1 H2
      go_wp2
      exact bodyPost_ret (v := .tuple #[.slice none 0 0, .bool false]) (by simp [results, Try.results4, go_sem]) rfl ⟨none, 0, rfl, World.ownsRow_nil _ _ _ _, HB3.out⟩
    | true =>
      have hJ : J = true := HJ.out
      subst hJ
      have HPU : Hid _ := PU.out (by first | rfl | trivial)
      have HBD : Hid _ := BD.out (by first | rfl | trivial)
      have HPA : Hid _ := hYY.out (by first | rfl | trivial) (by first | rfl | trivial)
      have hxl := HXL.out (by first | rfl | trivial)
      clear hNN HJ PU BD hYY HXL
      have hs3 := HB3.out.size
      have HI3 : Hid _ := M4.IntsAt.below H1.out HB3.out
      have HZ3 : Hid _ := M4.IntsAt.below H2.out HB3.out
      have OW0 : Hid _ := GP.nil_lit w3 w.heap.size hs3
      have HB4 : Hid _ := HB3.out.alloc hs3 (.cells #[] 3)
      have hs4 := HB4.out.size
      clear H1 H2 HB3
      have TAIL : Hid (∀ (v1 : Value) (w5 : World), w5.ownsRow w.heap.size 3 1 v1 xs.length (M4.iv xs) → Below w.heap.size w w5 → M4.IntsAt w5 b zs → True) := fun _ _ _ _ _ => trivial
      clear TAIL
      rcases a with _ | p
      · have hx0 : xs = [] := HI3.out.elim id (fun h => by obtain ⟨_, _, h, _⟩ := h; cases h)
        subst hx0
        obtain rfl := hc0 rfl
        go_wp2_with (at_builtin; refine wpList_append_own_none rfl _ _ 22 rfl w.heap.size 3 i0 1 Try.underlying22 hi _ _ _ rfl OW0.out rfl ?_)
        have OW1 : Hid ((w3.alloc (.cells #[] 3)).ownsRow w.heap.size 3 1 (.slice (some ⟨w3.heap.size, 0, none⟩) 0 0) ([] : List Int).length (M4.iv [])) := OW0.out
        have HZ4 : Hid _ := M4.IntsAt.below HZ3.out ((Below.refl _ w3).alloc (Nat.le_refl _) (.cells #[] 3))
        generalize Value.slice (some ⟨w3.heap.size, 0, none⟩) 0 0 = v1 at *
        generalize w3.alloc (.cells #[] 3) = w4 at *
        clear OW0 HI3 HZ3 hs3
        go_wp2
        go_loopw [6, 22] (fun u iv wr => ∃ (k : Nat) (T : List Int), iv = .int .i64 k ∧ k ≤ zs.length ∧ Hid (GP.PutUp 8 [] zs T k) ∧ Hid (wr.ownsRow w.heap.size 3 1 u T.length (M4.iv T)) ∧ Hid (M4.IntsAt wr b zs) ∧ Below w.heap.size w wr) (fun _ iv _ => (zs.length - intOf iv).toNat)
        case atStart => exact ⟨0, _, rfl, by omega, HPU, OW1, HZ4, HB4.out⟩
        case round =>
          obtain ⟨k, T, rfl, hk, hP, hO, hZ, hb⟩ := hrel
          by_cases hlk : k < zs.length
          · obtain ⟨b1, off1, rfl, hlt1, hc1⟩ := M4.IntsAt.at hZ.out hlk
            have HP2 : Hid _ := hP.out.next hlk (HBD.out k hlk)
            have LP : Hid _ := l7Put_up w.heap.size u6 T (zs.getD k 0) wr (by have := hP.out.len; omega) hP.out.up hb.size hO.out
            have hbs := hb.size
            clear hP hO HPU OW1 HZ4
            generalize zs.getD k 0 = z at *
            generalize GP.putT T z = T' at *
            go_wp2_with fail
            refine Calls.mono LP.out ?_
            rintro e w6 ⟨a1, c1, rfl, ho, hb6⟩
            have HO6 : Hid _ := ho
            have HZ6 : Hid _ := M4.IntsAt.below hZ.out hb6
            have HB6 := hb.trans (hb6.mono hbs)
            clear LP ho hb6 hc1 hZ hb
            go_wp2
            go_roundw
            case rel => exact ⟨k + 1, T', by go_num, by omega, HP2, HO6, HZ6, HB6⟩
            case measure => simp [intOf]; omega
          · obtain rfl : k = zs.length := by omega
            have hT : T = L := by rw [hP.out.end_]; exact HPA.out
            subst hT
            obtain ⟨a1, c1, rfl, -⟩ := M5.own_view hO.out
            clear hZ hP HPA HPU OW1 HZ4 HBD
            go_wp2
            exact bodyPost_ret (v := .tuple #[.slice a1 T.length c1, .bool true]) (by simp [results, Try.results4, go_sem]) rfl ⟨a1, c1, rfl, hO.out, hb⟩
      · go_wp2_with (at_builtin; refine wpList_append_own _ rfl _ _ 22 rfl w.heap.size 3 i0 (.int .i64 0) 1 8 Try.underlying22 hi hz0 hz1 hz2' rfl (by decide) _ _ _ rfl OW0.out p xs.length ca (M4.iv xs) rfl ?h1_0 ?h1_1 ?h1_2 ?h1_3 ?h1_4 ?h1_5 ?_)
        case h1_0 => simp [M4.iv]
        case h1_1 =>
          intro j u hj
          have hjl : j < xs.length := by have := (List.getElem?_eq_some_iff.1 hj).1; simpa [M4.iv] using this
          obtain ⟨b1, off1, he, _⟩ := M4.IntsAt.at HI3.out hjl
          cases he
          exact GP.cells_of (M4.IntsAt.below HI3.out ((Below.refl _ w3).alloc (Nat.le_refl _) (.cells #[] 3))) j u hj
        case h1_2 => exact EG.iv_one _
        case h1_3 => simp; unfold maxLen; omega
        case h1_4 => simp; omega
        case h1_5 => simp; omega
        intro v1 w4 hown1 hgrow1 _
        have OW1 : Hid (w4.ownsRow w.heap.size 3 1 v1 xs.length (M4.iv xs)) := show w4.ownsRow _ _ _ _ _ _ by have h := hown1; simpa [M4.iv] using h
        have hbg : Below w3.heap.size w3 w4 := ((Below.refl _ w3).alloc (Nat.le_refl _) (.cells #[] 3)).grown hgrow1 (by simp) (fun j hj => by cases hj; exact Nat.le_refl _)
        have HZ4 : Hid _ := M4.IntsAt.below HZ3.out hbg
        replace HB4 : Hid (Below w.heap.size w w4) := HB4.out.grown hgrow1 (by simp; omega) (fun j hj => by cases hj; exact hs3)
        clear hs4
        have hs4 := HB4.out.size
        clear OW0 HI3 HZ3 hs3 hown1 hgrow1 hbg
        go_wp2
        go_loopw [6, 22] (fun u iv wr => ∃ (k : Nat) (T : List Int), iv = .int .i64 k ∧ k ≤ zs.length ∧ Hid (GP.PutUp 8 xs zs T k) ∧ Hid (wr.ownsRow w.heap.size 3 1 u T.length (M4.iv T)) ∧ Hid (M4.IntsAt wr b zs) ∧ Below w.heap.size w wr) (fun _ iv _ => (zs.length - intOf iv).toNat)
        case atStart => exact ⟨0, _, rfl, by omega, HPU, OW1, HZ4, HB4.out⟩
        case round =>
          obtain ⟨k, T, rfl, hk, hP, hO, hZ, hb⟩ := hrel
          by_cases hlk : k < zs.length
          · obtain ⟨b1, off1, rfl, hlt1, hc1⟩ := M4.IntsAt.at hZ.out hlk
            have HP2 : Hid _ := hP.out.next hlk (HBD.out k hlk)
            have LP : Hid _ := l7Put_up w.heap.size u6 T (zs.getD k 0) wr (by have := hP.out.len; omega) hP.out.up hb.size hO.out
            have hbs := hb.size
            clear hP hO HPU OW1 HZ4
            generalize zs.getD k 0 = z at *
            generalize GP.putT T z = T' at *
            go_wp2_with fail
            refine Calls.mono LP.out ?_
            rintro e w6 ⟨a1, c1, rfl, ho, hb6⟩
            have HO6 : Hid _ := ho
            have HZ6 : Hid _ := M4.IntsAt.below hZ.out hb6
            have HB6 := hb.trans (hb6.mono hbs)
            clear LP ho hb6 hc1 hZ hb
            go_wp2
            go_roundw
            case rel => exact ⟨k + 1, T', by go_num, by omega, HP2, HO6, HZ6, HB6⟩
            case measure => simp [intOf]; omega
          · obtain rfl : k = zs.length := by omega
            have hT : T = L := by rw [hP.out.end_]; exact HPA.out
            subst hT
            obtain ⟨a1, c1, rfl, -⟩ := M5.own_view hO.out
            clear hZ hP HPA HPU OW1 HZ4 HBD
            go_wp2
            exact bodyPost_ret (v := .tuple #[.slice a1 T.length c1, .bool true]) (by simp [results, Try.results4, go_sem]) rfl ⟨a1, c1, rfl, hO.out, hb⟩
end Go.Proofs.Ytggoaoieephbkaa
