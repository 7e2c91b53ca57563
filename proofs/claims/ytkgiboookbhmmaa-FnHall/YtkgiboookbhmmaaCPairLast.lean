import Derived.Test.YtkgiboookbhmmaaRows
import Derived.Test.YtkgiboookbhmmaaMPE
import Derived.Test.YtkgiboookbhmmaaCHasS
import Derived.Deep.RegionHeld3
import Derived.WalkKit
import Derived.WalkSpells
import Derived.WalkLawsBesides
import Derived.Outline
import Derived.Test.YtkgiboookbhmmaaMCur
import Derived.Test.YtkgiboookbhmmaaM4
import Derived.Test.YtkgiboookbhmmaaMInfo
import Derived.Test.YtkgiboookbhmmaaMRP
import Derived.Deep.OwnRows
import Derived.Laws.CopyRow
import Derived.Test.YtkgiboookbhmmaaCPairGood
/- The program's search for a row: letsItselfBeTaken, takesOne. -/
namespace Go.Proofs.Ytkgiboookbhmmaa
open Go.RowKit
set_option maxHeartbeats 1600000 in
set_option maxRecDepth 100000 in
theorem indexO_any (a : Option Addr) (cap : Nat) (zs : List Int) (x : Int) (w : World) (ho : zs.length ≤ 1048576) (hos : M4.IntsAt w a zs) :
    Calls Try.prog 56 #[.slice a zs.length cap, .int .i64 x] w fun e w' => e = .returned (.int .i64 (PG.ownI zs x)) ∧ w = w' := by
  obtain ⟨I, hI'⟩ : ∃ I, PG.ownI zs x = I := ⟨_, rfl⟩
  have hI : Hid (PG.ownI zs x = I) := hI'
  rw [hI']
  clear hI'
  go_enter Try.func56, Try.ntmps56
  go_wp2
  go_loopw [8] (fun iv wr => ∃ k : Nat, iv = .int .i64 k ∧ k ≤ zs.length ∧ Hid (EG.noUp zs x k) ∧ w = wr) (fun iv _ => (zs.length - intOf iv).toNat)
  case atStart => exact ⟨0, rfl, by omega, show Hid _ from fun j hj => by omega, rfl⟩
  case round =>
    obtain ⟨k, rfl, hk, hT, rfl⟩ := hrel
    by_cases hlk : k < zs.length
    · obtain ⟨b1, off1, rfl, hlt1, hc1⟩ := hos.at hlk
      have HY : Hid (zs.getD k 0 = x → I = k) := fun h => by rw [← hI.out]; exact PG.ownI_here hlk h hT.out
      have HN : Hid _ := fun h => EG.noUp_succ hT.out (k := k) h
      clear hos hT hI
      generalize zs.getD k 0 = y at *
      by_cases hxy : y = x
      · have hF : Hid _ := HY.out hxy
        subst hxy
        clear HY HN
        go_wp2
        go_ret
        exact ⟨by rw [hF.out]; rfl, rfl⟩
      · have hT : Hid _ := HN.out hxy
        clear HY HN
        go_wp2
        go_roundw
        case rel => exact ⟨k + 1, by go_num, by omega, hT, trivial⟩
        case measure => simp [intOf]; omega
    · obtain rfl : k = zs.length := by omega
      have hF : Hid (I = -1) := by show _ = _; rw [← hI.out]; exact PG.ownI_not hT.out
      clear hos hT hI
      go_wp2
      go_ret
      exact ⟨by rw [hF.out]; rfl, rfl⟩
set_option maxHeartbeats 3200000 in
set_option maxRecDepth 100000 in
theorem lets_any (W0 : World) (gs gm cm n f j : Nat) (v : Value) (rec : Nat → PG.St → Bool × PG.St) (s : PG.St) (w : World) (hn8 : n ≤ 8) (hj : j < 8) (hun : PG.un s.2 < f + 1)
    (TK : ∀ (o : Nat) (s' : PG.St) (W : World), o < n → PG.un s'.2 < f → Below W0.heap.size W0 W → PG.Im 47 W0.heap.size gs gm cm n v W s' → Calls Try.prog 51 #[.pointer (some ⟨gs, 0, none⟩), .int .i64 (o : Int)] W fun e w' => e = .returned (.bool (rec o s').1) ∧ PG.Im 47 W0.heap.size gs gm cm n v w' (rec o s').2 ∧ PG.But gm gs W w')
    (hb0 : Below W0.heap.size W0 w) (hs : PG.Im 47 W0.heap.size gs gm cm n v w s) :
    Calls Try.prog 58 #[.pointer (some ⟨gs, 0, none⟩), .int .i64 (j : Int)] w fun e w' => e = .returned (.bool (PG.lets rec (j : Int) s).1) ∧ PG.Im 47 W0.heap.size gs gm cm n v w' (PG.lets rec (j : Int) s).2 ∧ PG.But gm gs w w' := by
  have ca := hs.asked hj
  have HS : Hid _ := hs
  have HT : Hid _ := TK
  clear TK
  obtain ⟨Z, hZ'⟩ : ∃ Z, PG.lets rec (j : Int) s = Z := ⟨_, rfl⟩
  rw [hZ']
  cases hA : s.2 j
  · rw [hA] at ca
    have fz := hs.free (2 + j)
    have hO := (MC.Only.refl gs w).setCell (2 + j) (.bool true)
    have hS2 := hs.mark hj
    have hlen := hs.len
    have cm1 := hS2.match_
    have IX := indexO_any (some ⟨gm, 0, none⟩) cm s.1 j _ (by omega) hS2.ints
    rw [hlen] at IX
    obtain ⟨oi, hoi⟩ : ∃ oi, PG.ownI s.1 (j : Int) = oi := ⟨_, rfl⟩
    rw [hoi] at IX
    have HIX : Hid _ := IX
    have HS2 : Hid _ := hS2
    have hU2 : Hid (PG.un (PG.mk s.2 j) < f) := by show _ < _; have := PG.un_mk hA hj; omega
    have hbt := PG.But.only2 (g := gm) hO
    have HQ : Hid _ := And.intro hoi (And.intro hZ' (And.intro hA hlen))
    clear hs hS2 IX hoi hZ' hA hO hlen hun
    have hj0 : (0 : Int) ≤ (j : Int) := by omega
    have hj8 : (j : Int) < 8 := by omega
    go_enter Try.func58, Try.ntmps58
    go_wp2_with fail
    generalize w.setCell ⟨gs, 2 + j, none⟩ (.bool true) = W2 at *
    refine Calls.mono HIX.out ?_
    rintro e w' ⟨rfl, rfl⟩
    obtain ⟨hoi, hZ, hA, hlen⟩ := HQ.out
    clear HIX HQ ca fz cm1
    have hlt := HS.out.lt
    have hb2 : Below W0.heap.size W0 W2 := hb0.trans (hbt.below hlt.1 hlt.2.2.1 hb0.size)
    cases ho : PG.own s.1 (j : Int) with
    | none =>
      rw [PG.ownI_none ho] at hoi
      subst hoi
      rw [PG.lets_free hA ho] at hZ
      have HE : Hid _ := hZ
      clear hZ ho hA HT hU2 HS hlt hb2
      go_wp2
      go_ret
      exact ⟨by rw [← HE.out]; rfl, by rw [← HE.out]; exact HS2.out, hbt⟩
    | some o =>
      rw [PG.ownI_some ho] at hoi
      subst hoi
      rw [PG.lets_rec hA ho] at hZ
      have hol : o < n := by have := (PG.own_some.1 ho).1; rw [hlen] at this; exact this
      have TR := HT.out o (s.1, PG.mk s.2 j) W2 hol hU2.out hb2 HS2.out
      rw [hZ] at TR
      have HTR : Hid _ := TR
      clear hZ ho hA HT hU2 HS hlt hb2 TR HS2 hlen
      go_wp2_with fail
      refine Calls.mono HTR.out ?_
      rintro e w3 ⟨rfl, hP3, hb3⟩
      have hbt3 := hbt.trans hb3
      have HP3 : Hid _ := hP3
      clear HTR hb3 hP3 hbt
      go_wp2
      go_ret
      exact ⟨rfl, HP3.out, hbt3⟩
  · rw [hA] at ca
    have hE := hZ'
    rw [PG.lets_yes hA] at hE
    have HE : Hid _ := hE
    clear hs hZ' hA hE HT hun
    have hj0 : (0 : Int) ≤ (j : Int) := by omega
    have hj8 : (j : Int) < 8 := by omega
    go_enter Try.func58, Try.ntmps58
    go_wp2
    go_ret
    exact ⟨by rw [← HE.out]; rfl, by rw [← HE.out]; exact HS.out, PG.But.refl _ _ _⟩
set_option maxHeartbeats 3200000 in
set_option maxRecDepth 100000 in
theorem indexT_any (W0 : World) (gs gm cm n f left : Nat) (v : Value) (rec : Nat → PG.St → Bool × PG.St) (a : Option Addr) (cap : Nat) (rs : List Int) (s : PG.St) (w : World) (hn8 : n ≤ 8) (hrl : rs.length ≤ 1048576) (hrs : Hid (∀ x ∈ rs, 0 ≤ x ∧ x < 8)) (hun : Hid (PG.un s.2 < f + 1)) (hK : Hid (∀ r s', PG.Keep s' (PG.lets rec r s')))
    (TK : ∀ (o : Nat) (s' : PG.St) (W : World), o < n → PG.un s'.2 < f → Below W0.heap.size W0 W → PG.Im 47 W0.heap.size gs gm cm n v W s' → Calls Try.prog 51 #[.pointer (some ⟨gs, 0, none⟩), .int .i64 (o : Int)] W fun e w' => e = .returned (.bool (rec o s').1) ∧ PG.Im 47 W0.heap.size gs gm cm n v w' (rec o s').2 ∧ PG.But gm gs W w')
    (hb0 : Below W0.heap.size W0 w) (hin : M4.IntsAt W0 a rs) (hs : PG.Im 47 W0.heap.size gs gm cm n v w s) (Z : Bool × PG.St) (hZ : Hid (PG.first (PG.lets rec) left rs s = Z)) :
    Calls Try.prog 57 #[.slice a rs.length cap, .func (.func 58) #[.pointer (some ⟨gs, 0, none⟩)] #[]] w fun e w' => ∃ (i : Int) (s' : PG.St), e = .returned (.int .i64 i) ∧ PG.Im 47 W0.heap.size gs gm cm n v w' s' ∧ PG.But gm gs w w' ∧ ((i = -1 ∧ Z = (false, s')) ∨ ∃ k : Nat, i = (k : Int) ∧ k < rs.length ∧ Z = (true, (s'.1.set left (rs.getD k 0), s'.2))) := by
  have HT : Hid _ := TK
  have HS : Hid _ := hs
  have HI : Hid (M4.IntsAt W0 a rs) := hin
  have hgl := hs.lt
  clear TK hs hin
  go_enter Try.func57, Try.ntmps57
  go_wp2
  go_loopw [8] (fun iv wr => ∃ (k : Nat) (sk : PG.St), iv = .int .i64 k ∧ k ≤ rs.length ∧ Hid (PG.first (PG.lets rec) left (rs.drop k) sk = Z) ∧ Hid (PG.un sk.2 < f + 1) ∧ Hid (PG.Im 47 W0.heap.size gs gm cm n v wr sk) ∧ PG.But gm gs w wr) (fun iv _ => (rs.length - intOf iv).toNat)
  case atStart => exact ⟨0, s, rfl, by omega, hZ, hun, HS, PG.But.refl _ _ _⟩
  case round =>
    clear HS hZ hun
    obtain ⟨k, sk, rfl, hk, hZ, hU, hP, hbt⟩ := hrel
    have hbW : Below W0.heap.size W0 wr := hb0.trans (hbt.below hgl.1 hgl.2.2.1 hb0.size)
    by_cases hl : k < rs.length
    · obtain ⟨b3, off3, rfl, hlt3, hc3⟩ := M4.IntsAt.at (M4.IntsAt.below HI.out hbW) hl
      have hx := hrs.out (rs.getD k 0) (by rw [List.getD_eq_getElem?_getD, List.getElem?_eq_getElem hl]; exact List.getElem_mem _)
      obtain ⟨j, hj⟩ : ∃ j : Nat, rs.getD k 0 = (j : Int) := ⟨(rs.getD k 0).toNat, by omega⟩
      have hj8 : j < 8 := by omega
      have LT := lets_any W0 gs gm cm n f j v rec sk wr hn8 hj8 hU.out HT.out hbW hP.out
      have kp := hK.out (j : Int) sk
      have FY := fun h => PG.first_yes (g := PG.lets rec) (left := left) (s := sk) hl h
      have FN := fun h => PG.first_no (g := PG.lets rec) (left := left) (s := sk) hl h
      rw [hj] at FY FN hc3
      have HQ : Hid _ := And.intro kp (And.intro FY (And.intro FN hj))
      clear kp FY FN hx hj hP
      generalize PG.lets rec (j : Int) sk = q at *
      have HLT : Hid _ := LT
      clear LT HT
      go_wp2_with fail
      refine Calls.mono HLT.out ?_
      rintro e w3 ⟨rfl, hP3, hb3⟩
      have hbt3 := hbt.trans hb3
      obtain ⟨kp, FY, FN, hj⟩ := HQ.out
      obtain ⟨qb, qs⟩ := q
      simp only at hP3 FY FN kp
      cases qb
      · have hE := FN rfl
        rw [hZ.out] at hE
        have HE : Hid _ := hE.symm
        have hU3 : Hid (PG.un qs.2 < f + 1) := by show _ < _; have h1 := PG.un_mono kp.A; have h2 := hU.out; exact Nat.lt_of_le_of_lt h1 h2
        have HP3 : Hid _ := hP3
        clear hE FN FY kp HQ HLT hb3 hP3 hbt hU hZ
        go_wp2
        go_roundw
        case rel => exact ⟨k + 1, qs, by go_num, by omega, HE, hU3, HP3, hbt3⟩
        case measure => simp [intOf]; omega
      · have hE := FY rfl
        rw [hZ.out] at hE
        have HE : Hid (Z = (true, (qs.1.set left (rs.getD k 0), qs.2))) := by rw [hj]; exact hE
        have HP3 : Hid _ := hP3
        clear hE FN FY kp HQ HLT hb3 hP3 hbt hU hZ
        go_wp2
        go_ret
        exact ⟨k, qs, rfl, HP3.out, hbt3, .inr ⟨k, rfl, hl, HE.out⟩⟩
    · obtain rfl : k = rs.length := by omega
      have hE := hZ.out
      rw [List.drop_length, PG.first] at hE
      have HE : Hid _ := hE.symm
      clear hE hZ HT
      go_wp2
      go_ret
      exact ⟨-1, sk, rfl, hP.out, hbt, .inl ⟨rfl, HE.out⟩⟩
set_option maxHeartbeats 3200000 in
set_option maxRecDepth 100000 in
theorem takes_any (n : Nat) (a : Option Addr) (cap gs gm cm : Nat) (ws : List (List Int)) (W0 : World) (hn8 : n ≤ 8) (hwn : Hid (ws.length = n)) (hcm : n ≤ cm) (ht : NR.tot ws ≤ 1048576) (hG : Hid (PG.Gd ws)) (hin : Hid (NR.RowsAt W0 a ws)) :
    ∀ (f left : Nat) (s : PG.St) (w : World), left < n → PG.un s.2 < f → Below W0.heap.size W0 w → PG.Im 47 W0.heap.size gs gm cm n (.slice a ws.length cap) w s →
    Calls Try.prog 51 #[.pointer (some ⟨gs, 0, none⟩), .int .i64 (left : Int)] w fun e w' => e = .returned (.bool (PG.tr ws f left s).1) ∧ PG.Im 47 W0.heap.size gs gm cm n (.slice a ws.length cap) w' (PG.tr ws f left s).2 ∧ PG.But gm gs w w'
  | 0, _, _, _, _, h, _, _ => by omega
  | f + 1, left, s, w, hlf, hun, hb0, hs => by
    have hlw : left < ws.length := by rw [hwn.out]; exact hlf
    obtain ⟨b2, off2, a1, d1, rfl, hlt2, e1, _, i1⟩ := hin.out.at hlw
    have hrt := NR.tot_row ws hlw
    obtain ⟨Z, hZ'⟩ : ∃ Z, PG.tr ws (f + 1) left s = Z := ⟨_, rfl⟩
    have hZ : Hid (PG.first (PG.lets (PG.tr ws f)) left (NR.rw_ ws left) s = Z) := hZ'
    have IX : Hid _ := indexT_any W0 gs gm cm n f left (.slice (some ⟨b2, off2, none⟩) ws.length cap) (PG.tr ws f) a1 d1 (NR.rw_ ws left) s w hn8 (by omega) (fun x hx => hG.out left x hx) hun (fun r s' => PG.lets_keep (PG.tr_keep ws f) r s')
      (fun o s' W h1 h2 h3 h4 => takes_any n (some ⟨b2, off2, none⟩) cap gs gm cm ws W0 hn8 hwn hcm ht hG hin f o s' W h1 h2 h3 h4) hb0 i1 hs Z hZ
    have hgl := hs.lt
    have cw := hs.want
    have e2 := (hb0.cell (p := ⟨b2, off2 + left, none⟩) hlt2).trans e1
    rw [hZ']
    have I0 : Hid (M4.IntsAt W0 a1 (NR.rw_ ws left)) := i1
    clear hZ hZ' hun i1 hs
    generalize NR.rw_ ws left = rs at *
    go_enter Try.func51, Try.ntmps51
    go_wp2_with fail
    refine Calls.mono IX.out ?_
    rintro e w2 ⟨i, s', rfl, hP, hbt, hor⟩
    clear IX cw e2
    have hbW : Below W0.heap.size W0 w2 := hb0.trans (hbt.below hgl.1 hgl.2.2.1 hb0.size)
    rcases hor with ⟨rfl, hE⟩ | ⟨k, rfl, hkl, hE⟩
    · subst hE
      have HP : Hid _ := hP
      clear hP
      go_wp2
      go_ret
      exact ⟨rfl, HP.out, hbt⟩
    · obtain ⟨b3, off3, rfl, hb3W, hc3'⟩ := M4.IntsAt.at I0.out hkl
      have hc3 := (hbW.cell (p := ⟨b3, off3 + k, none⟩) hb3W).trans hc3'
      have hlt3 := Nat.lt_of_lt_of_le hb3W hbW.size
      have hgs2 := hP.lt.2.2.2
      have hgne := hP.ne
      have cw := hP.want
      have cu := hP.match_
      have e2 := (hbW.cell (p := ⟨b2, off2 + left, none⟩) hlt2).trans e1
      have hmc : ∃ u, w2.cell? ⟨gm, left, none⟩ = some u := by
        rw [hP.m.cellAt left (by omega)]
        exact ⟨_, List.getElem?_eq_getElem (by simp only [M4.iv, List.length_map]; rw [hP.len]; omega)⟩
      obtain ⟨um, hmc⟩ := hmc
      have hmf := hP.m.frozenAt left
      have HP3 : Hid _ := hP.put (j := left) (rs.getD k 0)
      have hbt3 := hbt.trans (PG.But.only1 (h := gs) ((MC.Only.refl gm w2).setCell left (.int .i64 (rs.getD k 0))))
      have HE : Hid _ := hE
      clear hE hP hbt e1 hin hc3'
      generalize rs.getD k 0 = y at *
      have hk0 : (0 : Int) ≤ (k : Int) := by omega
      have hkn : (k : Int) < (rs.length : Int) := by omega
      have hne := hgl
      have c1 := ((MC.Only.refl gm w2).setCell left (.int .i64 y)).cell (x := ⟨gs, 0, none⟩) hgs2 hgne |>.trans cw
      have c2 := ((MC.Only.refl gm w2).setCell left (.int .i64 y)).cell (x := ⟨gs, 1, none⟩) hgs2 hgne |>.trans cu
      have c3 := ((MC.Only.refl gm w2).setCell left (.int .i64 y)).cell (x := ⟨b2, off2 + left, none⟩) (Nat.lt_of_lt_of_le hlt2 hbW.size) (Nat.ne_of_lt (Nat.lt_of_lt_of_le hlt2 hgl.1)) |>.trans e2
      have c4 := ((MC.Only.refl gm w2).setCell left (.int .i64 y)).cell (x := ⟨b3, off3 + k, none⟩) hlt3 (Nat.ne_of_lt (Nat.lt_of_lt_of_le hb3W hgl.1)) |>.trans hc3
      go_wp2
      go_region_held3 (fun w' => w'.cell? ⟨gs, 0, none⟩ = some (.slice (some ⟨b2, off2, none⟩) ws.length cap) ∧ w'.cell? ⟨gs, 1, none⟩ = some (.slice (some ⟨gm, 0, none⟩) n cm) ∧ w'.cell? ⟨b2, off2 + left, none⟩ = some (.slice (some ⟨b3, off3, none⟩) rs.length d1) ∧ w'.cell? ⟨b3, off3 + k, none⟩ = some (.int .i64 y)) (first | assumption | (refine ⟨?_, ?_, ?_, ?_⟩ <;> assumption) | go_keep) (fail)
      have HP4 : Hid _ := HP3.out.below (Below.refl _ _).drew
      have hbt4 := hbt3.trans (PG.But.of_below (Below.refl _ _).drew)
      clear HP3 hbt3 c1 c2 c3 c4 cw cu e2 hmc hmf hc3
      go_wp2
      go_ret
      exact ⟨by rw [HE.out]; rfl, by rw [HE.out]; exact HP4.out, hbt4⟩
end Go.Proofs.Ytkgiboookbhmmaa

/- slices.Repeat of a row of one number, at most eight times. -/
namespace Go.Proofs.Ytkgiboookbhmmaa
open Go.RowKit
set_option maxHeartbeats 1600000 in
set_option maxRecDepth 100000 in
theorem mul64_any (n : Nat) (w : World) (hn : n ≤ 8) :
    Calls Try.prog 61 #[.int .u64 1, .int .u64 (n : Int)] w fun e w' => e = .returned (.tuple #[.int .u64 0, .int .u64 (n : Int)]) ∧ w = w' := by
  have h : n = 0 ∨ n = 1 ∨ n = 2 ∨ n = 3 ∨ n = 4 ∨ n = 5 ∨ n = 6 ∨ n = 7 ∨ n = 8 := by omega
  clear hn
  rcases h with rfl | rfl | rfl | rfl | rfl | rfl | rfl | rfl | rfl
  all_goals (
    go_enter Try.func61, Try.ntmps61
    go_wp2
    go_ret2
    exact ⟨rfl, rfl⟩)
set_option maxHeartbeats 1600000 in
set_option maxRecDepth 100000 in
theorem mul_any (n : Nat) (w : World) (hn : n ≤ 8) :
    Calls Try.prog 55 #[.int .u64 1, .int .u64 (n : Int)] w fun e w' => e = .returned (.tuple #[.int .u64 0, .int .u64 (n : Int)]) ∧ w = w' := by
  have M : Hid _ := mul64_any n w hn
  go_enter Try.func55, Try.ntmps55
  go_wp2_with fail
  refine Calls.mono M.out ?_
  rintro e w1 ⟨rfl, rfl⟩
  clear M
  go_wp2
  go_ret2
  exact ⟨rfl, rfl⟩
namespace RP
/-- k are there, the others are still naught. -/
def rp (x : Int) (n k : Nat) : List Value := List.replicate k (.int .i64 x) ++ List.replicate (n - k) (.int .i64 0)
theorem rp_len {x : Int} {n k : Nat} (h : k ≤ n) : (rp x n k).length = n := by simp [rp]; omega
theorem rp_get {x : Int} {n k j : Nat} (h : j < k) : (rp x n k)[j]? = some (.int .i64 x) := by simp [rp, List.getElem?_append_left, h]
theorem rp_copy {x : Int} {n k m : Nat} (_hm : k + m ≤ n) : (rp x n k).take k ++ List.replicate m (.int .i64 x) ++ (rp x n k).drop (k + m) = rp x n (k + m) := by
  have e1 : (rp x n k).take k = List.replicate k (.int .i64 x) := by simp [rp]
  have e2 : (rp x n k).drop (k + m) = List.replicate (n - (k + m)) (.int .i64 0) := by simp [rp, List.drop_append]; omega
  rw [e1, e2, rp, List.replicate_append_replicate]
theorem rp_all (x : Int) (n : Nat) : rp x n n = M4.iv (List.replicate n x) := by simp [rp, M4.iv]
end RP
set_option linter.unusedSimpArgs false in
set_option maxHeartbeats 3200000 in
set_option maxRecDepth 100000 in
theorem repeat_any (g c : Nat) (x : Int) (n : Nat) (w : World) (hn : n ≤ 8) (hn1 : 1 ≤ n) (hg : g < w.heap.size) (hc : w.cell? ⟨g, 0, none⟩ = some (.int .i64 x)) :
    Calls Try.prog 47 #[.slice (some ⟨g, 0, none⟩) 1 c, .int .i64 (n : Int)] w fun e w' => ∃ a, e = .returned (.slice (some ⟨a, 0, none⟩) n n) ∧ w'.ownsRow w.heap.size 3 1 (.slice (some ⟨a, 0, none⟩) n n) n (M4.iv (List.replicate n x)) ∧ Below w.heap.size w w' := by
  have ML : Hid _ := mul_any n w hn
  have MK : Hid (∀ W : World, (Instr.makeSlice 27 (.int .i64 (n : Int)) (.int .i64 (n : Int))).run Try.prog W = .ok (.slice (some ⟨W.heap.size, 0, none⟩) n n) (W.alloc (.cells (madeCells #[.int .i64 0] n) 3))) := fun W => run_make_row' 27 3 (.int .i64 0) 8 Try.underlying27 Try.info3 rfl .i64 .i64 n (by omega) (by omega) W
  have one : (Try.prog.info? 3).map (·.size) = some 1 := by
    obtain ⟨i0, hi, hz0, hz1, hz2⟩ := info_parts Try.info3
    rw [hi]; simp [hz1]
  have hmade : (madeCells #[Value.int .i64 0] n).toList = RP.rp x n 0 := by rw [toList_madeCells_one]; simp [RP.rp]
  have hb1 : Below w.heap.size w (w.alloc (.cells (madeCells #[.int .i64 0] n) 3)) := (Below.refl _ w).alloc (Nat.le_refl _) _
  have hh1 : (w.alloc (.cells (madeCells #[.int .i64 0] n) 3)).heap[w.heap.size]? = some (.cells (madeCells #[.int .i64 0] n) 3 (0, 0)) := heap_alloc_new w _
  have hc1 := (hb1.cell (p := ⟨g, 0, none⟩) hg).trans hc
  have hms : (madeCells #[Value.int .i64 0] n).size = n := by simp [size_madeCells]
  have CP0 := run_copy_row (P := Try.prog) (w.alloc (.cells (madeCells #[.int .i64 0] n) 3)) 27 27 3 3 w.heap.size 0 n n ⟨g, 0, none⟩ 1 c _ 3 [.int .i64 x] Try.underlying27 one hh1 (by simp only [List.length_singleton, Nat.min_def]; split <;> omega) (fun j v hj => by
      cases j with
      | zero => simp at hj; subst hj; exact hc1
      | succ j => simp at hj) (by rw [hms]; simp only [List.length_singleton]; omega) (by simp [Value.oneCell'])
  rw [hmade, Nat.zero_add] at CP0
  have e0 := RP.rp_copy (x := x) (n := n) (k := 0) (m := 1) (by omega)
  simp only [Nat.zero_add, List.replicate_one] at e0
  simp only [List.length_singleton] at CP0
  rw [e0] at CP0
  have hh2 : ((w.alloc (.cells (madeCells #[.int .i64 0] n) 3)).setRow w.heap.size (RP.rp x n 1).toArray).heap[w.heap.size]? = some (.cells (RP.rp x n 1).toArray 3 (0, 0)) := setRow_heap _ _ _ _ 3 (0, 0) hh1
  have hb2 : Below w.heap.size w ((w.alloc (.cells (madeCells #[.int .i64 0] n) 3)).setRow w.heap.size (RP.rp x n 1).toArray) := ⟨rfl, rfl, rfl, by simp, fun k hk => (setRow_other _ _ k _ (by omega)).trans (hb1.block k hk)⟩
  have hp0 : decide (0 < 0) = false := rfl
  clear hms hmade e0 hc1 hh1 hb1
  go_enter Try.func47, Try.ntmps47
  go_wp2_with fail
  refine Calls.mono ML.out ?_
  rintro e w1 ⟨rfl, rfl⟩
  clear ML
  have mk1 := MK.out w
  go_wp2
  generalize (w.alloc (.cells (madeCells #[.int .i64 0] n) 3)).setRow w.heap.size (RP.rp x n 1).toArray = W2 at *
  clear CP0 MK mk1
  go_loopw [8] (fun kv wr => ∃ k : Nat, kv = .int .i64 k ∧ k ≤ n ∧ 1 ≤ k ∧ Hid (wr.heap[w.heap.size]? = some (.cells (RP.rp x n k).toArray 3 (0, 0))) ∧ Below w.heap.size w wr) (fun kv _ => (n - intOf kv).toNat)
  case atStart => exact ⟨1, rfl, hn1, by omega, hh2, hb2⟩
  case round =>
    clear hh2 hb2
    obtain ⟨k, rfl, hk, hk1, hh, hb⟩ := hrel
    by_cases hl : k < n
    · obtain ⟨m, hm⟩ : ∃ m, Nat.min k (n - k) = m := ⟨_, rfl⟩
      have hm1 : 1 ≤ m ∧ k + m ≤ n := by rw [← hm]; simp only [Nat.min_def]; split <;> omega
      have hcell : ∀ j, j < k → wr.drew.cell? ⟨w.heap.size, j, none⟩ = some (.int .i64 x) := fun j hj => by
        show wr.cell? _ = _
        unfold World.cell?
        rw [hh.out]
        simpa using RP.rp_get (x := x) (n := n) hj
      have CP := run_copy_row (P := Try.prog) wr.drew 27 27 3 3 w.heap.size k (n - k) (n - k) ⟨w.heap.size, 0, none⟩ k n _ 3 (List.replicate m (.int .i64 x)) Try.underlying27 one hh.out (by rw [List.length_replicate, hm]) (fun j v hj => by
          have hjm : j < m := by have := (List.getElem?_eq_some_iff.1 hj).1; simpa using this
          have hjk : j < k := by rw [← hm] at hjm; exact Nat.lt_of_lt_of_le hjm (Nat.min_le_left _ _)
          have hadd : (⟨w.heap.size, 0, none⟩ : Addr).add j = ⟨w.heap.size, j, none⟩ := by unfold Addr.add; split <;> simp_all
          rw [hadd, hcell j hjk, ← hj]
          simp [hjm]) (by simp [RP.rp_len hk]; omega) (fun v hv => by rw [List.eq_of_mem_replicate hv]; rfl)
      simp only [List.length_replicate] at CP
      rw [RP.rp_copy hm1.2] at CP
      have hh3 : Hid ((wr.drew.setRow w.heap.size (RP.rp x n (k + m)).toArray).heap[w.heap.size]? = some (.cells (RP.rp x n (k + m)).toArray 3 (0, 0))) := setRow_heap _ _ _ _ 3 (0, 0) hh.out
      have hb3 : Below w.heap.size w (wr.drew.setRow w.heap.size (RP.rp x n (k + m)).toArray) := ⟨hb.os, hb.tape, hb.output, by have := hb.size; simpa using this, fun j hj => (setRow_other _ _ j _ (by omega)).trans (hb.block j hj)⟩
      have HCP : Hid ((Builtin.copy_ #[27, 27] 3 #[.slice (some ⟨w.heap.size, k, none⟩) (n - k) (n - k), .slice (some ⟨w.heap.size, 0, none⟩) k n]).run Try.prog wr.drew = .ok (.int .i64 (m : Int)) (wr.drew.setRow w.heap.size (RP.rp x n (k + m)).toArray)) := CP
      clear hcell CP hm
      have hck : ¬ n = k := by omega
      have hkz : ¬ k = 0 := by omega
      have hw1 : IntKind.i64.wrap ((k : Int) + (m : Int)) = (k : Int) + (m : Int) := by rw [IntKind.wrap_i64]; omega
      go_wp2
      refine MR.frame fun A hA => ?_
      have hsz : A.tmps.size = 48 := by rw [hA]; rfl
      have e7 : A.eval (.tmp 7) = .slice (some ⟨w.heap.size, 0, none⟩) n n := by rw [hA]; rfl
      have f7 := MR.read (t := 7) (by rw [hsz]; decide) e7
      have e8 : A.eval (.tmp 8) = .int .i64 (k : Int) := by rw [hA]; rfl
      have f8 := MR.read (t := 8) (by rw [hsz]; decide) e8
      have HA : Hid (A = _) := hA
      clear hA
      have hS : (fun _ : World => True) (World.drew wr) := trivial
      refine wp_region_held (S := fun _ : World => True) (by kernel_rfl) ?_
      change wpAnyH _ _ _ _ _ _ _ _ (World.drew _)
      refine MR.takeH (i := 0) (some 38) (.int .i64 (k : Int)) rfl rfl (by kernel_rfl) (by kernel_rfl) (by kernel_rfl) (fun _ _ _ h => h) hS (MR.free rfl) (fun wq hw => by simp [execOp, MR.ev, MR.size, hsz, e7, f7, e8, f8, go_sem]) ?_
      refine MR.takeH (i := 1) (some 39) (.slice (some ⟨w.heap.size, 0, none⟩) n n) rfl rfl (by kernel_rfl) (by kernel_rfl) (by kernel_rfl) (fun _ _ _ h => h) hS (MR.free rfl) (fun wq hw => by simp [execOp, MR.ev, MR.size, hsz, e7, f7, e8, f8, go_sem]) ?_
      refine MR.takeH (i := 2) (some 40) (.int .i64 (k : Int)) rfl rfl (by kernel_rfl) (by kernel_rfl) (by kernel_rfl) (fun _ _ _ h => h) hS (MR.free rfl) (fun wq hw => by simp [execOp, MR.ev, MR.size, hsz, e7, f7, e8, f8, go_sem]) ?_
      refine MR.takeH (i := 3) (some 41) (.slice (some ⟨w.heap.size, k, none⟩) (n - k) (n - k)) rfl rfl (by kernel_rfl) (by kernel_rfl) (by kernel_rfl) (fun _ _ _ h => h) hS (MR.free rfl) (fun wq hw => by simp [execOp, MR.ev, MR.size, hsz, e7, f7, e8, f8, hk, hl, hck, hkz, Instr.sliceAt, Addr.add, go_sem]) ?_
      refine MR.takeH (i := 4) (some 42) (.slice (some ⟨w.heap.size, 0, none⟩) n n) rfl rfl (by kernel_rfl) (by kernel_rfl) (by kernel_rfl) (fun _ _ _ h => h) hS (MR.free rfl) (fun wq hw => by simp [execOp, MR.ev, MR.size, hsz, e7, f7, e8, f8, go_sem]) ?_
      refine MR.takeH (i := 5) (some 43) (.int .i64 (k : Int)) rfl rfl (by kernel_rfl) (by kernel_rfl) (by kernel_rfl) (fun _ _ _ h => h) hS (MR.free rfl) (fun wq hw => by simp [execOp, MR.ev, MR.size, hsz, e7, f7, e8, f8, go_sem]) ?_
      refine MR.takeH (i := 6) (some 44) (.slice (some ⟨w.heap.size, 0, none⟩) k n) rfl rfl (by kernel_rfl) (by kernel_rfl) (by kernel_rfl) (fun _ _ _ h => h) hS (MR.free rfl) (fun wq hw => by simp [execOp, MR.ev, MR.size, hsz, e7, f7, e8, f8, hk, hl, hck, Instr.sliceAt, Addr.add, go_sem]) ?_
      refine MR.nowH (w' := wr.drew.setRow w.heap.size (RP.rp x n (k + m)).toArray) (i := 7) (some 45) (.int .i64 (m : Int)) (by kernel_rfl) rfl rfl (MR.free rfl) (by simp [execOp, MR.ev, MR.size, hsz, e7, f7, e8, f8, HCP.out, go_sem]) ⟨trivial, ?_⟩
      refine MR.takeH (i := 8) (some 46) (.int .i64 ((k : Int) + (m : Int))) rfl rfl (by kernel_rfl) (by kernel_rfl) (by kernel_rfl) (fun _ _ _ h => h) trivial (MR.free rfl) (fun wq hw => by simp [execOp, MR.ev, MR.size, hsz, e7, f7, e8, f8, hw1, go_sem]) ?_
      refine MR.takeH (i := 9) (some 8) (.int .i64 ((k : Int) + (m : Int))) rfl rfl (by kernel_rfl) (by kernel_rfl) (by kernel_rfl) (fun _ _ _ h => h) trivial (MR.free rfl) (fun wq hw => by simp [execOp, MR.ev, MR.size, hsz, e7, f7, e8, f8, go_sem]) ?_
      refine wpAnyH_done (by kernel_rfl) ?_ _
      rw [HA.out]
      clear HA hsz e7 f7 e8 f8 hS HCP
      generalize wr.drew.setRow w.heap.size (RP.rp x n (k + m)).toArray = W3 at *
      simp only [Act.put, List.setIfInBounds_toArray, List.set_cons_succ, List.set_cons_zero]
      go_roundw
      case rel => exact ⟨.int .i64 ((k : Int) + (m : Int)), _, _, _, _, _, _, _, _, _, _, _, _, _, ⟨k + m, by go_num, by omega, by omega, hh3, hb3⟩, rfl⟩
      case measure => simp [intOf]; omega
    · obtain rfl : k = n := by omega
      have HO : Hid (wr.ownsRow w.heap.size 3 1 (.slice (some ⟨w.heap.size, 0, none⟩) k k) k (M4.iv (List.replicate k x))) := by
        rw [← RP.rp_all]
        exact ⟨by simp [RP.rp], .inr ⟨w.heap.size, k, _, rfl, Nat.le_refl _, hh.out, Nat.le_refl _, by unfold maxLen; omega, by simp [RP.rp_len (Nat.le_refl k)], by simp [RP.rp]⟩⟩
      clear hh
      go_wp2
      go_ret
      exact ⟨w.heap.size, rfl, HO.out, hb⟩
end Go.Proofs.Ytkgiboookbhmmaa

/- The program's searches, one after another: findsRow, lastSearch. -/
namespace Go.Proofs.Ytkgiboookbhmmaa
open Go.RowKit
namespace PG
theorem fnd_skip {ws : List (List Int)} {s : St} {n k : Nat} (hl : s.1.length = n) (hk : k < n) (h : s.1.getD k 0 ≠ -1) : fnd ws (n - k) s = fnd ws (n - (k + 1)) s := by
  obtain ⟨i, hi⟩ : ∃ i, n - k = i + 1 := ⟨n - k - 1, by omega⟩
  rw [hi, fnd, show s.1.length - (i + 1) = k from by omega, if_neg h, show n - (k + 1) = i from by omega]
theorem fnd_try {ws : List (List Int)} {s : St} {n k : Nat} (hl : s.1.length = n) (hk : k < n) (h : s.1.getD k 0 = -1) : fnd ws (n - k) s = if (tr ws 9 k s).1 = true then tr ws 9 k s else fnd ws (n - (k + 1)) (tr ws 9 k s).2 := by
  obtain ⟨i, hi⟩ : ∃ i, n - k = i + 1 := ⟨n - k - 1, by omega⟩
  rw [hi, fnd, show s.1.length - (i + 1) = k from by omega, if_pos h, show n - (k + 1) = i from by omega]
end PG
set_option maxHeartbeats 3200000 in
set_option maxRecDepth 100000 in
theorem finds_any (n : Nat) (a : Option Addr) (cap gs gm cm : Nat) (ws : List (List Int)) (W0 : World) (hn8 : n ≤ 8) (hwn : Hid (ws.length = n)) (hcm : n ≤ cm) (ht : NR.tot ws ≤ 1048576) (hG : Hid (PG.Gd ws)) (hin : Hid (NR.RowsAt W0 a ws)) (s : PG.St) (w : World) (hb0 : Below W0.heap.size W0 w) (hs : PG.Im 47 W0.heap.size gs gm cm n (.slice a ws.length cap) w s) (Z : Bool × PG.St) (hZ : Hid (PG.fnd ws n s = Z)) :
    Calls Try.prog 37 #[.pointer (some ⟨gs, 0, none⟩)] w fun e w' => e = .returned (.bool Z.1) ∧ PG.Im 47 W0.heap.size gs gm cm n (.slice a ws.length cap) w' Z.2 ∧ PG.But gm gs w w' := by
  have hgl := hs.lt
  have cu := hs.match_
  have HS : Hid _ := hs
  clear hs
  go_enter Try.func37, Try.ntmps37
  go_wp2
  go_loopw [10] (fun iv wr => ∃ (k : Nat) (sk : PG.St), iv = .int .i64 k ∧ k ≤ n ∧ Hid (PG.fnd ws (n - k) sk = Z) ∧ Hid (PG.Im 47 W0.heap.size gs gm cm n (.slice a ws.length cap) wr sk) ∧ PG.But gm gs w wr) (fun iv _ => (n - intOf iv).toNat)
  case atStart => exact ⟨0, s, rfl, by omega, hZ, HS, PG.But.refl _ _ _⟩
  case round =>
    clear HS hZ cu
    obtain ⟨k, sk, rfl, hk, hZ, hP, hbt⟩ := hrel
    have hbW : Below W0.heap.size W0 wr := hb0.trans (hbt.below hgl.1 hgl.2.2.1 hb0.size)
    by_cases hl : k < n
    · have hlen := hP.out.len
      have hc := hP.out.m.cellAt k (by omega)
      rw [M4.iv_get sk.1 k (sk.1.getD k 0) (by rw [List.getD_eq_getElem?_getD, List.getElem?_eq_getElem (by omega)]; rfl)] at hc
      by_cases hx : sk.1.getD k 0 = -1
      · rw [hx] at hc
        have hT := hZ.out
        rw [PG.fnd_try hlen hl hx] at hT
        have TK : Hid _ := takes_any n a cap gs gm cm ws W0 hn8 hwn hcm ht hG hin 9 k sk wr hl (by have := PG.un_le sk.2; omega) hbW hP.out
        generalize PG.tr ws 9 k sk = q at *
        have HT : Hid _ := hT
        clear hT hZ hlen hx hP
        go_wp2_with fail
        refine Calls.mono TK.out ?_
        rintro e w3 ⟨rfl, hP3, hb3⟩
        have hbt3 := hbt.trans hb3
        obtain ⟨qb, qs⟩ := q
        simp only at hP3 HT
        have HP3 : Hid _ := hP3
        clear TK hb3 hP3 hbt hc hbW
        cases qb
        · have hT := HT.out
          simp only [Bool.false_eq_true, if_false] at hT
          have HT2 : Hid _ := hT
          clear HT hT
          go_wp2
          go_roundw
          case rel => exact ⟨k + 1, qs, by go_num, by omega, HT2, HP3, hbt3⟩
          case measure => simp [intOf]; omega
        · have hT := HT.out
          simp only [if_true] at hT
          subst hT
          clear HT
          go_wp2
          go_ret
          exact ⟨rfl, HP3.out, hbt3⟩
      · have hT := hZ.out
        rw [PG.fnd_skip hlen hl hx] at hT
        have HT : Hid _ := hT
        have hxb : (sk.1.getD k 0 == -1) = false := by simpa using hx
        clear hT hZ hlen hx
        generalize sk.1.getD k 0 = x at *
        go_wp2
        go_roundw
        case rel => exact ⟨k + 1, sk, by go_num, by omega, HT, hP, hbt⟩
        case measure => simp [intOf]; omega
    · obtain rfl : k = n := by omega
      have hT := hZ.out
      rw [Nat.sub_self, PG.fnd] at hT
      subst hT
      clear hZ
      go_wp2
      go_ret
      exact ⟨rfl, hP.out, hbt⟩
set_option maxHeartbeats 3200000 in
set_option maxRecDepth 100000 in
theorem lastSearch_any (n R : Nat) (a : Option Addr) (cap : Nat) (ws : List (List Int)) (w : World) (hn8 : n ≤ 8) (hn1 : 1 ≤ n) (hwn : Hid (ws.length = n)) (ht : NR.tot ws ≤ 1048576) (hG : Hid (PG.Gd ws)) (hin : NR.RowsAt w a ws) (L : List Int) (hL : Hid (PG.mAll ws n = L)) :
    Calls Try.prog 24 #[PG.pv n R (.slice a ws.length cap)] w fun e w' => ∃ gs gm, e = .returned (.pointer (some ⟨gs, 0, none⟩)) ∧ PG.Im 47 w.heap.size gs gm n n (.slice a ws.length cap) w' (L, PG.ask ws L) ∧ Below w.heap.size w w' := by
  have hB : Below w.heap.size w (w.alloc (Obj.cells #[.int .i64 (n : Int), .int .i64 (R : Int), .slice a ws.length cap] 25)) := (Below.refl _ _).alloc (Nat.le_refl _) _
  have hC : (w.alloc (Obj.cells #[.int .i64 (n : Int), .int .i64 (R : Int), .slice a ws.length cap] 25)).cell? ⟨w.heap.size, 0, none⟩ = some (.int .i64 (n : Int)) ∧ (w.alloc (Obj.cells #[.int .i64 (n : Int), .int .i64 (R : Int), .slice a ws.length cap] 25)).cell? ⟨w.heap.size, 2, none⟩ = some (.slice a ws.length cap) := by simp
  have hS : w.heap.size < (w.alloc (Obj.cells #[.int .i64 (n : Int), .int .i64 (R : Int), .slice a ws.length cap] 25)).heap.size := by simp
  have HI : Hid (NR.RowsAt _ a ws) := hin.below hB
  clear hin
  obtain ⟨hC0, hC2⟩ := hC
  go_enter Try.func24, Try.ntmps24
  go_wp2
  generalize w.alloc (Obj.cells #[.int .i64 (n : Int), .int .i64 (R : Int), .slice a ws.length cap] 25) = W1 at *
  have RPT : Hid (∀ W : World, W1.heap.size < W.heap.size → W.cell? ⟨W1.heap.size, 0, none⟩ = some (.int .i64 (-1)) → Calls Try.prog 47 #[.slice (some ⟨W1.heap.size, 0, none⟩) 1 1, .int .i64 (n : Int)] W fun e w' => ∃ a, e = .returned (.slice (some ⟨a, 0, none⟩) n n) ∧ w'.ownsRow W.heap.size 3 1 (.slice (some ⟨a, 0, none⟩) n n) n (M4.iv (List.replicate n (-1))) ∧ Below W.heap.size W w') := fun W h1 h2 => repeat_any W1.heap.size 1 (-1) n W hn8 hn1 h1 h2
  go_region_held3 (fun w' => w'.cell? ⟨w.heap.size, 0, none⟩ = some (.int .i64 (n : Int)) ∧ w'.cell? ⟨w.heap.size, 2, none⟩ = some (.slice a ws.length cap)) (first | assumption | go_keep) (first | (go_at_call 47; refine Calls.mono (RPT.out _ (by simp) (by simp)) ?_; (rintro e w3 ⟨gm, rfl, ho3, hb3⟩; have k0 := (hb3.cell (p := ⟨w.heap.size, 0, none⟩) (by simp; omega)).trans ((World.cell?_alloc_lt _ _ _ hS).trans hC0); have k2 := (hb3.cell (p := ⟨w.heap.size, 2, none⟩) (by simp; omega)).trans ((World.cell?_alloc_lt _ _ _ hS).trans hC2))))
  rename_i hHeld
  clear hHeld RPT k0 k2
  simp only [World.size_alloc, World.drew] at ho3
  have hbW1 : Below W1.heap.size W1 w3 := (((Below.refl _ W1).alloc (Nat.le_refl _) (Obj.cells #[.int .i64 (-1)] 3)).drew).trans (hb3.mono (by simp))
  have hg3 := ho3.lt gm rfl
  have HP0 : Hid (PG.Im 47 W1.heap.size w3.heap.size gm n n (.slice a ws.length cap) (w3.alloc (Obj.cells #[.slice a ws.length cap, .slice (some ⟨gm, 0, none⟩) n n, .bool false, .bool false, .bool false, .bool false, .bool false, .bool false, .bool false, .bool false] 47)) (PG.none_ n, PG.No)) :=
    ⟨heap_alloc_new w3 _, PG.own_mono (M5.own_below ho3 ((Below.refl _ w3).alloc (Nat.le_refl _) _)) (by omega), by omega, hbW1.size⟩
  have hb4 : Below W1.heap.size W1 (w3.alloc (Obj.cells #[.slice a ws.length cap, .slice (some ⟨gm, 0, none⟩) n n, .bool false, .bool false, .bool false, .bool false, .bool false, .bool false, .bool false, .bool false] 47)) := hbW1.alloc hbW1.size _
  generalize w3.alloc (Obj.cells #[.slice a ws.length cap, .slice (some ⟨gm, 0, none⟩) n n, .bool false, .bool false, .bool false, .bool false, .bool false, .bool false, .bool false, .bool false] 47) = W4 at *
  generalize w3.heap.size = gs at *
  clear ho3 hb3 hbW1
  have HF0 : Hid (PG.fr (PG.none_ n) < 9) := PG.fr_none n hn8
  have hL2 : Hid (PG.all ws 9 (PG.none_ n) = L) := hL
  clear hL
  go_wp2
  go_loopw [13] (fun _ wr => ∃ (f : Nat) (m : List Int), Hid (PG.Im 47 W1.heap.size gs gm n n (.slice a ws.length cap) wr (m, PG.No)) ∧ Hid (PG.fr m < f) ∧ Hid (PG.Inj m) ∧ Hid (PG.all ws f m = L) ∧ Below W1.heap.size W1 wr) (fun _ wr => PG.mv (.slice (some ⟨gm, 0, none⟩) n n) wr)
  case atStart => exact ⟨9, PG.none_ n, HP0, HF0, PG.none_inj n, hL2, hb4⟩
  case round =>
    clear HP0 HF0 hL2 hb4
    obtain ⟨f, m, HP, HF, HJ, HL, hb⟩ := hrel
    have hml := HP.out.len
    have hgl := HP.out.lt
    have FN := finds_any n a cap gs gm n ws W1 hn8 hwn (Nat.le_refl _) ht hG HI (m, PG.No) wr hb HP.out _ rfl
    have FI := PG.fnd_imp hG.out m n PG.No (by simp only at hml; omega) (PG.cl_no ws m)
    have MV := PG.mv_is HP.out.m
    have IS := fun m' (h : PG.imp ws m n = some m') => PG.imp_some hG.out HJ.out n m' (by simp only at hml; omega) h
    obtain ⟨f', rfl⟩ : ∃ f', f = f' + 1 := ⟨f - 1, by have := HF.out; omega⟩
    simp only at hml
    have AN : PG.imp ws m n = none → L = m ∧ (PG.fnd ws n (m, PG.No)).2.2 = PG.ask ws m := fun h => ⟨by rw [← HL.out, PG.all_none f' (by rw [hml]; exact h)], by rw [PG.ask, hml]⟩
    have AS : ∀ m', PG.imp ws m n = some m' → PG.all ws f' m' = L := fun m' h => by rw [← HL.out, PG.all_some f' (by rw [hml]; exact h)]
    generalize PG.fnd ws n (m, PG.No) = Z at *
    have HQ : Hid _ := And.intro FI (And.intro MV (And.intro IS (And.intro AN (And.intro AS hml))))
    have HFN : Hid _ := FN
    clear FI MV IS AN AS hml FN HL
    go_wp2_with fail
    refine Calls.mono HFN.out ?_
    rintro e w5 ⟨rfl, hP5, hb5⟩
    obtain ⟨FI, MV, IS, AN, AS, hml⟩ := HQ.out
    have hb6 : Below W1.heap.size W1 w5 := hb.trans (hb5.below hgl.1 hgl.2.2.1 hb.size)
    obtain ⟨zb, zm, zA⟩ := Z
    simp only at hP5 FI AN
    cases hi : PG.imp ws m n with
    | none =>
      obtain ⟨g1, g2, g3⟩ := FI.2 hi
      obtain ⟨h1, h2⟩ := AN hi
      subst g1 g2 h1 h2
      have HP5 : Hid _ := hP5.base hB.size
      have hB6 := hB.trans (hb6.mono hB.size)
      clear FI MV IS AN AS hml HQ HFN hP5 g3 hi hb5 HP HF HJ
      go_wp2
      go_ret
      exact ⟨gs, gm, rfl, HP5.out, hB6⟩
    | some m' =>
      obtain ⟨g1, g2⟩ := FI.1 m' hi
      subst g1 g2
      obtain ⟨k1, k2, k3, _⟩ := IS zm hi
      have HA : Hid _ := AS zm hi
      have c2 := hP5.asked (j := 0) (by omega)
      have c3 := hP5.asked (j := 1) (by omega)
      have c4 := hP5.asked (j := 2) (by omega)
      have c5 := hP5.asked (j := 3) (by omega)
      have c6 := hP5.asked (j := 4) (by omega)
      have c7 := hP5.asked (j := 5) (by omega)
      have c8 := hP5.asked (j := 6) (by omega)
      have c9 := hP5.asked (j := 7) (by omega)
      simp only [Nat.reduceAdd] at c2 c3 c4 c5 c6 c7 c8 c9
      have z2 := hP5.free 2
      have z3 := hP5.free 3
      have z4 := hP5.free 4
      have z5 := hP5.free 5
      have z6 := hP5.free 6
      have z7 := hP5.free 7
      have z8 := hP5.free 8
      have z9 := hP5.free 9
      obtain ⟨hW, hOW⟩ := hP5.wipe
      have hb7 := hb6.trans (hOW.below hgl.2.2.1 hb6.size)
      have hlt := k3
      rw [← PG.mv_is hW.m, ← MV] at hlt
      have HM : Hid _ := hlt
      have HW : Hid _ := hW
      have HF5 : Hid (PG.fr zm < f') := by show _ < _; have := HF.out; omega
      have HJ5 : Hid _ := k1
      clear FI MV IS AN AS hml HQ HFN hP5 hi hb5 HP HF HJ hW hOW k1 k2 k3 hlt
      go_wp2
      go_roundw
      case rel => exact ⟨f', zm, HW, HF5, HJ5, HA, hb7⟩
      case measure => exact HM.out
end Go.Proofs.Ytkgiboookbhmmaa
