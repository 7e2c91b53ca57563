/- The program's search for a row: letsItselfBeTaken, takesOne. -/
import Derived.Test.YtjfnmhkhjaafkaaRows
import Derived.Test.YtjfnmhkhjaafkaaMPE
import Derived.Test.YtjfnmhkhjaafkaaCHasS
import Derived.Deep.RegionHeld3
import Derived.WalkKit
import Derived.WalkSpells
import Derived.WalkLawsBesides
import Derived.Outline
namespace Go.Proofs.Ytjfnmhkhjaafkaa
open Go.RowKit
set_option maxHeartbeats 1600000 in
set_option maxRecDepth 100000 in
theorem indexO_any (a : Option Addr) (cap : Nat) (zs : List Int) (x : Int) (w : World) (ho : zs.length ≤ 1048576) (hos : M4.IntsAt w a zs) :
    Calls Try.prog 56 #[.slice a zs.length cap, .int .i64 x] w fun e w' => e = .returned (.int .i64 (PG.ownI zs x)) ∧ w = w' := by
  obtain ⟨I, hI'⟩ : ∃ I, PG.ownI zs x = I := ⟨_, rfl⟩
  have hI : Hid (PG.ownI zs x = I) := hI'
  rw [hI']
  clear hI'
  go_enter Try.func56, Try.ntmps56
  go_wp2
  go_loopw [8] (fun iv wr => ∃ k : Nat, iv = .int .i64 k ∧ k ≤ zs.length ∧ Hid (EG.noUp zs x k) ∧ w = wr) (fun iv _ => (zs.length - intOf iv).toNat)
  case atStart => exact ⟨0, rfl, by omega, show Hid _ from fun j hj => by omega, rfl⟩
  case round =>
    obtain ⟨k, rfl, hk, hT, rfl⟩ := hrel
    by_cases hlk : k < zs.length
    · obtain ⟨b1, off1, rfl, hlt1, hc1⟩ := hos.at hlk
      have HY : Hid (zs.getD k 0 = x → I = k) := fun h => by rw [← hI.out]; exact PG.ownI_here hlk h hT.out
      have HN : Hid _ := fun h => EG.noUp_succ hT.out (k := k) h
      clear hos hT hI
      generalize zs.getD k 0 = y at *
      by_cases hxy : y = x
      · have hF : Hid _ := HY.out hxy
        subst hxy
        clear HY HN
        go_wp2
        go_ret
        exact ⟨by rw [hF.out]; rfl, rfl⟩
      · have hT : Hid _ := HN.out hxy
        clear HY HN
        go_wp2
        go_roundw
        case rel => exact ⟨k + 1, by go_num, by omega, hT, trivial⟩
        case measure => simp [intOf]; omega
    · obtain rfl : k = zs.length := by omega
      have hF : Hid (I = -1) := by show _ = _; rw [← hI.out]; exact PG.ownI_not hT.out
      clear hos hT hI
      go_wp2
      go_ret
      exact ⟨by rw [hF.out]; rfl, rfl⟩
set_option maxHeartbeats 3200000 in
set_option maxRecDepth 100000 in
theorem lets_any (W0 : World) (gs gm cm n f j : Nat) (v : Value) (rec : Nat → PG.St → Bool × PG.St) (s : PG.St) (w : World) (hn8 : n ≤ 8) (hj : j < 8) (hun : PG.un s.2 < f + 1)
    (TK : ∀ (o : Nat) (s' : PG.St) (W : World), o < n → PG.un s'.2 < f → Below W0.heap.size W0 W → PG.Im 47 W0.heap.size gs gm cm n v W s' → Calls Try.prog 51 #[.pointer (some ⟨gs, 0, none⟩), .int .i64 (o : Int)] W fun e w' => e = .returned (.bool (rec o s').1) ∧ PG.Im 47 W0.heap.size gs gm cm n v w' (rec o s').2 ∧ PG.But gm gs W w')
    (hb0 : Below W0.heap.size W0 w) (hs : PG.Im 47 W0.heap.size gs gm cm n v w s) :
    Calls Try.prog 58 #[.pointer (some ⟨gs, 0, none⟩), .int .i64 (j : Int)] w fun e w' => e = .returned (.bool (PG.lets rec (j : Int) s).1) ∧ PG.Im 47 W0.heap.size gs gm cm n v w' (PG.lets rec (j : Int) s).2 ∧ PG.But gm gs w w' := by
  have ca := hs.asked hj
  have HS : Hid _ := hs
  have HT : Hid _ := TK
  clear TK
  obtain ⟨Z, hZ'⟩ : ∃ Z, PG.lets rec (j : Int) s = Z := ⟨_, rfl⟩
  rw [hZ']
  cases hA : s.2 j
  · rw [hA] at ca
    have fz := hs.free (2 + j)
    have hO := (MC.Only.refl gs w).setCell (2 + j) (.bool true)
    have hS2 := hs.mark hj
    have hlen := hs.len
    have cm1 := hS2.match_
    have IX := indexO_any (some ⟨gm, 0, none⟩) cm s.1 j _ (by omega) hS2.ints
    rw [hlen] at IX
    obtain ⟨oi, hoi⟩ : ∃ oi, PG.ownI s.1 (j : Int) = oi := ⟨_, rfl⟩
    rw [hoi] at IX
    have HIX : Hid _ := IX
    have HS2 : Hid _ := hS2
    have hU2 : Hid (PG.un (PG.mk s.2 j) < f) := by show _ < _; have := PG.un_mk hA hj; omega
    have hbt := PG.But.only2 (g := gm) hO
    have HQ : Hid _ := And.intro hoi (And.intro hZ' (And.intro hA hlen))
    clear hs hS2 IX hoi hZ' hA hO hlen hun
    have hj0 : (0 : Int) ≤ (j : Int) := by omega
    have hj8 : (j : Int) < 8 := by omega
    go_enter Try.func58, Try.ntmps58
    go_wp2_with fail
    generalize w.setCell ⟨gs, 2 + j, none⟩ (.bool true) = W2 at *
    refine Calls.mono HIX.out ?_
    rintro e w' ⟨rfl, rfl⟩
    obtain ⟨hoi, hZ, hA, hlen⟩ := HQ.out
    clear HIX HQ ca fz cm1
    have hlt := HS.out.lt
    have hb2 : Below W0.heap.size W0 W2 := hb0.trans (hbt.below hlt.1 hlt.2.2.1 hb0.size)
    cases ho : PG.own s.1 (j : Int) with
    | none =>
      rw [PG.ownI_none ho] at hoi
      subst hoi
      rw [PG.lets_free hA ho] at hZ
      have HE : Hid _ := hZ
      clear hZ ho hA HT hU2 HS hlt hb2
      go_wp2
      go_ret
      exact ⟨by rw [← HE.out]; rfl, by rw [← HE.out]; exact HS2.out, hbt⟩
    | some o =>
      rw [PG.ownI_some ho] at hoi
      subst hoi
      rw [PG.lets_rec hA ho] at hZ
      have hol : o < n := by have := (PG.own_some.1 ho).1; rw [hlen] at this; exact this
      have TR := HT.out o (s.1, PG.mk s.2 j) W2 hol hU2.out hb2 HS2.out
      rw [hZ] at TR
      have HTR : Hid _ := TR
      clear hZ ho hA HT hU2 HS hlt hb2 TR HS2 hlen
      go_wp2_with fail
      refine Calls.mono HTR.out ?_
      rintro e w3 ⟨rfl, hP3, hb3⟩
      have hbt3 := hbt.trans hb3
      have HP3 : Hid _ := hP3
      clear HTR hb3 hP3 hbt
      go_wp2
      go_ret
      exact ⟨rfl, HP3.out, hbt3⟩
  · rw [hA] at ca
    have hE := hZ'
    rw [PG.lets_yes hA] at hE
    have HE : Hid _ := hE
    clear hs hZ' hA hE HT hun
    have hj0 : (0 : Int) ≤ (j : Int) := by omega
    have hj8 : (j : Int) < 8 := by omega
    go_enter Try.func58, Try.ntmps58
    go_wp2
    go_ret
    exact ⟨by rw [← HE.out]; rfl, by rw [← HE.out]; exact HS.out, PG.But.refl _ _ _⟩
set_option maxHeartbeats 3200000 in
set_option maxRecDepth 100000 in
theorem indexT_any (W0 : World) (gs gm cm n f left : Nat) (v : Value) (rec : Nat → PG.St → Bool × PG.St) (a : Option Addr) (cap : Nat) (rs : List Int) (s : PG.St) (w : World) (hn8 : n ≤ 8) (hrl : rs.length ≤ 1048576) (hrs : Hid (∀ x ∈ rs, 0 ≤ x ∧ x < 8)) (hun : Hid (PG.un s.2 < f + 1)) (hK : Hid (∀ r s', PG.Keep s' (PG.lets rec r s')))
    (TK : ∀ (o : Nat) (s' : PG.St) (W : World), o < n → PG.un s'.2 < f → Below W0.heap.size W0 W → PG.Im 47 W0.heap.size gs gm cm n v W s' → Calls Try.prog 51 #[.pointer (some ⟨gs, 0, none⟩), .int .i64 (o : Int)] W fun e w' => e = .returned (.bool (rec o s').1) ∧ PG.Im 47 W0.heap.size gs gm cm n v w' (rec o s').2 ∧ PG.But gm gs W w')
    (hb0 : Below W0.heap.size W0 w) (hin : M4.IntsAt W0 a rs) (hs : PG.Im 47 W0.heap.size gs gm cm n v w s) (Z : Bool × PG.St) (hZ : Hid (PG.first (PG.lets rec) left rs s = Z)) :
    Calls Try.prog 57 #[.slice a rs.length cap, .func (.func 58) #[.pointer (some ⟨gs, 0, none⟩)] #[]] w fun e w' => ∃ (i : Int) (s' : PG.St), e = .returned (.int .i64 i) ∧ PG.Im 47 W0.heap.size gs gm cm n v w' s' ∧ PG.But gm gs w w' ∧ ((i = -1 ∧ Z = (false, s')) ∨ ∃ k : Nat, i = (k : Int) ∧ k < rs.length ∧ Z = (true, (s'.1.set left (rs.getD k 0), s'.2))) := by
  have HT : Hid _ := TK
  have HS : Hid _ := hs
  have HI : Hid (M4.IntsAt W0 a rs) := hin
  have hgl := hs.lt
  clear TK hs hin
  go_enter Try.func57, Try.ntmps57
  go_wp2
  go_loopw [8] (fun iv wr => ∃ (k : Nat) (sk : PG.St), iv = .int .i64 k ∧ k ≤ rs.length ∧ Hid (PG.first (PG.lets rec) left (rs.drop k) sk = Z) ∧ Hid (PG.un sk.2 < f + 1) ∧ Hid (PG.Im 47 W0.heap.size gs gm cm n v wr sk) ∧ PG.But gm gs w wr) (fun iv _ => (rs.length - intOf iv).toNat)
  case atStart => exact ⟨0, s, rfl, by omega, hZ, hun, HS, PG.But.refl _ _ _⟩
  case round =>
    clear HS hZ hun
    obtain ⟨k, sk, rfl, hk, hZ, hU, hP, hbt⟩ := hrel
    have hbW : Below W0.heap.size W0 wr := hb0.trans (hbt.below hgl.1 hgl.2.2.1 hb0.size)
    by_cases hl : k < rs.length
    · obtain ⟨b3, off3, rfl, hlt3, hc3⟩ := M4.IntsAt.at (M4.IntsAt.below HI.out hbW) hl
      have hx := hrs.out (rs.getD k 0) (by rw [List.getD_eq_getElem?_getD, List.getElem?_eq_getElem hl]; exact List.getElem_mem _)
      obtain ⟨j, hj⟩ : ∃ j : Nat, rs.getD k 0 = (j : Int) := ⟨(rs.getD k 0).toNat, by omega⟩
      have hj8 : j < 8 := by omega
      have LT := lets_any W0 gs gm cm n f j v rec sk wr hn8 hj8 hU.out HT.out hbW hP.out
      have kp := hK.out (j : Int) sk
      have FY := fun h => PG.first_yes (g := PG.lets rec) (left := left) (s := sk) hl h
      have FN := fun h => PG.first_no (g := PG.lets rec) (left := left) (s := sk) hl h
      rw [hj] at FY FN hc3
      have HQ : Hid _ := And.intro kp (And.intro FY (And.intro FN hj))
      clear kp FY FN hx hj hP
      generalize PG.lets rec (j : Int) sk = q at *
      have HLT : Hid _ := LT
      clear LT HT
      go_wp2_with fail
      refine Calls.mono HLT.out ?_
      rintro e w3 ⟨rfl, hP3, hb3⟩
      have hbt3 := hbt.trans hb3
      obtain ⟨kp, FY, FN, hj⟩ := HQ.out
      obtain ⟨qb, qs⟩ := q
      simp only at hP3 FY FN kp
      cases qb
      · have hE := FN rfl
        rw [hZ.out] at hE
        have HE : Hid _ := hE.symm
        have hU3 : Hid (PG.un qs.2 < f + 1) := by show _ < _; have h1 := PG.un_mono kp.A; have h2 := hU.out; exact Nat.lt_of_le_of_lt h1 h2
        have HP3 : Hid _ := hP3
        clear hE FN FY kp HQ HLT hb3 hP3 hbt hU hZ
        go_wp2
        go_roundw
        case rel => exact ⟨k + 1, qs, by go_num, by omega, HE, hU3, HP3, hbt3⟩
        case measure => simp [intOf]; omega
      · have hE := FY rfl
        rw [hZ.out] at hE
        have HE : Hid (Z = (true, (qs.1.set left (rs.getD k 0), qs.2))) := by rw [hj]; exact hE
        have HP3 : Hid _ := hP3
        clear hE FN FY kp HQ HLT hb3 hP3 hbt hU hZ
        go_wp2
        go_ret
        exact ⟨k, qs, rfl, HP3.out, hbt3, .inr ⟨k, rfl, hl, HE.out⟩⟩
    · obtain rfl : k = rs.length := by omega
      have hE := hZ.out
      rw [List.drop_length, PG.first] at hE
      have HE : Hid _ := hE.symm
      clear hE hZ HT
      go_wp2
      go_ret
      exact ⟨-1, sk, rfl, hP.out, hbt, .inl ⟨rfl, HE.out⟩⟩
set_option maxHeartbeats 3200000 in
set_option maxRecDepth 100000 in
theorem takes_any (n : Nat) (a : Option Addr) (cap gs gm cm : Nat) (ws : List (List Int)) (W0 : World) (hn8 : n ≤ 8) (hwn : Hid (ws.length = n)) (hcm : n ≤ cm) (ht : NR.tot ws ≤ 1048576) (hG : Hid (PG.Gd ws)) (hin : Hid (NR.RowsAt W0 a ws)) :
    ∀ (f left : Nat) (s : PG.St) (w : World), left < n → PG.un s.2 < f → Below W0.heap.size W0 w → PG.Im 47 W0.heap.size gs gm cm n (.slice a ws.length cap) w s →
    Calls Try.prog 51 #[.pointer (some ⟨gs, 0, none⟩), .int .i64 (left : Int)] w fun e w' => e = .returned (.bool (PG.tr ws f left s).1) ∧ PG.Im 47 W0.heap.size gs gm cm n (.slice a ws.length cap) w' (PG.tr ws f left s).2 ∧ PG.But gm gs w w'
  | 0, _, _, _, _, h, _, _ => by omega
  | f + 1, left, s, w, hlf, hun, hb0, hs => by
    have hlw : left < ws.length := by rw [hwn.out]; exact hlf
    obtain ⟨b2, off2, a1, d1, rfl, hlt2, e1, _, i1⟩ := hin.out.at hlw
    have hrt := NR.tot_row ws hlw
    obtain ⟨Z, hZ'⟩ : ∃ Z, PG.tr ws (f + 1) left s = Z := ⟨_, rfl⟩
    have hZ : Hid (PG.first (PG.lets (PG.tr ws f)) left (NR.rw_ ws left) s = Z) := hZ'
    have IX : Hid _ := indexT_any W0 gs gm cm n f left (.slice (some ⟨b2, off2, none⟩) ws.length cap) (PG.tr ws f) a1 d1 (NR.rw_ ws left) s w hn8 (by omega) (fun x hx => hG.out left x hx) hun (fun r s' => PG.lets_keep (PG.tr_keep ws f) r s')
      (fun o s' W h1 h2 h3 h4 => takes_any n (some ⟨b2, off2, none⟩) cap gs gm cm ws W0 hn8 hwn hcm ht hG hin f o s' W h1 h2 h3 h4) hb0 i1 hs Z hZ
    have hgl := hs.lt
    have cw := hs.want
    have e2 := (hb0.cell (p := ⟨b2, off2 + left, none⟩) hlt2).trans e1
    rw [hZ']
    have I0 : Hid (M4.IntsAt W0 a1 (NR.rw_ ws left)) := i1
    clear hZ hZ' hun i1 hs
    generalize NR.rw_ ws left = rs at *
    go_enter Try.func51, Try.ntmps51
    go_wp2_with fail
    refine Calls.mono IX.out ?_
    rintro e w2 ⟨i, s', rfl, hP, hbt, hor⟩
    clear IX cw e2
    have hbW : Below W0.heap.size W0 w2 := hb0.trans (hbt.below hgl.1 hgl.2.2.1 hb0.size)
    rcases hor with ⟨rfl, hE⟩ | ⟨k, rfl, hkl, hE⟩
    · subst hE
      have HP : Hid _ := hP
      clear hP
      go_wp2
      go_ret
      exact ⟨rfl, HP.out, hbt⟩
    · obtain ⟨b3, off3, rfl, hb3W, hc3'⟩ := M4.IntsAt.at I0.out hkl
      have hc3 := (hbW.cell (p := ⟨b3, off3 + k, none⟩) hb3W).trans hc3'
      have hlt3 := Nat.lt_of_lt_of_le hb3W hbW.size
      have hgs2 := hP.lt.2.2.2
      have hgne := hP.ne
      have cw := hP.want
      have cu := hP.match_
      have e2 := (hbW.cell (p := ⟨b2, off2 + left, none⟩) hlt2).trans e1
      have hmc : ∃ u, w2.cell? ⟨gm, left, none⟩ = some u := by
        rw [hP.m.cellAt left (by omega)]
        exact ⟨_, List.getElem?_eq_getElem (by simp only [M4.iv, List.length_map]; rw [hP.len]; omega)⟩
      obtain ⟨um, hmc⟩ := hmc
      have hmf := hP.m.frozenAt left
      have HP3 : Hid _ := hP.put (j := left) (rs.getD k 0)
      have hbt3 := hbt.trans (PG.But.only1 (h := gs) ((MC.Only.refl gm w2).setCell left (.int .i64 (rs.getD k 0))))
      have HE : Hid _ := hE
      clear hE hP hbt e1 hin hc3'
      generalize rs.getD k 0 = y at *
      have hk0 : (0 : Int) ≤ (k : Int) := by omega
      have hkn : (k : Int) < (rs.length : Int) := by omega
      have hne := hgl
      have c1 := ((MC.Only.refl gm w2).setCell left (.int .i64 y)).cell (x := ⟨gs, 0, none⟩) hgs2 hgne |>.trans cw
      have c2 := ((MC.Only.refl gm w2).setCell left (.int .i64 y)).cell (x := ⟨gs, 1, none⟩) hgs2 hgne |>.trans cu
      have c3 := ((MC.Only.refl gm w2).setCell left (.int .i64 y)).cell (x := ⟨b2, off2 + left, none⟩) (Nat.lt_of_lt_of_le hlt2 hbW.size) (Nat.ne_of_lt (Nat.lt_of_lt_of_le hlt2 hgl.1)) |>.trans e2
      have c4 := ((MC.Only.refl gm w2).setCell left (.int .i64 y)).cell (x := ⟨b3, off3 + k, none⟩) hlt3 (Nat.ne_of_lt (Nat.lt_of_lt_of_le hb3W hgl.1)) |>.trans hc3
      go_wp2
      go_region_held3 (fun w' => w'.cell? ⟨gs, 0, none⟩ = some (.slice (some ⟨b2, off2, none⟩) ws.length cap) ∧ w'.cell? ⟨gs, 1, none⟩ = some (.slice (some ⟨gm, 0, none⟩) n cm) ∧ w'.cell? ⟨b2, off2 + left, none⟩ = some (.slice (some ⟨b3, off3, none⟩) rs.length d1) ∧ w'.cell? ⟨b3, off3 + k, none⟩ = some (.int .i64 y)) (first | assumption | (refine ⟨?_, ?_, ?_, ?_⟩ <;> assumption) | go_keep) (fail)
      have HP4 : Hid _ := HP3.out.below (Below.refl _ _).drew
      have hbt4 := hbt3.trans (PG.But.of_below (Below.refl _ _).drew)
      clear HP3 hbt3 c1 c2 c3 c4 cw cu e2 hmc hmf hc3
      go_wp2
      go_ret
      exact ⟨by rw [HE.out]; rfl, by rw [HE.out]; exact HP4.out, hbt4⟩
end Go.Proofs.Ytjfnmhkhjaafkaa
