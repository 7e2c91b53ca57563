/- The specification's search for a row: l10Owner, l10Try. -/
import Derived.Test.YtjfnmhkhjaafkaaRows
import Derived.Test.YtjfnmhkhjaafkaaMPF
import Derived.Test.YtjfnmhkhjaafkaaCHasS
import Derived.WalkKit
import Derived.WalkSpells
import Derived.WalkLawsBesides
import Derived.Outline
namespace Go.Proofs.Ytjfnmhkhjaafkaa
open Go.RowKit
set_option maxHeartbeats 1600000 in
set_option maxRecDepth 100000 in
theorem owner_any (a : Option Addr) (cap : Nat) (zs : List Int) (x : Int) (w : World) (ho : zs.length ≤ 1048576) (hos : M4.IntsAt w a zs) :
    Calls Try.prog 49 #[.slice a zs.length cap, .int .i64 x] w fun e w' => e = .returned (.int .i64 (PG.ownI zs x)) ∧ w = w' := by
  obtain ⟨I, hI'⟩ : ∃ I, PG.ownI zs x = I := ⟨_, rfl⟩
  have hI : Hid (PG.ownI zs x = I) := hI'
  rw [hI']
  clear hI'
  go_enter Try.func49, Try.ntmps49
  go_wp2
  go_loopw [9] (fun iv wr => ∃ k : Nat, iv = .int .i64 k ∧ k ≤ zs.length ∧ Hid (EG.noUp zs x k) ∧ w = wr) (fun iv _ => (zs.length - intOf iv).toNat)
  case atStart => exact ⟨0, rfl, by omega, show Hid _ from fun j hj => by omega, rfl⟩
  case round =>
    obtain ⟨k, rfl, hk, hT, rfl⟩ := hrel
    by_cases hlk : k < zs.length
    · obtain ⟨b1, off1, rfl, hlt1, hc1⟩ := hos.at hlk
      have HY : Hid (zs.getD k 0 = x → I = k) := fun h => by rw [← hI.out]; exact PG.ownI_here hlk h hT.out
      have HN : Hid _ := fun h => EG.noUp_succ hT.out (k := k) h
      clear hos hT hI
      generalize zs.getD k 0 = y at *
      by_cases hxy : y = x
      · have hF : Hid _ := HY.out hxy
        subst hxy
        clear HY HN
        go_wp2
        go_ret
        exact ⟨by rw [hF.out]; rfl, rfl⟩
      · have hT : Hid _ := HN.out hxy
        clear HY HN
        go_wp2
        go_roundw
        case rel => exact ⟨k + 1, by go_num, by omega, hT, trivial⟩
        case measure => simp [intOf]; omega
    · obtain rfl : k = zs.length := by omega
      have hF : Hid (I = -1) := by show _ = _; rw [← hI.out]; exact PG.ownI_not hT.out
      clear hos hT hI
      go_wp2
      go_ret
      exact ⟨by rw [hF.out]; rfl, rfl⟩
set_option maxHeartbeats 3200000 in
set_option maxRecDepth 100000 in
theorem try_any (l : Int) (R n : Nat) (a : Option Addr) (cap gm cm ga : Nat) (ws : List (List Int)) (W0 : World) (hR8 : R ≤ 8) (hn8 : n ≤ 8) (hwn : ws.length = n) (hcm : n ≤ cm) (ht : NR.tot ws ≤ 1048576) (hG : Hid (∀ j x, x ∈ NR.rw_ ws j → 0 ≤ x ∧ x < (R : Int))) (hin : Hid (NR.RowsAt W0 a ws)) :
    ∀ (f left : Nat) (s : PG.St) (w : World), left < n → PG.un s.2 < f → Below W0.heap.size W0 w → PG.Sp W0.heap.size gm cm ga n R w s →
    Calls Try.prog 53 #[PG.pv l R (.slice a ws.length cap), .slice (some ⟨gm, 0, none⟩) n cm, .int .i64 left, .slice (some ⟨ga, 0, none⟩) R R] w fun e w' => e = .returned (.bool (PG.tr ws f left s).1) ∧ PG.Sp W0.heap.size gm cm ga n R w' (PG.tr ws f left s).2 ∧ PG.But gm ga w w'
  | 0, _, _, _, _, h, _, _ => by omega
  | f + 1, left, s, w, hlf, hun, hb0, hs => by
    have IH : Hid (∀ (o : Nat) (s' : PG.St) (W : World), o < n → PG.un s'.2 < f → Below W0.heap.size W0 W → PG.Sp W0.heap.size gm cm ga n R W s' → Calls Try.prog 53 #[PG.pv l R (.slice a ws.length cap), .slice (some ⟨gm, 0, none⟩) n cm, .int .i64 (o : Int), .slice (some ⟨ga, 0, none⟩) R R] W fun e w' => e = .returned (.bool (PG.tr ws f o s').1) ∧ PG.Sp W0.heap.size gm cm ga n R w' (PG.tr ws f o s').2 ∧ PG.But gm ga W w') := fun o s' W h1 h2 h3 h4 => try_any l R n a cap gm cm ga ws W0 hR8 hn8 hwn hcm ht hG hin f o s' W h1 h2 h3 h4
    have KP : Hid (∀ o s', PG.Keep s' (PG.tr ws f o s')) := fun o s' => PG.tr_keep ws f o s'
    obtain ⟨Z, hZ'⟩ : ∃ Z, PG.tr ws (f + 1) left s = Z := ⟨_, rfl⟩
    have hZ : Hid (PG.first (PG.lets (PG.tr ws f)) left (NR.rw_ ws left) s = Z) := hZ'
    rw [hZ']
    clear hZ'
    generalize PG.tr ws f = rec at *
    have hB1 : Below w.heap.size w (w.alloc (Obj.cells #[.int .i64 l, .int .i64 (R : Int), .slice a ws.length cap] 25)) := (Below.refl _ _).alloc (Nat.le_refl _) _
    have hC : (w.alloc (Obj.cells #[.int .i64 l, .int .i64 (R : Int), .slice a ws.length cap] 25)).cell? ⟨w.heap.size, 0, none⟩ = some (.int .i64 l) ∧ (w.alloc (Obj.cells #[.int .i64 l, .int .i64 (R : Int), .slice a ws.length cap] 25)).cell? ⟨w.heap.size, 1, none⟩ = some (.int .i64 (R : Int)) ∧ (w.alloc (Obj.cells #[.int .i64 l, .int .i64 (R : Int), .slice a ws.length cap] 25)).cell? ⟨w.heap.size, 2, none⟩ = some (.slice a ws.length cap) := by simp
    have hS : w.heap.size < (w.alloc (Obj.cells #[.int .i64 l, .int .i64 (R : Int), .slice a ws.length cap] 25)).heap.size := by simp
    have hgl := hs.lt
    have HS1 : Hid _ := hs.below hB1
    have HB1 := hb0.trans (hB1.mono hb0.size)
    have hSz := hb0.size
    have HHB : Hid _ := hB1
    clear hs hb0 hB1
    have hlw : left < ws.length := by omega
    have HWN : Hid (ws.length = n) := hwn
    clear hwn
    obtain ⟨b2, off2, a1, d1, rfl, hlt2, e1, _, i1⟩ := hin.out.at hlw
    have hrt := NR.tot_row ws hlw
    have hrs : Hid (∀ x ∈ NR.rw_ ws left, 0 ≤ x ∧ x < (R : Int)) := fun x hx => hG.out left x hx
    have I0 : Hid (M4.IntsAt W0 a1 (NR.rw_ ws left)) := i1
    have e2 := (HB1.cell (p := ⟨b2, off2 + left, none⟩) hlt2).trans e1
    clear i1 e1
    generalize NR.rw_ ws left = rs at *
    obtain ⟨hC0, hC1, hC2⟩ := hC
    go_enter Try.func53, Try.ntmps53
    go_wp2
    generalize w.alloc (Obj.cells #[.int .i64 l, .int .i64 (R : Int), .slice (some ⟨b2, off2, none⟩) ws.length cap] 25) = W1 at *
    clear e2
    go_loopw [18] (fun iv wr => ∃ (k : Nat) (sk : PG.St), iv = .int .i64 k ∧ k ≤ rs.length ∧ Hid (PG.first (PG.lets rec) left (rs.drop k) sk = Z) ∧ Hid (PG.un sk.2 ≤ PG.un s.2) ∧ Hid (PG.Sp W0.heap.size gm cm ga n R wr sk) ∧ PG.But gm ga W1 wr) (fun iv _ => (rs.length - intOf iv).toNat)
    case atStart => exact ⟨0, s, rfl, by omega, hZ, Nat.le_refl _, HS1, PG.But.refl _ _ _⟩
    case round =>
      clear HS1 hZ
      obtain ⟨k, sk, rfl, hk, hZ, hU, hP, hbt⟩ := hrel
      have c0 := (hbt.cell (p := ⟨w.heap.size, 0, none⟩) hS (by simp; omega) (by simp; omega)).trans hC0
      have c1 := (hbt.cell (p := ⟨w.heap.size, 1, none⟩) hS (by simp; omega) (by simp; omega)).trans hC1
      have c2 := (hbt.cell (p := ⟨w.heap.size, 2, none⟩) hS (by simp; omega) (by simp; omega)).trans hC2
      have hbW : Below W0.heap.size W0 wr := HB1.trans (hbt.below hgl.1 hgl.2.2.1 HB1.size)
      by_cases hl : k < rs.length
      · obtain ⟨b3, off3, rfl, hlt3, hc3⟩ := M4.IntsAt.at (M4.IntsAt.below I0.out hbW) hl
        have hx := hrs.out (rs.getD k 0) (by rw [List.getD_eq_getElem?_getD, List.getElem?_eq_getElem hl]; exact List.getElem_mem _)
        obtain ⟨j, hj⟩ : ∃ j : Nat, rs.getD k 0 = (j : Int) := ⟨(rs.getD k 0).toNat, by omega⟩
        have hjR : j < R := by omega
        rw [hj] at hc3
        have ca := hP.out.asked hjR
        obtain ⟨A, hA⟩ : ∃ A, sk.2 j = A := ⟨_, rfl⟩
        rw [hA] at ca
        cases A
        · -- nobody asked it yet
          have hP2 := hP.out.mark hjR
          have hf2 := hP.out.a.frozenAt j
          have hO2 := (MC.Only.refl ga wr).setCell j (.bool true)
          have hU2 : Hid (PG.un (PG.mk sk.2 j) < f) := by show _ < _; have := PG.un_mk hA (by omega); have := hU.out; omega
          have OW := owner_any (some ⟨gm, 0, none⟩) cm sk.1 j (wr.setCell ⟨ga, j, none⟩ (.bool true)) (by have := hP.out.len; omega) hP2.ints
          rw [hP.out.len] at OW
          have HOW : Hid _ := OW
          have d0 := (hO2.cell (x := ⟨w.heap.size, 0, none⟩) (Nat.lt_of_lt_of_le hS hbt.size) (by simp; omega)).trans c0
          have d1' := (hO2.cell (x := ⟨w.heap.size, 1, none⟩) (Nat.lt_of_lt_of_le hS hbt.size) (by simp; omega)).trans c1
          have d2 := (hO2.cell (x := ⟨w.heap.size, 2, none⟩) (Nat.lt_of_lt_of_le hS hbt.size) (by simp; omega)).trans c2
          have hbt2 := hbt.trans (PG.But.only2 (g := gm) hO2)
          have HP2 : Hid _ := hP2
          have hlen : Hid _ := hP.out.len
          clear OW hP2 hO2 hbt hP c0 c1 c2
          obtain ⟨oi, hoi⟩ : ∃ oi, PG.ownI sk.1 (j : Int) = oi := ⟨_, rfl⟩
          rw [hoi] at HOW
          have HIK : Hid _ := And.intro IH KP
          have HQ : Hid _ := And.intro hoi (And.intro hj (And.intro hx hA))
          clear hoi hj hx hA IH KP
          go_wp2_with fail
          generalize wr.setCell ⟨ga, j, none⟩ (.bool true) = W2 at *
          refine Calls.mono HOW.out ?_
          rintro e w' ⟨rfl, rfl⟩
          obtain ⟨hoi, hj, hx, hA⟩ := HQ.out
          clear HOW HQ ca hf2 hc3
          have hgw : gm < W2.heap.size := (HP2.out.lt).2.1
          cases ho : PG.own sk.1 (j : Int) with
          | none =>
            have hE := hZ.out
            rw [PG.step_free hl hj hA ho] at hE
            rw [PG.ownI_none ho] at hoi
            subst hoi
            have HE : Hid _ := hE
            have hmc : ∃ u, W2.cell? ⟨gm, left, none⟩ = some u := by
              rw [HP2.out.m.cellAt left (by omega)]
              exact ⟨_, List.getElem?_eq_getElem (by simp only [M4.iv, List.length_map]; rw [hlen.out]; omega)⟩
            obtain ⟨um, hmc⟩ := hmc
            have hmf := HP2.out.m.frozenAt left
            have HP3 : Hid _ := HP2.out.put (j := left) (j : Int)
            have hbt3 := (PG.But.of_below HHB.out).trans (hbt2.trans (PG.But.only1 (h := ga) ((MC.Only.refl gm W2).setCell left (.int .i64 (j : Int)))))
            clear HP2 hbt2 hj hx hA hE hZ HIK hU hU2 ho hlen hbW HHB HB1 d0 d1' d2
            go_wp2
            go_ret
            exact ⟨by rw [← HE.out]; rfl, by rw [← HE.out]; exact HP3.out, hbt3⟩
          | some o =>
            have hE := hZ.out
            rw [PG.step_rec hl hj hA ho] at hE
            rw [PG.ownI_some ho] at hoi
            subst hoi
            have hol : o < n := by have := (PG.own_some.1 ho).1; rw [hlen.out] at this; exact this
            have hbW2 : Below W0.heap.size W0 W2 := HB1.trans (hbt2.below hgl.1 hgl.2.2.1 HB1.size)
            have TR : Hid _ := HIK.out.1.out o (sk.1, PG.mk sk.2 j) W2 hol hU2.out hbW2 HP2.out
            have kp := HIK.out.2.out o (sk.1, PG.mk sk.2 j)
            have HE : Hid _ := hE
            have hW1s := hbt2.size
            clear hE hZ ho hU2 HP2 hbW2 hj hx hA hbW
            obtain ⟨q, hq⟩ : ∃ q, rec o (sk.1, PG.mk sk.2 j) = q := ⟨_, rfl⟩
            rw [hq] at TR HE kp
            have KPQ : Hid _ := kp
            clear kp hq
            obtain ⟨qb, qm, qA⟩ := q
            simp only at TR HE KPQ
            go_wp2_with fail
            refine Calls.mono TR.out ?_
            rintro e w3 ⟨rfl, hP3, hb3⟩
            have hbt3 := hbt2.trans hb3
            clear TR hb3 hbt2 d0 d1' d2
            cases qb
            · have hE := HE.out
              simp only [Bool.false_eq_true, if_false] at hE
              have HE2 : Hid _ := hE
              have HU3 : Hid (PG.un qA ≤ PG.un s.2) := by
                show _ ≤ _
                have h1 := PG.un_mono (A := sk.2) (B := qA) (fun i hi => KPQ.out.A i (PG.mk_mono hi))
                have := hU.out
                omega
              have HP3 : Hid _ := hP3
              clear HE hE hP3 KPQ HIK hU hlen HHB HB1
              go_wp2
              go_roundw
              case rel => exact ⟨k + 1, (qm, qA), by go_num, by omega, HE2, HU3, HP3, hbt3⟩
              case measure => simp [intOf]; omega
            · have hE := HE.out
              simp only [if_true] at hE
              have HE2 : Hid _ := hE
              have hql := KPQ.out.len
              simp only at hql
              have hmc : ∃ u, w3.cell? ⟨gm, left, none⟩ = some u := by
                rw [hP3.m.cellAt left (by omega)]
                exact ⟨_, List.getElem?_eq_getElem (by simp only [M4.iv, List.length_map]; rw [hql, hlen.out]; omega)⟩
              obtain ⟨um, hmc⟩ := hmc
              have hmf := hP3.m.frozenAt left
              have HP4 : Hid _ := hP3.put (j := left) (j : Int)
              have hbt4 := (PG.But.of_below HHB.out).trans (hbt3.trans (PG.But.only1 (h := ga) ((MC.Only.refl gm w3).setCell left (.int .i64 (j : Int)))))
              clear HE hE hP3 KPQ HIK hU hlen HHB HB1 hbt3 hql
              go_wp2
              go_ret
              exact ⟨by rw [← HE2.out]; rfl, by rw [← HE2.out]; exact HP4.out, hbt4⟩
        · have hE := hZ.out
          rw [PG.step_skip hl hj hA] at hE
          have HE : Hid _ := hE
          clear hE hZ IH KP hj hA hx
          go_wp2
          go_roundw
          case rel => exact ⟨k + 1, sk, by go_num, by omega, HE, hU, hP, hbt⟩
          case measure => simp [intOf]; omega
      · obtain rfl : k = rs.length := by omega
        have hE := hZ.out
        rw [List.drop_length, PG.first] at hE
        have HE : Hid _ := hE
        have hbt2 := (PG.But.of_below HHB.out).trans hbt
        clear hE hZ IH KP
        go_wp2
        go_ret
        exact ⟨by rw [← HE.out]; rfl, by rw [← HE.out]; exact hP.out, hbt2⟩
end Go.Proofs.Ytjfnmhkhjaafkaa
