/- l8Augment, the specification's. -/
import Derived.Test.YtndaapidfiocoaaRows
import Derived.Test.YtndaapidfiocoaaMFB
import Derived.Test.YtndaapidfiocoaaCSearchS
import Derived.Test.YtndaapidfiocoaaMInfo
import Derived.WalkKit
import Derived.WalkSpells
import Derived.WalkLawsBesides
import Derived.Outline
import Derived.Deep.RegionHeld3
namespace Go.Proofs.Ytndaapidfiocoaa
open Go.RowKit
set_option linter.unusedSimpArgs false in
set_option maxHeartbeats 3200000 in
set_option maxRecDepth 100000 in
theorem l8Augment_any (a b : Option Addr) (ca cb : Nat) (xs : List I3) (fs : List Int) (f t : Int) (w : World) (hA : FL.Ask xs f t) (hl : fs.length = xs.length) (hfit : FL.fitUp xs fs xs.length) (hin : MI3.RowAt w a xs) (hos : M4.IntsAt w b fs) :
    Calls Try.prog 44 #[.slice a xs.length ca, .int .i64 f, .int .i64 t, .slice b fs.length cb] w fun e w' => ∃ a1 c1, e = .returned (.tuple #[.slice a1 (FL.ansL xs fs f t).length c1, .int .i64 (FL.augN xs fs f t)]) ∧ w'.ownsRow w.heap.size 3 1 (.slice a1 (FL.ansL xs fs f t).length c1) (FL.ansL xs fs f t).length (M4.iv (FL.ansL xs fs f t)) ∧ Below w.heap.size w w' := by
  obtain ⟨i0, hi, hz0, hz1, hz2⟩ := info_parts Try.info3
  have SE : Hid _ := l8Search_any a b ca cb xs fs f w hA.ok hA.f0 hA.f7 hl hfit hin hos
  have HI : Hid (MI3.RowAt w a xs) := hin
  have HO : Hid (M4.IntsAt w b fs) := hos
  have hlen : xs.length ≤ 20 := hA.len
  have HA : Hid (FL.Ask xs f t) := hA
  have HF : Hid (FL.fitUp xs fs xs.length) := hfit
  have GC : Hid (∀ k, k < xs.length → FL.Good (MI3.at_ xs k)) := fun k hk => FL.okP_good hA.ok hk
  have TR : Hid (FL.Tree xs fs f (FL.srch xs fs f)) := FL.srch_tree hA.ok ⟨hA.f0, hA.f7⟩
  obtain ⟨fn, rfl⟩ := Int.eq_ofNat_of_zero_le hA.f0
  obtain ⟨tn, rfl⟩ := Int.eq_ofNat_of_zero_le hA.t0
  have hfn : fn < 8 := by have := hA.f7; omega
  have htn : tn < 8 := by have := hA.t7; omega
  rw [hl] at SE ⊢
  have HL : Hid _ := hl
  clear hin hos hfit hl hA
  have CS : Hid (FL.Case fs (FL.srch xs fs (fn : Int)) tn (FL.augN xs fs (fn : Int) (tn : Int)) (FL.ansL xs fs (fn : Int) (tn : Int))) := FL.case_of HA.out HL.out HF.out
  generalize FL.augN xs fs (fn : Int) (tn : Int) = N at *
  generalize FL.ansL xs fs (fn : Int) (tn : Int) = LL at *
  go_enter Try.func44, Try.ntmps44
  go_wp2_with fail
  refine Calls.mono SE.out ?_
  rintro e w1 ⟨g1, c1, rfl, hown, hb1⟩
  clear SE
  have l1 := hown.lt g1 rfl
  have CL : Hid (∀ (W : World) (j : Nat), Below w1.heap.size w1 W → j < 8 → W.cell? ⟨g1, j, none⟩ = some (.int .i64 ((FL.srch xs fs (fn : Int)).by_.getD j 0))) := fun W j hb hj => by
    have h8 := TR.out.len
    rw [(M5.own_below hown hb).cellAt j (by omega)]; exact M4.iv_get _ _ _ (FL.get_of _ (by omega))
  have HOW : Hid (w1.ownsRow w.heap.size 3 1 (.slice (some ⟨g1, 0, none⟩) 8 c1) 8 (M4.iv (FL.srch xs fs (fn : Int)).by_)) := hown
  clear hown
  generalize hS : FL.srch xs fs (fn : Int) = S at *
  clear hS
  have cz := CL.out w1 tn (Below.refl _ _) htn
  have tt0 : (0 : Int) ≤ (tn : Int) := by omega
  have tt8 : (tn : Int) < 8 := by omega
  by_cases hz : S.by_.getD tn 0 = -1
  · have hF : Hid (N = 0) := (CS.out.no hz).1
    have hF2 : Hid (LL = []) := (CS.out.no hz).2
    rw [hz] at cz
    clear CS CL HOW HI HO HA HF GC TR hz
    go_wp2
    go_ret2
    exact ⟨none, 0, by rw [hF.out, hF2.out]; rfl, by rw [hF2.out]; exact World.ownsRow_nil _ _ _ _, hb1⟩
  · have AU : Hid (FL.Aug fs S tn N LL) := CS.out.yes hz
    have HZ : Hid (S.by_.getD tn 0 ≠ -1) := hz
    obtain ⟨z, hzv⟩ : ∃ z, S.by_.getD tn 0 = z := ⟨_, rfl⟩
    rw [hzv] at cz hz
    have hnb : (z == -1) = false := by simpa using hz
    clear hzv hz CS
    go_wp2
    clear cz hnb
    go_loopw [11, 12] (fun mv nv wr => ∃ (n : Nat) (l2 : List FL.Stp) (m : Int), nv = .int .i64 n ∧ n < 8 ∧ mv = .int .i64 m ∧ Hid (FL.lst l2 = m) ∧ Hid (S.by_.getD n 0 ≠ -1) ∧ Hid (S.L tn = S.L n ++ l2) ∧ Below w1.heap.size w1 wr) (fun _ nv _ => FL.ml S nv)
    case atStart => exact ⟨tn, [], 0, rfl, htn, rfl, rfl, HZ, show Hid _ from (List.append_nil _).symm, Below.refl _ _⟩
    case round =>
      obtain ⟨n, l2, m, rfl, hn8, rfl, hLM, hB, hL2, hb⟩ := hrel
      have nn0 : (0 : Int) ≤ (n : Int) := by omega
      have nn8 : (n : Int) < 8 := by omega
      have hbw : Below w.heap.size w wr := hb1.trans (hb.mono hb1.size)
      by_cases hnf : (n : Int) = (fn : Int)
      · have hnil : S.L n = [] := by have := TR.out.nil; rw [Int.toNat_natCast] at this; rw [show n = fn from by omega]; exact this
        have hL3 : Hid (S.L tn = l2) := by show _ = _; rw [hL2.out, hnil, List.nil_append]
        have hMost : N = m := by rw [← hLM.out, ← hL3.out, AU.out.n]
        clear hnil hL2 hB
        subst hMost
        obtain rfl : fn = n := by omega
        have mb1 : 0 < N := AU.out.pos
        have mb2 : N ≤ 100 := AU.out.up
        clear hLM hnf
        obtain ⟨wx, hwx⟩ : ∃ wx, wx = wr := ⟨_, rfl⟩
        subst hwx
        obtain ⟨z0, hz0l⟩ : ∃ x, x ∈ S.L tn := by
          cases hc : S.L tn with
          | nil => have := AU.out.n; rw [hc] at this; have := AU.out.pos; simp only [FL.lst] at *; omega
          | cons x l => exact ⟨x, by simp⟩
        have hflen : 0 < fs.length := Nat.lt_of_le_of_lt (Nat.zero_le _) (AU.out.k z0 hz0l)
        obtain ⟨b5, off5, hbb, hlt5, _⟩ := M4.IntsAt.at HO.out (k := 0) hflen
        have hRN : ∀ j u, (M4.iv fs)[j]? = some u → (wx.alloc (.cells #[] 3)).cell? ((⟨b5, off5, none⟩ : Addr).add j) = some u := fun j u hj => by
          have hjl : j < fs.length := by have := (List.getElem?_eq_some_iff.1 hj).1; simpa [M4.iv] using this
          obtain ⟨b6, off6, hb6, hlt6, hc6⟩ := M4.IntsAt.at (M4.IntsAt.below HO.out (hbw.alloc hbw.size (.cells #[] 3))) (k := j) hjl
          rw [hbb] at hb6
          simp only [Option.some.injEq, Addr.mk.injEq] at hb6
          obtain ⟨rfl, rfl, -⟩ := hb6
          have hadd : (⟨b5, off5, none⟩ : Addr).add j = ⟨b5, off5 + j, none⟩ := by unfold Addr.add; split <;> simp_all
          rw [hadd, hc6]
          rw [M4.iv_get _ _ _ (FL.get_of fs hjl)] at hj
          exact hj
        have HRN : Hid (∀ j u, (M4.iv fs)[j]? = some u → (wx.alloc (.cells #[] 3)).cell? ((⟨b5, off5, none⟩ : Addr).add j) = some u) := hRN
        have OWN0 : Hid ((wx.alloc (.cells #[] 3)).ownsRow wx.heap.size 3 1 (.slice (some ⟨wx.heap.size, 0, none⟩) 0 0) 0 []) := by
          have := World.ownsRow_lit (base := wx.heap.size) (e := 3) (size := 1) wx #[] 0 (by simp) (by unfold maxLen; omega) (by simp)
          show World.ownsRow _ _ _ _ _ _ _
          simpa [M4.iv] using this
        have hx0 : 0 < xs.length := by rw [← HL.out]; exact hflen
        clear hRN hz0l z0 hflen hlt5
        subst hbb
        go_wp2_with (at_builtin; refine wpList_append_own _ rfl _ _ 26 rfl wx.heap.size 3 i0 (.int .i64 0) 1 8 Try.underlying26 hi hz0 hz1 hz2 rfl (by decide) _ _ _ rfl OWN0.out ⟨b5, off5, none⟩ xs.length cb (M4.iv fs) rfl ?a0 ?a1 ?a2 ?a3 ?a4 ?a5 ?_)
        case a0 => simp [M4.iv, HL.out]
        case a1 => exact HRN.out
        case a2 => intro u hu; simp only [M4.iv, List.mem_map] at hu; obtain ⟨z, _, rfl⟩ := hu; rfl
        case a3 => unfold maxLen; omega
        case a4 => omega
        case a5 => simp
        intro v' w4 hown4 hgrow4 _
        have hb4 : Below wx.heap.size wx w4 := ((Below.refl _ wx).alloc (Nat.le_refl _) _).grown hgrow4 (by simp) (fun j hj => (World.ownsRow.lt OWN0.out j hj).1)
        have hb5 : Below w1.heap.size w1 w4 := hb.trans (hb4.mono hb.size)
        obtain ⟨g3, c3, rfl⟩ : ∃ g3 c3, v' = .slice (some ⟨g3, 0, none⟩) xs.length c3 := by
          rcases hown4.2 with ⟨_, h'⟩ | ⟨g, cap, cur, rfl, _⟩
          · omega
          · exact ⟨g, cap, rfl⟩
        have hg3 := (hown4.lt g3 rfl).1
        have HO4 : Hid (w4.ownsRow wx.heap.size 3 1 (.slice (some ⟨g3, 0, none⟩) xs.length c3) xs.length (M4.iv fs)) := hown4
        clear hown4 hgrow4 OWN0 HRN hb4
        go_wp2
        go_loopw [18] (fun nv wr => ∃ (n : Nat) (l2 : List FL.Stp) (o : List Int), nv = .int .i64 n ∧ n < 8 ∧ Hid (S.by_.getD n 0 ≠ -1) ∧ Hid (S.L tn = S.L n ++ l2) ∧ Hid (FL.putR N fs l2 = o) ∧ wr.ownsRow wx.heap.size 3 1 (.slice (some ⟨g3, 0, none⟩) xs.length c3) xs.length (M4.iv o) ∧ Below w1.heap.size w1 wr) (fun nv _ => FL.ml S nv)
        case atStart => exact ⟨tn, [], fs, rfl, htn, HZ, show Hid _ from (List.append_nil _).symm, rfl, HO4.out, hb5⟩
        case round =>
          clear HO4 hb5
          obtain ⟨n, l2, o, rfl, hn8, hB, hL2, hPO, hown, hbo⟩ := hrel
          have nn0 : (0 : Int) ≤ (n : Int) := by omega
          have nn8 : (n : Int) < 8 := by omega
          by_cases hnf : (n : Int) = (fn : Int)
          · have hnil : S.L n = [] := by have := TR.out.nil; rw [Int.toNat_natCast] at this; rw [show n = fn from by omega]; exact this
            have hE : Hid (o = LL) := by
              show o = LL
              rw [← hPO.out, ← AU.out.l, hL2.out, hnil, List.nil_append]
            have hLen : Hid (LL.length = xs.length) := by rw [← HL.out]; exact AU.out.len
            have HOW2 : Hid (wr.ownsRow wx.heap.size 3 1 (.slice (some ⟨g3, 0, none⟩) xs.length c3) xs.length (M4.iv o)) := hown
            have hbw2 : Below w.heap.size w wr := hb1.trans (hbo.mono hb1.size)
            have hbase : w.heap.size ≤ wx.heap.size := hbw.size
            clear hnil hL2 hB hPO hown hbo
            obtain rfl : fn = n := by omega
            clear hnf
            go_wp2
            go_ret2
            have R := HOW2.out
            rw [hE.out] at R
            exact ⟨some ⟨g3, 0, none⟩, c3, by rw [hLen.out]; rfl, by rw [hLen.out]; exact FL.own_base R hbase, hbw2⟩
          · obtain ⟨k, p, BK⟩ := TR.out.back HA.out.ok hn8 hB.out hnf
            have c0 := CL.out wr n hbo hn8
            rw [BK.by_] at c0
            have hbw2 : Below w.heap.size w wr := hb1.trans (hbo.mono hb1.size)
            obtain ⟨b4, off4, hab, hlt4, e0, e1, e2⟩ := (HI.out.below hbw2).at BK.hk
            have F := HF.out k BK.hk
            have G := GC.out k BK.hk
            have hy1 : fs.getD k 0 ≤ 100 := by have := G.c1; omega
            have hy0 := F.1
            have HL4 : Hid (S.L tn = S.L p ++ (FL.stp xs fs (p : Int) k :: l2)) := by show _ = _; rw [hL2.out, BK.L, List.append_assoc]; rfl
            have HOY : Hid (o.getD k 0 = fs.getD k 0) := by
              show _ = _
              rw [← hPO.out]; exact FL.putR_at (x := FL.stp xs fs (p : Int) k) AU.out.k AU.out.one HL4.out
            have HLT : Hid ((S.L p).length < (S.L n).length) := BK.lt
            have hp8 := BK.hp
            have hkx : k < xs.length := BK.hk
            have HPB : Hid (S.by_.getD p 0 ≠ -1) := BK.is
            have hpn : (p : Int) ≠ (n : Int) := by have := BK.ne; omega
            have way := BK.way
            have kk0 : (0 : Int) ≤ (k : Int) := by omega
            have kkx : (k : Int) < (xs.length : Int) := by omega
            have l1' : g1 < wr.heap.size := Nat.lt_of_lt_of_le l1.2 hbo.size
            have l3' : g3 < wr.heap.size := (hown.lt g3 rfl).2
            have co : wr.cell? ⟨g3, k, none⟩ = some (.int .i64 (fs.getD k 0)) := by
              have hol : o.length = xs.length := by have := hown.1; simpa [M4.iv] using this
              rw [hown.cellAt k (by omega), ← HOY.out]; exact M4.iv_get _ _ _ (FL.get_of _ (by omega))
            have h13 : g1 ≠ g3 := by have := l1.2; have := hb.size; omega
            clear BK G F hL2 hB hbw2
            obtain ⟨x, hx⟩ : ∃ x, MI3.at_ xs k = x := ⟨_, rfl⟩
            have HXX : Hid (MI3.at_ xs k = x) := hx
            rw [hx] at e0 e1 e2 way
            clear hx
            obtain ⟨x0, x1, x2⟩ := x
            simp only at e0 e1 e2 way
            generalize hy : fs.getD k 0 = y at *
            clear hy
            subst hab
            rcases way with ⟨w0, w1', w2⟩ | ⟨w0, w1', w2⟩
            · subst w0 w1'
              have HPE : Hid (FL.putR N fs (FL.stp xs fs (p : Int) k :: l2) = o.set k (y + N)) := by
                show FL.put1 N (FL.putR N fs l2) (FL.stp xs fs (p : Int) k) = _
                rw [hPO.out]; unfold FL.put1
                rw [show (FL.stp xs fs (p : Int) k).k = k from rfl, HOY.out]
                have hd : FL.dl N (FL.stp xs fs (p : Int) k) = N := by unfold FL.dl; rw [show (FL.stp xs fs (p : Int) k).back = false from by show FL.bk (MI3.at_ xs k) (p : Int) = _; rw [HXX.out]; exact w2]; rfl
                rw [hd]
              have hst := hown.stored k (.int .i64 (y + N))
              rw [M4.iv_set] at hst
              have HST : Hid (((wr.setCell ⟨g3, k, none⟩ (.int .i64 (y + N))).alloc (.cells #[.int .i64 (p : Int), .int .i64 (n : Int), .int .i64 x2] 56)).ownsRow wx.heap.size 3 1 (.slice (some ⟨g3, 0, none⟩) xs.length c3) xs.length (M4.iv (o.set k (y + N)))) := World.ownsRow.alloc hst.1 _
              have hbs0 : Below w1.heap.size w1 (wr.setCell ⟨g3, k, none⟩ (.int .i64 (y + N))) := hbo.trans (((MC.Only.refl g3 _).setCell k _).below (by have := hb.size; omega) hbo.size)
              have hbs : Below w1.heap.size w1 ((wr.setCell ⟨g3, k, none⟩ (.int .i64 (y + N))).alloc (.cells #[.int .i64 (p : Int), .int .i64 (n : Int), .int .i64 x2] 56)) := hbs0.alloc hbs0.size _
              have HBS : Hid _ := hbs
              have q1 : (wr.alloc (.cells #[.int .i64 (p : Int), .int .i64 (n : Int), .int .i64 x2] 56)).cell? ⟨g1, n, none⟩ = some (.int .i64 (k : Int)) := by rw [World.cell?_alloc_lt _ _ _ l1']; exact c0
              have q3 : (wr.alloc (.cells #[.int .i64 (p : Int), .int .i64 (n : Int), .int .i64 x2] 56)).cell? ⟨g3, k, none⟩ = some (.int .i64 y) := by rw [World.cell?_alloc_lt _ _ _ l3']; exact co
              have q4 : (wr.alloc (.cells #[.int .i64 (p : Int), .int .i64 (n : Int), .int .i64 x2] 56)).frozen? ⟨g3, k, none⟩ = false := (hown.alloc _).frozenAt k
              have hne3 : g3 ≠ wr.heap.size := by omega
              clear hst hown hPO HOY HXX hbs hbs0 w2 hbo
              go_wp2
              go_roundw
              case rel => exact ⟨p, FL.stp xs fs (p : Int) k :: l2, _, rfl, hp8, HPB, HL4, HPE, HST.out, HBS.out⟩
              case measure => exact FL.ml_lt HLT.out
            · subst w0 w1'
              have HPE : Hid (FL.putR N fs (FL.stp xs fs (p : Int) k :: l2) = o.set k (y - N)) := by
                show FL.put1 N (FL.putR N fs l2) (FL.stp xs fs (p : Int) k) = _
                rw [hPO.out]; unfold FL.put1
                rw [show (FL.stp xs fs (p : Int) k).k = k from rfl, HOY.out]
                have hd : FL.dl N (FL.stp xs fs (p : Int) k) = -N := by unfold FL.dl; rw [show (FL.stp xs fs (p : Int) k).back = true from by show FL.bk (MI3.at_ xs k) (p : Int) = _; rw [HXX.out]; exact w2]; rfl
                rw [hd]; rfl
              have hst := hown.stored k (.int .i64 (y - N))
              rw [M4.iv_set] at hst
              have HST : Hid (((wr.setCell ⟨g3, k, none⟩ (.int .i64 (y - N))).alloc (.cells #[.int .i64 (n : Int), .int .i64 (p : Int), .int .i64 x2] 56)).ownsRow wx.heap.size 3 1 (.slice (some ⟨g3, 0, none⟩) xs.length c3) xs.length (M4.iv (o.set k (y - N)))) := World.ownsRow.alloc hst.1 _
              have hbs0 : Below w1.heap.size w1 (wr.setCell ⟨g3, k, none⟩ (.int .i64 (y - N))) := hbo.trans (((MC.Only.refl g3 _).setCell k _).below (by have := hb.size; omega) hbo.size)
              have hbs : Below w1.heap.size w1 ((wr.setCell ⟨g3, k, none⟩ (.int .i64 (y - N))).alloc (.cells #[.int .i64 (n : Int), .int .i64 (p : Int), .int .i64 x2] 56)) := hbs0.alloc hbs0.size _
              have HBS : Hid _ := hbs
              have q1 : (wr.alloc (.cells #[.int .i64 (n : Int), .int .i64 (p : Int), .int .i64 x2] 56)).cell? ⟨g1, n, none⟩ = some (.int .i64 (k : Int)) := by rw [World.cell?_alloc_lt _ _ _ l1']; exact c0
              have q3 : (wr.alloc (.cells #[.int .i64 (n : Int), .int .i64 (p : Int), .int .i64 x2] 56)).cell? ⟨g3, k, none⟩ = some (.int .i64 y) := by rw [World.cell?_alloc_lt _ _ _ l3']; exact co
              have q4 : (wr.alloc (.cells #[.int .i64 (n : Int), .int .i64 (p : Int), .int .i64 x2] 56)).frozen? ⟨g3, k, none⟩ = false := (hown.alloc _).frozenAt k
              have hne3 : g3 ≠ wr.heap.size := by omega
              clear hst hown hPO HOY HXX hbs hbs0 w2 hbo
              go_wp2
              go_roundw
              case rel => exact ⟨p, FL.stp xs fs (p : Int) k :: l2, _, rfl, hp8, HPB, HL4, HPE, HST.out, HBS.out⟩
              case measure => exact FL.ml_lt HLT.out
      · obtain ⟨k, p, BK⟩ := TR.out.back HA.out.ok hn8 hB.out hnf
        have c0 := CL.out wr n hb hn8
        rw [BK.by_] at c0
        obtain ⟨b4, off4, hab, hlt4, e0, e1, e2⟩ := (HI.out.below hbw).at BK.hk
        obtain ⟨b5, off5, hbb, hlt5, d0⟩ := M4.IntsAt.at (M4.IntsAt.below HO.out hbw) (k := k) (by rw [HL.out]; exact BK.hk)
        have G := GC.out k BK.hk
        have F := HF.out k BK.hk
        have RM : Hid (∀ W : World, Calls Try.prog 54 #[(MI3.at_ xs k).v, .int .i64 (fs.getD k 0), .int .i64 (p : Int)] W fun e w' => e = .returned (.tuple #[.int .i64 (FL.rm (MI3.at_ xs k) (fs.getD k 0) (p : Int)), .int .i64 (FL.nx (MI3.at_ xs k) (p : Int))]) ∧ Below W.heap.size W w') := fun W => l8Room_any _ _ _ W G F.1 (by have := G.c1; omega)
        have HL4 : Hid (S.L tn = S.L p ++ (FL.stp xs fs (p : Int) k :: l2)) := by show _ = _; rw [hL2.out, BK.L, List.append_assoc]; rfl
        have HLS : Hid (FL.lst (FL.stp xs fs (p : Int) k :: l2) = if FL.lst l2 = 0 ∨ FL.rm (MI3.at_ xs k) (fs.getD k 0) (p : Int) < FL.lst l2 then FL.rm (MI3.at_ xs k) (fs.getD k 0) (p : Int) else FL.lst l2) := rfl
        rw [hLM.out] at HLS
        clear hLM
        have HLT : Hid ((S.L p).length < (S.L n).length) := BK.lt
        have hp8 := BK.hp
        have hkx : k < xs.length := BK.hk
        have HPB : Hid (S.by_.getD p 0 ≠ -1) := BK.is
        have hpn : (p : Int) ≠ (n : Int) := by have := BK.ne; omega
        have way := BK.way
        have kk0 : (0 : Int) ≤ (k : Int) := by omega
        have kkx : (k : Int) < (xs.length : Int) := by omega
        have l1' : g1 < wr.heap.size := Nat.lt_of_lt_of_le l1.2 hb.size
        have hba : Below w1.heap.size w1 (wr.alloc (.cells #[.int .i64 (MI3.at_ xs k).a0, .int .i64 (MI3.at_ xs k).a1, .int .i64 (MI3.at_ xs k).a2] 56)) := hb.alloc hb.size _
        have HBA : Hid _ := hba
        clear BK G F hL2 hB hba
        generalize hx : MI3.at_ xs k = x at *
        generalize hy : fs.getD k 0 = y at *
        clear hx hy
        obtain ⟨x0, x1, x2⟩ := x
        simp only at e0 e1 e2 way HBA
        subst hab hbb
        generalize FL.rm ⟨x0, x1, x2⟩ y (p : Int) = r at *
        generalize FL.nx ⟨x0, x1, x2⟩ (p : Int) = r2 at *
        rcases way with ⟨w0, w1', -⟩ | ⟨w0, w1', -⟩
        · subst w0 w1'
          have f0 : (wr.alloc (.cells #[.int .i64 (p : Int), .int .i64 (n : Int), .int .i64 x2] 56)).cell? ⟨wr.heap.size, 0, none⟩ = some (.int .i64 (p : Int)) := by simp
          have f1 : (wr.alloc (.cells #[.int .i64 (p : Int), .int .i64 (n : Int), .int .i64 x2] 56)).cell? ⟨wr.heap.size, 1, none⟩ = some (.int .i64 (n : Int)) := by simp
          have f2 : (wr.alloc (.cells #[.int .i64 (p : Int), .int .i64 (n : Int), .int .i64 x2] 56)).cell? ⟨wr.heap.size, 2, none⟩ = some (.int .i64 x2) := by simp
          have q1 : (wr.alloc (.cells #[.int .i64 (p : Int), .int .i64 (n : Int), .int .i64 x2] 56)).cell? ⟨g1, n, none⟩ = some (.int .i64 (k : Int)) := by rw [World.cell?_alloc_lt _ _ _ l1']; exact c0
          have q2 : (wr.alloc (.cells #[.int .i64 (p : Int), .int .i64 (n : Int), .int .i64 x2] 56)).cell? ⟨b5, off5 + k, none⟩ = some (.int .i64 y) := by rw [World.cell?_alloc_lt _ _ _ hlt5]; exact d0
          have z0 : wr.heap.size < (wr.alloc (.cells #[.int .i64 (p : Int), .int .i64 (n : Int), .int .i64 x2] 56)).heap.size := by simp
          have z1 : g1 < (wr.alloc (.cells #[.int .i64 (p : Int), .int .i64 (n : Int), .int .i64 x2] 56)).heap.size := by simp; omega
          have z2 : b5 < (wr.alloc (.cells #[.int .i64 (p : Int), .int .i64 (n : Int), .int .i64 x2] 56)).heap.size := by simp; omega
          have Q1 : Hid _ := q1
          have Q2 : Hid _ := q2
          have F0 : Hid _ := f0
          have F1 : Hid _ := f1
          have F2 : Hid _ := f2
          have Z0 : Hid _ := z0
          have Z1 : Hid _ := z1
          have Z2 : Hid _ := z2
          clear q1 q2 f0 f1 f2 z0 z1 z2
          go_wp2_with fail
          clear e0 e1 e2 d0 c0 hlt4 hlt5 l1'
          generalize wr.alloc (.cells #[.int .i64 (p : Int), .int .i64 (n : Int), .int .i64 x2] 56) = W1 at *
          generalize wr.heap.size = q at *
          have q1 := Q1.out
          have q2 := Q2.out
          have f0 := F0.out
          have f1 := F1.out
          have f2 := F2.out
          have z0 := Z0.out
          have z1 := Z1.out
          have z2 := Z2.out
          clear Q1 Q2 F0 F1 F2 Z0 Z1 Z2
          go_region_held3 (fun w' => w'.cell? ⟨q, 0, none⟩ = some (.int .i64 (p : Int)) ∧ w'.cell? ⟨q, 1, none⟩ = some (.int .i64 (n : Int)) ∧ w'.cell? ⟨q, 2, none⟩ = some (.int .i64 x2) ∧ w'.cell? ⟨g1, n, none⟩ = some (.int .i64 (k : Int)) ∧ w'.cell? ⟨b5, off5 + k, none⟩ = some (.int .i64 y)) (first | assumption | go_keep) (first | (go_at_call 54; refine Calls.mono (RM.out _) ?_; rintro e w3 ⟨rfl, hb3⟩; have k0 : w3.cell? ⟨q, 0, none⟩ = some (.int .i64 (p : Int)) := (hb3.cell (p := ⟨q, 0, none⟩) (by simpa using z0)).trans (by simpa using f0); have k1 : w3.cell? ⟨q, 1, none⟩ = some (.int .i64 (n : Int)) := (hb3.cell (p := ⟨q, 1, none⟩) (by simpa using z0)).trans (by simpa using f1); have k2 : w3.cell? ⟨q, 2, none⟩ = some (.int .i64 x2) := (hb3.cell (p := ⟨q, 2, none⟩) (by simpa using z0)).trans (by simpa using f2); have k3 : w3.cell? ⟨g1, n, none⟩ = some (.int .i64 (k : Int)) := (hb3.cell (p := ⟨g1, n, none⟩) (by simpa using z1)).trans (by simpa using q1); have k4 : w3.cell? ⟨b5, off5 + k, none⟩ = some (.int .i64 y) := (hb3.cell (p := ⟨b5, off5 + k, none⟩) (by simpa using z2)).trans (by simpa using q2)))
          have hB3 : Below w1.heap.size w1 w3 := HBA.out.trans ((((Below.refl _ W1).drew).trans hb3).mono HBA.out.size)
          have HB3 : Hid _ := hB3
          clear q1 q2 f0 f1 f2 z0 z1 z2 k0 k1 k2 k3 k4 hb3 HBA RM hB3
          by_cases h0 : m = 0
          · have HE : Hid (r = FL.lst (FL.stp xs fs (p : Int) k :: l2)) := by show _ = _; rw [HLS.out, if_pos (.inl h0)]
            subst h0
            clear HLS
            go_wp2
            go_roundw
            case rel => exact ⟨p, FL.stp xs fs (p : Int) k :: l2, _, rfl, hp8, rfl, show Hid _ from HE.out.symm, HPB, HL4, HB3.out⟩
            case measure => exact FL.ml_lt HLT.out
          · by_cases h1 : r < m
            · have HE : Hid (r = FL.lst (FL.stp xs fs (p : Int) k :: l2)) := by show _ = _; rw [HLS.out, if_pos (.inr h1)]
              clear HLS
              go_wp2
              go_roundw
              case rel => exact ⟨p, FL.stp xs fs (p : Int) k :: l2, _, rfl, hp8, rfl, show Hid _ from HE.out.symm, HPB, HL4, HB3.out⟩
              case measure => exact FL.ml_lt HLT.out
            · have HE : Hid (m = FL.lst (FL.stp xs fs (p : Int) k :: l2)) := by show _ = _; rw [HLS.out, if_neg (by omega)]
              clear HLS
              go_wp2
              go_roundw
              case rel => exact ⟨p, FL.stp xs fs (p : Int) k :: l2, _, rfl, hp8, rfl, show Hid _ from HE.out.symm, HPB, HL4, HB3.out⟩
              case measure => exact FL.ml_lt HLT.out
        · subst w0 w1'
          have f0 : (wr.alloc (.cells #[.int .i64 (n : Int), .int .i64 (p : Int), .int .i64 x2] 56)).cell? ⟨wr.heap.size, 0, none⟩ = some (.int .i64 (n : Int)) := by simp
          have f1 : (wr.alloc (.cells #[.int .i64 (n : Int), .int .i64 (p : Int), .int .i64 x2] 56)).cell? ⟨wr.heap.size, 1, none⟩ = some (.int .i64 (p : Int)) := by simp
          have f2 : (wr.alloc (.cells #[.int .i64 (n : Int), .int .i64 (p : Int), .int .i64 x2] 56)).cell? ⟨wr.heap.size, 2, none⟩ = some (.int .i64 x2) := by simp
          have q1 : (wr.alloc (.cells #[.int .i64 (n : Int), .int .i64 (p : Int), .int .i64 x2] 56)).cell? ⟨g1, n, none⟩ = some (.int .i64 (k : Int)) := by rw [World.cell?_alloc_lt _ _ _ l1']; exact c0
          have q2 : (wr.alloc (.cells #[.int .i64 (n : Int), .int .i64 (p : Int), .int .i64 x2] 56)).cell? ⟨b5, off5 + k, none⟩ = some (.int .i64 y) := by rw [World.cell?_alloc_lt _ _ _ hlt5]; exact d0
          have z0 : wr.heap.size < (wr.alloc (.cells #[.int .i64 (n : Int), .int .i64 (p : Int), .int .i64 x2] 56)).heap.size := by simp
          have z1 : g1 < (wr.alloc (.cells #[.int .i64 (n : Int), .int .i64 (p : Int), .int .i64 x2] 56)).heap.size := by simp; omega
          have z2 : b5 < (wr.alloc (.cells #[.int .i64 (n : Int), .int .i64 (p : Int), .int .i64 x2] 56)).heap.size := by simp; omega
          have Q1 : Hid _ := q1
          have Q2 : Hid _ := q2
          have F0 : Hid _ := f0
          have F1 : Hid _ := f1
          have F2 : Hid _ := f2
          have Z0 : Hid _ := z0
          have Z1 : Hid _ := z1
          have Z2 : Hid _ := z2
          clear q1 q2 f0 f1 f2 z0 z1 z2
          go_wp2_with fail
          clear e0 e1 e2 d0 c0 hlt4 hlt5 l1'
          generalize wr.alloc (.cells #[.int .i64 (n : Int), .int .i64 (p : Int), .int .i64 x2] 56) = W1 at *
          generalize wr.heap.size = q at *
          have q1 := Q1.out
          have q2 := Q2.out
          have f0 := F0.out
          have f1 := F1.out
          have f2 := F2.out
          have z0 := Z0.out
          have z1 := Z1.out
          have z2 := Z2.out
          clear Q1 Q2 F0 F1 F2 Z0 Z1 Z2
          go_region_held3 (fun w' => w'.cell? ⟨q, 0, none⟩ = some (.int .i64 (n : Int)) ∧ w'.cell? ⟨q, 1, none⟩ = some (.int .i64 (p : Int)) ∧ w'.cell? ⟨q, 2, none⟩ = some (.int .i64 x2) ∧ w'.cell? ⟨g1, n, none⟩ = some (.int .i64 (k : Int)) ∧ w'.cell? ⟨b5, off5 + k, none⟩ = some (.int .i64 y)) (first | assumption | go_keep) (first | (go_at_call 54; refine Calls.mono (RM.out _) ?_; rintro e w3 ⟨rfl, hb3⟩; have k0 : w3.cell? ⟨q, 0, none⟩ = some (.int .i64 (n : Int)) := (hb3.cell (p := ⟨q, 0, none⟩) (by simpa using z0)).trans (by simpa using f0); have k1 : w3.cell? ⟨q, 1, none⟩ = some (.int .i64 (p : Int)) := (hb3.cell (p := ⟨q, 1, none⟩) (by simpa using z0)).trans (by simpa using f1); have k2 : w3.cell? ⟨q, 2, none⟩ = some (.int .i64 x2) := (hb3.cell (p := ⟨q, 2, none⟩) (by simpa using z0)).trans (by simpa using f2); have k3 : w3.cell? ⟨g1, n, none⟩ = some (.int .i64 (k : Int)) := (hb3.cell (p := ⟨g1, n, none⟩) (by simpa using z1)).trans (by simpa using q1); have k4 : w3.cell? ⟨b5, off5 + k, none⟩ = some (.int .i64 y) := (hb3.cell (p := ⟨b5, off5 + k, none⟩) (by simpa using z2)).trans (by simpa using q2)))
          have hB3 : Below w1.heap.size w1 w3 := HBA.out.trans ((((Below.refl _ W1).drew).trans hb3).mono HBA.out.size)
          have HB3 : Hid _ := hB3
          clear q1 q2 f0 f1 f2 z0 z1 z2 k0 k1 k2 k3 k4 hb3 HBA RM hB3
          by_cases h0 : m = 0
          · have HE : Hid (r = FL.lst (FL.stp xs fs (p : Int) k :: l2)) := by show _ = _; rw [HLS.out, if_pos (.inl h0)]
            subst h0
            clear HLS
            go_wp2
            go_roundw
            case rel => exact ⟨p, FL.stp xs fs (p : Int) k :: l2, _, rfl, hp8, rfl, show Hid _ from HE.out.symm, HPB, HL4, HB3.out⟩
            case measure => exact FL.ml_lt HLT.out
          · by_cases h1 : r < m
            · have HE : Hid (r = FL.lst (FL.stp xs fs (p : Int) k :: l2)) := by show _ = _; rw [HLS.out, if_pos (.inr h1)]
              clear HLS
              go_wp2
              go_roundw
              case rel => exact ⟨p, FL.stp xs fs (p : Int) k :: l2, _, rfl, hp8, rfl, show Hid _ from HE.out.symm, HPB, HL4, HB3.out⟩
              case measure => exact FL.ml_lt HLT.out
            · have HE : Hid (m = FL.lst (FL.stp xs fs (p : Int) k :: l2)) := by show _ = _; rw [HLS.out, if_neg (by omega)]
              clear HLS
              go_wp2
              go_roundw
              case rel => exact ⟨p, FL.stp xs fs (p : Int) k :: l2, _, rfl, hp8, rfl, show Hid _ from HE.out.symm, HPB, HL4, HB3.out⟩
              case measure => exact FL.ml_lt HLT.out
end Go.Proofs.Ytndaapidfiocoaa
