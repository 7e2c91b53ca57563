/- Kruskal of the program. -/
import Derived.Test.YtdglialjcibbbaaRows
import Derived.Test.YtdglialjcibbbaaCCheap
import Derived.Test.YtdglialjcibbbaaCEdges
import Derived.Test.YtdglialjcibbbaaCApart
import Derived.Test.YtdglialjcibbbaaCLink
import Derived.Test.YtdglialjcibbbaaCSort
import Derived.Test.YtdglialjcibbbaaCCost
import Derived.WalkKit
import Derived.WalkSpells
import Derived.WalkLawsBesides
import Derived.Outline
namespace Go.Proofs.Ytdglialjcibbbaa
open Go.RowKit
theorem own_baseK {w : World} {base base' e sz n : Nat} {v : Value} {xs : List Value} (h : w.ownsRow base e sz v n xs) (hb : base' ≤ base) : w.ownsRow base' e sz v n xs := by
  refine ⟨h.1, ?_⟩
  rcases h.2 with h' | ⟨g, cap, cur, hv, hbg, rest⟩
  · exact .inl h'
  · exact .inr ⟨g, cap, cur, hv, by omega, rest⟩
namespace EG
/-- What lies in memory while the edges are gone through. -/
structure KI (B b g : Nat) (xs : List I3) (w : World) (v : Value) (T : List Nat) : Prop where
  pm : PMn w b 8 (pt (en xs) T)
  ow : w.ownsRow B 3 1 v (tks T).length (M4.iv (tks T))
  vs : ∃ gt ct, v = .slice (some ⟨gt, 0, none⟩) (tks T).length ct ∧ gt ≠ g
  od : M4.IntsAt w (some ⟨g, 0, none⟩) (tks (krO xs))
  bB : b < B
  gb : b ≠ g
theorem KI.same {B b g : Nat} {xs : List I3} {w w' : World} {v : Value} {T T' : List Nat} (h : KI B b g xs w v T) (hg : w.grownBy w' (some b)) (hp : PMn w' b 8 (pt (en xs) T')) (hT : T' = T) : KI B b g xs w' v T' := by
  subst hT
  refine ⟨hp, World.ownsRow.kept h.ow hg (.inr (fun e => by have := (h.ow.lt b e).1; have := h.bB; omega)), h.vs, ?_, h.bB, h.gb⟩
  rcases h.od with e | ⟨b1, off, e, hlt, hc⟩
  · exact .inl e
  · simp only [Option.some.injEq, Addr.mk.injEq, and_true] at e
    obtain ⟨rfl, rfl⟩ := e
    exact .inr ⟨g, 0, rfl, Nat.lt_of_lt_of_le hlt hg.size, fun j hj => (World.cell?_of_block (w := w) (hg.block g hlt (fun e => h.gb (by simpa using e.symm)))).trans (hc j hj)⟩
theorem KI.mid {B b g : Nat} {xs : List I3} {w w' : World} {v : Value} {T : List Nat} {f : Nat → Nat} (h : KI B b g xs w v T) (hg : w.grownBy w' (some b)) (hp : PMn w' b 8 f) : PMn w' b 8 f ∧ w'.ownsRow B 3 1 v (tks T).length (M4.iv (tks T)) ∧ M4.IntsAt w' (some ⟨g, 0, none⟩) (tks (krO xs)) := by
  refine ⟨hp, World.ownsRow.kept h.ow hg (.inr (fun e => by have := (h.ow.lt b e).1; have := h.bB; omega)), ?_⟩
  rcases h.od with e | ⟨b1, off, e, hlt, hc⟩
  · exact .inl e
  · simp only [Option.some.injEq, Addr.mk.injEq, and_true] at e
    obtain ⟨rfl, rfl⟩ := e
    exact .inr ⟨g, 0, rfl, Nat.lt_of_lt_of_le hlt hg.size, fun j hj => (World.cell?_of_block (w := w) (hg.block g hlt (fun e => h.gb (by simpa using e.symm)))).trans (hc j hj)⟩
/-- One more is laid at the end of what is taken. -/
theorem KI.put {B b g k : Nat} {xs : List I3} {w0 w w' : World} {v v' : Value} {T : List Nat} {o : Obj} (h0 : KI B b g xs w0 v T) (hp : PMn w b 8 (pt (en xs) (T ++ [k]))) (ho : w.ownsRow B 3 1 v (tks T).length (M4.iv (tks T))) (hod : M4.IntsAt w (some ⟨g, 0, none⟩) (tks (krO xs))) (hgl : g < w.heap.size) (hn : w'.ownsRow B 3 1 v' ((tks T).length + 1) (M4.iv (tks T) ++ [.int .i64 (k : Int)])) (hg : (w.alloc o).grownBy w' v.ownBlock) (hl : ∀ gt ct, v' = .slice (some ⟨gt, 0, none⟩) ((tks T).length + 1) ct → some gt = v.ownBlock ∨ w.heap.size ≤ gt) : KI B b g xs w' v' (T ++ [k]) := by
  have ha : Below w.heap.size w (w.alloc o) := (Below.refl _ _).alloc (Nat.le_refl _) o
  have hlen : (tks (T ++ [k])).length = (tks T).length + 1 := by rw [tks_app]; simp
  have hne : ∀ q, v.ownBlock = some q → q ≠ g := fun q hq e => by
    obtain ⟨gt, ct, rfl, hv⟩ := h0.vs
    simp only [Value.ownBlock, Option.some.injEq] at hq
    exact hv (hq.trans e)
  refine ⟨?_, by rw [hlen, tks_app]; simpa [M4.iv] using hn, ?_, ?_, h0.bB, h0.gb⟩
  · refine (hp.below ha).keep (hg.block b (Nat.lt_of_lt_of_le hp.lt ha.size) (fun e => ?_))
    have := (ho.lt b e.symm).1; have := h0.bB; omega
  · rcases hn.2 with ⟨-, hz⟩ | ⟨gt, ct, cur, rfl, -⟩
    · omega
    · refine ⟨gt, ct, by rw [hlen], fun e => ?_⟩
      rcases hl gt ct rfl with h1 | h1
      · exact hne gt h1.symm e
      · omega
  · rcases hod with e | ⟨b1, off, e, hlt, hc⟩
    · exact .inl e
    · simp only [Option.some.injEq, Addr.mk.injEq, and_true] at e
      obtain ⟨rfl, rfl⟩ := e
      refine .inr ⟨g, 0, rfl, Nat.lt_of_lt_of_le (Nat.lt_of_lt_of_le hlt ha.size) hg.size, fun j hj => ?_⟩
      rw [World.cell?_of_block (w := w.alloc o) (hg.block g (Nat.lt_of_lt_of_le hlt ha.size) (fun e => hne g e.symm rfl)), ha.cell (p := ⟨g, _, none⟩) hlt]
      exact hc j hj
theorem krT_take {xs : List I3} {i : Nat} (h : i < (krO xs).length) : krT xs ((krO xs).take (i + 1)) = krS xs (krT xs ((krO xs).take i)) ((krO xs).getD i 0) := by
  have e : (krO xs).take (i + 1) = (krO xs).take i ++ [(krO xs).getD i 0] := by
    generalize krO xs = l at *
    rw [List.take_add_one, List.getElem?_eq_getElem h, List.getD_eq_getElem?_getD, List.getElem?_eq_getElem h]; rfl
  rw [e, kr_snoc]
theorem krO_at {xs : List I3} (hg : okP xs = true) {i : Nat} (h : i < xs.length) : (krO xs).getD i 0 < xs.length ∧ (tks (krO xs)).getD i 0 = ((krO xs).getD i 0 : Int) := by
  have hl := krO_len hg
  have hi : i < (krO xs).length := by omega
  have e1 : (krO xs).getD i 0 = (krO xs)[i] := by rw [List.getD_eq_getElem?_getD, List.getElem?_eq_getElem hi]; rfl
  refine ⟨?_, ?_⟩
  · rw [e1]; exact ((MSym.byCost_mem _ _ _ _).1 (List.getElem_mem hi)).1
  · simp [tks, List.getD_eq_getElem?_getD, List.getElem?_eq_getElem hi]
end EG
set_option linter.unusedSimpArgs false in
set_option maxHeartbeats 3200000 in
set_option maxRecDepth 100000 in
theorem implKruskal_any (a : Option Addr) (ca : Nat) (xs : List I3) (w : World) (hn0 : xs.length ≤ 1048576) (hin : MI3.RowAt w a xs) :
    Calls Try.prog 9 #[.slice a xs.length ca] w fun e w' => ∃ a1 c1, e = .returned (.tuple #[.slice a1 (EG.kruL xs).length c1, .int .i64 (EG.kruC xs), .bool (EG.okP xs)]) ∧ w'.ownsRow w.heap.size 3 1 (.slice a1 (EG.kruL xs).length c1) (EG.kruL xs).length (M4.iv (EG.kruL xs)) ∧ Below w.heap.size w w' := by
  obtain ⟨i0, hi, hz0, hz1, hz2⟩ := info_parts Try.info3
  have GP : Hid _ := implGoodEdges_any a ca xs w hn0 hin _ rfl
  have HI : Hid (MI3.RowAt w a xs) := hin
  clear hin
  go_enter Try.func9, Try.ntmps9
  go_wp2_with fail
  refine Calls.mono GP.out ?_
  rintro e w1 ⟨rfl, hb1⟩
  clear GP
  cases hg : EG.okP xs with
  | false =>
    have hC : Hid (EG.kruL xs = []) := by show _ = _; simp [EG.kruL, hg]
    have hD : Hid (EG.kruC xs = 0) := by show _ = _; simp [EG.kruC, hg]
    have HK : Hid _ := hg
    clear hg HI
    go_wp2
    go_ret3
    exact ⟨none, 0, by rw [hC.out, hD.out, HK.out]; rfl, by rw [hC.out]; exact World.ownsRow_nil _ _ _ _, hb1⟩
  | true =>
    have HG : Hid _ := hg
    have hlen := ((EG.okP_iff xs).1 hg).1
    have hC : Hid (EG.kruL xs = (EG.tks (EG.krT xs (EG.krO xs))).mergeSort (fun x y => decide (x ≤ y))) := by show _ = _; simp [EG.kruL, hg]
    have hD : Hid (EG.kruC xs = EG.sumUp xs (EG.kruL xs) (EG.kruL xs).length) := by show _ = _; simp [EG.kruC, hg]
    have hol := EG.krO_len hg
    have HOL : Hid _ := hol
    clear hg hol
    go_wp2_with fail
    refine Calls.mono (eachApart_any w1) ?_
    rintro e w2 ⟨rfl, hP, hb2⟩
    have hB2 := hb1.trans (hb2.mono hb1.size)
    have hBa : Below w.heap.size w (w2.alloc (.cells #[] 3)) := hB2.alloc hB2.size _
    have CH : Hid _ := cheapest_any a ca xs (w2.alloc (.cells #[] 3)) HG.out (HI.out.below hBa)
    have hs1 := hb1.size
    have hs2 := hb2.size
    have hP2 := hP.lt
    have OW0 : World.ownsRow (w2.alloc (.cells #[] 3)) (w1.heap.size + 1) 3 1 (.slice (some ⟨w2.heap.size, 0, none⟩) 0 0) (EG.tks []).length (M4.iv (EG.tks [])) := by
      have := World.ownsRow_lit (base := w1.heap.size + 1) (e := 3) (size := 1) w2 #[] 0 hP2 (by unfold maxLen; omega) (by simp)
      simpa [M4.iv, EG.tks] using this
    have HP : Hid (PMn w2 w1.heap.size 8 (fun n => n)) := hP
    clear hP hb2 hB2
    go_wp2_with fail
    refine Calls.mono CH.out ?_
    rintro e w3 ⟨g, c3, rfl, ho3, hb3⟩
    have hgl := ho3.lt g rfl
    have hs3 := hb3.size
    simp only [World.size_alloc] at hgl hs3
    have HKI : Hid (EG.KI (w1.heap.size + 1) w1.heap.size g xs w3 (.slice (some ⟨w2.heap.size, 0, none⟩) 0 0) (EG.krT xs ((EG.krO xs).take 0))) := by
      refine ⟨?_, M5.own_below OW0 hb3, ⟨w2.heap.size, 0, rfl, by omega⟩, M5.own_ints (by rw [← HOL.out] at ho3; simpa [EG.tks] using ho3), by omega, by omega⟩
      exact (HP.out.below ((Below.refl _ w2).alloc (Nat.le_refl _) (.cells #[] 3))).below hb3
    have hB3 := hBa.trans (hb3.mono hBa.size)
    clear CH ho3 hb3 HP OW0 hBa
    go_wp2
    go_loopw [6, 8, 17] (fun tv _ iv wr => ∃ i : Nat, iv = .int .i64 i ∧ i ≤ xs.length ∧ Hid (EG.KI (w1.heap.size + 1) w1.heap.size g xs wr tv (EG.krT xs ((EG.krO xs).take i))) ∧ Below w.heap.size w wr) (fun _ _ iv _ => (xs.length - intOf iv).toNat)
    case atStart => exact ⟨0, rfl, by omega, HKI, hB3⟩
    case round =>
      clear HKI hB3
      obtain ⟨i, rfl, hil, hKI, hb⟩ := hrel
      have hbs := hb.size
      have hkt := EG.take_kt xs i
      have htl := hkt.len hlen
      by_cases hlk : i < xs.length
      · have iz : (i : Int) < (xs.length : Int) := by omega
        have hTS := EG.krT_take (xs := xs) (i := i) (by rw [HOL.out]; exact hlk)
        obtain ⟨hkn, hke⟩ := EG.krO_at HG.out hlk
        obtain ⟨gt, ct, rfl, hvg⟩ := hKI.out.vs
        have od := hKI.out.od
        obtain ⟨b0, off0, e0, hlt0, co⟩ := od.at (k := i) (by simp [EG.tks]; rw [HOL.out]; exact hlk)
        rw [hke] at co
        simp only [Option.some.injEq, Addr.mk.injEq, and_true] at e0
        obtain ⟨rfl, rfl⟩ := e0
        rw [Nat.zero_add] at co
        generalize (EG.krO xs).getD i 0 = k at *
        generalize EG.krT xs ((EG.krO xs).take i) = T at *
        have kz : (k : Int) < (xs.length : Int) := by omega
        obtain ⟨b2, off2, hab, hlt2, c0, c1, c2⟩ := (HI.out.below hb).at hkn
        have G := EG.okP_good HG.out hkn
        obtain ⟨x, hx⟩ := Int.eq_ofNat_of_zero_le G.f0
        obtain ⟨y, hy⟩ := Int.eq_ofNat_of_zero_le G.t0
        have hx8 : x < 8 := by have := G.f1; omega
        have hy8 : y < 8 := by have := G.t1; omega
        have hen : EG.en xs k = (x, y) := by unfold EG.en; rw [hx, hy]; rfl
        have hKP := EG.kr_parts xs T k
        rw [hen] at hKP
        simp only at hKP
        have hKS : EG.krS xs T k = if EG.pt (EG.en xs) T x = EG.pt (EG.en xs) T y then T else T ++ [k] := by unfold EG.krS; rw [hen]
        rw [hx] at c0
        rw [hy] at c1
        have LK : Hid _ := link_any sortsI w1.heap.size (EG.pt (EG.en xs) T) x y (MI3.at_ xs k).a2 _ hKI.out.pm hx8 hy8 (fun i hi => EG.pt_lt hi)
        generalize (MI3.at_ xs k).a2 = zc at *
        subst hab
        have HTS : Hid _ := hTS
        have HKP : Hid _ := hKP
        have HKS : Hid _ := hKS
        have HVG : Hid _ := hvg
        have HT : Hid _ := htl
        generalize htn : (EG.tks T).length = tn at *
        have HTN : Hid _ := htn
        clear htn hvg
        clear od G hx hy hen hKP hKS hTS hke hkt
        go_wp2_with fail
        refine Calls.mono LK.out ?_
        rintro e w4 ⟨rfl, hp4, hg4⟩
        clear LK c0 c1 c2 co
        have hB4 : Below w.heap.size w w4 := hb.grown hg4 hbs (fun j hj => by cases hj; omega)
        have hs4 := hB4.size
        have hg4s := hg4.size
        rw [HKP.out] at hp4
        by_cases heq : EG.pt (EG.en xs) T x = EG.pt (EG.en xs) T y
        · have hf : (!(EG.pt (EG.en xs) T x == EG.pt (EG.en xs) T y)) = false := by simp [heq]
          rw [hf]
          have hE : EG.krS xs T k = T := by rw [HKS.out, if_pos heq]
          have HN : Hid (EG.KI (w1.heap.size + 1) w1.heap.size g xs w4 (.slice (some ⟨gt, 0, none⟩) tn ct) (EG.krT xs ((EG.krO xs).take (i + 1)))) := by
            rw [HTS.out]; exact hKI.out.same hg4 hp4 hE
          clear hp4 hg4 hKI HKS HKP HTS hE hf heq hb
          go_wp2
          go_roundw
          case rel => exact ⟨i + 1, by go_num, by omega, HN, hB4⟩
          case measure => simp [intOf]; omega
        · have hf : (!(EG.pt (EG.en xs) T x == EG.pt (EG.en xs) T y)) = true := by simp [heq]
          rw [hf]
          have hE : EG.krS xs T k = T ++ [k] := by rw [HKS.out, if_neg heq]
          rw [hE] at hp4
          obtain ⟨m1, m2, m3⟩ := hKI.out.mid hg4 hp4
          have M1 : Hid _ := m1
          have M2' : Hid (World.ownsRow w4 (w1.heap.size + 1) 3 1 (.slice (some ⟨gt, 0, none⟩) tn ct) tn (M4.iv (EG.tks T))) := by rw [HTN.out] at m2; exact m2
          have M3' : Hid _ := m3
          have hg0 : g < w4.heap.size := Nat.lt_of_lt_of_le hlt0 hg4s
          have HE : Hid _ := hE
          clear hp4 hg4 HKS HKP hE hf heq m1 m2 m3 hb
          go_wp2_with (at_builtin; go_loud (refine wpList_append_own_at _ rfl _ _ 24 rfl (w1.heap.size + 1) 3 i0 (.int .i64 0) 1 8 Try.underlying24 hi hz0 hz1 hz2 rfl (by decide) _ _ _ rfl (M2'.out.alloc _) ⟨w4.heap.size, 0, none⟩ 1 1 [.int .i64 (k : Int)] rfl rfl ?p1 ?p2 ?p3 ?p4 ?p5 ?_))
          all_goals try (first | rfl | omega | exact M2.new1 _ _ _ | exact M2.one1 _ _ | (unfold maxLen; omega) | (simp; omega))
          intro v' w5 hown1 hgrow _ hloc
          have HN : Hid (EG.KI (w1.heap.size + 1) w1.heap.size g xs w5 v' (EG.krT xs ((EG.krO xs).take (i + 1)))) := by
            rw [HTS.out, HE.out]
            refine hKI.out.put M1.out (by rw [HTN.out]; exact M2'.out) M3'.out hg0 (by rw [HTN.out]; exact hown1) hgrow (fun g5 c5 e => ?_)
            subst e
            rcases hloc with h | h
            · exact .inl h
            · refine .inr ?_
              simp only [Value.ownBlock, Option.some.injEq, World.size_alloc] at h
              omega
          have hB5 : Below w.heap.size w w5 := (hB4.alloc hs4 _).grown hgrow (by simp; omega) (fun j hj => by have := (M2'.out.lt j hj).1; omega)
          clear hown1 hgrow hloc M1 M2' M3' HE hKI HTS hB4
          go_wp2
          go_roundw
          case rel => exact ⟨i + 1, by go_num, by omega, HN, hB5⟩
          case measure => simp [intOf]; omega
      · obtain rfl : i = xs.length := by omega
        rw [← HOL.out, List.take_length] at hKI
        clear htl hlk hkt
        have htl := (EG.krO_kt xs).len hlen
        have HKT : Hid _ := EG.krO_kt xs
        obtain ⟨gt, ct, rfl, -⟩ := hKI.out.vs
        have SR : Hid _ := sortsI (w1.heap.size + 1) gt ct _ _ hKI.out.ow (by omega)
        have HIR : Hid _ := HKT.out.inR (List.mergeSort_perm (EG.tks (EG.krT xs (EG.krO xs))) fun x y => decide (x ≤ y))
        have hml : ((EG.tks (EG.krT xs (EG.krO xs))).mergeSort fun x y => decide (x ≤ y)).length = (EG.tks (EG.krT xs (EG.krO xs))).length := List.length_mergeSort _
        have HML : Hid _ := hml
        have hgb := (hKI.out.ow.lt gt rfl).1
        clear hml hKI HKT
        rw [← hC.out] at SR HIR HML
        generalize EG.tks (EG.krT xs (EG.krO xs)) = ts at *
        generalize hPL : EG.kruL xs = pl at *
        have HPL : Hid _ := hPL
        clear hPL hC
        go_wp2_with fail
        refine Calls.mono SR.out ?_
        rintro e w4 ⟨rfl, ho4, hg4⟩
        have B4 : Below w.heap.size w w4 := hb.grown hg4 hbs (fun j hj => by cases hj; omega)
        rw [← HML.out] at ho4
        have CC : Hid _ := costOf_any a (some ⟨gt, 0, none⟩) ca ct xs pl w4 HG.out (by rw [HML.out]; omega) HIR.out (HI.out.below B4) (M4.IntsAt.of_own ho4)
        have HO4 : Hid _ := ho4
        rw [HML.out] at CC
        clear SR ho4 hg4 HIR hb
        go_wp2_with fail
        refine Calls.mono CC.out ?_
        rintro e w5 ⟨rfl, hb5⟩
        have HO5 : Hid _ := M5.own_below HO4.out hb5
        have B5 := B4.trans (hb5.mono B4.size)
        clear CC HO4 hb5
        go_wp2
        go_ret3
        refine ⟨some ⟨gt, 0, none⟩, ct, ?_, by rw [HPL.out]; exact own_baseK HO5.out (by omega), B5⟩
        rw [HPL.out, hD.out, HG.out, HML.out]; rfl
end Go.Proofs.Ytdglialjcibbbaa
