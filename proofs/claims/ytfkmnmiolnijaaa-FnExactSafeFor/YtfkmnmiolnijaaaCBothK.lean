/- What a node and its child must be to each other: checkBoth. -/
import Derived.Test.YtfkmnmiolnijaaaRows
import Derived.Test.YtfkmnmiolnijaaaMCg
import Derived.Test.YtfkmnmiolnijaaaCFault
import Derived.Test.YtfkmnmiolnijaaaCToCu
import Derived.Test.YtfkmnmiolnijaaaCHsI
import Derived.Test.YtfkmnmiolnijaaaMDie
import Derived.Test.YtfkmnmiolnijaaaMBxN
import Derived.Deep.RegionHeld3
import Derived.WalkKit
import Derived.WalkSmall
import Derived.WalkSpells
import Derived.WalkLawsBesides
import Derived.Outline
namespace Go.Proofs.Ytfkmnmiolnijaaa
open Go.RowKit
namespace CG
theorem allI_yes {l : List Int} {f : Int → Bool} (h : ∀ j, j < l.length → f (l.getD j 0) = true) : l.all f = true := by
  rw [List.all_eq_true]
  intro x hx
  obtain ⟨j, hj, rfl⟩ := mem_getD hx
  exact h j hj
theorem allI_no {l : List Int} {f : Int → Bool} {k : Nat} (hk : k < l.length) (h : f (l.getD k 0) = false) : l.all f = false := by
  rw [Bool.eq_false_iff]; intro e; rw [List.all_eq_true.1 e _ (getD_mem hk)] at h; cases h
theorem allI_succ {l : List Int} {f : Int → Bool} {k : Nat} (h : ∀ j, j < k → f (l.getD j 0) = true) (h1 : f (l.getD k 0) = true) : ∀ j, j < k + 1 → f (l.getD j 0) = true := fun j hj => by
  by_cases c : j = k
  · subst c; exact h1
  · exact h j (by omega)
end CG
set_option linter.unusedSimpArgs false in
set_option maxHeartbeats 3200000 in
set_option maxRecDepth 100000 in
theorem checkBoth_any (c : Cu) (node child : Nat) (w : World) (hc : CuAt w c) (lc : CuLen c) (hn : node < c.ks.length) (hm : child < c.ks.length) :
    Calls Try.prog 46 #[c.v, .int .i64 (node : Int), .int .i64 (child : Int)] w fun e w' => e = Try.out (CG.bothI c.said node child) ∧ Below w.heap.size w w' := by
  obtain ⟨us, ks, ls, ns, ua, ka, la, na, uc, kc, lcc, nc⟩ := c
  obtain ⟨hu, hk, -, -⟩ := hc
  obtain ⟨l1, l2, -, -, l5⟩ := lc
  simp only at hu hk l1 l2 l5 hn hm
  obtain ⟨B, hB⟩ : ∃ B, CG.bothI (Cu.said ⟨us, ks, ls, ns, ua, ka, la, na, uc, kc, lcc, nc⟩) node child = B := ⟨_, rfl⟩
  rw [hB]
  have hB' : (((KP.sd (ks.map Kp.said) child).1.all fun id => EG.hasB (KP.sd (ks.map Kp.said) node).1 id) && ((KP.sd (ks.map Kp.said) node).1.all fun id => EG.hasB (KP.sd (ks.map Kp.said) child).1 id || CG.hasH (KP.sd (ks.map Kp.said) node).2.1 ⟨id, (child : Int)⟩)) = B := hB
  clear hB
  rw [KP.sd_at hn, KP.sd_at hm] at hB'
  have hB0 : Below w.heap.size w (w.alloc (.cells #[.slice ua us.length uc, .slice ka ks.length kc, .slice la ls.length lcc, .slice na ns.length nc] 32)) := (Below.refl _ w).alloc (Nat.le_refl _) _
  have x0 : BxN (w.alloc (.cells #[.slice ua us.length uc, .slice ka ks.length kc, .slice la ls.length lcc, .slice na ns.length nc] 32)) w.heap.size [.slice ua us.length uc, .slice ka ks.length kc, .slice la ls.length lcc, .slice na ns.length nc] 32 := BxN.new w _ _ rfl
  obtain ⟨b1, off1, rfl, hlt1, c0, c1, c2, hin⟩ := (hk.below hB0).at hn
  obtain ⟨b1', off1', he, -, d0, d1, d2, hin'⟩ := (hk.below hB0).at hm
  simp only [Option.some.injEq, Addr.mk.injEq] at he
  obtain ⟨rfl, rfl, -⟩ := he
  have lk := l5 node hn
  have lk' := l5 child hm
  have HS1 : Hid (∀ (W : World) (id : Int), Below w.heap.size w W → Calls Try.prog 32 #[(KP.at_ ks node).v, .int .i64 id] W fun e w' => e = .returned (.bool (EG.hasB (KP.at_ ks node).ss id)) ∧ Below W.heap.size W w') := fun W id hW => hasSeen_any (KP.at_ ks node) id W ((hk.row node hn).below hW) lk.1
  have HS2 : Hid (∀ (W : World) (id : Int), Below w.heap.size w W → Calls Try.prog 32 #[(KP.at_ ks child).v, .int .i64 id] W fun e w' => e = .returned (.bool (EG.hasB (KP.at_ ks child).ss id)) ∧ Below W.heap.size W w') := fun W id hW => hasSeen_any (KP.at_ ks child) id W ((hk.row child hm).below hW) lk'.1
  have HH : Hid (∀ (W : World) (id : Int), Below w.heap.size w W → Calls Try.prog 52 #[(KP.at_ ks node).v, .int .i64 id, .int .i64 (child : Int)] W fun e w' => e = .returned (.bool (CG.hasH (KP.at_ ks node).hs ⟨id, (child : Int)⟩)) ∧ Below W.heap.size W w') := fun W id hW => holds_any (KP.at_ ks node) id child W ((hk.row node hn).below hW) lk.2.1
  have HIn : Hid (∀ W : World, Below w.heap.size w W → M4.IntsAt W (KP.at_ ks node).sa (KP.at_ ks node).ss ∧ M4.IntsAt W (KP.at_ ks child).sa (KP.at_ ks child).ss) := fun W hW => ⟨M4.IntsAt.below (hk.row node hn).s.at_ hW, M4.IntsAt.below (hk.row child hm).s.at_ hW⟩
  have HLk : Hid ((KP.at_ ks node).ss.length ≤ 1048576 ∧ (KP.at_ ks child).ss.length ≤ 1048576) := ⟨lk.1, lk'.1⟩
  have HB : Hid _ := hB'
  clear hB' hin hin' lk lk' hk l5 hu
  generalize KP.at_ ks node = p at *
  generalize KP.at_ ks child = p' at *
  obtain ⟨ss, hs, ts, sa, ha, ta, sc, hc, tc⟩ := p
  obtain ⟨ss', hs', ts', sa', ha', ta', sc', hc', tc'⟩ := p'
  simp only at c0 c1 c2 d0 d1 d2 HIn HLk
  have hls : ss.length ≤ 1048576 := HLk.out.1
  have hls' : ss'.length ≤ 1048576 := HLk.out.2
  have HB' : Hid (((ss'.all fun id => EG.hasB ss id) && (ss.all fun id => EG.hasB ss' id || CG.hasH hs ⟨id, (child : Int)⟩)) = B) := HB.out
  clear HB HLk
  have HB := HB'
  clear HB'
  have q0 : (0 : Int) ≤ (node : Int) := by omega
  have q1 : (node : Int) < (ks.length : Int) := by omega
  have q2 : (0 : Int) ≤ (child : Int) := by omega
  have q3 : (child : Int) < (ks.length : Int) := by omega
  have k1 := x0.cell 1 rfl
  go_enter Try.func46, Try.ntmps46
  go_wp2_with fail
  generalize (w.alloc (.cells #[.slice ua us.length uc, .slice (some ⟨b1, off1, none⟩) ks.length kc, .slice la ls.length lcc, .slice na ns.length nc] 32)) = W0 at *
  clear x0
  go_region_held3 (fun w' => w'.cell? ⟨w.heap.size, 1, none⟩ = some (.slice (some ⟨b1, off1, none⟩) ks.length kc) ∧ w'.cell? ⟨b1, off1 + node * 3, none⟩ = some (.slice sa ss.length sc) ∧ w'.cell? ⟨b1, off1 + node * 3 + 1, none⟩ = some (.slice ha hs.length hc) ∧ w'.cell? ⟨b1, off1 + node * 3 + 2, none⟩ = some (.slice ta ts.length tc) ∧ w'.cell? ⟨b1, off1 + child * 3, none⟩ = some (.slice sa' ss'.length sc') ∧ w'.cell? ⟨b1, off1 + child * 3 + 1, none⟩ = some (.slice ha' hs'.length hc') ∧ w'.cell? ⟨b1, off1 + child * 3 + 2, none⟩ = some (.slice ta' ts'.length tc')) (go_keep) (fail)
  · have hB1 : Below w.heap.size w ((W0.alloc (.cells #[.slice sa ss.length sc, .slice ha hs.length hc, .slice ta ts.length tc] 50)).alloc (.cells #[.slice sa' ss'.length sc', .slice ha' hs'.length hc', .slice ta' ts'.length tc'] 50)).drew := ((hB0.alloc hB0.size _).alloc (by have := hB0.size; simp; omega) _).drew
    have x0 : BxN ((W0.alloc (.cells #[.slice sa ss.length sc, .slice ha hs.length hc, .slice ta ts.length tc] 50)).alloc (.cells #[.slice sa' ss'.length sc', .slice ha' hs'.length hc', .slice ta' ts'.length tc'] 50)) (W0.heap.size) [.slice sa ss.length sc, .slice ha hs.length hc, .slice ta ts.length tc] 50 := ((BxN.new W0 _ _ rfl).alloc _)
    have y0 : BxN ((W0.alloc (.cells #[.slice sa ss.length sc, .slice ha hs.length hc, .slice ta ts.length tc] 50)).alloc (.cells #[.slice sa' ss'.length sc', .slice ha' hs'.length hc', .slice ta' ts'.length tc'] 50)) (W0.heap.size + 1) [.slice sa' ss'.length sc', .slice ha' hs'.length hc', .slice ta' ts'.length tc'] 50 := (BxN.new _ _ _ (by simp))
    replace x0 := x0.below (Below.drew (Below.refl _ _)) x0.lt
    replace y0 := y0.below (Below.drew (Below.refl _ _)) y0.lt
    generalize ((W0.alloc (.cells #[.slice sa ss.length sc, .slice ha hs.length hc, .slice ta ts.length tc] 50)).alloc (.cells #[.slice sa' ss'.length sc', .slice ha' hs'.length hc', .slice ta' ts'.length tc'] 50)).drew = W1 at *
    clear c0 c1 c2 d0 d1 d2 k1 hB0 hlt1 q0 q1 q2 q3
    generalize W0.heap.size = q at *
    have b1c := y0.cell 0 rfl
    have ly := y0.lt
    have lx := x0.lt
    go_wp2_with fail
    go_loopw [25] (fun iv wr => ∃ k : Nat, iv = .int .i64 k ∧ k ≤ ss'.length ∧ Hid (∀ j, j < k → EG.hasB ss (ss'.getD j 0) = true) ∧ Below W1.heap.size W1 wr) (fun iv _ => (ss'.length - intOf iv).toNat)
    case atStart => exact ⟨0, rfl, by omega, show Hid _ from fun j hj => by omega, Below.refl _ _⟩
    case round =>
      obtain ⟨k, rfl, hk, hT, hb⟩ := hrel
      have hB2 := hB1.trans (hb.mono hB1.size)
      have x1 := x0.below hb lx
      by_cases hlk : k < ss'.length
      · obtain ⟨b2, off2, rfl, hlt2, e0⟩ := M4.IntsAt.at (HIn.out wr hB2).2 hlk
        have HN : Hid (EG.hasB ss (ss'.getD k 0) = false → B = false) := fun e => by rw [← HB.out, CG.allI_no hlk (f := fun id => EG.hasB ss id) e]; rfl
        have HY : Hid (EG.hasB ss (ss'.getD k 0) = true → ∀ j, j < k + 1 → EG.hasB ss (ss'.getD j 0) = true) := fun e => CG.allI_succ (f := fun id => EG.hasB ss id) hT.out e
        have HC : Hid _ := fun W hW => HS1.out W (ss'.getD k 0) hW
        have a0 := x1.cell 0 rfl
        have a1 := x1.cell 1 rfl
        have a2 := x1.cell 2 rfl
        clear HS1 HS2 HH HIn HB hT x0 y0 x1 b1c
        generalize ss'.getD k 0 = id at *
        obtain ⟨b, hbb⟩ : ∃ b, EG.hasB ss id = b := ⟨_, rfl⟩
        rw [hbb] at HN HY HC
        clear hbb
        go_wp2_with fail
        refine (HC.out wr hB2).mono ?_
        rintro e w3 ⟨rfl, hb3⟩
        have hB3 := hB2.trans (hb3.mono hB2.size)
        have hb4 := hb.trans (hb3.mono hb.size)
        clear HC hb3 a0 a1 a2
        cases b
        · have hF : Hid _ := HN.out rfl
          clear HN HY
          go_wp2_with fail
          refine (need_no _).mono ?_
          rintro e w4 ⟨rfl, rfl⟩
          go_wp2
          exact ⟨rfl, by rw [hF.out]; rfl, hB3⟩
        · have hT : Hid _ := HY.out rfl
          clear HN HY
          go_wp2_with fail
          refine (need_yes _).mono ?_
          rintro e w4 ⟨rfl, rfl⟩
          go_wp2
          go_roundw
          case rel => exact ⟨k + 1, by go_num, by omega, hT, hb4⟩
          case measure => simp [intOf]; omega
      · obtain rfl : k = ss'.length := by omega
        have HB2 : Hid ((ss.all fun id => EG.hasB ss' id || CG.hasH hs ⟨id, (child : Int)⟩) = B) := by
          show _ = _
          rw [← HB.out, CG.allI_yes (f := fun id => EG.hasB ss id) hT.out]; rfl
        have y1 := y0.below hb ly
        have ly1 := y1.lt
        have lx1 := x1.lt
        have a0 := x1.cell 0 rfl
        clear HB hT HS1 x0 y0 b1c hb lx ly hB1
        go_wp2_with fail
        generalize hWr : wr = W2 at *
        clear hWr
        go_loopw [37] (fun iv wr => ∃ k : Nat, iv = .int .i64 k ∧ k ≤ ss.length ∧ Hid (∀ j, j < k → (EG.hasB ss' (ss.getD j 0) || CG.hasH hs ⟨ss.getD j 0, (child : Int)⟩) = true) ∧ Below W2.heap.size W2 wr) (fun iv _ => (ss.length - intOf iv).toNat)
        case atStart => exact ⟨0, rfl, by omega, show Hid _ from fun j hj => by omega, Below.refl _ _⟩
        case round =>
          obtain ⟨k, rfl, hk, hT, hb⟩ := hrel
          have hB3 := hB2.trans (hb.mono hB2.size)
          have x2 := x1.below hb lx1
          have y2 := y1.below hb ly1
          by_cases hlk : k < ss.length
          · obtain ⟨b2, off2, rfl, hlt2, e0⟩ := M4.IntsAt.at (HIn.out wr hB3).1 hlk
            have HN : Hid ((EG.hasB ss' (ss.getD k 0) || CG.hasH hs ⟨ss.getD k 0, (child : Int)⟩) = false → B = false) := fun e => by rw [← HB2.out, CG.allI_no hlk (f := fun id => EG.hasB ss' id || CG.hasH hs ⟨id, (child : Int)⟩) e]
            have HY : Hid ((EG.hasB ss' (ss.getD k 0) || CG.hasH hs ⟨ss.getD k 0, (child : Int)⟩) = true → ∀ j, j < k + 1 → (EG.hasB ss' (ss.getD j 0) || CG.hasH hs ⟨ss.getD j 0, (child : Int)⟩) = true) := fun e => CG.allI_succ (f := fun id => EG.hasB ss' id || CG.hasH hs ⟨id, (child : Int)⟩) hT.out e
            have HC : Hid _ := fun W hW => HS2.out W (ss.getD k 0) hW
            have HD : Hid _ := fun W hW => HH.out W (ss.getD k 0) hW
            have a0' := y2.cell 0 rfl
            have a1' := y2.cell 1 rfl
            have a2' := y2.cell 2 rfl
            have lx2 := x2.lt
            clear HS2 HH HIn HB2 hT x1 y1 y2 a0
            generalize ss.getD k 0 = id at *
            obtain ⟨b, hbb⟩ : ∃ b, EG.hasB ss' id = b := ⟨_, rfl⟩
            obtain ⟨b', hbb'⟩ : ∃ b, CG.hasH hs ⟨id, (child : Int)⟩ = b := ⟨_, rfl⟩
            rw [hbb, hbb'] at HN HY
            rw [hbb] at HC
            simp only [hbb'] at HD
            clear hbb hbb'
            go_wp2_with fail
            refine (HC.out wr hB3).mono ?_
            rintro e w3 ⟨rfl, hb3⟩
            have hB4 := hB3.trans (hb3.mono hB3.size)
            have hb4 := hb.trans (hb3.mono hb.size)
            have x3 := x2.below hb3 lx2
            have a0 := x3.cell 0 rfl
            have a1 := x3.cell 1 rfl
            have a2 := x3.cell 2 rfl
            clear HC hb3 a0' a1' a2' x2 x3 hb hB3 lx2
            cases b
            · go_wp2_with fail
              refine (HD.out w3 hB4).mono ?_
              rintro e w4 ⟨rfl, hb5⟩
              have hB5 := hB4.trans (hb5.mono hB4.size)
              have hb6 := hb4.trans (hb5.mono hb4.size)
              clear HD hb5 a0 a1 a2 hb4 hB4
              cases b'
              · have hF : Hid _ := HN.out rfl
                clear HN HY
                go_wp2_with fail
                refine (need_no _).mono ?_
                rintro e w5 ⟨rfl, rfl⟩
                go_wp2
                exact ⟨rfl, by rw [hF.out]; rfl, hB5⟩
              · have hT : Hid _ := HY.out rfl
                clear HN HY
                go_wp2_with fail
                refine (need_yes _).mono ?_
                rintro e w5 ⟨rfl, rfl⟩
                go_wp2
                go_roundw
                case rel => exact ⟨k + 1, by go_num, by omega, hT, hb6⟩
                case measure => simp [intOf]; omega
            · have hT : Hid _ := HY.out rfl
              clear HN HY HD a0 a1 a2
              go_wp2_with fail
              refine (need_yes _).mono ?_
              rintro e w5 ⟨rfl, rfl⟩
              go_wp2
              go_roundw
              case rel => exact ⟨k + 1, by go_num, by omega, hT, hb4⟩
              case measure => simp [intOf]; omega
          · obtain rfl : k = ss.length := by omega
            have hF : Hid (B = true) := by
              show _ = _
              rw [← HB2.out, CG.allI_yes (f := fun id => EG.hasB ss' id || CG.hasH hs ⟨id, (child : Int)⟩) hT.out]
            clear HB2 hT HS2 HH HIn x1 y1 x2 y2 a0
            go_wp2
            first | go_end0 | refine bodyPost_ret (results_none rfl _ _ _) rfl ?_
            exact ⟨by rw [hF.out]; rfl, hB3⟩
  · have hB1 : Below w.heap.size w ((W0.alloc (.cells #[.slice sa' ss'.length sc', .slice ha' hs'.length hc', .slice ta' ts'.length tc'] 50)).alloc (.cells #[.slice sa ss.length sc, .slice ha hs.length hc, .slice ta ts.length tc] 50)).drew := ((hB0.alloc hB0.size _).alloc (by have := hB0.size; simp; omega) _).drew
    have x0 : BxN ((W0.alloc (.cells #[.slice sa' ss'.length sc', .slice ha' hs'.length hc', .slice ta' ts'.length tc'] 50)).alloc (.cells #[.slice sa ss.length sc, .slice ha hs.length hc, .slice ta ts.length tc] 50)) (W0.heap.size + 1) [.slice sa ss.length sc, .slice ha hs.length hc, .slice ta ts.length tc] 50 := (BxN.new _ _ _ (by simp))
    have y0 : BxN ((W0.alloc (.cells #[.slice sa' ss'.length sc', .slice ha' hs'.length hc', .slice ta' ts'.length tc'] 50)).alloc (.cells #[.slice sa ss.length sc, .slice ha hs.length hc, .slice ta ts.length tc] 50)) (W0.heap.size) [.slice sa' ss'.length sc', .slice ha' hs'.length hc', .slice ta' ts'.length tc'] 50 := ((BxN.new W0 _ _ rfl).alloc _)
    replace x0 := x0.below (Below.drew (Below.refl _ _)) x0.lt
    replace y0 := y0.below (Below.drew (Below.refl _ _)) y0.lt
    generalize ((W0.alloc (.cells #[.slice sa' ss'.length sc', .slice ha' hs'.length hc', .slice ta' ts'.length tc'] 50)).alloc (.cells #[.slice sa ss.length sc, .slice ha hs.length hc, .slice ta ts.length tc] 50)).drew = W1 at *
    clear c0 c1 c2 d0 d1 d2 k1 hB0 hlt1 q0 q1 q2 q3
    generalize W0.heap.size = q at *
    have b1c := y0.cell 0 rfl
    have ly := y0.lt
    have lx := x0.lt
    go_wp2_with fail
    go_loopw [25] (fun iv wr => ∃ k : Nat, iv = .int .i64 k ∧ k ≤ ss'.length ∧ Hid (∀ j, j < k → EG.hasB ss (ss'.getD j 0) = true) ∧ Below W1.heap.size W1 wr) (fun iv _ => (ss'.length - intOf iv).toNat)
    case atStart => exact ⟨0, rfl, by omega, show Hid _ from fun j hj => by omega, Below.refl _ _⟩
    case round =>
      obtain ⟨k, rfl, hk, hT, hb⟩ := hrel
      have hB2 := hB1.trans (hb.mono hB1.size)
      have x1 := x0.below hb lx
      by_cases hlk : k < ss'.length
      · obtain ⟨b2, off2, rfl, hlt2, e0⟩ := M4.IntsAt.at (HIn.out wr hB2).2 hlk
        have HN : Hid (EG.hasB ss (ss'.getD k 0) = false → B = false) := fun e => by rw [← HB.out, CG.allI_no hlk (f := fun id => EG.hasB ss id) e]; rfl
        have HY : Hid (EG.hasB ss (ss'.getD k 0) = true → ∀ j, j < k + 1 → EG.hasB ss (ss'.getD j 0) = true) := fun e => CG.allI_succ (f := fun id => EG.hasB ss id) hT.out e
        have HC : Hid _ := fun W hW => HS1.out W (ss'.getD k 0) hW
        have a0 := x1.cell 0 rfl
        have a1 := x1.cell 1 rfl
        have a2 := x1.cell 2 rfl
        clear HS1 HS2 HH HIn HB hT x0 y0 x1 b1c
        generalize ss'.getD k 0 = id at *
        obtain ⟨b, hbb⟩ : ∃ b, EG.hasB ss id = b := ⟨_, rfl⟩
        rw [hbb] at HN HY HC
        clear hbb
        go_wp2_with fail
        refine (HC.out wr hB2).mono ?_
        rintro e w3 ⟨rfl, hb3⟩
        have hB3 := hB2.trans (hb3.mono hB2.size)
        have hb4 := hb.trans (hb3.mono hb.size)
        clear HC hb3 a0 a1 a2
        cases b
        · have hF : Hid _ := HN.out rfl
          clear HN HY
          go_wp2_with fail
          refine (need_no _).mono ?_
          rintro e w4 ⟨rfl, rfl⟩
          go_wp2
          exact ⟨rfl, by rw [hF.out]; rfl, hB3⟩
        · have hT : Hid _ := HY.out rfl
          clear HN HY
          go_wp2_with fail
          refine (need_yes _).mono ?_
          rintro e w4 ⟨rfl, rfl⟩
          go_wp2
          go_roundw
          case rel => exact ⟨k + 1, by go_num, by omega, hT, hb4⟩
          case measure => simp [intOf]; omega
      · obtain rfl : k = ss'.length := by omega
        have HB2 : Hid ((ss.all fun id => EG.hasB ss' id || CG.hasH hs ⟨id, (child : Int)⟩) = B) := by
          show _ = _
          rw [← HB.out, CG.allI_yes (f := fun id => EG.hasB ss id) hT.out]; rfl
        have y1 := y0.below hb ly
        have ly1 := y1.lt
        have lx1 := x1.lt
        have a0 := x1.cell 0 rfl
        clear HB hT HS1 x0 y0 b1c hb lx ly hB1
        go_wp2_with fail
        generalize hWr : wr = W2 at *
        clear hWr
        go_loopw [37] (fun iv wr => ∃ k : Nat, iv = .int .i64 k ∧ k ≤ ss.length ∧ Hid (∀ j, j < k → (EG.hasB ss' (ss.getD j 0) || CG.hasH hs ⟨ss.getD j 0, (child : Int)⟩) = true) ∧ Below W2.heap.size W2 wr) (fun iv _ => (ss.length - intOf iv).toNat)
        case atStart => exact ⟨0, rfl, by omega, show Hid _ from fun j hj => by omega, Below.refl _ _⟩
        case round =>
          obtain ⟨k, rfl, hk, hT, hb⟩ := hrel
          have hB3 := hB2.trans (hb.mono hB2.size)
          have x2 := x1.below hb lx1
          have y2 := y1.below hb ly1
          by_cases hlk : k < ss.length
          · obtain ⟨b2, off2, rfl, hlt2, e0⟩ := M4.IntsAt.at (HIn.out wr hB3).1 hlk
            have HN : Hid ((EG.hasB ss' (ss.getD k 0) || CG.hasH hs ⟨ss.getD k 0, (child : Int)⟩) = false → B = false) := fun e => by rw [← HB2.out, CG.allI_no hlk (f := fun id => EG.hasB ss' id || CG.hasH hs ⟨id, (child : Int)⟩) e]
            have HY : Hid ((EG.hasB ss' (ss.getD k 0) || CG.hasH hs ⟨ss.getD k 0, (child : Int)⟩) = true → ∀ j, j < k + 1 → (EG.hasB ss' (ss.getD j 0) || CG.hasH hs ⟨ss.getD j 0, (child : Int)⟩) = true) := fun e => CG.allI_succ (f := fun id => EG.hasB ss' id || CG.hasH hs ⟨id, (child : Int)⟩) hT.out e
            have HC : Hid _ := fun W hW => HS2.out W (ss.getD k 0) hW
            have HD : Hid _ := fun W hW => HH.out W (ss.getD k 0) hW
            have a0' := y2.cell 0 rfl
            have a1' := y2.cell 1 rfl
            have a2' := y2.cell 2 rfl
            have lx2 := x2.lt
            clear HS2 HH HIn HB2 hT x1 y1 y2 a0
            generalize ss.getD k 0 = id at *
            obtain ⟨b, hbb⟩ : ∃ b, EG.hasB ss' id = b := ⟨_, rfl⟩
            obtain ⟨b', hbb'⟩ : ∃ b, CG.hasH hs ⟨id, (child : Int)⟩ = b := ⟨_, rfl⟩
            rw [hbb, hbb'] at HN HY
            rw [hbb] at HC
            simp only [hbb'] at HD
            clear hbb hbb'
            go_wp2_with fail
            refine (HC.out wr hB3).mono ?_
            rintro e w3 ⟨rfl, hb3⟩
            have hB4 := hB3.trans (hb3.mono hB3.size)
            have hb4 := hb.trans (hb3.mono hb.size)
            have x3 := x2.below hb3 lx2
            have a0 := x3.cell 0 rfl
            have a1 := x3.cell 1 rfl
            have a2 := x3.cell 2 rfl
            clear HC hb3 a0' a1' a2' x2 x3 hb hB3 lx2
            cases b
            · go_wp2_with fail
              refine (HD.out w3 hB4).mono ?_
              rintro e w4 ⟨rfl, hb5⟩
              have hB5 := hB4.trans (hb5.mono hB4.size)
              have hb6 := hb4.trans (hb5.mono hb4.size)
              clear HD hb5 a0 a1 a2 hb4 hB4
              cases b'
              · have hF : Hid _ := HN.out rfl
                clear HN HY
                go_wp2_with fail
                refine (need_no _).mono ?_
                rintro e w5 ⟨rfl, rfl⟩
                go_wp2
                exact ⟨rfl, by rw [hF.out]; rfl, hB5⟩
              · have hT : Hid _ := HY.out rfl
                clear HN HY
                go_wp2_with fail
                refine (need_yes _).mono ?_
                rintro e w5 ⟨rfl, rfl⟩
                go_wp2
                go_roundw
                case rel => exact ⟨k + 1, by go_num, by omega, hT, hb6⟩
                case measure => simp [intOf]; omega
            · have hT : Hid _ := HY.out rfl
              clear HN HY HD a0 a1 a2
              go_wp2_with fail
              refine (need_yes _).mono ?_
              rintro e w5 ⟨rfl, rfl⟩
              go_wp2
              go_roundw
              case rel => exact ⟨k + 1, by go_num, by omega, hT, hb4⟩
              case measure => simp [intOf]; omega
          · obtain rfl : k = ss.length := by omega
            have hF : Hid (B = true) := by
              show _ = _
              rw [← HB2.out, CG.allI_yes (f := fun id => EG.hasB ss' id || CG.hasH hs ⟨id, (child : Int)⟩) hT.out]
            clear HB2 hT HS2 HH HIn x1 y1 x2 y2 a0
            go_wp2
            first | go_end0 | refine bodyPost_ret (results_none rfl _ _ _) rfl ?_
            exact ⟨by rw [hF.out]; rfl, hB3⟩
end Go.Proofs.Ytfkmnmiolnijaaa
