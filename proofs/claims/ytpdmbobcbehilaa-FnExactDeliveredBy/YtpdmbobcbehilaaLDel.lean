import Derived.Test.YtpdmbobcbehilaaRows
import Derived.Test.YtpdmbobcbehilaaMRe
import Derived.WalkKit
import Derived.WalkSpells
import Derived.WalkLawsBesides
import Derived.Outline
import Derived.Test.YtpdmbobcbehilaaMB1
import Derived.Test.YtpdmbobcbehilaaMPN
import Derived.Test.YtpdmbobcbehilaaCSmall6
import Derived.Test.YtpdmbobcbehilaaCPlan
import Derived.Test.YtpdmbobcbehilaaCGoodBundle
import Derived.Test.YtpdmbobcbehilaaCImplGoodB
import Derived.Test.YtpdmbobcbehilaaM6R
import Derived.Test.YtpdmbobcbehilaaMSta
import Derived.Test.YtpdmbobcbehilaaM5
import Derived.Test.YtpdmbobcbehilaaMArr
import Derived.Deep.RegionHeld3
import Derived.Test.YtpdmbobcbehilaaM6W
import Derived.Test.YtpdmbobcbehilaaMInfo
import Derived.Deep.QuietTactic
import Derived.BigQuiet
import Derived.Laws.AppendOwnNone
import Derived.Test.YtpdmbobcbehilaaC6Next
import Derived.Test.YtpdmbobcbehilaaMGp
import Derived.Laws.AppendOwn
import Derived.Test.YtpdmbobcbehilaaCReverse
import Derived.Test.YtpdmbobcbehilaaCArrS
import Derived.Test.YtpdmbobcbehilaaCFloat
import Derived.Test.YtpdmbobcbehilaaCRise
import Derived.Test.YtpdmbobcbehilaaCInfoRc
import Derived.ArgAppend
import Derived.Lib.SliceRun
import Derived.Test.YtpdmbobcbehilaaCMemb
import Derived.Test.YtpdmbobcbehilaaCWith7
import Derived.Test.YtpdmbobcbehilaaLWDel
/- What is told of a reach: its member, its time, how many contacts. -/
namespace Go.Proofs.Ytpdmbobcbehilaa
open Go.RowKit
set_option maxHeartbeats 800000 in
set_option maxRecDepth 100000 in
theorem timeRe_any (p : Rq) (w : World) : Calls Try.prog 32 #[p.v] w fun e w' => e = .returned (.int .i64 p.t) ∧ Below w.heap.size w w' := by
  obtain ⟨m, t, os, a, c⟩ := p
  have hB : ∀ o, Below w.heap.size w (w.alloc o) := fun o => (Below.refl _ w).alloc (Nat.le_refl _) o
  go_enter Try.func32, Try.ntmps32
  go_wp2
  go_ret
  exact ⟨rfl, hB _⟩
set_option maxHeartbeats 800000 in
set_option maxRecDepth 100000 in
theorem hopsRe_any (p : Rq) (w : World) : Calls Try.prog 34 #[p.v] w fun e w' => e = .returned (.int .i64 (p.os.length : Int)) ∧ Below w.heap.size w w' := by
  obtain ⟨m, t, os, a, c⟩ := p
  have hB : ∀ o, Below w.heap.size w (w.alloc o) := fun o => (Below.refl _ w).alloc (Nat.le_refl _) o
  go_enter Try.func34, Try.ntmps34
  go_wp2
  go_ret
  exact ⟨rfl, hB _⟩
end Go.Proofs.Ytpdmbobcbehilaa

/- Bundles that fit a plan, plain facts. -/
namespace Go.Proofs.Ytpdmbobcbehilaa
open Go.RowKit
namespace GP
open PN
/-- Whether a bundle fits a plan. -/
def fitsB (xs : List I5) (b : Bd) : Bool := okP xs && B1.good b && decide (b.tl = 0) && nodeOk b.fr && whenOk b.md
theorem fits_is {xs : List I5} {b : Bd} (h : fitsB xs b = true) : okP xs = true ∧ B1.good b = true ∧ b.tl = 0 ∧ (0 ≤ b.fr ∧ b.fr ≤ 7) ∧ (0 ≤ b.md ∧ b.md ≤ 1000) ∧ (1 ≤ b.lf ∧ b.lf ≤ 1000000) ∧ (0 ≤ b.hp ∧ b.hp ≤ 30) := by
  simp only [fitsB, Bool.and_eq_true, decide_eq_true_eq] at h
  obtain ⟨⟨⟨⟨h1, h2⟩, h3⟩, h4⟩, h5⟩ := h
  have hg : B1.head b = true := by simp only [B1.good, Bool.and_eq_true] at h2; exact h2.1.1
  simp only [B1.head, Bool.and_eq_true] at hg
  exact ⟨h1, h2, h3, node_yes h4, when_yes h5, B1.inB_is hg.1.2, B1.inB_is hg.2⟩
end GP
end Go.Proofs.Ytpdmbobcbehilaa

/- Whether a bundle fits a plan: fits of the program, l17Fits of the specification; and until when it may be there. -/
namespace Go.Proofs.Ytpdmbobcbehilaa
open Go.RowKit
set_option linter.unusedSimpArgs false in
set_option maxHeartbeats 1600000 in
set_option maxRecDepth 100000 in
theorem fitsI_any (a : Option Addr) (cap : Nat) (xs : List I5) (b : Bd) (w : World) (hn : xs.length ≤ 1048576) (hs : b.py.size ≤ 1048576) (hin : MI5.RowAt w a xs) :
    Calls Try.prog 28 #[.slice a xs.length cap, b.v] w fun e w' => e = .returned (.bool (GP.fitsB xs b)) ∧ Below w.heap.size w w' := by
  have P1 : Hid (∀ W : World, Below w.heap.size w W → Calls Try.prog 50 #[.slice a xs.length cap] W fun e w' => e = .returned (.bool (PN.okP xs)) ∧ Below W.heap.size W w') := fun W h => implGoodPlan_any a cap xs W hn (hin.below h) _ rfl
  have P2 : Hid (∀ W : World, Calls Try.prog 51 #[b.v] W fun e w' => e = .returned (.bool (B1.good b)) ∧ Below W.heap.size W w') := fun W => implGoodBundle_any b W hs _ rfl
  have P4 : Hid (∀ W : World, Calls Try.prog 52 #[.int .i64 b.fr] W fun e w' => e = .returned (.bool (PN.nodeOk b.fr)) ∧ W = w') := fun W => nodeI_any b.fr W
  have P5 : Hid (∀ W : World, Calls Try.prog 53 #[.int .i64 b.md] W fun e w' => e = .returned (.bool (PN.whenOk b.md)) ∧ W = w') := fun W => whenI_any b.md W
  have HR : Hid (GP.fitsB xs b = (PN.okP xs && B1.good b && (b.tl == 0) && PN.nodeOk b.fr && PN.whenOk b.md)) := by show GP.fitsB xs b = _; unfold GP.fitsB; rw [show decide (b.tl = 0) = (b.tl == 0) by rw [Bool.eq_iff_iff]; simp]
  have hA := BdAt.box w b 33
  have hB := (Below.refl _ w).alloc (Nat.le_refl _) (.cells #[.int .i64 b.fr, .int .i64 b.to, .bool b.gr, .int .i64 b.md, .int .i64 b.no, .int .i64 b.lf, .int .i64 b.hp, .int .i64 b.of, .int .i64 b.tl, .string b.py] 33)
  clear hin
  generalize GP.fitsB xs b = R at *
  generalize PN.okP xs = q1 at *
  generalize B1.good b = q2 at *
  generalize hq3 : (b.tl == 0) = q3 at *
  generalize PN.nodeOk b.fr = q4 at *
  generalize PN.whenOk b.md = q5 at *
  obtain ⟨fr, to, gr, md, no, lf, hp, of, tl, py⟩ := b
  have HQ3 : Hid ((tl == 0) = q3) := hq3
  clear hq3
  go_enter Try.func28, Try.ntmps28
  go_wp2_with fail
  refine (P1.out _ hB).mono ?_
  rintro e w1 ⟨rfl, hb1⟩
  have hA1 := hA.below hb1 hA.1
  have hB1 := hB.trans (hb1.mono hB.size)
  clear P1 hb1 hA hB
  cases q1 with
  | false =>
    have hR : R = false := HR.out
    subst hR
    clear P2 P4 P5 HR HQ3 hA1
    go_wp2
    go_ret
    exact ⟨rfl, hB1⟩
  | true =>
    obtain ⟨hlt, c0, c1, c2, c3, c4, c5, c6, c7, c8, c9⟩ := id hA1
    go_wp2_with fail
    refine (P2.out _).mono ?_
    rintro e w2 ⟨rfl, hb2⟩
    clear c0 c1 c2 c3 c4 c5 c6 c7 c8 c9 hlt P2
    have hA2 := hA1.below hb2 hA1.1
    have hB2 := hB1.trans (hb2.mono hB1.size)
    clear hb2 hA1 hB1
    cases q2 with
    | false =>
      have hR : R = false := HR.out
      subst hR
      clear P4 P5 HR HQ3 hA2
      go_wp2
      go_ret
      exact ⟨rfl, hB2⟩
    | true =>
      obtain ⟨hlt, c0, c1, c2, c3, c4, c5, c6, c7, c8, c9⟩ := id hA2
      clear c1 c2 c4 c5 c6 c7 c9 hA2
      have hq3 := HQ3.out
      cases q3 with
      | false =>
        have hR : R = false := HR.out
        subst hR
        clear P4 P5 HR HQ3
        go_wp2
        go_ret
        exact ⟨rfl, hB2⟩
      | true =>
        clear HQ3
        go_wp2_with fail
        refine (P4.out _).mono ?_
        rintro e w' ⟨rfl, rfl⟩
        clear P4 c0 c8
        cases q4 with
        | false =>
          have hR : R = false := HR.out
          subst hR
          clear P5 HR c3
          go_wp2
          go_ret
          exact ⟨rfl, hB2⟩
        | true =>
          have hR : R = q5 := HR.out
          subst hR
          clear HR
          go_wp2_with fail
          refine (P5.out _).mono ?_
          rintro e w' ⟨rfl, rfl⟩
          clear P5 c3
          go_wp2
          go_ret
          exact ⟨rfl, hB2⟩
set_option linter.unusedSimpArgs false in
set_option maxHeartbeats 1600000 in
set_option maxRecDepth 100000 in
theorem fitsS_any (a : Option Addr) (cap : Nat) (xs : List I5) (b : Bd) (w : World) (hn : xs.length ≤ 1048576) (hs : b.py.size ≤ 1048576) (hin : MI5.RowAt w a xs) :
    Calls Try.prog 47 #[.slice a xs.length cap, b.v] w fun e w' => e = .returned (.bool (GP.fitsB xs b)) ∧ Below w.heap.size w w' := by
  have P1 : Hid (∀ W : World, Below w.heap.size w W → Calls Try.prog 58 #[.slice a xs.length cap] W fun e w' => e = .returned (.bool (PN.okP xs)) ∧ Below W.heap.size W w') := fun W h => specGoodPlan_any a cap xs W hn (hin.below h) _ rfl
  have P2 : Hid (∀ W : World, Calls Try.prog 59 #[b.v] W fun e w' => e = .returned (.bool (B1.good b)) ∧ Below W.heap.size W w') := fun W => specGoodBundle_any b W hs _ rfl
  have P4 : Hid (∀ W : World, Calls Try.prog 60 #[.int .i64 b.fr] W fun e w' => e = .returned (.bool (PN.nodeOk b.fr)) ∧ W = w') := fun W => nodeS_any b.fr W
  have P5 : Hid (∀ W : World, Calls Try.prog 61 #[.int .i64 b.md] W fun e w' => e = .returned (.bool (PN.whenOk b.md)) ∧ W = w') := fun W => whenS_any b.md W
  have HR : Hid (GP.fitsB xs b = (PN.okP xs && B1.good b && (b.tl == 0) && PN.nodeOk b.fr && PN.whenOk b.md)) := by show GP.fitsB xs b = _; unfold GP.fitsB; rw [show decide (b.tl = 0) = (b.tl == 0) by rw [Bool.eq_iff_iff]; simp]
  have hA := BdAt.box w b 33
  have hB := (Below.refl _ w).alloc (Nat.le_refl _) (.cells #[.int .i64 b.fr, .int .i64 b.to, .bool b.gr, .int .i64 b.md, .int .i64 b.no, .int .i64 b.lf, .int .i64 b.hp, .int .i64 b.of, .int .i64 b.tl, .string b.py] 33)
  clear hin
  generalize GP.fitsB xs b = R at *
  generalize PN.okP xs = q1 at *
  generalize B1.good b = q2 at *
  generalize hq3 : (b.tl == 0) = q3 at *
  generalize PN.nodeOk b.fr = q4 at *
  generalize PN.whenOk b.md = q5 at *
  obtain ⟨fr, to, gr, md, no, lf, hp, of, tl, py⟩ := b
  have HQ3 : Hid ((tl == 0) = q3) := hq3
  clear hq3
  go_enter Try.func47, Try.ntmps47
  go_wp2_with fail
  refine (P1.out _ hB).mono ?_
  rintro e w1 ⟨rfl, hb1⟩
  have hA1 := hA.below hb1 hA.1
  have hB1 := hB.trans (hb1.mono hB.size)
  clear P1 hb1 hA hB
  cases q1 with
  | false =>
    have hR : R = false := HR.out
    subst hR
    clear P2 P4 P5 HR HQ3 hA1
    go_wp2
    go_ret
    exact ⟨rfl, hB1⟩
  | true =>
    obtain ⟨hlt, c0, c1, c2, c3, c4, c5, c6, c7, c8, c9⟩ := id hA1
    go_wp2_with fail
    refine (P2.out _).mono ?_
    rintro e w2 ⟨rfl, hb2⟩
    clear c0 c1 c2 c3 c4 c5 c6 c7 c8 c9 hlt P2
    have hA2 := hA1.below hb2 hA1.1
    have hB2 := hB1.trans (hb2.mono hB1.size)
    clear hb2 hA1 hB1
    cases q2 with
    | false =>
      have hR : R = false := HR.out
      subst hR
      clear P4 P5 HR HQ3 hA2
      go_wp2
      go_ret
      exact ⟨rfl, hB2⟩
    | true =>
      obtain ⟨hlt, c0, c1, c2, c3, c4, c5, c6, c7, c8, c9⟩ := id hA2
      clear c1 c2 c4 c5 c6 c7 c9 hA2
      have hq3 := HQ3.out
      cases q3 with
      | false =>
        have hR : R = false := HR.out
        subst hR
        clear P4 P5 HR HQ3
        go_wp2
        go_ret
        exact ⟨rfl, hB2⟩
      | true =>
        clear HQ3
        go_wp2_with fail
        refine (P4.out _).mono ?_
        rintro e w' ⟨rfl, rfl⟩
        clear P4 c0 c8
        cases q4 with
        | false =>
          have hR : R = false := HR.out
          subst hR
          clear P5 HR c3
          go_wp2
          go_ret
          exact ⟨rfl, hB2⟩
        | true =>
          have hR : R = q5 := HR.out
          subst hR
          clear HR
          go_wp2_with fail
          refine (P5.out _).mono ?_
          rintro e w' ⟨rfl, rfl⟩
          clear P5 c3
          go_wp2
          go_ret
          exact ⟨rfl, hB2⟩
set_option maxHeartbeats 800000 in
set_option maxRecDepth 100000 in
theorem lastTime_any (b : Bd) (w : World) (h1 : 0 ≤ b.md ∧ b.md ≤ 1000) (h2 : 1 ≤ b.lf ∧ b.lf ≤ 1000000) :
    Calls Try.prog 33 #[b.v] w fun e w' => e = .returned (.int .i64 (b.md + b.lf)) ∧ Below w.heap.size w w' := by
  have hB := (Below.refl _ w).alloc (Nat.le_refl _) (.cells #[.int .i64 b.fr, .int .i64 b.to, .bool b.gr, .int .i64 b.md, .int .i64 b.no, .int .i64 b.lf, .int .i64 b.hp, .int .i64 b.of, .int .i64 b.tl, .string b.py] 33)
  obtain ⟨fr, to, gr, md, no, lf, hp, of, tl, py⟩ := b
  simp only at h1 h2
  go_enter Try.func33, Try.ntmps33
  go_wp2
  go_ret
  exact ⟨rfl, hB⟩
end Go.Proofs.Ytpdmbobcbehilaa

/- RouteTo's answers: plain facts. -/
namespace Go.Proofs.Ytpdmbobcbehilaa
open Go.RowKit
namespace PN
/-- Whether RouteTo is asked of nodes and a time. -/
def askOk (xs : List I5) (f n t : Int) : Bool := startOk xs f n && decide (0 ≤ t ∧ t ≤ 7)
/-- When one is there. -/
def routeM (xs : List I5) (f n t : Int) : FL.Mo := if askOk xs f n t = true then (fin xs (st0 f n)).wh t.toNat else .inf
def routeL (xs : List I5) (f n t : Int) : List Int := if tellB (routeM xs f n t) = true then way xs (fin xs (st0 f n)).la f.toNat 8 t.toNat else []
theorem routeL_len (xs : List I5) (f n t : Int) : (routeL xs f n t).length ≤ 1048576 := by
  unfold routeL; split
  · have := way_len xs (fin xs (st0 f n)).la f.toNat 8 t.toNat; omega
  · simp
theorem route_no {xs : List I5} {f n t : Int} (h : askOk xs f n t = false) : routeM xs f n t = .inf := by simp [routeM, h]
theorem route_yes {xs : List I5} {f n t : Int} (h : askOk xs f n t = true) : routeM xs f n t = (fin xs (st0 f n)).wh t.toNat := by simp [routeM, h]
theorem routeL_no {xs : List I5} {f n t : Int} (h : tellB (routeM xs f n t) = false) : routeL xs f n t = [] := by simp [routeL, h]
theorem routeL_yes {xs : List I5} {f n t : Int} (h : tellB (routeM xs f n t) = true) : routeL xs f n t = way xs (fin xs (st0 f n)).la f.toNat 8 t.toNat := by simp [routeL, h]
theorem ask_is {xs : List I5} {f n t : Int} (h : askOk xs f n t = true) : startOk xs f n = true ∧ 0 ≤ t ∧ t ≤ 7 := by
  simp only [askOk, Bool.and_eq_true, decide_eq_true_eq] at h
  exact ⟨h.1, h.2.1, h.2.2⟩
/-- On the way back: a node that was reached, what is still to come, and what is there. -/
structure Back (xs : List I5) (f : Nat) (s : St) (L : List Int) (v : Nat) (acc : List Int) : Prop where
  lt : v < 8
  at_ : ∃ p, s.wh v = .fin p
  go : ∃ rk m, Via xs f s rk ∧ rk v ≤ m ∧ m + acc.length = 8 ∧ L = way xs s.la f m v ++ acc
theorem Back.end_ {xs : List I5} {f : Nat} {s : St} {L acc : List Int} (h : Back xs f s L f acc) : L = acc := by
  obtain ⟨rk, m, _, _, _, e⟩ := h.go
  rw [e, way_end]; rfl
theorem Back.next {xs : List I5} (hok : okP xs = true) {f : Nat} {s : St} {L acc : List Int} {v : Nat} (h : Back xs f s L v acc) (hv : v ≠ f) : ∃ k, s.la v = some k ∧ k < xs.length ∧ acc.length < 8 ∧ Back xs f s L (MI5.at_ xs k).a0.toNat ((k : Int) :: acc) := by
  obtain ⟨rk, m, hV, hr, hm, e⟩ := h.go
  obtain ⟨p, hp⟩ := h.at_
  obtain ⟨k, h1, h2, h3, h4⟩ := hV.via v hv p hp
  have g := okP_good hok h2
  cases m with
  | zero => omega
  | succ m =>
    refine ⟨k, h1, h2, by omega, by have := g.f0; have := g.f1; omega, h3, rk, m, hV, by omega, by simp; omega, ?_⟩
    rw [e, way_step hv h1]; simp
theorem Back.start {xs : List I5} {f : Nat} {s : St} {rk : Nat → Nat} (hV : Via xs f s rk) {v : Nat} (hv : v < 8) {p : Int} (hp : s.wh v = .fin p) : Back xs f s (way xs s.la f 8 v) v [] :=
  ⟨hv, ⟨p, hp⟩, rk, 8, hV, Nat.le_trans (hV.top v p hp) (cnt_le _), rfl, by simp⟩
def lenV : Value → Nat
  | .slice _ l _ => l
  | _ => 0
theorem own_len {W : World} {base e sz n : Nat} {v : Value} {L : List Value} (h : W.ownsRow base e sz v n L) : lenV v = n := by
  rcases h.2 with ⟨rfl, h0⟩ | ⟨g, cap, cur, rfl, _⟩
  · exact h0.symm
  · rfl
theorem own_lit0 (W : World) (base : Nat) (hb : base ≤ W.heap.size) : (W.alloc (.cells #[] 3)).ownsRow base 3 1 (.slice (some ⟨W.heap.size, 0, none⟩) ([] : List Int).length 0) ([] : List Int).length (M4.iv ([] : List Int).reverse) := by
  have := World.ownsRow_lit (base := base) (e := 3) (size := 1) W #[] 0 hb (by unfold maxLen; omega) (by simp)
  simpa [M4.iv] using this
theorem own_lit1 (W : World) (base : Nat) (z : Int) (hb : base ≤ W.heap.size) : (W.alloc (.cells #[.int .i64 z] 3)).ownsRow base 3 1 (.slice (some ⟨W.heap.size, 0, none⟩) 1 1) 1 [.int .i64 z] := by
  have := World.ownsRow_lit (base := base) (e := 3) (size := 1) W #[.int .i64 z] 1 hb (by unfold maxLen; omega) (by simp)
  simpa using this
end PN
end Go.Proofs.Ytpdmbobcbehilaa

/- l6Over, the specification's. -/
namespace Go.Proofs.Ytpdmbobcbehilaa
open Go.RowKit
/-- What l6Over tells. -/
def PN.ov (c : I5) (n : Int) : Int := if c.a3 ≤ n then -1 else max n c.a2 + c.a4
set_option maxHeartbeats 800000 in
set_option maxRecDepth 100000 in
theorem l6Over_any (c : I5) (n : Int) (w : World) (hc : PN.Good c) (h0 : 0 ≤ n) (h1 : n ≤ 1048576) :
    Calls Try.prog 70 #[c.v, .int .i64 n] w fun e w' => e = .returned (.int .i64 (PN.ov c n)) ∧ Below w.heap.size w w' := by
  have hB : ∀ o, Below w.heap.size w (w.alloc o) := fun o => (Below.refl _ w).alloc (Nat.le_refl _) o
  obtain ⟨f0, f1, t0, t1, ne, e0, e1, s0, s1, d0, d1⟩ := hc
  obtain ⟨r, hr⟩ : ∃ r, PN.ov c n = r := ⟨_, rfl⟩
  rw [hr]
  obtain ⟨x0, x1, x2, x3, x4⟩ := c
  simp only [PN.ov] at *
  by_cases hl : x3 ≤ n
  · rw [if_pos hl] at hr
    subst hr
    go_enter Try.func70, Try.ntmps70
    go_wp2
    go_ret
    exact ⟨rfl, hB _⟩
  · rw [if_neg hl] at hr
    by_cases h2 : n < x2
    · obtain rfl : r = x2 + x4 := by omega
      clear hr
      go_enter Try.func70, Try.ntmps70
      go_wp2
      go_ret
      exact ⟨rfl, hB _⟩
    · obtain rfl : r = n + x4 := by omega
      clear hr
      go_enter Try.func70, Try.ntmps70
      go_wp2
      go_ret
      exact ⟨rfl, hB _⟩
theorem PN.ov_no {c : I5} {n : Int} (h : c.a3 ≤ n) : PN.ov c n = -1 ∧ PN.arr c (.fin n) = .inf := by simp [PN.ov, PN.arr, h]
theorem PN.ov_yes {c : I5} {n : Int} (h : ¬ c.a3 ≤ n) : PN.arr c (.fin n) = .fin (PN.ov c n) := by simp [PN.ov, PN.arr, h]
end Go.Proofs.Ytpdmbobcbehilaa

/- l6Search, the specification's. -/
namespace Go.Proofs.Ytpdmbobcbehilaa
open Go.RowKit
theorem new1' (W : World) (x : Value) (e : TypeId) : ∀ (j : Nat) (u : Value), [x][j]? = some u → (W.alloc (.cells #[x] e)).cell? ((⟨W.heap.size, 0, none⟩ : Addr).add j) = some u := M2.new1 W x e
set_option linter.unusedSimpArgs false in
set_option maxHeartbeats 3200000 in
set_option maxRecDepth 100000 in
theorem l6Search_any (a : Option Addr) (ca : Nat) (xs : List I5) (f n : Int) (w : World) (hok : PN.okP xs = true) (hf0 : 0 ≤ f) (hf1 : f ≤ 7) (hn0 : 0 ≤ n) (hn1 : n ≤ 1000) (hin : MI5.RowAt w a xs) :
    Calls Try.prog 62 #[.slice a xs.length ca, .int .i64 f, .int .i64 n] w fun e w' => ∃ g1 g2 c1 c2, e = .returned (.tuple #[.slice (some ⟨g1, 0, none⟩) 8 c1, .slice (some ⟨g2, 0, none⟩) 8 c2]) ∧ PN.SR w.heap.size w w' g1 g2 c1 c2 (PN.fin xs (PN.st0 f n)) := by
  obtain ⟨i0, hi, hz0, hz1, hz2⟩ := info_parts Try.info3
  have HI : Hid (MI5.RowAt w a xs) := hin
  have hlen : xs.length ≤ 20 := ((PN.okP_iff xs).1 hok).1
  have GC : Hid (∀ k, k < xs.length → PN.Good (MI5.at_ xs k)) := fun k hk => PN.okP_good hok hk
  have HOK : Hid _ := hok
  have hf : ∃ fn : Nat, f = (fn : Int) := Int.eq_ofNat_of_zero_le hf0
  obtain ⟨fn, rfl⟩ := hf
  have hfn : fn < 8 := by omega
  clear hin hok
  go_enter Try.func62, Try.ntmps62
  go_wp2
  go_loopw [8, 9, 10] (fun u v iv wr => ∃ k : Nat, iv = .int .i64 k ∧ k ≤ 8 ∧ PN.Two w.heap.size wr u v k (List.replicate k (-1)) (List.replicate k (-1)) ∧ Below w.heap.size w wr) (fun _ _ iv _ => (8 - intOf iv).toNat)
  case atStart => exact ⟨0, rfl, by omega, ⟨World.ownsRow_nil _ _ _ _, World.ownsRow_nil _ _ _ _, fun g hg => by cases hg⟩, Below.refl _ _⟩
  case round =>
    obtain ⟨k, rfl, hk, hT, hb⟩ := hrel
    have hbs := hb.size
    by_cases hl : k < 8
    · have hT' : Hid _ := hT
      clear hT
      have hk0 : (k : Int) < 8 := by omega
      go_wp2_with (at_builtin; refine wpList_append_own_at _ rfl _ _ 25 rfl w.heap.size 3 i0 (.int .i64 0) 1 8 Try.underlying25 hi hz0 hz1 hz2 rfl (by decide) _ _ _ rfl (hT'.out.a.alloc _) ⟨wr.heap.size, 0, none⟩ 1 1 [.int .i64 (-1)] rfl rfl ?c1 ?c2 ?c3 ?c4 ?c5 ?_)
      case c1 => exact M2.new1 _ _ _
      case c2 => exact M2.one1 _ _
      case c3 => unfold maxLen; omega
      case c4 => omega
      case c5 => simp; omega
      intro u' w2 hown2 hgrow2 _ loc2
      obtain ⟨rb2, ne2⟩ := PN.grown_a hT'.out.a hT'.out.b hT'.out.ne hown2 hgrow2 loc2
      rw [PN.iv_snoc] at hown2
      have hb2 : Below w.heap.size w w2 := (hb.alloc hbs _).grown hgrow2 (by simp; omega) (fun j hj => (hT'.out.a.lt j hj).1)
      have hbs2 := hb2.size
      have HA2 : Hid (w2.ownsRow w.heap.size 3 1 u' (k + 1) (M4.iv (List.replicate (k + 1) (-1)))) := hown2
      have HB2 : Hid (w2.ownsRow w.heap.size 3 1 u9 k (M4.iv (List.replicate k (-1)))) := rb2
      have NE2 : Hid (∀ g, u9.ownBlock = some g → u'.ownBlock ≠ some g) := fun g hg e => ne2 g e hg
      clear hT' hown2 hgrow2 loc2 rb2 ne2 hb hbs
      go_wp2_with (at_builtin; refine wpList_append_own_at _ rfl _ _ 25 rfl w.heap.size 3 i0 (.int .i64 0) 1 8 Try.underlying25 hi hz0 hz1 hz2 rfl (by decide) _ _ _ rfl (World.ownsRow.alloc HB2.out _) ⟨w2.heap.size, 0, none⟩ 1 1 [.int .i64 (-1)] rfl rfl ?c1 ?c2 ?c3 ?c4 ?c5 ?_)
      case c1 => exact M2.new1 _ _ _
      case c2 => exact M2.one1 _ _
      case c3 => unfold maxLen; omega
      case c4 => omega
      case c5 => simp; omega
      intro v' w3 hown3 hgrow3 _ loc3
      obtain ⟨ra3, ne3⟩ := PN.grown_a HB2.out HA2.out NE2.out hown3 hgrow3 loc3
      rw [PN.iv_snoc] at hown3
      have hb3 : Below w.heap.size w w3 := (hb2.alloc hbs2 _).grown hgrow3 (by simp; omega) (fun j hj => (World.ownsRow.lt HB2.out j hj).1)
      have R1 : PN.Two w.heap.size w3 u' v' (k + 1) (List.replicate (k + 1) (-1)) (List.replicate (k + 1) (-1)) := ⟨ra3, hown3, fun g hg e => ne3 g e hg⟩
      clear HA2 HB2 NE2 hown3 hgrow3 loc3 ra3 ne3 hb2 hbs2
      go_wp2
      go_roundw
      case rel => exact ⟨k + 1, by go_num, by omega, R1, hb3⟩
      case measure => simp [intOf]; omega
    · obtain rfl : k = 8 := by omega
      obtain ⟨g1, c1, rfl⟩ := PN.own_some hT.a
      obtain ⟨g2, c2, rfl⟩ := PN.own_some hT.b
      have hS : PN.SR w.heap.size w wr g1 g2 c1 c2 ⟨fun _ => .inf, fun _ => none⟩ := ⟨by rw [PN.whL_none]; exact hT.a, by rw [PN.laL_none]; exact hT.b, fun e => hT.ne g1 rfl (by rw [e]; rfl), hb⟩
      have cf := hS.cellA hfn
      have ff := hS.a.frozenAt fn
      have hS2 := hS.putA (Nat.le_refl _) hfn (.fin n)
      have l1 := hS.l1
      have HS2 : Hid (PN.SR w.heap.size w (wr.setCell ⟨g1, fn, none⟩ (.int .i64 n)) g1 g2 c1 c2 (PN.st0 (fn : Int) n)) := hS2
      have HF : Hid (PN.okS (PN.st0 (fn : Int) n).wh) := PN.st0_ok hn0 hn1
      clear hS hS2 hT hb hbs
      go_wp2
      generalize wr.setCell ⟨g1, fn, none⟩ (.int .i64 n) = W at *
      clear cf ff l1 hk hl
      go_loopw [11, 12] (fun _ _ wo => ∃ s : PN.St, PN.SR w.heap.size w wo g1 g2 c1 c2 s ∧ Hid (PN.okS s.wh) ∧ Hid (PN.fin xs s = PN.fin xs (PN.st0 (fn : Int) n))) (fun _ _ wo => PN.MU g1 wo)
      case atStart => exact ⟨_, HS2.out, HF, rfl⟩
      case round =>
        clear HS2 HF
        obtain ⟨s, hS, hO, hF⟩ := hrel
        have HM : Hid (PN.MU g1 wr = PN.mu s.wh) := hS.mu hO.out
        have HS : Hid _ := hS
        clear hS
        go_wp2
        go_loopw [11, 12, 13, 15, 32] (fun bv tv _ _ iv wi => ∃ (k : Nat) (b t : Int), bv = .int .i64 b ∧ tv = .int .i64 t ∧ iv = .int .i64 k ∧ k ≤ xs.length ∧ Hid (PN.BT (PN.best xs s.wh k) b t) ∧ PN.SR w.heap.size w wi g1 g2 c1 c2 s) (fun _ _ _ _ iv _ => (xs.length - intOf iv).toNat)
        case atStart => exact ⟨0, -1, 0, rfl, rfl, rfl, by omega, show Hid _ from ⟨rfl, rfl⟩, HS.out⟩
        case round =>
          clear HS
          obtain ⟨k, b, t, rfl, rfl, rfl, hk, hT, hS⟩ := hrel
          by_cases hlk : k < xs.length
          · obtain ⟨b4, off4, rfl, hlt4, e0, e1, e2, e3, e4⟩ := (HI.out.below hS.bl).at hlk
            have G := GC.out k hlk
            obtain ⟨i, hi⟩ := Int.eq_ofNat_of_zero_le G.f0
            obtain ⟨j, hj⟩ := Int.eq_ofNat_of_zero_le G.t0
            have hi8 : i < 8 := by have := G.f1; omega
            have hj8 : j < 8 := by have := G.t1; omega
            have ii0 : (0 : Int) ≤ (i : Int) := by omega
            have ii8 : (i : Int) < 8 := by omega
            have jj0 : (0 : Int) ≤ (j : Int) := by omega
            have jj8 : (j : Int) < 8 := by omega
            have hin : (MI5.at_ xs k).a0.toNat = i := by rw [hi]; rfl
            have hjn : (MI5.at_ xs k).a1.toNat = j := by rw [hj]; rfl
            have B1 : Hid _ := @PN.best_skip xs s.wh k
            have B2 : Hid _ := @PN.best_late xs s.wh k
            have B3 : Hid _ := @PN.best_first xs s.wh k
            have B4 : Hid _ := @PN.best_new xs s.wh k
            have B5 : Hid _ := @PN.best_old xs s.wh k
            rw [hin] at B1 B2 B3 B4 B5
            rw [hjn] at B2 B3 B4 B5
            have oi := hO.out i
            have oj := hO.out j
            have ci := hS.cellA hi8
            have cj := hS.cellA hj8
            have l1 := hS.l1
            rw [hi] at e0
            rw [hj] at e1
            have hS' := hS.kept (Nat.le_refl _) ((Below.refl _ wr).alloc (Nat.le_refl _) (.cells #[.int .i64 (i : Int), .int .i64 (j : Int), .int .i64 (MI5.at_ xs k).a2, .int .i64 (MI5.at_ xs k).a3, .int .i64 (MI5.at_ xs k).a4] 50))
            have HS : Hid _ := hS'
            clear hS hS' GC HI HOK hin hjn hF HM
            generalize hx : MI5.at_ xs k = x at *
            obtain ⟨x0, x1, x2, x3, x4⟩ := x
            simp only at hi hj e0 e1 e2 e3 e4 HS
            subst hi hj
            generalize hmi : s.wh i = mi at *
            generalize hmj : s.wh j = mj at *
            cases mi with
            | ago => exact absurd oi id
            | inf =>
              have hT' : Hid (PN.BT (PN.best xs s.wh (k + 1)) b t) := by rw [B1.out rfl]; exact hT
              clear B1 B2 B3 B4 B5 hT G hx hO
              simp only [PN.tS] at ci
              go_wp2
              go_roundw
              case rel => exact ⟨k + 1, b, t, rfl, rfl, by go_num, by omega, hT', HS.out⟩
              case measure => simp [intOf]; omega
            | fin p =>
              obtain ⟨p0, p1⟩ : 0 ≤ p ∧ p ≤ 1048576 := oi
              have OV : Hid (∀ W : World, Calls Try.prog 70 #[.agg #[.int .i64 (i : Int), .int .i64 (j : Int), .int .i64 x2, .int .i64 x3, .int .i64 x4], .int .i64 p] W fun e w' => e = .returned (.int .i64 (PN.ov ⟨(i : Int), (j : Int), x2, x3, x4⟩ p)) ∧ Below W.heap.size W w') := fun W => l6Over_any ⟨(i : Int), (j : Int), x2, x3, x4⟩ p W G p0 p1
              have V1 : Hid _ := fun h => PN.ov_no (c := ⟨(i : Int), (j : Int), x2, x3, x4⟩) (n := p) h
              have V2 : Hid _ := fun h => PN.ov_yes (c := ⟨(i : Int), (j : Int), x2, x3, x4⟩) (n := p) h
              have OKR := PN.arr_okT G (m := .fin p) ⟨p0, p1⟩
              simp only [PN.tS] at ci
              clear G hx hO
              have hq : wr.heap.size < (wr.alloc (.cells #[.int .i64 (i : Int), .int .i64 (j : Int), .int .i64 x2, .int .i64 x3, .int .i64 x4] 50)).heap.size := by simp
              have f0 : (wr.alloc (.cells #[.int .i64 (i : Int), .int .i64 (j : Int), .int .i64 x2, .int .i64 x3, .int .i64 x4] 50)).cell? ⟨wr.heap.size, 0, none⟩ = some (.int .i64 (i : Int)) := by simp
              have f1 : (wr.alloc (.cells #[.int .i64 (i : Int), .int .i64 (j : Int), .int .i64 x2, .int .i64 x3, .int .i64 x4] 50)).cell? ⟨wr.heap.size, 1, none⟩ = some (.int .i64 (j : Int)) := by simp
              have f2 : (wr.alloc (.cells #[.int .i64 (i : Int), .int .i64 (j : Int), .int .i64 x2, .int .i64 x3, .int .i64 x4] 50)).cell? ⟨wr.heap.size, 2, none⟩ = some (.int .i64 x2) := by simp
              have f3 : (wr.alloc (.cells #[.int .i64 (i : Int), .int .i64 (j : Int), .int .i64 x2, .int .i64 x3, .int .i64 x4] 50)).cell? ⟨wr.heap.size, 3, none⟩ = some (.int .i64 x3) := by simp
              have f4 : (wr.alloc (.cells #[.int .i64 (i : Int), .int .i64 (j : Int), .int .i64 x2, .int .i64 x3, .int .i64 x4] 50)).cell? ⟨wr.heap.size, 4, none⟩ = some (.int .i64 x4) := by simp
              have hci := HS.out.cellA hi8
              have hcj := HS.out.cellA hj8
              have hl1 := HS.out.l1.2
              rw [hmi] at hci
              rw [hmj] at hcj
              simp only [PN.tS] at hci
              have F0 : Hid _ := f0
              have F1 : Hid _ := f1
              have F2 : Hid _ := f2
              have F3 : Hid _ := f3
              have F4 : Hid _ := f4
              have HCI : Hid _ := hci
              have HCJ : Hid _ := hcj
              have HQ : Hid _ := hq
              have HL1 : Hid _ := hl1
              clear f0 f1 f2 f3 f4 hci hcj hq hl1 cj
              go_wp2_with fail
              clear e0 e1 e2 e3 e4 ci hlt4
              generalize wr.alloc (.cells #[.int .i64 (i : Int), .int .i64 (j : Int), .int .i64 x2, .int .i64 x3, .int .i64 x4] 50) = W1 at *
              generalize wr.heap.size = q at *
              have f0 := F0.out
              have f1 := F1.out
              have f2 := F2.out
              have f3 := F3.out
              have f4 := F4.out
              have hci := HCI.out
              have hcj := HCJ.out
              have hq := HQ.out
              have hl1 := HL1.out
              clear F0 F1 F2 F3 F4 HCI HCJ HQ HL1
              go_region_held3 (fun w' => w'.cell? ⟨q, 0, none⟩ = some (.int .i64 (i : Int)) ∧ w'.cell? ⟨q, 1, none⟩ = some (.int .i64 (j : Int)) ∧ w'.cell? ⟨q, 2, none⟩ = some (.int .i64 x2) ∧ w'.cell? ⟨q, 3, none⟩ = some (.int .i64 x3) ∧ w'.cell? ⟨q, 4, none⟩ = some (.int .i64 x4) ∧ w'.cell? ⟨g1, i, none⟩ = some (.int .i64 p)) (first | assumption | go_keep) (first | (go_at_call 70; refine Calls.mono (OV.out _) ?_; rintro e w3 ⟨rfl, hb3⟩; have k0 : w3.cell? ⟨q, 0, none⟩ = some (.int .i64 (i : Int)) := (hb3.cell (p := ⟨q, 0, none⟩) (by simpa using hq)).trans (by simpa using f0); have k1 : w3.cell? ⟨q, 1, none⟩ = some (.int .i64 (j : Int)) := (hb3.cell (p := ⟨q, 1, none⟩) (by simpa using hq)).trans (by simpa using f1); have k2 : w3.cell? ⟨q, 2, none⟩ = some (.int .i64 x2) := (hb3.cell (p := ⟨q, 2, none⟩) (by simpa using hq)).trans (by simpa using f2); have k3 : w3.cell? ⟨q, 3, none⟩ = some (.int .i64 x3) := (hb3.cell (p := ⟨q, 3, none⟩) (by simpa using hq)).trans (by simpa using f3); have k4 : w3.cell? ⟨q, 4, none⟩ = some (.int .i64 x4) := (hb3.cell (p := ⟨q, 4, none⟩) (by simpa using hq)).trans (by simpa using f4); have ki : w3.cell? ⟨g1, i, none⟩ = some (.int .i64 p) := (hb3.cell (p := ⟨g1, i, none⟩) (by simpa using hl1)).trans (by simpa using hci)))
              have kj : w3.cell? ⟨g1, j, none⟩ = some (.int .i64 (PN.tS mj)) := (hb3.cell (p := ⟨g1, j, none⟩) (by simpa using hl1)).trans (by simpa using hcj)
              have hq3 : q < w3.heap.size := Nat.lt_of_lt_of_le (by simpa using hq) hb3.size
              have hl3 : g1 < w3.heap.size := Nat.lt_of_lt_of_le (by simpa using hl1) hb3.size
              have HS3 : Hid (PN.SR w.heap.size w w3 g1 g2 c1 c2 s) := HS.out.kept (Nat.le_refl _) (((Below.refl _ W1).drew).trans hb3)
              clear f0 f1 f2 f3 f4 hci hcj hq hl1 hb3 HS OV k0 k2 k3 k4 ki
              by_cases hx3 : x3 ≤ p
              · obtain ⟨v1, v2⟩ := V1.out hx3
                have hT' : Hid (PN.BT (PN.best xs s.wh (k + 1)) b t) := by rw [B1.out v2]; exact hT
                rw [v1]
                clear B1 B2 B3 B4 B5 hT V1 V2 v1 v2 OKR
                go_wp2
                go_roundw
                case rel => exact ⟨k + 1, b, t, rfl, rfl, by go_num, by omega, hT', HS3.out⟩
                case measure => simp [intOf]; omega
              · have v1 := V2.out (by omega)
                rw [v1] at OKR
                generalize PN.ov _ p = r at *
                obtain ⟨r0, r1⟩ : 0 ≤ r ∧ r ≤ 1048576 := OKR
                have A1 : Hid _ := v1
                clear V1 V2 v1 B1
                have late : PN.early r mj = false → ∃ u : Int, mj = .fin u ∧ 0 ≤ u ∧ u ≤ r := by
                  intro h
                  cases mj with
                  | ago => exact absurd oj id
                  | inf => cases h
                  | fin u => exact ⟨u, rfl, oj.1, by simpa [PN.early] using h⟩
                have soon : PN.early r mj = true → PN.tS mj < 0 ∨ (0 ≤ PN.tS mj ∧ r < PN.tS mj) := by
                  intro h
                  cases mj with
                  | ago => exact absurd oj id
                  | inf => left; decide
                  | fin u => right; exact ⟨oj.1, by show r < u; simpa [PN.early] using h⟩
                cases he : PN.early r mj with
                | false =>
                  obtain ⟨u, rfl, u0, u1⟩ := late he
                  have hT' : Hid (PN.BT (PN.best xs s.wh (k + 1)) b t) := by rw [B2.out A1.out he]; exact hT
                  simp only [PN.tS] at kj
                  clear B2 B3 B4 B5 hT A1 he late soon oj
                  go_wp2
                  go_roundw
                  case rel => exact ⟨k + 1, b, t, rfl, rfl, by go_num, by omega, hT', HS3.out⟩
                  case measure => simp [intOf]; omega
                | true =>
                  have sn := soon he
                  have hT1 := hT.out
                  have pick : (b < 0 ∧ Hid (PN.BT (PN.best xs s.wh (k + 1)) (k : Int) r)) ∨ (0 ≤ b ∧ r < t ∧ Hid (PN.BT (PN.best xs s.wh (k + 1)) (k : Int) r)) ∨ (0 ≤ b ∧ t ≤ r ∧ Hid (PN.BT (PN.best xs s.wh (k + 1)) b t)) := by
                    cases hbk : PN.best xs s.wh k with
                    | none =>
                      rw [hbk] at hT1
                      exact .inl ⟨by have := hT1.1; omega, by rw [B3.out A1.out he hbk]; exact ⟨rfl, rfl⟩⟩
                    | some z =>
                      obtain ⟨kb, u⟩ := z
                      rw [hbk] at hT1
                      obtain ⟨h1, h2⟩ := hT1
                      by_cases hlt : r < u
                      · exact .inr (.inl ⟨by omega, by omega, by rw [B4.out A1.out he hbk hlt]; exact ⟨rfl, rfl⟩⟩)
                      · exact .inr (.inr ⟨by omega, by omega, by rw [B5.out A1.out he hbk (by omega)]; exact ⟨h1, h2⟩⟩)
                  clear B2 B3 B4 B5 hT hT1 A1 he late soon oj hmj
                  generalize PN.tS mj = z at *
                  rcases sn with sn | ⟨sn1, sn2⟩
                  all_goals
                    rcases pick with ⟨pk, hT'⟩ | ⟨pk1, pk2, hT'⟩ | ⟨pk1, pk2, hT'⟩
                    · go_wp2
                      go_roundw
                      case rel => exact ⟨k + 1, _, _, rfl, rfl, by go_num, by omega, hT', HS3.out⟩
                      case measure => simp [intOf]; omega
                    · go_wp2
                      go_roundw
                      case rel => exact ⟨k + 1, _, _, rfl, rfl, by go_num, by omega, hT', HS3.out⟩
                      case measure => simp [intOf]; omega
                    · go_wp2
                      go_roundw
                      case rel => exact ⟨k + 1, _, _, rfl, rfl, by go_num, by omega, hT', HS3.out⟩
                      case measure => simp [intOf]; omega
          · obtain rfl : k = xs.length := by omega
            have hT' := hT.out
            cases hb : PN.best xs s.wh xs.length with
            | none =>
              rw [hb] at hT'
              obtain ⟨rfl, rfl⟩ := hT'
              have hE : Hid (s = PN.fin xs (PN.st0 (fn : Int) n)) := by show s = _; rw [← hF.out, PN.fin_none hb]
              clear hb hT hF HM hO GC HI HOK
              go_wp2
              go_ret2
              exact ⟨g1, g2, c1, c2, rfl, by rw [← hE.out]; exact hS⟩
            | some p =>
              obtain ⟨kb, tb⟩ := p
              rw [hb] at hT'
              obtain ⟨rfl, rfl⟩ := hT'
              obtain ⟨hkb, hA, hE⟩ := PN.best_is hb
              obtain ⟨hO2, hmu⟩ := PN.step_ok HOK.out hO.out hb
              have hF2 : Hid (PN.fin xs (PN.take1 xs s kb t) = PN.fin xs (PN.st0 (fn : Int) n)) := by show _ = _; rw [← hF.out, PN.fin_some HOK.out hO.out hb]
              have G := GC.out kb hkb
              obtain ⟨b4, off4, rfl, hlt4, -, e1, -⟩ := HI.out.at hkb
              replace e1 := (hS.bl.cell (p := ⟨b4, off4 + kb * 5 + 1, none⟩) hlt4).trans e1
              obtain ⟨j, hj⟩ := Int.eq_ofNat_of_zero_le G.t0
              have hj8 : j < 8 := by have := G.t1; omega
              rw [hj] at e1
              have hjn : (MI5.at_ xs kb).a1.toNat = j := by rw [hj]; rfl
              have q1 := hS.cellA hj8
              have z1 := hS.a.frozenAt j
              have hS1 := hS.putA (Nat.le_refl _) hj8 (.fin t)
              have q2 : (wr.setCell ⟨g1, j, none⟩ (.int .i64 t)).cell? ⟨g2, j, none⟩ = some (.int .i64 (PN.kS (s.la j))) := hS1.cellB hj8
              have z2 : (wr.setCell ⟨g1, j, none⟩ (.int .i64 t)).frozen? ⟨g2, j, none⟩ = false := hS1.b.frozenAt j
              have hS2 := hS1.putB (Nat.le_refl _) hj8 (some kb)
              have hST : (⟨PN.put s.wh j (.fin t), PN.put s.la j (some kb)⟩ : PN.St) = PN.take1 xs s kb t := by unfold PN.take1; rw [hjn]
              rw [hST] at hS2
              have hm2 := hS2.mu hO2
              have HS2 : Hid (PN.SR w.heap.size w ((wr.setCell ⟨g1, j, none⟩ (.int .i64 t)).setCell ⟨g2, j, none⟩ (.int .i64 (kb : Int))) g1 g2 c1 c2 (PN.take1 xs s kb t)) := hS2
              have l1 := hS.l1
              have l2 := hS.l2
              have hb4 : b4 < wr.heap.size := Nat.lt_of_lt_of_le hlt4 hS.bl.size
              have d1 : (wr.setCell ⟨g1, j, none⟩ (.int .i64 t)).cell? ⟨b4, off4 + kb * 5 + 1, none⟩ = some (.int .i64 (j : Int)) := (((MC.Only.refl g1 wr).setCell j (.int .i64 t)).cell (x := ⟨b4, off4 + kb * 5 + 1, none⟩) hb4 (by show b4 ≠ g1; omega)).trans e1
              have HO2 : Hid (PN.okS (PN.take1 xs s kb t).wh) := hO2
              have HMU : Hid (PN.MU g1 ((wr.setCell ⟨g1, j, none⟩ (.int .i64 t)).setCell ⟨g2, j, none⟩ (.int .i64 (kb : Int))) < PN.mu s.wh) := by have h := hmu; rw [← hm2] at h; exact h
              have kk0 : (0 : Int) ≤ (kb : Int) := by omega
              have kk1 : (kb : Int) < (xs.length : Int) := by omega
              have jj0 : (0 : Int) ≤ (j : Int) := by omega
              have jj8 : (j : Int) < 8 := by omega
              have gg2 : g2 < (wr.setCell ⟨g1, j, none⟩ (.int .i64 t)).heap.size := by simpa using l2.2
              clear hb hT hF hO GC HI HOK G hST hS1 hS2 hS hjn hj hA hE hm2 hO2 hmu
              go_wp2
              go_roundw
              case rel => exact ⟨_, HS2.out, HO2, hF2⟩
              case measure => rw [HM.out]; exact HMU.out
end Go.Proofs.Ytpdmbobcbehilaa

/- RouteTo, the specification's. -/
namespace Go.Proofs.Ytpdmbobcbehilaa
open Go.RowKit
namespace PN
theorem SR.grown {base : Nat} {w W W' : World} {g1 g2 c1 c2 : Nat} {s : St} {o : Obj} (h : SR base w W g1 g2 c1 c2 s) (hB : base ≤ w.heap.size) (hg : (W.alloc o).grownBy W' (some W.heap.size)) : SR base w W' g1 g2 c1 c2 s := by
  have l1 := h.l1
  have l2 := h.l2
  have hs := h.bl.size
  exact ⟨own_grown (h.a.alloc o) hg (fun g e => by simp only [Value.ownBlock, Option.some.injEq] at e; simp only [ne_eq, Option.some.injEq]; omega), own_grown (h.b.alloc o) hg (fun g e => by simp only [Value.ownBlock, Option.some.injEq] at e; simp only [ne_eq, Option.some.injEq]; omega), h.ne, (h.bl.alloc (Nat.le_trans hB hs) o).grown hg (by simp; omega) (fun k hk => by simp at hk; omega)⟩
end PN
set_option linter.unusedSimpArgs false in
set_option maxHeartbeats 3200000 in
set_option maxRecDepth 100000 in
theorem specRoute_any (a : Option Addr) (ca : Nat) (xs : List I5) (f n t : Int) (w : World) (hn : xs.length ≤ 1048576) (hin : MI5.RowAt w a xs) :
    Calls Try.prog 49 #[.slice a xs.length ca, .int .i64 f, .int .i64 n, .int .i64 t] w fun e w' => ∃ a1 c1, e = .returned (.tuple #[.slice a1 (PN.routeL xs f n t).length c1, .int .i64 (PN.tellN (PN.routeM xs f n t)), .bool (PN.tellB (PN.routeM xs f n t))]) ∧ w'.ownsRow w.heap.size 3 1 (.slice a1 (PN.routeL xs f n t).length c1) (PN.routeL xs f n t).length (M4.iv (PN.routeL xs f n t)) ∧ Below w.heap.size w w' := by
  obtain ⟨i0, hi, hz0, hz1, hz2⟩ := info_parts Try.info3
  have GP : Hid (∀ W : World, MI5.RowAt W a xs → Calls Try.prog 58 #[.slice a xs.length ca] W fun e w' => e = .returned (.bool (PN.okP xs)) ∧ Below W.heap.size W w') := fun W h => specGoodPlan_any a ca xs W hn h _ rfl
  have NI : Hid (∀ W : World, Calls Try.prog 60 #[.int .i64 f] W fun e w' => e = .returned (.bool (decide (0 ≤ f ∧ f ≤ 7))) ∧ W = w') := fun W => nodeS_any f W
  have NT : Hid (∀ W : World, Calls Try.prog 60 #[.int .i64 t] W fun e w' => e = .returned (.bool (decide (0 ≤ t ∧ t ≤ 7))) ∧ W = w') := fun W => nodeS_any t W
  have WI : Hid (∀ W : World, Calls Try.prog 61 #[.int .i64 n] W fun e w' => e = .returned (.bool (decide (0 ≤ n ∧ n ≤ 1000))) ∧ W = w') := fun W => whenS_any n W
  have HI : Hid (MI5.RowAt w a xs) := hin
  clear hin
  obtain ⟨N, hN⟩ : ∃ N, PN.tellN (PN.routeM xs f n t) = N := ⟨_, rfl⟩
  obtain ⟨T, hT⟩ : ∃ T, PN.tellB (PN.routeM xs f n t) = T := ⟨_, rfl⟩
  obtain ⟨L, hL⟩ : ∃ L, PN.routeL xs f n t = L := ⟨_, rfl⟩
  have NO : Hid (PN.askOk xs f n t = false → N = 0 ∧ T = false ∧ L = []) := fun h => by
    have hT' : PN.tellB (PN.routeM xs f n t) = false := by rw [PN.route_no h]; rfl
    rw [← hN, ← hT, ← hL, PN.routeL_no hT', PN.route_no h]; exact ⟨rfl, rfl, rfl⟩
  have YES : Hid (PN.askOk xs f n t = true → N = PN.tellN ((PN.fin xs (PN.st0 f n)).wh t.toNat) ∧ T = PN.tellB ((PN.fin xs (PN.st0 f n)).wh t.toNat) ∧ (T = false → L = []) ∧ (T = true → L = PN.way xs (PN.fin xs (PN.st0 f n)).la f.toNat 8 t.toNat)) := fun h => by
    rw [← hN, ← hT, ← hL, ← PN.route_yes h]; exact ⟨rfl, rfl, PN.routeL_no, PN.routeL_yes⟩
  have CS0 : Hid (PN.askOk xs f n t = true → ∀ W : World, MI5.RowAt W a xs → Calls Try.prog 62 #[.slice a xs.length ca, .int .i64 f, .int .i64 n] W fun e w' => ∃ g1 g2 c1 c2, e = .returned (.tuple #[.slice (some ⟨g1, 0, none⟩) 8 c1, .slice (some ⟨g2, 0, none⟩) 8 c2]) ∧ PN.SR W.heap.size W w' g1 g2 c1 c2 (PN.fin xs (PN.st0 f n))) := fun h W hr => by
    obtain ⟨h0, h1, h2, h3, h4⟩ := PN.start_is (PN.ask_is h).1
    exact l6Search_any a ca xs f n W h0 h1 h2 h3 h4 hr
  rw [hN, hT, hL]
  clear hN hT hL
  obtain ⟨q1, h1⟩ : ∃ q, decide (0 ≤ f ∧ f ≤ 7) = q := ⟨_, rfl⟩
  obtain ⟨q2, h2⟩ : ∃ q, decide (0 ≤ n ∧ n ≤ 1000) = q := ⟨_, rfl⟩
  obtain ⟨q3, h3⟩ : ∃ q, decide (0 ≤ t ∧ t ≤ 7) = q := ⟨_, rfl⟩
  obtain ⟨q0, h0⟩ : ∃ q, PN.okP xs = q := ⟨_, rfl⟩
  have hS : PN.askOk xs f n t = (q0 && q1 && q2 && q3) := by rw [← h0, ← h1, ← h2, ← h3]; rfl
  rw [h0] at GP
  rw [h1] at NI
  rw [h2] at WI
  rw [h3] at NT
  have HS : Hid _ := hS
  clear h0 h1 h2 h3 hS
  go_enter Try.func49, Try.ntmps49
  go_wp2_with fail
  refine (GP.out _ HI.out).mono ?_
  rintro e w1 ⟨rfl, hb1⟩
  have HI1 : Hid (MI5.RowAt w1 a xs) := HI.out.below hb1
  clear GP HI
  cases q0 with
  | false =>
    obtain ⟨rfl, rfl, rfl⟩ := NO.out HS.out
    clear NO YES CS0 NI NT WI HS HI1
    go_wp2
    go_ret3
    exact ⟨none, 0, rfl, World.ownsRow_nil _ _ _ _, hb1⟩
  | true =>
    go_wp2_with fail
    refine (NI.out _).mono ?_
    rintro e w' ⟨rfl, rfl⟩
    clear NI
    cases q1 with
    | false =>
      obtain ⟨rfl, rfl, rfl⟩ := NO.out HS.out
      clear NO YES CS0 NT WI HS HI1
      go_wp2
      go_ret3
      exact ⟨none, 0, rfl, World.ownsRow_nil _ _ _ _, hb1⟩
    | true =>
      go_wp2_with fail
      refine (WI.out _).mono ?_
      rintro e w' ⟨rfl, rfl⟩
      clear WI
      cases q2 with
      | false =>
        obtain ⟨rfl, rfl, rfl⟩ := NO.out HS.out
        clear NO YES CS0 NT HS HI1
        go_wp2
        go_ret3
        exact ⟨none, 0, rfl, World.ownsRow_nil _ _ _ _, hb1⟩
      | true =>
        go_wp2_with fail
        refine (NT.out _).mono ?_
        rintro e w' ⟨rfl, rfl⟩
        clear NT
        cases q3 with
        | false =>
          obtain ⟨rfl, rfl, rfl⟩ := NO.out HS.out
          clear NO YES CS0 HS HI1
          go_wp2
          go_ret3
          exact ⟨none, 0, rfl, World.ownsRow_nil _ _ _ _, hb1⟩
        | true =>
          have hask : PN.askOk xs f n t = true := HS.out
          obtain ⟨hst, ht0, ht1⟩ := PN.ask_is hask
          obtain ⟨hok, hf0, hf1, hn0, hn1⟩ := PN.start_is hst
          have CS : Hid _ := CS0.out hask
          have HY : Hid _ := YES.out hask
          have HOK : Hid _ := hok
          have GC : Hid (∀ k, k < xs.length → PN.Good (MI5.at_ xs k)) := fun k hk => PN.okP_good hok hk
          have HVI : Hid (∃ rk, PN.Via xs f.toNat (PN.fin xs (PN.st0 f n)) rk) := PN.via_fin hok (PN.st0_ok hn0 hn1) (PN.ord_st0 hok) (PN.via_st0 xs hf0 hf1)
          have HOS : Hid (PN.okS (PN.fin xs (PN.st0 f n)).wh) := PN.fin_okS hok (PN.st0_ok hn0 hn1)
          clear NO YES CS0 HS hask hst hok
          obtain ⟨tn, rfl⟩ := Int.eq_ofNat_of_zero_le ht0
          obtain ⟨fn, rfl⟩ := Int.eq_ofNat_of_zero_le hf0
          have ht8 : tn < 8 := by omega
          have tt8 : (tn : Int) < 8 := by omega
          generalize PN.fin xs (PN.st0 (fn : Int) n) = s at *
          rw [show ((tn : Int)).toNat = tn from rfl, show ((fn : Int)).toNat = fn from rfl] at HY
          rw [show ((fn : Int)).toNat = fn from rfl] at HVI
          go_wp2_with fail
          refine (CS.out _ HI1.out).mono ?_
          rintro e w2 ⟨g1, g2, c1, c2, rfl, hR⟩
          have hci := hR.cellA ht8
          have l1 := hR.l1
          have HR : Hid _ := hR
          have hB2 : Below w.heap.size w w2 := hb1.trans (hR.bl.mono hb1.size)
          clear CS hR
          have okt := HOS.out tn
          cases hm : s.wh tn with
          | ago => rw [hm] at okt; exact absurd okt id
          | inf =>
            rw [hm] at hci HY
            obtain ⟨rfl, rfl, hLL, -⟩ := HY.out
            obtain rfl := hLL rfl
            simp only [PN.tS] at hci
            clear HY HOK GC HVI HOS HR HI1 hm okt
            go_wp2
            go_ret3
            exact ⟨none, 0, rfl, World.ownsRow_nil _ _ _ _, hB2⟩
          | fin p =>
            rw [hm] at hci HY okt
            obtain ⟨p0, p1⟩ : 0 ≤ p ∧ p ≤ 1048576 := okt
            obtain ⟨rfl, rfl, -, hLL⟩ := HY.out
            have hLw := hLL rfl
            obtain ⟨rk, hV⟩ := HVI.out
            have HB : Hid (PN.Back xs fn s L tn []) := by show PN.Back _ _ _ _ _ _; rw [hLw]; exact PN.Back.start hV ht8 hm
            have hl8 : L.length ≤ 8 := by rw [hLw]; exact PN.way_len xs s.la fn 8 tn
            clear hLw
            have HI2 : Hid (MI5.RowAt w1 a xs) := HI1.out
            simp only [PN.tS] at hci
            have HM : Hid (s.wh tn = .fin N) := hm
            clear HY hLL hV HVI HOS HI1 hm
            go_wp2
            go_loopw [13, 14] (fun ov nv wr => ∃ (v : Nat) (acc : List Int), nv = .int .i64 v ∧ Hid (PN.Back xs fn s L v acc) ∧ wr.ownsRow w1.heap.size 3 1 ov acc.length (M4.iv acc) ∧ PN.SR w1.heap.size w1 wr g1 g2 c1 c2 s) (fun ov _ _ => 8 - PN.lenV ov)
            case atStart => exact ⟨tn, [], rfl, HB, World.ownsRow_nil _ _ _ _, HR.out⟩
            case round =>
              clear HB HR hB2 hci l1
              obtain ⟨v, acc, rfl, hB, hown, hS⟩ := hrel
              by_cases hv : v = fn
              · obtain rfl := hv
                have hLe := PN.Back.end_ hB.out
                have hci : wr.cell? ⟨g1, tn, none⟩ = some (.int .i64 N) := by have := hS.cellA ht8; rw [HM.out] at this; exact this
                have l1 := hS.l1
                obtain ⟨a3, c3, hov, _⟩ := M5.own_view hown
                rw [hov] at hown ⊢
                have HO : Hid _ := hown
                have HBL : Hid (Below w.heap.size w wr) := hb1.trans (hS.bl.mono hb1.size)
                have HLE : Hid _ := hLe
                clear hB hown hS HOK GC HI2 hov hLe hi hz0 hz1 hz2
                go_wp2
                go_quiet (fail)
                go_wp2
                go_ret3
                exact ⟨a3, c3, by rw [HLE.out]; rfl, by rw [HLE.out]; exact M5.own_below (CS6.own_base HO.out hb1.size) (below_drewN (Below.refl _ wr) _), below_drewN HBL.out _⟩
              · obtain ⟨k, hk1, hk2, hk3, hk4⟩ := PN.Back.next HOK.out hB.out hv
                have hv8 := hB.out.lt
                have vv8 : (v : Int) < 8 := by omega
                have kk0 : (0 : Int) ≤ (k : Int) := by omega
                have kk1 : (k : Int) < (xs.length : Int) := by omega
                have hvf : ((v : Int) != (fn : Int)) = true := by simp; omega
                have cb : wr.cell? ⟨g2, v, none⟩ = some (.int .i64 (k : Int)) := by have := hS.cellB hv8; rw [hk1] at this; exact this
                have l2 := hS.l2
                have G := GC.out k hk2
                obtain ⟨i, hii⟩ := Int.eq_ofNat_of_zero_le G.f0
                have hin : (MI5.at_ xs k).a0.toNat = i := by rw [hii]; rfl
                rw [hin] at hk4
                obtain ⟨b4, off4, hab, hlt4, e0, -⟩ := HI2.out.at hk2
                have HB2 : Hid _ := hk4
                have hbs := hS.bl.size
                have hown0 : (wr.alloc (.cells #[.int .i64 (k : Int)] 3)).ownsRow w1.heap.size 3 1 (.slice (some ⟨wr.heap.size, 0, none⟩) 1 1) 1 [.int .i64 (k : Int)] := PN.own_lit1 wr _ _ hbs
                have HO0 : Hid _ := hown0
                have HOA : Hid _ := World.ownsRow.alloc hown (.cells #[.int .i64 (k : Int)] 3)
                have hl8' : acc.length < 8 := hk3
                have HS : Hid _ := hS
                have e0' := fun (W' : World) (h : PN.SR w1.heap.size w1 W' g1 g2 c1 c2 s) => (h.bl.cell (p := ⟨b4, off4 + k * 5, none⟩) hlt4).trans e0
                clear hB G hin hown0 hk4 e0
                rw [hii] at e0'
                have E0 : Hid _ := e0'
                have LA : Hid (s.la v = some k) := hk1
                clear e0' hk1
                rcases hown.2 with ⟨hov, hac⟩ | ⟨g, cap, cur, hov, hg, hgc⟩
                · subst hov
                  obtain rfl : acc = [] := List.eq_nil_of_length_eq_zero hac
                  have hS1 : PN.SR w1.heap.size w1 (wr.alloc (.cells #[.int .i64 (k : Int)] 3)) g1 g2 c1 c2 s := HS.out.kept (Nat.le_refl _) ((Below.refl _ wr).alloc (Nat.le_refl _) _)
                  have c0 := E0.out _ hS1
                  have cb1 : (wr.alloc (.cells #[.int .i64 (k : Int)] 3)).cell? ⟨g2, v, none⟩ = some (.int .i64 (k : Int)) := by have := hS1.cellB hv8; rw [LA.out] at this; exact this
                  have hb4 : b4 < (wr.alloc (.cells #[.int .i64 (k : Int)] 3)).heap.size := Nat.lt_of_lt_of_le hlt4 hS1.bl.size
                  have HS1 : Hid _ := hS1
                  clear hown HS hS hS1 HOA E0 LA
                  subst hab
                  go_wp2_with (at_builtin; refine wpList_append_own_none rfl _ _ 25 rfl w1.heap.size 3 i0 1 Try.underlying25 hi _ _ _ rfl HO0.out rfl ?_)
                  go_roundw
                  case rel => exact ⟨i, [(k : Int)], rfl, HB2, HO0.out, HS1.out⟩
                  case measure => simp [PN.lenV]
                · subst hov
                  have HRN : Hid (∀ j u, (M4.iv acc)[j]? = some u → (wr.alloc (.cells #[.int .i64 (k : Int)] 3)).cell? ((⟨g, 0, none⟩ : Addr).add j) = some u) := fun j u hj => by
                    have hjl : j < acc.length := by have := (List.getElem?_eq_some_iff.1 hj).1; simpa [M4.iv] using this
                    have hadd : (⟨g, 0, none⟩ : Addr).add j = ⟨g, j, none⟩ := by unfold Addr.add; split <;> simp_all
                    rw [hadd, World.ownsRow.cellAt HOA.out j (by omega)]; exact hj
                  clear hown hS hgc hg
                  subst hab
                  go_wp2_with (at_builtin; refine wpList_append_own _ rfl _ _ 25 rfl w1.heap.size 3 i0 (.int .i64 0) 1 8 Try.underlying25 hi hz0 hz1 hz2 rfl (by decide) _ _ _ rfl HO0.out ⟨g, 0, none⟩ acc.length cap (M4.iv acc) rfl ?c0 ?c1 ?c2 ?c3 ?c4 ?c5 ?_)
                  case c0 => simp [M4.iv]
                  case c1 => exact HRN.out
                  case c2 => intro u hu; simp only [M4.iv, List.mem_map] at hu; obtain ⟨z, _, rfl⟩ := hu; rfl
                  case c3 => unfold maxLen; omega
                  case c4 => omega
                  case c5 => simp; omega
                  intro v' w3 hown1 hgrow _
                  have hS3 : PN.SR w1.heap.size w1 w3 g1 g2 c1 c2 s := HS.out.grown (Nat.le_refl _) hgrow
                  have R1 : Hid (w3.ownsRow w1.heap.size 3 1 v' ((k : Int) :: acc).length (M4.iv ((k : Int) :: acc))) := by
                    show w3.ownsRow _ _ _ _ _ _
                    rw [List.length_cons, Nat.add_comm acc.length 1]; exact hown1
                  have hlv := PN.own_len R1.out
                  have c0 := E0.out _ hS3
                  have cb1 : w3.cell? ⟨g2, v, none⟩ = some (.int .i64 (k : Int)) := by have := hS3.cellB hv8; rw [LA.out] at this; exact this
                  have hb4 : b4 < w3.heap.size := Nat.lt_of_lt_of_le hlt4 hS3.bl.size
                  have l23 := hS3.l2
                  have HS3 : Hid _ := hS3
                  clear hown1 hgrow HS HOA HO0 E0 LA HRN hS3 l2 cb
                  go_wp2
                  go_roundw
                  case rel => exact ⟨i, (k : Int) :: acc, rfl, HB2, R1.out, HS3.out⟩
                  case measure => simp only [PN.lenV] at *; rw [hlv]; simp; omega
end Go.Proofs.Ytpdmbobcbehilaa

/- journeyFrom, the program's. -/
namespace Go.Proofs.Ytpdmbobcbehilaa
open Go.RowKit
namespace PN
/-- The result's box, and the journey that is being made. -/
structure JW (w W : World) (rb jb : Nat) (f : Int) (wf : Nat → Nat) (lf : Nat → Int) : Prop where
  r : MA.Rg W rb 0 (jc 0 (fun _ => 0) (fun _ => 0))
  j : MA.Rg W jb 0 (jc f wf lf)
  ne : rb ≠ jb
  br : w.heap.size ≤ rb
  bj : w.heap.size ≤ jb
  bl : Below w.heap.size w W
theorem JW.kept {w W W' : World} {rb jb : Nat} {f : Int} {wf : Nat → Nat} {lf : Nat → Int} (h : JW w W rb jb f wf lf) (hb : Below W.heap.size W W') : JW w W' rb jb f wf lf :=
  ⟨h.r.below hb h.r.lt, h.j.below hb h.j.lt, h.ne, h.br, h.bj, h.bl.trans (hb.mono h.bl.size)⟩
theorem JW.setw {w W : World} {rb jb : Nat} {f : Int} {wf : Nat → Nat} {lf : Nat → Int} (h : JW w W rb jb f wf lf) {i : Nat} (hi : i < 8) (b : Nat) : JW w (W.setCell ⟨jb, 1 + i, none⟩ (.float .f64 b)) rb jb f (put wf i b) lf :=
  ⟨h.r.other (k' := jb) (o' := 1 + i) (vs := [.float .f64 b]) (.inl h.ne), rg_setw h.j hi b, h.ne, h.br, h.bj, MA.below_cells h.bj [.float .f64 b] (1 + i) W h.bl⟩
theorem JW.setl {w W : World} {rb jb : Nat} {f : Int} {wf : Nat → Nat} {lf : Nat → Int} (h : JW w W rb jb f wf lf) {i : Nat} (hi : i < 8) (b : Int) : JW w (W.setCell ⟨jb, 9 + i, none⟩ (.int .i64 b)) rb jb f wf (put lf i b) :=
  ⟨h.r.other (k' := jb) (o' := 9 + i) (vs := [.int .i64 b]) (.inl h.ne), rg_setl h.j hi b, h.ne, h.br, h.bj, MA.below_cells h.bj [.int .i64 b] (9 + i) W h.bl⟩
theorem jw_new (w : World) (t : TypeId) (f : Int) : JW w (((w.alloc (.cells (jc 0 (fun _ => 0) (fun _ => 0)).toArray t)).alloc (.cells (jc 0 (fun _ => 0) (fun _ => 0)).toArray t)).setCells (w.heap.size + 1) 0 (jc f (fun _ => 0) (fun _ => 0))) w.heap.size (w.heap.size + 1) f (fun _ => 0) (fun _ => 0) := by
  have r1 := (MA.Rg.new w (jc 0 (fun _ => 0) (fun _ => 0)) t).alloc (.cells (jc 0 (fun _ => 0) (fun _ => 0)).toArray t)
  have r2 := MA.Rg.new' (w.alloc (.cells (jc 0 (fun _ => 0) (fun _ => 0)).toArray t)) (jc 0 (fun _ => 0) (fun _ => 0)) t (w.heap.size + 1) (by simp)
  exact ⟨r1.other (.inl (by omega)), r2.put (by rw [jc_len, jc_len]), by omega, Nat.le_refl _, by omega, MA.below_cells (by omega) _ _ _ (((Below.refl _ w).alloc (Nat.le_refl _) _).alloc (by simp) _)⟩
def upB (k : Nat) : Nat → Nat := fun i => if i < k then FL.Mo.inf.b else 0
theorem upB_put (k : Nat) : put (upB k) k FL.Mo.inf.b = upB (k + 1) := by
  funext p
  simp only [put, upB]
  by_cases e : p = k
  · subst e; simp
  · rw [if_neg e]
    by_cases h : p < k
    · rw [if_pos h, if_pos (by omega)]
    · rw [if_neg h, if_neg (by omega)]
theorem upB_all {f : Int} {lf : Nat → Int} : jc f (upB 8) lf = jc f (wb ⟨fun _ => .inf, fun _ => none⟩) lf := jc_ext (fun i hi => by simp [upB, wb, hi]) (fun _ _ => rfl)
end PN
theorem Try.infoJ : (Try.prog.info? 90).map (fun i => (i.zero, i.size)) = some (some (.agg (PN.jc 0 (fun _ => 0) (fun _ => 0)).toArray), 17) := by kernel_rfl
theorem Try.sizeJ : (Try.prog.info? 90).map (·.size) = some 17 := by kernel_rfl
theorem Try.builtJ (f : Int) : Try.prog.built 90 [(0, .int .i64 f)] = some (PN.jc f (fun _ => 0) (fun _ => 0)).toArray := by kernel_rfl
theorem MA.build_pJ {P : Program} {ops : Array Oper} {rest : List Oper} {op : Oper} {a : Act} {w : World} {Q : Exit → Act → World → Prop} (hgd : op.guard = none) (ty : TypeId) {parts : Array (Nat × Operand)} (ho : op.op = .build ty parts)
    (ps : List (Nat × Value)) (hps : (parts.map fun (i, x) => (i, a.eval x)).toList = ps) {cs : List Value} (hb : P.built ty ps = some cs.toArray)
    (h : wpList P ops Q rest (a.put op.dst (.agg cs.toArray)) w) : wpList P ops Q (op :: rest) a w := MA.build_m hgd ty ho (by rw [hps]; exact hb) h
set_option linter.unusedSimpArgs false in
set_option maxHeartbeats 3200000 in
set_option maxRecDepth 100000 in
theorem journeyFrom_any (a : Option Addr) (ca : Nat) (xs : List I5) (f n : Int) (w : World) (hok : PN.okP xs = true) (hf0 : 0 ≤ f) (hf1 : f ≤ 7) (hn0 : 0 ≤ n) (hn1 : n ≤ 1000) (hin : MI5.RowAt w a xs) :
    Calls Try.prog 67 #[.slice a xs.length ca, .int .i64 f, .int .i64 n] w fun e w' => e = .returned (.agg (PN.jc f (PN.wb (PN.fin xs (PN.st0 f n))) (PN.lb (PN.fin xs (PN.st0 f n)))).toArray) ∧ Below w.heap.size w w' := by
  have NV : Hid (∀ W : World, Calls Try.prog 73 #[] W fun e w' => e = .returned (.float .f64 FL.Mo.inf.b) ∧ W = w') := fun W => never_any W
  have SF : ∀ (W : World) (ad : Addr) (b : Nat) (m : Mode), (store ad (.float .f64 b) m).run Try.prog W = stored Try.prog W ad (.float .f64 b) m := fun W ad b m => run_store _ W ad _ m rfl
  have HI : Hid (MI5.RowAt w a xs) := hin
  have hlen : xs.length ≤ 20 := ((PN.okP_iff xs).1 hok).1
  have GC : Hid (∀ k, k < xs.length → PN.Good (MI5.at_ xs k)) := fun k hk => PN.okP_good hok hk
  have HOK : Hid _ := hok
  have NX : Hid (∀ (s : PN.St) (W : World), PN.okS s.wh → MI5.RowAt W a xs → Calls Try.prog 74 #[.agg (PN.jc f (PN.wb s) (PN.lb s)).toArray, .slice a xs.length ca] W fun e w' => e = .returned (.tuple #[.int .i64 (PN.nextN (PN.best xs s.wh xs.length)), .bool (PN.best xs s.wh xs.length).isSome]) ∧ Below W.heap.size W w') := fun s W hs hr => next6_any a ca xs f s W hok hs hr
  obtain ⟨fn, rfl⟩ := Int.eq_ofNat_of_zero_le hf0
  have hfn : fn < 8 := by omega
  have ff1 : (fn : Int) < 8 := by omega
  have HN : Hid _ := PN.jw_new w 90 (fn : Int)
  have RZ : Hid (MA.Rg ((w.alloc (.cells (PN.jc 0 (fun _ => 0) (fun _ => 0)).toArray 90)).alloc (.cells (PN.jc 0 (fun _ => 0) (fun _ => 0)).toArray 90)) (w.heap.size + 1) 0 (PN.jc 0 (fun _ => 0) (fun _ => 0))) := MA.Rg.new' _ _ _ _ (by simp)
  clear hin hok
  go_enter Try.func67, Try.ntmps67
  go_wp2_with (first
    | (refine MA.alloc_z rfl 90 rfl _ _ Try.infoJ ?_; simp only [MA.sz_alloc])
    | (refine MA.build_pJ rfl 90 rfl [(0, .int .i64 (fn : Int))] (by simp [Act.eval]) (Try.builtJ _) ?_)
    | (refine MA.store_m rfl 90 _ _ rfl rfl rfl (vs := PN.jc (fn : Int) (fun _ => 0) (fun _ => 0)) (cs := PN.jc 0 (fun _ => 0) (fun _ => 0)) ?_ Try.sizeJ (PN.jc_len _ _ _) (PN.jc_len _ _ _) (PN.jc_one _ _ _) ?_; exact RZ.out; clear RZ; generalize World.setCells _ _ _ _ = W3 at *))
  generalize w.heap.size + 1 = jb at *
  go_loopw [14] (fun iv wr => ∃ k : Nat, iv = .int .i64 k ∧ k ≤ 8 ∧ PN.JW w wr w.heap.size jb (fn : Int) (PN.upB k) (fun _ => 0)) (fun iv _ => (8 - intOf iv).toNat)
  case atStart => exact ⟨0, rfl, by omega, HN.out⟩
  case round =>
    clear HN
    obtain ⟨k, rfl, hk, hJ⟩ := hrel
    by_cases hl : k < 8
    · obtain ⟨q1, z1⟩ := PN.rg_w hJ.j hl
      have hl1 := hJ.j.lt
      have hJ2 := hJ.setw hl FL.Mo.inf.b
      rw [PN.upB_put] at hJ2
      have HJ2 : Hid _ := hJ2
      have kk : (k : Int) < 8 := by omega
      clear hJ hJ2
      go_wp2_with fail
      refine (NV.out _).mono ?_
      rintro e w' ⟨rfl, rfl⟩
      go_wp2
      go_roundw
      case rel => exact ⟨k + 1, by go_num, by omega, HJ2.out⟩
      case measure => simp [intOf]; omega
    · obtain rfl : k = 8 := by omega
      have hJ0 : PN.JW w wr w.heap.size jb (fn : Int) (PN.wb ⟨fun _ => .inf, fun _ => none⟩) (PN.lb ⟨fun _ => .inf, fun _ => none⟩) := by
        have h := hJ.j
        rw [PN.upB_all] at h
        exact ⟨hJ.r, h, hJ.ne, hJ.br, hJ.bj, hJ.bl⟩
      obtain ⟨q1, z1⟩ := PN.rg_w hJ0.j hfn
      have hl1 := hJ0.j.lt
      have hJ1 := hJ0.setw hfn (FL.Mo.fin n).b
      rw [PN.wb_put _ _ _ (fun _ => none)] at hJ1
      have HS0 : Hid (PN.JW w (wr.setCell ⟨jb, 1 + fn, none⟩ (.float .f64 (floatOfInt .f64 n))) w.heap.size jb (fn : Int) (PN.wb (PN.st0 (fn : Int) n)) (PN.lb (PN.st0 (fn : Int) n))) := hJ1
      have HOS : Hid (PN.okS (PN.st0 (fn : Int) n).wh) := PN.st0_ok hn0 hn1
      clear hJ hJ0 hJ1
      generalize hst : PN.st0 (fn : Int) n = s0 at *
      have HR0 : Hid (MA.Rg (wr.setCell ⟨jb, 1 + fn, none⟩ (.float .f64 (floatOfInt .f64 n))) jb 0 (PN.jc (fn : Int) (PN.wb s0) (PN.lb s0))) := HS0.out.j
      go_wp2_with (refine MA.load_m rfl 90 _ rfl rfl (cs := PN.jc (fn : Int) (PN.wb s0) (PN.lb s0)) ?_ Try.underlying90 rfl Try.sizeJ (PN.jc_len _ _ _) ?_; exact HR0.out; clear HR0)
      generalize wr.setCell ⟨jb, 1 + fn, none⟩ (.float .f64 (floatOfInt .f64 n)) = W4 at *
      clear q1 z1 hl1
      refine (NX.out s0 _ HOS.out (HI.out.below HS0.out.bl)).mono ?_
      rintro e w5 ⟨rfl, hb5⟩
      have HS5 : Hid _ := HS0.out.kept hb5
      clear HS0 hb5
      generalize hbest : PN.best xs s0.wh xs.length = R0 at *
      have HBT : Hid _ := hbest
      clear hbest
      go_wp2
      go_loopw [9, 10] (fun kv ov wr => ∃ s : PN.St, kv = .int .i64 (PN.nextN (PN.best xs s.wh xs.length)) ∧ ov = .bool (PN.best xs s.wh xs.length).isSome ∧ PN.JW w wr w.heap.size jb (fn : Int) (PN.wb s) (PN.lb s) ∧ Hid (PN.okS s.wh) ∧ Hid (PN.fin xs s = PN.fin xs s0)) (fun _ _ wr => PN.MJ jb wr)
      case atStart => exact ⟨s0, by rw [HBT.out], by rw [HBT.out], HS5.out, HOS, rfl⟩
      case round =>
        clear HS5 HOS HBT
        obtain ⟨s, rfl, rfl, hJ, hO, hF⟩ := hrel
        have HM : Hid (PN.MJ jb wr = PN.mu s.wh) := PN.JR.mu hJ.j hO.out
        cases hb : PN.best xs s.wh xs.length with
        | none =>
          have hE : Hid (s = PN.fin xs s0) := by show s = _; rw [← hF.out, PN.fin_none hb]
          have HRJ : Hid (MA.Rg wr jb 0 (PN.jc (fn : Int) (PN.wb s) (PN.lb s))) := hJ.j
          have HRR : Hid (MA.Rg wr w.heap.size 0 (PN.jc 0 (fun _ => 0) (fun _ => 0))) := hJ.r
          have HRP : Hid (MA.Rg (wr.setCells w.heap.size 0 (PN.jc (fn : Int) (PN.wb s) (PN.lb s))) w.heap.size 0 (PN.jc (fn : Int) (PN.wb s) (PN.lb s))) := hJ.r.put (by rw [PN.jc_len, PN.jc_len])
          have HBP : Hid (Below w.heap.size w (wr.setCells w.heap.size 0 (PN.jc (fn : Int) (PN.wb s) (PN.lb s)))) := MA.below_cells (Nat.le_refl _) _ _ _ hJ.bl
          clear hb hF hO hJ HM HOK GC HI NX NV SF
          go_wp2_with (first
            | (refine MA.load_m rfl 90 _ rfl rfl (cs := PN.jc (fn : Int) (PN.wb s) (PN.lb s)) ?_ Try.underlying90 rfl Try.sizeJ (PN.jc_len _ _ _) ?_; exact HRJ.out; clear HRJ)
            | (refine MA.store_m rfl 90 _ _ rfl rfl rfl (vs := PN.jc (fn : Int) (PN.wb s) (PN.lb s)) (cs := PN.jc 0 (fun _ => 0) (fun _ => 0)) ?_ Try.sizeJ (PN.jc_len _ _ _) (PN.jc_len _ _ _) (PN.jc_one _ _ _) ?_; exact HRR.out; clear HRR))
          exact bodyPost_ret (MA.ret_cell rfl rfl (MA.load_rg HRP.out Try.underlying90 rfl Try.sizeJ (PN.jc_len _ _ _))) rfl ⟨by rw [hst, ← hE.out], HBP.out⟩
        | some p =>
          obtain ⟨kb, t⟩ := p
          obtain ⟨hkb, hA, hE⟩ := PN.best_is hb
          obtain ⟨hO2, hmu⟩ := PN.step_ok HOK.out hO.out hb
          have hF2 : Hid (PN.fin xs (PN.take1 xs s kb t) = PN.fin xs s0) := by show _ = _; rw [← hF.out, PN.fin_some HOK.out hO.out hb]
          have G := GC.out kb hkb
          obtain ⟨b4, off4, hab, hlt4, e0, e1, e2, e3, e4⟩ := (HI.out.below hJ.bl).at hkb
          obtain ⟨i, hi⟩ := Int.eq_ofNat_of_zero_le G.f0
          obtain ⟨j, hj⟩ := Int.eq_ofNat_of_zero_le G.t0
          have hi8 : i < 8 := by have := G.f1; omega
          have hj8 : j < 8 := by have := G.t1; omega
          have hij : i ≠ j := by have := G.ne; omega
          have ii0 : (0 : Int) ≤ (i : Int) := by omega
          have ii8 : (i : Int) < 8 := by omega
          have jj0 : (0 : Int) ≤ (j : Int) := by omega
          have jj8 : (j : Int) < 8 := by omega
          have kk0 : (0 : Int) ≤ (kb : Int) := by omega
          have kk1 : (kb : Int) < (xs.length : Int) := by omega
          have hin : (MI5.at_ xs kb).a0.toNat = i := by rw [hi]; rfl
          have hjn : (MI5.at_ xs kb).a1.toNat = j := by rw [hj]; rfl
          rw [hin] at hA
          have AR : Hid (∀ W : World, Calls Try.prog 75 #[(MI5.at_ xs kb).v, .float .f64 (s.wh i).b] W fun e w' => e = .returned (.float .f64 (FL.Mo.fin t).b) ∧ Below W.heap.size W w') := fun W => by
            have := arrival_any (MI5.at_ xs kb) (s.wh i) W G (hO.out i)
            rw [hA] at this; exact this
          have hST : (⟨PN.put s.wh j (.fin t), PN.put s.la j (some kb)⟩ : PN.St) = PN.take1 xs s kb t := by unfold PN.take1; rw [hjn]
          have HST : Hid _ := hST
          have HO2 : Hid _ := hO2
          have HMU : Hid (PN.mu (PN.take1 xs s kb t).wh < PN.mu s.wh) := hmu
          rw [hi] at e0
          rw [hj] at e1
          have HJA : Hid (PN.JW w (wr.alloc (.cells #[.int .i64 (i : Int), .int .i64 (j : Int), .int .i64 (MI5.at_ xs kb).a2, .int .i64 (MI5.at_ xs kb).a3, .int .i64 (MI5.at_ xs kb).a4] 50)) w.heap.size jb (fn : Int) (PN.wb s) (PN.lb s)) := hJ.kept ((Below.refl _ wr).alloc (Nat.le_refl _) _)
          have hjq : jb < wr.heap.size := hJ.j.lt
          clear hb hF hO GC G hjn hin hA hE hST hO2 hmu hJ
          generalize hx : MI5.at_ xs kb = x at *
          obtain ⟨x0, x1, x2, x3, x4⟩ := x
          simp only at hi hj e0 e1 e2 e3 e4
          subst hi hj
          clear hx
          subst hab
          have F0 : Hid ((wr.alloc (.cells #[.int .i64 (i : Int), .int .i64 (j : Int), .int .i64 x2, .int .i64 x3, .int .i64 x4] 50)).cell? ⟨wr.heap.size, 0, none⟩ = some (.int .i64 (i : Int))) := by show _ = _; simp
          have F1 : Hid ((wr.alloc (.cells #[.int .i64 (i : Int), .int .i64 (j : Int), .int .i64 x2, .int .i64 x3, .int .i64 x4] 50)).cell? ⟨wr.heap.size, 1, none⟩ = some (.int .i64 (j : Int))) := by show _ = _; simp
          have F2 : Hid ((wr.alloc (.cells #[.int .i64 (i : Int), .int .i64 (j : Int), .int .i64 x2, .int .i64 x3, .int .i64 x4] 50)).cell? ⟨wr.heap.size, 2, none⟩ = some (.int .i64 x2)) := by show _ = _; simp
          have F3 : Hid ((wr.alloc (.cells #[.int .i64 (i : Int), .int .i64 (j : Int), .int .i64 x2, .int .i64 x3, .int .i64 x4] 50)).cell? ⟨wr.heap.size, 3, none⟩ = some (.int .i64 x3)) := by show _ = _; simp
          have F4 : Hid ((wr.alloc (.cells #[.int .i64 (i : Int), .int .i64 (j : Int), .int .i64 x2, .int .i64 x3, .int .i64 x4] 50)).cell? ⟨wr.heap.size, 4, none⟩ = some (.int .i64 x4)) := by show _ = _; simp
          have HQ : Hid (wr.heap.size < (wr.alloc (.cells #[.int .i64 (i : Int), .int .i64 (j : Int), .int .i64 x2, .int .i64 x3, .int .i64 x4] 50)).heap.size) := by show _ < _; simp
          rw [show PN.nextN (some (kb, t)) = (kb : Int) from rfl, show (some (kb, t)).isSome = true from rfl]
          go_wp2_with fail
          clear e0 e1 e2 e3 e4 hlt4
          generalize (wr.alloc (.cells #[.int .i64 (i : Int), .int .i64 (j : Int), .int .i64 x2, .int .i64 x3, .int .i64 x4] 50)) = W1 at *
          generalize wr.heap.size = q at *
          have f0 := F0.out
          have f1 := F1.out
          have f2 := F2.out
          have f3 := F3.out
          have f4 := F4.out
          have hq := HQ.out
          have hci : W1.cell? ⟨jb, 1 + i, none⟩ = some (.float .f64 (s.wh i).b) := (PN.rg_w HJA.out.j hi8).1
          have hjb := HJA.out.j.lt
          have hqj : q ≠ jb := by omega
          have hqj' : jb ≠ q := by omega
          clear F0 F1 F2 F3 F4 HQ
          go_region_held3 (fun w' => w'.cell? ⟨q, 0, none⟩ = some (.int .i64 (i : Int)) ∧ w'.cell? ⟨q, 1, none⟩ = some (.int .i64 (j : Int)) ∧ w'.cell? ⟨q, 2, none⟩ = some (.int .i64 x2) ∧ w'.cell? ⟨q, 3, none⟩ = some (.int .i64 x3) ∧ w'.cell? ⟨q, 4, none⟩ = some (.int .i64 x4) ∧ w'.cell? ⟨jb, 1 + i, none⟩ = some (.float .f64 (s.wh i).b)) (first | assumption | go_keep) (first | (go_at_call 75; refine Calls.mono (AR.out _) ?_; rintro e w3 ⟨rfl, hb3⟩; have k0 : w3.cell? ⟨q, 0, none⟩ = some (.int .i64 (i : Int)) := (hb3.cell (p := ⟨q, 0, none⟩) (by simpa using hq)).trans (by simpa using f0); have k1 : w3.cell? ⟨q, 1, none⟩ = some (.int .i64 (j : Int)) := (hb3.cell (p := ⟨q, 1, none⟩) (by simpa using hq)).trans (by simpa using f1); have k2 : w3.cell? ⟨q, 2, none⟩ = some (.int .i64 x2) := (hb3.cell (p := ⟨q, 2, none⟩) (by simpa using hq)).trans (by simpa using f2); have k3 : w3.cell? ⟨q, 3, none⟩ = some (.int .i64 x3) := (hb3.cell (p := ⟨q, 3, none⟩) (by simpa using hq)).trans (by simpa using f3); have k4 : w3.cell? ⟨q, 4, none⟩ = some (.int .i64 x4) := (hb3.cell (p := ⟨q, 4, none⟩) (by simpa using hq)).trans (by simpa using f4); have ki : w3.cell? ⟨jb, 1 + i, none⟩ = some (.float .f64 (s.wh i).b) := (hb3.cell (p := ⟨jb, 1 + i, none⟩) (by simpa using hjb)).trans (by simpa using hci); have HJ3 := HJA.out.kept (((Below.refl _ W1).drew).trans hb3); obtain ⟨kj, zj⟩ := PN.rg_w HJ3.j hj8; have HJ4 := HJ3.setw hj8 (FL.Mo.fin t).b; obtain ⟨kl, zl⟩ := PN.rg_l HJ4.j hj8; have HJ5 := HJ4.setl hj8 (kb : Int); have ki4 : (w3.setCell ⟨jb, 1 + j, none⟩ (.float .f64 (FL.Mo.fin t).b)).cell? ⟨jb, 1 + i, none⟩ = some (.float .f64 (s.wh i).b) := (PN.rg_w HJ4.j hi8).1.trans (by rw [PN.put_ne _ _ hij]; rfl); have ki5 : ((w3.setCell ⟨jb, 1 + j, none⟩ (.float .f64 (FL.Mo.fin t).b)).setCell ⟨jb, 9 + j, none⟩ (.int .i64 (kb : Int))).cell? ⟨jb, 1 + i, none⟩ = some (.float .f64 (s.wh i).b) := (PN.rg_w HJ5.j hi8).1.trans (by rw [PN.put_ne _ _ hij]; rfl)))
          rw [PN.wb_put s j (.fin t) (PN.put s.la j (some kb)), PN.lb_put s j kb (PN.put s.wh j (.fin t)), HST.out] at HJ5
          clear k0 k1 k2 k3 k4 ki kj zj kl zl ki4 ki5 HJ3 HJ4 hb3 f0 f1 f2 f3 f4 hq hci hjb HJA AR HST hqj hqj' hjq
          have HJ6 : Hid _ := HJ5
          have HR6 : Hid (MA.Rg ((w3.setCell ⟨jb, 1 + j, none⟩ (.float .f64 (FL.Mo.fin t).b)).setCell ⟨jb, 9 + j, none⟩ (.int .i64 (kb : Int))) jb 0 (PN.jc (fn : Int) (PN.wb (PN.take1 xs s kb t)) (PN.lb (PN.take1 xs s kb t)))) := HJ5.j
          clear HJ5
          generalize (w3.setCell ⟨jb, 1 + j, none⟩ (.float .f64 (FL.Mo.fin t).b)).setCell ⟨jb, 9 + j, none⟩ (.int .i64 (kb : Int)) = W5 at *
          generalize PN.take1 xs s kb t = s' at *
          go_wp2_with (refine MA.load_m rfl 90 _ rfl rfl (cs := PN.jc (fn : Int) (PN.wb s') (PN.lb s')) ?_ Try.underlying90 rfl Try.sizeJ (PN.jc_len _ _ _) ?_; exact HR6.out; clear HR6)
          refine (NX.out s' _ HO2.out (HI.out.below HJ6.out.bl)).mono ?_
          rintro e w6 ⟨rfl, hb6⟩
          have HJ7 : Hid _ := HJ6.out.kept hb6
          have HM7 : Hid (PN.MJ jb w6 = PN.mu s'.wh) := PN.JR.mu HJ7.out.j HO2.out
          clear hb6 HJ6
          go_wp2
          go_roundw
          case rel => exact ⟨s', rfl, rfl, HJ7.out, HO2, hF2⟩
          case measure => rw [HM.out, HM7.out]; exact HMU.out
end Go.Proofs.Ytpdmbobcbehilaa

/- Who is reached, in time and near enough: plain facts; one reach more in memory. -/
namespace Go.Proofs.Ytpdmbobcbehilaa
open Go.RowKit
namespace RQ
open PN
theorem new3 (W : World) (x y z : Value) (e : TypeId) (n : Nat) (hn : W.heap.size = n) : ∀ (j : Nat) (u : Value), [x, y, z][j]? = some u → (W.alloc (.cells #[x, y, z] e)).cell? ((⟨n, 0, none⟩ : Addr).add j) = some u := by
  subst hn
  intro j u hj
  have hl : j < 3 := by have := (List.getElem?_eq_some_iff.1 hj).1; simpa using this
  have ha : (⟨W.heap.size, 0, none⟩ : Addr).add j = ⟨W.heap.size, j, none⟩ := by unfold Addr.add; split <;> simp_all
  rw [ha, World.cell?_alloc_new]
  simpa using hj
theorem one3 (p : Rq) : ∀ u ∈ p.cs, u.oneCell' = true := by intro u hu; simp at hu; rcases hu with rfl | rfl | rfl <;> rfl
theorem only_grown {w w' : World} {v : Value} {g : Nat} (hg : w.grownBy w' v.ownBlock) (h : ∀ k, v.ownBlock = some k → k = g) : MC.Only g w w' := by
  refine ⟨hg.os, hg.tape, hg.output, hg.size, fun k hk hne => hg.block k hk (fun e => hne (h k e.symm))⟩
/-- One reach more behind the last, its row in a block of its own that is younger. -/
theorem Own.snoc {T : TypeId} (hT : T ≠ 3) {w w' : World} {B X : Nat} {v v' : Value} {ps : List Rq} {q : Rq} (h : Own T w B v ps) (hq : NR.In w X q.a q.os) (hBX : B ≤ X) (hold : ∀ p, p ∈ ps → p.os ≠ [] → ∀ g, p.a = some ⟨g, 0, none⟩ → g < X) (hg : w.grownBy w' v.ownBlock) (ho : w'.ownsRow B T 3 v' (ps.length + 1) (flat ps ++ q.cs)) : Own T w' B v' (ps ++ [q]) := by
  have hr : Rows w B (ps ++ [q]) := h.rows.snoc (hq.mono hBX) (fun p hp h1 h2 e => by
    obtain ⟨g, hg⟩ := (h.rows.row p hp).some h1
    have h3 := hold p hp h1 g hg
    rw [← e, hg] at hq
    have := (hq.lt h2).1
    omega)
  refine ⟨by rw [flat_app, List.length_append]; exact ho, ?_⟩
  rcases h.out.2 with ⟨rfl, h0⟩ | ⟨g, cap, cur, rfl, rest⟩
  · refine ⟨fun p hp => ?_, hr.far⟩
    by_cases e : p.os = []
    · rw [e]; exact .nil _ _ _
    · obtain ⟨k, hk⟩ := (hr.row p hp).some e
      exact (hr.row p hp).only (p := k + 1) (only_grown hg (fun k h => by cases h)) (fun e => by rw [hk] at e; simp at e)
  · exact hr.only hT h.out (only_grown hg (fun k h => by simp only [Value.ownBlock, Option.some.injEq] at h; exact h.symm))
theorem Own.only2 {T : TypeId} {w w' : World} {B p : Nat} {v : Value} {ps : List Rq} (h : Own T w B v ps) (ho : MC.Only p w w') (hp : p < B) : Own T w' B v ps := by
  refine ⟨NR.own_only h.out ho (fun e => by have := (h.out.lt _ e).1; omega), fun q hq => ?_, h.rows.far⟩
  by_cases e : q.os = []
  · rw [e]; exact .nil _ _ _
  · refine (h.rows.row q hq).only ho (fun ea => ?_)
    have r := h.rows.row q hq
    rw [ea] at r
    have := (r.lt e).1; omega
/-- Whoever the rows' blocks are, they are there by now. -/
theorem Rows.lt {w : World} {B : Nat} {ps : List Rq} (h : Rows w B ps) : ∀ p, p ∈ ps → p.os ≠ [] → ∀ g, p.a = some ⟨g, 0, none⟩ → g < w.heap.size := fun p hp h1 g hg => by
  have := h.row p hp
  rw [hg] at this
  exact (this.lt h1).2
/-- What RouteTo tells of a member. -/
def one (xs : List I5) (b : Bd) (m : Int) : Int × Int × List Int := (m, tellN (routeM xs b.fr b.md m), routeL xs b.fr b.md m)
def there (xs : List I5) (b : Bd) (m : Int) : Bool := tellB (routeM xs b.fr b.md m)
def allL (xs : List I5) (b : Bd) (ms : List Int) : List (Int × Int × List Int) := (ms.filter (there xs b)).map (one xs b)
def inTime (n : Int) (r : Int × Int × List Int) : Bool := decide (r.2.1 ≤ n)
def near (n : Int) (r : Int × Int × List Int) : Bool := decide ((r.2.2.length : Int) ≤ n)
def reaL (xs : List I5) (b : Bd) (ms : List Int) : List (Int × Int × List Int) := ((allL xs b ms).filter (inTime (b.md + b.lf))).filter (near b.hp)
noncomputable def reaOk (xs : List I5) (b : Bd) (ms : List Int) : Bool := GP.fitsB xs b && EG.rises 8 ms
noncomputable def reaA (xs : List I5) (b : Bd) (ms : List Int) : List (Int × Int × List Int) := if reaOk xs b ms = true then reaL xs b ms else []
theorem allL_yes {xs : List I5} {b : Bd} {ms : List Int} {k : Nat} (hk : k < ms.length) (h : there xs b (ms.getD k 0) = true) : allL xs b (ms.take (k + 1)) = allL xs b (ms.take k) ++ [one xs b (ms.getD k 0)] := by
  unfold allL; rw [M4.take_snoc _ _ hk, List.filter_append, List.filter_cons, if_pos h, List.map_append]; rfl
theorem allL_no {xs : List I5} {b : Bd} {ms : List Int} {k : Nat} (hk : k < ms.length) (h : there xs b (ms.getD k 0) = false) : allL xs b (ms.take (k + 1)) = allL xs b (ms.take k) := by
  unfold allL; rw [M4.take_snoc _ _ hk, List.filter_append, List.filter_cons, h]; simp
def okOne (xs : List I5) (b : Bd) (m : Int) : Bool := there xs b m && inTime (b.md + b.lf) (one xs b m) && near b.hp (one xs b m)
theorem reaL_yes {xs : List I5} {b : Bd} {ms : List Int} {k : Nat} (hk : k < ms.length) (h : okOne xs b (ms.getD k 0) = true) : reaL xs b (ms.take (k + 1)) = reaL xs b (ms.take k) ++ [one xs b (ms.getD k 0)] := by
  simp only [okOne, Bool.and_eq_true] at h
  unfold reaL; rw [allL_yes hk h.1.1, List.filter_append, List.filter_append, List.filter_cons, if_pos h.1.2, List.filter_nil, List.filter_cons, if_pos h.2]; rfl
theorem reaL_no {xs : List I5} {b : Bd} {ms : List Int} {k : Nat} (hk : k < ms.length) (h : okOne xs b (ms.getD k 0) = false) : reaL xs b (ms.take (k + 1)) = reaL xs b (ms.take k) := by
  cases h1 : there xs b (ms.getD k 0) with
  | false => unfold reaL; rw [allL_no hk h1]
  | true =>
    unfold okOne at h
    rw [h1, Bool.true_and] at h
    unfold reaL; rw [allL_yes hk h1]
    generalize one xs b (ms.getD k 0) = r at *
    rw [List.filter_append, List.filter_append, List.filter_cons]
    cases h2 : inTime (b.md + b.lf) r with
    | false => simp
    | true =>
      rw [h2, Bool.true_and] at h
      simp [h]
theorem allL_len (xs : List I5) (b : Bd) (ms : List Int) : (allL xs b ms).length ≤ ms.length := by unfold allL; rw [List.length_map]; exact List.length_filter_le _ _
theorem reaL_len (xs : List I5) (b : Bd) (ms : List Int) : (reaL xs b ms).length ≤ ms.length := by
  unfold reaL
  exact Nat.le_trans (List.length_filter_le _ _) (Nat.le_trans (List.length_filter_le _ _) (allL_len xs b ms))
theorem said_filter (f : Int × Int × List Int → Bool) : ∀ ps : List Rq, (ps.filter (fun p => f p.said)).map Rq.said = (ps.map Rq.said).filter f := fun ps => by rw [List.filter_map]; rfl
theorem rea_no {xs : List I5} {b : Bd} {ms : List Int} (h : reaOk xs b ms = false) : reaA xs b ms = [] := by unfold reaA; rw [h]; rfl
theorem rea_yes {xs : List I5} {b : Bd} {ms : List Int} (h : reaOk xs b ms = true) : reaA xs b ms = reaL xs b ms := by unfold reaA; rw [if_pos h]
theorem reaA_len (xs : List I5) (b : Bd) (ms : List Int) : (reaA xs b ms).length ≤ 8 := by
  unfold reaA
  split
  · next h =>
    unfold reaOk at h
    rw [Bool.and_eq_true] at h
    exact Nat.le_trans (reaL_len xs b ms) (GP.rises_len h.2)
  · simp
theorem reaA_row (xs : List I5) (b : Bd) (ms : List Int) : ∀ r, r ∈ reaA xs b ms → r.2.2.length ≤ 1048576 := by
  unfold reaA
  split
  · intro r hr
    have h1 := (List.mem_filter.1 (List.mem_filter.1 hr).1).1
    obtain ⟨m, _, rfl⟩ := List.mem_map.1 h1
    exact PN.routeL_len _ _ _ _
  · intro r hr; simp at hr
end RQ
end Go.Proofs.Ytpdmbobcbehilaa

/- RouteTo, the program's. -/
namespace Go.Proofs.Ytpdmbobcbehilaa
open Go.RowKit
set_option linter.unusedSimpArgs false in
set_option maxHeartbeats 3200000 in
set_option maxRecDepth 100000 in
theorem rowTo_any (a : Option Addr) (ca : Nat) (xs : List I5) (fn tn : Nat) (s : PN.St) (L : List Int) (w : World) (hok : PN.okP xs = true) (hf8 : fn < 8) (hBk : PN.Back xs fn s L tn []) (hin : MI5.RowAt w a xs) :
    Calls Try.prog 69 #[.agg (PN.jc (fn : Int) (PN.wb s) (PN.lb s)).toArray, .slice a xs.length ca, .int .i64 (tn : Int)] w fun e w' => ∃ a1 c1, e = .returned (.slice a1 L.length c1) ∧ w'.ownsRow w.heap.size 3 1 (.slice a1 L.length c1) L.length (M4.iv L) ∧ Below w.heap.size w w' := by
  obtain ⟨i0, hi, hz0, hz1, hz2⟩ := info_parts Try.info3
  have HI : Hid (MI5.RowAt w a xs) := hin
  have HOK : Hid _ := hok
  have GC : Hid (∀ k, k < xs.length → PN.Good (MI5.at_ xs k)) := fun k hk => PN.okP_good hok hk
  have HJ : Hid _ := MA.Rg.new w (PN.jc (fn : Int) (PN.wb s) (PN.lb s)) 90
  have HB0 : Hid (Below w.heap.size w (w.alloc (.cells (PN.jc (fn : Int) (PN.wb s) (PN.lb s)).toArray 90))) := (Below.refl _ w).alloc (Nat.le_refl _) _
  have HBK : Hid _ := hBk
  have RV : Hid (∀ (base g cap : Nat) (zs : List Int) (W : World), zs.length ≤ 1048576 → base ≤ W.heap.size → W.ownsRow base 3 1 (.slice (some ⟨g, 0, none⟩) zs.length cap) zs.length (M4.iv zs) → Calls Try.prog 77 #[.slice (some ⟨g, 0, none⟩) zs.length cap] W fun e w' => e = .returned (.tuple #[]) ∧ w'.ownsRow base 3 1 (.slice (some ⟨g, 0, none⟩) zs.length cap) zs.length (M4.iv zs.reverse) ∧ Below base W w') := fun base g cap zs W h1 h2 h3 => reverse_any base g cap zs W h1 h2 h3
  clear hin hok hBk
  go_enter Try.func69, Try.ntmps69
  generalize hW0 : w.alloc (.cells (PN.jc (fn : Int) (PN.wb s) (PN.lb s)).toArray 90) = W0 at HJ HB0
  have HSZ : Hid (W0.heap.size = w.heap.size + 1) := by show _ = _; rw [← hW0]; simp
  have HB1 : Hid (Below W0.heap.size W0 (W0.alloc (.cells #[] 3))) := (Below.refl _ W0).alloc (Nat.le_refl _) _
  go_wp2
  generalize hW1 : W0.alloc (.cells #[] 3) = W1 at *
  go_loopw [7, 8] (fun rv nv wr => ∃ (v : Nat) (acc : List Int) (g cap : Nat), nv = .int .i64 v ∧ rv = .slice (some ⟨g, 0, none⟩) acc.length cap ∧ Hid (PN.Back xs fn s L v acc) ∧ wr.ownsRow W0.heap.size 3 1 (.slice (some ⟨g, 0, none⟩) acc.length cap) acc.length (M4.iv acc.reverse) ∧ Below W0.heap.size W0 wr) (fun rv _ _ => 8 - PN.lenV rv)
  case atStart => exact ⟨tn, [], W0.heap.size, 0, rfl, rfl, HBK, by have h := PN.own_lit0 W0 W0.heap.size (Nat.le_refl _); rw [hW1] at h; exact h, HB1.out⟩
  case round =>
    clear HBK HB1 hW1
    obtain ⟨v, acc, g, cap, rfl, rfl, hB, hown, hb⟩ := hrel
    have hJr := MA.Rg.below HJ.out hb HJ.out.lt
    have cf : wr.cell? ⟨w.heap.size, 0, none⟩ = some (.int .i64 (fn : Int)) := by have := hJr.cell (PN.jc_f _ _ _); rwa [Nat.zero_add] at this
    have hjb := hJr.lt
    by_cases hv : v = fn
    · subst hv
      have hLe := PN.Back.end_ hB.out
      have hlen : acc.length ≤ 8 := by obtain ⟨_, m, _, _, h, _⟩ := hB.out.go; omega
      have HLE : Hid _ := hLe
      have HO : Hid (wr.ownsRow W0.heap.size 3 1 (.slice (some ⟨g, 0, none⟩) acc.length cap) acc.length (M4.iv acc.reverse)) := hown
      clear hB hown HOK GC hLe hi hz0 hz1 hz2 hJr
      have hrl : acc.reverse.length = acc.length := by simp
      have RV1 : Hid (Calls Try.prog 77 #[.slice (some ⟨g, 0, none⟩) acc.length cap] wr fun e w' => e = .returned (.tuple #[]) ∧ w'.ownsRow W0.heap.size 3 1 (.slice (some ⟨g, 0, none⟩) acc.length cap) acc.length (M4.iv acc) ∧ Below W0.heap.size wr w') := by
        have h := RV.out W0.heap.size g cap acc.reverse wr (by rw [hrl]; omega) hb.size (by rw [hrl]; exact HO.out)
        rw [hrl, List.reverse_reverse] at h
        exact h
      clear RV hrl HO
      go_wp2_with fail
      refine Calls.mono RV1.out ?_
      rintro e w3 ⟨rfl, hown3, hb3⟩
      have HO3 : Hid (w3.ownsRow W0.heap.size 3 1 (.slice (some ⟨g, 0, none⟩) acc.length cap) acc.length (M4.iv acc)) := hown3
      have HBB : Hid (Below w.heap.size w w3) := HB0.out.trans ((hb.trans hb3).mono HB0.out.size)
      clear hown3 hb3 RV1 cf
      go_wp2
      go_ret
      exact ⟨some ⟨g, 0, none⟩, cap, by rw [HLE.out]; rfl, by rw [HLE.out]; exact CS6.own_base HO3.out HB0.out.size, HBB.out⟩
    · obtain ⟨k, hk1, hk2, hk3, hk4⟩ := PN.Back.next HOK.out hB.out hv
      have hv8 := hB.out.lt
      have vv8 : (v : Int) < 8 := by omega
      have kk0 : (0 : Int) ≤ (k : Int) := by omega
      have kk1 : (k : Int) < (xs.length : Int) := by omega
      have hvf : ((v : Int) != (fn : Int)) = true := by simp; omega
      have cl : wr.cell? ⟨w.heap.size, 9 + v, none⟩ = some (.int .i64 (k : Int)) := by have := (PN.rg_l hJr hv8).1; simp only [PN.lb, hk1, PN.kI] at this; exact this
      have G := GC.out k hk2
      obtain ⟨i, hii⟩ := Int.eq_ofNat_of_zero_le G.f0
      have hin : (MI5.at_ xs k).a0.toNat = i := by rw [hii]; rfl
      rw [hin] at hk4
      obtain ⟨b4, off4, hab, hlt4, e0, -⟩ := (HI.out.below HB0.out).at hk2
      rw [hii] at e0
      have HB2 : Hid _ := hk4
      have LK : Hid (s.la v = some k) := hk1
      have HOA : Hid (World.ownsRow (wr.alloc (.cells #[.int .i64 (k : Int)] 3)) W0.heap.size 3 1 (.slice (some ⟨g, 0, none⟩) acc.length cap) acc.length (M4.iv acc.reverse)) := World.ownsRow.alloc hown (.cells #[.int .i64 (k : Int)] 3)
      have HO : Hid (World.ownsRow wr W0.heap.size 3 1 (.slice (some ⟨g, 0, none⟩) acc.length cap) acc.length (M4.iv acc.reverse)) := hown
      have hbs := hb.size
      clear hB G hin hk4 hk1 hown hJr
      go_wp2_with (at_builtin; refine wpList_append_own _ rfl _ _ 25 rfl W0.heap.size 3 i0 (.int .i64 0) 1 8 Try.underlying25 hi hz0 hz1 hz2 rfl (by decide) _ _ _ rfl HOA.out ⟨wr.heap.size, 0, none⟩ 1 1 [.int .i64 (k : Int)] rfl rfl ?c1 ?c2 ?c3 ?c4 ?c5 ?_)
      case c1 => exact M2.new1 _ _ _
      case c2 => exact M2.one1 _ _
      case c3 => unfold maxLen; omega
      case c4 => omega
      case c5 => simp; omega
      intro v' w3 hown1 hgrow hnn
      have hb3 : Below W0.heap.size W0 w3 := (hb.alloc hbs _).grown hgrow (by simp; omega) (fun j hj => (World.ownsRow.lt HO.out j hj).1)
      have hJ3 := MA.Rg.below HJ.out hb3 HJ.out.lt
      have cl3 : w3.cell? ⟨w.heap.size, 9 + v, none⟩ = some (.int .i64 (k : Int)) := by have := (PN.rg_l hJ3 hv8).1; simp only [PN.lb, LK.out, PN.kI] at this; exact this
      have hjb3 := hJ3.lt
      have c0 := (hb3.cell (p := ⟨b4, off4 + k * 5, none⟩) hlt4).trans e0
      have hb4 : b4 < w3.heap.size := Nat.lt_of_lt_of_le hlt4 hb3.size
      obtain ⟨g', cap', rfl⟩ : ∃ g' cap', v' = .slice (some ⟨g', 0, none⟩) (acc.length + 1) cap' := by
        rcases hown1.2 with ⟨h1, h2⟩ | ⟨g', cap', cur, h1, _⟩
        · omega
        · exact ⟨g', cap', h1⟩
      have R1 : Hid (w3.ownsRow W0.heap.size 3 1 (.slice (some ⟨g', 0, none⟩) ((k : Int) :: acc).length cap') ((k : Int) :: acc).length (M4.iv ((k : Int) :: acc).reverse)) := by
        show w3.ownsRow _ _ _ _ _ _
        rw [List.reverse_cons, List.length_cons]
        have e : M4.iv (acc.reverse ++ [(k : Int)]) = M4.iv acc.reverse ++ [.int .i64 (k : Int)] := by simp [M4.iv]
        rw [e]; exact hown1
      clear hown1 hgrow hnn HO HOA cl cf e0 hJ3 hb LK
      subst hab
      go_wp2
      go_roundw
      case rel => exact ⟨i, (k : Int) :: acc, g', cap', rfl, rfl, HB2, R1.out, hb3⟩
      case measure => simp [PN.lenV]; omega
set_option linter.unusedSimpArgs false in
set_option maxHeartbeats 3200000 in
set_option maxRecDepth 100000 in
theorem implRoute_any (a : Option Addr) (ca : Nat) (xs : List I5) (f n t : Int) (w : World) (hn : xs.length ≤ 1048576) (hin : MI5.RowAt w a xs) :
    Calls Try.prog 55 #[.slice a xs.length ca, .int .i64 f, .int .i64 n, .int .i64 t] w fun e w' => ∃ a1 c1, e = .returned (.tuple #[.slice a1 (PN.routeL xs f n t).length c1, .int .i64 (PN.tellN (PN.routeM xs f n t)), .bool (PN.tellB (PN.routeM xs f n t))]) ∧ w'.ownsRow w.heap.size 3 1 (.slice a1 (PN.routeL xs f n t).length c1) (PN.routeL xs f n t).length (M4.iv (PN.routeL xs f n t)) ∧ Below w.heap.size w w' := by
  have ST : Hid (∀ W : World, MI5.RowAt W a xs → Calls Try.prog 66 #[.slice a xs.length ca, .int .i64 f, .int .i64 n] W fun e w' => e = .returned (.bool (PN.startOk xs f n)) ∧ Below W.heap.size W w') := fun W h => isStart_any a ca xs f n W hn h
  have NT : Hid (∀ W : World, Calls Try.prog 52 #[.int .i64 t] W fun e w' => e = .returned (.bool (decide (0 ≤ t ∧ t ≤ 7))) ∧ W = w') := fun W => nodeI_any t W
  have HI : Hid (MI5.RowAt w a xs) := hin
  clear hin
  obtain ⟨N, hN⟩ : ∃ N, PN.tellN (PN.routeM xs f n t) = N := ⟨_, rfl⟩
  obtain ⟨T, hT⟩ : ∃ T, PN.tellB (PN.routeM xs f n t) = T := ⟨_, rfl⟩
  obtain ⟨L, hL⟩ : ∃ L, PN.routeL xs f n t = L := ⟨_, rfl⟩
  have NO : Hid (PN.askOk xs f n t = false → N = 0 ∧ T = false ∧ L = []) := fun h => by
    have hT' : PN.tellB (PN.routeM xs f n t) = false := by rw [PN.route_no h]; rfl
    rw [← hN, ← hT, ← hL, PN.routeL_no hT', PN.route_no h]; exact ⟨rfl, rfl, rfl⟩
  have YES : Hid (PN.askOk xs f n t = true → N = PN.tellN ((PN.fin xs (PN.st0 f n)).wh t.toNat) ∧ T = PN.tellB ((PN.fin xs (PN.st0 f n)).wh t.toNat) ∧ (T = false → L = []) ∧ (T = true → L = PN.way xs (PN.fin xs (PN.st0 f n)).la f.toNat 8 t.toNat)) := fun h => by
    rw [← hN, ← hT, ← hL, ← PN.route_yes h]; exact ⟨rfl, rfl, PN.routeL_no, PN.routeL_yes⟩
  rw [hN, hT, hL]
  clear hN hT hL
  obtain ⟨q3, h3⟩ : ∃ q, decide (0 ≤ t ∧ t ≤ 7) = q := ⟨_, rfl⟩
  obtain ⟨q0, h0⟩ : ∃ q, PN.startOk xs f n = q := ⟨_, rfl⟩
  have hS : PN.askOk xs f n t = (q0 && q3) := by rw [← h0, ← h3]; rfl
  rw [h0] at ST
  rw [h3] at NT
  have HS : Hid _ := hS
  clear h0 h3 hS
  go_enter Try.func55, Try.ntmps55
  go_wp2_with fail
  refine (ST.out _ HI.out).mono ?_
  rintro e w1 ⟨rfl, hb1⟩
  have HI1 : Hid (MI5.RowAt w1 a xs) := HI.out.below hb1
  clear ST HI
  cases q0 with
  | false =>
    obtain ⟨rfl, rfl, rfl⟩ := NO.out HS.out
    clear NO YES NT HS HI1
    go_wp2
    go_ret3
    exact ⟨none, 0, rfl, World.ownsRow_nil _ _ _ _, hb1⟩
  | true =>
    go_wp2_with fail
    refine (NT.out _).mono ?_
    rintro e w' ⟨rfl, rfl⟩
    clear NT
    cases q3 with
    | false =>
      obtain ⟨rfl, rfl, rfl⟩ := NO.out HS.out
      clear NO YES HS HI1
      go_wp2
      go_ret3
      exact ⟨none, 0, rfl, World.ownsRow_nil _ _ _ _, hb1⟩
    | true =>
      have hask : PN.askOk xs f n t = true := HS.out
      obtain ⟨hst, ht0, ht1⟩ := PN.ask_is hask
      obtain ⟨hok, hf0, hf1, hn0, hn1⟩ := PN.start_is hst
      have HY : Hid _ := YES.out hask
      have JF : Hid (∀ W : World, MI5.RowAt W a xs → Calls Try.prog 67 #[.slice a xs.length ca, .int .i64 f, .int .i64 n] W fun e w' => e = .returned (.agg (PN.jc f (PN.wb (PN.fin xs (PN.st0 f n))) (PN.lb (PN.fin xs (PN.st0 f n)))).toArray) ∧ Below W.heap.size W w') := fun W hr => journeyFrom_any a ca xs f n W hok hf0 hf1 hn0 hn1 hr
      have HVI : Hid (∃ rk, PN.Via xs f.toNat (PN.fin xs (PN.st0 f n)) rk) := PN.via_fin hok (PN.st0_ok hn0 hn1) (PN.ord_st0 hok) (PN.via_st0 xs hf0 hf1)
      have HOS : Hid (PN.okS (PN.fin xs (PN.st0 f n)).wh) := PN.fin_okS hok (PN.st0_ok hn0 hn1)
      have HOK : Hid _ := hok
      clear NO YES HS hask hst hok
      obtain ⟨tn, rfl⟩ := Int.eq_ofNat_of_zero_le ht0
      obtain ⟨fn, rfl⟩ := Int.eq_ofNat_of_zero_le hf0
      have ht8 : tn < 8 := by omega
      have hf8 : fn < 8 := by omega
      have tt8 : (tn : Int) < 8 := by omega
      generalize PN.fin xs (PN.st0 (fn : Int) n) = s at *
      rw [show ((tn : Int)).toNat = tn from rfl, show ((fn : Int)).toNat = fn from rfl] at HY
      rw [show ((fn : Int)).toNat = fn from rfl] at HVI
      go_wp2_with fail
      refine (JF.out _ HI1.out).mono ?_
      rintro e w2 ⟨rfl, hb2⟩
      have HRN : Hid (MA.Rg (w2.alloc (.cells (PN.jc 0 (fun _ => 0) (fun _ => 0)).toArray 90)) w2.heap.size 0 (PN.jc 0 (fun _ => 0) (fun _ => 0))) := MA.Rg.new _ _ _
      have HRP : Hid (MA.Rg ((w2.alloc (.cells (PN.jc 0 (fun _ => 0) (fun _ => 0)).toArray 90)).setCells w2.heap.size 0 (PN.jc (fn : Int) (PN.wb s) (PN.lb s))) w2.heap.size 0 (PN.jc (fn : Int) (PN.wb s) (PN.lb s))) := HRN.out.put (by rw [PN.jc_len, PN.jc_len])
      have HBP : Hid (Below w2.heap.size w2 ((w2.alloc (.cells (PN.jc 0 (fun _ => 0) (fun _ => 0)).toArray 90)).setCells w2.heap.size 0 (PN.jc (fn : Int) (PN.wb s) (PN.lb s)))) := MA.below_cells (Nat.le_refl _) _ _ _ ((Below.refl _ w2).alloc (Nat.le_refl _) _)
      have HB2 : Hid (Below w.heap.size w w2) := hb1.trans (hb2.mono hb1.size)
      have HI2 : Hid (MI5.RowAt w2 a xs) := HI1.out.below hb2
      clear JF HI1 hb1 hb2
      have TL : Hid (∀ W : World, Calls Try.prog 68 #[.float .f64 (s.wh tn).b] W fun e w' => e = .returned (.tuple #[.int .i64 (PN.tellN (s.wh tn)), .bool (PN.tellB (s.wh tn))]) ∧ W = w') := fun W => tell_any _ W (.inr (HOS.out tn))
      go_wp2_with (first
        | (refine MA.alloc_z rfl 90 rfl _ _ Try.infoJ ?_)
        | (refine MA.store_m rfl 90 _ _ rfl rfl rfl (vs := PN.jc (fn : Int) (PN.wb s) (PN.lb s)) (cs := PN.jc 0 (fun _ => 0) (fun _ => 0)) ?_ Try.sizeJ (PN.jc_len _ _ _) (PN.jc_len _ _ _) (PN.jc_one _ _ _) ?_; exact HRN.out; clear HRN; generalize World.setCells _ _ _ _ = W3 at *; have ct : W3.cell? ⟨w2.heap.size, 1 + tn, none⟩ = some (.float .f64 (s.wh tn).b) := (PN.rg_w HRP.out ht8).1; have hl3 := HRP.out.lt))
      refine (TL.out _).mono ?_
      rintro e w' ⟨rfl, rfl⟩
      have HB3 : Hid (Below w.heap.size w W3) := HB2.out.trans (HBP.out.mono HB2.out.size)
      have HI3 : Hid (MI5.RowAt W3 a xs) := HI2.out.below HBP.out
      clear TL ct HBP HI2 HB2
      generalize w2.heap.size = jb at *
      have okt := HOS.out tn
      cases hm : s.wh tn with
      | ago => rw [hm] at okt; exact absurd okt id
      | inf =>
        rw [hm] at HY
        obtain ⟨rfl, rfl, hLL, -⟩ := HY.out
        obtain rfl := hLL rfl
        clear HY HOK HVI HOS HRP HI3 hm okt
        go_wp2
        go_ret3
        exact ⟨none, 0, rfl, World.ownsRow_nil _ _ _ _, HB3.out⟩
      | fin p =>
        rw [hm] at HY
        obtain ⟨hNp, hTp, -, hLL⟩ := HY.out
        have hTp' : T = true := hTp
        have hLw := hLL hTp'
        obtain ⟨rk, hV⟩ := HVI.out
        have HB : PN.Back xs fn s L tn [] := by rw [hLw]; exact PN.Back.start hV ht8 hm
        have RT : Hid (∀ W : World, MI5.RowAt W a xs → Calls Try.prog 69 #[.agg (PN.jc (fn : Int) (PN.wb s) (PN.lb s)).toArray, .slice a xs.length ca, .int .i64 (tn : Int)] W fun e w' => ∃ a1 c1, e = .returned (.slice a1 L.length c1) ∧ w'.ownsRow W.heap.size 3 1 (.slice a1 L.length c1) L.length (M4.iv L) ∧ Below W.heap.size W w') := fun W hr => rowTo_any a ca xs fn tn s L W HOK.out hf8 HB hr
        have HN : Hid (PN.tellN (.fin p) = N) := hNp.symm
        have HT : Hid (T = true) := hTp'
        clear HY hLL hV HVI HOS hm hLw HB hNp hTp hTp' HOK okt
        rw [show PN.tellB (.fin p) = true from rfl, HN.out]
        go_wp2_with (refine MA.load_m rfl 90 _ rfl rfl (cs := PN.jc (fn : Int) (PN.wb s) (PN.lb s)) ?_ Try.underlying90 rfl Try.sizeJ (PN.jc_len _ _ _) ?_; exact HRP.out; clear HRP)
        refine (RT.out _ HI3.out).mono ?_
        rintro e w4 ⟨a1, c1, rfl, hown4, hb4⟩
        have HO4 : Hid _ := hown4
        have HB4 : Hid (Below w.heap.size w w4) := HB3.out.trans (hb4.mono HB3.out.size)
        clear RT hown4 hb4
        go_wp2
        go_ret3
        exact ⟨a1, c1, by rw [HT.out]; rfl, CS6.own_base HO4.out HB3.out.size, HB4.out⟩
end Go.Proofs.Ytpdmbobcbehilaa

/- Who is reached, the specification's: l17Reach, l17Ask, ReachAll. -/
namespace Go.Proofs.Ytpdmbobcbehilaa
open Go.RowKit
set_option linter.unusedSimpArgs false in
set_option maxHeartbeats 3200000 in
set_option maxRecDepth 100000 in
theorem l17Reach_any (a d : Option Addr) (cap cd : Nat) (xs : List I5) (b : Bd) (ms : List Int) (w : World) (hf : GP.fitsB xs b = true) (hm : ms.length ≤ 8) (hn : xs.length ≤ 1048576) (hin : MI5.RowAt w a xs) (hin2 : M4.IntsAt w d ms) :
    Calls Try.prog 26 #[.slice a xs.length cap, b.v, .slice d ms.length cd] w fun e w' => ∃ a1 c1 ps, e = .returned (.slice a1 (List.length ps) c1) ∧ RQ.Own 59 w' w.heap.size (.slice a1 ps.length c1) ps ∧ ps.map Rq.said = RQ.reaL xs b ms ∧ Below w.heap.size w w' := by
  obtain ⟨i2, hi', hz0', hz1', hz2'⟩ := info_parts Try.infoRc
  have P2 : Hid (∀ (t : Int) (W : World), Below w.heap.size w W → Calls Try.prog 49 #[.slice a xs.length cap, .int .i64 b.fr, .int .i64 b.md, .int .i64 t] W fun e w' => ∃ a1 c1, e = .returned (.tuple #[.slice a1 (PN.routeL xs b.fr b.md t).length c1, .int .i64 (PN.tellN (PN.routeM xs b.fr b.md t)), .bool (PN.tellB (PN.routeM xs b.fr b.md t))]) ∧ w'.ownsRow W.heap.size 3 1 (.slice a1 (PN.routeL xs b.fr b.md t).length c1) (PN.routeL xs b.fr b.md t).length (M4.iv (PN.routeL xs b.fr b.md t)) ∧ Below W.heap.size W w') := fun t W h => specRoute_any a cap xs b.fr b.md t W hn (hin.below h)
  have HMS : Hid (M4.IntsAt w d ms) := hin2
  obtain ⟨_, _, _, _, ⟨hm0, hm1⟩, ⟨hf0, hf1⟩, _⟩ := GP.fits_is hf
  have YES : Hid (∀ k, k < ms.length → PN.tellB (PN.routeM xs b.fr b.md (ms.getD k 0)) = true → decide (PN.tellN (PN.routeM xs b.fr b.md (ms.getD k 0)) ≤ b.md + b.lf) = true → decide (((PN.routeL xs b.fr b.md (ms.getD k 0)).length : Int) ≤ b.hp) = true → RQ.reaL xs b (ms.take (k + 1)) = RQ.reaL xs b (ms.take k) ++ [(ms.getD k 0, PN.tellN (PN.routeM xs b.fr b.md (ms.getD k 0)), PN.routeL xs b.fr b.md (ms.getD k 0))]) := fun k hk h1 h2 h3 => RQ.reaL_yes hk (by unfold RQ.okOne RQ.there RQ.inTime RQ.near RQ.one; rw [h1, h2, h3]; rfl)
  have NO : Hid (∀ k, k < ms.length → (PN.tellB (PN.routeM xs b.fr b.md (ms.getD k 0)) && decide (PN.tellN (PN.routeM xs b.fr b.md (ms.getD k 0)) ≤ b.md + b.lf) && decide (((PN.routeL xs b.fr b.md (ms.getD k 0)).length : Int) ≤ b.hp)) = false → RQ.reaL xs b (ms.take (k + 1)) = RQ.reaL xs b (ms.take k)) := fun k hk h => RQ.reaL_no hk h
  have ML : Hid (∀ k, (RQ.reaL xs b (ms.take k)).length ≤ 8) := fun k => by have := RQ.reaL_len xs b (ms.take k); rw [List.length_take] at this; omega
  have RL : Hid (∀ t, (PN.routeL xs b.fr b.md t).length ≤ 1048576) := fun t => PN.routeL_len _ _ _ _
  have Z0 : Hid (RQ.reaL xs b (ms.take 0) = []) := (show _ = _ from by rw [List.take_zero]; rfl)
  have ZN : Hid (RQ.reaL xs b (ms.take ms.length) = RQ.reaL xs b ms) := (show _ = _ from by rw [List.take_length])
  have BA := BdAt.box w b 33
  have BB := (Below.refl _ w).alloc (Nat.le_refl _) (.cells #[.int .i64 b.fr, .int .i64 b.to, .bool b.gr, .int .i64 b.md, .int .i64 b.no, .int .i64 b.lf, .int .i64 b.hp, .int .i64 b.of, .int .i64 b.tl, .string b.py] 33)
  clear hin hin2 hf
  generalize RQ.reaL xs b ms = R at *
  generalize hR : (fun k => RQ.reaL xs b (ms.take k)) = RK at *
  have e1 : ∀ k, RQ.reaL xs b (ms.take k) = RK k := fun k => by rw [← hR]
  clear hR
  simp only [e1] at YES NO ML Z0 ZN
  clear e1
  generalize hR : (fun t => PN.routeM xs b.fr b.md t) = RM at *
  have e1 : ∀ t, PN.routeM xs b.fr b.md t = RM t := fun t => by rw [← hR]
  clear hR
  simp only [e1] at P2 YES NO
  clear e1
  generalize hR : (fun t => PN.routeL xs b.fr b.md t) = RT at *
  have e1 : ∀ t, PN.routeL xs b.fr b.md t = RT t := fun t => by rw [← hR]
  clear hR
  simp only [e1] at P2 YES NO RL
  clear e1
  obtain ⟨fr, to, gr, md, no, lf, hp, of, tl, py⟩ := b
  go_enter Try.func26, Try.ntmps26
  generalize hW1 : w.alloc _ = W1 at *
  go_wp2
  go_loopw [7, 9, 10, 11, 12, 15] (fun u _ _ _ _ iv wr => ∃ (k : Nat) (ps : List Rq), iv = .int .i64 k ∧ k ≤ ms.length ∧ Hid (ps.map Rq.said = RK k) ∧ Hid (RQ.Own 59 wr W1.heap.size u ps) ∧ Below W1.heap.size W1 wr) (fun _ _ _ _ _ iv _ => (ms.length - intOf iv).toNat)
  case atStart => exact ⟨0, [], rfl, by omega, by show _ = _; rw [Z0.out]; rfl, RQ.Own.nil _ _ _, Below.refl _ _⟩
  case round =>
    obtain ⟨k, ps, rfl, hk, hP, hO, hb⟩ := hrel
    have BA2 := BA.below hb BA.1
    have BB2 := BB.trans (hb.mono BB.size)
    have hbs := hb.size
    have hps : ps.length ≤ 8 := by have := congrArg List.length hP.out; rw [List.length_map] at this; rw [this]; exact ML.out k
    by_cases hlk : k < ms.length
    · obtain ⟨b1, off1, hd1, hlt1, hc1⟩ := M4.IntsAt.at (M4.IntsAt.below HMS.out BB2) hlk
      have Y1 : Hid _ := YES.out k hlk
      have N1 : Hid _ := NO.out k hlk
      generalize ms.getD k 0 = z at *
      have P2' : Hid (Calls _ _ _ _ _) := P2.out z wr BB2
      have hrl := RL.out z
      generalize RT z = L at *
      generalize PN.tellN (RM z) = tn at *
      generalize hTB : PN.tellB (RM z) = T at *
      clear hTB
      obtain ⟨hlt, c0, c1, c2, c3, c4, c5, c6, c7, c8, c9⟩ := id BA2
      clear c1 c2 c4 c5 c6 c7 c8 c9
      subst hd1
      go_wp2_with fail
      refine Calls.mono P2'.out ?_
      rintro e w2 ⟨a2, ca2, rfl, ho2, hb2⟩
      clear c0 c3 hlt hc1 P2'
      have BA3 := BA2.below hb2 BA2.1
      have BB3 := BB2.trans (hb2.mono BB2.size)
      have HB3 : Hid (Below W1.heap.size W1 w2) := hb.trans (hb2.mono hbs)
      have HO2 : Hid _ := hO.out.below hb2
      have HN2 : Hid (NR.In w2 wr.heap.size a2 L) := NR.In.of_own ho2
      have HOLD : Hid _ := hO.out.rows.lt
      have hb2s := hb2.size
      clear hb2 ho2 BA2 hO
      obtain ⟨hlt, c0, c1, c2, c3, c4, c5, c6, c7, c8, c9⟩ := id BA3
      clear c0 c1 c2 c4 c7 c8 c9
      cases T with
      | false =>
        have HR : Hid (RK (k + 1) = RK k) := N1.out (by simp)
        clear Y1 N1 HN2 HOLD
        go_wp2
        go_roundw
        case rel => exact ⟨k + 1, ps, by go_num, by omega, by show _ = _; rw [HR.out]; exact hP.out, HO2, HB3.out⟩
        case measure => simp [intOf]; omega
      | true =>
        cases h1 : decide (tn ≤ md + lf) with
        | false =>
          have HR : Hid (RK (k + 1) = RK k) := N1.out (by simp [h1])
          clear Y1 N1 HN2 HOLD
          go_wp2
          go_roundw
          case rel => exact ⟨k + 1, ps, by go_num, by omega, by show _ = _; rw [HR.out]; exact hP.out, HO2, HB3.out⟩
          case measure => simp [intOf]; omega
        | true =>
          cases h2 : decide ((L.length : Int) ≤ hp) with
          | false =>
            have HR : Hid (RK (k + 1) = RK k) := N1.out (by simp [h2])
            clear Y1 N1 HN2 HOLD
            go_wp2
            go_roundw
            case rel => exact ⟨k + 1, ps, by go_num, by omega, by show _ = _; rw [HR.out]; exact hP.out, HO2, HB3.out⟩
            case measure => simp [intOf]; omega
          | true =>
            have HR : Hid (RK (k + 1) = RK k ++ [(z, tn, L)]) := Y1.out (by first | rfl | trivial) h1 h2
            have HP : Hid _ := hP.out
            clear Y1 N1 hP
            have HLIT : Hid (RQ.Own 59 (w2.alloc (.cells #[.int .i64 z, .int .i64 tn, .slice a2 L.length ca2] 59)) W1.heap.size u7 ps) := HO2.out.below ((Below.refl _ w2).alloc (Nat.le_refl _) _)
            go_wp2_with (at_builtin; refine wpList_append_own _ rfl _ _ 28 rfl W1.heap.size 59 i2 (.agg #[.int .i64 0, .int .i64 0, .slice none 0 0]) 3 40 Try.underlying28 hi' hz0' hz1' hz2' rfl (by decide) _ _ _ rfl HLIT.out.out ⟨w2.heap.size, 0, none⟩ 1 1 [.int .i64 z, .int .i64 tn, .slice a2 L.length ca2] rfl rfl ?c1 ?c2 ?c3 ?c4 ?c5 ?_)
            case c1 => exact RQ.new3 _ _ _ _ _ _ rfl
            case c2 => exact RQ.one3 ⟨z, tn, L, a2, ca2⟩
            case c3 => unfold maxLen; omega
            case c4 => omega
            case c5 => have := HB3.out.size; simp; omega
            intro v' w6 hown1 hgrow _
            have HS : Hid (RQ.Own 59 w6 W1.heap.size v' (ps ++ [⟨z, tn, L, a2, ca2⟩])) := RQ.Own.snoc (q := ⟨z, tn, L, a2, ca2⟩) (by decide) HLIT.out (HN2.out.below ((Below.refl _ w2).alloc (Nat.le_refl _) _)) (by have := BB2.size; omega) HOLD.out hgrow hown1
            have HB6 : Hid (Below W1.heap.size W1 w6) := (HB3.out.alloc HB3.out.size _).grown hgrow (by have := HB3.out.size; simp; omega) (fun j hj => (HLIT.out.out.lt j hj).1)
            have hsl : (ps ++ [(⟨z, tn, L, a2, ca2⟩ : Rq)]).map Rq.said = RK (k + 1) := by rw [HR.out, List.map_append, HP.out]; rfl
            have HSL : Hid _ := hsl
            clear hown1 hgrow HLIT HN2 HOLD HO2 HP HR hsl
            generalize ps ++ [(⟨z, tn, L, a2, ca2⟩ : Rq)] = qs at *
            go_wp2
            go_roundw
            case rel => exact ⟨k + 1, qs, by go_num, by omega, HSL, HS, HB6.out⟩
            case measure => simp [intOf]; omega
    · obtain rfl : k = ms.length := by omega
      have HL : Hid (ps.map Rq.said = R) := by show _ = _; rw [hP.out, ZN.out]
      obtain ⟨a1, c1, rfl, -⟩ := hO.out.view
      clear P2 YES NO ML RL Z0 ZN BA BA2 hP
      go_wp2
      go_ret
      exact ⟨a1, c1, ps, rfl, hO.out.mono BB.size, HL.out, BB2⟩
set_option linter.unusedSimpArgs false in
set_option maxHeartbeats 1600000 in
set_option maxRecDepth 100000 in
theorem l17Ask_any (a d : Option Addr) (cap cd : Nat) (xs : List I5) (b : Bd) (ms : List Int) (w : World) (hm : ms.length ≤ 1048576) (hn : xs.length ≤ 1048576) (hs : b.py.size ≤ 1048576) (hin : MI5.RowAt w a xs) (hin2 : M4.IntsAt w d ms) :
    Calls Try.prog 25 #[.slice a xs.length cap, b.v, .slice d ms.length cd] w fun e w' => e = .returned (.bool (RQ.reaOk xs b ms)) ∧ Below w.heap.size w w' := by
  have P1 : Hid (∀ W : World, Below w.heap.size w W → Calls Try.prog 47 #[.slice a xs.length cap, b.v] W fun e w' => e = .returned (.bool (GP.fitsB xs b)) ∧ Below W.heap.size W w') := fun W h => fitsS_any a cap xs b W hn hs (hin.below h)
  have P2 : Hid (∀ W : World, Below w.heap.size w W → Calls Try.prog 48 #[.slice d ms.length cd, .int .i64 8] W fun e w' => e = .returned (.bool (EG.rises 8 ms)) ∧ Below W.heap.size W w') := fun W h => l1Some_any d cd 8 ms W (by omega) hm (M4.IntsAt.below hin2 h) _ rfl
  have HR : Hid (RQ.reaOk xs b ms = (GP.fitsB xs b && EG.rises 8 ms)) := show RQ.reaOk xs b ms = _ from rfl
  have BA := BdAt.box w b 33
  have BB := (Below.refl _ w).alloc (Nat.le_refl _) (.cells #[.int .i64 b.fr, .int .i64 b.to, .bool b.gr, .int .i64 b.md, .int .i64 b.no, .int .i64 b.lf, .int .i64 b.hp, .int .i64 b.of, .int .i64 b.tl, .string b.py] 33)
  clear hin hin2
  generalize RQ.reaOk xs b ms = R at *
  generalize GP.fitsB xs b = q1 at *
  generalize EG.rises 8 ms = q2 at *
  obtain ⟨fr, to, gr, md, no, lf, hp, of, tl, py⟩ := b
  obtain ⟨hlt, c0, c1, c2, c3, c4, c5, c6, c7, c8, c9⟩ := id BA
  go_enter Try.func25, Try.ntmps25
  go_wp2_with fail
  refine (P1.out _ BB).mono ?_
  rintro e w1 ⟨rfl, hb1⟩
  clear c0 c1 c2 c3 c4 c5 c6 c7 c8 c9 hlt P1
  have BB1 := BB.trans (hb1.mono BB.size)
  clear hb1 BA BB
  cases q1 with
  | false =>
    have hR : R = false := HR.out
    subst hR
    clear P2 HR
    go_wp2
    go_ret
    exact ⟨rfl, BB1⟩
  | true =>
    have hR : R = q2 := HR.out
    subst hR
    go_wp2_with fail
    refine (P2.out _ BB1).mono ?_
    rintro e w2 ⟨rfl, hb2⟩
    have BB2 := BB1.trans (hb2.mono BB1.size)
    clear P2 HR hb2
    go_wp2
    go_ret
    exact ⟨rfl, BB2⟩
set_option linter.unusedSimpArgs false in
set_option maxHeartbeats 1600000 in
set_option maxRecDepth 100000 in
theorem reachS_any (a d : Option Addr) (cap cd : Nat) (xs : List I5) (b : Bd) (ms : List Int) (w : World) (hm : ms.length ≤ 1048576) (hn : xs.length ≤ 1048576) (hs : b.py.size ≤ 1048576) (hin : MI5.RowAt w a xs) (hin2 : M4.IntsAt w d ms) :
    Calls Try.prog 8 #[.slice a xs.length cap, b.v, .slice d ms.length cd] w fun e w' => ∃ a1 c1 ps, e = .returned (.tuple #[.slice a1 (List.length ps) c1, .bool (RQ.reaOk xs b ms)]) ∧ RQ.Own 59 w' w.heap.size (.slice a1 ps.length c1) ps ∧ ps.map Rq.said = RQ.reaA xs b ms ∧ Below w.heap.size w w' := by
  have P1 : Hid (∀ W : World, Below w.heap.size w W → Calls Try.prog 25 #[.slice a xs.length cap, b.v, .slice d ms.length cd] W fun e w' => e = .returned (.bool (RQ.reaOk xs b ms)) ∧ Below W.heap.size W w') := fun W h => l17Ask_any a d cap cd xs b ms W hm hn hs (hin.below h) (M4.IntsAt.below hin2 h)
  have P2 : Hid (RQ.reaOk xs b ms = true → ∀ W : World, Below w.heap.size w W → Calls Try.prog 26 #[.slice a xs.length cap, b.v, .slice d ms.length cd] W fun e w' => ∃ a1 c1 ps, e = .returned (.slice a1 (List.length ps) c1) ∧ RQ.Own 59 w' W.heap.size (.slice a1 ps.length c1) ps ∧ ps.map Rq.said = RQ.reaA xs b ms ∧ Below W.heap.size W w') := fun hq W h => by
    rw [RQ.rea_yes hq]
    have hq' := hq
    unfold RQ.reaOk at hq'
    rw [Bool.and_eq_true] at hq'
    exact l17Reach_any a d cap cd xs b ms W hq'.1 (GP.rises_len hq'.2) hn (hin.below h) (M4.IntsAt.below hin2 h)
  have NO : Hid (RQ.reaOk xs b ms = false → RQ.reaA xs b ms = []) := fun h => RQ.rea_no h
  have BA := BdAt.box w b 33
  have BB := (Below.refl _ w).alloc (Nat.le_refl _) (.cells #[.int .i64 b.fr, .int .i64 b.to, .bool b.gr, .int .i64 b.md, .int .i64 b.no, .int .i64 b.lf, .int .i64 b.hp, .int .i64 b.of, .int .i64 b.tl, .string b.py] 33)
  clear hin hin2
  generalize RQ.reaOk xs b ms = R at *
  generalize RQ.reaA xs b ms = L at *
  obtain ⟨fr, to, gr, md, no, lf, hp, of, tl, py⟩ := b
  obtain ⟨hlt, c0, c1, c2, c3, c4, c5, c6, c7, c8, c9⟩ := id BA
  go_enter Try.func8, Try.ntmps8
  go_wp2_with fail
  refine (P1.out _ BB).mono ?_
  rintro e w1 ⟨rfl, hb1⟩
  clear c0 c1 c2 c3 c4 c5 c6 c7 c8 c9 hlt P1
  have BA1 := BA.below hb1 BA.1
  have BB1 := BB.trans (hb1.mono BB.size)
  clear hb1 BA BB
  cases R with
  | false =>
    have HL : Hid (L = []) := NO.out rfl
    clear P2 NO BA1
    go_wp2
    exact bodyPost_ret (v := .tuple #[.slice none 0 0, .bool false]) (by simp [results, Try.results8, go_sem]) rfl ⟨none, 0, [], rfl, RQ.Own.nil _ _ _, HL.out.symm, BB1⟩
  | true =>
    have P2' : Hid _ := P2.out (by first | rfl | trivial)
    clear P2 NO
    obtain ⟨hlt, c0, c1, c2, c3, c4, c5, c6, c7, c8, c9⟩ := id BA1
    go_wp2_with fail
    refine (P2'.out _ BB1).mono ?_
    rintro e w2 ⟨a2, c2', ps, rfl, ho, hL, hb2⟩
    clear c0 c1 c2 c3 c4 c5 c6 c7 c8 c9 hlt P2'
    have BB2 := BB1.trans (hb2.mono BB1.size)
    have HO : Hid _ := ho.mono BB1.size
    have HL : Hid _ := hL
    clear ho hL hb2 BA1
    go_wp2
    exact bodyPost_ret (v := .tuple #[.slice a2 ps.length c2', .bool true]) (by simp [results, Try.results8, go_sem]) rfl ⟨a2, c2', ps, rfl, HO.out, HL.out, BB2⟩
end Go.Proofs.Ytpdmbobcbehilaa

/- Reaches filtered in their own place: plain facts. -/
namespace Go.Proofs.Ytpdmbobcbehilaa
open Go.RowKit
namespace RQ
theorem wpList_append_room {P : Program} {w w' : World} {ops : Array Oper} {rest : List Oper} {o : Oper} {a : Act} {Q : Exit → Act → World → Prop} (hgd : o.guard = none) (s x : Operand) (t : TypeId) (v u v' : Value)
    (ho : o.op = .call { callee := .builtin .append, args := #[s, x], argTypes := #[t, t] }) (hrun : ∀ ty, (Builtin.append_ #[t, t] ty #[v, u]).run P w = .ok v' w') (hs : a.eval s = v) (hx : a.eval x = u)
    (h : wpList P ops Q rest (a.put o.dst v') w') : wpList P ops Q (o :: rest) a w := by
  refine wpList_plain hgd fun K hK => ?_
  unfold Oper.wp
  simp [execOp, ho, resolve, invoke, builtin, hs, hx, hrun, Result.andThen]
  exact hK _ _ h
theorem set3_take : ∀ (cur : List Value) (j : Nat) (x y z : Value), j + 3 ≤ cur.length → (((cur.set j x).set (j + 1) y).set (j + 2) z).take (j + 3) = cur.take j ++ [x, y, z]
  | [], j, _, _, _, h => by simp at h
  | [_], 0, _, _, _, h => by simp at h
  | [_, _], 0, _, _, _, h => by simp at h
  | _ :: _ :: _ :: _, 0, _, _, _, _ => by simp
  | u :: l, j + 1, x, y, z, h => by
    have ih := set3_take l j x y z (by simpa using h)
    rw [List.set_cons_succ, List.set_cons_succ, List.set_cons_succ, show j + 1 + 3 = (j + 3) + 1 by omega, List.take_succ_cons, ih]; rfl
/-- 'clear' of a slice of structs of three cells. -/
theorem run_clear3 {P : Program} (w : World) (t e ty : TypeId) (x y z : Value) (ht : P.underlying t = some (.slice e)) (hv : ∀ w, (zeroValue e).run P w = .ok (.agg #[x, y, z]) w) (h1 : x.oneCell' = true ∧ y.oneCell' = true ∧ z.oneCell' = true) (hc3 : (Value.agg #[x, y, z]).cells = #[x, y, z]) (b o n c : Nat) (hn : 0 < n)
    (hc : ∀ j, j < n * 3 → (w.cell? ⟨b, o + j, none⟩).isSome = true) (hf : ∀ j, j < n * 3 → w.frozen? ⟨b, o + j, none⟩ = false) :
    (Builtin.clear_ #[t] ty #[.slice (some ⟨b, o, none⟩) n c]).run P w = .ok (.tuple #[]) (w.setCells b o (Builtin.zeroCells #[x, y, z] n).toList) := by
  have hl : (Builtin.zeroCells #[x, y, z] n).toList.length = n * 3 := by simp [Builtin.zeroCells]
  have hst := run_storeCells_cells (P := P) b o (Builtin.zeroCells #[x, y, z] n).toList 0 w (fun j hj => by rw [hl] at hj; simpa using hc j hj) (fun j hj => by rw [hl] at hj; simpa using hf j hj) (fun v hv' => by
    simp only [Builtin.zeroCells, Array.toList_map, List.mem_map] at hv'
    obtain ⟨i, _, rfl⟩ := hv'
    have h3 : i % 3 = 0 ∨ i % 3 = 1 ∨ i % 3 = 2 := by omega
    rcases h3 with h | h | h <;> simp [h, h1.1, h1.2.1, h1.2.2])
  simp only [Nat.add_zero] at hst
  obtain ⟨m, rfl⟩ : ∃ m, n = m + 1 := ⟨n - 1, by omega⟩
  simp [Builtin.clear_, run_underlying ht, hv, hc3, hst]
/-- The state while they are gone through: the block, those that are kept, those still to come. -/
structure Flt (T : TypeId) (w : World) (B g cap : Nat) (ps : List Rq) (f : Rq → Bool) (k : Nat) (ks : List Rq) : Prop where
  is : ks = (ps.take k).filter f
  own : ∃ cur, w.ownsRow B T 3 (.slice (some ⟨g, 0, none⟩) ps.length cap) ps.length cur ∧ cur.take (ks.length * 3) = flat ks ∧ cur.drop (k * 3) = (flat ps).drop (k * 3)
theorem Flt.start {T : TypeId} {w : World} {B g cap : Nat} {ps : List Rq} (f : Rq → Bool) (h : w.ownsRow B T 3 (.slice (some ⟨g, 0, none⟩) ps.length cap) ps.length (flat ps)) : Flt T w B g cap ps f 0 [] := ⟨by simp, _, h, by simp [flat], rfl⟩
theorem Flt.len {T : TypeId} {w : World} {B g cap : Nat} {ps : List Rq} {f : Rq → Bool} {k : Nat} {ks : List Rq} (h : Flt T w B g cap ps f k ks) : ks.length ≤ k := by
  rw [h.is]
  exact Nat.le_trans (List.length_filter_le _ _) (by rw [List.length_take]; omega)
theorem Flt.below {T : TypeId} {w w' : World} {B g cap : Nat} {ps : List Rq} {f : Rq → Bool} {k : Nat} {ks : List Rq} (h : Flt T w B g cap ps f k ks) (hb : Below w.heap.size w w') : Flt T w' B g cap ps f k ks := by
  obtain ⟨cur, h1, h2, h3⟩ := h.own
  exact ⟨h.is, cur, M5.own_below h1 hb, h2, h3⟩
/-- The next one's cells. -/
theorem Flt.next {T : TypeId} {w : World} {B g cap : Nat} {ps : List Rq} {f : Rq → Bool} {k : Nat} {ks : List Rq} (h : Flt T w B g cap ps f k ks) (hk : k < ps.length) : w.cell? ⟨g, k * 3, none⟩ = some (.int .i64 (at_ ps k).m) ∧ w.cell? ⟨g, k * 3 + 1, none⟩ = some (.int .i64 (at_ ps k).t) ∧ w.cell? ⟨g, k * 3 + 2, none⟩ = some (.slice (at_ ps k).a (at_ ps k).os.length (at_ ps k).c) ∧ g < w.heap.size := by
  obtain ⟨cur, h1, h2, h3⟩ := h.own
  obtain ⟨f0, f1, f2⟩ := flat_get ps k hk
  have e : ∀ j, cur[k * 3 + j]? = (flat ps)[k * 3 + j]? := fun j => by
    have := congrArg (fun l => l[j]?) h3
    simpa [List.getElem?_drop] using this
  exact ⟨(h1.cellAt (k * 3) (by omega)).trans ((e 0).trans f0), (h1.cellAt (k * 3 + 1) (by omega)).trans ((e 1).trans f1), (h1.cellAt (k * 3 + 2) (by omega)).trans ((e 2).trans f2), (h1.lt g rfl).2⟩
theorem Flt.out {T : TypeId} {w : World} {B g cap : Nat} {ps : List Rq} {f : Rq → Bool} {k : Nat} {ks : List Rq} (h : Flt T w B g cap ps f k ks) (hk : k < ps.length) (hf : f (at_ ps k) = false) : Flt T w B g cap ps f (k + 1) ks := by
  obtain ⟨cur, h1, h2, h3⟩ := h.own
  refine ⟨?_, cur, h1, h2, ?_⟩
  · rw [List.take_succ_eq_append_getElem hk, List.filter_append, ← at_eq hk, List.filter_cons, hf, h.is]; simp
  · have := congrArg (List.drop 3) h3
    rw [List.drop_drop, List.drop_drop] at this
    rw [show (k + 1) * 3 = k * 3 + 3 by omega]; exact this
theorem Flt.keep {T : TypeId} {w : World} {B g cap : Nat} {ps : List Rq} {f : Rq → Bool} {k : Nat} {ks : List Rq} (h : Flt T w B g cap ps f k ks) (hk : k < ps.length) (hf : f (at_ ps k) = true) : Flt T (w.setCells g (ks.length * 3) (at_ ps k).cs) B g cap ps f (k + 1) (ks ++ [at_ ps k]) := by
  have hl := h.len
  obtain ⟨cur, h1, h2, h3⟩ := h.own
  have hcl : cur.length = ps.length * 3 := h1.1
  have hfl := flat_len ks
  refine ⟨?_, (((cur.set (ks.length * 3) (.int .i64 (at_ ps k).m)).set (ks.length * 3 + 1) (.int .i64 (at_ ps k).t)).set (ks.length * 3 + 2) (.slice (at_ ps k).a (at_ ps k).os.length (at_ ps k).c)), ?_, ?_, ?_⟩
  · rw [List.take_succ_eq_append_getElem hk, List.filter_append, ← at_eq hk, List.filter_cons, if_pos hf, h.is]; simp
  · exact ((h1.stored (ks.length * 3) (.int .i64 (at_ ps k).m)).1.stored (ks.length * 3 + 1) (.int .i64 (at_ ps k).t)).1.stored (ks.length * 3 + 2) (.slice (at_ ps k).a (at_ ps k).os.length (at_ ps k).c) |>.1
  · rw [flat_app, List.length_append, List.length_singleton, show (ks.length + 1) * 3 = ks.length * 3 + 3 by omega, ← h2]
    rw [set3_take cur (ks.length * 3) _ _ _ (by omega)]
    simp only [flat, List.append_nil]
  · rw [show (k + 1) * 3 = k * 3 + 3 by omega]
    have h4 : cur.drop (k * 3 + 3) = (flat ps).drop (k * 3 + 3) := by
      have := congrArg (List.drop 3) h3
      rwa [List.drop_drop, List.drop_drop] at this
    rw [List.drop_set_of_lt (by omega), List.drop_set_of_lt (by omega), List.drop_set_of_lt (by omega), h4]
theorem Flt.room {T : TypeId} {w : World} {B g cap : Nat} {ps : List Rq} {f : Rq → Bool} {k : Nat} {ks : List Rq} (h : Flt T w B g cap ps f k ks) {o : Nat} (ho : o < ps.length * 3) : (w.cell? ⟨g, o, none⟩).isSome = true ∧ w.frozen? ⟨g, o, none⟩ = false := by
  obtain ⟨cur, h1, _, _⟩ := h.own
  refine ⟨?_, h1.frozenAt o⟩
  rw [h1.cellAt o ho, List.getElem?_eq_getElem (by rw [h1.1]; exact ho)]; rfl
theorem Flt.caps {T : TypeId} {w : World} {B g cap : Nat} {ps : List Rq} {f : Rq → Bool} {k : Nat} {ks : List Rq} (h : Flt T w B g cap ps f k ks) : ps.length ≤ cap ∧ cap ≤ maxLen ∧ B ≤ g ∧ g < w.heap.size := by
  obtain ⟨cur, h1, _, _⟩ := h.own
  refine ⟨?_, ?_, (h1.lt g rfl).1, (h1.lt g rfl).2⟩ <;>
  · rcases h1.2 with ⟨h, _⟩ | ⟨g', c', cur, hv, _, _, h1, h2, _⟩
    · cases h
    · cases hv; assumption
/-- What was kept, behind the clearing. -/
theorem Flt.done {T : TypeId} (hT : T ≠ 3) {w : World} {B g cap : Nat} {ps : List Rq} {f : Rq → Bool} {ks : List Rq} (h : Flt T w B g cap ps f ps.length ks) (hr : Rows w B ps) (vs : List Value) : ks = ps.filter f ∧ Own T (w.setCells g (ks.length * 3) vs) B (.slice (some ⟨g, 0, none⟩) ks.length cap) ks ∧ MC.Only g w (w.setCells g (ks.length * 3) vs) := by
  have hi := h.is
  rw [List.take_length] at hi
  have hl := h.len
  obtain ⟨cur, h1, h2, h3⟩ := h.own
  obtain ⟨cur', h4, h5, h6⟩ := own_cells vs (ks.length * 3) w cur h1
  refine ⟨hi, ⟨own_first h4 rfl hl (h5.trans h2), ?_⟩, h6⟩
  have := (hr.filter f).only hT h1 h6
  rw [← hi] at this
  exact this
theorem Flt.none_ {T : TypeId} {w : World} {B g cap : Nat} {ps : List Rq} {f : Rq → Bool} {ks : List Rq} (h : Flt T w B g cap ps f ps.length ks) (hr : Rows w B ps) : ks = ps.filter f ∧ Own T w B (.slice (some ⟨g, 0, none⟩) ks.length cap) ks := by
  have hi := h.is
  rw [List.take_length] at hi
  have hl := h.len
  obtain ⟨cur, h1, h2, h3⟩ := h.own
  refine ⟨hi, own_first h1 rfl hl h2, ?_⟩
  have := hr.filter f
  rw [← hi] at this
  exact this
end RQ
end Go.Proofs.Ytpdmbobcbehilaa

/- Who of the reached is there by a time: plain facts. -/
namespace Go.Proofs.Ytpdmbobcbehilaa
open Go.RowKit
namespace RQ
def delL (xs : List I5) (b : Bd) (ms : List Int) (n : Int) : List Int := ((reaL xs b ms).filter (inTime n)).map (·.1)
noncomputable def delOk (xs : List I5) (b : Bd) (ms : List Int) (n : Int) : Bool := reaOk xs b ms && decide (0 ≤ n ∧ n ≤ 2000)
noncomputable def delA (xs : List I5) (b : Bd) (ms : List Int) (n : Int) : List Int := if delOk xs b ms n = true then delL xs b ms n else []
theorem del_no {xs : List I5} {b : Bd} {ms : List Int} {n : Int} (h : delOk xs b ms n = false) : delA xs b ms n = [] := by unfold delA; rw [h]; rfl
theorem del_yes {xs : List I5} {b : Bd} {ms : List Int} {n : Int} (h : delOk xs b ms n = true) : delA xs b ms n = delL xs b ms n := by unfold delA; rw [if_pos h]
theorem delA_len (xs : List I5) (b : Bd) (ms : List Int) (n : Int) : (delA xs b ms n).length ≤ 1048576 := by
  unfold delA
  split
  · next h =>
    unfold delOk reaOk at h
    simp only [Bool.and_eq_true] at h
    have h1 := GP.rises_len h.1.2
    have h2 := reaL_len xs b ms
    have h3 := List.length_filter_le (inTime n) (reaL xs b ms)
    unfold delL
    rw [List.length_map]; omega
  · simp
/-- The first k's. -/
def delUp (ps : List Rq) (n : Int) (k : Nat) : List Int := ((ps.take k).filter (fun p => inTime n p.said)).map Rq.m
theorem delUp_len (ps : List Rq) (n : Int) (k : Nat) : (delUp ps n k).length ≤ k := by
  unfold delUp
  rw [List.length_map]
  exact Nat.le_trans (List.length_filter_le _ _) (by rw [List.length_take]; omega)
theorem delUp_yes {ps : List Rq} {n : Int} {k : Nat} (hk : k < ps.length) (h : decide ((at_ ps k).t ≤ n) = true) : delUp ps n (k + 1) = delUp ps n k ++ [(at_ ps k).m] := by
  unfold delUp
  have h' : inTime n (at_ ps k).said = true := h
  rw [List.take_succ_eq_append_getElem hk, ← at_eq hk, List.filter_append, List.filter_cons, if_pos h', List.map_append]; rfl
theorem delUp_no {ps : List Rq} {n : Int} {k : Nat} (hk : k < ps.length) (h : decide ((at_ ps k).t ≤ n) = false) : delUp ps n (k + 1) = delUp ps n k := by
  unfold delUp
  have h' : inTime n (at_ ps k).said = false := h
  rw [List.take_succ_eq_append_getElem hk, ← at_eq hk, List.filter_append, List.filter_cons, h']; simp
theorem delUp_end {ps : List Rq} {n : Int} {xs : List I5} {b : Bd} {ms : List Int} (h : ps.map Rq.said = reaL xs b ms) : delUp ps n ps.length = delL xs b ms n := by
  unfold delUp delL
  rw [List.take_length, ← h, ← said_filter, List.map_map]; rfl
theorem told_end {ps : List Rq} {n : Int} {xs : List I5} {b : Bd} {ms : List Int} (h : ps.map Rq.said = reaL xs b ms) : (ps.filter (fun p => inTime n p.said)).map Rq.m = delL xs b ms n := by
  unfold delL
  rw [← h, ← said_filter, List.map_map]; rfl
theorem map_snoc {ps : List Rq} {k : Nat} (hk : k < ps.length) : (ps.take (k + 1)).map Rq.m = (ps.take k).map Rq.m ++ [(at_ ps k).m] := by
  rw [List.take_succ_eq_append_getElem hk, List.map_append, ← at_eq hk]; rfl
end RQ
end Go.Proofs.Ytpdmbobcbehilaa

/- Those of whom no more than so much is told, kept in their own place: withNoMore of the program, by time and by how many contacts. -/
namespace Go.Proofs.Ytpdmbobcbehilaa
open Go.RowKit
theorem Try.zeroRc (w : World) : (zeroValue 59).run Try.prog w = .ok (.agg #[.int .i64 0, .int .i64 0, .slice none 0 0]) w := by kernel_rfl
set_option linter.unusedSimpArgs false in
set_option maxHeartbeats 3200000 in
set_option maxRecDepth 100000 in
theorem noMoreT_any (B g cap : Nat) (ps : List Rq) (n : Int) (w : World) (h8 : ps.length ≤ 8) (ho : RQ.Own 59 w B (.slice (some ⟨g, 0, none⟩) ps.length cap) ps) (qs : List Rq) (hqs : Hid (ps.filter (fun p => RQ.inTime n p.said) = qs)) :
    Calls Try.prog 30 #[.slice (some ⟨g, 0, none⟩) ps.length cap, .func (.func 32) #[] #[], .int .i64 n] w fun e w' => e = .returned (.slice (some ⟨g, 0, none⟩) qs.length cap) ∧ RQ.Own 59 w' B (.slice (some ⟨g, 0, none⟩) qs.length cap) qs ∧ MC.Only g w w' := by
  obtain ⟨i2, hi', hz0', hz1', hz2'⟩ := info_parts Try.infoRc
  have ROWS : Hid (RQ.Rows w B ps) := ho.rows
  have OUT : Hid _ := ho.out
  have FL0 : Hid (RQ.Flt 59 w B g cap ps (fun p => RQ.inTime n p.said) 0 []) := RQ.Flt.start _ ho.out
  obtain ⟨hc1, hc2, hBg, hgl⟩ := FL0.out.caps
  have hc63 : cap ≤ 9223372036854775807 := by unfold maxLen at hc2; omega
  clear ho
  go_enter Try.func30, Try.ntmps30
  go_wp2
  go_loopw [7, 9, 14] (fun u _ iv wr => ∃ (k : Nat) (ks : List Rq), iv = .int .i64 k ∧ k ≤ ps.length ∧ u = .slice (some ⟨g, 0, none⟩) ks.length cap ∧ Hid (RQ.Flt 59 wr B g cap ps (fun p => RQ.inTime n p.said) k ks) ∧ MC.Only g w wr) (fun _ _ iv _ => (ps.length - intOf iv).toNat)
  case atStart => exact ⟨0, [], rfl, by omega, rfl, FL0, MC.Only.refl _ _⟩
  case round =>
    obtain ⟨k, ks, rfl, hk, rfl, hF, hO⟩ := hrel
    by_cases hlk : k < ps.length
    · obtain ⟨e0, e1, e2, hg⟩ := hF.out.next hlk
      have hkl := hF.out.len
      have KEEP : Hid _ := fun (W : World) (hb : Below wr.heap.size wr W) h => (hF.out.below hb).keep (k := k) hlk h
      have OUTK : Hid _ := fun (W : World) (hb : Below wr.heap.size wr W) h => (hF.out.below hb).out (k := k) hlk h
      have ROOM : Hid _ := fun (W : World) (hb : Below wr.heap.size wr W) (o : Nat) (h : o < ps.length * 3) => (hF.out.below hb).room h
      have TL : Hid _ := fun W => timeRe_any (RQ.at_ ps k) W
      clear FL0 hF ROWS OUT
      generalize RQ.at_ ps k = p at *
      obtain ⟨m, t, os, a, c⟩ := p
      go_wp2_with fail
      refine Calls.mono (TL.out _) ?_
      rintro e w2 ⟨rfl, hb2⟩
      have q0 : (wr.alloc (.cells #[.int .i64 m, .int .i64 t, .slice a os.length c] 59)).cell? ⟨wr.heap.size, 0, none⟩ = some (.int .i64 m) := by rw [World.cell?_alloc_new]; rfl
      have q1 : (wr.alloc (.cells #[.int .i64 m, .int .i64 t, .slice a os.length c] 59)).cell? ⟨wr.heap.size, 1, none⟩ = some (.int .i64 t) := by rw [World.cell?_alloc_new]; rfl
      have q2 : (wr.alloc (.cells #[.int .i64 m, .int .i64 t, .slice a os.length c] 59)).cell? ⟨wr.heap.size, 2, none⟩ = some (.slice a os.length c) := by rw [World.cell?_alloc_new]; rfl
      replace q0 := (hb2.cell (p := ⟨wr.heap.size, 0, none⟩) (by simp)).trans q0
      replace q1 := (hb2.cell (p := ⟨wr.heap.size, 1, none⟩) (by simp)).trans q1
      replace q2 := (hb2.cell (p := ⟨wr.heap.size, 2, none⟩) (by simp)).trans q2
      have hlt2 : wr.heap.size < w2.heap.size := by have := hb2.size; simp at this; omega
      have hbx : Below wr.heap.size wr w2 := ((Below.refl _ wr).alloc (Nat.le_refl _) _).trans (hb2.mono (by simp))
      have HBX : Hid _ := hbx
      clear hb2 TL e0 e1 e2 hbx
      cases hq : decide (t ≤ n) with
      | false =>
        have HF2 : Hid _ := OUTK.out w2 HBX.out hq
        have HO2 : MC.Only g w w2 := hO.trans (MC.Only.of_below HBX.out)
        clear KEEP OUTK ROOM q0 q1 q2 HBX
        go_wp2
        go_roundw
        case rel => exact ⟨k + 1, ks, by go_num, by omega, rfl, HF2, HO2⟩
        case measure => simp [intOf]; omega
      | true =>
        have hbl : Below wr.heap.size wr (w2.alloc (.cells #[.int .i64 m, .int .i64 t, .slice a os.length c] 59)) := HBX.out.alloc HBX.out.size _
        have HF2 : Hid _ := KEEP.out _ hbl hq
        have hrun : ∀ ty, (Builtin.append_ #[28, 28] ty #[.slice (some ⟨g, 0, none⟩) ks.length cap, .slice (some ⟨w2.heap.size, 0, none⟩) 1 1]).run Try.prog (w2.alloc (.cells #[.int .i64 m, .int .i64 t, .slice a os.length c] 59)) = .ok (.slice (some ⟨g, 0, none⟩) (ks.length + 1) cap) ((w2.alloc (.cells #[.int .i64 m, .int .i64 t, .slice a os.length c] 59)).setCells g (ks.length * 3) [.int .i64 m, .int .i64 t, .slice a os.length c]) := fun ty => by
          have h := run_append_room_cells (P := Try.prog) (w2.alloc (.cells #[.int .i64 m, .int .i64 t, .slice a os.length c] 59)) 28 ty 59 i2 Try.underlying28 hi' g 0 ks.length cap ⟨w2.heap.size, 0, none⟩ 1 1 [.int .i64 m, .int .i64 t, .slice a os.length c] (by rw [hz1']; rfl) (RQ.new3 _ _ _ _ _ _ rfl) (RQ.one3 ⟨m, t, os, a, c⟩) (by omega) (fun j hj => by rw [hz1', Nat.zero_add]; exact (ROOM.out _ hbl _ (by simp at hj; omega)).1) (fun j hj => by rw [hz1', Nat.zero_add]; exact (ROOM.out _ hbl _ (by simp at hj; omega)).2)
          rw [hz1', Nat.zero_add] at h
          exact h
        have HO2 : MC.Only g w ((w2.alloc (.cells #[.int .i64 m, .int .i64 t, .slice a os.length c] 59)).setCells g (ks.length * 3) [.int .i64 m, .int .i64 t, .slice a os.length c]) := (hO.trans (MC.Only.of_below hbl)).trans (RA.only_cells g _ _ _)
        have HRUN : Hid _ := hrun
        have HO2' : Hid _ := HO2
        clear KEEP OUTK ROOM HBX hrun HO2 hbl
        go_wp2_with (at_builtin; refine RQ.wpList_append_room rfl _ _ 28 _ _ _ rfl HRUN.out rfl rfl ?_)
        generalize World.setCells _ _ _ _ = w3 at *
        have HLN : Hid ((ks ++ [(⟨m, t, os, a, c⟩ : Rq)]).length = ks.length + 1) := (show _ = _ from by simp)
        clear HRUN q0 q1 q2
        go_wp2
        go_roundw
        case rel => exact ⟨k + 1, ks ++ [⟨m, t, os, a, c⟩], by go_num, by omega, by rw [HLN.out], HF2, HO2'.out⟩
        case measure => simp [intOf]; omega
    · obtain rfl : k = ps.length := by omega
      have hkl := hF.out.len
      have hR : RQ.Rows wr B ps := RQ.Rows.only (by decide) ROWS.out OUT.out hO
      have HCL0 : Hid (∀ (a : Option Addr) (c : Nat) ty (W : World), (Builtin.clear_ #[28] ty #[.slice a 0 c]).run Try.prog W = .ok (.tuple #[]) W) := fun a c ty W => by cases a <;> simp [Builtin.clear_, run_underlying Try.underlying28]
      have hF' := hF.out
      clear FL0 ROWS OUT
      have hks : ks = qs := by rw [← hqs.out]; exact (hF'.none_ hR).1
      subst hks
      by_cases hlt : ks.length < ps.length
      · obtain ⟨hd1, hd2, hd3⟩ := hF'.done (by decide) hR (Builtin.zeroCells #[.int .i64 0, .int .i64 0, .slice none 0 0] (ps.length - ks.length)).toList
        have hcl : ∀ ty, (Builtin.clear_ #[28] ty #[.slice (some ⟨g, ks.length * 3, none⟩) (ps.length - ks.length) (cap - ks.length)]).run Try.prog wr = .ok (.tuple #[]) (wr.setCells g (ks.length * 3) (Builtin.zeroCells #[.int .i64 0, .int .i64 0, .slice none 0 0] (ps.length - ks.length)).toList) := fun ty =>
          RQ.run_clear3 wr 28 59 ty _ _ _ Try.underlying28 Try.zeroRc ⟨rfl, rfl, rfl⟩ rfl g (ks.length * 3) _ _ (by omega) (fun j hj => (hF'.room (by omega)).1) (fun j hj => (hF'.room (by omega)).2)
        have HD2 : Hid _ := hd2
        have HD3 : Hid _ := hO.trans hd3
        have hkc : ¬ (cap = ks.length) := by omega
        have hkc' : ¬ (ks.length = cap) := by omega
        clear hF hF' hR hd1 hd2 hd3 HCL0 hO hqs
        generalize wr.setCells _ _ _ = w3 at *
        go_wp2
        go_ret
        exact ⟨rfl, HD2.out, HD3.out⟩
      · have hd2 := (hF'.none_ hR).2
        have hke : ks.length = ps.length := by omega
        have HD2 : Hid _ := hd2
        have hcl := fun a c ty W => HCL0.out a c ty W
        clear hF hF' hR hd2 hlt hkl HCL0 hqs
        have hsub : ps.length - ks.length = 0 := by omega
        have hle : ks.length ≤ ps.length := by omega
        have hle2 : ks.length ≤ cap := by omega
        clear hke
        by_cases hcc : cap = ks.length
        · subst hcc
          go_wp2
          go_ret
          exact ⟨rfl, HD2.out, hO⟩
        · have hcc' : ¬ (ks.length = cap) := fun e => hcc e.symm
          go_wp2
          go_ret
          exact ⟨rfl, HD2.out, hO⟩
set_option linter.unusedSimpArgs false in
set_option maxHeartbeats 3200000 in
set_option maxRecDepth 100000 in
theorem noMoreH_any (B g cap : Nat) (ps : List Rq) (n : Int) (w : World) (h8 : ps.length ≤ 8) (ho : RQ.Own 59 w B (.slice (some ⟨g, 0, none⟩) ps.length cap) ps) (qs : List Rq) (hqs : Hid (ps.filter (fun p => RQ.near n p.said) = qs)) :
    Calls Try.prog 30 #[.slice (some ⟨g, 0, none⟩) ps.length cap, .func (.func 34) #[] #[], .int .i64 n] w fun e w' => e = .returned (.slice (some ⟨g, 0, none⟩) qs.length cap) ∧ RQ.Own 59 w' B (.slice (some ⟨g, 0, none⟩) qs.length cap) qs ∧ MC.Only g w w' := by
  obtain ⟨i2, hi', hz0', hz1', hz2'⟩ := info_parts Try.infoRc
  have ROWS : Hid (RQ.Rows w B ps) := ho.rows
  have OUT : Hid _ := ho.out
  have FL0 : Hid (RQ.Flt 59 w B g cap ps (fun p => RQ.near n p.said) 0 []) := RQ.Flt.start _ ho.out
  obtain ⟨hc1, hc2, hBg, hgl⟩ := FL0.out.caps
  have hc63 : cap ≤ 9223372036854775807 := by unfold maxLen at hc2; omega
  clear ho
  go_enter Try.func30, Try.ntmps30
  go_wp2
  go_loopw [7, 9, 14] (fun u _ iv wr => ∃ (k : Nat) (ks : List Rq), iv = .int .i64 k ∧ k ≤ ps.length ∧ u = .slice (some ⟨g, 0, none⟩) ks.length cap ∧ Hid (RQ.Flt 59 wr B g cap ps (fun p => RQ.near n p.said) k ks) ∧ MC.Only g w wr) (fun _ _ iv _ => (ps.length - intOf iv).toNat)
  case atStart => exact ⟨0, [], rfl, by omega, rfl, FL0, MC.Only.refl _ _⟩
  case round =>
    obtain ⟨k, ks, rfl, hk, rfl, hF, hO⟩ := hrel
    by_cases hlk : k < ps.length
    · obtain ⟨e0, e1, e2, hg⟩ := hF.out.next hlk
      have hkl := hF.out.len
      have KEEP : Hid _ := fun (W : World) (hb : Below wr.heap.size wr W) h => (hF.out.below hb).keep (k := k) hlk h
      have OUTK : Hid _ := fun (W : World) (hb : Below wr.heap.size wr W) h => (hF.out.below hb).out (k := k) hlk h
      have ROOM : Hid _ := fun (W : World) (hb : Below wr.heap.size wr W) (o : Nat) (h : o < ps.length * 3) => (hF.out.below hb).room h
      have TL : Hid _ := fun W => hopsRe_any (RQ.at_ ps k) W
      clear FL0 hF ROWS OUT
      generalize RQ.at_ ps k = p at *
      obtain ⟨m, t, os, a, c⟩ := p
      go_wp2_with fail
      refine Calls.mono (TL.out _) ?_
      rintro e w2 ⟨rfl, hb2⟩
      have q0 : (wr.alloc (.cells #[.int .i64 m, .int .i64 t, .slice a os.length c] 59)).cell? ⟨wr.heap.size, 0, none⟩ = some (.int .i64 m) := by rw [World.cell?_alloc_new]; rfl
      have q1 : (wr.alloc (.cells #[.int .i64 m, .int .i64 t, .slice a os.length c] 59)).cell? ⟨wr.heap.size, 1, none⟩ = some (.int .i64 t) := by rw [World.cell?_alloc_new]; rfl
      have q2 : (wr.alloc (.cells #[.int .i64 m, .int .i64 t, .slice a os.length c] 59)).cell? ⟨wr.heap.size, 2, none⟩ = some (.slice a os.length c) := by rw [World.cell?_alloc_new]; rfl
      replace q0 := (hb2.cell (p := ⟨wr.heap.size, 0, none⟩) (by simp)).trans q0
      replace q1 := (hb2.cell (p := ⟨wr.heap.size, 1, none⟩) (by simp)).trans q1
      replace q2 := (hb2.cell (p := ⟨wr.heap.size, 2, none⟩) (by simp)).trans q2
      have hlt2 : wr.heap.size < w2.heap.size := by have := hb2.size; simp at this; omega
      have hbx : Below wr.heap.size wr w2 := ((Below.refl _ wr).alloc (Nat.le_refl _) _).trans (hb2.mono (by simp))
      have HBX : Hid _ := hbx
      clear hb2 TL e0 e1 e2 hbx
      cases hq : decide ((os.length : Int) ≤ n) with
      | false =>
        have HF2 : Hid _ := OUTK.out w2 HBX.out hq
        have HO2 : MC.Only g w w2 := hO.trans (MC.Only.of_below HBX.out)
        clear KEEP OUTK ROOM q0 q1 q2 HBX
        go_wp2
        go_roundw
        case rel => exact ⟨k + 1, ks, by go_num, by omega, rfl, HF2, HO2⟩
        case measure => simp [intOf]; omega
      | true =>
        have hbl : Below wr.heap.size wr (w2.alloc (.cells #[.int .i64 m, .int .i64 t, .slice a os.length c] 59)) := HBX.out.alloc HBX.out.size _
        have HF2 : Hid _ := KEEP.out _ hbl hq
        have hrun : ∀ ty, (Builtin.append_ #[28, 28] ty #[.slice (some ⟨g, 0, none⟩) ks.length cap, .slice (some ⟨w2.heap.size, 0, none⟩) 1 1]).run Try.prog (w2.alloc (.cells #[.int .i64 m, .int .i64 t, .slice a os.length c] 59)) = .ok (.slice (some ⟨g, 0, none⟩) (ks.length + 1) cap) ((w2.alloc (.cells #[.int .i64 m, .int .i64 t, .slice a os.length c] 59)).setCells g (ks.length * 3) [.int .i64 m, .int .i64 t, .slice a os.length c]) := fun ty => by
          have h := run_append_room_cells (P := Try.prog) (w2.alloc (.cells #[.int .i64 m, .int .i64 t, .slice a os.length c] 59)) 28 ty 59 i2 Try.underlying28 hi' g 0 ks.length cap ⟨w2.heap.size, 0, none⟩ 1 1 [.int .i64 m, .int .i64 t, .slice a os.length c] (by rw [hz1']; rfl) (RQ.new3 _ _ _ _ _ _ rfl) (RQ.one3 ⟨m, t, os, a, c⟩) (by omega) (fun j hj => by rw [hz1', Nat.zero_add]; exact (ROOM.out _ hbl _ (by simp at hj; omega)).1) (fun j hj => by rw [hz1', Nat.zero_add]; exact (ROOM.out _ hbl _ (by simp at hj; omega)).2)
          rw [hz1', Nat.zero_add] at h
          exact h
        have HO2 : MC.Only g w ((w2.alloc (.cells #[.int .i64 m, .int .i64 t, .slice a os.length c] 59)).setCells g (ks.length * 3) [.int .i64 m, .int .i64 t, .slice a os.length c]) := (hO.trans (MC.Only.of_below hbl)).trans (RA.only_cells g _ _ _)
        have HRUN : Hid _ := hrun
        have HO2' : Hid _ := HO2
        clear KEEP OUTK ROOM HBX hrun HO2 hbl
        go_wp2_with (at_builtin; refine RQ.wpList_append_room rfl _ _ 28 _ _ _ rfl HRUN.out rfl rfl ?_)
        generalize World.setCells _ _ _ _ = w3 at *
        have HLN : Hid ((ks ++ [(⟨m, t, os, a, c⟩ : Rq)]).length = ks.length + 1) := (show _ = _ from by simp)
        clear HRUN q0 q1 q2
        go_wp2
        go_roundw
        case rel => exact ⟨k + 1, ks ++ [⟨m, t, os, a, c⟩], by go_num, by omega, by rw [HLN.out], HF2, HO2'.out⟩
        case measure => simp [intOf]; omega
    · obtain rfl : k = ps.length := by omega
      have hkl := hF.out.len
      have hR : RQ.Rows wr B ps := RQ.Rows.only (by decide) ROWS.out OUT.out hO
      have HCL0 : Hid (∀ (a : Option Addr) (c : Nat) ty (W : World), (Builtin.clear_ #[28] ty #[.slice a 0 c]).run Try.prog W = .ok (.tuple #[]) W) := fun a c ty W => by cases a <;> simp [Builtin.clear_, run_underlying Try.underlying28]
      have hF' := hF.out
      clear FL0 ROWS OUT
      have hks : ks = qs := by rw [← hqs.out]; exact (hF'.none_ hR).1
      subst hks
      by_cases hlt : ks.length < ps.length
      · obtain ⟨hd1, hd2, hd3⟩ := hF'.done (by decide) hR (Builtin.zeroCells #[.int .i64 0, .int .i64 0, .slice none 0 0] (ps.length - ks.length)).toList
        have hcl : ∀ ty, (Builtin.clear_ #[28] ty #[.slice (some ⟨g, ks.length * 3, none⟩) (ps.length - ks.length) (cap - ks.length)]).run Try.prog wr = .ok (.tuple #[]) (wr.setCells g (ks.length * 3) (Builtin.zeroCells #[.int .i64 0, .int .i64 0, .slice none 0 0] (ps.length - ks.length)).toList) := fun ty =>
          RQ.run_clear3 wr 28 59 ty _ _ _ Try.underlying28 Try.zeroRc ⟨rfl, rfl, rfl⟩ rfl g (ks.length * 3) _ _ (by omega) (fun j hj => (hF'.room (by omega)).1) (fun j hj => (hF'.room (by omega)).2)
        have HD2 : Hid _ := hd2
        have HD3 : Hid _ := hO.trans hd3
        have hkc : ¬ (cap = ks.length) := by omega
        have hkc' : ¬ (ks.length = cap) := by omega
        clear hF hF' hR hd1 hd2 hd3 HCL0 hO hqs
        generalize wr.setCells _ _ _ = w3 at *
        go_wp2
        go_ret
        exact ⟨rfl, HD2.out, HD3.out⟩
      · have hd2 := (hF'.none_ hR).2
        have hke : ks.length = ps.length := by omega
        have HD2 : Hid _ := hd2
        have hcl := fun a c ty W => HCL0.out a c ty W
        clear hF hF' hR hd2 hlt hkl HCL0 hqs
        have hsub : ps.length - ks.length = 0 := by omega
        have hle : ks.length ≤ ps.length := by omega
        have hle2 : ks.length ≤ cap := by omega
        clear hke
        by_cases hcc : cap = ks.length
        · subst hcc
          go_wp2
          go_ret
          exact ⟨rfl, HD2.out, hO⟩
        · have hcc' : ¬ (ks.length = cap) := fun e => hcc e.symm
          go_wp2
          go_ret
          exact ⟨rfl, HD2.out, hO⟩
end Go.Proofs.Ytpdmbobcbehilaa

/- Who is there by a time, the specification's: DeliveredBy. -/
namespace Go.Proofs.Ytpdmbobcbehilaa
open Go.RowKit
set_option maxHeartbeats 400000 in
set_option maxRecDepth 100000 in
theorem l1In17_any (n : Int) (w : World) : Calls Try.prog 37 #[.int .i64 n, .int .i64 0, .int .i64 2000] w fun e w' => e = .returned (.bool (decide (0 ≤ n ∧ n ≤ 2000))) ∧ w = w' := by
  by_cases h0 : 0 ≤ n
  · by_cases h1 : n ≤ 2000
    · go_enter Try.func37, Try.ntmps37
      go_wp2
      go_ret
      exact ⟨by simp [h0, h1], rfl⟩
    · go_enter Try.func37, Try.ntmps37
      go_wp2
      go_ret
      exact ⟨by simp; omega, rfl⟩
  · go_enter Try.func37, Try.ntmps37
    go_wp2
    go_ret
    exact ⟨by simp; omega, rfl⟩
set_option linter.unusedSimpArgs false in
set_option maxHeartbeats 1600000 in
set_option maxRecDepth 100000 in
theorem delS_any (a d : Option Addr) (cap cd : Nat) (xs : List I5) (b : Bd) (ms : List Int) (n : Int) (w : World) (hm : ms.length ≤ 1048576) (hn : xs.length ≤ 1048576) (hs : b.py.size ≤ 1048576) (hin : MI5.RowAt w a xs) (hin2 : M4.IntsAt w d ms) :
    Calls Try.prog 20 #[.slice a xs.length cap, b.v, .slice d ms.length cd, .int .i64 n] w fun e w' => ∃ a1 c1, e = .returned (.tuple #[.slice a1 (RQ.delA xs b ms n).length c1, .bool (RQ.delOk xs b ms n)]) ∧ w'.ownsRow w.heap.size 3 1 (.slice a1 (RQ.delA xs b ms n).length c1) (RQ.delA xs b ms n).length (M4.iv (RQ.delA xs b ms n)) ∧ Below w.heap.size w w' := by
  obtain ⟨i0, hi, hz0, hz1, hz2⟩ := info_parts Try.info3
  have P1 : Hid (∀ W : World, Below w.heap.size w W → Calls Try.prog 25 #[.slice a xs.length cap, b.v, .slice d ms.length cd] W fun e w' => e = .returned (.bool (RQ.reaOk xs b ms)) ∧ Below W.heap.size W w') := fun W h => l17Ask_any a d cap cd xs b ms W hm hn hs (hin.below h) (M4.IntsAt.below hin2 h)
  have P2 : Hid (∀ W : World, Calls Try.prog 37 #[.int .i64 n, .int .i64 0, .int .i64 2000] W fun e w' => e = .returned (.bool (decide (0 ≤ n ∧ n ≤ 2000))) ∧ W = w') := fun W => l1In17_any n W
  have P3 : Hid (RQ.reaOk xs b ms = true → ∀ W : World, Below w.heap.size w W → Calls Try.prog 26 #[.slice a xs.length cap, b.v, .slice d ms.length cd] W fun e w' => ∃ a1 c1 ps, e = .returned (.slice a1 (List.length ps) c1) ∧ RQ.Own 59 w' W.heap.size (.slice a1 ps.length c1) ps ∧ ps.map Rq.said = RQ.reaL xs b ms ∧ Below W.heap.size W w') := fun hq W h => by
    have hq' := hq
    unfold RQ.reaOk at hq'
    rw [Bool.and_eq_true] at hq'
    exact l17Reach_any a d cap cd xs b ms W hq'.1 (GP.rises_len hq'.2) hn (hin.below h) (M4.IntsAt.below hin2 h)
  have HR : Hid (RQ.delOk xs b ms n = (RQ.reaOk xs b ms && decide (0 ≤ n ∧ n ≤ 2000))) := show RQ.delOk xs b ms n = _ from rfl
  have NO : Hid (RQ.delOk xs b ms n = false → RQ.delA xs b ms n = []) := fun h => RQ.del_no h
  have YES : Hid (RQ.delOk xs b ms n = true → ∀ ps : List Rq, ps.map Rq.said = RQ.reaL xs b ms → RQ.delUp ps n ps.length = RQ.delA xs b ms n) := fun h ps hp => by
    rw [RQ.del_yes h]
    exact RQ.delUp_end hp
  have ML : Hid (RQ.reaOk xs b ms = true → (RQ.reaL xs b ms).length ≤ 8) := fun h => by
    unfold RQ.reaOk at h
    rw [Bool.and_eq_true] at h
    exact Nat.le_trans (RQ.reaL_len xs b ms) (GP.rises_len h.2)
  have BA := BdAt.box w b 33
  have BB := (Below.refl _ w).alloc (Nat.le_refl _) (.cells #[.int .i64 b.fr, .int .i64 b.to, .bool b.gr, .int .i64 b.md, .int .i64 b.no, .int .i64 b.lf, .int .i64 b.hp, .int .i64 b.of, .int .i64 b.tl, .string b.py] 33)
  clear hin hin2
  generalize RQ.delOk xs b ms n = R at *
  generalize RQ.delA xs b ms n = L at *
  generalize RQ.reaL xs b ms = AL at *
  generalize RQ.reaOk xs b ms = q1 at *
  generalize hq2 : decide (0 ≤ n ∧ n ≤ 2000) = q2 at *
  clear hq2
  obtain ⟨fr, to, gr, md, no, lf, hp, of, tl, py⟩ := b
  obtain ⟨hlt, c0, c1, c2, c3, c4, c5, c6, c7, c8, c9⟩ := id BA
  go_enter Try.func20, Try.ntmps20
  go_wp2_with fail
  refine (P1.out _ BB).mono ?_
  rintro e w1 ⟨rfl, hb1⟩
  clear c0 c1 c2 c3 c4 c5 c6 c7 c8 c9 hlt P1
  have BA1 := BA.below hb1 BA.1
  have BB1 := BB.trans (hb1.mono BB.size)
  clear hb1 BA BB
  cases q1 with
  | false =>
    have hR : R = false := HR.out
    subst hR
    have hL := NO.out (by first | rfl | trivial)
    subst hL
    clear P2 P3 HR NO YES ML BA1
    go_wp2
    exact bodyPost_ret (v := .tuple #[.slice none 0 0, .bool false]) (by simp [results, Try.results20, go_sem]) rfl ⟨none, 0, rfl, World.ownsRow_nil _ _ _ _, BB1⟩
  | true =>
    have hR : R = q2 := HR.out
    subst hR
    go_wp2_with fail
    refine (P2.out _).mono ?_
    rintro e w' ⟨rfl, rfl⟩
    clear P2 HR
    cases R with
    | false =>
      have hL := NO.out (by first | rfl | trivial)
      subst hL
      clear P3 NO YES ML BA1
      go_wp2
      exact bodyPost_ret (v := .tuple #[.slice none 0 0, .bool false]) (by simp [results, Try.results20, go_sem]) rfl ⟨none, 0, rfl, World.ownsRow_nil _ _ _ _, BB1⟩
    | true =>
      have P3' : Hid _ := P3.out (by first | rfl | trivial)
      have YES' : Hid _ := YES.out (by first | rfl | trivial)
      have ML' := ML.out (by first | rfl | trivial)
      clear P3 NO YES ML
      obtain ⟨hlt, c0, c1, c2, c3, c4, c5, c6, c7, c8, c9⟩ := id BA1
      go_wp2_with fail
      refine (P3'.out _ BB1).mono ?_
      rintro e w2 ⟨a2, c2', ps, rfl, ho, hL, hb2⟩
      clear c0 c1 c2 c3 c4 c5 c6 c7 c8 c9 hlt P3'
      have BB2 := BB1.trans (hb2.mono BB1.size)
      have HI : Hid (RQ.At w2 a2 ps) := ho.at
      have HY : Hid _ := YES'.out ps hL
      have h8 : ps.length ≤ 8 := by have := congrArg List.length hL; rw [List.length_map] at this; rw [this]; exact ML'
      have hs2 := BB2.size
      clear ho hL hb2 BA1 BB1 YES' ML'
      go_wp2
      go_loopw [10, 12, 28] (fun u _ iv wr => ∃ (k : Nat) (os : List Int), iv = .int .i64 k ∧ k ≤ ps.length ∧ Hid (RQ.delUp ps n k = os) ∧ Hid (wr.ownsRow w2.heap.size 3 1 u os.length (M4.iv os)) ∧ Below w2.heap.size w2 wr) (fun _ _ iv _ => (ps.length - intOf iv).toNat)
      case atStart => exact ⟨0, [], rfl, by omega, by show _ = _; rfl, World.ownsRow_nil _ _ _ _, Below.refl _ _⟩
      case round =>
        obtain ⟨k, os, rfl, hk, hP, hO, hb⟩ := hrel
        have hbs := hb.size
        by_cases hlk : k < ps.length
        · obtain ⟨b1, o1, rfl, hlt1, p0, p1, p2, p3, p4⟩ := (HI.out.below hb).at hlk
          have hol : os.length ≤ 8 := by have := RQ.delUp_len ps n k; rw [hP.out] at this; omega
          have UY : Hid _ := RQ.delUp_yes (n := n) hlk
          have UN : Hid _ := RQ.delUp_no (n := n) hlk
          rw [hP.out] at UY UN
          clear hP p3 p4
          generalize RQ.at_ ps k = p at *
          obtain ⟨m, t, ys, ya, yc⟩ := p
          have hb1 : Below wr.heap.size wr (wr.alloc (.cells #[.int .i64 m, .int .i64 t, .slice ya ys.length yc] 59)) := (Below.refl _ wr).alloc (Nat.le_refl _) _
          have HB3 : Hid _ := hb.trans (hb1.mono hbs)
          have HO2 : Hid _ := M5.own_below hO.out hb1
          have hs3 := HB3.out.size
          have q0 : (wr.alloc (.cells #[.int .i64 m, .int .i64 t, .slice ya ys.length yc] 59)).cell? ⟨wr.heap.size, 0, none⟩ = some (.int .i64 m) := by rw [World.cell?_alloc_new]; rfl
          clear hO hb
          generalize hoo : os.length = ol at *
          have HOL : Hid (os.length = ol) := hoo
          clear hoo
          cases hq : decide (t ≤ n) with
          | false =>
            have HU : Hid (RQ.delUp ps n (k + 1) = os) := UN.out hq
            have HO2' : Hid ((wr.alloc (.cells #[.int .i64 m, .int .i64 t, .slice ya ys.length yc] 59)).ownsRow w2.heap.size 3 1 u10 os.length (M4.iv os)) := show World.ownsRow _ _ _ _ _ _ _ by rw [HOL.out]; exact HO2.out
            clear UY UN HO2 hb1
            go_wp2
            go_roundw
            case rel => exact ⟨k + 1, os, by go_num, by omega, HU, HO2', HB3.out⟩
            case measure => simp [intOf]; omega
          | true =>
            have HU : Hid (RQ.delUp ps n (k + 1) = os ++ [m]) := UY.out hq
            clear UY UN hb1
            go_wp2_with (at_builtin; (refine wpList_append_own _ rfl _ _ 25 rfl w2.heap.size 3 i0 (.int .i64 0) 1 8 Try.underlying25 hi hz0 hz1 hz2 rfl (by decide) _ _ _ rfl (World.ownsRow.alloc HO2.out _) _ 1 1 [.int .i64 m] rfl rfl ?c1 ?c2 ?c3 ?c4 ?c5 ?_))
            all_goals try (first | rfl | omega | exact M2.new1 _ _ _ | exact M2.one1 _ _ | (unfold maxLen; omega) | (simp; omega))
            intro v' w6 hown1 hgrow _
            have hb6 : Below w2.heap.size w2 w6 := (HB3.out.alloc hs3 _).grown hgrow (by simp; have := hs3; simp at this; omega) (fun j hj => (World.ownsRow.lt HO2.out j hj).1)
            have HT6 : Hid (w6.ownsRow w2.heap.size 3 1 v' (os ++ [m]).length (M4.iv (os ++ [m]))) := TR.own_snoc (by rw [HOL.out]; exact hown1) rfl
            clear hown1 hgrow HO2 HB3 hs3 HOL q0 p0 p1 p2
            generalize os ++ [m] = zs at *
            go_wp2
            go_roundw
            case rel => exact ⟨k + 1, zs, by go_num, by omega, HU, HT6, hb6⟩
            case measure => simp [intOf]; omega
        · obtain rfl : k = ps.length := by omega
          have hos : os = L := by rw [← hP.out]; exact HY.out
          subst hos
          obtain ⟨a1, c1, rfl, -⟩ := M5.own_view hO.out
          have HO1 := TR.own_mono hO.out hs2
          have BB3 := BB2.trans (hb.mono hs2)
          clear HI hP HY
          go_wp2
          exact bodyPost_ret (v := .tuple #[.slice a1 os.length c1, .bool true]) (by simp [results, Try.results20, go_sem]) rfl ⟨a1, c1, rfl, HO1, BB3⟩
end Go.Proofs.Ytpdmbobcbehilaa

/- All for whom there is a route, the program's: allReached. -/
namespace Go.Proofs.Ytpdmbobcbehilaa
open Go.RowKit
set_option linter.unusedSimpArgs false in
set_option maxHeartbeats 3200000 in
set_option maxRecDepth 100000 in
theorem allReached_any (a d : Option Addr) (cap cd : Nat) (xs : List I5) (b : Bd) (ms : List Int) (w : World) (hm : ms.length ≤ 8) (hn : xs.length ≤ 1048576) (hin : MI5.RowAt w a xs) (hin2 : M4.IntsAt w d ms) :
    Calls Try.prog 31 #[.slice a xs.length cap, b.v, .slice d ms.length cd] w fun e w' => ∃ g c1 ps, e = .returned (.slice (some ⟨g, 0, none⟩) (List.length ps) c1) ∧ RQ.Own 59 w' w.heap.size (.slice (some ⟨g, 0, none⟩) ps.length c1) ps ∧ ps.map Rq.said = RQ.allL xs b ms ∧ Below w.heap.size w w' := by
  obtain ⟨i2, hi', hz0', hz1', hz2'⟩ := info_parts Try.infoRc
  have P2 : Hid (∀ (t : Int) (W : World), Below w.heap.size w W → Calls Try.prog 55 #[.slice a xs.length cap, .int .i64 b.fr, .int .i64 b.md, .int .i64 t] W fun e w' => ∃ a1 c1, e = .returned (.tuple #[.slice a1 (PN.routeL xs b.fr b.md t).length c1, .int .i64 (PN.tellN (PN.routeM xs b.fr b.md t)), .bool (PN.tellB (PN.routeM xs b.fr b.md t))]) ∧ w'.ownsRow W.heap.size 3 1 (.slice a1 (PN.routeL xs b.fr b.md t).length c1) (PN.routeL xs b.fr b.md t).length (M4.iv (PN.routeL xs b.fr b.md t)) ∧ Below W.heap.size W w') := fun t W h => implRoute_any a cap xs b.fr b.md t W hn (hin.below h)
  have HMS : Hid (M4.IntsAt w d ms) := hin2
  have YES : Hid (∀ k, k < ms.length → PN.tellB (PN.routeM xs b.fr b.md (ms.getD k 0)) = true → RQ.allL xs b (ms.take (k + 1)) = RQ.allL xs b (ms.take k) ++ [(ms.getD k 0, PN.tellN (PN.routeM xs b.fr b.md (ms.getD k 0)), PN.routeL xs b.fr b.md (ms.getD k 0))]) := fun k hk h1 => RQ.allL_yes hk h1
  have NO : Hid (∀ k, k < ms.length → PN.tellB (PN.routeM xs b.fr b.md (ms.getD k 0)) = false → RQ.allL xs b (ms.take (k + 1)) = RQ.allL xs b (ms.take k)) := fun k hk h => RQ.allL_no hk h
  have ML : Hid (∀ k, (RQ.allL xs b (ms.take k)).length ≤ 8) := fun k => by have := RQ.allL_len xs b (ms.take k); rw [List.length_take] at this; omega
  have RL : Hid (∀ t, (PN.routeL xs b.fr b.md t).length ≤ 1048576) := fun t => PN.routeL_len _ _ _ _
  have Z0 : Hid (RQ.allL xs b (ms.take 0) = []) := (show _ = _ from by rw [List.take_zero]; rfl)
  have ZN : Hid (RQ.allL xs b (ms.take ms.length) = RQ.allL xs b ms) := (show _ = _ from by rw [List.take_length])
  have BA := BdAt.box w b 33
  have BB := (Below.refl _ w).alloc (Nat.le_refl _) (.cells #[.int .i64 b.fr, .int .i64 b.to, .bool b.gr, .int .i64 b.md, .int .i64 b.no, .int .i64 b.lf, .int .i64 b.hp, .int .i64 b.of, .int .i64 b.tl, .string b.py] 33)
  clear hin hin2
  generalize RQ.allL xs b ms = R at *
  generalize hR : (fun k => RQ.allL xs b (ms.take k)) = RK at *
  have e1 : ∀ k, RQ.allL xs b (ms.take k) = RK k := fun k => by rw [← hR]
  clear hR
  simp only [e1] at YES NO ML Z0 ZN
  clear e1
  generalize hR : (fun t => PN.routeM xs b.fr b.md t) = RM at *
  have e1 : ∀ t, PN.routeM xs b.fr b.md t = RM t := fun t => by rw [← hR]
  clear hR
  simp only [e1] at P2 YES NO
  clear e1
  generalize hR : (fun t => PN.routeL xs b.fr b.md t) = RT at *
  have e1 : ∀ t, PN.routeL xs b.fr b.md t = RT t := fun t => by rw [← hR]
  clear hR
  simp only [e1] at P2 YES NO RL
  clear e1
  obtain ⟨fr, to, gr, md, no, lf, hp, of, tl, py⟩ := b
  go_enter Try.func31, Try.ntmps31
  generalize hW1 : w.alloc _ = W1 at *
  have BLIT : Hid (Below W1.heap.size W1 (W1.alloc (.cells #[] 59))) := (Below.refl _ W1).alloc (Nat.le_refl _) _
  have OLIT : Hid (RQ.Own 59 (W1.alloc (.cells #[] 59)) W1.heap.size (.slice (some ⟨W1.heap.size, 0, none⟩) ([] : List Rq).length 0) []) := ⟨World.ownsRow_lit (base := W1.heap.size) (e := 59) (size := 3) W1 #[] 0 (Nat.le_refl _) (by unfold maxLen; omega) (by simp), RQ.Rows.nil _ _⟩
  go_wp2
  generalize W1.alloc (.cells #[] 59) = W2 at *
  go_loopw [7, 9, 10, 11, 12, 16] (fun u _ _ _ _ iv wr => ∃ (k : Nat) (ps : List Rq), iv = .int .i64 k ∧ k ≤ ms.length ∧ Hid (ps.map Rq.said = RK k) ∧ Hid (RQ.Own 59 wr W1.heap.size u ps) ∧ (∃ g c, u = .slice (some ⟨g, 0, none⟩) ps.length c) ∧ Below W1.heap.size W1 wr) (fun _ _ _ _ _ iv _ => (ms.length - intOf iv).toNat)
  case atStart => exact ⟨0, [], rfl, by omega, by show _ = _; rw [Z0.out]; rfl, OLIT, ⟨W1.heap.size, 0, rfl⟩, BLIT.out⟩
  case round =>
    obtain ⟨k, ps, rfl, hk, hP, hO, ⟨gu, cu, rfl⟩, hb⟩ := hrel
    have BA2 := BA.below hb BA.1
    have BB2 := BB.trans (hb.mono BB.size)
    have hbs := hb.size
    have hps : ps.length ≤ 8 := by have := congrArg List.length hP.out; rw [List.length_map] at this; rw [this]; exact ML.out k
    by_cases hlk : k < ms.length
    · obtain ⟨b1, off1, hd1, hlt1, hc1⟩ := M4.IntsAt.at (M4.IntsAt.below HMS.out BB2) hlk
      have Y1 : Hid _ := YES.out k hlk
      have N1 : Hid _ := NO.out k hlk
      generalize ms.getD k 0 = z at *
      have P2' : Hid (Calls _ _ _ _ _) := P2.out z wr BB2
      have hrl := RL.out z
      generalize RT z = L at *
      generalize PN.tellN (RM z) = tn at *
      generalize hTB : PN.tellB (RM z) = T at *
      clear hTB
      obtain ⟨hlt, c0, c1, c2, c3, c4, c5, c6, c7, c8, c9⟩ := id BA2
      clear c1 c2 c4 c5 c6 c7 c8 c9
      subst hd1
      go_wp2_with fail
      refine Calls.mono P2'.out ?_
      rintro e w2 ⟨a2, ca2, rfl, ho2, hb2⟩
      clear c0 c3 hlt hc1 P2'
      have BA3 := BA2.below hb2 BA2.1
      have BB3 := BB2.trans (hb2.mono BB2.size)
      have HB3 : Hid (Below W1.heap.size W1 w2) := hb.trans (hb2.mono hbs)
      have HO2 : Hid _ := hO.out.below hb2
      have HN2 : Hid (NR.In w2 wr.heap.size a2 L) := NR.In.of_own ho2
      have HOLD : Hid _ := hO.out.rows.lt
      have hb2s := hb2.size
      clear hb2 ho2 BA2 hO
      clear BA3
      cases T with
      | false =>
        have HR : Hid (RK (k + 1) = RK k) := N1.out rfl
        clear Y1 N1 HN2 HOLD
        go_wp2
        go_roundw
        case rel => exact ⟨k + 1, ps, by go_num, by omega, by show _ = _; rw [HR.out]; exact hP.out, HO2, ⟨gu, cu, rfl⟩, HB3.out⟩
        case measure => simp [intOf]; omega
      | true =>
        have HR : Hid (RK (k + 1) = RK k ++ [(z, tn, L)]) := Y1.out (by first | rfl | trivial)
        have HP : Hid _ := hP.out
        clear Y1 N1 hP
        have HLIT : Hid (RQ.Own 59 (w2.alloc (.cells #[.int .i64 z, .int .i64 tn, .slice a2 L.length ca2] 59)) W1.heap.size (.slice (some ⟨gu, 0, none⟩) ps.length cu) ps) := HO2.out.below ((Below.refl _ w2).alloc (Nat.le_refl _) _)
        go_wp2_with (at_builtin; refine wpList_append_own _ rfl _ _ 28 rfl W1.heap.size 59 i2 (.agg #[.int .i64 0, .int .i64 0, .slice none 0 0]) 3 40 Try.underlying28 hi' hz0' hz1' hz2' rfl (by decide) _ _ _ rfl HLIT.out.out ⟨w2.heap.size, 0, none⟩ 1 1 [.int .i64 z, .int .i64 tn, .slice a2 L.length ca2] rfl rfl ?c1 ?c2 ?c3 ?c4 ?c5 ?_)
        case c1 => exact RQ.new3 _ _ _ _ _ _ rfl
        case c2 => exact RQ.one3 ⟨z, tn, L, a2, ca2⟩
        case c3 => unfold maxLen; omega
        case c4 => omega
        case c5 => have := HB3.out.size; simp; omega
        intro v' w6 hown1 hgrow _
        have HS : Hid (RQ.Own 59 w6 W1.heap.size v' (ps ++ [⟨z, tn, L, a2, ca2⟩])) := RQ.Own.snoc (q := ⟨z, tn, L, a2, ca2⟩) (by decide) HLIT.out (HN2.out.below ((Below.refl _ w2).alloc (Nat.le_refl _) _)) (by have := BB2.size; omega) HOLD.out hgrow hown1
        have HB6 : Hid (Below W1.heap.size W1 w6) := (HB3.out.alloc HB3.out.size _).grown hgrow (by have := HB3.out.size; simp; omega) (fun j hj => (HLIT.out.out.lt j hj).1)
        have hsl : (ps ++ [(⟨z, tn, L, a2, ca2⟩ : Rq)]).map Rq.said = RK (k + 1) := by rw [HR.out, List.map_append, HP.out]; rfl
        have HSL : Hid _ := hsl
        clear hown1 hgrow HLIT HN2 HOLD HO2 HP HR hsl
        obtain ⟨gv, cv, hv⟩ : ∃ g c, v' = .slice (some ⟨g, 0, none⟩) (ps ++ [(⟨z, tn, L, a2, ca2⟩ : Rq)]).length c := by
          rcases HS.out.out.2 with ⟨h1, h2⟩ | ⟨g, c, cur, hv, _⟩
          · simp at h2
          · exact ⟨g, c, hv⟩
        subst hv
        generalize ps ++ [(⟨z, tn, L, a2, ca2⟩ : Rq)] = qs at *
        go_wp2
        go_roundw
        case rel => exact ⟨k + 1, qs, by go_num, by omega, HSL, HS, ⟨gv, cv, rfl⟩, HB6.out⟩
        case measure => simp [intOf]; omega
    · obtain rfl : k = ms.length := by omega
      have HL : Hid (ps.map Rq.said = R) := by show _ = _; rw [hP.out, ZN.out]
      clear P2 YES NO ML RL Z0 ZN BA BA2 hP
      go_wp2
      go_ret
      exact ⟨gu, cu, ps, rfl, hO.out.mono BB.size, HL.out, BB2⟩
end Go.Proofs.Ytpdmbobcbehilaa

/- The members of reaches: toldOf of the program, handed (Reach).node. -/
namespace Go.Proofs.Ytpdmbobcbehilaa
open Go.RowKit
set_option maxHeartbeats 800000 in
set_option maxRecDepth 100000 in
theorem nodeRe_any (p : Rq) (w : World) : Calls Try.prog 40 #[p.v] w fun e w' => e = .returned (.int .i64 p.m) ∧ Below w.heap.size w w' := by
  obtain ⟨m, t, os, a, c⟩ := p
  have hB : ∀ o, Below w.heap.size w (w.alloc o) := fun o => (Below.refl _ w).alloc (Nat.le_refl _) o
  go_enter Try.func40, Try.ntmps40
  go_wp2
  go_ret
  exact ⟨rfl, hB _⟩
set_option linter.unusedSimpArgs false in
set_option maxHeartbeats 1600000 in
set_option maxRecDepth 100000 in
theorem toldOf_any (a : Option Addr) (c : Nat) (ps : List Rq) (w : World) (h8 : ps.length ≤ 8) (hin : RQ.At w a ps) (L : List Int) (hL : Hid (ps.map Rq.m = L)) :
    Calls Try.prog 39 #[.slice a ps.length c, .func (.func 40) #[] #[]] w fun e w' => ∃ a1 c1, e = .returned (.slice a1 L.length c1) ∧ w'.ownsRow w.heap.size 3 1 (.slice a1 L.length c1) L.length (M4.iv L) ∧ Below w.heap.size w w' := by
  obtain ⟨i0, hi, hz0, hz1, hz2⟩ := info_parts Try.info3
  have HI : Hid _ := hin
  have OW0 : Hid ((w.alloc (.cells #[] 3)).ownsRow w.heap.size 3 1 (.slice (some ⟨w.heap.size, 0, none⟩) 0 0) ([] : List Int).length (M4.iv [])) := PN.own_lit0 w w.heap.size (Nat.le_refl _)
  have HB0 : Hid (Below w.heap.size w (w.alloc (.cells #[] 3))) := (Below.refl _ w).alloc (Nat.le_refl _) _
  clear hin
  go_enter Try.func39, Try.ntmps39
  go_wp2
  generalize Value.slice (some ⟨w.heap.size, 0, none⟩) 0 0 = v0 at *
  generalize w.alloc (.cells #[] 3) = W0 at *
  go_loopw [5, 7, 11] (fun u _ iv wr => ∃ (k : Nat) (os : List Int), iv = .int .i64 k ∧ k ≤ ps.length ∧ Hid ((ps.take k).map Rq.m = os) ∧ Hid (wr.ownsRow w.heap.size 3 1 u os.length (M4.iv os)) ∧ Below w.heap.size w wr) (fun _ _ iv _ => (ps.length - intOf iv).toNat)
  case atStart => exact ⟨0, [], rfl, by omega, by show _ = _; simp, OW0, HB0.out⟩
  case round =>
    obtain ⟨k, os, rfl, hk, hP, hO, hb⟩ := hrel
    have hbs := hb.size
    by_cases hlk : k < ps.length
    · obtain ⟨b1, o1, rfl, hlt1, p0, p1, p2, p3, p4⟩ := (HI.out.below hb).at hlk
      have hol : os.length ≤ 8 := by have := congrArg List.length hP.out; rw [List.length_map, List.length_take] at this; omega
      have HSN : Hid ((ps.take (k + 1)).map Rq.m = os ++ [(RQ.at_ ps k).m]) := (show _ = _ from by rw [RQ.map_snoc hlk, hP.out])
      have ND : Hid _ := fun W => nodeRe_any (RQ.at_ ps k) W
      clear hP OW0 HB0 p3 p4
      generalize RQ.at_ ps k = p at *
      obtain ⟨m, t, ys, ya, yc⟩ := p
      have hb1 : Below wr.heap.size wr (wr.alloc (.cells #[.int .i64 m, .int .i64 t, .slice ya ys.length yc] 59)) := (Below.refl _ wr).alloc (Nat.le_refl _) _
      go_wp2_with fail
      refine Calls.mono (ND.out _) ?_
      rintro e w2 ⟨rfl, hb2⟩
      have hb3 := hb1.trans (hb2.mono hb1.size)
      have HB3 : Hid _ := hb.trans (hb3.mono hbs)
      have HO2 : Hid _ := M5.own_below hO.out hb3
      have hs3 := HB3.out.size
      clear hb1 hb2 ND p0 p1 p2 hO hb hb3
      generalize hoo : os.length = ol at *
      have HOL : Hid (os.length = ol) := hoo
      clear hoo
      go_wp2_with (at_builtin; (refine wpList_append_own _ rfl _ _ 25 rfl w.heap.size 3 i0 (.int .i64 0) 1 8 Try.underlying25 hi hz0 hz1 hz2 rfl (by decide) _ _ _ rfl (World.ownsRow.alloc HO2.out _) ⟨w2.heap.size, 0, none⟩ 1 1 [.int .i64 m] rfl rfl ?c1 ?c2 ?c3 ?c4 ?c5 ?_))
      all_goals try (first | rfl | omega | exact M2.new1 _ _ _ | exact M2.one1 _ _ | (unfold maxLen; omega) | (simp; omega))
      intro v' w6 hown1 hgrow _
      have hb6 : Below w.heap.size w w6 := (HB3.out.alloc hs3 _).grown hgrow (by simp; omega) (fun j hj => (World.ownsRow.lt HO2.out j hj).1)
      have HT6 : Hid (w6.ownsRow w.heap.size 3 1 v' (os ++ [m]).length (M4.iv (os ++ [m]))) := TR.own_snoc (by rw [HOL.out]; exact hown1) rfl
      clear hown1 hgrow HO2 HB3 hs3 HOL
      generalize os ++ [m] = zs at *
      go_wp2
      go_roundw
      case rel => exact ⟨k + 1, zs, by go_num, by omega, HSN, HT6, hb6⟩
      case measure => simp [intOf]; omega
    · obtain rfl : k = ps.length := by omega
      have hos : os = L := by rw [← hP.out, List.take_length]; exact hL.out
      subst hos
      obtain ⟨a1, c1, rfl, -⟩ := M5.own_view hO.out
      clear HI hP hL OW0 HB0
      go_wp2
      go_ret
      exact ⟨a1, c1, rfl, hO.out, hb⟩
end Go.Proofs.Ytpdmbobcbehilaa

/- Who is reached, the program's: ReachAll. -/
namespace Go.Proofs.Ytpdmbobcbehilaa
open Go.RowKit
set_option linter.unusedSimpArgs false in
set_option maxHeartbeats 3200000 in
set_option maxRecDepth 100000 in
theorem reachI2_any (a d : Option Addr) (cap cd : Nat) (xs : List I5) (b : Bd) (ms : List Int) (w : World) (hm : ms.length ≤ 1048576) (hn : xs.length ≤ 1048576) (hs : b.py.size ≤ 1048576) (hin : MI5.RowAt w a xs) (hin2 : M4.IntsAt w d ms) :
    Calls Try.prog 12 #[.slice a xs.length cap, b.v, .slice d ms.length cd] w fun e w' => ∃ a1 c1 ps, e = .returned (.tuple #[.slice a1 (List.length ps) c1, .bool (RQ.reaOk xs b ms)]) ∧ RQ.Own 59 w' w.heap.size (.slice a1 ps.length c1) ps ∧ ps.map Rq.said = RQ.reaA xs b ms ∧ (RQ.reaOk xs b ms = true → ∃ g, a1 = some ⟨g, 0, none⟩) ∧ Below w.heap.size w w' := by
  have P1 : Hid (∀ W : World, Below w.heap.size w W → Calls Try.prog 28 #[.slice a xs.length cap, b.v] W fun e w' => e = .returned (.bool (GP.fitsB xs b)) ∧ Below W.heap.size W w') := fun W h => fitsI_any a cap xs b W hn hs (hin.below h)
  have P2 : Hid (∀ W : World, Below w.heap.size w W → Calls Try.prog 29 #[.slice d ms.length cd] W fun e w' => e = .returned (.bool (EG.rises 8 ms)) ∧ W = w') := fun W h => areMembers_any d cd ms W hm (M4.IntsAt.below hin2 h) _ rfl
  have P3 : Hid (EG.rises 8 ms = true → ∀ W : World, Below w.heap.size w W → Calls Try.prog 31 #[.slice a xs.length cap, b.v, .slice d ms.length cd] W fun e w' => ∃ g c1 ps, e = .returned (.slice (some ⟨g, 0, none⟩) (List.length ps) c1) ∧ RQ.Own 59 w' W.heap.size (.slice (some ⟨g, 0, none⟩) ps.length c1) ps ∧ ps.map Rq.said = RQ.allL xs b ms ∧ Below W.heap.size W w') := fun h W hb => allReached_any a d cap cd xs b ms W (GP.rises_len h) hn (hin.below hb) (M4.IntsAt.below hin2 hb)
  have P4 : Hid (GP.fitsB xs b = true → ∀ W : World, Calls Try.prog 33 #[b.v] W fun e w' => e = .returned (.int .i64 (b.md + b.lf)) ∧ Below W.heap.size W w') := fun h W => by
    obtain ⟨_, _, _, _, h1, h2, _⟩ := GP.fits_is h
    exact lastTime_any b W h1 h2
  have HR : Hid (RQ.reaOk xs b ms = (GP.fitsB xs b && EG.rises 8 ms)) := show RQ.reaOk xs b ms = _ from rfl
  have NO : Hid (RQ.reaOk xs b ms = false → RQ.reaA xs b ms = []) := fun h => RQ.rea_no h
  have YES : Hid (RQ.reaOk xs b ms = true → ∀ ps : List Rq, ps.map Rq.said = RQ.allL xs b ms → ((ps.filter (fun p => RQ.inTime (b.md + b.lf) p.said)).filter (fun p => RQ.near b.hp p.said)).map Rq.said = RQ.reaA xs b ms) := fun h ps hp => by
    rw [RQ.rea_yes h, RQ.said_filter, RQ.said_filter, hp]; rfl
  have ML : Hid (EG.rises 8 ms = true → (RQ.allL xs b ms).length ≤ 8) := fun h => Nat.le_trans (RQ.allL_len xs b ms) (GP.rises_len h)
  have BA := BdAt.box w b 33
  have BB := (Below.refl _ w).alloc (Nat.le_refl _) (.cells #[.int .i64 b.fr, .int .i64 b.to, .bool b.gr, .int .i64 b.md, .int .i64 b.no, .int .i64 b.lf, .int .i64 b.hp, .int .i64 b.of, .int .i64 b.tl, .string b.py] 33)
  clear hin hin2
  generalize RQ.reaOk xs b ms = R at *
  generalize RQ.reaA xs b ms = L at *
  generalize RQ.allL xs b ms = AL at *
  generalize GP.fitsB xs b = q1 at *
  generalize EG.rises 8 ms = q2 at *
  generalize hml : b.md + b.lf = ml at *
  obtain ⟨fr, to, gr, md, no, lf, hp, of, tl, py⟩ := b
  clear hml
  obtain ⟨hlt, c0, c1, c2, c3, c4, c5, c6, c7, c8, c9⟩ := id BA
  go_enter Try.func12, Try.ntmps12
  go_wp2_with fail
  refine (P1.out _ BB).mono ?_
  rintro e w1 ⟨rfl, hb1⟩
  clear c0 c1 c2 c3 c4 c5 c6 c7 c8 c9 hlt P1
  have BA1 := BA.below hb1 BA.1
  have BB1 := BB.trans (hb1.mono BB.size)
  clear hb1 BA BB
  cases q1 with
  | false =>
    have hR : R = false := HR.out
    subst hR
    have HL : Hid (L = []) := NO.out (by first | rfl | trivial)
    clear P2 P3 P4 HR NO YES ML BA1
    go_wp2
    exact bodyPost_ret (v := .tuple #[.slice none 0 0, .bool false]) (by simp [results, Try.results12, go_sem]) rfl ⟨none, 0, [], rfl, RQ.Own.nil _ _ _, HL.out.symm, (fun h => by cases h), BB1⟩
  | true =>
    have hR : R = q2 := HR.out
    subst hR
    go_wp2_with fail
    refine (P2.out _ BB1).mono ?_
    rintro e w' ⟨rfl, rfl⟩
    clear P2 HR
    cases R with
    | false =>
      have HL : Hid (L = []) := NO.out (by first | rfl | trivial)
      clear P3 P4 NO YES ML BA1
      go_wp2
      exact bodyPost_ret (v := .tuple #[.slice none 0 0, .bool false]) (by simp [results, Try.results12, go_sem]) rfl ⟨none, 0, [], rfl, RQ.Own.nil _ _ _, HL.out.symm, (fun h => by cases h), BB1⟩
    | true =>
      have P3' : Hid _ := P3.out (by first | rfl | trivial)
      have P4' : Hid _ := P4.out (by first | rfl | trivial)
      have YES' : Hid _ := YES.out (by first | rfl | trivial)
      have ML' := ML.out (by first | rfl | trivial)
      clear P3 P4 YES ML NO
      have hq := BA1.1
      have KP : ∀ V1 V2 : World, (Below w1.heap.size w1 V1 ∧ V1.cell? ⟨w.heap.size, 0, none⟩ = some (.int .i64 fr) ∧ V1.cell? ⟨w.heap.size, 1, none⟩ = some (.int .i64 to) ∧ V1.cell? ⟨w.heap.size, 2, none⟩ = some (.bool gr) ∧ V1.cell? ⟨w.heap.size, 3, none⟩ = some (.int .i64 md) ∧ V1.cell? ⟨w.heap.size, 4, none⟩ = some (.int .i64 no) ∧ V1.cell? ⟨w.heap.size, 5, none⟩ = some (.int .i64 lf) ∧ V1.cell? ⟨w.heap.size, 6, none⟩ = some (.int .i64 hp) ∧ V1.cell? ⟨w.heap.size, 7, none⟩ = some (.int .i64 of) ∧ V1.cell? ⟨w.heap.size, 8, none⟩ = some (.int .i64 tl) ∧ V1.cell? ⟨w.heap.size, 9, none⟩ = some (.string py)) → Below V1.heap.size V1 V2 → (Below w1.heap.size w1 V2 ∧ V2.cell? ⟨w.heap.size, 0, none⟩ = some (.int .i64 fr) ∧ V2.cell? ⟨w.heap.size, 1, none⟩ = some (.int .i64 to) ∧ V2.cell? ⟨w.heap.size, 2, none⟩ = some (.bool gr) ∧ V2.cell? ⟨w.heap.size, 3, none⟩ = some (.int .i64 md) ∧ V2.cell? ⟨w.heap.size, 4, none⟩ = some (.int .i64 no) ∧ V2.cell? ⟨w.heap.size, 5, none⟩ = some (.int .i64 lf) ∧ V2.cell? ⟨w.heap.size, 6, none⟩ = some (.int .i64 hp) ∧ V2.cell? ⟨w.heap.size, 7, none⟩ = some (.int .i64 of) ∧ V2.cell? ⟨w.heap.size, 8, none⟩ = some (.int .i64 tl) ∧ V2.cell? ⟨w.heap.size, 9, none⟩ = some (.string py)) := fun V1 V2 ⟨h, h0, h1, h2, h3, h4, h5, h6, h7, h8, h9⟩ hb => ⟨h.trans (hb.mono h.size), (hb.cell (p := ⟨w.heap.size, 0, none⟩) (Nat.lt_of_lt_of_le hq h.size)).trans h0, (hb.cell (p := ⟨w.heap.size, 1, none⟩) (Nat.lt_of_lt_of_le hq h.size)).trans h1, (hb.cell (p := ⟨w.heap.size, 2, none⟩) (Nat.lt_of_lt_of_le hq h.size)).trans h2, (hb.cell (p := ⟨w.heap.size, 3, none⟩) (Nat.lt_of_lt_of_le hq h.size)).trans h3, (hb.cell (p := ⟨w.heap.size, 4, none⟩) (Nat.lt_of_lt_of_le hq h.size)).trans h4, (hb.cell (p := ⟨w.heap.size, 5, none⟩) (Nat.lt_of_lt_of_le hq h.size)).trans h5, (hb.cell (p := ⟨w.heap.size, 6, none⟩) (Nat.lt_of_lt_of_le hq h.size)).trans h6, (hb.cell (p := ⟨w.heap.size, 7, none⟩) (Nat.lt_of_lt_of_le hq h.size)).trans h7, (hb.cell (p := ⟨w.heap.size, 8, none⟩) (Nat.lt_of_lt_of_le hq h.size)).trans h8, (hb.cell (p := ⟨w.heap.size, 9, none⟩) (Nat.lt_of_lt_of_le hq h.size)).trans h9⟩
      have KO : ∀ (g : Nat) (V1 V2 : World), w1.heap.size ≤ g → (Below w1.heap.size w1 V1 ∧ V1.cell? ⟨w.heap.size, 0, none⟩ = some (.int .i64 fr) ∧ V1.cell? ⟨w.heap.size, 1, none⟩ = some (.int .i64 to) ∧ V1.cell? ⟨w.heap.size, 2, none⟩ = some (.bool gr) ∧ V1.cell? ⟨w.heap.size, 3, none⟩ = some (.int .i64 md) ∧ V1.cell? ⟨w.heap.size, 4, none⟩ = some (.int .i64 no) ∧ V1.cell? ⟨w.heap.size, 5, none⟩ = some (.int .i64 lf) ∧ V1.cell? ⟨w.heap.size, 6, none⟩ = some (.int .i64 hp) ∧ V1.cell? ⟨w.heap.size, 7, none⟩ = some (.int .i64 of) ∧ V1.cell? ⟨w.heap.size, 8, none⟩ = some (.int .i64 tl) ∧ V1.cell? ⟨w.heap.size, 9, none⟩ = some (.string py)) → MC.Only g V1 V2 → (Below w1.heap.size w1 V2 ∧ V2.cell? ⟨w.heap.size, 0, none⟩ = some (.int .i64 fr) ∧ V2.cell? ⟨w.heap.size, 1, none⟩ = some (.int .i64 to) ∧ V2.cell? ⟨w.heap.size, 2, none⟩ = some (.bool gr) ∧ V2.cell? ⟨w.heap.size, 3, none⟩ = some (.int .i64 md) ∧ V2.cell? ⟨w.heap.size, 4, none⟩ = some (.int .i64 no) ∧ V2.cell? ⟨w.heap.size, 5, none⟩ = some (.int .i64 lf) ∧ V2.cell? ⟨w.heap.size, 6, none⟩ = some (.int .i64 hp) ∧ V2.cell? ⟨w.heap.size, 7, none⟩ = some (.int .i64 of) ∧ V2.cell? ⟨w.heap.size, 8, none⟩ = some (.int .i64 tl) ∧ V2.cell? ⟨w.heap.size, 9, none⟩ = some (.string py)) := fun g V1 V2 hg ⟨h, h0, h1, h2, h3, h4, h5, h6, h7, h8, h9⟩ hb => ⟨h.trans (hb.below hg h.size), (hb.cell (x := ⟨w.heap.size, 0, none⟩) (Nat.lt_of_lt_of_le hq h.size) (by simp; omega)).trans h0, (hb.cell (x := ⟨w.heap.size, 1, none⟩) (Nat.lt_of_lt_of_le hq h.size) (by simp; omega)).trans h1, (hb.cell (x := ⟨w.heap.size, 2, none⟩) (Nat.lt_of_lt_of_le hq h.size) (by simp; omega)).trans h2, (hb.cell (x := ⟨w.heap.size, 3, none⟩) (Nat.lt_of_lt_of_le hq h.size) (by simp; omega)).trans h3, (hb.cell (x := ⟨w.heap.size, 4, none⟩) (Nat.lt_of_lt_of_le hq h.size) (by simp; omega)).trans h4, (hb.cell (x := ⟨w.heap.size, 5, none⟩) (Nat.lt_of_lt_of_le hq h.size) (by simp; omega)).trans h5, (hb.cell (x := ⟨w.heap.size, 6, none⟩) (Nat.lt_of_lt_of_le hq h.size) (by simp; omega)).trans h6, (hb.cell (x := ⟨w.heap.size, 7, none⟩) (Nat.lt_of_lt_of_le hq h.size) (by simp; omega)).trans h7, (hb.cell (x := ⟨w.heap.size, 8, none⟩) (Nat.lt_of_lt_of_le hq h.size) (by simp; omega)).trans h8, (hb.cell (x := ⟨w.heap.size, 9, none⟩) (Nat.lt_of_lt_of_le hq h.size) (by simp; omega)).trans h9⟩
      have AQ : Hid (∀ W' : World, (Below w1.heap.size w1 W' ∧ W'.cell? ⟨w.heap.size, 0, none⟩ = some (.int .i64 fr) ∧ W'.cell? ⟨w.heap.size, 1, none⟩ = some (.int .i64 to) ∧ W'.cell? ⟨w.heap.size, 2, none⟩ = some (.bool gr) ∧ W'.cell? ⟨w.heap.size, 3, none⟩ = some (.int .i64 md) ∧ W'.cell? ⟨w.heap.size, 4, none⟩ = some (.int .i64 no) ∧ W'.cell? ⟨w.heap.size, 5, none⟩ = some (.int .i64 lf) ∧ W'.cell? ⟨w.heap.size, 6, none⟩ = some (.int .i64 hp) ∧ W'.cell? ⟨w.heap.size, 7, none⟩ = some (.int .i64 of) ∧ W'.cell? ⟨w.heap.size, 8, none⟩ = some (.int .i64 tl) ∧ W'.cell? ⟨w.heap.size, 9, none⟩ = some (.string py)) → Calls Try.prog 31 #[.slice a xs.length cap, Bd.v ⟨fr, to, gr, md, no, lf, hp, of, tl, py⟩, .slice d ms.length cd] W' fun e w' => ∃ g c ps, e = .returned (.slice (some ⟨g, 0, none⟩) (List.length ps) c) ∧ (RQ.Own 59 w' w1.heap.size (.slice (some ⟨g, 0, none⟩) ps.length c) ps ∧ ps.length ≤ 8 ∧ ((ps.filter (fun p => RQ.inTime ml p.said)).filter (fun p => RQ.near hp p.said)).map Rq.said = L) ∧ (Below w1.heap.size w1 w' ∧ w'.cell? ⟨w.heap.size, 0, none⟩ = some (.int .i64 fr) ∧ w'.cell? ⟨w.heap.size, 1, none⟩ = some (.int .i64 to) ∧ w'.cell? ⟨w.heap.size, 2, none⟩ = some (.bool gr) ∧ w'.cell? ⟨w.heap.size, 3, none⟩ = some (.int .i64 md) ∧ w'.cell? ⟨w.heap.size, 4, none⟩ = some (.int .i64 no) ∧ w'.cell? ⟨w.heap.size, 5, none⟩ = some (.int .i64 lf) ∧ w'.cell? ⟨w.heap.size, 6, none⟩ = some (.int .i64 hp) ∧ w'.cell? ⟨w.heap.size, 7, none⟩ = some (.int .i64 of) ∧ w'.cell? ⟨w.heap.size, 8, none⟩ = some (.int .i64 tl) ∧ w'.cell? ⟨w.heap.size, 9, none⟩ = some (.string py))) := fun W' h => (P3'.out W' (BB1.trans (h.1.mono BB1.size))).mono fun e w' ⟨g, c, ps, e1, ho, hL, hb⟩ => ⟨g, c, ps, e1, ⟨ho.mono h.1.size, by have := congrArg List.length hL; rw [List.length_map] at this; rw [this]; exact ML', YES'.out ps hL⟩, KP _ _ h hb⟩
      have LQ : Hid (∀ W' : World, (Below w1.heap.size w1 W' ∧ W'.cell? ⟨w.heap.size, 0, none⟩ = some (.int .i64 fr) ∧ W'.cell? ⟨w.heap.size, 1, none⟩ = some (.int .i64 to) ∧ W'.cell? ⟨w.heap.size, 2, none⟩ = some (.bool gr) ∧ W'.cell? ⟨w.heap.size, 3, none⟩ = some (.int .i64 md) ∧ W'.cell? ⟨w.heap.size, 4, none⟩ = some (.int .i64 no) ∧ W'.cell? ⟨w.heap.size, 5, none⟩ = some (.int .i64 lf) ∧ W'.cell? ⟨w.heap.size, 6, none⟩ = some (.int .i64 hp) ∧ W'.cell? ⟨w.heap.size, 7, none⟩ = some (.int .i64 of) ∧ W'.cell? ⟨w.heap.size, 8, none⟩ = some (.int .i64 tl) ∧ W'.cell? ⟨w.heap.size, 9, none⟩ = some (.string py)) → Calls Try.prog 33 #[Bd.v ⟨fr, to, gr, md, no, lf, hp, of, tl, py⟩] W' fun e w' => e = .returned (.int .i64 ml) ∧ Below W'.heap.size W' w' ∧ (Below w1.heap.size w1 w' ∧ w'.cell? ⟨w.heap.size, 0, none⟩ = some (.int .i64 fr) ∧ w'.cell? ⟨w.heap.size, 1, none⟩ = some (.int .i64 to) ∧ w'.cell? ⟨w.heap.size, 2, none⟩ = some (.bool gr) ∧ w'.cell? ⟨w.heap.size, 3, none⟩ = some (.int .i64 md) ∧ w'.cell? ⟨w.heap.size, 4, none⟩ = some (.int .i64 no) ∧ w'.cell? ⟨w.heap.size, 5, none⟩ = some (.int .i64 lf) ∧ w'.cell? ⟨w.heap.size, 6, none⟩ = some (.int .i64 hp) ∧ w'.cell? ⟨w.heap.size, 7, none⟩ = some (.int .i64 of) ∧ w'.cell? ⟨w.heap.size, 8, none⟩ = some (.int .i64 tl) ∧ w'.cell? ⟨w.heap.size, 9, none⟩ = some (.string py))) := fun W' h => (P4'.out W').mono fun e w' ⟨e1, hb⟩ => ⟨e1, hb, KP _ _ h hb⟩
      have NQ : Hid (∀ (g c : Nat) (ps qs : List Rq) (W' : World), ps.length ≤ 8 → ps.filter (fun p => RQ.inTime ml p.said) = qs → RQ.Own 59 W' w1.heap.size (.slice (some ⟨g, 0, none⟩) ps.length c) ps → (Below w1.heap.size w1 W' ∧ W'.cell? ⟨w.heap.size, 0, none⟩ = some (.int .i64 fr) ∧ W'.cell? ⟨w.heap.size, 1, none⟩ = some (.int .i64 to) ∧ W'.cell? ⟨w.heap.size, 2, none⟩ = some (.bool gr) ∧ W'.cell? ⟨w.heap.size, 3, none⟩ = some (.int .i64 md) ∧ W'.cell? ⟨w.heap.size, 4, none⟩ = some (.int .i64 no) ∧ W'.cell? ⟨w.heap.size, 5, none⟩ = some (.int .i64 lf) ∧ W'.cell? ⟨w.heap.size, 6, none⟩ = some (.int .i64 hp) ∧ W'.cell? ⟨w.heap.size, 7, none⟩ = some (.int .i64 of) ∧ W'.cell? ⟨w.heap.size, 8, none⟩ = some (.int .i64 tl) ∧ W'.cell? ⟨w.heap.size, 9, none⟩ = some (.string py)) → Calls Try.prog 30 #[.slice (some ⟨g, 0, none⟩) ps.length c, .func (.func 32) #[] #[], .int .i64 ml] W' fun e w' => e = .returned (.slice (some ⟨g, 0, none⟩) qs.length c) ∧ RQ.Own 59 w' w1.heap.size (.slice (some ⟨g, 0, none⟩) qs.length c) qs ∧ (Below w1.heap.size w1 w' ∧ w'.cell? ⟨w.heap.size, 0, none⟩ = some (.int .i64 fr) ∧ w'.cell? ⟨w.heap.size, 1, none⟩ = some (.int .i64 to) ∧ w'.cell? ⟨w.heap.size, 2, none⟩ = some (.bool gr) ∧ w'.cell? ⟨w.heap.size, 3, none⟩ = some (.int .i64 md) ∧ w'.cell? ⟨w.heap.size, 4, none⟩ = some (.int .i64 no) ∧ w'.cell? ⟨w.heap.size, 5, none⟩ = some (.int .i64 lf) ∧ w'.cell? ⟨w.heap.size, 6, none⟩ = some (.int .i64 hp) ∧ w'.cell? ⟨w.heap.size, 7, none⟩ = some (.int .i64 of) ∧ w'.cell? ⟨w.heap.size, 8, none⟩ = some (.int .i64 tl) ∧ w'.cell? ⟨w.heap.size, 9, none⟩ = some (.string py))) := fun g c ps qs W' h8 hqs ho h => (noMoreT_any w1.heap.size g c ps ml W' h8 ho qs hqs).mono fun e w' ⟨e1, h1, h2⟩ => ⟨e1, h1, KO g _ _ (ho.out.lt g rfl).1 h h2⟩
      have hSd : Below w1.heap.size w1 w1.drew ∧ w1.drew.cell? ⟨w.heap.size, 0, none⟩ = some (.int .i64 fr) ∧ w1.drew.cell? ⟨w.heap.size, 1, none⟩ = some (.int .i64 to) ∧ w1.drew.cell? ⟨w.heap.size, 2, none⟩ = some (.bool gr) ∧ w1.drew.cell? ⟨w.heap.size, 3, none⟩ = some (.int .i64 md) ∧ w1.drew.cell? ⟨w.heap.size, 4, none⟩ = some (.int .i64 no) ∧ w1.drew.cell? ⟨w.heap.size, 5, none⟩ = some (.int .i64 lf) ∧ w1.drew.cell? ⟨w.heap.size, 6, none⟩ = some (.int .i64 hp) ∧ w1.drew.cell? ⟨w.heap.size, 7, none⟩ = some (.int .i64 of) ∧ w1.drew.cell? ⟨w.heap.size, 8, none⟩ = some (.int .i64 tl) ∧ w1.drew.cell? ⟨w.heap.size, 9, none⟩ = some (.string py) := ⟨(Below.refl _ _).drew, BA1.2⟩
      clear P3' P4' YES' ML' KO KP BA1
      go_wp2
      go_region_held3 (fun w' => Below w1.heap.size w1 w' ∧ w'.cell? ⟨w.heap.size, 0, none⟩ = some (.int .i64 fr) ∧ w'.cell? ⟨w.heap.size, 1, none⟩ = some (.int .i64 to) ∧ w'.cell? ⟨w.heap.size, 2, none⟩ = some (.bool gr) ∧ w'.cell? ⟨w.heap.size, 3, none⟩ = some (.int .i64 md) ∧ w'.cell? ⟨w.heap.size, 4, none⟩ = some (.int .i64 no) ∧ w'.cell? ⟨w.heap.size, 5, none⟩ = some (.int .i64 lf) ∧ w'.cell? ⟨w.heap.size, 6, none⟩ = some (.int .i64 hp) ∧ w'.cell? ⟨w.heap.size, 7, none⟩ = some (.int .i64 of) ∧ w'.cell? ⟨w.heap.size, 8, none⟩ = some (.int .i64 tl) ∧ w'.cell? ⟨w.heap.size, 9, none⟩ = some (.string py)) (first | assumption | (show _ ∧ _; assumption)) (first | (go_at_call 31; refine Calls.mono (AQ.out _ (by assumption)) ?_; (rintro e w2 ⟨g, c, ps, rfl, ⟨hA1, hA2, hA3⟩, hS2⟩)) | (go_at_call 33; refine Calls.mono (LQ.out _ (by assumption)) ?_; (rintro e w3 ⟨rfl, hb3, hS3⟩); (replace hA1 := RQ.Own.below hA1 hb3); (obtain ⟨qs, hqs⟩ : ∃ qs, ps.filter (fun p => RQ.inTime ml p.said) = qs := ⟨_, rfl⟩)) | (go_at_call 30; refine Calls.mono (NQ.out g c ps qs _ hA2 hqs hA1 (by assumption)) ?_; (rintro e w4 ⟨rfl, ho4, hSr⟩)))
      have HO4 : Hid _ := ho4
      have HL2 : Hid _ := hA3
      have hq8 : qs.length ≤ 8 := by rw [← hqs]; exact Nat.le_trans (List.length_filter_le _ _) hA2
      rw [hqs] at HL2
      have Hgb : Hid (w1.heap.size ≤ g) := (ho4.out.lt g rfl).1
      obtain ⟨hbS, d0, d1, d2, d3, d4, d5, c6', d7, d8, d9⟩ := hSr
      have BB4 := BB1.trans (hbS.mono BB1.size)
      have hlt4 := Nat.lt_of_lt_of_le hq hbS.size
      clear d0 d1 d2 d3 d4 d5 d7 d8 d9 hSd hS2 hS3 hb3 hA1 hA2 hA3 hqs ho4 AQ LQ NQ hbS
      obtain ⟨rs, hrs⟩ : ∃ rs, qs.filter (fun p => RQ.near hp p.said) = rs := ⟨_, rfl⟩
      have N2 : Hid (Calls _ _ _ _ _) := noMoreH_any w1.heap.size g c qs hp w4 hq8 HO4.out rs hrs
      rw [hrs] at HL2
      clear hrs HO4
      go_wp2_with fail
      refine Calls.mono N2.out ?_
      rintro e w5 ⟨rfl, ho5, hO5⟩
      have HO5 : Hid _ := ho5
      have BB5 := BB4.trans (hO5.below (Nat.le_trans BB1.size Hgb.out) BB4.size)
      clear N2 ho5 hO5 BB4 c6'
      go_wp2
      exact bodyPost_ret (v := .tuple #[.slice (some ⟨g, 0, none⟩) rs.length c, .bool true]) (by simp [results, Try.results12, go_sem]) rfl ⟨some ⟨g, 0, none⟩, c, rs, rfl, HO5.out.mono BB1.size, HL2.out, ⟨g, rfl⟩, BB5⟩
theorem reachI_any (a d : Option Addr) (cap cd : Nat) (xs : List I5) (b : Bd) (ms : List Int) (w : World) (hm : ms.length ≤ 1048576) (hn : xs.length ≤ 1048576) (hs : b.py.size ≤ 1048576) (hin : MI5.RowAt w a xs) (hin2 : M4.IntsAt w d ms) :
    Calls Try.prog 12 #[.slice a xs.length cap, b.v, .slice d ms.length cd] w fun e w' => ∃ a1 c1 ps, e = .returned (.tuple #[.slice a1 (List.length ps) c1, .bool (RQ.reaOk xs b ms)]) ∧ RQ.Own 59 w' w.heap.size (.slice a1 ps.length c1) ps ∧ ps.map Rq.said = RQ.reaA xs b ms ∧ Below w.heap.size w w' :=
  (reachI2_any a d cap cd xs b ms w hm hn hs hin hin2).mono fun _ _ ⟨a1, c1, ps, h1, h2, h3, _, h5⟩ => ⟨a1, c1, ps, h1, h2, h3, h5⟩
end Go.Proofs.Ytpdmbobcbehilaa

/- Who is there by a time, the program's: DeliveredBy. -/
namespace Go.Proofs.Ytpdmbobcbehilaa
open Go.RowKit
set_option linter.unusedSimpArgs false in
set_option maxHeartbeats 1600000 in
set_option maxRecDepth 100000 in
theorem delI_any (a d : Option Addr) (cap cd : Nat) (xs : List I5) (b : Bd) (ms : List Int) (n : Int) (w : World) (hm : ms.length ≤ 1048576) (hn : xs.length ≤ 1048576) (hs : b.py.size ≤ 1048576) (hin : MI5.RowAt w a xs) (hin2 : M4.IntsAt w d ms) :
    Calls Try.prog 21 #[.slice a xs.length cap, b.v, .slice d ms.length cd, .int .i64 n] w fun e w' => ∃ a1 c1, e = .returned (.tuple #[.slice a1 (RQ.delA xs b ms n).length c1, .bool (RQ.delOk xs b ms n)]) ∧ w'.ownsRow w.heap.size 3 1 (.slice a1 (RQ.delA xs b ms n).length c1) (RQ.delA xs b ms n).length (M4.iv (RQ.delA xs b ms n)) ∧ Below w.heap.size w w' := by
  have P1 : Hid (∀ W : World, Below w.heap.size w W → Calls Try.prog 12 #[.slice a xs.length cap, b.v, .slice d ms.length cd] W fun e w' => ∃ a1 c1 ps, e = .returned (.tuple #[.slice a1 (List.length ps) c1, .bool (RQ.reaOk xs b ms)]) ∧ RQ.Own 59 w' W.heap.size (.slice a1 ps.length c1) ps ∧ ps.map Rq.said = RQ.reaA xs b ms ∧ (RQ.reaOk xs b ms = true → ∃ g, a1 = some ⟨g, 0, none⟩) ∧ Below W.heap.size W w') := fun W h => reachI2_any a d cap cd xs b ms W hm hn hs (hin.below h) (M4.IntsAt.below hin2 h)
  have P2 : Hid (∀ W : World, Calls Try.prog 38 #[.int .i64 n, .int .i64 0, .int .i64 2000] W fun e w' => e = .returned (.bool (decide (0 ≤ n ∧ n ≤ 2000))) ∧ W = w') := fun W => within7_any n 0 2000 W
  have HR : Hid (RQ.delOk xs b ms n = (RQ.reaOk xs b ms && decide (0 ≤ n ∧ n ≤ 2000))) := show RQ.delOk xs b ms n = _ from rfl
  have NO : Hid (RQ.delOk xs b ms n = false → RQ.delA xs b ms n = []) := fun h => RQ.del_no h
  have YES : Hid (RQ.delOk xs b ms n = true → ∀ ps : List Rq, ps.map Rq.said = RQ.reaA xs b ms → (ps.filter (fun p => RQ.inTime n p.said)).map Rq.m = RQ.delA xs b ms n) := fun h ps hp => by
    rw [RQ.del_yes h]
    have h' := h
    unfold RQ.delOk at h'
    rw [Bool.and_eq_true] at h'
    exact RQ.told_end (by rw [hp, RQ.rea_yes h'.1])
  have ML : Hid ((RQ.reaA xs b ms).length ≤ 8) := RQ.reaA_len xs b ms
  have BA := BdAt.box w b 33
  have BB := (Below.refl _ w).alloc (Nat.le_refl _) (.cells #[.int .i64 b.fr, .int .i64 b.to, .bool b.gr, .int .i64 b.md, .int .i64 b.no, .int .i64 b.lf, .int .i64 b.hp, .int .i64 b.of, .int .i64 b.tl, .string b.py] 33)
  clear hin hin2
  generalize RQ.delOk xs b ms n = R at *
  generalize RQ.delA xs b ms n = L at *
  generalize RQ.reaA xs b ms = AL at *
  generalize RQ.reaOk xs b ms = q1 at *
  generalize hq2 : decide (0 ≤ n ∧ n ≤ 2000) = q2 at *
  clear hq2
  obtain ⟨fr, to, gr, md, no, lf, hp, of, tl, py⟩ := b
  obtain ⟨hlt, c0, c1, c2, c3, c4, c5, c6, c7, c8, c9⟩ := id BA
  go_enter Try.func21, Try.ntmps21
  go_wp2_with fail
  refine (P1.out _ BB).mono ?_
  rintro e w1 ⟨a1, ca1, ps, rfl, ho, hL, hS, hb1⟩
  clear c0 c1 c2 c3 c4 c5 c6 c7 c8 c9 hlt P1
  have BB1 := BB.trans (hb1.mono BB.size)
  have HO : Hid _ := ho
  have h8 : ps.length ≤ 8 := by have := congrArg List.length hL; rw [List.length_map] at this; rw [this]; exact ML.out
  have HL : Hid _ := hL
  have HS : Hid _ := hS
  clear hb1 ho hL hS ML BA
  cases q1 with
  | false =>
    have hR : R = false := HR.out
    subst hR
    have hL := NO.out (by first | rfl | trivial)
    subst hL
    clear P2 HR NO YES HO HL HS
    go_wp2
    exact bodyPost_ret (v := .tuple #[.slice none 0 0, .bool false]) (by simp [results, Try.results21, go_sem]) rfl ⟨none, 0, rfl, World.ownsRow_nil _ _ _ _, BB1⟩
  | true =>
    have hR : R = q2 := HR.out
    subst hR
    obtain ⟨g, rfl⟩ := HS.out (by first | rfl | trivial)
    clear HS HR
    go_wp2_with fail
    refine (P2.out _).mono ?_
    rintro e w' ⟨rfl, rfl⟩
    clear P2
    cases R with
    | false =>
      have hL := NO.out (by first | rfl | trivial)
      subst hL
      clear NO YES HO HL
      go_wp2
      exact bodyPost_ret (v := .tuple #[.slice none 0 0, .bool false]) (by simp [results, Try.results21, go_sem]) rfl ⟨none, 0, rfl, World.ownsRow_nil _ _ _ _, BB1⟩
    | true =>
      have hY := YES.out (by first | rfl | trivial) ps HL.out
      obtain ⟨qs, hqs⟩ : ∃ qs, ps.filter (fun p => RQ.inTime n p.said) = qs := ⟨_, rfl⟩
      rw [hqs] at hY
      have hq8 : qs.length ≤ 8 := by rw [← hqs]; exact Nat.le_trans (List.length_filter_le _ _) h8
      have HY : Hid (qs.map Rq.m = L) := hY
      have Hgb : Hid _ := (HO.out.out.lt g rfl).1
      have NM : Hid (Calls _ _ _ _ _) := noMoreT_any _ g ca1 ps n w1 h8 HO.out qs hqs
      clear YES NO HL HO hqs hY
      go_wp2_with fail
      refine Calls.mono NM.out ?_
      rintro e w2 ⟨rfl, ho2, hO2⟩
      have BB2 := BB1.trans (hO2.below (Nat.le_trans BB.size Hgb.out) BB1.size)
      have TO : Hid (Calls _ _ _ _ _) := toldOf_any (some ⟨g, 0, none⟩) ca1 qs w2 hq8 ho2.at L HY
      clear NM ho2 hO2 HY Hgb
      go_wp2_with fail
      refine Calls.mono TO.out ?_
      rintro e w3 ⟨a3, c3, rfl, ho3, hb3⟩
      have HO3 : Hid _ := TR.own_mono ho3 BB2.size
      have BB3 := BB2.trans (hb3.mono BB2.size)
      clear TO ho3 hb3 BB1 BB
      go_wp2
      exact bodyPost_ret (v := .tuple #[.slice a3 L.length c3, .bool true]) (by simp [results, Try.results21, go_sem]) rfl ⟨a3, c3, rfl, HO3.out, BB3⟩
end Go.Proofs.Ytpdmbobcbehilaa

/- The law FnExactDeliveredBy answers true, whatever the arguments. -/
namespace Go.Proofs.Ytpdmbobcbehilaa
open Go.RowKit
theorem lawDel_any (a : Option Addr) (cap : Nat) (xs : List I5) (b : Bd) (d : Option Addr) (cd : Nat) (ms : List Int) (n : Int) (w : World) (hl : xs.length ≤ maxLen) (hl2 : ms.length ≤ maxLen) (hi : MI5.RowAt w a xs) (hi2 : M4.IntsAt w d ms) (hp : b.py.size ≤ maxLen) :
    Calls Try.prog 4 #[.slice a xs.length cap, b.v, .slice d ms.length cd, .int .i64 n] w fun e w' => e = .returned (.bool true) ∧ Below w.heap.size w w' :=
  lawDeliveredBy_any a cap xs b d cd ms n (RQ.delA xs b ms n) (RQ.delA_len xs b ms n) (RQ.delOk xs b ms n) (fun hz hz2 hy _ _ W hr hr2 => delS_any _ _ _ _ xs b ms n W hz2 hz hy hr hr2) (fun hz hz2 hy _ _ W hr hr2 => delI_any _ _ _ _ xs b ms n W hz2 hz hy hr hr2) w hl hl2 hi hi2 hp
end Go.Proofs.Ytpdmbobcbehilaa
