/- A custody that came in, opened: plain facts, over whatever program. -/
import Derived.Test.YtfkmnmiolnijaaaMKp
import Derived.Test.YtfkmnmiolnijaaaMRowInts
import Derived.Test.YtfkmnmiolnijaaaMRowI2
import Derived.Test.YtfkmnmiolnijaaaMRowI4
import Derived.RowKit
namespace Go.Proofs.Ytfkmnmiolnijaaa
open Go.RowKit Go.ChangeShapes Go.WideShapes
instance : Inhabited Kp := ⟨⟨[], [], [], none, none, none, 0, 0, 0⟩⟩
namespace KP
theorem cap_of {H : Type} {enc : TypeId × Value → H} {P : Program} {w : World} {base : Nat} {spare : Nat → Bool} {held : Bool} {t e : TypeId} {fuel : Nat} {cs : List Value} {x : DataW H × List MemPlace}
    (ht : P.underlying t = some (.slice e)) (h : DataW.trod enc P w base spare held fuel t cs = some x) : ∃ a len cap, cs = [.slice a len cap] ∧ len ≤ cap := by
  rcases Deep.open_slice ht h with ⟨hcs, _⟩ | ⟨ad, l, c, m, n, D, Pl, hcs, hb, hl, hm, hmm, _, hx⟩
  · exact ⟨_, _, _, hcs, Nat.le_refl _⟩
  · exact ⟨_, _, _, hcs, by omega⟩
/-- The types of a keeper. -/
structure Ty (P : Program) (tk ti th e : TypeId) (g0 g1 g2 f0 f1 : Field) : Prop where
  uk : P.underlying tk = some (.struct #[g0, g1, g2])
  ck : P.cellsOf tk = 3
  o0 : g0.offset = 0
  o1 : g1.offset = 1
  o2 : g2.offset = 2
  g0t : g0.type = ti
  g1t : g1.type = th
  g2t : g2.type = ti
  ci : P.cellsOf ti = 1
  ch : P.cellsOf th = 1
  ui : P.underlying ti = some (.slice 3)
  un : P.underlying 3 = some (.int .i64)
  cn : P.cellsOf 3 = 1
  uh : P.underlying th = some (.slice e)
  ue : P.underlying e = some (.struct #[f0, f1])
  ce : P.cellsOf e = 2
  p0 : f0.offset = 0
  p1 : f1.offset = 1
  f0t : P.underlying f0.type = some (.int .i64)
  f1t : P.underlying f1.type = some (.int .i64)
  f0c : P.cellsOf f0.type = 1
  f1c : P.cellsOf f1.type = 1
theorem keeper_open {H : Type} {enc : TypeId × Value → H} {P : Program} {w : World} {base : Nat} {spare : Nat → Bool} {held : Bool} {tk ti th e : TypeId} {g0 g1 g2 f0 f1 : Field} {fuel : Nat} {cs : List Value} {x : DataW H × List MemPlace}
    (T : Ty P tk ti th e g0 g1 g2 f0 f1) (hlen : cs.length = 3) (h : DataW.trod enc P w base spare held fuel tk cs = some x) : ∃ p : Kp, cs = p.cs ∧ In w 0 p := by
  obtain ⟨ys, n, _, _, _, hlx, hg⟩ := DataW.trod_struct T.uk h
  match cs, hlen, ys, hlx with
  | [v0, v1, v2], _, [y0, y1, y2], _ =>
    have k0 : _ = some y0 := hg 0 g0 rfl
    have k1 : _ = some y1 := hg 1 g1 rfl
    have k2 : _ = some y2 := hg 2 g2 rfl
    rw [T.o0, T.g0t, T.ci] at k0
    rw [T.o1, T.g1t, T.ch] at k1
    rw [T.o2, T.g2t, T.ci] at k2
    simp only [List.drop_zero, List.drop_succ_cons, List.take_succ_cons, List.take_zero] at k0 k1 k2
    obtain ⟨a0, l0, c0, e0, m0⟩ := cap_of T.ui k0
    obtain ⟨a1, l1, c1, e1, m1⟩ := cap_of T.uh k1
    obtain ⟨a2, l2, c2, e2, m2⟩ := cap_of T.ui k2
    simp only [List.cons.injEq, and_true] at e0 e1 e2
    subst e0 e1 e2
    obtain ⟨b0, zs, rfl, _, z0⟩ := ints_open T.ui T.un T.cn k0
    obtain ⟨b1, xs, rfl, _, z1⟩ := rowI2_open T.uh T.ue T.ce T.p0 T.p1 T.f0t T.f1t T.f0c T.f1c k1
    obtain ⟨b2, ts, rfl, _, z2⟩ := ints_open T.ui T.un T.cn k2
    exact ⟨⟨zs, xs, ts, a0, a1, a2, c0, c1, c2⟩, rfl, ⟨⟨z0, fun _ _ _ _ => Nat.zero_le _⟩, ⟨z1, fun _ _ _ _ => Nat.zero_le _⟩, ⟨z2, fun _ _ _ _ => Nat.zero_le _⟩, b0, b1, b2, ⟨m0, m1, m2⟩⟩⟩
theorem keepers_open {H : Type} {enc : TypeId × Value → H} {P : Program} {w : World} {base : Nat} {spare : Nat → Bool} {held : Bool} {t tk ti th e : TypeId} {g0 g1 g2 f0 f1 : Field} {fuel len cap : Nat} {a : Option Addr} {x : DataW H × List MemPlace}
    (T : Ty P tk ti th e g0 g1 g2 f0 f1) (ht : P.underlying t = some (.slice tk)) (h : DataW.trod enc P w base spare held fuel t [.slice a len cap] = some x) :
    len ≤ maxLen ∧ ∃ ps : List Kp, ps.length = len ∧ RowAt w 0 a ps := by
  rcases Deep.open_slice ht h with ⟨hcs, _⟩ | ⟨ad, l, c, m, n, D, Pl, hcs, hb, hl, hm, hmm, _, hx⟩
  · simp at hcs
    obtain ⟨rfl, rfl, rfl⟩ := hcs
    exact ⟨by unfold maxLen; omega, [], rfl, ⟨.inl rfl, fun j hj => by simp at hj⟩⟩
  · simp at hcs
    obtain ⟨rfl, rfl, rfl⟩ := hcs
    have hlm : len ≤ m := by rw [hmm]; split <;> omega
    have each : ∀ i, i < len → ∃ p : Kp, w.cell? (ad.add (i * 3)) = some (.slice p.sa p.ss.length p.sc) ∧ w.cell? (ad.add (i * 3 + 1)) = some (.slice p.ha p.hs.length p.hc) ∧ w.cell? (ad.add (i * 3 + 2)) = some (.slice p.ta p.ts.length p.tc) ∧ In w 0 p := by
      intro i hi
      obtain ⟨cs', h1, h2⟩ := hx i (by omega)
      rw [T.ck] at h1
      obtain ⟨_, hlen, hcell⟩ := World.cells?_some h1
      obtain ⟨p, rfl, hin⟩ := keeper_open T (by simpa using hlen) h2
      have q0 := hcell 0 (by omega)
      have q1 := hcell 1 (by omega)
      have q2 := hcell 2 (by omega)
      rw [Deep.add_add] at q0 q1 q2
      exact ⟨p, by simpa using q0, by simpa using q1, by simpa using q2, hin⟩
    obtain ⟨q, hq⟩ := Deep.choose_lt each
    have hat : ∀ j, j < len → at_ ((List.range len).map q) j = q j := fun j hj => by simp [at_, hj]
    refine ⟨by omega, (List.range len).map q, by simp, ?_, fun j hj => ?_⟩
    · by_cases h0 : len = 0
      · subst h0; exact .inl rfl
      · obtain ⟨b, off, spot⟩ := ad
        have hc := (hq 0 (by omega)).1
        have hspot : spot = none := by simpa [Addr.add] using World.cell?_spot hc
        subst hspot
        have hadd : ∀ j, (⟨b, off, none⟩ : Addr).add j = ⟨b, off + j, none⟩ := fun j => by unfold Addr.add; split <;> simp_all
        refine .inr ⟨b, off, rfl, ?_, fun j hj => ?_⟩
        · have := World.block_lt_of_cell? _ _ hc; simpa [Addr.add] using this
        · have hj' : j < len := by simpa using hj
          rw [hat j hj']
          obtain ⟨k0, k1, k2, _⟩ := hq j hj'
          rw [hadd] at k0 k1 k2
          exact ⟨k0, by simpa [Nat.add_assoc] using k1, by simpa [Nat.add_assoc] using k2⟩
    · have hj' : j < len := by simpa using hj
      rw [hat j hj']
      exact (hq j hj').2.2.2
end KP
theorem custody_open {H : Type} {enc : TypeId × Value → H} {P : Program} {w : World} {base b0 : Nat} {held : Bool} {r : Reach} {tc t1 t2 tk ti th e ts : TypeId} {g0 g1 g2 f0 f1 h0 h1 h2 h3 s0 s1 s2 s3 : Field} {v : Value} {d : DataW H} {p : List MemPlace}
    (T : KP.Ty P tk ti th e g0 g1 g2 f0 f1)
    (hs : P.underlying tc = some (.struct #[h0, h1, h2, h3])) (cc : P.cellsOf tc = 4) (o0 : h0.offset = 0) (o1 : h1.offset = 1) (o2 : h2.offset = 2) (o3 : h3.offset = 3)
    (e0 : h0.type = ti) (e1 : h1.type = t1) (e2 : h2.type = t2) (e3 : h3.type = ti) (c1 : P.cellsOf t1 = 1) (c2 : P.cellsOf t2 = 1)
    (ht1 : P.underlying t1 = some (.slice tk)) (ht2 : P.underlying t2 = some (.slice ts)) (hts : P.underlying ts = some (.struct #[s0, s1, s2, s3])) (cs : P.cellsOf ts = 4) (p0 : s0.offset = 0) (p1 : s1.offset = 1) (p2 : s2.offset = 2) (p3 : s3.offset = 3)
    (n0 : P.underlying s0.type = some (.int .i64)) (n1 : P.underlying s1.type = some (.int .i64)) (n2 : P.underlying s2.type = some (.int .i64)) (n3 : P.underlying s3.type = some (.int .i64)) (m0 : P.cellsOf s0.type = 1) (m1 : P.cellsOf s1.type = 1) (m2 : P.cellsOf s2.type = 1) (m3 : P.cellsOf s3.type = 1)
    (hv : Value.okWide P w r b0 tc v) (h : DataW.Trod enc P w base (fun _ => true) held tc v d p) :
    ∃ c : Cu, v = c.v ∧ CuAt w c ∧ (c.us.length ≤ maxLen ∧ c.ks.length ≤ maxLen ∧ c.ls.length ≤ maxLen ∧ c.ns.length ≤ maxLen) := by
  obtain ⟨cs', rfl, hsz⟩ := okWide_struct hs hv
  obtain ⟨fuel, hf⟩ := h
  have hf' : DataW.trod enc P w base (fun _ => true) held fuel tc cs'.toList = some (d, p) := by simpa [Value.cells] using hf
  obtain ⟨ys, n, _, _, _, hlen, hg⟩ := DataW.trod_struct hs hf'
  rw [cc] at hsz
  obtain ⟨l⟩ := cs'
  match l, hsz, ys, hlen with
  | [v0, v1, v2, v3], _, [y0, y1, y2, y3], _ =>
    have k0 : _ = some y0 := hg 0 h0 rfl
    have k1 : _ = some y1 := hg 1 h1 rfl
    have k2 : _ = some y2 := hg 2 h2 rfl
    have k3 : _ = some y3 := hg 3 h3 rfl
    rw [o0, e0, T.ci] at k0
    rw [o1, e1, c1] at k1
    rw [o2, e2, c2] at k2
    rw [o3, e3, T.ci] at k3
    simp only [List.drop_zero, List.drop_succ_cons, List.take_succ_cons, List.take_zero] at k0 k1 k2 k3
    obtain ⟨a0, l0, q0, r0, u0⟩ := KP.cap_of T.ui k0
    obtain ⟨a1, l1, q1, r1, u1⟩ := KP.cap_of ht1 k1
    obtain ⟨a2, l2, q2, r2, u2⟩ := KP.cap_of ht2 k2
    obtain ⟨a3, l3, q3, r3, u3⟩ := KP.cap_of T.ui k3
    simp only [List.cons.injEq, and_true] at r0 r1 r2 r3
    subst r0 r1 r2 r3
    obtain ⟨x0, us, rfl, _, z0⟩ := ints_open T.ui T.un T.cn k0
    obtain ⟨x1, ks, rfl, z1⟩ := KP.keepers_open T ht1 k1
    obtain ⟨x2, ls, rfl, _, z2⟩ := rowI4_open ht2 hts cs p0 p1 p2 p3 n0 n1 n2 n3 m0 m1 m2 m3 k2
    obtain ⟨x3, ns, rfl, _, z3⟩ := ints_open T.ui T.un T.cn k3
    exact ⟨⟨us, ks, ls, ns, a0, a1, a2, a3, q0, q1, q2, q3⟩, rfl, ⟨z0, z1, z2, z3, ⟨u0, u1, u2, u3⟩⟩, ⟨x0, x1, x2, x3⟩⟩
end Go.Proofs.Ytfkmnmiolnijaaa
