/- Keepers (three rows each) and custodies in memory: plain facts. -/
import Derived.Test.YtfkmnmiolnijaaaM5
import Derived.Test.YtfkmnmiolnijaaaMCur
import Derived.Test.YtfkmnmiolnijaaaMI2
import Derived.Test.YtfkmnmiolnijaaaMI4
namespace Go.Proofs.Ytfkmnmiolnijaaa
open Go.RowKit
/-- A keeper, and where its three rows lie. -/
structure Kp where
  ss : List Int
  hs : List I2
  ts : List Int
  sa : Option Addr
  ha : Option Addr
  ta : Option Addr
  sc : Nat
  hc : Nat
  tc : Nat
abbrev Kp.cs (p : Kp) : List Value := [.slice p.sa p.ss.length p.sc, .slice p.ha p.hs.length p.hc, .slice p.ta p.ts.length p.tc]
abbrev Kp.v (p : Kp) : Value := .agg #[.slice p.sa p.ss.length p.sc, .slice p.ha p.hs.length p.hc, .slice p.ta p.ts.length p.tc]
/-- What a keeper tells. -/
abbrev KpS := List Int × List I2 × List Int
def Kp.said (p : Kp) : KpS := (p.ss, p.hs, p.ts)
namespace KP
def flat : List Kp → List Value
  | [] => []
  | p :: ps => p.cs ++ flat ps
def at_ (ps : List Kp) (j : Nat) : Kp := ps.getD j ⟨[], [], [], none, none, none, 0, 0, 0⟩
theorem at_eq {ps : List Kp} {j : Nat} (h : j < ps.length) : at_ ps j = ps[j] := by simp [at_, List.getD_eq_getElem?_getD, List.getElem?_eq_getElem h]
theorem at_mem {ps : List Kp} {j : Nat} (h : j < ps.length) : at_ ps j ∈ ps := by rw [at_eq h]; exact List.getElem_mem h
def sd (L : List KpS) (j : Nat) : KpS := L.getD j ([], [], [])
theorem sd_at {ps : List Kp} {j : Nat} (h : j < ps.length) : sd (ps.map Kp.said) j = (at_ ps j).said := by
  simp [sd, at_, List.getD_eq_getElem?_getD, List.getElem?_eq_getElem h]
theorem flat_len : ∀ ps : List Kp, (flat ps).length = ps.length * 3
  | [] => rfl
  | p :: ps => by simp only [flat, List.length_append, flat_len ps, List.length_cons, List.length_nil]; omega
theorem flat_app : ∀ ps qs : List Kp, flat (ps ++ qs) = flat ps ++ flat qs
  | [], qs => rfl
  | p :: ps, qs => by simp only [List.cons_append, flat, flat_app ps qs, List.append_assoc]
theorem flat_get : ∀ (ps : List Kp) (j i : Nat), j < ps.length → i < 3 → (flat ps)[j * 3 + i]? = (at_ ps j).cs[i]?
  | [], j, i, h, _ => by simp at h
  | p :: ps, 0, i, _, hi => by
    show (p.cs ++ flat ps)[0 * 3 + i]? = _
    have hl : p.cs.length = 3 := rfl
    rw [List.getElem?_append_left (by omega)]
    simp [at_]
  | p :: ps, j + 1, i, h, hi => by
    have ih := flat_get ps j i (by simpa using h) hi
    have e : at_ (p :: ps) (j + 1) = at_ ps j := rfl
    have hl : p.cs.length = 3 := rfl
    rw [e, ← ih]
    show (p.cs ++ flat ps)[(j + 1) * 3 + i]? = _
    rw [List.getElem?_append_right (by omega), hl]
    congr 1; omega
/-- Numbers at a slice's address, in a block from B on. -/
structure IA (w : World) (B : Nat) (a : Option Addr) (l : List Int) : Prop where
  at_ : M4.IntsAt w a l
  lo : l ≠ [] → ∀ b off, a = some ⟨b, off, none⟩ → B ≤ b
structure HA (w : World) (B : Nat) (a : Option Addr) (l : List I2) : Prop where
  at_ : MI2.RowAt w a l
  lo : l ≠ [] → ∀ b off, a = some ⟨b, off, none⟩ → B ≤ b
theorem IA.below {w w' : World} {B : Nat} {a : Option Addr} {l : List Int} (h : IA w B a l) (hb : Below w.heap.size w w') : IA w' B a l := ⟨h.at_.below hb, h.lo⟩
theorem HA.below {w w' : World} {B : Nat} {a : Option Addr} {l : List I2} (h : HA w B a l) (hb : Below w.heap.size w w') : HA w' B a l := ⟨h.at_.below hb, h.lo⟩
theorem IA.mono {w : World} {B B' : Nat} {a : Option Addr} {l : List Int} (h : IA w B a l) (hb : B' ≤ B) : IA w B' a l := ⟨h.at_, fun hl b off e => Nat.le_trans hb (h.lo hl b off e)⟩
theorem HA.mono {w : World} {B B' : Nat} {a : Option Addr} {l : List I2} (h : HA w B a l) (hb : B' ≤ B) : HA w B' a l := ⟨h.at_, fun hl b off e => Nat.le_trans hb (h.lo hl b off e)⟩
theorem IA.only {w w' : World} {B g : Nat} {a : Option Addr} {l : List Int} (h : IA w B a l) (ho : MC.Only g w w') (hg : g < B) : IA w' B a l := by
  refine ⟨?_, h.lo⟩
  by_cases hl : l = []
  · exact .inl hl
  · rcases h.at_ with e | ⟨b, off, rfl, hlt, hc⟩
    · exact absurd e hl
    · have := h.lo hl b off rfl
      exact .inr ⟨b, off, rfl, Nat.lt_of_lt_of_le hlt ho.size, fun j hj => (ho.cell (x := ⟨b, off + j, none⟩) hlt (by show b ≠ g; omega)).trans (hc j hj)⟩
theorem HA.only {w w' : World} {B g : Nat} {a : Option Addr} {l : List I2} (h : HA w B a l) (ho : MC.Only g w w') (hg : g < B) : HA w' B a l := by
  refine ⟨⟨?_⟩, h.lo⟩
  by_cases hl : l = []
  · exact .inl hl
  · rcases h.at_.is with e | ⟨b, off, rfl, hlt, hc⟩
    · exact absurd e hl
    · have := h.lo hl b off rfl
      refine .inr ⟨b, off, rfl, Nat.lt_of_lt_of_le hlt ho.size, fun j hj => ?_⟩
      obtain ⟨c0, c1⟩ := hc j hj
      exact ⟨(ho.cell (x := ⟨b, _, none⟩) hlt (by show b ≠ g; omega)).trans c0, (ho.cell (x := ⟨b, _, none⟩) hlt (by show b ≠ g; omega)).trans c1⟩
/-- The three rows of a keeper. -/
structure In (w : World) (B : Nat) (p : Kp) : Prop where
  s : IA w B p.sa p.ss
  h : HA w B p.ha p.hs
  t : IA w B p.ta p.ts
  sl : p.ss.length ≤ maxLen
  hl : p.hs.length ≤ maxLen
  tl : p.ts.length ≤ maxLen
  cp : p.ss.length ≤ p.sc ∧ p.hs.length ≤ p.hc ∧ p.ts.length ≤ p.tc
theorem In.below {w w' : World} {B : Nat} {p : Kp} (h : In w B p) (hb : Below w.heap.size w w') : In w' B p := ⟨h.s.below hb, h.h.below hb, h.t.below hb, h.sl, h.hl, h.tl, h.cp⟩
theorem In.mono {w : World} {B B' : Nat} {p : Kp} (h : In w B p) (hb : B' ≤ B) : In w B' p := ⟨h.s.mono hb, h.h.mono hb, h.t.mono hb, h.sl, h.hl, h.tl, h.cp⟩
theorem In.only {w w' : World} {B g : Nat} {p : Kp} (h : In w B p) (ho : MC.Only g w w') (hg : g < B) : In w' B p := ⟨h.s.only ho hg, h.h.only ho hg, h.t.only ho hg, h.sl, h.hl, h.tl, h.cp⟩
/-- Keepers at a slice's address, their rows in blocks from B on. -/
structure RowAt (w : World) (B : Nat) (a : Option Addr) (ps : List Kp) : Prop where
  is : ps = [] ∨ ∃ b off, a = some ⟨b, off, none⟩ ∧ b < w.heap.size ∧ ∀ j, j < ps.length →
    w.cell? ⟨b, off + j * 3, none⟩ = some (.slice (at_ ps j).sa (at_ ps j).ss.length (at_ ps j).sc) ∧ w.cell? ⟨b, off + j * 3 + 1, none⟩ = some (.slice (at_ ps j).ha (at_ ps j).hs.length (at_ ps j).hc) ∧ w.cell? ⟨b, off + j * 3 + 2, none⟩ = some (.slice (at_ ps j).ta (at_ ps j).ts.length (at_ ps j).tc)
  row : ∀ j, j < ps.length → In w B (at_ ps j)
theorem RowAt.below {w w' : World} {B : Nat} {a : Option Addr} {ps : List Kp} (h : RowAt w B a ps) (hb : Below w.heap.size w w') : RowAt w' B a ps := by
  refine ⟨?_, fun j hj => (h.row j hj).below hb⟩
  rcases h.is with rfl | ⟨b, off, rfl, hlt, hc⟩
  · exact .inl rfl
  · refine .inr ⟨b, off, rfl, Nat.lt_of_lt_of_le hlt hb.size, fun j hj => ?_⟩
    obtain ⟨c0, c1, c2⟩ := hc j hj
    exact ⟨(hb.cell (p := ⟨b, _, none⟩) hlt).trans c0, (hb.cell (p := ⟨b, _, none⟩) hlt).trans c1, (hb.cell (p := ⟨b, _, none⟩) hlt).trans c2⟩
theorem RowAt.at {w : World} {B : Nat} {a : Option Addr} {ps : List Kp} (h : RowAt w B a ps) {j : Nat} (hj : j < ps.length) : ∃ b off, a = some ⟨b, off, none⟩ ∧ b < w.heap.size ∧
    w.cell? ⟨b, off + j * 3, none⟩ = some (.slice (at_ ps j).sa (at_ ps j).ss.length (at_ ps j).sc) ∧ w.cell? ⟨b, off + j * 3 + 1, none⟩ = some (.slice (at_ ps j).ha (at_ ps j).hs.length (at_ ps j).hc) ∧ w.cell? ⟨b, off + j * 3 + 2, none⟩ = some (.slice (at_ ps j).ta (at_ ps j).ts.length (at_ ps j).tc) ∧ In w B (at_ ps j) := by
  rcases h.is with rfl | ⟨b, off, rfl, hlt, hc⟩
  · simp at hj
  · obtain ⟨c0, c1, c2⟩ := hc j hj
    exact ⟨b, off, rfl, hlt, c0, c1, c2, h.row j hj⟩
theorem RowAt.mono {w : World} {B B' : Nat} {a : Option Addr} {ps : List Kp} (h : RowAt w B a ps) (hb : B' ≤ B) : RowAt w B' a ps := ⟨h.is, fun j hj => (h.row j hj).mono hb⟩
/-- The first of the row are these, the rest is what lay there. -/
def mix (ps : List Kp) (m : List Value) : List Value := flat ps ++ m.drop (ps.length * 3)
theorem mix_nil (m : List Value) : mix [] m = m := by simp [mix, flat]
theorem mix_all (ps : List Kp) (m : List Value) (h : m.length = ps.length * 3) : mix ps m = flat ps := by simp [mix, ← h]
theorem mix_len (ps : List Kp) (m : List Value) (h : ps.length * 3 ≤ m.length) : (mix ps m).length = m.length := by simp [mix, flat_len]; omega
theorem set3 (A C : List Value) (p : Nat) (hp : A.length = p) (b0 b1 b2 c0 c1 c2 : Value) : (((A ++ b0 :: b1 :: b2 :: C).set p c0).set (p + 1) c1).set (p + 2) c2 = A ++ c0 :: c1 :: c2 :: C := by
  subst hp; simp
theorem mix_set (ps : List Kp) (m : List Value) (q : Kp) (k : Nat) (hk : ps.length = k) (h : k * 3 + 3 ≤ m.length) : (((mix ps m).set (k * 3) (.slice q.sa q.ss.length q.sc)).set (k * 3 + 1) (.slice q.ha q.hs.length q.hc)).set (k * 3 + 2) (.slice q.ta q.ts.length q.tc) = mix (ps ++ [q]) m := by
  subst hk
  obtain ⟨b0, b1, b2, C, e⟩ : ∃ b0 b1 b2 C, m.drop (ps.length * 3) = b0 :: b1 :: b2 :: C := by
    have hl : 3 ≤ (m.drop (ps.length * 3)).length := by simp; omega
    match m.drop (ps.length * 3), hl with
    | b0 :: b1 :: b2 :: C, _ => exact ⟨b0, b1, b2, C, rfl⟩
  unfold mix
  rw [e, set3 _ _ (ps.length * 3) (flat_len ps)]
  have e2 : m.drop ((ps ++ [q]).length * 3) = C := by
    have : m.drop ((ps ++ [q]).length * 3) = (m.drop (ps.length * 3)).drop 3 := by rw [List.drop_drop]; congr 1; simp; omega
    rw [this, e]; rfl
  rw [e2, flat_app]
  simp [flat]
theorem own_below {w w' : World} {base e sz n : Nat} {v : Value} {xs : List Value} (h : w.ownsRow base e sz v n xs) (hb : Below w.heap.size w w') : w'.ownsRow base e sz v n xs := MI2.own_below h hb
/-- A row of keepers that the call owns. -/
theorem RowAt.of_own {w : World} {base e g n cap B : Nat} {ps : List Kp} (h : w.ownsRow base e 3 (.slice (some ⟨g, 0, none⟩) n cap) n (flat ps)) (hr : ∀ p, p ∈ ps → In w B p) : RowAt w B (some ⟨g, 0, none⟩) ps := by
  have hlen : ps.length = n := by have := h.1; rw [flat_len] at this; omega
  have hc : ∀ j i, j < ps.length → i < 3 → w.cell? ⟨g, j * 3 + i, none⟩ = (at_ ps j).cs[i]? := fun j i hj hi => by
    rw [h.cellAt (j * 3 + i) (by omega), flat_get ps j i hj hi]
  refine ⟨.inr ⟨g, 0, rfl, (h.lt g rfl).2, fun j hj => ?_⟩, fun j hj => hr _ (at_mem hj)⟩
  rw [Nat.zero_add]
  exact ⟨hc j 0 hj (by omega), hc j 1 hj (by omega), hc j 2 hj (by omega)⟩
end KP
/-- A custody, and where its four rows lie. -/
structure Cu where
  us : List Int
  ks : List Kp
  ls : List I4
  ns : List Int
  ua : Option Addr
  ka : Option Addr
  la : Option Addr
  na : Option Addr
  uc : Nat
  kc : Nat
  lc : Nat
  nc : Nat
abbrev Cu.v (c : Cu) : Value := .agg #[.slice c.ua c.us.length c.uc, .slice c.ka c.ks.length c.kc, .slice c.la c.ls.length c.lc, .slice c.na c.ns.length c.nc]
/-- What a custody tells. -/
structure CuS where
  us : List Int
  ks : List KpS
  ls : List I4
  ns : List Int
  deriving DecidableEq
def Cu.said (c : Cu) : CuS := ⟨c.us, c.ks.map Kp.said, c.ls, c.ns⟩
/-- The four rows of a custody lie in memory. -/
structure CuAt (w : World) (c : Cu) : Prop where
  u : M4.IntsAt w c.ua c.us
  k : KP.RowAt w 0 c.ka c.ks
  l : MI4.RowAt w c.la c.ls
  n : M4.IntsAt w c.na c.ns
  cp : c.us.length ≤ c.uc ∧ c.ks.length ≤ c.kc ∧ c.ls.length ≤ c.lc ∧ c.ns.length ≤ c.nc
theorem CuAt.below {w w' : World} {c : Cu} (h : CuAt w c) (hb : Below w.heap.size w w') : CuAt w' c := ⟨h.u.below hb, h.k.below hb, h.l.below hb, h.n.below hb, h.cp⟩
end Go.Proofs.Ytfkmnmiolnijaaa
