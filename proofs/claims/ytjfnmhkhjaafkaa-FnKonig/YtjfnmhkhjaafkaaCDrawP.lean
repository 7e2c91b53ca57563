import Derived.Test.YtjfnmhkhjaafkaaMRP
import Derived.Test.YtjfnmhkhjaafkaaMA
import Derived.Test.YtjfnmhkhjaafkaaM5
import Derived.Test.YtjfnmhkhjaafkaaMCur
import Derived.OwnWalk
import Derived.Test.YtjfnmhkhjaafkaaRows
import Derived.Test.YtjfnmhkhjaafkaaMNR
import Derived.Test.YtjfnmhkhjaafkaaMPV
import Derived.Test.YtjfnmhkhjaafkaaCAmong
import Derived.Test.YtjfnmhkhjaafkaaMInfo
import Derived.Test.YtjfnmhkhjaafkaaMPK
import Derived.Test.YtjfnmhkhjaafkaaMPE
import Derived.Maps.AppendAt
import Derived.WalkKit
import Derived.WalkSpells
import Derived.WalkLawsBesides
import Derived.Outline
/- Appends in a region that draws; rows and boxes side by side: plain facts, over whatever program. -/
namespace Go.Proofs.Ytjfnmhkhjaafkaa
namespace RA
open Go.RowKit
theorem rg_grown {w w' : World} {k o : Nat} {cs : List Value} {row : Option Nat} (h : MA.Rg w k o cs) (hg : w.grownBy w' row) (hne : some k ≠ row) : MA.Rg w' k o cs := by
  obtain ⟨h0, h1, h2⟩ := h
  have e := hg.block k h0 hne
  refine ⟨Nat.lt_of_lt_of_le h0 hg.size, fun j v hv => (World.cell?_of_block (a := ⟨k, o + j, none⟩) e).trans (h1 j v hv), fun j hj => ?_⟩
  obtain ⟨q1, q2⟩ := h2 j hj
  exact ⟨by rw [World.cell?_of_block (a := ⟨k, o + j, none⟩) e]; exact q1, by rw [World.frozen?_of_block (a := ⟨k, o + j, none⟩) e]; exact q2⟩
theorem app_run {P : Program} {o : Oper} {a : Act} {w w' : World} {s x : Operand} {t : TypeId} {v u v' : Value} (ho : o.op = .call { callee := .builtin .append, args := #[s, x], argTypes := #[t, t] }) (hs : a.eval s = v) (hx : a.eval x = u) (hr : (Builtin.append_ #[t, t] o.type #[v, u]).run P w = .ok v' w') : (execOp a.eval o).run P w = .ok (.value v') w' := by
  unfold execOp
  simp only [ho, resolve, invoke, builtin, Sem.run_bind, Sem.run_pure, Result.andThen_ok, List.map_toArray, List.map_cons, List.map_nil, hs, hx, hr]
theorem only_cells (k : Nat) : ∀ (vs : List Value) (o : Nat) (w : World), MC.Only k w (w.setCells k o vs)
  | [], _, w => MC.Only.refl k w
  | v :: r, o, w => ((MC.Only.refl k w).setCell o v).trans (only_cells k r (o + 1) _)
theorem own_only {w w' : World} {base e sz n k : Nat} {v : Value} {xs : List Value} (h : w.ownsRow base e sz v n xs) (ho : MC.Only k w w') (hn : v.ownBlock ≠ some k) : w'.ownsRow base e sz v n xs := by
  refine ⟨h.1, ?_⟩
  rcases h.2 with h' | ⟨g, cap', cur, rfl, hb, hg, rest⟩
  · exact .inl h'
  · refine .inr ⟨g, cap', cur, rfl, hb, (ho.block g (Array.getElem?_eq_some_iff.1 hg).1 (fun e => hn (by rw [← e]; rfl))).trans hg, rest⟩
theorem rg_only {w w' : World} {k o p : Nat} {cs : List Value} (h : MA.Rg w k o cs) (ho : MC.Only p w w') (hne : k ≠ p) : MA.Rg w' k o cs := by
  obtain ⟨h0, h1, h2⟩ := h
  have e := ho.block k h0 hne
  refine ⟨Nat.lt_of_lt_of_le h0 ho.size, fun j v hv => (World.cell?_of_block (a := ⟨k, o + j, none⟩) e).trans (h1 j v hv), fun j hj => ?_⟩
  obtain ⟨q1, q2⟩ := h2 j hj
  exact ⟨by rw [World.cell?_of_block (a := ⟨k, o + j, none⟩) e]; exact q1, by rw [World.frozen?_of_block (a := ⟨k, o + j, none⟩) e]; exact q2⟩
end RA
end Go.Proofs.Ytjfnmhkhjaafkaa

/- Pairings that are drawn. -/
namespace Go.Proofs.Ytjfnmhkhjaafkaa
open Go.RowKit
namespace PG
/-- A pairing in the making: its box, and its rows. -/
structure PS (T U : TypeId) (b : Nat) (W : World) (l r : Int) (v : Value) (ws : List (List Int)) (A : Nat → Option Addr) (C : Nat → Nat) : Prop where
  bx : W.heap[b]? = some (.cells #[.int .i64 l, .int .i64 r, v] T (0, 0))
  own : NR.Own U W (b + 1) v ws A C
  r0 : ws ≠ [] → W.ownsRow (b + 1) 3 1 (.slice (A 0) (NR.rw_ ws 0).length (C 0)) (NR.rw_ ws 0).length (M4.iv (NR.rw_ ws 0)) ∧ (NR.rw_ ws 0 = [] → A 0 = none)
theorem PS.lt {T U : TypeId} {b : Nat} {W : World} {l r : Int} {v : Value} {ws : List (List Int)} {A : Nat → Option Addr} {C : Nat → Nat} (h : PS T U b W l r v ws A C) : b < W.heap.size := (Array.getElem?_eq_some_iff.1 h.bx).1
theorem cellA {w : World} {g i : Nat} {cs : Array Value} {T : TypeId} {u : Value} (h : w.heap[g]? = some (.cells cs T (0, 0))) (hu : cs[i]? = some u) : w.cell? ⟨g, i, none⟩ = some u := by
  unfold World.cell?; rw [h]; simpa using hu
theorem freeA {w : World} {g i : Nat} {cs : Array Value} {T : TypeId} (h : w.heap[g]? = some (.cells cs T (0, 0))) : w.frozen? ⟨g, i, none⟩ = false := by simp [World.frozen?, h]
theorem PS.only {T U : TypeId} {b p : Nat} {W W' : World} {l r : Int} {v : Value} {ws : List (List Int)} {A : Nat → Option Addr} {C : Nat → Nat} (h : PS T U b W l r v ws A C) (ho : MC.Only p W W') (hp : p < b) : PS T U b W' l r v ws A C :=
  ⟨(ho.block b h.lt (by omega)).trans h.bx, h.own.only ho (by omega), fun h0 => ⟨MC.own_only (h.r0 h0).1 ho (by omega), (h.r0 h0).2⟩⟩
theorem in_grown {w w' : World} {B : Nat} {a : Option Addr} {l : List Int} {row : Option Nat} (h : NR.In w B a l) (hg : w.grownBy w' row) (hne : l ≠ [] → ∀ g, a = some ⟨g, 0, none⟩ → some g ≠ row) : NR.In w' B a l := by
  by_cases el : l = []
  · rw [el]; exact .nil _ _ _
  · rcases h.is with e | ⟨g, m, vs, ha, hw, h1, h2⟩
    · exact absurd e el
    · exact ⟨.inr ⟨g, m, vs, ha, hw.kept hg (.inr (hne el g ha)), h1, h2⟩⟩
theorem out_ne {T : TypeId} (hT : T ≠ 3) {w : World} {B B' n : Nat} {v : Value} {vs : List Value} {a : Option Addr} {l : List Int} (ho : w.ownsRow B T 1 v n vs) (h : NR.In w B' a l) (hl : l ≠ []) : ∀ g, a = some ⟨g, 0, none⟩ → some g ≠ v.ownBlock := by
  intro g ea e
  rcases ho.2 with ⟨rfl, _⟩ | ⟨g4, cap4, cur4, rfl, _, hg4, _⟩
  · cases e
  · simp only [Value.ownBlock, Option.some.injEq] at e
    subst e
    rcases h.is with e | ⟨g', m, us, ha, hw, _⟩
    · exact hl e
    · rw [ea] at ha
      simp only [Option.some.injEq, Addr.mk.injEq, and_true] at ha
      subst ha
      rcases hw.2 with ⟨h', _⟩ | ⟨g3, cap3, cur3, hv3, _, hg3, _⟩
      · cases h'
      · simp only [Value.slice.injEq, Option.some.injEq, Addr.mk.injEq, and_true] at hv3
        obtain ⟨rfl, _⟩ := hv3
        rw [hg4] at hg3
        simp only [Option.some.injEq, Obj.cells.injEq] at hg3
        exact hT hg3.2.1
theorem PS.row_lt {T U : TypeId} {b : Nat} {W : World} {l r : Int} {v : Value} {ws : List (List Int)} {A : Nat → Option Addr} {C : Nat → Nat} (h : PS T U b W l r v ws A C) : ∀ j, j < ws.length → NR.rw_ ws j ≠ [] → ∀ g, A j = some ⟨g, 0, none⟩ → g < W.heap.size := fun j hj h0 g hg => by
  have q := h.own.row j hj
  rw [hg] at q
  exact (q.lt h0).2
theorem own_ne {U : TypeId} (hU : U ≠ 3) {w : World} {B B' n m : Nat} {u v : Value} {xs ys : List Value} (h : w.ownsRow B 3 1 u n xs) (h' : w.ownsRow B' U 1 v m ys) : ∀ g, u.ownBlock = some g → v.ownBlock ≠ some g := fun g hg hv => by
  rcases h.2 with ⟨rfl, _⟩ | ⟨g1, c1, cur1, rfl, _, k1, _⟩
  · cases hg
  · rcases h'.2 with ⟨rfl, _⟩ | ⟨g2, c2, cur2, rfl, _, k2, _⟩
    · cases hv
    · simp only [Value.ownBlock, Option.some.injEq] at hg hv
      subst hg hv
      rw [k1] at k2
      simp only [Option.some.injEq, Obj.cells.injEq] at k2
      exact hU k2.2.1.symm
theorem PS.push {T U : TypeId} (hU : U ≠ 3) {b B' : Nat} {W w6 : World} {l r : Int} {v v' : Value} {ws : List (List Int)} {A : Nat → Option Addr} {C : Nat → Nat} {a5 : Option Addr} {L : List Int} {c5 : Nat} {o : Obj} (h : PS T U b W l r v ws A C) (hL : W.ownsRow B' 3 1 (.slice a5 L.length c5) L.length (M4.iv L)) (hLn : L = [] → a5 = none) (hlt : ∀ j, j < ws.length → NR.rw_ ws j ≠ [] → ∀ g, A j = some ⟨g, 0, none⟩ → g < B') (hB : b + 1 ≤ B')
    (ho : w6.ownsRow (b + 1) U 1 v' (ws.length + 1) (NR.hd ws A C ++ [.slice a5 L.length c5])) (hg : (W.alloc o).grownBy w6 v.ownBlock) : PS T U b (w6.setCell ⟨b, 2, none⟩ v') l r v' (ws ++ [L]) (NR.setF A ws.length a5) (NR.setF C ws.length c5) := by
  have hI : NR.In W B' a5 L := NR.In.of_own (l := L) hL
  have hb0 : w6.heap[b]? = some (.cells #[.int .i64 l, .int .i64 r, v] T (0, 0)) := by
    rw [hg.block b (by have := h.lt; simp; omega) (fun e => by have := (h.own.out.lt b e.symm).1; omega), Below.heap_alloc _ _ _ h.lt]; exact h.bx
  have al0 : ∀ {u : Value} {n B : Nat} {xs : List Value}, W.ownsRow B 3 1 u n xs → b + 1 ≤ B → (w6.setCell ⟨b, 2, none⟩ v').ownsRow (b + 1) 3 1 u n xs := fun {u n B xs} hu hB => by
    have h1 := own_grown (hu.alloc o) hg (fun g hg' => own_ne hU hu h.own.out g hg')
    exact MC.own_only (own_mono h1 hB) ((MC.Only.refl b w6).setCell 2 v') (by omega)
  refine ⟨?_, ?_, fun _ => ?_⟩
  · have := Go.Joins.block_setCell (i := 2) hb0 v'
    simpa using this
  rotate_left
  · by_cases h0 : ws = []
    · subst h0
      have e1 : NR.rw_ (([] : List (List Int)) ++ [L]) 0 = L := rfl
      rw [e1, show NR.setF A ([] : List (List Int)).length a5 0 = a5 from rfl, show NR.setF C ([] : List (List Int)).length c5 0 = c5 from rfl]
      exact ⟨al0 hL hB, hLn⟩
    · have hp : 0 < ws.length := List.length_pos_iff.2 h0
      rw [NR.rw_snoc_lt ws L hp, show NR.setF A ws.length a5 0 = A 0 from by rw [NR.setF, if_neg (by omega)], show NR.setF C ws.length c5 0 = C 0 from by rw [NR.setF, if_neg (by omega)]]
      exact ⟨al0 (h.r0 h0).1 (Nat.le_refl _), (h.r0 h0).2⟩
  · refine NR.Own.only ?_ ((MC.Only.refl b w6).setCell 2 v') (by omega)
    have al : Below W.heap.size W (W.alloc o) := (Below.refl _ W).alloc (Nat.le_refl _) o
    refine h.own.snoc (fun j hj => ?_) ?_ (fun h0 j hj hj0 ea => ?_) ho
    · exact in_grown ((h.own.row j hj).below al) hg (fun h0 => out_ne hU h.own.out (h.own.row j hj) h0)
    · exact (in_grown (hI.below al) hg (fun h0 => out_ne hU h.own.out hI h0)).mono hB
    · obtain ⟨g, hg'⟩ := (h.own.row j hj).some hj0
      have h1 := hlt j hj hj0 g hg'
      have q := hI
      rw [← ea, hg'] at q
      have := (q.lt h0).1
      omega
/-- A pairing that is made: its box, and its rows, told by their blocks alone. -/
structure PE (T U : TypeId) (b : Nat) (W : World) (l r : Int) (v : Value) (ws : List (List Int)) : Prop where
  bx : W.heap[b]? = some (.cells #[.int .i64 l, .int .i64 r, v] T (0, 0))
  rows : ∃ (A : Nat → Option Addr) (C : Nat → Nat), W.ownsRow (b + 1) U 1 v ws.length (NR.hd ws A C) ∧ ∀ j, j < ws.length → NR.In W (b + 1) (A j) (NR.rw_ ws j)
theorem PS.made {T U : TypeId} {b : Nat} {W : World} {l r : Int} {v : Value} {ws : List (List Int)} {A : Nat → Option Addr} {C : Nat → Nat} (h : PS T U b W l r v ws A C) : PE T U b W l r v ws := ⟨h.bx, A, C, h.own.out, h.own.row⟩
theorem PE.only {T U : TypeId} {b p : Nat} {W W' : World} {l r : Int} {v : Value} {ws : List (List Int)} (h : PE T U b W l r v ws) (ho : MC.Only p W W') (hp : p < b) : PE T U b W' l r v ws := by
  obtain ⟨A, C, h1, h2⟩ := h.rows
  refine ⟨(ho.block b (Array.getElem?_eq_some_iff.1 h.bx).1 (by omega)).trans h.bx, A, C, MC.own_only h1 ho (by omega), fun j hj => ?_⟩
  by_cases e : NR.rw_ ws j = []
  · rw [e]; exact .nil _ _ _
  · refine (h2 j hj).only ho (fun ea => ?_)
    have q := h2 j hj
    rw [ea] at q
    have := (q.lt e).1; omega
theorem PE.view {T U : TypeId} {b : Nat} {W : World} {l r : Int} {v : Value} {ws : List (List Int)} (h : PE T U b W l r v ws) : ∃ a c, v = .slice a ws.length c ∧ NR.RowsAt W a ws := by
  obtain ⟨A, C, h1, h2⟩ := h.rows
  rcases h1.2 with ⟨rfl, h0⟩ | ⟨g, cap, cur, rfl, hB, hg, _, _, _, _⟩
  · exact ⟨none, 0, by rw [h0], ⟨.inl (List.eq_nil_of_length_eq_zero h0)⟩⟩
  · refine ⟨some ⟨g, 0, none⟩, cap, rfl, ⟨.inr ⟨g, 0, rfl, (h1.lt g rfl).2, fun j hj => ?_⟩⟩⟩
    have c0 := h1.cellAt j (by omega)
    rw [NR.hd_get ws A C hj] at c0
    exact ⟨A j, C j, by rw [Nat.zero_add]; exact c0, (h2 j hj).len, (h2 j hj).ints⟩
theorem set_rw (ws : List (List Int)) (L : List Int) (h0 : 0 < ws.length) (j : Nat) : NR.rw_ (ws.set 0 L) j = if j = 0 then L else NR.rw_ ws j := by
  unfold NR.rw_
  rw [List.getD_eq_getElem?_getD, List.getD_eq_getElem?_getD, List.getElem?_set]
  by_cases e : j = 0
  · subst e; simp [h0]
  · rw [if_neg (fun x => e x.symm), if_neg e]
theorem tot_set : ∀ (ws : List (List Int)) (L : List Int), 0 < ws.length → NR.tot (ws.set 0 L) + (NR.rw_ ws 0).length = NR.tot ws + L.length
  | [], _, h => by simp at h
  | x :: ws, L, _ => by simp [NR.tot, NR.rw_]; omega
theorem hd_set (ws : List (List Int)) (L : List Int) (h0 : 0 < ws.length) (A : Nat → Option Addr) (C : Nat → Nat) (a : Option Addr) (c : Nat) : NR.hd (ws.set 0 L) (NR.setF A 0 a) (NR.setF C 0 c) = (NR.hd ws A C).set 0 (.slice a L.length c) := by
  apply List.ext_getElem (by simp [NR.hd])
  intro j h1 h2
  rw [List.getElem_set]
  simp only [NR.hd, List.getElem_map, List.getElem_range, set_rw ws L h0, NR.setF]
  by_cases e : j = 0
  · subst e; simp
  · rw [if_neg e, if_neg e, if_neg e, if_neg (fun x => e x.symm)]
/-- One more behind the first row. -/
theorem PS.top {T U : TypeId} (hU : U ≠ 3) {b g n c : Nat} {W w6 : World} {l r : Int} {ws : List (List Int)} {A : Nat → Option Addr} {C : Nat → Nat} {a' : Option Addr} {c' : Nat} {x : Int} {o : Obj} (h : PS T U b W l r (.slice (some ⟨g, 0, none⟩) n c) ws A C) (h0 : 0 < ws.length)
    (ho : w6.ownsRow (b + 1) 3 1 (.slice a' ((NR.rw_ ws 0).length + 1) c') ((NR.rw_ ws 0).length + 1) (M4.iv (NR.rw_ ws 0) ++ [.int .i64 x])) (hg : (W.alloc o).grownBy w6 (Value.slice (A 0) (NR.rw_ ws 0).length (C 0)).ownBlock) :
    PE T U b (w6.setCell ⟨g, 0, none⟩ (.slice a' ((NR.rw_ ws 0).length + 1) c')) l r (.slice (some ⟨g, 0, none⟩) n c) (ws.set 0 (NR.rw_ ws 0 ++ [x])) := by
  have hne : ws ≠ [] := List.length_pos_iff.1 h0
  obtain ⟨hr, hn⟩ := h.r0 hne
  have hgl := h.own.out.lt g rfl
  have al : Below W.heap.size W (W.alloc o) := (Below.refl _ W).alloc (Nat.le_refl _) o
  have hout : w6.ownsRow (b + 1) U 1 (.slice (some ⟨g, 0, none⟩) n c) ws.length (NR.hd ws A C) := own_grown (h.own.out.alloc o) hg (fun q hq e => own_ne hU hr h.own.out q e hq)
  have hnl : n = ws.length := by
    rcases h.own.out.2 with ⟨h', _⟩ | ⟨_, _, _, hv, _⟩
    · cases h'
    · cases hv; rfl
  refine ⟨?_, NR.setF A 0 a', NR.setF C 0 c', ?_, fun j hj => ?_⟩
  · rw [Below.heap_setCell _ _ _ _ (by show b ≠ g; omega), hg.block b (by have := h.lt; simp; omega) (fun e => by have := (hr.lt b e.symm).1; omega), Below.heap_alloc _ _ _ h.lt]; exact h.bx
  · subst hnl
    rw [hd_set ws _ h0, List.length_set, show (NR.rw_ ws 0 ++ [x]).length = (NR.rw_ ws 0).length + 1 from by simp]
    exact (hout.stored 0 _).1
  · rw [List.length_set] at hj
    rw [set_rw ws _ h0]
    have on := (MC.Only.refl g w6).setCell 0 (.slice a' ((NR.rw_ ws 0).length + 1) c')
    by_cases e : j = 0
    · subst e
      rw [if_pos rfl, show NR.setF A 0 a' 0 = a' from rfl]
      have h1 : NR.In w6 (b + 1) a' (NR.rw_ ws 0 ++ [x]) := NR.In.of_own (l := NR.rw_ ws 0 ++ [x]) (n := (NR.rw_ ws 0).length + 1) (cap := c') (by simpa [M4.iv] using ho)
      exact h1.only on (fun ea => own_ne hU ho hout g (by rw [ea]; rfl) rfl)
    · rw [if_neg e, show NR.setF A 0 a' j = A j from by rw [NR.setF, if_neg e]]
      have hj1 := h.own.row j hj
      by_cases ej : NR.rw_ ws j = []
      · rw [ej]; exact .nil _ _ _
      · have h1 : NR.In w6 (b + 1) (A j) (NR.rw_ ws j) := in_grown (hj1.below al) hg (fun _ q hq eb => by
          by_cases e0 : NR.rw_ ws 0 = []
          · rw [hn e0] at eb; cases eb
          · obtain ⟨g0, hg0⟩ := (h.own.row 0 h0).some e0
            have := h.own.far 0 j (by omega) hj e0 ej
            rw [hg0] at eb this
            simp only [Value.ownBlock, Option.some.injEq] at eb
            exact this (by rw [hq, eb]))
        exact h1.only on (fun ea => out_ne hU h.own.out hj1 ej g ea rfl)
end PG
set_option linter.unusedSimpArgs false in
set_option maxHeartbeats 3200000 in
set_option maxRecDepth 100000 in
theorem pairing_any (p : Nat) (a : Option Addr) (zs : List Int) (cap M : Nat) (w : World) (hz : zs.length ≤ 140737488355328) (hM : M ≤ 140737488340000) (hc : MC.Cur w p a zs cap M) :
    Calls Try.prog 43 #[.pointer (some ⟨p, 0, none⟩)] w fun e w' => ∃ (l r : Int) (a1 : Option Addr) (c1 : Nat) (ws : List (List Int)), e = .returned (PG.pv l r (.slice a1 ws.length c1)) ∧ (ws.length ≤ 9 ∧ l = (ws.length : Int) ∧ 0 ≤ r ∧ r ≤ 5) ∧ NR.tot ws ≤ 100 ∧ (∃ b, w.heap.size < b ∧ PG.PE 25 27 b w' l r (.slice a1 ws.length c1) ws) ∧ MC.Cur w' p a zs cap (M + 300) ∧ MC.Only p w w' := by
  obtain ⟨i0, hi, hz0, hz1, hz2⟩ := info_parts Try.info3
  have hplt := hc.lt
  have hO0 : MC.Only p w (w.alloc (.cells #[.int .i64 0, .int .i64 0, .slice none 0 0] 25)) := (MC.Only.refl p w).alloc _
  have HC0 : Hid (MC.Cur (w.alloc (.cells #[.int .i64 0, .int .i64 0, .slice none 0 0] 25)) p a zs cap M) := hc.alloc _
  have hbx0 : (w.alloc (.cells #[.int .i64 0, .int .i64 0, .slice none 0 0] 25)).heap[w.heap.size]? = some (.cells #[.int .i64 0, .int .i64 0, .slice none 0 0] 25 (0, 0)) := heap_alloc_new w _
  clear hc
  go_enter Try.func43, Try.ntmps43
  go_wp2_with fail
  generalize w.alloc (.cells #[.int .i64 0, .int .i64 0, .slice none 0 0] 25) = W0 at *
  refine (pick_any p a zs cap M 5 _ hz (by omega) HC0.out).mono ?_
  rintro e w1 ⟨r1, rfl, hr1, _, hc1, ho1⟩
  have hr1' : r1 ≤ 4 := by omega
  have hO1 := hO0.trans ho1
  have HC1 : Hid _ := hc1
  have hbx1 := (ho1.block w.heap.size (Array.getElem?_eq_some_iff.1 hbx0).1 (by omega)).trans hbx0
  clear HC0 hc1 ho1 hbx0 hO0 hr1
  go_wp2_with fail
  refine (pick_any p a zs cap (M + 2) 5 _ hz (by omega) HC1.out).mono ?_
  rintro e w2 ⟨r2, rfl, hr2, _, hc2, ho2⟩
  have hr2' : r2 ≤ 4 := by omega
  have hO2 := hO1.trans ho2
  have HC2 : Hid _ := hc2
  have hbx2 := (ho2.block w.heap.size (Array.getElem?_eq_some_iff.1 hbx1).1 (by omega)).trans hbx1
  clear HC1 hc2 ho2 hbx1 hO1 hr2
  go_wp2_with fail
  have hpw := hO2.size
  have hPS0 : PG.PS 25 27 w2.heap.size (w2.alloc (.cells #[.int .i64 (1 + r1), .int .i64 (1 + r2), .slice none 0 0] 25)) (1 + r1) (1 + r2) (.slice none 0 0) [] (fun _ => none) (fun _ => 0) := ⟨heap_alloc_new w2 _, NR.Own.nil _ _ _ _ _, fun h => absurd rfl h⟩
  have hO3 : MC.Only p w (w2.alloc (.cells #[.int .i64 (1 + r1), .int .i64 (1 + r2), .slice none 0 0] 25)) := hO2.alloc _
  have HC3 : Hid (MC.Cur (w2.alloc (.cells #[.int .i64 (1 + r1), .int .i64 (1 + r2), .slice none 0 0] 25)) p a zs cap (M + 4)) := HC2.out.alloc _
  have hbx3 : (w2.alloc (.cells #[.int .i64 (1 + r1), .int .i64 (1 + r2), .slice none 0 0] 25)).heap[w.heap.size]? = some (.cells #[.int .i64 0, .int .i64 0, .slice none 0 0] 25 (0, 0)) := by
    rw [Below.heap_alloc _ _ _ (Array.getElem?_eq_some_iff.1 hbx2).1]; exact hbx2
  have hbl : w.heap.size < w2.heap.size := (Array.getElem?_eq_some_iff.1 hbx2).1
  generalize w2.alloc (.cells #[.int .i64 (1 + r1), .int .i64 (1 + r2), .slice none 0 0] 25) = W3 at *
  generalize w2.heap.size = b at *
  obtain ⟨l1, hl1⟩ : ∃ l1 : Nat, (1 : Int) + r1 = (l1 : Int) := ⟨1 + r1, by omega⟩
  obtain ⟨R, hR⟩ : ∃ R : Nat, (1 : Int) + r2 = (R : Int) := ⟨1 + r2, by omega⟩
  rw [hl1, hR] at hPS0 ⊢
  have hl19 : l1 ≤ 9 := by omega
  have hR5 : R ≤ 5 := by omega
  clear HC2 hbx2 hO2 hpw hl1 hR hr1' hr2'
  refine (one_any p a zs cap (M + 4) 20 _ hz (by omega) HC3.out).mono ?_
  rintro e w4 ⟨b4, rfl, hc4, ho4⟩
  have hO4 := hO3.trans ho4
  have hPS4 := hPS0.only ho4 (by omega)
  have hbx4 := (ho4.block w.heap.size (Array.getElem?_eq_some_iff.1 hbx3).1 (by omega)).trans hbx3
  have HC4 : Hid (MC.Cur w4 p a zs cap (M + 6)) := hc4
  clear HC3 hc4 ho4 hPS0 hbx3 hO3
  have hi1 : (Try.prog.info? 27).map (fun i => (i.zero, i.size, i.bytes)) = some (some (.slice none 0 0), 1, 24) := by kernel_rfl
  obtain ⟨i1, hj', hy0', hy1', hy2'⟩ := info_parts hi1
  clear hi1
  cases b4
  · have HC : Hid (MC.Cur w4 p a zs cap (M + 8)) := HC4.out.more (by omega)
    have hPS := hPS4
    have hO := hO4
    have hbx := hbx4
    have hl9 := hl19
    clear HC4 hPS4 hO4 hbx4 hl19
    generalize w4 = W at *
    generalize l1 = l at *
    go_wp2
    go_loopw [4] (fun iv wr => ∃ (k : Nat) (v : Value) (ws : List (List Int)) (A : Nat → Option Addr) (C : Nat → Nat), iv = .int .i64 k ∧ k ≤ l ∧ Hid (PG.PS 25 27 b wr l R v ws A C) ∧ Hid (ws.length = k) ∧ Hid (NR.tot ws ≤ 5 * k) ∧ Hid (MC.Cur wr p a zs cap (M + 8 + 10 * k)) ∧ MC.Only p w wr ∧ Hid (wr.heap[w.heap.size]? = some (.cells #[.int .i64 0, .int .i64 0, .slice none 0 0] 25 (0, 0)))) (fun iv _ => (l - intOf iv).toNat)
    case atStart => exact ⟨0, _, [], _, _, rfl, by omega, hPS, rfl, Nat.le_refl _, HC.out.more (by omega), hO, hbx⟩
    case round =>
      clear HC hPS hO hbx
      obtain ⟨k, v, ws, A, C, rfl, hk, HP, HW, HT, HC, hO, HBX⟩ := hrel
      have c0 := PG.cellA HP.out.bx (i := 0) rfl
      have hpb : p < b := by omega
      have hbw := HP.out.lt
      by_cases hl : k < l
      · rename World => Wo
        go_wp2
        go_loopw [5, 6] (fun u jv wi => ∃ (j : Nat) (L : List Int), jv = .int .i64 j ∧ j ≤ R ∧ L.length ≤ j ∧ Hid (wi.ownsRow Wo.heap.size 3 1 u L.length (M4.iv L)) ∧ Hid (L = [] → u = .slice none 0 0) ∧ Hid (MC.Cur wi p a zs cap (M + 8 + 10 * k + 2 * j)) ∧ MC.Only p Wo wi) (fun _ jv _ => (R - intOf jv).toNat)
        case atStart => exact ⟨0, [], rfl, by omega, by simp, World.ownsRow_nil _ _ _ _, fun _ => rfl, HC, MC.Only.refl _ _⟩
        case round =>
          clear c0 HC
          obtain ⟨j, L, rfl, hj, hL, hT, hLN, HCi, hOi⟩ := hrel
          have hPi := HP.out.only hOi hpb
          have c1 := PG.cellA hPi.bx (i := 1) rfl
          have hsi := hOi.size
          by_cases hlj : j < R
          · go_wp2_with fail
            refine (one_any p a zs cap _ 3 _ hz (by omega) HCi.out).mono ?_
            rintro e w7 ⟨b7, rfl, hc7, ho7⟩
            have hO7 := hOi.trans ho7
            have HC7 : Hid (MC.Cur w7 p a zs cap (M + 8 + 10 * k + 2 * (j + 1))) := hc7.more (by omega)
            have HT7 : Hid (w7.ownsRow Wo.heap.size 3 1 u5 L.length (M4.iv L)) := MC.own_only hT.out ho7 (by omega)
            have hs7 := hO7.size
            clear hc7 ho7 HCi hT hOi hPi c1
            cases b7
            · go_wp2
              go_roundw
              case rel => exact ⟨j + 1, L, by go_num, by omega, by omega, HT7, hLN, HC7, hO7⟩
              case measure => simp [intOf]; omega
            · generalize hll : L.length = ll at *
              have HLL : Hid _ := hll
              clear hll
              go_wp2_with (at_builtin; (refine wpList_append_own _ rfl _ _ 27 rfl Wo.heap.size 3 i0 (.int .i64 0) 1 8 Try.underlying27 hi hz0 hz1 hz2 rfl (by decide) _ _ _ rfl (World.ownsRow.alloc HT7.out _) ⟨w7.heap.size, 0, none⟩ 1 1 [.int .i64 (j : Int)] rfl rfl ?pa1 ?pa2 ?pa3 ?pa4 ?pa5 ?_))
              case pa1 => exact M2.new1 _ _ _
              case pa2 => exact M2.one1 _ _
              case pa3 => unfold maxLen; omega
              case pa4 => omega
              case pa5 => simp; omega
              intro v8 w8 hown8 hgrow8 _
              have hO8 : MC.Only p Wo w8 := (hO7.alloc _).grown hgrow8 (fun q hq => (World.ownsRow.lt HT7.out q hq).1)
              have HC8 : Hid (MC.Cur w8 p a zs cap (M + 8 + 10 * k + 2 * (j + 1))) := (HC7.out.alloc _).grown hgrow8 (fun q hq => by have := (World.ownsRow.lt HT7.out q hq).1; omega)
              have HT8 : Hid (w8.ownsRow Wo.heap.size 3 1 v8 (L ++ [(j : Int)]).length (M4.iv (L ++ [(j : Int)]))) := PG.own_snoc (by rw [HLL.out]; exact hown8) rfl
              have hll8 : (L ++ [(j : Int)]).length ≤ j + 1 := by rw [List.length_append, HLL.out]; simp; exact hL
              have HLL8 : Hid _ := hll8
              clear hown8 hgrow8 HT7 HC7 hO7 HLL hll8
              go_wp2
              go_roundw
              case rel => exact ⟨j + 1, L ++ [(j : Int)], by go_num, by omega, HLL8.out, HT8, fun h => by simp at h, HC8, hO8⟩
              case measure => simp [intOf]; omega
          · obtain rfl : R = j := by omega
            have c2 := PG.cellA hPi.bx (i := 2) rfl
            obtain ⟨a5, c5, rfl, -⟩ := M5.own_view hT.out
            have hLN5 : Hid (L = [] → a5 = none) := fun h => by have := hLN.out h; simp only [Value.slice.injEq] at this; exact this.1
            clear hLN
            have hI5 : wr.ownsRow Wo.heap.size 3 1 (.slice a5 L.length c5) L.length (M4.iv L) := hT.out
            have hOut := hPi.own.out
            have HPi : Hid _ := hPi
            have HI5 : Hid (wr.ownsRow Wo.heap.size 3 1 (.slice a5 L.length c5) L.length (M4.iv L)) := hI5
            have hRL : Hid _ := HP.out.row_lt
            have hwl := HW.out
            have HOut : Hid (wr.ownsRow (b + 1) 27 1 v k (NR.hd ws A C)) := by rw [← hwl]; exact hOut
            have hbi := hPi.lt
            have HBXi : Hid (wr.heap[w.heap.size]? = some (.cells #[.int .i64 0, .int .i64 0, .slice none 0 0] 25 (0, 0))) := (hOi.block w.heap.size (Array.getElem?_eq_some_iff.1 HBX.out).1 (by omega)).trans HBX.out
            have hOw := hO.trans hOi
            have HLt : Hid (NR.tot (ws ++ [L]) ≤ 5 * (k + 1)) := by show _ ≤ _; rw [NR.tot_app, NR.tot_one]; have := HT.out; omega
            have HLw : Hid ((ws ++ [L]).length = k + 1) := by show _ = _; rw [List.length_append, hwl]; rfl
            generalize hll : L.length = ll at *
            have HLL : Hid _ := hll
            have HWL : Hid _ := hwl
            clear hPi hI5 hOut hT hll hwl HT HP HW HBX hO
            go_wp2_with (at_builtin; (refine wpList_append_own _ rfl _ _ 23 rfl (b + 1) 27 i1 (.slice none 0 0) 1 24 Try.underlying23 hj' hy0' hy1' hy2' rfl (by decide) _ _ _ rfl (World.ownsRow.alloc HOut.out _) ⟨wr.heap.size, 0, none⟩ 1 1 [.slice a5 ll c5] rfl rfl ?pb1 ?pb2 ?pb3 ?pb4 ?pb5 ?_))
            case pb1 => exact M2.new1 _ _ _
            case pb2 => intro u hu; simp at hu; subst hu; rfl
            case pb3 => unfold maxLen; omega
            case pb4 => omega
            case pb5 => simp; omega
            intro v8 w8 hown8 hgrow8 _
            obtain ⟨g8, d8, rfl⟩ : ∃ g8 d8, v8 = .slice (some ⟨g8, 0, none⟩) (k + 1) d8 := by
              rcases hown8.2 with ⟨_, h'⟩ | ⟨g, cap, cur, rfl, _⟩
              · omega
              · exact ⟨g, cap, rfl⟩
            have hPS8 := HPi.out.push (by decide) (B' := Wo.heap.size) (by rw [HLL.out]; exact HI5.out) hLN5.out hRL.out hbw (by rw [HWL.out, HLL.out]; exact hown8) hgrow8
            have hrow : ∀ q, v.ownBlock = some q → b + 1 ≤ q := fun q hq => (World.ownsRow.lt HOut.out q hq).1
            have cb8 : w8.heap[b]? = some (.cells #[.int .i64 (l : Int), .int .i64 (R : Int), v] 25 (0, 0)) := by
              rw [hgrow8.block b (by simp; omega) (fun e => by have := hrow b e.symm; omega), Below.heap_alloc _ _ _ hbi]; exact HPi.out.bx
            have c8 := PG.cellA cb8 (i := 2) rfl
            have f8 := PG.freeA cb8 (i := 2)
            have hO8 : MC.Only p w (w8.setCell ⟨b, 2, none⟩ (.slice (some ⟨g8, 0, none⟩) (k + 1) d8)) := by
              have h1 : MC.Only p w w8 := (hOw.alloc _).grown hgrow8 (fun q hq => by have := hrow q hq; omega)
              exact ⟨h1.os, h1.tape, h1.output, by have := h1.size; simpa using this, fun q hq hp => (Below.heap_setCell _ _ _ _ (by show q ≠ b; omega)).trans (h1.block q hq hp)⟩
            have HC8 : Hid (MC.Cur (w8.setCell ⟨b, 2, none⟩ (.slice (some ⟨g8, 0, none⟩) (k + 1) d8)) p a zs cap (M + 8 + 10 * (k + 1))) := by
              have h1 : MC.Cur w8 p a zs cap (M + 8 + 10 * k + 2 * R) := (HCi.out.alloc _).grown hgrow8 (fun q hq => by have := hrow q hq; omega)
              exact (MC.Cur.same h1 (by simp) (fun q hq => Below.heap_setCell _ _ _ _ (by show q ≠ b; omega))).more (by omega)
            have HBX8 : Hid ((w8.setCell ⟨b, 2, none⟩ (.slice (some ⟨g8, 0, none⟩) (k + 1) d8)).heap[w.heap.size]? = some (.cells #[.int .i64 0, .int .i64 0, .slice none 0 0] 25 (0, 0))) := by
              show _ = _
              rw [Below.heap_setCell _ _ _ _ (by show w.heap.size ≠ b; omega), hgrow8.block w.heap.size (by simp; omega) (fun e => by have := hrow _ e.symm; omega), Below.heap_alloc _ _ _ (by omega)]; exact HBXi.out
            have HPS8 : Hid _ := hPS8
            clear hown8 hgrow8 hPS8 HPi HI5 HOut hRL HBXi HCi hOi hrow cb8 c2
            go_wp2
            go_roundw
            case rel => exact ⟨k + 1, (.slice (some ⟨g8, 0, none⟩) (k + 1) d8), ws ++ [L], _, _, by go_num, by omega, HPS8, HLw, HLt, HC8, hO8, HBX8⟩
            case measure => simp [intOf]; omega
      · obtain rfl : l = k := by omega
        obtain ⟨aF, cF, rfl, iF⟩ := HP.out.own.view
        have c1 := PG.cellA HP.out.bx (i := 1) rfl
        have c2 := PG.cellA HP.out.bx (i := 2) rfl
        have hrb := (Array.getElem?_eq_some_iff.1 HBX.out).1
        simp only [List.getElem_toArray, List.getElem_cons_zero, List.getElem_cons_succ] at c0 c1 c2
        rw [HW.out] at c2
        by_cases hz9 : l = 0
        · subst hz9
          have hE : PG.PE 25 27 b wr ((0 : Nat) : Int) R (.slice aF 0 cF) ws := by have := HP.out.made; rw [HW.out] at this; exact this
          have x0 := PG.cellA HBX.out (i := 0) rfl
          have x1 := PG.cellA HBX.out (i := 1) rfl
          have x2 := PG.cellA HBX.out (i := 2) rfl
          have z0 := PG.freeA HBX.out (i := 0)
          have z1 := PG.freeA HBX.out (i := 1)
          have z2 := PG.freeA HBX.out (i := 2)
          have onR := (((MC.Only.refl w.heap.size wr).setCell 0 (.int .i64 ((0 : Nat) : Int))).setCell 1 (.int .i64 (R : Int))).setCell 2 (.slice aF 0 cF)
          have hOz : MC.Only p w (((wr.setCell ⟨w.heap.size, 0, none⟩ (.int .i64 ((0 : Nat) : Int))).setCell ⟨w.heap.size, 1, none⟩ (.int .i64 (R : Int))).setCell ⟨w.heap.size, 2, none⟩ (.slice aF 0 cF)) := ⟨hO.os, hO.tape, hO.output, Nat.le_trans hO.size onR.size, fun q hq hp => (onR.block q (Nat.lt_of_lt_of_le hq hO.size) (by omega)).trans (hO.block q hq hp)⟩
          have HCz : Hid (MC.Cur _ p a zs cap (M + 300)) := (MC.Cur.same HC.out onR.size (fun q hq => onR.block q (by omega) (by omega))).more (by omega)
          have hEq := hE.only onR hbl
          obtain ⟨az, cz, hvz, -⟩ := hEq.view
          simp only [Value.slice.injEq] at hvz
          obtain ⟨-, hvl, -⟩ := hvz
          have IZ : Hid _ := hEq
          have HVL : Hid _ := hvl
          clear hEq hvl onR hE HP iF
          go_wp2
          exact bodyPost_ret (v := PG.pv 0 R (.slice aF 0 cF)) (by simp [results, Try.results43, go_sem, x0, x1, x2]) rfl ⟨0, R, aF, cF, ws, by rw [← HVL.out], ⟨by have := HW.out; omega, by have := HVL.out; omega, by omega, by omega⟩, by have := HT.out; omega, ⟨b, hbl, by rw [← HVL.out]; exact IZ.out⟩, HCz.out, hOz⟩
        · obtain ⟨g, rfl⟩ : ∃ g, aF = some ⟨g, 0, none⟩ := by
            rcases HP.out.own.out.2 with ⟨h', h0⟩ | ⟨g, cap', cur, hv, _⟩
            · have := HW.out; omega
            · cases hv; exact ⟨g, rfl⟩
          have hlp : (0 : Int) < (l : Int) := by omega
          have ONE : Hid _ := one_any p a zs cap _ 30 _ hz (by omega) HC.out
          go_wp2_with fail
          refine Calls.mono ONE.out ?_
          rintro e w7 ⟨b7, rfl, hc7, ho7⟩
          clear ONE
          have hP7 := HP.out.only ho7 hpb
          have hO7 := hO.trans ho7
          have HBX7 : Hid _ := (ho7.block w.heap.size hrb (by omega)).trans HBX.out
          have HC7 : Hid (MC.Cur w7 p a zs cap (M + 8 + 10 * l + 2)) := hc7
          have hb7w := hP7.lt
          clear HP hO HBX HC hc7 ho7 c0 c1 c2 iF hbw hrb
          have c0 := PG.cellA hP7.bx (i := 0) rfl
          have c1 := PG.cellA hP7.bx (i := 1) rfl
          have c2 := PG.cellA hP7.bx (i := 2) rfl
          simp only [List.getElem_toArray, List.getElem_cons_zero, List.getElem_cons_succ] at c0 c1 c2
          rw [HW.out] at c2
          have hP8 : PG.PS 25 27 b w7 l R (.slice (some ⟨g, 0, none⟩) l cF) ws A C := by have := hP7; rw [HW.out] at this; exact this
          clear hP7
          cases b7
          · have hE := hP8.made
            have x0 := PG.cellA HBX7.out (i := 0) rfl
            have x1 := PG.cellA HBX7.out (i := 1) rfl
            have x2 := PG.cellA HBX7.out (i := 2) rfl
            have z0 := PG.freeA HBX7.out (i := 0)
            have z1 := PG.freeA HBX7.out (i := 1)
            have z2 := PG.freeA HBX7.out (i := 2)
            have onR := (((MC.Only.refl w.heap.size w7).setCell 0 (.int .i64 (l : Int))).setCell 1 (.int .i64 (R : Int))).setCell 2 (.slice (some ⟨g, 0, none⟩) l cF)
            have hOz : MC.Only p w (((w7.setCell ⟨w.heap.size, 0, none⟩ (.int .i64 (l : Int))).setCell ⟨w.heap.size, 1, none⟩ (.int .i64 (R : Int))).setCell ⟨w.heap.size, 2, none⟩ (.slice (some ⟨g, 0, none⟩) l cF)) := ⟨hO7.os, hO7.tape, hO7.output, Nat.le_trans hO7.size onR.size, fun q hq hp => (onR.block q (Nat.lt_of_lt_of_le hq hO7.size) (by omega)).trans (hO7.block q hq hp)⟩
            have HCz : Hid (MC.Cur _ p a zs cap (M + 300)) := (MC.Cur.same HC7.out onR.size (fun q hq => onR.block q (by omega) (by omega))).more (by omega)
            have hEq := hE.only onR hbl
            obtain ⟨az, cz, hvz, -⟩ := hEq.view
            simp only [Value.slice.injEq] at hvz
            obtain ⟨-, hvl, -⟩ := hvz
            have IZ : Hid _ := hEq
            have HVL : Hid _ := hvl
            clear hEq hvl onR hE hP8
            go_wp2
            exact bodyPost_ret (v := PG.pv l R (.slice (some ⟨g, 0, none⟩) l cF)) (by simp [results, Try.results43, go_sem, x0, x1, x2]) rfl ⟨l, R, (some ⟨g, 0, none⟩), cF, ws, by rw [← HVL.out], ⟨by have := HW.out; omega, by have := HVL.out; omega, by omega, by omega⟩, by have := HT.out; omega, ⟨b, hbl, by rw [← HVL.out]; exact IZ.out⟩, HCz.out, hOz⟩
          · have hr0 := hP8.r0 (by intro e; have := HW.out; rw [e] at this; exact hz9 this.symm)
            have hout : w7.ownsRow (b + 1) 27 1 (.slice (some ⟨g, 0, none⟩) l cF) l (NR.hd ws A C) := by have := hP8.own.out; rw [HW.out] at this; exact this
            have hwp : 0 < ws.length := by rw [HW.out]; omega
            have hcel := hout.cellAt 0 (by rw [Nat.mul_one]; omega)
            rw [NR.hd_get ws A C hwp] at hcel
            have hfz := hout.frozenAt 0
            have hgl := hout.lt g rfl
            have hl1 : (0 : Int) < (l : Int) := by omega
            obtain ⟨row, hrow0⟩ : ∃ row, NR.rw_ ws 0 = row := ⟨_, rfl⟩
            have hTop := fun {w6 : World} {a' : Option Addr} {c' : Nat} {x : Int} {o : Obj} {W7 : World} (hp : PG.PS 25 27 b W7 l R (.slice (some ⟨g, 0, none⟩) l cF) ws A C) ho hg => hp.top (by decide) hwp (w6 := w6) (a' := a') (c' := c') (x := x) (o := o) ho hg
            rw [hrow0] at hr0 hcel hTop
            have hrl : row.length ≤ 100 := by have h1 := NR.tot_row ws hwp; have h2 := HT.out; rw [hrow0] at h1; omega
            have HTop : Hid _ := @hTop
            have HR0 : Hid _ := hrow0
            have HP8 : Hid _ := hP8
            have HOut : Hid _ := hout
            have Hr0 : Hid _ := hr0.1
            have hA0 := hr0.2
            clear hTop hrow0 hP8 hout hr0
            generalize hA : A 0 = a0 at *
            generalize hC : C 0 = c00 at *
            clear hA hC hA0
            go_wp2
            refine MR.frame fun A_ hA => ?_
            have hsz : A_.tmps.size = 64 := by rw [hA]; rfl
            have e0 : A_.eval (.tmp 0) = .pointer (some ⟨p, 0, none⟩) := by rw [hA]; rfl
            have f0 := MR.read (t := 0) (by rw [hsz]; decide) e0
            have e3 : A_.eval (.tmp 3) = .pointer (some ⟨b, 0, none⟩) := by rw [hA]; rfl
            have f3 := MR.read (t := 3) (by rw [hsz]; decide) e3
            have HA : Hid (A_ = _) := hA
            clear hA
            refine MR.cut (fun aa w' => ∃ (x : Int) (g2 : Nat) (v9 : Value), aa = (((((((((((A_.put (some 52) (.pointer (some ⟨b, 2, none⟩))).put (some 53) (.slice (some ⟨g, 0, none⟩) l cF)).put (some 54) (.pointer (some ⟨b, 2, none⟩))).put (some 55) (.slice (some ⟨g, 0, none⟩) l cF)).put (some 56) (.pointer (some ⟨g, 0, none⟩))).put (some 57) (.slice a0 row.length c00)).put (some 58) (.pointer (some ⟨p, 0, none⟩))).put (some 59) (.int .i64 x)).put (some 60) (.slice (some ⟨g2, 0, none⟩) 1 1)).put (some 61) (v9)).put (some 62) (.pointer (some ⟨g, 0, none⟩))) ∧ Hid (PG.PE 25 27 b w' l R (.slice (some ⟨g, 0, none⟩) l cF) (ws.set 0 (row ++ [x])) ∧ MC.Only p w w' ∧ MC.Cur w' p a zs cap (M + 8 + 10 * l + 4) ∧ w'.heap[w.heap.size]? = some (.cells #[.int .i64 0, .int .i64 0, .slice none 0 0] 25 (0, 0)))) ?_ ?_
            · have hS : (fun wq : World => wq.cell? ⟨b, 2, none⟩ = some (.slice (some ⟨g, 0, none⟩) l cF)) (World.drew _) := c2
              refine wp_region_held (S := fun wq : World => wq.cell? ⟨b, 2, none⟩ = some (.slice (some ⟨g, 0, none⟩) l cF)) (by kernel_rfl) ?_
              change wpAnyH _ _ _ _ _ _ _ _ (World.drew _)
              refine MR.takeH (i := 0) (some 52) (.pointer (some ⟨b, 2, none⟩)) rfl rfl (by kernel_rfl) (by kernel_rfl) (by kernel_rfl) nofun hS (MR.free rfl) (fun wq hw => by simp [execOp, MR.ev, MR.size, hsz, e0, f0, e3, f3, go_sem]) ?_
              refine MR.takeH (i := 1) (some 53) (.slice (some ⟨g, 0, none⟩) l cF) rfl rfl (by kernel_rfl) (by kernel_rfl) (by kernel_rfl) nofun hS (MR.free rfl) (fun wq hw => by simp [execOp, MR.ev, MR.size, hsz, e0, f0, e3, f3, hw, go_sem]) ?_
              refine MR.takeH (i := 2) (some 54) (.pointer (some ⟨b, 2, none⟩)) rfl rfl (by kernel_rfl) (by kernel_rfl) (by kernel_rfl) nofun hS (MR.free rfl) (fun wq hw => by simp [execOp, MR.ev, MR.size, hsz, e0, f0, e3, f3, go_sem]) ?_
              refine MR.takeH (i := 3) (some 55) (.slice (some ⟨g, 0, none⟩) l cF) rfl rfl (by kernel_rfl) (by kernel_rfl) (by kernel_rfl) nofun hS (MR.free rfl) (fun wq hw => by simp [execOp, MR.ev, MR.size, hsz, e0, f0, e3, f3, hw, go_sem]) ?_
              refine MR.takeH (i := 4) (some 56) (.pointer (some ⟨g, 0, none⟩)) rfl rfl (by kernel_rfl) (by kernel_rfl) (by kernel_rfl) nofun hS (MR.free rfl) (fun wq hw => by simp [execOp, MR.ev, MR.size, hsz, e0, f0, e3, f3, hl1, hz9, Addr.add, go_sem]) ?_
              refine MR.takeH (i := 6) (some 58) (.pointer (some ⟨p, 0, none⟩)) rfl rfl (by kernel_rfl) (by kernel_rfl) (by kernel_rfl) nofun hS (MR.free rfl) (fun wq hw => by simp [execOp, MR.ev, MR.size, hsz, e0, f0, e3, f3, go_sem]) ?_
              refine MR.two (i := 5) (j := 7) (by kernel_rfl) ?_ ?_
              · refine MR.nowW (w' := World.drew w7) (some 57) (.slice a0 row.length c00) rfl rfl (MR.free rfl) (by simp [execOp, MR.ev, MR.size, hsz, e0, f0, e3, f3, hcel, go_sem]) ⟨hS, ?_⟩
                refine MR.callH (i := 7) (some 59) (52) (#[.pointer (some ⟨p, 0, none⟩), .int .i64 9]) (by kernel_rfl) rfl rfl (MR.free rfl) (by simp [execOp, MR.ev, MR.size, hsz, e0, f0, e3, f3, go_sem]) ?_
                refine (pick_any p a zs cap _ 9 _ hz (by omega) (HC7.out.below (Below.refl _ w7).drew)).mono ?_
                rintro e w8 ⟨x8, rfl, _, _, hc8, ho8'⟩
                have ho8 : MC.Only p w7 w8 := (MC.Only.of_below (Below.refl _ w7).drew).trans ho8'
                have hP8' := HP8.out.only ho8 hpb
                have hcel8 := (ho8.cell (x := ⟨g, 0, none⟩) hgl.2 (by show g ≠ p; omega)).trans hcel
                have hS8 : (fun wq : World => wq.cell? ⟨b, 2, none⟩ = some (.slice (some ⟨g, 0, none⟩) l cF)) w8 := (ho8.cell (x := ⟨b, 2, none⟩) hb7w (by show b ≠ p; omega)).trans c2
                have hr8 := MC.own_only Hr0.out ho8 (by omega)
                have hO8 := hO7.trans ho8
                have hs8 := ho8.size
                have hbx8 := (ho8.block w.heap.size (Array.getElem?_eq_some_iff.1 HBX7.out).1 (by omega)).trans HBX7.out
                refine ⟨_, rfl, hS8, ?_⟩
                refine MR.nowH (w' := w8.alloc (.cells #[.int .i64 (x8 : Int)] 3)) (i := 8) (some 60) (.slice (some ⟨w8.heap.size, 0, none⟩) 1 1) (by kernel_rfl) rfl rfl (MR.free rfl) (by simp [execOp, MR.ev, MR.size, hsz, e0, f0, e3, f3, go_sem]) ⟨(World.cell?_alloc_lt _ _ _ (by show b < _; omega)).trans hS8, ?_⟩
                obtain ⟨v9, w9, hrun, hown9, hgrow9, _, _⟩ := run_append_own_at (P := Try.prog) (w8.alloc (.cells #[.int .i64 (x8 : Int)] 3)) (b + 1) 27 27 3 i0 (.int .i64 0) 1 8 Try.underlying27 hi hz0 hz1 hz2 rfl (by decide) (.slice a0 row.length c00) row.length (M4.iv row) (World.ownsRow.alloc hr8 _) ⟨w8.heap.size, 0, none⟩ 1 1 [.int .i64 (x8 : Int)] rfl (M2.new1 _ _ _) (M2.one1 _ _) (by unfold maxLen; omega) (by omega) (by simp; omega)
                obtain ⟨a9, c9, rfl⟩ : ∃ a9 c9, v9 = .slice a9 (row.length + 1) c9 := by
                  rcases hown9.2 with ⟨_, h'⟩ | ⟨gg, cap', cur, rfl, _⟩
                  · omega
                  · exact ⟨_, cap', rfl⟩
                have hrw : ∀ q, (Value.slice a0 row.length c00).ownBlock = some q → b + 1 ≤ q := fun q hq => (World.ownsRow.lt hr8 q hq).1
                have hS9 : (fun wq : World => wq.cell? ⟨b, 2, none⟩ = some (.slice (some ⟨g, 0, none⟩) l cF)) w9 := by
                  show _ = _
                  rw [World.cell?_of_block (w := w8.alloc (.cells #[.int .i64 (x8 : Int)] 3)) (a := ⟨b, 2, none⟩) (hgrow9.block b (by simp; omega) (fun e => by have := hrw b e.symm; omega)), World.cell?_alloc_lt _ _ _ (by show b < _; omega)]; exact hS8
                have hout9 : w9.ownsRow (b + 1) 27 1 (.slice (some ⟨g, 0, none⟩) l cF) l (NR.hd ws A C) := PG.own_grown (World.ownsRow.alloc (MC.own_only HOut.out ho8 (by omega)) _) hgrow9 (fun q hq e => PG.own_ne (by decide) hr8 (MC.own_only HOut.out ho8 (by omega)) q e hq)
                have hcel9 : ∃ u, w9.cell? ⟨g, 0, none⟩ = some u := by
                  rw [hout9.cellAt 0 (by rw [Nat.mul_one]; omega), NR.hd_get ws A C hwp]; exact ⟨_, rfl⟩
                obtain ⟨u9, hcel9⟩ := hcel9
                have hfz9 := hout9.frozenAt 0
                refine MR.nowH (w' := w9) (i := 9) (some 61) (.slice a9 (row.length + 1) c9) (by kernel_rfl) rfl rfl (MR.free rfl) (RA.app_run rfl (by simp [MR.ev, MR.size, hsz, e0, f0, e3, f3]) (by simp [MR.ev, MR.size, hsz, e0, f0, e3, f3]) hrun) ⟨hS9, ?_⟩
                refine MR.takeH (i := 10) (some 62) (.pointer (some ⟨g, 0, none⟩)) rfl rfl (by kernel_rfl) (by kernel_rfl) (by kernel_rfl) nofun hS9 (MR.free rfl) (fun wq hw => by simp [execOp, MR.ev, MR.size, hsz, e0, f0, e3, f3, hl1, hz9, Addr.add, go_sem]) ?_
                have hE9 := HTop.out hP8' hown9 hgrow9
                have on9 := (MC.Only.refl g w9).setCell 0 (.slice a9 (row.length + 1) c9)
                have hO9' : MC.Only p w w9 := (hO8.alloc _).grown hgrow9 (fun q hq => by have := hrw q hq; omega)
                have hO9 : MC.Only p w (w9.setCell ⟨g, 0, none⟩ (.slice a9 (row.length + 1) c9)) := ⟨hO9'.os, hO9'.tape, hO9'.output, Nat.le_trans hO9'.size on9.size, fun q hq hp => (on9.block q (Nat.lt_of_lt_of_le hq hO9'.size) (by omega)).trans (hO9'.block q hq hp)⟩
                have hc9' : MC.Cur w9 p a zs cap (M + 8 + 10 * l + 4) := (MC.Cur.alloc hc8 _).grown hgrow9 (fun q hq => by have := hrw q hq; omega)
                have hc9 : MC.Cur (w9.setCell ⟨g, 0, none⟩ (.slice a9 (row.length + 1) c9)) p a zs cap (M + 8 + 10 * l + 4) := MC.Cur.same hc9' on9.size (fun q hq => Below.heap_setCell _ _ _ _ (by show q ≠ g; omega))
                have hbx9 : (w9.setCell ⟨g, 0, none⟩ (.slice a9 (row.length + 1) c9)).heap[w.heap.size]? = some (.cells #[.int .i64 0, .int .i64 0, .slice none 0 0] 25 (0, 0)) := by
                  rw [Below.heap_setCell _ _ _ _ (by show w.heap.size ≠ g; omega), hgrow9.block w.heap.size (by simp; omega) (fun e => by have := hrw _ e.symm; omega), Below.heap_alloc _ _ _ (by omega)]; exact hbx8
                have hSz : (fun wq : World => wq.cell? ⟨b, 2, none⟩ = some (.slice (some ⟨g, 0, none⟩) l cF)) (w9.setCell ⟨g, 0, none⟩ (.slice a9 (row.length + 1) c9)) := (World.cell?_of_block (w := w9) (a := ⟨b, 2, none⟩) (Below.heap_setCell _ _ _ _ (by show b ≠ g; omega))).trans hS9
                refine MR.storeH (w' := w9.setCell ⟨g, 0, none⟩ (.slice a9 (row.length + 1) c9)) (i := 11) (by kernel_rfl) rfl (MR.free rfl) (by simp [execOp, MR.ev, MR.size, hsz, e0, f0, e3, f3, hcel9, hfz9, go_sem]) ⟨hSz, ?_⟩
                refine wpAnyH_done (by kernel_rfl) ⟨rfl, x8, w8.heap.size, .slice a9 (row.length + 1) c9, ?_, ⟨hE9, hO9, hc9, hbx9⟩⟩ _
                rw [HA.out]
                simp only [Act.put, List.setIfInBounds_toArray, List.set_cons_succ, List.set_cons_zero]
                try rfl
              · refine MR.callW (some 59) (52) (#[.pointer (some ⟨p, 0, none⟩), .int .i64 9]) rfl rfl (MR.free rfl) (by simp [execOp, MR.ev, MR.size, hsz, e0, f0, e3, f3, go_sem]) ?_
                refine (pick_any p a zs cap _ 9 _ hz (by omega) (HC7.out.below (Below.refl _ w7).drew)).mono ?_
                rintro e w8 ⟨x8, rfl, _, _, hc8, ho8'⟩
                have ho8 : MC.Only p w7 w8 := (MC.Only.of_below (Below.refl _ w7).drew).trans ho8'
                have hP8' := HP8.out.only ho8 hpb
                have hcel8 := (ho8.cell (x := ⟨g, 0, none⟩) hgl.2 (by show g ≠ p; omega)).trans hcel
                have hS8 : (fun wq : World => wq.cell? ⟨b, 2, none⟩ = some (.slice (some ⟨g, 0, none⟩) l cF)) w8 := (ho8.cell (x := ⟨b, 2, none⟩) hb7w (by show b ≠ p; omega)).trans c2
                have hr8 := MC.own_only Hr0.out ho8 (by omega)
                have hO8 := hO7.trans ho8
                have hs8 := ho8.size
                have hbx8 := (ho8.block w.heap.size (Array.getElem?_eq_some_iff.1 HBX7.out).1 (by omega)).trans HBX7.out
                refine ⟨_, rfl, hS8, ?_⟩
                refine MR.two (i := 5) (j := 8) (by kernel_rfl) ?_ ?_
                · refine MR.nowW (w' := w8) (some 57) (.slice a0 row.length c00) rfl rfl (MR.free rfl) (by simp [execOp, MR.ev, MR.size, hsz, e0, f0, e3, f3, hcel8, go_sem]) ⟨hS8, ?_⟩
                  refine MR.nowH (w' := w8.alloc (.cells #[.int .i64 (x8 : Int)] 3)) (i := 8) (some 60) (.slice (some ⟨w8.heap.size, 0, none⟩) 1 1) (by kernel_rfl) rfl rfl (MR.free rfl) (by simp [execOp, MR.ev, MR.size, hsz, e0, f0, e3, f3, go_sem]) ⟨(World.cell?_alloc_lt _ _ _ (by show b < _; omega)).trans hS8, ?_⟩
                  obtain ⟨v9, w9, hrun, hown9, hgrow9, _, _⟩ := run_append_own_at (P := Try.prog) (w8.alloc (.cells #[.int .i64 (x8 : Int)] 3)) (b + 1) 27 27 3 i0 (.int .i64 0) 1 8 Try.underlying27 hi hz0 hz1 hz2 rfl (by decide) (.slice a0 row.length c00) row.length (M4.iv row) (World.ownsRow.alloc hr8 _) ⟨w8.heap.size, 0, none⟩ 1 1 [.int .i64 (x8 : Int)] rfl (M2.new1 _ _ _) (M2.one1 _ _) (by unfold maxLen; omega) (by omega) (by simp; omega)
                  obtain ⟨a9, c9, rfl⟩ : ∃ a9 c9, v9 = .slice a9 (row.length + 1) c9 := by
                    rcases hown9.2 with ⟨_, h'⟩ | ⟨gg, cap', cur, rfl, _⟩
                    · omega
                    · exact ⟨_, cap', rfl⟩
                  have hrw : ∀ q, (Value.slice a0 row.length c00).ownBlock = some q → b + 1 ≤ q := fun q hq => (World.ownsRow.lt hr8 q hq).1
                  have hS9 : (fun wq : World => wq.cell? ⟨b, 2, none⟩ = some (.slice (some ⟨g, 0, none⟩) l cF)) w9 := by
                    show _ = _
                    rw [World.cell?_of_block (w := w8.alloc (.cells #[.int .i64 (x8 : Int)] 3)) (a := ⟨b, 2, none⟩) (hgrow9.block b (by simp; omega) (fun e => by have := hrw b e.symm; omega)), World.cell?_alloc_lt _ _ _ (by show b < _; omega)]; exact hS8
                  have hout9 : w9.ownsRow (b + 1) 27 1 (.slice (some ⟨g, 0, none⟩) l cF) l (NR.hd ws A C) := PG.own_grown (World.ownsRow.alloc (MC.own_only HOut.out ho8 (by omega)) _) hgrow9 (fun q hq e => PG.own_ne (by decide) hr8 (MC.own_only HOut.out ho8 (by omega)) q e hq)
                  have hcel9 : ∃ u, w9.cell? ⟨g, 0, none⟩ = some u := by
                    rw [hout9.cellAt 0 (by rw [Nat.mul_one]; omega), NR.hd_get ws A C hwp]; exact ⟨_, rfl⟩
                  obtain ⟨u9, hcel9⟩ := hcel9
                  have hfz9 := hout9.frozenAt 0
                  refine MR.nowH (w' := w9) (i := 9) (some 61) (.slice a9 (row.length + 1) c9) (by kernel_rfl) rfl rfl (MR.free rfl) (RA.app_run rfl (by simp [MR.ev, MR.size, hsz, e0, f0, e3, f3]) (by simp [MR.ev, MR.size, hsz, e0, f0, e3, f3]) hrun) ⟨hS9, ?_⟩
                  refine MR.takeH (i := 10) (some 62) (.pointer (some ⟨g, 0, none⟩)) rfl rfl (by kernel_rfl) (by kernel_rfl) (by kernel_rfl) nofun hS9 (MR.free rfl) (fun wq hw => by simp [execOp, MR.ev, MR.size, hsz, e0, f0, e3, f3, hl1, hz9, Addr.add, go_sem]) ?_
                  have hE9 := HTop.out hP8' hown9 hgrow9
                  have on9 := (MC.Only.refl g w9).setCell 0 (.slice a9 (row.length + 1) c9)
                  have hO9' : MC.Only p w w9 := (hO8.alloc _).grown hgrow9 (fun q hq => by have := hrw q hq; omega)
                  have hO9 : MC.Only p w (w9.setCell ⟨g, 0, none⟩ (.slice a9 (row.length + 1) c9)) := ⟨hO9'.os, hO9'.tape, hO9'.output, Nat.le_trans hO9'.size on9.size, fun q hq hp => (on9.block q (Nat.lt_of_lt_of_le hq hO9'.size) (by omega)).trans (hO9'.block q hq hp)⟩
                  have hc9' : MC.Cur w9 p a zs cap (M + 8 + 10 * l + 4) := (MC.Cur.alloc hc8 _).grown hgrow9 (fun q hq => by have := hrw q hq; omega)
                  have hc9 : MC.Cur (w9.setCell ⟨g, 0, none⟩ (.slice a9 (row.length + 1) c9)) p a zs cap (M + 8 + 10 * l + 4) := MC.Cur.same hc9' on9.size (fun q hq => Below.heap_setCell _ _ _ _ (by show q ≠ g; omega))
                  have hbx9 : (w9.setCell ⟨g, 0, none⟩ (.slice a9 (row.length + 1) c9)).heap[w.heap.size]? = some (.cells #[.int .i64 0, .int .i64 0, .slice none 0 0] 25 (0, 0)) := by
                    rw [Below.heap_setCell _ _ _ _ (by show w.heap.size ≠ g; omega), hgrow9.block w.heap.size (by simp; omega) (fun e => by have := hrw _ e.symm; omega), Below.heap_alloc _ _ _ (by omega)]; exact hbx8
                  have hSz : (fun wq : World => wq.cell? ⟨b, 2, none⟩ = some (.slice (some ⟨g, 0, none⟩) l cF)) (w9.setCell ⟨g, 0, none⟩ (.slice a9 (row.length + 1) c9)) := (World.cell?_of_block (w := w9) (a := ⟨b, 2, none⟩) (Below.heap_setCell _ _ _ _ (by show b ≠ g; omega))).trans hS9
                  refine MR.storeH (w' := w9.setCell ⟨g, 0, none⟩ (.slice a9 (row.length + 1) c9)) (i := 11) (by kernel_rfl) rfl (MR.free rfl) (by simp [execOp, MR.ev, MR.size, hsz, e0, f0, e3, f3, hcel9, hfz9, go_sem]) ⟨hSz, ?_⟩
                  refine wpAnyH_done (by kernel_rfl) ⟨rfl, x8, w8.heap.size, .slice a9 (row.length + 1) c9, ?_, ⟨hE9, hO9, hc9, hbx9⟩⟩ _
                  rw [HA.out]
                  simp only [Act.put, List.setIfInBounds_toArray, List.set_cons_succ, List.set_cons_zero]
                  try rfl
                · refine MR.nowW (w' := w8.alloc (.cells #[.int .i64 (x8 : Int)] 3)) (some 60) (.slice (some ⟨w8.heap.size, 0, none⟩) 1 1) rfl rfl (MR.free rfl) (by simp [execOp, MR.ev, MR.size, hsz, e0, f0, e3, f3, go_sem]) ⟨(World.cell?_alloc_lt _ _ _ (by show b < _; omega)).trans hS8, ?_⟩
                  have hcel8a := (World.cell?_alloc_lt w8 (.cells #[.int .i64 (x8 : Int)] 3) ⟨g, 0, none⟩ (by show g < _; omega)).trans hcel8
                  refine MR.nowH (w' := w8.alloc (.cells #[.int .i64 (x8 : Int)] 3)) (i := 5) (some 57) (.slice a0 row.length c00) (by kernel_rfl) rfl rfl (MR.free rfl) (by simp [execOp, MR.ev, MR.size, hsz, e0, f0, e3, f3, hcel8a, go_sem]) ⟨(World.cell?_alloc_lt _ _ _ (by show b < _; omega)).trans hS8, ?_⟩
                  obtain ⟨v9, w9, hrun, hown9, hgrow9, _, _⟩ := run_append_own_at (P := Try.prog) (w8.alloc (.cells #[.int .i64 (x8 : Int)] 3)) (b + 1) 27 27 3 i0 (.int .i64 0) 1 8 Try.underlying27 hi hz0 hz1 hz2 rfl (by decide) (.slice a0 row.length c00) row.length (M4.iv row) (World.ownsRow.alloc hr8 _) ⟨w8.heap.size, 0, none⟩ 1 1 [.int .i64 (x8 : Int)] rfl (M2.new1 _ _ _) (M2.one1 _ _) (by unfold maxLen; omega) (by omega) (by simp; omega)
                  obtain ⟨a9, c9, rfl⟩ : ∃ a9 c9, v9 = .slice a9 (row.length + 1) c9 := by
                    rcases hown9.2 with ⟨_, h'⟩ | ⟨gg, cap', cur, rfl, _⟩
                    · omega
                    · exact ⟨_, cap', rfl⟩
                  have hrw : ∀ q, (Value.slice a0 row.length c00).ownBlock = some q → b + 1 ≤ q := fun q hq => (World.ownsRow.lt hr8 q hq).1
                  have hS9 : (fun wq : World => wq.cell? ⟨b, 2, none⟩ = some (.slice (some ⟨g, 0, none⟩) l cF)) w9 := by
                    show _ = _
                    rw [World.cell?_of_block (w := w8.alloc (.cells #[.int .i64 (x8 : Int)] 3)) (a := ⟨b, 2, none⟩) (hgrow9.block b (by simp; omega) (fun e => by have := hrw b e.symm; omega)), World.cell?_alloc_lt _ _ _ (by show b < _; omega)]; exact hS8
                  have hout9 : w9.ownsRow (b + 1) 27 1 (.slice (some ⟨g, 0, none⟩) l cF) l (NR.hd ws A C) := PG.own_grown (World.ownsRow.alloc (MC.own_only HOut.out ho8 (by omega)) _) hgrow9 (fun q hq e => PG.own_ne (by decide) hr8 (MC.own_only HOut.out ho8 (by omega)) q e hq)
                  have hcel9 : ∃ u, w9.cell? ⟨g, 0, none⟩ = some u := by
                    rw [hout9.cellAt 0 (by rw [Nat.mul_one]; omega), NR.hd_get ws A C hwp]; exact ⟨_, rfl⟩
                  obtain ⟨u9, hcel9⟩ := hcel9
                  have hfz9 := hout9.frozenAt 0
                  refine MR.nowH (w' := w9) (i := 9) (some 61) (.slice a9 (row.length + 1) c9) (by kernel_rfl) rfl rfl (MR.free rfl) (RA.app_run rfl (by simp [MR.ev, MR.size, hsz, e0, f0, e3, f3]) (by simp [MR.ev, MR.size, hsz, e0, f0, e3, f3]) hrun) ⟨hS9, ?_⟩
                  refine MR.takeH (i := 10) (some 62) (.pointer (some ⟨g, 0, none⟩)) rfl rfl (by kernel_rfl) (by kernel_rfl) (by kernel_rfl) nofun hS9 (MR.free rfl) (fun wq hw => by simp [execOp, MR.ev, MR.size, hsz, e0, f0, e3, f3, hl1, hz9, Addr.add, go_sem]) ?_
                  have hE9 := HTop.out hP8' hown9 hgrow9
                  have on9 := (MC.Only.refl g w9).setCell 0 (.slice a9 (row.length + 1) c9)
                  have hO9' : MC.Only p w w9 := (hO8.alloc _).grown hgrow9 (fun q hq => by have := hrw q hq; omega)
                  have hO9 : MC.Only p w (w9.setCell ⟨g, 0, none⟩ (.slice a9 (row.length + 1) c9)) := ⟨hO9'.os, hO9'.tape, hO9'.output, Nat.le_trans hO9'.size on9.size, fun q hq hp => (on9.block q (Nat.lt_of_lt_of_le hq hO9'.size) (by omega)).trans (hO9'.block q hq hp)⟩
                  have hc9' : MC.Cur w9 p a zs cap (M + 8 + 10 * l + 4) := (MC.Cur.alloc hc8 _).grown hgrow9 (fun q hq => by have := hrw q hq; omega)
                  have hc9 : MC.Cur (w9.setCell ⟨g, 0, none⟩ (.slice a9 (row.length + 1) c9)) p a zs cap (M + 8 + 10 * l + 4) := MC.Cur.same hc9' on9.size (fun q hq => Below.heap_setCell _ _ _ _ (by show q ≠ g; omega))
                  have hbx9 : (w9.setCell ⟨g, 0, none⟩ (.slice a9 (row.length + 1) c9)).heap[w.heap.size]? = some (.cells #[.int .i64 0, .int .i64 0, .slice none 0 0] 25 (0, 0)) := by
                    rw [Below.heap_setCell _ _ _ _ (by show w.heap.size ≠ g; omega), hgrow9.block w.heap.size (by simp; omega) (fun e => by have := hrw _ e.symm; omega), Below.heap_alloc _ _ _ (by omega)]; exact hbx8
                  have hSz : (fun wq : World => wq.cell? ⟨b, 2, none⟩ = some (.slice (some ⟨g, 0, none⟩) l cF)) (w9.setCell ⟨g, 0, none⟩ (.slice a9 (row.length + 1) c9)) := (World.cell?_of_block (w := w9) (a := ⟨b, 2, none⟩) (Below.heap_setCell _ _ _ _ (by show b ≠ g; omega))).trans hS9
                  refine MR.storeH (w' := w9.setCell ⟨g, 0, none⟩ (.slice a9 (row.length + 1) c9)) (i := 11) (by kernel_rfl) rfl (MR.free rfl) (by simp [execOp, MR.ev, MR.size, hsz, e0, f0, e3, f3, hcel9, hfz9, go_sem]) ⟨hSz, ?_⟩
                  refine wpAnyH_done (by kernel_rfl) ⟨rfl, x8, w8.heap.size, .slice a9 (row.length + 1) c9, ?_, ⟨hE9, hO9, hc9, hbx9⟩⟩ _
                  rw [HA.out]
                  simp only [Act.put, List.setIfInBounds_toArray, List.set_cons_succ, List.set_cons_zero]
                  try rfl
            rintro aa w10 ⟨x, g2, v9, rfl, hf⟩
            obtain ⟨hE9, hO9, hc9, hbx9⟩ := hf.out
            rw [HA.out]
            have HBX9 : Hid _ := hbx9
            have HC9 : Hid _ := hc9
            have d0 := PG.cellA hE9.bx (i := 0) rfl
            have d1 := PG.cellA hE9.bx (i := 1) rfl
            have d2 := PG.cellA hE9.bx (i := 2) rfl
            simp only [List.getElem_toArray, List.getElem_cons_zero, List.getElem_cons_succ] at d0 d1 d2
            have hb9w := (Array.getElem?_eq_some_iff.1 hE9.bx).1
            have HLN : Hid ((ws.set 0 (row ++ [x])).length ≤ 9) := by show _ ≤ _; rw [List.length_set, HW.out]; exact hl9
            have HTT : Hid (NR.tot (ws.set 0 (row ++ [x])) ≤ 100) := by show _ ≤ _; have := PG.tot_set ws (row ++ [x]) hwp; have h2 := HT.out; rw [HR0.out] at this; simp only [List.length_append, List.length_singleton] at this; omega
            clear HA e0 f0 e3 f3 hsz hf c0 c1 c2 hcel hfz HP8 HOut Hr0 HTop HBX7 HC7 hO7 hbx9 hc9
            simp only [Act.put, List.setIfInBounds_toArray, List.set_cons_succ, List.set_cons_zero]
            have hE := hE9
            have x0 := PG.cellA HBX9.out (i := 0) rfl
            have x1 := PG.cellA HBX9.out (i := 1) rfl
            have x2 := PG.cellA HBX9.out (i := 2) rfl
            have z0 := PG.freeA HBX9.out (i := 0)
            have z1 := PG.freeA HBX9.out (i := 1)
            have z2 := PG.freeA HBX9.out (i := 2)
            have onR := (((MC.Only.refl w.heap.size w10).setCell 0 (.int .i64 (l : Int))).setCell 1 (.int .i64 (R : Int))).setCell 2 (.slice (some ⟨g, 0, none⟩) l cF)
            have hOz : MC.Only p w (((w10.setCell ⟨w.heap.size, 0, none⟩ (.int .i64 (l : Int))).setCell ⟨w.heap.size, 1, none⟩ (.int .i64 (R : Int))).setCell ⟨w.heap.size, 2, none⟩ (.slice (some ⟨g, 0, none⟩) l cF)) := ⟨hO9.os, hO9.tape, hO9.output, Nat.le_trans hO9.size onR.size, fun q hq hp => (onR.block q (Nat.lt_of_lt_of_le hq hO9.size) (by omega)).trans (hO9.block q hq hp)⟩
            have HCz : Hid (MC.Cur _ p a zs cap (M + 300)) := (MC.Cur.same HC9.out onR.size (fun q hq => onR.block q (by omega) (by omega))).more (by omega)
            have hEq := hE.only onR hbl
            obtain ⟨az, cz, hvz, -⟩ := hEq.view
            simp only [Value.slice.injEq] at hvz
            obtain ⟨-, hvl, -⟩ := hvz
            have IZ : Hid _ := hEq
            have HVL : Hid _ := hvl
            clear hEq hvl onR hE hE9
            go_wp2
            exact bodyPost_ret (v := PG.pv l R (.slice (some ⟨g, 0, none⟩) l cF)) (by simp [results, Try.results43, go_sem, x0, x1, x2]) rfl ⟨l, R, (some ⟨g, 0, none⟩), cF, (ws.set 0 (row ++ [x])), by rw [← HVL.out], ⟨HLN.out, by have := HVL.out; omega, by omega, by omega⟩, HTT.out, ⟨b, hbl, by rw [← HVL.out]; exact IZ.out⟩, HCz.out, hOz⟩
  · have hb4l := hPS4.lt
    have iA : M4.IntsAt (w4.alloc (.cells #[.int .i64 0, .int .i64 8, .int .i64 9] 3)) (some ⟨w4.heap.size, 0, none⟩) [0, 8, 9] := by
      refine .inr ⟨w4.heap.size, 0, rfl, by simp, fun j hj => ?_⟩
      have hj3 : j = 0 ∨ j = 1 ∨ j = 2 := by simp at hj; omega
      rcases hj3 with rfl | rfl | rfl <;> simp
    have AM : Hid _ := among_any p a zs cap (M + 6) (some ⟨w4.heap.size, 0, none⟩) [0, 8, 9] 3 (w4.alloc (.cells #[.int .i64 0, .int .i64 8, .int .i64 9] 3)) hz (by omega) (HC4.out.alloc _) (by simp) (by simp) iA (fun b' off e => by simp only [Option.some.injEq, Addr.mk.injEq] at e; omega)
    have al : MC.Only p w4 (w4.alloc (.cells #[.int .i64 0, .int .i64 8, .int .i64 9] 3)) := (MC.Only.refl p w4).alloc _
    clear iA
    go_wp2_with fail
    generalize w4.alloc (.cells #[.int .i64 0, .int .i64 8, .int .i64 9] 3) = W4 at *
    refine Calls.mono AM.out ?_
    rintro e w5 ⟨z, rfl, hzm, hc5, ho5⟩
    have ho45 := al.trans ho5
    have hPS5 := hPS4.only ho45 (by omega)
    have hO5 := hO4.trans ho45
    have hbx5 := (ho45.block w.heap.size (Array.getElem?_eq_some_iff.1 hbx4).1 (by omega)).trans hbx4
    obtain ⟨l, rfl, hl9⟩ : ∃ l : Nat, z = (l : Int) ∧ l ≤ 9 := by
      simp only [List.mem_cons, List.not_mem_nil, or_false] at hzm
      rcases hzm with rfl | rfl | rfl
      · exact ⟨0, rfl, by omega⟩
      · exact ⟨8, rfl, by omega⟩
      · exact ⟨9, rfl, by omega⟩
    have cb := PG.cellA hPS5.bx (i := 0) rfl
    have fb := PG.freeA hPS5.bx (i := 0)
    have hPS : PG.PS 25 27 b (w5.setCell ⟨b, 0, none⟩ (.int .i64 (l : Int))) l R (.slice none 0 0) [] (fun _ => none) (fun _ => 0) := ⟨by have := Go.Joins.block_setCell (i := 0) hPS5.bx (.int .i64 (l : Int)); simpa using this, NR.Own.nil _ _ _ _ _, fun h => absurd rfl h⟩
    have hO : MC.Only p w (w5.setCell ⟨b, 0, none⟩ (.int .i64 (l : Int))) := ⟨hO5.os, hO5.tape, hO5.output, by have := hO5.size; simpa using this, fun k hk hp => (Below.heap_setCell _ _ _ _ (by show k ≠ b; omega)).trans (hO5.block k hk hp)⟩
    have hbx : (w5.setCell ⟨b, 0, none⟩ (.int .i64 (l : Int))).heap[w.heap.size]? = _ := (Below.heap_setCell _ _ _ _ (by show w.heap.size ≠ b; omega)).trans hbx5
    have HC : Hid (MC.Cur (w5.setCell ⟨b, 0, none⟩ (.int .i64 (l : Int))) p a zs cap (M + 8)) := MC.Cur.same hc5 (by simp) (fun k hk => Below.heap_setCell _ _ _ _ (by show k ≠ b; omega))
    clear AM al hc5 ho5 ho45 hPS4 hPS5 hO4 hO5 hbx4 hbx5 HC4 hzm hl19
    go_wp2
    generalize w5.setCell ⟨b, 0, none⟩ (.int .i64 (l : Int)) = W at *
    go_loopw [4] (fun iv wr => ∃ (k : Nat) (v : Value) (ws : List (List Int)) (A : Nat → Option Addr) (C : Nat → Nat), iv = .int .i64 k ∧ k ≤ l ∧ Hid (PG.PS 25 27 b wr l R v ws A C) ∧ Hid (ws.length = k) ∧ Hid (NR.tot ws ≤ 5 * k) ∧ Hid (MC.Cur wr p a zs cap (M + 8 + 10 * k)) ∧ MC.Only p w wr ∧ Hid (wr.heap[w.heap.size]? = some (.cells #[.int .i64 0, .int .i64 0, .slice none 0 0] 25 (0, 0)))) (fun iv _ => (l - intOf iv).toNat)
    case atStart => exact ⟨0, _, [], _, _, rfl, by omega, hPS, rfl, Nat.le_refl _, HC.out.more (by omega), hO, hbx⟩
    case round =>
      clear HC hPS hO hbx
      obtain ⟨k, v, ws, A, C, rfl, hk, HP, HW, HT, HC, hO, HBX⟩ := hrel
      have c0 := PG.cellA HP.out.bx (i := 0) rfl
      have hpb : p < b := by omega
      have hbw := HP.out.lt
      by_cases hl : k < l
      · rename World => Wo
        go_wp2
        go_loopw [5, 6] (fun u jv wi => ∃ (j : Nat) (L : List Int), jv = .int .i64 j ∧ j ≤ R ∧ L.length ≤ j ∧ Hid (wi.ownsRow Wo.heap.size 3 1 u L.length (M4.iv L)) ∧ Hid (L = [] → u = .slice none 0 0) ∧ Hid (MC.Cur wi p a zs cap (M + 8 + 10 * k + 2 * j)) ∧ MC.Only p Wo wi) (fun _ jv _ => (R - intOf jv).toNat)
        case atStart => exact ⟨0, [], rfl, by omega, by simp, World.ownsRow_nil _ _ _ _, fun _ => rfl, HC, MC.Only.refl _ _⟩
        case round =>
          clear c0 HC
          obtain ⟨j, L, rfl, hj, hL, hT, hLN, HCi, hOi⟩ := hrel
          have hPi := HP.out.only hOi hpb
          have c1 := PG.cellA hPi.bx (i := 1) rfl
          have hsi := hOi.size
          by_cases hlj : j < R
          · go_wp2_with fail
            refine (one_any p a zs cap _ 3 _ hz (by omega) HCi.out).mono ?_
            rintro e w7 ⟨b7, rfl, hc7, ho7⟩
            have hO7 := hOi.trans ho7
            have HC7 : Hid (MC.Cur w7 p a zs cap (M + 8 + 10 * k + 2 * (j + 1))) := hc7.more (by omega)
            have HT7 : Hid (w7.ownsRow Wo.heap.size 3 1 u5 L.length (M4.iv L)) := MC.own_only hT.out ho7 (by omega)
            have hs7 := hO7.size
            clear hc7 ho7 HCi hT hOi hPi c1
            cases b7
            · go_wp2
              go_roundw
              case rel => exact ⟨j + 1, L, by go_num, by omega, by omega, HT7, hLN, HC7, hO7⟩
              case measure => simp [intOf]; omega
            · generalize hll : L.length = ll at *
              have HLL : Hid _ := hll
              clear hll
              go_wp2_with (at_builtin; (refine wpList_append_own _ rfl _ _ 27 rfl Wo.heap.size 3 i0 (.int .i64 0) 1 8 Try.underlying27 hi hz0 hz1 hz2 rfl (by decide) _ _ _ rfl (World.ownsRow.alloc HT7.out _) ⟨w7.heap.size, 0, none⟩ 1 1 [.int .i64 (j : Int)] rfl rfl ?qa1 ?qa2 ?qa3 ?qa4 ?qa5 ?_))
              case qa1 => exact M2.new1 _ _ _
              case qa2 => exact M2.one1 _ _
              case qa3 => unfold maxLen; omega
              case qa4 => omega
              case qa5 => simp; omega
              intro v8 w8 hown8 hgrow8 _
              have hO8 : MC.Only p Wo w8 := (hO7.alloc _).grown hgrow8 (fun q hq => (World.ownsRow.lt HT7.out q hq).1)
              have HC8 : Hid (MC.Cur w8 p a zs cap (M + 8 + 10 * k + 2 * (j + 1))) := (HC7.out.alloc _).grown hgrow8 (fun q hq => by have := (World.ownsRow.lt HT7.out q hq).1; omega)
              have HT8 : Hid (w8.ownsRow Wo.heap.size 3 1 v8 (L ++ [(j : Int)]).length (M4.iv (L ++ [(j : Int)]))) := PG.own_snoc (by rw [HLL.out]; exact hown8) rfl
              have hll8 : (L ++ [(j : Int)]).length ≤ j + 1 := by rw [List.length_append, HLL.out]; simp; exact hL
              have HLL8 : Hid _ := hll8
              clear hown8 hgrow8 HT7 HC7 hO7 HLL hll8
              go_wp2
              go_roundw
              case rel => exact ⟨j + 1, L ++ [(j : Int)], by go_num, by omega, HLL8.out, HT8, fun h => by simp at h, HC8, hO8⟩
              case measure => simp [intOf]; omega
          · obtain rfl : R = j := by omega
            have c2 := PG.cellA hPi.bx (i := 2) rfl
            obtain ⟨a5, c5, rfl, -⟩ := M5.own_view hT.out
            have hLN5 : Hid (L = [] → a5 = none) := fun h => by have := hLN.out h; simp only [Value.slice.injEq] at this; exact this.1
            clear hLN
            have hI5 : wr.ownsRow Wo.heap.size 3 1 (.slice a5 L.length c5) L.length (M4.iv L) := hT.out
            have hOut := hPi.own.out
            have HPi : Hid _ := hPi
            have HI5 : Hid (wr.ownsRow Wo.heap.size 3 1 (.slice a5 L.length c5) L.length (M4.iv L)) := hI5
            have hRL : Hid _ := HP.out.row_lt
            have hwl := HW.out
            have HOut : Hid (wr.ownsRow (b + 1) 27 1 v k (NR.hd ws A C)) := by rw [← hwl]; exact hOut
            have hbi := hPi.lt
            have HBXi : Hid (wr.heap[w.heap.size]? = some (.cells #[.int .i64 0, .int .i64 0, .slice none 0 0] 25 (0, 0))) := (hOi.block w.heap.size (Array.getElem?_eq_some_iff.1 HBX.out).1 (by omega)).trans HBX.out
            have hOw := hO.trans hOi
            have HLt : Hid (NR.tot (ws ++ [L]) ≤ 5 * (k + 1)) := by show _ ≤ _; rw [NR.tot_app, NR.tot_one]; have := HT.out; omega
            have HLw : Hid ((ws ++ [L]).length = k + 1) := by show _ = _; rw [List.length_append, hwl]; rfl
            generalize hll : L.length = ll at *
            have HLL : Hid _ := hll
            have HWL : Hid _ := hwl
            clear hPi hI5 hOut hT hll hwl HT HP HW HBX hO
            go_wp2_with (at_builtin; (refine wpList_append_own _ rfl _ _ 23 rfl (b + 1) 27 i1 (.slice none 0 0) 1 24 Try.underlying23 hj' hy0' hy1' hy2' rfl (by decide) _ _ _ rfl (World.ownsRow.alloc HOut.out _) ⟨wr.heap.size, 0, none⟩ 1 1 [.slice a5 ll c5] rfl rfl ?qb1 ?qb2 ?qb3 ?qb4 ?qb5 ?_))
            case qb1 => exact M2.new1 _ _ _
            case qb2 => intro u hu; simp at hu; subst hu; rfl
            case qb3 => unfold maxLen; omega
            case qb4 => omega
            case qb5 => simp; omega
            intro v8 w8 hown8 hgrow8 _
            obtain ⟨g8, d8, rfl⟩ : ∃ g8 d8, v8 = .slice (some ⟨g8, 0, none⟩) (k + 1) d8 := by
              rcases hown8.2 with ⟨_, h'⟩ | ⟨g, cap, cur, rfl, _⟩
              · omega
              · exact ⟨g, cap, rfl⟩
            have hPS8 := HPi.out.push (by decide) (B' := Wo.heap.size) (by rw [HLL.out]; exact HI5.out) hLN5.out hRL.out hbw (by rw [HWL.out, HLL.out]; exact hown8) hgrow8
            have hrow : ∀ q, v.ownBlock = some q → b + 1 ≤ q := fun q hq => (World.ownsRow.lt HOut.out q hq).1
            have cb8 : w8.heap[b]? = some (.cells #[.int .i64 (l : Int), .int .i64 (R : Int), v] 25 (0, 0)) := by
              rw [hgrow8.block b (by simp; omega) (fun e => by have := hrow b e.symm; omega), Below.heap_alloc _ _ _ hbi]; exact HPi.out.bx
            have c8 := PG.cellA cb8 (i := 2) rfl
            have f8 := PG.freeA cb8 (i := 2)
            have hO8 : MC.Only p w (w8.setCell ⟨b, 2, none⟩ (.slice (some ⟨g8, 0, none⟩) (k + 1) d8)) := by
              have h1 : MC.Only p w w8 := (hOw.alloc _).grown hgrow8 (fun q hq => by have := hrow q hq; omega)
              exact ⟨h1.os, h1.tape, h1.output, by have := h1.size; simpa using this, fun q hq hp => (Below.heap_setCell _ _ _ _ (by show q ≠ b; omega)).trans (h1.block q hq hp)⟩
            have HC8 : Hid (MC.Cur (w8.setCell ⟨b, 2, none⟩ (.slice (some ⟨g8, 0, none⟩) (k + 1) d8)) p a zs cap (M + 8 + 10 * (k + 1))) := by
              have h1 : MC.Cur w8 p a zs cap (M + 8 + 10 * k + 2 * R) := (HCi.out.alloc _).grown hgrow8 (fun q hq => by have := hrow q hq; omega)
              exact (MC.Cur.same h1 (by simp) (fun q hq => Below.heap_setCell _ _ _ _ (by show q ≠ b; omega))).more (by omega)
            have HBX8 : Hid ((w8.setCell ⟨b, 2, none⟩ (.slice (some ⟨g8, 0, none⟩) (k + 1) d8)).heap[w.heap.size]? = some (.cells #[.int .i64 0, .int .i64 0, .slice none 0 0] 25 (0, 0))) := by
              show _ = _
              rw [Below.heap_setCell _ _ _ _ (by show w.heap.size ≠ b; omega), hgrow8.block w.heap.size (by simp; omega) (fun e => by have := hrow _ e.symm; omega), Below.heap_alloc _ _ _ (by omega)]; exact HBXi.out
            have HPS8 : Hid _ := hPS8
            clear hown8 hgrow8 hPS8 HPi HI5 HOut hRL HBXi HCi hOi hrow cb8 c2
            go_wp2
            go_roundw
            case rel => exact ⟨k + 1, (.slice (some ⟨g8, 0, none⟩) (k + 1) d8), ws ++ [L], _, _, by go_num, by omega, HPS8, HLw, HLt, HC8, hO8, HBX8⟩
            case measure => simp [intOf]; omega
      · obtain rfl : l = k := by omega
        obtain ⟨aF, cF, rfl, iF⟩ := HP.out.own.view
        have c1 := PG.cellA HP.out.bx (i := 1) rfl
        have c2 := PG.cellA HP.out.bx (i := 2) rfl
        have hrb := (Array.getElem?_eq_some_iff.1 HBX.out).1
        simp only [List.getElem_toArray, List.getElem_cons_zero, List.getElem_cons_succ] at c0 c1 c2
        rw [HW.out] at c2
        by_cases hz9 : l = 0
        · subst hz9
          have hE : PG.PE 25 27 b wr ((0 : Nat) : Int) R (.slice aF 0 cF) ws := by have := HP.out.made; rw [HW.out] at this; exact this
          have x0 := PG.cellA HBX.out (i := 0) rfl
          have x1 := PG.cellA HBX.out (i := 1) rfl
          have x2 := PG.cellA HBX.out (i := 2) rfl
          have z0 := PG.freeA HBX.out (i := 0)
          have z1 := PG.freeA HBX.out (i := 1)
          have z2 := PG.freeA HBX.out (i := 2)
          have onR := (((MC.Only.refl w.heap.size wr).setCell 0 (.int .i64 ((0 : Nat) : Int))).setCell 1 (.int .i64 (R : Int))).setCell 2 (.slice aF 0 cF)
          have hOz : MC.Only p w (((wr.setCell ⟨w.heap.size, 0, none⟩ (.int .i64 ((0 : Nat) : Int))).setCell ⟨w.heap.size, 1, none⟩ (.int .i64 (R : Int))).setCell ⟨w.heap.size, 2, none⟩ (.slice aF 0 cF)) := ⟨hO.os, hO.tape, hO.output, Nat.le_trans hO.size onR.size, fun q hq hp => (onR.block q (Nat.lt_of_lt_of_le hq hO.size) (by omega)).trans (hO.block q hq hp)⟩
          have HCz : Hid (MC.Cur _ p a zs cap (M + 300)) := (MC.Cur.same HC.out onR.size (fun q hq => onR.block q (by omega) (by omega))).more (by omega)
          have hEq := hE.only onR hbl
          obtain ⟨az, cz, hvz, -⟩ := hEq.view
          simp only [Value.slice.injEq] at hvz
          obtain ⟨-, hvl, -⟩ := hvz
          have IZ : Hid _ := hEq
          have HVL : Hid _ := hvl
          clear hEq hvl onR hE HP iF
          go_wp2
          exact bodyPost_ret (v := PG.pv 0 R (.slice aF 0 cF)) (by simp [results, Try.results43, go_sem, x0, x1, x2]) rfl ⟨0, R, aF, cF, ws, by rw [← HVL.out], ⟨by have := HW.out; omega, by have := HVL.out; omega, by omega, by omega⟩, by have := HT.out; omega, ⟨b, hbl, by rw [← HVL.out]; exact IZ.out⟩, HCz.out, hOz⟩
        · obtain ⟨g, rfl⟩ : ∃ g, aF = some ⟨g, 0, none⟩ := by
            rcases HP.out.own.out.2 with ⟨h', h0⟩ | ⟨g, cap', cur, hv, _⟩
            · have := HW.out; omega
            · cases hv; exact ⟨g, rfl⟩
          have hlp : (0 : Int) < (l : Int) := by omega
          have ONE : Hid _ := one_any p a zs cap _ 30 _ hz (by omega) HC.out
          go_wp2_with fail
          refine Calls.mono ONE.out ?_
          rintro e w7 ⟨b7, rfl, hc7, ho7⟩
          clear ONE
          have hP7 := HP.out.only ho7 hpb
          have hO7 := hO.trans ho7
          have HBX7 : Hid _ := (ho7.block w.heap.size hrb (by omega)).trans HBX.out
          have HC7 : Hid (MC.Cur w7 p a zs cap (M + 8 + 10 * l + 2)) := hc7
          have hb7w := hP7.lt
          clear HP hO HBX HC hc7 ho7 c0 c1 c2 iF hbw hrb
          have c0 := PG.cellA hP7.bx (i := 0) rfl
          have c1 := PG.cellA hP7.bx (i := 1) rfl
          have c2 := PG.cellA hP7.bx (i := 2) rfl
          simp only [List.getElem_toArray, List.getElem_cons_zero, List.getElem_cons_succ] at c0 c1 c2
          rw [HW.out] at c2
          have hP8 : PG.PS 25 27 b w7 l R (.slice (some ⟨g, 0, none⟩) l cF) ws A C := by have := hP7; rw [HW.out] at this; exact this
          clear hP7
          cases b7
          · have hE := hP8.made
            have x0 := PG.cellA HBX7.out (i := 0) rfl
            have x1 := PG.cellA HBX7.out (i := 1) rfl
            have x2 := PG.cellA HBX7.out (i := 2) rfl
            have z0 := PG.freeA HBX7.out (i := 0)
            have z1 := PG.freeA HBX7.out (i := 1)
            have z2 := PG.freeA HBX7.out (i := 2)
            have onR := (((MC.Only.refl w.heap.size w7).setCell 0 (.int .i64 (l : Int))).setCell 1 (.int .i64 (R : Int))).setCell 2 (.slice (some ⟨g, 0, none⟩) l cF)
            have hOz : MC.Only p w (((w7.setCell ⟨w.heap.size, 0, none⟩ (.int .i64 (l : Int))).setCell ⟨w.heap.size, 1, none⟩ (.int .i64 (R : Int))).setCell ⟨w.heap.size, 2, none⟩ (.slice (some ⟨g, 0, none⟩) l cF)) := ⟨hO7.os, hO7.tape, hO7.output, Nat.le_trans hO7.size onR.size, fun q hq hp => (onR.block q (Nat.lt_of_lt_of_le hq hO7.size) (by omega)).trans (hO7.block q hq hp)⟩
            have HCz : Hid (MC.Cur _ p a zs cap (M + 300)) := (MC.Cur.same HC7.out onR.size (fun q hq => onR.block q (by omega) (by omega))).more (by omega)
            have hEq := hE.only onR hbl
            obtain ⟨az, cz, hvz, -⟩ := hEq.view
            simp only [Value.slice.injEq] at hvz
            obtain ⟨-, hvl, -⟩ := hvz
            have IZ : Hid _ := hEq
            have HVL : Hid _ := hvl
            clear hEq hvl onR hE hP8
            go_wp2
            exact bodyPost_ret (v := PG.pv l R (.slice (some ⟨g, 0, none⟩) l cF)) (by simp [results, Try.results43, go_sem, x0, x1, x2]) rfl ⟨l, R, (some ⟨g, 0, none⟩), cF, ws, by rw [← HVL.out], ⟨by have := HW.out; omega, by have := HVL.out; omega, by omega, by omega⟩, by have := HT.out; omega, ⟨b, hbl, by rw [← HVL.out]; exact IZ.out⟩, HCz.out, hOz⟩
          · have hr0 := hP8.r0 (by intro e; have := HW.out; rw [e] at this; exact hz9 this.symm)
            have hout : w7.ownsRow (b + 1) 27 1 (.slice (some ⟨g, 0, none⟩) l cF) l (NR.hd ws A C) := by have := hP8.own.out; rw [HW.out] at this; exact this
            have hwp : 0 < ws.length := by rw [HW.out]; omega
            have hcel := hout.cellAt 0 (by rw [Nat.mul_one]; omega)
            rw [NR.hd_get ws A C hwp] at hcel
            have hfz := hout.frozenAt 0
            have hgl := hout.lt g rfl
            have hl1 : (0 : Int) < (l : Int) := by omega
            obtain ⟨row, hrow0⟩ : ∃ row, NR.rw_ ws 0 = row := ⟨_, rfl⟩
            have hTop := fun {w6 : World} {a' : Option Addr} {c' : Nat} {x : Int} {o : Obj} {W7 : World} (hp : PG.PS 25 27 b W7 l R (.slice (some ⟨g, 0, none⟩) l cF) ws A C) ho hg => hp.top (by decide) hwp (w6 := w6) (a' := a') (c' := c') (x := x) (o := o) ho hg
            rw [hrow0] at hr0 hcel hTop
            have hrl : row.length ≤ 100 := by have h1 := NR.tot_row ws hwp; have h2 := HT.out; rw [hrow0] at h1; omega
            have HTop : Hid _ := @hTop
            have HR0 : Hid _ := hrow0
            have HP8 : Hid _ := hP8
            have HOut : Hid _ := hout
            have Hr0 : Hid _ := hr0.1
            have hA0 := hr0.2
            clear hTop hrow0 hP8 hout hr0
            generalize hA : A 0 = a0 at *
            generalize hC : C 0 = c00 at *
            clear hA hC hA0
            go_wp2
            refine MR.frame fun A_ hA => ?_
            have hsz : A_.tmps.size = 64 := by rw [hA]; rfl
            have e0 : A_.eval (.tmp 0) = .pointer (some ⟨p, 0, none⟩) := by rw [hA]; rfl
            have f0 := MR.read (t := 0) (by rw [hsz]; decide) e0
            have e3 : A_.eval (.tmp 3) = .pointer (some ⟨b, 0, none⟩) := by rw [hA]; rfl
            have f3 := MR.read (t := 3) (by rw [hsz]; decide) e3
            have HA : Hid (A_ = _) := hA
            clear hA
            refine MR.cut (fun aa w' => ∃ (x : Int) (g2 : Nat) (v9 : Value), aa = (((((((((((A_.put (some 52) (.pointer (some ⟨b, 2, none⟩))).put (some 53) (.slice (some ⟨g, 0, none⟩) l cF)).put (some 54) (.pointer (some ⟨b, 2, none⟩))).put (some 55) (.slice (some ⟨g, 0, none⟩) l cF)).put (some 56) (.pointer (some ⟨g, 0, none⟩))).put (some 57) (.slice a0 row.length c00)).put (some 58) (.pointer (some ⟨p, 0, none⟩))).put (some 59) (.int .i64 x)).put (some 60) (.slice (some ⟨g2, 0, none⟩) 1 1)).put (some 61) (v9)).put (some 62) (.pointer (some ⟨g, 0, none⟩))) ∧ Hid (PG.PE 25 27 b w' l R (.slice (some ⟨g, 0, none⟩) l cF) (ws.set 0 (row ++ [x])) ∧ MC.Only p w w' ∧ MC.Cur w' p a zs cap (M + 8 + 10 * l + 4) ∧ w'.heap[w.heap.size]? = some (.cells #[.int .i64 0, .int .i64 0, .slice none 0 0] 25 (0, 0)))) ?_ ?_
            · have hS : (fun wq : World => wq.cell? ⟨b, 2, none⟩ = some (.slice (some ⟨g, 0, none⟩) l cF)) (World.drew _) := c2
              refine wp_region_held (S := fun wq : World => wq.cell? ⟨b, 2, none⟩ = some (.slice (some ⟨g, 0, none⟩) l cF)) (by kernel_rfl) ?_
              change wpAnyH _ _ _ _ _ _ _ _ (World.drew _)
              refine MR.takeH (i := 0) (some 52) (.pointer (some ⟨b, 2, none⟩)) rfl rfl (by kernel_rfl) (by kernel_rfl) (by kernel_rfl) nofun hS (MR.free rfl) (fun wq hw => by simp [execOp, MR.ev, MR.size, hsz, e0, f0, e3, f3, go_sem]) ?_
              refine MR.takeH (i := 1) (some 53) (.slice (some ⟨g, 0, none⟩) l cF) rfl rfl (by kernel_rfl) (by kernel_rfl) (by kernel_rfl) nofun hS (MR.free rfl) (fun wq hw => by simp [execOp, MR.ev, MR.size, hsz, e0, f0, e3, f3, hw, go_sem]) ?_
              refine MR.takeH (i := 2) (some 54) (.pointer (some ⟨b, 2, none⟩)) rfl rfl (by kernel_rfl) (by kernel_rfl) (by kernel_rfl) nofun hS (MR.free rfl) (fun wq hw => by simp [execOp, MR.ev, MR.size, hsz, e0, f0, e3, f3, go_sem]) ?_
              refine MR.takeH (i := 3) (some 55) (.slice (some ⟨g, 0, none⟩) l cF) rfl rfl (by kernel_rfl) (by kernel_rfl) (by kernel_rfl) nofun hS (MR.free rfl) (fun wq hw => by simp [execOp, MR.ev, MR.size, hsz, e0, f0, e3, f3, hw, go_sem]) ?_
              refine MR.takeH (i := 4) (some 56) (.pointer (some ⟨g, 0, none⟩)) rfl rfl (by kernel_rfl) (by kernel_rfl) (by kernel_rfl) nofun hS (MR.free rfl) (fun wq hw => by simp [execOp, MR.ev, MR.size, hsz, e0, f0, e3, f3, hl1, hz9, Addr.add, go_sem]) ?_
              refine MR.takeH (i := 6) (some 58) (.pointer (some ⟨p, 0, none⟩)) rfl rfl (by kernel_rfl) (by kernel_rfl) (by kernel_rfl) nofun hS (MR.free rfl) (fun wq hw => by simp [execOp, MR.ev, MR.size, hsz, e0, f0, e3, f3, go_sem]) ?_
              refine MR.two (i := 5) (j := 7) (by kernel_rfl) ?_ ?_
              · refine MR.nowW (w' := World.drew w7) (some 57) (.slice a0 row.length c00) rfl rfl (MR.free rfl) (by simp [execOp, MR.ev, MR.size, hsz, e0, f0, e3, f3, hcel, go_sem]) ⟨hS, ?_⟩
                refine MR.callH (i := 7) (some 59) (52) (#[.pointer (some ⟨p, 0, none⟩), .int .i64 9]) (by kernel_rfl) rfl rfl (MR.free rfl) (by simp [execOp, MR.ev, MR.size, hsz, e0, f0, e3, f3, go_sem]) ?_
                refine (pick_any p a zs cap _ 9 _ hz (by omega) (HC7.out.below (Below.refl _ w7).drew)).mono ?_
                rintro e w8 ⟨x8, rfl, _, _, hc8, ho8'⟩
                have ho8 : MC.Only p w7 w8 := (MC.Only.of_below (Below.refl _ w7).drew).trans ho8'
                have hP8' := HP8.out.only ho8 hpb
                have hcel8 := (ho8.cell (x := ⟨g, 0, none⟩) hgl.2 (by show g ≠ p; omega)).trans hcel
                have hS8 : (fun wq : World => wq.cell? ⟨b, 2, none⟩ = some (.slice (some ⟨g, 0, none⟩) l cF)) w8 := (ho8.cell (x := ⟨b, 2, none⟩) hb7w (by show b ≠ p; omega)).trans c2
                have hr8 := MC.own_only Hr0.out ho8 (by omega)
                have hO8 := hO7.trans ho8
                have hs8 := ho8.size
                have hbx8 := (ho8.block w.heap.size (Array.getElem?_eq_some_iff.1 HBX7.out).1 (by omega)).trans HBX7.out
                refine ⟨_, rfl, hS8, ?_⟩
                refine MR.nowH (w' := w8.alloc (.cells #[.int .i64 (x8 : Int)] 3)) (i := 8) (some 60) (.slice (some ⟨w8.heap.size, 0, none⟩) 1 1) (by kernel_rfl) rfl rfl (MR.free rfl) (by simp [execOp, MR.ev, MR.size, hsz, e0, f0, e3, f3, go_sem]) ⟨(World.cell?_alloc_lt _ _ _ (by show b < _; omega)).trans hS8, ?_⟩
                obtain ⟨v9, w9, hrun, hown9, hgrow9, _, _⟩ := run_append_own_at (P := Try.prog) (w8.alloc (.cells #[.int .i64 (x8 : Int)] 3)) (b + 1) 27 27 3 i0 (.int .i64 0) 1 8 Try.underlying27 hi hz0 hz1 hz2 rfl (by decide) (.slice a0 row.length c00) row.length (M4.iv row) (World.ownsRow.alloc hr8 _) ⟨w8.heap.size, 0, none⟩ 1 1 [.int .i64 (x8 : Int)] rfl (M2.new1 _ _ _) (M2.one1 _ _) (by unfold maxLen; omega) (by omega) (by simp; omega)
                obtain ⟨a9, c9, rfl⟩ : ∃ a9 c9, v9 = .slice a9 (row.length + 1) c9 := by
                  rcases hown9.2 with ⟨_, h'⟩ | ⟨gg, cap', cur, rfl, _⟩
                  · omega
                  · exact ⟨_, cap', rfl⟩
                have hrw : ∀ q, (Value.slice a0 row.length c00).ownBlock = some q → b + 1 ≤ q := fun q hq => (World.ownsRow.lt hr8 q hq).1
                have hS9 : (fun wq : World => wq.cell? ⟨b, 2, none⟩ = some (.slice (some ⟨g, 0, none⟩) l cF)) w9 := by
                  show _ = _
                  rw [World.cell?_of_block (w := w8.alloc (.cells #[.int .i64 (x8 : Int)] 3)) (a := ⟨b, 2, none⟩) (hgrow9.block b (by simp; omega) (fun e => by have := hrw b e.symm; omega)), World.cell?_alloc_lt _ _ _ (by show b < _; omega)]; exact hS8
                have hout9 : w9.ownsRow (b + 1) 27 1 (.slice (some ⟨g, 0, none⟩) l cF) l (NR.hd ws A C) := PG.own_grown (World.ownsRow.alloc (MC.own_only HOut.out ho8 (by omega)) _) hgrow9 (fun q hq e => PG.own_ne (by decide) hr8 (MC.own_only HOut.out ho8 (by omega)) q e hq)
                have hcel9 : ∃ u, w9.cell? ⟨g, 0, none⟩ = some u := by
                  rw [hout9.cellAt 0 (by rw [Nat.mul_one]; omega), NR.hd_get ws A C hwp]; exact ⟨_, rfl⟩
                obtain ⟨u9, hcel9⟩ := hcel9
                have hfz9 := hout9.frozenAt 0
                refine MR.nowH (w' := w9) (i := 9) (some 61) (.slice a9 (row.length + 1) c9) (by kernel_rfl) rfl rfl (MR.free rfl) (RA.app_run rfl (by simp [MR.ev, MR.size, hsz, e0, f0, e3, f3]) (by simp [MR.ev, MR.size, hsz, e0, f0, e3, f3]) hrun) ⟨hS9, ?_⟩
                refine MR.takeH (i := 10) (some 62) (.pointer (some ⟨g, 0, none⟩)) rfl rfl (by kernel_rfl) (by kernel_rfl) (by kernel_rfl) nofun hS9 (MR.free rfl) (fun wq hw => by simp [execOp, MR.ev, MR.size, hsz, e0, f0, e3, f3, hl1, hz9, Addr.add, go_sem]) ?_
                have hE9 := HTop.out hP8' hown9 hgrow9
                have on9 := (MC.Only.refl g w9).setCell 0 (.slice a9 (row.length + 1) c9)
                have hO9' : MC.Only p w w9 := (hO8.alloc _).grown hgrow9 (fun q hq => by have := hrw q hq; omega)
                have hO9 : MC.Only p w (w9.setCell ⟨g, 0, none⟩ (.slice a9 (row.length + 1) c9)) := ⟨hO9'.os, hO9'.tape, hO9'.output, Nat.le_trans hO9'.size on9.size, fun q hq hp => (on9.block q (Nat.lt_of_lt_of_le hq hO9'.size) (by omega)).trans (hO9'.block q hq hp)⟩
                have hc9' : MC.Cur w9 p a zs cap (M + 8 + 10 * l + 4) := (MC.Cur.alloc hc8 _).grown hgrow9 (fun q hq => by have := hrw q hq; omega)
                have hc9 : MC.Cur (w9.setCell ⟨g, 0, none⟩ (.slice a9 (row.length + 1) c9)) p a zs cap (M + 8 + 10 * l + 4) := MC.Cur.same hc9' on9.size (fun q hq => Below.heap_setCell _ _ _ _ (by show q ≠ g; omega))
                have hbx9 : (w9.setCell ⟨g, 0, none⟩ (.slice a9 (row.length + 1) c9)).heap[w.heap.size]? = some (.cells #[.int .i64 0, .int .i64 0, .slice none 0 0] 25 (0, 0)) := by
                  rw [Below.heap_setCell _ _ _ _ (by show w.heap.size ≠ g; omega), hgrow9.block w.heap.size (by simp; omega) (fun e => by have := hrw _ e.symm; omega), Below.heap_alloc _ _ _ (by omega)]; exact hbx8
                have hSz : (fun wq : World => wq.cell? ⟨b, 2, none⟩ = some (.slice (some ⟨g, 0, none⟩) l cF)) (w9.setCell ⟨g, 0, none⟩ (.slice a9 (row.length + 1) c9)) := (World.cell?_of_block (w := w9) (a := ⟨b, 2, none⟩) (Below.heap_setCell _ _ _ _ (by show b ≠ g; omega))).trans hS9
                refine MR.storeH (w' := w9.setCell ⟨g, 0, none⟩ (.slice a9 (row.length + 1) c9)) (i := 11) (by kernel_rfl) rfl (MR.free rfl) (by simp [execOp, MR.ev, MR.size, hsz, e0, f0, e3, f3, hcel9, hfz9, go_sem]) ⟨hSz, ?_⟩
                refine wpAnyH_done (by kernel_rfl) ⟨rfl, x8, w8.heap.size, .slice a9 (row.length + 1) c9, ?_, ⟨hE9, hO9, hc9, hbx9⟩⟩ _
                rw [HA.out]
                simp only [Act.put, List.setIfInBounds_toArray, List.set_cons_succ, List.set_cons_zero]
                try rfl
              · refine MR.callW (some 59) (52) (#[.pointer (some ⟨p, 0, none⟩), .int .i64 9]) rfl rfl (MR.free rfl) (by simp [execOp, MR.ev, MR.size, hsz, e0, f0, e3, f3, go_sem]) ?_
                refine (pick_any p a zs cap _ 9 _ hz (by omega) (HC7.out.below (Below.refl _ w7).drew)).mono ?_
                rintro e w8 ⟨x8, rfl, _, _, hc8, ho8'⟩
                have ho8 : MC.Only p w7 w8 := (MC.Only.of_below (Below.refl _ w7).drew).trans ho8'
                have hP8' := HP8.out.only ho8 hpb
                have hcel8 := (ho8.cell (x := ⟨g, 0, none⟩) hgl.2 (by show g ≠ p; omega)).trans hcel
                have hS8 : (fun wq : World => wq.cell? ⟨b, 2, none⟩ = some (.slice (some ⟨g, 0, none⟩) l cF)) w8 := (ho8.cell (x := ⟨b, 2, none⟩) hb7w (by show b ≠ p; omega)).trans c2
                have hr8 := MC.own_only Hr0.out ho8 (by omega)
                have hO8 := hO7.trans ho8
                have hs8 := ho8.size
                have hbx8 := (ho8.block w.heap.size (Array.getElem?_eq_some_iff.1 HBX7.out).1 (by omega)).trans HBX7.out
                refine ⟨_, rfl, hS8, ?_⟩
                refine MR.two (i := 5) (j := 8) (by kernel_rfl) ?_ ?_
                · refine MR.nowW (w' := w8) (some 57) (.slice a0 row.length c00) rfl rfl (MR.free rfl) (by simp [execOp, MR.ev, MR.size, hsz, e0, f0, e3, f3, hcel8, go_sem]) ⟨hS8, ?_⟩
                  refine MR.nowH (w' := w8.alloc (.cells #[.int .i64 (x8 : Int)] 3)) (i := 8) (some 60) (.slice (some ⟨w8.heap.size, 0, none⟩) 1 1) (by kernel_rfl) rfl rfl (MR.free rfl) (by simp [execOp, MR.ev, MR.size, hsz, e0, f0, e3, f3, go_sem]) ⟨(World.cell?_alloc_lt _ _ _ (by show b < _; omega)).trans hS8, ?_⟩
                  obtain ⟨v9, w9, hrun, hown9, hgrow9, _, _⟩ := run_append_own_at (P := Try.prog) (w8.alloc (.cells #[.int .i64 (x8 : Int)] 3)) (b + 1) 27 27 3 i0 (.int .i64 0) 1 8 Try.underlying27 hi hz0 hz1 hz2 rfl (by decide) (.slice a0 row.length c00) row.length (M4.iv row) (World.ownsRow.alloc hr8 _) ⟨w8.heap.size, 0, none⟩ 1 1 [.int .i64 (x8 : Int)] rfl (M2.new1 _ _ _) (M2.one1 _ _) (by unfold maxLen; omega) (by omega) (by simp; omega)
                  obtain ⟨a9, c9, rfl⟩ : ∃ a9 c9, v9 = .slice a9 (row.length + 1) c9 := by
                    rcases hown9.2 with ⟨_, h'⟩ | ⟨gg, cap', cur, rfl, _⟩
                    · omega
                    · exact ⟨_, cap', rfl⟩
                  have hrw : ∀ q, (Value.slice a0 row.length c00).ownBlock = some q → b + 1 ≤ q := fun q hq => (World.ownsRow.lt hr8 q hq).1
                  have hS9 : (fun wq : World => wq.cell? ⟨b, 2, none⟩ = some (.slice (some ⟨g, 0, none⟩) l cF)) w9 := by
                    show _ = _
                    rw [World.cell?_of_block (w := w8.alloc (.cells #[.int .i64 (x8 : Int)] 3)) (a := ⟨b, 2, none⟩) (hgrow9.block b (by simp; omega) (fun e => by have := hrw b e.symm; omega)), World.cell?_alloc_lt _ _ _ (by show b < _; omega)]; exact hS8
                  have hout9 : w9.ownsRow (b + 1) 27 1 (.slice (some ⟨g, 0, none⟩) l cF) l (NR.hd ws A C) := PG.own_grown (World.ownsRow.alloc (MC.own_only HOut.out ho8 (by omega)) _) hgrow9 (fun q hq e => PG.own_ne (by decide) hr8 (MC.own_only HOut.out ho8 (by omega)) q e hq)
                  have hcel9 : ∃ u, w9.cell? ⟨g, 0, none⟩ = some u := by
                    rw [hout9.cellAt 0 (by rw [Nat.mul_one]; omega), NR.hd_get ws A C hwp]; exact ⟨_, rfl⟩
                  obtain ⟨u9, hcel9⟩ := hcel9
                  have hfz9 := hout9.frozenAt 0
                  refine MR.nowH (w' := w9) (i := 9) (some 61) (.slice a9 (row.length + 1) c9) (by kernel_rfl) rfl rfl (MR.free rfl) (RA.app_run rfl (by simp [MR.ev, MR.size, hsz, e0, f0, e3, f3]) (by simp [MR.ev, MR.size, hsz, e0, f0, e3, f3]) hrun) ⟨hS9, ?_⟩
                  refine MR.takeH (i := 10) (some 62) (.pointer (some ⟨g, 0, none⟩)) rfl rfl (by kernel_rfl) (by kernel_rfl) (by kernel_rfl) nofun hS9 (MR.free rfl) (fun wq hw => by simp [execOp, MR.ev, MR.size, hsz, e0, f0, e3, f3, hl1, hz9, Addr.add, go_sem]) ?_
                  have hE9 := HTop.out hP8' hown9 hgrow9
                  have on9 := (MC.Only.refl g w9).setCell 0 (.slice a9 (row.length + 1) c9)
                  have hO9' : MC.Only p w w9 := (hO8.alloc _).grown hgrow9 (fun q hq => by have := hrw q hq; omega)
                  have hO9 : MC.Only p w (w9.setCell ⟨g, 0, none⟩ (.slice a9 (row.length + 1) c9)) := ⟨hO9'.os, hO9'.tape, hO9'.output, Nat.le_trans hO9'.size on9.size, fun q hq hp => (on9.block q (Nat.lt_of_lt_of_le hq hO9'.size) (by omega)).trans (hO9'.block q hq hp)⟩
                  have hc9' : MC.Cur w9 p a zs cap (M + 8 + 10 * l + 4) := (MC.Cur.alloc hc8 _).grown hgrow9 (fun q hq => by have := hrw q hq; omega)
                  have hc9 : MC.Cur (w9.setCell ⟨g, 0, none⟩ (.slice a9 (row.length + 1) c9)) p a zs cap (M + 8 + 10 * l + 4) := MC.Cur.same hc9' on9.size (fun q hq => Below.heap_setCell _ _ _ _ (by show q ≠ g; omega))
                  have hbx9 : (w9.setCell ⟨g, 0, none⟩ (.slice a9 (row.length + 1) c9)).heap[w.heap.size]? = some (.cells #[.int .i64 0, .int .i64 0, .slice none 0 0] 25 (0, 0)) := by
                    rw [Below.heap_setCell _ _ _ _ (by show w.heap.size ≠ g; omega), hgrow9.block w.heap.size (by simp; omega) (fun e => by have := hrw _ e.symm; omega), Below.heap_alloc _ _ _ (by omega)]; exact hbx8
                  have hSz : (fun wq : World => wq.cell? ⟨b, 2, none⟩ = some (.slice (some ⟨g, 0, none⟩) l cF)) (w9.setCell ⟨g, 0, none⟩ (.slice a9 (row.length + 1) c9)) := (World.cell?_of_block (w := w9) (a := ⟨b, 2, none⟩) (Below.heap_setCell _ _ _ _ (by show b ≠ g; omega))).trans hS9
                  refine MR.storeH (w' := w9.setCell ⟨g, 0, none⟩ (.slice a9 (row.length + 1) c9)) (i := 11) (by kernel_rfl) rfl (MR.free rfl) (by simp [execOp, MR.ev, MR.size, hsz, e0, f0, e3, f3, hcel9, hfz9, go_sem]) ⟨hSz, ?_⟩
                  refine wpAnyH_done (by kernel_rfl) ⟨rfl, x8, w8.heap.size, .slice a9 (row.length + 1) c9, ?_, ⟨hE9, hO9, hc9, hbx9⟩⟩ _
                  rw [HA.out]
                  simp only [Act.put, List.setIfInBounds_toArray, List.set_cons_succ, List.set_cons_zero]
                  try rfl
                · refine MR.nowW (w' := w8.alloc (.cells #[.int .i64 (x8 : Int)] 3)) (some 60) (.slice (some ⟨w8.heap.size, 0, none⟩) 1 1) rfl rfl (MR.free rfl) (by simp [execOp, MR.ev, MR.size, hsz, e0, f0, e3, f3, go_sem]) ⟨(World.cell?_alloc_lt _ _ _ (by show b < _; omega)).trans hS8, ?_⟩
                  have hcel8a := (World.cell?_alloc_lt w8 (.cells #[.int .i64 (x8 : Int)] 3) ⟨g, 0, none⟩ (by show g < _; omega)).trans hcel8
                  refine MR.nowH (w' := w8.alloc (.cells #[.int .i64 (x8 : Int)] 3)) (i := 5) (some 57) (.slice a0 row.length c00) (by kernel_rfl) rfl rfl (MR.free rfl) (by simp [execOp, MR.ev, MR.size, hsz, e0, f0, e3, f3, hcel8a, go_sem]) ⟨(World.cell?_alloc_lt _ _ _ (by show b < _; omega)).trans hS8, ?_⟩
                  obtain ⟨v9, w9, hrun, hown9, hgrow9, _, _⟩ := run_append_own_at (P := Try.prog) (w8.alloc (.cells #[.int .i64 (x8 : Int)] 3)) (b + 1) 27 27 3 i0 (.int .i64 0) 1 8 Try.underlying27 hi hz0 hz1 hz2 rfl (by decide) (.slice a0 row.length c00) row.length (M4.iv row) (World.ownsRow.alloc hr8 _) ⟨w8.heap.size, 0, none⟩ 1 1 [.int .i64 (x8 : Int)] rfl (M2.new1 _ _ _) (M2.one1 _ _) (by unfold maxLen; omega) (by omega) (by simp; omega)
                  obtain ⟨a9, c9, rfl⟩ : ∃ a9 c9, v9 = .slice a9 (row.length + 1) c9 := by
                    rcases hown9.2 with ⟨_, h'⟩ | ⟨gg, cap', cur, rfl, _⟩
                    · omega
                    · exact ⟨_, cap', rfl⟩
                  have hrw : ∀ q, (Value.slice a0 row.length c00).ownBlock = some q → b + 1 ≤ q := fun q hq => (World.ownsRow.lt hr8 q hq).1
                  have hS9 : (fun wq : World => wq.cell? ⟨b, 2, none⟩ = some (.slice (some ⟨g, 0, none⟩) l cF)) w9 := by
                    show _ = _
                    rw [World.cell?_of_block (w := w8.alloc (.cells #[.int .i64 (x8 : Int)] 3)) (a := ⟨b, 2, none⟩) (hgrow9.block b (by simp; omega) (fun e => by have := hrw b e.symm; omega)), World.cell?_alloc_lt _ _ _ (by show b < _; omega)]; exact hS8
                  have hout9 : w9.ownsRow (b + 1) 27 1 (.slice (some ⟨g, 0, none⟩) l cF) l (NR.hd ws A C) := PG.own_grown (World.ownsRow.alloc (MC.own_only HOut.out ho8 (by omega)) _) hgrow9 (fun q hq e => PG.own_ne (by decide) hr8 (MC.own_only HOut.out ho8 (by omega)) q e hq)
                  have hcel9 : ∃ u, w9.cell? ⟨g, 0, none⟩ = some u := by
                    rw [hout9.cellAt 0 (by rw [Nat.mul_one]; omega), NR.hd_get ws A C hwp]; exact ⟨_, rfl⟩
                  obtain ⟨u9, hcel9⟩ := hcel9
                  have hfz9 := hout9.frozenAt 0
                  refine MR.nowH (w' := w9) (i := 9) (some 61) (.slice a9 (row.length + 1) c9) (by kernel_rfl) rfl rfl (MR.free rfl) (RA.app_run rfl (by simp [MR.ev, MR.size, hsz, e0, f0, e3, f3]) (by simp [MR.ev, MR.size, hsz, e0, f0, e3, f3]) hrun) ⟨hS9, ?_⟩
                  refine MR.takeH (i := 10) (some 62) (.pointer (some ⟨g, 0, none⟩)) rfl rfl (by kernel_rfl) (by kernel_rfl) (by kernel_rfl) nofun hS9 (MR.free rfl) (fun wq hw => by simp [execOp, MR.ev, MR.size, hsz, e0, f0, e3, f3, hl1, hz9, Addr.add, go_sem]) ?_
                  have hE9 := HTop.out hP8' hown9 hgrow9
                  have on9 := (MC.Only.refl g w9).setCell 0 (.slice a9 (row.length + 1) c9)
                  have hO9' : MC.Only p w w9 := (hO8.alloc _).grown hgrow9 (fun q hq => by have := hrw q hq; omega)
                  have hO9 : MC.Only p w (w9.setCell ⟨g, 0, none⟩ (.slice a9 (row.length + 1) c9)) := ⟨hO9'.os, hO9'.tape, hO9'.output, Nat.le_trans hO9'.size on9.size, fun q hq hp => (on9.block q (Nat.lt_of_lt_of_le hq hO9'.size) (by omega)).trans (hO9'.block q hq hp)⟩
                  have hc9' : MC.Cur w9 p a zs cap (M + 8 + 10 * l + 4) := (MC.Cur.alloc hc8 _).grown hgrow9 (fun q hq => by have := hrw q hq; omega)
                  have hc9 : MC.Cur (w9.setCell ⟨g, 0, none⟩ (.slice a9 (row.length + 1) c9)) p a zs cap (M + 8 + 10 * l + 4) := MC.Cur.same hc9' on9.size (fun q hq => Below.heap_setCell _ _ _ _ (by show q ≠ g; omega))
                  have hbx9 : (w9.setCell ⟨g, 0, none⟩ (.slice a9 (row.length + 1) c9)).heap[w.heap.size]? = some (.cells #[.int .i64 0, .int .i64 0, .slice none 0 0] 25 (0, 0)) := by
                    rw [Below.heap_setCell _ _ _ _ (by show w.heap.size ≠ g; omega), hgrow9.block w.heap.size (by simp; omega) (fun e => by have := hrw _ e.symm; omega), Below.heap_alloc _ _ _ (by omega)]; exact hbx8
                  have hSz : (fun wq : World => wq.cell? ⟨b, 2, none⟩ = some (.slice (some ⟨g, 0, none⟩) l cF)) (w9.setCell ⟨g, 0, none⟩ (.slice a9 (row.length + 1) c9)) := (World.cell?_of_block (w := w9) (a := ⟨b, 2, none⟩) (Below.heap_setCell _ _ _ _ (by show b ≠ g; omega))).trans hS9
                  refine MR.storeH (w' := w9.setCell ⟨g, 0, none⟩ (.slice a9 (row.length + 1) c9)) (i := 11) (by kernel_rfl) rfl (MR.free rfl) (by simp [execOp, MR.ev, MR.size, hsz, e0, f0, e3, f3, hcel9, hfz9, go_sem]) ⟨hSz, ?_⟩
                  refine wpAnyH_done (by kernel_rfl) ⟨rfl, x8, w8.heap.size, .slice a9 (row.length + 1) c9, ?_, ⟨hE9, hO9, hc9, hbx9⟩⟩ _
                  rw [HA.out]
                  simp only [Act.put, List.setIfInBounds_toArray, List.set_cons_succ, List.set_cons_zero]
                  try rfl
            rintro aa w10 ⟨x, g2, v9, rfl, hf⟩
            obtain ⟨hE9, hO9, hc9, hbx9⟩ := hf.out
            rw [HA.out]
            have HBX9 : Hid _ := hbx9
            have HC9 : Hid _ := hc9
            have d0 := PG.cellA hE9.bx (i := 0) rfl
            have d1 := PG.cellA hE9.bx (i := 1) rfl
            have d2 := PG.cellA hE9.bx (i := 2) rfl
            simp only [List.getElem_toArray, List.getElem_cons_zero, List.getElem_cons_succ] at d0 d1 d2
            have hb9w := (Array.getElem?_eq_some_iff.1 hE9.bx).1
            have HLN : Hid ((ws.set 0 (row ++ [x])).length ≤ 9) := by show _ ≤ _; rw [List.length_set, HW.out]; exact hl9
            have HTT : Hid (NR.tot (ws.set 0 (row ++ [x])) ≤ 100) := by show _ ≤ _; have := PG.tot_set ws (row ++ [x]) hwp; have h2 := HT.out; rw [HR0.out] at this; simp only [List.length_append, List.length_singleton] at this; omega
            clear HA e0 f0 e3 f3 hsz hf c0 c1 c2 hcel hfz HP8 HOut Hr0 HTop HBX7 HC7 hO7 hbx9 hc9
            simp only [Act.put, List.setIfInBounds_toArray, List.set_cons_succ, List.set_cons_zero]
            have hE := hE9
            have x0 := PG.cellA HBX9.out (i := 0) rfl
            have x1 := PG.cellA HBX9.out (i := 1) rfl
            have x2 := PG.cellA HBX9.out (i := 2) rfl
            have z0 := PG.freeA HBX9.out (i := 0)
            have z1 := PG.freeA HBX9.out (i := 1)
            have z2 := PG.freeA HBX9.out (i := 2)
            have onR := (((MC.Only.refl w.heap.size w10).setCell 0 (.int .i64 (l : Int))).setCell 1 (.int .i64 (R : Int))).setCell 2 (.slice (some ⟨g, 0, none⟩) l cF)
            have hOz : MC.Only p w (((w10.setCell ⟨w.heap.size, 0, none⟩ (.int .i64 (l : Int))).setCell ⟨w.heap.size, 1, none⟩ (.int .i64 (R : Int))).setCell ⟨w.heap.size, 2, none⟩ (.slice (some ⟨g, 0, none⟩) l cF)) := ⟨hO9.os, hO9.tape, hO9.output, Nat.le_trans hO9.size onR.size, fun q hq hp => (onR.block q (Nat.lt_of_lt_of_le hq hO9.size) (by omega)).trans (hO9.block q hq hp)⟩
            have HCz : Hid (MC.Cur _ p a zs cap (M + 300)) := (MC.Cur.same HC9.out onR.size (fun q hq => onR.block q (by omega) (by omega))).more (by omega)
            have hEq := hE.only onR hbl
            obtain ⟨az, cz, hvz, -⟩ := hEq.view
            simp only [Value.slice.injEq] at hvz
            obtain ⟨-, hvl, -⟩ := hvz
            have IZ : Hid _ := hEq
            have HVL : Hid _ := hvl
            clear hEq hvl onR hE hE9
            go_wp2
            exact bodyPost_ret (v := PG.pv l R (.slice (some ⟨g, 0, none⟩) l cF)) (by simp [results, Try.results43, go_sem, x0, x1, x2]) rfl ⟨l, R, (some ⟨g, 0, none⟩), cF, (ws.set 0 (row ++ [x])), by rw [← HVL.out], ⟨HLN.out, by have := HVL.out; omega, by omega, by omega⟩, HTT.out, ⟨b, hbl, by rw [← HVL.out]; exact IZ.out⟩, HCz.out, hOz⟩
end Go.Proofs.Ytjfnmhkhjaafkaa

/- A new cursor, over whatever program. -/
namespace Go.Proofs.Ytjfnmhkhjaafkaa
open Go.RowKit
/-- A new cursor. -/
theorem cur_new {w : World} {T : TypeId} {a : Option Addr} {zs : List Int} {cap : Nat} (h : MC.BytesAt w w.heap.size a zs) : MC.Cur (w.alloc (.cells #[.slice a zs.length cap, .int .i64 0, .int .u64 0] T)) w.heap.size a zs cap 0 := by
  have hc : ∀ j, (w.alloc (.cells #[.slice a zs.length cap, .int .i64 0, .int .u64 0] T)).cell? ⟨w.heap.size, j, none⟩ = (#[.slice a zs.length cap, .int .i64 0, .int .u64 0] : Array Value)[j]? := fun j => World.cell?_alloc_at _ _ _ _ (by rfl)
  refine ⟨by simp, hc 0, ⟨0, hc 1, by omega⟩, ⟨0, hc 2, by omega⟩, World.frozen?_alloc_at _ _ _ _ (by rfl), World.frozen?_alloc_at _ _ _ _ (by rfl), ?_⟩
  exact h.only (q := w.heap.size) (MC.Only.of_below ((Below.refl _ _).alloc (Nat.le_refl _) _)) (Nat.le_refl _) (Nat.le_refl _)
theorem new_below {p : Nat} {w w' : World} {o : Obj} (hp : p = w.heap.size) (h : MC.Only p (w.alloc o) w') : Below w.heap.size w w' :=
  ((Below.refl _ _).alloc (Nat.le_refl _) o).trans (h.below (by omega) (by simp))
theorem MC.BytesAt.up {w : World} {p q : Nat} {a : Option Addr} {zs : List Int} (h : MC.BytesAt w p a zs) (hp : p ≤ q) : MC.BytesAt w q a zs := by
  refine ⟨h.1, ?_⟩
  rcases h.2 with rfl | ⟨b, off, rfl, hlt, hc⟩
  · exact .inl rfl
  · exact .inr ⟨b, off, rfl, by omega, hc⟩
end Go.Proofs.Ytjfnmhkhjaafkaa

/- DrawGoodPairing, DrawMatchAll: a pairing, drawn. -/
namespace Go.Proofs.Ytjfnmhkhjaafkaa
open Go.RowKit
set_option linter.unusedSimpArgs false in
set_option maxHeartbeats 1600000 in
set_option maxRecDepth 100000 in
theorem drawGoodPairing_any (a : Option Addr) (zs : List Int) (cap : Nat) (w : World) (hz : zs.length ≤ 140737488355328) (hb : MC.BytesAt w w.heap.size a zs) :
    Calls Try.prog 23 #[.slice a zs.length cap] w fun e w' => ∃ (l r : Int) (a1 : Option Addr) (c1 : Nat) (ws : List (List Int)), e = .returned (PG.pv l r (.slice a1 ws.length c1)) ∧ (ws.length ≤ 9 ∧ l = (ws.length : Int) ∧ 0 ≤ r ∧ r ≤ 5) ∧ NR.tot ws ≤ 100 ∧ (∃ b, w.heap.size < b ∧ PG.PE 25 27 b w' l r (.slice a1 ws.length c1) ws) ∧ Below w.heap.size w w' := by
  have B0 : Below w.heap.size w (w.alloc (.cells #[.int .i64 0, .int .i64 0, .slice none 0 0] 25)) := (Below.refl _ w).alloc (Nat.le_refl _) _
  have hb0 := (hb.only (q := w.heap.size) (MC.Only.of_below B0) (Nat.le_refl _) (Nat.le_refl _)).up B0.size
  have hbx : (w.alloc (.cells #[.int .i64 0, .int .i64 0, .slice none 0 0] 25)).heap[w.heap.size]? = some (.cells #[.int .i64 0, .int .i64 0, .slice none 0 0] 25 (0, 0)) := heap_alloc_new w _
  have hs0 : w.heap.size < (w.alloc (.cells #[.int .i64 0, .int .i64 0, .slice none 0 0] 25)).heap.size := by simp
  have hs9 : (w.alloc (.cells #[.int .i64 0, .int .i64 0, .slice none 0 0] 25)).heap.size = w.heap.size + 1 := by simp
  have hcn := cur_new (T := 64) (cap := cap) hb0
  rw [hs9] at hcn
  have PN : Hid _ := pairing_any (w.heap.size + 1) a zs cap 0 _ hz (by omega) hcn
  have HBX : Hid _ := hbx
  clear hb hb0 hbx hcn
  go_enter Try.func23, Try.ntmps23
  go_wp2_with fail
  refine Calls.mono PN.out ?_
  rintro e w1 ⟨l, r, a1, c1, ws, rfl, h9, ht, ⟨b, hbl, hE⟩, hc1, ho1⟩
  have hB1 := new_below hs9.symm ho1
  have hbx1 := (hB1.block w.heap.size hs0).trans HBX.out
  clear PN hc1 ho1 HBX
  have H9 : Hid _ := h9
  clear h9
  have x0 := PG.cellA hbx1 (i := 0) rfl
  have x1 := PG.cellA hbx1 (i := 1) rfl
  have x2 := PG.cellA hbx1 (i := 2) rfl
  have z0 := PG.freeA hbx1 (i := 0)
  have z1 := PG.freeA hbx1 (i := 1)
  have z2 := PG.freeA hbx1 (i := 2)
  have onR := (((MC.Only.refl w.heap.size w1).setCell 0 (.int .i64 l)).setCell 1 (.int .i64 r)).setCell 2 (.slice a1 ws.length c1)
  have hs1 := hB1.size
  have hBz : Below w.heap.size w (((w1.setCell ⟨w.heap.size, 0, none⟩ (.int .i64 l)).setCell ⟨w.heap.size, 1, none⟩ (.int .i64 r)).setCell ⟨w.heap.size, 2, none⟩ (.slice a1 ws.length c1)) := (B0.trans (hB1.mono B0.size)).trans (onR.below (Nat.le_refl _) (by omega))
  have hbl' : w.heap.size < b := by simp at hbl hs0; omega
  have hEz := hE.only onR hbl'
  have HZ : Hid _ := hEz
  clear hE hB1 onR hEz hbx1 B0
  simp only [PG.pv] at *
  go_wp2
  exact bodyPost_ret (v := PG.pv l r (.slice a1 ws.length c1)) (by simp [results, Try.results23, go_sem, x0, x1, x2]) rfl ⟨l, r, a1, c1, ws, rfl, H9.out, ht, ⟨b, hbl', HZ.out⟩, hBz⟩
set_option linter.unusedSimpArgs false in
set_option maxHeartbeats 1600000 in
set_option maxRecDepth 100000 in
theorem drawMatchAll_any (a : Option Addr) (zs : List Int) (cap : Nat) (w : World) (hz : zs.length ≤ 140737488355328) (hb : MC.BytesAt w w.heap.size a zs) :
    Calls Try.prog 5 #[.slice a zs.length cap] w fun e w' => ∃ (l r : Int) (a1 : Option Addr) (c1 : Nat) (ws : List (List Int)), e = .returned (PG.pv l r (.slice a1 ws.length c1)) ∧ (ws.length ≤ 9 ∧ l = (ws.length : Int) ∧ 0 ≤ r ∧ r ≤ 5) ∧ NR.tot ws ≤ 100 ∧ (∃ b, w.heap.size < b ∧ PG.PE 25 27 b w' l r (.slice a1 ws.length c1) ws) ∧ Below w.heap.size w w' := by
  have B0 : Below w.heap.size w (w.alloc (.cells #[.int .i64 0, .int .i64 0, .slice none 0 0] 25)) := (Below.refl _ w).alloc (Nat.le_refl _) _
  have hb0 := (hb.only (q := w.heap.size) (MC.Only.of_below B0) (Nat.le_refl _) (Nat.le_refl _)).up B0.size
  have hbx : (w.alloc (.cells #[.int .i64 0, .int .i64 0, .slice none 0 0] 25)).heap[w.heap.size]? = some (.cells #[.int .i64 0, .int .i64 0, .slice none 0 0] 25 (0, 0)) := heap_alloc_new w _
  have hs0 : w.heap.size < (w.alloc (.cells #[.int .i64 0, .int .i64 0, .slice none 0 0] 25)).heap.size := by simp
  have PN : Hid _ := drawGoodPairing_any a zs cap _ hz hb0
  have HBX : Hid _ := hbx
  clear hb hb0 hbx
  go_enter Try.func5, Try.ntmps5
  go_wp2_with fail
  refine Calls.mono PN.out ?_
  rintro e w1 ⟨l, r, a1, c1, ws, rfl, h9, ht, ⟨b, hbl, hE⟩, hB1⟩
  have hbx1 := (hB1.block w.heap.size hs0).trans HBX.out
  clear PN HBX
  have H9 : Hid _ := h9
  clear h9
  have x0 := PG.cellA hbx1 (i := 0) rfl
  have x1 := PG.cellA hbx1 (i := 1) rfl
  have x2 := PG.cellA hbx1 (i := 2) rfl
  have z0 := PG.freeA hbx1 (i := 0)
  have z1 := PG.freeA hbx1 (i := 1)
  have z2 := PG.freeA hbx1 (i := 2)
  have onR := (((MC.Only.refl w.heap.size w1).setCell 0 (.int .i64 l)).setCell 1 (.int .i64 r)).setCell 2 (.slice a1 ws.length c1)
  have hs1 := hB1.size
  have hBz : Below w.heap.size w (((w1.setCell ⟨w.heap.size, 0, none⟩ (.int .i64 l)).setCell ⟨w.heap.size, 1, none⟩ (.int .i64 r)).setCell ⟨w.heap.size, 2, none⟩ (.slice a1 ws.length c1)) := (B0.trans (hB1.mono B0.size)).trans (onR.below (Nat.le_refl _) (by omega))
  have hbl' : w.heap.size < b := by simp at hbl hs0; omega
  have hEz := hE.only onR hbl'
  have HZ : Hid _ := hEz
  clear hE hB1 onR hEz hbx1 B0
  simp only [PG.pv] at *
  go_wp2
  exact bodyPost_ret (v := PG.pv l r (.slice a1 ws.length c1)) (by simp [results, Try.results5, go_sem, x0, x1, x2]) rfl ⟨l, r, a1, c1, ws, rfl, H9.out, ht, ⟨b, hbl', HZ.out⟩, hBz⟩
end Go.Proofs.Ytjfnmhkhjaafkaa
