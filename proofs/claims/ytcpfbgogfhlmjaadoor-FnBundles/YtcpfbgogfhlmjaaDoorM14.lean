/- Values behind an interface, as they lie in memory: plain facts; the numbers of the program's types alone are named. -/
import Derived.Test.YtcpfbgogfhlmjaaDoorM13
import Derived.ArgAppend
import Derived.OwnWalk
namespace Go.Proofs.YtcpfbgogfhlmjaaDoor
namespace M14
open Go.RowKit
/-- The values vs lie at a slice's address, in a block of S. -/
def RowAt (w : World) (S : Nat → Prop) (a : Option Addr) (vs : List Value) : Prop := vs = [] ∨ ∃ g, a = some ⟨g, 0, none⟩ ∧ g < w.heap.size ∧ S g ∧ ∀ j, j < vs.length → w.cell? ⟨g, j, none⟩ = vs[j]?
/-- v is a value whose flat items are L, D deep, r at most; its rows lie in blocks of S. -/
def VAt : Nat → World → (Nat → Prop) → Value → List It → Nat → Prop
  | 0, _, _, v, L, D => (∃ n : Int, v = .iface 102 (.int .i64 n) ∧ L = [⟨1, n, ⟨#[]⟩, 0⟩] ∧ D = 0) ∨ (∃ s, v = .iface 96 (.string s) ∧ L = [⟨2, 0, s, 0⟩] ∧ D = 0) ∨ (∃ s, v = .iface 97 (.string s) ∧ L = [⟨3, 0, s, 0⟩] ∧ D = 0)
  | r + 1, w, S, v, L, D => (∃ n : Int, v = .iface 102 (.int .i64 n) ∧ L = [⟨1, n, ⟨#[]⟩, 0⟩] ∧ D = 0) ∨ (∃ s, v = .iface 96 (.string s) ∧ L = [⟨2, 0, s, 0⟩] ∧ D = 0) ∨ (∃ s, v = .iface 97 (.string s) ∧ L = [⟨3, 0, s, 0⟩] ∧ D = 0) ∨
    (∃ (a : Option Addr) (cap : Nat) (vs : List Value) (Ls : List (List It)) (Ds : List Nat), v = .iface 99 (.slice a vs.length cap) ∧ Ls.length = vs.length ∧ Ds.length = vs.length ∧ RowAt w S a vs ∧ (∀ i, i < vs.length → ∃ u, vs[i]? = some u ∧ VAt r w S u (Ls.getD i []) (Ds.getD i 0)) ∧
      L = ⟨4, 0, ⟨#[]⟩, (vs.length : Int)⟩ :: Ls.flatten ∧ D = Ds.foldl max 0 + 1 ∧ vs.length ≤ 1048576)
theorem VAt.num (r : Nat) (w : World) (S : Nat → Prop) (n : Int) : VAt r w S (.iface 102 (.int .i64 n)) [⟨1, n, ⟨#[]⟩, 0⟩] 0 := by
  cases r <;> exact .inl ⟨n, rfl, rfl, rfl⟩
theorem VAt.byt (r : Nat) (w : World) (S : Nat → Prop) (s : ByteArray) : VAt r w S (.iface 96 (.string s)) [⟨2, 0, s, 0⟩] 0 := by
  cases r
  · exact .inr (.inl ⟨s, rfl, rfl, rfl⟩)
  · exact .inr (.inl ⟨s, rfl, rfl, rfl⟩)
theorem VAt.txt (r : Nat) (w : World) (S : Nat → Prop) (s : ByteArray) : VAt r w S (.iface 97 (.string s)) [⟨3, 0, s, 0⟩] 0 := by
  cases r
  · exact .inr (.inr ⟨s, rfl, rfl, rfl⟩)
  · exact .inr (.inr (.inl ⟨s, rfl, rfl, rfl⟩))
theorem RowAt.keep {w w' : World} {S S' : Nat → Prop} {a : Option Addr} {vs : List Value} (h : RowAt w S a vs) (hs : w.heap.size ≤ w'.heap.size) (hk : ∀ b, S b → b < w.heap.size → w'.heap[b]? = w.heap[b]?) (hS : ∀ b, S b → b < w.heap.size → S' b) : RowAt w' S' a vs := by
  rcases h with rfl | ⟨g, rfl, hlt, hg, hc⟩
  · exact .inl rfl
  · exact .inr ⟨g, rfl, Nat.lt_of_lt_of_le hlt hs, hS g hg hlt, fun j hj => (World.cell?_of_block (w := w) (a := ⟨g, j, none⟩) (hk g hg hlt)).trans (hc j hj)⟩
/-- A value lies where it lay, whatever is done beside its blocks. -/
theorem VAt.keep {w w' : World} {S S' : Nat → Prop} (hs : w.heap.size ≤ w'.heap.size) (hk : ∀ b, S b → b < w.heap.size → w'.heap[b]? = w.heap[b]?) (hS : ∀ b, S b → b < w.heap.size → S' b) : ∀ (r : Nat) (v : Value) (L : List It) (D : Nat), VAt r w S v L D → VAt r w' S' v L D := by
  intro r
  induction r with
  | zero => intro v L D h; exact h
  | succ r ih =>
    intro v L D h
    rcases h with h | h | h | ⟨a, cap, vs, Ls, Ds, h1, h2, h3, h4, h5, h6, h7⟩
    · exact .inl h
    · exact .inr (.inl h)
    · exact .inr (.inr (.inl h))
    · exact .inr (.inr (.inr ⟨a, cap, vs, Ls, Ds, h1, h2, h3, h4.keep hs hk hS, fun i hi => by
        obtain ⟨u, hu, hv⟩ := h5 i hi
        exact ⟨u, hu, ih u _ _ hv⟩, h6, h7⟩))
theorem VAt.below {w w' : World} {B : Nat} {r : Nat} {v : Value} {L : List It} {D : Nat} (h : VAt r w (fun b => b < B) v L D) (hb : Below B w w') : VAt r w' (fun b => b < B) v L D :=
  VAt.keep hb.size (fun b hB _ => hb.block b hB) (fun _ h _ => h) r v L D h
/-- The rows of a list that is being filled: the values so far, each in blocks that are not the row's own. -/
def Kids (r : Nat) (w : World) (base : Nat) (own : Option Nat) (vs : List Value) (Ls : List (List It)) (Ds : List Nat) : Prop :=
  Ls.length = vs.length ∧ Ds.length = vs.length ∧ ∀ i, i < vs.length → ∃ u, vs[i]? = some u ∧ VAt r w (fun b => base ≤ b ∧ some b ≠ own) u (Ls.getD i []) (Ds.getD i 0)
theorem Kids.nil (r : Nat) (w : World) (base : Nat) (own : Option Nat) : Kids r w base own [] [] [] := ⟨rfl, rfl, fun i hi => by simp at hi⟩
theorem Kids.snoc {r : Nat} {w : World} {base : Nat} {own : Option Nat} {vs : List Value} {Ls : List (List It)} {Ds : List Nat} (h : Kids r w base own vs Ls Ds) {u : Value} {L : List It} {D : Nat} (hu : VAt r w (fun b => base ≤ b ∧ some b ≠ own) u L D) : Kids r w base own (vs ++ [u]) (Ls ++ [L]) (Ds ++ [D]) := by
  obtain ⟨h1, h2, h3⟩ := h
  refine ⟨by simp [h1], by simp [h2], fun i hi => ?_⟩
  by_cases e : i < vs.length
  · obtain ⟨x, hx, hv⟩ := h3 i e
    refine ⟨x, by rw [List.getElem?_append_left e]; exact hx, ?_⟩
    have e1 : (Ls ++ [L]).getD i [] = Ls.getD i [] := by rw [List.getD_eq_getElem?_getD, List.getD_eq_getElem?_getD, List.getElem?_append_left (by omega)]
    have e2 : (Ds ++ [D]).getD i 0 = Ds.getD i 0 := by rw [List.getD_eq_getElem?_getD, List.getD_eq_getElem?_getD, List.getElem?_append_left (by omega)]
    rw [e1, e2]; exact hv
  · have hi' : i = vs.length := by simp at hi; omega
    subst hi'
    refine ⟨u, by simp, ?_⟩
    have e1 : (Ls ++ [L]).getD vs.length [] = L := by rw [← h1]; simp [List.getD_eq_getElem?_getD]
    have e2 : (Ds ++ [D]).getD vs.length 0 = D := by rw [← h2]; simp [List.getD_eq_getElem?_getD]
    rw [e1, e2]; exact hu
theorem Kids.keep {r : Nat} {w w' : World} {base : Nat} {own own' : Option Nat} {vs : List Value} {Ls : List (List It)} {Ds : List Nat} (h : Kids r w base own vs Ls Ds) (hs : w.heap.size ≤ w'.heap.size)
    (hk : ∀ b, base ≤ b → some b ≠ own → b < w.heap.size → w'.heap[b]? = w.heap[b]?) (hS : ∀ b, base ≤ b → some b ≠ own → b < w.heap.size → some b ≠ own') : Kids r w' base own' vs Ls Ds := by
  obtain ⟨h1, h2, h3⟩ := h
  refine ⟨h1, h2, fun i hi => ?_⟩
  obtain ⟨u, hu, hv⟩ := h3 i hi
  exact ⟨u, hu, VAt.keep hs (fun b hb hlt => hk b hb.1 hb.2 hlt) (fun b hb hlt => ⟨hb.1, hS b hb.1 hb.2 hlt⟩) r u _ _ hv⟩
/-- A list that is full. -/
theorem Kids.done {r : Nat} {w : World} {base e n : Nat} {v : Value} {vs : List Value} {Ls : List (List It)} {Ds : List Nat} (h : Kids r w base v.ownBlock vs Ls Ds) (hown : w.ownsRow base e 1 v n vs) (hn1 : n ≤ 1048576) :
    VAt (r + 1) w (fun b => base ≤ b) (.iface 99 v) (⟨4, 0, ⟨#[]⟩, (n : Int)⟩ :: Ls.flatten) (Ds.foldl max 0 + 1) := by
  have hn : vs.length = n := by have := hown.1; omega
  subst hn
  obtain ⟨h1, h2, h3⟩ := h
  have h3' : ∀ i, i < vs.length → ∃ u, vs[i]? = some u ∧ VAt r w (fun b => base ≤ b) u (Ls.getD i []) (Ds.getD i 0) := fun i hi => by
    obtain ⟨u, hu, hv⟩ := h3 i hi
    exact ⟨u, hu, VAt.keep (Nat.le_refl _) (fun _ _ _ => rfl) (fun b hb _ => hb.1) r u _ _ hv⟩
  rcases hown.2 with ⟨rfl, h0⟩ | ⟨g, cap, cur, rfl, hb, hg, hc1, hc2, hc3, hc4⟩
  · have : vs = [] := List.eq_nil_of_length_eq_zero h0
    subst this
    exact .inr (.inr (.inr ⟨none, 0, [], Ls, Ds, rfl, h1, h2, .inl rfl, h3', rfl, rfl, by simp⟩))
  · refine .inr (.inr (.inr ⟨some ⟨g, 0, none⟩, cap, vs, Ls, Ds, rfl, h1, h2, .inr ⟨g, rfl, (hown.lt g rfl).2, hb, fun j hj => hown.cellAt j (by omega)⟩, h3', rfl, rfl, hn1⟩))
/-- The answer on a value that is taken, or read: what lies behind it, and it. -/
def TRes (r : Nat) (w' : World) (B k : Nat) (l : List It) (o : M12.O) (e : Ending) : Prop := match o with
  | none => ∃ (u : Value) (p : Int), e = .returned (.tuple #[u, .int .i64 p, .bool false])
  | some (c, D) => ∃ u : Value, e = .returned (.tuple #[u, .int .i64 ((k + c : Nat) : Int), .bool true]) ∧ VAt r w' (fun b => B ≤ b) u (l.take c) D
theorem TRes.no {r : Nat} {w' : World} {B k : Nat} {l : List It} {o : M12.O} (h : o = none) (u : Value) (p : Int) : TRes r w' B k l o (.returned (.tuple #[u, .int .i64 p, .bool false])) := by rw [h]; exact ⟨u, p, rfl⟩
theorem TRes.yes {r : Nat} {w' : World} {B k c D : Nat} {l L : List It} {o : M12.O} (h : o = some (c, D)) {u : Value} {p : Int} (hp : p = ((k + c : Nat) : Int)) (hL : l.take c = L) (hv : VAt r w' (fun b => B ≤ b) u L D) : TRes r w' B k l o (.returned (.tuple #[u, .int .i64 p, .bool true])) := by
  rw [h, hp]; subst hL; exact ⟨u, rfl, hv⟩
theorem TRes.none' {r : Nat} {w' : World} {B k : Nat} {l : List It} {o : M12.O} {e : Ending} (h : TRes r w' B k l o e) (ho : o = none) : ∃ (u : Value) (p : Int), e = .returned (.tuple #[u, .int .i64 p, .bool false]) := by rw [ho] at h; exact h
theorem TRes.some' {r : Nat} {w' : World} {B k c D : Nat} {l : List It} {o : M12.O} {e : Ending} (h : TRes r w' B k l o e) (ho : o = some (c, D)) : ∃ u : Value, e = .returned (.tuple #[u, .int .i64 ((k + c : Nat) : Int), .bool true]) ∧ VAt r w' (fun b => B ≤ b) u (l.take c) D := by rw [ho] at h; exact h
theorem VAt.one {r : Nat} {w : World} {S : Nat → Prop} {v : Value} {L : List It} {D : Nat} (h : VAt r w S v L D) : v.oneCell' = true := by
  cases r with
  | zero => rcases h with ⟨n, rfl, _⟩ | ⟨s, rfl, _⟩ | ⟨s, rfl, _⟩ <;> rfl
  | succ r => rcases h with ⟨n, rfl, _⟩ | ⟨s, rfl, _⟩ | ⟨s, rfl, _⟩ | ⟨a, cap, vs, Ls, Ds, rfl, _⟩ <;> rfl
theorem VAt.shape {r : Nat} {w : World} {S : Nat → Prop} {v : Value} {L : List It} {D : Nat} (h : VAt r w S v L D) : ∃ t x, v = .iface t x := by
  cases r with
  | zero => rcases h with ⟨n, rfl, _⟩ | ⟨s, rfl, _⟩ | ⟨s, rfl, _⟩ <;> exact ⟨_, _, rfl⟩
  | succ r => rcases h with ⟨n, rfl, _⟩ | ⟨s, rfl, _⟩ | ⟨s, rfl, _⟩ | ⟨a, cap, vs, Ls, Ds, rfl, _⟩ <;> exact ⟨_, _, rfl⟩
/-- One value more in a list that is being filled. -/
theorem kids_step {r : Nat} {wr w2 w3 : World} {base e n : Nat} {v v' u : Value} {o : Obj} {vs : List Value} {Ls : List (List It)} {Ds : List Nat} {L : List It} {D : Nat} (hk : Kids r wr base v.ownBlock vs Ls Ds) (hown : wr.ownsRow base e 1 v n vs) (hbase : base ≤ wr.heap.size)
    (hb2 : Below wr.heap.size wr w2) (hu : VAt r w2 (fun b => wr.heap.size ≤ b) u L D) (hg : (w2.alloc o).grownBy w3 v.ownBlock) (ht : ∀ g, v'.ownBlock = some g → v.ownBlock = some g ∨ (w2.alloc o).heap.size ≤ g) :
    Kids r w3 base v'.ownBlock (vs ++ [u]) (Ls ++ [L]) (Ds ++ [D]) := by
  have hlt : ∀ g, v.ownBlock = some g → g < wr.heap.size := fun g hgg => (hown.lt g hgg).2
  have hs2 := hb2.size
  have hsa : (w2.alloc o).heap.size = w2.heap.size + 1 := by simp
  have hs3 := hg.size
  have keep2 : ∀ b, b < w2.heap.size → some b ≠ v.ownBlock → w3.heap[b]? = w2.heap[b]? := fun b hb hne => by
    rw [hg.block b (by omega) hne]; exact Below.heap_alloc w2 o b hb
  have fresh : ∀ b, b < w2.heap.size → some b ≠ v.ownBlock → some b ≠ v'.ownBlock := fun b hb hne he => by
    rcases ht b he.symm with h | h
    · exact hne h.symm
    · omega
  refine Kids.snoc (Kids.keep hk (by omega) (fun b _ hne hb => ?_) (fun b _ hne hb => fresh b (by omega) hne)) ?_
  · rw [keep2 b (by omega) hne]; exact hb2.block b hb
  · have hne : ∀ b, wr.heap.size ≤ b → some b ≠ v.ownBlock := fun b hb he => by have := hlt b he.symm; omega
    exact VAt.keep (by omega) (fun b hb hlt2 => keep2 b hlt2 (hne b hb)) (fun b hb hlt2 => ⟨by omega, fresh b hlt2 (hne b hb)⟩) r u L D hu
theorem flat_snoc {l : List It} {Ls : List (List It)} {c c' : Nat} (h : Ls.flatten = l.take c) : (Ls ++ [(l.drop c).take c']).flatten = l.take (c + c') := by
  rw [List.flatten_append, h, List.take_add]; simp
theorem max_snoc {Ds : List Nat} {D D' : Nat} (h : Ds.foldl max 0 = D) : (Ds ++ [D']).foldl max 0 = max D D' := by
  rw [List.foldl_append, h]; rfl
/-- The answer on the values of a list. -/
def LRes (r : Nat) (w' : World) (B k m : Nat) (l : List It) (o : M12.O) (e : Ending) : Prop := match o with
  | none => ∃ (u : Value) (p : Int), e = .returned (.tuple #[u, .int .i64 p, .bool false])
  | some (c, D) => ∃ u : Value, e = .returned (.tuple #[u, .int .i64 ((k + c : Nat) : Int), .bool true]) ∧ VAt (r + 1) w' (fun b => B ≤ b) u (⟨4, 0, ⟨#[]⟩, (m : Int)⟩ :: l.take c) (D + 1)
theorem LRes.no {r : Nat} {w' : World} {B k m : Nat} {l : List It} (u : Value) (p : Int) : LRes r w' B k m l none (.returned (.tuple #[u, .int .i64 p, .bool false])) := ⟨u, p, rfl⟩
theorem LRes.yes {r : Nat} {w' : World} {B k m c D : Nat} {l : List It} {u : Value} (h : VAt (r + 1) w' (fun b => B ≤ b) u (⟨4, 0, ⟨#[]⟩, (m : Int)⟩ :: l.take c) (D + 1)) : LRes r w' B k m l (some (c, D)) (.returned (.tuple #[u, .int .i64 ((k + c : Nat) : Int), .bool true])) := ⟨u, rfl, h⟩
theorem LRes.none' {r : Nat} {w' : World} {B k m : Nat} {l : List It} {e : Ending} (h : LRes r w' B k m l none e) : ∃ (u : Value) (p : Int), e = .returned (.tuple #[u, .int .i64 p, .bool false]) := h
theorem LRes.some' {r : Nat} {w' : World} {B k m c D : Nat} {l : List It} {e : Ending} (h : LRes r w' B k m l (some (c, D)) e) : ∃ u : Value, e = .returned (.tuple #[u, .int .i64 ((k + c : Nat) : Int), .bool true]) ∧ VAt (r + 1) w' (fun b => B ≤ b) u (⟨4, 0, ⟨#[]⟩, (m : Int)⟩ :: l.take c) (D + 1) := h
theorem RowAt.at {w : World} {S : Nat → Prop} {a : Option Addr} {vs : List Value} (h : RowAt w S a vs) {j : Nat} (hj : j < vs.length) : ∃ g, a = some ⟨g, 0, none⟩ ∧ g < w.heap.size ∧ w.cell? ⟨g, j, none⟩ = vs[j]? := by
  rcases h with rfl | ⟨g, rfl, hlt, _, hc⟩
  · simp at hj
  · exact ⟨g, rfl, hlt, hc j hj⟩
theorem max_take {Ds : List Nat} {j : Nat} (hj : j < Ds.length) : (Ds.take (j + 1)).foldl max 0 = max ((Ds.take j).foldl max 0) (Ds.getD j 0) := by
  rw [List.take_succ_eq_append_getElem hj, List.foldl_append, List.getD_eq_getElem?_getD, List.getElem?_eq_getElem hj]; rfl
theorem max_mono : ∀ (Ds : List Nat) (m : Nat), m ≤ Ds.foldl max m
  | [], _ => Nat.le_refl _
  | d :: Ds, m => Nat.le_trans (Nat.le_max_left m d) (max_mono Ds (max m d))
theorem max_le {Ds : List Nat} {j : Nat} : (Ds.take j).foldl max 0 ≤ Ds.foldl max 0 := by
  conv => rhs; rw [← List.take_append_drop j Ds, List.foldl_append]
  exact max_mono _ _
theorem flat_take {Ls : List (List It)} {j : Nat} (hj : j < Ls.length) : (Ls.take (j + 1)).flatten = (Ls.take j).flatten ++ Ls.getD j [] := by
  rw [List.take_succ_eq_append_getElem hj, List.flatten_append, List.getD_eq_getElem?_getD, List.getElem?_eq_getElem hj]; simp
theorem flat_mem {Ls : List (List It)} {j : Nat} {x : It} (h : x ∈ Ls.getD j []) : x ∈ Ls.flatten := by
  rw [List.getD_eq_getElem?_getD] at h
  cases e : Ls[j]? with
  | none => rw [e] at h; simp at h
  | some l => rw [e] at h; exact List.mem_flatten.2 ⟨l, List.mem_of_getElem? e, h⟩
theorem flat_len {Ls : List (List It)} (j : Nat) : (M12.bytes (Ls.take j).flatten).length ≤ (M12.bytes Ls.flatten).length := by
  conv => rhs; rw [← List.take_append_drop j Ls, List.flatten_append, M12.bytes_app, List.length_append]
  omega
theorem newV (W : World) (x : Value) (e : TypeId) : ∀ (j : Nat) (u : Value), [x][j]? = some u → (W.alloc (.cells #[x] e)).cell? ((⟨W.heap.size, 0, none⟩ : Addr).add j) = some u := M9.newN W [x] e
/-- 'append' of one more onto a row that the call owns: the row's block is the old one, or new. -/
theorem append_tell {P : Program} (w : World) {ops : Array Oper} {rest : List Oper} {o : Oper} {a : Act} {Q : Exit → Act → World → Prop} (hgd : o.guard = none) (s x : Operand) (t : TypeId)
    (ho : o.op = .call { callee := .builtin .append, args := #[s, x], argTypes := #[t, t] })
    (base : Nat) (e : TypeId) (i : TypeInfo) (z : Value) (size bytes : Nat) (ht : P.underlying t = some (.slice e)) (hi : P.info? e = some i) (hz : i.zero = some z)
    (hsize : i.size = size) (hby : i.bytes = bytes) (hzs : z.cells.size = size) (hsz : 0 < size)
    (v : Value) (n : Nat) (xs : List Value) (hs : a.eval s = v) (hown : w.ownsRow base e size v n xs)
    (ad : Addr) (m c : Nat) (news : List Value) (hx : a.eval x = .slice (some ad) m c) (hl : news.length = m * size) (hnews : ∀ j u, news[j]? = some u → w.cell? (ad.add j) = some u) (h1 : ∀ u ∈ news, u.oneCell' = true)
    (h63 : n + m ≤ maxLen) (hbytes : (n + m) * bytes ≤ 140737488355328) (hbase : base ≤ w.heap.size) (hm : 0 < m)
    (h : ∀ v' w', w'.ownsRow base e size v' (n + m) (xs ++ news) → w.grownBy w' v.ownBlock → (∀ g, v'.ownBlock = some g → v.ownBlock = some g ∨ w.heap.size ≤ g) → wpList P ops Q rest (a.put o.dst v') w') : wpList P ops Q (o :: rest) a w := by
  have mono : ∀ {v' : Value} {w' : World} {k : Nat} {ys : List Value}, w'.ownsRow w.heap.size e size v' k ys → w'.ownsRow base e size v' k ys ∧ ∀ g, v'.ownBlock = some g → w.heap.size ≤ g := fun {v' w' k ys} hh => by
    refine ⟨⟨hh.1, ?_⟩, fun g hg => (hh.lt g hg).1⟩
    rcases hh.2 with hn | ⟨g, cap, cur, e1, e2, e3⟩
    · exact .inl hn
    · exact .inr ⟨g, cap, cur, e1, Nat.le_trans hbase e2, e3⟩
  have loosen : ∀ {w' : World}, w.grownBy w' none → w.grownBy w' v.ownBlock := fun hg => ⟨hg.os, hg.tape, hg.output, hg.size, fun k hk _ => hg.block k hk (by simp)⟩
  rcases hown.2 with ⟨rfl, h0⟩ | ⟨g, cap, cur, rfl, hb, hg, hc1, hc2, hc3, hc4⟩
  · subst h0
    have hxs : xs = [] := List.eq_nil_of_length_eq_zero (by rw [hown.1]; simp)
    subst hxs
    refine wpList_append_grows w hgd s x t ho e i z size bytes ht hi hz hsize hby hzs hsz none 0 0 [] hs (fun _ => ⟨rfl, rfl⟩) (by simp) (fun b hb => by cases hb) ad m c news hx hl hnews h1 (by omega) h63 hbytes (fun v' w' hr hgr => ?_)
    exact h v' w' (mono hr).1 (loosen hgr) (fun g hg => .inr ((mono hr).2 g hg))
  · by_cases hfit : n + m ≤ cap
    · exact wpList_append_fits w hgd s x t ho base e i size ht hi hsize g n cap xs hs hown ad m c news hx hl hnews h1 hfit (fun w' hr hgr => h _ w' hr hgr (fun g' hg' => .inl hg'))
    · refine wpList_append_grows w hgd s x t ho e i z size bytes ht hi hz hsize hby hzs hsz (some ⟨g, 0, none⟩) n cap xs hs (fun h => by cases h) hown.1 (fun b hb j u hj => ?_) ad m c news hx hl hnews h1 (by omega) h63 hbytes (fun v' w' hr hgr => ?_)
      · cases hb; exact hown.cells (g := g) rfl j u hj
      · exact h v' w' (mono hr).1 (loosen hgr) (fun g hg => .inr ((mono hr).2 g hg))
end M14
end Go.Proofs.YtcpfbgogfhlmjaaDoor
