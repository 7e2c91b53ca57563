/- The laws' own functions on a pairing: toPairing, szPairing, eqPairing, markPairing. -/
import Derived.Test.YtlcdimiookaefabRows
import Derived.Test.YtlcdimiookaefabCToNest
import Derived.Test.YtlcdimiookaefabCNestE
import Derived.Test.YtlcdimiookaefabCNestM
import Derived.WalkKit
import Derived.WalkSpells
import Derived.WalkLawsBesides
import Derived.Outline
namespace Go.Proofs.Ytlcdimiookaefab
open Go.RowKit
namespace PG
/-- A pairing's three cells. -/
abbrev pv (l r : Int) (v : Value) : Value := .agg #[.int .i64 l, .int .i64 r, v]
/-- All blocks below one and from another on are as they were. -/
structure Mid (lo hi : Nat) (w w' : World) : Prop where
  os : w'.os = w.os
  tape : w'.tape = w.tape
  output : w'.output = w.output
  size : w.heap.size ≤ w'.heap.size
  block : ∀ k, k < w.heap.size → (k < lo ∨ hi ≤ k) → w'.heap[k]? = w.heap[k]?
theorem Mid.refl (lo hi : Nat) (w : World) : Mid lo hi w w := ⟨rfl, rfl, rfl, Nat.le_refl _, fun _ _ _ => rfl⟩
theorem Mid.trans {lo hi : Nat} {a b c : World} (h : Mid lo hi a b) (k : Mid lo hi b c) : Mid lo hi a c :=
  ⟨k.os.trans h.os, k.tape.trans h.tape, k.output.trans h.output, Nat.le_trans h.size k.size, fun j hj hd => (k.block j (Nat.lt_of_lt_of_le hj h.size) hd).trans (h.block j hj hd)⟩
theorem Mid.of_only {lo hi g : Nat} {w w' : World} (h : MC.Only g w w') (h1 : lo ≤ g) (h2 : g < hi) : Mid lo hi w w' := ⟨h.os, h.tape, h.output, h.size, fun k hk hd => h.block k hk (by omega)⟩
theorem Mid.below {lo hi B : Nat} {w w' : World} (h : Mid lo hi w w') (hB : B ≤ lo) (hw : B ≤ w.heap.size) : Below B w w' := ⟨h.os, h.tape, h.output, h.size, fun k hk => h.block k (by omega) (.inl (by omega))⟩
theorem Mid.own {lo hi base e sz n : Nat} {w w' : World} {v : Value} {xs : List Value} (ho : w.ownsRow base e sz v n xs) (h : Mid lo hi w w') (hb : hi ≤ base) : w'.ownsRow base e sz v n xs := by
  refine ⟨ho.1, ?_⟩
  rcases ho.2 with h' | ⟨g, cap', cur, rfl, hB, hg, rest⟩
  · exact .inl h'
  · exact .inr ⟨g, cap', cur, rfl, hB, (h.block g (Array.getElem?_eq_some_iff.1 hg).1 (.inr (by omega))).trans hg, rest⟩
theorem own_mono {w : World} {B B' e sz n : Nat} {v : Value} {xs : List Value} (h : w.ownsRow B e sz v n xs) (hb : B' ≤ B) : w.ownsRow B' e sz v n xs := by
  refine ⟨h.1, ?_⟩
  rcases h.2 with h' | ⟨g', cap, cur, hv, hB, rest⟩
  · exact .inl h'
  · exact .inr ⟨g', cap, cur, hv, by omega, rest⟩
theorem Own_mono {T : TypeId} {w : World} {B B' : Nat} {v : Value} {ws : List (List Int)} {A : Nat → Option Addr} {C : Nat → Nat} (h : NR.Own T w B v ws A C) (hb : B' ≤ B) : NR.Own T w B' v ws A C :=
  ⟨own_mono h.out hb, fun j hj => (h.row j hj).mono hb, h.far⟩
theorem keep2 {W w1 w2 : World} {p q : Nat} {v0 v1 v2 u0 u1 u2 : Value} (hp : p < W.heap.size) (hq : q < W.heap.size) (h : Below W.heap.size W w1 ∧ w1.cell? ⟨p, 0, none⟩ = some v0 ∧ w1.cell? ⟨p, 1, none⟩ = some v1 ∧ w1.cell? ⟨p, 2, none⟩ = some v2 ∧ w1.cell? ⟨q, 0, none⟩ = some u0 ∧ w1.cell? ⟨q, 1, none⟩ = some u1 ∧ w1.cell? ⟨q, 2, none⟩ = some u2) (hb : Below w1.heap.size w1 w2) :
    Below W.heap.size W w2 ∧ w2.cell? ⟨p, 0, none⟩ = some v0 ∧ w2.cell? ⟨p, 1, none⟩ = some v1 ∧ w2.cell? ⟨p, 2, none⟩ = some v2 ∧ w2.cell? ⟨q, 0, none⟩ = some u0 ∧ w2.cell? ⟨q, 1, none⟩ = some u1 ∧ w2.cell? ⟨q, 2, none⟩ = some u2 := by
  obtain ⟨h0, a0, a1, a2, b0, b1, b2⟩ := h
  have s := h0.size
  have c : ∀ k i v, k < W.heap.size → w1.cell? ⟨k, i, none⟩ = some v → w2.cell? ⟨k, i, none⟩ = some v := fun k i v hk e => (hb.cell (p := ⟨k, i, none⟩) (Nat.lt_of_lt_of_le hk s)).trans e
  exact ⟨h0.trans (hb.mono s), c _ _ _ hp a0, c _ _ _ hp a1, c _ _ _ hp a2, c _ _ _ hq b0, c _ _ _ hq b1, c _ _ _ hq b2⟩
end PG
set_option maxHeartbeats 1600000 in
set_option maxRecDepth 100000 in
theorem szPairing_any (l r : Int) (a : Option Addr) (cap : Nat) (ws : List (List Int)) (w : World) (left : Int) (h0 : 0 ≤ left) (h1 : left ≤ 1048576) (hl : ws.length ≤ maxLen) (hin : NR.RowsAt w a ws) :
    Calls Try.prog 4 #[PG.pv l r (.slice a ws.length cap), .int .i64 left] w fun e w' => ∃ r : Int, e = .returned (.int .i64 r) ∧ (r < 0 ∨ (0 ≤ r ∧ r ≤ left ∧ (ws.length : Int) + NR.tot ws ≤ left)) ∧ Below w.heap.size w w' := by
  have SZ : Hid (∀ W : World, Below w.heap.size w W → Calls Try.prog 13 #[.slice a ws.length cap, .int .i64 left] W fun e w' => ∃ r : Int, e = .returned (.int .i64 r) ∧ (r < 0 ∨ (0 ≤ r ∧ r ≤ left ∧ (ws.length : Int) + NR.tot ws ≤ left)) ∧ W = w') := fun W hb => szIntSS_any a cap ws W left h0 h1 hl (hin.below hb)
  clear hin
  generalize NR.tot ws = tt at *
  have B : Below w.heap.size w w := Below.refl _ _
  go_enter Try.func4, Try.ntmps4
  go_wp2_with fail
  refine Calls.mono (SZ.out _ ((Below.refl _ _).alloc (Nat.le_refl _) _)) ?_
  rintro e w1 ⟨q, rfl, hq, rfl⟩
  clear SZ
  have B1 := (Below.refl w.heap.size w).alloc (Nat.le_refl _)
  by_cases hn : q < 0
  · clear hq
    go_wp2
    go_ret
    exact ⟨-1, rfl, .inl (by omega), B1 _⟩
  · have hq' : 0 ≤ q ∧ q ≤ left ∧ (ws.length : Int) + tt ≤ left := by omega
    have HQ : Hid _ := hq'
    clear hq hq'
    go_wp2
    go_ret
    exact ⟨q, rfl, .inr HQ.out, B1 _⟩
set_option linter.unusedSimpArgs false in
set_option maxHeartbeats 1600000 in
set_option maxRecDepth 100000 in
theorem toPairing_own (l r : Int) (a : Option Addr) (cap : Nat) (ws : List (List Int)) (w : World) (hz : ws.length ≤ 1048576) (ht : NR.tot ws ≤ 1048576) (hin : NR.RowsAt w a ws) :
    Calls Try.prog 6 #[PG.pv l r (.slice a ws.length cap)] w fun e w' => ∃ g AA CC, e = .returned (PG.pv l r (.slice (some ⟨g, 0, none⟩) ws.length ws.length)) ∧ NR.Own 26 w' w.heap.size (.slice (some ⟨g, 0, none⟩) ws.length ws.length) ws AA CC ∧ Below w.heap.size w w' := by
  have TO : Hid (∀ W : World, Below w.heap.size w W → Calls Try.prog 18 #[.slice a ws.length cap] W fun e w' => ∃ g AA CC, e = .returned (.slice (some ⟨g, 0, none⟩) ws.length ws.length) ∧ NR.Own 26 w' W.heap.size (.slice (some ⟨g, 0, none⟩) ws.length ws.length) ws AA CC ∧ Below W.heap.size W w') := fun W hb => toIntSS_own a cap ws W hz ht (hin.below hb)
  clear hin
  go_enter Try.func6, Try.ntmps6
  go_wp2_with fail
  have hB1 : Below w.heap.size w (((w.alloc (Obj.cells #[.int .i64 l, .int .i64 r, .slice a ws.length cap] 24)).alloc (Obj.cells #[.int .i64 0, .int .i64 0, .slice none 0 0] 29)).alloc (Obj.cells #[.int .i64 l, .int .i64 r, .slice none 0 0] 29)) := (((Below.refl _ _).alloc (Nat.le_refl _) _).alloc (by simp) _).alloc (by simp; omega) _
  refine Calls.mono (TO.out _ hB1) ?_
  rintro e w2 ⟨g, AA, CC, rfl, ho, hb2⟩
  have k0 : w2.cell? ⟨w.heap.size + 1 + 1, 0, none⟩ = some (.int .i64 l) := (hb2.cell (by simp; try omega)).trans (by simp [World.cell?_alloc_at, World.cell?_alloc_past])
  have k1 : w2.cell? ⟨w.heap.size + 1 + 1, 1, none⟩ = some (.int .i64 r) := (hb2.cell (by simp; try omega)).trans (by simp [World.cell?_alloc_at, World.cell?_alloc_past])
  have k2 : w2.cell? ⟨w.heap.size + 1 + 1, 2, none⟩ = some (.slice none 0 0) := (hb2.cell (by simp; try omega)).trans (by simp [World.cell?_alloc_at, World.cell?_alloc_past])
  have k3 : w2.frozen? ⟨w.heap.size + 1 + 1, 2, none⟩ = false := (hb2.frozen (by simp; try omega)).trans (by simp [World.frozen?_alloc_at, World.frozen?_alloc_past])
  have k4 : w2.cell? ⟨w.heap.size + 1, 0, none⟩ = some (.int .i64 0) := (hb2.cell (by simp; try omega)).trans (by simp [World.cell?_alloc_at, World.cell?_alloc_past])
  have k5 : w2.cell? ⟨w.heap.size + 1, 1, none⟩ = some (.int .i64 0) := (hb2.cell (by simp; try omega)).trans (by simp [World.cell?_alloc_at, World.cell?_alloc_past])
  have k6 : w2.cell? ⟨w.heap.size + 1, 2, none⟩ = some (.slice none 0 0) := (hb2.cell (by simp; try omega)).trans (by simp [World.cell?_alloc_at, World.cell?_alloc_past])
  have f4 : w2.frozen? ⟨w.heap.size + 1, 0, none⟩ = false := (hb2.frozen (by simp; try omega)).trans (by simp [World.frozen?_alloc_at, World.frozen?_alloc_past])
  have f5 : w2.frozen? ⟨w.heap.size + 1, 1, none⟩ = false := (hb2.frozen (by simp; try omega)).trans (by simp [World.frozen?_alloc_at, World.frozen?_alloc_past])
  have f6 : w2.frozen? ⟨w.heap.size + 1, 2, none⟩ = false := (hb2.frozen (by simp; try omega)).trans (by simp [World.frozen?_alloc_at, World.frozen?_alloc_past])
  have hB2 := hB1.trans (hb2.mono hB1.size)
  have hsz := hB2.size
  have hs3 : w.heap.size + 3 ≤ w2.heap.size := by have := hb2.size; simpa using this
  simp only [World.size_alloc] at ho
  have HO : Hid _ := ho
  clear TO ho hb2 hB1
  go_wp2
  exact bodyPost_ret (v := PG.pv l r (.slice (some ⟨g, 0, none⟩) ws.length ws.length)) (by simp [results, Try.results6, go_sem, k4, k5, k6]) rfl ⟨g, AA, CC, rfl, by
      refine PG.Own_mono (B := w.heap.size + 1 + 1 + 1) ?_ (by omega)
      have o1 := HO.out.only ((MC.Only.refl (w.heap.size + 1 + 1) w2).setCell 2 (.slice (some ⟨g, 0, none⟩) ws.length ws.length)) (by omega)
      exact o1.only ((((MC.Only.refl (w.heap.size + 1) _).setCell 0 _).setCell 1 _).setCell 2 _) (by omega), by
      have H := hB2.setCell (p := ⟨w.heap.size + 1 + 1, 2, none⟩) (by simp; omega) (.slice (some ⟨g, 0, none⟩) ws.length ws.length)
      exact ((H.setCell (p := ⟨w.heap.size + 1, 0, none⟩) (by simp) _).setCell (p := ⟨w.heap.size + 1, 1, none⟩) (by simp) _).setCell (p := ⟨w.heap.size + 1, 2, none⟩) (by simp) _⟩
set_option maxHeartbeats 1600000 in
set_option maxRecDepth 100000 in
theorem eqPairing_any (l r : Int) (a b : Option Addr) (ca cb : Nat) (ws : List (List Int)) (w : World) (hx : ws.length ≤ 1048576) (hx2 : NR.tot ws ≤ 1048576) (hax : NR.RowsAt w a ws) (hay : NR.RowsAt w b ws) :
    Calls Try.prog 9 #[PG.pv l r (.slice a ws.length ca), PG.pv l r (.slice b ws.length cb)] w fun e w' => e = .returned (.bool true) ∧ Below w.heap.size w w' := by
  have EQ : Hid (∀ W : World, Below w.heap.size w W → Calls Try.prog 23 #[.slice a ws.length ca, .slice b ws.length cb] W fun e w' => e = .returned (.bool true) ∧ Below W.heap.size W w') := fun W hb => by
    have := eqIntSS_any a b ca cb ws ws W hx hx hx2 hx2 (hax.below hb) (hay.below hb)
    simpa using this
  clear hax hay
  go_enter Try.func9, Try.ntmps9
  have hB1 : Below w.heap.size w ((w.alloc (Obj.cells #[.int .i64 l, .int .i64 r, .slice a ws.length ca] 29)).alloc (Obj.cells #[.int .i64 l, .int .i64 r, .slice b ws.length cb] 29)) := ((Below.refl _ _).alloc (Nat.le_refl _) _).alloc (by simp) _
  go_wp2_with fail
  refine Calls.mono (EQ.out _ hB1) ?_
  rintro e w2 ⟨rfl, hb2⟩
  have hB2 := hB1.trans (hb2.mono hB1.size)
  clear EQ hb2 hB1
  go_wp2
  go_ret
  exact ⟨rfl, hB2⟩
set_option maxHeartbeats 1600000 in
set_option maxRecDepth 100000 in
theorem markIntSS_mid (B top : Nat) (a : Option Addr) (c : Nat) (ws : List (List Int)) (A : Nat → Option Addr) (C : Nat → Nat) (k : Int) (w : World) (hz : ws.length ≤ 1048576) (ht : NR.tot ws ≤ 1048576) (hk0 : 0 ≤ k) (hk : k ≤ 1048576) (hlt : ∀ j, j < ws.length → NR.rw_ ws j ≠ [] → ∀ g, A j = some ⟨g, 0, none⟩ → g < top) (hown : NR.Own 26 w B (.slice a ws.length c) ws A C) :
    Calls Try.prog 24 #[.slice a ws.length c, .int .i64 k] w fun e w' => e = .returned (.int .i64 (k + NR.tot ws)) ∧ PG.Mid B top w w' := by
  have HLT : Hid _ := hlt
  clear hlt
  have HO : Hid _ := hown
  clear hown
  go_enter Try.func24, Try.ntmps24
  go_wp2
  go_loopw [1, 5] (fun kv iv wr => ∃ i : Nat, kv = .int .i64 (k + NR.tot (ws.take i)) ∧ iv = .int .i64 i ∧ i ≤ ws.length ∧ Hid (NR.Own 26 wr B (.slice a ws.length c) (NR.mkUp k ws i) A C) ∧ PG.Mid B top w wr) (fun _ iv _ => (ws.length - intOf iv).toNat)
  case atStart => exact ⟨0, by simp [NR.tot], rfl, by omega, by show NR.Own _ _ _ _ _ _ _; rw [NR.mk_zero]; exact HO.out, PG.Mid.refl _ _ _⟩
  case round =>
    clear HO
    obtain ⟨i, rfl, rfl, hi, HO, hb⟩ := hrel
    have tl := NR.tot_le ws i
    by_cases hl : i < ws.length
    · have hl' : i < (NR.mkUp k ws i).length := by rw [NR.mk_len]; exact hl
      have hRW : NR.RowsAt wr a (NR.mkUp k ws i) := HO.out.rows
      rcases HO.out.out.2 with ⟨h', h0⟩ | ⟨g, cap', cur, hv, -⟩
      · rw [NR.mk_len] at h0; omega
      · simp only [Value.slice.injEq] at hv
        obtain ⟨rfl, -, rfl⟩ := hv
        have oo := HO.out.out
        rw [NR.mk_len] at oo
        have c0 := oo.cellAt i (by omega)
        clear oo
        have hg := (HO.out.out.lt g rfl).2
        rw [NR.hd_get _ A C hl', NR.mk_row k ws i hl] at c0
        have hr := HO.out.row i hl'
        have hrl := NR.mk_row k ws i hl
        have hrt := NR.tot_row ws hl
        have htt := NR.tot_take ws hl
        have MK := markIntS_in B (A i) (C i) (NR.rw_ (NR.mkUp k ws i) i) (k + NR.tot (ws.take i)) wr (by omega) (by omega) (by omega) hr
        rw [hrl] at MK
        have HMK : Hid _ := MK
        have HNX : Hid (∀ w' : World, NR.In w' B (A i) (M5.marks (k + NR.tot (ws.take i)) (NR.rw_ ws i).length) → (NR.rw_ (NR.mkUp k ws i) i = [] → wr = w') → (∀ g, A i = some ⟨g, 0, none⟩ → MC.Only g wr w') → NR.Own 26 w' B (.slice (some ⟨g, 0, none⟩) ws.length c) (NR.mkUp k ws (i + 1)) A C) := fun w' h1 h2 h3 => HO.out.mark (by decide) hl h1 (fun e => h2 (by
          have := hrl; rw [e] at this; exact List.eq_nil_of_length_eq_zero this)) h3
        have HBL : Hid (∀ w' : World, (NR.rw_ (NR.mkUp k ws i) i = [] → wr = w') → (∀ g, A i = some ⟨g, 0, none⟩ → MC.Only g wr w') → PG.Mid B top w w') := fun w' h2 h3 => by
          by_cases e : NR.rw_ (NR.mkUp k ws i) i = []
          · rw [← h2 e]; exact hb
          · obtain ⟨g', hg'⟩ := hr.some e
            rw [hg'] at hr
            exact hb.trans (PG.Mid.of_only (h3 g' hg') (hr.lt e).1 (HLT.out i hl (fun e0 => e (by have := hrl; rw [e0] at this; exact List.eq_nil_of_length_eq_zero this)) g' hg'))
        have ET : Hid (NR.tot (ws.take (i + 1)) = NR.tot (ws.take i) + (NR.rw_ ws i).length) := htt
        clear hRW HO MK hr hrl htt
        generalize NR.tot (ws.take i) = ti at *
        generalize (NR.rw_ ws i).length = ri at *
        go_wp2_with fail
        refine Calls.mono HMK.out ?_
        rintro e w2 ⟨rfl, h1, h2, h3⟩
        have R1 := HNX.out w2 h1 h2 h3
        have R2 := HBL.out w2 h2 h3
        clear HMK HNX HBL h1 h2 h3 hb
        go_wp2
        go_roundw
        case rel => exact ⟨i + 1, by rw [ET.out]; push_cast; rw [Int.add_assoc], by go_num, by omega, R1, R2⟩
        case measure => simp [intOf]; omega
    · obtain rfl : i = ws.length := by omega
      rw [List.take_length]
      go_wp2
      go_ret
      exact ⟨rfl, hb⟩
set_option maxHeartbeats 1600000 in
set_option maxRecDepth 100000 in
theorem markPairing_any (l r : Int) (B hi : Nat) (a : Option Addr) (c : Nat) (ws : List (List Int)) (A : Nat → Option Addr) (C : Nat → Nat) (k : Int) (w : World) (hz : ws.length ≤ 1048576) (ht : NR.tot ws ≤ 1048576) (hk0 : 0 ≤ k) (hk : k ≤ 1048576) (hlt : ∀ j, j < ws.length → NR.rw_ ws j ≠ [] → ∀ g, A j = some ⟨g, 0, none⟩ → g < hi) (hown : NR.Own 26 w B (.slice a ws.length c) ws A C) :
    Calls Try.prog 10 #[PG.pv l r (.slice a ws.length c), .int .i64 k] w fun e w' => e = .returned (.int .i64 (k + NR.tot ws)) ∧ PG.Mid B hi w w' := by
  have on := (MC.Only.of_below (p := w.heap.size) ((Below.refl w.heap.size w).alloc (Nat.le_refl _) (Obj.cells #[.int .i64 l, .int .i64 r, .slice a ws.length c] 29)))
  have M0 : PG.Mid B hi w (w.alloc (Obj.cells #[.int .i64 l, .int .i64 r, .slice a ws.length c] 29)) := ⟨on.os, on.tape, on.output, on.size, fun j hj _ => on.block j hj (by omega)⟩
  have MK : Hid _ := markIntSS_mid B hi a c ws A C k _ hz ht hk0 hk hlt (hown.below ((Below.refl w.heap.size w).alloc (Nat.le_refl _) (Obj.cells #[.int .i64 l, .int .i64 r, .slice a ws.length c] 29)))
  clear on hown hlt
  generalize NR.tot ws = tt at *
  go_enter Try.func10, Try.ntmps10
  go_wp2_with fail
  refine Calls.mono MK.out ?_
  rintro e w2 ⟨rfl, hm⟩
  have M1 := M0.trans hm
  clear MK hm M0
  go_wp2
  go_ret
  exact ⟨rfl, M1⟩
end Go.Proofs.Ytlcdimiookaefab
