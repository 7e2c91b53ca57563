/- Turns in which nothing waits: eqTurns, markTurns, heldTurns. -/
import Derived.Test.YtobldjmllhemlaaRows
import Derived.Test.YtobldjmllhemlaaMTQ
import Derived.Test.YtobldjmllhemlaaCEqIntS
import Derived.Test.YtobldjmllhemlaaCMarkIntS
import Derived.WalkKit
import Derived.WalkSpells
import Derived.WalkLawsBesides
import Derived.Outline
import Derived.Deep.RegionWith
namespace Go.Proofs.Ytobldjmllhemlaa
open Go.RowKit
set_option maxHeartbeats 1600000 in
set_option maxRecDepth 100000 in
theorem eqQueue_zero (w : World) : Calls Try.prog 14 #[.agg #[.slice none 0 0, .int .i64 0, .int .i64 0], .agg #[.slice none 0 0, .int .i64 0, .int .i64 0]] w fun e w' => e = .returned (.bool true) ∧ Below w.heap.size w w' := by
  have EQ : Hid (∀ W : World, Calls Try.prog 17 #[.slice none 0 0, .slice none 0 0] W fun e w' => e = .returned (.bool true) ∧ Below W.heap.size W w') := fun W => eqIntS_any none none 0 0 [] [] W (by simp) (by simp) (.inl rfl) (.inl rfl)
  go_enter Try.func14, Try.ntmps14
  go_wp2_with fail
  refine (EQ.out _).mono ?_
  rintro e w1 ⟨rfl, hb1⟩
  have hB : Below w.heap.size w w1 := (((Below.refl _ w).alloc (Nat.le_refl _) _).alloc (by simp) _).trans (hb1.mono (by simp; omega))
  have hs := hb1.size
  have k0 : w1.cell? ⟨w.heap.size, 1, none⟩ = _ := hb1.cell (by simp; try omega)
  have k1 : w1.cell? ⟨w.heap.size, 2, none⟩ = _ := hb1.cell (by simp; try omega)
  have k2 : w1.cell? ⟨w.heap.size + 1, 1, none⟩ = _ := hb1.cell (by simp; try omega)
  have k3 : w1.cell? ⟨w.heap.size + 1, 2, none⟩ = _ := hb1.cell (by simp; try omega)
  simp at k0 k1 k2 k3 hs
  have hl : w.heap.size < w1.heap.size := by omega
  have hl1 : w.heap.size + 1 < w1.heap.size := by omega
  clear hb1 hs EQ
  go_wp2
  go_ret
  exact ⟨rfl, hB⟩
set_option maxHeartbeats 1600000 in
set_option maxRecDepth 100000 in
theorem eqQueueS_zero (a b : Value) (n : Nat) (w : World) (hn : n ≤ 6) (ha : TQ.ZAt w a n) (hb : TQ.ZAt w b n) : Calls Try.prog 11 #[a, b] w fun e w' => e = .returned (.bool true) ∧ Below w.heap.size w w' := by
  rcases ha.is with ⟨rfl, rfl⟩ | ⟨g, rfl, hg, -⟩
  · rcases hb.is with ⟨-, rfl⟩ | ⟨g', rfl, -⟩
    all_goals
      clear ha hb hn
      go_enter Try.func11, Try.ntmps11
      go_wp2
      refine wp_loop_rounds 1 ?_
      rw [rounds_succ]
      go_wp2
      go_ret
      exact ⟨rfl, Below.refl _ _⟩
  · obtain ⟨g', hbv⟩ | ⟨h0, rfl⟩ : (∃ g', b = .slice (some ⟨g', 0, none⟩) n n) ∨ (n = 0 ∧ b = .slice none 0 0) := by
      rcases hb.is with h | ⟨g', rfl, -⟩
      · exact .inr h
      · exact .inl ⟨_, rfl⟩
    · subst hbv
      have HA : Hid _ := ha
      have HB : Hid _ := hb
      clear ha hb hg
      go_enter Try.func11, Try.ntmps11
      go_wp2
      go_loopw [5] (fun iv wr => ∃ i : Nat, iv = .int .i64 i ∧ i ≤ n ∧ Below w.heap.size w wr) (fun iv _ => (n - intOf iv).toNat)
      case atStart => exact ⟨0, rfl, by omega, Below.refl _ _⟩
      case round =>
        obtain ⟨i, rfl, hi, hbw⟩ := hrel
        by_cases hl : i < n
        · have h1 := HA.out.below hbw (Nat.le_refl _)
          have h2 := HB.out.below hbw (Nat.le_refl _)
          rcases h1.is with ⟨rfl, -⟩ | ⟨_, he, hg1, hc⟩
          · omega
          rcases h2.is with ⟨rfl, -⟩ | ⟨_, he', hg2, hc'⟩
          · omega
          cases he
          cases he'
          obtain ⟨c0, c1, c2⟩ := hc i hl
          obtain ⟨d0, d1, d2⟩ := hc' i hl
          clear HA HB h1 h2 hc hc'
          have EQ : Hid (∀ W : World, Calls Try.prog 14 #[.agg #[.slice none 0 0, .int .i64 0, .int .i64 0], .agg #[.slice none 0 0, .int .i64 0, .int .i64 0]] W fun e w' => e = .returned (.bool true) ∧ Below W.heap.size W w') := fun W => eqQueue_zero W
          go_wp2
          go_region_with (go_at_call 14; refine (EQ.out _).mono ?_; rintro e w1 ⟨rfl, hb1⟩)
          all_goals (
            have hB : Below w.heap.size w w1 := hbw.drew.trans (hb1.mono (by have := hbw.size; simpa using this))
            clear hb1 hbw c0 c1 c2 d0 d1 d2 hg1 hg2 EQ
            go_wp2
            go_roundw
            case rel => exact ⟨i + 1, by go_num, by omega, hB⟩
            case measure => simp [intOf]; omega)
        · obtain rfl : i = n := by omega
          clear HA HB
          go_wp2
          go_ret
          exact ⟨rfl, hbw⟩
    · subst h0
      clear ha hb hn hg
      go_enter Try.func11, Try.ntmps11
      go_wp2
      refine wp_loop_rounds 1 ?_
      rw [rounds_succ]
      go_wp2
      go_ret
      exact ⟨rfl, Below.refl _ _⟩
set_option maxHeartbeats 1600000 in
set_option maxRecDepth 100000 in
theorem eqTurns_zero (q : Int) (a b : Value) (n : Nat) (w : World) (hn : n ≤ 6) (ha : TQ.ZAt w a n) (hb : TQ.ZAt w b n) : Calls Try.prog 6 #[.agg #[.int .i64 q, a, .int .i64 0], .agg #[.int .i64 q, b, .int .i64 0]] w fun e w' => e = .returned (.bool true) ∧ Below w.heap.size w w' := by
  have EQ : Hid (∀ W : World, TQ.ZAt W a n → TQ.ZAt W b n → Calls Try.prog 11 #[a, b] W fun e w' => e = .returned (.bool true) ∧ Below W.heap.size W w') := fun W h1 h2 => eqQueueS_zero a b n W hn h1 h2
  go_enter Try.func6, Try.ntmps6
  go_wp2_with fail
  have hB0 : Below w.heap.size w ((w.alloc _).alloc _) := ((Below.refl _ w).alloc (Nat.le_refl _) (.cells #[.int .i64 q, a, .int .i64 0] 24)).alloc (by simp) (.cells #[.int .i64 q, b, .int .i64 0] 24)
  refine (EQ.out _ (ha.below hB0 (Nat.le_refl _)) (hb.below hB0 (Nat.le_refl _))).mono ?_
  rintro e w1 ⟨rfl, hb1⟩
  have hB : Below w.heap.size w w1 := hB0.trans (hb1.mono (by simp; omega))
  have hs := hb1.size
  have k0 : w1.cell? ⟨w.heap.size, 2, none⟩ = _ := hb1.cell (by simp; try omega)
  have k1 : w1.cell? ⟨w.heap.size + 1, 2, none⟩ = _ := hb1.cell (by simp; try omega)
  simp at k0 k1 hs
  have hl : w.heap.size < w1.heap.size := by omega
  have hl1 : w.heap.size + 1 < w1.heap.size := by omega
  clear hb1 hs EQ ha hb hB0
  go_wp2
  go_ret
  exact ⟨rfl, hB⟩
set_option maxHeartbeats 1600000 in
set_option maxRecDepth 100000 in
theorem markQueueS_new (base : Nat) (v : Value) (n : Nat) (w : World) (hn : n ≤ 6) (hbase : base ≤ w.heap.size) (hv : TQ.New w base 36 v n 0 1) :
    Calls Try.prog 12 #[v, .int .i64 1] w fun e w' => e = .returned (.int .i64 (1 + 2 * n)) ∧ TQ.New w' base 36 v n n 1 ∧ Below base w w' ∧ TQ.OnlyV v w w' := by
  rcases hv.is with ⟨rfl, rfl⟩ | ⟨g, rfl, hown⟩
  · clear hv
    go_enter Try.func12, Try.ntmps12
    go_wp2
    refine wp_loop_rounds 1 ?_
    rw [rounds_succ]
    go_wp2
    go_ret
    exact ⟨rfl, ⟨.inl ⟨rfl, rfl⟩⟩, Below.refl _ _, ⟨Nat.le_refl _, fun k _ _ => rfl⟩⟩
  · clear hv
    have MK : Hid (∀ (k : Int) (W : World), 0 ≤ k → k ≤ 1073741824 → Calls Try.prog 15 #[.slice none 0 0, .int .i64 k] W fun e w' => e = .returned (.int .i64 (k + 0)) ∧ Below W.heap.size W w') := fun k W h0 h1 => (markIntS_any W.heap.size (.slice none 0 0) [] k W (by simp) h0 h1 (Nat.le_refl _) (World.ownsRow_nil _ _ _ _)).mono (by rintro e w' ⟨rfl, -, hb⟩; exact ⟨rfl, hb⟩)
    go_enter Try.func12, Try.ntmps12
    go_wp2
    go_loopw [1, 5] (fun kv iv wr => ∃ i : Nat, kv = .int .i64 (1 + 2 * i) ∧ iv = .int .i64 i ∧ i ≤ n ∧ wr.ownsRow base 36 3 (.slice (some ⟨g, 0, none⟩) n n) n (TQ.flat (TQ.mkN 1 n i)) ∧ Below base w wr ∧ MC.Only g w wr) (fun _ iv _ => (n - intOf iv).toNat)
    case atStart => exact ⟨0, by simp, rfl, by omega, hown, Below.refl _ _, MC.Only.refl _ _⟩
    case round =>
      clear hown
      obtain ⟨i, rfl, rfl, hi, hown, hb, hon⟩ := hrel
      have hbs : base ≤ wr.heap.size := Nat.le_trans hbase hb.size
      by_cases hl : i < n
      · obtain ⟨hg, c0, -, -⟩ := TQ.own_at hown hl
        have HO : Hid _ := hown
        have HB : Hid _ := hb
        have HN : Hid _ := hon
        clear hown hb hon
        go_wp2_with fail
        refine (MK.out _ _ (by omega) (by omega)).mono ?_
        rintro e w1 ⟨rfl, hb1⟩
        have hown := M5.own_below HO.out hb1
        have hb := HB.out.trans (hb1.mono hbs)
        have hs1 := Nat.le_trans hbs hb1.size
        have HN1 : Hid (MC.Only g w w1) := TQ.only_below HN.out hb1
        clear HO HB HN c0 hb1 MK
        rw [Int.add_zero]
        have hlen := hown.1
        have hbg := (hown.lt g rfl).1
        obtain ⟨hg1, q0, q1, q2⟩ := TQ.own_at hown hl
        have z1 := hown.frozenAt (i * 3 + 1)
        have z2 := hown.frozenAt (i * 3 + 2)
        have s1 := World.ownsRow.stored hown (i * 3 + 1) (.int .i64 (1 + 2 * i))
        have s2 := s1.1.stored (i * 3 + 2) (.int .i64 (1 + 2 * i + 1))
        have R1 := s2.1
        rw [TQ.mkN_set 1 n i hl] at R1
        have R2 := (hb.grown s1.2 hs1 (fun j hj => by simp at hj; omega)).grown s2.2 (Nat.le_trans hs1 s1.2.size) (fun j hj => by simp at hj; omega)
        have HR1 : Hid _ := R1
        have HR2 : Hid _ := R2
        clear s1 s2 hown hb hlen R1 R2 hg q0 hbg
        go_wp2
        go_roundw
        case rel => exact ⟨i + 1, by go_num, by go_num, by omega, HR1.out, HR2.out, (HN1.out.setCell _ _).setCell _ _⟩
        case measure => simp [intOf]; omega
      · obtain rfl : i = n := by omega
        have HO : Hid _ := hown
        clear hown
        go_wp2
        go_ret
        exact ⟨rfl, ⟨.inr ⟨g, rfl, HO.out⟩⟩, hb, TQ.only_v hon⟩
set_option maxHeartbeats 1600000 in
set_option maxRecDepth 100000 in
theorem heldQueueS_new (base : Nat) (v : Value) (n : Nat) (w : World) (hn : n ≤ 6) (hv : TQ.New w base 36 v n n 1) :
    Calls Try.prog 13 #[v, .int .i64 1] w fun e w' => e = .returned (.int .i64 (1 + 2 * n)) ∧ w = w' := by
  rcases hv.is with ⟨rfl, rfl⟩ | ⟨g, rfl, hown⟩
  · clear hv
    go_enter Try.func13, Try.ntmps13
    go_wp2
    refine wp_loop_rounds 1 ?_
    rw [rounds_succ]
    go_wp2
    go_ret
    exact ⟨rfl, rfl⟩
  · clear hv
    have MK : Hid (∀ (k : Int) (W : World), 0 ≤ k → k ≤ 1073741824 → Calls Try.prog 16 #[.slice none 0 0, .int .i64 k] W fun e w' => e = .returned (.int .i64 (k + (0 : Nat))) ∧ W = w') := fun k W h0 h1 => heldIntS_any none 0 0 k W (by simp) h0 h1 (.inl rfl)
    have HO : Hid _ := hown
    clear hown
    go_enter Try.func13, Try.ntmps13
    go_wp2
    go_loopw [1, 5] (fun kv iv wr => ∃ i : Nat, kv = .int .i64 (1 + 2 * i) ∧ iv = .int .i64 i ∧ i ≤ n ∧ w = wr) (fun _ iv _ => (n - intOf iv).toNat)
    case atStart => exact ⟨0, by simp, rfl, by omega, rfl⟩
    case round =>
      obtain ⟨i, rfl, rfl, hi, rfl⟩ := hrel
      by_cases hl : i < n
      · obtain ⟨hg, c0, c1, c2⟩ := TQ.own_at HO.out hl
        rw [TQ.mkN_at 1 n n i hl] at c1 c2
        simp only [TQ.mk1] at c1 c2
        clear HO
        go_wp2_with fail
        refine (MK.out _ _ (by omega) (by omega)).mono ?_
        rintro e w1 ⟨rfl, rfl⟩
        have e0 : (1 : Int) + 2 * (i : Int) + ((0 : Nat) : Int) = 1 + 2 * i := by omega
        rw [e0]
        clear MK
        go_wp2
        go_roundw
        case rel => exact ⟨i + 1, by go_num, by go_num, by omega, trivial⟩
        case measure => simp [intOf]; omega
      · obtain rfl : i = n := by omega
        go_wp2
        go_ret
        exact ⟨rfl, rfl⟩
set_option maxHeartbeats 1600000 in
set_option maxRecDepth 100000 in
theorem markTurns_new (q : Int) (base : Nat) (v : Value) (n : Nat) (w : World) (hn : n ≤ 6) (hbase : base ≤ w.heap.size) (hv : TQ.New w base 36 v n 0 1) :
    Calls Try.prog 7 #[.agg #[.int .i64 q, v, .int .i64 0], .int .i64 1] w fun e w' => e = .returned (.int .i64 (1 + 2 * n)) ∧ TQ.New w' base 36 v n n 1 ∧ Below base w w' ∧ TQ.OnlyV v w w' := by
  have MK : Hid (∀ W : World, base ≤ W.heap.size → TQ.New W base 36 v n 0 1 → Calls Try.prog 12 #[v, .int .i64 1] W fun e w' => e = .returned (.int .i64 (1 + 2 * n)) ∧ TQ.New w' base 36 v n n 1 ∧ Below base W w' ∧ TQ.OnlyV v W w') := fun W h1 h2 => markQueueS_new base v n W hn h1 h2
  go_enter Try.func7, Try.ntmps7
  go_wp2_with fail
  refine (MK.out _ (by simp; omega) (hv.alloc _)).mono ?_
  rintro e w1 ⟨rfl, hn1, hb1, ho1⟩
  have hB : Below base w w1 := ((Below.refl _ w).alloc hbase _).trans hb1
  have HN : Hid _ := hn1
  have HV : Hid _ := TQ.OnlyV.up ((Below.refl _ w).alloc (Nat.le_refl _) _) ho1
  clear MK hv hb1 hn1 ho1
  go_wp2
  go_ret
  exact ⟨rfl, HN.out, hB, HV.out⟩
set_option maxHeartbeats 1600000 in
set_option maxRecDepth 100000 in
theorem heldTurns_new (q : Int) (base : Nat) (v : Value) (n : Nat) (w : World) (hn : n ≤ 6) (hv : TQ.New w base 36 v n n 1) :
    Calls Try.prog 8 #[.agg #[.int .i64 q, v, .int .i64 0], .int .i64 1] w fun e w' => e = .returned (.int .i64 (1 + 2 * n)) ∧ Below w.heap.size w w' := by
  have MK : Hid (∀ W : World, TQ.New W base 36 v n n 1 → Calls Try.prog 13 #[v, .int .i64 1] W fun e w' => e = .returned (.int .i64 (1 + 2 * n)) ∧ W = w') := fun W h2 => heldQueueS_new base v n W hn h2
  go_enter Try.func8, Try.ntmps8
  go_wp2_with fail
  refine (MK.out _ (hv.alloc _)).mono ?_
  rintro e w1 ⟨rfl, rfl⟩
  clear MK hv
  go_wp2
  go_ret
  exact ⟨rfl, (Below.refl _ w).alloc (Nat.le_refl _) _⟩
end Go.Proofs.Ytobldjmllhemlaa
