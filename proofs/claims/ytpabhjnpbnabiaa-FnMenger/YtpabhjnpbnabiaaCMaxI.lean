import Derived.Test.YtpabhjnpbnabiaaRows
import Derived.Test.YtpabhjnpbnabiaaCRowF
import Derived.WalkKit
import Derived.WalkSpells
import Derived.WalkLawsBesides
import Derived.Outline
import Derived.Test.YtpabhjnpbnabiaaCRowsF
import Derived.Test.YtpabhjnpbnabiaaCStepF
import Derived.Test.YtpabhjnpbnabiaaMRP
import Derived.Deep.RegionHeld3
import Derived.Test.YtpabhjnpbnabiaaMRetB
import Derived.Test.YtpabhjnpbnabiaaMInfo
import Derived.Test.YtpabhjnpbnabiaaMFO
import Derived.Test.YtpabhjnpbnabiaaM5
import Derived.Test.YtpabhjnpbnabiaaMSG
import Derived.Test.YtpabhjnpbnabiaaCOutS
import Derived.Test.YtpabhjnpbnabiaaCAsk
import Derived.Test.YtpabhjnpbnabiaaMFM
import Derived.Lib.SliceRun
/- A row of pipes is gone through: each of its steps is told, in their order. -/
namespace Go.Proofs.Ytpabhjnpbnabiaa
open Go.RowKit
theorem FL.RowF.which {lo : Nat} {W : World} {F : Nat} {cs : Array Value} {l : List FL.Stp} (h : FL.RowF lo W F cs l) : (F = 79 ∧ cs = #[]) ∨ (F = 93 ∧ ∃ b1 b2, cs = #[.pointer (some ⟨b1, 0, none⟩), .pointer (some ⟨b2, 0, none⟩)]) := by
  cases h with
  | nil => exact .inl ⟨rfl, rfl⟩
  | and s h l1 l2 h1 h2 => exact .inr ⟨rfl, _, _, rfl⟩
set_option linter.unusedSimpArgs false in
set_option maxHeartbeats 1600000 in
set_option maxRecDepth 100000 in
theorem rowCallRoom_any (lo : Nat) (g1 : Nat) (W0 : World) (L : List FL.Stp) (I : List FL.Stp → World → Prop)
    (hT : ∀ done s W, (done ++ [s]) <+: L → I done W → Calls Try.prog 94 #[s.v, .pointer (some ⟨g1, 0, none⟩)] W fun e w' => e = .returned (.tuple #[]) ∧ I (done ++ [s]) w')
    (hK : ∀ done W, I done W → ∀ k, k < W0.heap.size → lo ≤ k → (∀ cs fr, W0.heap[k]? ≠ some (.cells cs 3 fr)) → W.heap[k]? = W0.heap[k]?)
    {F : Nat} {cs : Array Value} {l : List FL.Stp} (h : FL.RowF lo W0 F cs l) :
    ∀ done W, (done ++ l) <+: L → I done W → Calls Try.prog F (#[.func (.func 94) #[] #[.pointer (some ⟨g1, 0, none⟩)]] ++ cs) W fun e w' => e = .returned (.tuple #[]) ∧ I (done ++ l) w' := by
  induction h with
  | nil =>
    intro done W _ hI
    rw [List.append_nil]
    go_enter Try.func79, Try.ntmps79
    go_wp2
    exact bodyPost_end (results_none rfl _ _ _) rfl ⟨rfl, hI⟩
  | @and F cs l s b1 b2 h l1 l2 h1 h2 ih =>
    intro done W hP hI
    have k1 := hK done W hI b1 (FL.lt_of_block h1) l1 (fun c r e => by rw [h1] at e; simp only [Option.some.injEq, Obj.cells.injEq] at e; exact absurd e.2.1 (by decide))
    have c1 : W.cell? ⟨b1, 0, none⟩ = some (.func (.func F) #[] cs) := by rw [FL.cell_block (k1.trans h1)]; rfl
    have hl1 : b1 < W.heap.size := FL.lt_of_block (k1.trans h1)
    have IH := ih done W (List.IsPrefix.trans ⟨[s], by simp⟩ hP) hI
    clear ih k1
    rcases h.which with ⟨rfl, rfl⟩ | ⟨rfl, c1', c2', rfl⟩
    · clear h
      have IH2 : Hid (Calls Try.prog 79 #[.func (.func 94) #[] #[.pointer (some ⟨g1, 0, none⟩)]] W fun e w' => e = .returned (.tuple #[]) ∧ I (done ++ l) w') := IH
      clear IH
      go_enter Try.func93, Try.ntmps93
      go_wp2_with fail
      refine Calls.mono IH2.out ?_
      rintro e w1 ⟨rfl, hI1⟩
      have k2 := hK _ w1 hI1 b2 (FL.lt_of_block h2) l2 (fun c r e => by rw [h2] at e; simp only [Option.some.injEq, Obj.cells.injEq] at e; exact absurd e.2.1 (by decide))
      have B2 := k2.trans h2
      have d0 : w1.cell? ⟨b2, 0, none⟩ = some (.int .i64 (s.k : Int)) := by rw [FL.cell_block B2]; rfl
      have d1 : w1.cell? ⟨b2, 1, none⟩ = some (.bool s.back) := by rw [FL.cell_block B2]; rfl
      have d2 : w1.cell? ⟨b2, 2, none⟩ = some (.int .i64 s.to) := by rw [FL.cell_block B2]; rfl
      have d3 : w1.cell? ⟨b2, 3, none⟩ = some (.int .i64 s.room) := by rw [FL.cell_block B2]; rfl
      have hl2 : b2 < w1.heap.size := FL.lt_of_block B2
      have TL : Hid _ := hT _ s w1 (by rw [List.append_assoc]; exact hP) hI1
      obtain ⟨sk, sb, st, sr⟩ := s
      clear IH2 k2 B2 h2 hT hK hI1 c1 hl1 h1 hP
      simp only at d0 d1 d2 d3
      go_wp2_with fail
      refine Calls.mono TL.out ?_
      rintro e w2 ⟨rfl, hI2⟩
      clear TL
      go_wp2
      exact bodyPost_end (results_none rfl _ _ _) rfl ⟨rfl, by rw [← List.append_assoc]; exact hI2⟩

    · clear h
      have IH2 : Hid (Calls Try.prog 93 #[.func (.func 94) #[] #[.pointer (some ⟨g1, 0, none⟩)], .pointer (some ⟨c1', 0, none⟩), .pointer (some ⟨c2', 0, none⟩)] W fun e w' => e = .returned (.tuple #[]) ∧ I (done ++ l) w') := IH
      clear IH
      go_enter Try.func93, Try.ntmps93
      go_wp2_with fail
      refine Calls.mono IH2.out ?_
      rintro e w1 ⟨rfl, hI1⟩
      have k2 := hK _ w1 hI1 b2 (FL.lt_of_block h2) l2 (fun c r e => by rw [h2] at e; simp only [Option.some.injEq, Obj.cells.injEq] at e; exact absurd e.2.1 (by decide))
      have B2 := k2.trans h2
      have d0 : w1.cell? ⟨b2, 0, none⟩ = some (.int .i64 (s.k : Int)) := by rw [FL.cell_block B2]; rfl
      have d1 : w1.cell? ⟨b2, 1, none⟩ = some (.bool s.back) := by rw [FL.cell_block B2]; rfl
      have d2 : w1.cell? ⟨b2, 2, none⟩ = some (.int .i64 s.to) := by rw [FL.cell_block B2]; rfl
      have d3 : w1.cell? ⟨b2, 3, none⟩ = some (.int .i64 s.room) := by rw [FL.cell_block B2]; rfl
      have hl2 : b2 < w1.heap.size := FL.lt_of_block B2
      have TL : Hid _ := hT _ s w1 (by rw [List.append_assoc]; exact hP) hI1
      obtain ⟨sk, sb, st, sr⟩ := s
      clear IH2 k2 B2 h2 hT hK hI1 c1 hl1 h1 hP
      simp only at d0 d1 d2 d3
      go_wp2_with fail
      refine Calls.mono TL.out ?_
      rintro e w2 ⟨rfl, hI2⟩
      clear TL
      go_wp2
      exact bodyPost_end (results_none rfl _ _ _) rfl ⟨rfl, by rw [← List.append_assoc]; exact hI2⟩

set_option linter.unusedSimpArgs false in
set_option maxHeartbeats 1600000 in
set_option maxRecDepth 100000 in
theorem rowCallPut_any (lo : Nat) (g1 g2 : Nat) (W0 : World) (L : List FL.Stp) (I : List FL.Stp → World → Prop)
    (hT : ∀ done s W, (done ++ [s]) <+: L → I done W → Calls Try.prog 95 #[s.v, .pointer (some ⟨g1, 0, none⟩), .pointer (some ⟨g2, 0, none⟩)] W fun e w' => e = .returned (.tuple #[]) ∧ I (done ++ [s]) w')
    (hK : ∀ done W, I done W → ∀ k, k < W0.heap.size → lo ≤ k → (∀ cs fr, W0.heap[k]? ≠ some (.cells cs 3 fr)) → W.heap[k]? = W0.heap[k]?)
    {F : Nat} {cs : Array Value} {l : List FL.Stp} (h : FL.RowF lo W0 F cs l) :
    ∀ done W, (done ++ l) <+: L → I done W → Calls Try.prog F (#[.func (.func 95) #[] #[.pointer (some ⟨g1, 0, none⟩), .pointer (some ⟨g2, 0, none⟩)]] ++ cs) W fun e w' => e = .returned (.tuple #[]) ∧ I (done ++ l) w' := by
  induction h with
  | nil =>
    intro done W _ hI
    rw [List.append_nil]
    go_enter Try.func79, Try.ntmps79
    go_wp2
    exact bodyPost_end (results_none rfl _ _ _) rfl ⟨rfl, hI⟩
  | @and F cs l s b1 b2 h l1 l2 h1 h2 ih =>
    intro done W hP hI
    have k1 := hK done W hI b1 (FL.lt_of_block h1) l1 (fun c r e => by rw [h1] at e; simp only [Option.some.injEq, Obj.cells.injEq] at e; exact absurd e.2.1 (by decide))
    have c1 : W.cell? ⟨b1, 0, none⟩ = some (.func (.func F) #[] cs) := by rw [FL.cell_block (k1.trans h1)]; rfl
    have hl1 : b1 < W.heap.size := FL.lt_of_block (k1.trans h1)
    have IH := ih done W (List.IsPrefix.trans ⟨[s], by simp⟩ hP) hI
    clear ih k1
    rcases h.which with ⟨rfl, rfl⟩ | ⟨rfl, c1', c2', rfl⟩
    · clear h
      have IH2 : Hid (Calls Try.prog 79 #[.func (.func 95) #[] #[.pointer (some ⟨g1, 0, none⟩), .pointer (some ⟨g2, 0, none⟩)]] W fun e w' => e = .returned (.tuple #[]) ∧ I (done ++ l) w') := IH
      clear IH
      go_enter Try.func93, Try.ntmps93
      go_wp2_with fail
      refine Calls.mono IH2.out ?_
      rintro e w1 ⟨rfl, hI1⟩
      have k2 := hK _ w1 hI1 b2 (FL.lt_of_block h2) l2 (fun c r e => by rw [h2] at e; simp only [Option.some.injEq, Obj.cells.injEq] at e; exact absurd e.2.1 (by decide))
      have B2 := k2.trans h2
      have d0 : w1.cell? ⟨b2, 0, none⟩ = some (.int .i64 (s.k : Int)) := by rw [FL.cell_block B2]; rfl
      have d1 : w1.cell? ⟨b2, 1, none⟩ = some (.bool s.back) := by rw [FL.cell_block B2]; rfl
      have d2 : w1.cell? ⟨b2, 2, none⟩ = some (.int .i64 s.to) := by rw [FL.cell_block B2]; rfl
      have d3 : w1.cell? ⟨b2, 3, none⟩ = some (.int .i64 s.room) := by rw [FL.cell_block B2]; rfl
      have hl2 : b2 < w1.heap.size := FL.lt_of_block B2
      have TL : Hid _ := hT _ s w1 (by rw [List.append_assoc]; exact hP) hI1
      obtain ⟨sk, sb, st, sr⟩ := s
      clear IH2 k2 B2 h2 hT hK hI1 c1 hl1 h1 hP
      simp only at d0 d1 d2 d3
      go_wp2_with fail
      refine Calls.mono TL.out ?_
      rintro e w2 ⟨rfl, hI2⟩
      clear TL
      go_wp2
      exact bodyPost_end (results_none rfl _ _ _) rfl ⟨rfl, by rw [← List.append_assoc]; exact hI2⟩

    · clear h
      have IH2 : Hid (Calls Try.prog 93 #[.func (.func 95) #[] #[.pointer (some ⟨g1, 0, none⟩), .pointer (some ⟨g2, 0, none⟩)], .pointer (some ⟨c1', 0, none⟩), .pointer (some ⟨c2', 0, none⟩)] W fun e w' => e = .returned (.tuple #[]) ∧ I (done ++ l) w') := IH
      clear IH
      go_enter Try.func93, Try.ntmps93
      go_wp2_with fail
      refine Calls.mono IH2.out ?_
      rintro e w1 ⟨rfl, hI1⟩
      have k2 := hK _ w1 hI1 b2 (FL.lt_of_block h2) l2 (fun c r e => by rw [h2] at e; simp only [Option.some.injEq, Obj.cells.injEq] at e; exact absurd e.2.1 (by decide))
      have B2 := k2.trans h2
      have d0 : w1.cell? ⟨b2, 0, none⟩ = some (.int .i64 (s.k : Int)) := by rw [FL.cell_block B2]; rfl
      have d1 : w1.cell? ⟨b2, 1, none⟩ = some (.bool s.back) := by rw [FL.cell_block B2]; rfl
      have d2 : w1.cell? ⟨b2, 2, none⟩ = some (.int .i64 s.to) := by rw [FL.cell_block B2]; rfl
      have d3 : w1.cell? ⟨b2, 3, none⟩ = some (.int .i64 s.room) := by rw [FL.cell_block B2]; rfl
      have hl2 : b2 < w1.heap.size := FL.lt_of_block B2
      have TL : Hid _ := hT _ s w1 (by rw [List.append_assoc]; exact hP) hI1
      obtain ⟨sk, sb, st, sr⟩ := s
      clear IH2 k2 B2 h2 hT hK hI1 c1 hl1 h1 hP
      simp only at d0 d1 d2 d3
      go_wp2_with fail
      refine Calls.mono TL.out ?_
      rintro e w2 ⟨rfl, hI2⟩
      clear TL
      go_wp2
      exact bodyPost_end (results_none rfl _ _ _) rfl ⟨rfl, by rw [← List.append_assoc]; exact hI2⟩

end Go.Proofs.Ytpabhjnpbnabiaa

/- room, putOn, augment of the program. -/
namespace Go.Proofs.Ytpabhjnpbnabiaa
open Go.RowKit
set_option linter.unusedSimpArgs false in
set_option maxHeartbeats 1600000 in
set_option maxRecDepth 100000 in
theorem roomTell_any (g : Nat) (m : Int) (s : FL.Stp) (W : World) (hg : W.heap[g]? = some (.cells #[.int .i64 m] 3 (0, 0))) :
    Calls Try.prog 94 #[s.v, .pointer (some ⟨g, 0, none⟩)] W fun e w' => e = .returned (.tuple #[]) ∧ w'.heap[g]? = some (.cells #[.int .i64 (min m s.room)] 3 (0, 0)) ∧ MC.Only g W w' := by
  obtain ⟨sk, sb, st, sr⟩ := s
  have c0 : W.cell? ⟨g, 0, none⟩ = some (.int .i64 m) := by rw [FL.cell_block hg]; rfl
  have z0 : W.frozen? ⟨g, 0, none⟩ = false := FL.free_block hg
  have l0 : g < W.heap.size := FL.lt_of_block hg
  have FIN : Hid (∀ x : Int, ((W.setCell ⟨g, 0, none⟩ (.int .i64 x)).alloc (.cells #[.int .i64 (sk : Int), .bool sb, .int .i64 st, .int .i64 sr] 111)).heap[g]? = some (.cells #[.int .i64 x] 3 (0, 0)) ∧ MC.Only g W ((W.setCell ⟨g, 0, none⟩ (.int .i64 x)).alloc (.cells #[.int .i64 (sk : Int), .bool sb, .int .i64 st, .int .i64 sr] 111))) := fun x => by
    have hs : (W.setCell ⟨g, 0, none⟩ (.int .i64 x)).heap.size = W.heap.size := FL.set_size _ _ _
    refine ⟨by rw [Below.heap_alloc _ _ _ (by omega), FL.set_block _ hg]; rfl, ?_⟩
    exact ((MC.Only.refl g W).setCell 0 _).trans (MC.Only.of_below ((Below.refl _ _).alloc (Nat.le_refl _) _))
  clear hg
  go_enter Try.func94, Try.ntmps94
  go_wp2
  · exact bodyPost_end (results_none rfl _ _ _) rfl ⟨rfl, by rw [show min m sr = sr from by omega]; exact FIN.out _⟩
  · exact bodyPost_end (results_none rfl _ _ _) rfl ⟨rfl, by rw [show min m sr = m from by omega]; exact FIN.out _⟩
set_option linter.unusedSimpArgs false in
set_option maxHeartbeats 1600000 in
set_option maxRecDepth 100000 in
theorem room_any (lo F : Nat) (cs : Array Value) (l : List FL.Stp) (w : World) (h : FL.RowF lo w F cs l) :
    Calls Try.prog 84 #[.func (.func F) #[] cs] w fun e w' => e = .returned (.int .i64 (FL.mostOf l)) ∧ Below w.heap.size w w' := by
  have h0 : w.alloc (.cells #[.int .i64 100] 3) = w.alloc (.cells #[.int .i64 100] 3) := rfl
  have RC := rowCallRoom_any lo w.heap.size w l (fun done W => Below w.heap.size w W ∧ W.heap[w.heap.size]? = some (.cells #[.int .i64 (FL.mostOf done)] 3 (0, 0)))
    (fun done s W _ hI => (roomTell_any w.heap.size (FL.mostOf done) s W hI.2).mono (by
      rintro e w' ⟨rfl, h1, h2⟩
      refine ⟨rfl, ?_, by rw [FL.mostOf_snoc]; exact h1⟩
      exact hI.1.trans (h2.below (Nat.le_refl _) hI.1.size)))
    (fun done W hI k hk _ _ => hI.1.block k hk) h [] (w.alloc (.cells #[.int .i64 100] 3)) (by rw [List.nil_append]; exact List.prefix_rfl) ⟨(Below.refl _ w).alloc (Nat.le_refl _) _, heap_alloc_new _ _⟩
  rw [List.nil_append] at RC
  clear h0
  rcases h.which with ⟨rfl, rfl⟩ | ⟨rfl, c1, c2, rfl⟩
  · have RC2 : Hid (Calls Try.prog 79 #[.func (.func 94) #[] #[.pointer (some ⟨w.heap.size, 0, none⟩)]] (w.alloc (.cells #[.int .i64 100] 3)) fun e w' => e = .returned (.tuple #[]) ∧ (Below w.heap.size w w' ∧ w'.heap[w.heap.size]? = some (.cells #[.int .i64 (FL.mostOf l)] 3 (0, 0)))) := RC
    clear RC h
    generalize FL.mostOf l = m at *
    go_enter Try.func84, Try.ntmps84
    go_wp2_with fail
    refine Calls.mono RC2.out ?_
    rintro e w2 ⟨rfl, hb2, hg2⟩
    have c2 : w2.cell? ⟨w.heap.size, 0, none⟩ = some (.int .i64 m) := by rw [FL.cell_block hg2]; rfl
    have l2 : w.heap.size < w2.heap.size := FL.lt_of_block hg2
    clear RC2 hg2
    go_wp2
    go_ret
    exact ⟨rfl, hb2⟩
  · have RC2 : Hid (Calls Try.prog 93 #[.func (.func 94) #[] #[.pointer (some ⟨w.heap.size, 0, none⟩)], .pointer (some ⟨c1, 0, none⟩), .pointer (some ⟨c2, 0, none⟩)] (w.alloc (.cells #[.int .i64 100] 3)) fun e w' => e = .returned (.tuple #[]) ∧ (Below w.heap.size w w' ∧ w'.heap[w.heap.size]? = some (.cells #[.int .i64 (FL.mostOf l)] 3 (0, 0)))) := RC
    clear RC h
    generalize FL.mostOf l = m at *
    go_enter Try.func84, Try.ntmps84
    go_wp2_with fail
    refine Calls.mono RC2.out ?_
    rintro e w2 ⟨rfl, hb2, hg2⟩
    have c2 : w2.cell? ⟨w.heap.size, 0, none⟩ = some (.int .i64 m) := by rw [FL.cell_block hg2]; rfl
    have l2 : w.heap.size < w2.heap.size := FL.lt_of_block hg2
    clear RC2 hg2
    go_wp2
    go_ret
    exact ⟨rfl, hb2⟩
end Go.Proofs.Ytpabhjnpbnabiaa
namespace Go.Proofs.Ytpabhjnpbnabiaa
open Go.RowKit
theorem FL.put_defers (a : Act) (d : Option Tmp) (v : Value) : (a.put d v).defers = a.defers := by cases d <;> rfl
set_option linter.unusedSimpArgs false in
set_option maxHeartbeats 1600000 in
set_option maxRecDepth 100000 in
theorem putTell_any (g1 g2 gf n cap : Nat) (o : List Int) (more : Int) (s : FL.Stp) (W : World) (h1 : W.heap[g1]? = some (.cells #[.slice (some ⟨gf, 0, none⟩) n cap] 29 (0, 0))) (h2 : W.heap[g2]? = some (.cells #[.int .i64 more] 3 (0, 0)))
    (ho : W.ownsRow 0 3 1 (.slice (some ⟨gf, 0, none⟩) n cap) n (M4.iv o)) (hk0 : s.k < n) (_hn : n ≤ 1000) (hg2 : gf ≠ g2) (hy0 : 0 ≤ o.getD s.k 0) (hy1 : o.getD s.k 0 ≤ 100) (hm0 : 0 < more) (hm1 : more ≤ 100) :
    Calls Try.prog 95 #[s.v, .pointer (some ⟨g1, 0, none⟩), .pointer (some ⟨g2, 0, none⟩)] W fun e w' => e = .returned (.tuple #[]) ∧ w'.ownsRow 0 3 1 (.slice (some ⟨gf, 0, none⟩) n cap) n (M4.iv (FL.put1 more o s)) ∧ MC.Only gf W w' := by
  obtain ⟨sk, sb, st, sr⟩ := s
  simp only at hk0 hy0 hy1
  have hol : o.length = n := by have := ho.1; simpa [M4.iv] using this
  obtain ⟨cur, hcur⟩ : ∃ cur, W.heap[gf]? = some (.cells cur 3 (0, 0)) := by
    rcases ho.2 with ⟨h, _⟩ | ⟨g, c, cur, h, _, h3, _⟩
    · cases h
    · cases h; exact ⟨cur, h3⟩
  have hg1 : g1 ≠ gf := by
    intro e; subst e
    rw [hcur] at h1
    simp only [Option.some.injEq, Obj.cells.injEq] at h1
    exact absurd h1.2.1 (by decide)
  have cy : W.cell? ⟨gf, sk, none⟩ = some (.int .i64 (o.getD sk 0)) := by rw [ho.cellAt sk (by omega)]; exact M4.iv_get _ _ _ (FL.get_of _ (by omega))
  have lf : gf < W.heap.size := FL.lt_of_block hcur
  have hst : ∀ x : Int, (W.alloc (.cells #[.int .i64 (sk : Int), .bool sb, .int .i64 st, .int .i64 sr] 111)).drew.ownsRow 0 3 1 (.slice (some ⟨gf, 0, none⟩) n cap) n (M4.iv o) := fun _ => ho.alloc _
  have FINA : ∀ x : Int, ((W.alloc (.cells #[.int .i64 (sk : Int), .bool sb, .int .i64 st, .int .i64 sr] 111)).drew.setCell ⟨gf, sk, none⟩ (.int .i64 x)).ownsRow 0 3 1 (.slice (some ⟨gf, 0, none⟩) n cap) n (M4.iv (o.set sk x)) ∧ MC.Only gf W ((W.alloc (.cells #[.int .i64 (sk : Int), .bool sb, .int .i64 st, .int .i64 sr] 111)).drew.setCell ⟨gf, sk, none⟩ (.int .i64 x)) := fun x => by
    have h3 := (hst x).stored sk (.int .i64 x)
    rw [M4.iv_set] at h3
    refine ⟨h3.1, ?_⟩
    refine (MC.Only.trans (MC.Only.of_below (((Below.refl _ W).alloc (Nat.le_refl _) (.cells #[.int .i64 (sk : Int), .bool sb, .int .i64 st, .int .i64 sr] 111)).drew)) (MC.Only.refl gf _)).setCell sk _
  have c1a : W.cell? ⟨g1, 0, none⟩ = some (.slice (some ⟨gf, 0, none⟩) n cap) := by rw [FL.cell_block h1]; rfl
  have c2a : W.cell? ⟨g2, 0, none⟩ = some (.int .i64 more) := by rw [FL.cell_block h2]; rfl
  have l1 : g1 < W.heap.size := FL.lt_of_block h1
  have l2 : g2 < W.heap.size := FL.lt_of_block h2
  have zy : W.frozen? ⟨gf, sk, none⟩ = false := ho.frozenAt sk
  have FIN0 : Hid _ := FINA
  clear FINA hst h1 h2 hcur ho
  have hp1 : FL.put1 more o ⟨sk, sb, st, sr⟩ = o.set sk (o.getD sk 0 + FL.dl more ⟨sk, sb, st, sr⟩) := rfl
  generalize hy : o.getD sk 0 = y at *
  clear hy
  have kk0 : (0 : Int) ≤ (sk : Int) := by omega
  have kkn : (sk : Int) < (n : Int) := by omega
  cases sb with
  | true =>
    rw [show FL.dl more ⟨sk, true, st, sr⟩ = -more from rfl] at hp1
    have FIN1 := FIN0.out (y - more)
    have hp2 : FL.put1 more o ⟨sk, true, st, sr⟩ = o.set sk (y - more) := hp1
    rw [← hp2] at FIN1
    have FIN : Hid _ := FIN1
    have hwr : IntKind.i64.wrap (y - more) = (y - more) := by rw [IntKind.wrap_i64]; omega
    have q1b : (W.alloc (.cells #[.int .i64 (sk : Int), .bool true, .int .i64 st, .int .i64 sr] 111)).cell? ⟨W.heap.size, 0, none⟩ = some (.int .i64 (sk : Int)) := by simp
    have c1b : (W.alloc (.cells #[.int .i64 (sk : Int), .bool true, .int .i64 st, .int .i64 sr] 111)).cell? ⟨g1, 0, none⟩ = some (.slice (some ⟨gf, 0, none⟩) n cap) := by rw [World.cell?_alloc_lt _ _ _ l1]; exact c1a
    have c2b : (W.alloc (.cells #[.int .i64 (sk : Int), .bool true, .int .i64 st, .int .i64 sr] 111)).cell? ⟨g2, 0, none⟩ = some (.int .i64 more) := by rw [World.cell?_alloc_lt _ _ _ l2]; exact c2a
    have cyb : (W.alloc (.cells #[.int .i64 (sk : Int), .bool true, .int .i64 st, .int .i64 sr] 111)).cell? ⟨gf, sk, none⟩ = some (.int .i64 y) := by rw [World.cell?_alloc_lt _ _ _ lf]; exact cy
    have zyb : (W.alloc (.cells #[.int .i64 (sk : Int), .bool true, .int .i64 st, .int .i64 sr] 111)).frozen? ⟨gf, sk, none⟩ = false := (World.frozen?_of_block (a := ⟨gf, sk, none⟩) (Below.heap_alloc _ _ _ lf)).trans zy
    have lfb : gf < (W.alloc (.cells #[.int .i64 (sk : Int), .bool true, .int .i64 st, .int .i64 sr] 111)).heap.size := by simp; omega
    have C1 : Hid _ := c1b
    have C2 : Hid _ := c2b
    have CY : Hid _ := cyb
    have ZY : Hid _ := zyb
    have LF : Hid _ := lfb
    have Q1 : Hid _ := q1b
    have hnq0 : W.heap.size ≠ gf := by omega
    clear FIN1 hp1 hp2 FIN0 c1b c2b cyb zyb lfb q1b c1a c2a cy zy
    go_enter Try.func95, Try.ntmps95
    go_wp2_with fail
    generalize hW1 : W.alloc (.cells #[.int .i64 (sk : Int), .bool true, .int .i64 st, .int .i64 sr] 111) = W1 at *
    generalize hqq : W.heap.size = q at *
    have c1 := C1.out
    have c2 := C2.out
    have cy' : (World.drew W1).cell? ⟨gf, sk, none⟩ = some (.int .i64 y) := CY.out
    have zy' : (World.drew W1).frozen? ⟨gf, sk, none⟩ = false := ZY.out
    have lf' : gf < (World.drew W1).heap.size := LF.out
    have q0 := Q1.out
    have hn1 : g1 ≠ gf := hg1
    have hn2 : g2 ≠ gf := fun e => hg2 e.symm
    have hnq : q ≠ gf := hnq0
    have hk : sk < n := hk0
    clear C1 C2 CY ZY LF Q1 hW1
    refine MR.frame fun A hA => ?_
    have hsz : A.tmps.size = 22 := by rw [hA]; rfl
    have e1 : A.eval (.tmp 1) = .pointer (some ⟨g1, 0, none⟩) := by rw [hA]; rfl
    have f1 := MR.read (t := 1) (by rw [hsz]; decide) e1
    have e2 : A.eval (.tmp 2) = .pointer (some ⟨g2, 0, none⟩) := by rw [hA]; rfl
    have f2 := MR.read (t := 2) (by rw [hsz]; decide) e2
    have e3 : A.eval (.tmp 3) = .pointer (some ⟨q, 0, none⟩) := by rw [hA]; rfl
    have f3 := MR.read (t := 3) (by rw [hsz]; decide) e3
    have HA : Hid (A = _) := hA
    clear hA
    refine MR.cut (fun aa w' => w' = (World.drew W1).setCell ⟨gf, sk, none⟩ (.int .i64 (y - more)) ∧ aa.defers = []) ?_ ?_
    · have hS : (fun w' : World => w'.cell? ⟨g1, 0, none⟩ = some (.slice (some ⟨gf, 0, none⟩) n cap) ∧ w'.cell? ⟨g2, 0, none⟩ = some (.int .i64 more) ∧ w'.cell? ⟨q, 0, none⟩ = some (.int .i64 (sk : Int))) (World.drew W1) := ⟨c1, c2, q0⟩
      have hdf : A.defers = [] := by rw [HA.out]
      refine wp_region_held (S := fun w' : World => w'.cell? ⟨g1, 0, none⟩ = some (.slice (some ⟨gf, 0, none⟩) n cap) ∧ w'.cell? ⟨g2, 0, none⟩ = some (.int .i64 more) ∧ w'.cell? ⟨q, 0, none⟩ = some (.int .i64 (sk : Int))) (by kernel_rfl) ?_
      change wpAnyH _ _ _ _ _ _ _ _ (World.drew W1)
      refine MR.takeH (i := 0) (some 6) (.slice (some ⟨gf, 0, none⟩) n cap) rfl rfl (by kernel_rfl) (by kernel_rfl) (by kernel_rfl) nofun hS (MR.free rfl) (fun wq hw => by simp [execOp, MR.ev, MR.size, hsz, e1, f1, e2, f2, e3, f3, hw.1, go_sem]) ?_
      refine MR.takeH (i := 1) (some 7) (.pointer (some ⟨q, 0, none⟩)) rfl rfl (by kernel_rfl) (by kernel_rfl) (by kernel_rfl) nofun hS (MR.free rfl) (fun wq hw => by simp [execOp, MR.ev, MR.size, hsz, e1, f1, e2, f2, e3, f3, go_sem]) ?_
      refine MR.takeH (i := 2) (some 8) (.int .i64 (sk : Int)) rfl rfl (by kernel_rfl) (by kernel_rfl) (by kernel_rfl) nofun hS (MR.free rfl) (fun wq hw => by simp [execOp, MR.ev, MR.size, hsz, e1, f1, e2, f2, e3, f3, hw.2.2, go_sem]) ?_
      refine MR.takeH (i := 3) (some 9) (.pointer (some ⟨gf, sk, none⟩)) rfl rfl (by kernel_rfl) (by kernel_rfl) (by kernel_rfl) nofun hS (MR.free rfl) (fun wq hw => by simp [execOp, MR.ev, MR.size, hsz, e1, f1, e2, f2, e3, f3, kk0, kkn, hk, go_sem]) ?_
      refine MR.takeH (i := 5) (some 11) (.int .i64 more) rfl rfl (by kernel_rfl) (by kernel_rfl) (by kernel_rfl) nofun hS (MR.free rfl) (fun wq hw => by simp [execOp, MR.ev, MR.size, hsz, e1, f1, e2, f2, e3, f3, hw.2.1, go_sem]) ?_
      refine MR.nowH (i := 4) (some 10) (.int .i64 y) (by kernel_rfl) rfl rfl (MR.free rfl) (by simp [execOp, MR.ev, MR.size, hsz, e1, f1, e2, f2, e3, f3, cy', lf', go_sem]) ⟨hS, ?_⟩
      refine MR.takeH (i := 6) (some 12) (.int .i64 (y - more)) rfl rfl (by kernel_rfl) (by kernel_rfl) (by kernel_rfl) nofun hS (MR.free rfl) (fun wq hw => by simp [execOp, MR.ev, MR.size, hsz, e1, f1, e2, f2, e3, f3, hwr, go_sem]) ?_
      refine MR.takeH (i := 7) (some 13) (.pointer (some ⟨gf, sk, none⟩)) rfl rfl (by kernel_rfl) (by kernel_rfl) (by kernel_rfl) nofun hS (MR.free rfl) (fun wq hw => by simp [execOp, MR.ev, MR.size, hsz, e1, f1, e2, f2, e3, f3, kk0, kkn, hk, go_sem]) ?_
      have hS2 : (fun w' : World => w'.cell? ⟨g1, 0, none⟩ = some (.slice (some ⟨gf, 0, none⟩) n cap) ∧ w'.cell? ⟨g2, 0, none⟩ = some (.int .i64 more) ∧ w'.cell? ⟨q, 0, none⟩ = some (.int .i64 (sk : Int))) ((World.drew W1).setCell ⟨gf, sk, none⟩ (.int .i64 (y - more))) := ⟨(World.cell?_of_block (a := ⟨g1, 0, none⟩) (Below.heap_setCell _ _ _ _ hn1)).trans c1, (World.cell?_of_block (a := ⟨g2, 0, none⟩) (Below.heap_setCell _ _ _ _ hn2)).trans c2, (World.cell?_of_block (a := ⟨q, 0, none⟩) (Below.heap_setCell _ _ _ _ hnq)).trans q0⟩
      refine MR.storeH (w' := (World.drew W1).setCell ⟨gf, sk, none⟩ (.int .i64 (y - more))) (i := 8) (by kernel_rfl) rfl (MR.free rfl) (by simp [execOp, MR.ev, MR.size, hsz, e1, f1, e2, f2, e3, f3, cy', zy', lf', go_sem]) ⟨hS2, ?_⟩
      exact wpAnyH_done (by kernel_rfl) ⟨rfl, rfl, by simp only [FL.put_defers]; exact hdf⟩ _
    rintro aa w2 ⟨rfl, hdf⟩
    exact bodyPost_end (results_none rfl _ _ _) hdf ⟨rfl, FIN.out⟩
  | false =>
    rw [show FL.dl more ⟨sk, false, st, sr⟩ = more from rfl] at hp1
    have FIN1 := FIN0.out (y + more)
    have hp2 : FL.put1 more o ⟨sk, false, st, sr⟩ = o.set sk (y + more) := hp1
    rw [← hp2] at FIN1
    have FIN : Hid _ := FIN1
    have hwr : IntKind.i64.wrap (y + more) = (y + more) := by rw [IntKind.wrap_i64]; omega
    have q1b : (W.alloc (.cells #[.int .i64 (sk : Int), .bool false, .int .i64 st, .int .i64 sr] 111)).cell? ⟨W.heap.size, 0, none⟩ = some (.int .i64 (sk : Int)) := by simp
    have c1b : (W.alloc (.cells #[.int .i64 (sk : Int), .bool false, .int .i64 st, .int .i64 sr] 111)).cell? ⟨g1, 0, none⟩ = some (.slice (some ⟨gf, 0, none⟩) n cap) := by rw [World.cell?_alloc_lt _ _ _ l1]; exact c1a
    have c2b : (W.alloc (.cells #[.int .i64 (sk : Int), .bool false, .int .i64 st, .int .i64 sr] 111)).cell? ⟨g2, 0, none⟩ = some (.int .i64 more) := by rw [World.cell?_alloc_lt _ _ _ l2]; exact c2a
    have cyb : (W.alloc (.cells #[.int .i64 (sk : Int), .bool false, .int .i64 st, .int .i64 sr] 111)).cell? ⟨gf, sk, none⟩ = some (.int .i64 y) := by rw [World.cell?_alloc_lt _ _ _ lf]; exact cy
    have zyb : (W.alloc (.cells #[.int .i64 (sk : Int), .bool false, .int .i64 st, .int .i64 sr] 111)).frozen? ⟨gf, sk, none⟩ = false := (World.frozen?_of_block (a := ⟨gf, sk, none⟩) (Below.heap_alloc _ _ _ lf)).trans zy
    have lfb : gf < (W.alloc (.cells #[.int .i64 (sk : Int), .bool false, .int .i64 st, .int .i64 sr] 111)).heap.size := by simp; omega
    have C1 : Hid _ := c1b
    have C2 : Hid _ := c2b
    have CY : Hid _ := cyb
    have ZY : Hid _ := zyb
    have LF : Hid _ := lfb
    have Q1 : Hid _ := q1b
    have hnq0 : W.heap.size ≠ gf := by omega
    clear FIN1 hp1 hp2 FIN0 c1b c2b cyb zyb lfb q1b c1a c2a cy zy
    go_enter Try.func95, Try.ntmps95
    go_wp2_with fail
    generalize hW1 : W.alloc (.cells #[.int .i64 (sk : Int), .bool false, .int .i64 st, .int .i64 sr] 111) = W1 at *
    generalize hqq : W.heap.size = q at *
    have c1 := C1.out
    have c2 := C2.out
    have cy' : (World.drew W1).cell? ⟨gf, sk, none⟩ = some (.int .i64 y) := CY.out
    have zy' : (World.drew W1).frozen? ⟨gf, sk, none⟩ = false := ZY.out
    have lf' : gf < (World.drew W1).heap.size := LF.out
    have q0 := Q1.out
    have hn1 : g1 ≠ gf := hg1
    have hn2 : g2 ≠ gf := fun e => hg2 e.symm
    have hnq : q ≠ gf := hnq0
    have hk : sk < n := hk0
    clear C1 C2 CY ZY LF Q1 hW1
    refine MR.frame fun A hA => ?_
    have hsz : A.tmps.size = 22 := by rw [hA]; rfl
    have e1 : A.eval (.tmp 1) = .pointer (some ⟨g1, 0, none⟩) := by rw [hA]; rfl
    have f1 := MR.read (t := 1) (by rw [hsz]; decide) e1
    have e2 : A.eval (.tmp 2) = .pointer (some ⟨g2, 0, none⟩) := by rw [hA]; rfl
    have f2 := MR.read (t := 2) (by rw [hsz]; decide) e2
    have e3 : A.eval (.tmp 3) = .pointer (some ⟨q, 0, none⟩) := by rw [hA]; rfl
    have f3 := MR.read (t := 3) (by rw [hsz]; decide) e3
    have HA : Hid (A = _) := hA
    clear hA
    refine MR.cut (fun aa w' => w' = (World.drew W1).setCell ⟨gf, sk, none⟩ (.int .i64 (y + more)) ∧ aa.defers = []) ?_ ?_
    · have hS : (fun w' : World => w'.cell? ⟨g1, 0, none⟩ = some (.slice (some ⟨gf, 0, none⟩) n cap) ∧ w'.cell? ⟨g2, 0, none⟩ = some (.int .i64 more) ∧ w'.cell? ⟨q, 0, none⟩ = some (.int .i64 (sk : Int))) (World.drew W1) := ⟨c1, c2, q0⟩
      have hdf : A.defers = [] := by rw [HA.out]
      refine wp_region_held (S := fun w' : World => w'.cell? ⟨g1, 0, none⟩ = some (.slice (some ⟨gf, 0, none⟩) n cap) ∧ w'.cell? ⟨g2, 0, none⟩ = some (.int .i64 more) ∧ w'.cell? ⟨q, 0, none⟩ = some (.int .i64 (sk : Int))) (by kernel_rfl) ?_
      change wpAnyH _ _ _ _ _ _ _ _ (World.drew W1)
      refine MR.takeH (i := 0) (some 14) (.slice (some ⟨gf, 0, none⟩) n cap) rfl rfl (by kernel_rfl) (by kernel_rfl) (by kernel_rfl) nofun hS (MR.free rfl) (fun wq hw => by simp [execOp, MR.ev, MR.size, hsz, e1, f1, e2, f2, e3, f3, hw.1, go_sem]) ?_
      refine MR.takeH (i := 1) (some 15) (.pointer (some ⟨q, 0, none⟩)) rfl rfl (by kernel_rfl) (by kernel_rfl) (by kernel_rfl) nofun hS (MR.free rfl) (fun wq hw => by simp [execOp, MR.ev, MR.size, hsz, e1, f1, e2, f2, e3, f3, go_sem]) ?_
      refine MR.takeH (i := 2) (some 16) (.int .i64 (sk : Int)) rfl rfl (by kernel_rfl) (by kernel_rfl) (by kernel_rfl) nofun hS (MR.free rfl) (fun wq hw => by simp [execOp, MR.ev, MR.size, hsz, e1, f1, e2, f2, e3, f3, hw.2.2, go_sem]) ?_
      refine MR.takeH (i := 3) (some 17) (.pointer (some ⟨gf, sk, none⟩)) rfl rfl (by kernel_rfl) (by kernel_rfl) (by kernel_rfl) nofun hS (MR.free rfl) (fun wq hw => by simp [execOp, MR.ev, MR.size, hsz, e1, f1, e2, f2, e3, f3, kk0, kkn, hk, go_sem]) ?_
      refine MR.takeH (i := 5) (some 19) (.int .i64 more) rfl rfl (by kernel_rfl) (by kernel_rfl) (by kernel_rfl) nofun hS (MR.free rfl) (fun wq hw => by simp [execOp, MR.ev, MR.size, hsz, e1, f1, e2, f2, e3, f3, hw.2.1, go_sem]) ?_
      refine MR.nowH (i := 4) (some 18) (.int .i64 y) (by kernel_rfl) rfl rfl (MR.free rfl) (by simp [execOp, MR.ev, MR.size, hsz, e1, f1, e2, f2, e3, f3, cy', lf', go_sem]) ⟨hS, ?_⟩
      refine MR.takeH (i := 6) (some 20) (.int .i64 (y + more)) rfl rfl (by kernel_rfl) (by kernel_rfl) (by kernel_rfl) nofun hS (MR.free rfl) (fun wq hw => by simp [execOp, MR.ev, MR.size, hsz, e1, f1, e2, f2, e3, f3, hwr, go_sem]) ?_
      refine MR.takeH (i := 7) (some 21) (.pointer (some ⟨gf, sk, none⟩)) rfl rfl (by kernel_rfl) (by kernel_rfl) (by kernel_rfl) nofun hS (MR.free rfl) (fun wq hw => by simp [execOp, MR.ev, MR.size, hsz, e1, f1, e2, f2, e3, f3, kk0, kkn, hk, go_sem]) ?_
      have hS2 : (fun w' : World => w'.cell? ⟨g1, 0, none⟩ = some (.slice (some ⟨gf, 0, none⟩) n cap) ∧ w'.cell? ⟨g2, 0, none⟩ = some (.int .i64 more) ∧ w'.cell? ⟨q, 0, none⟩ = some (.int .i64 (sk : Int))) ((World.drew W1).setCell ⟨gf, sk, none⟩ (.int .i64 (y + more))) := ⟨(World.cell?_of_block (a := ⟨g1, 0, none⟩) (Below.heap_setCell _ _ _ _ hn1)).trans c1, (World.cell?_of_block (a := ⟨g2, 0, none⟩) (Below.heap_setCell _ _ _ _ hn2)).trans c2, (World.cell?_of_block (a := ⟨q, 0, none⟩) (Below.heap_setCell _ _ _ _ hnq)).trans q0⟩
      refine MR.storeH (w' := (World.drew W1).setCell ⟨gf, sk, none⟩ (.int .i64 (y + more))) (i := 8) (by kernel_rfl) rfl (MR.free rfl) (by simp [execOp, MR.ev, MR.size, hsz, e1, f1, e2, f2, e3, f3, cy', zy', lf', go_sem]) ⟨hS2, ?_⟩
      exact wpAnyH_done (by kernel_rfl) ⟨rfl, rfl, by simp only [FL.put_defers]; exact hdf⟩ _
    rintro aa w2 ⟨rfl, hdf⟩
    exact bodyPost_end (results_none rfl _ _ _) hdf ⟨rfl, FIN.out⟩
set_option linter.unusedSimpArgs false in
set_option maxHeartbeats 1600000 in
set_option maxRecDepth 100000 in
theorem putOn_any (lo F gf n cap : Nat) (cs : Array Value) (l : List FL.Stp) (fs : List Int) (more : Int) (w : World) (h : FL.RowF lo w F cs l) (ho : w.ownsRow 0 3 1 (.slice (some ⟨gf, 0, none⟩) n cap) n (M4.iv fs)) (hn : n ≤ 1000) (hm0 : 0 < more) (hm1 : more ≤ 100)
    (hl : ∀ x ∈ l, x.k < n) (hf : ∀ j, j < n → 0 ≤ fs.getD j 0 ∧ fs.getD j 0 ≤ 100) (hnd : (l.map FL.Stp.k).Nodup) :
    Calls Try.prog 85 #[.func (.func F) #[] cs, .slice (some ⟨gf, 0, none⟩) n cap, .int .i64 more] w fun e w' => e = .returned (.tuple #[]) ∧ w'.ownsRow 0 3 1 (.slice (some ⟨gf, 0, none⟩) n cap) n (M4.iv (FL.putL more fs l)) ∧ MC.Only gf w w' := by
  have hfl : fs.length = n := by have := ho.1; simpa [M4.iv] using this
  have hgf : gf < w.heap.size := (ho.lt gf rfl).2
  obtain ⟨cur, hcur⟩ : ∃ cur, w.heap[gf]? = some (.cells cur 3 (0, 0)) := by
    rcases ho.2 with ⟨h, _⟩ | ⟨g, c, cur, h, _, h3, _⟩
    · cases h
    · cases h; exact ⟨cur, h3⟩
  obtain ⟨W2, hW2⟩ : ∃ W2, (w.alloc (.cells #[.slice (some ⟨gf, 0, none⟩) n cap] 29)).alloc (.cells #[.int .i64 more] 3) = W2 := ⟨_, rfl⟩
  have hs1 : (w.alloc (.cells #[.slice (some ⟨gf, 0, none⟩) n cap] 29)).heap.size = w.heap.size + 1 := by simp
  have hb1 : W2.heap[w.heap.size]? = some (.cells #[.slice (some ⟨gf, 0, none⟩) n cap] 29 (0, 0)) := by rw [← hW2, Below.heap_alloc _ _ _ (by omega)]; exact heap_alloc_new _ _
  have hb2 : W2.heap[w.heap.size + 1]? = some (.cells #[.int .i64 more] 3 (0, 0)) := by rw [← hW2, ← hs1]; exact heap_alloc_new _ _
  have RC := rowCallPut_any lo w.heap.size (w.heap.size + 1) w l (fun done W => W.ownsRow 0 3 1 (.slice (some ⟨gf, 0, none⟩) n cap) n (M4.iv (FL.putL more fs done)) ∧ MC.Only gf w W ∧ W.heap[w.heap.size]? = some (.cells #[.slice (some ⟨gf, 0, none⟩) n cap] 29 (0, 0)) ∧ W.heap[w.heap.size + 1]? = some (.cells #[.int .i64 more] 3 (0, 0)))
    (fun done s W hP hI => by
      obtain ⟨i1, i2, i3, i4⟩ := hI
      obtain ⟨rest, hr⟩ := hP
      have hmem : s ∈ l := by rw [← hr]; simp
      have hdn : ∀ x ∈ done, x.k < fs.length := fun x hx => by rw [hfl]; exact hl x (by rw [← hr]; simp [hx])
      have hsk := hl s hmem
      have hnot : s.k ∉ done.map FL.Stp.k := by
        rw [← hr, List.append_assoc, List.map_append, List.nodup_append] at hnd
        intro hx
        exact hnd.2.2 _ hx _ (by simp) rfl
      have hval : (FL.putL more fs done).getD s.k 0 = fs.getD s.k 0 := FL.putL_not _ _ hdn hnot
      have hb := hf s.k hsk
      refine Calls.mono (putTell_any w.heap.size (w.heap.size + 1) gf n cap (FL.putL more fs done) more s W i3 i4 i1 hsk hn (by omega) (by rw [hval]; exact hb.1) (by rw [hval]; exact hb.2) hm0 hm1) ?_
      rintro e w' ⟨rfl, j1, j2⟩
      refine ⟨rfl, by rw [FL.putL_snoc]; exact j1, i2.trans j2, ?_, ?_⟩
      · rw [j2.block _ (FL.lt_of_block i3) (by omega)]; exact i3
      · rw [j2.block _ (FL.lt_of_block i4) (by omega)]; exact i4)
    (fun done W hI k hk _ ht => hI.2.1.block k hk (fun e => by subst e; exact ht _ _ hcur)) h [] W2 (by rw [List.nil_append]; exact List.prefix_rfl)
    ⟨by rw [← hW2]; exact (ho.alloc _).alloc _, by rw [← hW2]; exact MC.Only.of_below (((Below.refl _ w).alloc (Nat.le_refl _) _).alloc (by simp) _), hb1, hb2⟩
  rw [List.nil_append] at RC
  clear hb1 hb2 hs1 hl hf hnd hcur hfl ho
  rcases h.which with ⟨rfl, rfl⟩ | ⟨rfl, c1, c2, rfl⟩
  · have RC2 : Hid (Calls Try.prog 79 #[.func (.func 95) #[] #[.pointer (some ⟨w.heap.size, 0, none⟩), .pointer (some ⟨w.heap.size + 1, 0, none⟩)]] W2 fun e w' => e = .returned (.tuple #[]) ∧ (w'.ownsRow 0 3 1 (.slice (some ⟨gf, 0, none⟩) n cap) n (M4.iv (FL.putL more fs l)) ∧ MC.Only gf w w')) := by
      refine Calls.mono RC ?_
      rintro e w' ⟨rfl, hI⟩
      exact ⟨rfl, hI.1, hI.2.1⟩
    clear RC h
    go_enter Try.func85, Try.ntmps85
    go_wp2_with fail
    refine Calls.mono RC2.out ?_
    rintro e w2 ⟨rfl, h1, h2⟩
    clear RC2
    go_wp2
    exact bodyPost_end (results_none rfl _ _ _) rfl ⟨rfl, h1, h2⟩
  · have RC2 : Hid (Calls Try.prog 93 #[.func (.func 95) #[] #[.pointer (some ⟨w.heap.size, 0, none⟩), .pointer (some ⟨w.heap.size + 1, 0, none⟩)], .pointer (some ⟨c1, 0, none⟩), .pointer (some ⟨c2, 0, none⟩)] W2 fun e w' => e = .returned (.tuple #[]) ∧ (w'.ownsRow 0 3 1 (.slice (some ⟨gf, 0, none⟩) n cap) n (M4.iv (FL.putL more fs l)) ∧ MC.Only gf w w')) := by
      refine Calls.mono RC ?_
      rintro e w' ⟨rfl, hI⟩
      exact ⟨rfl, hI.1, hI.2.1⟩
    clear RC h
    go_enter Try.func85, Try.ntmps85
    go_wp2_with fail
    refine Calls.mono RC2.out ?_
    rintro e w2 ⟨rfl, h1, h2⟩
    clear RC2
    go_wp2
    exact bodyPost_end (results_none rfl _ _ _) rfl ⟨rfl, h1, h2⟩
end Go.Proofs.Ytpabhjnpbnabiaa
namespace Go.Proofs.Ytpabhjnpbnabiaa
open Go.RowKit
namespace FL
structure AugI (fs : List Int) (S : St) (tn : Nat) (N : Int) (LL : List Int) : Prop where
  n : mostOf (S.L tn) = N
  pos : 0 < N
  up : N ≤ 100
  l : putL N fs (S.L tn) = LL
  k : ∀ x ∈ S.L tn, x.k < fs.length
  one : ((S.L tn).map Stp.k).Nodup
  non : S.L tn ≠ []
structure CaseI (fs : List Int) (S : St) (tn : Nat) (N : Int) (LL : List Int) : Prop where
  no : S.by_.getD tn 0 = -1 → N = 0 ∧ LL = fs
  yes : S.by_.getD tn 0 ≠ -1 → AugI fs S tn N LL
theorem caseI_of {xs : List I3} {fs : List Int} {f : Int} {tn : Nat} (A : Ask xs f (tn : Int)) (hl : fs.length = xs.length) (hfit : fitUp xs fs xs.length) : CaseI fs (srch xs fs f) tn (augN xs fs f (tn : Int)) (augL xs fs f (tn : Int)) := by
  have hre : reach xs fs f (tn : Int) = !decide ((srch xs fs f).by_.getD tn 0 = -1) := by unfold reach; rw [Int.toNat_natCast]
  have hrl : rowL xs fs f (tn : Int) = (srch xs fs f).L tn := by unfold rowL; rw [Int.toNat_natCast]
  constructor
  · intro h
    rw [decide_eq_true h] at hre
    have hr : reach xs fs f (tn : Int) = false := hre
    unfold augN augL; rw [hr]; exact ⟨rfl, rfl⟩
  · intro h
    rw [decide_eq_false h] at hre
    have hr : reach xs fs f (tn : Int) = true := hre
    have R := row_of A hfit hr
    have e : augL xs fs f (tn : Int) = putL (mostOf (rowL xs fs f (tn : Int))) fs (rowL xs fs f (tn : Int)) := by unfold augL; rw [if_pos hr]
    rw [e, augN_is hr, hrl]
    have R2 := R.pos; have R3 := R.up; have R4 := R.rooms; have R5 := R.one; have R6 := R.non
    rw [hrl] at R2 R3 R4 R5 R6
    exact ⟨rfl, R2, R3, rfl, fun x hx => by rw [hl]; exact (R4 x hx).1, R5, R6⟩
def pb (a : Option Addr) (n : Nat) : Nat := match a with
  | some x => x.block
  | none => n
end FL
set_option linter.unusedSimpArgs false in
set_option maxHeartbeats 1600000 in
set_option maxRecDepth 100000 in
theorem augment_any (a fa : Option Addr) (ca fc : Nat) (xs : List I3) (fs : List Int) (f t : Int) (w : World) (hA : FL.Ask xs f t) (hfit : FL.fitUp xs fs xs.length) (hin : MI3.RowAt w a xs) (ho : w.ownsRow 0 3 1 (.slice fa xs.length fc) xs.length (M4.iv fs)) :
    Calls Try.prog 64 #[.slice a xs.length ca, .int .i64 f, .int .i64 t, .slice fa xs.length fc] w fun e w' => e = .returned (.int .i64 (FL.augN xs fs f t)) ∧ w'.ownsRow 0 3 1 (.slice fa xs.length fc) xs.length (M4.iv (FL.augL xs fs f t)) ∧ MC.Only (FL.pb fa w.heap.size) w w' := by
  have hl : fs.length = xs.length := by have := ho.1; simpa [M4.iv] using this
  have hlen := hA.len
  have RF := rowsFrom_any a fa ca fc xs fs f w hA.ok hA.f0 hA.f7 hl hfit hin (M5.own_ints ho)
  obtain ⟨tn, rfl⟩ := Int.eq_ofNat_of_zero_le hA.t0
  have htn : tn < 8 := by have := hA.t7; omega
  have CI : Hid _ := FL.caseI_of hA hl hfit
  rw [hl] at RF
  have FB : Hid (∀ j, j < xs.length → 0 ≤ fs.getD j 0 ∧ fs.getD j 0 ≤ 100) := fun j hj => by
    have h1 := hfit j hj; have h2 := (hA.good hj).c1; exact ⟨h1.1, by omega⟩
  have HL : Hid _ := hl
  have HO : Hid (w.ownsRow 0 3 1 (.slice fa xs.length fc) xs.length (M4.iv fs)) := ho
  generalize FL.srch xs fs f = S at *
  generalize FL.augN xs fs f (tn : Int) = N at *
  generalize FL.augL xs fs f (tn : Int) = LL at *
  have RF1 : Hid _ := RF
  clear hin hA hfit hl ho RF
  have tt0 : (0 : Int) ≤ (tn : Int) := by omega
  have tt8 : (tn : Int) < 8 := by omega
  have EQN := eqNil8
  have EQF := eqFun8
  go_enter Try.func64, Try.ntmps64
  go_wp2_with fail
  refine Calls.mono RF1.out ?_
  rintro e w1 ⟨vf, rfl, hFn, hb1⟩
  have IX : ∀ W : World, (Instr.index 88 (.agg (FL.vl vf).toArray) (.int .i64 (tn : Int))).run Try.prog W = .ok (vf tn) W := fun W => MA.run_index Try.underlying88 (by go_simp) (by go_simp) htn (FL.vl_get _ htn)
  have hO1 := M5.own_below HO.out hb1
  have HO1 : Hid (w1.ownsRow 0 3 1 (.slice fa xs.length fc) xs.length (M4.iv fs)) := hO1
  clear RF1 HO hO1
  rcases hFn.is tn htn with ⟨hby, hvf⟩ | ⟨hby, F, cs, hvf, hRF⟩
  · obtain ⟨h1, h2⟩ := CI.out.no hby
    rw [hvf] at IX
    clear hFn hvf hby CI
    subst h1 h2
    go_wp2
    go_ret
    exact ⟨rfl, HO1.out, MC.Only.of_below hb1⟩
  · have AG : Hid _ := CI.out.yes hby
    have RM : Hid _ := room_any w.heap.size F cs (S.L tn) w1 hRF
    rw [AG.out.n] at RM
    have hx0 : 0 < xs.length := by
      cases hc : S.L tn with
      | nil => exact absurd hc AG.out.non
      | cons x l => have := AG.out.k x (by rw [hc]; simp); rw [HL.out] at this; omega
    obtain ⟨gf, rfl⟩ : ∃ gf, fa = some ⟨gf, 0, none⟩ := by
      rcases HO1.out.2 with ⟨h, h0⟩ | ⟨g, c, cur, h, _⟩
      · omega
      · cases h; exact ⟨g, rfl⟩
    have HRF : Hid _ := hRF
    rw [hvf] at IX
    clear hFn hvf hby CI hRF
    go_wp2_with fail
    refine Calls.mono RM.out ?_
    rintro e w2 ⟨rfl, hb2⟩
    have PO : Hid _ := putOn_any w.heap.size F gf xs.length fc cs (S.L tn) fs N w2 (HRF.out.keep fun k hk _ _ => hb2.block k hk) (M5.own_below HO1.out hb2) (by omega) AG.out.pos AG.out.up (fun x hx => by rw [← HL.out]; exact AG.out.k x hx) FB.out AG.out.one
    rw [AG.out.l] at PO
    have hB2 : Below w.heap.size w w2 := hb1.trans (hb2.mono hb1.size)
    clear RM HRF HO1 AG FB IX hb2 hb1
    go_wp2_with fail
    refine Calls.mono PO.out ?_
    rintro e w3 ⟨rfl, h1, h2⟩
    clear PO
    go_wp2
    go_ret
    exact ⟨rfl, h1, (MC.Only.of_below hB2).trans h2⟩
end Go.Proofs.Ytpabhjnpbnabiaa

/- What goes out of a node: moreOutOf of the program (and l8Out of the specification). -/
namespace Go.Proofs.Ytpabhjnpbnabiaa
open Go.RowKit
set_option linter.unusedSimpArgs false in
set_option maxHeartbeats 1600000 in
set_option maxRecDepth 100000 in
theorem moreOutOf_any (a b : Option Addr) (cap cb : Nat) (xs : List I3) (fs : List Int) (n : Int) (w : World) (hg : FL.okP xs = true) (hl : fs.length = xs.length) (hf : FL.fitUp xs fs xs.length) (hin : MI3.RowAt w a xs) (hos : M4.IntsAt w b fs) (R : Int) (hR : Hid (FL.outUp xs fs n xs.length = R)) :
    Calls Try.prog 48 #[.slice a xs.length cap, .int .i64 n, .slice b fs.length cb] w fun e w' => e = .returned (.int .i64 R) ∧ Below w.heap.size w w' := by
  have hn : xs.length ≤ 20 := ((FL.okP_iff xs).1 hg).1
  have HW : Hid _ := fun k hk => FL.outUp_within (n := n) hg hf k hk
  have HG : Hid _ := fun k hk => FL.okP_good hg (k := k) hk
  have HF : Hid _ := fun k hk => hf k hk
  have HI : Hid (MI3.RowAt w a xs) := hin
  have HS : Hid (M4.IntsAt w b fs) := hos
  clear hin hos hf hg
  rw [hl]
  have HL : Hid _ := hl
  clear hl
  go_enter Try.func48, Try.ntmps48
  go_wp2
  go_loopw [7, 12] (fun v iv wr => ∃ k : Nat, iv = .int .i64 k ∧ k ≤ xs.length ∧ (∃ s : Int, v = .int .i64 s ∧ Hid (FL.outUp xs fs n k = s)) ∧ Below w.heap.size w wr) (fun _ iv _ => (xs.length - intOf iv).toNat)
  case atStart => exact ⟨0, rfl, by omega, ⟨0, rfl, rfl⟩, Below.refl _ _⟩
  case round =>
    obtain ⟨k, rfl, hk, ⟨s, rfl, hs⟩, hb⟩ := hrel
    by_cases hlk : k < xs.length
    · obtain ⟨b1, off, rfl, hlt, c0, c1, c2⟩ := (HI.out.below hb).at hlk
      obtain ⟨b2, off2, rfl, hlt2, d0⟩ := M4.IntsAt.at (M4.IntsAt.below HS.out hb) (k := k) (by rw [HL.out]; exact hlk)
      have w1 := HW.out k hk
      have w2 := HW.out (k + 1) hlk
      have g := HG.out k hlk
      have f := HF.out k hlk
      rw [FL.outUp] at w2
      have HE : Hid (FL.outUp xs fs n (k + 1) = FL.outUp xs fs n k + FL.sg (MI3.at_ xs k) n (fs.getD k 0)) := rfl
      rw [hs.out] at w1 w2 HE
      generalize MI3.at_ xs k = x at *
      generalize fs.getD k 0 = y at *
      obtain ⟨x0, x1, x2⟩ := x
      have hne : x0 ≠ x1 := g.ne
      have hc1 : x2 ≤ 100 := g.c1
      have hb' : ∀ o, Below w.heap.size w (wr.alloc o) := fun o => hb.alloc hb.size o
      have HB : Hid _ := hb'
      clear hb' g hs HW HG HF HI HS hR
      simp only at f
      have d1 : ∀ o, (wr.alloc o).cell? ⟨b2, off2 + k, none⟩ = some (.int .i64 y) := fun o => by rw [World.cell?_alloc_lt _ _ _ hlt2]; exact d0
      by_cases hx : x0 = n
      · rw [FL.sg_from hx] at HE w2
        subst hx
        have hne' : x1 ≠ x0 := fun e => hne e.symm
        go_wp2
        go_roundw
        case rel => exact ⟨k + 1, by go_num, by omega, ⟨_, by go_num, HE⟩, HB.out _⟩
        case measure => simp [intOf]; omega
      · by_cases hy : x1 = n
        · rw [FL.sg_to hx hy] at HE w2
          subst hy
          go_wp2
          go_roundw
          case rel => exact ⟨k + 1, by go_num, by omega, ⟨_, by go_num, HE⟩, HB.out _⟩
          case measure => simp [intOf]; omega
        · rw [FL.sg_no hx hy, Int.add_zero] at HE
          have hx' : n ≠ x0 := fun e => hx e.symm
          have hy' : n ≠ x1 := fun e => hy e.symm
          go_wp2
          go_roundw
          case rel => exact ⟨k + 1, by go_num, by omega, ⟨_, rfl, HE⟩, HB.out _⟩
          case measure => simp [intOf]; omega
    · obtain rfl : k = xs.length := by omega
      have hF : Hid (s = R) := by show s = R; rw [← hs.out, ← hR.out]
      clear hs HW HG HF HI HS hR HL
      go_wp2
      go_ret
      exact ⟨retI7 hF.out, hb⟩
end Go.Proofs.Ytpabhjnpbnabiaa

/- mostThrough, AugmentOnce, MaxFlow, MinCut of the program. -/
namespace Go.Proofs.Ytpabhjnpbnabiaa
open Go.RowKit
namespace FL
theorem AtF.nextI {xs : List I3} {f t : Int} {fs : List Int} (h : AtF xs f t fs) (A : Ask xs f t) (hn : augN xs fs f t ≠ 0) : AtF xs f t (augL xs fs f t) ∧ outUp xs fs f xs.length < outUp xs (augL xs fs f t) f xs.length ∧ outUp xs (augL xs fs f t) f xs.length ≤ 2000 := by
  have N := h.next A hn
  rcases aug_zero (t := t) A (h.ok A).2 with ⟨_, e, _⟩ | ⟨_, _, _, e⟩
  · exact absurd e hn
  · rw [e] at N; exact ⟨N.1, N.2.2.1, N.2.2.2⟩
theorem AtF.sgn {xs : List I3} {f t : Int} {fs : List Int} (h : AtF xs f t fs) (A : Ask xs f t) : 0 ≤ augN xs fs f t ∧ (augN xs fs f t = 0 → augL xs fs f t = fs) := by
  rcases aug_zero (t := t) A (h.ok A).2 with ⟨r, e, _⟩ | ⟨_, p, _, e⟩
  · refine ⟨by omega, fun _ => ?_⟩
    unfold augL; rw [r]; rfl
  · exact ⟨by omega, fun h => by omega⟩
theorem own_rebase {w : World} {base e sz n g cap : Nat} {xs : List Value} (h : w.ownsRow 0 e sz (.slice (some ⟨g, 0, none⟩) n cap) n xs) (hb : base ≤ g) : w.ownsRow base e sz (.slice (some ⟨g, 0, none⟩) n cap) n xs := by
  refine ⟨h.1, ?_⟩
  rcases h.2 with ⟨h', _⟩ | ⟨g', c, cur, h1, h2, h3⟩
  · cases h'
  · cases h1; exact .inr ⟨g, cap, cur, rfl, hb, h3⟩
theorem own_zero {w : World} {base e sz n : Nat} {v : Value} {xs : List Value} (h : w.ownsRow base e sz v n xs) : w.ownsRow 0 e sz v n xs := own_base h (Nat.zero_le _)
end FL
set_option linter.unusedSimpArgs false in
set_option maxHeartbeats 1600000 in
set_option maxRecDepth 100000 in
theorem mostThrough_any (a : Option Addr) (ca : Nat) (xs : List I3) (f t : Int) (w : World) (hA : FL.Ask xs f t) (hin : MI3.RowAt w a xs) :
    Calls Try.prog 47 #[.slice a xs.length ca, .int .i64 f, .int .i64 t] w fun e w' => ∃ a1 c1, e = .returned (.slice a1 xs.length c1) ∧ w'.ownsRow w.heap.size 3 1 (.slice a1 xs.length c1) xs.length (M4.iv (FL.maxF xs f t)) ∧ Below w.heap.size w w' := by
  obtain ⟨i0, hi, hz0, hz1, hz2⟩ := info_parts Try.info3
  have hlen : xs.length ≤ 20 := hA.len
  have HI : Hid (MI3.RowAt w a xs) := hin
  have AU : Hid (∀ (W : World) (g cv : Nat) (fs : List Int), FL.AtF xs f t fs → MI3.RowAt W a xs → W.ownsRow 0 3 1 (.slice (some ⟨g, 0, none⟩) xs.length cv) xs.length (M4.iv fs) → Calls Try.prog 64 #[.slice a xs.length ca, .int .i64 f, .int .i64 t, .slice (some ⟨g, 0, none⟩) xs.length cv] W fun e w' => e = .returned (.int .i64 (FL.augN xs fs f t)) ∧ w'.ownsRow 0 3 1 (.slice (some ⟨g, 0, none⟩) xs.length cv) xs.length (M4.iv (FL.augL xs fs f t)) ∧ MC.Only g W w') := fun W g cv fs h h1 h2 => augment_any a (some ⟨g, 0, none⟩) ca cv xs fs f t W hA (h.ok hA).2 h1 h2
  have FI : Hid (∀ fs, FL.AtF xs f t fs → FL.augN xs fs f t = 0 → FL.maxF xs f t = fs) := fun fs h h1 => h.fin hA h1
  have SG : Hid (∀ fs, FL.AtF xs f t fs → 0 ≤ FL.augN xs fs f t ∧ (FL.augN xs fs f t = 0 → FL.augL xs fs f t = fs)) := fun fs h => h.sgn hA
  have NX : Hid (∀ fs, FL.AtF xs f t fs → FL.augN xs fs f t ≠ 0 → FL.AtF xs f t (FL.augL xs fs f t) ∧ FL.outUp xs fs f xs.length < FL.outUp xs (FL.augL xs fs f t) f xs.length ∧ FL.outUp xs (FL.augL xs fs f t) f xs.length ≤ 2000) := fun fs h h1 => h.nextI hA h1
  have ST : Hid (FL.AtF xs f t (List.replicate xs.length 0)) := FL.AtF.start xs f t
  generalize FL.maxF xs f t = FF at *
  clear hin hA
  go_enter Try.func47, Try.ntmps47
  go_wp2_with (at_make; refine wpList_make_full _ rfl _ _ 29 rfl w.heap.size 3 i0 (.int .i64 0) 1 Try.underlying29 hi hz0 hz1 .i64 .i64 _ _ xs.length rfl rfl rfl rfl ?_ ?_ ?_ ?_)
  · rw [hz2]; omega
  · unfold maxLen; omega
  · omega
  intro w1 hown hgrow
  rw [M4.made_iv] at hown
  have hb1 : Below w.heap.size w w1 := (Below.refl _ _).grown hgrow (Nat.le_refl _) (fun k hk => by cases hk)
  have HOW : Hid (w1.ownsRow 0 3 1 (.slice (some ⟨w.heap.size, 0, none⟩) xs.length xs.length) xs.length (M4.iv (List.replicate xs.length 0))) := FL.own_zero hown
  clear hgrow hi hz0 hz1 hz2 hown
  go_wp2_with fail
  go_loopw [15] (fun _ wr => ∃ fs : List Int, Hid (FL.AtF xs f t fs) ∧ wr.ownsRow 0 3 1 (.slice (some ⟨w.heap.size, 0, none⟩) xs.length xs.length) xs.length (M4.iv fs) ∧ Below w.heap.size w wr) (fun _ wr => FL.mu8 xs f wr (.slice (some ⟨w.heap.size, 0, none⟩) xs.length xs.length))
  case atStart => exact ⟨_, ST, HOW.out, hb1⟩
  case round =>
    clear HOW ST hb1
    obtain ⟨fs, hF, hown, hb⟩ := hrel
    have AU2 : Hid _ := AU.out wr w.heap.size xs.length fs hF.out (HI.out.below hb) hown
    have NX2 : Hid _ := NX.out fs hF.out
    have FI2 : Hid _ := FI.out fs hF.out
    have SG2 := SG.out fs hF.out
    have HOW : Hid (wr.ownsRow 0 3 1 (.slice (some ⟨w.heap.size, 0, none⟩) xs.length xs.length) xs.length (M4.iv fs)) := hown
    clear hown
    generalize hl : FL.augL xs fs f t = l at *
    generalize hn : FL.augN xs fs f t = n at *
    clear hl hn
    have n0 := SG2.1
    have SG3 : Hid _ := SG2.2
    clear SG2
    go_wp2_with fail
    refine Calls.mono AU2.out ?_
    rintro e w2 ⟨rfl, ho, hon⟩
    have HO1 : Hid (w2.ownsRow 0 3 1 (.slice (some ⟨w.heap.size, 0, none⟩) xs.length xs.length) xs.length (M4.iv l)) := ho
    have hb2 : Below w.heap.size w w2 := hb.trans (hon.below (Nat.le_refl _) hb.size)
    clear AU2 ho hon
    by_cases hz : n = 0
    · have hE : Hid (FF = l) := by show FF = l; rw [SG3.out hz]; exact FI2.out hz
      subst hz
      clear NX2 FI2 SG3
      go_wp2
      go_ret
      exact ⟨some ⟨w.heap.size, 0, none⟩, xs.length, rfl, by rw [hE.out]; exact FL.own_rebase HO1.out (Nat.le_refl _), hb2⟩
    · obtain ⟨hA2, hlt, hle⟩ := NX2.out hz
      have HAA : Hid (FL.AtF xs f t l) := hA2
      have HLT : Hid (FL.outUp xs fs f xs.length < FL.outUp xs l f xs.length) := hlt
      have HLE : Hid (FL.outUp xs l f xs.length ≤ 2000) := hle
      have hnp : 0 < n := by omega
      clear NX2 FI2 hA2 hlt hle SG3 n0 hz
      go_wp2
      go_roundw
      case rel => exact ⟨l, HAA, HO1.out, hb2⟩
      case measure => exact FL.mu_lt HOW.out HO1.out HLT.out HLE.out
set_option linter.unusedSimpArgs false in
set_option maxHeartbeats 1600000 in
set_option maxRecDepth 100000 in
theorem implMaxFlow_any (a : Option Addr) (ca : Nat) (xs : List I3) (f t : Int) (w : World) (hn : xs.length ≤ 1048576) (hin : MI3.RowAt w a xs) :
    Calls Try.prog 20 #[.slice a xs.length ca, .int .i64 f, .int .i64 t] w fun e w' => ∃ a1 c1, e = .returned (.tuple #[.slice a1 (FL.mxL xs f t).length c1, .int .i64 (FL.mxN xs f t), .bool (FL.ask xs f t)]) ∧ w'.ownsRow w.heap.size 3 1 (.slice a1 (FL.mxL xs f t).length c1) (FL.mxL xs f t).length (M4.iv (FL.mxL xs f t)) ∧ Below w.heap.size w w' := by
  have MC : Hid _ := FL.mxC xs f t
  have AK : Hid _ := canFlow_any a ca xs f t w hn hin _ rfl
  have HI : Hid (MI3.RowAt w a xs) := hin
  have MX : Hid (FL.ask xs f t = true → ∀ W : World, MI3.RowAt W a xs → Calls Try.prog 47 #[.slice a xs.length ca, .int .i64 f, .int .i64 t] W fun e w' => ∃ a1 c1, e = .returned (.slice a1 xs.length c1) ∧ w'.ownsRow W.heap.size 3 1 (.slice a1 xs.length c1) xs.length (M4.iv (FL.maxF xs f t)) ∧ Below W.heap.size W w') := fun h W h1 => mostThrough_any a ca xs f t W (FL.ask_is h) h1
  have OU : Hid (FL.ask xs f t = true → ∀ (W : World) (v : Option Addr) (cv : Nat), MI3.RowAt W a xs → M4.IntsAt W v (FL.maxF xs f t) → Calls Try.prog 48 #[.slice a xs.length ca, .int .i64 f, .slice v xs.length cv] W fun e w' => e = .returned (.int .i64 (FL.outUp xs (FL.maxF xs f t) f xs.length)) ∧ Below W.heap.size W w') := fun h W v cv h1 h2 => by
    have A := FL.ask_is h
    have o := FL.maxF_ok A
    have := moreOutOf_any a v ca cv xs (FL.maxF xs f t) f W A.ok o.1 o.2 h1 h2 _ rfl
    rwa [o.1] at this
  generalize FL.mxL xs f t = L at *
  generalize FL.mxN xs f t = N at *
  generalize FL.maxF xs f t = FF at *
  generalize FL.ask xs f t = is at *
  clear hin
  go_enter Try.func20, Try.ntmps20
  go_wp2_with fail
  refine Calls.mono AK.out ?_
  rintro e w0 ⟨rfl, hb0⟩
  clear AK
  cases is with
  | false =>
    obtain ⟨h1, h2⟩ := MC.out.no rfl
    clear MC MX OU HI
    subst h1 h2
    go_wp2
    go_ret3
    exact ⟨none, 0, rfl, World.ownsRow_nil _ _ _ _, hb0⟩
  | true =>
    obtain ⟨h1, h2⟩ := MC.out.yes rfl
    have MX2 : Hid _ := MX.out rfl w0 (HI.out.below hb0)
    have OU2 : Hid _ := OU.out rfl
    subst h2
    clear MC MX OU
    go_wp2_with fail
    refine Calls.mono MX2.out ?_
    rintro e w1 ⟨a1, c1, rfl, ho, hb1⟩
    have hB1 := hb0.trans (hb1.mono hb0.size)
    have hlen : L.length = xs.length := by have := ho.1; simpa [M4.iv] using this
    have HLE : Hid _ := hlen
    have HO1 : Hid (w1.ownsRow w.heap.size 3 1 (.slice a1 xs.length c1) xs.length (M4.iv L)) := FL.own_base ho hb0.size
    have OU3 : Hid _ := OU2.out w1 a1 c1 (HI.out.below hB1) (M5.own_ints ho)
    clear MX2 OU2 ho hlen HI hb0 hb1
    generalize hN : FL.outUp xs L f xs.length = N2 at *
    clear hN
    subst h1
    go_wp2_with fail
    refine Calls.mono OU3.out ?_
    rintro e w2 ⟨rfl, hb2⟩
    clear OU3
    go_wp2
    go_ret3
    exact ⟨a1, c1, by rw [HLE.out]; rfl, by rw [HLE.out]; exact M5.own_below HO1.out hb2, hB1.trans (hb2.mono hB1.size)⟩
end Go.Proofs.Ytpabhjnpbnabiaa
