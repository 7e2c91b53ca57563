/- Jobs by an order's rank: numbersBelow, slices.Clone, (jobOrder).of, byDue of the program. -/
import Derived.Test.YtgenmljnhlcpcaaRows
import Derived.Test.YtgenmljnhlcpcaaCJob1
import Derived.Test.YtgenmljnhlcpcaaCStabG
import Derived.Test.YtgenmljnhlcpcaaMJT
import Derived.Test.YtgenmljnhlcpcaaCCloneJ
import Derived.Test.YtgenmljnhlcpcaaCNumB
namespace Go.Proofs.Ytgenmljnhlcpcaa
open Go.RowKit
set_option linter.unusedSimpArgs false in
set_option maxHeartbeats 1600000 in
set_option maxRecDepth 100000 in
theorem of_any (F g cap : Nat) (cb : Array Value) (zs : List Int) (r : Int → Nat) (m : Nat) (w : World) (hl : zs.length ≤ 10) (hin : M4.IntsAt w (some ⟨g, 0, none⟩) zs) (eg : ∀ args w, (callFunc F args).run Try.prog w = .ok (.enter F args) w)
    (hR : ∀ W : World, Below w.heap.size w W → ∀ z, z ∈ zs → Calls Try.prog F (#[.int .i64 z] ++ cb) W fun e w' => e = .returned (.int .i64 (r z : Int)) ∧ W = w') (hm : ∀ z, z ∈ zs → r z < m) :
    Calls Try.prog 37 #[.agg #[.func (.func F) #[] cb], .slice (some ⟨g, 0, none⟩) zs.length cap] w fun e w' => ∃ g1 c1, e = .returned (.slice (some ⟨g1, 0, none⟩) zs.length c1) ∧ w'.ownsRow w.heap.size 3 1 (.slice (some ⟨g1, 0, none⟩) zs.length c1) zs.length (M4.iv (JD.srt r zs m)) ∧ Below w.heap.size w w' := by
  have hb0 : Below w.heap.size w (w.alloc (.cells #[.func (.func F) #[] cb] 56)) := (Below.refl _ w).alloc (Nat.le_refl _) _
  have CL : Hid _ := cloneJ_any g zs.length cap zs (w.alloc (.cells #[.func (.func F) #[] cb] 56)) rfl (by omega) (hin.below hb0)
  have SS : Hid (∀ (w1 : World) (g1 c1 : Nat), w1.ownsRow (w.alloc (.cells #[.func (.func F) #[] cb] 56)).heap.size 3 1 (.slice (some ⟨g1, 0, none⟩) zs.length c1) zs.length (M4.iv zs) → Below (w.alloc (.cells #[.func (.func F) #[] cb] 56)).heap.size (w.alloc (.cells #[.func (.func F) #[] cb] 56)) w1 →
      Calls Try.prog 57 #[.slice (some ⟨g1, 0, none⟩) zs.length c1, .func (.func 58) #[] #[.pointer (some ⟨w.heap.size, 0, none⟩)]] w1 fun e w' => e = .returned (.tuple #[]) ∧ w'.ownsRow w.heap.size 3 1 (.slice (some ⟨g1, 0, none⟩) zs.length c1) zs.length (M4.iv (JD.srt r zs m)) ∧ Below w.heap.size w w') := fun w1 g1 c1 ho hb => by
    have hgl := (ho.lt g1 rfl).1
    have hsz : (w.alloc (.cells #[.func (.func F) #[] cb] 56)).heap.size = w.heap.size + 1 := by simp
    have hb1 : Below w.heap.size w w1 := hb0.trans (hb.mono (by omega))
    have hcell : w1.cell? ⟨w.heap.size, 0, none⟩ = some (.func (.func F) #[] cb) := by
      rw [hb.cell (p := ⟨w.heap.size, 0, none⟩) (by simp), World.cell?_alloc_new]; rfl
    refine (sortG_any g1 c1 (w.alloc (.cells #[.func (.func F) #[] cb] 56)).heap.size zs r m 58 #[.pointer (some ⟨w.heap.size, 0, none⟩)] (fun x y => JD.cmpI (r x : Int) (r y : Int)) w1 hl ho (enters_of Try.func58 (by rfl) rfl) ?_ (fun x y => JD.cmpI_lt _ _) hm).mono ?_
    · intro wr ha1 ha2 ha3 hs hk x y hx hy
      refine ofCmp_any F w.heap.size cb x y (r x : Int) (r y : Int) wr ?_ eg ?_
      · rw [World.cell?_of_block (w := w1) (hk w.heap.size (by omega))]; exact hcell
      · rintro z rz hz n
        have hBz : Below w.heap.size w (wr.drewN n) := ⟨ha1.trans hb1.os, ha2.trans hb1.tape, ha3.trans hb1.output, by show w.heap.size ≤ wr.heap.size; have := hb1.size; omega, fun k hk2 => (hk k (by omega)).trans (hb1.block k hk2)⟩
        rcases hz with ⟨rfl, rfl⟩ | ⟨rfl, rfl⟩
        · exact (hR _ hBz _ hx).mono (by rintro e w' ⟨rfl, rfl⟩; exact ⟨rfl, 0, rfl⟩)
        · exact (hR _ hBz _ hy).mono (by rintro e w' ⟨rfl, rfl⟩; exact ⟨rfl, 0, rfl⟩)
    · rintro e w2 ⟨rfl, h1, h2, h3, h4, h5, h6⟩
      refine ⟨rfl, ⟨h1.1, ?_⟩, ⟨h2.trans hb1.os, h3.trans hb1.tape, h4.trans hb1.output, by have := hb1.size; omega, fun k hk => (h6 k (by omega)).trans (hb1.block k hk)⟩⟩
      rcases h1.2 with hn | ⟨g', cap', cur, e1, e2, rest⟩
      · exact .inl hn
      · exact .inr ⟨g', cap', cur, e1, by omega, rest⟩
  clear hin hR hm hb0
  go_enter Try.func37, Try.ntmps37
  go_wp2_with fail
  refine Calls.mono CL.out ?_
  rintro e w1 ⟨g1, c1, rfl, ho, hb⟩
  have S2 : Hid _ := SS.out w1 g1 c1 ho hb
  clear CL SS ho hb
  go_wp2_with fail
  refine Calls.mono S2.out ?_
  rintro e w2 ⟨rfl, o2, b2⟩
  have HO2 : Hid _ := o2
  clear S2 o2
  go_wp2
  go_ret
  exact ⟨g1, c1, rfl, HO2.out, b2⟩
set_option linter.unusedSimpArgs false in
set_option maxHeartbeats 1600000 in
set_option maxRecDepth 100000 in
theorem byDue_any (a : Option Addr) (ca : Nat) (xs : List I2) (w : World) (hg : JD.okP xs = true) (hin : MI2.RowAt w a xs) :
    Calls Try.prog 26 #[.slice a xs.length ca] w fun e w' => ∃ g1 c1, e = .returned (.slice (some ⟨g1, 0, none⟩) xs.length c1) ∧ w'.ownsRow w.heap.size 3 1 (.slice (some ⟨g1, 0, none⟩) xs.length c1) xs.length (M4.iv (JD.byD xs)) ∧ Below w.heap.size w w' := by
  have hlen := ((JD.okP_iff xs).1 hg).1
  have OF : Hid (∀ (w1 w2 : World) (g c : Nat), w1.cell? ⟨w.heap.size, 0, none⟩ = some (.slice a xs.length ca) → w.heap.size < w1.heap.size → Below w.heap.size w w1 → w2.ownsRow w1.heap.size 3 1 (.slice (some ⟨g, 0, none⟩) xs.length c) xs.length (M4.iv (JD.nums xs.length)) → Below w1.heap.size w1 w2 →
      Calls Try.prog 37 #[.agg #[.func (.func 61) #[] #[.pointer (some ⟨w.heap.size, 0, none⟩)]], .slice (some ⟨g, 0, none⟩) xs.length c] w2 fun e w' => ∃ g1 c1, e = .returned (.slice (some ⟨g1, 0, none⟩) xs.length c1) ∧ w'.ownsRow w.heap.size 3 1 (.slice (some ⟨g1, 0, none⟩) xs.length c1) xs.length (M4.iv (JD.byD xs)) ∧ Below w.heap.size w w') := fun w1 w2 g c hc h1 hb1 ho hb2 => by
    have hb02 : Below w.heap.size w w2 := hb1.trans (hb2.mono hb1.size)
    have h := of_any 61 g c #[.pointer (some ⟨w.heap.size, 0, none⟩)] (JD.nums xs.length) (JD.dueN xs) 1001 w2 (by rw [JD.nums_len]; exact hlen) (M4.IntsAt.of_own ho) (enters_of Try.func61 (by rfl) rfl) (fun W hW z hz => by
      obtain ⟨h0, hz1⟩ := (JD.nums_mem _ _).1 hz
      obtain ⟨j, rfl⟩ := Int.eq_ofNat_of_zero_le h0
      have hbW : Below w.heap.size w W := hb02.trans (hW.mono hb02.size)
      have hcW : W.cell? ⟨w.heap.size, 0, none⟩ = some (.slice a xs.length ca) := by
        have hs2 := hb2.size
        rw [hW.cell (p := ⟨w.heap.size, 0, none⟩) (by show w.heap.size < w2.heap.size; omega), hb2.cell (p := ⟨w.heap.size, 0, none⟩) h1]; exact hc
      refine (rankDue_any a ca w.heap.size xs j W (by omega) hlen hcW (hin.below hbW)).mono ?_
      rintro e w' ⟨rfl, rfl⟩
      have := JD.due_is hg h0 hz1
      rw [Int.toNat_natCast] at this
      exact ⟨by rw [this], rfl⟩) (fun z hz => by
      obtain ⟨h0, hz1⟩ := (JD.nums_mem _ _).1 hz
      exact JD.due_lt hg h0 hz1)
    rw [JD.nums_len] at h
    refine h.mono ?_
    rintro e w3 ⟨g1, c1, rfl, o3, b3⟩
    refine ⟨g1, c1, rfl, ⟨o3.1, ?_⟩, hb02.trans (b3.mono hb02.size)⟩
    rcases o3.2 with hn | ⟨g', cap', cur, e1, e2, rest⟩
    · exact .inl hn
    · exact .inr ⟨g', cap', cur, e1, Nat.le_trans hb02.size e2, rest⟩
  clear hin hg
  go_enter Try.func26, Try.ntmps26
  go_wp2_with fail
  refine (orderDue_any a ca xs.length _).mono ?_
  rintro e w1 ⟨rfl, hc1, hl1, hb1⟩
  go_wp2_with fail
  refine (numbersBelow_any xs.length _ (by omega)).mono ?_
  rintro e w2 ⟨g, c, rfl, ho, hb2⟩
  have O2 : Hid _ := OF.out w1 w2 g c hc1 hl1 hb1 ho hb2
  clear OF ho hb2 hb1 hc1 hl1
  go_wp2_with fail
  refine Calls.mono O2.out ?_
  rintro e w3 ⟨g1, c1, rfl, o3, b3⟩
  have HO3 : Hid _ := o3
  clear O2 o3
  go_wp2
  go_ret
  exact ⟨g1, c1, rfl, HO3.out, b3⟩
end Go.Proofs.Ytgenmljnhlcpcaa
