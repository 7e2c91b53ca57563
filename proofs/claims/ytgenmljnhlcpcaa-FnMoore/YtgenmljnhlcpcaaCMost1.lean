import Derived.Test.YtgenmljnhlcpcaaRows
import Derived.Test.YtgenmljnhlcpcaaCJob1
import Derived.Test.YtgenmljnhlcpcaaLayDel
import Derived.Test.YtgenmljnhlcpcaaCJob2
import Derived.Test.YtgenmljnhlcpcaaMJO
import Derived.Lib.OwnBridge
/- The program's order of jobs by how long they are. -/
namespace Go.Proofs.Ytgenmljnhlcpcaa
open Go.RowKit
set_option maxHeartbeats 800000 in
set_option maxRecDepth 100000 in
theorem rankLong_any (a : Option Addr) (ca c : Nat) (xs : List I2) (j : Nat) (w : World) (hj : j < xs.length) (_hl : xs.length ≤ 10) (hc : w.cell? ⟨c, 0, none⟩ = some (.slice a xs.length ca)) (hin : MI2.RowAt w a xs) :
    Calls Try.prog 73 #[.int .i64 (j : Int), .pointer (some ⟨c, 0, none⟩)] w fun e w' => e = .returned (.int .i64 (MI2.at_ xs j).a0) ∧ w = w' := by
  obtain ⟨b2, off2, rfl, hlt2, c2, _⟩ := hin.at hj
  clear hin
  generalize (MI2.at_ xs j).a0 = x at *
  go_enter Try.func73, Try.ntmps73
  go_wp2
  go_ret
  exact ⟨rfl, rfl⟩
set_option maxHeartbeats 800000 in
set_option maxRecDepth 100000 in
theorem orderLong_any (a : Option Addr) (ca n : Nat) (w : World) : Calls Try.prog 50 #[.slice a n ca] w fun e w' => e = .returned (.agg #[.func (.func 73) #[] #[.pointer (some ⟨w.heap.size, 0, none⟩)]]) ∧ w'.cell? ⟨w.heap.size, 0, none⟩ = some (.slice a n ca) ∧ w.heap.size < w'.heap.size ∧ Below w.heap.size w w' := by
  have SF : ∀ (W : World) (ad : Addr) (F : Nat) (cs : Array Value) (m : Mode), (store ad (.func (.func F) #[] cs) m).run Try.prog W = stored Try.prog W ad (.func (.func F) #[] cs) m := fun W ad F cs m => run_store _ W ad _ m rfl
  have FIN : Hid (∀ o2 : Obj, ((w.alloc (.cells #[.slice a n ca] 23)).alloc o2).cell? ⟨w.heap.size, 0, none⟩ = some (.slice a n ca) ∧ w.heap.size < ((w.alloc (.cells #[.slice a n ca] 23)).alloc o2).heap.size ∧ Below w.heap.size w ((w.alloc (.cells #[.slice a n ca] 23)).alloc o2)) := fun o2 => by
    refine ⟨?_, by simp; omega, ((Below.refl _ w).alloc (Nat.le_refl _) _).alloc (by simp) _⟩
    have h1 : (w.alloc (.cells #[.slice a n ca] 23)).cell? ⟨w.heap.size, 0, none⟩ = some (.slice a n ca) := by rw [World.cell?_alloc_new]; rfl
    exact (((Below.refl _ (w.alloc (.cells #[.slice a n ca] 23))).alloc (Nat.le_refl _) o2).cell (p := ⟨w.heap.size, 0, none⟩) (by simp)).trans h1
  go_enter Try.func50, Try.ntmps50
  go_wp2
  exact bodyPost_ret (v := .agg #[.func (.func 73) #[] #[.pointer (some ⟨w.heap.size, 0, none⟩)]]) (by simp [results, Try.results50, go_sem]) rfl ⟨rfl, FIN.out _⟩
end Go.Proofs.Ytgenmljnhlcpcaa

/- What FewestLate of the program calls: slices.Delete of one number, slices.Index, endOf, (jobOrder).lastOf. -/
namespace Go.Proofs.Ytgenmljnhlcpcaa
open Go.RowKit
namespace JD
theorem put_only (w : World) (q g : Nat) (d : Array Int) : MC.Only g w (Sort.putRow (Value.int .i64) (Sort.ahead w q) g 0 d) := by
  refine ⟨rfl, rfl, rfl, ?_, fun k _ hk => ?_⟩
  · simp [Sort.putRow, Sort.mapBlock, Sort.ahead]
  · simp [Sort.putRow, Sort.mapBlock, Sort.ahead, Array.getElem?_modify, Ne.symm hk]
/-- When some jobs are done, whatever they are. -/
theorem endK_bd2 {xs : List I2} {ts : List Int} (hg : okP xs = true) (hr : ∀ z, z ∈ ts → 0 ≤ z ∧ z < xs.length) : ∀ k, k ≤ ts.length → 0 ≤ endK xs ts k ∧ endK xs ts k ≤ 100 * k
  | 0, _ => by simp [endK]
  | k + 1, hk => by
    have := endK_bd2 hg hr k (by omega)
    have h1 := hr _ (getD_mem (show k < ts.length by omega))
    have G := okP_good hg (k := (ts.getD k 0).toNat) (by omega)
    have := G.l0
    have := G.l1
    rw [endK, jl]; omega
theorem endK_sum {xs : List I2} {ts : List Int} (hg : okP xs = true) (hr : ∀ z, z ∈ ts → 0 ≤ z ∧ z < xs.length) : ∀ k, k ≤ ts.length → endK xs ts k = ((ts.take k).map fun z => (lngN xs z : Int)).sum
  | 0, _ => by simp [endK]
  | k + 1, hk => by
    have h1 := hr _ (getD_mem (show k < ts.length by omega))
    rw [endK, endK_sum hg hr k (by omega), M4.take_snoc _ _ (by omega), List.map_append, List.sum_append, jl, lng_is hg h1.1 h1.2]
    simp
end JD
set_option maxHeartbeats 800000 in
theorem delete_any (base g cap p : Nat) (zs : List Int) (w : World) (ho : w.ownsRow base 3 1 (.slice (some ⟨g, 0, none⟩) zs.length cap) zs.length (M4.iv zs)) (hp : p < zs.length) :
    Calls Try.prog 54 #[.slice (some ⟨g, 0, none⟩) zs.length cap, .int .i64 (p : Int), .int .i64 ((p : Int) + 1)] w fun e w' => e = .returned (.slice (some ⟨g, 0, none⟩) (zs.eraseIdx p).length cap) ∧ w'.ownsRow base 3 1 (.slice (some ⟨g, 0, none⟩) (zs.eraseIdx p).length cap) (zs.eraseIdx p).length (M4.iv (zs.eraseIdx p)) ∧ MC.Only g w w' := by
  obtain ⟨hc1, hc2⟩ := JD.own_cap ho
  have hH : Sort.Holds (Value.int .i64) w g 0 zs.toArray := by
    obtain ⟨g', cap', e, _, _, _, _, _, hh⟩ := Lib.holds_of_ownsRow (enc := Value.int .i64) ho (by simp)
    simp only [Value.slice.injEq, Option.some.injEq, Addr.mk.injEq, and_true] at e
    obtain ⟨rfl, -⟩ := e
    exact hh
  have h := Any.slices_Delete_int Try.laysLayDel g 0 cap p (p + 1) zs w hH hc1 (by unfold maxLen at hc2; omega) (by omega) (by omega)
  refine Calls.mono h ?_
  rintro e w' ⟨rfl, q, rfl⟩
  have hl : (zs.eraseIdx p).length = zs.length - 1 := by rw [List.length_eraseIdx, if_pos hp]
  have hl2 : (zs.take p ++ zs.drop (p + 1) ++ List.replicate (p + 1 - p) 0).length = zs.length := by simp; omega
  refine ⟨by rw [hl]; congr 2; omega, ?_, JD.put_only w q g _⟩
  have := Lib.ownsRow_putRow (enc := Value.int .i64) (q := q) (k := zs.length - 1) (ys := zs.take p ++ zs.drop (p + 1) ++ List.replicate (p + 1 - p) 0) ho hl2 (by omega)
  rw [hl, JD.erase_is]
  have e1 : (zs.take p ++ zs.drop (p + 1) ++ List.replicate (p + 1 - p) (0 : Int)).take (zs.length - 1) = zs.take p ++ zs.drop (p + 1) := by
    rw [List.take_append_of_le_length (by simp; omega), List.take_of_length_le (by simp; omega)]
  rw [e1] at this
  exact this
set_option maxHeartbeats 1600000 in
set_option maxRecDepth 100000 in
theorem indexAt_any (a : Option Addr) (cap p : Nat) (zs : List Int) (x : Int) (w : World) (ho : zs.length ≤ 1048576) (hos : M4.IntsAt w a zs) (hp : p < zs.length) (hx : zs.getD p 0 = x) (hnd : zs.Nodup) :
    Calls Try.prog 52 #[.slice a zs.length cap, .int .i64 x] w fun e w' => e = .returned (.int .i64 (p : Int)) ∧ w = w' := by
  have HFI : Hid (∀ k, k < p → zs.getD k 0 ≠ x) := fun k hk e => by
    rw [← hx, JD.getD_at (by omega), JD.getD_at hp] at e
    exact List.pairwise_iff_getElem.1 (List.nodup_iff_pairwise_ne.1 hnd) k p (by omega) hp hk e
  have HX : Hid _ := hx
  clear hx hnd
  go_enter Try.func52, Try.ntmps52
  go_wp2
  go_loopw [8] (fun iv wr => ∃ k : Nat, iv = .int .i64 k ∧ k ≤ p ∧ w = wr) (fun iv _ => (zs.length - intOf iv).toNat)
  case atStart => exact ⟨0, rfl, by omega, rfl⟩
  case round =>
    obtain ⟨k, rfl, hk, rfl⟩ := hrel
    have hlk : k < zs.length := by omega
    obtain ⟨b1, off1, rfl, hlt1, hc1⟩ := hos.at hlk
    clear hos
    by_cases hkp : k = p
    · have HK : Hid _ := hkp
      have hc2 : w.cell? ⟨b1, off1 + k, none⟩ = some (.int .i64 x) := by rw [hc1, hkp, HX.out]
      clear hc1 hkp
      go_wp2
      go_ret
      exact ⟨by rw [← HK.out]; rfl, rfl⟩
    · have hne := HFI.out k (by omega)
      generalize zs.getD k 0 = y at *
      go_wp2
      go_roundw
      case rel => exact ⟨k + 1, by go_num, by omega, trivial⟩
      case measure => simp [intOf]; omega
set_option linter.unusedSimpArgs false in
set_option maxHeartbeats 1600000 in
set_option maxRecDepth 100000 in
theorem endOf_any (a b : Option Addr) (ca cb : Nat) (xs : List I2) (ts : List Int) (w : World) (HG : Hid (JD.okP xs = true)) (HTR : Hid (∀ z, z ∈ ts → 0 ≤ z ∧ z < xs.length)) (hl : ts.length ≤ 20) (hin : MI2.RowAt w a xs) (hos : M4.IntsAt w b ts) :
    Calls Try.prog 51 #[.slice a xs.length ca, .slice b ts.length cb] w fun e w' => e = .returned (.int .i64 (JD.endK xs ts ts.length)) ∧ w = w' := by
  have HXI : Hid (MI2.RowAt w a xs) := hin
  have HOS : Hid (M4.IntsAt w b ts) := hos
  clear hin hos
  go_enter Try.func51, Try.ntmps51
  go_wp2
  go_loopw [5, 7, 10] (fun ev _ iv wr => ∃ (k : Nat) (en : Int), iv = .int .i64 k ∧ k ≤ ts.length ∧ ev = .int .i64 en ∧ Hid (JD.endK xs ts k = en) ∧ w = wr) (fun _ _ iv _ => (ts.length - intOf iv).toNat)
  case atStart => exact ⟨0, 0, rfl, by omega, rfl, (show Hid _ from rfl), rfl⟩
  case round =>
    obtain ⟨k, en, rfl, hk, rfl, HE, rfl⟩ := hrel
    by_cases hlk : k < ts.length
    · obtain ⟨b6, off6, rfl, hlt6, hc6⟩ := HOS.out.at hlk
      obtain ⟨z, hz, hzx⟩ := JD.nat_at HTR.out hlk
      obtain ⟨b8, off8, rfl, hlt8, hc8, -⟩ := HXI.out.at hzx
      obtain ⟨e1, e2⟩ := JD.endK_bd2 HG.out HTR.out k hk
      have j1 := (JD.okP_good HG.out hzx).l0
      have j2 := (JD.okP_good HG.out hzx).l1
      rw [HE.out] at e1 e2
      have HE2 : Hid (JD.endK xs ts (k + 1) = en + (MI2.at_ xs z).a0) := by show _ = _; rw [JD.endK, HE.out, JD.jl, hz, Int.toNat_natCast]
      rw [hz] at hc6
      clear hz
      generalize (MI2.at_ xs z).a0 = l at *
      have q1 : IntKind.i64.wrap (en + l) = en + l := by rw [IntKind.wrap_i64]; omega
      go_wp2
      go_roundw
      case rel => exact ⟨k + 1, en + l, by go_num, by omega, rfl, HE2, trivial⟩
      case measure => simp [intOf]; omega
    · obtain rfl : k = ts.length := by omega
      clear HXI HOS
      go_wp2
      go_ret
      exact ⟨by rw [HE.out]; rfl, rfl⟩
set_option linter.unusedSimpArgs false in
set_option maxHeartbeats 1600000 in
set_option maxRecDepth 100000 in
theorem lastOf_any (F g cap : Nat) (cb : Array Value) (zs : List Int) (r : Int → Nat) (m : Nat) (w : World) (hl : zs.length ≤ 10) (h0 : 0 < zs.length) (hin : M4.IntsAt w (some ⟨g, 0, none⟩) zs) (eg : ∀ args w, (callFunc F args).run Try.prog w = .ok (.enter F args) w)
    (hR : ∀ W : World, Below w.heap.size w W → ∀ z, z ∈ zs → Calls Try.prog F (#[.int .i64 z] ++ cb) W fun e w' => e = .returned (.int .i64 (r z : Int)) ∧ W = w') (hm : ∀ z, z ∈ zs → r z < m) :
    Calls Try.prog 53 #[.agg #[.func (.func F) #[] cb], .slice (some ⟨g, 0, none⟩) zs.length cap] w fun e w' => e = .returned (.int .i64 (zs.getD (JD.lmx r zs zs.length) 0)) ∧ Below w.heap.size w w' := by
  have hb0 : Below w.heap.size w (w.alloc (.cells #[.func (.func F) #[] cb] 56)) := (Below.refl _ w).alloc (Nat.le_refl _) _
  have HB0 : Hid _ := hb0
  have OF : Hid (Calls _ _ _ _ _) := of_any F g cap cb zs r m (w.alloc (.cells #[.func (.func F) #[] cb] 56)) hl (hin.below hb0) eg (fun W hW => hR W (hb0.trans (hW.mono (by simp)))) hm
  have LA : Hid _ := JD.srt_last r zs hm h0
  have LN : Hid _ := JD.srt_all r hm
  generalize JD.srt r zs m = s at *
  generalize zs.getD (JD.lmx r zs zs.length) 0 = x at *
  have hzz : Hid (∃ n, zs.length = n + 1) := ⟨zs.length - 1, by omega⟩
  obtain ⟨n, hn⟩ := hzz.out
  clear hin hR hm hb0 hzz
  rw [hn] at OF LN ⊢
  have HN1 : Hid _ := hn
  clear hn
  have HS1 : Hid (∀ (w1 : World) (g1 c1 : Nat), w1.ownsRow (w.alloc (.cells #[.func (.func F) #[] cb] 56)).heap.size 3 1 (.slice (some ⟨g1, 0, none⟩) (n + 1) c1) (n + 1) (M4.iv s) → w1.cell? ⟨g1, n, none⟩ = some (.int .i64 x)) := fun w1 g1 c1 ho => by
    obtain ⟨b, off, hb, _, hc⟩ := (M4.IntsAt.of_own ho).at (k := n) (by rw [LN.out]; omega)
    cases hb
    rw [Nat.zero_add] at hc
    have := LA.out
    rw [LN.out, Nat.add_sub_cancel] at this
    rw [hc, this]
  have hn10 : n + 1 ≤ 10 := by rw [← HN1.out]; exact hl
  clear LA LN HN1 h0 hl
  go_enter Try.func53, Try.ntmps53
  go_wp2_with fail
  refine Calls.mono OF.out ?_
  rintro e w1 ⟨g1, c1, rfl, o1, b1⟩
  have hc1 := HS1.out w1 g1 c1 o1
  have hB := HB0.out.trans (b1.mono (by simp))
  have hgl := (o1.lt g1 rfl).2
  clear OF HS1 o1 b1 HB0
  go_wp2
  go_ret
  exact ⟨rfl, hB⟩
end Go.Proofs.Ytgenmljnhlcpcaa
