/- latestFor, the program's. -/
import Derived.Test.YtlkjlechojgnbaaRows
import Derived.Test.YtlkjlechojgnbaaCAgo
import Derived.Test.YtlkjlechojgnbaaCLatestI
import Derived.WalkKit
import Derived.WalkSpells
import Derived.WalkLawsBesides
import Derived.Outline
import Derived.WalkMore
import Derived.Deep.RegionHeld3
namespace Go.Proofs.Ytlkjlechojgnbaa
open Go.RowKit
theorem Try.infoL : (Try.prog.info? 60).map (fun i => (i.zero, i.size)) = some (some (.agg (PN.fl (fun _ => 0)).toArray), 8) := by kernel_rfl
theorem Try.sizeL : (Try.prog.info? 60).map (·.size) = some 8 := by kernel_rfl
/-- Where the search from the end ends. -/
structure LF (xs : List I5) (t : Nat) (b : Int) (s : Nat → FL.Mo) : Prop where
  ok : ∀ v, PN.okL (s v)
  to : ∃ l, s t = .fin l ∧ b ≤ l
  snd : PN.Bsnd xs t b s
set_option linter.unusedSimpArgs false in
set_option maxHeartbeats 3200000 in
set_option maxRecDepth 100000 in
theorem latestFor_any (a : Option Addr) (ca : Nat) (xs : List I5) (tn : Nat) (b : Int) (w : World) (hok : PN.okP xs = true) (ht8 : tn < 8) (hb0 : 0 ≤ b) (hb1 : b ≤ 2000) (hin : MI5.RowAt w a xs) :
    Calls Try.prog 45 #[.slice a xs.length ca, .int .i64 (tn : Int), .int .i64 b] w fun e w' => ∃ s, e = .returned (.agg (PN.fl (PN.mb s)).toArray) ∧ LF xs tn b s ∧ PN.Shut xs s xs.length ∧ Below w.heap.size w w' := by
  have LA : Hid (∀ W : World, Calls Try.prog 53 #[] W fun e w' => e = .returned (.float .f64 FL.Mo.ago.b) ∧ W = w') := fun W => longAgo_any W
  have SF : ∀ (W : World) (ad : Addr) (b : Nat) (m : Mode), (store ad (.float .f64 b) m).run Try.prog W = stored Try.prog W ad (.float .f64 b) m := fun W ad b m => run_store _ W ad _ m rfl
  have HI : Hid (MI5.RowAt w a xs) := hin
  have hlen : xs.length ≤ 20 := ((PN.okP_iff xs).1 hok).1
  have GC : Hid (∀ k, k < xs.length → PN.Good (MI5.at_ xs k)) := fun k hk => PN.okP_good hok hk
  have HOK : Hid _ := hok
  have tt8 : (tn : Int) < 8 := by omega
  have HN : Hid _ := PN.lw_new w 60
  clear hin hok
  go_enter Try.func45, Try.ntmps45
  go_wp2_with (first | (refine MA.alloc_z rfl 60 rfl _ _ Try.infoL ?_))
  go_step3
  go_wp2_with (first | (refine MA.alloc_z rfl 60 rfl _ _ Try.infoL ?_; simp only [MA.sz_alloc]))
  generalize (w.alloc (.cells (PN.fl fun _ => 0).toArray 60)).alloc (.cells (PN.fl fun _ => 0).toArray 60) = W2 at *
  generalize w.heap.size + 1 = jb at *
  go_loopw [12] (fun iv wr => ∃ k : Nat, iv = .int .i64 k ∧ k ≤ 8 ∧ PN.LW w wr w.heap.size jb (PN.upA k)) (fun iv _ => (8 - intOf iv).toNat)
  case atStart => exact ⟨0, rfl, by omega, HN.out⟩
  case round =>
    clear HN
    obtain ⟨k, rfl, hk, hJ⟩ := hrel
    by_cases hl : k < 8
    · obtain ⟨q1, z1⟩ := hJ.cell hl
      have hl1 := hJ.j.lt
      have hJ2 := hJ.set hl FL.Mo.ago.b
      rw [PN.upA_put] at hJ2
      have HJ2 : Hid _ := hJ2
      have kk : (k : Int) < 8 := by omega
      clear hJ hJ2
      go_wp2_with fail
      refine (LA.out _).mono ?_
      rintro e w' ⟨rfl, rfl⟩
      go_wp2
      go_roundw
      case rel => exact ⟨k + 1, by go_num, by omega, HJ2.out⟩
      case measure => simp [intOf]; omega
    · obtain rfl : k = 8 := by omega
      have hJ0 : PN.LW w wr w.heap.size jb (PN.mb fun _ => .ago) := by
        have h := hJ.j
        rw [PN.upA_all] at h
        exact ⟨hJ.r, h, hJ.ne, hJ.br, hJ.bj, hJ.bl⟩
      obtain ⟨q1, z1⟩ := hJ0.cell ht8
      have hl1 := hJ0.j.lt
      have hJ1 := hJ0.set ht8 (FL.Mo.fin b).b
      rw [PN.mb_put] at hJ1
      have HS0 : Hid (PN.LW w (wr.setCell ⟨jb, tn, none⟩ (.float .f64 (floatOfInt .f64 b))) w.heap.size jb (PN.mb (PN.l0 tn b))) := hJ1
      have HL0 : Hid (LF xs tn b (PN.l0 tn b)) := ⟨PN.okL_put (s := fun _ => .ago) (m := .fin b) (fun _ => trivial) ⟨hb0, hb1⟩, ⟨b, by simp [PN.l0, PN.put], Int.le_refl _⟩, PN.bsnd0 xs tn b⟩
      clear hJ hJ0 hJ1
      go_wp2
      go_step3
      go_wp2
      generalize wr.setCell ⟨jb, tn, none⟩ (.float .f64 (floatOfInt .f64 b)) = W4 at *
      clear q1 z1 hl1
      go_loopw [10] (fun _ wr => ∃ s : Nat → FL.Mo, PN.LW w wr w.heap.size jb (PN.mb s) ∧ Hid (LF xs tn b s)) (fun _ wr => PN.ML jb wr)
      case atStart => exact ⟨_, HS0.out, HL0⟩
      case round =>
        clear HS0 HL0
        obtain ⟨s, hJ, hF⟩ := hrel
        have HM : Hid (PN.ML jb wr = PN.nu s) := hJ.nu hF.out.ok
        have HJ0 : Hid _ := hJ
        clear hJ
        go_wp2
        go_loopw [25] (fun iv wi => ∃ k : Nat, iv = .int .i64 k ∧ k ≤ xs.length ∧ Hid (PN.Shut xs s k) ∧ PN.LW w wi w.heap.size jb (PN.mb s)) (fun iv _ => (xs.length - intOf iv).toNat)
        case atStart => exact ⟨0, rfl, by omega, show Hid _ from fun j hj => by omega, HJ0.out⟩
        case round =>
          clear HJ0
          obtain ⟨k, rfl, hk, hT, hJ⟩ := hrel
          by_cases hlk : k < xs.length
          · obtain ⟨b4, off4, hab, hlt4, e0, e1, e2, e3, e4⟩ := (HI.out.below hJ.bl).at hlk
            have G := GC.out k hlk
            obtain ⟨i, hi⟩ := Int.eq_ofNat_of_zero_le G.f0
            obtain ⟨j, hj⟩ := Int.eq_ofNat_of_zero_le G.t0
            have hi8 : i < 8 := by have := G.f1; omega
            have hj8 : j < 8 := by have := G.t1; omega
            have ii0 : (0 : Int) ≤ (i : Int) := by omega
            have ii8 : (i : Int) < 8 := by omega
            have jj0 : (0 : Int) ≤ (j : Int) := by omega
            have jj8 : (j : Int) < 8 := by omega
            have hin : (MI5.at_ xs k).a0.toNat = i := by rw [hi]; rfl
            have hjn : (MI5.at_ xs k).a1.toNat = j := by rw [hj]; rfl
            have oi := hF.out.ok i
            have oj := hF.out.ok j
            have od := PN.dep_okL G oj
            have DP : Hid (∀ W : World, Calls Try.prog 54 #[(MI5.at_ xs k).v, .float .f64 (s j).b] W fun e w' => e = .returned (.float .f64 (PN.dep (MI5.at_ xs k) (s j)).b) ∧ Below W.heap.size W w') := fun W => departure_any _ _ W G oj
            have SH : Hid ((PN.dep (MI5.at_ xs k) (s j)).cmp (s i) ≠ .gt → PN.Shut xs s (k + 1)) := fun h jj hjj => by
              by_cases e : jj = k
              · subst e; rw [hin, hjn]; exact h
              · exact hT.out jj (by omega)
            have UP : Hid (∀ l, PN.dep (MI5.at_ xs k) (s j) = .fin l → (FL.Mo.fin l).cmp (s i) = .gt → LF xs tn b (PN.put s i (.fin l))) := fun l hl hg => by
              have hok' : PN.okL (.fin l) := by rw [← hl]; exact od
              refine ⟨PN.okL_put hF.out.ok hok', ?_, ?_⟩
              · obtain ⟨l', e1, e2⟩ := hF.out.to
                by_cases e : tn = i
                · subst e
                  rw [e1] at hg
                  refine ⟨l, PN.put_at _ _ _, ?_⟩
                  by_cases hh : l' < l
                  · omega
                  · rcases PN.fin_ge (t := l') (u := l) (by omega) with h | h
                    · by_cases e3 : l = l'
                      · omega
                      · rw [FL.cmp_lt (by omega)] at hg; cases hg
                    · have := FL.cmp_eq h; cases this; omega
                · exact ⟨l', by rw [PN.put_ne _ _ e]; exact e1, e2⟩
              · have := PN.bsnd_step HOK.out hF.out.snd hlk (l := l) (by rw [hjn]; exact hl)
                rw [hin] at this; exact this
            rw [hi] at e0
            rw [hj] at e1
            have HJA : Hid (PN.LW w (wr.alloc (.cells #[.int .i64 (i : Int), .int .i64 (j : Int), .int .i64 (MI5.at_ xs k).a2, .int .i64 (MI5.at_ xs k).a3, .int .i64 (MI5.at_ xs k).a4] 32)) w.heap.size jb (PN.mb s)) := hJ.kept ((Below.refl _ wr).alloc (Nat.le_refl _) _)
            have hjq : jb < wr.heap.size := hJ.j.lt
            clear G hin hjn hJ
            generalize hx : MI5.at_ xs k = x at *
            obtain ⟨x0, x1, x2, x3, x4⟩ := x
            simp only at hi hj e0 e1 e2 e3 e4
            subst hi hj
            clear hx
            subst hab
            have F0 : Hid ((wr.alloc (.cells #[.int .i64 (i : Int), .int .i64 (j : Int), .int .i64 x2, .int .i64 x3, .int .i64 x4] 32)).cell? ⟨wr.heap.size, 0, none⟩ = some (.int .i64 (i : Int))) := by show _ = _; simp
            have F1 : Hid ((wr.alloc (.cells #[.int .i64 (i : Int), .int .i64 (j : Int), .int .i64 x2, .int .i64 x3, .int .i64 x4] 32)).cell? ⟨wr.heap.size, 1, none⟩ = some (.int .i64 (j : Int))) := by show _ = _; simp
            have F2 : Hid ((wr.alloc (.cells #[.int .i64 (i : Int), .int .i64 (j : Int), .int .i64 x2, .int .i64 x3, .int .i64 x4] 32)).cell? ⟨wr.heap.size, 2, none⟩ = some (.int .i64 x2)) := by show _ = _; simp
            have F3 : Hid ((wr.alloc (.cells #[.int .i64 (i : Int), .int .i64 (j : Int), .int .i64 x2, .int .i64 x3, .int .i64 x4] 32)).cell? ⟨wr.heap.size, 3, none⟩ = some (.int .i64 x3)) := by show _ = _; simp
            have F4 : Hid ((wr.alloc (.cells #[.int .i64 (i : Int), .int .i64 (j : Int), .int .i64 x2, .int .i64 x3, .int .i64 x4] 32)).cell? ⟨wr.heap.size, 4, none⟩ = some (.int .i64 x4)) := by show _ = _; simp
            have HQ : Hid (wr.heap.size < (wr.alloc (.cells #[.int .i64 (i : Int), .int .i64 (j : Int), .int .i64 x2, .int .i64 x3, .int .i64 x4] 32)).heap.size) := by show _ < _; simp
            go_wp2_with fail
            clear e0 e1 e2 e3 e4 hlt4
            generalize (wr.alloc (.cells #[.int .i64 (i : Int), .int .i64 (j : Int), .int .i64 x2, .int .i64 x3, .int .i64 x4] 32)) = W1 at *
            generalize wr.heap.size = q at *
            have f0 := F0.out
            have f1 := F1.out
            have f2 := F2.out
            have f3 := F3.out
            have f4 := F4.out
            have hq := HQ.out
            have hcj : W1.cell? ⟨jb, j, none⟩ = some (.float .f64 (s j).b) := (HJA.out.cell hj8).1
            have hjb := HJA.out.j.lt
            clear F0 F1 F2 F3 F4 HQ
            go_region_held3 (fun w' => w'.cell? ⟨q, 0, none⟩ = some (.int .i64 (i : Int)) ∧ w'.cell? ⟨q, 1, none⟩ = some (.int .i64 (j : Int)) ∧ w'.cell? ⟨q, 2, none⟩ = some (.int .i64 x2) ∧ w'.cell? ⟨q, 3, none⟩ = some (.int .i64 x3) ∧ w'.cell? ⟨q, 4, none⟩ = some (.int .i64 x4) ∧ w'.cell? ⟨jb, j, none⟩ = some (.float .f64 (s j).b)) (first | assumption | go_keep) (first | (go_at_call 54; refine Calls.mono (DP.out _) ?_; rintro e w3 ⟨rfl, hb3⟩; have k0 : w3.cell? ⟨q, 0, none⟩ = some (.int .i64 (i : Int)) := (hb3.cell (p := ⟨q, 0, none⟩) (by simpa using hq)).trans (by simpa using f0); have k1 : w3.cell? ⟨q, 1, none⟩ = some (.int .i64 (j : Int)) := (hb3.cell (p := ⟨q, 1, none⟩) (by simpa using hq)).trans (by simpa using f1); have k2 : w3.cell? ⟨q, 2, none⟩ = some (.int .i64 x2) := (hb3.cell (p := ⟨q, 2, none⟩) (by simpa using hq)).trans (by simpa using f2); have k3 : w3.cell? ⟨q, 3, none⟩ = some (.int .i64 x3) := (hb3.cell (p := ⟨q, 3, none⟩) (by simpa using hq)).trans (by simpa using f3); have k4 : w3.cell? ⟨q, 4, none⟩ = some (.int .i64 x4) := (hb3.cell (p := ⟨q, 4, none⟩) (by simpa using hq)).trans (by simpa using f4); have kj : w3.cell? ⟨jb, j, none⟩ = some (.float .f64 (s j).b) := (hb3.cell (p := ⟨jb, j, none⟩) (by simpa using hjb)).trans (by simpa using hcj)))
            have HJ3 := HJA.out.kept (((Below.refl _ W1).drew).trans hb3)
            have hq3 : q < w3.heap.size := Nat.lt_of_lt_of_le (by simpa using hq) hb3.size
            obtain ⟨ci, zi⟩ := HJ3.cell hi8
            replace ci : w3.cell? ⟨jb, i, none⟩ = some (.float .f64 (s i).b) := ci
            have hj3 := HJ3.j.lt
            have o1 := FL.order_is (PN.dep ⟨(i : Int), (j : Int), x2, x3, x4⟩ (s j)) (s i) (PN.okL_ok od) (PN.okL_ok oi)
            have HW3 : Hid _ := HJ3
            clear hb3 HJA HJ3 DP f0 f1 f2 f3 f4 hq hcj hjb kj k1 k2 k3 k4
            cases hc : (PN.dep ⟨(i : Int), (j : Int), x2, x3, x4⟩ (s j)).cmp (s i) with
            | gt =>
              obtain ⟨l, hl⟩ := PN.gt_fin od hc
              rw [hl] at hc od o1 ⊢
              rw [hc] at o1
              have HLF : Hid _ := UP.out l hl hc
              have hset := HW3.out.set hi8 (FL.Mo.fin l).b
              rw [PN.mb_put] at hset
              have HST : Hid (PN.LW w (w3.setCell ⟨jb, i, none⟩ (.float .f64 (FL.Mo.fin l).b)) w.heap.size jb (PN.mb (PN.put s i (.fin l)))) := hset
              have HNU : Hid (PN.ML jb (w3.setCell ⟨jb, i, none⟩ (.float .f64 (FL.Mo.fin l).b)) < PN.nu s) := by
                have h1 := hset.nu HLF.out.ok
                show _ < _
                rw [h1]
                exact PN.nu_put hi8 (PN.wL_lt od oi hc)
              clear UP SH hl hc hset od oi oj HW3 hT
              generalize FL.Mo.b (.fin l) = zr at *
              generalize FL.Mo.b (s i) = zi' at *
              go_wp2
              go_roundw
              case rel => exact ⟨_, _, _, _, _, _, _, _, _, _, _, _, _, _, _, _, _, _, _, _, _, _, _, _, _, _, ⟨_, HST.out, HLF⟩, rfl⟩
              case measure => rw [HM.out]; exact HNU.out
            | lt =>
              rw [hc] at o1
              have hT' : Hid _ := SH.out (by rw [hc]; simp)
              clear UP SH hc od oi oj hT
              generalize FL.Mo.b (PN.dep _ _) = zr at *
              generalize FL.Mo.b (s i) = zi' at *
              go_wp2
              go_roundw
              case rel => exact ⟨_, _, _, _, _, _, _, _, _, _, _, _, _, _, _, _, _, _, _, _, _, _, _, ⟨k + 1, by go_num, by omega, hT', HW3.out⟩, rfl⟩
              case measure => simp [intOf]; omega
            | eq =>
              rw [hc] at o1
              have hT' : Hid _ := SH.out (by rw [hc]; simp)
              clear UP SH hc od oi oj hT
              generalize FL.Mo.b (PN.dep _ _) = zr at *
              generalize FL.Mo.b (s i) = zi' at *
              go_wp2
              go_roundw
              case rel => exact ⟨_, _, _, _, _, _, _, _, _, _, _, _, _, _, _, _, _, _, _, _, _, _, _, ⟨k + 1, by go_num, by omega, hT', HW3.out⟩, rfl⟩
              case measure => simp [intOf]; omega
          · obtain rfl : k = xs.length := by omega
            have HRJ : Hid (MA.Rg wr jb 0 (PN.fl (PN.mb s))) := hJ.j
            have HRR : Hid (MA.Rg wr w.heap.size 0 (PN.fl fun _ => 0)) := hJ.r
            have HRP : Hid (MA.Rg (wr.setCells w.heap.size 0 (PN.fl (PN.mb s))) w.heap.size 0 (PN.fl (PN.mb s))) := hJ.r.put (by rw [PN.fl_len, PN.fl_len])
            have HBP : Hid (Below w.heap.size w (wr.setCells w.heap.size 0 (PN.fl (PN.mb s)))) := MA.below_cells (Nat.le_refl _) _ _ _ hJ.bl
            clear hJ HM HOK GC HI LA SF
            go_wp2_with (first
              | (refine MA.load_m rfl 60 _ rfl rfl (cs := PN.fl (PN.mb s)) ?_ Try.underlying60 rfl Try.sizeL (PN.fl_len _) ?_; exact HRJ.out; clear HRJ)
              | (refine MA.store_m rfl 60 _ _ rfl rfl rfl (vs := PN.fl (PN.mb s)) (cs := PN.fl fun _ => 0) ?_ Try.sizeL (PN.fl_len _) (PN.fl_len _) (PN.fl_one _) ?_; exact HRR.out; clear HRR))
            rw [Exit.noGoto_ret]
            exact bodyPost_ret (MA.ret_cell rfl rfl (MA.load_rg HRP.out Try.underlying60 rfl Try.sizeL (PN.fl_len _))) rfl ⟨s, rfl, hF.out, hT.out, HBP.out⟩
end Go.Proofs.Ytlkjlechojgnbaa
