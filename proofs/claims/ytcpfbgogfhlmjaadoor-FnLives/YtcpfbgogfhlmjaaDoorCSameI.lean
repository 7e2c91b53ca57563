/- The program's SameBundle, at any two bundles. -/
import Derived.Test.YtcpfbgogfhlmjaaDoorRows
import Derived.Test.YtcpfbgogfhlmjaaDoorCSameD
import Derived.Deep.QuietTactic
import Derived.BigQuiet
import Derived.Deep.RegionHeld3
import Derived.Test.YtcpfbgogfhlmjaaDoorMRO
import Derived.WalkKit
import Derived.WalkSpells
import Derived.WalkLawsBesides
import Derived.Outline
namespace Go.Proofs.YtcpfbgogfhlmjaaDoor
open Go.RowKit
theorem Tryd.infoParcelS : (Tryd.prog.info? 45).map (fun i => (i.zero, i.size)) = some (some (.agg (Bd.cs B1.zero).toArray), 10) := by kernel_rfl
theorem Tryd.sizeParcelS : (Tryd.prog.info? 45).map (·.size) = some 10 := by kernel_rfl
theorem Tryd.sizeBundleS : (Tryd.prog.info? 24).map (·.size) = some 10 := by kernel_rfl
theorem Tryd.sizeHeadS : (Tryd.prog.info? 43).map (·.size) = some 7 := by kernel_rfl
theorem take_get {l : List Value} {n j : Nat} {v : Value} (h : (l.take n)[j]? = some v) : l[j]? = some v := by
  rw [List.getElem?_take] at h
  split at h
  · exact h
  · cases h
def sameRL (a b c d : Bool) : List Nat := if a && b && c && d then [6] else (if a then (if b then [] else [3]) else [1]) ++ (if c then [] else [4]) ++ (if d then [] else [5])
set_option linter.unusedSimpArgs false in
set_option maxHeartbeats 800000 in
set_option maxRecDepth 100000 in
theorem implSame_any (a b : Bd) (w : World) (hs : a.py.size ≤ 1048576) (hs' : b.py.size ≤ 1048576) (hT : PTab w) :
    Calls Tryd.prog 19 #[.agg a.cs.toArray, .agg b.cs.toArray] w fun e w' => e = .returned (.tuple #[.bool (sameB a b), .bool (sameOk a b)]) ∧ Below w.heap.size w w' := by
  have PA : Hid (∀ W : World, Calls Tryd.prog 24 #[.agg a.cs.toArray] W fun e w' => e = .returned (.agg a.cs.toArray) ∧ Below W.heap.size W w') := fun W => parcelOf_any a W
  have PB : Hid (∀ W : World, Calls Tryd.prog 24 #[.agg b.cs.toArray] W fun e w' => e = .returned (.agg b.cs.toArray) ∧ Below W.heap.size W w') := fun W => parcelOf_any b W
  have GA : Hid (∀ W : World, Calls Tryd.prog 25 #[.agg a.cs.toArray] W fun e w' => e = .returned (.bool (B1.good a)) ∧ Below W.heap.size W w') := fun W => isGood_any a W hs _ rfl
  have GB : Hid (∀ W : World, Calls Tryd.prog 25 #[.agg b.cs.toArray] W fun e w' => e = .returned (.bool (B1.good b)) ∧ Below W.heap.size W w') := fun W => isGood_any b W hs' _ rfl
  have IDA : Hid (∀ (_ : B1.good a = true) (W : World) (_ : PTab W), Calls Tryd.prog 44 #[.agg (a.cs.take 7).toArray] W fun e w' => e = .returned (.string (idR a)) ∧ Below W.heap.size W w') := fun h W hT => implId_good h W hT
  have IDB : Hid (∀ (_ : B1.good b = true) (W : World) (_ : PTab W), Calls Tryd.prog 44 #[.agg (b.cs.take 7).toArray] W fun e w' => e = .returned (.string (idR b)) ∧ Below W.heap.size W w') := fun h W hT => implId_good h W hT
  have HT : Hid (∀ W : World, Below w.heap.size w W → PTab W) := fun W hb => hT.below hb (Nat.le_refl _)
  have r0 := (MA.Rg.new w a.cs 24).alloc (.cells b.cs.toArray 24)
  have r1 := MA.Rg.new' (w.alloc (.cells a.cs.toArray 24)) b.cs 24 (w.heap.size + 1) (by simp)
  have hb : Below w.heap.size w ((w.alloc (.cells a.cs.toArray 24)).alloc (.cells b.cs.toArray 24)) := ((Below.refl _ w).alloc (Nat.le_refl _) _).alloc (by simp) _
  have HR : Hid _ := And.intro r0 (And.intro r1 hb)
  clear r0 r1 hb hT
  go_enter Tryd.func19, Tryd.ntmps19
  generalize hW : (w.alloc (.cells a.cs.toArray 24)).alloc (.cells b.cs.toArray 24) = W0 at HR
  go_wp2
  clear hW
  refine MR.frame fun A hA => ?_
  have hsz : A.tmps.size = 27 := by rw [hA]; rfl
  have e2 : A.eval (.tmp 2) = .pointer (some ⟨w.heap.size, 0, none⟩) := by rw [hA]; rfl
  have f2 := MR.read (t := 2) (by rw [hsz]; decide) e2
  have e3 : A.eval (.tmp 3) = .pointer (some ⟨w.heap.size + 1, 0, none⟩) := by rw [hA]; rfl
  have f3 := MR.read (t := 3) (by rw [hsz]; decide) e3
  have HA : Hid (A = _) := hA
  clear hA
  have hS : (fun w' : World => Below W0.heap.size W0 w') (World.drew _) := ((Below.refl _ W0).drew)
  refine wp_region_held (S := fun w' : World => Below W0.heap.size W0 w') (by kernel_rfl) ?_
  change wpAnyH _ _ _ _ _ _ _ _ (World.drew _)
  refine MR.takeH (i := 0) (some 8) (.agg a.cs.toArray) rfl rfl (by kernel_rfl) (by kernel_rfl) (by kernel_rfl) (fun _ _ _ h => h) hS (MR.free rfl) (fun w hw => MA.ex_load rfl (by simp [MR.ev, MR.size, hsz, e2, f2, e3, f3]) (MA.range_below HR.out.1.rng hw HR.out.1.lt) Tryd.underlying24 rfl Tryd.sizeBundleS rfl) ?_
  refine MR.takeH (i := 2) (some 10) (.agg b.cs.toArray) rfl rfl (by kernel_rfl) (by kernel_rfl) (by kernel_rfl) (fun _ _ _ h => h) hS (MR.free rfl) (fun w hw => MA.ex_load rfl (by simp [MR.ev, MR.size, hsz, e2, f2, e3, f3]) (MA.range_below HR.out.2.1.rng hw HR.out.2.1.lt) Tryd.underlying24 rfl Tryd.sizeBundleS rfl) ?_
  rw [HA.out]
  clear HA e2 f2 e3 f3 hsz
  simp only [Act.put, List.setIfInBounds_toArray, List.set_cons_succ, List.set_cons_zero]
  refine MR.orders4 (fun x1 x2 x3 x4 => #[true, x1, true, x2, x3, x4, false, false]) (fun v1 v2 y1 y2 => ⟨#[.agg a.cs.toArray, .agg b.cs.toArray, .pointer (some ⟨w.heap.size, 0, none⟩), .pointer (some ⟨w.heap.size + 1, 0, none⟩), .bool false, .bool false, y1, y2, .agg a.cs.toArray, v1, .agg b.cs.toArray, v2, undef, undef, undef, undef, undef, undef, undef, undef, undef, undef, undef, undef, undef, undef, undef], []⟩) sameRL 1 3 4 5 _ _ _ _ 24 24 #[.agg a.cs.toArray] #[.agg b.cs.toArray] (.agg a.cs.toArray) (.agg b.cs.toArray) (Bd.cs B1.zero) 45 W0.heap.size rfl rfl rfl rfl (by intros; rfl) (by intros; rfl) (by intros; rfl) (by intros; rfl) (by intros; rfl) (by intros; rfl) (by intros; rfl) (by intros; rfl) rfl rfl rfl rfl (by intro a b c d; cases a <;> cases b <;> cases c <;> cases d <;> kernel_rfl) (by decide) (by decide) (by intros; simp [execOp, go_sem]) (by intros; simp [execOp, go_sem]) (fun _ _ _ _ _ => MR.ex_alloc _ rfl _ _ Tryd.infoParcelS) (fun _ _ _ _ _ => MR.ex_alloc _ rfl _ _ Tryd.infoParcelS) (fun W _ => PA.out W) (fun W _ => PB.out W) (fun W W' h h' => h.trans (h'.mono h.size)) (fun W h => h.size) (fuel := 2) ?_ 4 false false false false undef undef undef undef _ rfl ⟨hS, nofun, nofun, nofun, nofun, nofun⟩
  intro W k k' hSW hk hk' hne hr hr'
  have hb0 : Below w.heap.size w W := HR.out.2.2.trans (hSW.mono HR.out.2.2.size)
  have hsk : w.heap.size ≤ k := Nat.le_trans HR.out.2.2.size hk
  have hsk' : w.heap.size ≤ k' := Nat.le_trans HR.out.2.2.size hk'
  have hx1 := hr.put (vs := a.cs) rfl
  have hx2 := (hr'.other (k' := k) (o' := 0) (vs := a.cs) (.inl (fun h => hne h.symm))).put (vs := b.cs) rfl
  have hx3 := hx1.other (k' := k') (o' := 0) (vs := b.cs) (.inl hne)
  have hB2 : Below w.heap.size w ((W.setCells k 0 a.cs).setCells k' 0 b.cs) := MA.below_cells hsk' _ _ _ (MA.below_cells hsk _ _ _ hb0)
  have hS1 : Below W0.heap.size W0 (W.setCells k 0 a.cs) := MA.below_cells hk _ _ _ hSW
  have hS2 : Below W0.heap.size W0 ((W.setCells k 0 a.cs).setCells k' 0 b.cs) := MA.below_cells hk' _ _ _ hS1
  refine MR.storeH (i := 6) (by kernel_rfl) rfl (MR.free rfl) (MA.ex_store (vs := a.cs) rfl rfl rfl hr.ok Tryd.sizeParcelS rfl (MA.cs_one _)) ⟨hS1, ?_⟩
  refine MR.storeH (i := 7) (by kernel_rfl) rfl (MR.free rfl) (MA.ex_store (vs := b.cs) rfl rfl rfl (hr'.other (k' := k) (o' := 0) (vs := a.cs) (.inl (fun h => hne h.symm))).ok Tryd.sizeParcelS rfl (MA.cs_one _)) ⟨hS2, ?_⟩
  refine wpAnyH_done (by kernel_rfl) ?_ _
  have HB2 : Hid _ := And.intro hB2 (And.intro hx3 hx2)
  clear hS hS1 hS2 hx1 hx2 hx3 hB2 hr hr' hSW hb0 hsk hsk' hne hk hk' HR PA PB
  simp only [Act.put]
  generalize (W.setCells k 0 a.cs).setCells k' 0 b.cs = W2 at *
  have HKa : Hid _ := HB2.out.2.1.rng
  have HKb : Hid _ := HB2.out.2.2.rng
  go_wp2_with (refine MA.load_r rfl 45 _ rfl rfl (cs := a.cs) ?_ Tryd.underlying45 rfl Tryd.sizeParcelS rfl ?_; exact HKa.out)
  refine (GA.out _).mono ?_
  rintro e w3 ⟨rfl, hb3⟩
  replace HB2 : Hid _ := And.intro (HB2.out.1.trans (hb3.mono HB2.out.1.size)) (And.intro (HB2.out.2.1.below hb3 HB2.out.2.1.lt) (HB2.out.2.2.below hb3 HB2.out.2.2.lt))
  clear HKa HKb hb3 GA
  have HKb : Hid _ := HB2.out.2.2.rng
  cases hga : B1.good a with
  | false =>
    have HN : Hid _ := same_no (a := a) (b := b) (.inl hga)
    clear hga
    go_wp2
    go_ret2
    exact ⟨ret_bbS HN.out.1 HN.out.2, HB2.out.1⟩
  | true =>
  have hga : Hid (B1.good a = true) := hga
  go_wp2_with (refine MR.load_g rfl 45 _ rfl rfl (cs := b.cs) ?_ Tryd.underlying45 rfl Tryd.sizeParcelS rfl ?_; exact HKb.out)
  refine (GB.out _).mono ?_
  rintro e W2 ⟨rfl, hb4⟩
  replace HB2 : Hid _ := And.intro (HB2.out.1.trans (hb4.mono HB2.out.1.size)) (And.intro (HB2.out.2.1.below hb4 HB2.out.2.1.lt) (HB2.out.2.2.below hb4 HB2.out.2.2.lt))
  clear HKb hb4 GB
  cases hgb : B1.good b with
  | false =>
    have HN : Hid _ := same_no (a := a) (b := b) (.inr hgb)
    clear hgb
    go_wp2
    go_ret2
    exact ⟨ret_bbS HN.out.1 HN.out.2, HB2.out.1⟩
  | true =>
    have HN : Hid _ := same_yes hga.out hgb
    have hgb : Hid (B1.good b = true) := hgb
    go_wp2
    have hKa : W2.rangeAt k 0 (a.cs.take 7) := fun j v hv => HB2.out.2.1.rng j v (take_get hv)
    have hKb : W2.rangeAt k' 0 (b.cs.take 7) := fun j v hv => HB2.out.2.2.rng j v (take_get hv)
    refine MR.frame fun A hA => ?_
    have hsz : A.tmps.size = 27 := by rw [hA]; rfl
    have e6 : A.eval (.tmp 6) = .pointer (some ⟨k, 0, none⟩) := by rw [hA]; rfl
    have f6 := MR.read (t := 6) (by rw [hsz]; decide) e6
    have e7 : A.eval (.tmp 7) = .pointer (some ⟨k', 0, none⟩) := by rw [hA]; rfl
    have f7 := MR.read (t := 7) (by rw [hsz]; decide) e7
    have HA : Hid (A = _) := hA
    clear hA
    have hS : (fun w' : World => Below W2.heap.size W2 w') (World.drew _) := ((Below.refl _ W2).drew)
    refine wp_region_held (S := fun w' : World => Below W2.heap.size W2 w') (by kernel_rfl) ?_
    change wpAnyH _ _ _ _ _ _ _ _ (World.drew _)
    refine MR.takeH (i := 0) (some 20) (.pointer (some ⟨k, 0, none⟩)) rfl rfl (by kernel_rfl) (by kernel_rfl) (by kernel_rfl) (fun _ _ _ h => h) hS (MR.free rfl) (fun wq hw => by simp [execOp, MR.ev, MR.size, hsz, e6, f6, e7, f7, go_sem]) ?_
    refine MR.takeH (i := 1) (some 21) (.agg (a.cs.take 7).toArray) rfl rfl (by kernel_rfl) (by kernel_rfl) (by kernel_rfl) (fun _ _ _ h => h) hS (MR.free rfl) (fun w hw => MA.ex_load rfl (by simp [MR.ev, MR.size, hsz, e6, f6, e7, f7]) (MA.range_below hKa hw HB2.out.2.1.lt) Tryd.underlying43 rfl Tryd.sizeHeadS rfl) ?_
    refine MR.takeH (i := 3) (some 23) (.pointer (some ⟨k', 0, none⟩)) rfl rfl (by kernel_rfl) (by kernel_rfl) (by kernel_rfl) (fun _ _ _ h => h) hS (MR.free rfl) (fun wq hw => by simp [execOp, MR.ev, MR.size, hsz, e6, f6, e7, f7, go_sem]) ?_
    refine MR.takeH (i := 4) (some 24) (.agg (b.cs.take 7).toArray) rfl rfl (by kernel_rfl) (by kernel_rfl) (by kernel_rfl) (fun _ _ _ h => h) hS (MR.free rfl) (fun w hw => MA.ex_load rfl (by simp [MR.ev, MR.size, hsz, e6, f6, e7, f7]) (MA.range_below hKb hw HB2.out.2.2.lt) Tryd.underlying43 rfl Tryd.sizeHeadS rfl) ?_
    refine MR.callH (i := 2) (some 22) (44) (#[.agg (a.cs.take 7).toArray]) (by kernel_rfl) rfl rfl (MR.free rfl) (by simp [execOp, MR.ev, MR.size, hsz, e6, f6, e7, f7, go_sem]) ?_
    refine (IDA.out hga.out _ (HT.out _ (HB2.out.1.drew))).mono ?_
    rintro e w5 ⟨rfl, hb5⟩
    have hS5 : Below W2.heap.size W2 w5 := ((Below.refl _ W2).drew).trans hb5
    refine ⟨_, rfl, hS5, ?_⟩
    refine MR.callH (i := 5) (some 25) (44) (#[.agg (b.cs.take 7).toArray]) (by kernel_rfl) rfl rfl (MR.free rfl) (by simp [execOp, MR.ev, MR.size, hsz, e6, f6, e7, f7, go_sem]) ?_
    refine (IDB.out hgb.out _ (HT.out _ (HB2.out.1.trans (hS5.mono HB2.out.1.size)))).mono ?_
    rintro e w6 ⟨rfl, hb6⟩
    have hS6 : Below W2.heap.size W2 w6 := hS5.trans (hb6.mono hS5.size)
    refine ⟨_, rfl, hS6, ?_⟩
    refine MR.takeH (i := 6) (some 26) (.bool ((idR a).toList == (idR b).toList)) rfl rfl (by kernel_rfl) (by kernel_rfl) (by kernel_rfl) (fun _ _ _ h => h) hS6 (MR.free rfl) (fun wq hw => by simp [execOp, MR.ev, MR.size, hsz, e6, f6, e7, f7, go_sem]) ?_
    refine MR.takeH (i := 7) (some 4) (.bool ((idR a).toList == (idR b).toList)) rfl rfl (by kernel_rfl) (by kernel_rfl) (by kernel_rfl) (fun _ _ _ h => h) hS6 (MR.free rfl) (fun wq hw => by simp [execOp, MR.ev, MR.size, hsz, e6, f6, e7, f7, go_sem]) ?_
    refine MR.takeH (i := 8) (some 5) (.bool true) rfl rfl (by kernel_rfl) (by kernel_rfl) (by kernel_rfl) (fun _ _ _ h => h) hS6 (MR.free rfl) (fun wq hw => by simp [execOp, MR.ev, MR.size, hsz, e6, f6, e7, f7, go_sem]) ?_
    refine wpAnyH_done (by kernel_rfl) ?_ _
    have hB6 : Below w.heap.size w w6 := HB2.out.1.trans (hS6.mono HB2.out.1.size)
    rw [HA.out]
    clear hS HA e6 f6 e7 f7 hsz hKa hKb hS5 hS6 hb5 hb6 HB2 hga hgb IDA IDB
    simp only [Act.put, List.setIfInBounds_toArray, List.set_cons_succ, List.set_cons_zero]
    go_wp2
    go_ret2
    exact ⟨ret_bbS HN.out.1 HN.out.2, hB6⟩
end Go.Proofs.YtcpfbgogfhlmjaaDoor
