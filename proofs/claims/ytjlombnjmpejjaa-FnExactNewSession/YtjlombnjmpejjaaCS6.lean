/- NewSession, the specification's and the program's, at any block. -/
import Derived.Test.YtjlombnjmpejjaaRows
import Derived.Test.YtjlombnjmpejjaaCS5
import Derived.Test.YtjlombnjmpejjaaCL1In
import Derived.WalkKit
import Derived.WalkSpells
import Derived.WalkLawsBesides
import Derived.Outline
namespace Go.Proofs.Ytjlombnjmpejjaa
open Go.RowKit
/-- What NewSession answers. -/
def nB (b : ByteArray) : ByteArray := if SE.okB b = true then b else ⟨#[]⟩
def nY (b : ByteArray) : ByteArray := if SE.okB b = true then zS b.size else ⟨#[]⟩
def nN (b : ByteArray) : Nat := if SE.okB b = true then SE.many b else 0
theorem n_no {b : ByteArray} (h : SE.okB b = false) : nB b = ⟨#[]⟩ ∧ nY b = ⟨#[]⟩ ∧ nN b = 0 := by simp [nB, nY, nN, h]
theorem n_yes {b : ByteArray} (h : SE.okB b = true) : nB b = b ∧ nY b = zS b.size ∧ nN b = SE.many b := by simp [nB, nY, nN, h]
theorem made_bl (n : Nat) : (madeCells #[Value.bool false] n).toList = SE.bl (List.replicate n false) := by
  rw [toList_madeCells_one]; simp [SE.bl]
/-- A new session, as NewSession answers it. -/
def NewAt (w w' : World) (b : ByteArray) (e : Ending) : Prop := ∃ a1 k1 a2 k2, e = .returned (.tuple #[.agg (SE.sv (nB b) (.slice a1 (nN b) k1) (.slice a2 (nN b) k2) (nY b) false (.slice none 0 0) (.slice none 0 0)).toArray, .bool (SE.okB b)]) ∧ w'.ownsRow w.heap.size 4 1 (.slice a1 (nN b) k1) (nN b) (SE.bl (List.replicate (nN b) false)) ∧ w'.ownsRow w.heap.size 4 1 (.slice a2 (nN b) k2) (nN b) (SE.bl (List.replicate (nN b) false)) ∧ (∀ x x', a1 = some ⟨x, 0, none⟩ → a2 = some ⟨x', 0, none⟩ → x ≠ x') ∧ Below w.heap.size w w'
theorem newAt_no {w w' : World} {b : ByteArray} (h : SE.okB b = false) (hb : Below w.heap.size w w') : NewAt w w' b (.returned (.tuple #[.agg (SE.sv ⟨#[]⟩ (.slice none 0 0) (.slice none 0 0) ⟨#[]⟩ false (.slice none 0 0) (.slice none 0 0)).toArray, .bool false])) := by
  obtain ⟨e1, e2, e3⟩ := n_no h
  refine ⟨none, 0, none, 0, ?_, ?_, ?_, nofun, hb⟩
  · rw [e1, e2, e3, h]
  · rw [e3]; exact World.ownsRow_nil _ _ _ _
  · rw [e3]; exact World.ownsRow_nil _ _ _ _
theorem Try.zeroSession (W : World) : (Instr.build 43 #[]).run Try.prog W = .ok (.agg (SE.sv ⟨#[]⟩ (.slice none 0 0) (.slice none 0 0) ⟨#[]⟩ false (.slice none 0 0) (.slice none 0 0)).toArray) W := by
  simp only [SE.sv]
  go_simp
set_option maxHeartbeats 400000 in
set_option maxRecDepth 100000 in
theorem l5Many_any (b : ByteArray) (v1 v2 : Value) (y : ByteArray) (d : Bool) (v5 v6 : Value) (w : World) (hs : b.size ≤ 1048576) :
    Calls Try.prog 58 #[.agg (SE.sv b v1 v2 y d v5 v6).toArray] w fun e w' => e = .returned (.int .i64 (SE.many b : Int)) ∧ Below w.heap.size w w' := by
  have r0 := MA.Rg.new w (SE.sv b v1 v2 y d v5 v6) 43
  have hb : Below w.heap.size w (w.alloc (.cells (SE.sv b v1 v2 y d v5 v6).toArray 43)) := (Below.refl _ w).alloc (Nat.le_refl _) _
  have c0 := CB.c_of r0 (j := 0) rfl
  clear r0
  generalize SE.sv b v1 v2 y d v5 v6 = S at *
  go_enter Try.func58, Try.ntmps58
  generalize hW : w.alloc (.cells S.toArray 43) = W at hb c0
  go_wp2
  go_ret
  refine ⟨?_, hb⟩
  unfold SE.many
  go_num
set_option linter.unusedSimpArgs false in
set_option maxHeartbeats 1600000 in
set_option maxRecDepth 100000 in
theorem implNew_any (b : ByteArray) (w : World) (hs : b.size ≤ 1048576) : Calls Try.prog 19 #[.string b] w fun e w' => NewAt w w' b e := by
  have r0 := MA.Rg.new w (SE.sv ⟨#[]⟩ (.slice none 0 0) (.slice none 0 0) ⟨#[]⟩ false (.slice none 0 0) (.slice none 0 0)) 43
  have hb : Below w.heap.size w (w.alloc (.cells (SE.sv ⟨#[]⟩ (.slice none 0 0) (.slice none 0 0) ⟨#[]⟩ false (.slice none 0 0) (.slice none 0 0)).toArray 43)) := (Below.refl _ w).alloc (Nat.le_refl _) _
  have HR : Hid _ := And.intro r0 hb
  clear r0 hb
  by_cases h : SE.okB b = true
  · have NT : Hid (∀ W : World, Calls Try.prog 59 #[.string b] W fun e w' => e = .returned (.tuple #[.pointer (some ⟨W.heap.size + 1 + 1, 0, none⟩), .bool true]) ∧ ((W.alloc (.chan 30 #[] false 0 0 false)).alloc (.chan 30 #[] false 0 0 false)).alloc (.cells (SE.tk b (fun _ => false) (fun _ => false) W.heap.size (W.heap.size + 1)).toArray 131) = w') := fun W => newTalk_yes b W h
    have HK : Hid (∀ W : World, SE.Tk (((W.alloc (.chan 30 #[] false 0 0 false)).alloc (.chan 30 #[] false 0 0 false)).alloc (.cells (SE.tk b (fun _ => false) (fun _ => false) W.heap.size (W.heap.size + 1)).toArray 131)) (W.heap.size + 1 + 1) b (fun _ => false) (fun _ => false) W.heap.size (W.heap.size + 1) #[] #[]) := fun W => SE.tk_new W b 131
    have h40 := (SE.okB_is h).2
    have SE0 : Hid (∀ (k p q : Nat) (W : World), SE.Tk W k b (fun _ => false) (fun _ => false) p q #[] #[] → Calls Try.prog 60 #[.pointer (some ⟨k, 0, none⟩)] W fun e w' => ∃ a1 k1 a2 k2, e = .returned (.agg (SE.sv b (.slice a1 (SE.many b) k1) (.slice a2 (SE.many b) k2) (zS b.size) (SE.same5 (fun _ => false) (SE.upTo (SE.many b))) (.slice none 0 0) (.slice none 0 0)).toArray) ∧ w'.ownsRow W.heap.size 4 1 (.slice a1 (SE.many b) k1) (SE.many b) (SE.bl ((List.range (SE.many b)).map fun _ => false)) ∧ w'.ownsRow W.heap.size 4 1 (.slice a2 (SE.many b) k2) (SE.many b) (SE.bl ((List.range (SE.many b)).map fun _ => false)) ∧ (∀ x x', a1 = some ⟨x, 0, none⟩ → a2 = some ⟨x', 0, none⟩ → x ≠ x') ∧ Below W.heap.size W w') := fun k p q W ht => session0_any k b _ _ p q (zS b.size) W h40 ht (fun W' ht' => bytes0_any k b W' h40 ht'.c0 ht'.lt (fun j hj => ht'.rg j _ (SE.t5_get _ hj)))
    have HD : Hid (SE.same5 (fun _ => false) (SE.upTo (SE.many b)) = false) := by
      have := SE.many_pos (SE.okB_is h).1
      show _ = _
      simp [SE.same5, SE.upTo, List.all_eq_false]
      exact ⟨0, by omega, by omega⟩
    have HL : Hid ((List.range (SE.many b)).map (fun _ => false) = List.replicate (SE.many b) false) := by show _ = _; simp [List.map_const']
    have HOK : Hid (SE.okB b = true) := h
    clear h h40
    go_enter Try.func19, Try.ntmps19
    go_wp2_with (refine MA.alloc_z rfl 43 rfl _ _ Try.infoSession ?_)
    generalize w.alloc (.cells (SE.sv ⟨#[]⟩ (.slice none 0 0) (.slice none 0 0) ⟨#[]⟩ false (.slice none 0 0) (.slice none 0 0)).toArray 43) = w0 at *
    refine (NT.out _).mono ?_
    rintro e w1 ⟨rfl, hw1⟩
    have HT : Hid _ := HK.out w0
    have h01 : Below w0.heap.size w0 w1 := by rw [← hw1]; exact (((Below.refl _ w0).alloc (Nat.le_refl _) _).alloc (by simp) _).alloc (by simp; omega) _
    rw [hw1] at HT
    clear hw1 NT HK
    go_wp2_with fail
    refine (SE0.out _ _ _ _ HT.out).mono ?_
    rintro e w2 ⟨a1, k1, a2, k2, rfl, own1, own2, hdd, hb2⟩
    rw [HD.out]
    rw [HL.out] at own1 own2
    have h02 : Below w0.heap.size w0 w2 := h01.trans (hb2.mono h01.size)
    have hR0 := HR.out.1.below h02 HR.out.1.lt
    have HS : Hid (MA.Rg (w2.setCells w.heap.size 0 (SE.sv b (.slice a1 (SE.many b) k1) (.slice a2 (SE.many b) k2) (zS b.size) false (.slice none 0 0) (.slice none 0 0))) w.heap.size 0 (SE.sv b (.slice a1 (SE.many b) k1) (.slice a2 (SE.many b) k2) (zS b.size) false (.slice none 0 0) (.slice none 0 0)) ∧ NewAt w (w2.setCells w.heap.size 0 (SE.sv b (.slice a1 (SE.many b) k1) (.slice a2 (SE.many b) k2) (zS b.size) false (.slice none 0 0) (.slice none 0 0))) b (.returned (.tuple #[.agg (SE.sv b (.slice a1 (SE.many b) k1) (.slice a2 (SE.many b) k2) (zS b.size) false (.slice none 0 0) (.slice none 0 0)).toArray, .bool true]))) := by
      refine ⟨hR0.put rfl, a1, k1, a2, k2, ?_, ?_, ?_, hdd, MA.below_cells (Nat.le_refl _) _ _ _ (HR.out.2.trans (h02.mono HR.out.2.size))⟩
      · rw [(n_yes HOK.out).1, (n_yes HOK.out).2.1, (n_yes HOK.out).2.2, HOK.out]
      · rw [(n_yes HOK.out).2.2]; exact SE.own_set (CB.own_mono own1 (Nat.le_trans HR.out.2.size h01.size)) (fun x hx he => by have q1 := (SE.own_lt own1 hx).1; have q2 := HR.out.1.lt; have q3 := h01.size; omega)
      · rw [(n_yes HOK.out).2.2]; exact SE.own_set (CB.own_mono own2 (Nat.le_trans HR.out.2.size h01.size)) (fun x hx he => by have q1 := (SE.own_lt own2 hx).1; have q2 := HR.out.1.lt; have q3 := h01.size; omega)
    have HR0 : Hid _ := hR0
    clear SE0 HD HL HOK own1 own2 hdd hb2 h02 h01 hR0 HR HT
    go_wp2_with (refine MA.store_m rfl 43 _ _ rfl rfl rfl (vs := SE.sv b (.slice a1 (SE.many b) k1) (.slice a2 (SE.many b) k2) (zS b.size) false (.slice none 0 0) (.slice none 0 0)) (cs := SE.sv ⟨#[]⟩ (.slice none 0 0) (.slice none 0 0) ⟨#[]⟩ false (.slice none 0 0) (.slice none 0 0)) ?_ Try.sizeSession rfl rfl (SE.sv_one _ _ _ _ _ _ _ rfl rfl rfl rfl) ?_; exact HR0.out)
    exact bodyPost_ret (MA.ret_cell2 rfl rfl rfl (MA.load_rg HS.out.1 Try.underlying43 rfl Try.sizeSession rfl)) rfl HS.out.2
  · have h' : SE.okB b = false := by simpa using h
    have NT : Hid (∀ W : World, Calls Try.prog 59 #[.string b] W fun e w' => e = .returned (.tuple #[.pointer none, .bool false]) ∧ W = w') := fun W => newTalk_no b W hs h'
    have HN : Hid (∀ W, Below w.heap.size w W → NewAt w W b (.returned (.tuple #[.agg (SE.sv ⟨#[]⟩ (.slice none 0 0) (.slice none 0 0) ⟨#[]⟩ false (.slice none 0 0) (.slice none 0 0)).toArray, .bool false]))) := fun W hb => newAt_no h' hb
    have hz := Try.zeroSession
    clear h h'
    go_enter Try.func19, Try.ntmps19
    go_wp2_with (refine MA.alloc_z rfl 43 rfl _ _ Try.infoSession ?_)
    generalize w.alloc (.cells (SE.sv ⟨#[]⟩ (.slice none 0 0) (.slice none 0 0) ⟨#[]⟩ false (.slice none 0 0) (.slice none 0 0)).toArray 43) = w0 at *
    refine (NT.out _).mono ?_
    rintro e w1 ⟨rfl, rfl⟩
    have HS : Hid (MA.Rg (w0.setCells w.heap.size 0 (SE.sv ⟨#[]⟩ (.slice none 0 0) (.slice none 0 0) ⟨#[]⟩ false (.slice none 0 0) (.slice none 0 0))) w.heap.size 0 (SE.sv ⟨#[]⟩ (.slice none 0 0) (.slice none 0 0) ⟨#[]⟩ false (.slice none 0 0) (.slice none 0 0)) ∧ NewAt w (w0.setCells w.heap.size 0 (SE.sv ⟨#[]⟩ (.slice none 0 0) (.slice none 0 0) ⟨#[]⟩ false (.slice none 0 0) (.slice none 0 0))) b (.returned (.tuple #[.agg (SE.sv ⟨#[]⟩ (.slice none 0 0) (.slice none 0 0) ⟨#[]⟩ false (.slice none 0 0) (.slice none 0 0)).toArray, .bool false]))) := ⟨HR.out.1.put rfl, HN.out _ (MA.below_cells (Nat.le_refl _) _ _ _ HR.out.2)⟩
    have HR0 : Hid _ := HR.out.1
    clear HR NT HN
    go_wp2_with (first
      | (refine MA.build_m rfl 43 rfl (cs := SE.sv ⟨#[]⟩ (.slice none 0 0) (.slice none 0 0) ⟨#[]⟩ false (.slice none 0 0) (.slice none 0 0)) (by kernel_rfl) ?_)
      | (refine MA.store_m rfl 43 _ _ rfl rfl rfl (vs := SE.sv ⟨#[]⟩ (.slice none 0 0) (.slice none 0 0) ⟨#[]⟩ false (.slice none 0 0) (.slice none 0 0)) (cs := SE.sv ⟨#[]⟩ (.slice none 0 0) (.slice none 0 0) ⟨#[]⟩ false (.slice none 0 0) (.slice none 0 0)) ?_ Try.sizeSession rfl rfl (SE.sv_one _ _ _ _ _ _ _ rfl rfl rfl rfl) ?_; exact HR0.out))
    exact bodyPost_ret (MA.ret_cell2 rfl rfl rfl (MA.load_rg HS.out.1 Try.underlying43 rfl Try.sizeSession rfl)) rfl HS.out.2
set_option linter.unusedSimpArgs false in
set_option maxHeartbeats 1600000 in
set_option maxRecDepth 100000 in
theorem specNew_any (b : ByteArray) (w : World) : Calls Try.prog 18 #[.string b] w fun e w' => NewAt w w' b e := by
  have r0 := MA.Rg.new w (SE.sv ⟨#[]⟩ (.slice none 0 0) (.slice none 0 0) ⟨#[]⟩ false (.slice none 0 0) (.slice none 0 0)) 43
  have hb : Below w.heap.size w (w.alloc (.cells (SE.sv ⟨#[]⟩ (.slice none 0 0) (.slice none 0 0) ⟨#[]⟩ false (.slice none 0 0) (.slice none 0 0)).toArray 43)) := (Below.refl _ w).alloc (Nat.le_refl _) _
  have HR : Hid _ := And.intro r0 hb
  have L1 : Hid (∀ W : World, Calls Try.prog 57 #[.int .i64 (b.size : Int), .int .i64 1, .int .i64 40] W fun e w' => e = .returned (.bool (SE.okB b)) ∧ W = w') := fun W => l1In_any _ 1 40 W
  clear r0 hb
  go_enter Try.func18, Try.ntmps18
  go_wp2_with (first | (refine MA.alloc_z rfl 43 rfl _ _ Try.infoSession ?_) | (go_at_call 57; fail))
  generalize w.alloc (.cells (SE.sv ⟨#[]⟩ (.slice none 0 0) (.slice none 0 0) ⟨#[]⟩ false (.slice none 0 0) (.slice none 0 0)).toArray 43) = w0 at *
  refine (L1.out _).mono ?_
  rintro e w1 ⟨rfl, rfl⟩
  clear L1
  by_cases h : SE.okB b = true
  · have h40 := SE.okB_is h
    have hm5 := SE.many_le h40.2
    have HOK : Hid (SE.okB b = true) := h
    obtain ⟨i0, hi, hz0, hz1, hz2⟩ := info_parts Try.infoU8
    obtain ⟨i1, ki, kz0, kz1, kz2⟩ := info_parts Try.infoBool
    have LM : Hid (∀ (v1 v2 : Value) (W : World), Calls Try.prog 58 #[.agg (SE.sv b v1 v2 (zS b.size) false (.slice none 0 0) (.slice none 0 0)).toArray] W fun e w' => e = .returned (.int .i64 (SE.many b : Int)) ∧ Below W.heap.size W w') := fun v1 v2 W => l5Many_any b v1 v2 _ _ _ _ W (by omega)
    rw [h]
    clear h
    go_wp2_with (at_make; refine wpList_make_full _ rfl _ _ 104 rfl w0.heap.size 5 i0 (.int .u8 0) 1 Try.underlying104 hi hz0 hz1 .i64 .i64 _ _ b.size rfl rfl rfl rfl ?_ ?_ ?_ ?_)
    · rw [hz2]; omega
    · unfold maxLen; omega
    · simp
    intro w1 hown1 hgrow1
    have hb1 : Below w0.heap.size w0 w1 := (Below.refl _ w0).grown hgrow1 (Nat.le_refl _) (fun k hk => by cases hk)
    have hown2 : w1.ownsRow w0.heap.size 5 1 (.slice (some ⟨w0.heap.size, 0, none⟩) b.size b.size) (List.replicate b.size (0 : UInt8)).length (M2.bv (List.replicate b.size 0)) := by
      rw [List.length_replicate, ← M9.made_bv]
      simpa using hown1
    have hcv := M2.conv_own (P := Try.prog) 104 9 5 Try.underlying104 Try.underlying5 Try.underlying9 hown2
    have hcv2 : (convert 104 9 (.slice (some ⟨w0.heap.size, 0, none⟩) b.size b.size)).run Try.prog w1 = .ok (.string (zS b.size)) w1 := hcv
    have hRN := MA.Rg.new w1 (SE.sv ⟨#[]⟩ (.slice none 0 0) (.slice none 0 0) ⟨#[]⟩ false (.slice none 0 0) (.slice none 0 0)) 43
    have hq := hRN.put (vs := SE.sv b (.slice none 0 0) (.slice none 0 0) (zS b.size) false (.slice none 0 0) (.slice none 0 0)) rfl
    have hB2 : Below w0.heap.size w0 ((w1.alloc (.cells (SE.sv ⟨#[]⟩ (.slice none 0 0) (.slice none 0 0) ⟨#[]⟩ false (.slice none 0 0) (.slice none 0 0)).toArray 43)).setCells w1.heap.size 0 (SE.sv b (.slice none 0 0) (.slice none 0 0) (zS b.size) false (.slice none 0 0) (.slice none 0 0))) := MA.below_cells hb1.size _ _ _ (hb1.alloc hb1.size _)
    have HQ : Hid _ := And.intro hq hB2
    have HRN : Hid _ := hRN
    have hqs : Hid (w0.heap.size ≤ w1.heap.size) := hb1.size
    clear hown1 hown2 hcv hgrow1 hi hz0 hz1 hz2 hRN hq hB2 hb1
    go_wp2_with (first
      | (refine MA.build_m rfl 43 rfl (cs := SE.sv b (.slice none 0 0) (.slice none 0 0) (zS b.size) false (.slice none 0 0) (.slice none 0 0)) (by kernel_rfl) ?_)
      | (refine MA.alloc_z rfl 43 rfl _ _ Try.infoSession ?_)
      | (refine MA.store_m rfl 43 _ _ rfl rfl rfl (vs := SE.sv b (.slice none 0 0) (.slice none 0 0) (zS b.size) false (.slice none 0 0) (.slice none 0 0)) (cs := SE.sv ⟨#[]⟩ (.slice none 0 0) (.slice none 0 0) ⟨#[]⟩ false (.slice none 0 0) (.slice none 0 0)) ?_ Try.sizeSession rfl rfl (SE.sv_one _ _ _ _ _ _ _ rfl rfl rfl rfl) ?_; exact HRN.out; clear HRN hcv2; generalize World.setCells _ _ _ _ = W2 at *; have HQR : Hid _ := HQ.out.1.rng)
      | (refine MA.load_r rfl 43 _ rfl rfl (cs := SE.sv b (.slice none 0 0) (.slice none 0 0) (zS b.size) false (.slice none 0 0) (.slice none 0 0)) ?_ Try.underlying43 rfl Try.sizeSession rfl ?_; exact HQR.out))
    generalize w1.heap.size = q at *
    refine (LM.out _ _ _).mono ?_
    rintro e w3 ⟨rfl, hb3⟩
    replace HQ : Hid _ := And.intro (HQ.out.1.below hb3 HQ.out.1.lt) (HQ.out.2.trans (hb3.mono HQ.out.2.size))
    clear HQR hb3
    go_wp2_with (at_make; refine wpList_make_full _ rfl _ _ 40 rfl w0.heap.size 4 i1 (.bool false) 1 Try.underlying40 ki kz0 kz1 .i64 .i64 _ _ (SE.many b) rfl rfl rfl rfl ?_ ?_ ?_ ?_)
    · rw [kz2]; omega
    · unfold maxLen; omega
    · exact HQ.out.2.size
    intro w4 hown4 hgrow4
    have hb4 : Below w3.heap.size w3 w4 := (Below.refl _ w3).grown hgrow4 (Nat.le_refl _) (fun k hk => by cases hk)
    have o4 : w4.ownsRow w0.heap.size 4 1 (.slice (some ⟨w3.heap.size, 0, none⟩) (SE.many b) (SE.many b)) (SE.many b) (SE.bl (List.replicate (SE.many b) false)) := by
      rw [← made_bl]; simpa using hown4
    have hq3 := HQ.out.1.lt
    obtain ⟨g1, hg1⟩ : ∃ g1, g1 = w3.heap.size := ⟨_, rfl⟩
    have hr4 := HQ.out.1.below hb4 HQ.out.1.lt
    have hB4 := HQ.out.2.trans (hb4.mono HQ.out.2.size)
    rw [← hg1] at o4 ⊢
    have c1 := CB.c_of hr4 (j := 1) rfl
    have f1 := CB.f_of hr4 (j := 1) (by simp [SE.sv])
    have p1 := CB.put1 hr4 (j := 1) (by simp [SE.sv]) (.slice (some ⟨g1, 0, none⟩) (SE.many b) (SE.many b))
    have HP : Hid (MA.Rg (w4.setCell ⟨q, 1, none⟩ (.slice (some ⟨g1, 0, none⟩) (SE.many b) (SE.many b))) q 0 (SE.sv b (.slice (some ⟨g1, 0, none⟩) (SE.many b) (SE.many b)) (.slice none 0 0) (zS b.size) false (.slice none 0 0) (.slice none 0 0)) ∧ Below w0.heap.size w0 (w4.setCell ⟨q, 1, none⟩ (.slice (some ⟨g1, 0, none⟩) (SE.many b) (SE.many b))) ∧ (w4.setCell ⟨q, 1, none⟩ (.slice (some ⟨g1, 0, none⟩) (SE.many b) (SE.many b))).ownsRow w0.heap.size 4 1 (.slice (some ⟨g1, 0, none⟩) (SE.many b) (SE.many b)) (SE.many b) (SE.bl (List.replicate (SE.many b) false)) ∧ g1 < (w4.setCell ⟨q, 1, none⟩ (.slice (some ⟨g1, 0, none⟩) (SE.many b) (SE.many b))).heap.size) := ⟨p1, hB4.setCell (p := ⟨q, 1, none⟩) hqs.out _, SE.own_only o4 ((MC.Only.refl q w4).setCell 1 _) (fun x hx he => by cases hx; omega), by have := (SE.own_lt o4 rfl).2; simpa using this⟩
    have HG1 : Hid (q < g1) := by rw [hg1]; exact hq3
    clear p1 hr4 hB4 o4 hown4 hgrow4 hb4 HQ hq3 hg1
    go_wp2_with (refine MA.load_r rfl 43 _ rfl rfl (cs := SE.sv b (.slice (some ⟨g1, 0, none⟩) (SE.many b) (SE.many b)) (.slice none 0 0) (zS b.size) false (.slice none 0 0) (.slice none 0 0)) ?_ Try.underlying43 rfl Try.sizeSession rfl ?_; exact HP.out.1.rng)
    generalize World.setCell _ _ _ = W5 at *
    clear c1 f1
    refine (LM.out _ _ _).mono ?_
    rintro e w6 ⟨rfl, hb6⟩
    replace HP : Hid (MA.Rg w6 q 0 (SE.sv b (.slice (some ⟨g1, 0, none⟩) (SE.many b) (SE.many b)) (.slice none 0 0) (zS b.size) false (.slice none 0 0) (.slice none 0 0)) ∧ Below w0.heap.size w0 w6 ∧ w6.ownsRow w0.heap.size 4 1 (.slice (some ⟨g1, 0, none⟩) (SE.many b) (SE.many b)) (SE.many b) (SE.bl (List.replicate (SE.many b) false)) ∧ g1 < w6.heap.size) := ⟨HP.out.1.below hb6 HP.out.1.lt, HP.out.2.1.trans (hb6.mono HP.out.2.1.size), MP.own_below HP.out.2.2.1 hb6, Nat.lt_of_lt_of_le HP.out.2.2.2 hb6.size⟩
    clear hb6 LM
    go_wp2_with (at_make; refine wpList_make_full _ rfl _ _ 40 rfl w0.heap.size 4 i1 (.bool false) 1 Try.underlying40 ki kz0 kz1 .i64 .i64 _ _ (SE.many b) rfl rfl rfl rfl ?_ ?_ ?_ ?_)
    · rw [kz2]; omega
    · unfold maxLen; omega
    · exact HP.out.2.1.size
    intro w7 hown7 hgrow7
    have hb7 : Below w6.heap.size w6 w7 := (Below.refl _ w6).grown hgrow7 (Nat.le_refl _) (fun k hk => by cases hk)
    have o7 : w7.ownsRow w0.heap.size 4 1 (.slice (some ⟨w6.heap.size, 0, none⟩) (SE.many b) (SE.many b)) (SE.many b) (SE.bl (List.replicate (SE.many b) false)) := by
      rw [← made_bl]; simpa using hown7
    have hq6 := HP.out.1.lt
    have hg6 := HP.out.2.2.2
    obtain ⟨g2, hg2⟩ : ∃ g2, g2 = w6.heap.size := ⟨_, rfl⟩
    have hr7 := HP.out.1.below hb7 HP.out.1.lt
    have hB7 := HP.out.2.1.trans (hb7.mono HP.out.2.1.size)
    have o71 := MP.own_below HP.out.2.2.1 hb7
    rw [← hg2] at o7 hq6 hg6 ⊢
    have c2 := CB.c_of hr7 (j := 2) rfl
    have f2 := CB.f_of hr7 (j := 2) (by simp [SE.sv])
    have p2 := CB.put1 hr7 (j := 2) (by simp [SE.sv]) (.slice (some ⟨g2, 0, none⟩) (SE.many b) (SE.many b))
    have HZ : Hid (MA.Rg (w7.setCell ⟨q, 2, none⟩ (.slice (some ⟨g2, 0, none⟩) (SE.many b) (SE.many b))) q 0 (SE.sv b (.slice (some ⟨g1, 0, none⟩) (SE.many b) (SE.many b)) (.slice (some ⟨g2, 0, none⟩) (SE.many b) (SE.many b)) (zS b.size) false (.slice none 0 0) (.slice none 0 0)) ∧ Below w0.heap.size w0 (w7.setCell ⟨q, 2, none⟩ (.slice (some ⟨g2, 0, none⟩) (SE.many b) (SE.many b))) ∧ (w7.setCell ⟨q, 2, none⟩ (.slice (some ⟨g2, 0, none⟩) (SE.many b) (SE.many b))).ownsRow w0.heap.size 4 1 (.slice (some ⟨g1, 0, none⟩) (SE.many b) (SE.many b)) (SE.many b) (SE.bl (List.replicate (SE.many b) false)) ∧ (w7.setCell ⟨q, 2, none⟩ (.slice (some ⟨g2, 0, none⟩) (SE.many b) (SE.many b))).ownsRow w0.heap.size 4 1 (.slice (some ⟨g2, 0, none⟩) (SE.many b) (SE.many b)) (SE.many b) (SE.bl (List.replicate (SE.many b) false))) := ⟨p2, hB7.setCell (p := ⟨q, 2, none⟩) hqs.out _, SE.own_only o71 ((MC.Only.refl q w7).setCell 2 _) (fun x hx he => by cases hx; have := HG1.out; omega), SE.own_only o7 ((MC.Only.refl q w7).setCell 2 _) (fun x hx he => by cases hx; omega)⟩
    have HNE : Hid (g1 ≠ g2) := Nat.ne_of_lt hg6
    clear p2 hr7 hB7 o7 o71 hown7 hgrow7 hb7 HP hq6 hg6 hg2 ki kz0 kz1 kz2
    have HFIN : Hid (∀ W : World, MA.Rg W q 0 (SE.sv b (.slice (some ⟨g1, 0, none⟩) (SE.many b) (SE.many b)) (.slice (some ⟨g2, 0, none⟩) (SE.many b) (SE.many b)) (zS b.size) false (.slice none 0 0) (.slice none 0 0)) → Below w0.heap.size w0 W → W.ownsRow w0.heap.size 4 1 (.slice (some ⟨g1, 0, none⟩) (SE.many b) (SE.many b)) (SE.many b) (SE.bl (List.replicate (SE.many b) false)) → W.ownsRow w0.heap.size 4 1 (.slice (some ⟨g2, 0, none⟩) (SE.many b) (SE.many b)) (SE.many b) (SE.bl (List.replicate (SE.many b) false)) → MA.Rg W w.heap.size 0 (SE.sv ⟨#[]⟩ (.slice none 0 0) (.slice none 0 0) ⟨#[]⟩ false (.slice none 0 0) (.slice none 0 0)) ∧ MA.Rg (W.setCells w.heap.size 0 (SE.sv b (.slice (some ⟨g1, 0, none⟩) (SE.many b) (SE.many b)) (.slice (some ⟨g2, 0, none⟩) (SE.many b) (SE.many b)) (zS b.size) false (.slice none 0 0) (.slice none 0 0))) w.heap.size 0 (SE.sv b (.slice (some ⟨g1, 0, none⟩) (SE.many b) (SE.many b)) (.slice (some ⟨g2, 0, none⟩) (SE.many b) (SE.many b)) (zS b.size) false (.slice none 0 0) (.slice none 0 0)) ∧ NewAt w (W.setCells w.heap.size 0 (SE.sv b (.slice (some ⟨g1, 0, none⟩) (SE.many b) (SE.many b)) (.slice (some ⟨g2, 0, none⟩) (SE.many b) (SE.many b)) (zS b.size) false (.slice none 0 0) (.slice none 0 0))) b (.returned (.tuple #[.agg (SE.sv b (.slice (some ⟨g1, 0, none⟩) (SE.many b) (SE.many b)) (.slice (some ⟨g2, 0, none⟩) (SE.many b) (SE.many b)) (zS b.size) false (.slice none 0 0) (.slice none 0 0)).toArray, .bool true]))) := fun W _ hbW ow1 ow2 => by
      have hR0 := HR.out.1.below hbW HR.out.1.lt
      refine ⟨hR0, hR0.put rfl, some ⟨g1, 0, none⟩, SE.many b, some ⟨g2, 0, none⟩, SE.many b, ?_, ?_, ?_, ?_, MA.below_cells (Nat.le_refl _) _ _ _ (HR.out.2.trans (hbW.mono HR.out.2.size))⟩
      · rw [(n_yes HOK.out).1, (n_yes HOK.out).2.1, (n_yes HOK.out).2.2, HOK.out]
      · rw [(n_yes HOK.out).2.2]; exact SE.own_set (CB.own_mono ow1 HR.out.2.size) (fun x hx he => by have q1 := (SE.own_lt ow1 hx).1; have q2 := HR.out.1.lt; omega)
      · rw [(n_yes HOK.out).2.2]; exact SE.own_set (CB.own_mono ow2 HR.out.2.size) (fun x hx he => by have q1 := (SE.own_lt ow2 hx).1; have q2 := HR.out.1.lt; omega)
      · intro x x' h1 h2; cases h1; cases h2; exact HNE.out
    go_wp2_with (first
      | (refine MA.load_r rfl 43 _ rfl rfl (cs := SE.sv b (.slice (some ⟨g1, 0, none⟩) (SE.many b) (SE.many b)) (.slice (some ⟨g2, 0, none⟩) (SE.many b) (SE.many b)) (zS b.size) false (.slice none 0 0) (.slice none 0 0)) ?_ Try.underlying43 rfl Try.sizeSession rfl ?_; exact HZ.out.1.rng; generalize World.setCell _ _ _ = W8 at *; have HE : Hid _ := HFIN.out W8 HZ.out.1 HZ.out.2.1 HZ.out.2.2.1 HZ.out.2.2.2; clear HFIN HZ c2 f2)
      | (refine MA.store_m rfl 43 _ _ rfl rfl rfl (vs := SE.sv b (.slice (some ⟨g1, 0, none⟩) (SE.many b) (SE.many b)) (.slice (some ⟨g2, 0, none⟩) (SE.many b) (SE.many b)) (zS b.size) false (.slice none 0 0) (.slice none 0 0)) (cs := SE.sv ⟨#[]⟩ (.slice none 0 0) (.slice none 0 0) ⟨#[]⟩ false (.slice none 0 0) (.slice none 0 0)) ?_ Try.sizeSession rfl rfl (SE.sv_one _ _ _ _ _ _ _ rfl rfl rfl rfl) ?_; exact HE.out.1))
    exact bodyPost_ret (MA.ret_cell2 rfl rfl rfl (MA.load_rg HE.out.2.1 Try.underlying43 rfl Try.sizeSession rfl)) rfl HE.out.2.2
  · have h' : SE.okB b = false := by simpa using h
    have HN : Hid (∀ W, Below w.heap.size w W → NewAt w W b (.returned (.tuple #[.agg (SE.sv ⟨#[]⟩ (.slice none 0 0) (.slice none 0 0) ⟨#[]⟩ false (.slice none 0 0) (.slice none 0 0)).toArray, .bool false]))) := fun W hb => newAt_no h' hb
    have HS : Hid (MA.Rg (w0.setCells w.heap.size 0 (SE.sv ⟨#[]⟩ (.slice none 0 0) (.slice none 0 0) ⟨#[]⟩ false (.slice none 0 0) (.slice none 0 0))) w.heap.size 0 (SE.sv ⟨#[]⟩ (.slice none 0 0) (.slice none 0 0) ⟨#[]⟩ false (.slice none 0 0) (.slice none 0 0)) ∧ NewAt w (w0.setCells w.heap.size 0 (SE.sv ⟨#[]⟩ (.slice none 0 0) (.slice none 0 0) ⟨#[]⟩ false (.slice none 0 0) (.slice none 0 0))) b (.returned (.tuple #[.agg (SE.sv ⟨#[]⟩ (.slice none 0 0) (.slice none 0 0) ⟨#[]⟩ false (.slice none 0 0) (.slice none 0 0)).toArray, .bool false]))) := ⟨HR.out.1.put rfl, HN.out _ (MA.below_cells (Nat.le_refl _) _ _ _ HR.out.2)⟩
    have HR0 : Hid _ := HR.out.1
    rw [h']
    clear HR HN h h'
    go_wp2_with (first
      | (refine MA.build_m rfl 43 rfl (cs := SE.sv ⟨#[]⟩ (.slice none 0 0) (.slice none 0 0) ⟨#[]⟩ false (.slice none 0 0) (.slice none 0 0)) (by kernel_rfl) ?_)
      | (refine MA.store_m rfl 43 _ _ rfl rfl rfl (vs := SE.sv ⟨#[]⟩ (.slice none 0 0) (.slice none 0 0) ⟨#[]⟩ false (.slice none 0 0) (.slice none 0 0)) (cs := SE.sv ⟨#[]⟩ (.slice none 0 0) (.slice none 0 0) ⟨#[]⟩ false (.slice none 0 0) (.slice none 0 0)) ?_ Try.sizeSession rfl rfl (SE.sv_one _ _ _ _ _ _ _ rfl rfl rfl rfl) ?_; exact HR0.out))
    exact bodyPost_ret (MA.ret_cell2 rfl rfl rfl (MA.load_rg HS.out.1 Try.underlying43 rfl Try.sizeSession rfl)) rfl HS.out.2

end Go.Proofs.Ytjlombnjmpejjaa
