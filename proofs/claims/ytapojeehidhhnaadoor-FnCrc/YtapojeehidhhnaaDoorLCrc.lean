/- The law FnCrc answers true at every argument, where the table lies in memory. -/
import Derived.Test.YtapojeehidhhnaaDoorCDraw1b
import Derived.Test.YtapojeehidhhnaaDoorCImplCrcAdd
import Derived.Test.YtapojeehidhhnaaDoorMCrc
namespace Go.Proofs.YtapojeehidhhnaaDoor
open Go.RowKit
theorem bytes_free (w : World) (e : TypeId) (s : ByteArray) (i : Nat) (h : i < s.size) : (Lib.bytesWorld w e s).frozen? ⟨w.heap.size, i, none⟩ = false := by
  unfold World.frozen?
  rw [Lib.bytesWorld_at_new]
  have : i < (Lib.bytesCells w e s).size := by
    have h' : i < s.data.size := h
    simp [Lib.bytesCells]; omega
  simp; omega
/-- The row of a text's bytes with one of them turned, read again. -/
theorem conv_flip {P : Program} (src dst e : TypeId) (hs : P.underlying src = some (.slice e)) (he : P.underlying e = some (.int .u8)) (hd : P.underlying dst = some .string) (t : ByteArray) (i d cap : Nat) (w : World) (q : Nat)
    (hi : i < t.size) (hd' : d < 256) (hc : ∀ j, j < t.size → w.cell? ⟨q, j, none⟩ = some (.int .u8 (M3.gb t j : Int))) :
    (convert src dst (.slice (some ⟨q, 0, none⟩) t.size cap)).run P (w.setCell ⟨q, i, none⟩ (.int .u8 ((M3.gb t i ^^^ d : Nat) : Int))) = .ok (.string (MCrc.flip t i d)) (w.setCell ⟨q, i, none⟩ (.int .u8 ((M3.gb t i ^^^ d : Nat) : Int))) := by
  have hlt : M3.gb t i ^^^ d < 256 := Nat.xor_lt_two_pow (n := 8) (M3.gb_lt t i) hd'
  have hfs : (MCrc.flip t i d).data.toList.length = t.size := by rw [← MCrc.size_list, MCrc.flip_size]
  have := run_convert_bytes_arg (P := P) (w.setCell ⟨q, i, none⟩ (.int .u8 ((M3.gb t i ^^^ d : Nat) : Int))) src e hs he q 0 t.size cap ((MCrc.flip t i d).data.toList.map fun b => (b.toNat : Int)) (by rw [List.length_map, hfs]) (fun j hj => by
    have hj' : j < (MCrc.flip t i d).data.toList.length := by omega
    rw [Nat.zero_add]
    have hg : ((MCrc.flip t i d).data.toList.map fun b => (b.toNat : Int)).getD j 0 = (M3.gb (MCrc.flip t i d) j : Int) := by
      rw [MCrc.gb_list, List.getD_eq_getElem?_getD, List.getElem?_map, List.getElem?_eq_getElem hj', List.getD_eq_getElem?_getD, List.getElem?_eq_getElem hj']; rfl
    rw [hg]
    by_cases hji : j = i
    · subst hji
      rw [World.cell?_setCell_same _ _ _ (hc j hi), MCrc.gb_list (MCrc.flip t j d), MCrc.flip_list, List.getD_eq_getElem?_getD, List.getElem?_set_self (by rw [← MCrc.size_list]; exact hi)]
      simp only [Option.getD_some, M1.byte_nat _ hlt]
    · rw [World.cell?_setCell_other _ _ _ _ (by first | (simp; done) | (simp; omega)), hc j hj, MCrc.gb_list, MCrc.gb_list, MCrc.flip_list, List.getD_eq_getElem?_getD, List.getD_eq_getElem?_getD, List.getElem?_set_ne (by omega)]) dst hd
  rw [this]
  congr 2
  apply MCrc.list_eq
  show (((MCrc.flip t i d).data.toList.map fun b => (b.toNat : Int)).map (fun n => UInt8.ofNat n.toNat)) = _
  rw [List.map_map]; exact (List.map_congr_left (fun b _ => by simp)).trans (List.map_id _)
set_option maxHeartbeats 3200000 in
set_option maxRecDepth 100000 in
theorem lawCrc_any (a b : Option Addr) (zs ys : List Int) (ca cb : Nat) (w : World) (hz : zs.length ≤ 140737488355328) (hy : ys.length ≤ 140737488355328) (hbz : MC.BytesAt w w.heap.size a zs) (hby : MC.BytesAt w w.heap.size b ys) (hT : Tab w) :
    Calls Tryd.prog 3 #[.slice a zs.length ca, .slice b ys.length cb] w fun e w' => e = .returned (.bool true) ∧ Below w.heap.size w w' := by
  by_cases h20 : zs.length + ys.length ≤ 1048576
  · go_enter Tryd.func3, Tryd.ntmps3
    go_wp2_with fail
    refine (drawWithCrc_any a zs ca _ hz hbz).mono ?_
    rintro e w1 ⟨s, rfl, hs, B1⟩
    have hsm : s.size ≤ maxLen := by unfold maxLen; omega
    go_wp2_with fail
    refine (implWith_any s _ hsm (hT.below B1)).mono ?_
    rintro e w2 ⟨rfl, b2⟩
    have B2 := B1.trans (b2.mono B1.size)
    clear B1 b2
    go_wp2_with fail
    refine (specWith_any s _ hsm).mono ?_
    rintro e w3 ⟨rfl, b3⟩
    have B3 := B2.trans (b3.mono B2.size)
    clear B2 b3
    go_wp2_with fail
    refine (implCrcOf_any s _ hsm (hT.below B3)).mono ?_
    rintro e w' ⟨rfl, rfl⟩
    go_wp2_with fail
    refine (specCrcOf_any s _ hsm).mono ?_
    rintro e w' ⟨rfl, rfl⟩
    by_cases h398 : s.size ≤ 398
    · have e1 : wF s = withS s := (wF_yes h398).symm
      have e2 : crcF s = crcT s := (crcF_yes (by omega)).symm
      obtain ⟨t1, t2⟩ := MCrc.told s h398
      have hts := MCrc.with_size s
      have hse := MCrc.seen s
      rw [e1, e2]
      have d1 : decide (s.size ≤ 398) = true := by simp [h398]
      have d2 : decide (s.size ≤ 400) = true := by simp; omega
      rw [d1, d2]
      clear e1 e2 d1 d2
      obtain ⟨t, ht⟩ : ∃ t, t = withS s := ⟨_, rfl⟩
      rw [← ht] at t1 t2 hts hse ⊢
      clear ht
      have HS : Hid (t.size = s.size + 2) := hts
      have HE : Hid (∀ i d, i < s.size + 2 → 0 < d → d < 256 → chk (MCrc.flip t i d) = false) := hse
      have ht400 : t.size ≤ 400 := by omega
      have ht0 : 0 < t.size := by omega
      have htm : t.size ≤ maxLen := by unfold maxLen; omega
      clear hts hse
      go_wp2_with fail
      refine (implCheck_any t _ htm (hT.below B3)).mono ?_
      rintro e w4 ⟨rfl, b4⟩
      rw [t1, t2]
      have B4 := B3.trans (b4.mono B3.size)
      clear B3 b4 t1 t2
      have c1 : ∀ W : World, (convert 9 22 (.string t)).run Tryd.prog W = .ok (.slice (some ⟨W.heap.size, 0, none⟩) t.size (grownCap W t.size 0 5)) (Lib.bytesWorld W 5 t) := fun W =>
        Lib.run_convert_string_bytes W 9 22 5 _ Tryd.underlying9 Tryd.underlying22 Tryd.underlying5
      go_wp2_with fail
      have hcb : ∀ j, j < t.size → (Lib.bytesWorld w4 5 t).cell? ⟨w4.heap.size, j, none⟩ = some (.int .u8 (M3.gb t j : Int)) := fun j hj => by
        rw [Lib.bytesWorld_cell w4 5 t j hj, MCrc.gb_list]
      have hfb : ∀ j, j < t.size → (Lib.bytesWorld w4 5 t).frozen? ⟨w4.heap.size, j, none⟩ = false := fun j hj => bytes_free w4 5 t j hj
      have b5 := bytes_below w4 5 t
      have hq4 : w4.heap.size < (Lib.bytesWorld w4 5 t).heap.size := by rw [Lib.bytesWorld_size]; omega
      clear c1
      generalize grownCap w4 t.size 0 5 = cap5 at *
      generalize Lib.bytesWorld w4 5 t = w5 at *
      have B5 := B4.trans (b5.mono B4.size)
      refine (numberOf_any b ys cb w.heap.size _ hy (hby.only (q := w.heap.size) (MC.Only.of_below B5) (Nat.le_refl _) (Nat.le_refl _))).mono ?_
      rintro e w' ⟨n, rfl, hn, rfl⟩
      have hi : n % t.size < t.size := Nat.mod_lt _ ht0
      have hci := hcb _ hi
      have hfi := hfb _ hi
      have hgl := M3.gb_lt t (n % t.size)
      have hflip := conv_flip (P := Tryd.prog) 22 9 5 Tryd.underlying22 Tryd.underlying5 Tryd.underlying9 t (n % t.size) (1 + n % 255) cap5 w5 w4.heap.size hi (by omega) hcb
      have hno := HE.out (n % t.size) (1 + n % 255) (by have := HS.out; omega) (by omega) (by omega)
      have hx : bits .xor .u8 ((M3.gb t (n % t.size) : Nat) : Int) (1 + (n : Int) % 255) = ((M3.gb t (n % t.size) ^^^ (1 + n % 255) : Nat) : Int) := by
        rw [show (1 + (n : Int) % 255) = ((1 + n % 255 : Nat) : Int) from by omega]; exact u8_xor_nat _ _ hgl (by omega)
      have hti : ((n : Int) % (t.size : Int)) = ((n % t.size : Nat) : Int) := by rw [Int.natCast_emod]
      have hfs := MCrc.flip_size t (n % t.size) (1 + n % 255)
      generalize MCrc.flip t (n % t.size) (1 + n % 255) = ft at *
      generalize M3.gb t (n % t.size) ^^^ (1 + n % 255) = gx at *
      generalize M3.gb t (n % t.size) = g at *
      generalize n % t.size = ii at *
      clear hcb hfb HE
      go_wp2_with fail
      have B6 := B5.setCell (p := ⟨w4.heap.size, ii, none⟩) B4.size (.int .u8 (gx : Int))
      refine (implCheck_any ft _ (by rw [hfs]; exact htm) (hT.below B6)).mono ?_
      rintro e w7 ⟨rfl, b7⟩
      rw [hno]
      have B7 := B6.trans (b7.mono B6.size)
      have hT7 := hT.below B7
      clear b7 B6 B5 B4 b5 hflip hci hfi hno hx hti hfs hq4
      have HC : Hid (cs s s.size = crcT s) := rfl
      generalize crcT s = cr at *
      go_wp2_with fail
      go_loop [21, 22, 23, 24] (fun cv iv _ _ => ∃ z k : Nat, cv = .int .i64 (z : Int) ∧ iv = .int .i64 (k : Int) ∧ k ≤ s.size ∧ z < 65536 ∧ Hid (cs s k = z)) (fun _ iv _ _ => (s.size - intOf iv).toNat)
      case atStart => exact ⟨65535, 0, rfl, rfl, by omega, by omega, rfl⟩
      case round =>
        obtain ⟨z, k, rfl, rfl, hk, hzl, HZ⟩ := hrel
        by_cases hl : k < s.size
        · have hg := M3.gb_eq s k hl
          have hlt := M3.gb_lt s k
          have hS : Hid (cs s (k + 1) = M6.add z (M3.gb s k)) := by show _ = _; rw [cs, HZ.out]
          have hA : Hid (∀ wx, Tab wx → Calls Tryd.prog 11 #[.int .i64 (z : Int), .int .u8 ((M3.gb s k : Nat) : Int)] wx fun e w' => e = .returned (.tuple #[.int .i64 ((M6.add z (M3.gb s k) : Nat) : Int), .bool true]) ∧ wx = w') := fun wx hx =>
            (implCrcAdd_any (z : Int) (M3.gb s k) wx hlt hx).mono (fun e w' ⟨he, hw⟩ => ⟨by
              rw [he]
              have e1 : addF (z : Int) (M3.gb s k) = M6.add z (M3.gb s k) := by unfold addF; rw [if_pos ⟨by omega, by omega⟩, Int.toNat_natCast]
              have e2 : inB (z : Int) 0 65535 = true := by simp [inB]; omega
              rw [e1, e2], hw⟩)
          have hz' := M6.add_lt z (M3.gb s k) hzl hlt
          generalize M6.add z (M3.gb s k) = z' at *
          generalize M3.gb s k = c at *
          clear HZ HC
          go_wp2_with fail
          refine (hA.out _ hT7).mono ?_
          rintro e w' ⟨rfl, rfl⟩
          go_wp2
          go_round
          case rel => exact ⟨z', k + 1, by go_num, by go_num, by omega, hz', hS⟩
          case measure => simp [intOf]; omega
        · obtain rfl : k = s.size := by omega
          have hzc : z = cr := by rw [← HZ.out, HC.out]
          subst hzc
          clear HZ HC
          go_wp2_with fail
          refine (drawCheckCrc_any b ys cb _ hy ((hby.only (q := w.heap.size) (MC.Only.of_below B7) (Nat.le_refl _) (Nat.le_refl _)).up B7.size)).mono ?_
          rintro e wA ⟨u, rfl, hu, bA⟩
          have BA := B7.trans (bA.mono B7.size)
          have hum : u.size ≤ maxLen := by unfold maxLen; omega
          clear B7 bA
          go_wp2_with fail
          refine (implCheck_any u _ hum (hT.below BA)).mono ?_
          rintro e wB ⟨rfl, bB⟩
          have BB := BA.trans (bB.mono BA.size)
          clear BA bB
          go_wp2_with fail
          refine (specCheck_any u _ hum).mono ?_
          rintro e wC ⟨rfl, bC⟩
          have BC := BB.trans (bC.mono BB.size)
          clear BB bC
          go_wp2
          go_ret
          exact ⟨rfl, BC⟩
    · have d1 : decide (s.size ≤ 398) = false := by simp; omega
      rw [d1]
      clear d1
      go_wp2_with fail
      refine (drawCheckCrc_any b ys cb _ hy ((hby.only (q := w.heap.size) (MC.Only.of_below B3) (Nat.le_refl _) (Nat.le_refl _)).up B3.size)).mono ?_
      rintro e wA ⟨u, rfl, hu, bA⟩
      have BA := B3.trans (bA.mono B3.size)
      have hum : u.size ≤ maxLen := by unfold maxLen; omega
      clear B3 bA
      go_wp2_with fail
      refine (implCheck_any u _ hum (hT.below BA)).mono ?_
      rintro e wB ⟨rfl, bB⟩
      have BB := BA.trans (bB.mono BA.size)
      clear BA bB
      go_wp2_with fail
      refine (specCheck_any u _ hum).mono ?_
      rintro e wC ⟨rfl, bC⟩
      have BC := BB.trans (bC.mono BB.size)
      clear BB bC
      go_wp2
      go_ret
      exact ⟨rfl, BC⟩
  · go_enter Tryd.func3, Tryd.ntmps3
    go_wp2
    go_ret
    exact ⟨rfl, Below.refl _ _⟩
end Go.Proofs.YtapojeehidhhnaaDoor
