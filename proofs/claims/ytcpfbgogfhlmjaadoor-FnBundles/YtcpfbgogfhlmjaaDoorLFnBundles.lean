import Derived.Test.YtcpfbgogfhlmjaaDoorRows
import Derived.Test.YtcpfbgogfhlmjaaDoorMCur
import Derived.WalkKit
import Derived.WalkSpells
import Derived.WalkLawsBesides
import Derived.Outline
import Derived.Test.YtcpfbgogfhlmjaaDoorMCrc
import Derived.Below
import Derived.Lib.ConvBytes
import Derived.Test.YtcpfbgogfhlmjaaDoorCBundleF
import Derived.Test.YtcpfbgogfhlmjaaDoorCReadBundleI
import Derived.Test.YtcpfbgogfhlmjaaDoorCReadBundleS
import Derived.Test.YtcpfbgogfhlmjaaDoorCImplGoodB
import Derived.Deep.DeepCutAuto
/- The laws' numberOf. -/
namespace Go.Proofs.YtcpfbgogfhlmjaaDoor
open Go.RowKit
set_option maxHeartbeats 800000 in
set_option maxRecDepth 100000 in
theorem numberOf_any (a : Option Addr) (zs : List Int) (cap p : Nat) (w : World) (hz : zs.length ≤ 140737488355328) (hb : MC.BytesAt w p a zs) :
    Calls Tryd.prog 10 #[.slice a zs.length cap] w fun e w' => ∃ n : Nat, e = .returned (.int .i64 (n : Int)) ∧ n < 1000003 ∧ w = w' := by
  go_enter Tryd.func10, Tryd.ntmps10
  go_wp2
  go_loop [3, 5, 8] (fun nv _ iv => ∃ n k : Nat, nv = .int .i64 n ∧ iv = .int .i64 k ∧ n < 1000003 ∧ k ≤ zs.length) (fun _ _ iv => (zs.length - intOf iv).toNat)
  case atStart => exact ⟨0, 0, rfl, rfl, by omega, by omega⟩
  case round =>
    obtain ⟨n, k, rfl, rfl, hn, hk⟩ := hrel
    by_cases hl : k < zs.length
    · obtain ⟨b, off, z, rfl, hbp, hc, h0, h1⟩ := hb.at hl
      clear hb
      obtain ⟨m, rfl⟩ := Int.eq_ofNat_of_zero_le h0
      go_wp2
      go_round
      case rel => exact ⟨(31 * n + m) % 1000003, k + 1, by go_num, by go_num, by omega, by omega⟩
      case measure => simp [intOf]; omega
    · go_wp2
      go_ret
      exact ⟨n, rfl, hn, rfl⟩
end Go.Proofs.YtcpfbgogfhlmjaaDoor

/- A text's bytes in a row of their own, one of them turned, read again. -/
namespace Go.Proofs.YtcpfbgogfhlmjaaDoor
open Go.RowKit
theorem bytes_free (w : World) (e : TypeId) (s : ByteArray) (i : Nat) (h : i < s.size) : (Lib.bytesWorld w e s).frozen? ⟨w.heap.size, i, none⟩ = false := by
  unfold World.frozen?
  rw [Lib.bytesWorld_at_new]
  have : i < (Lib.bytesCells w e s).size := by
    have h' : i < s.data.size := h
    simp [Lib.bytesCells]; omega
  simp; omega
/-- The row of a text's bytes with one of them turned, read again. -/
theorem conv_flip {P : Program} (src dst e : TypeId) (hs : P.underlying src = some (.slice e)) (he : P.underlying e = some (.int .u8)) (hd : P.underlying dst = some .string) (t : ByteArray) (i d cap : Nat) (w : World) (q : Nat)
    (hi : i < t.size) (hd' : d < 256) (hc : ∀ j, j < t.size → w.cell? ⟨q, j, none⟩ = some (.int .u8 (M3.gb t j : Int))) :
    (convert src dst (.slice (some ⟨q, 0, none⟩) t.size cap)).run P (w.setCell ⟨q, i, none⟩ (.int .u8 ((M3.gb t i ^^^ d : Nat) : Int))) = .ok (.string (MCrc.flip t i d)) (w.setCell ⟨q, i, none⟩ (.int .u8 ((M3.gb t i ^^^ d : Nat) : Int))) := by
  have hlt : M3.gb t i ^^^ d < 256 := Nat.xor_lt_two_pow (n := 8) (M3.gb_lt t i) hd'
  have hfs : (MCrc.flip t i d).data.toList.length = t.size := by rw [← MCrc.size_list, MCrc.flip_size]
  have := run_convert_bytes_arg (P := P) (w.setCell ⟨q, i, none⟩ (.int .u8 ((M3.gb t i ^^^ d : Nat) : Int))) src e hs he q 0 t.size cap ((MCrc.flip t i d).data.toList.map fun b => (b.toNat : Int)) (by rw [List.length_map, hfs]) (fun j hj => by
    have hj' : j < (MCrc.flip t i d).data.toList.length := by omega
    rw [Nat.zero_add]
    have hg : ((MCrc.flip t i d).data.toList.map fun b => (b.toNat : Int)).getD j 0 = (M3.gb (MCrc.flip t i d) j : Int) := by
      rw [MCrc.gb_list, List.getD_eq_getElem?_getD, List.getElem?_map, List.getElem?_eq_getElem hj', List.getD_eq_getElem?_getD, List.getElem?_eq_getElem hj']; rfl
    rw [hg]
    by_cases hji : j = i
    · subst hji
      rw [World.cell?_setCell_same _ _ _ (hc j hi), MCrc.gb_list (MCrc.flip t j d), MCrc.flip_list, List.getD_eq_getElem?_getD, List.getElem?_set_self (by rw [← MCrc.size_list]; exact hi)]
      simp only [Option.getD_some, M1.byte_nat _ hlt]
    · rw [World.cell?_setCell_other _ _ _ _ (by first | (simp; done) | (simp; omega)), hc j hj, MCrc.gb_list, MCrc.gb_list, MCrc.flip_list, List.getD_eq_getElem?_getD, List.getD_eq_getElem?_getD, List.getElem?_set_ne (by omega)]) dst hd
  rw [this]
  congr 2
  apply MCrc.list_eq
  show (((MCrc.flip t i d).data.toList.map fun b => (b.toNat : Int)).map (fun n => UInt8.ofNat n.toNat)) = _
  rw [List.map_map]; exact (List.map_congr_left (fun b _ => by simp)).trans (List.map_id _)
end Go.Proofs.YtcpfbgogfhlmjaaDoor

/- The law FnBundles answers true, whatever bytes it draws from, where impl.crcTable is as its text lays it. -/
namespace Go.Proofs.YtcpfbgogfhlmjaaDoor
open Go.RowKit
set_option linter.unusedSimpArgs false in
set_option maxHeartbeats 12800000 in
set_option maxRecDepth 100000 in
theorem lawFnBundles_any (a a' : Option Addr) (zs ys : List Int) (ca cb : Nat) (w : World) (hz : zs.length ≤ 140737488355328) (hy : ys.length ≤ 140737488355328) (hbz : MC.BytesAt w w.heap.size a zs) (hby : MC.BytesAt w w.heap.size a' ys) (hT : Tab w) :
    Calls Tryd.prog 3 #[.slice a zs.length ca, .slice a' ys.length cb] w fun e w' => e = .returned (.bool true) ∧ Below w.heap.size w w' := by
  by_cases h20 : zs.length + ys.length ≤ 1048576
  · have HBY : Hid (∀ W : World, Below w.heap.size w W → MC.BytesAt W W.heap.size a' ys) := fun W h => (hby.only (q := w.heap.size) (MC.Only.of_below h) (Nat.le_refl _) (Nat.le_refl _)).up h.size
    have HT : Hid (∀ W : World, Below w.heap.size w W → Tab W) := fun W hb => hT.below hb
    clear hby hT
    go_enter Tryd.func3, Tryd.ntmps3
    go_wp2_with fail
    refine (drawBundleBytes_any a zs ca _ hz hbz).mono ?_
    rintro e W1 ⟨b, rfl, hpb, BW⟩
    clear hbz
    have BI : Hid (∀ (W : World) (_ : Tab W), Calls Tryd.prog 6 #[b.v] W fun e w' => e = .returned (.tuple #[.string (bbR b), .bool (B1.good b)]) ∧ Below W.heap.size W w') := fun W h => implBundleBytes_any b W (by omega) h
    have BS : Hid (∀ W : World, Calls Tryd.prog 7 #[b.v] W fun e w' => e = .returned (.tuple #[.string (bbR b), .bool (B1.good b)]) ∧ Below W.heap.size W w') := fun W => specBundleBytes_any b W (by omega)
    have GI : Hid (∀ W : World, Calls Tryd.prog 8 #[b.v] W fun e w' => e = .returned (.bool (B1.good b)) ∧ Below W.heap.size W w') := fun W => implGoodBundle_any b W (by omega) _ rfl
    have RB1 : Hid (∀ (_ : B1.good b = true) (W : World) (_ : Tab W), Calls Tryd.prog 9 #[.string (bbR b)] W fun e w' => e = .returned (.tuple #[b.v, .bool true]) ∧ Below W.heap.size W w') := fun hg W h => by
      refine (implReadBundle_any (bbR b) W (by have := FB.bb_le b; unfold maxLen; omega) h).mono ?_
      rintro e w' ⟨he, hb⟩
      refine ⟨?_, hb⟩
      rw [FB.rb_is he, FB.back hg]
    have TU : Hid (∀ (_ : B1.good b = true) (i d : Nat) (_ : i < (bbR b).size) (_ : 0 < d) (_ : d < 256) (W : World) (_ : Tab W), Calls Tryd.prog 9 #[.string (MCrc.flip (bbR b) i d)] W fun e w' => (∃ z : Bd, e = .returned (.tuple #[z.v, .bool false])) ∧ Below W.heap.size W w') := fun hg i d hi h0 h1 W h => by
      refine (implReadBundle_any (MCrc.flip (bbR b) i d) W (by rw [MCrc.flip_size]; have := FB.bb_le b; unfold maxLen; omega) h).mono ?_
      rintro e w' ⟨he, hb⟩
      refine ⟨⟨(FB.rd (MCrc.flip (bbR b) i d)).1, ?_⟩, hb⟩
      rw [FB.rb_is he, FB.turned hg i d hi h0 h1]
    have HZ : Hid (B1.good b = true → 2 ≤ (bbR b).size ∧ (bbR b).size ≤ 117) := FB.bb_ok
    have hbx := BX.Box.new W1 24 b W1.heap.size rfl
    replace BW := BW.alloc BW.size (.cells (BX.cs b).toArray 24)
    generalize B1.good b = G at *
    generalize bbR b = t at *
    obtain ⟨x0, x1, x2, x3, x4, x5, x6, x7, x8, x9⟩ := b
    simp only [BX.cs, Bd.cs] at hbx BW
    go_wp2_with fail
    generalize W1.alloc (.cells #[.int .i64 x0, .int .i64 x1, .bool x2, .int .i64 x3, .int .i64 x4, .int .i64 x5, .int .i64 x6, .int .i64 x7, .int .i64 x8, .string x9] 24) = W2 at *
    obtain ⟨q, hq⟩ : ∃ q, W1.heap.size = q := ⟨_, rfl⟩
    rw [hq] at hbx ⊢
    clear hq
    refine (BI.out _ (HT.out _ BW)).mono ?_
    rintro e W3 ⟨rfl, hb⟩
    replace hbx := hbx.below hb hbx.lt
    replace BW := BW.trans (hb.mono BW.size)
    clear hb
    have k0 := hbx.cells 0
    have k1 := hbx.cells 1
    have k2 := hbx.cells 2
    have k3 := hbx.cells 3
    have k4 := hbx.cells 4
    have k5 := hbx.cells 5
    have k6 := hbx.cells 6
    have k7 := hbx.cells 7
    have k8 := hbx.cells 8
    have k9 := hbx.cells 9
    simp [Bd.cs] at k0 k1 k2 k3 k4 k5 k6 k7 k8 k9
    have kl := hbx.lt
    go_wp2_with fail
    clear k0 k1 k2 k3 k4 k5 k6 k7 k8 k9 kl
    refine (BS.out _).mono ?_
    rintro e W4 ⟨rfl, hb⟩
    replace hbx := hbx.below hb hbx.lt
    replace BW := BW.trans (hb.mono BW.size)
    clear hb
    clear BI BS
    have hGG : (G != G) = false := by simp
    have htt : (t.toList != t.toList) = false := by simp
    have k0 := hbx.cells 0
    have k1 := hbx.cells 1
    have k2 := hbx.cells 2
    have k3 := hbx.cells 3
    have k4 := hbx.cells 4
    have k5 := hbx.cells 5
    have k6 := hbx.cells 6
    have k7 := hbx.cells 7
    have k8 := hbx.cells 8
    have k9 := hbx.cells 9
    simp [Bd.cs] at k0 k1 k2 k3 k4 k5 k6 k7 k8 k9
    have kl := hbx.lt
    go_wp2_with fail
    clear k0 k1 k2 k3 k4 k5 k6 k7 k8 k9 kl
    refine (GI.out _).mono ?_
    rintro e W5 ⟨rfl, hb⟩
    replace hbx := hbx.below hb hbx.lt
    replace BW := BW.trans (hb.mono BW.size)
    clear hb
    clear GI
    go_upto_if 55 with fail
    go_cut [10, 11, 12, 13, 14, 15] (fun _ _ _ _ _ _ wx => Below w.heap.size w wx)
    case first =>
      cases G
      · clear RB1 TU hbx HBY HT HZ
        go_wp2_with fail
        go_meet
        exact BW
      · replace RB1 : Hid _ := RB1.out rfl
        replace TU : Hid _ := TU.out rfl
        obtain ⟨ht2, ht117⟩ := HZ.out rfl
        have ht0 : 0 < t.size := by omega
        clear HZ hGG htt
        go_wp2_with fail
        refine (RB1.out _ (HT.out _ BW)).mono ?_
        rintro e V1 ⟨rfl, hb⟩
        replace hbx := hbx.below hb hbx.lt
        replace BW := BW.trans (hb.mono BW.size)
        clear hb
        have k0 := hbx.cells 0
        have k1 := hbx.cells 1
        have k2 := hbx.cells 2
        have k3 := hbx.cells 3
        have k4 := hbx.cells 4
        have k5 := hbx.cells 5
        have k6 := hbx.cells 6
        have k7 := hbx.cells 7
        have k8 := hbx.cells 8
        have k9 := hbx.cells 9
        simp [Bd.cs] at k0 k1 k2 k3 k4 k5 k6 k7 k8 k9
        have kl := hbx.lt
        have B4 := BW.alloc BW.size (.cells #[.int .i64 x0, .int .i64 x1, .bool x2, .int .i64 x3, .int .i64 x4, .int .i64 x5, .int .i64 x6, .int .i64 x7, .int .i64 x8, .string x9] 24)
        have hW4s : (V1.alloc (.cells #[.int .i64 x0, .int .i64 x1, .bool x2, .int .i64 x3, .int .i64 x4, .int .i64 x5, .int .i64 x6, .int .i64 x7, .int .i64 x8, .string x9] 24)).heap.size = V1.heap.size + 1 := by simp
        have c1 : ∀ W : World, (convert 9 22 (.string t)).run Tryd.prog W = .ok (.slice (some ⟨W.heap.size, 0, none⟩) t.size (grownCap W t.size 0 5)) (Lib.bytesWorld W 5 t) := fun W =>
          Lib.run_convert_string_bytes W 9 22 5 _ Tryd.underlying9 Tryd.underlying22 Tryd.underlying5
        clear RB1
        go_wp2_with fail
        clear k0 k1 k2 k3 k4 k5 k6 k7 k8 k9 kl
        have hcb : ∀ j, j < t.size → (Lib.bytesWorld (V1.alloc (.cells #[.int .i64 x0, .int .i64 x1, .bool x2, .int .i64 x3, .int .i64 x4, .int .i64 x5, .int .i64 x6, .int .i64 x7, .int .i64 x8, .string x9] 24)) 5 t).cell? ⟨V1.heap.size + 1, j, none⟩ = some (.int .u8 (M3.gb t j : Int)) := fun j hj => by
          rw [← hW4s, Lib.bytesWorld_cell _ 5 t j hj, MCrc.gb_list]
        have hfb : ∀ j, j < t.size → (Lib.bytesWorld (V1.alloc (.cells #[.int .i64 x0, .int .i64 x1, .bool x2, .int .i64 x3, .int .i64 x4, .int .i64 x5, .int .i64 x6, .int .i64 x7, .int .i64 x8, .string x9] 24)) 5 t).frozen? ⟨V1.heap.size + 1, j, none⟩ = false := fun j hj => by rw [← hW4s]; exact bytes_free _ 5 t j hj
        have b5 := bytes_below (V1.alloc (.cells #[.int .i64 x0, .int .i64 x1, .bool x2, .int .i64 x3, .int .i64 x4, .int .i64 x5, .int .i64 x6, .int .i64 x7, .int .i64 x8, .string x9] 24)) 5 t
        have hq4 : V1.heap.size + 1 < (Lib.bytesWorld (V1.alloc (.cells #[.int .i64 x0, .int .i64 x1, .bool x2, .int .i64 x3, .int .i64 x4, .int .i64 x5, .int .i64 x6, .int .i64 x7, .int .i64 x8, .string x9] 24)) 5 t).heap.size := by rw [Lib.bytesWorld_size]; omega
        have hw4 : w.heap.size ≤ V1.heap.size + 1 := by have := BW.size; omega
        clear c1
        generalize grownCap (V1.alloc (.cells #[.int .i64 x0, .int .i64 x1, .bool x2, .int .i64 x3, .int .i64 x4, .int .i64 x5, .int .i64 x6, .int .i64 x7, .int .i64 x8, .string x9] 24)) t.size 0 5 = cap5 at *
        generalize Lib.bytesWorld (V1.alloc (.cells #[.int .i64 x0, .int .i64 x1, .bool x2, .int .i64 x3, .int .i64 x4, .int .i64 x5, .int .i64 x6, .int .i64 x7, .int .i64 x8, .string x9] 24)) 5 t = w5 at *
        have B5 := B4.trans (b5.mono B4.size)
        clear b5 B4 hW4s hbx BW
        obtain ⟨q4, hqq⟩ : ∃ q4, V1.heap.size + 1 = q4 := ⟨_, rfl⟩
        rw [hqq] at hcb hfb hq4 hw4 ⊢
        clear hqq
        refine (numberOf_any a' ys cb w5.heap.size _ hy (HBY.out _ B5)).mono ?_
        rintro e w' ⟨n, rfl, hn, rfl⟩
        have hi : n % t.size < t.size := Nat.mod_lt _ ht0
        have hci := hcb _ hi
        have hfi := hfb _ hi
        have hgl := M3.gb_lt t (n % t.size)
        have hflip := conv_flip (P := Tryd.prog) 22 9 5 Tryd.underlying22 Tryd.underlying5 Tryd.underlying9 t (n % t.size) (1 + n % 255) cap5 w5 q4 hi (by omega) hcb
        have hno : Hid _ := TU.out (n % t.size) (1 + n % 255) hi (by omega) (by omega)
        have hx : bits .xor .u8 ((M3.gb t (n % t.size) : Nat) : Int) (1 + (n : Int) % 255) = ((M3.gb t (n % t.size) ^^^ (1 + n % 255) : Nat) : Int) := by
          rw [show (1 + (n : Int) % 255) = ((1 + n % 255 : Nat) : Int) from by omega]; exact u8_xor_nat _ _ hgl (by omega)
        have hti : ((n : Int) % (t.size : Int)) = ((n % t.size : Nat) : Int) := by rw [Int.natCast_emod]
        have hfs := MCrc.flip_size t (n % t.size) (1 + n % 255)
        generalize MCrc.flip t (n % t.size) (1 + n % 255) = ft at *
        generalize M3.gb t (n % t.size) ^^^ (1 + n % 255) = gx at *
        generalize M3.gb t (n % t.size) = g at *
        generalize n % t.size = ii at *
        clear hcb hfb TU HBY
        go_wp2_with fail
        have B6 := B5.setCell (p := ⟨q4, ii, none⟩) hw4 (.int .u8 (gx : Int))
        refine (hno.out _ (HT.out _ B6)).mono ?_
        rintro e w7 ⟨⟨z, rfl⟩, b7⟩
        have B7 := B6.trans (b7.mono B6.size)
        obtain ⟨z0, z1, z2, z3, z4, z5, z6, z7, z8, z9⟩ := z
        have B8 := B7.alloc B7.size (.cells #[.int .i64 z0, .int .i64 z1, .bool z2, .int .i64 z3, .int .i64 z4, .int .i64 z5, .int .i64 z6, .int .i64 z7, .int .i64 z8, .string z9] 24)
        clear b7 B6 B5 hflip hci hfi hno hx hti hfs hq4 B7 HT
        go_wp2_with fail
        go_meet
        exact B8
    case rest =>
    clear BW RB1 TU HZ hbx hGG htt
    have BW := hcut
    clear hcut
    go_wp2_with fail
    refine (drawReadBundle_any a' ys cb _ hy (HBY.out _ BW)).mono ?_
    rintro e U1 ⟨s, rfl, hs, hb⟩
    replace BW := BW.trans (hb.mono BW.size)
    clear hb HBY
    have RI : Hid (∀ (W : World) (_ : Tab W), Calls Tryd.prog 9 #[.string s] W fun e w' => e = .returned (.tuple #[(FB.rd s).1.v, .bool (FB.rd s).2]) ∧ Below W.heap.size W w') := fun W h => (implReadBundle_any s W (by unfold maxLen; omega) h).mono (by rintro e w' ⟨he, hb⟩; exact ⟨FB.rb_is he, hb⟩)
    have RS : Hid (∀ W : World, Calls Tryd.prog 12 #[.string s] W fun e w' => e = .returned (.tuple #[(FB.rd s).1.v, .bool (FB.rd s).2]) ∧ Below W.heap.size W w') := fun W => (specReadBundle_any s W (by unfold maxLen; omega)).mono (by rintro e w' ⟨he, hb⟩; exact ⟨FB.rb_is he, hb⟩)
    have hAg : Hid ((FB.rd s).2 = true → B1.good (FB.rd s).1 = true ∧ bbR (FB.rd s).1 = s) := FB.again
    have hpy := FB.rd_py s
    generalize (FB.rd s).2 = R at *
    generalize (FB.rd s).1 = X at *
    have BZ : Hid (∀ (W : World) (_ : Tab W), Calls Tryd.prog 6 #[X.v] W fun e w' => e = .returned (.tuple #[.string (bbR X), .bool (B1.good X)]) ∧ Below W.heap.size W w') := fun W h => implBundleBytes_any X W (by omega) h
    generalize B1.good X = G2 at *
    generalize bbR X = S2 at *
    obtain ⟨u0, u1, u2, u3, u4, u5, u6, u7, u8, u9⟩ := X
    go_wp2_with fail
    refine (RI.out _ (HT.out _ BW)).mono ?_
    rintro e U2 ⟨rfl, hb⟩
    replace BW := BW.trans (hb.mono BW.size)
    clear hb
    have hbp := BX.Box.new U2 24 ⟨u0, u1, u2, u3, u4, u5, u6, u7, u8, u9⟩ U2.heap.size rfl
    replace BW := BW.alloc BW.size (.cells #[.int .i64 u0, .int .i64 u1, .bool u2, .int .i64 u3, .int .i64 u4, .int .i64 u5, .int .i64 u6, .int .i64 u7, .int .i64 u8, .string u9] 24)
    simp only [BX.cs, Bd.cs] at hbp
    go_wp2_with fail
    generalize U2.alloc (.cells #[.int .i64 u0, .int .i64 u1, .bool u2, .int .i64 u3, .int .i64 u4, .int .i64 u5, .int .i64 u6, .int .i64 u7, .int .i64 u8, .string u9] 24) = U3 at *
    obtain ⟨qp, hqp⟩ : ∃ q, U2.heap.size = q := ⟨_, rfl⟩
    rw [hqp] at hbp ⊢
    clear hqp
    refine (RS.out _).mono ?_
    rintro e U4 ⟨rfl, hb⟩
    replace hbp := hbp.below hb hbp.lt
    replace BW := BW.trans (hb.mono BW.size)
    clear hb
    clear RI RS
    have hRR : (R != R) = false := by simp
    have k0 := hbp.cells 0
    have k1 := hbp.cells 1
    have k2 := hbp.cells 2
    have k3 := hbp.cells 3
    have k4 := hbp.cells 4
    have k5 := hbp.cells 5
    have k6 := hbp.cells 6
    have k7 := hbp.cells 7
    have k8 := hbp.cells 8
    have k9 := hbp.cells 9
    simp [Bd.cs] at k0 k1 k2 k3 k4 k5 k6 k7 k8 k9
    have kl := hbp.lt
    replace BW := BW.alloc BW.size (.cells #[.int .i64 u0, .int .i64 u1, .bool u2, .int .i64 u3, .int .i64 u4, .int .i64 u5, .int .i64 u6, .int .i64 u7, .int .i64 u8, .string u9] 24)
    go_wp2_with fail
    clear k0 k1 k2 k3 k4 k5 k6 k7 k8 k9 kl
    generalize U4.alloc (.cells #[.int .i64 u0, .int .i64 u1, .bool u2, .int .i64 u3, .int .i64 u4, .int .i64 u5, .int .i64 u6, .int .i64 u7, .int .i64 u8, .string u9] 24) = U5 at *
    refine (BZ.out _ (HT.out _ BW)).mono ?_
    rintro e U6 ⟨rfl, hb⟩
    replace BW := BW.trans (hb.mono BW.size)
    clear hb
    clear BZ hbp hRR HT
    cases R
    · go_wp2
      go_ret
      exact ⟨rfl, BW⟩
    · obtain ⟨rfl, rfl⟩ := hAg.out rfl
      have hself : (S2.toList == S2.toList) = true := by simp
      clear hAg
      go_wp2
      go_ret
      exact ⟨rfl, BW⟩
  · have h20' : (1048576 : Int) < (zs.length : Int) + (ys.length : Int) := by omega
    go_enter Tryd.func3, Tryd.ntmps3
    go_wp2
    go_ret
    exact ⟨rfl, Below.refl _ _⟩
end Go.Proofs.YtcpfbgogfhlmjaaDoor
