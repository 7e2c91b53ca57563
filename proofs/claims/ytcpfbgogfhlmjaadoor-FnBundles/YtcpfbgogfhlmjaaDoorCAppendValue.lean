import Derived.Test.YtcpfbgogfhlmjaaDoorRows
import Derived.Test.YtcpfbgogfhlmjaaDoorM14
import Derived.WalkKit
import Derived.Test.YtcpfbgogfhlmjaaDoorCAppendHead
import Derived.WalkSpells
import Derived.WalkLawsBesides
import Derived.Outline
import Derived.Lib.AppendStr
/- A value told apart from a list. -/
namespace Go.Proofs.YtcpfbgogfhlmjaaDoor
open Go.RowKit
theorem Tryd.taNL (n : Int) (w : World) : (Instr.typeAssert (.iface 102 (.int .i64 n)) 71 99 true).run Tryd.prog w = .ok (.tuple #[.slice none 0 0, .bool false]) w := by kernel_rfl
theorem Tryd.taBL (s : ByteArray) (w : World) : (Instr.typeAssert (.iface 96 (.string s)) 71 99 true).run Tryd.prog w = .ok (.tuple #[.slice none 0 0, .bool false]) w := by kernel_rfl
theorem Tryd.taTL (s : ByteArray) (w : World) : (Instr.typeAssert (.iface 97 (.string s)) 71 99 true).run Tryd.prog w = .ok (.tuple #[.slice none 0 0, .bool false]) w := by kernel_rfl
theorem Tryd.taLL (v : Value) (w : World) : (Instr.typeAssert (.iface 99 (v)) 71 99 true).run Tryd.prog w = .ok (.tuple #[v, .bool true]) w := by kernel_rfl
end Go.Proofs.YtcpfbgogfhlmjaaDoor

/- impl.appendValue adds a value's bytes to a row of bytes that its caller owns. -/
namespace Go.Proofs.YtcpfbgogfhlmjaaDoor
open Go.RowKit
theorem Tryd.taNB (n : Int) (w : World) : (Instr.typeAssert (.iface 102 (.int .i64 n)) 71 96 true).run Tryd.prog w = .ok (.tuple #[.string ⟨#[]⟩, .bool false]) w := by kernel_rfl
theorem Tryd.taNT (n : Int) (w : World) : (Instr.typeAssert (.iface 102 (.int .i64 n)) 71 97 true).run Tryd.prog w = .ok (.tuple #[.string ⟨#[]⟩, .bool false]) w := by kernel_rfl
theorem Tryd.mtN (n : Int) (k : Nat) (w : World) : (method (k + 1) 102 (.int .i64 n) "loop.example/g00315/impl.head").run Tryd.prog w = .ok (117, .int .i64 n) w := by kernel_rfl
theorem Tryd.taBB (s : ByteArray) (w : World) : (Instr.typeAssert (.iface 96 (.string s)) 71 96 true).run Tryd.prog w = .ok (.tuple #[.string s, .bool true]) w := by kernel_rfl
theorem Tryd.taBT (s : ByteArray) (w : World) : (Instr.typeAssert (.iface 96 (.string s)) 71 97 true).run Tryd.prog w = .ok (.tuple #[.string ⟨#[]⟩, .bool false]) w := by kernel_rfl
theorem Tryd.mtB (s : ByteArray) (k : Nat) (w : World) : (method (k + 1) 96 (.string s) "loop.example/g00315/impl.head").run Tryd.prog w = .ok (114, .string s) w := by kernel_rfl
theorem Tryd.taTB (s : ByteArray) (w : World) : (Instr.typeAssert (.iface 97 (.string s)) 71 96 true).run Tryd.prog w = .ok (.tuple #[.string ⟨#[]⟩, .bool false]) w := by kernel_rfl
theorem Tryd.taTT (s : ByteArray) (w : World) : (Instr.typeAssert (.iface 97 (.string s)) 71 97 true).run Tryd.prog w = .ok (.tuple #[.string s, .bool true]) w := by kernel_rfl
theorem Tryd.mtT (s : ByteArray) (k : Nat) (w : World) : (method (k + 1) 97 (.string s) "loop.example/g00315/impl.head").run Tryd.prog w = .ok (115, .string s) w := by kernel_rfl
theorem Tryd.taLB (v : Value) (w : World) : (Instr.typeAssert (.iface 99 (v)) 71 96 true).run Tryd.prog w = .ok (.tuple #[.string ⟨#[]⟩, .bool false]) w := by kernel_rfl
theorem Tryd.taLT (v : Value) (w : World) : (Instr.typeAssert (.iface 99 (v)) 71 97 true).run Tryd.prog w = .ok (.tuple #[.string ⟨#[]⟩, .bool false]) w := by kernel_rfl
theorem Tryd.mtL (v : Value) (k : Nat) (w : World) : (method (k + 1) 99 (v) "loop.example/g00315/impl.head").run Tryd.prog w = .ok (116, v) w := by kernel_rfl
set_option maxRecDepth 100000 in
theorem head_numberValue (n : Int) (w : World) : Calls Tryd.prog 117 #[.int .i64 n] w fun e w' => e = .returned (.tuple #[.int .i64 0, .int .i64 n]) ∧ w = w' := by
  go_enter Tryd.func117, Tryd.ntmps117
  go_wp2
  go_ret2
  exact ⟨rfl, rfl⟩
set_option maxRecDepth 100000 in
theorem head_bytesValue (s : ByteArray) (w : World) : Calls Tryd.prog 114 #[.string s] w fun e w' => e = .returned (.tuple #[.int .i64 2, .int .i64 (s.size : Int)]) ∧ w = w' := by
  go_enter Tryd.func114, Tryd.ntmps114
  go_wp2
  go_ret2
  exact ⟨rfl, rfl⟩
set_option maxRecDepth 100000 in
theorem head_textValue (s : ByteArray) (w : World) : Calls Tryd.prog 115 #[.string s] w fun e w' => e = .returned (.tuple #[.int .i64 3, .int .i64 (s.size : Int)]) ∧ w = w' := by
  go_enter Tryd.func115, Tryd.ntmps115
  go_wp2
  go_ret2
  exact ⟨rfl, rfl⟩
set_option maxRecDepth 100000 in
theorem head_listValue (a : Option Addr) (n cap : Nat) (w : World) : Calls Tryd.prog 116 #[.slice a n cap] w fun e w' => e = .returned (.tuple #[.int .i64 4, .int .i64 (n : Int)]) ∧ w = w' := by
  go_enter Tryd.func116, Tryd.ntmps116
  go_wp2
  go_ret2
  exact ⟨rfl, rfl⟩
theorem bv_str (bs : List UInt8) (s : ByteArray) : M2.bv bs ++ Lib.strCells s = M2.bv (bs ++ M8.bl s) := by simp [M2.bv, Lib.strCells, M8.bl]
set_option maxHeartbeats 800000 in
set_option maxRecDepth 100000 in
theorem appendValue_num (n : Nat) (base : Nat) (v : Value) (bs : List UInt8) (w : World) (hn : n ≤ 1000000000) (hbs : bs.length ≤ 1000000) (hbase : base ≤ w.heap.size) (hown : w.ownsRow base 5 1 v bs.length (M2.bv bs)) :
    Calls Tryd.prog 49 #[v, .iface 102 (.int .i64 (n : Int))] w fun e w' => ∃ v', e = .returned v' ∧ w'.ownsRow base 5 1 v' (bs ++ M7.hb 0 n).length (M2.bv (bs ++ M7.hb 0 n)) ∧ Below base w w' := by
  have m1 := Tryd.mtN (n : Int)
  have a1 := Tryd.taNB (n : Int)
  have a2 := Tryd.taNT (n : Int)
  have a3 := Tryd.taNL (n : Int)
  go_enter Tryd.func49, Tryd.ntmps49
  go_wp2_with fail
  refine (head_numberValue (n : Int) w).mono ?_
  rintro e w' ⟨rfl, rfl⟩
  go_wp2_with fail
  refine (appendHead_any 0 n base v bs w (by omega) (by omega) (by omega) hbase hown).mono ?_
  rintro e w1 ⟨v', rfl, hown1, hb1⟩
  clear hown m1
  go_wp2
  go_ret
  exact ⟨_, rfl, hown1, hb1⟩
set_option maxHeartbeats 800000 in
set_option maxRecDepth 100000 in
theorem appendValue_bytesValue (s : ByteArray) (base : Nat) (v : Value) (bs : List UInt8) (w : World) (hs : s.size ≤ 1000000) (hbs : bs.length ≤ 1000000) (hbase : base ≤ w.heap.size) (hown : w.ownsRow base 5 1 v bs.length (M2.bv bs)) :
    Calls Tryd.prog 49 #[v, .iface 96 (.string s)] w fun e w' => ∃ v', e = .returned v' ∧ w'.ownsRow base 5 1 v' (bs ++ (M7.hb 2 s.size ++ M8.bl s)).length (M2.bv (bs ++ (M7.hb 2 s.size ++ M8.bl s))) ∧ Below base w w' := by
  obtain ⟨i0, hi, hz0, hz1, hz2⟩ := info_parts Tryd.info5c
  have m1 := Tryd.mtB s
  have a1 := Tryd.taBB s
  go_enter Tryd.func49, Tryd.ntmps49
  go_wp2_with fail
  refine (head_bytesValue s w).mono ?_
  rintro e w' ⟨rfl, rfl⟩
  go_wp2_with fail
  refine (appendHead_any 2 s.size base v bs w (by omega) (by omega) (by omega) hbase hown).mono ?_
  rintro e w1 ⟨v', rfl, hown1, hb1⟩
  have hl := (M7.hb_pos 2 s.size).2
  have hbl : (bs ++ M7.hb 2 s.size).length ≤ 1000005 := by simp; omega
  clear hown m1 hl
  generalize hG : bs ++ M7.hb 2 s.size = G at *
  have HG : Hid (bs ++ M7.hb 2 s.size = G) := hG
  have h63 : G.length + s.size ≤ maxLen := by unfold maxLen; omega
  have h140 : G.length + s.size ≤ 140737488355328 := by omega
  have hsz := hb1.size
  have H63 : Hid _ := h63
  clear hG h63
  go_wp2_with (at_builtin; refine Lib.wpList_append_own_string _ rfl _ _ 22 96 rfl base 5 i0 Tryd.underlying22 Tryd.underlying96 hi hz0 hz1 hz2 _ _ _ rfl hown1 s rfl H63.out h140 (by omega) ?_)
  intro v2 w2 hown2 hgrow _
  rw [bv_str] at hown2
  have R1 : w2.ownsRow base 5 1 v2 (bs ++ (M7.hb 2 s.size ++ M8.bl s)).length (M2.bv (bs ++ (M7.hb 2 s.size ++ M8.bl s))) := by
    rw [← List.append_assoc, HG.out, List.length_append, M8.bl_len]; exact hown2
  have R2 : Below base w w2 := hb1.grown hgrow (by omega) (fun g hg => (hown1.lt g hg).1)
  clear hown2 hgrow hown1 hb1
  go_wp2
  go_ret
  exact ⟨_, rfl, R1, R2⟩
set_option maxHeartbeats 800000 in
set_option maxRecDepth 100000 in
theorem appendValue_textValue (s : ByteArray) (base : Nat) (v : Value) (bs : List UInt8) (w : World) (hs : s.size ≤ 1000000) (hbs : bs.length ≤ 1000000) (hbase : base ≤ w.heap.size) (hown : w.ownsRow base 5 1 v bs.length (M2.bv bs)) :
    Calls Tryd.prog 49 #[v, .iface 97 (.string s)] w fun e w' => ∃ v', e = .returned v' ∧ w'.ownsRow base 5 1 v' (bs ++ (M7.hb 3 s.size ++ M8.bl s)).length (M2.bv (bs ++ (M7.hb 3 s.size ++ M8.bl s))) ∧ Below base w w' := by
  obtain ⟨i0, hi, hz0, hz1, hz2⟩ := info_parts Tryd.info5c
  have m1 := Tryd.mtT s
  have a1 := Tryd.taTB s
  have a2 := Tryd.taTT s
  go_enter Tryd.func49, Tryd.ntmps49
  go_wp2_with fail
  refine (head_textValue s w).mono ?_
  rintro e w' ⟨rfl, rfl⟩
  go_wp2_with fail
  refine (appendHead_any 3 s.size base v bs w (by omega) (by omega) (by omega) hbase hown).mono ?_
  rintro e w1 ⟨v', rfl, hown1, hb1⟩
  have hl := (M7.hb_pos 3 s.size).2
  have hbl : (bs ++ M7.hb 3 s.size).length ≤ 1000005 := by simp; omega
  clear hown m1 hl
  generalize hG : bs ++ M7.hb 3 s.size = G at *
  have HG : Hid (bs ++ M7.hb 3 s.size = G) := hG
  have h63 : G.length + s.size ≤ maxLen := by unfold maxLen; omega
  have h140 : G.length + s.size ≤ 140737488355328 := by omega
  have hsz := hb1.size
  have H63 : Hid _ := h63
  clear hG h63
  go_wp2_with (at_builtin; refine Lib.wpList_append_own_string _ rfl _ _ 22 97 rfl base 5 i0 Tryd.underlying22 Tryd.underlying97 hi hz0 hz1 hz2 _ _ _ rfl hown1 s rfl H63.out h140 (by omega) ?_)
  intro v2 w2 hown2 hgrow _
  rw [bv_str] at hown2
  have R1 : w2.ownsRow base 5 1 v2 (bs ++ (M7.hb 3 s.size ++ M8.bl s)).length (M2.bv (bs ++ (M7.hb 3 s.size ++ M8.bl s))) := by
    rw [← List.append_assoc, HG.out, List.length_append, M8.bl_len]; exact hown2
  have R2 : Below base w w2 := hb1.grown hgrow (by omega) (fun g hg => (hown1.lt g hg).1)
  clear hown2 hgrow hown1 hb1
  go_wp2
  go_ret
  exact ⟨_, rfl, R1, R2⟩
set_option maxHeartbeats 1600000 in
set_option maxRecDepth 100000 in
theorem appendValue_any (r : Nat) : ∀ (w : World) (base : Nat) (ov : Value) (bs : List UInt8) (v : Value) (L : List It) (D : Nat), M14.VAt r w (fun b => b < base) v L D → w.ownsRow base 5 1 ov bs.length (M2.bv bs) → base ≤ w.heap.size → (∀ x ∈ L, M13.fine x) → bs.length + (M12.bytes L).length ≤ 1000000 →
    Calls Tryd.prog 49 #[ov, v] w fun e w' => ∃ v', e = .returned v' ∧ w'.ownsRow base 5 1 v' (bs ++ M12.bytes L).length (M2.bv (bs ++ M12.bytes L)) ∧ Below base w w' := by
  have num : ∀ (w : World) (base : Nat) (ov : Value) (bs : List UInt8) (n : Int), w.ownsRow base 5 1 ov bs.length (M2.bv bs) → base ≤ w.heap.size → M13.fine ⟨1, n, ⟨#[]⟩, 0⟩ → bs.length ≤ 1000000 → Calls Tryd.prog 49 #[ov, .iface 102 (.int .i64 n)] w fun e w' => ∃ v', e = .returned v' ∧ w'.ownsRow base 5 1 v' (bs ++ M12.bytes [⟨1, n, ⟨#[]⟩, 0⟩]).length (M2.bv (bs ++ M12.bytes [⟨1, n, ⟨#[]⟩, 0⟩])) ∧ Below base w w' := fun w base ov bs n hown hbase hf hbs => by
    have hn := M13.fine1 hf rfl
    simp only at hn
    obtain ⟨n, rfl⟩ := Int.eq_ofNat_of_zero_le hn.1
    have e : M12.bytes [⟨1, (n : Int), ⟨#[]⟩, 0⟩] = M7.hb 0 n := by simp [M12.bytes, M12.ib]
    rw [e]
    exact appendValue_num n base ov bs w (by have := hn.2; omega) hbs hbase hown
  have byt : ∀ (w : World) (base : Nat) (ov : Value) (bs : List UInt8) (s : ByteArray), w.ownsRow base 5 1 ov bs.length (M2.bv bs) → base ≤ w.heap.size → M13.fine ⟨2, 0, s, 0⟩ → bs.length ≤ 1000000 → Calls Tryd.prog 49 #[ov, .iface 96 (.string s)] w fun e w' => ∃ v', e = .returned v' ∧ w'.ownsRow base 5 1 v' (bs ++ M12.bytes [⟨2, 0, s, 0⟩]).length (M2.bv (bs ++ M12.bytes [⟨2, 0, s, 0⟩])) ∧ Below base w w' := fun w base ov bs s hown hbase hf hbs => by
    have hn := M13.fine23 hf (.inl rfl)
    have e : M12.bytes [⟨2, 0, s, 0⟩] = M7.hb 2 s.size ++ M8.bl s := by simp [M12.bytes, M12.ib]
    rw [e]
    exact appendValue_bytesValue s base ov bs w (by simp only at hn; omega) hbs hbase hown
  have txt : ∀ (w : World) (base : Nat) (ov : Value) (bs : List UInt8) (s : ByteArray), w.ownsRow base 5 1 ov bs.length (M2.bv bs) → base ≤ w.heap.size → M13.fine ⟨3, 0, s, 0⟩ → bs.length ≤ 1000000 → Calls Tryd.prog 49 #[ov, .iface 97 (.string s)] w fun e w' => ∃ v', e = .returned v' ∧ w'.ownsRow base 5 1 v' (bs ++ M12.bytes [⟨3, 0, s, 0⟩]).length (M2.bv (bs ++ M12.bytes [⟨3, 0, s, 0⟩])) ∧ Below base w w' := fun w base ov bs s hown hbase hf hbs => by
    have hn := M13.fine23 hf (.inr rfl)
    have e : M12.bytes [⟨3, 0, s, 0⟩] = M7.hb 3 s.size ++ M8.bl s := by simp [M12.bytes, M12.ib]
    rw [e]
    exact appendValue_textValue s base ov bs w (by simp only at hn; omega) hbs hbase hown
  induction r with
  | zero =>
    intro w base ov bs v L D h hown hbase hf hlen
    rcases h with ⟨n, rfl, rfl, rfl⟩ | ⟨s, rfl, rfl, rfl⟩ | ⟨s, rfl, rfl, rfl⟩
    · exact num w base ov bs n hown hbase (hf _ (by simp)) (by omega)
    · exact byt w base ov bs s hown hbase (hf _ (by simp)) (by omega)
    · exact txt w base ov bs s hown hbase (hf _ (by simp)) (by omega)
  | succ r ih =>
    intro w base ov bs v L D h hown hbase hf hlen
    rcases h with ⟨n, rfl, rfl, rfl⟩ | ⟨s, rfl, rfl, rfl⟩ | ⟨s, rfl, rfl, rfl⟩ | ⟨a, cap, vs, Ls, Ds, rfl, h2, h3, h4, h5, rfl, rfl, h8⟩
    · exact num w base ov bs n hown hbase (hf _ (by simp)) (by omega)
    · exact byt w base ov bs s hown hbase (hf _ (by simp)) (by omega)
    · exact txt w base ov bs s hown hbase (hf _ (by simp)) (by omega)
    · clear num byt txt
      have m1 := Tryd.mtL (.slice a vs.length cap)
      have a1 := Tryd.taLB (.slice a vs.length cap)
      have a2 := Tryd.taLT (.slice a vs.length cap)
      have a3 := Tryd.taLL (.slice a vs.length cap)
      have hbe : M12.bytes (⟨4, 0, ⟨#[]⟩, (vs.length : Int)⟩ :: Ls.flatten) = M7.hb 4 vs.length ++ M12.bytes Ls.flatten := by simp [M12.bytes, M12.ib]
      rw [hbe] at hlen ⊢
      rw [List.length_append] at hlen
      have hf2 : Hid (∀ x ∈ Ls.flatten, M13.fine x) := fun x hx => hf x (List.mem_cons_of_mem _ hx)
      have IH : Hid _ := ih
      clear hbe hf ih
      go_enter Tryd.func49, Tryd.ntmps49
      go_wp2_with fail
      refine (head_listValue a vs.length cap w).mono ?_
      rintro e w' ⟨rfl, rfl⟩
      go_wp2_with fail
      refine (appendHead_any 4 vs.length base ov bs w (by omega) (by omega) (by omega) hbase hown).mono ?_
      rintro e w1 ⟨v1, rfl, hown1, hb1⟩
      clear hown m1
      have hV : Hid (∀ i, i < vs.length → ∃ u, vs[i]? = some u ∧ M14.VAt r w (fun b => b < base) u (Ls.getD i []) (Ds.getD i 0)) := h5
      have hR : Hid (M14.RowAt w (fun b => b < base) a vs) := h4
      clear h4 h5
      generalize hG : bs ++ M7.hb 4 vs.length = G at *
      have HG : Hid (bs ++ M7.hb 4 vs.length = G) := hG
      have hGl : G.length + (M12.bytes Ls.flatten).length ≤ 1000000 := by rw [← hG, List.length_append]; omega
      have HGL : Hid _ := hGl
      clear hG hGl hlen
      go_wp2
      go_loopw [0, 39] (fun ov iv wr => ∃ (j : Nat) (H : List UInt8), iv = .int .i64 (j : Int) ∧ j ≤ vs.length ∧ wr.ownsRow base 5 1 ov H.length (M2.bv H) ∧ Hid (H = G ++ M12.bytes (Ls.take j).flatten) ∧ Below base w wr) (fun _ iv _ => (vs.length - intOf iv).toNat)
      case atStart => exact ⟨0, G, rfl, by omega, hown1, show Hid _ from by simp [Hid, M12.bytes], hb1⟩
      case round =>
        clear hown1 hb1
        obtain ⟨j, H, rfl, hj, hownr, hH, hb⟩ := hrel
        by_cases hjl : j < vs.length
        · obtain ⟨g, rfl, hg, hc⟩ := (M14.RowAt.keep hR.out hb.size (fun b h _ => hb.block b h) (fun _ h _ => h)).at hjl
          obtain ⟨u, hu, hv⟩ := hV.out j hjl
          rw [hu] at hc
          have hvr := hv.below hb
          have hfl := M14.flat_take (Ls := Ls) (j := j) (by omega)
          have hln := M14.flat_len (Ls := Ls) (j + 1)
          rw [hfl, M12.bytes_app, List.length_append] at hln
          have hHl : H.length = G.length + (M12.bytes (Ls.take j).flatten).length := by rw [hH.out, List.length_append]
          have hgl := HGL.out
          have CC : Hid _ := IH.out wr base _ H u (Ls.getD j []) _ hvr hownr (Nat.le_trans hbase hb.size) (fun x hx => hf2.out x (M14.flat_mem hx)) (by omega)
          obtain ⟨tu, xu, rfl⟩ := hv.shape
          have hH2 : Hid (H ++ M12.bytes (Ls.getD j []) = G ++ M12.bytes (Ls.take (j + 1)).flatten) := by show _ = _; rw [hH.out, hfl, M12.bytes_app, List.append_assoc]
          clear hvr hv hu hfl hln hHl hgl hH hownr
          go_wp2_with fail
          refine Calls.mono CC.out ?_
          rintro e w2 ⟨v2, rfl, hown2, hb2⟩
          have hB2 := hb.trans hb2
          clear CC hb hb2
          generalize H ++ M12.bytes (Ls.getD j []) = K at *
          go_wp2
          go_roundw
          case rel => exact ⟨j + 1, K, by go_num, by omega, hown2, hH2, hB2⟩
          case measure => simp [intOf]; omega
        · obtain rfl : j = vs.length := by omega
          have hfin : H = bs ++ (M7.hb 4 vs.length ++ M12.bytes Ls.flatten) := by
            have e := hH.out
            rw [← h2, List.take_length] at e
            rw [e, ← HG.out, List.append_assoc]
          subst hfin
          clear hH IH hf2 hV hR HG HGL
          go_wp2
          go_ret
          exact ⟨_, rfl, hownr, hb⟩
end Go.Proofs.YtcpfbgogfhlmjaaDoor
