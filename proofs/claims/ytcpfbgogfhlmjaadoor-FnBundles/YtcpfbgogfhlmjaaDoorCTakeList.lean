/- impl.takeList, the values that it takes being taken as they should. -/
import Derived.Test.YtcpfbgogfhlmjaaDoorRows
import Derived.Test.YtcpfbgogfhlmjaaDoorM14
import Derived.WalkKit
import Derived.WalkSpells
import Derived.WalkLawsBesides
import Derived.Outline
namespace Go.Proofs.YtcpfbgogfhlmjaaDoor
open Go.RowKit
theorem Tryd.infoVal : (Tryd.prog.info? 71).map (fun i => (i.zero, i.size, i.bytes)) = some (some .nilIface, 1, 16) := by kernel_rfl
/-- What takeValue says, r lists within one another at most. -/
def TV (r : Nat) : Prop := ∀ (a : Option Addr) (cap : Nat) (xs : List It) (k d : Nat) (w : World), xs.length ≤ 1048576 → d + r = 5 → k ≤ xs.length → Hid (M11.Wf xs) → M11.ItemsAt w a xs →
    Calls Tryd.prog 66 #[.slice a xs.length cap, .int .i64 (k : Int), .int .i64 (d : Int)] w fun e w' => M14.TRes r w' w.heap.size k (xs.drop k) (M12.vl r (xs.drop k)) e ∧ Below w.heap.size w w'
set_option maxHeartbeats 3200000 in
set_option maxRecDepth 100000 in
theorem takeList_any (r : Nat) (ih : Hid (TV r)) (a : Option Addr) (cap : Nat) (xs : List It) (k m d : Nat) (w : World) (hl : xs.length ≤ 1048576) (hd : d + r = 5) (hk : k ≤ xs.length) (hm : m ≤ 9223372036854775807) (hts : Hid (M11.Wf xs)) (hin : M11.ItemsAt w a xs)
    (o : M12.O) (ho : Hid (M12.nOf (M12.vl r) m (xs.drop k) = o)) :
    Calls Tryd.prog 81 #[.slice a xs.length cap, .int .i64 (k : Int), .int .i64 (m : Int), .int .i64 (d : Int)] w fun e w' => M14.LRes r w' w.heap.size k m (xs.drop k) o e ∧ Below w.heap.size w w' := by
  obtain ⟨i0, hi, hz0, hz1, hz2⟩ := info_parts Tryd.infoVal
  go_enter Tryd.func81, Tryd.ntmps81
  go_wp2
  go_loopw [1, 11, 16] (fun av lv iv wr => ∃ (j c D : Nat) (vs : List Value) (Ls : List (List It)) (Ds : List Nat), av = .int .i64 ((k + c : Nat) : Int) ∧ iv = .int .i64 (j : Int) ∧ j ≤ m ∧ Hid (M12.nOf (M12.vl r) j (xs.drop k) = some (c, D)) ∧ k + c ≤ xs.length ∧ j ≤ c ∧ wr.ownsRow w.heap.size 71 1 lv j vs ∧ M14.Kids r wr w.heap.size lv.ownBlock vs Ls Ds ∧ Hid (Ls.flatten = (xs.drop k).take c) ∧ Hid (Ds.foldl max 0 = D) ∧ Below w.heap.size w wr) (fun _ _ iv _ => (m - intOf iv).toNat)
  case atStart => exact ⟨0, 0, 0, [], [], [], by go_num, rfl, by omega, show Hid _ from rfl, by omega, by omega, ⟨rfl, .inl ⟨rfl, rfl⟩⟩, M14.Kids.nil _ _ _ _, show Hid _ from rfl, show Hid _ from rfl, Below.refl _ _⟩
  case round =>
    obtain ⟨j, c, D, vs, Ls, Ds, rfl, rfl, hj, hN, hkc, hjc, hown, hkids, hfl, hmx, hb⟩ := hrel
    by_cases hjl : j < m
    · have CC : Hid _ := ih.out a cap xs (k + c) d wr hl hd hkc hts (hin.below hb)
      have hdd : (xs.drop k).drop c = xs.drop (k + c) := by rw [List.drop_drop]
      have HN1 : Hid _ := fun h => M12.nOf_stop hN.out (by rw [hdd]; exact h) hjl
      have HN2 : Hid _ := fun c' d' h => M12.nOf_next (c' := c') (d' := d') hN.out (by rw [hdd]; exact h)
      have HL : Hid _ := fun c' d' => M12.vl_len r (xs.drop (k + c)) c' d'
      have hlen : (xs.drop (k + c)).length = xs.length - (k + c) := List.length_drop
      have HLn : Hid _ := hlen
      have HDD : Hid _ := hdd
      clear hN hdd hlen
      generalize hO : M12.vl r (xs.drop (k + c)) = O at *
      clear hO
      go_wp2_with fail
      refine Calls.mono CC.out ?_
      rintro e w2 ⟨he, hb2⟩
      have hBw := hb.trans (hb2.mono hb.size)
      clear CC
      cases O with
      | none =>
        obtain ⟨u, p, rfl⟩ := M14.TRes.none' he rfl
        obtain rfl : o = none := ho.out.symm.trans (HN1.out rfl)
        clear HN1 HN2 HL ih hb2 hkids hown
        go_wp2
        exact bodyPost_ret (v := .tuple #[.nilIface, .int .i64 (0), .bool false]) (by simp [results, Tryd.results81, go_sem]) rfl ⟨M14.LRes.no _ _, hBw⟩
      | some q =>
        obtain ⟨c', D'⟩ := q
        obtain ⟨u, rfl, hu⟩ := M14.TRes.some' he rfl
        have hNN : Hid _ := HN2.out c' D' rfl
        have hl1 := HL.out c' D' rfl
        rw [HLn.out] at hl1
        have hu1 := hu.one
        obtain ⟨tu, xu, rfl⟩ := hu.shape
        have hown2 := M11.own_below hown hb2
        have hvl : vs.length = j := by have := hown.1; omega
        clear HN1 HN2 HL he HLn
        have HU : Hid _ := hu
        have HK : Hid _ := hkids
        have HW : Hid _ := hown
        clear hu hkids hown
        have hbs := hBw.size
        have h63 : j + 1 ≤ maxLen := by unfold maxLen; omega
        have h140 : (j + 1) * 16 ≤ 140737488355328 := by omega
        have hone : ∀ y ∈ [Value.iface tu xu], y.oneCell' = true := by intro y hy; simp at hy; subst hy; exact hu1
        have HONE : Hid _ := hone
        have H63 : Hid _ := h63
        clear hone h63 hu1
        go_wp2_with (at_builtin; refine M14.append_tell _ rfl _ _ 99 rfl w.heap.size 71 i0 .nilIface 1 16 Tryd.underlying99 hi hz0 hz1 hz2 rfl (by decide) _ _ _ rfl (hown2.alloc _) ⟨w2.heap.size, 0, none⟩ 1 1 [.iface tu xu] rfl rfl (M14.newV _ _ _) HONE.out H63.out h140 (by simp; omega) (by decide) ?_)
        intro v' w3 hown3 hgrow htell
        have hK3 := M14.kids_step HK.out HW.out hb.size hb2 HU.out hgrow (v' := v') (fun g hg => by have := htell g hg; simpa using this)
        have hB3 : Below w.heap.size w w3 := (hBw.alloc hbs _).grown hgrow (by simp; omega) (fun g hg => (World.ownsRow.lt HW.out g hg).1)
        have hfl2 : Hid _ := M14.flat_snoc (c' := c') hfl.out
        rw [HDD.out] at hfl2
        have hmx2 : Hid _ := M14.max_snoc (D' := D') hmx.out
        clear hgrow htell HK HW HU hown2 hb2 hBw hb hfl hmx HONE H63 h140
        go_wp2
        go_roundw
        case rel => exact ⟨j + 1, c + c', max D D', vs ++ [.iface tu xu], _, _, by go_num, by go_num, by omega, hNN, by omega, by omega, hown3, hK3, hfl2, hmx2, hB3⟩
        case measure => simp [intOf]; omega
    · obtain rfl : j = m := by omega
      obtain rfl : o = some (c, D) := ho.out.symm.trans hN.out
      have hV := M14.Kids.done hkids hown (by omega)
      rw [hfl.out, hmx.out] at hV
      have HV : Hid _ := hV
      clear hN hkids hown ih hfl hmx hV
      go_wp2
      exact bodyPost_ret (v := .tuple #[.iface 99 u11, .int .i64 (((k + c : Nat) : Int)), .bool true]) (by simp [results, Tryd.results81, go_sem]) rfl ⟨M14.LRes.yes HV.out, hb⟩
end Go.Proofs.YtcpfbgogfhlmjaaDoor
