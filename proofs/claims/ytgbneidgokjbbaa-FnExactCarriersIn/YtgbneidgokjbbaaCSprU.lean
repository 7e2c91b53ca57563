/- spec.TokensIn, spec.CarriersIn. -/
import Derived.Test.YtgbneidgokjbbaaRows
import Derived.Test.YtgbneidgokjbbaaMSprT
import Derived.Test.YtgbneidgokjbbaaMInfo
import Derived.Test.YtgbneidgokjbbaaCSprS
import Derived.Maps.AppendAt
import Derived.WalkKit
import Derived.WalkSpells
import Derived.WalkLawsBesides
import Derived.Outline
namespace Go.Proofs.Ytgbneidgokjbbaa
open Go.RowKit
set_option maxHeartbeats 1600000 in
set_option maxRecDepth 100000 in
theorem specTokens_any (a : Option Addr) (cap : Nat) (zs : List Int) (t : Int) (th : Bool) (w : World) (hz : M4.IntsAt w a zs) (hl : zs.length ≤ 1048576) :
    Calls Try.prog 32 #[.agg #[.slice a zs.length cap, .int .i64 t, .bool th]] w fun e w' => e = .returned (.tuple #[.int .i64 (if SP.good zs t = true then SP.sm zs zs.length else 0), .bool (SP.good zs t)]) ∧ Below w.heap.size w w' := by
  have BX : Below w.heap.size w (w.alloc (.cells #[.slice a zs.length cap, .int .i64 t, .bool th] 24)) := (Below.refl _ _).alloc (Nat.le_refl _) _
  have GD : Hid (Calls _ _ _ _ _) := specGoodSpray_any a cap zs t th _ (hz.below BX) hl
  have b0 := SP.B3.new w (.slice a zs.length cap) (.int .i64 t) (.bool th) 24 rfl
  by_cases hg : SP.good zs t = true
  · have h1 := SP.good_len hg
    have hE := SP.good_each hg
    rw [hg] at GD
    rw [if_pos hg, hg]
    obtain ⟨g, off, rfl, hgl, hcl⟩ : ∃ b off, a = some ⟨b, off, none⟩ ∧ b < w.heap.size ∧ ∀ j, j < zs.length → w.cell? ⟨b, off + j, none⟩ = some (.int .i64 (zs.getD j 0)) := by
      rcases hz with h | h
      · rw [h] at h1; simp at h1
      · exact h
    have HC : Hid _ := hcl
    have HE : Hid _ := hE
    clear hz hg hl hcl hE
    generalize zs.length = m at *
    go_enter Try.func32, Try.ntmps32
    go_wp2_with fail
    refine Calls.mono GD.out ?_
    rintro e w1 ⟨rfl, hb⟩
    have B1 := BX.trans (hb.mono BX.size)
    replace b0 := b0.below hb b0.lt
    have hlt := b0.lt
    obtain ⟨c0, c1, c2⟩ := b0.cells
    clear GD BX hb b0
    go_wp2
    clear c0 c1 c2
    go_loopw [4, 13] (fun nv iv wr => ∃ k : Nat, nv = .int .i64 (SP.sm zs k) ∧ iv = .int .i64 k ∧ k ≤ m ∧ wr = w1) (fun _ iv _ => (m - (intOf iv).toNat))
    case atStart => exact ⟨0, rfl, rfl, by omega, rfl⟩
    case round =>
      obtain ⟨k, rfl, rfl, hk, rfl⟩ := hrel
      have hsm := SP.sm_le (zs := zs) (k := k) fun j hj => HE.out j (by omega)
      by_cases hkl : k < m
      · have hc := (B1.cell (p := ⟨g, off + k, none⟩) hgl).trans (HC.out k hkl)
        have hz := HE.out k hkl
        have HS : Hid (SP.sm zs (k + 1) = SP.sm zs k + zs.getD k 0) := rfl
        generalize SP.sm zs k = sk at *
        generalize zs.getD k 0 = z at *
        go_wp2
        go_roundw
        case rel => exact ⟨k + 1, by rw [HS.out], by go_num, by omega, trivial⟩
        case measure => simp [intOf]; omega
      · have hkm : k = m := by omega
        rw [hkm]
        clear hkm hkl hk HC HE hsm
        go_wp2
        exact bodyPost_ret (v := .tuple #[.int .i64 (SP.sm zs m), .bool true]) (by simp [results, Try.results32, go_sem]) rfl ⟨rfl, B1⟩
  · have hg' : SP.good zs t = false := by simpa using hg
    rw [hg'] at GD
    rw [hg', if_neg (by simp)]
    clear hg hg' hz b0
    generalize zs.length = m at *
    go_enter Try.func32, Try.ntmps32
    go_wp2_with fail
    refine Calls.mono GD.out ?_
    rintro e w1 ⟨rfl, hb⟩
    have B1 := BX.trans (hb.mono BX.size)
    clear GD BX hb
    go_wp2
    exact bodyPost_ret (v := .tuple #[.int .i64 0, .bool false]) (by simp [results, Try.results32, go_sem]) rfl ⟨rfl, B1⟩
set_option maxHeartbeats 1600000 in
set_option maxRecDepth 100000 in
theorem specCarriers_any (a : Option Addr) (cap : Nat) (zs : List Int) (t : Int) (th : Bool) (w : World) (hz : M4.IntsAt w a zs) (hl : zs.length ≤ 1048576) :
    Calls Try.prog 27 #[.agg #[.slice a zs.length cap, .int .i64 t, .bool th]] w fun e w' => ∃ b c, e = .returned (.tuple #[.slice b (if SP.good zs t = true then SP.cr zs zs.length else []).length c, .bool (SP.good zs t)]) ∧ w'.ownsRow w.heap.size 3 1 (.slice b (if SP.good zs t = true then SP.cr zs zs.length else []).length c) (if SP.good zs t = true then SP.cr zs zs.length else []).length (M4.iv (if SP.good zs t = true then SP.cr zs zs.length else [])) ∧ Below w.heap.size w w' := by
  obtain ⟨i0, hi, hz0, hz1, hz2⟩ := info_parts Try.info3
  have BX : Below w.heap.size w (w.alloc (.cells #[.slice a zs.length cap, .int .i64 t, .bool th] 24)) := (Below.refl _ _).alloc (Nat.le_refl _) _
  have GD : Hid (Calls _ _ _ _ _) := specGoodSpray_any a cap zs t th _ (hz.below BX) hl
  have b0 := SP.B3.new w (.slice a zs.length cap) (.int .i64 t) (.bool th) 24 rfl
  by_cases hg : SP.good zs t = true
  · have h1 := SP.good_len hg
    rw [hg] at GD
    rw [if_pos hg, hg]
    obtain ⟨g, off, rfl, hgl, hcl⟩ : ∃ b off, a = some ⟨b, off, none⟩ ∧ b < w.heap.size ∧ ∀ j, j < zs.length → w.cell? ⟨b, off + j, none⟩ = some (.int .i64 (zs.getD j 0)) := by
      rcases hz with h | h
      · rw [h] at h1; simp at h1
      · exact h
    have HC : Hid _ := hcl
    clear hz hg hl hcl
    generalize zs.length = m at *
    go_enter Try.func27, Try.ntmps27
    go_wp2_with fail
    refine Calls.mono GD.out ?_
    rintro e w1 ⟨rfl, hb⟩
    have B1 := BX.trans (hb.mono BX.size)
    replace b0 := b0.below hb b0.lt
    have hlt := b0.lt
    obtain ⟨c0, c1, c2⟩ := b0.cells
    clear GD BX hb b0
    go_wp2
    clear c0 c1 c2
    have hs1 := B1.size
    go_loopw [4, 13] (fun ov iv wr => ∃ (k : Nat) (b : Option Addr) (c : Nat), ov = .slice b (SP.cr zs k).length c ∧ iv = .int .i64 k ∧ k ≤ m ∧ Hid (wr.ownsRow w.heap.size 3 1 (.slice b (SP.cr zs k).length c) (SP.cr zs k).length (M4.iv (SP.cr zs k))) ∧ Below w.heap.size w wr) (fun _ iv _ => (m - (intOf iv).toNat))
    case atStart => exact ⟨0, none, 0, rfl, rfl, by omega, World.ownsRow_nil _ _ _ _, B1⟩
    case round =>
      obtain ⟨k, b, c, rfl, rfl, hk, HO, hB⟩ := hrel
      have hcr := SP.cr_len zs k
      by_cases hkl : k < m
      · have hc := (hB.cell (p := ⟨g, off + k, none⟩) hgl).trans (HC.out k hkl)
        have hsB := hB.size
        by_cases hp : 0 < zs.getD k 0
        · have HS : Hid (SP.cr zs (k + 1) = SP.cr zs k ++ [(k : Int)]) := by show SP.cr zs (k + 1) = _; rw [SP.cr, if_pos hp]
          generalize SP.cr zs k = L at *
          generalize zs.getD k 0 = z at *
          go_wp2_with (at_builtin; refine wpList_append_own _ rfl _ _ 22 rfl w.heap.size 3 i0 (.int .i64 0) 1 8 Try.underlying22 hi hz0 hz1 hz2 rfl (by decide) _ _ _ rfl (World.ownsRow.alloc HO.out _) ⟨wr.heap.size, 0, none⟩ 1 1 [.int .i64 (k : Int)] rfl rfl ?c1 ?c2 ?c3 ?c4 ?c5 ?_)
          case c1 => exact M2.new1 _ _ _
          case c2 => exact M2.one1 _ _
          case c3 => unfold maxLen; omega
          case c4 => omega
          case c5 => simp; omega
          intro v' wn hown1 hgrow _
          have hbN := (hB.alloc hsB (.cells #[.int .i64 (k : Int)] 3)).grown hgrow (by simp; omega) (fun j hj => (SP.own_lo HO.out hj))
          obtain ⟨b', c', hv'⟩ := SP.own_slice hown1
          subst hv'
          have hlen : (SP.cr zs (k + 1)).length = L.length + 1 := by rw [HS.out]; simp
          have R1 : Hid (wn.ownsRow w.heap.size 3 1 (.slice b' (SP.cr zs (k + 1)).length c') (SP.cr zs (k + 1)).length (M4.iv (SP.cr zs (k + 1)))) := by
            show wn.ownsRow _ _ _ _ _ _
            rw [hlen, HS.out]; simpa [M4.iv] using hown1
          have HL : Hid _ := hlen
          clear hown1 hgrow HO hlen
          go_wp2
          go_roundw
          case rel => exact ⟨k + 1, b', c', by rw [HL.out], by go_num, by omega, R1, hbN⟩
          case measure => simp [intOf]; omega
        · have HS : Hid (SP.cr zs (k + 1) = SP.cr zs k) := by show SP.cr zs (k + 1) = _; rw [SP.cr, if_neg hp]
          generalize zs.getD k 0 = z at *
          have R1 : Hid (wr.ownsRow w.heap.size 3 1 (.slice b (SP.cr zs (k + 1)).length c) (SP.cr zs (k + 1)).length (M4.iv (SP.cr zs (k + 1)))) := by
            show wr.ownsRow _ _ _ _ _ _
            rw [HS.out]; exact HO.out
          clear HO
          go_wp2
          go_roundw
          case rel => exact ⟨k + 1, b, c, by rw [HS.out], by go_num, by omega, R1, hB⟩
          case measure => simp [intOf]; omega
      · have hkm : k = m := by omega
        rw [hkm] at HO ⊢
        clear hkm hkl hk HC hcr hi hz0 hz1 hz2
        go_wp2
        exact bodyPost_ret (v := .tuple #[.slice b (SP.cr zs m).length c, .bool true]) (by simp [results, Try.results27, go_sem]) rfl ⟨b, c, rfl, HO.out, hB⟩
  · have hg' : SP.good zs t = false := by simpa using hg
    rw [hg'] at GD
    rw [hg', if_neg (by simp)]
    clear hg hg' hz b0 hi hz0 hz1 hz2
    generalize zs.length = m at *
    go_enter Try.func27, Try.ntmps27
    go_wp2_with fail
    refine Calls.mono GD.out ?_
    rintro e w1 ⟨rfl, hb⟩
    have B1 := BX.trans (hb.mono BX.size)
    clear GD BX hb
    go_wp2
    exact bodyPost_ret (v := .tuple #[.slice none 0 0, .bool false]) (by simp [results, Try.results27, go_sem]) rfl ⟨none, 0, rfl, World.ownsRow_nil _ _ _ _, B1⟩
end Go.Proofs.Ytgbneidgokjbbaa
