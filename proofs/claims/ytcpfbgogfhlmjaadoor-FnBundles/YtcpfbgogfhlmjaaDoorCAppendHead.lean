/- impl.appendHead adds a head's bytes to a row of bytes that its caller owns. -/
import Derived.Test.YtcpfbgogfhlmjaaDoorRows
import Derived.Test.YtcpfbgogfhlmjaaDoorM9
import Derived.WalkKit
import Derived.WalkSpells
import Derived.WalkLawsBesides
import Derived.Outline
namespace Go.Proofs.YtcpfbgogfhlmjaaDoor
open Go.RowKit
theorem Tryd.info5c : (Tryd.prog.info? 5).map (fun i => (i.zero, i.size, i.bytes)) = some (some (.int .u8 0), 1, 1) := by kernel_rfl
set_option maxHeartbeats 800000 in
set_option maxRecDepth 100000 in
theorem appendHead_any (m n : Nat) (base : Nat) (v : Value) (bs : List UInt8) (w : World) (hm : m ≤ 7) (hn : n ≤ 4294967295) (hbs : bs.length ≤ 1000000000) (hbase : base ≤ w.heap.size) (hown : w.ownsRow base 5 1 v bs.length (M2.bv bs)) :
    Calls Tryd.prog 67 #[v, .int .i64 m, .int .i64 n] w fun e w' => ∃ v', e = .returned v' ∧ w'.ownsRow base 5 1 v' (bs ++ M7.hb m n).length (M2.bv (bs ++ M7.hb m n)) ∧ Below base w w' := by
  obtain ⟨i0, hi, hz0, hz1, hz2⟩ := info_parts Tryd.info5c
  by_cases h1 : n < 24
  · go_enter Tryd.func67, Tryd.ntmps67
    go_wp2_with (first
      | (at_builtin; refine wpList_append_own _ rfl _ _ 22 rfl base 5 i0 (.int .u8 0) 1 1 Tryd.underlying22 hi hz0 hz1 hz2 rfl (by decide) _ _ _ rfl (hown.alloc _) ⟨w.heap.size, 0, none⟩ 1 1 ([?y0x0].map (Value.int .u8)) rfl rfl ?c1 ?c2 ?c3 ?c4 ?c5 ?_)
      | go_in)
    case c1 => exact M9.newN _ _ _
    case c2 => exact M9.oneN _ _
    case c3 => unfold maxLen; omega
    case c4 => omega
    case c5 => simp; omega
    intro v' w1 hown1 hgrow _
    have R := M9.grow (l := M7.hb m n) (bs := bs) (w := w) (by unfold M7.hb; simp only [h1, if_true]; simp [M2.bv]; omega) (by unfold M7.hb; simp only [h1, if_true]; rfl) hown (Below.refl _ _) hbase hown1 hgrow
    clear hown1 hgrow hown
    go_wp2
    go_ret
    exact ⟨_, rfl, R.1, R.2⟩
  · by_cases h2 : n < 256
    · go_enter Tryd.func67, Tryd.ntmps67
      go_wp2_with (first
        | (at_builtin; refine wpList_append_own _ rfl _ _ 22 rfl base 5 i0 (.int .u8 0) 1 1 Tryd.underlying22 hi hz0 hz1 hz2 rfl (by decide) _ _ _ rfl (hown.alloc _) ⟨w.heap.size, 0, none⟩ 2 2 ([?y1x0, ?y1x1].map (Value.int .u8)) rfl rfl ?c1 ?c2 ?c3 ?c4 ?c5 ?_)
        | go_in)
      case c1 => exact M9.newN _ _ _
      case c2 => exact M9.oneN _ _
      case c3 => unfold maxLen; omega
      case c4 => omega
      case c5 => simp; omega
      intro v' w1 hown1 hgrow _
      have R := M9.grow (l := M7.hb m n) (bs := bs) (w := w) (by unfold M7.hb; simp only [h1, h2, if_true, if_false]; simp [M2.bv]; omega) (by unfold M7.hb; simp only [h1, h2, if_true, if_false]; rfl) hown (Below.refl _ _) hbase hown1 hgrow
      clear hown1 hgrow hown
      go_wp2
      go_ret
      exact ⟨_, rfl, R.1, R.2⟩
    · by_cases h3 : n < 65536
      · have k1 : decide ((n : Int) < 24) = false := by simp; omega
        have k2 : decide ((n : Int) < 256) = false := by simp; omega
        have k3 : decide ((n : Int) < 65536) = true := by simp; omega
        have H1 : Hid (¬ n < 24) := h1
        have H2 : Hid (¬ n < 256) := h2
        have H3 : Hid (n < 65536) := h3
        clear h1 h2 h3
        go_enter Tryd.func67, Tryd.ntmps67
        go_wp2_with (first
          | (at_builtin; refine wpList_append_own _ rfl _ _ 22 rfl base 5 i0 (.int .u8 0) 1 1 Tryd.underlying22 hi hz0 hz1 hz2 rfl (by decide) _ _ _ rfl (hown.alloc _) ⟨w.heap.size, 0, none⟩ 3 3 ([?y2x0, ?y2x1, ?y2x2].map (Value.int .u8)) rfl rfl ?c1 ?c2 ?c3 ?c4 ?c5 ?_)
          | go_in)
        case c1 => exact M9.newN _ _ _
        case c2 => exact M9.oneN _ _
        case c3 => unfold maxLen; omega
        case c4 => omega
        case c5 => simp; omega
        intro v' w1 hown1 hgrow _
        have R := M9.grow (l := M7.hb m n) (bs := bs) (w := w) (by unfold M7.hb; simp only [H1.out, H2.out, H3.out, if_true, if_false]; simp [M2.bv]; omega) (by unfold M7.hb; simp only [H1.out, H2.out, H3.out, if_true, if_false]; rfl) hown (Below.refl _ _) hbase hown1 hgrow
        clear hown1 hgrow hown
        go_wp2
        go_ret
        exact ⟨_, rfl, R.1, R.2⟩
      · have k1 : decide ((n : Int) < 24) = false := by simp; omega
        have k2 : decide ((n : Int) < 256) = false := by simp; omega
        have k3 : decide ((n : Int) < 65536) = false := by simp; omega
        have H1 : Hid (¬ n < 24) := h1
        have H2 : Hid (¬ n < 256) := h2
        have H3 : Hid (¬ n < 65536) := h3
        clear h1 h2 h3
        go_enter Tryd.func67, Tryd.ntmps67
        go_wp2_with (first
          | (at_builtin; refine wpList_append_own _ rfl _ _ 22 rfl base 5 i0 (.int .u8 0) 1 1 Tryd.underlying22 hi hz0 hz1 hz2 rfl (by decide) _ _ _ rfl (hown.alloc _) ⟨w.heap.size, 0, none⟩ 5 5 ([?y3x0, ?y3x1, ?y3x2, ?y3x3, ?y3x4].map (Value.int .u8)) rfl rfl ?c1 ?c2 ?c3 ?c4 ?c5 ?_)
          | go_in)
        case c1 => exact M9.newN _ _ _
        case c2 => exact M9.oneN _ _
        case c3 => unfold maxLen; omega
        case c4 => omega
        case c5 => simp; omega
        intro v' w1 hown1 hgrow _
        have R := M9.grow (l := M7.hb m n) (bs := bs) (w := w) (by unfold M7.hb; simp only [H1.out, H2.out, H3.out, if_false]; simp [M2.bv]; omega) (by unfold M7.hb; simp only [H1.out, H2.out, H3.out, if_false]; rfl) hown (Below.refl _ _) hbase hown1 hgrow
        clear hown1 hgrow hown
        go_wp2
        go_ret
        exact ⟨_, rfl, R.1, R.2⟩
end Go.Proofs.YtcpfbgogfhlmjaaDoor
