/- impl.appendItems at any value: its items behind a row of items that its caller owns. -/
import Derived.Test.YtkpkahhhmoaafaaRows
import Derived.Test.YtkpkahhhmoaafaaCAppendItems
import Derived.WalkKit
import Derived.WalkSpells
import Derived.WalkLawsBesides
import Derived.Outline
namespace Go.Proofs.Ytkpkahhhmoaafaa
open Go.RowKit
theorem flat_le {Ls : List (List It)} (j : Nat) : ((Ls.take j).flatten).length ≤ Ls.flatten.length := by
  conv => rhs; rw [← List.take_append_drop j Ls, List.flatten_append, List.length_append]
  omega
set_option maxHeartbeats 1600000 in
set_option maxRecDepth 100000 in
theorem appendItems_any (r : Nat) : ∀ (w : World) (base : Nat) (ov : Value) (L0 : List It) (v : Value) (L : List It) (D : Nat), M14.VAt r w (fun b => b < base) v L D → w.ownsRow base 43 4 ov L0.length (M11.flat L0) → base ≤ w.heap.size → L0.length + L.length ≤ 1000000 →
    Calls Try.prog 40 #[ov, v] w fun e w' => ∃ v', e = .returned v' ∧ w'.ownsRow base 43 4 v' (L0 ++ L).length (M11.flat (L0 ++ L)) ∧ Below base w w' := by
  induction r with
  | zero =>
    intro w base ov L0 v L D h hown hbase hlen
    rcases h with ⟨n, rfl, rfl, rfl⟩ | ⟨s, rfl, rfl, rfl⟩ | ⟨s, rfl, rfl, rfl⟩
    · exact appendItems_num n base ov L0 w (by omega) hbase hown
    · exact appendItems_byt s base ov L0 w (by omega) hbase hown
    · exact appendItems_txt s base ov L0 w (by omega) hbase hown
  | succ r ih =>
    intro w base ov L0 v L D h hown hbase hlen
    rcases h with ⟨n, rfl, rfl, rfl⟩ | ⟨s, rfl, rfl, rfl⟩ | ⟨s, rfl, rfl, rfl⟩ | ⟨a, cap, vs, Ls, Ds, rfl, h2, h3, h4, h5, rfl, rfl, h8⟩
    · exact appendItems_num n base ov L0 w (by omega) hbase hown
    · exact appendItems_byt s base ov L0 w (by omega) hbase hown
    · exact appendItems_txt s base ov L0 w (by omega) hbase hown
    · obtain ⟨i0, hi, hz0, hz1, hz2⟩ := info_parts Try.infoItem
      have a0 := Try.taLN (.slice a vs.length cap)
      have a1 := Try.taLB (.slice a vs.length cap)
      have a2 := Try.taLT (.slice a vs.length cap)
      have a3 := Try.taLL (.slice a vs.length cap)
      rw [List.length_cons] at hlen
      have IH : Hid _ := ih
      have h63 : L0.length + 1 ≤ maxLen := by unfold maxLen; omega
      have H63 : Hid _ := h63
      clear ih h63
      have hV : Hid (∀ i, i < vs.length → ∃ u, vs[i]? = some u ∧ M14.VAt r w (fun b => b < base) u (Ls.getD i []) (Ds.getD i 0)) := h5
      have hR : Hid (M14.RowAt w (fun b => b < base) a vs) := h4
      clear h4 h5
      go_enter Try.func40, Try.ntmps40
      go_wp2_with (at_builtin; refine wpList_append_own _ rfl _ _ 23 rfl base 43 i0 _ 4 40 Try.underlying23 hi hz0 hz1 hz2 rfl (by decide) _ _ _ rfl (hown.alloc _) ⟨w.heap.size, 0, none⟩ 1 1 (It.cs (⟨4, 0, ⟨#[]⟩, (vs.length : Int)⟩ : It)) rfl rfl (M9.newN w (It.cs (⟨4, 0, ⟨#[]⟩, (vs.length : Int)⟩ : It)) 43) (It.cs_one _) H63.out (by omega) (by simp; omega) ?_)
      intro v1 w1 hown0 hgrow _
      have hown1 : w1.ownsRow base 43 4 v1 (L0 ++ [(⟨4, 0, ⟨#[]⟩, (vs.length : Int)⟩ : It)]).length (M11.flat (L0 ++ [(⟨4, 0, ⟨#[]⟩, (vs.length : Int)⟩ : It)])) := by
        rw [M11.flat_app, List.length_append]
        simpa [M11.flat] using hown0
      have hb1 : Below base w w1 := ((Below.refl base w).alloc hbase _).grown hgrow (by simp; omega) (fun g hg => (hown.lt g hg).1)
      clear hown0 hgrow hown H63
      generalize hG : L0 ++ [(⟨4, 0, ⟨#[]⟩, (vs.length : Int)⟩ : It)] = G at *
      have HG : Hid (L0 ++ [(⟨4, 0, ⟨#[]⟩, (vs.length : Int)⟩ : It)] = G) := hG
      have hGl : G.length + Ls.flatten.length ≤ 1000000 := by rw [← hG, List.length_append, List.length_singleton]; omega
      have HGL : Hid _ := hGl
      clear hG hGl hlen
      go_wp2
      go_loopw [0, 47] (fun ov iv wr => ∃ (j : Nat) (H : List It), iv = .int .i64 (j : Int) ∧ j ≤ vs.length ∧ wr.ownsRow base 43 4 ov H.length (M11.flat H) ∧ Hid (H = G ++ (Ls.take j).flatten) ∧ Below base w wr) (fun _ iv _ => (vs.length - intOf iv).toNat)
      case atStart => exact ⟨0, G, rfl, by omega, hown1, show Hid _ from by simp [Hid], hb1⟩
      case round =>
        clear hown1 hb1
        obtain ⟨j, H, rfl, hj, hownr, hH, hb⟩ := hrel
        by_cases hjl : j < vs.length
        · obtain ⟨g, rfl, hg, hc⟩ := (M14.RowAt.keep hR.out hb.size (fun b h _ => hb.block b h) (fun _ h _ => h)).at hjl
          obtain ⟨u, hu, hv⟩ := hV.out j hjl
          rw [hu] at hc
          have hvr := hv.below hb
          have hfl := M14.flat_take (Ls := Ls) (j := j) (by omega)
          have hln := flat_le (Ls := Ls) (j + 1)
          rw [hfl, List.length_append] at hln
          have hHl : H.length = G.length + ((Ls.take j).flatten).length := by rw [hH.out, List.length_append]
          have hgl := HGL.out
          have CC : Hid _ := IH.out wr base _ H u (Ls.getD j []) _ hvr hownr (Nat.le_trans hbase hb.size) (by omega)
          obtain ⟨tu, xu, rfl⟩ := hv.shape
          have hH2 : Hid (H ++ Ls.getD j [] = G ++ (Ls.take (j + 1)).flatten) := by show _ = _; rw [hH.out, hfl, List.append_assoc]
          clear hvr hv hu hfl hln hHl hgl hH hownr
          go_wp2_with fail
          refine Calls.mono CC.out ?_
          rintro e w2 ⟨v2, rfl, hown2, hb2⟩
          have hB2 := hb.trans hb2
          clear CC hb hb2
          generalize H ++ Ls.getD j [] = K at *
          go_wp2
          go_roundw
          case rel => exact ⟨j + 1, K, by go_num, by omega, hown2, hH2, hB2⟩
          case measure => simp [intOf]; omega
        · obtain rfl : j = vs.length := by omega
          have hfin : H = L0 ++ ((⟨4, 0, ⟨#[]⟩, (vs.length : Int)⟩ : It) :: Ls.flatten) := by
            have e := hH.out
            rw [← h2, List.take_length] at e
            rw [e, ← HG.out, List.append_assoc]; rfl
          subst hfin
          clear hH IH hV hR HG HGL
          go_wp2
          go_ret
          exact ⟨_, rfl, hownr, hb⟩
end Go.Proofs.Ytkpkahhhmoaafaa
