/- The laws' toIntSS copies rows of rows; szIntSS is a bound on them. -/
import Derived.Test.YtlcdimiookaefabRows
import Derived.Test.YtlcdimiookaefabMNF
import Derived.Test.YtlcdimiookaefabCToIntO
import Derived.WalkKit
import Derived.WalkSpells
import Derived.WalkLawsBesides
import Derived.Outline
namespace Go.Proofs.Ytlcdimiookaefab
open Go.RowKit
theorem Try.infoNest : (Try.prog.info? 26).map (fun i => (i.zero, i.size, i.bytes)) = some (some (.slice none 0 0), 1, 24) := by kernel_rfl
set_option maxHeartbeats 1600000 in
set_option maxRecDepth 100000 in
theorem szInt1_any (a : Option Addr) (cap : Nat) (n : Nat) (w : World) (left : Int) (h0 : 0 ≤ left) (h1 : left ≤ 1048576) (hl : n ≤ maxLen) :
    Calls Try.prog 25 #[.slice a n cap, .int .i64 left] w fun e w' => e = .returned (.int .i64 (if left - (n : Int) < 0 then -1 else left - n)) ∧ w = w' := by
  unfold maxLen at hl
  by_cases h : left - (n : Int) < 0
  · rw [if_pos h]
    go_enter Try.func25, Try.ntmps25
    go_wp2
    go_ret
    exact ⟨rfl, rfl⟩
  · rw [if_neg h]
    go_enter Try.func25, Try.ntmps25
    go_wp2
    go_ret
    exact ⟨rfl, rfl⟩
set_option maxHeartbeats 1600000 in
set_option maxRecDepth 100000 in
theorem szIntSS_any (a : Option Addr) (cap : Nat) (ws : List (List Int)) (w : World) (left : Int) (h0 : 0 ≤ left) (h1 : left ≤ 1048576) (hl : ws.length ≤ maxLen) (hin : NR.RowsAt w a ws) :
    Calls Try.prog 13 #[.slice a ws.length cap, .int .i64 left] w fun e w' => ∃ r : Int, e = .returned (.int .i64 r) ∧ (r < 0 ∨ (0 ≤ r ∧ r ≤ left ∧ (ws.length : Int) + NR.tot ws ≤ left)) ∧ w = w' := by
  unfold maxLen at hl
  have HI : Hid (NR.RowsAt w a ws) := hin
  clear hin
  by_cases h : left - (ws.length : Int) < 0
  · clear HI
    go_enter Try.func13, Try.ntmps13
    go_wp2
    go_ret
    exact ⟨-1, rfl, .inl (by omega), rfl⟩
  · go_enter Try.func13, Try.ntmps13
    go_wp2
    go_loopw [1, 5] (fun lv iv wr => ∃ i : Nat, iv = .int .i64 i ∧ i ≤ ws.length ∧ (∃ l : Int, lv = .int .i64 l ∧ 0 ≤ l ∧ l ≤ left ∧ Hid (l + (ws.length : Int) + NR.tot (ws.take i) = left)) ∧ w = wr) (fun _ iv _ => (ws.length - intOf iv).toNat)
    case atStart => exact ⟨0, rfl, by omega, ⟨_, rfl, by omega, by omega, by show _ = _; simp [NR.tot]⟩, rfl⟩
    case round =>
      obtain ⟨i, rfl, hi, ⟨l, rfl, hl0, hl1, hT⟩, rfl⟩ := hrel
      by_cases hli : i < ws.length
      · obtain ⟨b1, off1, a1, c1, rfl, hlt1, d1, hm, _⟩ := HI.out.at hli
        have ET := NR.tot_take ws hli
        have SZ : Hid _ := szInt1_any a1 c1 (NR.rw_ ws i).length w l hl0 (by omega) hm
        have HNX : Hid (∀ l', l' = l - (NR.rw_ ws i).length → l' + (ws.length : Int) + NR.tot (ws.take (i + 1)) = left) := fun l' e => by have := hT.out; rw [e, ET]; push_cast; omega
        clear HI ET hT
        generalize (NR.rw_ ws i).length = ri at *
        by_cases hn : l - (ri : Int) < 0
        · rw [if_pos hn] at SZ
          clear HNX
          go_wp2_with fail
          refine Calls.mono SZ.out ?_
          rintro e w1 ⟨rfl, rfl⟩
          clear SZ
          go_wp2
          go_ret
          exact ⟨-1, rfl, .inl (by omega), rfl⟩
        · rw [if_neg hn] at SZ
          have HE : Hid _ := HNX.out _ rfl
          clear HNX
          have hl2 : 0 ≤ l - (ri : Int) := by omega
          have hl3 : l - (ri : Int) ≤ left := by omega
          generalize l - (ri : Int) = l2 at *
          go_wp2_with fail
          refine Calls.mono SZ.out ?_
          rintro e w1 ⟨rfl, rfl⟩
          clear SZ
          go_wp2
          go_roundw
          case rel => exact ⟨i + 1, by go_num, by omega, ⟨l2, rfl, hl2, hl3, HE⟩, trivial⟩
          case measure => simp [intOf]; omega
      · obtain rfl : i = ws.length := by omega
        have hE := hT.out
        rw [List.take_length] at hE
        have HE : Hid _ := hE
        clear HI hT hE
        go_wp2
        go_ret
        exact ⟨l, rfl, .inr ⟨hl0, hl1, by have := HE.out; omega⟩, rfl⟩
set_option maxHeartbeats 1600000 in
set_option maxRecDepth 100000 in
theorem toIntSS_own (a : Option Addr) (cap : Nat) (ws : List (List Int)) (w : World) (hz : ws.length ≤ 1048576) (ht : NR.tot ws ≤ 1048576) (hin : NR.RowsAt w a ws) :
    Calls Try.prog 18 #[.slice a ws.length cap] w fun e w' => ∃ g AA CC, e = .returned (.slice (some ⟨g, 0, none⟩) ws.length ws.length) ∧ NR.Own 26 w' w.heap.size (.slice (some ⟨g, 0, none⟩) ws.length ws.length) ws AA CC ∧ Below w.heap.size w w' := by
  obtain ⟨i1, hi', hz0', hz1', hz2'⟩ := info_parts Try.infoNest
  have HI : Hid (NR.RowsAt w a ws) := hin
  clear hin
  go_enter Try.func18, Try.ntmps18
  go_wp2_with (at_make; refine wpList_make_full _ rfl _ _ 22 rfl w.heap.size 26 i1 (.slice none 0 0) 1 Try.underlying22 hi' hz0' hz1' .i64 .i64 _ _ ws.length rfl rfl rfl rfl ?_ ?_ ?_ ?_)
  · rw [hz2']; omega
  · unfold maxLen; omega
  · omega
  intro w1 hown hgrow
  rw [toList_madeCells_one] at hown
  have hb1 : Below w.heap.size w w1 := (Below.refl _ _).grown hgrow (Nat.le_refl _) (fun k hk => by cases hk)
  have HW0 : Hid (NR.Ws 26 w1 w.heap.size w.heap.size ws.length (ws.take 0) (fun _ => none) (fun _ => 0)) := ⟨by simpa [NR.hd] using hown, fun j hj => by simp at hj, fun i j _ hj => by simp at hj⟩
  clear hgrow hown hi' hz0' hz1' hz2'
  go_wp2_with fail
  go_loopw [4] (fun iv wr => ∃ (i : Nat) (AA : Nat → Option Addr) (CC : Nat → Nat), iv = .int .i64 i ∧ i ≤ ws.length ∧ Hid (NR.Ws 26 wr w.heap.size w.heap.size ws.length (ws.take i) AA CC) ∧ Below w.heap.size w wr) (fun iv _ => (ws.length - intOf iv).toNat)
  case atStart => exact ⟨0, _, _, rfl, by omega, HW0, hb1⟩
  case round =>
    clear HW0 hb1
    obtain ⟨i, AA, CC, rfl, hi, HW, hb⟩ := hrel
    by_cases hl : i < ws.length
    · obtain ⟨b1, off1, a1, c1, rfl, hlt1, d1, _, j1⟩ := (HI.out.below hb).at hl
      have hrt := NR.tot_row ws hl
      have TI : Hid _ := toIntS_own a1 c1 (NR.rw_ ws i) wr (by omega) j1
      have ES : Hid (ws.take (i + 1) = ws.take i ++ [NR.rw_ ws i]) := by show _ = _; rw [List.take_succ_eq_append_getElem hl, NR.rw_eq ws i hl]
      have hdl : (ws.take i).length = i := by simp; omega
      have HDL : Hid _ := hdl
      generalize NR.rw_ ws i = r at *
      generalize ws.take i = ds at *
      clear j1 HI hdl
      have hbs := hb.size
      have hgo := HW.out.out.lt w.heap.size rfl
      generalize hrl : r.length = rl at *
      have HRL : Hid _ := hrl
      clear hrl
      go_wp2_with fail
      refine Calls.mono TI.out ?_
      rintro e w2 ⟨g2, rfl, ho, hb2⟩
      clear TI
      have hW2 := HW.out.below hb2
      have hI2 : NR.In w2 wr.heap.size (some ⟨g2, 0, none⟩) r := NR.In.of_own (l := r) (by simpa [HRL.out] using ho)
      have hW3 := hW2.put (c := rl) (by decide) (by rw [HDL.out]; exact hl) hI2 hbs (fun j hj h0 g' hg' => HW.out.lt j hj h0 g' hg')
      rw [HDL.out, HRL.out, ← ES.out] at hW3
      have hlen := hW2.out.1
      have hcell : ∃ u, w2.cell? ⟨w.heap.size, i, none⟩ = some u := by
        rw [hW2.out.cellAt i (by omega)]
        exact ⟨_, List.getElem?_eq_getElem (by omega)⟩
      obtain ⟨u, hcell⟩ := hcell
      have hfz := hW2.out.frozenAt i
      have hB2 := hb.trans (hb2.mono hb.size)
      have on3 := (MC.Only.refl w.heap.size w2).setCell i (.slice (some ⟨g2, 0, none⟩) rl rl)
      have hB3 := hB2.trans (on3.below (Nat.le_refl _) hB2.size)
      have HW3 : Hid _ := hW3
      clear HW hW2 hI2 hW3 hlen ho hb2 hb hB2 on3 ES HDL HRL
      go_wp2
      go_roundw
      case rel => exact ⟨i + 1, _, _, by go_num, by omega, HW3, hB3⟩
      case measure => simp [intOf]; omega
    · obtain rfl : i = ws.length := by omega
      rw [List.take_length] at HW
      have HR : Hid _ := HW.out.own rfl
      clear HW HI
      go_wp2
      go_ret
      exact ⟨w.heap.size, AA, CC, rfl, HR.out, hb⟩
end Go.Proofs.Ytlcdimiookaefab
