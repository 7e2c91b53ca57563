/- pathIn of the program. -/
import Derived.Test.YtdglialjcibbbaaRows
import Derived.Test.YtdglialjcibbbaaMPJ
import Derived.Test.YtdglialjcibbbaaCAreEdges
import Derived.Test.YtdglialjcibbbaaMINS
import Derived.WalkKit
import Derived.WalkSpells
import Derived.WalkLawsBesides
import Derived.Outline
namespace Go.Proofs.Ytdglialjcibbbaa
open Go.RowKit
theorem EG.own_empty (w : World) : (w.alloc (.cells #[] 3)).ownsRow w.heap.size 3 1 (.slice (some ⟨w.heap.size, 0, none⟩) 0 0) 0 (M4.iv []) := by
  have := World.ownsRow_lit (base := w.heap.size) (e := 3) (size := 1) w #[] 0 (by simp) (by unfold maxLen; omega) (by simp)
  simpa [M4.iv] using this
set_option maxHeartbeats 400000 in
set_option maxRecDepth 100000 in
theorem endFrom_any (x y p : Nat) (z : Int) (w : World) : Calls Try.prog 63 #[.agg #[.int .i64 (x : Int), .int .i64 (y : Int), .int .i64 z], .int .i64 (p : Int)] w fun e w' => e = .returned (.tuple #[.int .i64 (((EG.jn (x, y) p).getD 0 : Nat) : Int), .bool (EG.jn (x, y) p).isSome]) ∧ Below w.heap.size w w' := by
  have hB : ∀ o, Below w.heap.size w (w.alloc o) := fun o => (Below.refl _ w).alloc (Nat.le_refl _) o
  have HB : Hid _ := hB
  clear hB
  by_cases hxp : x = p
  · have hJ : Hid (EG.jn (x, y) p = some y) := by show _ = _; rw [EG.jn, if_pos hxp]
    have hxb : ((x : Int) == (p : Int)) = true := by rw [hxp]; simp
    have hxb' : ((p : Int) == (x : Int)) = true := by rw [hxp]; simp
    clear hxp
    go_enter Try.func63, Try.ntmps63
    go_wp2
    go_ret2
    exact ⟨by rw [hJ.out]; rfl, HB.out _⟩
  · have hxb : ((x : Int) == (p : Int)) = false := by rw [beq_eq_false_iff_ne]; omega
    have hxb' : ((p : Int) == (x : Int)) = false := by rw [beq_eq_false_iff_ne]; omega
    by_cases hyp : y = p
    · have hJ : Hid (EG.jn (x, y) p = some x) := by show _ = _; rw [EG.jn, if_neg hxp, if_pos hyp]
      have hyb : ((y : Int) == (p : Int)) = true := by rw [hyp]; simp
      have hyb' : ((p : Int) == (y : Int)) = true := by rw [hyp]; simp
      clear hxp hyp
      go_enter Try.func63, Try.ntmps63
      go_wp2
      go_ret2
      exact ⟨by rw [hJ.out]; rfl, HB.out _⟩
    · have hJ : Hid (EG.jn (x, y) p = none) := by show _ = _; rw [EG.jn, if_neg hxp, if_neg hyp]
      have hyb : ((y : Int) == (p : Int)) = false := by rw [beq_eq_false_iff_ne]; omega
      have hyb' : ((p : Int) == (y : Int)) = false := by rw [beq_eq_false_iff_ne]; omega
      clear hxp hyp
      go_enter Try.func63, Try.ntmps63
      go_wp2
      go_ret2
      exact ⟨by rw [hJ.out]; rfl, HB.out _⟩
set_option linter.unusedSimpArgs false in
set_option maxHeartbeats 1600000 in
set_option maxRecDepth 100000 in
theorem pathIn_any (INS : InsertsI) (a b : Option Addr) (ca cb : Nat) (xs : List I3) (os : List Int) (hg : EG.okP xs = true) (ho : os.length ≤ 1048576) (hR : EG.InR xs os) (q : Nat) (hq : q < 8) : ∀ (f : Nat) (came : Int) (p : Nat) (w : World), f ≤ 100 → EG.At xs os f came p → MI3.RowAt w a xs → M4.IntsAt w b os →
    Calls Try.prog 44 #[.slice a xs.length ca, .slice b os.length cb, .int .i64 came, .int .i64 (p : Int), .int .i64 (q : Int)] w fun e w' => ∃ a1 c1, e = .returned (.tuple #[.slice a1 (EG.oL (EG.pathO xs os q f came p)).length c1, .bool (EG.pathO xs os q f came p).isSome]) ∧ w'.ownsRow w.heap.size 3 1 (.slice a1 (EG.oL (EG.pathO xs os q f came p)).length c1) (EG.oL (EG.pathO xs os q f came p)).length (M4.iv (EG.oL (EG.pathO xs os q f came p))) ∧ Below w.heap.size w w'
  | 0, came, p, w, _, hA, _, _ => absurd hA.ok.pos (by omega)
  | f + 1, came, p, w, hf, hA, hin, hos => by
    have IH : Hid _ := fun (came : Int) (p : Nat) (w : World) => pathIn_any INS a b ca cb xs os hg ho hR q hq f came p w (by omega)
    have HI : Hid (MI3.RowAt w a xs) := hin
    have HS : Hid (M4.IntsAt w b os) := hos
    have HG : Hid _ := hg
    have HA : Hid _ := hA
    have hlen := ((EG.okP_iff xs).1 hg).1
    have hp8 := hA.lt
    have hge := hA.ge
    have hle := hA.le
    by_cases hpq : p = q
    · have HP : Hid (EG.pathO xs os q (f + 1) came p = some []) := by show _ = _; rw [hpq]; exact EG.path_zero
      subst hpq
      clear hin hos hg hA IH HI HS HG HA hR
      go_enter Try.func44, Try.ntmps44
      go_wp2
      go_ret2
      exact ⟨some ⟨w.heap.size, 0, none⟩, 0, by rw [HP.out]; rfl, by rw [HP.out]; exact EG.own_empty w, (Below.refl _ _).alloc (Nat.le_refl _) _⟩
    · have HP : Hid (EG.pathO xs os q (f + 1) came p = EG.restO xs os q f came p 0) := EG.path_rest hpq
      have hpq' : ((p : Int) == (q : Int)) = false := by rw [beq_eq_false_iff_ne]; omega
      clear hin hos hg hA
      go_enter Try.func44, Try.ntmps44
      go_wp2
      go_loopw [24] (fun iv wr => ∃ j : Nat, iv = .int .i64 j ∧ j ≤ os.length ∧ Hid (EG.restO xs os q f came p j = EG.restO xs os q f came p 0) ∧ Below w.heap.size w wr) (fun iv _ => (os.length - intOf iv).toNat)
      case atStart => exact ⟨0, rfl, by omega, show Hid _ from rfl, Below.refl _ _⟩
      case round =>
        obtain ⟨j, rfl, hj, hT, hb⟩ := hrel
        by_cases hlj : j < os.length
        · obtain ⟨b1, off1, hbb, hlt1, hc1⟩ := M4.IntsAt.at (HS.out.below hb) hlj
          obtain ⟨h0, h1⟩ := hR.is j hlj
          obtain ⟨i, hio⟩ := Int.eq_ofNat_of_zero_le h0
          have hil : i < xs.length := by omega
          obtain ⟨b2, off2, hab, hlt2, c0, c1, c2⟩ := (HI.out.below hb).at hil
          have G := EG.okP_good HG.out hil
          obtain ⟨x, hx⟩ := Int.eq_ofNat_of_zero_le G.f0
          obtain ⟨y, hy⟩ := Int.eq_ofNat_of_zero_le G.t0
          have hx8 : x < 8 := by have := G.f1; omega
          have hy8 : y < 8 := by have := G.t1; omega
          have hen : EG.en xs i = (x, y) := by unfold EG.en; rw [hx, hy]; rfl
          have EF : Hid _ := endFrom_any x y p (MI3.at_ xs i).a2 wr
          rw [hio] at hc1
          rw [hx] at c0
          rw [hy] at c1
          have HEN : Hid _ := hen
          clear h0 h1 G hx hy HG hen
          generalize (MI3.at_ xs i).a2 = z at *
          subst hbb
          subst hab
          go_wp2_with fail
          refine Calls.mono EF.out ?_
          rintro e w2 ⟨rfl, hb2⟩
          have hB2 := hb.trans (hb2.mono hb.size)
          have HIO : Hid _ := hio
          clear EF c0 c1 c2 hc1 hb hb2 hio
          cases hjn0 : EG.jn (x, y) p with
          | none =>
            have ES := (EG.rest_skip (xs := xs) (os := os) (b := q) (f := f) (a := p) (came := came) hlj HIO.out (.inl (by rw [HEN.out]; exact hjn0))).symm.trans hT.out
            have HT : Hid _ := ES
            rw [show ((none : Option Nat).isSome) = false from rfl]
            clear ES hT IH HA hR HIO HEN hjn0
            go_wp2
            go_roundw
            case rel => exact ⟨j + 1, by go_num, by omega, HT, hB2⟩
            case measure => simp [intOf]; omega
          | some c =>
            have hjn : Hid (EG.jn (EG.en xs i) p = some c) := by show _ = _; rw [HEN.out]; exact hjn0
            have hc8 : c < 8 := by rcases EG.jn_is hjn0 with ⟨_, h⟩ | ⟨_, h⟩ <;> simp at h <;> omega
            rw [show ((some c).isSome) = true from rfl, show (some c).getD 0 = c from rfl]
            clear hjn0 HEN
            by_cases hci : (i : Int) = came
            · have ES := (EG.rest_skip (xs := xs) (os := os) (b := q) (f := f) (a := p) (came := came) hlj HIO.out (.inr hci)).symm.trans hT.out
              have hcb : ((i : Int) == came) = true := by rw [hci]; simp
              have HT : Hid _ := ES
              clear ES hT IH HA hR HIO hjn hci
              go_wp2
              go_roundw
              case rel => exact ⟨j + 1, by go_num, by omega, HT, hB2⟩
              case measure => simp [intOf]; omega
            · have hcb : ((i : Int) == came) = false := by rw [beq_eq_false_iff_ne]; exact hci
              have hAc := HA.out.step hlj HIO.out (by omega) hjn.out hci hc8
              have RC := IH.out (i : Int) c w2 hAc (HI.out.below hB2) (HS.out.below hB2)
              have YES : Hid _ := fun r hr => hT.out.symm.trans (EG.rest_yes (xs := xs) (os := os) (b := q) (f := f) (a := p) (came := came) hlj HIO.out hjn.out hci (r := r) hr)
              have NO : Hid _ := fun hr => (EG.rest_no (xs := xs) (os := os) (b := q) (f := f) (a := p) (came := came) hlj HIO.out hjn.out hci hr).symm.trans hT.out
              have hpl := EG.path_len xs os q f (i : Int) c
              have HRC : Hid _ := RC
              clear RC hAc hT hjn HIO hci IH HA hR HI HS
              go_wp2_with fail
              refine Calls.mono HRC.out ?_
              rintro e w3 ⟨a3, c3, rfl, ho3, hb3⟩
              have hB3 := hB2.trans (hb3.mono hB2.size)
              have hs2 := hB2.size
              clear HRC hb3 hB2
              cases hres : EG.pathO xs os q f (i : Int) c with
              | none =>
                rw [show (none : Option (List Int)).isSome = false from rfl]
                have HT : Hid _ := NO.out hres
                clear YES NO ho3 hres hpl
                go_wp2
                go_roundw
                case rel => exact ⟨j + 1, by go_num, by omega, HT, hB3⟩
                case measure => simp [intOf]; omega
              | some r =>
                rw [hres] at ho3 hpl
                rw [show (some r).isSome = true from rfl, show EG.oL (some r) = r from rfl]
                have HT : Hid _ := YES.out r hres
                have own3 : w3.ownsRow w.heap.size 3 1 (.slice a3 r.length c3) r.length (M4.iv r) := EG.own_base' (show w3.ownsRow w2.heap.size 3 1 (.slice a3 r.length c3) r.length (M4.iv r) from ho3) hs2
                have hrl : r.length ≤ f := hpl
                have INS1 : Hid _ := INS w.heap.size a3 c3 r (i : Int) w3 hB3.size own3 (by omega)
                clear YES NO ho3 hres hpl own3
                go_wp2_with fail
                refine Calls.mono INS1.out ?_
                rintro e w5 ⟨a5, c5, rfl, ho5, hb5⟩
                have R2 : Below w.heap.size w w5 := hB3.trans hb5
                have HR1 : Hid _ := ho5
                clear INS1 ho5 hb5 hB3
                go_wp2
                go_ret2
                exact ⟨a5, c5, by rw [HP.out, HT.out]; rfl, by rw [HP.out, HT.out]; exact HR1.out, R2⟩
        · obtain rfl : j = os.length := by omega
          have HN : Hid (EG.restO xs os q f came p 0 = none) := hT.out.symm.trans EG.rest_end
          clear HI HS HG hR HA IH hT
          go_wp2
          go_ret2
          exact ⟨none, 0, by rw [HP.out, HN.out]; rfl, by rw [HP.out, HN.out]; exact World.ownsRow_nil _ _ _ _, hb⟩
end Go.Proofs.Ytdglialjcibbbaa
