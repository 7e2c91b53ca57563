/- l7Path of the specification. -/
import Derived.Test.YtdglialjcibbbaaRows
import Derived.Test.YtdglialjcibbbaaMPJ
import Derived.Test.YtdglialjcibbbaaCForestF
import Derived.WalkKit
import Derived.WalkSpells
import Derived.WalkLawsBesides
import Derived.Outline
import Derived.Deep.QuietTactic
import Derived.BigQuiet
import Derived.Laws.AppendOwnNone
namespace Go.Proofs.Ytdglialjcibbbaa
open Go.RowKit
set_option linter.unusedSimpArgs false in
set_option maxHeartbeats 1600000 in
set_option maxRecDepth 100000 in
theorem l7Path_any (a b : Option Addr) (ca cb : Nat) (xs : List I3) (os : List Int) (hg : EG.okP xs = true) (ho : os.length ≤ 1048576) (hR : EG.InR xs os) (q : Nat) (hq : q < 8) : ∀ (f : Nat) (came : Int) (p : Nat) (w : World), f ≤ 100 → EG.At xs os f came p → MI3.RowAt w a xs → M4.IntsAt w b os →
    Calls Try.prog 46 #[.slice a xs.length ca, .slice b os.length cb, .int .i64 (p : Int), .int .i64 (q : Int), .int .i64 came] w fun e w' => ∃ a1 c1, e = .returned (.tuple #[.slice a1 (EG.oL (EG.pathO xs os q f came p)).length c1, .bool (EG.pathO xs os q f came p).isSome]) ∧ w'.ownsRow w.heap.size 3 1 (.slice a1 (EG.oL (EG.pathO xs os q f came p)).length c1) (EG.oL (EG.pathO xs os q f came p)).length (M4.iv (EG.oL (EG.pathO xs os q f came p))) ∧ Below w.heap.size w w'
  | 0, came, p, w, _, hA, _, _ => absurd hA.ok.pos (by omega)
  | f + 1, came, p, w, hf, hA, hin, hos => by
    obtain ⟨i0, hi, hz0, hz1, hz2⟩ := info_parts Try.info3
    have IH : Hid _ := fun (came : Int) (p : Nat) (w : World) => l7Path_any a b ca cb xs os hg ho hR q hq f came p w (by omega)
    have HI : Hid (MI3.RowAt w a xs) := hin
    have HS : Hid (M4.IntsAt w b os) := hos
    have HG : Hid _ := hg
    have HA : Hid _ := hA
    have hlen := ((EG.okP_iff xs).1 hg).1
    have hp8 := hA.lt
    have hge := hA.ge
    have hle := hA.le
    by_cases hpq : p = q
    · have HP : Hid (EG.pathO xs os q (f + 1) came p = some []) := by show _ = _; rw [hpq]; exact EG.path_zero
      subst hpq
      clear hin hos hg hA IH HI HS HG HA hR
      go_enter Try.func46, Try.ntmps46
      go_wp2
      go_ret2
      exact ⟨none, 0, by rw [HP.out]; rfl, by rw [HP.out]; exact World.ownsRow_nil _ _ _ _, Below.refl _ _⟩
    · have HP : Hid (EG.pathO xs os q (f + 1) came p = EG.restO xs os q f came p 0) := EG.path_rest hpq
      have hpq' : ((p : Int) == (q : Int)) = false := by rw [beq_eq_false_iff_ne]; omega
      clear hin hos hg hA
      go_enter Try.func46, Try.ntmps46
      go_wp2
      go_loopw [22] (fun iv wr => ∃ j : Nat, iv = .int .i64 j ∧ j ≤ os.length ∧ Hid (EG.restO xs os q f came p j = EG.restO xs os q f came p 0) ∧ Below w.heap.size w wr) (fun iv _ => (os.length - intOf iv).toNat)
      case atStart => exact ⟨0, rfl, by omega, show Hid _ from rfl, Below.refl _ _⟩
      case round =>
        obtain ⟨j, rfl, hj, hT, hb⟩ := hrel
        by_cases hlj : j < os.length
        · obtain ⟨b1, off1, hbb, hlt1, hc1⟩ := M4.IntsAt.at (HS.out.below hb) hlj
          obtain ⟨h0, h1⟩ := hR.is j hlj
          obtain ⟨i, hio⟩ := Int.eq_ofNat_of_zero_le h0
          have hil : i < xs.length := by omega
          obtain ⟨b2, off2, hab, hlt2, c0, c1, _⟩ := (HI.out.below hb).at hil
          have G := EG.okP_good HG.out hil
          obtain ⟨x, hx⟩ := Int.eq_ofNat_of_zero_le G.f0
          obtain ⟨y, hy⟩ := Int.eq_ofNat_of_zero_le G.t0
          have hx8 : x < 8 := by have := G.f1; omega
          have hy8 : y < 8 := by have := G.t1; omega
          have hxy : x ≠ y := by have := G.ne; omega
          have hen : EG.en xs i = (x, y) := by unfold EG.en; rw [hx, hy]; rfl
          rw [hio] at hc1
          rw [hx] at c0
          rw [hy] at c1
          clear h0 h1 G hx hy HG
          subst hbb
          subst hab
          by_cases hxp : x = p
          · have hjn : EG.jn (EG.en xs i) p = some y := by rw [hen, EG.jn, if_pos hxp]
            have hxb : ((x : Int) == (p : Int)) = true := by rw [hxp]; simp
            have hnn : decide ((y : Int) < 0) = false := by simp
            clear hxp
            by_cases hci : (i : Int) = came
            · have ES := (EG.rest_skip (xs := xs) (os := os) (b := q) (f := f) (a := p) (came := came) hlj hio (.inr hci)).symm.trans hT.out
              have hcb : ((i : Int) == came) = true := by rw [hci]; simp
              have HEN : Hid _ := hen
              clear HEN hen hjn hio hci HA hR
              have HT : Hid _ := ES
              clear ES hT IH
              go_wp2
              go_roundw
              case rel => exact ⟨j + 1, by go_num, by omega, HT, hb⟩
              case measure => simp [intOf]; omega
            · have hcb : ((i : Int) == came) = false := by rw [beq_eq_false_iff_ne]; exact hci
              have hAc := HA.out.step hlj hio (by omega) hjn hci hy8
              have RC := IH.out (i : Int) y wr hAc (HI.out.below hb) (HS.out.below hb)
              have YES : Hid _ := fun r hr => hT.out.symm.trans (EG.rest_yes (xs := xs) (os := os) (b := q) (f := f) (a := p) (came := came) hlj hio hjn hci (r := r) hr)
              have NO : Hid _ := fun hr => (EG.rest_no (xs := xs) (os := os) (b := q) (f := f) (a := p) (came := came) hlj hio hjn hci hr).symm.trans hT.out
              have hpl := EG.path_len xs os q f (i : Int) y
              have HRC : Hid _ := RC
              clear RC hAc hT hen hjn hio hci IH HA hR HI HS
              go_wp2_with fail
              refine Calls.mono HRC.out ?_
              rintro e w3 ⟨a3, c3, rfl, ho3, hb3⟩
              clear HRC
              cases hres : EG.pathO xs os q f (i : Int) y with
              | none =>
                rw [hres] at ho3 hpl
                rw [show (none : Option (List Int)).isSome = false from rfl]
                have HT : Hid _ := NO.out hres
                have hb4 := hb.trans (hb3.mono hb.size)
                clear YES NO ho3 hb3 hb hres hpl
                go_wp2
                go_roundw
                case rel => exact ⟨j + 1, by go_num, by omega, HT, hb4⟩
                case measure => simp [intOf]; omega
              | some r =>
                rw [hres] at ho3 hpl
                rw [show (some r).isSome = true from rfl]
                have HT : Hid _ := YES.out r hres
                have hb4 := hb.trans (hb3.mono hb.size)
                have hbs := hb.size
                have own3 : w3.ownsRow wr.heap.size 3 1 (.slice a3 r.length c3) r.length (M4.iv r) := ho3
                have hrl : r.length ≤ f := hpl
                have hbs4 := hb4.size
                rw [show EG.oL (some r) = r from rfl]
                clear YES NO ho3 hb3 hb hres hpl
                have HO0 : Hid ((w3.alloc (.cells #[.int .i64 (i : Int)] 3)).ownsRow w.heap.size 3 1 (.slice (some ⟨w3.heap.size, 0, none⟩) 1 1) 1 (M4.iv [(i : Int)])) := by
                  show World.ownsRow _ _ _ _ _ _ _
                  have := World.ownsRow_lit (base := w.heap.size) (e := 3) (size := 1) w3 #[.int .i64 (i : Int)] 1 hbs4 (by unfold maxLen; omega) (by simp)
                  simpa [M4.iv] using this
                have HBA : Hid (Below w.heap.size w (w3.alloc (.cells #[.int .i64 (i : Int)] 3))) := hb4.alloc hbs4 _
                have HOA : Hid _ := own3.alloc (.cells #[.int .i64 (i : Int)] 3)
                rcases own3.2 with ⟨hov, hac⟩ | ⟨g, cap, cur, hov, hgb, hgc⟩
                · have e1 : a3 = none := by simpa using (Value.slice.inj hov).1
                  obtain rfl : r = [] := List.eq_nil_of_length_eq_zero hac
                  have e2 : c3 = 0 := (Value.slice.inj hov).2.2
                  subst e1 e2
                  clear own3 HOA hov hb4
                  go_wp2_with (at_builtin; refine wpList_append_own_none rfl _ _ 24 rfl w.heap.size 3 i0 1 Try.underlying24 hi _ _ _ rfl HO0.out rfl ?_)
                  go_ret2
                  exact ⟨some ⟨w3.heap.size, 0, none⟩, 1, by rw [HP.out, HT.out]; rfl, by rw [HP.out, HT.out]; exact HO0.out, HBA.out⟩
                · have e1 : a3 = some ⟨g, 0, none⟩ := (Value.slice.inj hov).1
                  subst e1
                  have HRN : Hid (∀ j u, (M4.iv r)[j]? = some u → (w3.alloc (.cells #[.int .i64 (i : Int)] 3)).cell? ((⟨g, 0, none⟩ : Addr).add j) = some u) := fun j u hj => by
                    have hjl : j < r.length := by have := (List.getElem?_eq_some_iff.1 hj).1; simpa [M4.iv] using this
                    have hadd : (⟨g, 0, none⟩ : Addr).add j = ⟨g, j, none⟩ := by unfold Addr.add; split <;> simp_all
                    rw [hadd, World.ownsRow.cellAt HOA.out j (by omega)]; exact hj
                  clear own3 hgc hov HOA hb4
                  go_wp2_with (at_builtin; refine wpList_append_own _ rfl _ _ 24 rfl w.heap.size 3 i0 (.int .i64 0) 1 8 Try.underlying24 hi hz0 hz1 hz2 rfl (by decide) _ _ _ rfl HO0.out ⟨g, 0, none⟩ r.length c3 (M4.iv r) rfl ?c0 ?c1 ?c2 ?c3 ?c4 ?c5 ?_)
                  case c0 => simp [M4.iv]
                  case c1 => exact HRN.out
                  case c2 => intro u hu; simp only [M4.iv, List.mem_map] at hu; obtain ⟨z, _, rfl⟩ := hu; rfl
                  case c3 => unfold maxLen; omega
                  case c4 => omega
                  case c5 => simp; omega
                  intro v' w5 hown1 hgrow _
                  have R1 : w5.ownsRow w.heap.size 3 1 v' ((i : Int) :: r).length (M4.iv ((i : Int) :: r)) := by
                    rw [List.length_cons, Nat.add_comm r.length 1]; exact hown1
                  have R2 : Below w.heap.size w w5 := HBA.out.grown hgrow (by simp; omega) (fun k hk => (World.ownsRow.lt HO0.out k hk).1)
                  obtain ⟨a5, c5, rfl, _⟩ := M5.own_view R1
                  have HR1 : Hid _ := R1
                  clear hown1 hgrow R1 HO0 HBA HRN
                  go_wp2
                  go_ret2
                  exact ⟨a5, c5, by rw [HP.out, HT.out]; rfl, by rw [HP.out, HT.out]; exact HR1.out, R2⟩
          · have hxb : ((x : Int) == (p : Int)) = false := by rw [beq_eq_false_iff_ne]; omega
            by_cases hyp : y = p
            · have hjn : EG.jn (EG.en xs i) p = some x := by rw [hen, EG.jn, if_neg hxp, if_pos hyp]
              have hyb : ((y : Int) == (p : Int)) = true := by rw [hyp]; simp
              have hnn : decide ((x : Int) < 0) = false := by simp
              clear hxp hyp
              by_cases hci : (i : Int) = came
              · have ES := (EG.rest_skip (xs := xs) (os := os) (b := q) (f := f) (a := p) (came := came) hlj hio (.inr hci)).symm.trans hT.out
                have hcb : ((i : Int) == came) = true := by rw [hci]; simp
                have HEN : Hid _ := hen
                clear HEN hen hjn hio hci HA hR
                have HT : Hid _ := ES
                clear ES hT IH
                go_wp2
                go_roundw
                case rel => exact ⟨j + 1, by go_num, by omega, HT, hb⟩
                case measure => simp [intOf]; omega
              · have hcb : ((i : Int) == came) = false := by rw [beq_eq_false_iff_ne]; exact hci
                have hAc := HA.out.step hlj hio (by omega) hjn hci hx8
                have RC := IH.out (i : Int) x wr hAc (HI.out.below hb) (HS.out.below hb)
                have YES : Hid _ := fun r hr => hT.out.symm.trans (EG.rest_yes (xs := xs) (os := os) (b := q) (f := f) (a := p) (came := came) hlj hio hjn hci (r := r) hr)
                have NO : Hid _ := fun hr => (EG.rest_no (xs := xs) (os := os) (b := q) (f := f) (a := p) (came := came) hlj hio hjn hci hr).symm.trans hT.out
                have hpl := EG.path_len xs os q f (i : Int) x
                have HRC : Hid _ := RC
                clear RC hAc hT hen hjn hio hci IH HA hR HI HS
                go_wp2_with fail
                refine Calls.mono HRC.out ?_
                rintro e w3 ⟨a3, c3, rfl, ho3, hb3⟩
                clear HRC
                cases hres : EG.pathO xs os q f (i : Int) x with
                | none =>
                  rw [hres] at ho3 hpl
                  rw [show (none : Option (List Int)).isSome = false from rfl]
                  have HT : Hid _ := NO.out hres
                  have hb4 := hb.trans (hb3.mono hb.size)
                  clear YES NO ho3 hb3 hb hres hpl
                  go_wp2
                  go_roundw
                  case rel => exact ⟨j + 1, by go_num, by omega, HT, hb4⟩
                  case measure => simp [intOf]; omega
                | some r =>
                  rw [hres] at ho3 hpl
                  rw [show (some r).isSome = true from rfl]
                  have HT : Hid _ := YES.out r hres
                  have hb4 := hb.trans (hb3.mono hb.size)
                  have hbs := hb.size
                  have own3 : w3.ownsRow wr.heap.size 3 1 (.slice a3 r.length c3) r.length (M4.iv r) := ho3
                  have hrl : r.length ≤ f := hpl
                  have hbs4 := hb4.size
                  rw [show EG.oL (some r) = r from rfl]
                  clear YES NO ho3 hb3 hb hres hpl
                  have HO0 : Hid ((w3.alloc (.cells #[.int .i64 (i : Int)] 3)).ownsRow w.heap.size 3 1 (.slice (some ⟨w3.heap.size, 0, none⟩) 1 1) 1 (M4.iv [(i : Int)])) := by
                    show World.ownsRow _ _ _ _ _ _ _
                    have := World.ownsRow_lit (base := w.heap.size) (e := 3) (size := 1) w3 #[.int .i64 (i : Int)] 1 hbs4 (by unfold maxLen; omega) (by simp)
                    simpa [M4.iv] using this
                  have HBA : Hid (Below w.heap.size w (w3.alloc (.cells #[.int .i64 (i : Int)] 3))) := hb4.alloc hbs4 _
                  have HOA : Hid _ := own3.alloc (.cells #[.int .i64 (i : Int)] 3)
                  rcases own3.2 with ⟨hov, hac⟩ | ⟨g, cap, cur, hov, hgb, hgc⟩
                  · have e1 : a3 = none := by simpa using (Value.slice.inj hov).1
                    obtain rfl : r = [] := List.eq_nil_of_length_eq_zero hac
                    have e2 : c3 = 0 := (Value.slice.inj hov).2.2
                    subst e1 e2
                    clear own3 HOA hov hb4
                    go_wp2_with (at_builtin; refine wpList_append_own_none rfl _ _ 24 rfl w.heap.size 3 i0 1 Try.underlying24 hi _ _ _ rfl HO0.out rfl ?_)
                    go_ret2
                    exact ⟨some ⟨w3.heap.size, 0, none⟩, 1, by rw [HP.out, HT.out]; rfl, by rw [HP.out, HT.out]; exact HO0.out, HBA.out⟩
                  · have e1 : a3 = some ⟨g, 0, none⟩ := (Value.slice.inj hov).1
                    subst e1
                    have HRN : Hid (∀ j u, (M4.iv r)[j]? = some u → (w3.alloc (.cells #[.int .i64 (i : Int)] 3)).cell? ((⟨g, 0, none⟩ : Addr).add j) = some u) := fun j u hj => by
                      have hjl : j < r.length := by have := (List.getElem?_eq_some_iff.1 hj).1; simpa [M4.iv] using this
                      have hadd : (⟨g, 0, none⟩ : Addr).add j = ⟨g, j, none⟩ := by unfold Addr.add; split <;> simp_all
                      rw [hadd, World.ownsRow.cellAt HOA.out j (by omega)]; exact hj
                    clear own3 hgc hov HOA hb4
                    go_wp2_with (at_builtin; refine wpList_append_own _ rfl _ _ 24 rfl w.heap.size 3 i0 (.int .i64 0) 1 8 Try.underlying24 hi hz0 hz1 hz2 rfl (by decide) _ _ _ rfl HO0.out ⟨g, 0, none⟩ r.length c3 (M4.iv r) rfl ?c0 ?c1 ?c2 ?c3 ?c4 ?c5 ?_)
                    case c0 => simp [M4.iv]
                    case c1 => exact HRN.out
                    case c2 => intro u hu; simp only [M4.iv, List.mem_map] at hu; obtain ⟨z, _, rfl⟩ := hu; rfl
                    case c3 => unfold maxLen; omega
                    case c4 => omega
                    case c5 => simp; omega
                    intro v' w5 hown1 hgrow _
                    have R1 : w5.ownsRow w.heap.size 3 1 v' ((i : Int) :: r).length (M4.iv ((i : Int) :: r)) := by
                      rw [List.length_cons, Nat.add_comm r.length 1]; exact hown1
                    have R2 : Below w.heap.size w w5 := HBA.out.grown hgrow (by simp; omega) (fun k hk => (World.ownsRow.lt HO0.out k hk).1)
                    obtain ⟨a5, c5, rfl, _⟩ := M5.own_view R1
                    have HR1 : Hid _ := R1
                    clear hown1 hgrow R1 HO0 HBA HRN
                    go_wp2
                    go_ret2
                    exact ⟨a5, c5, by rw [HP.out, HT.out]; rfl, by rw [HP.out, HT.out]; exact HR1.out, R2⟩
            · have hyb : ((y : Int) == (p : Int)) = false := by rw [beq_eq_false_iff_ne]; omega
              have ES := (EG.rest_skip (xs := xs) (os := os) (b := q) (f := f) (a := p) (came := came) hlj hio (.inl (by rw [hen, EG.jn, if_neg hxp, if_neg hyp]))).symm.trans hT.out
              clear hen hio hxp hyp HA hR
              have HT : Hid _ := ES
              clear ES hT IH
              go_wp2
              go_roundw
              case rel => exact ⟨j + 1, by go_num, by omega, HT, hb⟩
              case measure => simp [intOf]; omega
        · obtain rfl : j = os.length := by omega
          have HN : Hid (EG.restO xs os q f came p 0 = none) := hT.out.symm.trans EG.rest_end
          clear HI HS HG hR HA IH hT
          go_wp2
          go_ret2
          exact ⟨none, 0, by rw [HP.out, HN.out]; rfl, by rw [HP.out, HN.out]; exact World.ownsRow_nil _ _ _ _, hb⟩
end Go.Proofs.Ytdglialjcibbbaa
