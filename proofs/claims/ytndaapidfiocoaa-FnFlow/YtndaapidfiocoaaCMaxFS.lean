/- MaxFlow of the specification. -/
import Derived.Test.YtndaapidfiocoaaRows
import Derived.Test.YtndaapidfiocoaaMFM
import Derived.Test.YtndaapidfiocoaaCMaxS
import Derived.Test.YtndaapidfiocoaaCOut
import Derived.Test.YtndaapidfiocoaaCAsk
import Derived.WalkKit
import Derived.WalkSpells
import Derived.WalkLawsBesides
import Derived.Outline
namespace Go.Proofs.Ytndaapidfiocoaa
open Go.RowKit
set_option linter.unusedSimpArgs false in
set_option maxHeartbeats 1600000 in
set_option maxRecDepth 100000 in
theorem specMaxFlow_any (a : Option Addr) (ca : Nat) (xs : List I3) (f t : Int) (w : World) (hn : xs.length ≤ 1048576) (hin : MI3.RowAt w a xs) :
    Calls Try.prog 7 #[.slice a xs.length ca, .int .i64 f, .int .i64 t] w fun e w' => ∃ a1 c1, e = .returned (.tuple #[.slice a1 (FL.mxL xs f t).length c1, .int .i64 (FL.mxN xs f t), .bool (FL.ask xs f t)]) ∧ w'.ownsRow w.heap.size 3 1 (.slice a1 (FL.mxL xs f t).length c1) (FL.mxL xs f t).length (M4.iv (FL.mxL xs f t)) ∧ Below w.heap.size w w' := by
  have MC : Hid _ := FL.mxC xs f t
  have AK : Hid _ := l8Ask_any a ca xs f t w hn hin _ rfl
  have HI : Hid (MI3.RowAt w a xs) := hin
  have MX : Hid (FL.ask xs f t = true → ∀ W : World, MI3.RowAt W a xs → Calls Try.prog 30 #[.slice a xs.length ca, .int .i64 f, .int .i64 t] W fun e w' => ∃ a1 c1, e = .returned (.slice a1 xs.length c1) ∧ w'.ownsRow W.heap.size 3 1 (.slice a1 xs.length c1) xs.length (M4.iv (FL.maxF xs f t)) ∧ Below W.heap.size W w') := fun h W h1 => l8Max_any a ca xs f t W (FL.ask_is h) h1
  have OU : Hid (FL.ask xs f t = true → ∀ (W : World) (v : Option Addr) (cv : Nat), MI3.RowAt W a xs → M4.IntsAt W v (FL.maxF xs f t) → Calls Try.prog 31 #[.slice a xs.length ca, .slice v xs.length cv, .int .i64 f] W fun e w' => e = .returned (.int .i64 (FL.outUp xs (FL.maxF xs f t) f xs.length)) ∧ Below W.heap.size W w') := fun h W v cv h1 h2 => by
    have A := FL.ask_is h
    have o := FL.maxF_ok A
    have := l8Out_any a v ca cv xs (FL.maxF xs f t) f W A.ok o.1 o.2 h1 h2 _ rfl
    rwa [o.1] at this
  generalize FL.mxL xs f t = L at *
  generalize FL.mxN xs f t = N at *
  generalize FL.maxF xs f t = F at *
  generalize FL.ask xs f t = is at *
  clear hin
  go_enter Try.func7, Try.ntmps7
  go_wp2_with fail
  refine Calls.mono AK.out ?_
  rintro e w0 ⟨rfl, hb0⟩
  clear AK
  cases is with
  | false =>
    obtain ⟨h1, h2⟩ := MC.out.no rfl
    clear MC MX OU HI
    subst h1 h2
    go_wp2
    go_ret3
    exact ⟨none, 0, rfl, World.ownsRow_nil _ _ _ _, hb0⟩
  | true =>
    obtain ⟨h1, h2⟩ := MC.out.yes rfl
    have MX2 : Hid _ := MX.out rfl w0 (HI.out.below hb0)
    have OU2 : Hid _ := OU.out rfl
    subst h2
    clear MC MX OU
    go_wp2_with fail
    refine Calls.mono MX2.out ?_
    rintro e w1 ⟨a1, c1, rfl, ho, hb1⟩
    have hB1 := hb0.trans (hb1.mono hb0.size)
    have hlen : L.length = xs.length := by have := ho.1; simpa [M4.iv] using this
    have HLE : Hid _ := hlen
    have HO1 : Hid (w1.ownsRow w.heap.size 3 1 (.slice a1 xs.length c1) xs.length (M4.iv L)) := FL.own_base ho hb0.size
    have OU3 : Hid _ := OU2.out w1 a1 c1 (HI.out.below hB1) (M5.own_ints ho)
    clear MX2 OU2 ho hlen HI hb0 hb1
    generalize hN : FL.outUp xs L f xs.length = N2 at *
    clear hN
    subst h1
    go_wp2_with fail
    refine Calls.mono OU3.out ?_
    rintro e w2 ⟨rfl, hb2⟩
    clear OU3
    go_wp2
    go_ret3
    exact ⟨a1, c1, by rw [HLE.out]; rfl, by rw [HLE.out]; exact M5.own_below HO1.out hb2, hB1.trans (hb2.mono hB1.size)⟩
end Go.Proofs.Ytndaapidfiocoaa
