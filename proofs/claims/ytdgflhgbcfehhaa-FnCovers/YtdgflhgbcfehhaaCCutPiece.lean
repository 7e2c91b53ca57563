/- CutPiece, the specification's and the program's, at any bundle and any number. -/
import Derived.Test.YtdgflhgbcfehhaaRows
import Derived.Test.YtdgflhgbcfehhaaCPiece
import Derived.Test.YtdgflhgbcfehhaaCParcelBundle
import Derived.Test.YtdgflhgbcfehhaaCBundleInfo
import Derived.Test.YtdgflhgbcfehhaaMA2
import Derived.WalkKit
import Derived.WalkSpells
import Derived.WalkLawsBesides
import Derived.Outline
namespace Go.Proofs.Ytdgflhgbcfehhaa
open Go.RowKit
/-- What CutPiece answers. -/
def cutOk (b : Bd) (x : Int) : Bool := PL.pg b && decide (1 ≤ x) && decide (x < b.py.size)
def partB (b : Bd) (x y : Nat) : Bd := ⟨b.fr, b.to, b.gr, b.md, b.no, b.lf, b.hp, b.of + x, b.tl, b.py.extract x y⟩
def cutA (b : Bd) (x : Int) : Bd := if cutOk b x = true then partB b 0 x.toNat else B1.zero
def cutB (b : Bd) (x : Int) : Bd := if cutOk b x = true then partB b x.toNat b.py.size else B1.zero
theorem cut_no {b : Bd} {x : Int} (h : cutOk b x = false) : cutA b x = B1.zero ∧ cutB b x = B1.zero := by simp [cutA, cutB, h]
theorem cut_yes {b : Bd} {n : Nat} (h : cutOk b (n : Int) = true) : cutA b (n : Int) = partB b 0 n ∧ cutB b (n : Int) = partB b n b.py.size := by simp [cutA, cutB, h]
theorem MA.ret_cell3 {P : Program} {fn : Func} {p q u : Tmp} {t t' : TypeId} {tmps : Array Value} {w : World} {v v' x : Value} {k o k' o' : Nat} (h : fn.results = #[.cell p t, .cell q t', .tmp u]) (hp : tmps.getD p undef = .pointer (some ⟨k, o, none⟩)) (hq : tmps.getD q undef = .pointer (some ⟨k', o', none⟩)) (hu : tmps.getD u undef = x) (hl : (loadVar t ⟨k, o, none⟩).run P w = .ok v w) (hl' : (loadVar t' ⟨k', o', none⟩).run P w = .ok v' w) :
    (results fn tmps).run P w = .ok (.tuple #[v, v', x]) w := by
  simp only [results, h]
  rw [Array.getD_eq_getD_getElem?] at hp hq hu
  simp [hp, hq, hu, asAddr, hl, hl']
/-- The two results' cells. -/
structure CutIn (w W : World) (b : Bd) : Prop where
  below : Below w.heap.size w W
  arg : MA.Rg W w.heap.size 0 b.cs
  r1 : ∃ c, c.length = 10 ∧ MA.Rg W (w.heap.size + 1) 0 c
  r2 : ∃ c, c.length = 10 ∧ MA.Rg W (w.heap.size + 1 + 1) 0 c
theorem CutIn.kept {w W W' : World} {b : Bd} (h : CutIn w W b) (hb : Below W.heap.size W W') : CutIn w W' b :=
  ⟨h.below.trans (hb.mono h.below.size), h.arg.below hb h.arg.lt, (let ⟨c, hc, hr⟩ := h.r1; ⟨c, hc, hr.below hb hr.lt⟩), (let ⟨c, hc, hr⟩ := h.r2; ⟨c, hc, hr.below hb hr.lt⟩)⟩
theorem CutIn.store {w W : World} {b : Bd} (h : CutIn w W b) (x y : Bd) :
    (∃ c, c.length = 10 ∧ MA.Rg W (w.heap.size + 1) 0 c) ∧ (∃ c, c.length = 10 ∧ MA.Rg (W.setCells (w.heap.size + 1) 0 x.cs) (w.heap.size + 1 + 1) 0 c) ∧ MA.Rg ((W.setCells (w.heap.size + 1) 0 x.cs).setCells (w.heap.size + 1 + 1) 0 y.cs) (w.heap.size + 1) 0 x.cs ∧ MA.Rg ((W.setCells (w.heap.size + 1) 0 x.cs).setCells (w.heap.size + 1 + 1) 0 y.cs) (w.heap.size + 1 + 1) 0 y.cs ∧ Below w.heap.size w ((W.setCells (w.heap.size + 1) 0 x.cs).setCells (w.heap.size + 1 + 1) 0 y.cs) := by
  obtain ⟨c1, h1, r1⟩ := h.r1
  obtain ⟨c2, h2, r2⟩ := h.r2
  have q1 := r1.put (vs := x.cs) (by rw [h1]; rfl)
  have q2 := r2.other (k' := w.heap.size + 1) (o' := 0) (vs := x.cs) (.inl (by omega))
  exact ⟨⟨c1, h1, r1⟩, ⟨c2, h2, q2⟩, q1.other (.inl (by omega)), q2.put (by rw [h2]; rfl), MA.below_cells (by omega) _ _ _ (MA.below_cells (by omega) _ _ _ h.below)⟩
theorem cut_start (w : World) (b : Bd) : CutIn w (((w.alloc (.cells b.cs.toArray 24)).alloc (.cells (Bd.cs B1.zero).toArray 24)).alloc (.cells (Bd.cs B1.zero).toArray 24)) b :=
  ⟨(((Below.refl _ w).alloc (Nat.le_refl _) _).alloc (by simp) _).alloc (by simp; omega) _, ((MA.Rg.new w b.cs 24).alloc _).alloc _, ⟨_, rfl, (MA.Rg.new' (w.alloc (.cells b.cs.toArray 24)) (Bd.cs B1.zero) 24 (w.heap.size + 1) (by simp)).alloc _⟩, ⟨_, rfl, MA.Rg.new' ((w.alloc (.cells b.cs.toArray 24)).alloc (.cells (Bd.cs B1.zero).toArray 24)) (Bd.cs B1.zero) 24 (w.heap.size + 1 + 1) (by simp)⟩⟩
theorem MR.evN (a : Act) (v : Value) (x : Operand) : (a.put none v).eval x = a.eval x := rfl
theorem CutIn.set {w W : World} {b : Bd} (h : CutIn w W b) (q j : Nat) (v : Value) (hq : w.heap.size + 1 + 1 < q) : CutIn w (W.setCell ⟨q, j, none⟩ v) b :=
  ⟨h.below.setCell (p := ⟨q, j, none⟩) (by simp; omega) v, h.arg.other (k' := q) (o' := j) (vs := [v]) (.inl (by omega)), (let ⟨c, hc, hr⟩ := h.r1; ⟨c, hc, hr.other (k' := q) (o' := j) (vs := [v]) (.inl (by omega))⟩), (let ⟨c, hc, hr⟩ := h.r2; ⟨c, hc, hr.other (k' := q) (o' := j) (vs := [v]) (.inl (by omega))⟩)⟩
theorem cell9 {W : World} {k : Nat} {x : Bd} (h : MA.Rg W k 0 x.cs) : W.cell? ⟨k, 9, none⟩ = some (.string x.py) := by have := h.cell (j := 9) (v := .string x.py) rfl; rwa [Nat.zero_add] at this
theorem cell7 {W : World} {k : Nat} {x : Bd} (h : MA.Rg W k 0 x.cs) : W.cell? ⟨k, 7, none⟩ = some (.int .i64 x.of) := by have := h.cell (j := 7) (v := .int .i64 x.of) rfl; rwa [Nat.zero_add] at this
theorem free9 {W : World} {k : Nat} {x : Bd} (h : MA.Rg W k 0 x.cs) : W.frozen? ⟨k, 9, none⟩ = false := by have := h.free (j := 9) (by simp [Bd.cs]); rwa [Nat.zero_add] at this
theorem free7 {W : World} {k : Nat} {x : Bd} (h : MA.Rg W k 0 x.cs) : W.frozen? ⟨k, 7, none⟩ = false := by have := h.free (j := 7) (by simp [Bd.cs]); rwa [Nat.zero_add] at this
theorem new_bd (W : World) (x : Bd) (t : TypeId) : Below W.heap.size W ((W.alloc (.cells (Bd.cs B1.zero).toArray t)).setCells W.heap.size 0 x.cs) ∧ MA.Rg ((W.alloc (.cells (Bd.cs B1.zero).toArray t)).setCells W.heap.size 0 x.cs) W.heap.size 0 x.cs :=
  ⟨MA.below_cells (Nat.le_refl _) _ _ _ ((Below.refl _ W).alloc (Nat.le_refl _) _), (MA.Rg.new W (Bd.cs B1.zero) t).put rfl⟩
set_option linter.unusedSimpArgs false in
set_option maxHeartbeats 1600000 in
set_option maxRecDepth 100000 in
theorem specCut_any (b : Bd) (x : Int) (w : World) (hs : b.py.size ≤ 1048576) :
    Calls Try.prog 15 #[.agg b.cs.toArray, .int .i64 x] w fun e w' => e = .returned (.tuple #[.agg (cutA b x).cs.toArray, .agg (cutB b x).cs.toArray, .bool (cutOk b x)]) ∧ Below w.heap.size w w' := by
  have SG : Hid (∀ W : World, Calls Try.prog 36 #[.agg b.cs.toArray] W fun e w' => e = .returned (.bool (B1.good b)) ∧ Below W.heap.size W w') := fun W => specGoodBundle_any b W hs _ rfl
  have HI : Hid _ := cut_start w b
  have HR0 : Hid _ := HI.out.arg.rng
  go_enter Try.func15, Try.ntmps15
  go_wp2_with (first
    | (refine MA.alloc_z rfl 24 rfl _ _ Try.infoBundle ?_; simp only [MA.sz_alloc])
    | (refine MA.load_r rfl 24 _ rfl rfl (cs := b.cs) ?_ Try.underlying24 rfl Try.sizeBundle rfl ?_; exact HR0.out))
  refine (SG.out _).mono ?_
  rintro e w1 ⟨rfl, hb1⟩
  have hI := HI.out.kept hb1
  have c8 : w1.cell? ⟨w.heap.size, 8, none⟩ = some (.int .i64 b.tl) := by have := hI.arg.cell (j := 8) (v := .int .i64 b.tl) rfl; rwa [Nat.zero_add] at this
  have c9 : w1.cell? ⟨w.heap.size, 9, none⟩ = some (.string b.py) := by have := hI.arg.cell (j := 9) (v := .string b.py) rfl; rwa [Nat.zero_add] at this
  clear SG HI HR0 hb1
  have HII : Hid _ := hI
  clear hI
  cases hg : B1.good b with
  | false =>
    have hok : Hid (cutOk b x = false) := by simp [Hid, cutOk, PL.pg, hg]
    clear hg
    obtain ⟨s1, s2, s3, s4, s5⟩ := HII.out.store B1.zero B1.zero
    have S1 : Hid _ := s1
    have S2 : Hid _ := s2
    have S3 : Hid _ := s3
    have S4 : Hid _ := s4
    have S5 : Hid _ := s5
    clear s1 s2 s3 s4 s5
    obtain ⟨k1, m1, S1⟩ := S1.out
    obtain ⟨k2, m2, S2⟩ := S2.out
    have S1 : Hid _ := S1
    have S2 : Hid _ := S2
    have M1 : Hid _ := m1
    have M2 : Hid _ := m2
    clear m1 m2
    go_wp2_with (first
      | (refine MA.store_m rfl 24 _ _ rfl rfl rfl (vs := Bd.cs B1.zero) (cs := k1) ?_ Try.sizeBundle M1.out rfl (MA.cs_one _) ?_; exact S1.out; clear S1; generalize World.setCells w1 (w.heap.size + 1) 0 (Bd.cs B1.zero) = Wa at *)
      | (refine MA.store_m rfl 24 _ _ rfl rfl rfl (vs := Bd.cs B1.zero) (cs := k2) ?_ Try.sizeBundle M2.out rfl (MA.cs_one _) ?_; exact S2.out))
    exact bodyPost_ret (MA.ret_cell3 rfl rfl rfl rfl (MA.load_rg S3.out Try.underlying24 rfl Try.sizeBundle rfl) (MA.load_rg S4.out Try.underlying24 rfl Try.sizeBundle rfl)) rfl ⟨by rw [hok.out, (cut_no hok.out).1, (cut_no hok.out).2]; rfl, S5.out⟩
  | true =>
    by_cases h0 : b.tl = 0
    · have hok : Hid (cutOk b x = false) := by simp [Hid, cutOk, PL.pg, h0]
      clear hg
      obtain ⟨s1, s2, s3, s4, s5⟩ := HII.out.store B1.zero B1.zero
      have S1 : Hid _ := s1
      have S2 : Hid _ := s2
      have S3 : Hid _ := s3
      have S4 : Hid _ := s4
      have S5 : Hid _ := s5
      clear s1 s2 s3 s4 s5
      obtain ⟨k1, m1, S1⟩ := S1.out
      obtain ⟨k2, m2, S2⟩ := S2.out
      have S1 : Hid _ := S1
      have S2 : Hid _ := S2
      have M1 : Hid _ := m1
      have M2 : Hid _ := m2
      clear m1 m2
      go_wp2_with (first
        | (refine MA.store_m rfl 24 _ _ rfl rfl rfl (vs := Bd.cs B1.zero) (cs := k1) ?_ Try.sizeBundle M1.out rfl (MA.cs_one _) ?_; exact S1.out; clear S1; generalize World.setCells w1 (w.heap.size + 1) 0 (Bd.cs B1.zero) = Wa at *)
        | (refine MA.store_m rfl 24 _ _ rfl rfl rfl (vs := Bd.cs B1.zero) (cs := k2) ?_ Try.sizeBundle M2.out rfl (MA.cs_one _) ?_; exact S2.out))
      exact bodyPost_ret (MA.ret_cell3 rfl rfl rfl rfl (MA.load_rg S3.out Try.underlying24 rfl Try.sizeBundle rfl) (MA.load_rg S4.out Try.underlying24 rfl Try.sizeBundle rfl)) rfl ⟨by rw [hok.out, (cut_no hok.out).1, (cut_no hok.out).2]; rfl, S5.out⟩
    · by_cases h1 : x < 1
      · have hok : Hid (cutOk b x = false) := by show _ = _; unfold cutOk; rw [decide_eq_false (show ¬ 1 ≤ x by omega)]; simp
        clear hg
        obtain ⟨s1, s2, s3, s4, s5⟩ := HII.out.store B1.zero B1.zero
        have S1 : Hid _ := s1
        have S2 : Hid _ := s2
        have S3 : Hid _ := s3
        have S4 : Hid _ := s4
        have S5 : Hid _ := s5
        clear s1 s2 s3 s4 s5
        obtain ⟨k1, m1, S1⟩ := S1.out
        obtain ⟨k2, m2, S2⟩ := S2.out
        have S1 : Hid _ := S1
        have S2 : Hid _ := S2
        have M1 : Hid _ := m1
        have M2 : Hid _ := m2
        clear m1 m2
        go_wp2_with (first
          | (refine MA.store_m rfl 24 _ _ rfl rfl rfl (vs := Bd.cs B1.zero) (cs := k1) ?_ Try.sizeBundle M1.out rfl (MA.cs_one _) ?_; exact S1.out; clear S1; generalize World.setCells w1 (w.heap.size + 1) 0 (Bd.cs B1.zero) = Wa at *)
          | (refine MA.store_m rfl 24 _ _ rfl rfl rfl (vs := Bd.cs B1.zero) (cs := k2) ?_ Try.sizeBundle M2.out rfl (MA.cs_one _) ?_; exact S2.out))
        exact bodyPost_ret (MA.ret_cell3 rfl rfl rfl rfl (MA.load_rg S3.out Try.underlying24 rfl Try.sizeBundle rfl) (MA.load_rg S4.out Try.underlying24 rfl Try.sizeBundle rfl)) rfl ⟨by rw [hok.out, (cut_no hok.out).1, (cut_no hok.out).2]; rfl, S5.out⟩
      · by_cases h2 : x < (b.py.size : Int)
        · obtain ⟨n, rfl⟩ := Int.eq_ofNat_of_zero_le (show 0 ≤ x by omega)
          have hpg : PL.pg b = true := by simp [PL.pg, hg, h0]
          obtain ⟨_, q1, q2, q3, q4, q5⟩ := PL.pg_is hpg
          have hok : Hid (cutOk b (n : Int) = true) := by show _ = _; unfold cutOk; rw [hpg, decide_eq_true (show (1 : Int) ≤ (n : Int) by omega), decide_eq_true h2]; rfl
          have hn1 : n ≤ b.py.size := by omega
          have h0b : (b.tl == 0) = false := by simp [h0]
          have h1b : decide ((n : Int) < 1) = false := decide_eq_false h1
          have h2b : decide (b.py.size ≤ n) = false := decide_eq_false (by omega)
          have h2c : decide ((b.py.size : Int) ≤ (n : Int)) = false := decide_eq_false (by omega)
          clear hg hpg h0 h1
          have hw2 : w.heap.size + 1 + 1 < w1.heap.size := (let ⟨_, _, hr⟩ := HII.out.r2; hr.lt)
          have HX : Hid _ := new_bd w1 b 24
          have HRN : Hid _ := MA.Rg.new w1 (Bd.cs B1.zero) 24
          have HR0 : Hid _ := HII.out.arg.rng
          go_wp2_with (first
            | (refine MA.load_r rfl 24 _ rfl rfl (cs := b.cs) ?_ Try.underlying24 rfl Try.sizeBundle rfl ?_; exact HR0.out)
            | (refine MA.alloc_z rfl 24 rfl _ _ Try.infoBundle ?_; simp only [MA.sz_alloc])
            | (refine MA.store_m rfl 24 _ _ rfl rfl rfl (vs := b.cs) (cs := Bd.cs B1.zero) ?_ Try.sizeBundle rfl rfl (MA.cs_one _) ?_; exact HRN.out; clear HRN HR0; generalize World.setCells _ _ _ _ = Wx at *; replace HII : Hid _ := HII.out.kept HX.out.1; have HR0 : Hid _ := HII.out.arg.rng; have HRX : Hid _ := HX.out.2; clear HX; have HRN2 : Hid _ := MA.Rg.new Wx (Bd.cs B1.zero) 24; have HX2 : Hid _ := new_bd Wx b 24)
            | (refine MA.store_m rfl 24 _ _ rfl rfl rfl (vs := b.cs) (cs := Bd.cs B1.zero) ?_ Try.sizeBundle rfl rfl (MA.cs_one _) ?_; exact HRN2.out; clear HRN2 HR0; generalize World.setCells _ _ _ _ = Wy at *; replace HII : Hid _ := HII.out.kept HX2.out.1; have hxy : w1.heap.size < Wx.heap.size := HRX.out.lt; have rx := HRX.out.below HX2.out.1 HRX.out.lt; have ry := HX2.out.2; have HRXY : Hid _ := And.intro rx ry; clear HRX HX2; have cx9 : Wy.cell? ⟨w1.heap.size, 9, none⟩ = some (.string b.py) := cell9 rx; have fx9 : Wy.frozen? ⟨w1.heap.size, 9, none⟩ = false := free9 rx; have cy9 : Wy.cell? ⟨Wx.heap.size, 9, none⟩ = some (.string b.py) := cell9 ry; have fy9 : Wy.frozen? ⟨Wx.heap.size, 9, none⟩ = false := free9 ry; have cy7 : Wy.cell? ⟨Wx.heap.size, 7, none⟩ = some (.int .i64 b.of) := cell7 ry; have fy7 : Wy.frozen? ⟨Wx.heap.size, 7, none⟩ = false := free7 ry; have cb9 : Wy.cell? ⟨w.heap.size, 9, none⟩ = some (.string b.py) := cell9 HII.out.arg; generalize Wx.heap.size = qy at *; generalize w1.heap.size = qx at *; clear rx ry))
          obtain ⟨rx, ry⟩ := HRXY.out
          have rx2 := rx.put1 (j := 9) (by simp [Bd.cs]) (.string (b.py.extract 0 n))
          have ry2 := (ry.other (k' := qx) (o' := 9) (vs := [.string (b.py.extract 0 n)]) (.inl (by omega))).put1 (j := 9) (by simp [Bd.cs]) (.string (b.py.extract n b.py.size))
          have ry3 := ry2.put1 (j := 7) (by simp [Bd.cs]) (.int .i64 (b.of + (n : Int)))
          have rx3 := (rx2.other (k' := qy) (o' := 9) (vs := [.string (b.py.extract n b.py.size)]) (.inl (by omega))).other (k' := qy) (o' := 7) (vs := [.int .i64 (b.of + (n : Int))]) (.inl (by omega))
          have eA : b.cs.set 9 (.string (b.py.extract 0 n)) = (partB b 0 n).cs := by simp [Bd.cs, partB]
          have eB : (b.cs.set 9 (.string (b.py.extract n b.py.size))).set 7 (.int .i64 (b.of + (n : Int))) = (partB b n b.py.size).cs := by simp [Bd.cs, partB]
          rw [eA] at rx3
          rw [eB] at ry3
          have hIz : CutIn w (((Wy.setCell ⟨qx, 9, none⟩ (.string (b.py.extract 0 n))).setCell ⟨qy, 9, none⟩ (.string (b.py.extract n b.py.size))).setCell ⟨qy, 7, none⟩ (.int .i64 (b.of + (n : Int)))) b := (((HII.out.set qx 9 (.string (b.py.extract 0 n)) (by omega)).set qy 9 (.string (b.py.extract n b.py.size)) (by omega)).set qy 7 (.int .i64 (b.of + (n : Int))) (by omega))
          simp only [Nat.zero_add] at rx3 ry3
          have HRX3 : Hid (MA.Rg (((Wy.setCell ⟨qx, 9, none⟩ (.string (b.py.extract 0 n))).setCell ⟨qy, 9, none⟩ (.string (b.py.extract n b.py.size))).setCell ⟨qy, 7, none⟩ (.int .i64 (b.of + (n : Int)))) qx 0 (partB b 0 n).cs) := rx3
          have HRY3 : Hid (MA.Rg (((Wy.setCell ⟨qx, 9, none⟩ (.string (b.py.extract 0 n))).setCell ⟨qy, 9, none⟩ (.string (b.py.extract n b.py.size))).setCell ⟨qy, 7, none⟩ (.int .i64 (b.of + (n : Int)))) qy 0 (partB b n b.py.size).cs) := ry3
          clear rx ry rx2 ry2 rx3 ry3 eA eB HII HRXY cx9 fx9 cy9 fy9 cy7 fy7 cb9 c8 c9
          generalize World.setCell _ _ _ = Wz at *
          have hIz2 := hIz.kept ((Below.refl _ Wz).drew)
          obtain ⟨s1, s2, s3, s4, s5⟩ := hIz2.store (partB b 0 n) (partB b n b.py.size)
          have hok1 : Wz.drew.there (w.heap.size + 1) 0 10 := by obtain ⟨c, hc, hr⟩ := s1; have := hr.ok; rwa [hc] at this
          have hok2 : (Wz.drew.setCells (w.heap.size + 1) 0 (partB b 0 n).cs).there (w.heap.size + 1 + 1) 0 10 := by obtain ⟨c, hc, hr⟩ := s2; have := hr.ok; rwa [hc] at this
          have rX := HRX3.out.drew
          have rY := HRY3.out.drew
          have hS0 : (fun w' : World => w'.rangeAt qx 0 (partB b 0 n).cs ∧ w'.rangeAt qy 0 (partB b n b.py.size).cs ∧ (w' = Wz.drew ∨ w' = Wz.drew.setCells (w.heap.size + 1) 0 (partB b 0 n).cs ∨ w' = (Wz.drew.setCells (w.heap.size + 1) 0 (partB b 0 n).cs).setCells (w.heap.size + 1 + 1) 0 (partB b n b.py.size).cs)) Wz.drew := ⟨rX.rng, rY.rng, .inl rfl⟩
          have hS2 : (fun w' : World => w'.rangeAt qx 0 (partB b 0 n).cs ∧ w'.rangeAt qy 0 (partB b n b.py.size).cs ∧ (w' = Wz.drew ∨ w' = Wz.drew.setCells (w.heap.size + 1) 0 (partB b 0 n).cs ∨ w' = (Wz.drew.setCells (w.heap.size + 1) 0 (partB b 0 n).cs).setCells (w.heap.size + 1 + 1) 0 (partB b n b.py.size).cs)) (Wz.drew.setCells (w.heap.size + 1) 0 (partB b 0 n).cs) := ⟨(rX.other (.inl (by omega))).rng, (rY.other (.inl (by omega))).rng, .inr (.inl rfl)⟩
          have hS3 : (fun w' : World => w'.rangeAt qx 0 (partB b 0 n).cs ∧ w'.rangeAt qy 0 (partB b n b.py.size).cs ∧ (w' = Wz.drew ∨ w' = Wz.drew.setCells (w.heap.size + 1) 0 (partB b 0 n).cs ∨ w' = (Wz.drew.setCells (w.heap.size + 1) 0 (partB b 0 n).cs).setCells (w.heap.size + 1 + 1) 0 (partB b n b.py.size).cs)) ((Wz.drew.setCells (w.heap.size + 1) 0 (partB b 0 n).cs).setCells (w.heap.size + 1 + 1) 0 (partB b n b.py.size).cs) := ⟨((rX.other (.inl (by omega))).other (.inl (by omega))).rng, ((rY.other (.inl (by omega))).other (.inl (by omega))).rng, .inr (.inr rfl)⟩
          clear rX rY s1 s2 hIz hIz2 HRX3 HRY3
          refine MR.frame fun A hA => ?_
          have hsz : A.tmps.size = 49 := by rw [hA]; rfl
          have e4 : A.eval (.tmp 4) = .pointer (some ⟨w.heap.size + 1, 0, none⟩) := by rw [hA]; rfl
          have f4 := MR.read (t := 4) (by rw [hsz]; decide) e4
          have e5 : A.eval (.tmp 5) = .pointer (some ⟨w.heap.size + 1 + 1, 0, none⟩) := by rw [hA]; rfl
          have f5 := MR.read (t := 5) (by rw [hsz]; decide) e5
          have e7 : A.eval (.tmp 7) = .pointer (some ⟨qx, 0, none⟩) := by rw [hA]; rfl
          have f7 := MR.read (t := 7) (by rw [hsz]; decide) e7
          have e8 : A.eval (.tmp 8) = .pointer (some ⟨qy, 0, none⟩) := by rw [hA]; rfl
          have f8 := MR.read (t := 8) (by rw [hsz]; decide) e8
          have HA : Hid (A = _) := hA
          clear hA
          have hS : (fun w' : World => w'.rangeAt qx 0 (partB b 0 n).cs ∧ w'.rangeAt qy 0 (partB b n b.py.size).cs ∧ (w' = Wz.drew ∨ w' = Wz.drew.setCells (w.heap.size + 1) 0 (partB b 0 n).cs ∨ w' = (Wz.drew.setCells (w.heap.size + 1) 0 (partB b 0 n).cs).setCells (w.heap.size + 1 + 1) 0 (partB b n b.py.size).cs)) (World.drew _) := hS0
          refine wp_region_held (S := fun w' : World => w'.rangeAt qx 0 (partB b 0 n).cs ∧ w'.rangeAt qy 0 (partB b n b.py.size).cs ∧ (w' = Wz.drew ∨ w' = Wz.drew.setCells (w.heap.size + 1) 0 (partB b 0 n).cs ∨ w' = (Wz.drew.setCells (w.heap.size + 1) 0 (partB b 0 n).cs).setCells (w.heap.size + 1 + 1) 0 (partB b n b.py.size).cs)) (by kernel_rfl) ?_
          change wpAnyH _ _ _ _ _ _ _ _ (World.drew _)
          refine MR.takeH (i := 0) (some 47) (.agg (partB b 0 n).cs.toArray) rfl rfl (by kernel_rfl) (by kernel_rfl) (by kernel_rfl) (fun _ _ _ h => h) hS (MR.free rfl) (fun w hw => MA.ex_load rfl (by simp [MR.ev, MR.evN, MR.size, hsz, e4, f4, e5, f5, e7, f7, e8, f8]) hw.1 Try.underlying24 rfl Try.sizeBundle rfl) ?_
          refine MR.takeH (i := 1) (some 48) (.agg (partB b n b.py.size).cs.toArray) rfl rfl (by kernel_rfl) (by kernel_rfl) (by kernel_rfl) (fun _ _ _ h => h) hS (MR.free rfl) (fun w hw => MA.ex_load rfl (by simp [MR.ev, MR.evN, MR.size, hsz, e4, f4, e5, f5, e7, f7, e8, f8]) hw.2.1 Try.underlying24 rfl Try.sizeBundle rfl) ?_
          refine MR.storeH (i := 2) (by kernel_rfl) rfl (MR.free rfl) (MA.ex_store rfl (b := w.heap.size + 1) (o := 0) (vs := (partB b 0 n).cs) (by simp [MR.ev, MR.evN, MR.size, hsz, e4, f4, e5, f5, e7, f7, e8, f8]) (by simp [MR.ev, MR.evN, MR.size, hsz, e4, f4, e5, f5, e7, f7, e8, f8]) hok1 Try.sizeBundle rfl (MA.cs_one _)) ⟨hS2, ?_⟩
          refine MR.storeH (i := 3) (by kernel_rfl) rfl (MR.free rfl) (MA.ex_store rfl (b := w.heap.size + 1 + 1) (o := 0) (vs := (partB b n b.py.size).cs) (by simp [MR.ev, MR.evN, MR.size, hsz, e4, f4, e5, f5, e7, f7, e8, f8]) (by simp [MR.ev, MR.evN, MR.size, hsz, e4, f4, e5, f5, e7, f7, e8, f8]) hok2 Try.sizeBundle rfl (MA.cs_one _)) ⟨hS3, ?_⟩
          refine MR.takeH (i := 4) (some 6) (.bool true) rfl rfl (by kernel_rfl) (by kernel_rfl) (by kernel_rfl) (fun _ _ _ h => h) hS3 (MR.free rfl) (fun wq hw => by simp [execOp, MR.ev, MR.evN, MR.size, hsz, e4, f4, e5, f5, e7, f7, e8, f8, go_sem]) ?_
          refine wpAnyH_done (by kernel_rfl) ?_ _
          rw [HA.out]
          clear hS hS0 hS2 hS3 HA e4 e5 e7 e8 f4 f5 f7 f8 hsz
          have hl3 := MA.load_rg (P := Try.prog) s3 Try.underlying24 rfl Try.sizeBundle rfl
          have hl4 := MA.load_rg (P := Try.prog) s4 Try.underlying24 rfl Try.sizeBundle rfl
          have HL3 : Hid _ := hl3
          have HL4 : Hid _ := hl4
          have HS5 : Hid _ := s5
          clear hl3 hl4 s3 s4 s5 hok1 hok2
          simp only [Act.put, List.setIfInBounds_toArray, List.set_cons_succ, List.set_cons_zero]
          generalize World.setCells _ (w.heap.size + 1 + 1) _ _ = Wq at *
          go_wp2
          exact bodyPost_ret (MA.ret_cell3 rfl rfl rfl rfl HL3.out HL4.out) rfl ⟨by rw [hok.out, (cut_yes hok.out).1, (cut_yes hok.out).2]; rfl, HS5.out⟩
        · have hok : Hid (cutOk b x = false) := by show _ = _; unfold cutOk; rw [decide_eq_false h2]; simp
          clear hg
          obtain ⟨s1, s2, s3, s4, s5⟩ := HII.out.store B1.zero B1.zero
          have S1 : Hid _ := s1
          have S2 : Hid _ := s2
          have S3 : Hid _ := s3
          have S4 : Hid _ := s4
          have S5 : Hid _ := s5
          clear s1 s2 s3 s4 s5
          obtain ⟨k1, m1, S1⟩ := S1.out
          obtain ⟨k2, m2, S2⟩ := S2.out
          have S1 : Hid _ := S1
          have S2 : Hid _ := S2
          have M1 : Hid _ := m1
          have M2 : Hid _ := m2
          clear m1 m2
          go_wp2_with (first
            | (refine MA.store_m rfl 24 _ _ rfl rfl rfl (vs := Bd.cs B1.zero) (cs := k1) ?_ Try.sizeBundle M1.out rfl (MA.cs_one _) ?_; exact S1.out; clear S1; generalize World.setCells w1 (w.heap.size + 1) 0 (Bd.cs B1.zero) = Wa at *)
            | (refine MA.store_m rfl 24 _ _ rfl rfl rfl (vs := Bd.cs B1.zero) (cs := k2) ?_ Try.sizeBundle M2.out rfl (MA.cs_one _) ?_; exact S2.out))
          exact bodyPost_ret (MA.ret_cell3 rfl rfl rfl rfl (MA.load_rg S3.out Try.underlying24 rfl Try.sizeBundle rfl) (MA.load_rg S4.out Try.underlying24 rfl Try.sizeBundle rfl)) rfl ⟨by rw [hok.out, (cut_no hok.out).1, (cut_no hok.out).2]; rfl, S5.out⟩
end Go.Proofs.Ytdgflhgbcfehhaa
