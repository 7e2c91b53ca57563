/- Plain facts: numbers come back from their bytes, and bytes that are read come back from their numbers. No program is named here. -/
import Derived.Test.YtapojeehidhhnaaM5
import Derived.Test.YtapojeehidhhnaaSlF
import Derived.Lib.Strings
namespace Go.Proofs.Ytapojeehidhhnaa
namespace MSd
/-- The bytes l stand from i on. -/
def Seg (g : Nat → Nat) (i : Nat) (l : List UInt8) : Prop := ∀ j, j < l.length → g (i + j) = (l.getD j 0).toNat
theorem seg_app {g : Nat → Nat} {i : Nat} {a b : List UInt8} : Seg g i (a ++ b) ↔ Seg g i a ∧ Seg g (i + a.length) b := by
  constructor
  · intro h
    refine ⟨fun j hj => ?_, fun j hj => ?_⟩
    · have := h j (by simp; omega)
      rw [this]; simp [List.getD_eq_getElem?_getD, List.getElem?_append_left hj]
    · have := h (a.length + j) (by simp; omega)
      rw [Nat.add_assoc, this]
      simp [List.getD_eq_getElem?_getD, List.getElem?_append_right (Nat.le_add_right _ _)]
  · rintro ⟨h1, h2⟩ j hj
    by_cases hl : j < a.length
    · rw [h1 j hl]; simp [List.getD_eq_getElem?_getD, List.getElem?_append_left hl]
    · have := h2 (j - a.length) (by simp at hj; omega)
      rw [show i + a.length + (j - a.length) = i + j from by omega] at this
      rw [this]; simp [List.getD_eq_getElem?_getD, List.getElem?_append_right (Nat.le_of_not_lt hl)]
theorem seg_nil {g : Nat → Nat} {i : Nat} : Seg g i [] := fun j hj => by simp at hj
theorem seg_one {g : Nat → Nat} {i : Nat} {c : UInt8} : Seg g i [c] ↔ g i = c.toNat := by
  constructor
  · intro h; have := h 0 (by simp); simpa using this
  · intro h j hj
    have : j = 0 := by simp at hj; omega
    subst this; simpa using h
theorem ofNat_toNat (n : Nat) (h : n < 256) : (UInt8.ofNat n).toNat = n := M1.byte_nat n h
/-- The marked sevens are read. -/
theorem read_hi (g : Nat → Nat) (len : Nat) : ∀ (q i : Nat), q ≤ 1000000000 → Seg g i (M1.hi7 q) → i + (M1.hi7 q).length ≤ len → M3.tkI g len i 0 = M3.tkI g len (i + (M1.hi7 q).length) q := by
  intro q
  induction q using Nat.strongRecOn with
  | ind q ih =>
    intro i hq hs hl
    by_cases h0 : q = 0
    · subst h0; simp [M1.hi7_zero]
    · rw [M1.hi7_pos q h0] at hs hl ⊢
      obtain ⟨h1, h2⟩ := seg_app.1 hs
      rw [seg_one, ofNat_toNat _ (by omega)] at h2
      have hl' : i + (M1.hi7 (q / 128)).length + 1 ≤ len := by simp at hl; omega
      rw [ih (q / 128) (by omega) i (by omega) h1 (by omega), M3.tkI, if_pos (by omega), h2]
      have e : q / 128 * 128 + (q % 128 + 128) % 128 = q := by omega
      rw [e, if_neg (by omega), if_neg (by omega)]
      congr 1
      simp; omega
theorem hi_head (q : Nat) (h0 : q ≠ 0) : ∃ c l, M1.hi7 q = c :: l ∧ c.toNat ≠ 128 := by
  induction q using Nat.strongRecOn with
  | ind q ih =>
    rw [M1.hi7_pos q h0]
    by_cases h1 : q / 128 = 0
    · rw [h1, M1.hi7_zero]
      exact ⟨_, _, rfl, by rw [ofNat_toNat _ (by omega)]; omega⟩
    · obtain ⟨c, l, e, hc⟩ := ih (q / 128) (by omega) h1
      exact ⟨c, l ++ [UInt8.ofNat (q % 128 + 128)], by rw [e]; rfl, hc⟩
/-- A number's bytes are read as that number, whatever stands behind. -/
theorem read_one (s : ByteArray) (i m : Nat) (hm : m ≤ 1000000000) (hs : Seg (M3.gb s) i (M1.sdnv m)) (hl : i + (M1.sdnv m).length ≤ s.size) : M5.tk s i = (m, i + (M1.sdnv m).length, true) := by
  have hlen : (M1.sdnv m).length = (M1.hi7 (m / 128)).length + 1 := by simp [M1.sdnv]
  have hlt : i < s.size := by omega
  unfold M5.tk
  rw [← M3.tk_all (M3.gb s) s.size i hlt (M3.gb_lt s i)]
  unfold M1.sdnv at hs
  obtain ⟨h1, h2⟩ := seg_app.1 hs
  rw [seg_one, ofNat_toNat _ (by omega)] at h2
  have hne : M3.gb s i ≠ 128 := by
    by_cases h0 : m / 128 = 0
    · rw [h0, M1.hi7_zero] at h2; simp at h2; omega
    · obtain ⟨c, l, e, hc⟩ := hi_head _ h0
      have := h1 0 (by rw [e]; simp)
      rw [e] at this; simp at this; omega
  rw [if_neg hne, read_hi (M3.gb s) s.size (m / 128) i (by omega) h1 (by omega), M3.tkI, if_pos (by omega), h2]
  have e : m / 128 * 128 + m % 128 % 128 = m := by omega
  rw [e, if_neg (by omega), if_pos (by omega), hlen]
  rfl
theorem sdnv_pos (m : Nat) : 0 < (M1.sdnv m).length := by simp [M1.sdnv]
/-- A row of numbers' bytes are read as these numbers. -/
theorem read_all (s : ByteArray) (l : List Int) : ∀ (f k : Nat) (acc : List Int), l.all okN = true → Seg (M3.gb s) k (sl l) → k + (sl l).length = s.size → l.length ≤ f → M5.rdS s f k acc = M5.fin (acc ++ l) := by
  induction l with
  | nil =>
    intro f k acc _ _ hl _
    have hk : ¬ k < s.size := by simp [sl] at hl; omega
    cases f with
    | zero => simp [M5.rdS]
    | succ f => rw [M5.rdS, if_neg hk]; simp
  | cons z l ih =>
    intro f k acc hall hs hl hf
    simp only [List.all_cons, Bool.and_eq_true] at hall
    have hz : 0 ≤ z ∧ z ≤ 1000000000 := by have := hall.1; simp [okN] at this; omega
    have e : sl (z :: l) = M1.sdnv z.toNat ++ sl l := by simp [sl]
    rw [e] at hs hl
    obtain ⟨h1, h2⟩ := seg_app.1 hs
    have hp := sdnv_pos z.toNat
    simp only [List.length_append] at hl
    obtain ⟨f, rfl⟩ : ∃ f', f = f' + 1 := ⟨f - 1, by simp at hf; omega⟩
    rw [M5.rdS, if_pos (by omega), read_one s k z.toNat (by omega) h1 (by omega), if_pos rfl]
    have hzz : ((z.toNat : Nat) : Int) = z := by omega
    rw [ih f _ _ hall.2 h2 (by omega) (by simpa using hf), hzz]
    simp
theorem seg_mk (l : List UInt8) : Seg (M3.gb ⟨l.toArray⟩) 0 l := by
  intro j hj
  have hsz : j < (⟨l.toArray⟩ : ByteArray).size := by show j < l.toArray.size; simpa using hj
  rw [Nat.zero_add, ← M3.gb_eq _ j hsz]
  have : (⟨l.toArray⟩ : ByteArray)[j]'hsz = l[j] := rfl
  rw [this]; simp [List.getD_eq_getElem?_getD, List.getElem?_eq_getElem hj]
theorem sl_ge (l : List Int) : l.length ≤ (sl l).length := by
  induction l with
  | nil => simp [sl]
  | cons z l ih =>
    have := sdnv_pos z.toNat
    simp only [sl, List.flatMap_cons, List.length_append, List.length_cons] at *
    omega
theorem sl_le (zs : List Int) (h : zs.all okN = true) : (sl zs).length ≤ 5 * zs.length := by
  induction zs with
  | nil => simp [sl]
  | cons z zs ih =>
    simp only [List.all_cons, Bool.and_eq_true] at h
    have h1 : z ≤ 1000000000 ∧ 0 ≤ z := by have := h.1; simp [okN] at this; omega
    have := M1.sdnv_len z.toNat (by omega)
    have := ih h.2
    simp only [sl, List.flatMap_cons, List.length_append, List.length_cons] at *
    omega
/-- Numbers come back from their bytes. -/
theorem back (l : List Int) (h : slOk l = true) : M5.readF (slStr l) = (l, true) ∧ (slStr l).size ≤ 200 ∧ (slStr l).data.toList = sl l := by
  have h' := h
  simp only [slOk, Bool.and_eq_true, decide_eq_true_eq] at h'
  rw [slOk_yes l h]
  have hsz : (⟨(sl l).toArray⟩ : ByteArray).size = (sl l).length := by show (sl l).toArray.size = _; simp
  have hle := sl_le l h'.1
  refine ⟨?_, by omega, by simp⟩
  unfold M5.readF
  rw [if_pos (by omega), read_all _ l _ 0 [] h'.1 (seg_mk _) (by omega) (by have := sl_ge l; omega)]
  simp [M5.fin, h'.2]
/-- What is read is a number's bytes, and no others. -/
theorem read_back (g : Nat → Nat) (hg : ∀ i, g i < 256) (len k : Nat) : ∀ (d i n m e : Nat), len - i = d → M3.tkI g len i n = (m, e, true) → Seg g k (M1.hi7 n) → i = k + (M1.hi7 n).length → (n = 0 → g i ≠ 128) → Seg g k (M1.sdnv m) ∧ e = k + (M1.sdnv m).length ∧ e ≤ len := by
  intro d
  induction d using Nat.strongRecOn with
  | ind d ih =>
    intro i n m e hd ht hs hi h128
    have hgi := hg i
    rw [M3.tkI] at ht
    by_cases hl : i < len
    · rw [if_pos hl] at ht
      by_cases hv : 1000000000 < n * 128 + g i % 128
      · rw [if_pos hv] at ht; simp [M3.no] at ht
      · rw [if_neg hv] at ht
        by_cases hb : g i < 128
        · rw [if_pos hb] at ht
          simp only [Prod.mk.injEq, and_true] at ht
          obtain ⟨hm, he⟩ := ht
          have e1 : m / 128 = n := by omega
          have e2 : m % 128 = g i := by omega
          have hlen : (M1.sdnv m).length = (M1.hi7 n).length + 1 := by simp [M1.sdnv, e1]
          refine ⟨?_, by omega, by omega⟩
          unfold M1.sdnv
          rw [e1, e2]
          exact seg_app.2 ⟨hs, by rw [seg_one, ofNat_toNat _ (by omega), ← hi]⟩
        · rw [if_neg hb] at ht
          have hne : n * 128 + g i % 128 ≠ 0 := by
            intro h0
            have : n = 0 := by omega
            have := h128 this
            omega
          have e1 : (n * 128 + g i % 128) / 128 = n := by omega
          have e2 : (n * 128 + g i % 128) % 128 + 128 = g i := by omega
          have hh := M1.hi7_pos _ hne
          rw [e1, e2] at hh
          refine ih (len - (i + 1)) (by omega) (i + 1) _ m e rfl ht ?_ ?_ (fun h => absurd h hne)
          · rw [hh]; exact seg_app.2 ⟨hs, by rw [seg_one, ofNat_toNat _ (by omega), ← hi]⟩
          · rw [hh]; simp; omega
    · rw [if_neg hl] at ht; simp [M3.no] at ht
theorem tk_back (s : ByteArray) (k m e : Nat) (hk : k < s.size) (h : M5.tk s k = (m, e, true)) : Seg (M3.gb s) k (M1.sdnv m) ∧ e = k + (M1.sdnv m).length ∧ e ≤ s.size := by
  unfold M5.tk at h
  rw [← M3.tk_all (M3.gb s) s.size k hk (M3.gb_lt s k)] at h
  by_cases h1 : M3.gb s k = 128
  · rw [if_pos h1] at h; simp [M3.no] at h
  · rw [if_neg h1] at h
    exact read_back (M3.gb s) (M3.gb_lt s) s.size k _ k 0 m e rfl h (by rw [M1.hi7_zero]; exact seg_nil) (by simp [M1.hi7_zero]) (fun _ => h1)
theorem fin_back {acc x : List Int} (h : M5.fin acc = (x, true)) : x = acc ∧ acc.length ≤ 40 := by
  unfold M5.fin at h
  split at h
  · simp at h; exact ⟨h.symm, by assumption⟩
  · simp at h
theorem rd_back (s : ByteArray) : ∀ (f k : Nat) (acc x : List Int), k ≤ s.size → s.size ≤ k + f → M5.rdS s f k acc = (x, true) → ∃ l, x = acc ++ l ∧ x.length ≤ 40 ∧ l.all okN = true ∧ Seg (M3.gb s) k (sl l) ∧ k + (sl l).length = s.size := by
  intro f
  induction f with
  | zero =>
    intro k acc x hk hf h
    obtain ⟨h1, h2⟩ := fin_back (show M5.fin acc = (x, true) from h)
    exact ⟨[], by simp [h1], by rw [h1]; exact h2, rfl, seg_nil, by simp [sl]; omega⟩
  | succ f ih =>
    intro k acc x hk hf h
    rw [M5.rdS] at h
    by_cases hl : k < s.size
    · rw [if_pos hl] at h
      rcases hT : M5.tk s k with ⟨m, e, b⟩
      rw [hT] at h
      cases b with
      | false => simp at h
      | true =>
        rw [if_pos rfl] at h
        obtain ⟨h1, h2, h3⟩ := tk_back s k m e hl hT
        have hle : m ≤ 1000000000 := by have := M5.tkS_le (M3.gb s) s.size k k 0; unfold M5.tk at hT; rw [hT] at this; exact this
        have hp := sdnv_pos m
        obtain ⟨l, hx, hx40, ha, hsg, hln⟩ := ih e (acc ++ [(m : Int)]) x h3 (by omega) h
        refine ⟨(m : Int) :: l, by rw [hx]; simp, hx40, ?_, ?_, ?_⟩
        · simp only [List.all_cons, ha, Bool.and_true]; simp [okN]; omega
        · have e1 : sl ((m : Int) :: l) = M1.sdnv m ++ sl l := by simp [sl]
          rw [e1]; exact seg_app.2 ⟨h1, by rw [← h2]; exact hsg⟩
        · have e1 : sl ((m : Int) :: l) = M1.sdnv m ++ sl l := by simp [sl]
          rw [e1, List.length_append]; omega
    · rw [if_neg hl] at h
      obtain ⟨h1, h2⟩ := fin_back h
      exact ⟨[], by simp [h1], by rw [h1]; exact h2, rfl, seg_nil, by simp [sl]; omega⟩
/-- Bytes that are read come back from their numbers. -/
theorem forth (t : ByteArray) (h : (M5.readF t).2 = true) : slOk (M5.readF t).1 = true ∧ slStr (M5.readF t).1 = t := by
  obtain ⟨x, hx⟩ : ∃ x, M5.readF t = (x, true) := ⟨(M5.readF t).1, by rw [← h]⟩
  rw [hx]
  unfold M5.readF at hx
  split at hx
  · obtain ⟨l, h1, h2, h3, h4, h5⟩ := rd_back t t.size 0 [] x (by omega) (by omega) hx
    simp only [List.nil_append] at h1
    subst h1
    have hok : slOk x = true := by simp [slOk, h2]; simpa using h3
    refine ⟨hok, ?_⟩
    rw [slOk_yes x hok]
    apply ByteArray.ext
    show (sl x).toArray = t.data
    rw [← Array.toList_inj]
    show sl x = t.data.toList
    have hlen : (sl x).length = t.data.toList.length := by
      have : t.size = t.data.toList.length := by simp
      omega
    apply List.ext_getElem hlen
    intro i h1 h2
    have hi : i < t.size := by simpa using h2
    have := h4 i h1
    rw [Nat.zero_add, ← M3.gb_eq t i hi] at this
    have e1 : t[i]'hi = t.data.toList[i] := by simp; rfl
    rw [e1] at this
    simp only [List.getD_eq_getElem?_getD, List.getElem?_eq_getElem h1, Option.getD_some] at this
    exact (UInt8.toNat_inj.1 this).symm
  · simp at hx
theorem sl_split (l : List Int) (k : Nat) (h : k < l.length) : sl l = sl (l.take k) ++ (M1.sdnv (l.getD k 0).toNat ++ sl (l.drop (k + 1))) := by
  have e : l = l.take k ++ (l.getD k 0 :: l.drop (k + 1)) := by
    have h1 : l.getD k 0 = l[k] := by simp [List.getD_eq_getElem?_getD, List.getElem?_eq_getElem h]
    rw [h1, List.getElem_cons_drop, List.take_append_drop]
  rw [show sl l = sl (l.take k ++ (l.getD k 0 :: l.drop (k + 1))) from by rw [← e]]
  simp [sl]
/-- At each number of a row: its bytes stand there, and it is read there. -/
theorem at_one (l : List Int) (h : slOk l = true) (k : Nat) (hk : k < l.length) :
    okN (l.getD k 0) = true ∧ (sl (l.take k)).length + (sdStr (l.getD k 0)).size ≤ (slStr l).size ∧ (sdStr (l.getD k 0)).size ≤ 5 ∧
    (slStr l).extract (sl (l.take k)).length ((sl (l.take k)).length + (sdStr (l.getD k 0)).size) = sdStr (l.getD k 0) ∧
    M3.takeF (slStr l) (((sl (l.take k)).length : Nat) : Int) = ((l.getD k 0).toNat, (sl (l.take k)).length + (sdStr (l.getD k 0)).size, true) ∧
    (sl (l.take (k + 1))).length = (sl (l.take k)).length + (sdStr (l.getD k 0)).size ∧ 0 ≤ l.getD k 0 := by
  have h' := h
  simp only [slOk, Bool.and_eq_true, decide_eq_true_eq] at h'
  have hok : okN (l.getD k 0) = true := by
    have := List.all_eq_true.1 h'.1 (l.getD k 0) (by rw [List.getD_eq_getElem?_getD, List.getElem?_eq_getElem hk]; exact List.getElem_mem hk)
    exact this
  have hz : 0 ≤ l.getD k 0 ∧ l.getD k 0 ≤ 1000000000 := by have := hok; simp only [okN, decide_eq_true_eq] at this; exact this
  obtain ⟨_, hsd⟩ := okN_yes hz
  have hb := back l h
  have hsz : (sdStr (l.getD k 0)).size = (M1.sdnv (l.getD k 0).toNat).length := by rw [hsd]; show (M1.sdnv (l.getD k 0).toNat).toArray.size = _; simp
  have hsp := sl_split l k hk
  have htot : (slStr l).size = (sl l).length := by have := hb.2.2; have e : (slStr l).size = (slStr l).data.toList.length := by simp
                                                   rw [e, this]
  have hlen : (sl l).length = (sl (l.take k)).length + ((M1.sdnv (l.getD k 0).toNat).length + (sl (l.drop (k + 1))).length) := by
    have := congrArg List.length hsp; simpa using this
  have hseg : Seg (M3.gb (slStr l)) 0 (sl l) := by rw [slOk_yes l h]; exact seg_mk _
  rw [hsp] at hseg
  have h2 := (seg_app.1 (seg_app.1 hseg).2).1
  rw [Nat.zero_add] at h2
  have h5 := M1.sdnv_len (l.getD k 0).toNat (by omega)
  have hp := sdnv_pos (l.getD k 0).toNat
  refine ⟨hok, by omega, by omega, ?_, ?_, ?_, hz.1⟩
  · rw [hsz, hsd]
    apply ByteArray.ext
    rw [← Array.toList_inj]
    have := Lib.extract_data (slStr l) (sl (l.take k)).length ((sl (l.take k)).length + (M1.sdnv (l.getD k 0).toNat).length)
    rw [this, hb.2.2, hsp]
    simp
  · unfold M3.takeF
    rw [if_pos ⟨by omega, by omega, by omega⟩, Int.toNat_natCast]
    have := read_one (slStr l) (sl (l.take k)).length (l.getD k 0).toNat (by omega) h2 (by omega)
    unfold M5.tk at this
    rw [this, hsz]
  · rw [sl_snoc l k hk, List.length_append, hsz]
end MSd
end Go.Proofs.Ytapojeehidhhnaa
