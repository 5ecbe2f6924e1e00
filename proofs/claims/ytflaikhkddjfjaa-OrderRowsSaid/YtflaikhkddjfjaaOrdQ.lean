/- Rows that are orders: what Is asks, said plainly; First tells one; two that stand side by side. No program's text. -/
import Derived.Test.YtflaikhkddjfjaaOrdX
import Derived.Test.YtflaikhkddjfjaaOrdV
namespace Go.Proofs.Ytflaikhkddjfjaa
open Go Go.RowKit
set_option linter.unusedVariables false
set_option linter.unusedSimpArgs false
namespace Ord
/-- What each event waits for, all of a history. -/
structure Hist (E : Nat → Ev) (es : List Eo) : Prop where
  a : ∀ i, i < es.length → AheadOf E i (es.getD i default).ah
theorem grow_hist {n : Nat} {E : Nat → Ev} {es : List Eo} (h : Grow n E es) : Hist E es ∧ ∀ i, i < es.length → (es.getD i default).ah = aheadL n E i := by
  induction h with
  | nil => exact ⟨⟨fun i hi => absurd hi (Nat.not_lt_zero i)⟩, fun i hi => absurd hi (Nat.not_lt_zero i)⟩
  | @snoc es x hg hr ha hxr hxa hxc hxd ih =>
    have key : ∀ i, i < (es ++ [x]).length → ((es ++ [x]).getD i default).ah = aheadL n E i ∧ AheadOf E i ((es ++ [x]).getD i default).ah := fun i hi => by
      rw [List.length_append, List.length_singleton] at hi
      by_cases e : i = es.length
      · subst e
        have : (es ++ [x]).getD es.length default = x := by simp [List.getD_eq_getElem?_getD]
        rw [this, hxa]
        exact ⟨rfl, ahead_of hr ha⟩
      · have : (es ++ [x]).getD i default = es.getD i default := by
          rw [List.getD_eq_getElem?_getD, List.getD_eq_getElem?_getD, List.getElem?_append_left (by omega)]
        rw [this]
        exact ⟨ih.2 i (by omega), ih.1.a i (by omega)⟩
    exact ⟨⟨fun i hi => (key i hi).2⟩, fun i hi => (key i hi).1⟩
theorem aheadL_len (n : Nat) (E : Nat → Ev) (i : Nat) : (aheadL n E i).length ≤ (E i).af.length + 1 := by
  unfold aheadL lastL
  rw [List.length_append]
  split <;> simp
theorem Hist.lt {E : Nat → Ev} {es : List Eo} (h : Hist E es) : ∀ i, i < es.length → ∀ k ∈ (es.getD i default).ah, k < i := fun i hi k hk => ((h.a i hi).1 k hk).1
/-- What stands ahead of a row's rest makes it one. -/
def VF (es : List Eo) : List Nat → List Nat → Prop
  | _, [] => True
  | acc, x :: xs => x < es.length ∧ x ∉ acc ∧ (∀ k ∈ (es.getD x default).ah, k ∈ acc) ∧ VF es (acc ++ [x]) xs
theorem VF.cons_ {es : List Eo} {acc xs : List Nat} {x : Nat} : VF es acc (x :: xs) ↔ x < es.length ∧ x ∉ acc ∧ (∀ k ∈ (es.getD x default).ah, k ∈ acc) ∧ VF es (acc ++ [x]) xs := Iff.rfl
theorem VF.congr {es : List Eo} : ∀ (l acc acc' : List Nat), (∀ k, k ∈ acc ↔ k ∈ acc') → (VF es acc l ↔ VF es acc' l)
  | [], _, _, _ => Iff.rfl
  | x :: xs, acc, acc', h => by
    rw [VF.cons_, VF.cons_]
    have ih := VF.congr (es := es) xs (acc ++ [x]) (acc' ++ [x]) (fun k => by simp [h k])
    rw [ih, h x]
    have : (∀ k ∈ (es.getD x default).ah, k ∈ acc) ↔ (∀ k ∈ (es.getD x default).ah, k ∈ acc') := ⟨fun g k hk => (h k).1 (g k hk), fun g k hk => (h k).2 (g k hk)⟩
    rw [this]
theorem VF.app {es : List Eo} : ∀ (l m acc : List Nat), VF es acc (l ++ m) ↔ VF es acc l ∧ VF es (acc ++ l) m
  | [], m, acc => by simp [VF]
  | x :: xs, m, acc => by
    rw [List.cons_append, VF.cons_, VF.cons_, VF.app xs m (acc ++ [x]), List.append_assoc, List.singleton_append]
    constructor
    · rintro ⟨h1, h2, h3, h4, h5⟩; exact ⟨⟨h1, h2, h3, h4⟩, h5⟩
    · rintro ⟨⟨h1, h2, h3, h4⟩, h5⟩; exact ⟨h1, h2, h3, h4, h5⟩
theorem isF_iff {es : List Eo} : ∀ (l acc : List Nat) (f : Nat → Bool), (∀ m, f m = true ↔ m ∈ acc) → (isF es (natI l) f = true ↔ VF es acc l)
  | [], acc, f, _ => by simp [isF, natI, VF]
  | x :: xs, acc, f, hf => by
    have ih := isF_iff (es := es) xs (acc ++ [x]) (fun m => if m = x then true else f m) (fun m => by
      by_cases e : m = x
      · simp [e]
      · simp [e, hf m])
    show (inB es (x : Int) && !f (x : Int).toNat && decide (¬ ∃ k ∈ natI (es.getD (x : Int).toNat default).ah, outB f k = true) && isF es (natI xs) (fun m => if m = (x : Int).toNat then true else f m)) = true ↔ _
    rw [Int.toNat_natCast, VF.cons_]
    rw [Bool.and_eq_true, Bool.and_eq_true, Bool.and_eq_true, ih, decide_eq_true_eq]
    have h1 : inB es (x : Int) = true ↔ x < es.length := by
      unfold inB
      rw [decide_eq_true_eq]
      omega
    have h2 : (!f x) = true ↔ x ∉ acc := by
      rw [Bool.not_eq_true', ← hf x]
      simp
    have h3 : (¬ ∃ k ∈ natI (es.getD x default).ah, outB f k = true) ↔ ∀ k ∈ (es.getD x default).ah, k ∈ acc := by
      constructor
      · intro h k hk
        cases hfk : f k with
        | true => exact (hf k).1 hfk
        | false => exact absurd ⟨(k : Int), List.mem_map.2 ⟨k, hk, rfl⟩, by unfold outB; rw [Int.toNat_natCast, hfk]; rfl⟩ h
      · rintro h ⟨k, hk, ho⟩
        obtain ⟨y, hy, rfl⟩ := List.mem_map.1 hk
        unfold outB at ho
        rw [Int.toNat_natCast, (hf y).2 (h y hy)] at ho
        cases ho
    rw [h1, h2, h3, and_assoc, and_assoc]
/-- No number that is none of an event's. -/
theorem isF_in {es : List Eo} : ∀ (l : List Int) (f : Nat → Bool), isF es l f = true → ∃ l' : List Nat, l = natI l'
  | [], f, _ => ⟨[], rfl⟩
  | x :: xs, f, h => by
    unfold isF at h
    rw [Bool.and_eq_true, Bool.and_eq_true, Bool.and_eq_true] at h
    obtain ⟨l', e⟩ := isF_in xs _ h.2
    have h1 := of_decide_eq_true h.1.1.1
    exact ⟨x.toNat :: l', by rw [e]; show _ = ((x.toNat : Nat) : Int) :: natI l'; rw [Int.toNat_of_nonneg h1.1]⟩
theorem VF.range {es : List Eo} (hal : ∀ i, i < es.length → ∀ k ∈ (es.getD i default).ah, k < i) : ∀ k, k ≤ es.length → VF es [] (List.range k)
  | 0, _ => trivial
  | k + 1, hk => by
    rw [List.range_succ, VF.app]
    refine ⟨VF.range hal k (by omega), ?_⟩
    rw [List.nil_append]
    exact ⟨by omega, by simp, fun j hj => List.mem_range.2 (hal k (by omega) j hj), trivial⟩
theorem VF.first {es : List Eo} (tn : List Int) (hal : ∀ i, i < es.length → ∀ k ∈ (es.getD i default).ah, k < i) : ∀ k, k ≤ es.length → VF es [] (firstN tn es k).1
  | 0, _ => trivial
  | k + 1, hk => by
    have W := first_wt tn hal k (by omega)
    obtain ⟨m, hm, h1, h2, h3⟩ := first_next tn hal (k := k) (by omega)
    rw [h3, VF.app]
    refine ⟨VF.first tn hal k (by omega), ?_⟩
    rw [List.nil_append]
    obtain ⟨r1, r2, r3⟩ := W.ready.1 hm
    exact ⟨r1, r2, r3, trivial⟩
theorem VF.mem {es : List Eo} : ∀ (l acc : List Nat), VF es acc l → ∀ x ∈ l, x < es.length ∧ x ∉ acc
  | [], _, _, x, hx => by cases hx
  | y :: ys, acc, h, x, hx => by
    rcases List.mem_cons.1 hx with rfl | hx
    · exact ⟨h.1, h.2.1⟩
    · have := VF.mem ys _ h.2.2.2 x hx
      exact ⟨this.1, fun hm => this.2 (List.mem_append_left _ hm)⟩
/-- What is ahead of one of a row's is in it. -/
theorem VF.closed {es : List Eo} : ∀ (l acc : List Nat), (∀ i ∈ acc, ∀ k ∈ (es.getD i default).ah, k ∈ acc) → VF es acc l → ∀ i ∈ acc ++ l, ∀ k ∈ (es.getD i default).ah, k ∈ acc ++ l
  | [], acc, ha, _ => by rw [List.append_nil]; exact ha
  | x :: xs, acc, ha, h => by
    have e : acc ++ x :: xs = (acc ++ [x]) ++ xs := by simp
    rw [e]
    refine VF.closed xs (acc ++ [x]) (fun i hi k hk => ?_) h.2.2.2
    rcases List.mem_append.1 hi with hi | hi
    · exact List.mem_append_left _ (ha i hi k hk)
    · rw [List.mem_singleton.1 hi] at hk
      exact List.mem_append_left _ (h.2.2.1 k hk)
theorem closed_ah {E : Nat → Ev} {es : List Eo} (H : Hist E es) {S : List Nat} (hl : ∀ i ∈ S, i < es.length) (hc : ∀ i ∈ S, ∀ k ∈ (es.getD i default).ah, k ∈ S) : ∀ (b i m : Nat), i < b → i ∈ S → Ah E i m → m ∈ S
  | 0, i, m, hb, _, _ => absurd hb (Nat.not_lt_zero i)
  | b + 1, i, m, hb, hi, ha => by
    obtain ⟨k, hk, hle⟩ := (H.a i (hl i hi)).ah.1 ha
    have hkS := hc i hi k hk
    rcases hle with rfl | h
    · exact hkS
    · exact closed_ah H hl hc b k m (by have := H.lt i (hl i hi) k hk; omega) hkS h
/-- Two that stand side by side in an order. -/
theorem VF.swap {E : Nat → Ev} {es : List Eo} (H : Hist E es) {pre suf : List Nat} {x y : Nat} (h : VF es [] (pre ++ x :: y :: suf)) : VF es [] (pre ++ y :: x :: suf) ↔ ¬ Ah E y x := by
  obtain ⟨h1, h2⟩ := (VF.app _ _ _).1 h
  rw [List.nil_append] at h2
  obtain ⟨x1, x2, x3, y1, y2, y3, hs⟩ := h2
  have hpl : ∀ i ∈ pre, i < es.length := fun i hi => (VF.mem pre [] h1 i hi).1
  have hpc : ∀ i ∈ pre, ∀ k ∈ (es.getD i default).ah, k ∈ pre := by
    have := VF.closed pre [] (fun i hi => by cases hi) h1
    simpa using this
  have hne : y ≠ x := fun e => y2 (by simp [e])
  constructor
  · intro h' ha
    obtain ⟨_, h3⟩ := (VF.app _ _ _).1 h'
    rw [List.nil_append] at h3
    obtain ⟨_, _, y4, _⟩ := h3
    obtain ⟨k, hk, hle⟩ := (H.a y y1).ah.1 ha
    have hkp := y4 k hk
    rcases hle with rfl | h5
    · exact x2 hkp
    · exact x2 (closed_ah H hpl hpc (k + 1) k x (by omega) hkp h5)
  · intro hn
    refine (VF.app _ _ _).2 ⟨h1, ?_⟩
    rw [List.nil_append]
    refine ⟨y1, fun hm => y2 (List.mem_append_left _ hm), fun k hk => ?_, x1, ?_, fun k hk => List.mem_append_left _ (x3 k hk), ?_⟩
    · rcases List.mem_append.1 (y3 k hk) with h5 | h5
      · exact h5
      · rw [List.mem_singleton.1 h5] at hk
        exact absurd ((H.a y y1).ah.2 ⟨x, hk, .inl rfl⟩) hn
    · rw [List.mem_append, List.mem_singleton]
      rintro (h5 | h5)
      · exact x2 h5
      · exact hne h5.symm
    · refine (VF.congr suf _ _ (fun k => ?_)).1 hs
      simp
      constructor
      · rintro (h | h | h) <;> simp [h]
      · rintro (h | h | h) <;> simp [h]
end Ord
end Go.Proofs.Ytflaikhkddjfjaa
