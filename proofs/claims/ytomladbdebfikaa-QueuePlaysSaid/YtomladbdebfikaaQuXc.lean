/- slices.SortFunc at queue.channel: what the row holds behind it. -/
import Derived.Test.YtomladbdebfikaaRows
import Derived.Test.YtomladbdebfikaaQuXb
import Derived.Test.YtomladbdebfikaaShelfS
import Derived.Test.YtomladbdebfikaaShelf
import Derived.Test.YtomladbdebfikaaOwn
import Derived.LoopN
import Derived.Shelf.SlSortCmp.WholeK
namespace Go.Proofs.Ytomladbdebfikaa
open Go Go.RowKit Go.Sort Go.Proofs.Ytomladbdebfikaa.Sp
set_option linter.unusedVariables false
set_option linter.unusedSimpArgs false
namespace Qu
instance : Inhabited Chan := ⟨⟨⟨#[]⟩, 0, 0⟩⟩
def ckC (x : Chan) : List Value := [.string x.key, .int .i64 x.fr, .int .i64 x.to]
def ckCs (l : List Chan) : List Value := l.flatMap ckC
theorem ckCs_app (a b : List Chan) : ckCs (a ++ b) = ckCs a ++ ckCs b := by simp [ckCs]
theorem ckCs_at : ∀ (l : List Chan) (i : Nat) (hi : i < l.length) (j : Nat), j < 3 → (ckCs l)[i * 3 + j]? = (ckC l[i])[j]?
  | t :: l, 0, _, j, hj => by
    rw [show ckCs (t :: l) = ckC t ++ ckCs l from rfl, List.getElem?_append_left (by show _ < 3; omega)]
    simp
  | t :: l, i + 1, hi, j, hj => by
    rw [show ckCs (t :: l) = ckC t ++ ckCs l from rfl, List.getElem?_append_right (by show 3 ≤ _; omega)]
    have := ckCs_at l i (by simpa using hi) j hj
    rw [show (i + 1) * 3 + j - (ckC t).length = i * 3 + j by show (i + 1) * 3 + j - 3 = _; omega]
    simpa using this
theorem cmpS_neg {a b : ByteArray} : cmpS a b < 0 ↔ kLess a b = true := by
  unfold cmpS
  by_cases h : kLess a b = true
  · simp [h]
  · simp [h]
    split <;> omega
theorem cmpS_zero {a b : ByteArray} : cmpS a b = 0 ↔ a = b := by
  unfold cmpS
  by_cases h : kLess a b = true
  · rw [if_pos h]
    constructor
    · intro e; omega
    · intro e
      subst e
      unfold kLess at h
      rw [bl_irr] at h
      cases h
  · rw [if_neg h]
    by_cases k : kLess b a = true
    · rw [if_pos k]
      constructor
      · intro e; omega
      · intro e
        subst e
        exact absurd k h
    · rw [if_neg k]
      exact ⟨fun _ => kLess_tri (by simpa using h) (by simpa using k), fun _ => rfl⟩
theorem lt_iff (x y : Chan) : ltOf cfC x y = true ↔ chLt x y := by
  unfold ltOf cfC or3
  rw [decide_eq_true_eq]
  unfold chLt
  by_cases h0 : cmpS x.key y.key = 0
  · have e := cmpS_zero.1 h0
    have hn : ¬ kLess x.key y.key = true := fun h => by
      rw [e] at h
      unfold kLess at h
      rw [bl_irr] at h
      cases h
    rw [if_neg (by omega)]
    unfold cmpI
    constructor
    · intro h
      refine .inr ⟨e, ?_⟩
      split at h <;> split at h <;> (try split at h) <;> (try split at h) <;> omega
    · rintro (h | ⟨_, h⟩)
      · exact absurd h hn
      · split <;> split <;> (try split) <;> (try split) <;> omega
  · rw [if_pos (by omega), cmpS_neg]
    constructor
    · exact .inl
    · rintro (h | ⟨e, _⟩)
      · exact h
      · exact absurd (cmpS_zero.2 e) h0
theorem lt_no (x y : Chan) : ltOf cfC x y = false ↔ ¬ chLt x y := by
  rw [← lt_iff]
  simp
theorem swoC : SWO (ltOf cfC) where
  irrefl x := by rw [lt_no]; exact chLt_irr x
  trans x y z h1 h2 := by rw [lt_iff] at *; exact chLt_trans h1 h2
  ntrans x y z h1 h2 := by rw [lt_no] at *; exact chLt_nle h1 h2
theorem cmpC (blk off size : Nat) (w : World) : CmpLays Try.prog 39 #[] ckC 3 cfC blk off size w := fun _ _ _ _ x y => closure_c x y _
theorem isAggC (w : World) : (isAgg 63).run Try.prog w = .ok true w := by kernel_rfl
theorem sizeOfC (w : World) : (Go.sizeOf 63).run Try.prog w = .ok 3 w := by kernel_rfl
theorem ins_nil (A : Option Addr) (cap : Nat) (f : Value) (w : World) : Calls Try.prog 56 #[.slice A 0 cap, .int .i64 0, .int .i64 0, f] w fun e w' => e = .returned (.tuple #[]) ∧ w' = w := by
  go_enter Try.func56, Try.ntmps56
  go_wp2
  refine wp_loop_rounds 1 ?_
  rw [rounds_succ]
  go_wp2
  go_end0
  exact ⟨rfl, rfl⟩
theorem pdq_nil (A : Option Addr) (cap : Nat) (f : Value) (x : Int) (w : World) : Calls Try.prog 51 #[.slice A 0 cap, .int .i64 0, .int .i64 0, .int .i64 x, f] w fun e w' => e = .returned (.tuple #[]) ∧ w' = w := by
  have IC := hide (ins_nil A cap f w)
  go_enter Try.func51, Try.ntmps51
  go_wp2_with fail
  refine wp_loop_rounds 1 ?_
  rw [rounds_succ]
  go_wp2_with fail
  refine IC.out.mono ?_
  rintro e w' ⟨rfl, rfl⟩
  go_wp2_with fail
  first
    | (go_end0; exact ⟨rfl, rfl⟩)
    | (refine bodyPost_ret (results_none rfl _ _ _) rfl ?_; exact ⟨rfl, rfl⟩)
theorem sort_nil (A : Option Addr) (cap : Nat) (f : Value) (w : World) : Calls Try.prog 38 #[.slice A 0 cap, f] w fun e w' => e = .returned (.tuple #[]) ∧ w' = w := by
  have LC := hide (Try.bits_Len 0 w (by omega) (by omega))
  have PC := hide (fun x => pdq_nil A cap f x w)
  go_enter Try.func38, Try.ntmps38
  go_wp2_with fail
  refine LC.out.mono ?_
  rintro e w' ⟨rfl, rfl⟩
  go_wp2_with fail
  refine (PC.out _).mono ?_
  rintro e w' ⟨rfl, rfl⟩
  go_wp2_with fail
  go_end0
  exact ⟨rfl, rfl⟩
def sortPost (g : Nat) (d : Array Chan) (w : World) (e : Ending) (w' : World) : Prop := ∃ d' : Array Chan, e = .returned (.tuple #[]) ∧ d'.toList.Perm d.toList ∧ (∀ i j, i < j → j < d'.size → ¬ chLt d'[j]! d'[i]!) ∧ HoldsK ckC 3 w' g 0 d' ∧ w.grownBy w' (some g)
theorem grown_sort (w : World) (g m : Nat) (d : Array Chan) (os : Array Obj) : w.grownBy (sortWorldK ckC 3 w g 0 m d os) (some g) := by
  refine ⟨rfl, rfl, rfl, ?_, fun k hk hne => ?_⟩
  · unfold sortWorldK
    simp [grow, putRowK, putRow, mapBlock, Sort.ahead]
  · have hkg : g ≠ k := fun e => hne (by rw [e])
    unfold sortWorldK
    simp [grow, putRowK, putRow, mapBlock, Sort.ahead]
    rw [Array.getElem?_append_left (by simpa using hk), Array.getElem?_modify, if_neg hkg]
set_option maxHeartbeats 1000000 in
theorem sort_c (g cap : Nat) (d : Array Chan) (w : World) (hH : HoldsK ckC 3 w g 0 d) (hg : g < w.heap.size) (hs : d.size ≤ 1000) :
    Calls Try.prog 38 #[.slice (some ⟨g, 0, none⟩) d.size cap, .func (.func 39) #[] #[]] w (sortPost g d w) := by
  have eg : ∀ args w, (callFunc 39 args).run Try.prog w = .ok (.enter 39 args) w := enters_of Try.func39 (by kernel_rfl) rfl
  refine (AnyQ.slices_SortFunc Try.sortAsk 3 isAggC sizeOfC ckC (fun _ => rfl) (fun x v hv => by simp [ckC] at hv; rcases hv with rfl | rfl | rfl <;> rfl) cfC swoC 39 #[] g 0 cap d w eg (cmpC g 0 d.size w) hH hg (by omega)).mono ?_
  rintro e w' ⟨rfl, d', m, os, hp, hso, rfl⟩
  refine ⟨d', rfl, ?_, fun i j hij hj => ?_, SWK.holds (show SWK ckC 3 w g 0 d' (sortWorldK ckC 3 w g 0 m d' os) from ⟨m, os, rfl⟩) hg hH hp.1, grown_sort w g m d' os⟩
  · have h := hp.2.2
    have e : List.take d.size d'.toList = d'.toList := List.take_of_length_le (by simp [hp.1])
    simpa [e] using h
  · rw [← lt_no]
    exact hso i j (Nat.zero_le _) hij (by rw [← hp.1]; exact hj)
/-- Channels, as they lie. -/
def CkR (w : World) (V : Option Addr) (L : List Chan) : Prop := ∀ i (hi : i < L.length), ∃ g, V = some ⟨g, 0, none⟩ ∧ g < w.heap.size ∧ w.cell? ⟨g, i * 3, none⟩ = some (.string L[i].key) ∧ w.cell? ⟨g, i * 3 + 1, none⟩ = some (.int .i64 L[i].fr) ∧ w.cell? ⟨g, i * 3 + 2, none⟩ = some (.int .i64 L[i].to)
theorem CkR.below {w w' : World} {V : Option Addr} {L : List Chan} (h : CkR w V L) (hb : Go.RowKit.Below w.heap.size w w') : CkR w' V L := fun i hi => by
  obtain ⟨g, hV, hg, c0, c1, c2⟩ := h i hi
  exact ⟨g, hV, Nat.lt_of_lt_of_le hg hb.size, (hb.cell (p := ⟨g, _, none⟩) hg).trans c0, (hb.cell (p := ⟨g, _, none⟩) hg).trans c1, (hb.cell (p := ⟨g, _, none⟩) hg).trans c2⟩
/-- No later one is ahead of an earlier one. -/
def Srt (L : List Chan) : Prop := ∀ i j (hij : i < j) (hj : j < L.length), ¬ chLt L[j] (L[i]'(by omega))
def sortRow (V : Option Addr) (vc : Nat) (L : List Chan) (w : World) (e : Ending) (w' : World) : Prop := ∃ L' : List Chan, e = .returned (.tuple #[]) ∧ L'.Perm L ∧ Srt L' ∧ CkR w' V L' ∧ w.grownBy w' (Value.slice V L.length vc).ownBlock
theorem holds_of {w : World} {B g vc : Nat} {L : List Chan} (ho : w.ownsRow B 63 3 (.slice (some ⟨g, 0, none⟩) L.length vc) L.length (ckCs L)) (hn : 0 < L.length) : HoldsK ckC 3 w g 0 L.toArray := by
  obtain ⟨g', hg', _, _, _, hf, _, hc⟩ := own_cell ho hn
  have e : g' = g := by injection hg' with h; injection h with h; exact h.symm
  subst e
  intro j hj
  rw [size_flatK] at hj
  have hj' : j < L.length * 3 := by simpa using hj
  refine ⟨?_, hf _⟩
  rw [Nat.zero_add]
  have h1 := ckCs_at L (j / 3) (by omega) (j % 3) (by omega)
  rw [show j / 3 * 3 + j % 3 = j by omega] at h1
  have hlen : j % 3 < (ckC (L[j / 3]'(by omega))).length := by show j % 3 < 3; omega
  rw [List.getElem?_eq_getElem hlen] at h1
  rw [hc j _ h1, get_flatK ckC 3 L.toArray j hj]
  have e1 : L.toArray[j / 3]! = L[j / 3]'(by omega) := by simp [getElem!_pos L (j / 3) (by omega)]
  rw [e1, getElem!_pos _ (j % 3) hlen]
  rfl
theorem sort_row (V : Option Addr) (vc : Nat) (L : List Chan) (w : World) (B : Nat) (ho : w.ownsRow B 63 3 (.slice V L.length vc) L.length (ckCs L)) (hn : L.length ≤ 1000) :
    Calls Try.prog 38 #[.slice V L.length vc, .func (.func 39) #[] #[]] w (sortRow V vc L w) := by
  by_cases h0 : L.length = 0
  · have hL := List.eq_nil_of_length_eq_zero h0
    subst hL
    refine (sort_nil V vc _ w).mono ?_
    rintro e w' ⟨rfl, rfl⟩
    exact ⟨[], rfl, List.Perm.refl _, fun i j _ hj => absurd hj (Nat.not_lt_zero j), fun i hi => absurd hi (Nat.not_lt_zero i), ⟨rfl, rfl, rfl, Nat.le_refl _, fun _ _ _ => rfl⟩⟩
  · obtain ⟨g, rfl, _, _, ⟨cs, hb⟩, _, _, _⟩ := own_cell ho (by omega)
    have hH := holds_of ho (by omega)
    have SC := sort_c g vc L.toArray w hH hb.lt (by simpa using hn)
    rw [show L.toArray.size = L.length by simp] at SC
    refine SC.mono ?_
    rintro e w' ⟨d', rfl, hp, hs, hh, hg⟩
    have hdl : d'.toList.length = L.length := hp.length_eq
    refine ⟨d'.toList, rfl, hp, fun i j hij hj => ?_, fun i hi => ⟨g, rfl, Nat.lt_of_lt_of_le hb.lt hg.size, ?_⟩, hg⟩
    · have := hs i j hij (by simpa using hj)
      rwa [getElem!_pos d' j (by simpa using hj), getElem!_pos d' i (by have : j < d'.size := by simpa using hj
                                                                        omega)] at this
    · have hc := HoldsK.cells hh (fun _ => rfl) (i := i) (by simpa using hi)
      rw [getElem!_pos d' i (by simpa using hi), Nat.zero_add] at hc
      have a0 := hc 0 (.string d'[i].key) rfl
      have a1 := hc 1 (.int .i64 d'[i].fr) rfl
      have a2 := hc 2 (.int .i64 d'[i].to) rfl
      have add : ∀ j, (⟨g, i * 3, none⟩ : Addr).add j = ⟨g, i * 3 + j, none⟩ := fun j => by
        unfold Addr.add
        split
        · rename_i e
          rw [e]
          rfl
        · rfl
      rw [add] at a0 a1 a2
      exact ⟨a0, a1, a2⟩
end Qu
end Go.Proofs.Ytomladbdebfikaa
