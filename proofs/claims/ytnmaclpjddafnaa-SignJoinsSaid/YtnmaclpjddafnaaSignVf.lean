/- slices.SortFunc at choices by their points: what the row holds behind it. -/
import Derived.Test.YtnmaclpjddafnaaRows
import Derived.Test.YtnmaclpjddafnaaSignVa
import Derived.Test.YtnmaclpjddafnaaSignVd
import Derived.Test.YtnmaclpjddafnaaSignVo
import Derived.Test.YtnmaclpjddafnaaShelf
import Derived.Test.YtnmaclpjddafnaaShelfS
import Derived.Shelf.SlSortCmp.WholeK
import Derived.LoopN
namespace Go.Proofs.Ytnmaclpjddafnaa
open Go Go.RowKit Go.Sort
set_option linter.unusedVariables false
set_option linter.unusedSimpArgs false
namespace Jn
theorem lt_iff (x y : Ch) : ltOf ptC x y = true ↔ ltP x y = true := by
  unfold ltOf
  rw [decide_eq_true_eq]
  exact ptC_neg x y
theorem lt_no (x y : Ch) : ltOf ptC x y = false ↔ ltP x y = false := by
  rw [← Bool.not_eq_true, lt_iff, Bool.not_eq_true]
theorem swoP : SWO (ltOf ptC) where
  irrefl x := by rw [lt_no]; simp [ltP]
  trans x y z h1 h2 := by rw [lt_iff] at *; exact ltP_trans h1 h2
  ntrans x y z h1 h2 := by
    rw [lt_no] at *
    simp only [ltP, Bool.or_eq_false_iff, Bool.and_eq_false_iff, decide_eq_false_iff_not] at *
    omega
theorem cmpP (blk off size : Nat) (w : World) : CmpLays Try.prog 17 #[] chC 5 ptC blk off size w := fun _ _ _ _ x y => pt_c x y _
theorem isAggC (w : World) : (isAgg 24).run Try.prog w = .ok true w := by kernel_rfl
theorem sizeOfC (w : World) : (Go.sizeOf 24).run Try.prog w = .ok 5 w := by kernel_rfl
def sortPost (g : Nat) (d : Array Ch) (w : World) (e : Ending) (w' : World) : Prop := ∃ d' : Array Ch, e = .returned (.tuple #[]) ∧ d'.toList.Perm d.toList ∧ (∀ i j, i < j → j < d'.size → ltP d'[j]! d'[i]! = false) ∧ HoldsK chC 5 w' g 0 d' ∧ w.grownBy w' (some g)
theorem grown_sort (w : World) (g m : Nat) (d : Array Ch) (os : Array Obj) : w.grownBy (sortWorldK chC 5 w g 0 m d os) (some g) := by
  refine ⟨rfl, rfl, rfl, ?_, fun k hk hne => ?_⟩
  · unfold sortWorldK
    simp [grow, putRowK, putRow, mapBlock, Sort.ahead]
  · have hkg : g ≠ k := fun e => hne (by rw [e])
    unfold sortWorldK
    simp [grow, putRowK, putRow, mapBlock, Sort.ahead]
    rw [Array.getElem?_append_left (by simpa using hk), Array.getElem?_modify, if_neg hkg]
set_option maxHeartbeats 1000000 in
theorem sort_c (g cap : Nat) (d : Array Ch) (w : World) (hH : HoldsK chC 5 w g 0 d) (hg : g < w.heap.size) (hs : d.size ≤ 100000) :
    Calls Try.prog 16 #[.slice (some ⟨g, 0, none⟩) d.size cap, .func (.func 17) #[] #[]] w (sortPost g d w) := by
  have eg : ∀ args w, (callFunc 17 args).run Try.prog w = .ok (.enter 17 args) w := enters_of Try.func17 (by kernel_rfl) rfl
  refine (AnyQ.slices_SortFunc Try.sortAsk 5 isAggC sizeOfC chC (fun _ => rfl) (fun x v hv => by simp [chC] at hv; rcases hv with rfl | rfl | rfl | rfl | rfl <;> rfl) ptC swoP 17 #[] g 0 cap d w eg (cmpP g 0 d.size w) hH hg (by omega)).mono ?_
  rintro e w' ⟨rfl, d', m, os, hp, hso, rfl⟩
  refine ⟨d', rfl, ?_, fun i j hij hj => ?_, SWK.holds (show SWK chC 5 w g 0 d' (sortWorldK chC 5 w g 0 m d' os) from ⟨m, os, rfl⟩) hg hH hp.1, grown_sort w g m d' os⟩
  · have h := hp.2.2
    have e : List.take d.size d'.toList = d'.toList := List.take_of_length_le (by simp [hp.1])
    simpa [e] using h
  · rw [← lt_no]
    exact hso i j (Nat.zero_le _) hij (by rw [← hp.1]; exact hj)
theorem ins_nil (A : Option Addr) (cap : Nat) (f : Value) (w : World) : Calls Try.prog 33 #[.slice A 0 cap, .int .i64 0, .int .i64 0, f] w fun e w' => e = .returned (.tuple #[]) ∧ w' = w := by
  go_enter Try.func33, Try.ntmps33
  go_wp2
  refine wp_loop_rounds 1 ?_
  rw [rounds_succ]
  go_wp2
  go_end0
  exact ⟨rfl, rfl⟩
theorem pdq_nil (A : Option Addr) (cap : Nat) (f : Value) (x : Int) (w : World) : Calls Try.prog 25 #[.slice A 0 cap, .int .i64 0, .int .i64 0, .int .i64 x, f] w fun e w' => e = .returned (.tuple #[]) ∧ w' = w := by
  have IC := hide (ins_nil A cap f w)
  go_enter Try.func25, Try.ntmps25
  go_wp2_with fail
  refine wp_loop_rounds 1 ?_
  rw [rounds_succ]
  go_wp2_with fail
  refine IC.out.mono ?_
  rintro e w' ⟨rfl, rfl⟩
  go_wp2_with fail
  first
    | (go_end0; exact ⟨rfl, rfl⟩)
    | (refine bodyPost_ret (results_none rfl _ _ _) rfl ?_; exact ⟨rfl, rfl⟩)
theorem sort_nil (A : Option Addr) (cap : Nat) (f : Value) (w : World) : Calls Try.prog 16 #[.slice A 0 cap, f] w fun e w' => e = .returned (.tuple #[]) ∧ w' = w := by
  have LC := hide (Try.bits_Len 0 w (by omega) (by omega))
  have PC := hide (fun x => pdq_nil A cap f x w)
  go_enter Try.func16, Try.ntmps16
  go_wp2_with fail
  refine LC.out.mono ?_
  rintro e w' ⟨rfl, rfl⟩
  go_wp2_with fail
  refine (PC.out _).mono ?_
  rintro e w' ⟨rfl, rfl⟩
  go_wp2_with fail
  go_end0
  exact ⟨rfl, rfl⟩
theorem compact_s (V : Option Addr) (n cap : Nat) (w : World) (hn : n < 2) :
    Calls Try.prog 18 #[.slice V n cap] w fun e w' => e = .returned (.slice V n cap) ∧ w' = w := by
  have hnI : (n : Int) < 2 := by omega
  go_enter Try.func18, Try.ntmps18
  go_wp2_with fail
  go_ret
  exact ⟨rfl, rfl⟩
/-- A row that the call owns, as the sort reads it. -/
theorem holds_own {w : World} {B g vc : Nat} {L : List Ch} (ho : w.ownsRow B 24 5 (.slice (some ⟨g, 0, none⟩) L.length vc) L.length (chs L)) (hn : 0 < L.length) : HoldsK chC 5 w g 0 L.toArray := by
  obtain ⟨g', hg', _, _, _, hf, _, hc⟩ := own_cell ho hn
  have e : g' = g := by injection hg' with h; injection h with h; exact h.symm
  subst e
  intro j hj
  rw [size_flatK] at hj
  have hj' : j < L.length * 5 := by simpa using hj
  refine ⟨?_, hf _⟩
  rw [Nat.zero_add]
  have h1 := chs_at L (j / 5) (by omega) (j % 5) (by omega)
  rw [show j / 5 * 5 + j % 5 = j by omega] at h1
  have hlen : j % 5 < (chC (L[j / 5]'(by omega))).length := by show j % 5 < 5; omega
  rw [List.getElem?_eq_getElem hlen] at h1
  rw [hc j _ h1, get_flatK chC 5 L.toArray j hj]
  have e1 : L.toArray[j / 5]! = L[j / 5]'(by omega) := by simp [getElem!_pos L (j / 5) (by omega)]
  rw [e1, getElem!_pos _ (j % 5) hlen]
  rfl
/-- A row of one's own that is read: none at all, or a block from B on. -/
def JRow (B : Nat) (w : World) (V : Option Addr) (l : List Ch) : Prop := 0 < l.length → ∃ g, V = some ⟨g, 0, none⟩ ∧ B ≤ g ∧ g < w.heap.size ∧ HoldsK chC 5 w g 0 l.toArray
theorem JRow.crow {B : Nat} {w : World} {V : Option Addr} {l : List Ch} (h : JRow B w V l) (hok : ∀ t ∈ l, t.ok) (hl : l.length ≤ maxLen) : CRow w V l := by
  refine ⟨hl, fun h0 => ?_⟩
  obtain ⟨g, rfl, _, hg, hh⟩ := h h0
  refine ⟨_, rfl, hg, fun i hi => ⟨hok _ (List.getElem_mem hi), ?_⟩⟩
  obtain ⟨c0, c1, c2, c3, c4⟩ := hold5 hh (i := i) (by simpa using hi)
  have e : l.toArray[i]! = l[i] := by rw [getElem!_pos l.toArray i (by simpa using hi)]; simp
  rw [e] at c0 c1 c2 c3 c4
  unfold ChAt
  rw [add_lit]
  exact ⟨c0, c1, c2, c3, c4⟩
end Jn
end Go.Proofs.Ytnmaclpjddafnaa
