/- slices.SortFunc at group.asker: what the row holds behind it. -/
import Derived.Test.YtgiibknfkphkgaaDoorRows
import Derived.Test.YtgiibknfkphkgaaDoorSpB
import Derived.Test.YtgiibknfkphkgaaDoorShelfS
import Derived.Test.YtgiibknfkphkgaaDoorGrpE
import Derived.Shelf.SlSortCmp.WholeK
namespace Go.Proofs.YtgiibknfkphkgaaDoor
open Go Go.RowKit Go.Sort
set_option linter.unusedVariables false
set_option linter.unusedSimpArgs false
namespace Sp
/-- One who asks: color, key, number, rank. -/
structure Ak where
  c : Int
  k : Int
  n : Int
  r : Int
deriving DecidableEq
instance : Inhabited Ak := ⟨⟨0, 0, 0, 0⟩⟩
def akC (x : Ak) : List Value := [.int .i64 x.c, .int .i64 x.k, .int .i64 x.n, .int .i64 x.r]
def cfA (x y : Ak) : Int := cf3 x.c x.k x.n y.c y.k y.n
def ltA (x y : Ak) : Prop := x.c < y.c ∨ (x.c = y.c ∧ (x.k < y.k ∨ (x.k = y.k ∧ x.n < y.n)))
theorem lt_iff (x y : Ak) : ltOf cfA x y = true ↔ ltA x y := by
  unfold ltOf cfA cf3 or3 cmpI ltA
  rw [decide_eq_true_eq]
  split <;> split at * <;> (try split at *) <;> (try split at *) <;> (try split at *) <;> (try split at *) <;> (try split at *) <;> omega
theorem lt_no (x y : Ak) : ltOf cfA x y = false ↔ ¬ ltA x y := by
  rw [← lt_iff]
  simp
theorem swoA : SWO (ltOf cfA) where
  irrefl x := by rw [lt_no]; unfold ltA; omega
  trans x y z h1 h2 := by rw [lt_iff] at *; unfold ltA at *; omega
  ntrans x y z h1 h2 := by rw [lt_no] at *; unfold ltA at *; omega
theorem cmpA (blk off size : Nat) (w : World) : CmpLays Tryd.prog 30 #[] akC 4 cfA blk off size w := fun _ _ _ _ x y => closure_c x.c x.k x.n x.r y.c y.k y.n y.r _
theorem isAggA (w : World) : (isAgg 66).run Tryd.prog w = .ok true w := by kernel_rfl
theorem sizeOfA (w : World) : (Go.sizeOf 66).run Tryd.prog w = .ok 4 w := by kernel_rfl
def sortPost (g : Nat) (d : Array Ak) (w : World) (e : Ending) (w' : World) : Prop := ∃ d' : Array Ak, e = .returned (.tuple #[]) ∧ d'.toList.Perm d.toList ∧ (∀ i j, i < j → j < d'.size → ¬ ltA d'[j]! d'[i]!) ∧ HoldsK akC 4 w' g 0 d' ∧ w.grownBy w' (some g)
theorem grown_sort (w : World) (g m : Nat) (d : Array Ak) (os : Array Obj) : w.grownBy (sortWorldK akC 4 w g 0 m d os) (some g) := by
  refine ⟨rfl, rfl, rfl, ?_, fun k hk hne => ?_⟩
  · unfold sortWorldK
    simp [grow, putRowK, putRow, mapBlock, Sort.ahead]
  · have hkg : g ≠ k := fun e => hne (by rw [e])
    unfold sortWorldK
    simp [grow, putRowK, putRow, mapBlock, Sort.ahead]
    rw [Array.getElem?_append_left (by simpa using hk), Array.getElem?_modify, if_neg hkg]
set_option maxHeartbeats 1000000 in
theorem sort_c (g cap : Nat) (d : Array Ak) (w : World) (hH : HoldsK akC 4 w g 0 d) (hg : g < w.heap.size) (hs : d.size ≤ 1000) :
    Calls Tryd.prog 29 #[.slice (some ⟨g, 0, none⟩) d.size cap, .func (.func 30) #[] #[]] w (sortPost g d w) := by
  have eg : ∀ args w, (callFunc 30 args).run Tryd.prog w = .ok (.enter 30 args) w := enters_of Tryd.func30 (by kernel_rfl) rfl
  refine (AnyQ.slices_SortFunc Tryd.sortAsk 4 isAggA sizeOfA akC (fun _ => rfl) (fun x v hv => by simp [akC] at hv; rcases hv with rfl | rfl | rfl | rfl <;> rfl) cfA swoA 30 #[] g 0 cap d w eg (cmpA g 0 d.size w) hH hg (by omega)).mono ?_
  rintro e w' ⟨rfl, d', m, os, hp, hso, rfl⟩
  refine ⟨d', rfl, ?_, fun i j hij hj => ?_, SWK.holds (show SWK akC 4 w g 0 d' (sortWorldK akC 4 w g 0 m d' os) from ⟨m, os, rfl⟩) hg hH hp.1, grown_sort w g m d' os⟩
  · have h := hp.2.2
    have e : List.take d.size d'.toList = d'.toList := List.take_of_length_le (by simp [hp.1])
    simpa [e] using h
  · rw [← lt_no]
    exact hso i j (Nat.zero_le _) hij (by rw [← hp.1]; exact hj)
end Sp
end Go.Proofs.YtgiibknfkphkgaaDoor
