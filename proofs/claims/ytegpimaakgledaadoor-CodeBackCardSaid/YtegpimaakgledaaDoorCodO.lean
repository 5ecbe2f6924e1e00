/- The chapter's examples: awake. -/
import Derived.Test.YtegpimaakgledaaDoorRows
import Derived.Test.YtegpimaakgledaaDoorCodN
namespace Go.Proofs.YtegpimaakgledaaDoor
open Go Go.RowKit
set_option linter.unusedVariables false
set_option linter.unusedSimpArgs false
namespace Cod
def RowPost (n : Nat) (xs : List In) (w : World) (e : Ending) (w' : World) : Prop := ∃ C cc, e = .returned (.slice C n cc) ∧ (CodeAt w' C xs ∧ xs.length = n) ∧ Below w.heap.size w w'
theorem row1 (w : World) : Calls Tryd.prog 38 #[.slice (some ⟨w.heap.size, 0, none⟩) 6 6] (w.alloc (.cells #[.int .i64 1, .int .i64 7, .int .i64 3, .int .i64 0, .int .i64 29, .int .i64 0] 2)) (RowPost 3 ex1 (w.alloc (.cells #[.int .i64 1, .int .i64 7, .int .i64 3, .int .i64 0, .int .i64 29, .int .i64 0] 2))) := by
  refine (row_c [1, 7, 3, 0, 29, 0] ex1 _ 6 _ (IntAt.new w 2 [1, 7, 3, 0, 29, 0] (by decide)) rfl (fun i hi => ?_) ex1_ok (by decide)).mono ?_
  · match i, hi with
    | 0, _ => exact ⟨rfl, rfl⟩
    | 1, _ => exact ⟨rfl, rfl⟩
    | 2, _ => exact ⟨rfl, rfl⟩
  · rintro e w' ⟨C, cc, rfl, h1, h2⟩
    exact ⟨C, cc, rfl, ⟨CodeAt.of_own h1 ex1_ok, rfl⟩, h2⟩
theorem row2 (w : World) : Calls Tryd.prog 38 #[.slice (some ⟨w.heap.size, 0, none⟩) 4 4] (w.alloc (.cells #[.int .i64 13, .int .i64 0, .int .i64 29, .int .i64 0] 2)) (RowPost 2 ex2 (w.alloc (.cells #[.int .i64 13, .int .i64 0, .int .i64 29, .int .i64 0] 2))) := by
  refine (row_c [13, 0, 29, 0] ex2 _ 4 _ (IntAt.new w 2 [13, 0, 29, 0] (by decide)) rfl (fun i hi => ?_) ex2_ok (by decide)).mono ?_
  · match i, hi with
    | 0, _ => exact ⟨rfl, rfl⟩
    | 1, _ => exact ⟨rfl, rfl⟩
  · rintro e w' ⟨C, cc, rfl, h1, h2⟩
    exact ⟨C, cc, rfl, ⟨CodeAt.of_own h1 ex2_ok, rfl⟩, h2⟩
theorem row3 (w : World) : Calls Tryd.prog 38 #[.slice (some ⟨w.heap.size, 0, none⟩) 2 2] (w.alloc (.cells #[.int .i64 22, .int .i64 0] 2)) (RowPost 1 ex3 (w.alloc (.cells #[.int .i64 22, .int .i64 0] 2))) := by
  refine (row_c [22, 0] ex3 _ 2 _ (IntAt.new w 2 [22, 0] (by decide)) rfl (fun i hi => ?_) ex3_ok (by decide)).mono ?_
  · match i, hi with
    | 0, _ => exact ⟨rfl, rfl⟩
  · rintro e w' ⟨C, cc, rfl, h1, h2⟩
    exact ⟨C, cc, rfl, ⟨CodeAt.of_own h1 ex3_ok, rfl⟩, h2⟩
theorem heights1 (C : Option Addr) (cc : Nat) (w : World) (h : CodeAt w C ex1) (H : Ops w) :
    Calls Tryd.prog 13 #[.agg #[.slice C 3 cc, .int .i64 1, .slice none 0 0]] w fun e w' => (∃ g, e = .returned (.tuple #[.slice (some ⟨g, 0, none⟩) 3 3, .int .i64 0]) ∧ w.heap.size ≤ g ∧ Blk w' g 3 #[.int .i64 0, .int .i64 1, .int .i64 0]) ∧ Below w.heap.size w w' := by
  refine (Heights_c C cc ex1 1 none 0 [] w h (IntAt.nil w _) (by decide) (by decide) H).mono ?_
  rintro e w' ⟨⟨r, hr, hh⟩, hb⟩
  have er := HtR.det hr ex1_ht
  subst er
  rcases hh with ⟨h1, _⟩ | ⟨hs, g, h1, _, _, rfl, h2, h3⟩
  · cases h1
  · cases h1
    exact ⟨⟨g, rfl, h2, h3⟩, hb⟩
theorem text1 (C : Option Addr) (cc : Nat) (w : World) (h : CodeAt w C ex1) (H : Ops w) (hp : Pow w) :
    Calls Tryd.prog 14 #[.agg #[.slice C 3 cc, .int .i64 1, .slice none 0 0]] w fun e w' => e = .returned (.tuple #[.string ⟨#[118, 97, 114, 115, 32, 49, 10, 97, 114, 114, 97, 121, 115, 10, 110, 117, 109, 32, 55, 10, 115, 101, 116, 10, 115, 116, 111, 112, 10]⟩, .int .i64 0]) ∧ Below w.heap.size w w' := by
  refine (Text_c C cc ex1 1 none 0 [] w h (IntAt.nil w _) (by decide) (by decide) H hp (by decide) ex1_ok (fun _ hx => absurd hx (List.not_mem_nil))).mono ?_
  rintro e w' ⟨⟨r, hr, hh⟩, hb⟩
  have er := HtR.det hr ex1_ht
  subst er
  rcases hh with ⟨h1, _⟩ | ⟨_, rfl⟩
  · cases h1
  · rw [ex1_tx]
    exact ⟨rfl, hb⟩
theorem may2 (C : Option Addr) (cc : Nat) (w : World) (h : CodeAt w C ex2) (H : Ops w) :
    Calls Tryd.prog 15 #[.agg #[.slice C 2 cc, .int .i64 0, .slice none 0 0]] w fun e w' => e = .returned (.bool false) ∧ Below w.heap.size w w' := by
  refine (May_c C cc ex2 0 none 0 [] w h (IntAt.nil w _) (by decide) (by decide) H).mono ?_
  rintro e w' ⟨⟨r, hr, rfl⟩, hb⟩
  have er := HtR.det hr ex2_ht
  subst er
  exact ⟨rfl, hb⟩
theorem may3 (C : Option Addr) (cc : Nat) (w : World) (h : CodeAt w C ex3) (H : Ops w) :
    Calls Tryd.prog 15 #[.agg #[.slice C 1 cc, .int .i64 0, .slice none 0 0]] w fun e w' => e = .returned (.bool false) ∧ Below w.heap.size w w' := by
  refine (May_c C cc ex3 0 none 0 [] w h (IntAt.nil w _) (by decide) (by decide) H).mono ?_
  rintro e w' ⟨⟨r, hr, rfl⟩, hb⟩
  have er := HtR.det hr ex3_ht
  subst er
  exact ⟨rfl, hb⟩
end Cod
end Go.Proofs.YtegpimaakgledaaDoor
