/- Whether rows agree, whether one is within another: the reference's answers. -/
import Derived.Test.YtnmaclpjddafnaaRows
import Derived.Test.YtnmaclpjddafnaaSignH
import Derived.Deep.RegionWith
import Derived.Deep.CutRange
namespace Go.Proofs.Ytnmaclpjddafnaa
open Go.RowKit
set_option linter.unusedVariables false
set_option linter.unusedSimpArgs false
def stAg (b : List Ch) (x : Ch) : Bool := !((atR b x.r x.c).2 && !decide ((atR b x.r x.c).1 = x))
def stWi (b : List Ch) (x : Ch) : Bool := (atR b x.r x.c).2 && decide ((atR b x.r x.c).1 = x)
def agQ (a b : List Ch) : Bool := a.all (stAg b) && (mayL a && mayL b)
def wiQ (a b : List Ch) : Bool := a.all (stWi b) && (mayL a && mayL b)
theorem all_no {p : Ch → Bool} {l : List Ch} {i : Nat} (hi : i < l.length) (h : p l[i] = false) : l.all p = false := by
  rw [List.all_eq_false]
  exact ⟨l[i], List.getElem_mem hi, by rw [h]; decide⟩
theorem all_yes {p : Ch → Bool} {l : List Ch} (h : ∀ k (hk : k < l.length), p l[k] = true) : l.all p = true := by
  rw [List.all_eq_true]
  intro x hx
  obtain ⟨k, hk, rfl⟩ := List.getElem_of_mem hx
  exact h k hk
abbrev row0 : Array Value := #[.int .i64 0, .int .i64 0, .int .i64 0, .int .i64 0, .int .i64 0]
/-- What stands behind the look-up: a block of its own that holds the choice. -/
def CutR (wr : World) (yr yc yf ys yv : Int) (fd : Bool) (x6 x7 : Value) (wx : World) : Prop :=
  ∃ g : Nat, x6 = .pointer (some ⟨g, 0, none⟩) ∧ x7 = .bool fd ∧ Below wr.heap.size wr wx ∧ Blk wx g 24 #[.int .i64 yr, .int .i64 yc, .int .i64 yf, .int .i64 ys, .int .i64 yv]
theorem cut_new {wr w1 : World} {yr yc yf ys yv : Int} {fd : Bool} (hb : Below wr.drew.heap.size wr.drew w1) :
    CutR wr yr yc yf ys yv fd (.pointer (some ⟨w1.heap.size, 0, none⟩)) (.bool fd) (w1.alloc (.cells #[.int .i64 yr, .int .i64 yc, .int .i64 yf, .int .i64 ys, .int .i64 yv] 24)) :=
  ⟨w1.heap.size, rfl, rfl, ((Below.refl wr.heap.size wr).drew.trans hb).alloc hb.size _, Blk.new w1 _ _⟩
theorem cut_old {wr w1 : World} {yr yc yf ys yv : Int} {fd : Bool} (hb : Below (wr.alloc (.cells row0 24)).drew.heap.size (wr.alloc (.cells row0 24)).drew w1) :
    CutR wr yr yc yf ys yv fd (.pointer (some ⟨wr.heap.size, 0, none⟩)) (.bool fd) (((((w1.setCell ⟨wr.heap.size, 0, none⟩ (.int .i64 yr)).setCell ⟨wr.heap.size, 1, none⟩ (.int .i64 yc)).setCell ⟨wr.heap.size, 2, none⟩ (.int .i64 yf)).setCell ⟨wr.heap.size, 3, none⟩ (.int .i64 ys)).setCell ⟨wr.heap.size, 4, none⟩ (.int .i64 yv)) :=
  ⟨wr.heap.size, rfl, rfl, below5 (((Below.refl wr.heap.size wr).alloc (Nat.le_refl _) _).drew.trans (hb.mono (by simp))) (Nat.le_refl _) _ _ _ _ _,
    set5 ((Blk.new wr 24 row0).drew.below hb (by simp)) _ _ _ _ _⟩
end Go.Proofs.Ytnmaclpjddafnaa
