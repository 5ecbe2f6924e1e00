import Derived.Test.YtonmojinijpneaaRows
import Derived.Test.YtonmojinijpneaaGround
import Derived.Maps.RangeRun
import Derived.Shelf.SlSortCmp.WholeK
import Derived.Shelf.SlGeneric
import Derived.Ground.SlsfProg
import Derived.Test.YtonmojinijpneaaProg
import Derived.Test.YtonmojinijpneaaSpA
import Derived.Test.YtonmojinijpneaaQuXa
import Derived.Sort.Grow
import Derived.BigRegion
import Derived.Laws.Cover1
import Derived.Test.YtonmojinijpneaaShelf
import Derived.LoopN
import Derived.Test.YtonmojinijpneaaQuH
import Derived.Test.YtonmojinijpneaaQuE
import Derived.Test.YtonmojinijpneaaQuL
import Derived.Test.YtonmojinijpneaaQuJ
import Derived.Test.YtonmojinijpneaaQuU
import Derived.Laws.Cover3
import Derived.Test.YtonmojinijpneaaQuM
import Derived.Test.YtonmojinijpneaaFlat
import Derived.Test.YtonmojinijpneaaQuT
import Derived.BigQuiet
section
/- Maps whose keys are structs: a range over one, whatever its round writes elsewhere. Of any program; no program's text. -/
namespace Go.Proofs.Ytonmojinijpneaa
open Go Go.RowKit
open Go.ChangeMaps (setBlock)
set_option linter.unusedVariables false
set_option linter.unusedSimpArgs false
set_option linter.unusedSectionVars false
namespace SMap
variable {P : Program} {κ : Type} [DecidableEq κ] {kv : κ → Value}
theorem ent_born : ∀ (l : List (κ × Value)) (n : Nat), (ent kv n l).map (·.born) = List.range' n l.length
  | [], n => rfl
  | x :: l, n => by rw [ent, List.map_cons, ent_born l (n + 1), List.length_cons, List.range'_succ]
theorem ent_mem {l : List (κ × Value)} {e : MapEntry} (h : e ∈ ent kv 0 l) : ∃ p, l[e.born]? = some p ∧ e.key = kv p.1 ∧ e.val = p.2 := by
  obtain ⟨i, hi⟩ := List.mem_iff_getElem?.1 h
  rw [ent_get] at hi
  cases hp : l[i]? with
  | none => rw [hp] at hi; cases hi
  | some p =>
    rw [hp] at hi
    simp at hi
    subst hi
    exact ⟨p, hp, rfl, rfl⟩
/-- What a range has handed out: ks, by the stamps seen. -/
structure Rng (l : List (κ × Value)) (seen : Array Nat) (ks : List (κ × Value)) : Prop where
  nd : seen.toList.Nodup
  lt : ∀ b ∈ seen.toList, b < l.length
  ks : ks.map some = seen.toList.map fun b => l[b]?
theorem Rng.start (l : List (κ × Value)) : Rng l #[] [] := ⟨by simp, by simp, rfl⟩
theorem Rng.step {l : List (κ × Value)} {seen : Array Nat} {ks : List (κ × Value)} (h : Rng l seen ks) {e : MapEntry} (he : e ∈ (leftOf (ent kv 0 l).toArray seen).toList) :
    ∃ p, p ∈ l ∧ e.key = kv p.1 ∧ e.val = p.2 ∧ Rng l (seen.push e.born) (ks ++ [p]) := by
  obtain ⟨h1, h2⟩ := mem_left he
  obtain ⟨p, hp, hk, hv⟩ := ent_mem (kv := kv) (l := l) (e := e) (by simpa using h1)
  have hn : ¬ e.born ∈ seen.toList := fun hm => by
    have : seen.contains e.born = true := by simpa using hm
    rw [this] at h2
    cases h2
  refine ⟨p, List.mem_of_getElem? hp, hk, hv, ?_, fun b hb => ?_, ?_⟩
  · rw [Array.toList_push, List.nodup_append]
    refine ⟨h.nd, by simp, fun a ha b hb e => ?_⟩
    rw [List.mem_singleton.1 hb] at e
    rw [e] at ha
    exact hn ha
  · rw [Array.toList_push] at hb
    rcases List.mem_append.1 hb with hb | hb
    · exact h.lt b hb
    · rw [List.mem_singleton.1 hb]
      exact (List.getElem?_eq_some_iff.1 hp).1
  · rw [List.map_append, Array.toList_push, List.map_append, h.ks, List.map_singleton, List.map_singleton, hp]
theorem Rng.all {l : List (κ × Value)} {seen : Array Nat} {ks : List (κ × Value)} (h : Rng l seen ks) (h0 : (leftOf (ent kv 0 l).toArray seen).size = 0) : ks.Perm l := by
  have hall : ∀ b, b < l.length → b ∈ seen.toList := fun b hb => by
    have hg : (ent kv 0 l)[b]? = some { key := kv l[b].1, val := l[b].2, born := 0 + b } := by rw [ent_get, List.getElem?_eq_getElem hb]; rfl
    have hm := List.mem_of_getElem? hg
    have hnil : (leftOf (ent kv 0 l).toArray seen) = #[] := Array.eq_empty_of_size_eq_zero h0
    unfold leftOf at hnil
    rw [Array.filter_eq_empty_iff] at hnil
    have := hnil _ (List.mem_toArray.2 hm)
    simpa using this
  have hp : seen.toList.Perm (List.range l.length) := by
    rw [List.perm_ext_iff_of_nodup h.nd List.nodup_range]
    exact fun b => ⟨fun hb => List.mem_range.2 (h.lt b hb), fun hb => hall b (List.mem_range.1 hb)⟩
  have h2 : (ks.map some).Perm (l.map some) := by
    rw [h.ks]
    refine (hp.map _).trans (List.Perm.of_eq ?_)
    apply List.ext_getElem?
    intro i
    rw [List.getElem?_map, List.getElem?_map]
    by_cases hi : i < l.length
    · rw [List.getElem?_range hi, List.getElem?_eq_getElem hi]
      simp
    · rw [List.getElem?_eq_none (by rw [List.length_range]; omega), List.getElem?_eq_none (by omega)]
      rfl
  have := h2.filterMap id
  simpa [List.filterMap_map] using this
theorem Rng.len {l : List (κ × Value)} {seen : Array Nat} {ks : List (κ × Value)} (h : Rng l seen ks) : ks.length ≤ l.length := by
  have e : ks.length = seen.toList.length := by have := congrArg List.length h.ks; simpa using this
  rw [e]
  have hp : seen.toList.Perm ((List.range l.length).filter fun b => decide (b ∈ seen.toList)) := by
    rw [List.perm_ext_iff_of_nodup h.nd (List.nodup_range.filter _)]
    intro b
    rw [List.mem_filter, List.mem_range, decide_eq_true_eq]
    exact ⟨fun hb => ⟨h.lt b hb, hb⟩, fun hb => hb.2⟩
  rw [hp.length_eq]
  exact Nat.le_trans (List.length_filter_le _ _) (by simp)
theorem Rng.mem {l : List (κ × Value)} {seen : Array Nat} {ks : List (κ × Value)} (h : Rng l seen ks) {p : κ × Value} (hp : p ∈ ks) : p ∈ l := by
  have : some p ∈ ks.map some := List.mem_map.2 ⟨p, hp, rfl⟩
  rw [h.ks] at this
  obtain ⟨b, _, hb⟩ := List.mem_map.1 this
  exact List.mem_of_getElem? hb
theorem Rng.keys {l : List (κ × Value)} {seen : Array Nat} {ks : List (κ × Value)} (h : Rng l seen ks) (hn : (l.map (·.1)).Nodup) : (ks.map (·.1)).Nodup := by
  have e : (ks.map (·.1)).map some = seen.toList.map fun b => (l[b]?).map (·.1) := by
    have := congrArg (List.map (Option.map (·.1))) h.ks
    rw [List.map_map, List.map_map] at this
    rw [List.map_map]
    exact this
  have h2 : (seen.toList.map fun b => (l[b]?).map (·.1)).Nodup := by
    unfold List.Nodup
    rw [List.pairwise_map]
    refine List.Pairwise.imp_of_mem (fun {a b} ha hb hne e2 => ?_) h.nd
    have la := h.lt a ha
    have lb := h.lt b hb
    rw [List.getElem?_eq_getElem la, List.getElem?_eq_getElem lb, Option.map_some, Option.map_some] at e2
    have e3 : (l.map (·.1))[a]'(by simpa using la) = (l.map (·.1))[b]'(by simpa using lb) := by
      rw [List.getElem_map, List.getElem_map]
      exact Option.some.inj e2
    exact hne ((List.getElem_inj hn).1 e3)
  rw [← e] at h2
  exact (List.pairwise_map.1 h2).imp fun hne e2 => hne (by rw [e2])
/-- The iterator, in block r. -/
def It (w : World) (r bm n : Nat) (seen : Array Nat) : Prop := w.heap[r]? = some (.mapIter (some bm) n seen n)
theorem run_range {mt kt vt : TypeId} (hm : P.underlying mt = some (.map kt vt)) (l : List (κ × Value)) (r : Nat) (w : World) (hb : MB kv w r l) :
    (Instr.range mt (.map (some r))).run P w = .ok (.pointer (some ⟨w.heap.size, 0, none⟩)) (w.alloc (.mapIter (some r) l.length #[] l.length)) ∧ It (w.alloc (.mapIter (some r) l.length #[] l.length)) w.heap.size r l.length #[] :=
  ⟨run_range_map (P := P) w mt kt vt r _ _ hm hb, heap_alloc_new w _⟩
theorem iter_seen {w : World} {r bm n : Nat} {seen : Array Nat} (h : It w r bm n seen) : w.iterSeen r = seen := by
  unfold World.iterSeen
  unfold It at h
  rw [h]
/-- A step of the range: all is handed out, or one entry more. -/
theorem run_next {l ks : List (κ × Value)} {seen : Array Nat} (w : World) (r bm : Nat) (hi : It w r bm l.length seen) (hb : MB kv w bm l) (hg : Rng l seen ks) (hne : bm ≠ r) :
    (ks.Perm l ∧ ∀ ty, (Instr.next (.pointer (some ⟨r, 0, none⟩)) false ty).run P w = .ok (.tuple #[.bool false]) w) ∨
    ∃ (p : κ × Value) (e : MapEntry) (w1 : World), p ∈ l ∧ e ∈ (leftOf (ent kv 0 l).toArray seen).toList ∧ Rng l (seen.push e.born) (ks ++ [p]) ∧
      (∀ ty, (Instr.next (.pointer (some ⟨r, 0, none⟩)) false ty).run P w = .ok (.tuple #[.bool true, kv p.1, p.2]) w1) ∧
      (Instr.entry (.pointer (some ⟨r, 0, none⟩))).run P w1 = .ok (.tuple #[kv p.1, p.2]) w1 ∧ It w1 r bm l.length (seen.push e.born) ∧ w.grownBy w1 (some r) ∧ w1.heap.size = w.heap.size := by
  have hlt : r < w.heap.size := (Array.getElem?_eq_some_iff.1 hi).1
  have hold : ∀ x ∈ (ent kv 0 l).toArray.toList, x.born < l.length := fun x hx => by
    have : x.born ∈ (ent kv 0 l).map (·.born) := List.mem_map_of_mem (by simpa using hx)
    rw [ent_born] at this
    have := List.mem_range'.1 this
    omega
  have hnd : ((ent kv 0 l).toArray.toList.map (·.born)).Nodup := by
    rw [show (ent kv 0 l).toArray.toList = ent kv 0 l by simp, ent_born]
    exact List.nodup_range'
  by_cases h0 : (leftOf (ent kv 0 l).toArray seen).size = 0
  · refine .inl ⟨hg.all h0, fun ty => ?_⟩
    rcases run_next_at (P := P) w ty r bm l.length l.length seen _ _ hi hb hold (Nat.le_refl _) with ⟨_, h⟩ | ⟨e, he, _⟩
    · exact h
    · have : leftOf (ent kv 0 l).toArray seen = #[] := Array.eq_empty_of_size_eq_zero h0
      rw [this] at he
      cases he
  · rcases run_next_at (P := P) w 0 r bm l.length l.length seen _ _ hi hb hold (Nat.le_refl _) with ⟨h, _⟩ | ⟨e, he, w1, hw1, h⟩
    · exact absurd h h0
    · obtain ⟨p, hp, hk, hv, hr⟩ := hg.step he
      have hb1 : w1.heap = w.heap := by rcases hw1 with rfl | rfl <;> rfl
      have hi1 : It (setBlock w1 r (.mapIter (some bm) l.length (seen.push e.born) l.length)) r bm l.length (seen.push e.born) := by
        unfold It setBlock
        simp [hb1, hlt]
      have hbm : MB kv (setBlock w1 r (.mapIter (some bm) l.length (seen.push e.born) l.length)) bm l := by
        unfold MB setBlock
        rw [hb1]
        simp only [Array.getElem?_setIfInBounds]
        rw [if_neg (fun e => hne e.symm)]
        exact hb
      have hen := run_entry_at (P := P) _ r bm l.length seen _ l.length e hi1 hbm (mem_left he).1 hnd
      rw [hk, hv] at h hen
      refine .inr ⟨p, e, _, hp, he, hr, fun ty => ?_, hen, hi1, ?_, ?_⟩
      · exact h
      · refine ⟨?_, ?_, ?_, ?_, fun k hk hne' => ?_⟩
        · rcases hw1 with rfl | rfl <;> rfl
        · rcases hw1 with rfl | rfl <;> rfl
        · rcases hw1 with rfl | rfl <;> rfl
        · unfold setBlock; simp [hb1]
        · unfold setBlock
          simp only [Array.getElem?_setIfInBounds]
          rw [if_neg (fun e => hne' (by rw [e])), hb1]
      · unfold setBlock; simp [hb1]
end SMap
end Go.Proofs.Ytonmojinijpneaa
end
section
/-
  DERIVED: THE SHELF's CONTRACTS AT THIS DUMP, IN PLAIN WORDS (tools/lay-plain.mjs out of 'TryShelfS.lean', which tools/lay-shelf.mjs wrote): THE SAME DECLARATIONS UNDER THE SAME NAMES: 'import', 'namespace', 'open', 'def', 'theorem' AND NOTHING ELSE: no command of the shelf's: FOR A HAND-IN. Each laying: the table of numbers ('.._ren') and one theorem, a field a fact of the dump's own or the kernel's comparison; each contract: ONE APPLICATION.
-/
namespace Go.Proofs
open Go.Shelf
def Try.sortAsk_ren : Go.Shelf.Ren := ⟨fun | 6 => 51 | 15 => 75 | 14 => 74 | 28 => 96 | 29 => 97 | 20 => 88 | 21 => 89 | 22 => 90 | 23 => 91 | 24 => 92 | 25 => 93 | 26 => 94 | 27 => 95 | 46 => 100 | 47 => 101 | 48 => 102 | 49 => 103 | 50 => 104 | 57 => 107 | n => n, fun | 22 => 88 | 24 => 95 | 25 => 100 | 3 => 3 | 39 => 127 | 0 => 0 | 53 => 148 | 55 => 121 | 4 => 4 | 46 => 142 | 45 => 141 | 50 => 84 | 5 => 5 | 9 => 9 | 66 => 151 | 70 => 155 | 76 => 159 | 77 => 160 | n => n, fun | n => n⟩
theorem Try.sortAsk : Go.Proofs.SlLaysF0.n6 Try.prog Try.sortAsk_ren := {
  mixed := by kernel_rfl
  f6 := ⟨Try.f51.name, by decide, Try.func51.trans (congrArg some (by kernel_rfl))⟩
  f14 := ⟨Try.f74.name, by decide, Try.func74.trans (congrArg some (by kernel_rfl))⟩
  f15 := Try.func75.trans (congrArg some (by kernel_rfl))
  f20 := ⟨Try.f88.name, by decide, Try.func88.trans (congrArg some (by kernel_rfl))⟩
  f21 := ⟨Try.f89.name, by decide, Try.func89.trans (congrArg some (by kernel_rfl))⟩
  f22 := ⟨Try.f90.name, by decide, Try.func90.trans (congrArg some (by kernel_rfl))⟩
  f23 := ⟨Try.f91.name, by decide, Try.func91.trans (congrArg some (by kernel_rfl))⟩
  f24 := ⟨Try.f92.name, by decide, Try.func92.trans (congrArg some (by kernel_rfl))⟩
  f25 := ⟨Try.f93.name, by decide, Try.func93.trans (congrArg some (by kernel_rfl))⟩
  f26 := ⟨Try.f94.name, by decide, Try.func94.trans (congrArg some (by kernel_rfl))⟩
  f27 := ⟨Try.f95.name, by decide, Try.func95.trans (congrArg some (by kernel_rfl))⟩
  f28 := Try.func96.trans (congrArg some (by kernel_rfl))
  f29 := Try.func97.trans (congrArg some (by kernel_rfl))
  f46 := ⟨Try.f100.name, by decide, Try.func100.trans (congrArg some (by kernel_rfl))⟩
  f47 := Try.func101.trans (congrArg some (by kernel_rfl))
  f48 := Try.func102.trans (congrArg some (by kernel_rfl))
  f49 := ⟨Try.f103.name, by decide, Try.func103.trans (congrArg some (by kernel_rfl))⟩
  f50 := ⟨Try.f104.name, by decide, Try.func104.trans (congrArg some (by kernel_rfl))⟩
  f57 := ⟨Try.f107.name, by decide, Try.func107.trans (congrArg some (by kernel_rfl))⟩
  t0 := Try.underlying0
  a0 := Try.isAgg0
  z0 := Try.sizeOf0
  v0 := Try.zeroValue0
  t3 := Try.underlying3
  a3 := Try.isAgg3
  z3 := Try.sizeOf3
  v3 := Try.zeroValue3
  t4 := Try.underlying4
  a4 := Try.isAgg4
  z4 := Try.sizeOf4
  v4 := Try.zeroValue4
  t5 := Try.underlying5
  a5 := Try.isAgg5
  z5 := Try.sizeOf5
  v5 := Try.zeroValue5
  t9 := Try.underlying9
  a9 := Try.isAgg9
  z9 := Try.sizeOf9
  v9 := Try.zeroValue9
  t22 := Try.underlying88
  a22 := Try.isAgg88
  z22 := Try.sizeOf88
  v22 := Try.zeroValue88
  t25 := Try.underlying100
  a25 := Try.isAgg100
  z25 := Try.sizeOf100
  v25 := Try.zeroValue100
  t39 := Try.underlying127
  a39 := Try.isAgg127
  z39 := Try.sizeOf127
  v39 := Try.zeroValue127
  t45 := Try.underlying141
  a45 := Try.isAgg141
  z45 := Try.sizeOf141
  v45 := Try.zeroValue141
  t46 := Try.underlying142
  a46 := Try.isAgg142
  z46 := Try.sizeOf142
  v46 := Try.zeroValue142
  t50 := Try.underlying84
  a50 := Try.isAgg84
  z50 := Try.sizeOf84
  v50 := Try.zeroValue84
  t53 := Try.underlying148
  a53 := Try.isAgg148
  z53 := Try.sizeOf148
  v53 := Try.zeroValue148
  t55 := Try.underlying121
  a55 := Try.isAgg121
  z55 := Try.sizeOf121
  v55 := Try.zeroValue121
  t66 := Try.underlying151
  a66 := Try.isAgg151
  z66 := Try.sizeOf151
  v66 := Try.zeroValue151
  t70 := Try.underlying155
  a70 := Try.isAgg155
  z70 := Try.sizeOf155
  v70 := Try.zeroValue155
  t76 := Try.underlying159
  a76 := Try.isAgg159
  z76 := Try.sizeOf159
  v76 := Try.zeroValue159
  t77 := Try.underlying160
  a77 := Try.isAgg160
  z77 := Try.sizeOf160
  v77 := Try.zeroValue160 }
end Go.Proofs
end
section
/- queue.Left's comparison. -/
namespace Go.Proofs.Ytonmojinijpneaa
open Go Go.RowKit Go.Sort Go.Proofs.Ytonmojinijpneaa.Sp
set_option linter.unusedVariables false
set_option linter.unusedSimpArgs false
namespace Qu
def cmpS (a b : ByteArray) : Int := if kLess a b = true then -1 else if kLess b a = true then 1 else 0
theorem isNaN_s (a : ByteArray) (w : World) : Calls Try.prog 76 #[.string a] w fun e w' => e = .returned (.bool false) ∧ w' = w := by
  go_enter Try.func76, Try.ntmps76
  go_wp2
  go_ret
  exact ⟨by simp, rfl⟩
set_option maxHeartbeats 1000000 in
theorem compare_s (a b : ByteArray) (w : World) : Calls Try.prog 54 #[.string a, .string b] w fun e w' => e = .returned (.int .i64 (cmpS a b)) ∧ w' = w := by
  have N1 := hide (isNaN_s a w)
  have N2 := hide (isNaN_s b w)
  unfold cmpS kLess
  by_cases h1 : Op.bytesLess a.toList b.toList = true
  · rw [if_pos h1]
    go_enter Try.func54, Try.ntmps54
    go_wp2_with fail
    refine N1.out.mono ?_
    rintro e w' ⟨rfl, rfl⟩
    go_wp2_with fail
    refine N2.out.mono ?_
    rintro e w' ⟨rfl, rfl⟩
    go_wp2_with fail
    go_ret
    exact ⟨rfl, rfl⟩
  rw [if_neg h1]
  have h1' : Op.bytesLess a.toList b.toList = false := by simpa using h1
  clear h1
  by_cases h2 : Op.bytesLess b.toList a.toList = true
  · have hne : (a.toList == b.toList) = false := by
      rw [beq_eq_false_iff_ne]
      intro e
      rw [e, bl_irr] at h2
      cases h2
    rw [if_pos h2]
    go_enter Try.func54, Try.ntmps54
    go_wp2_with fail
    refine N1.out.mono ?_
    rintro e w' ⟨rfl, rfl⟩
    go_wp2_with fail
    refine N2.out.mono ?_
    rintro e w' ⟨rfl, rfl⟩
    go_wp2_with fail
    go_ret
    exact ⟨rfl, rfl⟩
  · have h2' : Op.bytesLess b.toList a.toList = false := by simpa using h2
    have he : a.toList = b.toList := bl_tri _ _ h1' h2'
    have heq : (a.toList == b.toList) = true := by rw [he]; simp
    rw [if_neg h2]
    clear h2 he
    go_enter Try.func54, Try.ntmps54
    go_wp2_with fail
    refine N1.out.mono ?_
    rintro e w' ⟨rfl, rfl⟩
    go_wp2_with fail
    refine N2.out.mono ?_
    rintro e w' ⟨rfl, rfl⟩
    go_wp2_with fail
    go_ret
    exact ⟨rfl, rfl⟩
def Gd (w w' : World) : Prop := ∃ q, w' = w.drewN q
theorem gd_trans {a b c : World} (h : Gd a b) (k : Gd b c) : Gd a c := by
  obtain ⟨q, rfl⟩ := h
  obtain ⟨r, rfl⟩ := k
  exact ⟨q + r, by rw [World.drewN_drewN]⟩
theorem gd_refl (w : World) : Gd w w := ⟨0, rfl⟩
def cfC (x y : Chan) : Int := or3 (cmpS x.key y.key) (cmpI x.fr y.fr) (cmpI x.to y.to)
set_option maxRecDepth 100000 in
set_option maxHeartbeats 4000000 in
theorem closure_c (x y : Chan) (w : World) :
    Calls Try.prog 52 #[.agg #[.string x.key, .int .i64 x.fr, .int .i64 x.to], .agg #[.string y.key, .int .i64 y.fr, .int .i64 y.to]] w fun e w' => e = .returned (.int .i64 (cfC x y)) ∧ ∃ q os, w' = grow (w.drewN q) os := by
  obtain ⟨a, b, c⟩ := x
  obtain ⟨a', b', c'⟩ := y
  unfold cfC
  simp only
  have C1 := hide (fun w' => compare_s a a' w')
  have C2 := hide (fun w' => compare_c b b' w')
  have C3 := hide (fun w' => compare_c c c' w')
  have OC := hide (fun (x y z : Int) (g : Nat) (w' : World) h0 h1 h2 => or_c x y z g w' h0 h1 h2)
  go_enter Try.func52, Try.ntmps52
  go_wp2_with fail
  have ba := Blk.new w 95 #[.string a, .int .i64 b, .int .i64 c]
  have hba := (Below.refl (w.alloc (.cells #[.string a, .int .i64 b, .int .i64 c] 95)).heap.size (w.alloc (.cells #[.string a, .int .i64 b, .int .i64 c] 95))).alloc (Nat.le_refl _) (.cells #[.string a', .int .i64 b', .int .i64 c'] 95)
  have ba2 := ba.below hba ba.lt
  have bb := Blk.new (w.alloc (.cells #[.string a, .int .i64 b, .int .i64 c] 95)) 95 #[.string a', .int .i64 b', .int .i64 c']
  rw [show (w.alloc (.cells #[.string a, .int .i64 b, .int .i64 c] 95)).heap.size = w.heap.size + 1 by simp] at bb
  have hg : ((w.alloc (.cells #[.string a, .int .i64 b, .int .i64 c] 95)).alloc (.cells #[.string a', .int .i64 b', .int .i64 c'] 95)) = grow w #[.cells #[.string a, .int .i64 b, .int .i64 c] 95, .cells #[.string a', .int .i64 b', .int .i64 c'] 95] := by
    rw [alloc_eq_grow, alloc_eq_grow, grow_grow]
    rfl
  have hz : ((w.alloc (.cells #[.string a, .int .i64 b, .int .i64 c] 95)).alloc (.cells #[.string a', .int .i64 b', .int .i64 c'] 95)).heap.size = w.heap.size + 2 := by simp
  obtain ⟨W2, hW2⟩ : ∃ x, (w.alloc (.cells #[.string a, .int .i64 b, .int .i64 c] 95)).alloc (.cells #[.string a', .int .i64 b', .int .i64 c'] 95) = x := ⟨_, rfl⟩
  rw [hW2] at ba2 bb hg hz ⊢
  have ca0 := ba2.cell 0
  have ca1 := ba2.cell 1
  have ca2 := ba2.cell 2
  have cb0 := bb.cell 0
  have cb1 := bb.cell 1
  have cb2 := bb.cell 2
  have HG := hide hg
  have HZ := hide hz
  clear ba hba ba2 bb hg hz hW2
  let R : Nat → Value → World → Prop := fun sl u _ => match sl with
    | 5 => u = .pointer (some ⟨w.heap.size, 0, none⟩)
    | 6 => u = .string a
    | 7 => u = .pointer (some ⟨w.heap.size + 1, 0, none⟩)
    | 8 => u = .string a'
    | 9 => u = .int .i64 (cmpS a a')
    | 10 => u = .pointer (some ⟨w.heap.size, 1, none⟩)
    | 11 => u = .int .i64 b
    | 12 => u = .pointer (some ⟨w.heap.size + 1, 1, none⟩)
    | 13 => u = .int .i64 b'
    | 14 => u = .int .i64 (cmpI b b')
    | 15 => u = .pointer (some ⟨w.heap.size, 2, none⟩)
    | 16 => u = .int .i64 c
    | 17 => u = .pointer (some ⟨w.heap.size + 1, 2, none⟩)
    | 18 => u = .int .i64 c'
    | 19 => u = .int .i64 (cmpI c c')
    | _ => True
  refine wp_region_relJ 15 19 R Gd (fun _ _ => True) (by kernel_rfl) (by kernel_rfl) (by kernel_rfl) (by kernel_rfl) (by kernel_rfl) (fun _ _ _ h1 h2 => gd_trans h1 h2) ⟨1, rfl⟩ trivial (fun t v wx wy h _ => h) ?step1 ?fin1
  case step1 =>
    intro op hop
    simp only [List.take, List.mem_cons, List.not_mem_nil, or_false] at hop
    rcases hop with rfl | rfl | rfl | rfl | rfl | rfl | rfl | rfl | rfl | rfl | rfl | rfl | rfl | rfl | rfl
    · refine ⟨fun h => absurd h (by decide), fun _ b1 a1 w1 hk hj hs hr => ?_⟩
      obtain ⟨q, rfl⟩ := hk
      have e2 : a1.tmps.getD 2 undef = .pointer (some ⟨w.heap.size, 0, none⟩) := hs 2 (by decide)
      rw [Array.getD_eq_getD_getElem?] at e2
      unfold Oper.wp
      simp only [execOp, Act.eval, Array.getD_eq_getD_getElem?, e2]
      go_simp
      exact ⟨_, rfl, rfl, gd_refl _⟩
    · refine ⟨fun h => absurd h (by decide), fun _ b1 a1 w1 hk hj hs hr => ?_⟩
      obtain ⟨q, rfl⟩ := hk
      have e5 : a1.tmps.getD 5 undef = .pointer (some ⟨w.heap.size, 0, none⟩) := hr 5 (by decide) (by apply Array.mem_toList_iff.1; repeat (first | exact List.Mem.head _ | apply List.Mem.tail))
      have cc0 : (W2.drewN q).cell? ⟨w.heap.size, 0, none⟩ = some (.string a) := ca0
      rw [Array.getD_eq_getD_getElem?] at e5
      unfold Oper.wp
      simp only [execOp, Act.eval, Array.getD_eq_getD_getElem?, e5]
      go_simp
      exact ⟨_, rfl, rfl, gd_refl _⟩
    · refine ⟨fun h => absurd h (by decide), fun _ b1 a1 w1 hk hj hs hr => ?_⟩
      obtain ⟨q, rfl⟩ := hk
      have e3 : a1.tmps.getD 3 undef = .pointer (some ⟨w.heap.size + 1, 0, none⟩) := hs 3 (by decide)
      rw [Array.getD_eq_getD_getElem?] at e3
      unfold Oper.wp
      simp only [execOp, Act.eval, Array.getD_eq_getD_getElem?, e3]
      go_simp
      exact ⟨_, rfl, rfl, gd_refl _⟩
    · refine ⟨fun h => absurd h (by decide), fun _ b1 a1 w1 hk hj hs hr => ?_⟩
      obtain ⟨q, rfl⟩ := hk
      have e7 : a1.tmps.getD 7 undef = .pointer (some ⟨w.heap.size + 1, 0, none⟩) := hr 7 (by decide) (by apply Array.mem_toList_iff.1; repeat (first | exact List.Mem.head _ | apply List.Mem.tail))
      have cc0 : (W2.drewN q).cell? ⟨w.heap.size + 1, 0, none⟩ = some (.string a') := cb0
      rw [Array.getD_eq_getD_getElem?] at e7
      unfold Oper.wp
      simp only [execOp, Act.eval, Array.getD_eq_getD_getElem?, e7]
      go_simp
      exact ⟨_, rfl, rfl, gd_refl _⟩
    · refine ⟨fun h => absurd h (by decide), fun _ b1 a1 w1 hk hj hs hr => ?_⟩
      obtain ⟨q, rfl⟩ := hk
      have e6 : a1.tmps.getD 6 undef = .string a := hr 6 (by decide) (by apply Array.mem_toList_iff.1; repeat (first | exact List.Mem.head _ | apply List.Mem.tail))
      have e8 : a1.tmps.getD 8 undef = .string a' := hr 8 (by decide) (by apply Array.mem_toList_iff.1; repeat (first | exact List.Mem.head _ | apply List.Mem.tail))
      rw [Array.getD_eq_getD_getElem?] at e6
      rw [Array.getD_eq_getD_getElem?] at e8
      unfold Oper.wp
      simp only [execOp, Act.eval, Array.getD_eq_getD_getElem?, e6, e8]
      go_simp
      refine (C1.out _).mono ?_
      rintro e w9 ⟨rfl, rfl⟩
      exact ⟨_, rfl, rfl, gd_refl _⟩
    · refine ⟨fun h => absurd h (by decide), fun _ b1 a1 w1 hk hj hs hr => ?_⟩
      obtain ⟨q, rfl⟩ := hk
      have e2 : a1.tmps.getD 2 undef = .pointer (some ⟨w.heap.size, 0, none⟩) := hs 2 (by decide)
      rw [Array.getD_eq_getD_getElem?] at e2
      unfold Oper.wp
      simp only [execOp, Act.eval, Array.getD_eq_getD_getElem?, e2]
      go_simp
      exact ⟨_, rfl, rfl, gd_refl _⟩
    · refine ⟨fun h => absurd h (by decide), fun _ b1 a1 w1 hk hj hs hr => ?_⟩
      obtain ⟨q, rfl⟩ := hk
      have e10 : a1.tmps.getD 10 undef = .pointer (some ⟨w.heap.size, 1, none⟩) := hr 10 (by decide) (by apply Array.mem_toList_iff.1; repeat (first | exact List.Mem.head _ | apply List.Mem.tail))
      have cc0 : (W2.drewN q).cell? ⟨w.heap.size, 1, none⟩ = some (.int .i64 b) := ca1
      rw [Array.getD_eq_getD_getElem?] at e10
      unfold Oper.wp
      simp only [execOp, Act.eval, Array.getD_eq_getD_getElem?, e10]
      go_simp
      exact ⟨_, rfl, rfl, gd_refl _⟩
    · refine ⟨fun h => absurd h (by decide), fun _ b1 a1 w1 hk hj hs hr => ?_⟩
      obtain ⟨q, rfl⟩ := hk
      have e3 : a1.tmps.getD 3 undef = .pointer (some ⟨w.heap.size + 1, 0, none⟩) := hs 3 (by decide)
      rw [Array.getD_eq_getD_getElem?] at e3
      unfold Oper.wp
      simp only [execOp, Act.eval, Array.getD_eq_getD_getElem?, e3]
      go_simp
      exact ⟨_, rfl, rfl, gd_refl _⟩
    · refine ⟨fun h => absurd h (by decide), fun _ b1 a1 w1 hk hj hs hr => ?_⟩
      obtain ⟨q, rfl⟩ := hk
      have e12 : a1.tmps.getD 12 undef = .pointer (some ⟨w.heap.size + 1, 1, none⟩) := hr 12 (by decide) (by apply Array.mem_toList_iff.1; repeat (first | exact List.Mem.head _ | apply List.Mem.tail))
      have cc0 : (W2.drewN q).cell? ⟨w.heap.size + 1, 1, none⟩ = some (.int .i64 b') := cb1
      rw [Array.getD_eq_getD_getElem?] at e12
      unfold Oper.wp
      simp only [execOp, Act.eval, Array.getD_eq_getD_getElem?, e12]
      go_simp
      exact ⟨_, rfl, rfl, gd_refl _⟩
    · refine ⟨fun h => absurd h (by decide), fun _ b1 a1 w1 hk hj hs hr => ?_⟩
      obtain ⟨q, rfl⟩ := hk
      have e11 : a1.tmps.getD 11 undef = .int .i64 b := hr 11 (by decide) (by apply Array.mem_toList_iff.1; repeat (first | exact List.Mem.head _ | apply List.Mem.tail))
      have e13 : a1.tmps.getD 13 undef = .int .i64 b' := hr 13 (by decide) (by apply Array.mem_toList_iff.1; repeat (first | exact List.Mem.head _ | apply List.Mem.tail))
      rw [Array.getD_eq_getD_getElem?] at e11
      rw [Array.getD_eq_getD_getElem?] at e13
      unfold Oper.wp
      simp only [execOp, Act.eval, Array.getD_eq_getD_getElem?, e11, e13]
      go_simp
      refine (C2.out _).mono ?_
      rintro e w9 ⟨rfl, rfl⟩
      exact ⟨_, rfl, rfl, gd_refl _⟩
    · refine ⟨fun h => absurd h (by decide), fun _ b1 a1 w1 hk hj hs hr => ?_⟩
      obtain ⟨q, rfl⟩ := hk
      have e2 : a1.tmps.getD 2 undef = .pointer (some ⟨w.heap.size, 0, none⟩) := hs 2 (by decide)
      rw [Array.getD_eq_getD_getElem?] at e2
      unfold Oper.wp
      simp only [execOp, Act.eval, Array.getD_eq_getD_getElem?, e2]
      go_simp
      exact ⟨_, rfl, rfl, gd_refl _⟩
    · refine ⟨fun h => absurd h (by decide), fun _ b1 a1 w1 hk hj hs hr => ?_⟩
      obtain ⟨q, rfl⟩ := hk
      have e15 : a1.tmps.getD 15 undef = .pointer (some ⟨w.heap.size, 2, none⟩) := hr 15 (by decide) (by apply Array.mem_toList_iff.1; repeat (first | exact List.Mem.head _ | apply List.Mem.tail))
      have cc0 : (W2.drewN q).cell? ⟨w.heap.size, 2, none⟩ = some (.int .i64 c) := ca2
      rw [Array.getD_eq_getD_getElem?] at e15
      unfold Oper.wp
      simp only [execOp, Act.eval, Array.getD_eq_getD_getElem?, e15]
      go_simp
      exact ⟨_, rfl, rfl, gd_refl _⟩
    · refine ⟨fun h => absurd h (by decide), fun _ b1 a1 w1 hk hj hs hr => ?_⟩
      obtain ⟨q, rfl⟩ := hk
      have e3 : a1.tmps.getD 3 undef = .pointer (some ⟨w.heap.size + 1, 0, none⟩) := hs 3 (by decide)
      rw [Array.getD_eq_getD_getElem?] at e3
      unfold Oper.wp
      simp only [execOp, Act.eval, Array.getD_eq_getD_getElem?, e3]
      go_simp
      exact ⟨_, rfl, rfl, gd_refl _⟩
    · refine ⟨fun h => absurd h (by decide), fun _ b1 a1 w1 hk hj hs hr => ?_⟩
      obtain ⟨q, rfl⟩ := hk
      have e17 : a1.tmps.getD 17 undef = .pointer (some ⟨w.heap.size + 1, 2, none⟩) := hr 17 (by decide) (by apply Array.mem_toList_iff.1; repeat (first | exact List.Mem.head _ | apply List.Mem.tail))
      have cc0 : (W2.drewN q).cell? ⟨w.heap.size + 1, 2, none⟩ = some (.int .i64 c') := cb2
      rw [Array.getD_eq_getD_getElem?] at e17
      unfold Oper.wp
      simp only [execOp, Act.eval, Array.getD_eq_getD_getElem?, e17]
      go_simp
      exact ⟨_, rfl, rfl, gd_refl _⟩
    · refine ⟨fun _ a1 w1 hk hj hs hr => ?_, fun h => absurd rfl h⟩
      obtain ⟨q, rfl⟩ := hk
      have e16 : a1.tmps.getD 16 undef = .int .i64 c := hr 16 (by decide) (by apply Array.mem_toList_iff.1; repeat (first | exact List.Mem.head _ | apply List.Mem.tail))
      have e18 : a1.tmps.getD 18 undef = .int .i64 c' := hr 18 (by decide) (by apply Array.mem_toList_iff.1; repeat (first | exact List.Mem.head _ | apply List.Mem.tail))
      rw [Array.getD_eq_getD_getElem?] at e16
      rw [Array.getD_eq_getD_getElem?] at e18
      unfold Oper.wp
      simp only [execOp, Act.eval, Array.getD_eq_getD_getElem?, e16, e18]
      go_simp
      refine (C3.out _).mono ?_
      rintro e w9 ⟨rfl, rfl⟩
      exact ⟨_, rfl, rfl, gd_refl _⟩
  case fin1 =>
    intro ff w9 hk hj hr
    obtain ⟨q, rfl⟩ := hk
    have e9 : ff 9 = .int .i64 (cmpS a a') := hr 9 (by decide)
    have e14 : ff 14 = .int .i64 (cmpI b b') := hr 14 (by decide)
    have e19 : ff 19 = .int .i64 (cmpI c c') := hr 19 (by decide)
    have bo := Blk.new (W2.drewN q) 3 #[.int .i64 (cmpS a a'), .int .i64 (cmpI b b'), .int .i64 (cmpI c c')]
    have hg2 : (W2.drewN q).alloc (.cells #[.int .i64 (cmpS a a'), .int .i64 (cmpI b b'), .int .i64 (cmpI c c')] 3) = grow (w.drewN q) (#[.cells #[.string a, .int .i64 b, .int .i64 c] 95, .cells #[.string a', .int .i64 b', .int .i64 c'] 95] ++ #[.cells #[.int .i64 (cmpS a a'), .int .i64 (cmpI b b'), .int .i64 (cmpI c c')] 3]) := by
      rw [HG.out, alloc_eq_grow]
      show grow (grow (w.drewN q) _) _ = _
      rw [grow_grow]
    have OC1 := hide (OC.out _ _ _ _ _ (bo.cell 0) (bo.cell 1) (bo.cell 2))
    have HG2 := hide hg2
    clear bo hg2 hr hj ca0 ca1 ca2 cb0 cb1 cb2
    simp only [putAll, slotsOf, List.take, List.drop, List.filterMap_cons, List.filterMap_nil, List.foldl_cons, List.foldl_nil, Act.put, e9, e14, e19]
    simp only [List.setIfInBounds_toArray, List.set_cons_succ, List.set_cons_zero]
    go_wp2_with fail
    refine OC1.out.mono ?_
    rintro e w' ⟨rfl, rfl⟩
    go_wp2_with fail
    go_ret
    exact ⟨rfl, q, _, HG2.out⟩
end Qu
end Go.Proofs.Ytonmojinijpneaa
end
section
/- slices.SortFunc at queue.channel: what the row holds behind it. -/
namespace Go.Proofs.Ytonmojinijpneaa
open Go Go.RowKit Go.Sort Go.Proofs.Ytonmojinijpneaa.Sp
set_option linter.unusedVariables false
set_option linter.unusedSimpArgs false
namespace Qu
instance : Inhabited Chan := ⟨⟨⟨#[]⟩, 0, 0⟩⟩
def ckC (x : Chan) : List Value := [.string x.key, .int .i64 x.fr, .int .i64 x.to]
def ckCs (l : List Chan) : List Value := l.flatMap ckC
theorem ckCs_app (a b : List Chan) : ckCs (a ++ b) = ckCs a ++ ckCs b := by simp [ckCs]
theorem ckCs_at : ∀ (l : List Chan) (i : Nat) (hi : i < l.length) (j : Nat), j < 3 → (ckCs l)[i * 3 + j]? = (ckC l[i])[j]?
  | t :: l, 0, _, j, hj => by
    rw [show ckCs (t :: l) = ckC t ++ ckCs l from rfl, List.getElem?_append_left (by show _ < 3; omega)]
    simp
  | t :: l, i + 1, hi, j, hj => by
    rw [show ckCs (t :: l) = ckC t ++ ckCs l from rfl, List.getElem?_append_right (by show 3 ≤ _; omega)]
    have := ckCs_at l i (by simpa using hi) j hj
    rw [show (i + 1) * 3 + j - (ckC t).length = i * 3 + j by show (i + 1) * 3 + j - 3 = _; omega]
    simpa using this
theorem cmpS_neg {a b : ByteArray} : cmpS a b < 0 ↔ kLess a b = true := by
  unfold cmpS
  by_cases h : kLess a b = true
  · simp [h]
  · simp [h]
    split <;> omega
theorem cmpS_zero {a b : ByteArray} : cmpS a b = 0 ↔ a = b := by
  unfold cmpS
  by_cases h : kLess a b = true
  · rw [if_pos h]
    constructor
    · intro e; omega
    · intro e
      subst e
      unfold kLess at h
      rw [bl_irr] at h
      cases h
  · rw [if_neg h]
    by_cases k : kLess b a = true
    · rw [if_pos k]
      constructor
      · intro e; omega
      · intro e
        subst e
        exact absurd k h
    · rw [if_neg k]
      exact ⟨fun _ => kLess_tri (by simpa using h) (by simpa using k), fun _ => rfl⟩
theorem lt_iff (x y : Chan) : ltOf cfC x y = true ↔ chLt x y := by
  unfold ltOf cfC or3
  rw [decide_eq_true_eq]
  unfold chLt
  by_cases h0 : cmpS x.key y.key = 0
  · have e := cmpS_zero.1 h0
    have hn : ¬ kLess x.key y.key = true := fun h => by
      rw [e] at h
      unfold kLess at h
      rw [bl_irr] at h
      cases h
    rw [if_neg (by omega)]
    unfold cmpI
    constructor
    · intro h
      refine .inr ⟨e, ?_⟩
      split at h <;> split at h <;> (try split at h) <;> (try split at h) <;> omega
    · rintro (h | ⟨_, h⟩)
      · exact absurd h hn
      · split <;> split <;> (try split) <;> (try split) <;> omega
  · rw [if_pos (by omega), cmpS_neg]
    constructor
    · exact .inl
    · rintro (h | ⟨e, _⟩)
      · exact h
      · exact absurd (cmpS_zero.2 e) h0
theorem lt_no (x y : Chan) : ltOf cfC x y = false ↔ ¬ chLt x y := by
  rw [← lt_iff]
  simp
theorem swoC : SWO (ltOf cfC) where
  irrefl x := by rw [lt_no]; exact chLt_irr x
  trans x y z h1 h2 := by rw [lt_iff] at *; exact chLt_trans h1 h2
  ntrans x y z h1 h2 := by rw [lt_no] at *; exact chLt_nle h1 h2
theorem cmpC (blk off size : Nat) (w : World) : CmpLays Try.prog 52 #[] ckC 3 cfC blk off size w := fun _ _ _ _ x y => closure_c x y _
theorem isAggC (w : World) : (isAgg 95).run Try.prog w = .ok true w := by kernel_rfl
theorem sizeOfC (w : World) : (Go.sizeOf 95).run Try.prog w = .ok 3 w := by kernel_rfl
theorem ins_nil (A : Option Addr) (cap : Nat) (f : Value) (w : World) : Calls Try.prog 88 #[.slice A 0 cap, .int .i64 0, .int .i64 0, f] w fun e w' => e = .returned (.tuple #[]) ∧ w' = w := by
  go_enter Try.func88, Try.ntmps88
  go_wp2
  refine wp_loop_rounds 1 ?_
  rw [rounds_succ]
  go_wp2
  go_end0
  exact ⟨rfl, rfl⟩
theorem pdq_nil (A : Option Addr) (cap : Nat) (f : Value) (x : Int) (w : World) : Calls Try.prog 74 #[.slice A 0 cap, .int .i64 0, .int .i64 0, .int .i64 x, f] w fun e w' => e = .returned (.tuple #[]) ∧ w' = w := by
  have IC := hide (ins_nil A cap f w)
  go_enter Try.func74, Try.ntmps74
  go_wp2_with fail
  refine wp_loop_rounds 1 ?_
  rw [rounds_succ]
  go_wp2_with fail
  refine IC.out.mono ?_
  rintro e w' ⟨rfl, rfl⟩
  go_wp2_with fail
  first
    | (go_end0; exact ⟨rfl, rfl⟩)
    | (refine bodyPost_ret (results_none rfl _ _ _) rfl ?_; exact ⟨rfl, rfl⟩)
theorem sort_nil (A : Option Addr) (cap : Nat) (f : Value) (w : World) : Calls Try.prog 51 #[.slice A 0 cap, f] w fun e w' => e = .returned (.tuple #[]) ∧ w' = w := by
  have LC := hide (Try.bits_Len 0 w (by omega) (by omega))
  have PC := hide (fun x => pdq_nil A cap f x w)
  go_enter Try.func51, Try.ntmps51
  go_wp2_with fail
  refine LC.out.mono ?_
  rintro e w' ⟨rfl, rfl⟩
  go_wp2_with fail
  refine (PC.out _).mono ?_
  rintro e w' ⟨rfl, rfl⟩
  go_wp2_with fail
  go_end0
  exact ⟨rfl, rfl⟩
def sortPost (g : Nat) (d : Array Chan) (w : World) (e : Ending) (w' : World) : Prop := ∃ d' : Array Chan, e = .returned (.tuple #[]) ∧ d'.toList.Perm d.toList ∧ (∀ i j, i < j → j < d'.size → ¬ chLt d'[j]! d'[i]!) ∧ HoldsK ckC 3 w' g 0 d' ∧ w.grownBy w' (some g)
theorem grown_sort (w : World) (g m : Nat) (d : Array Chan) (os : Array Obj) : w.grownBy (sortWorldK ckC 3 w g 0 m d os) (some g) := by
  refine ⟨rfl, rfl, rfl, ?_, fun k hk hne => ?_⟩
  · unfold sortWorldK
    simp [grow, putRowK, putRow, mapBlock, Sort.ahead]
  · have hkg : g ≠ k := fun e => hne (by rw [e])
    unfold sortWorldK
    simp [grow, putRowK, putRow, mapBlock, Sort.ahead]
    rw [Array.getElem?_append_left (by simpa using hk), Array.getElem?_modify, if_neg hkg]
set_option maxHeartbeats 1000000 in
theorem sort_c (g cap : Nat) (d : Array Chan) (w : World) (hH : HoldsK ckC 3 w g 0 d) (hg : g < w.heap.size) (hs : d.size ≤ 1000) :
    Calls Try.prog 51 #[.slice (some ⟨g, 0, none⟩) d.size cap, .func (.func 52) #[] #[]] w (sortPost g d w) := by
  have eg : ∀ args w, (callFunc 52 args).run Try.prog w = .ok (.enter 52 args) w := enters_of Try.func52 (by kernel_rfl) rfl
  refine (AnyQ.slices_SortFunc Try.sortAsk 3 isAggC sizeOfC ckC (fun _ => rfl) (fun x v hv => by simp [ckC] at hv; rcases hv with rfl | rfl | rfl <;> rfl) cfC swoC 52 #[] g 0 cap d w eg (cmpC g 0 d.size w) hH hg (by omega)).mono ?_
  rintro e w' ⟨rfl, d', m, os, hp, hso, rfl⟩
  refine ⟨d', rfl, ?_, fun i j hij hj => ?_, SWK.holds (show SWK ckC 3 w g 0 d' (sortWorldK ckC 3 w g 0 m d' os) from ⟨m, os, rfl⟩) hg hH hp.1, grown_sort w g m d' os⟩
  · have h := hp.2.2
    have e : List.take d.size d'.toList = d'.toList := List.take_of_length_le (by simp [hp.1])
    simpa [e] using h
  · rw [← lt_no]
    exact hso i j (Nat.zero_le _) hij (by rw [← hp.1]; exact hj)
/-- Channels, as they lie. -/
def CkR (w : World) (V : Option Addr) (L : List Chan) : Prop := ∀ i (hi : i < L.length), ∃ g, V = some ⟨g, 0, none⟩ ∧ g < w.heap.size ∧ w.cell? ⟨g, i * 3, none⟩ = some (.string L[i].key) ∧ w.cell? ⟨g, i * 3 + 1, none⟩ = some (.int .i64 L[i].fr) ∧ w.cell? ⟨g, i * 3 + 2, none⟩ = some (.int .i64 L[i].to)
theorem CkR.below {w w' : World} {V : Option Addr} {L : List Chan} (h : CkR w V L) (hb : Go.RowKit.Below w.heap.size w w') : CkR w' V L := fun i hi => by
  obtain ⟨g, hV, hg, c0, c1, c2⟩ := h i hi
  exact ⟨g, hV, Nat.lt_of_lt_of_le hg hb.size, (hb.cell (p := ⟨g, _, none⟩) hg).trans c0, (hb.cell (p := ⟨g, _, none⟩) hg).trans c1, (hb.cell (p := ⟨g, _, none⟩) hg).trans c2⟩
/-- No later one is ahead of an earlier one. -/
def Srt (L : List Chan) : Prop := ∀ i j (hij : i < j) (hj : j < L.length), ¬ chLt L[j] (L[i]'(by omega))
def sortRow (V : Option Addr) (vc : Nat) (L : List Chan) (w : World) (e : Ending) (w' : World) : Prop := ∃ L' : List Chan, e = .returned (.tuple #[]) ∧ L'.Perm L ∧ Srt L' ∧ CkR w' V L' ∧ w.grownBy w' (Value.slice V L.length vc).ownBlock
theorem holds_of {w : World} {B g vc : Nat} {L : List Chan} (ho : w.ownsRow B 95 3 (.slice (some ⟨g, 0, none⟩) L.length vc) L.length (ckCs L)) (hn : 0 < L.length) : HoldsK ckC 3 w g 0 L.toArray := by
  obtain ⟨g', hg', _, _, _, hf, _, hc⟩ := own_cell ho hn
  have e : g' = g := by injection hg' with h; injection h with h; exact h.symm
  subst e
  intro j hj
  rw [size_flatK] at hj
  have hj' : j < L.length * 3 := by simpa using hj
  refine ⟨?_, hf _⟩
  rw [Nat.zero_add]
  have h1 := ckCs_at L (j / 3) (by omega) (j % 3) (by omega)
  rw [show j / 3 * 3 + j % 3 = j by omega] at h1
  have hlen : j % 3 < (ckC (L[j / 3]'(by omega))).length := by show j % 3 < 3; omega
  rw [List.getElem?_eq_getElem hlen] at h1
  rw [hc j _ h1, get_flatK ckC 3 L.toArray j hj]
  have e1 : L.toArray[j / 3]! = L[j / 3]'(by omega) := by simp [getElem!_pos L (j / 3) (by omega)]
  rw [e1, getElem!_pos _ (j % 3) hlen]
  rfl
theorem sort_row (V : Option Addr) (vc : Nat) (L : List Chan) (w : World) (B : Nat) (ho : w.ownsRow B 95 3 (.slice V L.length vc) L.length (ckCs L)) (hn : L.length ≤ 1000) :
    Calls Try.prog 51 #[.slice V L.length vc, .func (.func 52) #[] #[]] w (sortRow V vc L w) := by
  by_cases h0 : L.length = 0
  · have hL := List.eq_nil_of_length_eq_zero h0
    subst hL
    refine (sort_nil V vc _ w).mono ?_
    rintro e w' ⟨rfl, rfl⟩
    exact ⟨[], rfl, List.Perm.refl _, fun i j _ hj => absurd hj (Nat.not_lt_zero j), fun i hi => absurd hi (Nat.not_lt_zero i), ⟨rfl, rfl, rfl, Nat.le_refl _, fun _ _ _ => rfl⟩⟩
  · obtain ⟨g, rfl, _, _, ⟨cs, hb⟩, _, _, _⟩ := own_cell ho (by omega)
    have hH := holds_of ho (by omega)
    have SC := sort_c g vc L.toArray w hH hb.lt (by simpa using hn)
    rw [show L.toArray.size = L.length by simp] at SC
    refine SC.mono ?_
    rintro e w' ⟨d', rfl, hp, hs, hh, hg⟩
    have hdl : d'.toList.length = L.length := hp.length_eq
    refine ⟨d'.toList, rfl, hp, fun i j hij hj => ?_, fun i hi => ⟨g, rfl, Nat.lt_of_lt_of_le hb.lt hg.size, ?_⟩, hg⟩
    · have := hs i j hij (by simpa using hj)
      rwa [getElem!_pos d' j (by simpa using hj), getElem!_pos d' i (by have : j < d'.size := by simpa using hj
                                                                        omega)] at this
    · have hc := HoldsK.cells hh (fun _ => rfl) (i := i) (by simpa using hi)
      rw [getElem!_pos d' i (by simpa using hi), Nat.zero_add] at hc
      have a0 := hc 0 (.string d'[i].key) rfl
      have a1 := hc 1 (.int .i64 d'[i].fr) rfl
      have a2 := hc 2 (.int .i64 d'[i].to) rfl
      have add : ∀ j, (⟨g, i * 3, none⟩ : Addr).add j = ⟨g, i * 3 + j, none⟩ := fun j => by
        unfold Addr.add
        split
        · rename_i e
          rw [e]
          rfl
        · rfl
      rw [add] at a0 a1 a2
      exact ⟨a0, a1, a2⟩
end Qu
end Go.Proofs.Ytonmojinijpneaa
end
section
/- What is left of a queue: the program. -/
namespace Go.Proofs.Ytonmojinijpneaa
open Go Go.RowKit Go.Lib
set_option linter.unusedVariables false
set_option linter.unusedSimpArgs false
namespace Qu
theorem chan_info : (Try.prog.info? 95).map (fun i => (i.zero, i.size, i.bytes)) = some (some (.agg #[.string ⟨#[]⟩, .int .i64 0, .int .i64 0]), 3, 32) := by kernel_rfl
set_option maxRecDepth 100000 in
/-- A channel put behind a row of one's own. -/
theorem push_k (w : World) (B : Nat) (A : Option Addr) (cap n : Nat) (xs : List Value) (m : Chan) (h : w.ownsRow B 95 3 (.slice A n cap) n xs) (hB : B ≤ w.heap.size) (hl : n ≤ 100000) :
    ∃ A1 c1 w1, (Builtin.append_ #[88, 88] 88 #[.slice A n cap, .slice (some ⟨w.heap.size, 0, none⟩) 1 1]).run Try.prog (w.alloc (.cells #[.string m.key, .int .i64 m.fr, .int .i64 m.to] 95)) = .ok (.slice A1 (n + 1) c1) w1 ∧
      w1.ownsRow B 95 3 (.slice A1 (n + 1) c1) (n + 1) (xs ++ ckC m) ∧ w.grownBy w1 (Value.slice A n cap).ownBlock := by
  have ba := (Below.refl w.heap.size w).alloc (Nat.le_refl _) (.cells #[.string m.key, .int .i64 m.fr, .int .i64 m.to] 95)
  have kb := Blk.new w 95 #[.string m.key, .int .i64 m.fr, .int .i64 m.to]
  have ow := own_belowR h ba
  have hs1 : (w.alloc (.cells #[.string m.key, .int .i64 m.fr, .int .i64 m.to] 95)).heap.size = w.heap.size + 1 := by simp
  obtain ⟨Wz, hWz⟩ : ∃ x', w.alloc (.cells #[.string m.key, .int .i64 m.fr, .int .i64 m.to] 95) = x' := ⟨_, rfl⟩
  rw [hWz] at ba kb ow hs1 ⊢
  have hrd : Reads Wz Wz.heap.size 3 (some ⟨w.heap.size, 0, none⟩) 1 (ckC m) := ⟨rfl, fun _ => ⟨_, rfl, kb.lt, fun j u hu => by rw [add_lit, kb.cell]; simpa [ckC] using hu⟩⟩
  obtain ⟨i0, hi0, hz0', hz1, hz2⟩ := info_parts chan_info
  obtain ⟨v11, w11, hrun, hown, hk11, hob⟩ := run_append_any (P := Try.prog) Wz B 88 88 95 i0 _ 3 32 Try.underlying88 hi0 hz0' hz1 hz2 (by rfl) (by omega) _ _ _ ow Wz.heap.size (some ⟨w.heap.size, 0, none⟩) 1 1 _ hrd (by intro u hu; unfold ckC at hu; simp only [List.mem_cons, List.not_mem_nil, or_false] at hu; rcases hu with rfl | rfl | rfl <;> rfl) (by unfold maxLen; omega) (by omega) (by omega)
  obtain ⟨A11, c11, rfl⟩ := own_form hown
  exact ⟨A11, c11, w11, hrun, hown, gtrans (grown_of_below ba) hk11⟩
set_option maxRecDepth 100000 in
/-- A row of messages put behind a row of one's own. -/
theorem push_ms (w : World) (B : Nat) (A : Option Addr) (cap n : Nat) (xs : List Value) (A2 : Option Addr) (c2 m : Nat) (k : List Msg) (hm : k.length = m) (h : w.ownsRow B 33 8 (.slice A n cap) n xs) (hr : Reads w w.heap.size 8 A2 m (msgCs k)) (hB : B ≤ w.heap.size) (hl : n ≤ 100000) (hl2 : m ≤ 100000) :
    ∃ A1 c1 w1, (Builtin.append_ #[45, 45] 45 #[.slice A n cap, .slice A2 m c2]).run Try.prog w = .ok (.slice A1 (n + m) c1) w1 ∧
      w1.ownsRow B 33 8 (.slice A1 (n + m) c1) (n + m) (xs ++ msgCs k) ∧ w.grownBy w1 (Value.slice A n cap).ownBlock := by
  obtain ⟨i0, hi0, hz0', hz1, hz2⟩ := info_parts msg_info
  obtain ⟨v11, w11, hrun, hown, hk11, hob⟩ := run_append_any (P := Try.prog) w B 45 45 33 i0 _ 8 72 Try.underlying45 hi0 hz0' hz1 hz2 (by rfl) (by omega) _ _ _ h w.heap.size A2 m c2 _ hr (fun u hu => by
    clear hr
    clear hm
    induction k with
    | nil => cases hu
    | cons x k ih =>
      rw [msgCs] at hu
      rcases List.mem_append.1 hu with hu | hu
      · unfold msgC at hu
        simp only [List.mem_cons, List.not_mem_nil, or_false] at hu
        rcases hu with rfl | rfl | rfl | rfl | rfl | rfl | rfl | rfl <;> rfl
      · exact ih hu) (by unfold maxLen; omega) (by omega) (by omega)
  obtain ⟨A11, c11, rfl⟩ := own_form hown
  exact ⟨A11, c11, w11, hrun, hown, hk11⟩
theorem sub_len {α : Type} [DecidableEq α] : ∀ {a b : List α}, a.Nodup → (∀ x ∈ a, x ∈ b) → a.length ≤ b.length
  | [], b, _, _ => Nat.zero_le _
  | x :: a, b, h, hs => by
    have h' := List.nodup_cons.1 h
    have hx := hs x List.mem_cons_self
    have ih := sub_len (a := a) (b := b.erase x) h'.2 fun y hy => (List.mem_erase_of_ne (fun (e : y = x) => h'.1 (by rw [← e]; exact hy))).2 (hs y (List.mem_cons_of_mem _ hy))
    rw [List.length_erase_of_mem hx] at ih
    have : 0 < b.length := List.length_pos_of_mem hx
    rw [List.length_cons]
    omega
theorem QSt.many {w : World} {q : Nat} {L : QL} {l : List Msg} (h : QSt w q L l) : L.cl.length ≤ l.length := by
  have h1 := sub_len (a := L.cl.map (·.1)) (b := l.map (·.ch)) h.kc fun c hc => by
    obtain ⟨m, hm, e⟩ := rowsOf_ne.1 ((h.cin c).1 hc)
    exact List.mem_map.2 ⟨m, hm, e⟩
  simpa using h1
/-- The program's row at a channel. -/
theorem QSt.rowv {w : World} {q : Nat} {L : QL} {l : List Msg} (h : QSt w q L l) {c : Chan} (hc : rowsOf l c ≠ []) :
    ∃ (g cap fi : Nat), (SMap.look (L.cl.map fun p => (p.1, rowV (rowsOf l p.1) p.2)) c).getD (.agg #[.slice none 0 0, .int .i64 0]) = .agg #[.slice (some ⟨g, 0, none⟩) (rowsOf l c).length cap, .int .i64 fi] ∧ ∀ w', QSt w' q L l → MRow w' (some ⟨g, 0, none⟩) (rowsOf l c) := by
  obtain ⟨x, hx, e⟩ := h.row hc
  rw [e]
  exact ⟨x.g, x.cap, x.fi, rfl, fun w' h' => MRow.of_own (h'.crow _ hx) rfl⟩
theorem own_at {w w' : World} {B n c size : Nat} {A : Option Addr} {e : TypeId} {xs : List Value} {r : Nat} (h : w.ownsRow B e size (.slice A n c) n xs) (hg : w.grownBy w' (some r)) (hr : r < B) : w'.ownsRow B e size (.slice A n c) n xs := by
  refine ⟨h.1, h.2.imp id ?_⟩
  rintro ⟨g', cap, cur, hv, hge, hh, rr⟩
  exact ⟨g', cap, cur, hv, hge, (hg.block g' (Array.getElem?_eq_some_iff.1 hh).1 (fun e => by injection e with e; omega)).trans hh, rr⟩
set_option maxRecDepth 100000 in
set_option maxHeartbeats 16000000 in
theorem Left_c {w : World} {q : Nat} {L : QL} {l : List Msg} (h : QSt w q L l) (hl : l.length ≤ 1000) :
    Calls Try.prog 19 #[.pointer (some ⟨q, 0, none⟩)] w fun e w' => ∃ A1 c1 K, e = .returned (.slice A1 K.length c1) ∧ IsLeft l K ∧ w'.ownsRow w.heap.size 33 8 (.slice A1 K.length c1) K.length (msgCs K) ∧ Below w.heap.size w w' := by
  have HQ0 := hide h
  have MC := hide (made_c h)
  have c0 : w.cell? ⟨q, 0, none⟩ = some (.map (some L.cm)) := h.blk.cell 0
  have hcn := h.many
  have HKC := hide h.kc
  have HCI := hide h.cin
  obtain ⟨hrg, hit⟩ := SMap.run_range (P := Try.prog) Try.underlying89 _ L.cm w h.mc
  have hlen : (L.cl.map fun p => (p.1, rowV (rowsOf l p.1) p.2)).length = L.cl.length := List.length_map _
  have hkeys : (L.cl.map fun p => (p.1, rowV (rowsOf l p.1) p.2)).map (·.1) = L.cl.map (·.1) := by rw [List.map_map]; rfl
  have hmb := h.mc
  have hcm := h.mc.lt
  have bi := (Below.refl w.heap.size w).alloc (Nat.le_refl _) (.mapIter (some L.cm) (L.cl.map fun p => (p.1, rowV (rowsOf l p.1) p.2)).length #[] (L.cl.map fun p => (p.1, rowV (rowsOf l p.1) p.2)).length)
  have si : (w.alloc (.mapIter (some L.cm) (L.cl.map fun p => (p.1, rowV (rowsOf l p.1) p.2)).length #[] (L.cl.map fun p => (p.1, rowV (rowsOf l p.1) p.2)).length)).heap.size = w.heap.size + 1 := by simp
  obtain ⟨W1, hW1⟩ : ∃ z, w.alloc (.mapIter (some L.cm) (L.cl.map fun p => (p.1, rowV (rowsOf l p.1) p.2)).length #[] (L.cl.map fun p => (p.1, rowV (rowsOf l p.1) p.2)).length) = z := ⟨_, rfl⟩
  rw [hW1] at hrg hit bi si
  obtain ⟨cl, hcl⟩ : ∃ z, (L.cl.map fun p => (p.1, rowV (rowsOf l p.1) p.2)) = z := ⟨_, rfl⟩
  rw [hcl] at hit hlen hkeys hmb
  obtain ⟨r, hr⟩ : ∃ z, w.heap.size = z := ⟨_, rfl⟩
  rw [hr] at hrg hit bi si hcm
  have HIT := hide hit
  have HLEN := hide hlen
  have HKEYS := hide hkeys
  have HMB := hide hmb
  have HCM := hide hcm
  have HBI := hide bi
  have HSI := hide si
  have HR := hide hr
  have HCL := hide hcl
  have HCN := hide hcn
  have HW1 := hide hW1
  have RNG := hide (SMap.Rng.start cl)
  have OW0 := hide (show W1.ownsRow (r + 1) 95 3 (.slice none 0 0) 0 (ckCs []) from ⟨rfl, .inl ⟨rfl, rfl⟩⟩)
  clear h hit hlen hkeys hmb hcm bi si hr hcl hcn hW1
  go_enter Try.func19, Try.ntmps19
  go_wp2_with fail
  refine MC.out.mono ?_
  rintro e wb ⟨rfl, hwb⟩
  obtain rfl : w = wb := hwb
  clear MC
  go_wp2_with fail
  clear hrg c0
  go_loopw [3, 4] (fun v3 _ wr => ∃ (seen : Array Nat) (ks : List (Chan × Value)) (cs : List Chan) (A1 : Option Addr) (c1 : Nat), v3 = .slice A1 cs.length c1 ∧ Hid (cs = ks.map (·.1)) ∧ Hid (SMap.It wr r L.cm cl.length seen) ∧ Hid (SMap.Rng cl seen ks) ∧ Hid (wr.ownsRow (r + 1) 95 3 (.slice A1 cs.length c1) cs.length (ckCs cs)) ∧ Hid (Below r w wr ∧ r + 1 ≤ wr.heap.size)) (fun _ _ wr => (leftOf (SMap.ent chV 0 cl).toArray (wr.iterSeen r)).size)
  case atStart => exact ⟨#[], [], [], none, 0, rfl, hide rfl, HIT, RNG, OW0, hide ⟨HBI.out, Nat.le_of_eq HSI.out.symm⟩⟩
  case round =>
    obtain ⟨seen, ks, cs, A1, c1, rfl, HCS, HITr, HRG, HOW, HBR⟩ := hrel
    rename World => wr
    have hkl := HRG.out.len
    have hcs : cs.length ≤ 1000 := by rw [HCS.out, List.length_map]; have := HLEN.out; have := HCN.out; omega
    have HCSL := hide hcs
    have mbr := HMB.out.below HBR.out.1 HCM.out
    rcases SMap.run_next (P := Try.prog) wr r L.cm HITr.out mbr HRG.out (by have := HCM.out; omega) with ⟨hperm, hnx⟩ | ⟨⟨⟨ck, cf, ct⟩, pv⟩, e0, wn, hp, he0, hrg1, hnx, hen, hit1, hgr1, hsz1⟩
    · have SRT := hide (sort_row A1 c1 cs wr (r + 1) HOW.out hcs)
      have HPM := hide (show cs.Perm (L.cl.map (·.1)) by rw [HCS.out, ← HKEYS.out]; exact hperm.map _)
      clear hperm mbr hkl hcs
      go_wp2_with fail
      refine SRT.out.mono ?_
      rintro e w2 ⟨L', rfl, hpm, hso, hck, hgr⟩
      have hn : L'.length = cs.length := hpm.length_eq
      obtain ⟨n, hn'⟩ : ∃ z, cs.length = z := ⟨_, rfl⟩
      have hb2 := HBR.out.1.grown hgr (by have := HBR.out.2; omega) (fun g hg => by have := (own_block HOW.out hg).1; omega)
      have HB2 := hide hb2
      have HS2 := hide (show w.heap.size ≤ w2.heap.size from by have := hb2.size; exact this)
      rw [hn'] at hn
      have HN := hide hn
      have HNL := hide (show n ≤ 1000 by have := HCSL.out; omega)
      have HCK := hide hck
      have hkp : L'.Perm (L.cl.map (·.1)) := hpm.trans HPM.out
      have HKS := hide (sorted_keys hkp HKC.out hso)
      have HKM := hide (show ∀ c, c ∈ L' ↔ rowsOf l c ≠ [] from fun c => (hkp.mem_iff).trans (HCI.out c))
      have HISL := hide (isLeft_by HKS.out HKM.out)
      have OW2 := hide (show w2.ownsRow w2.heap.size 33 8 (.slice none 0 0) (leftBy l (L'.take 0)).length (msgCs (leftBy l (L'.take 0))) from ⟨rfl, .inl ⟨rfl, rfl⟩⟩)
      rw [hn']
      clear hnx hpm hso hck hgr hb2 hn hn' hkp SRT HOW HITr HRG HCS HCSL HPM
      go_wp2_with fail
      go_loopw [5, 7, 28] (fun v5 _ v28 wr => ∃ (j : Nat) (O : Option Addr) (oc : Nat), j ≤ n ∧ v28 = .int .i64 j ∧ v5 = .slice O (leftBy l (L'.take j)).length oc ∧ Hid (wr.ownsRow w2.heap.size 33 8 (.slice O (leftBy l (L'.take j)).length oc) (leftBy l (L'.take j)).length (msgCs (leftBy l (L'.take j)))) ∧ Hid (Below w2.heap.size w2 wr)) (fun _ _ v28 _ => n - (RowKit.intOf v28).toNat)
      case atStart => exact ⟨0, none, 0, Nat.zero_le _, rfl, rfl, OW2, hide (Below.refl _ _)⟩
      case round =>
        obtain ⟨j, O, oc, hj, rfl, rfl, HOWj, HBRj⟩ := hrel
        rename World => wz
        have hn1 := HNL.out
        by_cases hlt : j < n
        rotate_left
        · have hltI : ¬ (j : Int) < (n : Int) := by omega
          obtain rfl : n = j := by omega
          have e : L'.take n = L' := by rw [← HN.out, List.take_length]
          rw [e] at HOWj
          rw [e]
          clear hlt e
          go_wp2_with fail
          go_ret
          exact ⟨O, oc, leftBy l L', rfl, HISL.out, own_more HOWj.out HS2.out, by rw [HR.out]; exact HB2.out.trans (HBRj.out.mono (by have := HS2.out; rw [HR.out] at this; exact this))⟩
        have hltI : (j : Int) < (n : Int) := by omega
        obtain ⟨g, hA, hg, d0, d1, d2⟩ := (HCK.out.below HBRj.out) j (by rw [HN.out]; exact hlt)
        have hin : L'[j]'(by rw [HN.out]; exact hlt) ∈ L' := List.getElem_mem _
        have hts : L'.take (j + 1) = L'.take j ++ [L'[j]'(by rw [HN.out]; exact hlt)] := List.take_succ_eq_append_getElem (by rw [HN.out]; exact hlt)
        obtain ⟨⟨kk, kf, kt⟩, hkk⟩ : ∃ z, L'[j]'(by rw [HN.out]; exact hlt) = z := ⟨_, rfl⟩
        rw [hkk] at d0 d1 d2 hin hts
        simp only at d0 d1 d2
        obtain ⟨gr, rc, fi, hv, hrow⟩ := (show QSt wz q L l from HQ0.out.below (by rw [HR.out]; exact HB2.out.trans (HBRj.out.mono (by have := HS2.out; rw [HR.out] at this; exact this)))).rowv ((HKM.out _).1 hin)
        have HV := hide hv
        have HROW := hide hrow
        have HSTEP := hide (show leftBy l (L'.take (j + 1)) = leftBy l (L'.take j) ++ untaken (rowsOf l ⟨kk, kf, kt⟩) by rw [hts, leftBy_app]; congr 1; simp [leftBy])
        have HLT := hide hlt
        have HPL := hide (show (leftBy l (L'.take j)).length ≤ 1000 by have := leftBy_pre (l := l) (ks := L') j; have := isLeft_len HISL.out; omega)
        have HUL := hide (show (untaken (rowsOf l ⟨kk, kf, kt⟩)).length ≤ 1000 by have := untaken_len (rowsOf l ⟨kk, kf, kt⟩); have := rowsOf_len l ⟨kk, kf, kt⟩; omega)
        have HRL := hide (show (rowsOf l ⟨kk, kf, kt⟩).length ≤ 1000 by have := rowsOf_len l ⟨kk, kf, kt⟩; omega)
        have bs := (Below.refl wz.heap.size wz).alloc (Nat.le_refl _) (.cells #[.string kk, .int .i64 kf, .int .i64 kt] 95)
        have ky := Blk.new wz 95 #[.string kk, .int .i64 kf, .int .i64 kt]
        obtain ⟨ws, hws⟩ : ∃ z, wz.alloc (.cells #[.string kk, .int .i64 kf, .int .i64 kt] 95) = z := ⟨_, rfl⟩
        obtain ⟨Y, hY⟩ : ∃ z, wz.heap.size = z := ⟨_, rfl⟩
        rw [hws] at bs ky
        rw [hY] at ky
        have hbs := HBRj.out.trans (bs.mono HBRj.out.size)
        have HBS := hide hbs
        have OWS := hide (own_belowR HOWj.out bs)
        have HQS := hide (show QSt ws q L l from HQ0.out.below (by rw [HR.out]; exact HB2.out.trans (hbs.mono (by have := HS2.out; rw [HR.out] at this; exact this))))
        have HWS := hide hws
        have HY := hide hY
        have KY := hide ky
        obtain ⟨m, hm⟩ : ∃ z, (leftBy l (L'.take j)).length = z := ⟨_, rfl⟩
        have HM := hide hm
        rw [hm] at OWS HPL
        rw [hm, hA]
        clear hin hts hkk hv hrow bs ky hws hY hbs hlt hm hg
        go_upto_region 13 with (fail)
        rw [HWS.out, HY.out]
        clear HWS HY d0 d1 d2
        let R : Nat → Value → World → Prop := fun sl u w1 => match sl with
          | 32 => u = .slice O m oc
          | 33 => u = .pointer (some ⟨q, 0, none⟩)
          | 34 => u = .pointer (some ⟨q, 0, none⟩)
          | 35 => u = .pointer (some ⟨q, 0, none⟩)
          | 36 => u = .map (some L.cm)
          | 37 => u = .agg #[.string kk, .int .i64 kf, .int .i64 kt]
          | 38 => u = .agg #[.slice (some ⟨gr, 0, none⟩) (rowsOf l ⟨kk, kf, kt⟩).length rc, .int .i64 fi]
          | 39 => u = .slice (some ⟨gr, 0, none⟩) (rowsOf l ⟨kk, kf, kt⟩).length rc
          | 40 => ∃ (A3 : Option Addr) (c3 : Nat), u = .slice A3 (untaken (rowsOf l ⟨kk, kf, kt⟩)).length c3 ∧ w1.ownsRow 0 33 8 (.slice A3 (untaken (rowsOf l ⟨kk, kf, kt⟩)).length c3) (untaken (rowsOf l ⟨kk, kf, kt⟩)).length (msgCs (untaken (rowsOf l ⟨kk, kf, kt⟩)))
          | _ => True
        refine wp_region_relT 9 R (by kernel_rfl) (by kernel_rfl) (by kernel_rfl) (by kernel_rfl) ?mono ?step ?fin
        case mono =>
          intro t u w1 w2 h hb
          match t with
          | 40 =>
            obtain ⟨A3, c3, h1, h2⟩ := h
            exact ⟨A3, c3, h1, own_belowR h2 hb⟩
          | 32 | 33 | 34 | 35 | 36 | 37 | 38 | 39 => exact h
          | 0 | 1 | 2 | 3 | 4 | 5 | 6 | 7 | 8 | 9 | 10 | 11 | 12 | 13 | 14 | 15 | 16 | 17 | 18 | 19 | 20 | 21 | 22 | 23 | 24 | 25 | 26 | 27 | 28 | 29 | 30 | 31 => trivial
          | _ + 41 => trivial
        case fin =>
          intro ff w5 hb hr
          have f32 : ff 32 = .slice O m oc := hr 32 (by decide)
          have f40 : ∃ (A3 : Option Addr) (c3 : Nat), ff 40 = .slice A3 (untaken (rowsOf l ⟨kk, kf, kt⟩)).length c3 ∧ w5.ownsRow 0 33 8 (.slice A3 (untaken (rowsOf l ⟨kk, kf, kt⟩)).length c3) (untaken (rowsOf l ⟨kk, kf, kt⟩)).length (msgCs (untaken (rowsOf l ⟨kk, kf, kt⟩))) := hr 40 (by decide)
          obtain ⟨A3, c3, f40, hown3⟩ := f40
          have hb5 := HBS.out.trans (hb.mono HBS.out.size)
          obtain ⟨O2, oc2, w6, hrun, hown6, hgr6⟩ := push_ms w5 w2.heap.size O oc m _ A3 c3 _ (untaken (rowsOf l ⟨kk, kf, kt⟩)) rfl (own_belowR OWS.out hb) (Reads.of_own hown3) hb5.size (by have := HPL.out; omega) (by have := HUL.out; omega)
          have HB6 := hide (hb5.grown hgr6 hb5.size fun g hg => (own_block (own_belowR OWS.out hb) hg).1)
          have HLN := hide (show (leftBy l (L'.take (j + 1))).length = m + (untaken (rowsOf l ⟨kk, kf, kt⟩)).length by rw [HSTEP.out, List.length_append, HM.out])
          have OW6 := hide (show w6.ownsRow w2.heap.size 33 8 (.slice O2 (m + (untaken (rowsOf l ⟨kk, kf, kt⟩)).length) oc2) (m + (untaken (rowsOf l ⟨kk, kf, kt⟩)).length) (msgCs (leftBy l (L'.take (j + 1)))) by
            rw [HSTEP.out, msgCs_app]
            exact hown6)
          have RUN := hide hrun
          clear hrun hown6 hgr6 hb5 hown3 hb hr
          simp only [putAll, slotsOf, List.take_succ_cons, List.take_zero, List.drop_succ_cons, List.drop_zero, List.filterMap_cons, List.filterMap_nil, List.foldl_cons, List.foldl_nil, Act.put, f32, f40]
          simp only [List.setIfInBounds_toArray, List.set_cons_succ, List.set_cons_zero]
          clear f32 f40
          go_wp2_with (at_builtin; refine Lib.wpList_append_run _ rfl _ _ 45 45 rfl _ _ rfl rfl _ _ RUN.out ?_)
          go_roundw
          case rel => exact ⟨j + 1, O2, oc2, HLT.out, by go_num, by rw [HLN.out], by rw [HLN.out]; exact OW6, HB6⟩
          case measure => have := HLT.out; simp [RowKit.intOf] <;> omega
        case step =>
          intro o ho
          simp only [List.take_succ_cons, List.take_zero, List.mem_cons, List.not_mem_nil, or_false] at ho
          rcases ho with rfl | rfl | rfl | rfl | rfl | rfl | rfl | rfl | rfl
          · intro a w1 hb hs hr
            have e5 : a.tmps.getD 5 undef = .slice O m oc := hs 5 (by decide)
            rw [Array.getD_eq_getD_getElem?] at e5
            unfold Oper.wp
            simp only [execOp, Act.eval, Array.getD_eq_getD_getElem?, e5]
            go_simp
            exact ⟨_, rfl, rfl, Below.refl _ _⟩
          · intro a w1 hb hs hr
            have e0 : a.tmps.getD 0 undef = .pointer (some ⟨q, 0, none⟩) := hs 0 (by decide)
            rw [Array.getD_eq_getD_getElem?] at e0
            unfold Oper.wp
            simp only [execOp, Act.eval, Array.getD_eq_getD_getElem?, e0]
            go_simp
            exact ⟨_, rfl, rfl, Below.refl _ _⟩
          · intro a w1 hb hs hr
            have e33 : a.tmps.getD 33 undef = .pointer (some ⟨q, 0, none⟩) := hr 33 (by decide) (by apply Array.mem_toList_iff.1; repeat (first | exact List.Mem.head _ | apply List.Mem.tail))
            rw [Array.getD_eq_getD_getElem?] at e33
            unfold Oper.wp
            simp only [execOp, Act.eval, Array.getD_eq_getD_getElem?, e33]
            go_simp
            exact ⟨_, rfl, rfl, Below.refl _ _⟩
          · intro a w1 hb hs hr
            have e34 : a.tmps.getD 34 undef = .pointer (some ⟨q, 0, none⟩) := hr 34 (by decide) (by apply Array.mem_toList_iff.1; repeat (first | exact List.Mem.head _ | apply List.Mem.tail))
            rw [Array.getD_eq_getD_getElem?] at e34
            unfold Oper.wp
            simp only [execOp, Act.eval, Array.getD_eq_getD_getElem?, e34]
            go_simp
            exact ⟨_, rfl, rfl, Below.refl _ _⟩
          · intro a w1 hb hs hr
            have e35 : a.tmps.getD 35 undef = .pointer (some ⟨q, 0, none⟩) := hr 35 (by decide) (by apply Array.mem_toList_iff.1; repeat (first | exact List.Mem.head _ | apply List.Mem.tail))
            have hc0 : w1.cell? ⟨q, 0, none⟩ = some (.map (some L.cm)) := (HQS.out.below hb).blk.cell 0
            rw [Array.getD_eq_getD_getElem?] at e35
            unfold Oper.wp
            simp only [execOp, Act.eval, Array.getD_eq_getD_getElem?, e35]
            go_simp
            exact ⟨_, rfl, rfl, Below.refl _ _⟩
          · intro a w1 hb hs hr
            have e7 : a.tmps.getD 7 undef = .pointer (some ⟨Y, 0, none⟩) := hs 7 (by decide)
            have ky1 := KY.out.below hb KY.out.lt
            have y0 : w1.cell? ⟨Y, 0, none⟩ = some (.string kk) := ky1.cell 0
            have y1 : w1.cell? ⟨Y, 1, none⟩ = some (.int .i64 kf) := ky1.cell 1
            have y2 : w1.cell? ⟨Y, 2, none⟩ = some (.int .i64 kt) := ky1.cell 2
            clear ky1
            rw [Array.getD_eq_getD_getElem?] at e7
            unfold Oper.wp
            simp only [execOp, Act.eval, Array.getD_eq_getD_getElem?, e7]
            go_simp
            exact ⟨_, rfl, rfl, Below.refl _ _⟩
          · intro a w1 hb hs hr
            have e36 : a.tmps.getD 36 undef = .map (some L.cm) := hr 36 (by decide) (by apply Array.mem_toList_iff.1; repeat (first | exact List.Mem.head _ | apply List.Mem.tail))
            have e37 : a.tmps.getD 37 undef = .agg #[.string kk, .int .i64 kf, .int .i64 kt] := hr 37 (by decide) (by apply Array.mem_toList_iff.1; repeat (first | exact List.Mem.head _ | apply List.Mem.tail))
            have lk := SMap.run_lookup (P := Try.prog) keyChan Try.underlying89 zero_row ⟨kk, kf, kt⟩ L.cm _ w1 (HQS.out.below hb).mc
            rw [HV.out] at lk
            unfold chV at lk
            rw [Array.getD_eq_getD_getElem?] at e36
            rw [Array.getD_eq_getD_getElem?] at e37
            unfold Oper.wp
            simp only [execOp, Act.eval, Array.getD_eq_getD_getElem?, e36, e37]
            go_simp
            exact ⟨_, rfl, rfl, Below.refl _ _⟩
          · intro a w1 hb hs hr
            have e38 : a.tmps.getD 38 undef = .agg #[.slice (some ⟨gr, 0, none⟩) (rowsOf l ⟨kk, kf, kt⟩).length rc, .int .i64 fi] := hr 38 (by decide) (by apply Array.mem_toList_iff.1; repeat (first | exact List.Mem.head _ | apply List.Mem.tail))
            have fd := run_field0 (some ⟨gr, 0, none⟩) (rowsOf l ⟨kk, kf, kt⟩).length rc fi w1
            rw [Array.getD_eq_getD_getElem?] at e38
            unfold Oper.wp
            simp only [execOp, Act.eval, Array.getD_eq_getD_getElem?, e38]
            go_simp
            exact ⟨_, rfl, rfl, Below.refl _ _⟩
          · intro a w1 hb hs hr
            have e39 : a.tmps.getD 39 undef = .slice (some ⟨gr, 0, none⟩) (rowsOf l ⟨kk, kf, kt⟩).length rc := hr 39 (by decide) (by apply Array.mem_toList_iff.1; repeat (first | exact List.Mem.head _ | apply List.Mem.tail))
            have LC := hide (left_c (w := w1) (some ⟨gr, 0, none⟩) rc (rowsOf l ⟨kk, kf, kt⟩).length (rowsOf l ⟨kk, kf, kt⟩) (HROW.out w1 (HQS.out.below hb)) rfl HRL.out)
            rw [Array.getD_eq_getD_getElem?] at e39
            unfold Oper.wp
            simp only [execOp, Act.eval, Array.getD_eq_getD_getElem?, e39]
            go_simp
            refine LC.out.mono ?_
            rintro e w9 ⟨A3, c3, rfl, h3, hb3⟩
            exact ⟨_, rfl, ⟨A3, c3, rfl, own_more h3 (Nat.zero_le _)⟩, hb3⟩
    · have hb1 := HBR.out.1.grown hgr1 (by have := HBR.out.2; omega) (fun g hg => by injection hg with e; omega)
      have OWn := own_at HOW.out hgr1 (by omega)
      obtain ⟨A2, c2, w7, hrun, hown, hgr7⟩ := push_k (wn.alloc (.cells #[.string ck, .int .i64 cf, .int .i64 ct] 95)) (r + 1) A1 c1 _ _ ⟨ck, cf, ct⟩ (own_belowR OWn ((Below.refl wn.heap.size wn).alloc (Nat.le_refl _) _)) (by have := HBR.out.2; simp; omega) (by have := HCSL.out; omega)
      have hba := (Below.refl wn.heap.size wn).alloc (Nat.le_refl _) (.cells #[.string ck, .int .i64 cf, .int .i64 ct] 95)
      have ky := Blk.new wn 95 #[.string ck, .int .i64 cf, .int .i64 ct]
      obtain ⟨ws, hws⟩ : ∃ z, wn.alloc (.cells #[.string ck, .int .i64 cf, .int .i64 ct] 95) = z := ⟨_, rfl⟩
      obtain ⟨Y, hY⟩ : ∃ z, wn.heap.size = z := ⟨_, rfl⟩
      rw [hws] at hba ky hrun hgr7
      rw [hY] at ky hba
      have hsz : r + 1 ≤ Y := by have := HBR.out.2; omega
      have hsw : Y ≤ ws.heap.size := by have := hba.size; omega
      have hsf : ws.heap.size ≤ w7.heap.size := hgr7.size
      have own1 := own_belowR OWn (by rw [hY]; exact hba)
      have HB7 := hide (show Below r w w7 ∧ r + 1 ≤ w7.heap.size from ⟨(hb1.trans (hba.mono (by omega))).grown hgr7 (by omega) (fun g hg => by have := (own_block own1 hg).1; omega), by omega⟩)
      have hitr : w7.heap[r]? = wn.heap[r]? := (hgr7.block r (by omega) (fun e => by have := (own_block own1 e.symm).1; omega)).trans (hba.block r (by omega))
      have HIT7 := hide (show SMap.It w7 r L.cm cl.length (seen.push e0.born) from hitr.trans hit1)
      have HRG7 := hide hrg1
      have HCS7 := hide (show cs ++ [⟨ck, cf, ct⟩] = (ks ++ [((⟨ck, cf, ct⟩ : Chan), pv)]).map (·.1) by rw [HCS.out, List.map_append]; rfl)
      have HOW7 := hide (show w7.ownsRow (r + 1) 95 3 (.slice A2 (cs.length + 1) c2) (cs.length + 1) (ckCs (cs ++ [⟨ck, cf, ct⟩])) by
        rw [ckCs_app]
        simpa [ckCs] using hown)
      have HLN := hide (show (cs ++ [(⟨ck, cf, ct⟩ : Chan)]).length = cs.length + 1 by simp)
      have HWS := hide hws
      have HY := hide hY
      have KY := hide ky
      have RUN := hide hrun
      have HE0 := hide he0
      unfold chV at hnx hen
      clear hp he0 hrg1 hit1 hgr1 hsz1 mbr hkl hcs hb1 OWn hrun hown hgr7 hba ky hws hY hsz hsw hsf own1 hitr
      go_upto_region 7 with (fail)
      rw [HWS.out, HY.out]
      clear HWS HY hnx hen
      have y0 : ws.cell? ⟨Y, 0, none⟩ = some (.string ck) := KY.out.cell 0
      have y1 : ws.cell? ⟨Y, 1, none⟩ = some (.int .i64 cf) := KY.out.cell 1
      have y2 : ws.cell? ⟨Y, 2, none⟩ = some (.int .i64 ct) := KY.out.cell 2
      go_wp2_with (at_builtin; refine Lib.wpList_append_run _ rfl _ _ 88 88 rfl _ _ rfl rfl _ _ RUN.out ?_)
      go_roundw
      case rel => exact ⟨seen.push e0.born, ks ++ [(⟨ck, cf, ct⟩, pv)], cs ++ [⟨ck, cf, ct⟩], A2, c2, by rw [HLN.out], HCS7, HIT7, HRG7, by rw [HLN.out]; exact HOW7, HB7⟩
      case measure =>
        rw [SMap.iter_seen HIT7.out, SMap.iter_seen HITr.out]
        exact left_shrinks _ seen e0 HE0.out
end Qu
end Go.Proofs.Ytonmojinijpneaa
end
section
/- A copy of a queue: how it lies while it is made; slices.Clone. -/
namespace Go.Proofs.Ytonmojinijpneaa
open Go Go.RowKit Go.Lib
set_option linter.unusedVariables false
set_option linter.unusedSimpArgs false
namespace SMap
variable {κ : Type} [DecidableEq κ]
theorem look_perm {l k : List (κ × Value)} (h : l.Perm k) (hn : (l.map (·.1)).Nodup) (c : κ) : look l c = look k c := by
  have hk : (k.map (·.1)).Nodup := ((h.map (·.1)).nodup_iff).1 hn
  cases hl : look k c with
  | some v => exact mem_look l hn (c, v) (h.mem_iff.2 (look_mem k c v hl))
  | none =>
    have h1 : ¬ c ∈ k.map (·.1) := fun hm => (look_keys k c).1 hm hl
    cases h2 : look l c with
    | none => rfl
    | some v => exact absurd ((h.map (·.1)).mem_iff.1 ((look_keys l c).2 (by rw [h2]; simp))) h1
end SMap
namespace Qu
/-- The copy, its maps half full. -/
structure CSt (w : World) (B q : Nat) (L : QL) (l : List Msg) : Prop where
  blk : Blk w q 93 #[.map (some L.cm), .map (some L.pm), .map (some L.sm)]
  mc : SMap.MB chV w L.cm (L.cl.map fun p => (p.1, rowV (rowsOf l p.1) p.2))
  mp : SMap.MB whV w L.pm (L.pl.map fun p => (p.1, plV p.2))
  ms : SMap.MB inV w L.sm (L.sl.map fun p => (p.1, slV (fromsOf l p.1) p.2))
  fd : (L.foot q).Nodup
  lo : ∀ b ∈ L.foot q, B ≤ b
  crow : ∀ p ∈ L.cl, w.ownsRow 0 33 8 (.slice (some ⟨p.2.g, 0, none⟩) (rowsOf l p.1).length p.2.cap) (rowsOf l p.1).length (msgCs (rowsOf l p.1))
  srow : ∀ p ∈ L.sl, w.ownsRow 0 3 1 (.slice (some ⟨p.2.g, 0, none⟩) (fromsOf l p.1).length p.2.cap) (fromsOf l p.1).length (ints (fromsOf l p.1))
variable {w w' : World} {B q : Nat} {L : QL} {l : List Msg}
theorem CSt.keep (h : CSt w B q L l) (hk : ∀ b ∈ L.foot q, w'.heap[b]? = w.heap[b]?) : CSt w' B q L l :=
  ⟨(hk _ foot_q).trans h.blk, (hk _ foot_c).trans h.mc, (hk _ foot_p).trans h.mp, (hk _ foot_s).trans h.ms, h.fd, h.lo,
    fun p hp => own_heap (h.crow p hp) (hk _ (foot_row hp)), fun p hp => own_heap (h.srow p hp) (hk _ (foot_srow hp))⟩
theorem CSt.lt (h : CSt w B q L l) : ∀ b ∈ L.foot q, b < w.heap.size := fun b hb => by
  unfold QL.foot at hb
  rcases List.mem_cons.1 hb with rfl | hb
  · exact h.blk.lt
  rcases List.mem_cons.1 hb with rfl | hb
  · exact h.mc.lt
  rcases List.mem_cons.1 hb with rfl | hb
  · exact h.mp.lt
  rcases List.mem_cons.1 hb with rfl | hb
  · exact h.ms.lt
  rcases List.mem_append.1 hb with hb | hb
  · obtain ⟨p, hp, rfl⟩ := List.mem_map.1 hb
    exact own_in (h.crow p hp)
  · obtain ⟨p, hp, rfl⟩ := List.mem_map.1 hb
    exact own_in (h.srow p hp)
theorem CSt.below (h : CSt w B q L l) (hb : Below w.heap.size w w') : CSt w' B q L l := h.keep fun b hm => hb.block b (h.lt b hm)
theorem CSt.grown (h : CSt w B q L l) {r : Nat} (hg : w.grownBy w' (some r)) (hr : ¬ r ∈ L.foot q) : CSt w' B q L l := h.keep fun b hm => hg.block b (h.lt b hm) fun e => hr (by injection e with e; rw [← e]; exact hm)
/-- A channel more. -/
theorem CSt.addC (h : CSt w B q L l) {c : Chan} {x : CRow} (hB : B ≤ x.g) (hg : ¬ x.g ∈ L.foot q) (hn : ¬ c ∈ L.cl.map (·.1))
    (ho : w.ownsRow 0 33 8 (.slice (some ⟨x.g, 0, none⟩) (rowsOf l c).length x.cap) (rowsOf l c).length (msgCs (rowsOf l c)))
    (hm : SMap.MB chV w' L.cm (SMap.put (L.cl.map fun p => (p.1, rowV (rowsOf l p.1) p.2)) c (rowV (rowsOf l c) x))) (hgr : w.grownBy w' (some L.cm)) :
    CSt w' B q { L with cl := L.cl ++ [(c, x)] } l := by
  have hl : SMap.look (L.cl.map fun p => (p.1, rowV (rowsOf l p.1) p.2)) c = none := look_off (fun c x => rowV (rowsOf l c) x) hn
  rw [SMap.put_new _ _ _ hl] at hm
  have hnd := h.fd
  unfold QL.foot at hnd hg
  have hk : ∀ b ∈ L.foot q, b ≠ L.cm → w'.heap[b]? = w.heap[b]? := fun b hb hne => hgr.block b (h.lt b hb) fun e => hne (by injection e)
  have hcm : ∀ b ∈ L.foot q, b = q ∨ b = L.pm ∨ b = L.sm ∨ b ∈ L.cl.map (·.2.g) ∨ b ∈ L.sl.map (·.2.g) → b ≠ L.cm := fun b hb hor e => by
    subst e
    simp only [List.nodup_cons, List.mem_cons, List.mem_append, not_or] at hnd
    obtain ⟨⟨h1, h2, h3, h4, h5⟩, ⟨h6, h7, h8, h9⟩, _⟩ := hnd
    rcases hor with e | e | e | e | e
    · exact h1 e.symm
    · exact h6 e
    · exact h7 e
    · exact h8 e
    · exact h9 e
  refine ⟨(hk _ foot_q (hcm _ foot_q (.inl rfl))).trans h.blk, ?_, (hk _ foot_p (hcm _ foot_p (.inr (.inl rfl)))).trans h.mp, (hk _ foot_s (hcm _ foot_s (.inr (.inr (.inl rfl))))).trans h.ms, ?_, ?_, ?_, ?_⟩
  · show SMap.MB chV w' L.cm ((L.cl ++ [(c, x)]).map fun p => (p.1, rowV (rowsOf l p.1) p.2))
    rw [List.map_append]
    exact hm
  · show (q :: L.cm :: L.pm :: L.sm :: ((L.cl ++ [(c, x)]).map (·.2.g) ++ L.sl.map (·.2.g))).Nodup
    have e : q :: L.cm :: L.pm :: L.sm :: ((L.cl ++ [(c, x)]).map (·.2.g) ++ L.sl.map (·.2.g)) = (q :: L.cm :: L.pm :: L.sm :: L.cl.map (·.2.g)) ++ x.g :: L.sl.map (·.2.g) := by simp
    rw [e, nodup_mid]
    have e2 : (q :: L.cm :: L.pm :: L.sm :: L.cl.map (·.2.g)) ++ L.sl.map (·.2.g) = q :: L.cm :: L.pm :: L.sm :: (L.cl.map (·.2.g) ++ L.sl.map (·.2.g)) := by simp
    rw [e2]
    exact ⟨hg, hnd⟩
  · intro b hb
    have : b ∈ L.foot q ∨ b = x.g := by
      unfold QL.foot at hb ⊢
      simp only [List.mem_cons, List.mem_append, List.map_append, List.map_cons, List.map_nil, List.not_mem_nil, or_false] at hb ⊢
      rcases hb with h | h | h | h | (h | h) | h <;> simp [h]
    rcases this with h1 | rfl
    · exact h.lo b h1
    · exact hB
  · intro p hp
    rcases List.mem_append.1 hp with hp | hp
    · exact own_heap (h.crow p hp) (hk _ (foot_row hp) (hcm _ (foot_row hp) (.inr (.inr (.inr (.inl (List.mem_map_of_mem (f := fun p : Chan × CRow => p.2.g) hp)))))))
    · rw [List.mem_singleton.1 hp]
      refine own_heap ho (hgr.block x.g (own_in ho) fun e => hg ?_)
      injection e with e
      rw [e]
      simp
  · intro p hp
    exact own_heap (h.srow p hp) (hk _ (foot_srow hp) (hcm _ (foot_srow hp) (.inr (.inr (.inr (.inr (List.mem_map_of_mem (f := fun p : Inb × SRow => p.2.g) hp)))))))
/-- A place more. -/
theorem CSt.addP (h : CSt w B q L l) {c : Who} {x : PRow} (hn : ¬ c ∈ L.pl.map (·.1))
    (hm : SMap.MB whV w' L.pm (SMap.put (L.pl.map fun p => (p.1, plV p.2)) c (plV x))) (hgr : w.grownBy w' (some L.pm)) :
    CSt w' B q { L with pl := L.pl ++ [(c, x)] } l := by
  have hl : SMap.look (L.pl.map fun p => (p.1, plV p.2)) c = none := look_off (fun _ x => plV x) hn
  rw [SMap.put_new _ _ _ hl] at hm
  have hnd := h.fd
  unfold QL.foot at hnd
  have hk : ∀ b ∈ L.foot q, b ≠ L.pm → w'.heap[b]? = w.heap[b]? := fun b hb hne => hgr.block b (h.lt b hb) fun e => hne (by injection e)
  have hcm : ∀ b ∈ L.foot q, b = q ∨ b = L.cm ∨ b = L.sm ∨ b ∈ L.cl.map (·.2.g) ∨ b ∈ L.sl.map (·.2.g) → b ≠ L.pm := fun b hb hor e => by
    subst e
    simp only [List.nodup_cons, List.mem_cons, List.mem_append, not_or] at hnd
    obtain ⟨⟨h1, h2, h3, h4, h5⟩, ⟨h6, h7, h8, h9⟩, ⟨k1, k2, k3⟩, _⟩ := hnd
    rcases hor with e | e | e | e | e
    · exact h2 e.symm
    · exact h6 e.symm
    · exact k1 e
    · exact k2 e
    · exact k3 e
  refine ⟨(hk _ foot_q (hcm _ foot_q (.inl rfl))).trans h.blk, (hk _ foot_c (hcm _ foot_c (.inr (.inl rfl)))).trans h.mc, ?_, (hk _ foot_s (hcm _ foot_s (.inr (.inr (.inl rfl))))).trans h.ms, h.fd, h.lo, ?_, ?_⟩
  · show SMap.MB whV w' L.pm ((L.pl ++ [(c, x)]).map fun p => (p.1, plV p.2))
    rw [List.map_append]
    exact hm
  · intro p hp
    exact own_heap (h.crow p hp) (hk _ (foot_row hp) (hcm _ (foot_row hp) (.inr (.inr (.inr (.inl (List.mem_map_of_mem (f := fun p : Chan × CRow => p.2.g) hp)))))))
  · intro p hp
    exact own_heap (h.srow p hp) (hk _ (foot_srow hp) (hcm _ (foot_srow hp) (.inr (.inr (.inr (.inr (List.mem_map_of_mem (f := fun p : Inb × SRow => p.2.g) hp)))))))
/-- A receiver more. -/
theorem CSt.addS (h : CSt w B q L l) {c : Inb} {x : SRow} (hB : B ≤ x.g) (hg : ¬ x.g ∈ L.foot q) (hn : ¬ c ∈ L.sl.map (·.1))
    (ho : w.ownsRow 0 3 1 (.slice (some ⟨x.g, 0, none⟩) (fromsOf l c).length x.cap) (fromsOf l c).length (ints (fromsOf l c)))
    (hm : SMap.MB inV w' L.sm (SMap.put (L.sl.map fun p => (p.1, slV (fromsOf l p.1) p.2)) c (slV (fromsOf l c) x))) (hgr : w.grownBy w' (some L.sm)) :
    CSt w' B q { L with sl := L.sl ++ [(c, x)] } l := by
  have hl : SMap.look (L.sl.map fun p => (p.1, slV (fromsOf l p.1) p.2)) c = none := look_off (fun c x => slV (fromsOf l c) x) hn
  rw [SMap.put_new _ _ _ hl] at hm
  have hnd := h.fd
  unfold QL.foot at hnd hg
  have hk : ∀ b ∈ L.foot q, b ≠ L.sm → w'.heap[b]? = w.heap[b]? := fun b hb hne => hgr.block b (h.lt b hb) fun e => hne (by injection e)
  have hcm : ∀ b ∈ L.foot q, b = q ∨ b = L.cm ∨ b = L.pm ∨ b ∈ L.cl.map (·.2.g) ∨ b ∈ L.sl.map (·.2.g) → b ≠ L.sm := fun b hb hor e => by
    subst e
    simp only [List.nodup_cons, List.mem_cons, List.mem_append, not_or] at hnd
    obtain ⟨⟨h1, h2, h3, h4, h5⟩, ⟨h6, h7, h8, h9⟩, ⟨k1, k2, k3⟩, ⟨j1, j2⟩, _⟩ := hnd
    rcases hor with e | e | e | e | e
    · exact h3 e.symm
    · exact h7 e.symm
    · exact k1 e.symm
    · exact j1 e
    · exact j2 e
  refine ⟨(hk _ foot_q (hcm _ foot_q (.inl rfl))).trans h.blk, (hk _ foot_c (hcm _ foot_c (.inr (.inl rfl)))).trans h.mc, (hk _ foot_p (hcm _ foot_p (.inr (.inr (.inl rfl))))).trans h.mp, ?_, ?_, ?_, ?_, ?_⟩
  · show SMap.MB inV w' L.sm ((L.sl ++ [(c, x)]).map fun p => (p.1, slV (fromsOf l p.1) p.2))
    rw [List.map_append]
    exact hm
  · show (q :: L.cm :: L.pm :: L.sm :: (L.cl.map (·.2.g) ++ (L.sl ++ [(c, x)]).map (·.2.g))).Nodup
    have e : q :: L.cm :: L.pm :: L.sm :: (L.cl.map (·.2.g) ++ (L.sl ++ [(c, x)]).map (·.2.g)) = (q :: L.cm :: L.pm :: L.sm :: (L.cl.map (·.2.g) ++ L.sl.map (·.2.g))) ++ x.g :: [] := by simp
    rw [e, nodup_mid, List.append_nil]
    exact ⟨hg, hnd⟩
  · intro b hb
    have : b ∈ L.foot q ∨ b = x.g := by
      unfold QL.foot at hb ⊢
      simp only [List.mem_cons, List.mem_append, List.map_append, List.map_cons, List.map_nil, List.not_mem_nil, or_false] at hb ⊢
      rcases hb with h | h | h | h | h | h | h <;> simp [h]
    rcases this with h1 | rfl
    · exact h.lo b h1
    · exact hB
  · intro p hp
    exact own_heap (h.crow p hp) (hk _ (foot_row hp) (hcm _ (foot_row hp) (.inr (.inr (.inr (.inl (List.mem_map_of_mem (f := fun p : Chan × CRow => p.2.g) hp)))))))
  · intro p hp
    rcases List.mem_append.1 hp with hp | hp
    · exact own_heap (h.srow p hp) (hk _ (foot_srow hp) (hcm _ (foot_srow hp) (.inr (.inr (.inr (.inr (List.mem_map_of_mem (f := fun p : Inb × SRow => p.2.g) hp)))))))
    · rw [List.mem_singleton.1 hp]
      refine own_heap ho (hgr.block x.g (own_in ho) fun e => hg ?_)
      injection e with e
      rw [e]
      simp
/-- The copy is whole. -/
theorem CSt.whole {w0 : World} {q0 : Nat} {L0 : QL} (h0 : QSt w0 q0 L0 l) (h : CSt w B q L l) (hc : (L.cl.map (·.1)).Perm (L0.cl.map (·.1))) (hfi : ∀ p ∈ L.cl, ∃ x, (p.1, x) ∈ L0.cl ∧ p.2.fi = x.fi)
    (hp : (L.pl.map fun p => (p.1, plV p.2)).Perm (L0.pl.map fun p => (p.1, plV p.2))) (hs : (L.sl.map (·.1)).Perm (L0.sl.map (·.1))) : QSt w q L l := by
  have hpk : (L.pl.map (·.1)).Perm (L0.pl.map (·.1)) := by
    have := hp.map (·.1)
    rwa [List.map_map, List.map_map] at this
  have hkp : (L.pl.map (·.1)).Nodup := hpk.nodup_iff.2 h0.kp
  exact ⟨h.blk, h.mc, h.mp, h.ms, hc.nodup_iff.2 h0.kc, hkp, hs.nodup_iff.2 h0.ks, h.fd, fun c => (hc.mem_iff).trans (h0.cin c), h.crow,
    fun p hpm => (by
      obtain ⟨x, hx, e⟩ := hfi p hpm
      rw [e]
      exact h0.cfi _ hx), fun x => (by
      rw [SMap.look_perm hp (by rw [List.map_map]; exact hkp)]
      exact h0.pin x), fun b => (hs.mem_iff).trans (h0.sin b), h.srow, h0.ok, h0.uq⟩
set_option maxRecDepth 100000 in
/-- A row of messages, copied. -/
theorem clone_m {w : World} (g cap n : Nat) (r : List Msg) (h : MRow w (some ⟨g, 0, none⟩) r) (hg : g < w.heap.size) (hn : r.length = n) (hl : n ≤ 1000) :
    Calls Try.prog 70 #[.slice (some ⟨g, 0, none⟩) n cap] w fun e w' => ∃ A1 c1, e = .returned (.slice A1 n c1) ∧ w'.ownsRow w.heap.size 33 8 (.slice A1 n c1) n (msgCs r) ∧ Below w.heap.size w w' := by
  have he : ∀ w, (binOp BinOp.eql 45 (Value.slice (some ⟨g, 0, none⟩) n cap) (Value.slice none 0 0)).run Try.prog w = .ok (.bool false) w := fun w => by
    simp [binOp, run_equal_slice_nil w _ _ _ _ _ Try.underlying45]
  have ba := (Below.refl w.heap.size w).alloc (Nat.le_refl _) (.cells #[] 33)
  have own0 : (w.alloc (.cells #[] 33)).ownsRow w.heap.size 33 8 (.slice (some ⟨w.heap.size, 0, none⟩) 0 0) 0 (msgCs []) := ⟨rfl, .inr ⟨w.heap.size, 0, #[], rfl, Nat.le_refl _, heap_alloc_new w _, Nat.le_refl _, by unfold maxLen; omega, rfl, rfl⟩⟩
  have hr : Reads (w.alloc (.cells #[] 33)) (w.alloc (.cells #[] 33)).heap.size 8 (some ⟨g, 0, none⟩) n (msgCs r) := ⟨by rw [msgCs_len, hn], fun _ => ⟨_, rfl, by simp; omega, fun j u hu => by
    rw [add_lit]
    have hj : j < n * 8 := by
      have := (List.getElem?_eq_some_iff.1 hu).1
      rw [msgCs_len, hn] at this
      exact this
    obtain ⟨m, hm⟩ : ∃ m, r[j / 8]? = some m := ⟨_, List.getElem?_eq_getElem (by omega)⟩
    obtain ⟨g', e, _, hc⟩ := (h.below ba).it _ m hm
    cases e
    have hu2 := msgCs_at r (j / 8) m hm (j % 8) (by omega)
    rw [show j / 8 * 8 + j % 8 = j by omega, hu] at hu2
    have := hc (j % 8) u hu2.symm
    rwa [show j / 8 * 8 + j % 8 = j by omega] at this⟩⟩
  have hs1 : (w.alloc (.cells #[] 33)).heap.size = w.heap.size + 1 := by simp
  obtain ⟨Wz, hWz⟩ : ∃ x', w.alloc (.cells #[] 33) = x' := ⟨_, rfl⟩
  rw [hWz] at ba own0 hr hs1
  obtain ⟨A1, c1, w1, hrun, hown, hgr⟩ := push_ms Wz w.heap.size _ 0 0 _ (some ⟨g, 0, none⟩) cap n r hn own0 hr (by omega) (by omega) (by omega)
  rw [Nat.zero_add] at hrun hown
  have HOWN := hide hown
  have HB := hide (ba.grown hgr (by omega) (fun k e => by have := (own_block own0 e).1; omega))
  have RUN := hide hrun
  have HE := hide hWz
  clear hrun hown hgr ba own0 hr hs1 h hWz
  go_enter Try.func70, Try.ntmps70
  go_wp2_with (at_builtin; rw [HE.out]; refine Lib.wpList_append_run _ rfl _ _ 45 45 rfl _ _ rfl rfl _ _ RUN.out ?_)
  go_ret
  exact ⟨A1, c1, rfl, HOWN.out, HB.out⟩
set_option maxRecDepth 100000 in
/-- A row of numbers, copied. -/
theorem clone_n {w : World} (g cap n : Nat) (r : List Int) (h : NRow w (some ⟨g, 0, none⟩) r) (hg : g < w.heap.size) (hn : r.length = n) (hl : n ≤ 1000) :
    Calls Try.prog 71 #[.slice (some ⟨g, 0, none⟩) n cap] w fun e w' => ∃ A1 c1, e = .returned (.slice A1 n c1) ∧ w'.ownsRow w.heap.size 3 1 (.slice A1 n c1) n (ints r) ∧ Below w.heap.size w w' := by
  have he : ∀ w, (binOp BinOp.eql 116 (Value.slice (some ⟨g, 0, none⟩) n cap) (Value.slice none 0 0)).run Try.prog w = .ok (.bool false) w := fun w => by
    simp [binOp, run_equal_slice_nil w _ _ _ _ _ Try.underlying116]
  have ba := (Below.refl w.heap.size w).alloc (Nat.le_refl _) (.cells #[] 3)
  have own0 : (w.alloc (.cells #[] 3)).ownsRow w.heap.size 3 1 (.slice (some ⟨w.heap.size, 0, none⟩) 0 0) 0 (ints []) := ⟨rfl, .inr ⟨w.heap.size, 0, #[], rfl, Nat.le_refl _, heap_alloc_new w _, Nat.le_refl _, by unfold maxLen; omega, rfl, rfl⟩⟩
  have hr : Reads (w.alloc (.cells #[] 3)) (w.alloc (.cells #[] 3)).heap.size 1 (some ⟨g, 0, none⟩) n (ints r) := ⟨by rw [ints_len, hn]; omega, fun _ => ⟨_, rfl, by simp; omega, fun j u hu => by
    rw [add_lit]
    unfold ints at hu
    rw [List.getElem?_map] at hu
    cases hx : r[j]? with
    | none => rw [hx] at hu; cases hu
    | some x =>
      rw [hx] at hu
      cases hu
      obtain ⟨g', e, _, hc⟩ := (h.below ba).it _ x hx
      cases e
      exact hc⟩⟩
  have hs1 : (w.alloc (.cells #[] 3)).heap.size = w.heap.size + 1 := by simp
  obtain ⟨Wz, hWz⟩ : ∃ x', w.alloc (.cells #[] 3) = x' := ⟨_, rfl⟩
  rw [hWz] at ba own0 hr hs1
  obtain ⟨i0, hi0, hz0', hz1, hz2⟩ := info_parts int_infoQ
  obtain ⟨v11, w1, hrun, hown, hgr, hob⟩ := run_append_any (P := Try.prog) Wz w.heap.size 116 116 3 i0 _ 1 8 Try.underlying116 hi0 hz0' hz1 hz2 (by rfl) (by omega) _ _ _ own0 Wz.heap.size (some ⟨g, 0, none⟩) n cap _ hr (by intro u hu; obtain ⟨z, _, rfl⟩ := List.mem_map.1 (show u ∈ r.map (Value.int .i64) from hu); rfl) (by unfold maxLen; omega) (by omega) (by omega)
  rw [Nat.zero_add] at hown
  obtain ⟨A1, c1, rfl⟩ := own_form hown
  have HOWN := hide hown
  have HB := hide (ba.grown hgr (by omega) (fun k e => by have := (own_block own0 e).1; omega))
  have RUN := hide hrun
  have HE := hide hWz
  clear hrun hown hgr ba own0 hr hs1 h hWz hob
  go_enter Try.func71, Try.ntmps71
  go_wp2_with (at_builtin; rw [HE.out]; refine Lib.wpList_append_run _ rfl _ _ 116 116 rfl _ _ rfl rfl _ _ RUN.out ?_)
  go_ret
  exact ⟨A1, c1, rfl, HOWN.out, HB.out⟩
end Qu
end Go.Proofs.Ytonmojinijpneaa
end
section
/- A copy of a queue: the program. -/
namespace Go.Proofs.Ytonmojinijpneaa
open Go Go.RowKit Go.Lib
set_option linter.unusedVariables false
set_option linter.unusedSimpArgs false
namespace Qu
theorem run_len_map {κ : Type} [DecidableEq κ] {kv : κ → Value} {mt kt vt : TypeId} (hm : Try.prog.underlying mt = some (.map kt vt)) {w : World} {r : Nat} {l : List (κ × Value)} (hb : SMap.MB kv w r l) :
    (Builtin.len_ #[mt] 3 #[.map (some r)]).run Try.prog w = .ok (.int .i64 l.length) w := by
  have hg := MapKept.run_getObj_map (P := Try.prog) hb
  simp [Builtin.len_, run_underlying hm, hg, Result.andThen, SMap.ent_len]
  rfl
/-- Three new maps. -/
structure EM (w0 w : World) (a b c : Nat) : Prop where
  la : w0.heap.size ≤ a
  lb : w0.heap.size ≤ b
  lc : w0.heap.size ≤ c
  ab : a ≠ b
  ac : a ≠ c
  bc : b ≠ c
  ha : w.heap[a]? = some (.map #[] 0)
  hb : w.heap[b]? = some (.map #[] 0)
  hc : w.heap[c]? = some (.map #[] 0)
theorem lt_some {w : World} {a : Nat} {o : Obj} (h : w.heap[a]? = some o) : a < w.heap.size := (Array.getElem?_eq_some_iff.1 h).1
theorem EM.below {w0 w w' : World} {a b c : Nat} (h : EM w0 w a b c) (hb : Below w.heap.size w w') : EM w0 w' a b c :=
  ⟨h.la, h.lb, h.lc, h.ab, h.ac, h.bc, (hb.block a (lt_some h.ha)).trans h.ha, (hb.block b (lt_some h.hb)).trans h.hb, (hb.block c (lt_some h.hc)).trans h.hc⟩
/-- What the maps that are made are, while they are made. -/
def S3 (i : Nat) : Prop := i = 5 ∨ i = 11 ∨ i = 17
structure JM (w0 : World) (V : Nat → Option Value) (w : World) : Prop where
  bl : Below w0.heap.size w0 w
  on : ∀ i, S3 i → ∀ v, V i = some v → ∃ a, v = .map (some a) ∧ w0.heap.size ≤ a ∧ w.heap[a]? = some (.map #[] 0)
  ap : ∀ i j, S3 i → S3 j → i ≠ j → ∀ a b, V i = some (.map (some a)) → V j = some (.map (some b)) → a ≠ b
theorem JM.plain {w0 w w' : World} {V : Nat → Option Value} {i : Nat} {v : Value} (h : JM w0 V w) (hb : Below w.heap.size w w') (hi : ¬ S3 i) : JM w0 (setV V i v) w' := by
  have e : ∀ j, S3 j → setV V i v j = V j := fun j hj => if_neg fun (e : j = i) => hi (by rw [← e]; exact hj)
  refine ⟨h.bl.trans (hb.mono h.bl.size), fun j hj u hu => ?_, fun j k hj hk hne a b ha hb' => ?_⟩
  · rw [e j hj] at hu
    obtain ⟨a, h1, h2, h3⟩ := h.on j hj u hu
    exact ⟨a, h1, h2, (hb.block a (lt_some h3)).trans h3⟩
  · rw [e j hj] at ha
    rw [e k hk] at hb'
    exact h.ap j k hj hk hne a b ha hb'
theorem JM.new {w0 w : World} {V : Nat → Option Value} {i : Nat} (h : JM w0 V w) (hi : S3 i) : JM w0 (setV V i (.map (some w.heap.size))) (w.alloc (.map #[] 0)) := by
  have hb := (Below.refl w.heap.size w).alloc (Nat.le_refl _) (.map #[] 0)
  have hs : ∀ j, setV V i (.map (some w.heap.size)) j = if j = i then some (.map (some w.heap.size)) else V j := fun j => rfl
  refine ⟨h.bl.trans (hb.mono h.bl.size), fun j hj u hu => ?_, fun j k hj hk hne a b ha hb' => ?_⟩
  · rw [hs] at hu
    split at hu
    · cases hu
      exact ⟨_, rfl, h.bl.size, heap_alloc_new w _⟩
    · obtain ⟨a, h1, h2, h3⟩ := h.on j hj u hu
      exact ⟨a, h1, h2, (hb.block a (lt_some h3)).trans h3⟩
  · rw [hs] at ha hb'
    split at ha
    · cases ha
      rw [if_neg (by omega)] at hb'
      obtain ⟨a', h1, _, h3⟩ := h.on k hk _ hb'
      cases h1
      have := lt_some h3
      omega
    · split at hb'
      · cases hb'
        obtain ⟨a', h1, _, h3⟩ := h.on j hj _ ha
        cases h1
        have := lt_some h3
        omega
      · exact h.ap j k hj hk hne a b ha hb'
theorem JM.em {w0 w : World} {V : Nat → Option Value} {a b c : Nat} (h : JM w0 V w) (h5 : V 5 = some (.map (some a))) (h11 : V 11 = some (.map (some b))) (h17 : V 17 = some (.map (some c))) : EM w0 w a b c := by
  obtain ⟨a', e1, k1, k2⟩ := h.on 5 (.inl rfl) _ h5
  obtain ⟨b', e2, k3, k4⟩ := h.on 11 (.inr (.inl rfl)) _ h11
  obtain ⟨c', e3, k5, k6⟩ := h.on 17 (.inr (.inr rfl)) _ h17
  cases e1
  cases e2
  cases e3
  exact ⟨k1, k3, k5, h.ap 5 11 (.inl rfl) (.inr (.inl rfl)) (by decide) _ _ h5 h11, h.ap 5 17 (.inl rfl) (.inr (.inr rfl)) (by decide) _ _ h5 h17, h.ap 11 17 (.inr (.inl rfl)) (.inr (.inr rfl)) (by decide) _ _ h11 h17, k2, k4, k6⟩
theorem EM.box {w0 w : World} {a b c : Nat} {l : List Msg} (h : EM w0 w a b c) (hs : w0.heap.size ≤ w.heap.size) : CSt (w.alloc (.cells #[.map (some a), .map (some b), .map (some c)] 93)) w0.heap.size w.heap.size ⟨a, b, c, [], [], []⟩ l := by
  have hb := (Below.refl w.heap.size w).alloc (Nat.le_refl _) (.cells #[.map (some a), .map (some b), .map (some c)] 93)
  have h2 := h.below hb
  have la := lt_some h.ha
  have lb := lt_some h.hb
  have lc := lt_some h.hc
  have n1 := h.ab
  have n2 := h.ac
  have n3 := h.bc
  have g1 := h.la
  have g2 := h.lb
  have g3 := h.lc
  refine ⟨Blk.new w _ _, h2.ha, h2.hb, h2.hc, ?_, fun x hx => ?_, fun p hp => absurd hp List.not_mem_nil, fun p hp => absurd hp List.not_mem_nil⟩
  · show ([w.heap.size, a, b, c] : List Nat).Nodup
    simp
    omega
  · have : x = w.heap.size ∨ x = a ∨ x = b ∨ x = c := by simpa [QL.foot] using hx
    omega
set_option maxRecDepth 100000 in
set_option maxHeartbeats 16000000 in
theorem Copy_c {w : World} {q : Nat} {L : QL} {l : List Msg} (h : QSt w q L l) (hl : l.length ≤ 1000) :
    Calls Try.prog 42 #[.pointer (some ⟨q, 0, none⟩)] w fun e w' => ∃ q2 L2, e = .returned (.pointer (some ⟨q2, 0, none⟩)) ∧ QSt w' q2 L2 l ∧ (∀ b ∈ L2.foot q2, w.heap.size ≤ b) ∧ Below w.heap.size w w' := by
  have HQ0 := hide h
  have MC := hide (made_c h)
  have HB0 := hide (Below.refl w.heap.size w)
  have HCM := hide h.many
  clear h
  go_enter Try.func42, Try.ntmps42
  go_wp2_with fail
  refine MC.out.mono ?_
  rintro e wb ⟨rfl, hwb⟩
  obtain rfl : w = wb := hwb
  clear MC
  go_upto_region 3 with (fail)
  let R : Nat → Value → World → Prop := fun sl u w1 => match sl with
    | 3 => ∃ Q a b c, u = .pointer (some ⟨Q, 0, none⟩) ∧ CSt w1 w.heap.size Q ⟨a, b, c, [], [], []⟩ l
    | 13 => u = .pointer (some ⟨q, 0, none⟩)
    | 14 => u = .pointer (some ⟨q, 0, none⟩)
    | 15 => u = .pointer (some ⟨q, 0, none⟩)
    | 16 => u = .map (some L.cm)
    | 17 => ∃ n : Int, u = .int .i64 n
    | 18 => ∃ a : Nat, u = .map (some a)
    | 19 => u = .pointer (some ⟨q, 0, none⟩)
    | 20 => u = .pointer (some ⟨q, 0, none⟩)
    | 21 => u = .pointer (some ⟨q, 1, none⟩)
    | 22 => u = .map (some L.pm)
    | 23 => ∃ n : Int, u = .int .i64 n
    | 24 => ∃ a : Nat, u = .map (some a)
    | 25 => u = .pointer (some ⟨q, 0, none⟩)
    | 26 => u = .pointer (some ⟨q, 0, none⟩)
    | 27 => u = .pointer (some ⟨q, 2, none⟩)
    | 28 => u = .map (some L.sm)
    | 29 => ∃ n : Int, u = .int .i64 n
    | 30 => ∃ a : Nat, u = .map (some a)
    | 31 => ∃ a b c, u = .agg #[.map (some a), .map (some b), .map (some c)] ∧ EM w w1 a b c
    | 32 => ∃ Q a b c, u = .pointer (some ⟨Q, 0, none⟩) ∧ CSt w1 w.heap.size Q ⟨a, b, c, [], [], []⟩ l
    | _ => True
  refine wp_region_relGW [] R (fun a b => Below a.heap.size a b) (fun V w1 => JM w V w1) (by kernel_rfl) (by kernel_rfl) (by kernel_rfl) (by kernel_rfl) ?mono (fun w => Below.refl _ _) ⟨HB0.out.drew, (fun i _ v hv => by cases hv), (fun i j _ _ _ a b ha _ => by cases ha)⟩ ?gs ?step ?fin
  case mono =>
    intro sl u wx wy h hk
    match sl with
    | 17 =>
      exact h
    | 18 =>
      exact h
    | 23 =>
      exact h
    | 24 =>
      exact h
    | 29 =>
      exact h
    | 30 =>
      exact h
    | 31 =>
      obtain ⟨a, b, c, h1, h2⟩ := h
      exact ⟨a, b, c, h1, h2.below hk⟩
    | 32 =>
      obtain ⟨Q, a, b, c, h1, h2⟩ := h
      exact ⟨Q, a, b, c, h1, h2.below hk⟩
    | 3 =>
      obtain ⟨Q, a, b, c, h1, h2⟩ := h
      exact ⟨Q, a, b, c, h1, h2.below hk⟩
    | 0 | 1 | 2 | 4 | 5 | 6 | 7 | 8 | 9 | 10 | 11 | 12 | 13 | 14 | 15 | 16 | 19 | 20 | 21 | 22 | 25 | 26 | 27 | 28 | _ + 33 => exact h
  case gs =>
    intro p hp u w1 h
    cases hp
  case step =>
    intro j o ho
    match j, ho with
    | 0, ho =>
      cases ho
      intro V aa wx hV hdep hval hj hsm hr
      have e0 : aa.tmps.getD 0 undef = .pointer (some ⟨q, 0, none⟩) := hsm 0 (by decide)
      rw [Array.getD_eq_getD_getElem?] at e0
      unfold Oper.wp
      simp only [execOp, Act.eval, Array.getD_eq_getD_getElem?, e0]
      go_simp
      first | exact ⟨_, rfl, rfl, Below.refl _ _, hj.plain (Below.refl _ _) (by unfold S3; decide)⟩ | exact ⟨_, rfl, Below.refl _ _, hj.plain (Below.refl _ _) (by unfold S3; decide)⟩
    | 1, ho =>
      cases ho
      intro V aa wx hV hdep hval hj hsm hr
      have e13 : aa.tmps.getD 13 undef = .pointer (some ⟨q, 0, none⟩) := hr 13 (by decide) (by apply Array.mem_toList_iff.1; repeat (first | exact List.Mem.head _ | apply List.Mem.tail))
      rw [Array.getD_eq_getD_getElem?] at e13
      unfold Oper.wp
      simp only [execOp, Act.eval, Array.getD_eq_getD_getElem?, e13]
      go_simp
      first | exact ⟨_, rfl, rfl, Below.refl _ _, hj.plain (Below.refl _ _) (by unfold S3; decide)⟩ | exact ⟨_, rfl, Below.refl _ _, hj.plain (Below.refl _ _) (by unfold S3; decide)⟩
    | 2, ho =>
      cases ho
      intro V aa wx hV hdep hval hj hsm hr
      have e14 : aa.tmps.getD 14 undef = .pointer (some ⟨q, 0, none⟩) := hr 14 (by decide) (by apply Array.mem_toList_iff.1; repeat (first | exact List.Mem.head _ | apply List.Mem.tail))
      rw [Array.getD_eq_getD_getElem?] at e14
      unfold Oper.wp
      simp only [execOp, Act.eval, Array.getD_eq_getD_getElem?, e14]
      go_simp
      first | exact ⟨_, rfl, rfl, Below.refl _ _, hj.plain (Below.refl _ _) (by unfold S3; decide)⟩ | exact ⟨_, rfl, Below.refl _ _, hj.plain (Below.refl _ _) (by unfold S3; decide)⟩
    | 3, ho =>
      cases ho
      intro V aa wx hV hdep hval hj hsm hr
      have e15 : aa.tmps.getD 15 undef = .pointer (some ⟨q, 0, none⟩) := hr 15 (by decide) (by apply Array.mem_toList_iff.1; repeat (first | exact List.Mem.head _ | apply List.Mem.tail))
      have hq := HQ0.out.below hj.bl
      have c0 : wx.cell? ⟨q, 0, none⟩ = some (.map (some L.cm)) := hq.blk.cell 0
      rw [Array.getD_eq_getD_getElem?] at e15
      unfold Oper.wp
      simp only [execOp, Act.eval, Array.getD_eq_getD_getElem?, e15]
      go_simp
      first | exact ⟨_, rfl, rfl, Below.refl _ _, hj.plain (Below.refl _ _) (by unfold S3; decide)⟩ | exact ⟨_, rfl, Below.refl _ _, hj.plain (Below.refl _ _) (by unfold S3; decide)⟩
    | 4, ho =>
      cases ho
      intro V aa wx hV hdep hval hj hsm hr
      have e16 : aa.tmps.getD 16 undef = .map (some L.cm) := hr 16 (by decide) (by apply Array.mem_toList_iff.1; repeat (first | exact List.Mem.head _ | apply List.Mem.tail))
      have hln := run_len_map Try.underlying89 (HQ0.out.below hj.bl).mc
      rw [Array.getD_eq_getD_getElem?] at e16
      unfold Oper.wp
      simp only [execOp, Act.eval, Array.getD_eq_getD_getElem?, e16]
      go_simp
      exact ⟨_, rfl, ⟨_, rfl⟩, Below.refl _ _, hj.plain (Below.refl _ _) (by unfold S3; decide)⟩
    | 5, ho =>
      cases ho
      intro V aa wx hV hdep hval hj hsm hr
      have r17 := hr 17 (by decide) (by apply Array.mem_toList_iff.1; repeat (first | exact List.Mem.head _ | apply List.Mem.tail))
      obtain ⟨n, hn⟩ := r17
      have e17 : aa.tmps.getD 17 undef = .int .i64 n := hn
      have hmk := run_makeMap_hint (P := Try.prog) _ _ _ .i64 n Try.underlying89 wx
      rw [Array.getD_eq_getD_getElem?] at e17
      unfold Oper.wp
      simp only [execOp, Act.eval, Array.getD_eq_getD_getElem?, e17]
      go_simp
      exact ⟨_, rfl, ⟨_, rfl⟩, (Below.refl _ _).alloc (Nat.le_refl _) _, hj.new (by unfold S3; decide)⟩
    | 6, ho =>
      cases ho
      intro V aa wx hV hdep hval hj hsm hr
      have e0 : aa.tmps.getD 0 undef = .pointer (some ⟨q, 0, none⟩) := hsm 0 (by decide)
      rw [Array.getD_eq_getD_getElem?] at e0
      unfold Oper.wp
      simp only [execOp, Act.eval, Array.getD_eq_getD_getElem?, e0]
      go_simp
      first | exact ⟨_, rfl, rfl, Below.refl _ _, hj.plain (Below.refl _ _) (by unfold S3; decide)⟩ | exact ⟨_, rfl, Below.refl _ _, hj.plain (Below.refl _ _) (by unfold S3; decide)⟩
    | 7, ho =>
      cases ho
      intro V aa wx hV hdep hval hj hsm hr
      have e19 : aa.tmps.getD 19 undef = .pointer (some ⟨q, 0, none⟩) := hr 19 (by decide) (by apply Array.mem_toList_iff.1; repeat (first | exact List.Mem.head _ | apply List.Mem.tail))
      rw [Array.getD_eq_getD_getElem?] at e19
      unfold Oper.wp
      simp only [execOp, Act.eval, Array.getD_eq_getD_getElem?, e19]
      go_simp
      first | exact ⟨_, rfl, rfl, Below.refl _ _, hj.plain (Below.refl _ _) (by unfold S3; decide)⟩ | exact ⟨_, rfl, Below.refl _ _, hj.plain (Below.refl _ _) (by unfold S3; decide)⟩
    | 8, ho =>
      cases ho
      intro V aa wx hV hdep hval hj hsm hr
      have e20 : aa.tmps.getD 20 undef = .pointer (some ⟨q, 0, none⟩) := hr 20 (by decide) (by apply Array.mem_toList_iff.1; repeat (first | exact List.Mem.head _ | apply List.Mem.tail))
      rw [Array.getD_eq_getD_getElem?] at e20
      unfold Oper.wp
      simp only [execOp, Act.eval, Array.getD_eq_getD_getElem?, e20]
      go_simp
      first | exact ⟨_, rfl, rfl, Below.refl _ _, hj.plain (Below.refl _ _) (by unfold S3; decide)⟩ | exact ⟨_, rfl, Below.refl _ _, hj.plain (Below.refl _ _) (by unfold S3; decide)⟩
    | 9, ho =>
      cases ho
      intro V aa wx hV hdep hval hj hsm hr
      have e21 : aa.tmps.getD 21 undef = .pointer (some ⟨q, 1, none⟩) := hr 21 (by decide) (by apply Array.mem_toList_iff.1; repeat (first | exact List.Mem.head _ | apply List.Mem.tail))
      have hq := HQ0.out.below hj.bl
      have c0 : wx.cell? ⟨q, 1, none⟩ = some (.map (some L.pm)) := hq.blk.cell 1
      rw [Array.getD_eq_getD_getElem?] at e21
      unfold Oper.wp
      simp only [execOp, Act.eval, Array.getD_eq_getD_getElem?, e21]
      go_simp
      first | exact ⟨_, rfl, rfl, Below.refl _ _, hj.plain (Below.refl _ _) (by unfold S3; decide)⟩ | exact ⟨_, rfl, Below.refl _ _, hj.plain (Below.refl _ _) (by unfold S3; decide)⟩
    | 10, ho =>
      cases ho
      intro V aa wx hV hdep hval hj hsm hr
      have e22 : aa.tmps.getD 22 undef = .map (some L.pm) := hr 22 (by decide) (by apply Array.mem_toList_iff.1; repeat (first | exact List.Mem.head _ | apply List.Mem.tail))
      have hln := run_len_map Try.underlying90 (HQ0.out.below hj.bl).mp
      rw [Array.getD_eq_getD_getElem?] at e22
      unfold Oper.wp
      simp only [execOp, Act.eval, Array.getD_eq_getD_getElem?, e22]
      go_simp
      exact ⟨_, rfl, ⟨_, rfl⟩, Below.refl _ _, hj.plain (Below.refl _ _) (by unfold S3; decide)⟩
    | 11, ho =>
      cases ho
      intro V aa wx hV hdep hval hj hsm hr
      have r23 := hr 23 (by decide) (by apply Array.mem_toList_iff.1; repeat (first | exact List.Mem.head _ | apply List.Mem.tail))
      obtain ⟨n, hn⟩ := r23
      have e23 : aa.tmps.getD 23 undef = .int .i64 n := hn
      have hmk := run_makeMap_hint (P := Try.prog) _ _ _ .i64 n Try.underlying90 wx
      rw [Array.getD_eq_getD_getElem?] at e23
      unfold Oper.wp
      simp only [execOp, Act.eval, Array.getD_eq_getD_getElem?, e23]
      go_simp
      exact ⟨_, rfl, ⟨_, rfl⟩, (Below.refl _ _).alloc (Nat.le_refl _) _, hj.new (by unfold S3; decide)⟩
    | 12, ho =>
      cases ho
      intro V aa wx hV hdep hval hj hsm hr
      have e0 : aa.tmps.getD 0 undef = .pointer (some ⟨q, 0, none⟩) := hsm 0 (by decide)
      rw [Array.getD_eq_getD_getElem?] at e0
      unfold Oper.wp
      simp only [execOp, Act.eval, Array.getD_eq_getD_getElem?, e0]
      go_simp
      first | exact ⟨_, rfl, rfl, Below.refl _ _, hj.plain (Below.refl _ _) (by unfold S3; decide)⟩ | exact ⟨_, rfl, Below.refl _ _, hj.plain (Below.refl _ _) (by unfold S3; decide)⟩
    | 13, ho =>
      cases ho
      intro V aa wx hV hdep hval hj hsm hr
      have e25 : aa.tmps.getD 25 undef = .pointer (some ⟨q, 0, none⟩) := hr 25 (by decide) (by apply Array.mem_toList_iff.1; repeat (first | exact List.Mem.head _ | apply List.Mem.tail))
      rw [Array.getD_eq_getD_getElem?] at e25
      unfold Oper.wp
      simp only [execOp, Act.eval, Array.getD_eq_getD_getElem?, e25]
      go_simp
      first | exact ⟨_, rfl, rfl, Below.refl _ _, hj.plain (Below.refl _ _) (by unfold S3; decide)⟩ | exact ⟨_, rfl, Below.refl _ _, hj.plain (Below.refl _ _) (by unfold S3; decide)⟩
    | 14, ho =>
      cases ho
      intro V aa wx hV hdep hval hj hsm hr
      have e26 : aa.tmps.getD 26 undef = .pointer (some ⟨q, 0, none⟩) := hr 26 (by decide) (by apply Array.mem_toList_iff.1; repeat (first | exact List.Mem.head _ | apply List.Mem.tail))
      rw [Array.getD_eq_getD_getElem?] at e26
      unfold Oper.wp
      simp only [execOp, Act.eval, Array.getD_eq_getD_getElem?, e26]
      go_simp
      first | exact ⟨_, rfl, rfl, Below.refl _ _, hj.plain (Below.refl _ _) (by unfold S3; decide)⟩ | exact ⟨_, rfl, Below.refl _ _, hj.plain (Below.refl _ _) (by unfold S3; decide)⟩
    | 15, ho =>
      cases ho
      intro V aa wx hV hdep hval hj hsm hr
      have e27 : aa.tmps.getD 27 undef = .pointer (some ⟨q, 2, none⟩) := hr 27 (by decide) (by apply Array.mem_toList_iff.1; repeat (first | exact List.Mem.head _ | apply List.Mem.tail))
      have hq := HQ0.out.below hj.bl
      have c0 : wx.cell? ⟨q, 2, none⟩ = some (.map (some L.sm)) := hq.blk.cell 2
      rw [Array.getD_eq_getD_getElem?] at e27
      unfold Oper.wp
      simp only [execOp, Act.eval, Array.getD_eq_getD_getElem?, e27]
      go_simp
      first | exact ⟨_, rfl, rfl, Below.refl _ _, hj.plain (Below.refl _ _) (by unfold S3; decide)⟩ | exact ⟨_, rfl, Below.refl _ _, hj.plain (Below.refl _ _) (by unfold S3; decide)⟩
    | 16, ho =>
      cases ho
      intro V aa wx hV hdep hval hj hsm hr
      have e28 : aa.tmps.getD 28 undef = .map (some L.sm) := hr 28 (by decide) (by apply Array.mem_toList_iff.1; repeat (first | exact List.Mem.head _ | apply List.Mem.tail))
      have hln := run_len_map Try.underlying91 (HQ0.out.below hj.bl).ms
      rw [Array.getD_eq_getD_getElem?] at e28
      unfold Oper.wp
      simp only [execOp, Act.eval, Array.getD_eq_getD_getElem?, e28]
      go_simp
      exact ⟨_, rfl, ⟨_, rfl⟩, Below.refl _ _, hj.plain (Below.refl _ _) (by unfold S3; decide)⟩
    | 17, ho =>
      cases ho
      intro V aa wx hV hdep hval hj hsm hr
      have r29 := hr 29 (by decide) (by apply Array.mem_toList_iff.1; repeat (first | exact List.Mem.head _ | apply List.Mem.tail))
      obtain ⟨n, hn⟩ := r29
      have e29 : aa.tmps.getD 29 undef = .int .i64 n := hn
      have hmk := run_makeMap_hint (P := Try.prog) _ _ _ .i64 n Try.underlying91 wx
      rw [Array.getD_eq_getD_getElem?] at e29
      unfold Oper.wp
      simp only [execOp, Act.eval, Array.getD_eq_getD_getElem?, e29]
      go_simp
      exact ⟨_, rfl, ⟨_, rfl⟩, (Below.refl _ _).alloc (Nat.le_refl _) _, hj.new (by unfold S3; decide)⟩
    | 18, ho =>
      cases ho
      intro V aa wx hV hdep hval hj hsm hr
      have r18 := hr 18 (by decide) (by apply Array.mem_toList_iff.1; repeat (first | exact List.Mem.head _ | apply List.Mem.tail))
      have r24 := hr 24 (by decide) (by apply Array.mem_toList_iff.1; repeat (first | exact List.Mem.head _ | apply List.Mem.tail))
      have r30 := hr 30 (by decide) (by apply Array.mem_toList_iff.1; repeat (first | exact List.Mem.head _ | apply List.Mem.tail))
      obtain ⟨a, h18⟩ := r18
      have e18 : aa.tmps.getD 18 undef = .map (some a) := h18
      have v5 : V 5 = some (.map (some a)) := by rw [hval 5 _ 18 rfl rfl (hdep ⟨5, Ground.data⟩ (by simp) (by decide)), h18]
      obtain ⟨b, h24⟩ := r24
      have e24 : aa.tmps.getD 24 undef = .map (some b) := h24
      have v11 : V 11 = some (.map (some b)) := by rw [hval 11 _ 24 rfl rfl (hdep ⟨11, Ground.data⟩ (by simp) (by decide)), h24]
      obtain ⟨c, h30⟩ := r30
      have e30 : aa.tmps.getD 30 undef = .map (some c) := h30
      have v17 : V 17 = some (.map (some c)) := by rw [hval 17 _ 30 rfl rfl (hdep ⟨17, Ground.data⟩ (by simp) (by decide)), h30]
      have hem := hide (hj.em v5 v11 v17)
      clear v5 v11 v17 h18 h24 h30
      rw [Array.getD_eq_getD_getElem?] at e18
      rw [Array.getD_eq_getD_getElem?] at e24
      rw [Array.getD_eq_getD_getElem?] at e30
      unfold Oper.wp
      simp only [execOp, Act.eval, Array.getD_eq_getD_getElem?, e18, e24, e30]
      go_simp
      exact ⟨_, rfl, ⟨a, b, c, rfl, hem.out⟩, Below.refl _ _, hj.plain (Below.refl _ _) (by unfold S3; decide)⟩
    | 19, ho =>
      cases ho
      intro V aa wx hV hdep hval hj hsm hr
      have r31 := hr 31 (by decide) (by apply Array.mem_toList_iff.1; repeat (first | exact List.Mem.head _ | apply List.Mem.tail))
      obtain ⟨a, b, c, h31, hem⟩ := r31
      have e31 : aa.tmps.getD 31 undef = .agg #[.map (some a), .map (some b), .map (some c)] := h31
      have HEM := hide hem
      clear h31 hem
      rw [Array.getD_eq_getD_getElem?] at e31
      unfold Oper.wp
      simp only [execOp, Act.eval, Array.getD_eq_getD_getElem?, e31]
      go_simp
      exact ⟨_, rfl, ⟨_, a, b, c, rfl, HEM.out.box hj.bl.size⟩, (Below.refl _ _).alloc (Nat.le_refl _) _, hj.plain ((Below.refl _ _).alloc (Nat.le_refl _) _) (by unfold S3; decide)⟩
    | 20, ho =>
      cases ho
      intro V aa wx hV hdep hval hj hsm hr
      have r32 := hr 32 (by decide) (by apply Array.mem_toList_iff.1; repeat (first | exact List.Mem.head _ | apply List.Mem.tail))
      obtain ⟨Q, a, b, c, h32, hcs⟩ := r32
      have e32 : aa.tmps.getD 32 undef = .pointer (some ⟨Q, 0, none⟩) := h32
      have HCS := hide hcs
      clear h32 hcs
      rw [Array.getD_eq_getD_getElem?] at e32
      unfold Oper.wp
      simp only [execOp, Act.eval, Array.getD_eq_getD_getElem?, e32]
      go_simp
      exact ⟨_, rfl, ⟨Q, a, b, c, rfl, HCS.out⟩, Below.refl _ _, hj.plain (Below.refl _ _) (by unfold S3; decide)⟩
    | _ + 21, ho => cases ho
  case fin =>
    intro ff V wz hV hj hr
    have e3 : ∃ Q a b c, ff 3 = .pointer (some ⟨Q, 0, none⟩) ∧ CSt wz w.heap.size Q ⟨a, b, c, [], [], []⟩ l := hr 3 (by decide)
    obtain ⟨Q, ma, mb, mc, e3, hcs⟩ := e3
    have HCS := hide hcs
    have HBZ := hide hj.bl
    clear hV hr hj hcs
    simp only [putAll, slotsOf, List.filterMap_cons, List.filterMap_nil, List.foldl_cons, List.foldl_nil, Act.put, e3]
    simp only [List.setIfInBounds_toArray, List.set_cons_succ, List.set_cons_zero]
    have HQz0 := hide (HQ0.out.below HBZ.out)
    have c0 : wz.cell? ⟨q, 0, none⟩ = some (.map (some L.cm)) := HQz0.out.blk.cell 0
    obtain ⟨hrg, hit⟩ := SMap.run_range (P := Try.prog) Try.underlying89 _ L.cm wz HQz0.out.mc
    have hmb := (HQ0.out).mc
    have hcm : L.cm < w.heap.size := hmb.lt
    have bi := (Below.refl wz.heap.size wz).alloc (Nat.le_refl _) (.mapIter (some L.cm) (L.cl.map fun p => (p.1, rowV (rowsOf l p.1) p.2)).length #[] (L.cl.map fun p => (p.1, rowV (rowsOf l p.1) p.2)).length)
    have si : (wz.alloc (.mapIter (some L.cm) (L.cl.map fun p => (p.1, rowV (rowsOf l p.1) p.2)).length #[] (L.cl.map fun p => (p.1, rowV (rowsOf l p.1) p.2)).length)).heap.size = wz.heap.size + 1 := by simp
    have hkn : ((L.cl.map fun p => (p.1, rowV (rowsOf l p.1) p.2)).map (·.1)).Nodup := by rw [List.map_map]; exact HQ0.out.kc
    obtain ⟨W1, hW1⟩ : ∃ z, wz.alloc (.mapIter (some L.cm) (L.cl.map fun p => (p.1, rowV (rowsOf l p.1) p.2)).length #[] (L.cl.map fun p => (p.1, rowV (rowsOf l p.1) p.2)).length) = z := ⟨_, rfl⟩
    rw [hW1] at hrg hit bi si
    obtain ⟨cl0, hcl⟩ : ∃ z, (L.cl.map fun p => (p.1, rowV (rowsOf l p.1) p.2)) = z := ⟨_, rfl⟩
    rw [hcl] at hit hmb hkn
    obtain ⟨r0, hr⟩ : ∃ z, wz.heap.size = z := ⟨_, rfl⟩
    have HRW0 := hide (show w.heap.size ≤ r0 from by have := HBZ.out.size; omega)
    rw [hr] at hrg hit si
    have HIT0 := hide hit
    have HMB0 := hide hmb
    have HCM0 := hide hcm
    have HCL0 := hide hcl
    have HKN0 := hide hkn
    have HBI0 := hide (HBZ.out.trans (bi.mono HBZ.out.size))
    have HCI0 := hide (HCS.out.below bi)
    have HRF0 := hide (show ¬ r0 ∈ QL.foot _ Q from fun hm => by have := HCS.out.lt _ hm; omega)
    have RNG0 := hide (SMap.Rng.start cl0)
    clear hit hmb hcm bi si hkn hW1 hcl hr
    go_wp2_with fail
    clear hrg c0
    go_loopw [4, 5] (fun _ _ wr => ∃ (seen : Array Nat) (ks : List (Chan × Value)) (ds : List (Chan × CRow)), Hid (ks.map (·.1) = ds.map (·.1)) ∧ Hid (∀ p ∈ ds, ∃ x, (p.1, x) ∈ L.cl ∧ p.2.fi = x.fi) ∧ Hid (SMap.It wr r0 L.cm cl0.length seen) ∧ Hid (SMap.Rng cl0 seen ks) ∧ Hid (CSt wr w.heap.size Q ⟨ma, mb, mc, ds, [], []⟩ l) ∧ Hid (¬ r0 ∈ (⟨ma, mb, mc, ds, [], []⟩ : QL).foot Q) ∧ Hid (Below w.heap.size w wr)) (fun _ _ wr => (leftOf (SMap.ent chV 0 cl0).toArray (wr.iterSeen r0)).size)
    case atStart => exact ⟨#[], [], [], hide rfl, hide (fun p hp => absurd hp List.not_mem_nil), HIT0, RNG0, HCI0, HRF0, HBI0⟩
    case round =>
      obtain ⟨seen, ks, ds, HKD, HFI, HITr, HRG, HCSr, HRFr, HBR⟩ := hrel
      rename World => wr
      have mbr := HMB0.out.below HBR.out HCM0.out
      rcases SMap.run_next (P := Try.prog) wr r0 L.cm HITr.out mbr HRG.out (by have := HCM0.out; have := HRW0.out; omega) with ⟨hperm, hnx⟩ | ⟨⟨⟨ck, cf, ct⟩, pv⟩, e0, wn, hp, he0, hrg1, hnx, hen, hit1, hgr1, hsz1⟩
      · have HPM0 := hide (show (ds.map (·.1)).Perm (L.cl.map (·.1)) by
          have := hperm.map (·.1)
          rw [HKD.out, ← HCL0.out, List.map_map] at this
          exact this)
        have HCS := HCSr
        have HB1 := HBR
        have HFI1 := HFI
        clear hperm mbr HIT0 HITr HRG HRFr HKD HRF0 HCI0 HBI0 RNG0
        have HQz1 := hide (HQ0.out.below HBR.out)
        have c1 : wr.cell? ⟨q, 1, none⟩ = some (.map (some L.pm)) := HQz1.out.blk.cell 1
        obtain ⟨hrg, hit⟩ := SMap.run_range (P := Try.prog) Try.underlying90 _ L.pm wr HQz1.out.mp
        have hmb := (HQ0.out).mp
        have hcm : L.pm < w.heap.size := hmb.lt
        have bi := (Below.refl wr.heap.size wr).alloc (Nat.le_refl _) (.mapIter (some L.pm) (L.pl.map fun p => (p.1, plV p.2)).length #[] (L.pl.map fun p => (p.1, plV p.2)).length)
        have si : (wr.alloc (.mapIter (some L.pm) (L.pl.map fun p => (p.1, plV p.2)).length #[] (L.pl.map fun p => (p.1, plV p.2)).length)).heap.size = wr.heap.size + 1 := by simp
        have hkn : ((L.pl.map fun p => (p.1, plV p.2)).map (·.1)).Nodup := by rw [List.map_map]; exact HQ0.out.kp
        obtain ⟨W1, hW1⟩ : ∃ z, wr.alloc (.mapIter (some L.pm) (L.pl.map fun p => (p.1, plV p.2)).length #[] (L.pl.map fun p => (p.1, plV p.2)).length) = z := ⟨_, rfl⟩
        rw [hW1] at hrg hit bi si
        obtain ⟨cl1, hcl⟩ : ∃ z, (L.pl.map fun p => (p.1, plV p.2)) = z := ⟨_, rfl⟩
        rw [hcl] at hit hmb hkn
        obtain ⟨r1, hr⟩ : ∃ z, wr.heap.size = z := ⟨_, rfl⟩
        have HRW1 := hide (show w.heap.size ≤ r1 from by have := HBR.out.size; omega)
        rw [hr] at hrg hit si
        have HIT1 := hide hit
        have HMB1 := hide hmb
        have HCM1 := hide hcm
        have HCL1 := hide hcl
        have HKN1 := hide hkn
        have HBI1 := hide (HBR.out.trans (bi.mono HBR.out.size))
        have HCI1 := hide (HCS.out.below bi)
        have HRF1 := hide (show ¬ r1 ∈ QL.foot _ Q from fun hm => by have := HCS.out.lt _ hm; omega)
        have RNG1 := hide (SMap.Rng.start cl1)
        clear hit hmb hcm bi si hkn hW1 hcl hr
        go_wp2_with fail
        clear hrg c1
        clear hnx
        go_loopw [6, 7] (fun _ _ wr => ∃ (seen : Array Nat) (ks : List (Who × Value)) (ps : List (Who × PRow)), Hid (ks = ps.map fun p => (p.1, plV p.2)) ∧ Hid (SMap.It wr r1 L.pm cl1.length seen) ∧ Hid (SMap.Rng cl1 seen ks) ∧ Hid (CSt wr w.heap.size Q ⟨ma, mb, mc, ds, ps, []⟩ l) ∧ Hid (¬ r1 ∈ (⟨ma, mb, mc, ds, [], []⟩ : QL).foot Q) ∧ Hid (Below w.heap.size w wr)) (fun _ _ wr => (leftOf (SMap.ent whV 0 cl1).toArray (wr.iterSeen r1)).size)
        case atStart => exact ⟨#[], [], [], hide rfl, HIT1, RNG1, HCI1, HRF1, HBI1⟩
        case round =>
          obtain ⟨seen, ks, ps, HKD, HITr, HRG, HCSr, HRFr, HBR⟩ := hrel
          rename World => wr
          have mbr := HMB1.out.below HBR.out HCM1.out
          rcases SMap.run_next (P := Try.prog) wr r1 L.pm HITr.out mbr HRG.out (by have := HCM1.out; have := HRW1.out; omega) with ⟨hperm, hnx⟩ | ⟨⟨⟨vf, vc⟩, pv⟩, e0, wn, hp, he0, hrg1, hnx, hen, hit1, hgr1, hsz1⟩
          · have HPM1 := hide (show (ps.map fun p => (p.1, plV p.2)).Perm (L.pl.map fun p => (p.1, plV p.2)) by
              rw [HKD.out, ← HCL1.out] at hperm
              exact hperm)
            have HCS := HCSr
            have HB2 := HBR
            clear hperm mbr HIT1 HITr HRG HRFr HKD HRF1 HCI1 HBI1 RNG1
            have HQz2 := hide (HQ0.out.below HBR.out)
            have c2 : wr.cell? ⟨q, 2, none⟩ = some (.map (some L.sm)) := HQz2.out.blk.cell 2
            obtain ⟨hrg, hit⟩ := SMap.run_range (P := Try.prog) Try.underlying91 _ L.sm wr HQz2.out.ms
            have hmb := (HQ0.out).ms
            have hcm : L.sm < w.heap.size := hmb.lt
            have bi := (Below.refl wr.heap.size wr).alloc (Nat.le_refl _) (.mapIter (some L.sm) (L.sl.map fun p => (p.1, slV (fromsOf l p.1) p.2)).length #[] (L.sl.map fun p => (p.1, slV (fromsOf l p.1) p.2)).length)
            have si : (wr.alloc (.mapIter (some L.sm) (L.sl.map fun p => (p.1, slV (fromsOf l p.1) p.2)).length #[] (L.sl.map fun p => (p.1, slV (fromsOf l p.1) p.2)).length)).heap.size = wr.heap.size + 1 := by simp
            have hkn : ((L.sl.map fun p => (p.1, slV (fromsOf l p.1) p.2)).map (·.1)).Nodup := by rw [List.map_map]; exact HQ0.out.ks
            obtain ⟨W1, hW1⟩ : ∃ z, wr.alloc (.mapIter (some L.sm) (L.sl.map fun p => (p.1, slV (fromsOf l p.1) p.2)).length #[] (L.sl.map fun p => (p.1, slV (fromsOf l p.1) p.2)).length) = z := ⟨_, rfl⟩
            rw [hW1] at hrg hit bi si
            obtain ⟨cl2, hcl⟩ : ∃ z, (L.sl.map fun p => (p.1, slV (fromsOf l p.1) p.2)) = z := ⟨_, rfl⟩
            rw [hcl] at hit hmb hkn
            obtain ⟨r2, hr⟩ : ∃ z, wr.heap.size = z := ⟨_, rfl⟩
            have HRW2 := hide (show w.heap.size ≤ r2 from by have := HBR.out.size; omega)
            rw [hr] at hrg hit si
            have HIT2 := hide hit
            have HMB2 := hide hmb
            have HCM2 := hide hcm
            have HCL2 := hide hcl
            have HKN2 := hide hkn
            have HBI2 := hide (HBR.out.trans (bi.mono HBR.out.size))
            have HCI2 := hide (HCS.out.below bi)
            have HRF2 := hide (show ¬ r2 ∈ QL.foot _ Q from fun hm => by have := HCS.out.lt _ hm; omega)
            have RNG2 := hide (SMap.Rng.start cl2)
            clear hit hmb hcm bi si hkn hW1 hcl hr
            go_wp2_with fail
            clear hrg c2
            clear hnx
            go_loopw [8, 9] (fun _ _ wr => ∃ (seen : Array Nat) (ks : List (Inb × Value)) (ss : List (Inb × SRow)), Hid (ks.map (·.1) = ss.map (·.1)) ∧ Hid (SMap.It wr r2 L.sm cl2.length seen) ∧ Hid (SMap.Rng cl2 seen ks) ∧ Hid (CSt wr w.heap.size Q ⟨ma, mb, mc, ds, ps, ss⟩ l) ∧ Hid (¬ r2 ∈ (⟨ma, mb, mc, ds, ps, ss⟩ : QL).foot Q) ∧ Hid (Below w.heap.size w wr)) (fun _ _ wr => (leftOf (SMap.ent inV 0 cl2).toArray (wr.iterSeen r2)).size)
            case atStart => exact ⟨#[], [], [], hide rfl, HIT2, RNG2, HCI2, HRF2, HBI2⟩
            case round =>
              obtain ⟨seen, ks, ss, HKD, HITr, HRG, HCSr, HRFr, HBR⟩ := hrel
              rename World => wr
              have mbr := HMB2.out.below HBR.out HCM2.out
              rcases SMap.run_next (P := Try.prog) wr r2 L.sm HITr.out mbr HRG.out (by have := HCM2.out; have := HRW2.out; omega) with ⟨hperm, hnx⟩ | ⟨⟨⟨ik, it⟩, pv⟩, e0, wn, hp, he0, hrg1, hnx, hen, hit1, hgr1, hsz1⟩
              · have hps : (ss.map (·.1)).Perm (L.sl.map (·.1)) := by
                  have := hperm.map (·.1)
                  rw [HKD.out, ← HCL2.out, List.map_map] at this
                  exact this
                have HWH := hide (CSt.whole HQ0.out HCSr.out HPM0.out HFI1.out HPM1.out hps)
                have HLO := hide HCSr.out.lo
                clear hps hperm mbr
                go_wp2_with fail
                go_ret
                exact ⟨Q, _, rfl, HWH.out, HLO.out, HBR.out⟩
              · have hkey := hrg1.keys HKN2.out
                rw [List.map_append, HKD.out, List.nodup_append] at hkey
                have hnew : ¬ (⟨ik, it⟩ : Inb) ∈ ss.map (·.1) := fun hm => hkey.2.2 _ hm _ (by simp) rfl
                have hp2 := hp
                rw [← HCL2.out] at hp2
                obtain ⟨⟨z1, ⟨g, cap⟩⟩, hz, hze⟩ := List.mem_map.1 hp2
                have hz1 : z1 = ⟨ik, it⟩ := congrArg Prod.fst hze
                subst hz1
                have hpv : pv = .slice (some ⟨g, 0, none⟩) (fromsOf l ⟨ik, it⟩).length cap := (congrArg Prod.snd hze).symm
                subst hpv
                obtain ⟨n, hn⟩ : ∃ z, (fromsOf l ⟨ik, it⟩).length = z := ⟨_, rfl⟩
                have hnl : n ≤ 1000 := by have := froms_len l ⟨ik, it⟩; omega
                have hnp : 0 < n := by rw [← hn]; exact List.length_pos_iff.2 ((HQ0.out.sin _).1 (List.mem_map_of_mem (f := fun p : Inb × SRow => p.1) hz))
                have HNN := hide (And.intro hn (And.intro hnl hnp))
                have HMR := hide (show ∀ wx, QSt wx q L l → NRow wx (some ⟨g, 0, none⟩) (fromsOf l ⟨ik, it⟩) ∧ g < wx.heap.size from fun wx hq => ⟨NRow.of_own (hq.srow _ hz) rfl, hq.lt _ (foot_srow hz)⟩)
                rw [hn] at hnx hen
                unfold inV at hnx hen
                have hbn := HBR.out.grown hgr1 (by have := HBR.out.size; omega) (fun k hk => by injection hk with e; have := HRW2.out; omega)
                have hcn := HCSr.out.grown hgr1 HRFr.out
                have b1 := (Below.refl wn.heap.size wn).alloc (Nat.le_refl _) (.cells #[.string ik, .int .i64 it] 114)
                have k1 := Blk.new wn 114 #[.string ik, .int .i64 it]
                obtain ⟨ws, hws⟩ : ∃ z, wn.alloc (.cells #[.string ik, .int .i64 it] 114) = z := ⟨_, rfl⟩
                obtain ⟨Y4, hY4⟩ : ∃ z, wn.heap.size = z := ⟨_, rfl⟩
                rw [hws] at b1 k1
                have K4 := hide k1
                rw [hY4] at K4
                have HBS := hide (hbn.trans (b1.mono hbn.size))
                have HCSs := hide (hcn.below b1)
                have HITs := hide (show SMap.It ws r2 L.sm cl2.length (seen.push e0.born) from (b1.block r2 (by have := (Array.getElem?_eq_some_iff.1 hit1).1; exact this)).trans hit1)
                have HRSs := hide (show r2 < ws.heap.size from by have := (Array.getElem?_eq_some_iff.1 HITs.out).1; exact this)
                have HE := hide (And.intro hws hY4)
                have HRG1 : Hid (SMap.Rng cl2 (seen.push e0.born) (ks ++ [(⟨ik, it⟩, .slice (some ⟨g, 0, none⟩) n cap)])) := hide (by rw [hn] at hrg1; exact hrg1)
                have HE0 := hide he0
                have HNEW := hide hnew
                clear hkey hp2 hze hn hnl hnp hz hrg1 he0 hit1 hgr1 hsz1 hbn hcn b1 k1 hws hY4 hp mbr hnew
                go_upto_region 15 with (fail)
                rw [HE.out.1, HE.out.2]
                clear HE hnx hen
                let R : Nat → Value → World → Prop := fun sl u w1 => match sl with
                  | 80 => u = .pointer (some ⟨Q, 0, none⟩)
                  | 81 => u = .pointer (some ⟨Q, 0, none⟩)
                  | 82 => u = .pointer (some ⟨Q, 2, none⟩)
                  | 83 => u = .map (some mc)
                  | 84 => u = .agg #[.string ik, .int .i64 it]
                  | 85 => u = .slice (some ⟨g, 0, none⟩) n cap
                  | 86 => ∃ (g1 c1 : Nat), u = .slice (some ⟨g1, 0, none⟩) n c1 ∧ ws.heap.size ≤ g1 ∧ w1.ownsRow 0 3 1 (.slice (some ⟨g1, 0, none⟩) n c1) n (ints (fromsOf l ⟨ik, it⟩))
                  | _ => True
                refine wp_region_relT 7 R (by kernel_rfl) (by kernel_rfl) (by kernel_rfl) (by kernel_rfl) ?mono15 ?step15 ?fin15
                case mono15 =>
                  intro t u w1 w2 h hb
                  match t with
                  | 86 =>
                    obtain ⟨g1, c1, h1, h2, h3⟩ := h
                    exact ⟨g1, c1, h1, h2, own_belowR h3 hb⟩
                  | 0 | 1 | 2 | 3 | 4 | 5 | 6 | 7 | 8 | 9 | 10 | 11 | 12 | 13 | 14 | 15 | 16 | 17 | 18 | 19 | 20 | 21 | 22 | 23 | 24 | 25 | 26 | 27 | 28 | 29 | 30 | 31 | 32 | 33 | 34 | 35 | 36 | 37 | 38 | 39 | 40 | 41 | 42 | 43 | 44 | 45 | 46 | 47 | 48 | 49 | 50 | 51 | 52 | 53 | 54 | 55 | 56 | 57 | 58 | 59 | 60 | 61 | 62 | 63 | 64 | 65 | 66 | 67 | 68 | 69 | 70 | 71 | 72 | 73 | 74 | 75 | 76 | 77 | 78 | 79 | 80 | 81 | 82 | 83 | 84 | 85 | _ + 87 => exact h
                case step15 =>
                  intro o ho
                  simp only [List.take_succ_cons, List.take_zero, List.mem_cons, List.not_mem_nil, or_false] at ho
                  rcases ho with rfl | rfl | rfl | rfl | rfl | rfl | rfl
                  · intro a w1 hb hs hr
                    have e3 : a.tmps.getD 3 undef = .pointer (some ⟨Q, 0, none⟩) := hs 3 (by decide)
                    rw [Array.getD_eq_getD_getElem?] at e3
                    unfold Oper.wp
                    simp only [execOp, Act.eval, Array.getD_eq_getD_getElem?, e3]
                    go_simp
                    exact ⟨_, rfl, rfl, Below.refl _ _⟩
                  · intro a w1 hb hs hr
                    have e80 : a.tmps.getD 80 undef = .pointer (some ⟨Q, 0, none⟩) := hr 80 (by decide) (by apply Array.mem_toList_iff.1; repeat (first | exact List.Mem.head _ | apply List.Mem.tail))
                    rw [Array.getD_eq_getD_getElem?] at e80
                    unfold Oper.wp
                    simp only [execOp, Act.eval, Array.getD_eq_getD_getElem?, e80]
                    go_simp
                    exact ⟨_, rfl, rfl, Below.refl _ _⟩
                  · intro a w1 hb hs hr
                    have e81 : a.tmps.getD 81 undef = .pointer (some ⟨Q, 0, none⟩) := hr 81 (by decide) (by apply Array.mem_toList_iff.1; repeat (first | exact List.Mem.head _ | apply List.Mem.tail))
                    rw [Array.getD_eq_getD_getElem?] at e81
                    unfold Oper.wp
                    simp only [execOp, Act.eval, Array.getD_eq_getD_getElem?, e81]
                    go_simp
                    exact ⟨_, rfl, rfl, Below.refl _ _⟩
                  · intro a w1 hb hs hr
                    have e82 : a.tmps.getD 82 undef = .pointer (some ⟨Q, 2, none⟩) := hr 82 (by decide) (by apply Array.mem_toList_iff.1; repeat (first | exact List.Mem.head _ | apply List.Mem.tail))
                    have x0 : w1.cell? ⟨Q, 2, none⟩ = some (.map (some mc)) := (HCSs.out.below hb).blk.cell 2
                    rw [Array.getD_eq_getD_getElem?] at e82
                    unfold Oper.wp
                    simp only [execOp, Act.eval, Array.getD_eq_getD_getElem?, e82]
                    go_simp
                    exact ⟨_, rfl, rfl, Below.refl _ _⟩
                  · intro a w1 hb hs hr
                    have e8 : a.tmps.getD 8 undef = .pointer (some ⟨Y4, 0, none⟩) := hs 8 (by decide)
                    have kk := K4.out.below hb K4.out.lt
                    have x0 : w1.cell? ⟨Y4, 0, none⟩ = some (.string ik) := kk.cell 0
                    have x1 : w1.cell? ⟨Y4, 1, none⟩ = some (.int .i64 it) := kk.cell 1
                    clear kk
                    rw [Array.getD_eq_getD_getElem?] at e8
                    unfold Oper.wp
                    simp only [execOp, Act.eval, Array.getD_eq_getD_getElem?, e8]
                    go_simp
                    exact ⟨_, rfl, rfl, Below.refl _ _⟩
                  · intro a w1 hb hs hr
                    have e9 : a.tmps.getD 9 undef = .slice (some ⟨g, 0, none⟩) n cap := hs 9 (by decide)
                    rw [Array.getD_eq_getD_getElem?] at e9
                    unfold Oper.wp
                    simp only [execOp, Act.eval, Array.getD_eq_getD_getElem?, e9]
                    go_simp
                    exact ⟨_, rfl, rfl, Below.refl _ _⟩
                  · intro a w1 hb hs hr
                    have e85 : a.tmps.getD 85 undef = .slice (some ⟨g, 0, none⟩) n cap := hr 85 (by decide) (by apply Array.mem_toList_iff.1; repeat (first | exact List.Mem.head _ | apply List.Mem.tail))
                    obtain ⟨hmr, hgl⟩ := HMR.out w1 (HQ0.out.below (HBS.out.trans (hb.mono HBS.out.size)))
                    have CL := hide (clone_n g cap n (fromsOf l ⟨ik, it⟩) hmr hgl HNN.out.1 HNN.out.2.1)
                    clear hmr hgl
                    rw [Array.getD_eq_getD_getElem?] at e85
                    unfold Oper.wp
                    simp only [execOp, Act.eval, Array.getD_eq_getD_getElem?, e85]
                    go_simp
                    refine CL.out.mono ?_
                    rintro e w9 ⟨A3, c3, rfl, h3, hb3⟩
                    obtain ⟨g1, rfl, hg1, _⟩ := own_cell h3 HNN.out.2.2
                    exact ⟨_, rfl, ⟨g1, c3, rfl, Nat.le_trans hb.size hg1, own_more h3 (Nat.zero_le _)⟩, hb3⟩
                case fin15 =>
                  intro ff w5 hb hr
                  have f83 : ff 83 = .map (some mc) := hr 83 (by decide)
                  have f84 : ff 84 = .agg #[.string ik, .int .i64 it] := hr 84 (by decide)
                  have f86 : ∃ (g1 c1 : Nat), ff 86 = .slice (some ⟨g1, 0, none⟩) n c1 ∧ ws.heap.size ≤ g1 ∧ w5.ownsRow 0 3 1 (.slice (some ⟨g1, 0, none⟩) n c1) n (ints (fromsOf l ⟨ik, it⟩)) := hr 86 (by decide)
                  obtain ⟨g1, c1, f86, hg1, hown1⟩ := f86
                  have hc5 := HCSs.out.below hb
                  have hb5 := HBS.out.trans (hb.mono HBS.out.size)
                  have hit5 : SMap.It w5 r2 L.sm cl2.length (seen.push e0.born) := (hb.block r2 HRSs.out).trans HITs.out
                  have hge1 : w.heap.size ≤ g1 := by have := HBS.out.size; omega
                  have hgn : ¬ g1 ∈ (⟨ma, mb, mc, ds, ps, ss⟩ : QL).foot Q := fun hm => by have := HCSs.out.lt _ hm; omega
                  have hown1' : w5.ownsRow 0 3 1 (.slice (some ⟨g1, 0, none⟩) (fromsOf l ⟨ik, it⟩).length c1) (fromsOf l ⟨ik, it⟩).length (ints (fromsOf l ⟨ik, it⟩)) := by rw [HNN.out.1]; exact hown1
                  obtain ⟨w6, hmu, hw6, hmb6, hgr6⟩ := SMap.run_mapUpdate (P := Try.prog) keyInb Try.underlying91 ⟨ik, it⟩ (slV (fromsOf l ⟨ik, it⟩) ⟨g1, c1⟩) mc _ w5 hc5.ms
                  have hc6 := hc5.addS (x := ⟨g1, c1⟩) hge1 hgn HNEW.out hown1' hmb6 hgr6
                  unfold slV inV at hmu
                  rw [HNN.out.1] at hmu
                  have hmlo : w.heap.size ≤ mc := hc5.lo _ foot_s
                  have hrm : mc ≠ r2 := fun e => HRFr.out (by rw [← e]; exact foot_s)
                  have HC6 := hide hc6
                  have HB6 := hide (hb5.grown hgr6 (by have := hb5.size; omega) (fun k hk => by injection hk with e; omega))
                  have HIT6 := hide (show SMap.It w6 r2 L.sm cl2.length (seen.push e0.born) from (hgr6.block r2 (by have := (Array.getElem?_eq_some_iff.1 hit5).1; exact this) (fun e => hrm (by injection e with e; exact e.symm))).trans hit5)
                  have HRF6 := hide (show ¬ r2 ∈ (⟨ma, mb, mc, ds, ps, ss ++ [(⟨ik, it⟩, ⟨g1, c1⟩)]⟩ : QL).foot Q from fun hm => by
                    have h1 : r2 ∈ (⟨ma, mb, mc, ds, ps, ss⟩ : QL).foot Q ∨ r2 = g1 := by
                      unfold QL.foot at hm ⊢
                      simp only [List.mem_cons, List.mem_append, List.map_append, List.map_cons, List.map_nil, List.not_mem_nil, or_false] at hm ⊢
                      rcases hm with h | h | h | h | h | h | h <;> simp [h]
                    rcases h1 with h1 | h1
                    · exact HRFr.out h1
                    · have := HRSs.out; omega)
                  have HKD6 := hide (show (ks ++ [((⟨ik, it⟩ : Inb), Value.slice (some ⟨g, 0, none⟩) n cap)]).map (·.1) = (ss ++ [((⟨ik, it⟩ : Inb), (⟨g1, c1⟩ : SRow))]).map (·.1) by rw [List.map_append, List.map_append, HKD.out]; rfl)
                  clear hw6 hb hr hc5 hb5 hit5 hge1 hgn hown1 hown1' hmb6 hgr6 hc6 hmlo hrm hg1
                  simp only [putAll, slotsOf, List.take_succ_cons, List.take_zero, List.drop_succ_cons, List.drop_zero, List.filterMap_cons, List.filterMap_nil, List.foldl_cons, List.foldl_nil, Act.put, f83, f84, f86]
                  simp only [List.setIfInBounds_toArray, List.set_cons_succ, List.set_cons_zero]
                  clear f83 f84 f86
                  go_wp2_with fail
                  go_roundw
                  case rel => exact ⟨seen.push e0.born, ks ++ [(⟨ik, it⟩, .slice (some ⟨g, 0, none⟩) n cap)], ss ++ [(⟨ik, it⟩, ⟨g1, c1⟩)], HKD6, HIT6, HRG1, HC6, HRF6, HB6⟩
                  case measure =>
                    rw [SMap.iter_seen HIT6.out, SMap.iter_seen HITr.out]
                    exact left_shrinks _ seen e0 HE0.out
          · have hkey := hrg1.keys HKN1.out
            rw [List.map_append, HKD.out, List.map_map, List.nodup_append] at hkey
            have hnew : ¬ (⟨vf, vc⟩ : Who) ∈ ps.map (·.1) := fun hm => hkey.2.2 _ hm _ (by simp) rfl
            have hp2 := hp
            rw [← HCL1.out] at hp2
            obtain ⟨⟨z1, ⟨⟨pk, pf, pt⟩, pa⟩⟩, hz, hze⟩ := List.mem_map.1 hp2
            have hz1 : z1 = ⟨vf, vc⟩ := congrArg Prod.fst hze
            subst hz1
            have hpv : pv = .agg #[.string pk, .int .i64 pf, .int .i64 pt, .int .i64 pa] := (congrArg Prod.snd hze).symm
            subst hpv
            unfold whV at hnx hen
            have hbn := HBR.out.grown hgr1 (by have := HBR.out.size; omega) (fun k hk => by injection hk with e; have := HRW1.out; omega)
            have hcn := HCSr.out.grown hgr1 HRFr.out
            have b1 := (Below.refl wn.heap.size wn).alloc (Nat.le_refl _) (.cells #[.int .i64 vf, .int .i64 vc] 111)
            have k1 := Blk.new wn 111 #[.int .i64 vf, .int .i64 vc]
            obtain ⟨wp, hwp⟩ : ∃ z, wn.alloc (.cells #[.int .i64 vf, .int .i64 vc] 111) = z := ⟨_, rfl⟩
            obtain ⟨Y4, hY4⟩ : ∃ z, wn.heap.size = z := ⟨_, rfl⟩
            have hsp : wp.heap.size = Y4 + 1 := by rw [← hwp]; simp [hY4]
            rw [hwp] at b1 k1
            have b2 := (Below.refl wp.heap.size wp).alloc (Nat.le_refl _) (.cells #[.string pk, .int .i64 pf, .int .i64 pt, .int .i64 pa] 108)
            have k2 := Blk.new wp 108 #[.string pk, .int .i64 pf, .int .i64 pt, .int .i64 pa]
            obtain ⟨ws, hws⟩ : ∃ z, wp.alloc (.cells #[.string pk, .int .i64 pf, .int .i64 pt, .int .i64 pa] 108) = z := ⟨_, rfl⟩
            rw [hws] at b2 k2
            have bb := b1.trans (b2.mono b1.size)
            have K4 := hide (k1.below b2 k1.lt)
            rw [hY4] at K4
            have K5 := hide k2
            rw [hsp] at K5
            have HBS := hide (hbn.trans (bb.mono hbn.size))
            have HCSs := hide (hcn.below bb)
            have HITs := hide (show SMap.It ws r1 L.pm cl1.length (seen.push e0.born) from (bb.block r1 (by have := (Array.getElem?_eq_some_iff.1 hit1).1; exact this)).trans hit1)
            have HRSs := hide (show r1 < ws.heap.size from by have := (Array.getElem?_eq_some_iff.1 HITs.out).1; exact this)
            have HE := hide (And.intro hwp (And.intro hws (And.intro hY4 hsp)))
            have HRG1 := hide hrg1
            have HE0 := hide he0
            have HNEW := hide hnew
            clear hkey hp2 hze hz hrg1 he0 hit1 hgr1 hsz1 hbn hcn b1 k1 b2 k2 bb hwp hws hY4 hsp hp mbr hnew
            go_upto_region 11 with (fail)
            rw [HE.out.1, HE.out.2.1, HE.out.2.2.1]
            clear HE hnx hen
            let R : Nat → Value → World → Prop := fun sl u w1 => match sl with
              | 64 => u = .pointer (some ⟨Q, 0, none⟩)
              | 65 => u = .pointer (some ⟨Q, 0, none⟩)
              | 66 => u = .pointer (some ⟨Q, 1, none⟩)
              | 67 => u = .map (some mb)
              | 68 => u = .agg #[.int .i64 vf, .int .i64 vc]
              | 69 => u = .agg #[.string pk, .int .i64 pf, .int .i64 pt, .int .i64 pa]
              | _ => True
            refine wp_region_relT 6 R (by kernel_rfl) (by kernel_rfl) (by kernel_rfl) (by kernel_rfl) ?mono11 ?step11 ?fin11
            case mono11 =>
              intro t u w1 w2 h hb
              match t with
              | 0 | 1 | 2 | 3 | 4 | 5 | 6 | 7 | 8 | 9 | 10 | 11 | 12 | 13 | 14 | 15 | 16 | 17 | 18 | 19 | 20 | 21 | 22 | 23 | 24 | 25 | 26 | 27 | 28 | 29 | 30 | 31 | 32 | 33 | 34 | 35 | 36 | 37 | 38 | 39 | 40 | 41 | 42 | 43 | 44 | 45 | 46 | 47 | 48 | 49 | 50 | 51 | 52 | 53 | 54 | 55 | 56 | 57 | 58 | 59 | 60 | 61 | 62 | 63 | 64 | 65 | 66 | 67 | 68 | 69 | _ + 70 => exact h
            case step11 =>
              intro o ho
              simp only [List.take_succ_cons, List.take_zero, List.mem_cons, List.not_mem_nil, or_false] at ho
              rcases ho with rfl | rfl | rfl | rfl | rfl | rfl
              · intro a w1 hb hs hr
                have e3 : a.tmps.getD 3 undef = .pointer (some ⟨Q, 0, none⟩) := hs 3 (by decide)
                rw [Array.getD_eq_getD_getElem?] at e3
                unfold Oper.wp
                simp only [execOp, Act.eval, Array.getD_eq_getD_getElem?, e3]
                go_simp
                exact ⟨_, rfl, rfl, Below.refl _ _⟩
              · intro a w1 hb hs hr
                have e64 : a.tmps.getD 64 undef = .pointer (some ⟨Q, 0, none⟩) := hr 64 (by decide) (by apply Array.mem_toList_iff.1; repeat (first | exact List.Mem.head _ | apply List.Mem.tail))
                rw [Array.getD_eq_getD_getElem?] at e64
                unfold Oper.wp
                simp only [execOp, Act.eval, Array.getD_eq_getD_getElem?, e64]
                go_simp
                exact ⟨_, rfl, rfl, Below.refl _ _⟩
              · intro a w1 hb hs hr
                have e65 : a.tmps.getD 65 undef = .pointer (some ⟨Q, 0, none⟩) := hr 65 (by decide) (by apply Array.mem_toList_iff.1; repeat (first | exact List.Mem.head _ | apply List.Mem.tail))
                rw [Array.getD_eq_getD_getElem?] at e65
                unfold Oper.wp
                simp only [execOp, Act.eval, Array.getD_eq_getD_getElem?, e65]
                go_simp
                exact ⟨_, rfl, rfl, Below.refl _ _⟩
              · intro a w1 hb hs hr
                have e66 : a.tmps.getD 66 undef = .pointer (some ⟨Q, 1, none⟩) := hr 66 (by decide) (by apply Array.mem_toList_iff.1; repeat (first | exact List.Mem.head _ | apply List.Mem.tail))
                have x0 : w1.cell? ⟨Q, 1, none⟩ = some (.map (some mb)) := (HCSs.out.below hb).blk.cell 1
                rw [Array.getD_eq_getD_getElem?] at e66
                unfold Oper.wp
                simp only [execOp, Act.eval, Array.getD_eq_getD_getElem?, e66]
                go_simp
                exact ⟨_, rfl, rfl, Below.refl _ _⟩
              · intro a w1 hb hs hr
                have e6 : a.tmps.getD 6 undef = .pointer (some ⟨Y4, 0, none⟩) := hs 6 (by decide)
                have kk := K4.out.below hb K4.out.lt
                have x0 : w1.cell? ⟨Y4, 0, none⟩ = some (.int .i64 vf) := kk.cell 0
                have x1 : w1.cell? ⟨Y4, 1, none⟩ = some (.int .i64 vc) := kk.cell 1
                clear kk
                rw [Array.getD_eq_getD_getElem?] at e6
                unfold Oper.wp
                simp only [execOp, Act.eval, Array.getD_eq_getD_getElem?, e6]
                go_simp
                exact ⟨_, rfl, rfl, Below.refl _ _⟩
              · intro a w1 hb hs hr
                have e7 : a.tmps.getD 7 undef = .pointer (some ⟨Y4 + 1, 0, none⟩) := hs 7 (by decide)
                have kk := K5.out.below hb K5.out.lt
                have x0 : w1.cell? ⟨Y4 + 1, 0, none⟩ = some (.string pk) := kk.cell 0
                have x1 : w1.cell? ⟨Y4 + 1, 1, none⟩ = some (.int .i64 pf) := kk.cell 1
                have x2 : w1.cell? ⟨Y4 + 1, 2, none⟩ = some (.int .i64 pt) := kk.cell 2
                have x3 : w1.cell? ⟨Y4 + 1, 3, none⟩ = some (.int .i64 pa) := kk.cell 3
                clear kk
                rw [Array.getD_eq_getD_getElem?] at e7
                unfold Oper.wp
                simp only [execOp, Act.eval, Array.getD_eq_getD_getElem?, e7]
                go_simp
                exact ⟨_, rfl, rfl, Below.refl _ _⟩
            case fin11 =>
              intro ff w5 hb hr
              have f67 : ff 67 = .map (some mb) := hr 67 (by decide)
              have f68 : ff 68 = .agg #[.int .i64 vf, .int .i64 vc] := hr 68 (by decide)
              have f69 : ff 69 = .agg #[.string pk, .int .i64 pf, .int .i64 pt, .int .i64 pa] := hr 69 (by decide)
              have hc5 := HCSs.out.below hb
              have hb5 := HBS.out.trans (hb.mono HBS.out.size)
              have hit5 : SMap.It w5 r1 L.pm cl1.length (seen.push e0.born) := (hb.block r1 HRSs.out).trans HITs.out
              obtain ⟨w6, hmu, hw6, hmb6, hgr6⟩ := SMap.run_mapUpdate (P := Try.prog) keyWho Try.underlying90 ⟨vf, vc⟩ (plV ⟨⟨pk, pf, pt⟩, pa⟩) mb _ w5 hc5.mp
              have hc6 := hc5.addP (x := ⟨⟨pk, pf, pt⟩, pa⟩) HNEW.out hmb6 hgr6
              unfold plV whV at hmu
              have hmlo : w.heap.size ≤ mb := hc5.lo _ foot_p
              have hrm : mb ≠ r1 := fun e => HRFr.out (by rw [← e]; unfold QL.foot; simp)
              have HC6 := hide hc6
              have HB6 := hide (hb5.grown hgr6 (by have := hb5.size; omega) (fun k hk => by injection hk with e; omega))
              have HIT6 := hide (show SMap.It w6 r1 L.pm cl1.length (seen.push e0.born) from (hgr6.block r1 (by have := (Array.getElem?_eq_some_iff.1 hit5).1; exact this) (fun e => hrm (by injection e with e; exact e.symm))).trans hit5)
              have HKD6 := hide (show ks ++ [((⟨vf, vc⟩ : Who), Value.agg #[.string pk, .int .i64 pf, .int .i64 pt, .int .i64 pa])] = (ps ++ [((⟨vf, vc⟩ : Who), (⟨⟨pk, pf, pt⟩, pa⟩ : PRow))]).map fun p => (p.1, plV p.2) by rw [List.map_append, ← HKD.out]; rfl)
              clear hw6 hb hr hc5 hb5 hit5 hmb6 hgr6 hc6 hmlo hrm
              simp only [putAll, slotsOf, List.take_succ_cons, List.take_zero, List.drop_succ_cons, List.drop_zero, List.filterMap_cons, List.filterMap_nil, List.foldl_cons, List.foldl_nil, Act.put, f67, f68, f69]
              simp only [List.setIfInBounds_toArray, List.set_cons_succ, List.set_cons_zero]
              clear f67 f68 f69
              go_wp2_with fail
              go_roundw
              case rel => exact ⟨seen.push e0.born, ks ++ [(⟨vf, vc⟩, .agg #[.string pk, .int .i64 pf, .int .i64 pt, .int .i64 pa])], ps ++ [(⟨vf, vc⟩, ⟨⟨pk, pf, pt⟩, pa⟩)], HKD6, HIT6, HRG1, HC6, HRFr, HB6⟩
              case measure =>
                rw [SMap.iter_seen HIT6.out, SMap.iter_seen HITr.out]
                exact left_shrinks _ seen e0 HE0.out
      · have hkey := hrg1.keys HKN0.out
        rw [List.map_append, HKD.out, List.nodup_append] at hkey
        have hnew : ¬ (⟨ck, cf, ct⟩ : Chan) ∈ ds.map (·.1) := fun hm => hkey.2.2 _ hm _ (by simp) rfl
        have hp2 := hp
        rw [← HCL0.out] at hp2
        obtain ⟨⟨z1, ⟨g, cap, fi⟩⟩, hz, hze⟩ := List.mem_map.1 hp2
        have hz1 : z1 = ⟨ck, cf, ct⟩ := congrArg Prod.fst hze
        subst hz1
        have hpv : pv = .agg #[.slice (some ⟨g, 0, none⟩) (rowsOf l ⟨ck, cf, ct⟩).length cap, .int .i64 fi] := (congrArg Prod.snd hze).symm
        subst hpv
        obtain ⟨n, hn⟩ : ∃ z, (rowsOf l ⟨ck, cf, ct⟩).length = z := ⟨_, rfl⟩
        have hnl : n ≤ 1000 := by have := rowsOf_len l ⟨ck, cf, ct⟩; omega
        have hnp : 0 < n := by rw [← hn]; exact List.length_pos_iff.2 ((HQ0.out.cin _).1 (List.mem_map_of_mem (f := fun p : Chan × CRow => p.1) hz))
        have HNN := hide (And.intro hn (And.intro hnl hnp))
        have HMR := hide (show ∀ wx, QSt wx q L l → MRow wx (some ⟨g, 0, none⟩) (rowsOf l ⟨ck, cf, ct⟩) ∧ g < wx.heap.size from fun wx hq => ⟨MRow.of_own (hq.crow _ hz) rfl, hq.lt _ (foot_row hz)⟩)
        have HZ := hide hz
        rw [hn] at hnx hen
        unfold chV at hnx hen
        have hbn := HBR.out.grown hgr1 (by have := HBR.out.size; omega) (fun k hk => by injection hk with e; have := HRW0.out; omega)
        have hcn := HCSr.out.grown hgr1 HRFr.out
        have b1 := (Below.refl wn.heap.size wn).alloc (Nat.le_refl _) (.cells #[.string ck, .int .i64 cf, .int .i64 ct] 95)
        have k1 := Blk.new wn 95 #[.string ck, .int .i64 cf, .int .i64 ct]
        obtain ⟨wp, hwp⟩ : ∃ z, wn.alloc (.cells #[.string ck, .int .i64 cf, .int .i64 ct] 95) = z := ⟨_, rfl⟩
        obtain ⟨Y4, hY4⟩ : ∃ z, wn.heap.size = z := ⟨_, rfl⟩
        have hsp : wp.heap.size = Y4 + 1 := by rw [← hwp]; simp [hY4]
        rw [hwp] at b1 k1
        have b2 := (Below.refl wp.heap.size wp).alloc (Nat.le_refl _) (.cells #[.slice (some ⟨g, 0, none⟩) n cap, .int .i64 fi] 103)
        have k2 := Blk.new wp 103 #[.slice (some ⟨g, 0, none⟩) n cap, .int .i64 fi]
        obtain ⟨ws, hws⟩ : ∃ z, wp.alloc (.cells #[.slice (some ⟨g, 0, none⟩) n cap, .int .i64 fi] 103) = z := ⟨_, rfl⟩
        rw [hws] at b2 k2
        have bb := b1.trans (b2.mono b1.size)
        have K4 := hide (k1.below b2 k1.lt)
        rw [hY4] at K4
        have K5 := hide k2
        rw [hsp] at K5
        have HBS := hide (hbn.trans (bb.mono hbn.size))
        have HCSs := hide (hcn.below bb)
        have HITs := hide (show SMap.It ws r0 L.cm cl0.length (seen.push e0.born) from (bb.block r0 (by have := (Array.getElem?_eq_some_iff.1 hit1).1; exact this)).trans hit1)
        have HRSs := hide (show r0 < ws.heap.size from by have := (Array.getElem?_eq_some_iff.1 HITs.out).1; exact this)
        have HE := hide (And.intro hwp (And.intro hws (And.intro hY4 hsp)))
        have HRG1 : Hid (SMap.Rng cl0 (seen.push e0.born) (ks ++ [(⟨ck, cf, ct⟩, .agg #[.slice (some ⟨g, 0, none⟩) n cap, .int .i64 fi])])) := hide (by rw [hn] at hrg1; exact hrg1)
        have HE0 := hide he0
        have HNEW := hide hnew
        clear hkey hp2 hze hn hnl hnp hz hrg1 he0 hit1 hgr1 hsz1 hbn hcn b1 k1 b2 k2 bb hwp hws hY4 hsp hp mbr hnew
        go_upto_region 7 with (fail)
        rw [HE.out.1, HE.out.2.1, HE.out.2.2.1]
        clear HE hnx hen
        let R : Nat → Value → World → Prop := fun sl u w1 => match sl with
          | 43 => u = .pointer (some ⟨Q, 0, none⟩)
          | 44 => u = .pointer (some ⟨Q, 0, none⟩)
          | 45 => u = .pointer (some ⟨Q, 0, none⟩)
          | 46 => u = .map (some ma)
          | 47 => u = .agg #[.string ck, .int .i64 cf, .int .i64 ct]
          | 48 => u = .pointer (some ⟨Y4 + 1, 0, none⟩)
          | 49 => u = .slice (some ⟨g, 0, none⟩) n cap
          | 50 => ∃ (g1 c1 : Nat), u = .slice (some ⟨g1, 0, none⟩) n c1 ∧ ws.heap.size ≤ g1 ∧ w1.ownsRow 0 33 8 (.slice (some ⟨g1, 0, none⟩) n c1) n (msgCs (rowsOf l ⟨ck, cf, ct⟩))
          | 51 => u = .pointer (some ⟨Y4 + 1, 1, none⟩)
          | 52 => u = .int .i64 fi
          | 53 => ∃ (g1 c1 : Nat), u = .agg #[.slice (some ⟨g1, 0, none⟩) n c1, .int .i64 fi] ∧ ws.heap.size ≤ g1 ∧ w1.ownsRow 0 33 8 (.slice (some ⟨g1, 0, none⟩) n c1) n (msgCs (rowsOf l ⟨ck, cf, ct⟩))
          | _ => True
        refine wp_region_relT 11 R (by kernel_rfl) (by kernel_rfl) (by kernel_rfl) (by kernel_rfl) ?mono7 ?step7 ?fin7
        case mono7 =>
          intro t u w1 w2 h hb
          match t with
          | 50 =>
            obtain ⟨g1, c1, h1, h2, h3⟩ := h
            exact ⟨g1, c1, h1, h2, own_belowR h3 hb⟩
          | 53 =>
            obtain ⟨g1, c1, h1, h2, h3⟩ := h
            exact ⟨g1, c1, h1, h2, own_belowR h3 hb⟩
          | 0 | 1 | 2 | 3 | 4 | 5 | 6 | 7 | 8 | 9 | 10 | 11 | 12 | 13 | 14 | 15 | 16 | 17 | 18 | 19 | 20 | 21 | 22 | 23 | 24 | 25 | 26 | 27 | 28 | 29 | 30 | 31 | 32 | 33 | 34 | 35 | 36 | 37 | 38 | 39 | 40 | 41 | 42 | 43 | 44 | 45 | 46 | 47 | 48 | 49 | 51 | 52 | _ + 54 => exact h
        case step7 =>
          intro o ho
          simp only [List.take_succ_cons, List.take_zero, List.mem_cons, List.not_mem_nil, or_false] at ho
          rcases ho with rfl | rfl | rfl | rfl | rfl | rfl | rfl | rfl | rfl | rfl | rfl
          · intro a w1 hb hs hr
            have e3 : a.tmps.getD 3 undef = .pointer (some ⟨Q, 0, none⟩) := hs 3 (by decide)
            rw [Array.getD_eq_getD_getElem?] at e3
            unfold Oper.wp
            simp only [execOp, Act.eval, Array.getD_eq_getD_getElem?, e3]
            go_simp
            exact ⟨_, rfl, rfl, Below.refl _ _⟩
          · intro a w1 hb hs hr
            have e43 : a.tmps.getD 43 undef = .pointer (some ⟨Q, 0, none⟩) := hr 43 (by decide) (by apply Array.mem_toList_iff.1; repeat (first | exact List.Mem.head _ | apply List.Mem.tail))
            rw [Array.getD_eq_getD_getElem?] at e43
            unfold Oper.wp
            simp only [execOp, Act.eval, Array.getD_eq_getD_getElem?, e43]
            go_simp
            exact ⟨_, rfl, rfl, Below.refl _ _⟩
          · intro a w1 hb hs hr
            have e44 : a.tmps.getD 44 undef = .pointer (some ⟨Q, 0, none⟩) := hr 44 (by decide) (by apply Array.mem_toList_iff.1; repeat (first | exact List.Mem.head _ | apply List.Mem.tail))
            rw [Array.getD_eq_getD_getElem?] at e44
            unfold Oper.wp
            simp only [execOp, Act.eval, Array.getD_eq_getD_getElem?, e44]
            go_simp
            exact ⟨_, rfl, rfl, Below.refl _ _⟩
          · intro a w1 hb hs hr
            have e45 : a.tmps.getD 45 undef = .pointer (some ⟨Q, 0, none⟩) := hr 45 (by decide) (by apply Array.mem_toList_iff.1; repeat (first | exact List.Mem.head _ | apply List.Mem.tail))
            have x0 : w1.cell? ⟨Q, 0, none⟩ = some (.map (some ma)) := (HCSs.out.below hb).blk.cell 0
            rw [Array.getD_eq_getD_getElem?] at e45
            unfold Oper.wp
            simp only [execOp, Act.eval, Array.getD_eq_getD_getElem?, e45]
            go_simp
            exact ⟨_, rfl, rfl, Below.refl _ _⟩
          · intro a w1 hb hs hr
            have e4 : a.tmps.getD 4 undef = .pointer (some ⟨Y4, 0, none⟩) := hs 4 (by decide)
            have kk := K4.out.below hb K4.out.lt
            have x0 : w1.cell? ⟨Y4, 0, none⟩ = some (.string ck) := kk.cell 0
            have x1 : w1.cell? ⟨Y4, 1, none⟩ = some (.int .i64 cf) := kk.cell 1
            have x2 : w1.cell? ⟨Y4, 2, none⟩ = some (.int .i64 ct) := kk.cell 2
            clear kk
            rw [Array.getD_eq_getD_getElem?] at e4
            unfold Oper.wp
            simp only [execOp, Act.eval, Array.getD_eq_getD_getElem?, e4]
            go_simp
            exact ⟨_, rfl, rfl, Below.refl _ _⟩
          · intro a w1 hb hs hr
            have e5 : a.tmps.getD 5 undef = .pointer (some ⟨Y4 + 1, 0, none⟩) := hs 5 (by decide)
            rw [Array.getD_eq_getD_getElem?] at e5
            unfold Oper.wp
            simp only [execOp, Act.eval, Array.getD_eq_getD_getElem?, e5]
            go_simp
            exact ⟨_, rfl, rfl, Below.refl _ _⟩
          · intro a w1 hb hs hr
            have e48 : a.tmps.getD 48 undef = .pointer (some ⟨Y4 + 1, 0, none⟩) := hr 48 (by decide) (by apply Array.mem_toList_iff.1; repeat (first | exact List.Mem.head _ | apply List.Mem.tail))
            have kk := K5.out.below hb K5.out.lt
            have x0 : w1.cell? ⟨Y4 + 1, 0, none⟩ = some (.slice (some ⟨g, 0, none⟩) n cap) := kk.cell 0
            clear kk
            rw [Array.getD_eq_getD_getElem?] at e48
            unfold Oper.wp
            simp only [execOp, Act.eval, Array.getD_eq_getD_getElem?, e48]
            go_simp
            exact ⟨_, rfl, rfl, Below.refl _ _⟩
          · intro a w1 hb hs hr
            have e49 : a.tmps.getD 49 undef = .slice (some ⟨g, 0, none⟩) n cap := hr 49 (by decide) (by apply Array.mem_toList_iff.1; repeat (first | exact List.Mem.head _ | apply List.Mem.tail))
            obtain ⟨hmr, hgl⟩ := HMR.out w1 (HQ0.out.below (HBS.out.trans (hb.mono HBS.out.size)))
            have CL := hide (clone_m g cap n (rowsOf l ⟨ck, cf, ct⟩) hmr hgl HNN.out.1 HNN.out.2.1)
            clear hmr hgl
            rw [Array.getD_eq_getD_getElem?] at e49
            unfold Oper.wp
            simp only [execOp, Act.eval, Array.getD_eq_getD_getElem?, e49]
            go_simp
            refine CL.out.mono ?_
            rintro e w9 ⟨A3, c3, rfl, h3, hb3⟩
            obtain ⟨g1, rfl, hg1, _⟩ := own_cell h3 HNN.out.2.2
            exact ⟨_, rfl, ⟨g1, c3, rfl, Nat.le_trans hb.size hg1, own_more h3 (Nat.zero_le _)⟩, hb3⟩
          · intro a w1 hb hs hr
            have e5 : a.tmps.getD 5 undef = .pointer (some ⟨Y4 + 1, 0, none⟩) := hs 5 (by decide)
            rw [Array.getD_eq_getD_getElem?] at e5
            unfold Oper.wp
            simp only [execOp, Act.eval, Array.getD_eq_getD_getElem?, e5]
            go_simp
            exact ⟨_, rfl, rfl, Below.refl _ _⟩
          · intro a w1 hb hs hr
            have e51 : a.tmps.getD 51 undef = .pointer (some ⟨Y4 + 1, 1, none⟩) := hr 51 (by decide) (by apply Array.mem_toList_iff.1; repeat (first | exact List.Mem.head _ | apply List.Mem.tail))
            have kk := K5.out.below hb K5.out.lt
            have x1 : w1.cell? ⟨Y4 + 1, 1, none⟩ = some (.int .i64 fi) := kk.cell 1
            clear kk
            rw [Array.getD_eq_getD_getElem?] at e51
            unfold Oper.wp
            simp only [execOp, Act.eval, Array.getD_eq_getD_getElem?, e51]
            go_simp
            exact ⟨_, rfl, rfl, Below.refl _ _⟩
          · intro a w1 hb hs hr
            have e52 : a.tmps.getD 52 undef = .int .i64 fi := hr 52 (by decide) (by apply Array.mem_toList_iff.1; repeat (first | exact List.Mem.head _ | apply List.Mem.tail))
            have h50 := hr 50 (by decide) (by apply Array.mem_toList_iff.1; repeat (first | exact List.Mem.head _ | apply List.Mem.tail))
            obtain ⟨g1, c1, h50, hg1, ho1⟩ := h50
            have e50 : a.tmps.getD 50 undef = .slice (some ⟨g1, 0, none⟩) n c1 := h50
            have HO1 := hide ho1
            have HG1 := hide hg1
            clear h50 ho1 hg1
            rw [Array.getD_eq_getD_getElem?] at e52
            rw [Array.getD_eq_getD_getElem?] at e50
            unfold Oper.wp
            simp only [execOp, Act.eval, Array.getD_eq_getD_getElem?, e52, e50]
            go_simp
            exact ⟨_, rfl, ⟨g1, c1, rfl, HG1.out, HO1.out⟩, Below.refl _ _⟩
        case fin7 =>
          intro ff w5 hb hr
          have f46 : ff 46 = .map (some ma) := hr 46 (by decide)
          have f47 : ff 47 = .agg #[.string ck, .int .i64 cf, .int .i64 ct] := hr 47 (by decide)
          have f53 : ∃ (g1 c1 : Nat), ff 53 = .agg #[.slice (some ⟨g1, 0, none⟩) n c1, .int .i64 fi] ∧ ws.heap.size ≤ g1 ∧ w5.ownsRow 0 33 8 (.slice (some ⟨g1, 0, none⟩) n c1) n (msgCs (rowsOf l ⟨ck, cf, ct⟩)) := hr 53 (by decide)
          obtain ⟨g1, c1, f53, hg1, hown1⟩ := f53
          have hc5 := HCSs.out.below hb
          have hb5 := HBS.out.trans (hb.mono HBS.out.size)
          have hit5 : SMap.It w5 r0 L.cm cl0.length (seen.push e0.born) := (hb.block r0 HRSs.out).trans HITs.out
          have hge1 : w.heap.size ≤ g1 := by have := HBS.out.size; omega
          have hgn : ¬ g1 ∈ (⟨ma, mb, mc, ds, [], []⟩ : QL).foot Q := fun hm => by have := HCSs.out.lt _ hm; omega
          have hown1' : w5.ownsRow 0 33 8 (.slice (some ⟨g1, 0, none⟩) (rowsOf l ⟨ck, cf, ct⟩).length c1) (rowsOf l ⟨ck, cf, ct⟩).length (msgCs (rowsOf l ⟨ck, cf, ct⟩)) := by rw [HNN.out.1]; exact hown1
          obtain ⟨w6, hmu, hw6, hmb6, hgr6⟩ := SMap.run_mapUpdate (P := Try.prog) keyChan Try.underlying89 ⟨ck, cf, ct⟩ (rowV (rowsOf l ⟨ck, cf, ct⟩) ⟨g1, c1, fi⟩) ma _ w5 hc5.mc
          have hc6 := hc5.addC (x := ⟨g1, c1, fi⟩) hge1 hgn HNEW.out hown1' hmb6 hgr6
          unfold rowV chV at hmu
          rw [HNN.out.1] at hmu
          have hmlo : w.heap.size ≤ ma := hc5.lo _ foot_c
          have hrm : ma ≠ r0 := fun e => HRFr.out (by rw [← e]; exact foot_c)
          have HC6 := hide hc6
          have HB6 := hide (hb5.grown hgr6 (by have := hb5.size; omega) (fun k hk => by injection hk with e; omega))
          have HIT6 := hide (show SMap.It w6 r0 L.cm cl0.length (seen.push e0.born) from (hgr6.block r0 (by have := (Array.getElem?_eq_some_iff.1 hit5).1; exact this) (fun e => hrm (by injection e with e; exact e.symm))).trans hit5)
          have HRF6 := hide (show ¬ r0 ∈ (⟨ma, mb, mc, ds ++ [(⟨ck, cf, ct⟩, ⟨g1, c1, fi⟩)], [], []⟩ : QL).foot Q from fun hm => by
            have h1 : r0 ∈ (⟨ma, mb, mc, ds, [], []⟩ : QL).foot Q ∨ r0 = g1 := by
              unfold QL.foot at hm ⊢
              simp only [List.mem_cons, List.mem_append, List.map_append, List.map_cons, List.map_nil, List.not_mem_nil, or_false] at hm ⊢
              rcases hm with h | h | h | h | h | h <;> simp [h]
            rcases h1 with h1 | h1
            · exact HRFr.out h1
            · have := HRSs.out; omega)
          have HKD6 := hide (show (ks ++ [((⟨ck, cf, ct⟩ : Chan), Value.agg #[.slice (some ⟨g, 0, none⟩) n cap, .int .i64 fi])]).map (·.1) = (ds ++ [((⟨ck, cf, ct⟩ : Chan), (⟨g1, c1, fi⟩ : CRow))]).map (·.1) by rw [List.map_append, List.map_append, HKD.out]; rfl)
          have HFI6 := hide (show ∀ p ∈ ds ++ [((⟨ck, cf, ct⟩ : Chan), (⟨g1, c1, fi⟩ : CRow))], ∃ x, (p.1, x) ∈ L.cl ∧ p.2.fi = x.fi from fun p hp => by
            rcases List.mem_append.1 hp with hp | hp
            · exact HFI.out p hp
            · rw [List.mem_singleton.1 hp]
              exact ⟨_, HZ.out, rfl⟩)
          clear hw6 hb hr hc5 hb5 hit5 hge1 hgn hown1 hown1' hmb6 hgr6 hc6 hmlo hrm hg1
          simp only [putAll, slotsOf, List.take_succ_cons, List.take_zero, List.drop_succ_cons, List.drop_zero, List.filterMap_cons, List.filterMap_nil, List.foldl_cons, List.foldl_nil, Act.put, f46, f47, f53]
          simp only [List.setIfInBounds_toArray, List.set_cons_succ, List.set_cons_zero]
          clear f46 f47 f53
          go_wp2_with fail
          go_roundw
          case rel => exact ⟨seen.push e0.born, ks ++ [(⟨ck, cf, ct⟩, .agg #[.slice (some ⟨g, 0, none⟩) n cap, .int .i64 fi])], ds ++ [(⟨ck, cf, ct⟩, ⟨g1, c1, fi⟩)], HKD6, HFI6, HIT6, HRG1, HC6, HRF6, HB6⟩
          case measure =>
            rw [SMap.iter_seen HIT6.out, SMap.iter_seen HITr.out]
            exact left_shrinks _ seen e0 HE0.out
end Qu
end Go.Proofs.Ytonmojinijpneaa
end
section
/- What comes in: acts, as they are read; Great; both queues. -/
namespace Go.Proofs.Ytonmojinijpneaa
open Go Go.Joins Go.ChangeShapes Go.WideShapes Go.RowKit Go.Deep Go.Lib
set_option linter.unusedVariables false
set_option linter.unusedSimpArgs false
namespace Qu
structure Ac where
  kind : Int
  m : Msg
instance : Inhabited Ac := ⟨⟨0, m0⟩⟩
def acC (x : Ac) : List Value := .int .u8 x.kind :: msgC x.m
/-- The acts lie in a row. -/
def Acts (w : World) (A : Option Addr) (n : Nat) (F : Nat → Ac) : Prop := ∀ i, i < n → 0 ≤ (F i).kind ∧ (F i).kind ≤ 255 ∧ ∃ a, A = some a ∧ a.block < w.heap.size ∧ ∀ j v, (acC (F i))[j]? = some v → w.cell? (a.add (i * 9 + j)) = some v
theorem block_add (a : Addr) (n : Nat) : (a.add n).block = a.block := by unfold Addr.add; split <;> rfl
theorem Acts.below {w w' : World} {A : Option Addr} {n : Nat} {F : Nat → Ac} (h : Acts w A n F) (hb : Below w.heap.size w w') : Acts w' A n F := fun i hi => by
  obtain ⟨k0, k1, a, hA, hlt, hc⟩ := h i hi
  exact ⟨k0, k1, a, hA, Nat.lt_of_lt_of_le hlt hb.size, fun j v hv => (hb.cell (p := a.add (i * 9 + j)) (by rw [block_add]; exact hlt)).trans (hc j v hv)⟩
theorem add_lits (a : Addr) (j : Nat) (hj : 0 < j) : a.add j = ⟨a.block, a.off + j, none⟩ := by unfold Addr.add; rw [if_neg (by omega)]
/-- The cells of an act, as the walk writes them. -/
theorem Acts.cells {w : World} {A : Option Addr} {n : Nat} {F : Nat → Ac} (h : Acts w A n F) {i : Nat} (hi : i < n) : ∃ a, A = some a ∧ 0 ≤ (F i).kind ∧ (F i).kind ≤ 255 ∧ w.cell? (a.add (i * 9)) = some (.int .u8 (F i).kind) ∧
    ∀ j v, (msgC (F i).m)[j]? = some v → w.cell? ⟨(a.add (i * 9)).block, (a.add (i * 9)).off + (j + 1), none⟩ = some v := by
  obtain ⟨k0, k1, a, hA, _, hc⟩ := h i hi
  have h0 := hc 0 (.int .u8 (F i).kind) rfl
  rw [Nat.add_zero] at h0
  refine ⟨a, hA, k0, k1, h0, fun j v hv => ?_⟩
  have h1 := hc (j + 1) v hv
  rw [← Go.Deep.add_add, add_lits _ (j + 1) (by omega)] at h1
  exact h1
def acK : List Kd := [.i .u8, .s, .i .i64, .i .i64, .i .i64, .i .i64, .i .i64, .i .i64, .b]
section
variable {H : Type} {enc : TypeId × Value → H} {w : World} {base : Nat} {spare : Nat → Bool} {held : Bool}
end
def grt (n : Nat) (F : Nat → Ac) : Bool := decide (200 < n) || (List.range n).any fun i => decide (100 < (F i).m.key.size)
/-- The program's queue and the document's, of the messages l and k, lie apart. -/
structure Both (w : World) (B q : Nat) (L : QL) (p : Nat) (A : Option Addr) (l k : List Msg) : Prop where
  qs : QSt w q L l
  ra : RAt w p A k
  ap : ∀ b ∈ L.foot q, ¬ b ∈ rf p A
  lo : ∀ b ∈ L.foot q, B ≤ b
  lr : ∀ b ∈ rf p A, B ≤ b
variable {w w' : World} {B q p : Nat} {L : QL} {A : Option Addr} {l k l' : List Msg}
theorem Both.below (h : Both w B q L p A l k) (hb : Below w.heap.size w w') : Both w' B q L p A l k := ⟨h.qs.below hb, h.ra.below hb, h.ap, h.lo, h.lr⟩
theorem Both.size (h : Both w B q L p A l k) : B ≤ w.heap.size := by
  have := h.qs.lt q foot_q
  have := h.lo q foot_q
  omega
theorem Both.goQ (h : Both w B q L p A l k) (hg : Goes w q L l' w') : ∃ L', Both w' B q L' p A l' k ∧ Below B w w' := by
  obtain ⟨L', h1, h2, h3⟩ := hg
  refine ⟨L', ⟨h1, h.ra.ch h2 h.ap, fun b hb hr => ?_, fun b hb => ?_, h.lr⟩, h2.below h.lo h.size⟩
  · rcases h3 b hb with h4 | h4
    · exact h.ap b h4 hr
    · have := h.ra.lt b hr; omega
  · rcases h3 b hb with h4 | h4
    · exact h.lo b h4
    · have := h.size; omega
theorem Both.goR (h : Both w B q L p A l k) (hg : GoesR w p A l' w') : ∃ A', Both w' B q L p A' l l' ∧ Below B w w' := by
  obtain ⟨A', h1, h2, h3⟩ := hg
  refine ⟨A', ⟨h.qs.ch h2 fun b hb hf => h.ap b hf hb, h1, fun b hb hr => ?_, h.lo, fun b hb => ?_⟩, h2.below h.lr h.size⟩
  · rcases h3 b hr with h4 | h4
    · exact h.ap b hb h4
    · have := h.qs.lt b hb; omega
  · rcases h3 b hb with h4 | h4
    · exact h.lr b h4
    · have := h.size; omega
/-- Both are new. -/
theorem both_new {w0 w : World} {q : Nat} {L : QL} (h : QSt w q L []) (hf : ∀ b ∈ L.foot q, w0.heap.size ≤ b) (hs : w0.heap.size ≤ w.heap.size) : Both (w.alloc (.cells #[.slice none 0 0] 77)) w0.heap.size q L w.heap.size none [] [] := by
  have hb := (Below.refl w.heap.size w).alloc (Nat.le_refl _) (.cells #[.slice none 0 0] 77)
  refine ⟨h.below hb, ⟨0, Blk.new w _ _, ⟨rfl, .inl ⟨rfl, rfl⟩⟩⟩, fun b hb hr => ?_, hf, fun b hr => ?_⟩
  · have e : b = w.heap.size := by simpa [rf] using hr
    have := h.lt b hb
    omega
  · have e : b = w.heap.size := by simpa [rf] using hr
    omega
theorem takeL_len (l : List Msg) (v : Who) : (takeL l v).length = l.length := by unfold takeL; split <;> simp
theorem sendL_len (l : List Msg) (m : Msg) : (sendL l m).length ≤ l.length + 1 := by unfold sendL; split <;> simp
theorem rem4 {k : Int} (h0 : 0 ≤ k) : Int.tmod k 4 = 0 ∨ Int.tmod k 4 = 1 ∨ Int.tmod k 4 = 2 ∨ Int.tmod k 4 = 3 := by
  rw [Int.tmod_eq_emod_of_nonneg h0]
  omega
end Qu
end Go.Proofs.Ytonmojinijpneaa
end
section
/- The document's queue: what is left; a copy. -/
namespace Go.Proofs.Ytonmojinijpneaa
open Go Go.RowKit Go.Lib
set_option linter.unusedVariables false
set_option linter.unusedSimpArgs false
namespace Qu
set_option maxRecDepth 100000 in
set_option maxHeartbeats 4000000 in
theorem ahead_b (x y : Msg) (w : World) : Calls Try.prog 57 #[.agg #[.string x.key, .int .i64 x.fr, .int .i64 x.to, .int .i64 x.ca, .int .i64 x.tg, .int .i64 x.va, .int .i64 x.sz, .bool x.tk], .agg #[.string y.key, .int .i64 y.fr, .int .i64 y.to, .int .i64 y.ca, .int .i64 y.tg, .int .i64 y.va, .int .i64 y.sz, .bool y.tk]] w fun e w' => e = .returned (.bool (decide (chLt x.ch y.ch))) ∧ Below w.heap.size w w' := by
  have HB := hide (((Below.refl w.heap.size w).alloc (Nat.le_refl _) (.cells #[.string x.key, .int .i64 x.fr, .int .i64 x.to, .int .i64 x.ca, .int .i64 x.tg, .int .i64 x.va, .int .i64 x.sz, .bool x.tk] 33)).alloc (by simp) (.cells #[.string y.key, .int .i64 y.fr, .int .i64 y.to, .int .i64 y.ca, .int .i64 y.tg, .int .i64 y.va, .int .i64 y.sz, .bool y.tk] 33))
  obtain ⟨xk, xf, xt, xc, xg, xv, xz, xb⟩ := x
  obtain ⟨yk, yf, yt, yc, yg, yv, yz, yb⟩ := y
  simp only at HB ⊢
  obtain ⟨r, hr⟩ : ∃ r, decide (chLt (Msg.ch ⟨xk, xf, xt, xc, xg, xv, xz, xb⟩) (Msg.ch ⟨yk, yf, yt, yc, yg, yv, yz, yb⟩)) = r := ⟨_, rfl⟩
  rw [hr]
  have HR := hide hr
  clear hr
  by_cases hk : xk = yk
  rotate_left
  · have hs := str_ne hk
    have he : r = Op.bytesLess xk.toList yk.toList := by
      rw [← HR.out]
      cases hb : Op.bytesLess xk.toList yk.toList with
      | true => exact decide_eq_true (.inl hb)
      | false =>
        refine decide_eq_false fun h => ?_
        rcases h with h | h
        · have h' : Op.bytesLess xk.toList yk.toList = true := h
          rw [hb] at h'
          cases h'
        · exact hk h.1
    rw [he]
    clear he hk
    go_enter Try.func57, Try.ntmps57
    go_wp2
    go_ret
    exact ⟨rfl, HB.out⟩
  have hs : (xk.toList == yk.toList) = true := by rw [hk]; simp
  have hirr : kLess xk yk = false := by rw [hk]; exact bl_irr _
  by_cases hf : xf = yf
  rotate_left
  · have hs2 : (xf != yf) = true := by simpa using hf
    have he : r = decide (xf < yf) := by
      rw [← HR.out]
      refine decide_eq_decide.2 ⟨fun h => ?_, fun h => .inr ⟨hk, .inl h⟩⟩
      rcases h with h | h
      · have h' : kLess xk yk = true := h
        rw [hirr] at h'
        cases h'
      · rcases h.2 with h2 | h2
        · exact h2
        · exact absurd h2.1 hf
    rw [he]
    clear he hk hf hirr
    go_enter Try.func57, Try.ntmps57
    go_wp2
    go_ret
    exact ⟨rfl, HB.out⟩
  have hs2 : (xf != yf) = false := by simpa using hf
  have he : r = decide (xt < yt) := by
    rw [← HR.out]
    refine decide_eq_decide.2 ⟨fun h => ?_, fun h => .inr ⟨hk, .inr ⟨hf, h⟩⟩⟩
    rcases h with h | h
    · have h' : kLess xk yk = true := h
      rw [hirr] at h'
      cases h'
    · rcases h.2 with h2 | h2
      · have h2' : xf < yf := h2
        omega
      · exact h2.2
  rw [he]
  clear he hk hf hirr
  go_enter Try.func57, Try.ntmps57
  go_wp2
  go_ret
  exact ⟨rfl, HB.out⟩
/-- A message put in. -/
theorem isLeft_put {l K : List Msg} {x : Msg} {p : Nat} (h : IsLeft l K) (ht : x.tk = false) (hp : p ≤ K.length) (ha : ∀ k y, p ≤ k → K[k]? = some y → chLt x.ch y.ch) (hb : ∀ k y, k + 1 = p → K[k]? = some y → ¬ chLt x.ch y.ch) :
    IsLeft (l ++ [x]) (K.take p ++ x :: K.drop p) := by
  have hK := List.take_append_drop p K
  have hs := h.1
  rw [← hK, List.pairwise_append] at hs
  obtain ⟨s1, s2, s3⟩ := hs
  have hd : ∀ y ∈ K.drop p, chLt x.ch y.ch := fun y hy => by
    obtain ⟨j, hj⟩ := List.mem_iff_getElem?.1 hy
    rw [List.getElem?_drop] at hj
    exact ha _ y (Nat.le_add_right _ _) hj
  have htk : ∀ y ∈ K.take p, ¬ chLt x.ch y.ch := fun y hy hlt => by
    obtain ⟨j, hj⟩ := List.mem_iff_getElem?.1 hy
    rw [List.getElem?_take] at hj
    split at hj
    · rename_i hjp
      obtain ⟨q, hq⟩ : ∃ q, q + 1 = p := ⟨p - 1, by omega⟩
      obtain ⟨z, hz⟩ : ∃ z, K[q]? = some z := ⟨_, List.getElem?_eq_getElem (by omega)⟩
      have hbz := hb q z hq hz
      rcases Nat.lt_or_ge j q with hlt2 | hge
      · have hpw := List.pairwise_iff_getElem.1 h.1 j q (by omega) (by omega) hlt2
        obtain ⟨_, e1⟩ := List.getElem?_eq_some_iff.1 hj
        obtain ⟨_, e2⟩ := List.getElem?_eq_some_iff.1 hz
        rw [e1, e2] at hpw
        exact chLt_nle hbz hpw hlt
      · have : j = q := by omega
        subst this
        rw [hz] at hj
        cases hj
        exact hbz hlt
    · cases hj
  refine ⟨?_, fun c => ?_⟩
  · rw [List.pairwise_append]
    refine ⟨s1, ?_, fun a ha' b hb' => ?_⟩
    · rw [List.pairwise_cons]
      exact ⟨fun y hy => chLt_asymm (hd y hy), s2⟩
    · rcases List.mem_cons.1 hb' with e | hb'
      · rw [e]; exact htk a ha'
      · exact s3 a ha' b hb'
  · have hc := h.2 c
    rw [← hK, List.filter_append] at hc
    rw [List.filter_append, List.filter_cons, List.filter_append, ← hc, List.filter_cons]
    have e : isM x c = decide (x.ch = c) := by unfold isM; simp [ht]
    rw [e]
    by_cases hx : x.ch = c
    · rw [decide_eq_true hx]
      have : (K.drop p).filter (fun m => decide (m.ch = c)) = [] := List.filter_eq_nil_iff.2 fun y hy hh => by
        have e2 : y.ch = c := by simpa using hh
        have := hd y hy
        rw [e2, hx] at this
        exact chLt_irr _ this
      rw [this]
      simp
    · rw [decide_eq_false hx]
      simp
theorem isLeft_skip {l K : List Msg} {x : Msg} (h : IsLeft l K) (ht : x.tk = true) : IsLeft (l ++ [x]) K := ⟨h.1, fun c => by
  rw [h.2 c, List.filter_append, List.filter_cons, if_neg (by unfold isM; simp [ht])]
  simp⟩
theorem oneM (k : List Msg) : ∀ u ∈ msgCs k, u.oneCell' = true := fun u hu => by
  induction k with
  | nil => cases hu
  | cons x k ih =>
    rw [msgCs] at hu
    rcases List.mem_append.1 hu with hu | hu
    · unfold msgC at hu
      simp only [List.mem_cons, List.not_mem_nil, or_false] at hu
      rcases hu with rfl | rfl | rfl | rfl | rfl | rfl | rfl | rfl <;> rfl
    · exact ih hu
theorem reads_drop {w : World} {B n c p : Nat} {K : List Msg} {g : Nat} (h : w.ownsRow B 33 8 (.slice (some ⟨g, 0, none⟩) n c) n (msgCs K)) (hK : K.length = n) (hp : p ≤ n) : Reads w w.heap.size 8 (some ⟨g, p * 8, none⟩) (n - p) (msgCs (K.drop p)) := by
  refine ⟨by rw [msgCs_len, List.length_drop, hK], fun h0 => ⟨_, rfl, ?_, fun j u hu => ?_⟩⟩
  · obtain ⟨g', e, _, _, ⟨cs, hb⟩, _⟩ := own_cell h (by omega)
    cases e
    exact hb.lt
  · obtain ⟨g', e, _, _, _, _, _, hc⟩ := own_cell h (by omega)
    cases e
    have hj : j < (n - p) * 8 := by
      have := (List.getElem?_eq_some_iff.1 hu).1
      rw [msgCs_len, List.length_drop, hK] at this
      exact this
    obtain ⟨m, hm⟩ : ∃ m, (K.drop p)[j / 8]? = some m := ⟨_, List.getElem?_eq_getElem (by rw [List.length_drop, hK]; omega)⟩
    have h1 := msgCs_at (K.drop p) (j / 8) m hm (j % 8) (by omega)
    rw [show j / 8 * 8 + j % 8 = j by omega, hu] at h1
    rw [List.getElem?_drop] at hm
    have h2 := msgCs_at K (p + j / 8) m hm (j % 8) (by omega)
    rw [← h1] at h2
    have h3 := hc _ u h2
    have e2 : (⟨g, p * 8, none⟩ : Addr).add j = ⟨g, (p + j / 8) * 8 + j % 8, none⟩ := by
      unfold Addr.add
      split
      · rename_i hj0
        subst hj0
        simp
      · congr 1
        show p * 8 + j = _
        omega
    rw [e2]
    exact h3
/-- Rest, copied onto an empty row. -/
theorem copy_rest (wz : World) (A9 : Option Addr) (c9 m : Nat) (K : List Msg) (hK : K.length = m) (hr : Reads wz wz.heap.size 8 A9 m (msgCs K)) (hl : m ≤ 1000) :
    ∃ A1 c1 w1, (Builtin.append_ #[45, 45] 45 #[.slice (some ⟨wz.heap.size, 0, none⟩) 0 0, .slice A9 m c9]).run Try.prog (wz.alloc (.cells #[] 33)) = .ok (.slice A1 m c1) w1 ∧
      w1.ownsRow wz.heap.size 33 8 (.slice A1 m c1) m (msgCs K) ∧ Below wz.heap.size wz w1 := by
  have ba := (Below.refl wz.heap.size wz).alloc (Nat.le_refl _) (.cells #[] 33)
  have own0 : (wz.alloc (.cells #[] 33)).ownsRow wz.heap.size 33 8 (.slice (some ⟨wz.heap.size, 0, none⟩) 0 0) 0 [] := ⟨rfl, .inr ⟨wz.heap.size, 0, #[], rfl, Nat.le_refl _, heap_alloc_new wz _, Nat.le_refl _, by unfold maxLen; omega, rfl, rfl⟩⟩
  have hrd := Reads.more (Reads.below hr ba) ba.size
  have hs1 : (wz.alloc (.cells #[] 33)).heap.size = wz.heap.size + 1 := by simp
  obtain ⟨Wz, hWz⟩ : ∃ x', wz.alloc (.cells #[] 33) = x' := ⟨_, rfl⟩
  rw [hWz] at ba own0 hrd hs1 ⊢
  obtain ⟨A1, c1, w1, hrun, hown, hgr⟩ := push_ms Wz wz.heap.size _ 0 0 _ A9 c9 m K hK own0 hrd (by omega) (by omega) (by omega)
  rw [Nat.zero_add] at hrun hown
  exact ⟨A1, c1, w1, hrun, hown, ba.grown hgr (by omega) (fun k e => by have := (own_block own0 e).1; omega)⟩
theorem msgCs_take : ∀ (K : List Msg) (p : Nat), (msgCs K).take (p * 8) = msgCs (K.take p)
  | [], p => by simp [msgCs]
  | x :: K, 0 => by simp [msgCs]
  | x :: K, p + 1 => by
    rw [List.take_succ_cons, msgCs, msgCs, show (p + 1) * 8 = (msgC x).length + p * 8 by rw [msgC_len]; omega, List.take_length_add_append, msgCs_take K p]
theorem own_gr {w w' : World} {B n c size : Nat} {A : Option Addr} {e : TypeId} {xs : List Value} {r : Option Nat} (h : w.ownsRow B e size (.slice A n c) n xs) (hg : w.grownBy w' r) (hr : ∀ g, r = some g → g < B) : w'.ownsRow B e size (.slice A n c) n xs := by
  refine ⟨h.1, h.2.imp id ?_⟩
  rintro ⟨g', cap, cur, hv, hge, hh, rr⟩
  exact ⟨g', cap, cur, hv, hge, (hg.block g' (Array.getElem?_eq_some_iff.1 hh).1 (fun e => by have := hr g' e.symm; omega)).trans hh, rr⟩
set_option maxRecDepth 100000 in
set_option maxHeartbeats 16000000 in
theorem Left_b {w : World} {p : Nat} {A : Option Addr} {l : List Msg} (h : RAt w p A l) (hl : l.length ≤ 1000) :
    Calls Try.prog 20 #[.pointer (some ⟨p, 0, none⟩)] w fun e w' => ∃ A1 c1 K, e = .returned (.slice A1 K.length c1) ∧ IsLeft l K ∧ w'.ownsRow w.heap.size 33 8 (.slice A1 K.length c1) K.length (msgCs K) ∧ Below w.heap.size w w' := by
  obtain ⟨capl, hbp, hownl⟩ := h
  obtain ⟨n, hn⟩ : ∃ z, l.length = z := ⟨_, rfl⟩
  rw [hn] at hbp hownl
  have HP := hide hbp
  have HOL := hide hownl
  have HN := hide hn
  have HNL := hide (show n ≤ 1000 by omega)
  have OW0 := hide (show w.ownsRow w.heap.size 33 8 (.slice none 0 0) 0 (msgCs []) from ⟨rfl, .inl ⟨rfl, rfl⟩⟩)
  have IL0 := hide (show IsLeft (l.take 0) [] from ⟨List.Pairwise.nil, fun c => rfl⟩)
  clear hbp hownl hn hl
  go_enter Try.func20, Try.ntmps20
  go_wp2_with fail
  go_loopw [3, 4, 5, 6] (fun v3 v4 _ _ wr => ∃ (i : Nat) (K : List Msg) (O : Option Addr) (oc m : Nat), i ≤ n ∧ v4 = .int .i64 i ∧ v3 = .slice O m oc ∧ Hid (K.length = m) ∧ Hid (IsLeft (l.take i) K) ∧ Hid ((O = none ∧ m = 0 ∧ oc = 0) ∨ ∃ g, O = some ⟨g, 0, none⟩ ∧ 0 < m ∧ m ≤ oc) ∧ Hid (wr.ownsRow w.heap.size 33 8 (.slice O m oc) m (msgCs K)) ∧ Hid (Below w.heap.size w wr)) (fun _ v4 _ _ _ => n - (RowKit.intOf v4).toNat)
  case atStart => exact ⟨0, [], none, 0, 0, Nat.zero_le _, rfl, rfl, hide rfl, IL0, hide (.inl ⟨rfl, rfl, rfl⟩), OW0, hide (Below.refl _ _)⟩
  case round =>
    obtain ⟨i, K, O, oc, m, hi, rfl, rfl, HKM, HIL, HO, HOW, HBR⟩ := hrel
    rename World => wr
    have hn1 := HNL.out
    have c0 : wr.cell? ⟨p, 0, none⟩ = some (.slice A n capl) := (HP.out.below HBR.out HP.out.lt).cell 0
    by_cases hlt : i < n
    rotate_left
    · have hltI : ¬ (i : Int) < (n : Int) := by omega
      obtain rfl : n = i := by omega
      have e : l.take n = l := by rw [← HN.out, List.take_length]
      rw [e] at HIL
      have hm := HKM.out
      subst hm
      clear e hlt
      go_wp2_with fail
      go_ret
      exact ⟨O, oc, K, rfl, HIL.out, HOW.out, HBR.out⟩
    have hltI : (i : Int) < (n : Int) := by omega
    have hgeI : (0 : Int) ≤ (i : Int) := by omega
    obtain ⟨gl, hA, _, _, ⟨csl, hbl⟩, _, _, hcl⟩ := own_cell HOL.out (by omega)
    subst hA
    obtain ⟨⟨mk, mf, mt, mc, mg, mv, mz, mb⟩, hm⟩ : ∃ m, l[i]? = some m := ⟨_, List.getElem?_eq_getElem (by rw [HN.out]; exact hlt)⟩
    have HLC := hide (show ∀ wx, Below w.heap.size w wx → ∀ k v, (msgC ⟨mk, mf, mt, mc, mg, mv, mz, mb⟩)[k]? = some v → wx.cell? ⟨gl, i * 8 + k, none⟩ = some v from fun wx hb k v hv => (hb.cell (p := ⟨gl, _, none⟩) hbl.lt).trans (hcl _ v ((msgCs_at l i _ hm k (by have := (List.getElem?_eq_some_iff.1 hv).1; rwa [msgC_len] at this)).trans hv)))
    have n7 : wr.cell? ⟨gl, i * 8 + 7, none⟩ = some (.bool mb) := HLC.out wr HBR.out 7 _ rfl
    have HTS := hide (show l.take (i + 1) = l.take i ++ [⟨mk, mf, mt, mc, mg, mv, mz, mb⟩] by
      obtain ⟨hl1, he1⟩ := List.getElem?_eq_some_iff.1 hm
      rw [List.take_succ_eq_append_getElem hl1, he1])
    have HLT := hide hlt
    have HMB := hide (show m ≤ 1000 by
      have h1 := isLeft_len HIL.out
      rw [List.length_take, HKM.out] at h1
      omega)
    have HPC := hide (show ∀ wx, Below w.heap.size w wx → wx.cell? ⟨p, 0, none⟩ = some (.slice (some ⟨gl, 0, none⟩) n capl) from fun wx hb => (HP.out.below hb HP.out.lt).cell 0)
    clear hm hbl hcl hlt csl
    cases mb with
    | true =>
      have HIL2 := hide (show IsLeft (l.take (i + 1)) K by rw [HTS.out]; exact isLeft_skip HIL.out rfl)
      go_wp2_with fail
      go_roundw
      case rel => exact ⟨i + 1, K, O, oc, m, HLT.out, by go_num, rfl, HKM, HIL2, HO, HOW, HBR⟩
      case measure => have := HLT.out; simp [RowKit.intOf] <;> omega
    | false =>
      go_wp2_with fail
      clear c0 n7
      go_loopw [5] (fun v5 wz => ∃ (at_ : Nat), at_ ≤ m ∧ v5 = .int .i64 at_ ∧ Hid (∀ k y, at_ ≤ k → K[k]? = some y → chLt (Msg.ch ⟨mk, mf, mt, mc, mg, mv, mz, false⟩) y.ch) ∧ Hid (Below wr.heap.size wr wz)) (fun v5 _ => (RowKit.intOf v5).toNat)
      case atStart => exact ⟨m, Nat.le_refl _, rfl, hide (fun k y hk hy => by have := (List.getElem?_eq_some_iff.1 hy).1; have := HKM.out; omega), hide (Below.refl _ _)⟩
      case round =>
        obtain ⟨at_, hat, rfl, HAT, HBZ⟩ := hrel
        rename World => wz
        have hm1 := HMB.out
        have HWZ := hide (HBR.out.trans (HBZ.out.mono HBR.out.size))
        obtain ⟨hb, hhb⟩ : ∃ b, decide (at_ ≠ 0 ∧ chLt (Msg.ch ⟨mk, mf, mt, mc, mg, mv, mz, false⟩) (K.getD (at_ - 1) m0).ch) = b := ⟨_, rfl⟩
        have HHB := hide hhb
        have HATM := hide hat
        clear hhb
        go_upto_region 7 with (fail)
        go_cut [42] from 26 to 41 (fun x wx => x = .bool hb ∧ Hid (Below wz.heap.size wz wx))
        case first =>
          rcases Nat.eq_zero_or_pos at_ with h0 | h0
          · subst h0
            have ho : hb = false := by rw [← HHB.out]; exact decide_eq_false fun ⟨hk, _⟩ => hk rfl
            go_quiet (fail)
            go_wp2_with fail
            go_meet
            exact ⟨by rw [ho], hide (below_drewN (Below.refl _ _) _)⟩
          · obtain ⟨q, hq⟩ : ∃ q, at_ = q + 1 := ⟨at_ - 1, by omega⟩
            subst hq
            obtain ⟨⟨yk, yf, yt, yc, yg, yv, yz, yb⟩, hy⟩ : ∃ y, K[q]? = some y := ⟨_, List.getElem?_eq_getElem (by rw [HKM.out]; omega)⟩
            have hO := HO.out
            rcases hO with ⟨_, hm0, _⟩ | ⟨g, hO, _, _⟩
            · omega
            subst hO
            have HYC := hide (show ∀ wx, Below wz.heap.size wz wx → ∀ k v, (msgC ⟨yk, yf, yt, yc, yg, yv, yz, yb⟩)[k]? = some v → wx.cell? ⟨g, q * 8 + k, none⟩ = some v from fun wx hb => (by
              have ho := own_belowR HOW.out (HBZ.out.trans (hb.mono HBZ.out.size))
              obtain ⟨g', e, _, hit⟩ := (MRow.of_own ho HKM.out).it q _ hy
              cases e
              exact hit))
            have ho : hb = decide (chLt (Msg.ch ⟨mk, mf, mt, mc, mg, mv, mz, false⟩) (Msg.ch ⟨yk, yf, yt, yc, yg, yv, yz, yb⟩)) := by
              rw [← HHB.out]
              refine decide_eq_decide.2 ⟨fun ⟨hk, hlt⟩ => ?_, fun hlt => ⟨by omega, by rw [Nat.add_sub_cancel, List.getD_eq_getElem?_getD, hy]; exact hlt⟩⟩
              rw [Nat.add_sub_cancel, List.getD_eq_getElem?_getD, hy] at hlt
              exact hlt
            have HHO := hide ho
            have AH := hide (fun wx => ahead_b ⟨mk, mf, mt, mc, mg, mv, mz, false⟩ ⟨yk, yf, yt, yc, yg, yv, yz, yb⟩ wx)
            have h1I : (0 : Int) < ((q + 1 : Nat) : Int) := by omega
            have hqI : ((q + 1 : Nat) : Int) - 1 = (q : Int) := by omega
            have hq2 : (q : Int) < (m : Int) := by omega
            have hqw : IntKind.i64.wrap (q : Int) = (q : Int) := by simp [IntKind.wrap, IntKind.bits, IntKind.signed]; omega
            have hq3 : (0 : Int) ≤ (q : Int) := by omega
            obtain ⟨ra, hra⟩ : ∃ b, decide (chLt (Msg.ch ⟨mk, mf, mt, mc, mg, mv, mz, false⟩) (Msg.ch ⟨yk, yf, yt, yc, yg, yv, yz, yb⟩)) = b := ⟨_, rfl⟩
            simp only [hra] at AH
            rw [hra] at HHO
            obtain ⟨at2, hat2⟩ : ∃ z, q + 1 = z := ⟨_, rfl⟩
            have h1N : 0 < q + 1 := by omega
            rw [hat2] at h1I hqI hat h1N ⊢
            have HA2 := hide hat2
            clear hy ho hra hat2 h0
            let R : Nat → Value → World → Prop := fun sl u w1 => match sl with
              | 26 => u = .int .i64 at2
              | 27 => u = .bool true
              | 28 => u = .bool true
              | 29 => u = .pointer (some ⟨p, 0, none⟩)
              | 30 => u = .pointer (some ⟨p, 0, none⟩)
              | 31 => u = .pointer (some ⟨p, 0, none⟩)
              | 32 => u = .slice (some ⟨gl, 0, none⟩) n capl
              | 33 => u = .int .i64 i
              | 34 => u = .pointer (some ⟨gl, i * 8, none⟩)
              | 35 => u = .agg #[.string mk, .int .i64 mf, .int .i64 mt, .int .i64 mc, .int .i64 mg, .int .i64 mv, .int .i64 mz, .bool false]
              | 36 => u = .slice (some ⟨g, 0, none⟩) m oc
              | 37 => u = .int .i64 at2
              | 38 => u = .int .i64 q
              | 39 => u = .pointer (some ⟨g, q * 8, none⟩)
              | 40 => u = .agg #[.string yk, .int .i64 yf, .int .i64 yt, .int .i64 yc, .int .i64 yg, .int .i64 yv, .int .i64 yz, .bool yb]
              | 41 => u = .bool ra
              | 42 => u = .bool ra
              | _ => True
            refine wp_region_relGW [(28, true)] R (fun a b => Below a.heap.size a b) (fun _ w => Below wz.heap.size wz w) (by kernel_rfl) (by kernel_rfl) (by kernel_rfl) (by kernel_rfl) ?mono (fun w => Below.refl _ _) ((Below.refl _ _).drew) ?gs ?step ?fin
            case mono =>
              intro sl u wx wy h hk
              match sl with
              | 0 | 1 | 2 | 3 | 4 | 5 | 6 | 7 | 8 | 9 | 10 | 11 | 12 | 13 | 14 | 15 | 16 | 17 | 18 | 19 | 20 | 21 | 22 | 23 | 24 | 25 | 26 | 27 | 28 | 29 | 30 | 31 | 32 | 33 | 34 | 35 | 36 | 37 | 38 | 39 | 40 | 41 | 42 | _ + 43 => exact h
            case gs =>
              intro p hp u w1 h
              simp only [List.mem_cons, List.not_mem_nil, or_false] at hp
              rcases hp with rfl <;> exact h
            case step =>
              intro j o ho
              match j, ho with
              | 0, ho =>
                cases ho
                intro V aa wx hV hdep hval hj hsm hr
                have e5 : aa.tmps.getD 5 undef = .int .i64 at2 := hsm 5 (by decide)
                rw [Array.getD_eq_getD_getElem?] at e5
                unfold Oper.wp
                simp only [execOp, Act.eval, Array.getD_eq_getD_getElem?, e5]
                go_simp
                first | exact ⟨_, rfl, rfl, Below.refl _ _⟩ | exact ⟨_, rfl, rfl, Below.refl _ _, hj⟩ | exact ⟨_, rfl, Below.refl _ _, hj⟩ | exact ⟨_, rfl, hj⟩
              | 1, ho =>
                cases ho
                intro V aa wx hV hdep hval hj hsm hr
                have e26 : aa.tmps.getD 26 undef = .int .i64 at2 := hr 26 (by decide) (by apply Array.mem_toList_iff.1; repeat (first | exact List.Mem.head _ | apply List.Mem.tail))
                rw [Array.getD_eq_getD_getElem?] at e26
                unfold Oper.wp
                simp only [execOp, Act.eval, Array.getD_eq_getD_getElem?, e26]
                go_simp
                first | exact ⟨_, rfl, rfl, Below.refl _ _⟩ | exact ⟨_, rfl, rfl, Below.refl _ _, hj⟩ | exact ⟨_, rfl, Below.refl _ _, hj⟩ | exact ⟨_, rfl, hj⟩
              | 2, ho =>
                cases ho
                intro V aa wx hV hdep hval hj hsm hr
                have e27 : aa.tmps.getD 27 undef = .bool true := hr 27 (by decide) (by apply Array.mem_toList_iff.1; repeat (first | exact List.Mem.head _ | apply List.Mem.tail))
                rw [Array.getD_eq_getD_getElem?] at e27
                unfold Oper.wp
                simp only [execOp, Act.eval, Array.getD_eq_getD_getElem?, e27]
                go_simp
                first | exact ⟨_, rfl, rfl, Below.refl _ _⟩ | exact ⟨_, rfl, rfl, Below.refl _ _, hj⟩ | exact ⟨_, rfl, Below.refl _ _, hj⟩ | exact ⟨_, rfl, hj⟩
              | 3, ho =>
                cases ho
                intro V aa wx hV hdep hval hj hsm hr
                have e0 : aa.tmps.getD 0 undef = .pointer (some ⟨p, 0, none⟩) := hsm 0 (by decide)
                rw [Array.getD_eq_getD_getElem?] at e0
                unfold Oper.wp
                simp only [execOp, Act.eval, Array.getD_eq_getD_getElem?, e0]
                go_simp
                first | exact ⟨_, rfl, rfl, Below.refl _ _⟩ | exact ⟨_, rfl, rfl, Below.refl _ _, hj⟩ | exact ⟨_, rfl, Below.refl _ _, hj⟩ | exact ⟨_, rfl, hj⟩
              | 4, ho =>
                cases ho
                intro V aa wx hV hdep hval hj hsm hr
                have e29 : aa.tmps.getD 29 undef = .pointer (some ⟨p, 0, none⟩) := hr 29 (by decide) (by apply Array.mem_toList_iff.1; repeat (first | exact List.Mem.head _ | apply List.Mem.tail))
                rw [Array.getD_eq_getD_getElem?] at e29
                unfold Oper.wp
                simp only [execOp, Act.eval, Array.getD_eq_getD_getElem?, e29]
                go_simp
                first | exact ⟨_, rfl, rfl, Below.refl _ _⟩ | exact ⟨_, rfl, rfl, Below.refl _ _, hj⟩ | exact ⟨_, rfl, Below.refl _ _, hj⟩ | exact ⟨_, rfl, hj⟩
              | 5, ho =>
                cases ho
                intro V aa wx hV hdep hval hj hsm hr
                have e30 : aa.tmps.getD 30 undef = .pointer (some ⟨p, 0, none⟩) := hr 30 (by decide) (by apply Array.mem_toList_iff.1; repeat (first | exact List.Mem.head _ | apply List.Mem.tail))
                rw [Array.getD_eq_getD_getElem?] at e30
                unfold Oper.wp
                simp only [execOp, Act.eval, Array.getD_eq_getD_getElem?, e30]
                go_simp
                first | exact ⟨_, rfl, rfl, Below.refl _ _⟩ | exact ⟨_, rfl, rfl, Below.refl _ _, hj⟩ | exact ⟨_, rfl, Below.refl _ _, hj⟩ | exact ⟨_, rfl, hj⟩
              | 6, ho =>
                cases ho
                intro V aa wx hV hdep hval hj hsm hr
                have e31 : aa.tmps.getD 31 undef = .pointer (some ⟨p, 0, none⟩) := hr 31 (by decide) (by apply Array.mem_toList_iff.1; repeat (first | exact List.Mem.head _ | apply List.Mem.tail))
                have x0 := HPC.out wx (HWZ.out.trans (hj.mono HWZ.out.size))
                rw [Array.getD_eq_getD_getElem?] at e31
                unfold Oper.wp
                simp only [execOp, Act.eval, Array.getD_eq_getD_getElem?, e31]
                go_simp
                first | exact ⟨_, rfl, rfl, Below.refl _ _⟩ | exact ⟨_, rfl, rfl, Below.refl _ _, hj⟩ | exact ⟨_, rfl, Below.refl _ _, hj⟩ | exact ⟨_, rfl, hj⟩
              | 7, ho =>
                cases ho
                intro V aa wx hV hdep hval hj hsm hr
                have e4 : aa.tmps.getD 4 undef = .int .i64 i := hsm 4 (by decide)
                rw [Array.getD_eq_getD_getElem?] at e4
                unfold Oper.wp
                simp only [execOp, Act.eval, Array.getD_eq_getD_getElem?, e4]
                go_simp
                first | exact ⟨_, rfl, rfl, Below.refl _ _⟩ | exact ⟨_, rfl, rfl, Below.refl _ _, hj⟩ | exact ⟨_, rfl, Below.refl _ _, hj⟩ | exact ⟨_, rfl, hj⟩
              | 8, ho =>
                cases ho
                intro V aa wx hV hdep hval hj hsm hr
                have e32 : aa.tmps.getD 32 undef = .slice (some ⟨gl, 0, none⟩) n capl := hr 32 (by decide) (by apply Array.mem_toList_iff.1; repeat (first | exact List.Mem.head _ | apply List.Mem.tail))
                have e33 : aa.tmps.getD 33 undef = .int .i64 i := hr 33 (by decide) (by apply Array.mem_toList_iff.1; repeat (first | exact List.Mem.head _ | apply List.Mem.tail))
                rw [Array.getD_eq_getD_getElem?] at e32
                rw [Array.getD_eq_getD_getElem?] at e33
                unfold Oper.wp
                simp only [execOp, Act.eval, Array.getD_eq_getD_getElem?, e32, e33]
                go_simp
                first | exact ⟨_, rfl, rfl, Below.refl _ _⟩ | exact ⟨_, rfl, rfl, Below.refl _ _, hj⟩ | exact ⟨_, rfl, Below.refl _ _, hj⟩ | exact ⟨_, rfl, hj⟩
              | 9, ho =>
                cases ho
                intro V aa wx hV hdep hval hj hsm hr
                have e34 : aa.tmps.getD 34 undef = .pointer (some ⟨gl, i * 8, none⟩) := hr 34 (by decide) (by apply Array.mem_toList_iff.1; repeat (first | exact List.Mem.head _ | apply List.Mem.tail))
                have hh := HLC.out wx (HWZ.out.trans (hj.mono HWZ.out.size))
                have x0 : wx.cell? ⟨gl, i * 8, none⟩ = some (.string mk) := hh 0 _ rfl
                have x1 : wx.cell? ⟨gl, i * 8 + 1, none⟩ = some (.int .i64 mf) := hh 1 _ rfl
                have x2 : wx.cell? ⟨gl, i * 8 + 2, none⟩ = some (.int .i64 mt) := hh 2 _ rfl
                have x3 : wx.cell? ⟨gl, i * 8 + 3, none⟩ = some (.int .i64 mc) := hh 3 _ rfl
                have x4 : wx.cell? ⟨gl, i * 8 + 4, none⟩ = some (.int .i64 mg) := hh 4 _ rfl
                have x5 : wx.cell? ⟨gl, i * 8 + 5, none⟩ = some (.int .i64 mv) := hh 5 _ rfl
                have x6 : wx.cell? ⟨gl, i * 8 + 6, none⟩ = some (.int .i64 mz) := hh 6 _ rfl
                have x7 : wx.cell? ⟨gl, i * 8 + 7, none⟩ = some (.bool false) := hh 7 _ rfl
                clear hh
                rw [Array.getD_eq_getD_getElem?] at e34
                unfold Oper.wp
                simp only [execOp, Act.eval, Array.getD_eq_getD_getElem?, e34]
                go_simp
                first | exact ⟨_, rfl, rfl, Below.refl _ _⟩ | exact ⟨_, rfl, rfl, Below.refl _ _, hj⟩ | exact ⟨_, rfl, Below.refl _ _, hj⟩ | exact ⟨_, rfl, hj⟩
              | 10, ho =>
                cases ho
                intro V aa wx hV hdep hval hj hsm hr
                have e3 : aa.tmps.getD 3 undef = .slice (some ⟨g, 0, none⟩) m oc := hsm 3 (by decide)
                rw [Array.getD_eq_getD_getElem?] at e3
                unfold Oper.wp
                simp only [execOp, Act.eval, Array.getD_eq_getD_getElem?, e3]
                go_simp
                first | exact ⟨_, rfl, rfl, Below.refl _ _⟩ | exact ⟨_, rfl, rfl, Below.refl _ _, hj⟩ | exact ⟨_, rfl, Below.refl _ _, hj⟩ | exact ⟨_, rfl, hj⟩
              | 11, ho =>
                cases ho
                intro V aa wx hV hdep hval hj hsm hr
                have e5 : aa.tmps.getD 5 undef = .int .i64 at2 := hsm 5 (by decide)
                rw [Array.getD_eq_getD_getElem?] at e5
                unfold Oper.wp
                simp only [execOp, Act.eval, Array.getD_eq_getD_getElem?, e5]
                go_simp
                first | exact ⟨_, rfl, rfl, Below.refl _ _⟩ | exact ⟨_, rfl, rfl, Below.refl _ _, hj⟩ | exact ⟨_, rfl, Below.refl _ _, hj⟩ | exact ⟨_, rfl, hj⟩
              | 12, ho =>
                cases ho
                intro V aa wx hV hdep hval hj hsm hr
                have e37 : aa.tmps.getD 37 undef = .int .i64 at2 := hr 37 (by decide) (by apply Array.mem_toList_iff.1; repeat (first | exact List.Mem.head _ | apply List.Mem.tail))
                rw [Array.getD_eq_getD_getElem?] at e37
                unfold Oper.wp
                simp only [execOp, Act.eval, Array.getD_eq_getD_getElem?, e37]
                go_simp
                first | exact ⟨_, rfl, rfl, Below.refl _ _⟩ | exact ⟨_, rfl, rfl, Below.refl _ _, hj⟩ | exact ⟨_, rfl, Below.refl _ _, hj⟩ | exact ⟨_, rfl, hj⟩
              | 13, ho =>
                cases ho
                intro V aa wx hV hdep hval hj hsm hr
                have e36 : aa.tmps.getD 36 undef = .slice (some ⟨g, 0, none⟩) m oc := hr 36 (by decide) (by apply Array.mem_toList_iff.1; repeat (first | exact List.Mem.head _ | apply List.Mem.tail))
                have e38 : aa.tmps.getD 38 undef = .int .i64 q := hr 38 (by decide) (by apply Array.mem_toList_iff.1; repeat (first | exact List.Mem.head _ | apply List.Mem.tail))
                rw [Array.getD_eq_getD_getElem?] at e36
                rw [Array.getD_eq_getD_getElem?] at e38
                unfold Oper.wp
                simp only [execOp, Act.eval, Array.getD_eq_getD_getElem?, e36, e38]
                go_simp
                first | exact ⟨_, rfl, rfl, Below.refl _ _⟩ | exact ⟨_, rfl, rfl, Below.refl _ _, hj⟩ | exact ⟨_, rfl, Below.refl _ _, hj⟩ | exact ⟨_, rfl, hj⟩
              | 14, ho =>
                cases ho
                intro V aa wx hV hdep hval hj hsm hr
                have e39 : aa.tmps.getD 39 undef = .pointer (some ⟨g, q * 8, none⟩) := hr 39 (by decide) (by apply Array.mem_toList_iff.1; repeat (first | exact List.Mem.head _ | apply List.Mem.tail))
                have hh := HYC.out wx hj
                have x0 : wx.cell? ⟨g, q * 8, none⟩ = some (.string yk) := hh 0 _ rfl
                have x1 : wx.cell? ⟨g, q * 8 + 1, none⟩ = some (.int .i64 yf) := hh 1 _ rfl
                have x2 : wx.cell? ⟨g, q * 8 + 2, none⟩ = some (.int .i64 yt) := hh 2 _ rfl
                have x3 : wx.cell? ⟨g, q * 8 + 3, none⟩ = some (.int .i64 yc) := hh 3 _ rfl
                have x4 : wx.cell? ⟨g, q * 8 + 4, none⟩ = some (.int .i64 yg) := hh 4 _ rfl
                have x5 : wx.cell? ⟨g, q * 8 + 5, none⟩ = some (.int .i64 yv) := hh 5 _ rfl
                have x6 : wx.cell? ⟨g, q * 8 + 6, none⟩ = some (.int .i64 yz) := hh 6 _ rfl
                have x7 : wx.cell? ⟨g, q * 8 + 7, none⟩ = some (.bool yb) := hh 7 _ rfl
                clear hh
                rw [Array.getD_eq_getD_getElem?] at e39
                unfold Oper.wp
                simp only [execOp, Act.eval, Array.getD_eq_getD_getElem?, e39]
                go_simp
                first | exact ⟨_, rfl, rfl, Below.refl _ _⟩ | exact ⟨_, rfl, rfl, Below.refl _ _, hj⟩ | exact ⟨_, rfl, Below.refl _ _, hj⟩ | exact ⟨_, rfl, hj⟩
              | 15, ho =>
                cases ho
                intro V aa wx hV hdep hval hj hsm hr
                have e35 : aa.tmps.getD 35 undef = .agg #[.string mk, .int .i64 mf, .int .i64 mt, .int .i64 mc, .int .i64 mg, .int .i64 mv, .int .i64 mz, .bool false] := hr 35 (by decide) (by apply Array.mem_toList_iff.1; repeat (first | exact List.Mem.head _ | apply List.Mem.tail))
                have e40 : aa.tmps.getD 40 undef = .agg #[.string yk, .int .i64 yf, .int .i64 yt, .int .i64 yc, .int .i64 yg, .int .i64 yv, .int .i64 yz, .bool yb] := hr 40 (by decide) (by apply Array.mem_toList_iff.1; repeat (first | exact List.Mem.head _ | apply List.Mem.tail))
                rw [Array.getD_eq_getD_getElem?] at e35
                rw [Array.getD_eq_getD_getElem?] at e40
                unfold Oper.wp
                simp only [execOp, Act.eval, Array.getD_eq_getD_getElem?, e35, e40]
                go_simp
                refine (AH.out wx).mono ?_
                rintro e w' ⟨rfl, hb⟩
                exact ⟨_, rfl, rfl, hb, hj.trans (hb.mono hj.size)⟩
              | 16, ho =>
                cases ho
                intro V aa wx hV hdep hval hj hsm hr
                have e28 : aa.tmps.getD 28 undef = .bool true := hr 28 (by decide) (by apply Array.mem_toList_iff.1; repeat (first | exact List.Mem.head _ | apply List.Mem.tail))
                have e41 : aa.tmps.getD 41 undef = .bool ra := hr 41 (by decide) (by apply Array.mem_toList_iff.1; repeat (first | exact List.Mem.head _ | apply List.Mem.tail))
                rw [Array.getD_eq_getD_getElem?] at e28
                rw [Array.getD_eq_getD_getElem?] at e41
                unfold Oper.wp
                simp only [execOp, Act.eval, Array.getD_eq_getD_getElem?, e28, e41]
                go_simp
                first | exact ⟨_, rfl, rfl, Below.refl _ _⟩ | exact ⟨_, rfl, rfl, Below.refl _ _, hj⟩ | exact ⟨_, rfl, Below.refl _ _, hj⟩ | exact ⟨_, rfl, hj⟩
              | _ + 17, ho => cases ho
            case fin =>
              intro ff V wx hV hj hr
              have e42 : ff 42 = .bool ra := hr 42 (by decide)
              have HJ := hide hj
              clear hV hr hj
              simp only [putAll, slotsOf, List.filterMap_cons, List.filterMap_nil, List.foldl_cons, List.foldl_nil, Act.put, e42]
              simp only [List.setIfInBounds_toArray, List.set_cons_succ, List.set_cons_zero]
              go_wp2_with fail
              have hh := HA2.out
              subst hh
              go_meet
              exact ⟨by rw [HHO.out], HJ⟩
        obtain ⟨rfl, HBC⟩ := hcut
        rename World => wc
        cases hb with
        | true =>
          obtain ⟨hk, hlt⟩ := of_decide_eq_true HHB.out
          obtain ⟨k, hk⟩ : ∃ k, at_ = k + 1 := ⟨at_ - 1, by omega⟩
          subst hk
          rw [Nat.add_sub_cancel] at hlt
          have HAT2 := hide (show ∀ j y, k ≤ j → K[j]? = some y → chLt (Msg.ch ⟨mk, mf, mt, mc, mg, mv, mz, false⟩) y.ch from fun j y hj hy => by
            rcases Nat.eq_or_lt_of_le hj with e | e
            · subst e
              rw [List.getD_eq_getElem?_getD, hy] at hlt
              exact hlt
            · exact HAT.out j y e hy)
          have hkI : ((k + 1 : Nat) : Int) - 1 = (k : Int) := by omega
          have HKL := hide (show k ≤ m by have := HATM.out; omega)
          have HBC2 := hide (HBZ.out.trans (HBC.out.mono HBZ.out.size))
          have hkm : k ≤ m := HKL.out
          clear hlt hat
          go_wp2_with fail
          go_roundw
          case rel => exact ⟨k, HKL.out, by go_num, HAT2, HBC2⟩
          case measure => simp [RowKit.intOf] <;> omega
        | false =>
          have HBLW := hide (show ∀ k y, k + 1 = at_ → K[k]? = some y → ¬ chLt (Msg.ch ⟨mk, mf, mt, mc, mg, mv, mz, false⟩) y.ch from fun k y hk hy hlt => of_decide_eq_false HHB.out ⟨by omega, by rw [show at_ - 1 = k by omega, List.getD_eq_getElem?_getD, hy]; exact hlt⟩)
          have HIL2 := hide (show IsLeft (l.take (i + 1)) (K.take at_ ++ ⟨mk, mf, mt, mc, mg, mv, mz, false⟩ :: K.drop at_) by rw [HTS.out]; exact isLeft_put HIL.out rfl (by rw [HKM.out]; exact HATM.out) HAT.out HBLW.out)
          have HOC := hide (own_belowR HOW.out (HBZ.out.trans (HBC.out.mono HBZ.out.size)))
          have HWC := hide (HWZ.out.trans (HBC.out.mono HWZ.out.size))
          have hatI : (at_ : Int) ≤ (m : Int) := by omega
          have hat0 : (0 : Int) ≤ (at_ : Int) := by omega
          have hmoc : m ≤ oc := own_cap HOC.out
          have hatc : (at_ : Int) ≤ (oc : Int) := by omega
          go_upto_region 9 with (fail)
          go_cut [6] from 45 to 49 (fun v6 wx => ∃ A6 c6, v6 = .slice A6 (m - at_) c6 ∧ Hid (wx.ownsRow wc.heap.size 33 8 (.slice A6 (m - at_) c6) (m - at_) (msgCs (K.drop at_))) ∧ Hid (Below wc.heap.size wc wx))
          case first =>
            rcases HO.out with ⟨hO, hm0, hc0⟩ | ⟨g, hO, hgm, hgc⟩
            · subst hO
              clear hc0
              have hrd : Reads wc wc.heap.size 8 none (m - at_) (msgCs (K.drop at_)) := ⟨by rw [msgCs_len, List.length_drop, HKM.out], fun h => absurd h (by omega)⟩
              clear hm0
              obtain ⟨A1, c1, w1, hrun, hown, hb1⟩ := copy_rest wc none (oc - at_) (m - at_) (K.drop at_) (by rw [List.length_drop, HKM.out]) hrd (by omega)
              have RUN := hide hrun
              have HO1 := hide hown
              have HB1 := hide hb1
              clear hrun hown hb1 hrd
              go_wp2_with (at_builtin; refine Lib.wpList_append_run _ rfl _ _ 45 45 rfl _ _ rfl rfl _ _ RUN.out ?_)
              go_meet
              exact ⟨A1, c1, rfl, HO1, HB1⟩
            · subst hO
              clear hgm hgc
              rcases Nat.lt_or_ge at_ oc with hlt | hge
              · have hne : ¬ oc = at_ := by omega
                have hrd := reads_drop HOC.out HKM.out HATM.out
                clear hlt
                obtain ⟨A1, c1, w1, hrun, hown, hb1⟩ := copy_rest wc (some ⟨g, at_ * 8, none⟩) (oc - at_) (m - at_) (K.drop at_) (by rw [List.length_drop, HKM.out]) hrd (by omega)
                have RUN := hide hrun
                have HO1 := hide hown
                have HB1 := hide hb1
                clear hrun hown hb1 hrd
                go_wp2_with (at_builtin; refine Lib.wpList_append_run _ rfl _ _ 45 45 rfl _ _ rfl rfl _ _ RUN.out ?_)
                go_meet
                exact ⟨A1, c1, rfl, HO1, HB1⟩
              · have hne : at_ = oc := by omega
                subst hne
                have hrd : Reads wc wc.heap.size 8 (some ⟨g, 0, none⟩) (m - at_) (msgCs (K.drop at_)) := ⟨by rw [msgCs_len, List.length_drop, HKM.out], fun h => absurd h (by omega)⟩
                clear hge hmoc
                obtain ⟨A1, c1, w1, hrun, hown, hb1⟩ := copy_rest wc (some ⟨g, 0, none⟩) 0 (m - at_) (K.drop at_) (by rw [List.length_drop, HKM.out]) hrd (by omega)
                have RUN := hide hrun
                have HO1 := hide hown
                have HB1 := hide hb1
                clear hrun hown hb1 hrd
                go_wp2_with (at_builtin; refine Lib.wpList_append_run _ rfl _ _ 45 45 rfl _ _ rfl rfl _ _ RUN.out ?_)
                go_meet
                exact ⟨A1, c1, rfl, HO1, HB1⟩
          obtain ⟨A6, c6, rfl, HO6, HBD⟩ := hcut
          rename World => wd
          have HWD := hide (HWC.out.trans (HBD.out.mono HWC.out.size))
          have HOD := hide (own_belowR HOC.out HBD.out)
          obtain ⟨ROW, hrow⟩ : ∃ z, (Value.slice O m oc).ownBlock = z := ⟨_, rfl⟩
          have HROW := hide hrow
          have HRL := hide (show ∀ gg, ROW = some gg → w.heap.size ≤ gg ∧ gg < wc.heap.size from fun gg hgg => by
            have := own_block HOC.out (hrow.trans hgg)
            exact ⟨this.1, this.2.1⟩)
          have HGK := hide (show ∀ wx, wd.grownBy wx ROW → Below w.heap.size w wx from fun wx hk => HWD.out.grown hk HWD.out.size fun gg hgg => (HRL.out gg hgg).1)
          have HWCD := hide (show wc.heap.size ≤ wd.heap.size from HBD.out.size)
          clear hrow
          rcases HO.out with ⟨hO, hm0, hc0⟩ | ⟨g, hO, hgm, hgc⟩
          · subst hO
            clear hm0 hc0
            go_upto_region 10 with (fail)
            let R : Nat → Value → World → Prop := fun sl u w1 => match sl with
              | 50 => u = .slice none m oc
              | 51 => u = .int .i64 at_
              | 52 => u = .slice none at_ oc
              | 53 => u = .pointer (some ⟨p, 0, none⟩)
              | 54 => u = .pointer (some ⟨p, 0, none⟩)
              | 55 => u = .pointer (some ⟨p, 0, none⟩)
              | 56 => u = .slice (some ⟨gl, 0, none⟩) n capl
              | 57 => u = .int .i64 i
              | 58 => u = .pointer (some ⟨gl, i * 8, none⟩)
              | 59 => u = .agg #[.string mk, .int .i64 mf, .int .i64 mt, .int .i64 mc, .int .i64 mg, .int .i64 mv, .int .i64 mz, .bool false]
              | 60 => ∃ b, u = .slice (some ⟨b, 0, none⟩) 1 1 ∧ wd.heap.size ≤ b ∧ Blk w1 b 33 #[.string mk, .int .i64 mf, .int .i64 mt, .int .i64 mc, .int .i64 mg, .int .i64 mv, .int .i64 mz, .bool false]
              | 62 => u = .slice A6 (m - at_) c6
              | _ => True
            let KW : World → World → Prop := fun a b => a.grownBy b ROW
            let J : Option Value → World → Prop := fun b w1 => match b with
              | none => w1.ownsRow w.heap.size 33 8 (.slice none m oc) m (msgCs K)
              | some u => w1.ownsRow w.heap.size 33 8 u (at_ + 1) (msgCs (K.take at_ ++ [⟨mk, mf, mt, mc, mg, mv, mz, false⟩]))
            have hKB : ∀ x y, Below x.heap.size x y → KW x y := fun _ _ hb => grown_of_below hb
            have hJB : ∀ b x y, J b x → Below x.heap.size x y → J b y := fun b x y hj hb => by
              cases b with
              | none => exact own_belowR hj hb
              | some u => exact own_belowR hj hb
            refine wp_region_relJ 13 61 R KW J (by kernel_rfl) (by kernel_rfl) (by kernel_rfl) (by kernel_rfl) (by kernel_rfl) (fun _ _ _ h1 h2 => gtrans h1 h2) (hKB _ _ (Below.refl _ _).drew) HOD.out.drew ?mono ?step ?fin
            case mono =>
              intro sl u wx wy h hk
              match sl with
              | 60 =>
                obtain ⟨b, h1, h2, h3⟩ := h
                refine ⟨b, h1, h2, h3.grown hk fun e => ?_⟩
                have := HRL.out b e.symm
                have := HWCD.out
                omega
              | 0 | 1 | 2 | 3 | 4 | 5 | 6 | 7 | 8 | 9 | 10 | 11 | 12 | 13 | 14 | 15 | 16 | 17 | 18 | 19 | 20 | 21 | 22 | 23 | 24 | 25 | 26 | 27 | 28 | 29 | 30 | 31 | 32 | 33 | 34 | 35 | 36 | 37 | 38 | 39 | 40 | 41 | 42 | 43 | 44 | 45 | 46 | 47 | 48 | 49 | 50 | 51 | 52 | 53 | 54 | 55 | 56 | 57 | 58 | 59 | 61 | 62 | _ + 63 => exact h
            case step =>
              intro op hop
              simp only [List.take, List.mem_cons, List.not_mem_nil, or_false] at hop
              rcases hop with rfl | rfl | rfl | rfl | rfl | rfl | rfl | rfl | rfl | rfl | rfl | rfl | rfl
              · refine ⟨fun h => absurd h (by decide), fun _ b => stepJ_of hKB hJB fun a w1 hk hj hsm hr => ?_⟩
                have e3 : a.tmps.getD 3 undef = .slice none m oc := hsm 3 (by decide)
                rw [Array.getD_eq_getD_getElem?] at e3
                unfold Oper.wp
                simp only [execOp, Act.eval, Array.getD_eq_getD_getElem?, e3]
                go_simp
                first | exact ⟨_, rfl, rfl, Below.refl _ _⟩ | exact ⟨_, rfl, trivial, Below.refl _ _⟩ | exact ⟨_, rfl, Below.refl _ _⟩
              · refine ⟨fun h => absurd h (by decide), fun _ b => stepJ_of hKB hJB fun a w1 hk hj hsm hr => ?_⟩
                have e5 : a.tmps.getD 5 undef = .int .i64 at_ := hsm 5 (by decide)
                rw [Array.getD_eq_getD_getElem?] at e5
                unfold Oper.wp
                simp only [execOp, Act.eval, Array.getD_eq_getD_getElem?, e5]
                go_simp
                first | exact ⟨_, rfl, rfl, Below.refl _ _⟩ | exact ⟨_, rfl, trivial, Below.refl _ _⟩ | exact ⟨_, rfl, Below.refl _ _⟩
              · refine ⟨fun h => absurd h (by decide), fun _ b => stepJ_of hKB hJB fun a w1 hk hj hsm hr => ?_⟩
                have e50 : a.tmps.getD 50 undef = .slice none m oc := hr 50 (by decide) (by apply Array.mem_toList_iff.1; repeat (first | exact List.Mem.head _ | apply List.Mem.tail))
                have e51 : a.tmps.getD 51 undef = .int .i64 at_ := hr 51 (by decide) (by apply Array.mem_toList_iff.1; repeat (first | exact List.Mem.head _ | apply List.Mem.tail))
                rw [Array.getD_eq_getD_getElem?] at e50
                rw [Array.getD_eq_getD_getElem?] at e51
                unfold Oper.wp
                simp only [execOp, Act.eval, Array.getD_eq_getD_getElem?, e50, e51]
                go_simp
                first | exact ⟨_, rfl, rfl, Below.refl _ _⟩ | exact ⟨_, rfl, trivial, Below.refl _ _⟩ | exact ⟨_, rfl, Below.refl _ _⟩
              · refine ⟨fun h => absurd h (by decide), fun _ b => stepJ_of hKB hJB fun a w1 hk hj hsm hr => ?_⟩
                have e0 : a.tmps.getD 0 undef = .pointer (some ⟨p, 0, none⟩) := hsm 0 (by decide)
                rw [Array.getD_eq_getD_getElem?] at e0
                unfold Oper.wp
                simp only [execOp, Act.eval, Array.getD_eq_getD_getElem?, e0]
                go_simp
                first | exact ⟨_, rfl, rfl, Below.refl _ _⟩ | exact ⟨_, rfl, trivial, Below.refl _ _⟩ | exact ⟨_, rfl, Below.refl _ _⟩
              · refine ⟨fun h => absurd h (by decide), fun _ b => stepJ_of hKB hJB fun a w1 hk hj hsm hr => ?_⟩
                have e53 : a.tmps.getD 53 undef = .pointer (some ⟨p, 0, none⟩) := hr 53 (by decide) (by apply Array.mem_toList_iff.1; repeat (first | exact List.Mem.head _ | apply List.Mem.tail))
                rw [Array.getD_eq_getD_getElem?] at e53
                unfold Oper.wp
                simp only [execOp, Act.eval, Array.getD_eq_getD_getElem?, e53]
                go_simp
                first | exact ⟨_, rfl, rfl, Below.refl _ _⟩ | exact ⟨_, rfl, trivial, Below.refl _ _⟩ | exact ⟨_, rfl, Below.refl _ _⟩
              · refine ⟨fun h => absurd h (by decide), fun _ b => stepJ_of hKB hJB fun a w1 hk hj hsm hr => ?_⟩
                have e54 : a.tmps.getD 54 undef = .pointer (some ⟨p, 0, none⟩) := hr 54 (by decide) (by apply Array.mem_toList_iff.1; repeat (first | exact List.Mem.head _ | apply List.Mem.tail))
                rw [Array.getD_eq_getD_getElem?] at e54
                unfold Oper.wp
                simp only [execOp, Act.eval, Array.getD_eq_getD_getElem?, e54]
                go_simp
                first | exact ⟨_, rfl, rfl, Below.refl _ _⟩ | exact ⟨_, rfl, trivial, Below.refl _ _⟩ | exact ⟨_, rfl, Below.refl _ _⟩
              · refine ⟨fun h => absurd h (by decide), fun _ b => stepJ_of hKB hJB fun a w1 hk hj hsm hr => ?_⟩
                have e55 : a.tmps.getD 55 undef = .pointer (some ⟨p, 0, none⟩) := hr 55 (by decide) (by apply Array.mem_toList_iff.1; repeat (first | exact List.Mem.head _ | apply List.Mem.tail))
                have x0 := HPC.out w1 (HGK.out w1 hk)
                rw [Array.getD_eq_getD_getElem?] at e55
                unfold Oper.wp
                simp only [execOp, Act.eval, Array.getD_eq_getD_getElem?, e55]
                go_simp
                first | exact ⟨_, rfl, rfl, Below.refl _ _⟩ | exact ⟨_, rfl, trivial, Below.refl _ _⟩ | exact ⟨_, rfl, Below.refl _ _⟩
              · refine ⟨fun h => absurd h (by decide), fun _ b => stepJ_of hKB hJB fun a w1 hk hj hsm hr => ?_⟩
                have e4 : a.tmps.getD 4 undef = .int .i64 i := hsm 4 (by decide)
                rw [Array.getD_eq_getD_getElem?] at e4
                unfold Oper.wp
                simp only [execOp, Act.eval, Array.getD_eq_getD_getElem?, e4]
                go_simp
                first | exact ⟨_, rfl, rfl, Below.refl _ _⟩ | exact ⟨_, rfl, trivial, Below.refl _ _⟩ | exact ⟨_, rfl, Below.refl _ _⟩
              · refine ⟨fun h => absurd h (by decide), fun _ b => stepJ_of hKB hJB fun a w1 hk hj hsm hr => ?_⟩
                have e56 : a.tmps.getD 56 undef = .slice (some ⟨gl, 0, none⟩) n capl := hr 56 (by decide) (by apply Array.mem_toList_iff.1; repeat (first | exact List.Mem.head _ | apply List.Mem.tail))
                have e57 : a.tmps.getD 57 undef = .int .i64 i := hr 57 (by decide) (by apply Array.mem_toList_iff.1; repeat (first | exact List.Mem.head _ | apply List.Mem.tail))
                rw [Array.getD_eq_getD_getElem?] at e56
                rw [Array.getD_eq_getD_getElem?] at e57
                unfold Oper.wp
                simp only [execOp, Act.eval, Array.getD_eq_getD_getElem?, e56, e57]
                go_simp
                first | exact ⟨_, rfl, rfl, Below.refl _ _⟩ | exact ⟨_, rfl, trivial, Below.refl _ _⟩ | exact ⟨_, rfl, Below.refl _ _⟩
              · refine ⟨fun h => absurd h (by decide), fun _ b => stepJ_of hKB hJB fun a w1 hk hj hsm hr => ?_⟩
                have e58 : a.tmps.getD 58 undef = .pointer (some ⟨gl, i * 8, none⟩) := hr 58 (by decide) (by apply Array.mem_toList_iff.1; repeat (first | exact List.Mem.head _ | apply List.Mem.tail))
                have hh := HLC.out w1 (HGK.out w1 hk)
                have x0 : w1.cell? ⟨gl, i * 8, none⟩ = some (.string mk) := hh 0 _ rfl
                have x1 : w1.cell? ⟨gl, i * 8 + 1, none⟩ = some (.int .i64 mf) := hh 1 _ rfl
                have x2 : w1.cell? ⟨gl, i * 8 + 2, none⟩ = some (.int .i64 mt) := hh 2 _ rfl
                have x3 : w1.cell? ⟨gl, i * 8 + 3, none⟩ = some (.int .i64 mc) := hh 3 _ rfl
                have x4 : w1.cell? ⟨gl, i * 8 + 4, none⟩ = some (.int .i64 mg) := hh 4 _ rfl
                have x5 : w1.cell? ⟨gl, i * 8 + 5, none⟩ = some (.int .i64 mv) := hh 5 _ rfl
                have x6 : w1.cell? ⟨gl, i * 8 + 6, none⟩ = some (.int .i64 mz) := hh 6 _ rfl
                have x7 : w1.cell? ⟨gl, i * 8 + 7, none⟩ = some (.bool false) := hh 7 _ rfl
                clear hh
                rw [Array.getD_eq_getD_getElem?] at e58
                unfold Oper.wp
                simp only [execOp, Act.eval, Array.getD_eq_getD_getElem?, e58]
                go_simp
                first | exact ⟨_, rfl, rfl, Below.refl _ _⟩ | exact ⟨_, rfl, trivial, Below.refl _ _⟩ | exact ⟨_, rfl, Below.refl _ _⟩
              · refine ⟨fun h => absurd h (by decide), fun _ b => stepJ_of hKB hJB fun a w1 hk hj hsm hr => ?_⟩
                have e59 : a.tmps.getD 59 undef = .agg #[.string mk, .int .i64 mf, .int .i64 mt, .int .i64 mc, .int .i64 mg, .int .i64 mv, .int .i64 mz, .bool false] := hr 59 (by decide) (by apply Array.mem_toList_iff.1; repeat (first | exact List.Mem.head _ | apply List.Mem.tail))
                have hsz := hk.size
                rw [Array.getD_eq_getD_getElem?] at e59
                unfold Oper.wp
                simp only [execOp, Act.eval, Array.getD_eq_getD_getElem?, e59]
                go_simp
                exact ⟨_, rfl, ⟨w1.heap.size, rfl, hsz, Blk.new w1 33 _⟩, (Below.refl _ _).alloc (Nat.le_refl _) _⟩
              · refine ⟨fun _ a w1 hk hj hsm hr => ?_, fun h => absurd rfl h⟩
                have e52 : a.tmps.getD 52 undef = .slice none at_ oc := hr 52 (by decide) (by apply Array.mem_toList_iff.1; repeat (first | exact List.Mem.head _ | apply List.Mem.tail))
                have r60 := hr 60 (by decide) (by apply Array.mem_toList_iff.1; repeat (first | exact List.Mem.head _ | apply List.Mem.tail))
                obtain ⟨b, e60, hb, hbb⟩ := r60
                have hj : w1.ownsRow w.heap.size 33 8 (.slice none m oc) m (msgCs K) := hj
                have hrd : Reads w1 w1.heap.size 8 (some ⟨b, 0, none⟩) 1 (msgCs [⟨mk, mf, mt, mc, mg, mv, mz, false⟩]) := ⟨rfl, fun _ => ⟨_, rfl, hbb.lt, fun j u hu => by rw [add_lit, hbb.cell]; simpa [msgCs, msgC] using hu⟩⟩
                obtain ⟨A1, c1, w'', hrun, hown', hgb⟩ := push_ms w1 w.heap.size none oc at_ _ (some ⟨b, 0, none⟩) 1 1 [⟨mk, mf, mt, mc, mg, mv, mz, false⟩] rfl (own_cut hj HATM.out) hrd (Nat.le_trans HWD.out.size hk.size) (by have := HATM.out; have := HMB.out; omega) (by decide)
                rw [msgCs_take, ← msgCs_app] at hown'
                have hrw : (Value.slice none at_ oc).ownBlock = ROW := HROW.out
                rw [hrw] at hgb
                exact Lib.wp_append_run w1 (.tmp 52) (.tmp 60) 45 45 rfl _ _ e52 e60 _ w'' hrun ⟨_, rfl, fun t ht => by cases ht; exact True.intro, hgb, hown'⟩
              · refine ⟨fun h => absurd h (by decide), fun _ b => stepJ_of hKB hJB fun a w1 hk hj hsm hr => ?_⟩
                have e6 : a.tmps.getD 6 undef = .slice A6 (m - at_) c6 := hsm 6 (by decide)
                rw [Array.getD_eq_getD_getElem?] at e6
                unfold Oper.wp
                simp only [execOp, Act.eval, Array.getD_eq_getD_getElem?, e6]
                go_simp
                first | exact ⟨_, rfl, rfl, Below.refl _ _⟩ | exact ⟨_, rfl, trivial, Below.refl _ _⟩ | exact ⟨_, rfl, Below.refl _ _⟩
            case fin =>
              intro ff w9 hk hj hr
              have hj : w9.ownsRow w.heap.size 33 8 (ff 61) (at_ + 1) (msgCs (K.take at_ ++ [⟨mk, mf, mt, mc, mg, mv, mz, false⟩])) := hj
              have f62 : ff 62 = .slice A6 (m - at_) c6 := hr 62 (by decide)
              obtain ⟨A1, c1, f61⟩ := own_form hj
              rw [f61] at hj
              have h6 : w9.ownsRow wc.heap.size 33 8 (.slice A6 (m - at_) c6) (m - at_) (msgCs (K.drop at_)) := own_gr HO6.out hk fun gg hgg => (HRL.out gg hgg).2
              have hw9 : Below w.heap.size w w9 := HGK.out w9 hk
              obtain ⟨A2, c2, w10, hrun, hown, hgr⟩ := push_ms w9 w.heap.size A1 c1 (at_ + 1) _ A6 c6 (m - at_) (K.drop at_) (by rw [List.length_drop, HKM.out]) hj (Reads.of_own h6) hw9.size (by have := HATM.out; have := HMB.out; omega) (by have := HMB.out; omega)
              rw [← msgCs_app, List.append_assoc, List.singleton_append] at hown
              have HB10 := hide (hw9.grown hgr hw9.size fun gg hgg => (own_block hj hgg).1)
              have HOW2 := hide hown
              have HKM2 := hide (show (K.take at_ ++ ⟨mk, mf, mt, mc, mg, mv, mz, false⟩ :: K.drop at_).length = at_ + 1 + (m - at_) by
                rw [List.length_append, List.length_cons, List.length_take, List.length_drop, HKM.out]
                have := HATM.out
                omega)
              have HO2 := hide (show (A2 = none ∧ at_ + 1 + (m - at_) = 0 ∧ c2 = 0) ∨ ∃ g, A2 = some ⟨g, 0, none⟩ ∧ 0 < at_ + 1 + (m - at_) ∧ at_ + 1 + (m - at_) ≤ c2 from .inr (by
                obtain ⟨g2, e2, _, _, _, _, hcc, _⟩ := own_cell hown (by omega)
                exact ⟨g2, e2, by omega, hcc⟩))
              have RUN := hide hrun
              clear hj h6 hw9 hrun hown hgr hk hr
              simp only [putAll, slotsOf, List.take_succ_cons, List.take_zero, List.drop_succ_cons, List.drop_zero, List.filterMap_cons, List.filterMap_nil, List.foldl_cons, List.foldl_nil, Act.put, f61, f62]
              simp only [List.setIfInBounds_toArray, List.set_cons_succ, List.set_cons_zero]
              clear f61 f62
              go_wp2_with (at_builtin; refine Lib.wpList_append_run _ rfl _ _ 45 45 rfl _ _ rfl rfl _ _ RUN.out ?_)
              go_roundw
              case rel => exact ⟨i + 1, K.take at_ ++ ⟨mk, mf, mt, mc, mg, mv, mz, false⟩ :: K.drop at_, A2, c2, at_ + 1 + (m - at_), HLT.out, by go_num, rfl, HKM2, HIL2, HO2, HOW2, HB10⟩
              case measure => have := HLT.out; simp [RowKit.intOf] <;> omega
          · subst hO
            have hoc0 : ¬ oc = 0 := by omega
            clear hgm hgc
            go_upto_region 10 with (fail)
            let R : Nat → Value → World → Prop := fun sl u w1 => match sl with
              | 50 => u = .slice (some ⟨g, 0, none⟩) m oc
              | 51 => u = .int .i64 at_
              | 52 => u = .slice (some ⟨g, 0, none⟩) at_ oc
              | 53 => u = .pointer (some ⟨p, 0, none⟩)
              | 54 => u = .pointer (some ⟨p, 0, none⟩)
              | 55 => u = .pointer (some ⟨p, 0, none⟩)
              | 56 => u = .slice (some ⟨gl, 0, none⟩) n capl
              | 57 => u = .int .i64 i
              | 58 => u = .pointer (some ⟨gl, i * 8, none⟩)
              | 59 => u = .agg #[.string mk, .int .i64 mf, .int .i64 mt, .int .i64 mc, .int .i64 mg, .int .i64 mv, .int .i64 mz, .bool false]
              | 60 => ∃ b, u = .slice (some ⟨b, 0, none⟩) 1 1 ∧ wd.heap.size ≤ b ∧ Blk w1 b 33 #[.string mk, .int .i64 mf, .int .i64 mt, .int .i64 mc, .int .i64 mg, .int .i64 mv, .int .i64 mz, .bool false]
              | 62 => u = .slice A6 (m - at_) c6
              | _ => True
            let KW : World → World → Prop := fun a b => a.grownBy b ROW
            let J : Option Value → World → Prop := fun b w1 => match b with
              | none => w1.ownsRow w.heap.size 33 8 (.slice (some ⟨g, 0, none⟩) m oc) m (msgCs K)
              | some u => w1.ownsRow w.heap.size 33 8 u (at_ + 1) (msgCs (K.take at_ ++ [⟨mk, mf, mt, mc, mg, mv, mz, false⟩]))
            have hKB : ∀ x y, Below x.heap.size x y → KW x y := fun _ _ hb => grown_of_below hb
            have hJB : ∀ b x y, J b x → Below x.heap.size x y → J b y := fun b x y hj hb => by
              cases b with
              | none => exact own_belowR hj hb
              | some u => exact own_belowR hj hb
            refine wp_region_relJ 13 61 R KW J (by kernel_rfl) (by kernel_rfl) (by kernel_rfl) (by kernel_rfl) (by kernel_rfl) (fun _ _ _ h1 h2 => gtrans h1 h2) (hKB _ _ (Below.refl _ _).drew) HOD.out.drew ?mono ?step ?fin
            case mono =>
              intro sl u wx wy h hk
              match sl with
              | 60 =>
                obtain ⟨b, h1, h2, h3⟩ := h
                refine ⟨b, h1, h2, h3.grown hk fun e => ?_⟩
                have := HRL.out b e.symm
                have := HWCD.out
                omega
              | 0 | 1 | 2 | 3 | 4 | 5 | 6 | 7 | 8 | 9 | 10 | 11 | 12 | 13 | 14 | 15 | 16 | 17 | 18 | 19 | 20 | 21 | 22 | 23 | 24 | 25 | 26 | 27 | 28 | 29 | 30 | 31 | 32 | 33 | 34 | 35 | 36 | 37 | 38 | 39 | 40 | 41 | 42 | 43 | 44 | 45 | 46 | 47 | 48 | 49 | 50 | 51 | 52 | 53 | 54 | 55 | 56 | 57 | 58 | 59 | 61 | 62 | _ + 63 => exact h
            case step =>
              intro op hop
              simp only [List.take, List.mem_cons, List.not_mem_nil, or_false] at hop
              rcases hop with rfl | rfl | rfl | rfl | rfl | rfl | rfl | rfl | rfl | rfl | rfl | rfl | rfl
              · refine ⟨fun h => absurd h (by decide), fun _ b => stepJ_of hKB hJB fun a w1 hk hj hsm hr => ?_⟩
                have e3 : a.tmps.getD 3 undef = .slice (some ⟨g, 0, none⟩) m oc := hsm 3 (by decide)
                rw [Array.getD_eq_getD_getElem?] at e3
                unfold Oper.wp
                simp only [execOp, Act.eval, Array.getD_eq_getD_getElem?, e3]
                go_simp
                first | exact ⟨_, rfl, rfl, Below.refl _ _⟩ | exact ⟨_, rfl, trivial, Below.refl _ _⟩ | exact ⟨_, rfl, Below.refl _ _⟩
              · refine ⟨fun h => absurd h (by decide), fun _ b => stepJ_of hKB hJB fun a w1 hk hj hsm hr => ?_⟩
                have e5 : a.tmps.getD 5 undef = .int .i64 at_ := hsm 5 (by decide)
                rw [Array.getD_eq_getD_getElem?] at e5
                unfold Oper.wp
                simp only [execOp, Act.eval, Array.getD_eq_getD_getElem?, e5]
                go_simp
                first | exact ⟨_, rfl, rfl, Below.refl _ _⟩ | exact ⟨_, rfl, trivial, Below.refl _ _⟩ | exact ⟨_, rfl, Below.refl _ _⟩
              · refine ⟨fun h => absurd h (by decide), fun _ b => stepJ_of hKB hJB fun a w1 hk hj hsm hr => ?_⟩
                have e50 : a.tmps.getD 50 undef = .slice (some ⟨g, 0, none⟩) m oc := hr 50 (by decide) (by apply Array.mem_toList_iff.1; repeat (first | exact List.Mem.head _ | apply List.Mem.tail))
                have e51 : a.tmps.getD 51 undef = .int .i64 at_ := hr 51 (by decide) (by apply Array.mem_toList_iff.1; repeat (first | exact List.Mem.head _ | apply List.Mem.tail))
                rw [Array.getD_eq_getD_getElem?] at e50
                rw [Array.getD_eq_getD_getElem?] at e51
                unfold Oper.wp
                simp only [execOp, Act.eval, Array.getD_eq_getD_getElem?, e50, e51]
                go_simp
                first | exact ⟨_, rfl, rfl, Below.refl _ _⟩ | exact ⟨_, rfl, trivial, Below.refl _ _⟩ | exact ⟨_, rfl, Below.refl _ _⟩
              · refine ⟨fun h => absurd h (by decide), fun _ b => stepJ_of hKB hJB fun a w1 hk hj hsm hr => ?_⟩
                have e0 : a.tmps.getD 0 undef = .pointer (some ⟨p, 0, none⟩) := hsm 0 (by decide)
                rw [Array.getD_eq_getD_getElem?] at e0
                unfold Oper.wp
                simp only [execOp, Act.eval, Array.getD_eq_getD_getElem?, e0]
                go_simp
                first | exact ⟨_, rfl, rfl, Below.refl _ _⟩ | exact ⟨_, rfl, trivial, Below.refl _ _⟩ | exact ⟨_, rfl, Below.refl _ _⟩
              · refine ⟨fun h => absurd h (by decide), fun _ b => stepJ_of hKB hJB fun a w1 hk hj hsm hr => ?_⟩
                have e53 : a.tmps.getD 53 undef = .pointer (some ⟨p, 0, none⟩) := hr 53 (by decide) (by apply Array.mem_toList_iff.1; repeat (first | exact List.Mem.head _ | apply List.Mem.tail))
                rw [Array.getD_eq_getD_getElem?] at e53
                unfold Oper.wp
                simp only [execOp, Act.eval, Array.getD_eq_getD_getElem?, e53]
                go_simp
                first | exact ⟨_, rfl, rfl, Below.refl _ _⟩ | exact ⟨_, rfl, trivial, Below.refl _ _⟩ | exact ⟨_, rfl, Below.refl _ _⟩
              · refine ⟨fun h => absurd h (by decide), fun _ b => stepJ_of hKB hJB fun a w1 hk hj hsm hr => ?_⟩
                have e54 : a.tmps.getD 54 undef = .pointer (some ⟨p, 0, none⟩) := hr 54 (by decide) (by apply Array.mem_toList_iff.1; repeat (first | exact List.Mem.head _ | apply List.Mem.tail))
                rw [Array.getD_eq_getD_getElem?] at e54
                unfold Oper.wp
                simp only [execOp, Act.eval, Array.getD_eq_getD_getElem?, e54]
                go_simp
                first | exact ⟨_, rfl, rfl, Below.refl _ _⟩ | exact ⟨_, rfl, trivial, Below.refl _ _⟩ | exact ⟨_, rfl, Below.refl _ _⟩
              · refine ⟨fun h => absurd h (by decide), fun _ b => stepJ_of hKB hJB fun a w1 hk hj hsm hr => ?_⟩
                have e55 : a.tmps.getD 55 undef = .pointer (some ⟨p, 0, none⟩) := hr 55 (by decide) (by apply Array.mem_toList_iff.1; repeat (first | exact List.Mem.head _ | apply List.Mem.tail))
                have x0 := HPC.out w1 (HGK.out w1 hk)
                rw [Array.getD_eq_getD_getElem?] at e55
                unfold Oper.wp
                simp only [execOp, Act.eval, Array.getD_eq_getD_getElem?, e55]
                go_simp
                first | exact ⟨_, rfl, rfl, Below.refl _ _⟩ | exact ⟨_, rfl, trivial, Below.refl _ _⟩ | exact ⟨_, rfl, Below.refl _ _⟩
              · refine ⟨fun h => absurd h (by decide), fun _ b => stepJ_of hKB hJB fun a w1 hk hj hsm hr => ?_⟩
                have e4 : a.tmps.getD 4 undef = .int .i64 i := hsm 4 (by decide)
                rw [Array.getD_eq_getD_getElem?] at e4
                unfold Oper.wp
                simp only [execOp, Act.eval, Array.getD_eq_getD_getElem?, e4]
                go_simp
                first | exact ⟨_, rfl, rfl, Below.refl _ _⟩ | exact ⟨_, rfl, trivial, Below.refl _ _⟩ | exact ⟨_, rfl, Below.refl _ _⟩
              · refine ⟨fun h => absurd h (by decide), fun _ b => stepJ_of hKB hJB fun a w1 hk hj hsm hr => ?_⟩
                have e56 : a.tmps.getD 56 undef = .slice (some ⟨gl, 0, none⟩) n capl := hr 56 (by decide) (by apply Array.mem_toList_iff.1; repeat (first | exact List.Mem.head _ | apply List.Mem.tail))
                have e57 : a.tmps.getD 57 undef = .int .i64 i := hr 57 (by decide) (by apply Array.mem_toList_iff.1; repeat (first | exact List.Mem.head _ | apply List.Mem.tail))
                rw [Array.getD_eq_getD_getElem?] at e56
                rw [Array.getD_eq_getD_getElem?] at e57
                unfold Oper.wp
                simp only [execOp, Act.eval, Array.getD_eq_getD_getElem?, e56, e57]
                go_simp
                first | exact ⟨_, rfl, rfl, Below.refl _ _⟩ | exact ⟨_, rfl, trivial, Below.refl _ _⟩ | exact ⟨_, rfl, Below.refl _ _⟩
              · refine ⟨fun h => absurd h (by decide), fun _ b => stepJ_of hKB hJB fun a w1 hk hj hsm hr => ?_⟩
                have e58 : a.tmps.getD 58 undef = .pointer (some ⟨gl, i * 8, none⟩) := hr 58 (by decide) (by apply Array.mem_toList_iff.1; repeat (first | exact List.Mem.head _ | apply List.Mem.tail))
                have hh := HLC.out w1 (HGK.out w1 hk)
                have x0 : w1.cell? ⟨gl, i * 8, none⟩ = some (.string mk) := hh 0 _ rfl
                have x1 : w1.cell? ⟨gl, i * 8 + 1, none⟩ = some (.int .i64 mf) := hh 1 _ rfl
                have x2 : w1.cell? ⟨gl, i * 8 + 2, none⟩ = some (.int .i64 mt) := hh 2 _ rfl
                have x3 : w1.cell? ⟨gl, i * 8 + 3, none⟩ = some (.int .i64 mc) := hh 3 _ rfl
                have x4 : w1.cell? ⟨gl, i * 8 + 4, none⟩ = some (.int .i64 mg) := hh 4 _ rfl
                have x5 : w1.cell? ⟨gl, i * 8 + 5, none⟩ = some (.int .i64 mv) := hh 5 _ rfl
                have x6 : w1.cell? ⟨gl, i * 8 + 6, none⟩ = some (.int .i64 mz) := hh 6 _ rfl
                have x7 : w1.cell? ⟨gl, i * 8 + 7, none⟩ = some (.bool false) := hh 7 _ rfl
                clear hh
                rw [Array.getD_eq_getD_getElem?] at e58
                unfold Oper.wp
                simp only [execOp, Act.eval, Array.getD_eq_getD_getElem?, e58]
                go_simp
                first | exact ⟨_, rfl, rfl, Below.refl _ _⟩ | exact ⟨_, rfl, trivial, Below.refl _ _⟩ | exact ⟨_, rfl, Below.refl _ _⟩
              · refine ⟨fun h => absurd h (by decide), fun _ b => stepJ_of hKB hJB fun a w1 hk hj hsm hr => ?_⟩
                have e59 : a.tmps.getD 59 undef = .agg #[.string mk, .int .i64 mf, .int .i64 mt, .int .i64 mc, .int .i64 mg, .int .i64 mv, .int .i64 mz, .bool false] := hr 59 (by decide) (by apply Array.mem_toList_iff.1; repeat (first | exact List.Mem.head _ | apply List.Mem.tail))
                have hsz := hk.size
                rw [Array.getD_eq_getD_getElem?] at e59
                unfold Oper.wp
                simp only [execOp, Act.eval, Array.getD_eq_getD_getElem?, e59]
                go_simp
                exact ⟨_, rfl, ⟨w1.heap.size, rfl, hsz, Blk.new w1 33 _⟩, (Below.refl _ _).alloc (Nat.le_refl _) _⟩
              · refine ⟨fun _ a w1 hk hj hsm hr => ?_, fun h => absurd rfl h⟩
                have e52 : a.tmps.getD 52 undef = .slice (some ⟨g, 0, none⟩) at_ oc := hr 52 (by decide) (by apply Array.mem_toList_iff.1; repeat (first | exact List.Mem.head _ | apply List.Mem.tail))
                have r60 := hr 60 (by decide) (by apply Array.mem_toList_iff.1; repeat (first | exact List.Mem.head _ | apply List.Mem.tail))
                obtain ⟨b, e60, hb, hbb⟩ := r60
                have hj : w1.ownsRow w.heap.size 33 8 (.slice (some ⟨g, 0, none⟩) m oc) m (msgCs K) := hj
                have hrd : Reads w1 w1.heap.size 8 (some ⟨b, 0, none⟩) 1 (msgCs [⟨mk, mf, mt, mc, mg, mv, mz, false⟩]) := ⟨rfl, fun _ => ⟨_, rfl, hbb.lt, fun j u hu => by rw [add_lit, hbb.cell]; simpa [msgCs, msgC] using hu⟩⟩
                obtain ⟨A1, c1, w'', hrun, hown', hgb⟩ := push_ms w1 w.heap.size (some ⟨g, 0, none⟩) oc at_ _ (some ⟨b, 0, none⟩) 1 1 [⟨mk, mf, mt, mc, mg, mv, mz, false⟩] rfl (own_cut hj HATM.out) hrd (Nat.le_trans HWD.out.size hk.size) (by have := HATM.out; have := HMB.out; omega) (by decide)
                rw [msgCs_take, ← msgCs_app] at hown'
                have hrw : (Value.slice (some ⟨g, 0, none⟩) at_ oc).ownBlock = ROW := HROW.out
                rw [hrw] at hgb
                exact Lib.wp_append_run w1 (.tmp 52) (.tmp 60) 45 45 rfl _ _ e52 e60 _ w'' hrun ⟨_, rfl, fun t ht => by cases ht; exact True.intro, hgb, hown'⟩
              · refine ⟨fun h => absurd h (by decide), fun _ b => stepJ_of hKB hJB fun a w1 hk hj hsm hr => ?_⟩
                have e6 : a.tmps.getD 6 undef = .slice A6 (m - at_) c6 := hsm 6 (by decide)
                rw [Array.getD_eq_getD_getElem?] at e6
                unfold Oper.wp
                simp only [execOp, Act.eval, Array.getD_eq_getD_getElem?, e6]
                go_simp
                first | exact ⟨_, rfl, rfl, Below.refl _ _⟩ | exact ⟨_, rfl, trivial, Below.refl _ _⟩ | exact ⟨_, rfl, Below.refl _ _⟩
            case fin =>
              intro ff w9 hk hj hr
              have hj : w9.ownsRow w.heap.size 33 8 (ff 61) (at_ + 1) (msgCs (K.take at_ ++ [⟨mk, mf, mt, mc, mg, mv, mz, false⟩])) := hj
              have f62 : ff 62 = .slice A6 (m - at_) c6 := hr 62 (by decide)
              obtain ⟨A1, c1, f61⟩ := own_form hj
              rw [f61] at hj
              have h6 : w9.ownsRow wc.heap.size 33 8 (.slice A6 (m - at_) c6) (m - at_) (msgCs (K.drop at_)) := own_gr HO6.out hk fun gg hgg => (HRL.out gg hgg).2
              have hw9 : Below w.heap.size w w9 := HGK.out w9 hk
              obtain ⟨A2, c2, w10, hrun, hown, hgr⟩ := push_ms w9 w.heap.size A1 c1 (at_ + 1) _ A6 c6 (m - at_) (K.drop at_) (by rw [List.length_drop, HKM.out]) hj (Reads.of_own h6) hw9.size (by have := HATM.out; have := HMB.out; omega) (by have := HMB.out; omega)
              rw [← msgCs_app, List.append_assoc, List.singleton_append] at hown
              have HB10 := hide (hw9.grown hgr hw9.size fun gg hgg => (own_block hj hgg).1)
              have HOW2 := hide hown
              have HKM2 := hide (show (K.take at_ ++ ⟨mk, mf, mt, mc, mg, mv, mz, false⟩ :: K.drop at_).length = at_ + 1 + (m - at_) by
                rw [List.length_append, List.length_cons, List.length_take, List.length_drop, HKM.out]
                have := HATM.out
                omega)
              have HO2 := hide (show (A2 = none ∧ at_ + 1 + (m - at_) = 0 ∧ c2 = 0) ∨ ∃ g, A2 = some ⟨g, 0, none⟩ ∧ 0 < at_ + 1 + (m - at_) ∧ at_ + 1 + (m - at_) ≤ c2 from .inr (by
                obtain ⟨g2, e2, _, _, _, _, hcc, _⟩ := own_cell hown (by omega)
                exact ⟨g2, e2, by omega, hcc⟩))
              have RUN := hide hrun
              clear hj h6 hw9 hrun hown hgr hk hr
              simp only [putAll, slotsOf, List.take_succ_cons, List.take_zero, List.drop_succ_cons, List.drop_zero, List.filterMap_cons, List.filterMap_nil, List.foldl_cons, List.foldl_nil, Act.put, f61, f62]
              simp only [List.setIfInBounds_toArray, List.set_cons_succ, List.set_cons_zero]
              clear f61 f62
              go_wp2_with (at_builtin; refine Lib.wpList_append_run _ rfl _ _ 45 45 rfl _ _ rfl rfl _ _ RUN.out ?_)
              go_roundw
              case rel => exact ⟨i + 1, K.take at_ ++ ⟨mk, mf, mt, mc, mg, mv, mz, false⟩ :: K.drop at_, A2, c2, at_ + 1 + (m - at_), HLT.out, by go_num, rfl, HKM2, HIL2, HO2, HOW2, HB10⟩
              case measure => have := HLT.out; simp [RowKit.intOf] <;> omega
/-- The document's queue, copied. -/
theorem reads_all {w : World} {B n c : Nat} {A : Option Addr} {K : List Msg} (h : w.ownsRow B 33 8 (.slice A n c) n (msgCs K)) : Reads w w.heap.size 8 A n (msgCs K) := Reads.of_own h
set_option maxRecDepth 100000 in
set_option maxHeartbeats 4000000 in
theorem CopyR_b {w : World} {p : Nat} {A : Option Addr} {l : List Msg} (h : RAt w p A l) (hl : l.length ≤ 1000) :
    Calls Try.prog 43 #[.pointer (some ⟨p, 0, none⟩)] w fun e w' => ∃ p2 A2, e = .returned (.pointer (some ⟨p2, 0, none⟩)) ∧ RAt w' p2 A2 l ∧ (∀ b ∈ rf p2 A2, w.heap.size ≤ b) ∧ Below w.heap.size w w' := by
  obtain ⟨capl, hbp, hownl⟩ := h
  obtain ⟨n, hn⟩ : ∃ z, l.length = z := ⟨_, rfl⟩
  rw [hn] at hbp hownl
  have ba := (Below.refl w.heap.size w).alloc (Nat.le_refl _) (.cells #[] 33)
  have hbp2 := hbp.below ba hbp.lt
  obtain ⟨A1, c1, w1, hrun, hown, hb1⟩ := copy_rest w A capl n l hn (reads_all hownl) (by omega)
  have hs1 : (w.alloc (.cells #[] 33)).heap.size = w.heap.size + 1 := by simp
  have c0 : (w.alloc (.cells #[] 33)).cell? ⟨p, 0, none⟩ = some (.slice A n capl) := hbp2.cell 0
  obtain ⟨wa, hwa⟩ : ∃ z, w.alloc (.cells #[] 33) = z := ⟨_, rfl⟩
  rw [hwa] at hrun
  have b2 := (Below.refl w1.heap.size w1).alloc (Nat.le_refl _) (.cells #[.slice A1 n c1] 77)
  have k2 := Blk.new w1 77 #[.slice A1 n c1]
  have hR : RAt (w1.alloc (.cells #[.slice A1 n c1] 77)) w1.heap.size A1 l := ⟨c1, by rw [hn]; exact k2, by rw [hn]; exact own_more (own_belowR hown b2) (Nat.zero_le _)⟩
  have hF : ∀ b ∈ rf w1.heap.size A1, w.heap.size ≤ b := fun b hb => by
    unfold rf at hb
    rcases List.mem_cons.1 hb with rfl | hb
    · exact hb1.size
    · cases A1 with
      | none => simp at hb
      | some a =>
        have e : b = a.block := by simpa using hb
        rw [e]
        exact (own_block hown rfl).1
  have HR := hide hR
  have HF := hide hF
  have HB := hide (hb1.trans (b2.mono hb1.size))
  have RUN := hide hrun
  have HWA := hide hwa
  clear hbp hownl hn ba hbp2 hown hb1 hs1 b2 k2 hR hF hrun hwa hl
  go_enter Try.func43, Try.ntmps43
  go_wp2_with (at_builtin; rw [HWA.out]; refine Lib.wpList_append_run _ rfl _ _ 45 45 rfl _ _ rfl rfl _ _ RUN.out ?_)
  go_ret
  exact ⟨_, A1, rfl, HR.out, HF.out, HB.out⟩
end Qu
end Go.Proofs.Ytonmojinijpneaa
end
