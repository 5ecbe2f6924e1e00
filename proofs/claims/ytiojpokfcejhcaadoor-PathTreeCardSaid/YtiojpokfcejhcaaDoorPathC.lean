/- The stack of the program, in parts: a clone of values, whether it is made, a new one. -/
import Derived.Test.YtiojpokfcejhcaaDoorRows
import Derived.Test.YtiojpokfcejhcaaDoorPathA
import Derived.Deep.QuietTactic
import Derived.BigQuiet
namespace Go.Proofs.YtiojpokfcejhcaaDoor
open Go Go.RowKit
set_option linter.unusedVariables false
set_option linter.unusedSimpArgs false
theorem crow_reads {w : World} {A : Option Addr} {l : List Ch} (h : CRow w A l) : Reads w w.heap.size 5 A l.length (chs l) := by
  refine ⟨chs_len l, fun h0 => ?_⟩
  obtain ⟨a, rfl, ha, hc⟩ := h.2 h0
  refine ⟨a, rfl, ha, fun j u hj => ?_⟩
  have hjl : j < l.length * 5 := by rw [← chs_len]; exact (List.getElem?_eq_some_iff.1 hj).1
  obtain ⟨i, r, rfl, hr⟩ : ∃ i r, j = i * 5 + r ∧ r < 5 := ⟨j / 5, j % 5, by omega, by omega⟩
  have hi : i < l.length := by omega
  obtain ⟨_, h0, h1, h2, h3, h4⟩ := hc i hi
  rw [chs_at l i hi r hr] at hj
  rw [← Go.Deep.add_add]
  match r, hr, hj with
  | 0, _, hj => cases hj; exact h0
  | 1, _, hj => cases hj; exact h1
  | 2, _, hj => cases hj; exact h2
  | 3, _, hj => cases hj; exact h3
  | 4, _, hj => cases hj; exact h4
theorem crow_nil {w : World} {l : List Ch} (h : CRow w none l) : l = [] := by
  rcases Nat.eq_zero_or_pos l.length with h0 | h0
  · exact List.eq_nil_of_length_eq_zero h0
  · obtain ⟨a, ha, _⟩ := h.2 h0
    cases ha
set_option maxRecDepth 100000 in
set_option maxHeartbeats 2000000 in
theorem Clone_a (A : Option Addr) (cap : Nat) (l : List Ch) (w : World) (h : CRow w A l) (hl : l.length ≤ 1000000) :
    Calls Tryd.prog 23 #[.slice A l.length cap] w fun e w' => ∃ v, e = .returned v ∧ w'.ownsRow w.heap.size 47 5 v l.length (chs l) ∧ Below w.heap.size w w' := by
  obtain ⟨i0, hi0, hz0, hz1, hz2⟩ := info_parts ch_info
  have HI := hide (And.intro hi0 (And.intro hz0 (And.intro hz1 hz2)))
  clear hi0 hz0 hz1 hz2
  cases A with
  | none =>
    obtain rfl := crow_nil h
    clear h
    have q := fun (w : World) => Lib.run_eql_slice_nil (P := Tryd.prog) w 34 47 none 0 cap 0 0 Tryd.underlying34
    simp only [Option.isNone_none] at q
    go_enter Tryd.func23, Tryd.ntmps23
    go_wp2_with fail
    go_ret
    exact ⟨_, rfl, ⟨rfl, .inl ⟨rfl, rfl⟩⟩, Below.refl _ _⟩
  | some a =>
    have RD := hide (crow_reads h)
    have HO := hide (chs_one' l)
    have own0 : Hid ((w.alloc (.cells #[] 47)).ownsRow w.heap.size 47 5 (.slice (some ⟨w.heap.size, 0, none⟩) 0 0) 0 []) := hide ⟨rfl, .inr ⟨w.heap.size, 0, #[], rfl, Nat.le_refl _, heap_alloc_new w _, Nat.le_refl _, by unfold maxLen; omega, rfl, rfl⟩⟩
    clear h
    have q := fun (w : World) => Lib.run_eql_slice_nil (P := Tryd.prog) w 34 47 (some a) l.length cap 0 0 Tryd.underlying34
    simp only [Option.isNone_some] at q
    go_enter Tryd.func23, Tryd.ntmps23
    go_wp2_with (at_builtin; refine wpList_append_any _ rfl _ _ 34 rfl w.heap.size 47 i0 chZ 5 40 Tryd.underlying34 HI.out.1 HI.out.2.1 HI.out.2.2.1 HI.out.2.2.2 rfl (by decide) (.slice (some ⟨w.heap.size, 0, none⟩) 0 0) 0 [] rfl own0.out w.heap.size (some a) l.length cap (chs l) rfl (RD.out.alloc (Nat.le_refl _) _) HO.out ?k1 ?k2 ?k3 ?_)
    case k1 => unfold maxLen; omega
    case k2 => omega
    case k3 => simp
    intro v' w1 hown hgrow _
    have Own := hide hown
    have HG := hide hgrow
    clear hown hgrow
    go_wp2_with fail
    go_ret
    refine ⟨_, rfl, by simpa using Own.out, ?_⟩
    exact ((Below.refl _ _).alloc (Nat.le_refl _) _).grown HG.out (by simp) (fun k hk => by cases hk; exact Nat.le_refl _)
namespace Pth
set_option maxRecDepth 100000 in
theorem made_nil (w : World) : Calls Tryd.prog 21 #[.pointer none] w fun e w' => e = .returned (.bool false) ∧ w = w' := by
  go_enter Tryd.func21, Tryd.ntmps21
  go_wp2_with fail
  go_ret
  exact ⟨rfl, rfl⟩
set_option maxRecDepth 100000 in
theorem made_a (T : Nat) (b : Bool) (w : World) (h : w.cell? ⟨T, 0, none⟩ = some (.bool b)) : Calls Tryd.prog 21 #[.pointer (some ⟨T, 0, none⟩)] w fun e w' => e = .returned (.bool b) ∧ w = w' := by
  go_enter Tryd.func21, Tryd.ntmps21
  go_wp2_with fail
  go_ret
  exact ⟨rfl, rfl⟩
/-- A stack that nobody made. -/
def NM (w : World) (t : Option Addr) : Prop := t = none ∨ ∃ g, t = some ⟨g, 0, none⟩ ∧ g < w.heap.size ∧ w.cell? ⟨g, 0, none⟩ = some (.bool false)
theorem NM.below {w w' : World} {t : Option Addr} (h : NM w t) (hb : Below w.heap.size w w') : NM w' t := by
  rcases h with rfl | ⟨g, rfl, hg, hc⟩
  · exact .inl rfl
  · exact .inr ⟨g, rfl, Nat.lt_of_lt_of_le hg hb.size, (hb.cell (p := ⟨g, 0, none⟩) hg).trans hc⟩
theorem made_no (t : Option Addr) (w : World) (h : NM w t) : Calls Tryd.prog 21 #[.pointer t] w fun e w' => e = .returned (.bool false) ∧ w = w' := by
  rcases h with rfl | ⟨g, rfl, hg, hc⟩
  · exact made_nil w
  · exact made_a g false w hc
set_option maxRecDepth 100000 in
theorem depth_no (t : Option Addr) (w : World) (h : NM w t) : Calls Tryd.prog 12 #[.pointer t] w fun e w' => e = .returned (.int .i64 0) ∧ w = w' := by
  have H := hide h
  clear h
  go_enter Tryd.func12, Tryd.ntmps12
  go_wp2_with (go_at_call 21; refine (made_no _ _ H.out).mono ?_; rintro e w' ⟨rfl, rfl⟩)
  go_ret
  exact ⟨rfl, rfl⟩
set_option maxRecDepth 100000 in
theorem next_no (t : Option Addr) (w : World) (h : NM w t) : Calls Tryd.prog 14 #[.pointer t] w fun e w' => e = .returned (.bool false) ∧ w = w' := by
  have H := hide h
  clear h
  go_enter Tryd.func14, Tryd.ntmps14
  go_wp2_with fail
  go_step3
  go_wp2_with (go_at_call 21; refine (made_no _ _ H.out).mono ?_; rintro e w' ⟨rfl, rfl⟩)
  rw [Exit.noGoto_ret]
  go_ret
  exact ⟨rfl, rfl⟩
set_option maxRecDepth 100000 in
theorem left_no (t : Option Addr) (w : World) (h : NM w t) : Calls Tryd.prog 17 #[.pointer t] w fun e w' => e = .returned (.int .i64 0) ∧ w = w' := by
  have H := hide h
  clear h
  go_enter Tryd.func17, Tryd.ntmps17
  go_wp2_with (go_at_call 12; refine (depth_no _ _ H.out).mono ?_; rintro e w' ⟨rfl, rfl⟩)
  go_loop [3, 7] (fun v i => v = .int .i64 0 ∧ i = .int .i64 0) (fun _ _ => 0)
  case atStart => exact ⟨rfl, rfl⟩
  case round =>
    obtain ⟨rfl, rfl⟩ := hrel
    go_wp2_with fail
    go_ret
    exact ⟨rfl, rfl⟩
set_option maxRecDepth 100000 in
theorem steps_no (t : Option Addr) (w : World) (h : NM w t) : Calls Tryd.prog 9 #[.pointer t] w fun e w' => e = .returned (.slice none 0 0) ∧ w = w' := by
  have H := hide h
  clear h
  go_enter Tryd.func9, Tryd.ntmps9
  go_wp2_with (go_at_call 12; refine (depth_no _ _ H.out).mono ?_; rintro e w' ⟨rfl, rfl⟩)
  go_loop [3, 7] (fun v i => v = .slice none 0 0 ∧ i = .int .i64 0) (fun _ _ => 0)
  case atStart => exact ⟨rfl, rfl⟩
  case round =>
    obtain ⟨rfl, rfl⟩ := hrel
    go_wp2_with fail
    go_ret
    exact ⟨rfl, rfl⟩
set_option maxRecDepth 100000 in
theorem push_no (t : Option Addr) (r c : Int) (v : Value) (off : Bool) (w : World) (h : NM w t) : Calls Tryd.prog 10 #[.pointer t, .agg #[.int .i64 r, .int .i64 c, v], .bool off] w fun e w' => e = .returned (.int .i64 1) ∧ Below w.heap.size w w' := by
  have hb := (Below.refl w.heap.size w).alloc (Nat.le_refl _) (.cells #[.int .i64 r, .int .i64 c, v] 36)
  have H := hide (h.below hb)
  have HB := hide hb
  clear h hb
  go_enter Tryd.func10, Tryd.ntmps10
  go_wp2_with (go_at_call 21; refine (made_no _ _ H.out).mono ?_; rintro e w' ⟨rfl, rfl⟩)
  go_ret
  exact ⟨rfl, HB.out⟩
set_option maxRecDepth 100000 in
theorem New_a (w : World) : Calls Tryd.prog 7 #[] w fun e w' => e = .returned (.pointer (some ⟨w.heap.size, 0, none⟩)) ∧ Blk w' w.heap.size 54 #[.bool true, .slice none 0 0] ∧ Below w.heap.size w w' := by
  go_enter Tryd.func7, Tryd.ntmps7
  go_wp2_with fail
  go_ret
  exact ⟨rfl, Blk.new w 54 _, (Below.refl _ _).alloc (Nat.le_refl _) _⟩
end Pth
end Go.Proofs.YtiojpokfcejhcaaDoor
