/- Receives that nobody posted: nil, or a zero. -/
import Derived.Test.YtonmojinijpneaaRows
import Derived.Test.YtonmojinijpneaaStructs
import Derived.Test.YtonmojinijpneaaQuietBelow
import Derived.Deep.RegionHeld3
import Derived.Deep.CutRange
namespace Go.Proofs.Ytonmojinijpneaa
open Go Go.Joins Go.ChangeShapes Go.WideShapes Go.RowKit Go.Deep
set_option linter.unusedVariables false
set_option linter.unusedSimpArgs false
namespace Po
/-- Receives that nobody made. -/
def PN (w : World) (t : Option Addr) : Prop := t = none ∨ ∃ g, t = some ⟨g, 0, none⟩ ∧ g < w.heap.size ∧ w.cell? ⟨g, 0, none⟩ = some (.bool false)
theorem PN.below {w w' : World} {t : Option Addr} (h : PN w t) (hb : Below w.heap.size w w') : PN w' t := by
  rcases h with rfl | ⟨g, rfl, hg, hc⟩
  · exact .inl rfl
  · exact .inr ⟨g, rfl, Nat.lt_of_lt_of_le hg hb.size, (hb.cell (p := ⟨g, 0, none⟩) hg).trans hc⟩
theorem PN.alloc {w : World} {t : Option Addr} (h : PN w t) (o : Obj) : PN (w.alloc o) t := h.below ((Below.refl _ _).alloc (Nat.le_refl _) o)
set_option maxRecDepth 100000 in
theorem made_no (t : Option Addr) (w : World) (h : PN w t) : Calls Try.prog 60 #[.pointer t] w fun e w' => e = .returned (.bool false) ∧ w = w' := by
  rcases h with rfl | ⟨g, rfl, hg, hc⟩
  all_goals
    go_enter Try.func60, Try.ntmps60
    go_wp2
    go_ret
    exact ⟨rfl, rfl⟩
set_option maxRecDepth 100000 in
theorem of_no (t : Option Addr) (rk : Int) (w : World) (h : PN w t) : Calls Try.prog 48 #[.pointer t, .int .i64 rk] w fun e w' => e = .returned (.slice none 0 0) ∧ w = w' := by
  have H := hide h
  clear h
  go_enter Try.func48, Try.ntmps48
  go_wp2_with (go_at_call 60; refine (made_no _ _ H.out).mono ?_; rintro e w' ⟨rfl, rfl⟩)
  go_ret
  exact ⟨rfl, rfl⟩
set_option maxRecDepth 100000 in
theorem bsf_no (ca : Int) (F : Value) (w : World)  : Calls Try.prog 72 #[.slice none 0 0, .int .i64 ca, F] w fun e w' => e = .returned (.tuple #[.int .i64 0, .bool false]) ∧ w = w' := by
  go_enter Try.func72, Try.ntmps72
  go_wp2_with fail
  go_loopw [9, 10] (fun v9 v10 wr => v9 = .int .i64 0 ∧ v10 = .int .i64 0 ∧ wr = w) (fun _ _ _ => 0)
  case atStart => exact ⟨rfl, rfl, rfl⟩
  case round =>
    obtain ⟨rfl, rfl, rfl⟩ := hrel
    go_wp2
    exact bodyPost_ret (v := .tuple #[.int .i64 0, .bool false]) (by simp [results, Try.results72, go_sem]) rfl ⟨rfl, rfl⟩
set_option maxRecDepth 100000 in
theorem place_no (t : Option Addr) (rk ca : Int) (w : World) (h : PN w t) : Calls Try.prog 46 #[.pointer t, .int .i64 rk, .int .i64 ca] w fun e w' => e = .returned (.tuple #[.int .i64 0, .bool false]) ∧ w = w' := by
  have H := hide h
  clear h
  go_enter Try.func46, Try.ntmps46
  go_wp2_with (first | (go_at_call 48; refine (of_no _ _ _ H.out).mono ?_; rintro e w' ⟨rfl, rfl⟩) | (go_at_call 72; refine (bsf_no _ _ _).mono ?_; rintro e w' ⟨rfl, rfl⟩))
  exact bodyPost_ret (v := .tuple #[.int .i64 0, .bool false]) (by simp [results, Try.results46, go_sem]) rfl ⟨rfl, rfl⟩
set_option maxRecDepth 100000 in
theorem at_no (t : Option Addr) (rk ca : Int) (w : World) (h : PN w t) : Calls Try.prog 13 #[.pointer t, .int .i64 rk, .int .i64 ca] w fun e w' => e = .returned (.tuple #[.agg #[.string ⟨#[]⟩, .int .i64 0, .int .i64 0, .int .i64 0, .int .i64 0, .int .i64 0, .bool false, .int .i64 0, .int .i64 0], .bool false]) ∧ Below w.heap.size w w' := by
  have H := hide (h.alloc (.cells #[.string ⟨#[]⟩, .int .i64 0, .int .i64 0, .int .i64 0, .int .i64 0, .int .i64 0, .bool false, .int .i64 0, .int .i64 0] 35))
  clear h
  go_enter Try.func13, Try.ntmps13
  go_wp2_with (go_at_call 46; refine (place_no _ _ _ _ H.out).mono ?_; rintro e w' ⟨rfl, rfl⟩)
  exact bodyPost_ret (v := .tuple #[.agg #[.string ⟨#[]⟩, .int .i64 0, .int .i64 0, .int .i64 0, .int .i64 0, .int .i64 0, .bool false, .int .i64 0, .int .i64 0], .bool false]) (by simp [results, Try.results13, go_sem]) rfl ⟨rfl, ((Below.refl _ _).alloc (Nat.le_refl _) _)⟩
set_option maxRecDepth 100000 in
theorem filterR_no (F : Value) (w : World)  : Calls Try.prog 47 #[.slice none 0 0, F] w fun e w' => e = .returned (.slice none 0 0) ∧ w = w' := by
  go_enter Try.func47, Try.ntmps47
  go_wp2_with fail
  go_loopw [5, 7, 10] (fun v5 _ v10 wr => v5 = .slice none 0 0 ∧ v10 = .int .i64 0 ∧ wr = w) (fun _ _ _ _ => 0)
  case atStart => exact ⟨rfl, rfl, rfl⟩
  case round =>
    obtain ⟨rfl, rfl, rfl⟩ := hrel
    go_wp2
    go_ret
    exact ⟨rfl, rfl⟩
set_option maxRecDepth 100000 in
theorem filterM_no (F : Value) (w : World)  : Calls Try.prog 80 #[.slice none 0 0, F] w fun e w' => e = .returned (.slice none 0 0) ∧ w = w' := by
  go_enter Try.func80, Try.ntmps80
  go_wp2_with fail
  go_loopw [5, 7, 10] (fun v5 _ v10 wr => v5 = .slice none 0 0 ∧ v10 = .int .i64 0 ∧ wr = w) (fun _ _ _ _ => 0)
  case atStart => exact ⟨rfl, rfl, rfl⟩
  case round =>
    obtain ⟨rfl, rfl, rfl⟩ := hrel
    go_wp2
    go_ret
    exact ⟨rfl, rfl⟩
set_option maxRecDepth 100000 in
theorem waiting_no (t : Option Addr) (rk : Int) (w : World) (h : PN w t) : Calls Try.prog 16 #[.pointer t, .int .i64 rk] w fun e w' => e = .returned (.slice none 0 0) ∧ w = w' := by
  have H := hide h
  clear h
  go_enter Try.func16, Try.ntmps16
  go_wp2_with (first | (go_at_call 48; refine (of_no _ _ _ H.out).mono ?_; rintro e w' ⟨rfl, rfl⟩) | (go_at_call 47; refine (filterR_no _ _).mono ?_; rintro e w' ⟨rfl, rfl⟩))
  go_ret
  exact ⟨rfl, rfl⟩
set_option maxRecDepth 100000 in
theorem may_no (t q : Option Addr) (rk ca : Int) (w : World) (h : PN w t) : Calls Try.prog 23 #[.pointer t, .pointer q, .int .i64 rk, .int .i64 ca] w fun e w' => e = .returned (.slice none 0 0) ∧ w = w' := by
  have H := hide h
  clear h
  go_enter Try.func23, Try.ntmps23
  go_wp2_with (go_at_call 46; refine (place_no _ _ _ _ H.out).mono ?_; rintro e w' ⟨rfl, rfl⟩)
  go_ret
  exact ⟨rfl, rfl⟩
set_option maxRecDepth 100000 in
theorem probe_no (t q : Option Addr) (key : ByteArray) (rk ca pe tg rq : Int) (dn : Bool) (fr sq : Int) (w : World) (h : PN w t) : Calls Try.prog 25 #[.pointer t, .pointer q, .agg #[.string key, .int .i64 rk, .int .i64 ca, .int .i64 pe, .int .i64 tg, .int .i64 rq, .bool dn, .int .i64 fr, .int .i64 sq]] w fun e w' => e = .returned (.slice none 0 0) ∧ Below w.heap.size w w' := by
  have H := hide (h.alloc (.cells #[.string key, .int .i64 rk, .int .i64 ca, .int .i64 pe, .int .i64 tg, .int .i64 rq, .bool dn, .int .i64 fr, .int .i64 sq] 35))
  clear h
  go_enter Try.func25, Try.ntmps25
  go_wp2_with (go_at_call 60; refine (made_no _ _ H.out).mono ?_; rintro e w' ⟨rfl, rfl⟩)
  go_ret
  exact ⟨rfl, ((Below.refl _ _).alloc (Nat.le_refl _) _)⟩
set_option maxRecDepth 100000 in
theorem post_no (t : Option Addr) (key : ByteArray) (rk ca pe tg rq : Int) (dn : Bool) (fr sq : Int) (w : World) (h : PN w t) : Calls Try.prog 29 #[.pointer t, .agg #[.string key, .int .i64 rk, .int .i64 ca, .int .i64 pe, .int .i64 tg, .int .i64 rq, .bool dn, .int .i64 fr, .int .i64 sq]] w fun e w' => e = .returned (.int .i64 1) ∧ Below w.heap.size w w' := by
  have H := hide (h.alloc (.cells #[.string key, .int .i64 rk, .int .i64 ca, .int .i64 pe, .int .i64 tg, .int .i64 rq, .bool dn, .int .i64 fr, .int .i64 sq] 35))
  clear h
  go_enter Try.func29, Try.ntmps29
  go_wp2_with (go_at_call 60; refine (made_no _ _ H.out).mono ?_; rintro e w' ⟨rfl, rfl⟩)
  go_ret
  exact ⟨rfl, ((Below.refl _ _).alloc (Nat.le_refl _) _)⟩
set_option maxRecDepth 100000 in
theorem match_no (t q : Option Addr) (rk ca fr sq : Int) (w : World) (h : PN w t) : Calls Try.prog 30 #[.pointer t, .pointer q, .int .i64 rk, .int .i64 ca, .int .i64 fr, .int .i64 sq] w fun e w' => e = .returned (.int .i64 1) ∧ Below w.heap.size w w' := by
  have H := hide ((h.alloc (.cells #[.int .i64 fr] 3)).alloc (.cells #[.int .i64 sq] 3))
  clear h
  go_enter Try.func30, Try.ntmps30
  go_wp2_with (go_at_call 60; refine (made_no _ _ H.out).mono ?_; rintro e w' ⟨rfl, rfl⟩)
  go_ret
  exact ⟨rfl, ((Below.refl _ _).alloc (Nat.le_refl _) _).alloc (by simp) _⟩
set_option maxRecDepth 100000 in
theorem copy_no (t : Option Addr) (w : World) (h : PN w t) : Calls Try.prog 32 #[.pointer t] w fun e w' => e = .returned (.pointer none) ∧ w = w' := by
  have H := hide h
  clear h
  go_enter Try.func32, Try.ntmps32
  go_wp2_with (go_at_call 60; refine (made_no _ _ H.out).mono ?_; rintro e w' ⟨rfl, rfl⟩)
  go_ret
  exact ⟨rfl, rfl⟩
end Po
end Go.Proofs.Ytonmojinijpneaa
