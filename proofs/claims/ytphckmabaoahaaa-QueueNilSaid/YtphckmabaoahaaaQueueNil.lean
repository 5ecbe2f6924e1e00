/- The walk of the statement QueueNil: of any message; without conditions. -/
import Derived.Test.YtphckmabaoahaaaRows
import Derived.Test.YtphckmabaoahaaaStructs
import Derived.LoopN
import Derived.Deep.RegionHeld3
import Derived.Laws.Cover3
import Derived.Deep.CutRange
namespace Go.Proofs.Ytphckmabaoahaaa.QueueNilW
open Go.Joins Go.ChangeShapes Go.WideShapes Go.RowKit Go.Deep Go.Proofs.Ytphckmabaoahaaa
set_option linter.unusedVariables false
set_option linter.unusedSimpArgs false
section
variable {H : Type} {enc : TypeId × Value → H} {P : Program} {w : World} {base : Nat} {spare : Nat → Bool} {held : Bool}
theorem open_agg8 {r : Reach} {b0 : Nat} {t : TypeId} {f0 f1 f2 f3 f4 f5 f6 f7 : Field} {v : Value} {d : DataW H} {p : List MemPlace} (hs : P.underlying t = some (.struct #[f0, f1, f2, f3, f4, f5, f6, f7])) (hone : oneCellFields P #[f0, f1, f2, f3, f4, f5, f6, f7] = true) (hC : P.cellsOf t = 8)
    (hv : Value.okWide P w r b0 t v) (h : DataW.Trod enc P w base spare held t v d p) :
    ∃ (v0 v1 v2 v3 v4 v5 v6 v7 : Value) (y0 y1 y2 y3 y4 y5 y6 y7 : DataW H × List MemPlace) (n : Nat), v = .agg #[v0, v1, v2, v3, v4, v5, v6, v7] ∧ d = .agg [y0.1, y1.1, y2.1, y3.1, y4.1, y5.1, y6.1, y7.1] ∧ DataW.trod enc P w base spare held n f0.type [v0] = some y0 ∧ DataW.trod enc P w base spare held n f1.type [v1] = some y1 ∧ DataW.trod enc P w base spare held n f2.type [v2] = some y2 ∧ DataW.trod enc P w base spare held n f3.type [v3] = some y3 ∧ DataW.trod enc P w base spare held n f4.type [v4] = some y4 ∧ DataW.trod enc P w base spare held n f5.type [v5] = some y5 ∧ DataW.trod enc P w base spare held n f6.type [v6] = some y6 ∧ DataW.trod enc P w base spare held n f7.type [v7] = some y7 := by
  obtain ⟨cs, rfl, hsz⟩ := okWide_struct hs hv
  obtain ⟨l⟩ := cs
  match l, hsz.trans hC with
  | [c0, c1, c2, c3, c4, c5, c6, c7], _ =>
    obtain ⟨fuel, hf⟩ := h
    obtain ⟨xs, n, _, hx, _, hlen, hg⟩ := DataW.trod_struct hs hf
    obtain ⟨o0, k0⟩ := hone_of hone 0 f0 rfl
    obtain ⟨o1, k1⟩ := hone_of hone 1 f1 rfl
    obtain ⟨o2, k2⟩ := hone_of hone 2 f2 rfl
    obtain ⟨o3, k3⟩ := hone_of hone 3 f3 rfl
    obtain ⟨o4, k4⟩ := hone_of hone 4 f4 rfl
    obtain ⟨o5, k5⟩ := hone_of hone 5 f5 rfl
    obtain ⟨o6, k6⟩ := hone_of hone 6 f6 rfl
    obtain ⟨o7, k7⟩ := hone_of hone 7 f7 rfl
    match xs, hlen with
    | [y0, y1, y2, y3, y4, y5, y6, y7], _ =>
      simp only [Prod.mk.injEq] at hx
      exact ⟨c0, c1, c2, c3, c4, c5, c6, c7, y0, y1, y2, y3, y4, y5, y6, y7, n, rfl, by simpa using hx.1, by simpa [Value.cells, o0, k0] using hg 0 f0 rfl, by simpa [Value.cells, o1, k1] using hg 1 f1 rfl, by simpa [Value.cells, o2, k2] using hg 2 f2 rfl, by simpa [Value.cells, o3, k3] using hg 3 f3 rfl, by simpa [Value.cells, o4, k4] using hg 4 f4 rfl, by simpa [Value.cells, o5, k5] using hg 5 f5 rfl, by simpa [Value.cells, o6, k6] using hg 6 f6 rfl, by simpa [Value.cells, o7, k7] using hg 7 f7 rfl⟩
end

/-- A queue that nobody made: nil, or one without channels. -/
def NM (w : World) (t : Option Addr) : Prop := t = none ∨ ∃ g, t = some ⟨g, 0, none⟩ ∧ g < w.heap.size ∧ w.cell? ⟨g, 0, none⟩ = some (.map none)
theorem NM.below {w w' : World} {t : Option Addr} (h : NM w t) (hb : Below w.heap.size w w') : NM w' t := by
  rcases h with rfl | ⟨g, rfl, hg, hc⟩
  · exact .inl rfl
  · exact .inr ⟨g, rfl, Nat.lt_of_lt_of_le hg hb.size, (hb.cell (p := ⟨g, 0, none⟩) hg).trans hc⟩
theorem NM.alloc {w : World} {t : Option Addr} (h : NM w t) (o : Obj) : NM (w.alloc o) t := h.below ((Below.refl _ _).alloc (Nat.le_refl _) o)

set_option maxRecDepth 100000 in
theorem made_no (t : Option Addr) (w : World) (h : NM w t) : Calls Try.prog 22 #[.pointer t] w fun e w' => e = .returned (.bool false) ∧ w = w' := by
  have hu : ∀ w, (binOp BinOp.neq 43 (Value.map none) (Value.map none)).run Try.prog w = .ok (.bool false) w := fun w => run_neq_map_nil w _ _ _ none Try.underlying43
  rcases h with rfl | ⟨g, rfl, hg, hc⟩
  all_goals
    go_enter Try.func22, Try.ntmps22
    go_wp2
    go_ret
    exact ⟨rfl, rfl⟩
set_option maxRecDepth 100000 in
theorem find_no (t : Option Addr) (fr ca : Int) (w : World) (h : NM w t) : Calls Try.prog 11 #[.pointer t, .int .i64 fr, .int .i64 ca] w fun e w' => e = .returned (.tuple #[.agg #[.string ⟨#[]⟩, .int .i64 0, .int .i64 0, .int .i64 0, .int .i64 0, .int .i64 0, .int .i64 0, .bool false], .bool false]) ∧ Below w.heap.size w w' := by
  have H := hide (h.alloc (.cells #[.string ⟨#[]⟩, .int .i64 0, .int .i64 0, .int .i64 0, .int .i64 0, .int .i64 0, .int .i64 0, .bool false] 41))
  clear h
  go_enter Try.func11, Try.ntmps11
  go_wp2_with (go_at_call 22; refine (made_no _ _ H.out).mono ?_; rintro e w' ⟨rfl, rfl⟩)
  exact bodyPost_ret (v := .tuple #[.agg #[.string ⟨#[]⟩, .int .i64 0, .int .i64 0, .int .i64 0, .int .i64 0, .int .i64 0, .int .i64 0, .bool false], .bool false]) (by simp [results, Try.results11, go_sem]) rfl ⟨rfl, ((Below.refl _ _).alloc (Nat.le_refl _) _)⟩
set_option maxRecDepth 100000 in
theorem first_no (t : Option Addr) (key : ByteArray) (fr tt tg : Int) (w : World) (h : NM w t) : Calls Try.prog 12 #[.pointer t, .string key, .int .i64 fr, .int .i64 tt, .int .i64 tg] w fun e w' => e = .returned (.tuple #[.agg #[.string ⟨#[]⟩, .int .i64 0, .int .i64 0, .int .i64 0, .int .i64 0, .int .i64 0, .int .i64 0, .bool false], .bool false]) ∧ Below w.heap.size w w' := by
  have H := hide (h.alloc (.cells #[.string ⟨#[]⟩, .int .i64 0, .int .i64 0, .int .i64 0, .int .i64 0, .int .i64 0, .int .i64 0, .bool false] 41))
  clear h
  go_enter Try.func12, Try.ntmps12
  go_wp2_with (go_at_call 22; refine (made_no _ _ H.out).mono ?_; rintro e w' ⟨rfl, rfl⟩)
  exact bodyPost_ret (v := .tuple #[.agg #[.string ⟨#[]⟩, .int .i64 0, .int .i64 0, .int .i64 0, .int .i64 0, .int .i64 0, .int .i64 0, .bool false], .bool false]) (by simp [results, Try.results12, go_sem]) rfl ⟨rfl, ((Below.refl _ _).alloc (Nat.le_refl _) _)⟩
set_option maxRecDepth 100000 in
theorem send_no (t : Option Addr) (key : ByteArray) (fr tt ca tg vl sz : Int) (tk : Bool) (w : World) (h : NM w t) : Calls Try.prog 13 #[.pointer t, .agg #[.string key, .int .i64 fr, .int .i64 tt, .int .i64 ca, .int .i64 tg, .int .i64 vl, .int .i64 sz, .bool tk]] w fun e w' => e = .returned (.int .i64 1) ∧ Below w.heap.size w w' := by
  have H := hide (h.alloc (.cells #[.string key, .int .i64 fr, .int .i64 tt, .int .i64 ca, .int .i64 tg, .int .i64 vl, .int .i64 sz, .bool tk] 41))
  clear h
  go_enter Try.func13, Try.ntmps13
  go_wp2_with (go_at_call 22; refine (made_no _ _ H.out).mono ?_; rintro e w' ⟨rfl, rfl⟩)
  go_ret
  exact ⟨rfl, ((Below.refl _ _).alloc (Nat.le_refl _) _)⟩
set_option maxRecDepth 100000 in
theorem take_no (t : Option Addr) (fr ca : Int) (w : World) (h : NM w t) : Calls Try.prog 14 #[.pointer t, .int .i64 fr, .int .i64 ca] w fun e w' => e = .returned (.int .i64 1) ∧ w = w' := by
  have H := hide h
  clear h
  go_enter Try.func14, Try.ntmps14
  go_wp2_with (go_at_call 22; refine (made_no _ _ H.out).mono ?_; rintro e w' ⟨rfl, rfl⟩)
  go_ret
  exact ⟨rfl, rfl⟩
set_option maxRecDepth 100000 in
theorem ahead_no (t : Option Addr) (key : ByteArray) (fr tt ca tg vl sz : Int) (tk : Bool) (w : World) (h : NM w t) : Calls Try.prog 15 #[.pointer t, .agg #[.string key, .int .i64 fr, .int .i64 tt, .int .i64 ca, .int .i64 tg, .int .i64 vl, .int .i64 sz, .bool tk]] w fun e w' => e = .returned (.slice none 0 0) ∧ Below w.heap.size w w' := by
  have H := hide (h.alloc (.cells #[.string key, .int .i64 fr, .int .i64 tt, .int .i64 ca, .int .i64 tg, .int .i64 vl, .int .i64 sz, .bool tk] 41))
  clear h
  go_enter Try.func15, Try.ntmps15
  go_wp2_with (go_at_call 22; refine (made_no _ _ H.out).mono ?_; rintro e w' ⟨rfl, rfl⟩)
  go_ret
  exact ⟨rfl, ((Below.refl _ _).alloc (Nat.le_refl _) _)⟩
set_option maxRecDepth 100000 in
theorem senders_no (t : Option Addr) (key : ByteArray) (tt : Int) (w : World) (h : NM w t) : Calls Try.prog 16 #[.pointer t, .string key, .int .i64 tt] w fun e w' => e = .returned (.slice none 0 0) ∧ w = w' := by
  have H := hide h
  clear h
  go_enter Try.func16, Try.ntmps16
  go_wp2_with (go_at_call 22; refine (made_no _ _ H.out).mono ?_; rintro e w' ⟨rfl, rfl⟩)
  go_ret
  exact ⟨rfl, rfl⟩
set_option maxRecDepth 100000 in
theorem left_no (t : Option Addr)  (w : World) (h : NM w t) : Calls Try.prog 17 #[.pointer t] w fun e w' => e = .returned (.slice none 0 0) ∧ w = w' := by
  have H := hide h
  clear h
  go_enter Try.func17, Try.ntmps17
  go_wp2_with (go_at_call 22; refine (made_no _ _ H.out).mono ?_; rintro e w' ⟨rfl, rfl⟩)
  go_ret
  exact ⟨rfl, rfl⟩
set_option maxRecDepth 100000 in
theorem copy_no (t : Option Addr)  (w : World) (h : NM w t) : Calls Try.prog 18 #[.pointer t] w fun e w' => e = .returned (.pointer none) ∧ w = w' := by
  have H := hide h
  clear h
  go_enter Try.func18, Try.ntmps18
  go_wp2_with (go_at_call 22; refine (made_no _ _ H.out).mono ?_; rintro e w' ⟨rfl, rfl⟩)
  go_ret
  exact ⟨rfl, rfl⟩
/-- What stands in the round: the message's fields, the two queues, the second of which nobody made. -/
def Ok (W wr : World) (gs g2 : Nat) (key : ByteArray) (fr tt ca tg vl sz : Int) (tk : Bool) : Prop :=
  (W.heap.size < wr.heap.size ∧ gs < wr.heap.size ∧ g2 < wr.heap.size) ∧ (wr.cell? ⟨W.heap.size, 0, none⟩ = some (.string key) ∧ wr.cell? ⟨W.heap.size, 1, none⟩ = some (.int .i64 fr) ∧ wr.cell? ⟨W.heap.size, 2, none⟩ = some (.int .i64 tt) ∧ wr.cell? ⟨W.heap.size, 3, none⟩ = some (.int .i64 ca) ∧ wr.cell? ⟨W.heap.size, 4, none⟩ = some (.int .i64 tg) ∧ wr.cell? ⟨W.heap.size, 5, none⟩ = some (.int .i64 vl) ∧ wr.cell? ⟨W.heap.size, 6, none⟩ = some (.int .i64 sz) ∧ wr.cell? ⟨W.heap.size, 7, none⟩ = some (.bool tk)) ∧
    wr.cell? ⟨gs, 0, none⟩ = some (.pointer none) ∧ wr.cell? ⟨gs, 1, none⟩ = some (.pointer (some ⟨g2, 0, none⟩)) ∧ wr.cell? ⟨g2, 0, none⟩ = some (.map none) ∧ Below W.heap.size W wr
theorem Ok.below {W wr w' : World} {gs g2 : Nat} {key : ByteArray} {fr tt ca tg vl sz : Int} {tk : Bool} (h : Ok W wr gs g2 key fr tt ca tg vl sz tk) (hb : Below wr.heap.size wr w') : Ok W w' gs g2 key fr tt ca tg vl sz tk := by
  obtain ⟨⟨h1, h2, h3⟩, ⟨d0, d1, d2, d3, d4, d5, d6, d7⟩, c4, c5, c6, hB⟩ := h
  have hs := hb.size
  exact ⟨⟨by omega, by omega, by omega⟩, ⟨(hb.cell (p := ⟨_, _, none⟩) h1).trans d0, (hb.cell (p := ⟨_, _, none⟩) h1).trans d1, (hb.cell (p := ⟨_, _, none⟩) h1).trans d2, (hb.cell (p := ⟨_, _, none⟩) h1).trans d3, (hb.cell (p := ⟨_, _, none⟩) h1).trans d4, (hb.cell (p := ⟨_, _, none⟩) h1).trans d5, (hb.cell (p := ⟨_, _, none⟩) h1).trans d6, (hb.cell (p := ⟨_, _, none⟩) h1).trans d7⟩, (hb.cell (p := ⟨_, _, none⟩) h2).trans c4,
    (hb.cell (p := ⟨_, _, none⟩) h2).trans c5, (hb.cell (p := ⟨_, _, none⟩) h3).trans c6, hB.trans (hb.mono (by omega))⟩
theorem Ok.nm {W wr : World} {gs g2 : Nat} {key : ByteArray} {fr tt ca tg vl sz : Int} {tk : Bool} (h : Ok W wr gs g2 key fr tt ca tg vl sz tk) (k : Nat) (hk : k < 2) : ∃ t, wr.cell? ⟨gs, k, none⟩ = some (.pointer t) ∧ NM wr t := by
  obtain ⟨⟨h1, h2, h3⟩, _, c4, c5, c6, hB⟩ := h
  rcases Nat.lt_or_ge k 1 with h | h
  · obtain rfl : k = 0 := by omega
    exact ⟨_, c4, .inl rfl⟩
  · obtain rfl : k = 1 := by omega
    exact ⟨_, c5, .inr ⟨g2, rfl, h3, c6⟩⟩
theorem Ok.all {W wr : World} {gs g2 : Nat} {key : ByteArray} {fr tt ca tg vl sz : Int} {tk : Bool} {t : Option Addr} (h : Hid (Ok W wr gs g2 key fr tt ca tg vl sz tk)) (hn : Hid (NM wr t)) : wr.cell? ⟨W.heap.size, 0, none⟩ = some (.string key) ∧ wr.cell? ⟨W.heap.size, 1, none⟩ = some (.int .i64 fr) ∧ wr.cell? ⟨W.heap.size, 2, none⟩ = some (.int .i64 tt) ∧ wr.cell? ⟨W.heap.size, 3, none⟩ = some (.int .i64 ca) ∧ wr.cell? ⟨W.heap.size, 4, none⟩ = some (.int .i64 tg) ∧ wr.cell? ⟨W.heap.size, 5, none⟩ = some (.int .i64 vl) ∧ wr.cell? ⟨W.heap.size, 6, none⟩ = some (.int .i64 sz) ∧ wr.cell? ⟨W.heap.size, 7, none⟩ = some (.bool tk) ∧ Hid (NM wr t) ∧ Hid (Ok W wr gs g2 key fr tt ca tg vl sz tk) := by
  have h' := h.out
  obtain ⟨_, ⟨d0, d1, d2, d3, d4, d5, d6, d7⟩, _⟩ := h'
  exact ⟨d0, d1, d2, d3, d4, d5, d6, d7, hn, h⟩
theorem Ok.all2 {W w wr : World} {gs g2 : Nat} {key : ByteArray} {fr tt ca tg vl sz : Int} {tk : Bool} {t : Option Addr} (h : Hid (Ok W w gs g2 key fr tt ca tg vl sz tk)) (hn : Hid (NM w t)) (hb : Below w.heap.size w wr) : wr.cell? ⟨W.heap.size, 0, none⟩ = some (.string key) ∧ wr.cell? ⟨W.heap.size, 1, none⟩ = some (.int .i64 fr) ∧ wr.cell? ⟨W.heap.size, 2, none⟩ = some (.int .i64 tt) ∧ wr.cell? ⟨W.heap.size, 3, none⟩ = some (.int .i64 ca) ∧ wr.cell? ⟨W.heap.size, 4, none⟩ = some (.int .i64 tg) ∧ wr.cell? ⟨W.heap.size, 5, none⟩ = some (.int .i64 vl) ∧ wr.cell? ⟨W.heap.size, 6, none⟩ = some (.int .i64 sz) ∧ wr.cell? ⟨W.heap.size, 7, none⟩ = some (.bool tk) ∧ Hid (NM wr t) ∧ Hid (Ok W wr gs g2 key fr tt ca tg vl sz tk) :=
  Ok.all (hide (h.out.below hb)) (hide (hn.out.below hb))
theorem Ok.hn {W wr : World} {gs g2 : Nat} {key : ByteArray} {fr tt ca tg vl sz : Int} {tk : Bool} {t : Option Addr} (h : wr.cell? ⟨W.heap.size, 0, none⟩ = some (.string key) ∧ wr.cell? ⟨W.heap.size, 1, none⟩ = some (.int .i64 fr) ∧ wr.cell? ⟨W.heap.size, 2, none⟩ = some (.int .i64 tt) ∧ wr.cell? ⟨W.heap.size, 3, none⟩ = some (.int .i64 ca) ∧ wr.cell? ⟨W.heap.size, 4, none⟩ = some (.int .i64 tg) ∧ wr.cell? ⟨W.heap.size, 5, none⟩ = some (.int .i64 vl) ∧ wr.cell? ⟨W.heap.size, 6, none⟩ = some (.int .i64 sz) ∧ wr.cell? ⟨W.heap.size, 7, none⟩ = some (.bool tk) ∧ Hid (NM wr t) ∧ Hid (Ok W wr gs g2 key fr tt ca tg vl sz tk)) : Hid (NM wr t) := h.2.2.2.2.2.2.2.2.1
theorem Ok.ho {W wr : World} {gs g2 : Nat} {key : ByteArray} {fr tt ca tg vl sz : Int} {tk : Bool} {t : Option Addr} (h : wr.cell? ⟨W.heap.size, 0, none⟩ = some (.string key) ∧ wr.cell? ⟨W.heap.size, 1, none⟩ = some (.int .i64 fr) ∧ wr.cell? ⟨W.heap.size, 2, none⟩ = some (.int .i64 tt) ∧ wr.cell? ⟨W.heap.size, 3, none⟩ = some (.int .i64 ca) ∧ wr.cell? ⟨W.heap.size, 4, none⟩ = some (.int .i64 tg) ∧ wr.cell? ⟨W.heap.size, 5, none⟩ = some (.int .i64 vl) ∧ wr.cell? ⟨W.heap.size, 6, none⟩ = some (.int .i64 sz) ∧ wr.cell? ⟨W.heap.size, 7, none⟩ = some (.bool tk) ∧ Hid (NM wr t) ∧ Hid (Ok W wr gs g2 key fr tt ca tg vl sz tk)) : Hid (Ok W wr gs g2 key fr tt ca tg vl sz tk) := h.2.2.2.2.2.2.2.2.2
theorem Ok.all3 {W w wr : World} {gs g2 : Nat} {key : ByteArray} {fr tt ca tg vl sz : Int} {tk : Bool} {t : Option Addr} (h : w.cell? ⟨W.heap.size, 0, none⟩ = some (.string key) ∧ w.cell? ⟨W.heap.size, 1, none⟩ = some (.int .i64 fr) ∧ w.cell? ⟨W.heap.size, 2, none⟩ = some (.int .i64 tt) ∧ w.cell? ⟨W.heap.size, 3, none⟩ = some (.int .i64 ca) ∧ w.cell? ⟨W.heap.size, 4, none⟩ = some (.int .i64 tg) ∧ w.cell? ⟨W.heap.size, 5, none⟩ = some (.int .i64 vl) ∧ w.cell? ⟨W.heap.size, 6, none⟩ = some (.int .i64 sz) ∧ w.cell? ⟨W.heap.size, 7, none⟩ = some (.bool tk) ∧ Hid (NM w t) ∧ Hid (Ok W w gs g2 key fr tt ca tg vl sz tk)) (hb : Below w.heap.size w wr) : wr.cell? ⟨W.heap.size, 0, none⟩ = some (.string key) ∧ wr.cell? ⟨W.heap.size, 1, none⟩ = some (.int .i64 fr) ∧ wr.cell? ⟨W.heap.size, 2, none⟩ = some (.int .i64 tt) ∧ wr.cell? ⟨W.heap.size, 3, none⟩ = some (.int .i64 ca) ∧ wr.cell? ⟨W.heap.size, 4, none⟩ = some (.int .i64 tg) ∧ wr.cell? ⟨W.heap.size, 5, none⟩ = some (.int .i64 vl) ∧ wr.cell? ⟨W.heap.size, 6, none⟩ = some (.int .i64 sz) ∧ wr.cell? ⟨W.heap.size, 7, none⟩ = some (.bool tk) ∧ Hid (NM wr t) ∧ Hid (Ok W wr gs g2 key fr tt ca tg vl sz tk) := Ok.all2 (Ok.ho h) (Ok.hn h) hb
set_option maxRecDepth 100000 in
set_option maxHeartbeats 4000000 in
theorem walk {H : Type} {enc : TypeId × Value → H} {base : Nat} (W : World) (v0 : Value) (d0 : DataW H) (p0 : List MemPlace) (o0 : Value.okWide Try.prog W .any base 41 v0) (r0 : DataW.Trod enc Try.prog W 0 (fun _ => true) true 41 v0 d0 p0) :
    Calls Try.prog 4 #[v0] W fun e w' => e = .returned (.bool true) ∧ Below W.heap.size W w' := by
  obtain ⟨c0, c1, c2, c3, c4, c5, c6, c7, y0, y1, y2, y3, y4, y5, y6, y7, fuel, rfl, _, h0, h1, h2, h3, h4, h5, h6, h7⟩ := open_agg8 Try.underlying41 (by kernel_rfl) (by kernel_rfl) o0 r0
  obtain ⟨key, e0, _, hs⟩ := DataW.trod_string Try.underlying9 h0
  obtain ⟨fr, e1, _, _⟩ := DataW.trod_int Try.underlying3 h1
  obtain ⟨tt, e2, _, _⟩ := DataW.trod_int Try.underlying3 h2
  obtain ⟨ca, e3, _, _⟩ := DataW.trod_int Try.underlying3 h3
  obtain ⟨tg, e4, _, _⟩ := DataW.trod_int Try.underlying3 h4
  obtain ⟨vl, e5, _, _⟩ := DataW.trod_int Try.underlying2 h5
  obtain ⟨sz, e6, _, _⟩ := DataW.trod_int Try.underlying3 h6
  obtain ⟨tk, e7, _⟩ := DataW.trod_bool Try.underlying4 h7
  simp at e0 e1 e2 e3 e4 e5 e6 e7
  subst e0 e1 e2 e3 e4 e5 e6 e7
  clear o0 r0 h0 h1 h2 h3 h4 h5 h6 h7
  by_cases hbig : 100 < key.size
  · have hbig' : (100 : Int) < (key.size : Int) := by omega
    go_enter Try.func4, Try.ntmps4
    go_wp2
    go_ret
    exact ⟨rfl, (Below.refl _ _).alloc (Nat.le_refl _) _⟩
  · have hbig' : ¬ (100 : Int) < (key.size : Int) := by omega
    go_enter Try.func4, Try.ntmps4
    go_wp2_with fail
    go_loopw [5] (fun i wr => ∃ k : Nat, k ≤ 2 ∧ i = .int .i64 k ∧ Ok W wr (W.heap.size + 1 + 1) (W.heap.size + 1) key fr tt ca tg vl sz tk) (fun i _ => 2 - (intOf i).toNat)
    case atStart =>
      refine ⟨0, by omega, rfl, ⟨by simp; omega, by simp, by simp⟩, ⟨?_, ?_, ?_, ?_, ?_, ?_, ?_, ?_⟩, ?_, ?_, ?_, ?_⟩
      · rw [World.cell?_alloc_past, World.cell?_alloc_past, World.cell?_alloc_at] <;> simp <;> omega
      · rw [World.cell?_alloc_past, World.cell?_alloc_past, World.cell?_alloc_at] <;> simp <;> omega
      · rw [World.cell?_alloc_past, World.cell?_alloc_past, World.cell?_alloc_at] <;> simp <;> omega
      · rw [World.cell?_alloc_past, World.cell?_alloc_past, World.cell?_alloc_at] <;> simp <;> omega
      · rw [World.cell?_alloc_past, World.cell?_alloc_past, World.cell?_alloc_at] <;> simp <;> omega
      · rw [World.cell?_alloc_past, World.cell?_alloc_past, World.cell?_alloc_at] <;> simp <;> omega
      · rw [World.cell?_alloc_past, World.cell?_alloc_past, World.cell?_alloc_at] <;> simp <;> omega
      · rw [World.cell?_alloc_past, World.cell?_alloc_past, World.cell?_alloc_at] <;> simp <;> omega
      · rw [World.cell?_alloc_at] <;> simp
      · rw [World.cell?_alloc_at] <;> simp
      · rw [World.cell?_alloc_past, World.cell?_alloc_at] <;> simp
      · exact (((Below.refl _ _).alloc (Nat.le_refl _) _).alloc (by simp) _).alloc (by simp; omega) _
    case round =>
      obtain ⟨k, hk, rfl, hok⟩ := hrel
      have HB := hok.2.2.2.2.2
      by_cases hlt : k < 2
      · obtain ⟨t, hct, hnm⟩ := hok.nm k hlt
        have Hok := hide hok
        obtain ⟨_, ⟨d0, d1, d2, d3, d4, d5, d6, d7⟩, _⟩ := hok
        have Hnm := hide hnm
        clear hnm HB
        go_wp2_with fail
        refine (find_no _ _ _ _ Hnm.out).mono ?_
        rintro e W1 ⟨rfl, hb1⟩
        have hb1' := hb1.trans ((Below.refl _ W1).alloc hb1.size (.cells #[.string ⟨#[]⟩, .int .i64 0, .int .i64 0, .int .i64 0, .int .i64 0, .int .i64 0, .int .i64 0, .bool false] 41))
        have Hok1 := hide (Hok.out.below hb1')
        have Hnm1 := hide (Hnm.out.below hb1')
        clear hb1 hb1' Hok Hnm hct d0 d1 d2 d3 d4 d5 d6 d7
        obtain ⟨_, ⟨d0, d1, d2, d3, d4, d5, d6, d7⟩, _⟩ := Hok1.out
        go_wp2_with fail
        refine (first_no _ _ _ _ _ _ Hnm1.out).mono ?_
        rintro e W2 ⟨rfl, hb2⟩
        have hb2' := hb2.trans ((Below.refl _ W2).alloc hb2.size (.cells #[.string ⟨#[]⟩, .int .i64 0, .int .i64 0, .int .i64 0, .int .i64 0, .int .i64 0, .int .i64 0, .bool false] 41))
        have Hok2 := hide (Hok1.out.below hb2')
        have Hnm2 := hide (Hnm1.out.below hb2')
        clear hb2 hb2' Hok1 Hnm1 d0 d1 d2 d3 d4 d5 d6 d7
        go_wp2_with fail
        generalize (W2.alloc (.cells #[.string ⟨#[]⟩, .int .i64 0, .int .i64 0, .int .i64 0, .int .i64 0, .int .i64 0, .int .i64 0, .bool false] 41)) = W2' at *
        have Hok2' := hide (Hok2.out.below (Below.refl _ W2').drew)
        have Hnm2' := hide (Hnm2.out.below (Below.refl _ W2').drew)
        clear Hok2 Hnm2
        obtain ⟨_, ⟨d0, d1, d2, d3, d4, d5, d6, d7⟩, _⟩ := Hok2'.out
        go_cut [88] from 19 to 87 (fun x wx => x = .bool false ∧ Ok W wx (W.heap.size + 1 + 1) (W.heap.size + 1) key fr tt ca tg vl sz tk)
        case first =>
          go_region_held3 (fun w' => w'.cell? ⟨W.heap.size, 0, none⟩ = some (.string key) ∧ w'.cell? ⟨W.heap.size, 1, none⟩ = some (.int .i64 fr) ∧ w'.cell? ⟨W.heap.size, 2, none⟩ = some (.int .i64 tt) ∧ w'.cell? ⟨W.heap.size, 3, none⟩ = some (.int .i64 ca) ∧ w'.cell? ⟨W.heap.size, 4, none⟩ = some (.int .i64 tg) ∧ w'.cell? ⟨W.heap.size, 5, none⟩ = some (.int .i64 vl) ∧ w'.cell? ⟨W.heap.size, 6, none⟩ = some (.int .i64 sz) ∧ w'.cell? ⟨W.heap.size, 7, none⟩ = some (.bool tk) ∧ Hid (NM w' t) ∧ Hid (Ok W w' (W.heap.size + 1 + 1) (W.heap.size + 1) key fr tt ca tg vl sz tk))
            (first | (exact Ok.all (by assumption) (by assumption)) | (exact Ok.all2 (by assumption) (by assumption) (by assumption)) | assumption | (exact Ok.all3 (by assumption) (by assumption)))
            (first
              | (go_at_call 13; refine (send_no _ _ _ _ _ _ _ _ _ _ (Hid.out ?hn)).mono ?_; (case hn => first | assumption | exact Ok.hn (by assumption)); rintro e w' ⟨rfl, hb⟩)
              | (go_at_call 15; refine (ahead_no _ _ _ _ _ _ _ _ _ _ (Hid.out ?hn)).mono ?_; (case hn => first | assumption | exact Ok.hn (by assumption)); rintro e w' ⟨rfl, hb⟩)
              | (go_at_call 16; refine (senders_no _ _ _ _ (Hid.out ?hn)).mono ?_; (case hn => first | assumption | exact Ok.hn (by assumption)); rintro e w' ⟨rfl, rfl⟩)
              | (go_at_call 17; refine (left_no _ _ (Hid.out ?hn)).mono ?_; (case hn => first | assumption | exact Ok.hn (by assumption)); rintro e w' ⟨rfl, rfl⟩)
              | (go_at_call 14; refine (take_no _ _ _ _ (Hid.out ?hn)).mono ?_; (case hn => first | assumption | exact Ok.hn (by assumption)); rintro e w' ⟨rfl, rfl⟩))
          go_wp2_with fail
          go_meet
          exact ⟨rfl, (Ok.ho (by assumption)).out⟩
        case rest =>
        obtain ⟨rfl, hok4⟩ := hcut
        have Hok4 := hide hok4
        clear hok4 Hok2' Hnm2' d0 d1 d2 d3 d4 d5 d6 d7
        go_wp2
        go_roundw
        case rel => exact ⟨k + 1, by omega, by go_num, Hok4.out⟩
        case measure => simp [intOf]; omega
      · have hge : 2 ≤ k := by omega
        clear hok
        go_wp2_with fail
        refine (copy_no _ _ (.inl rfl)).mono ?_
        rintro e w' ⟨rfl, rfl⟩
        go_wp2
        go_ret
        exact ⟨rfl, HB⟩
end Go.Proofs.Ytphckmabaoahaaa.QueueNilW
