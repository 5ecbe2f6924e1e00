/- The walk of the statement GroupNil: of any handle and any group; without conditions. -/
import Derived.Test.YtphckmabaoahaaaRows
import Derived.Test.YtphckmabaoahaaaStructs
import Derived.LoopN
import Derived.Deep.RegionWith
import Derived.Deep.CutRange
namespace Go.Proofs.Ytphckmabaoahaaa.GroupNilW
open Go.Joins Go.ChangeShapes Go.WideShapes Go.RowKit Go.Deep Go.Proofs.Ytphckmabaoahaaa
set_option linter.unusedVariables false
set_option linter.unusedSimpArgs false

/-- A table that nobody made: nil, or one without handles. -/
def NM (w : World) (t : Option Addr) : Prop := t = none ∨ ∃ g, t = some ⟨g, 0, none⟩ ∧ g < w.heap.size ∧ w.cell? ⟨g, 0, none⟩ = some (.slice none 0 0)
theorem NM.below {w w' : World} {t : Option Addr} (h : NM w t) (hb : Below w.heap.size w w') : NM w' t := by
  rcases h with rfl | ⟨g, rfl, hg, hc⟩
  · exact .inl rfl
  · exact .inr ⟨g, rfl, Nat.lt_of_lt_of_le hg hb.size, (hb.cell (p := ⟨g, 0, none⟩) hg).trans hc⟩

theorem many_no (t : Option Addr) (w : World) (h : NM w t) : Calls Try.prog 9 #[.pointer t] w fun e w' => e = .returned (.int .i64 0) ∧ w = w' := by
  rcases h with rfl | ⟨g, rfl, hg, hc⟩
  all_goals
    go_enter Try.func9, Try.ntmps9
    go_wp2
    go_ret
    exact ⟨rfl, rfl⟩
theorem asked_no (t : Option Addr) (n : Int) (w : World) (h : NM w t) : Calls Try.prog 21 #[.pointer t, .int .i64 n] w fun e w' => e = .returned (.int .i64 1) ∧ w = w' := by
  have H := hide h
  clear h
  go_enter Try.func21, Try.ntmps21
  go_wp2_with (go_at_call 9; refine (many_no _ _ H.out).mono ?_; rintro e w' ⟨rfl, rfl⟩)
  go_ret
  exact ⟨rfl, rfl⟩
theorem free_no (t : Option Addr) (n : Int) (w : World) (h : NM w t) : Calls Try.prog 8 #[.pointer t, .int .i64 n] w fun e w' => e = .returned (.int .i64 1) ∧ w = w' := by
  have H := hide h
  clear h
  go_enter Try.func8, Try.ntmps8
  go_wp2_with (go_at_call 21; refine (asked_no _ _ _ H.out).mono ?_; rintro e w' ⟨rfl, rfl⟩)
  go_ret
  exact ⟨rfl, rfl⟩
theorem copy_no (t : Option Addr) (w : World) (h : NM w t) : Calls Try.prog 10 #[.pointer t] w fun e w' => e = .returned (.pointer none) ∧ w = w' := by
  have H := hide h
  clear h
  go_enter Try.func10, Try.ntmps10
  go_wp2_with (go_at_call 9; refine (many_no _ _ H.out).mono ?_; rintro e w' ⟨rfl, rfl⟩)
  go_ret
  exact ⟨rfl, rfl⟩
theorem NM.alloc {w : World} {t : Option Addr} (h : NM w t) (o : Obj) : NM (w.alloc o) t := h.below ((Below.refl _ _).alloc (Nat.le_refl _) o)
theorem add_no (t : Option Addr) (s : ByteArray) (A : Option Addr) (n c : Nat) (w : World) (h : NM w t) : Calls Try.prog 6 #[.pointer t, .agg #[.string s, .slice A n c]] w fun e w' => e = .returned (.tuple #[.int .i64 0, .int .i64 1]) ∧ Below w.heap.size w w' := by
  have H := hide (h.alloc (.cells #[.string s, .slice A n c] 24))
  clear h
  go_enter Try.func6, Try.ntmps6
  go_wp2_with (go_at_call 9; refine (many_no _ _ H.out).mono ?_; rintro e w' ⟨rfl, rfl⟩)
  go_ret2
  exact ⟨rfl, (Below.refl _ _).alloc (Nat.le_refl _) _⟩
set_option maxRecDepth 100000 in
theorem at_no (t : Option Addr) (i : Int) (w : World) (h : NM w t) : Calls Try.prog 7 #[.pointer t, .int .i64 i] w fun e w' => e = .returned (.tuple #[.agg #[.string ⟨#[]⟩, .slice none 0 0], .int .i64 1]) ∧ Below w.heap.size w w' := by
  have H := hide (h.alloc (.cells #[.string ⟨#[]⟩, .slice none 0 0] 24))
  clear h
  go_enter Try.func7, Try.ntmps7
  go_wp2_with (go_at_call 21; refine (asked_no _ _ _ H.out).mono ?_; rintro e w' ⟨rfl, rfl⟩)
  exact bodyPost_ret (v := .tuple #[.agg #[.string ⟨#[]⟩, .slice none 0 0], .int .i64 1]) (by simp [results, Try.results7, go_sem]) rfl ⟨rfl, (Below.refl _ _).alloc (Nat.le_refl _) _⟩
set_option maxRecDepth 100000 in
theorem great (s : ByteArray) (A : Option Addr) (n c : Nat) (w : World) (hn : n ≤ maxLen) (hs : s.size ≤ maxLen) : Calls Try.prog 5 #[.agg #[.string s, .slice A n c]] w fun e w' => e = .returned (.bool (decide (80 < n) || decide (200 < s.size))) ∧ Below w.heap.size w w' := by
  go_enter Try.func5, Try.ntmps5
  by_cases h : 80 < n
  · go_wp2
    go_ret
    exact ⟨by simp [h], (Below.refl _ _).alloc (Nat.le_refl _) _⟩
  · by_cases h2 : 200 < s.size
    all_goals
      go_wp2
      go_ret
      exact ⟨by simp [h, h2] <;> omega, (Below.refl _ _).alloc (Nat.le_refl _) _⟩

/-- What stands in the round: the group's fields, the two tables, the second of which nobody made. -/
def Ok (W wr : World) (gs g2 : Nat) (s : ByteArray) (A : Option Addr) (n c : Nat) : Prop :=
  (W.heap.size < wr.heap.size ∧ gs < wr.heap.size ∧ g2 < wr.heap.size) ∧ wr.cell? ⟨W.heap.size, 0, none⟩ = some (.string s) ∧ wr.cell? ⟨W.heap.size, 1, none⟩ = some (.slice A n c) ∧
    wr.cell? ⟨gs, 0, none⟩ = some (.pointer none) ∧ wr.cell? ⟨gs, 1, none⟩ = some (.pointer (some ⟨g2, 0, none⟩)) ∧ wr.cell? ⟨g2, 0, none⟩ = some (.slice none 0 0) ∧ Below W.heap.size W wr
theorem Ok.below {W wr w' : World} {gs g2 : Nat} {s : ByteArray} {A : Option Addr} {n c : Nat} (h : Ok W wr gs g2 s A n c) (hb : Below wr.heap.size wr w') : Ok W w' gs g2 s A n c := by
  obtain ⟨⟨h1, h2, h3⟩, c1, c2, c4, c5, c6, hB⟩ := h
  have hs := hb.size
  exact ⟨⟨by omega, by omega, by omega⟩, (hb.cell (p := ⟨_, _, none⟩) h1).trans c1, (hb.cell (p := ⟨_, _, none⟩) h1).trans c2, (hb.cell (p := ⟨_, _, none⟩) h2).trans c4,
    (hb.cell (p := ⟨_, _, none⟩) h2).trans c5, (hb.cell (p := ⟨_, _, none⟩) h3).trans c6, hB.trans (hb.mono (by omega))⟩
theorem Ok.nm {W wr : World} {gs g2 : Nat} {s : ByteArray} {A : Option Addr} {n c : Nat} (h : Ok W wr gs g2 s A n c) (k : Nat) (hk : k < 2) : ∃ t, wr.cell? ⟨gs, k, none⟩ = some (.pointer t) ∧ NM wr t := by
  obtain ⟨⟨h1, h2, h3⟩, c1, c2, c4, c5, c6, hB⟩ := h
  rcases Nat.lt_or_ge k 1 with h | h
  · obtain rfl : k = 0 := by omega
    exact ⟨_, c4, .inl rfl⟩
  · obtain rfl : k = 1 := by omega
    exact ⟨_, c5, .inr ⟨g2, rfl, h3, c6⟩⟩
set_option maxRecDepth 100000 in
set_option maxHeartbeats 2000000 in
theorem walk {H : Type} {enc : TypeId × Value → H} {base : Nat} (W : World) (hd : Int) (whd : (Lit.int .i64 hd).wf = true) (v0 : Value) (d0 : DataW H) (p0 : List MemPlace) (o0 : Value.okWide Try.prog W .any base 24 v0) (r0 : DataW.Trod enc Try.prog W 0 (fun _ => true) true 24 v0 d0 p0) :
    Calls Try.prog 3 #[.int .i64 hd, v0] W fun e w' => e = .returned (.bool true) ∧ Below W.heap.size W w' := by
  obtain ⟨c0, c1, y0, y1, fuel, rfl, _, _, h0, h1⟩ := open_agg2 Try.underlying24 (by kernel_rfl) (by kernel_rfl) o0 r0
  obtain ⟨s, e0, _, hs⟩ := DataW.trod_string Try.underlying9 h0
  obtain ⟨A, n, c, e1⟩ := Joins.slice_form Try.underlying22 h1
  simp at e0 e1
  subst e0 e1
  have hn : n ≤ maxLen := by
    rcases DataW.trod_slice Try.underlying22 h1 with h | h
    · obtain ⟨h, _⟩ := h
      simp at h
      omega
    · obtain ⟨a, l, cp, m, nn, D, Pl, hcs, hb, hl, hm, _⟩ := h
      simp at hcs
      omega
  clear o0 r0 h0 h1
  go_enter Try.func3, Try.ntmps3
  go_wp2_with fail
  refine (great s A n c _ hn hs).mono ?_
  rintro e w' ⟨rfl, hb0⟩
  have hb0' : Below W.heap.size W w' := ((Below.refl _ W).alloc (Nat.le_refl _) _).trans (hb0.mono (by simp))
  have hz : W.heap.size < w'.heap.size := by
    have := hb0.size
    simp at this
    omega
  have f0 : w'.cell? ⟨W.heap.size, 0, none⟩ = some (.string s) := (hb0.cell (p := ⟨_, _, none⟩) (by simp)).trans (by rw [World.cell?_alloc_at] <;> simp)
  have f1 : w'.cell? ⟨W.heap.size, 1, none⟩ = some (.slice A n c) := (hb0.cell (p := ⟨_, _, none⟩) (by simp)).trans (by rw [World.cell?_alloc_at] <;> simp)
  generalize (decide (80 < n) || decide (200 < s.size)) = big
  rcases big with _ | _
  · clear hb0 hs hn
    go_wp2_with fail
    go_loopw [7] (fun i wr => ∃ k : Nat, k ≤ 2 ∧ i = .int .i64 k ∧ Ok W wr (w'.heap.size + 1) w'.heap.size s A n c) (fun i _ => 2 - (intOf i).toNat)
    case atStart =>
      refine ⟨0, by omega, rfl, ⟨by simp; omega, by simp, by simp; omega⟩, ?_, ?_, ?_, ?_, ?_, ?_⟩
      · exact (World.cell?_alloc_past _ _ _ (by simp; omega)).trans ((World.cell?_alloc_past _ _ _ hz).trans f0)
      · exact (World.cell?_alloc_past _ _ _ (by simp; omega)).trans ((World.cell?_alloc_past _ _ _ hz).trans f1)
      · rw [World.cell?_alloc_at] <;> simp
      · rw [World.cell?_alloc_at] <;> simp
      · rw [World.cell?_alloc_past, World.cell?_alloc_at] <;> simp
      · exact (hb0'.alloc (by omega) _).alloc (by simp; omega) _
    case round =>
      obtain ⟨k, hk, rfl, hok⟩ := hrel
      have HB := hok.2.2.2.2.2.2
      by_cases hlt : k < 2
      · obtain ⟨t, hct, hnm⟩ := hok.nm k hlt
        have Hok := hide hok
        obtain ⟨_, f1, f2, _⟩ := hok
        have Hnm := hide (show NM wr.drew t from hnm)
        clear hnm HB
        go_wp2_with fail
        go_cut [8, 9] from 18 to 64 (fun x8 x9 wx => x8 = .int .i64 0 ∧ x9 = .int .i64 1 ∧ Ok W wx (w'.heap.size + 1) w'.heap.size s A n c)
        case first =>
          go_region_with (
            go_at_call 6
            refine (add_no _ _ _ _ _ _ Hnm.out).mono ?_
            rintro e W1 ⟨rfl, hb1⟩)
          all_goals
            go_wp2_with fail
            go_meet
            exact ⟨rfl, rfl, Hok.out.below ((Below.refl _ wr).drew.trans hb1)⟩
        case rest =>
        obtain ⟨rfl, rfl, hok1⟩ := hcut
        have Hok1 := hide hok1
        clear f1 f2 hct hok1
        obtain ⟨t1, hct1, hnm1⟩ := Hok1.out.nm k hlt
        have Hnm1 := hide hnm1
        clear hnm1 Hok Hnm
        go_wp2_with fail
        refine (at_no _ _ _ Hnm1.out).mono ?_
        rintro e W2 ⟨rfl, hb2⟩
        have hb2' := hb2.trans ((Below.refl _ W2).alloc hb2.size (.cells #[.string ⟨#[]⟩, .slice none 0 0] 24))
        have Hok2 := hide (Hok1.out.below hb2')
        clear hb2 hb2' Hok1 Hnm1 hct1
        obtain ⟨t2, hct2, hnm2⟩ := Hok2.out.nm k hlt
        have Hnm2 := hide hnm2
        clear hnm2
        go_wp2_with fail
        refine (free_no _ _ _ Hnm2.out).mono ?_
        rintro e w' ⟨rfl, rfl⟩
        go_wp2_with fail
        refine (many_no _ _ Hnm2.out).mono ?_
        rintro e w' ⟨rfl, rfl⟩
        go_wp2
        go_roundw
        case rel => exact ⟨k + 1, by omega, by go_num, Hok2.out⟩
        case measure => simp [intOf]; omega
      · have hge : 2 ≤ k := by omega
        clear hok
        go_wp2_with fail
        refine (copy_no _ _ (.inl rfl)).mono ?_
        rintro e w' ⟨rfl, rfl⟩
        go_wp2
        go_ret
        exact ⟨rfl, HB⟩
  · go_wp2
    go_ret
    exact ⟨rfl, hb0'⟩
end Go.Proofs.Ytphckmabaoahaaa.GroupNilW
