/- The program's Clock and Past. -/
import Derived.Test.YtflaikhkddjfjaaRows
import Derived.Test.YtflaikhkddjfjaaOrdG
import Derived.LoopN
namespace Go.Proofs.Ytflaikhkddjfjaa
open Go Go.RowKit
set_option linter.unusedVariables false
set_option linter.unusedSimpArgs false
namespace Ord
set_option maxRecDepth 100000 in
set_option maxHeartbeats 2000000 in
theorem clone_k (A : Option Addr) (cap B : Nat) (l : List Int) (w : World) (h : Rd w B A l) (hB : B ≤ w.heap.size) (hl : l.length ≤ 1000) :
    Calls Try.prog 28 #[.slice A l.length cap] w fun e w' => ∃ v, e = .returned v ∧ w'.ownsRow w.heap.size 3 1 v l.length (ints l) ∧ Below w.heap.size w w' := by
  obtain ⟨i0, hi0, hz0, hz1, hz2⟩ := info_parts int_info
  have HI := hide (And.intro hi0 (And.intro hz0 (And.intro hz1 hz2)))
  clear hi0 hz0 hz1 hz2
  cases A with
  | none =>
    have hl0 : l = [] := by
      rcases Nat.eq_zero_or_pos l.length with h0 | h0
      · exact List.eq_nil_of_length_eq_zero h0
      · obtain ⟨a, ha, _⟩ := h.2 h0
        cases ha
    subst hl0
    clear h
    have q := fun (w : World) => Lib.run_eql_slice_nil (P := Try.prog) w 30 3 none 0 cap 0 0 Try.underlying30
    simp only [Option.isNone_none] at q
    go_enter Try.func28, Try.ntmps28
    go_wp2_with fail
    go_ret
    exact ⟨_, rfl, ⟨rfl, .inl ⟨rfl, rfl⟩⟩, Below.refl _ _⟩
  | some a =>
    have RD := hide h
    have HO := hide (ints_one l)
    have own0 : Hid ((w.alloc (.cells #[] 3)).ownsRow w.heap.size 3 1 (.slice (some ⟨w.heap.size, 0, none⟩) 0 0) 0 []) := hide ⟨rfl, .inr ⟨w.heap.size, 0, #[], rfl, Nat.le_refl _, heap_alloc_new w _, Nat.le_refl _, by unfold maxLen; omega, rfl, rfl⟩⟩
    have hBI := hide hB
    clear h hB
    have q := fun (w : World) => Lib.run_eql_slice_nil (P := Try.prog) w 30 3 (some a) l.length cap 0 0 Try.underlying30
    simp only [Option.isNone_some] at q
    go_enter Try.func28, Try.ntmps28
    go_wp2_with (at_builtin; refine wpList_append_any _ rfl _ _ 30 rfl w.heap.size 3 i0 (.int .i64 0) 1 8 Try.underlying30 HI.out.1 HI.out.2.1 HI.out.2.2.1 HI.out.2.2.2 rfl (by decide) (.slice (some ⟨w.heap.size, 0, none⟩) 0 0) 0 [] rfl own0.out B (some a) l.length cap (ints l) rfl (RD.out.alloc hBI.out _) HO.out ?k1 ?k2 ?k3 ?_)
    case k1 => unfold maxLen; omega
    case k2 => omega
    case k3 => simp
    intro v' w1 hown hgrow _
    have Own := hide hown
    have HG := hide hgrow
    clear hown hgrow
    go_wp2_with fail
    go_ret
    refine ⟨_, rfl, by simpa using Own.out, ?_⟩
    exact ((Below.refl _ _).alloc (Nat.le_refl _) _).grown HG.out (by simp) (fun k hk => by cases hk; exact Nat.le_refl _)
set_option maxRecDepth 100000 in
set_option maxHeartbeats 2000000 in
theorem Clock_no (o B Rb : Nat) (es : List Eo) (i : Int) (w : World) (ho : OrA w o B Rb es) (hb : inB es i = false) :
    Calls Try.prog 12 #[.pointer (some ⟨o, 0, none⟩), .int .i64 i] w fun e w' => e = .returned (.tuple #[.slice none 0 0, .int .i64 2]) ∧ w = w' := by
  have TC := hide (there_c o B Rb es i w ho)
  rw [hb] at TC
  clear ho hb
  go_enter Try.func12, Try.ntmps12
  go_wp2_with fail
  refine TC.out.mono ?_
  rintro e w' ⟨rfl, rfl⟩
  go_wp2_with fail
  go_ret2
  exact ⟨rfl, rfl⟩
theorem own_rd {w : World} {B c n : Nat} {A : Option Addr} {l : List Int} (h : w.ownsRow B 3 1 (.slice A n c) n (ints l)) (hn : l.length = n) : Rd w w.heap.size A l := by
  subst hn
  refine ⟨by simp [ints], fun h0 => ?_⟩
  obtain ⟨g, rfl, _, _, ⟨cs, hb⟩, _, _, h3⟩ := own_cell h h0
  exact ⟨_, rfl, hb.lt, fun j u hu => by rw [add_lit]; exact h3 j u hu⟩
set_option maxRecDepth 100000 in
set_option maxHeartbeats 2000000 in
theorem Clock_yes (o B Rb n : Nat) (es : List Eo) (E : Nat → Ev) (i : Nat) (w : World) (ho : OrA w o B Rb es) (hS : Sound n E es) (hn : n ≤ 64) (hi : i < es.length) :
    Calls Try.prog 12 #[.pointer (some ⟨o, 0, none⟩), .int .i64 i] w fun e w' => ∃ v, e = .returned (.tuple #[v, .int .i64 0]) ∧ w'.ownsRow w.heap.size 3 1 v n (ints (es.getD i default).ck) ∧ Below w.heap.size w w' := by
  have TC := hide (there_c o B Rb es i w ho)
  have hb : inB es i = true := decide_eq_true (by omega)
  rw [hb] at TC
  obtain ⟨V, c, b, _, hc⟩ := ho.open_
  obtain ⟨g, rfl, c0, c1, c2, c3⟩ := hc i hi
  have b0 : w.cell? ⟨o, 0, none⟩ = some (.slice (some ⟨g, 0, none⟩) es.length c) := b.cell 0
  have ra := (ho.rows i hi).2
  have hl := hS.len i hi
  rw [getD_getE hi] at hl ⊢
  have hiI : (i : Int) < (es.length : Int) := by omega
  generalize es[i] = x at *
  obtain ⟨r, A, acap, ah, C, ccap, ck, d⟩ := x
  simp only at c2 ra hl
  have CK := hide (clone_k C ccap w.heap.size ck w (own_rd ra rfl) (Nat.le_refl _) (by omega))
  have HL := hide hl
  clear ho hS hc b hb c0 c1 c3 ra hi hl
  go_enter Try.func12, Try.ntmps12
  go_wp2_with fail
  refine TC.out.mono ?_
  rintro e w' ⟨rfl, rfl⟩
  go_wp2_with fail
  refine CK.out.mono ?_
  rintro e w' ⟨v, rfl, hv, hb⟩
  rw [HL.out] at hv
  go_wp2_with fail
  go_ret2
  exact ⟨v, rfl, hv, hb⟩
def pastL (es : List Eo) (i : Int) (k : Nat) : List Nat := (List.range k).filter fun m => aheadB es m i
theorem pastL_succ (es : List Eo) (i : Int) (k : Nat) : pastL es i (k + 1) = pastL es i k ++ (if aheadB es k i = true then [k] else []) := by
  unfold pastL
  rw [List.range_succ, List.filter_append]
  congr 1
  cases h : aheadB es k i <;> simp [h]
theorem pastL_le (es : List Eo) (i : Int) (k : Nat) : (pastL es i k).length ≤ k := by
  have := List.length_filter_le (fun (m : Nat) => aheadB es m i) (List.range k)
  unfold pastL
  simpa using this
set_option maxRecDepth 100000 in
set_option maxHeartbeats 4000000 in
theorem Past_c (o B Rb n : Nat) (es : List Eo) (E : Nat → Ev) (i : Int) (w : World) (ho : OrA w o B Rb es) (hS : Sound n E es) (hle : es.length ≤ 120) :
    Calls Try.prog 18 #[.pointer (some ⟨o, 0, none⟩), .int .i64 i] w fun e w' => ∃ v, e = .returned v ∧ w'.ownsRow w.heap.size 3 1 v (pastL es i es.length).length (ints (natI (pastL es i es.length))) ∧ Below w.heap.size w w' := by
  have MC := hide (Many_c o B Rb es w ho)
  have HO := hide ho
  have AC := hide (fun (k : Nat) (w' : World) (h : Below w.heap.size w w') => Ahead_b o B Rb n es E k i w' (ho.below h) hS)
  clear ho hS
  go_enter Try.func18, Try.ntmps18
  go_wp2_with fail
  refine MC.out.mono ?_
  rintro e w' ⟨rfl, rfl⟩
  go_wp2_with fail
  go_loopw [9, 5] (fun vi vo wr => ∃ (k : Nat) (A : Option Addr) (cap : Nat), k ≤ es.length ∧ vi = .int .i64 k ∧ vo = .slice A (pastL es i k).length cap ∧ Hid (wr.ownsRow w.heap.size 3 1 (.slice A (pastL es i k).length cap) (pastL es i k).length (ints (natI (pastL es i k)))) ∧ Hid (Below w.heap.size w wr)) (fun vi _ _ => es.length - (intOf vi).toNat)
  case atStart => exact ⟨0, none, 0, by omega, rfl, rfl, hide ⟨rfl, .inl ⟨rfl, rfl⟩⟩, hide (Below.refl _ _)⟩
  case round =>
    obtain ⟨k, A, cap, hk, rfl, rfl, OW, HB⟩ := hrel
    by_cases hlt : k < es.length
    rotate_left
    · have hltI : ¬ (k : Int) < (es.length : Int) := by omega
      obtain rfl : k = es.length := by omega
      go_wp2_with fail
      go_ret
      exact ⟨_, rfl, OW.out, HB.out⟩
    have hltI : (k : Int) < (es.length : Int) := by omega
    have AK := hide (AC.out k wr HB.out)
    have PS := hide (pastL_succ es i k)
    have PL := hide (pastL_le es i k)
    cases ha : aheadB es k i with
    | false =>
      rw [ha] at AK PS
      have PS2 := hide (show pastL es i (k + 1) = pastL es i k by rw [PS.out]; simp)
      clear ha
      go_wp2_with fail
      refine AK.out.mono ?_
      rintro e w' ⟨rfl, hb⟩
      have HB2 := hide (HB.out.trans (hb.mono HB.out.size))
      have OW2 := hide (own_belowR OW.out hb)
      clear hb
      go_wp2_with fail
      go_roundw
      case rel => exact ⟨k + 1, A, cap, by omega, by go_num, by rw [PS2.out], by rw [PS2.out]; exact OW2, HB2⟩
      case measure => simp [intOf]; omega
    | true =>
      rw [ha] at AK PS
      have PS2 := hide (show pastL es i (k + 1) = pastL es i k ++ [k] by rw [PS.out]; simp)
      clear ha
      go_wp2_with fail
      refine AK.out.mono ?_
      rintro e w2 ⟨rfl, hb⟩
      have HB2 := hide (HB.out.trans (hb.mono HB.out.size))
      have OW2 := own_belowR OW.out hb
      clear hb
      obtain ⟨A1, c1, w3, hrun, hown, hb3, _⟩ := push_int w2 w.heap.size A cap _ (natI (pastL es i k)) (k : Int) (natI_len _) OW2 HB2.out.size (by have := PL.out; omega)
      have OW3 : Hid (w3.ownsRow w.heap.size 3 1 (.slice A1 (pastL es i (k + 1)).length c1) (pastL es i (k + 1)).length (ints (natI (pastL es i (k + 1))))) := hide (by
        rw [PS2.out, List.length_append, natI_app]
        exact hown)
      have HB3 := hide (HB2.out.trans hb3)
      have PSL := hide (show (pastL es i k).length + 1 = (pastL es i (k + 1)).length by rw [PS2.out]; simp)
      clear hown hb3 OW2
      go_wp2_with (at_builtin; refine Lib.wpList_append_run _ rfl (.tmp 16) (.tmp 18) _ _ rfl _ _ rfl rfl _ w3 hrun ?_)
      go_roundw
      case rel => exact ⟨k + 1, A1, c1, by omega, by go_num, by rw [← PSL.out], OW3, HB3⟩
      case measure => simp [intOf]; omega
end Ord
end Go.Proofs.Ytflaikhkddjfjaa
