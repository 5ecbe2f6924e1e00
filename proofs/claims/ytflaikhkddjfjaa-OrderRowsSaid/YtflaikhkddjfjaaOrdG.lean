/- A number put behind a row; the program's Ahead, Clock and Past. -/
import Derived.Test.YtflaikhkddjfjaaRows
import Derived.Test.YtflaikhkddjfjaaOrdF
import Derived.Lib.AppendZeros
import Derived.BigQuiet
import Derived.LoopN
namespace Go.Proofs.Ytflaikhkddjfjaa
open Go Go.RowKit
set_option linter.unusedVariables false
set_option linter.unusedSimpArgs false
namespace Ord
/-- A number put behind a row of one's own. -/
theorem push_int (w : World) (B : Nat) (A : Option Addr) (cap n : Nat) (l : List Int) (x : Int) (hn : l.length = n) (h : w.ownsRow B 3 1 (.slice A n cap) n (ints l)) (hB : B ≤ w.heap.size) (hl : n ≤ 1000) :
    ∃ A1 c1 w1, (Builtin.append_ #[28, 28] 28 #[.slice A n cap, .slice (some ⟨w.heap.size, 0, none⟩) 1 1]).run Try.prog (w.alloc (.cells #[.int .i64 x] 3)) = .ok (.slice A1 (n + 1) c1) w1 ∧
      w1.ownsRow B 3 1 (.slice A1 (n + 1) c1) (n + 1) (ints (l ++ [x])) ∧ Below B w w1 ∧ KeepsBut [3] w w1 ∧ (∀ g, (Value.slice A1 (n + 1) c1).ownBlock = some g → (Value.slice A n cap).ownBlock = some g ∨ w.heap.size ≤ g) ∧ (∀ (g : Nat), g < w.heap.size → (Value.slice A n cap).ownBlock ≠ some g → w1.heap[g]? = w.heap[g]?) := by
  have ba := (Below.refl w.heap.size w).alloc (Nat.le_refl _) (.cells #[.int .i64 x] 3)
  have kb := Blk.new w 3 #[.int .i64 x]
  have ow := own_belowR h ba
  have hs1 : (w.alloc (.cells #[.int .i64 x] 3)).heap.size = w.heap.size + 1 := by simp
  obtain ⟨Wz, hWz⟩ : ∃ x', w.alloc (.cells #[.int .i64 x] 3) = x' := ⟨_, rfl⟩
  rw [hWz] at ba kb ow hs1 ⊢
  have hrd : Reads Wz Wz.heap.size 1 (some ⟨w.heap.size, 0, none⟩) 1 [.int .i64 x] := ⟨rfl, fun _ => ⟨_, rfl, kb.lt, fun j u hu => by rw [add_lit, kb.cell]; simpa using hu⟩⟩
  obtain ⟨i0, hi0, hz0', hz1, hz2⟩ := info_parts int_info
  obtain ⟨v11, w11, hrun, hown, hk11, hob⟩ := run_append_any (P := Try.prog) Wz B 28 28 3 i0 _ 1 8 Try.underlying28 hi0 hz0' hz1 hz2 (by rfl) (by omega) _ _ _ ow Wz.heap.size (some ⟨w.heap.size, 0, none⟩) 1 1 _ hrd (by intro u hu; rw [List.mem_singleton.1 hu]; rfl) (by unfold maxLen; omega) (by omega) (by omega)
  obtain ⟨A11, c11, rfl⟩ := own_form hown
  refine ⟨A11, c11, w11, hrun, by rw [ints_app]; exact hown, (ba.mono hB).grown hk11 (by omega) fun g e => (own_block h e).1, (KeepsBut.of_below ba).trans (grown_keeps ow hk11), fun g hg => ?_, fun g hg hne => ?_⟩
  · rcases hob with hob | hob
    · exact .inl (hob ▸ hg)
    · rw [hob] at hg
      injection hg with hg
      exact .inr (by omega)
  · rw [hk11.block g (by omega) (fun e => hne e.symm)]
    exact ba.block g hg
def aheadB (es : List Eo) (i k : Int) : Bool := inB es i && inB es k && decide (i ≠ k) && decide ((es.getD i.toNat default).ck.getD (es.getD i.toNat default).r 0 ≤ (es.getD k.toNat default).ck.getD (es.getD i.toNat default).r 0)
theorem row_at {w : World} {B c n m k : Nat} {A : Option Addr} {l : List Int} (h : w.ownsRow B 3 1 (.slice A m c) n (ints l)) (hk : k < l.length) (hn : l.length = n) : ∃ g, A = some ⟨g, 0, none⟩ ∧ B ≤ g ∧ w.cell? ⟨g, k, none⟩ = some (.int .i64 (l.getD k 0)) := by
  obtain ⟨g, h1, h2, _, _, _, _, h3⟩ := own_cell h (by omega)
  exact ⟨g, h1, h2, h3 k _ (ints_at l k hk)⟩
set_option maxRecDepth 100000 in
set_option maxHeartbeats 4000000 in
theorem Ahead_c (o B Rb n : Nat) (es : List Eo) (E : Nat → Ev) (i k : Int) (w : World) (ho : OrA w o B Rb es) (hS : Sound n E es) :
    Calls Try.prog 17 #[.pointer (some ⟨o, 0, none⟩), .int .i64 i, .int .i64 k] w fun e w' => e = .returned (.bool (aheadB es i k)) ∧ ∃ m, w' = w.drewN m := by
  have TI := hide (there_c o B Rb es i w ho)
  have TK := hide (there_c o B Rb es k w ho)
  by_cases hi : inB es i = true
  rotate_left
  · have hi : inB es i = false := by simpa using hi
    have e : aheadB es i k = false := by simp [aheadB, hi]
    rw [e]
    rw [hi] at TI
    clear ho hi e hS
    go_enter Try.func17, Try.ntmps17
    go_wp2_with fail
    refine TI.out.mono ?_
    rintro e w' ⟨rfl, rfl⟩
    go_wp2_with fail
    go_ret
    exact ⟨rfl, 0, rfl⟩
  by_cases hk : inB es k = true
  rotate_left
  · have hk : inB es k = false := by simpa using hk
    have e : aheadB es i k = false := by simp [aheadB, hk]
    rw [e]
    rw [hi] at TI
    rw [hk] at TK
    clear ho hk e hS hi
    go_enter Try.func17, Try.ntmps17
    go_wp2_with fail
    refine TI.out.mono ?_
    rintro e w' ⟨rfl, rfl⟩
    go_wp2_with fail
    refine TK.out.mono ?_
    rintro e w' ⟨rfl, rfl⟩
    go_wp2_with fail
    go_ret
    exact ⟨rfl, 0, rfl⟩
  have hi' := of_decide_eq_true hi
  have hk' := of_decide_eq_true hk
  obtain ⟨a, rfl⟩ : ∃ a : Nat, i = a := ⟨i.toNat, by omega⟩
  obtain ⟨b, rfl⟩ : ∃ b : Nat, k = b := ⟨k.toNat, by omega⟩
  have ha : a < es.length := by omega
  have hb : b < es.length := by omega
  by_cases hab : a = b
  · have e : aheadB es a b = false := by simp [aheadB, hab]
    rw [e]
    rw [hi] at TI
    rw [hk] at TK
    subst hab
    clear ho hk e hS hi hi' hk'
    go_enter Try.func17, Try.ntmps17
    go_wp2_with fail
    refine TI.out.mono ?_
    rintro e w' ⟨rfl, rfl⟩
    go_wp2_with fail
    refine TK.out.mono ?_
    rintro e w' ⟨rfl, rfl⟩
    go_wp2_with fail
    go_ret
    exact ⟨rfl, 0, rfl⟩
  obtain ⟨V, c, bk, _, hc⟩ := ho.open_
  obtain ⟨g, rfl, c0, c1, c2, c3⟩ := hc a ha
  obtain ⟨g', e', d0, d1, d2, d3⟩ := hc b hb
  injection e' with e'
  injection e' with e' _ _
  subst e'
  have ra := (ho.rows a ha).2
  have rb := (ho.rows b hb).2
  have Sr := hS.r a ha
  have la := hS.len a ha
  have lb := hS.len b hb
  have ea : aheadB es a b = decide (es[a].ck.getD es[a].r 0 ≤ es[b].ck.getD es[a].r 0) := by
    have hne : (a : Int) ≠ (b : Int) := by omega
    simp [aheadB, hi, hk, hne, getD_getE ha, getD_getE hb, List.getD_eq_getElem?_getD, List.getElem?_eq_getElem ha, List.getElem?_eq_getElem hb]
  rw [getD_getE ha] at Sr la
  rw [getD_getE hb] at lb
  rw [ea]
  rw [hi] at TI
  rw [hk] at TK
  have hra : es[a].r < n := by rw [Sr.1]; exact Sr.2
  generalize es[a] = xa at *
  generalize es[b] = xb at *
  obtain ⟨r, A1, ac1, ah1, C1, cc1, ck1, dd1⟩ := xa
  obtain ⟨r2, A2, ac2, ah2, C2, cc2, ck2, dd2⟩ := xb
  simp only at c0 c2 d2 ra rb la lb hra
  obtain ⟨ga, rfl, _, ka⟩ := row_at ra (show r < ck1.length by omega) rfl
  obtain ⟨gb, rfl, _, kb⟩ := row_at rb (show r < ck2.length by omega) rfl
  have b0 : w.cell? ⟨o, 0, none⟩ = some (.slice (some ⟨g, 0, none⟩) es.length c) := bk.cell 0
  have l1 : (r : Int) < (ck1.length : Int) := by omega
  have l2 : (r : Int) < (ck2.length : Int) := by omega
  have habI : ¬ (a : Int) = (b : Int) := by omega
  have haI : (a : Int) < (es.length : Int) := by omega
  have hbI : (b : Int) < (es.length : Int) := by omega
  show Calls _ _ _ _ fun e w' => e = .returned (.bool (decide (ck1.getD r 0 ≤ ck2.getD r 0))) ∧ _
  generalize ck1.getD r 0 = z1 at *
  generalize ck2.getD r 0 = z2 at *
  clear ho hk hS hi hi' hk' ra rb la lb Sr hc bk ea hra c1 c3 d0 d1 d3 hab
  go_enter Try.func17, Try.ntmps17
  go_wp2_with fail
  refine TI.out.mono ?_
  rintro e w' ⟨rfl, rfl⟩
  go_wp2_with fail
  refine TK.out.mono ?_
  rintro e w' ⟨rfl, rfl⟩
  go_wp2_with fail
  go_quiet (fail)
  go_wp2_with fail
  go_ret
  exact ⟨rfl, _, rfl⟩
theorem Ahead_b (o B Rb n : Nat) (es : List Eo) (E : Nat → Ev) (i k : Int) (w : World) (ho : OrA w o B Rb es) (hS : Sound n E es) :
    Calls Try.prog 17 #[.pointer (some ⟨o, 0, none⟩), .int .i64 i, .int .i64 k] w fun e w' => e = .returned (.bool (aheadB es i k)) ∧ Below w.heap.size w w' :=
  (Ahead_c o B Rb n es E i k w ho hS).mono fun _ _ ⟨h1, m, h2⟩ => ⟨h1, by rw [h2]; exact below_drewN (Below.refl _ _) m⟩
end Ord
end Go.Proofs.Ytflaikhkddjfjaa
