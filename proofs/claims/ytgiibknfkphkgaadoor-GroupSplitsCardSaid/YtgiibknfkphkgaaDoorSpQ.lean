/- A split in which all ask for one color with one key; what is asked, put one by one. -/
import Derived.Test.YtgiibknfkphkgaaDoorRows
import Derived.Test.YtgiibknfkphkgaaDoorSpL
import Derived.Test.YtgiibknfkphkgaaDoorSpN
import Derived.Test.YtgiibknfkphkgaaDoorOwn
import Derived.Lib.AppendZeros
namespace Go.Proofs.YtgiibknfkphkgaaDoor
open Go Go.RowKit Go.Proofs.YtgiibknfkphkgaaDoor.Grp
set_option linter.unusedVariables false
set_option linter.unusedSimpArgs false
namespace Sp
theorem aq_info : (Tryd.prog.info? 40).map (fun i => (i.zero, i.size, i.bytes)) = some (some (.agg #[.int .i64 0, .int .i64 0]), 2, 16) := by kernel_rfl
theorem aqC_snoc (q : List (Int × Int)) (x : Int × Int) : aqC (q ++ [x]) = aqC q ++ [.int .i64 x.1, .int .i64 x.2] := by simp [aqC]
/-- What is asked, put behind a row of one's own. -/
theorem push_ask (w : World) (B : Nat) (A : Option Addr) (cap n : Nat) (q : List (Int × Int)) (c k : Int) (hn : q.length = n) (h : w.ownsRow B 40 2 (.slice A n cap) n (aqC q)) (hB : B ≤ w.heap.size) (hl : n ≤ 1000) :
    ∃ A1 c1 w1, (Builtin.append_ #[25, 25] 25 #[.slice A n cap, .slice (some ⟨w.heap.size, 0, none⟩) 1 1]).run Tryd.prog (w.alloc (.cells #[.int .i64 c, .int .i64 k] 40)) = .ok (.slice A1 (n + 1) c1) w1 ∧
      w1.ownsRow B 40 2 (.slice A1 (n + 1) c1) (n + 1) (aqC (q ++ [(c, k)])) ∧ Below B w w1 := by
  have ba := (Below.refl w.heap.size w).alloc (Nat.le_refl _) (.cells #[.int .i64 c, .int .i64 k] 40)
  have kb := Blk.new w 40 #[.int .i64 c, .int .i64 k]
  have ow := own_belowR h ba
  have hs1 : (w.alloc (.cells #[.int .i64 c, .int .i64 k] 40)).heap.size = w.heap.size + 1 := by simp
  obtain ⟨Wz, hWz⟩ : ∃ x', w.alloc (.cells #[.int .i64 c, .int .i64 k] 40) = x' := ⟨_, rfl⟩
  rw [hWz] at ba kb ow hs1 ⊢
  have hrd : Reads Wz Wz.heap.size 2 (some ⟨w.heap.size, 0, none⟩) 1 [.int .i64 c, .int .i64 k] := ⟨rfl, fun _ => ⟨_, rfl, kb.lt, fun j u hu => by rw [add_lit, kb.cell]; simpa using hu⟩⟩
  obtain ⟨i0, hi0, hz0', hz1, hz2⟩ := info_parts aq_info
  obtain ⟨v11, w11, hrun, hown, hk11, hob⟩ := run_append_any (P := Tryd.prog) Wz B 25 25 40 i0 _ 2 16 Tryd.underlying25 hi0 hz0' hz1 hz2 (by rfl) (by omega) _ _ _ ow Wz.heap.size (some ⟨w.heap.size, 0, none⟩) 1 1 _ hrd (by intro u hu; simp only [List.mem_cons, List.not_mem_nil, or_false] at hu; rcases hu with rfl | rfl <;> rfl) (by unfold maxLen; omega) (by omega) (by omega)
  obtain ⟨A11, c11, rfl⟩ := own_form hown
  exact ⟨A11, c11, w11, hrun, by rw [aqC_snoc]; exact hown, (ba.mono hB).grown hk11 (by omega) fun g e => (own_block h e).1⟩
theorem one_ask (c k : Int) (l : List Int) (hc : 0 ≤ c) : ∀ n i : Nat, i ≤ n → askL (List.replicate n (c, k)) l i = (List.range i).map fun (j : Nat) => (⟨c, k, j, l.getD j 0⟩ : Ak)
  | n, 0, _ => rfl
  | n, i + 1, hi => by
    have hg : (List.replicate n (c, k)).getD i (0, 0) = (c, k) := by
      rw [List.getD_eq_getElem?_getD, List.getElem?_eq_getElem (by simp; omega)]
      simp
    rw [askL, one_ask c k l hc n i (by omega), hg, if_pos hc, List.range_succ, List.map_append]
    rfl
theorem no_ask (c k : Int) (l : List Int) (hc : c < 0) : ∀ n i : Nat, i ≤ n → askL (List.replicate n (c, k)) l i = []
  | n, 0, _ => rfl
  | n, i + 1, hi => by
    have hg : (List.replicate n (c, k)).getD i (0, 0) = (c, k) := by
      rw [List.getD_eq_getElem?_getD, List.getElem?_eq_getElem (by simp; omega)]
      simp
    rw [askL, no_ask c k l hc n i (by omega), hg, if_neg (by show ¬ 0 ≤ c; omega)]
    rfl
theorem one_srt (c k : Int) (l : List Int) (n : Nat) : Srt ((List.range n).map fun (j : Nat) => (⟨c, k, j, l.getD j 0⟩ : Ak)) := by
  intro i j hij hj
  rw [List.getElem_map, List.getElem_map, List.getElem_range, List.getElem_range]
  unfold ltA
  simp only
  omega
theorem one_grp (c k : Int) (l : List Int) : ∀ i : Nat, i ≤ l.length → grpN ((List.range l.length).map fun (j : Nat) => (⟨c, k, j, l.getD j 0⟩ : Ak)) i = if i = 0 then [] else [(c, l.take i)]
  | 0, _ => rfl
  | i + 1, hi => by
    have hlt : i < ((List.range l.length).map fun (j : Nat) => (⟨c, k, j, l.getD j 0⟩ : Ak)).length := by simp; omega
    rw [grpN_succ hlt, one_grp c k l i (by omega), List.getElem_map, List.getElem_range, if_neg (show ¬ i + 1 = 0 by omega), Grp.take_snoc l i (by omega)]
    by_cases h0 : i = 0
    · subst h0
      rfl
    · rw [if_neg h0]
      unfold grpS
      simp
/-- All ask for the same: one group, of the same ranks in the same order. -/
theorem one_all {c k : Int} {l : List Int} {L' : List Ak} (hl : 0 < l.length) (hc : 0 ≤ c) (hp : L'.Perm (askL (List.replicate l.length (c, k)) l (List.replicate l.length (c, k)).length)) (hs : Srt L') : grpN L' L'.length = [(c, l)] := by
  rw [List.length_replicate, one_ask c k l hc l.length l.length (Nat.le_refl _)] at hp
  have e := srt_unique hp hs (one_srt c k l l.length) (fun x hx y hy h => by
    obtain ⟨i, _, rfl⟩ := List.mem_map.1 hx
    obtain ⟨j, _, rfl⟩ := List.mem_map.1 hy
    have : i = j := Int.ofNat.inj h
    rw [this])
  rw [e]
  have := one_grp c k l l.length (Nat.le_refl _)
  rw [if_neg (by omega), List.take_length] at this
  rw [show ((List.range l.length).map fun (j : Nat) => (⟨c, k, j, l.getD j 0⟩ : Ak)).length = l.length by simp]
  exact this
theorem one_none {c k : Int} {l : List Int} {L' : List Ak} (hc : c < 0) (hp : L'.Perm (askL (List.replicate l.length (c, k)) l (List.replicate l.length (c, k)).length)) : L' = [] := by
  rw [List.length_replicate, no_ask c k l hc l.length l.length (Nat.le_refl _)] at hp
  exact hp.eq_nil
end Sp
end Go.Proofs.YtgiibknfkphkgaaDoor
