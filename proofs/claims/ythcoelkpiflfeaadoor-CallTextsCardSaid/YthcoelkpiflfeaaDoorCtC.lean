/- What the text of a call is put together of, step by step; numbers put behind a row of one's own; the words of operations as they lie. -/
import Derived.Test.YthcoelkpiflfeaaDoorRows
import Derived.Test.YthcoelkpiflfeaaDoorCtA
import Derived.Test.YthcoelkpiflfeaaDoorCalE
import Derived.Test.YthcoelkpiflfeaaDoorCalL
import Derived.Test.YthcoelkpiflfeaaDoorCalF
import Derived.Test.YthcoelkpiflfeaaDoorToldA
import Derived.Test.YthcoelkpiflfeaaDoorGround
namespace Go.Proofs.YthcoelkpiflfeaaDoor
open Go Go.RowKit Go.Lib Go.Proofs.YthcoelkpiflfeaaDoor.Grp
set_option linter.unusedVariables false
set_option linter.unusedSimpArgs false
namespace Cal
theorem own_row {w : World} {B c n : Nat} {t : TypeId} {A : Option Addr} {l : List Int} (h : w.ownsRow B t 1 (.slice A n c) n (i64s l)) (hn : l.length = n) : NRow w A l := fun h0 => by
  obtain ⟨g, hA, _, _, ⟨cs, hb⟩, _, _, hc⟩ := own_cell h (by omega)
  exact ⟨_, hA, hb.lt, fun i hi => by rw [add_lit]; exact hc i _ (i64s_at hi)⟩
theorem own_cap {w : World} {B c n : Nat} {t : TypeId} {A : Option Addr} {l : List Value} (h : w.ownsRow B t 1 (.slice A n c) n l) : n ≤ c := by
  rcases Nat.eq_zero_or_pos n with h0 | h0
  · omega
  · obtain ⟨_, _, _, _, _, _, hn, _⟩ := own_cell h h0
    exact hn
theorem i64s_app (a b : List Int) : i64s (a ++ b) = i64s a ++ i64s b := by simp [i64s]
theorem int64_info : (Tryd.prog.info? 2).map (fun i => (i.zero, i.size, i.bytes)) = some (some (.int .i64 0), 1, 8) := by kernel_rfl
theorem own_form {w : World} {B : Nat} {e : TypeId} {size n : Nat} {v : Value} {xs : List Value} (h : w.ownsRow B e size v n xs) : ∃ A c, v = .slice A n c := form_ofK h
set_option maxRecDepth 100000 in
/-- A number put behind a row of one's own. -/
theorem push_64 (w : World) (B : Nat) (A : Option Addr) (cap n : Nat) (l : List Int) (x : Int) (hn : l.length = n) (h : w.ownsRow B 2 1 (.slice A n cap) n (i64s l)) (hB : B ≤ w.heap.size) (hl : n ≤ 100000) :
    ∃ A1 c1 w1, (Builtin.append_ #[50, 50] 50 #[.slice A n cap, .slice (some ⟨w.heap.size, 0, none⟩) 1 1]).run Tryd.prog (w.alloc (.cells #[.int .i64 x] 2)) = .ok (.slice A1 (n + 1) c1) w1 ∧
      w1.ownsRow B 2 1 (.slice A1 (n + 1) c1) (n + 1) (i64s (l ++ [x])) ∧ Below B w w1 := by
  have ba := (Below.refl w.heap.size w).alloc (Nat.le_refl _) (.cells #[.int .i64 x] 2)
  have kb := Blk.new w 2 #[.int .i64 x]
  have ow := own_belowR h ba
  have hs1 : (w.alloc (.cells #[.int .i64 x] 2)).heap.size = w.heap.size + 1 := by simp
  obtain ⟨Wz, hWz⟩ : ∃ x', w.alloc (.cells #[.int .i64 x] 2) = x' := ⟨_, rfl⟩
  rw [hWz] at ba kb ow hs1 ⊢
  have hrd : Reads Wz Wz.heap.size 1 (some ⟨w.heap.size, 0, none⟩) 1 [.int .i64 x] := ⟨rfl, fun _ => ⟨_, rfl, kb.lt, fun j u hu => by rw [add_lit, kb.cell]; simpa using hu⟩⟩
  obtain ⟨i0, hi0, hz0', hz1, hz2⟩ := info_parts int64_info
  obtain ⟨v11, w11, hrun, hown, hk11, hob⟩ := run_append_any (P := Tryd.prog) Wz B 50 50 2 i0 _ 1 8 Tryd.underlying50 hi0 hz0' hz1 hz2 (by rfl) (by omega) _ _ _ ow Wz.heap.size (some ⟨w.heap.size, 0, none⟩) 1 1 _ hrd (by intro u hu; rw [List.mem_singleton.1 hu]; rfl) (by unfold maxLen; omega) (by omega) (by omega)
  obtain ⟨A11, c11, rfl⟩ := own_form hown
  exact ⟨A11, c11, w11, hrun, by rw [i64s_app]; exact hown, (ba.mono hB).grown hk11 (by omega) (fun g e => (own_block h e).1)⟩
/-- The words of operations, as they lie. -/
structure Red (w : World) : Prop where
  c : ∀ j < 3, w.cell? ⟨0, j, none⟩ = some (.string (bytes (redL j)))
  lt : 0 < w.heap.size
theorem Red.below {w w' : World} {B : Nat} (h : Red w) (hb : Below B w w') (hB : w.heap.size ≤ B) : Red w' :=
  ⟨fun j hj => (hb.cell (p := ⟨0, j, none⟩) (Nat.lt_of_lt_of_le h.lt hB)).trans (h.c j hj), Nat.lt_of_lt_of_le h.lt hb.size⟩
/- The numbers and the operation's word, after i fields. -/
def numsAt (c : Cl) (i : Nat) : List Int := (((usedL c.k).take i).filter fun f => decide (f ≠ 6)).map (numF c)
def lastAt (c : Cl) (i : Nat) : List UInt8 := if (6 : Int) ∈ (usedL c.k).take i then 44 :: 32 :: redL c.op else []
theorem numsAt_all (c : Cl) : numsAt c (usedL c.k).length = numsOf c := by unfold numsAt numsOf; rw [List.take_length]
theorem lastAt_all (c : Cl) : lastAt c (usedL c.k).length = lastT c := by
  unfold lastAt lastT hasF
  rw [List.take_length]
  simp
theorem take_snocF (l : List Int) (k : Nat) (h : k < l.length) : l.take (k + 1) = l.take k ++ [l.getD k 0] := by
  rw [List.take_succ_eq_append_getElem h, List.getD, List.getElem?_eq_getElem h]
  rfl
theorem at_op (c : Cl) (i : Nat) (h : i < (usedL c.k).length) (hf : (usedL c.k).getD i 0 = 6) : numsAt c (i + 1) = numsAt c i ∧ lastAt c (i + 1) = 44 :: 32 :: redL c.op := by
  unfold numsAt lastAt
  rw [take_snocF _ i h, hf]
  simp
theorem at_num (c : Cl) (i : Nat) (h : i < (usedL c.k).length) (hf : ¬ (usedL c.k).getD i 0 = 6) : numsAt c (i + 1) = numsAt c i ++ [numF c ((usedL c.k).getD i 0)] ∧ lastAt c (i + 1) = lastAt c i := by
  unfold numsAt lastAt
  rw [take_snocF _ i h]
  obtain ⟨f, hf'⟩ : ∃ f, (usedL c.k).getD i 0 = f := ⟨_, rfl⟩
  rw [hf'] at hf ⊢
  have hf2 : ¬ (6 : Int) = f := fun e => hf e.symm
  simp [hf, hf2]
theorem numsAt_len (c : Cl) (i : Nat) : (numsAt c i).length ≤ 5 := by
  unfold numsAt
  rw [List.length_map]
  refine Nat.le_trans (List.length_filter_le _ _) ?_
  rw [List.length_take]
  have := used_len c.k
  omega
theorem numF_fit {c : Cl} (h : c.ok) (f : Int) : Told.Fit (numF c f) := by
  unfold numF
  repeat' split
  · exact h.co
  · exact h.pe
  · exact h.tg
  · exact h.va
  · exact h.sz
  · exact h.ro
  · have := h.op; unfold Told.Fit; omega
  · exact h.cl
  · exact h.ky
theorem nums_fit {c : Cl} (h : c.ok) (i : Nat) : ∀ z ∈ numsAt c i, Told.Fit z := by
  intro z hz
  obtain ⟨f, _, rfl⟩ := List.mem_map.1 hz
  exact numF_fit h f
theorem red_len (o : Int) : (redL o).length ≤ 3 := by
  unfold redL
  split
  · decide
  · split <;> decide
theorem last_len (c : Cl) (i : Nat) : (lastAt c i).length ≤ 5 := by
  unfold lastAt
  have := red_len c.op
  split
  · simp only [List.length_cons]; omega
  · simp
/-- What Text answers. -/
def TextIs (c : Cl) (e : Ending) : Prop := (hasText c ∧ e = .returned (.tuple #[.string (bytes (textOf c)), .int .i64 0])) ∨ (¬ hasText c ∧ e = .returned (.tuple #[.string ⟨#[]⟩, .int .i64 160]))
theorem first_seven {c : Cl} (h : (usedL c.k).getD 0 0 = 7) : hasF c.k 7 = true ∧ kindR c.k := by
  have hm : (7 : Int) ∈ usedL c.k := by
    rcases shapes c.k with ⟨e, _⟩ | ⟨e, _⟩ | ⟨e, _⟩ | ⟨e, _⟩ | ⟨e, _⟩ | ⟨e, _⟩ | ⟨e, _⟩ | ⟨e, _⟩ | ⟨e, _⟩ <;> rw [e] at h ⊢ <;> simp at h ⊢
  refine ⟨decide_eq_true hm, ?_⟩
  unfold usedL at hm
  unfold kindR
  repeat' split at hm
  all_goals simp at hm
  assumption
theorem first_other {c : Cl} (h0 : usedL c.k ≠ []) (h : ¬ (usedL c.k).getD 0 0 = 7) : hasF c.k 7 = false ∧ ∀ f ∈ usedL c.k, plainF f := by
  have hm : ¬ (7 : Int) ∈ usedL c.k := by
    rcases shapes c.k with ⟨e, _⟩ | ⟨e, _⟩ | ⟨e, _⟩ | ⟨e, _⟩ | ⟨e, _⟩ | ⟨e, _⟩ | ⟨e, _⟩ | ⟨e, _⟩ | ⟨e, _⟩ <;> rw [e] at h h0 ⊢ <;> simp at h h0 ⊢
  refine ⟨decide_eq_false hm, fun f hf => ?_⟩
  rcases used_mem hf with h | rfl
  · exact h
  · exact absurd hf hm
end Cal
end Go.Proofs.YthcoelkpiflfeaaDoor
