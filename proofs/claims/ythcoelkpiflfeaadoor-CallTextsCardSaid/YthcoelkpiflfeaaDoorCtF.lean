/- A text read as a call: the program. -/
import Derived.Test.YthcoelkpiflfeaaDoorRows
import Derived.Test.YthcoelkpiflfeaaDoorCtD
import Derived.Test.YthcoelkpiflfeaaDoorCtE
namespace Go.Proofs.YthcoelkpiflfeaaDoor
open Go Go.RowKit Go.Lib Go.Proofs.YthcoelkpiflfeaaDoor.Grp
set_option linter.unusedVariables false
set_option linter.unusedSimpArgs false
namespace Cal
/-- What read answers. -/
def ReadIs (s : List UInt8) (w : World) (e : Ending) (w' : World) : Prop :=
  ((readP s = none ∧ e = .returned (.tuple #[.agg (zeroC.A none 0), .bool false])) ∨ (∃ (c : Cl) (rb : Option Addr) (rd : Nat), readP s = some c ∧ e = .returned (.tuple #[.agg (c.A rb rd), .bool true]) ∧ w'.ownsRow w.heap.size 3 1 (.slice rb c.rq.length rd) c.rq.length (i64s c.rq))) ∧ Below w.heap.size w w'
theorem kP_bnd (s : List UInt8) : 0 ≤ kP s ∧ kP s ≤ 22 := by
  unfold kP TreeCallsW.callOf
  split
  · rename_i h
    have := List.idxOf_lt_length_iff.2 h
    have e : TreeCallsW.names.length = 22 := by decide
    rw [e] at this
    omega
  · omega
structure Semi (k : Int) (c : Cl) : Prop where
  kk : c.k = k
  op : 0 ≤ c.op ∧ c.op ≤ 255
  co : Told.Fit c.co
  pe : Told.Fit c.pe
  tg : Told.Fit c.tg
  va : Told.Fit c.va
  sz : Told.Fit c.sz
  ro : Told.Fit c.ro
  cl : Told.Fit c.cl
  ky : Told.Fit c.ky
  rq : c.rq = []
theorem fit_zero : Told.Fit 0 := by unfold Told.Fit; omega
theorem Semi.zero (k : Int) : Semi k { zeroC with k := k } := ⟨rfl, by simp [zeroC], fit_zero, fit_zero, fit_zero, fit_zero, fit_zero, fit_zero, fit_zero, fit_zero, rfl⟩
theorem redOf_bnd (w : List UInt8) : 0 ≤ redOf w ∧ redOf w ≤ 255 := by
  unfold redOf
  repeat' split
  all_goals omega
theorem Semi.step {k : Int} {c c' : Cl} {f : Int} {it : List UInt8} (h : Semi k c) (hf : plainF f) (e : rdS c f it = some c') : Semi k c' := by
  unfold rdS at e
  split at e
  · cases e
    exact ⟨h.kk, redOf_bnd it, h.co, h.pe, h.tg, h.va, h.sz, h.ro, h.cl, h.ky, h.rq⟩
  · rename_i h6
    split at e
    · rename_i n hn
      cases e
      have fn := pint_fit hn
      rcases hf with rfl | rfl | rfl | rfl | rfl | rfl | rfl | rfl | rfl
      · exact ⟨h.kk, h.op, fn, h.pe, h.tg, h.va, h.sz, h.ro, h.cl, h.ky, h.rq⟩
      · exact ⟨h.kk, h.op, h.co, fn, h.tg, h.va, h.sz, h.ro, h.cl, h.ky, h.rq⟩
      · exact ⟨h.kk, h.op, h.co, h.pe, fn, h.va, h.sz, h.ro, h.cl, h.ky, h.rq⟩
      · exact ⟨h.kk, h.op, h.co, h.pe, h.tg, fn, h.sz, h.ro, h.cl, h.ky, h.rq⟩
      · exact ⟨h.kk, h.op, h.co, h.pe, h.tg, h.va, fn, h.ro, h.cl, h.ky, h.rq⟩
      · exact ⟨h.kk, h.op, h.co, h.pe, h.tg, h.va, h.sz, fn, h.cl, h.ky, h.rq⟩
      · exact absurd rfl h6
      · exact ⟨h.kk, h.op, h.co, h.pe, h.tg, h.va, h.sz, h.ro, fn, h.ky, h.rq⟩
      · exact ⟨h.kk, h.op, h.co, h.pe, h.tg, h.va, h.sz, h.ro, h.cl, fn, h.rq⟩
    · cases e
theorem Semi.run {k : Int} (hp : ∀ f ∈ usedL k, plainF f) (items : List (List UInt8)) : ∀ (i : Nat) (c : Cl), i ≤ (usedL k).length → rdF k items i = some c → Semi k c
  | 0, c, _, e => by cases e; exact Semi.zero k
  | i + 1, c, hi, e => by
    rw [rdF] at e
    split at e
    · cases e
    · rename_i c0 h0
      refine (Semi.run hp items i c0 (by omega) h0).step (hp _ ?_) e
      rw [List.getD, List.getElem?_eq_getElem (by omega)]
      exact List.getElem_mem _
theorem Semi.ok {k : Int} {c : Cl} (h : Semi k c) (hk : 0 ≤ k ∧ k ≤ 255) : c.ok :=
  ⟨by rw [h.kk]; exact hk, h.op, h.co, h.pe, h.tg, h.va, h.sz, h.ro, h.cl, h.ky, by rw [h.rq]; intro z hz; cases hz⟩
theorem rqF_fit (items : List (List UInt8)) : ∀ (i : Nat) (l : List Int), rqF items i = some l → (∀ z ∈ l, Told.Fit z) ∧ l.length = i
  | 0, l, e => by cases e; exact ⟨fun z hz => (by cases hz), rfl⟩
  | i + 1, l, e => by
    rw [rqF] at e
    split at e
    · cases e
    · rename_i l0 h0
      split at e
      · rename_i n hn
        cases e
        obtain ⟨h1, h2⟩ := rqF_fit items i l0 h0
        refine ⟨fun z hz => ?_, by rw [List.length_append, h2]; rfl⟩
        rcases List.mem_append.1 hz with hz | hz
        · exact h1 z hz
        · rw [List.mem_singleton.1 hz]; exact pint_fit hn
      · cases e
theorem rdF_none (k : Int) (items : List (List UInt8)) {i : Nat} (h : rdF k items i = none) : ∀ j, i ≤ j → rdF k items j = none := by
  intro j hj
  induction j with
  | zero => have : i = 0 := by omega
            subst this; exact h
  | succ j ih =>
    by_cases he : i = j + 1
    · subst he; exact h
    · rw [rdF, ih (by omega)]
theorem rqF_none (items : List (List UInt8)) {i : Nat} (h : rqF items i = none) : ∀ j, i ≤ j → rqF items j = none := by
  intro j hj
  induction j with
  | zero => have : i = 0 := by omega
            subst this; exact h
  | succ j ih =>
    by_cases he : i = j + 1
    · subst he; exact h
    · rw [rqF, ih (by omega)]
theorem read_ok {s : List UInt8} {c : Cl} (h : readP s = some c) : c.ok ∧ c.rq.length ≤ s.length + 1 := by
  have hk := kP_bnd s
  unfold readP at h
  split at h
  · cases h
  · rename_i h0
    split at h
    · rename_i h7
      cases hq : rqF (itP s) (itP s).length with
      | none => rw [hq] at h; cases h
      | some l =>
        rw [hq] at h
        cases h
        obtain ⟨h1, h2⟩ := rqF_fit _ _ _ hq
        refine ⟨⟨by show 0 ≤ kP s ∧ kP s ≤ 255; omega, by simp [zeroC], fit_zero, fit_zero, fit_zero, fit_zero, fit_zero, fit_zero, fit_zero, fit_zero, h1⟩, ?_⟩
        show l.length ≤ _
        rw [h2]
        have e1 := (items_len (trimSuffix (cut1 40 s).2.1 [41])).2
        have e2 := trimSuf_len (cut1 40 s).2.1 [41]
        have e3 := (cut1_len 40 s).2
        unfold itP
        omega
    · rename_i h7
      split at h
      · cases h
      · rename_i hl
        have hp : ∀ f ∈ usedL (kP s), plainF f := by
          have h70 : ¬ (usedL (kP s)).getD 0 0 = 7 := by
            rcases shapes (kP s) with ⟨e, _⟩ | ⟨e, _⟩ | ⟨e, _⟩ | ⟨e, _⟩ | ⟨e, _⟩ | ⟨e, _⟩ | ⟨e, _⟩ | ⟨e, _⟩ | ⟨e, _⟩ <;> rw [e] at h0 h7 ⊢ <;> simp at h0 h7 ⊢
          exact (first_other (c := { zeroC with k := kP s }) h0 h70).2
        have hs := Semi.run hp (itP s) (itP s).length c (by omega) h
        exact ⟨hs.ok (by omega), by rw [hs.rq]; exact Nat.zero_le _⟩
theorem int_info64 : (Tryd.prog.info? 3).map (fun i => (i.zero, i.size, i.bytes)) = some (some (.int .i64 0), 1, 8) := by kernel_rfl
set_option maxRecDepth 100000 in
/-- A number put behind a row of one's own. -/
theorem push_i (w : World) (B : Nat) (A : Option Addr) (cap n : Nat) (l : List Int) (x : Int) (hn : l.length = n) (h : w.ownsRow B 3 1 (.slice A n cap) n (i64s l)) (hB : B ≤ w.heap.size) (hl : n ≤ 100000) :
    ∃ A1 c1 w1, (Builtin.append_ #[22, 22] 22 #[.slice A n cap, .slice (some ⟨w.heap.size, 0, none⟩) 1 1]).run Tryd.prog (w.alloc (.cells #[.int .i64 x] 3)) = .ok (.slice A1 (n + 1) c1) w1 ∧
      w1.ownsRow B 3 1 (.slice A1 (n + 1) c1) (n + 1) (i64s (l ++ [x])) ∧ Below B w w1 := by
  have ba := (Below.refl w.heap.size w).alloc (Nat.le_refl _) (.cells #[.int .i64 x] 3)
  have kb := Blk.new w 3 #[.int .i64 x]
  have ow := own_belowR h ba
  have hs1 : (w.alloc (.cells #[.int .i64 x] 3)).heap.size = w.heap.size + 1 := by simp
  obtain ⟨Wz, hWz⟩ : ∃ x', w.alloc (.cells #[.int .i64 x] 3) = x' := ⟨_, rfl⟩
  rw [hWz] at ba kb ow hs1 ⊢
  have hrd : Reads Wz Wz.heap.size 1 (some ⟨w.heap.size, 0, none⟩) 1 [.int .i64 x] := ⟨rfl, fun _ => ⟨_, rfl, kb.lt, fun j u hu => by rw [add_lit, kb.cell]; simpa using hu⟩⟩
  obtain ⟨i0, hi0, hz0', hz1, hz2⟩ := info_parts int_info64
  obtain ⟨v11, w11, hrun, hown, hk11, hob⟩ := run_append_any (P := Tryd.prog) Wz B 22 22 3 i0 _ 1 8 Tryd.underlying22 hi0 hz0' hz1 hz2 (by rfl) (by omega) _ _ _ ow Wz.heap.size (some ⟨w.heap.size, 0, none⟩) 1 1 _ hrd (by intro u hu; rw [List.mem_singleton.1 hu]; rfl) (by unfold maxLen; omega) (by omega) (by omega)
  obtain ⟨A11, c11, rfl⟩ := own_form hown
  exact ⟨A11, c11, w11, hrun, by rw [i64s_app]; exact hown, (ba.mono hB).grown hk11 (by omega) (fun g e => (own_block h e).1)⟩
theorem blk_str {w : World} {g : Nat} {t : TypeId} {l : List (List UInt8)} (h : Blk w g t (strC l).toArray) {j : Nat} (hj : j < l.length) : w.cell? ⟨g, j, none⟩ = some (.string (bytes (l.getD j []))) := by
  rw [h.cell]
  have := strC_at hj
  simpa using this
theorem rdS_op (c : Cl) (it : List UInt8) : rdS c 6 it = some { c with op := redOf it } := by unfold rdS; rw [if_pos rfl]
theorem rdS_num {c : Cl} {f n : Int} {it : List UInt8} (hf : ¬ f = 6) (h : parseIntB 64 it = .ok n) : rdS c f it = some (setFld c f n) := by unfold rdS; rw [if_neg hf, h]
theorem rdS_no {c : Cl} {f : Int} {it : List UInt8} (hf : ¬ f = 6) (h : ∀ n, parseIntB 64 it ≠ .ok n) : rdS c f it = none := by
  unfold rdS
  rw [if_neg hf]
  rcases hc : parseIntB 64 it with v | _ | _
  · exact absurd hc (h v)
  · rfl
  · rfl
theorem rdF_next {k : Int} {items : List (List UInt8)} {i : Nat} {c : Cl} (h : rdF k items i = some c) : rdF k items (i + 1) = rdS c ((usedL k).getD i 0) (items.getD i []) := by rw [rdF, h]
theorem rqF_yes {items : List (List UInt8)} {i : Nat} {l : List Int} {n : Int} (h : rqF items i = some l) (hn : parseIntB 64 (items.getD i []) = .ok n) : rqF items (i + 1) = some (l ++ [n]) := by rw [rqF, h]; simp only; rw [hn]
theorem rqF_no {items : List (List UInt8)} {i : Nat} {l : List Int} (h : rqF items i = some l) (hn : ∀ n, parseIntB 64 (items.getD i []) ≠ .ok n) : rqF items (i + 1) = none := by
  rw [rqF, h]
  simp only
theorem own_only {w w' : World} {B n : Nat} {e : TypeId} {v : Value} {xs : List Value} {S : List Nat} (h : w.ownsRow B e 1 v n xs) (k : Only S w w') (hS : ∀ x ∈ S, x < B) : w'.ownsRow B e 1 v n xs := by
  refine ⟨h.1, h.2.imp id ?_⟩
  rintro ⟨g, cap, cur, rfl, hge, hh, r⟩
  exact ⟨g, cap, cur, rfl, hge, (k.2 g (Array.getElem?_eq_some_iff.1 hh).1 (fun hm => by have := hS g hm; omega)).trans hh, r⟩
theorem blk_only {w w' : World} {g : Nat} {t : TypeId} {cs : Array Value} {S : List Nat} (h : Blk w g t cs) (k : Only S w w') (hS : ¬ g ∈ S) : Blk w' g t cs := (k.2 g h.lt hS).trans h
theorem put11 {w : World} {X : Nat} {t : TypeId} {a0 a1 a2 a3 a4 a5 a6 a7 a8 a9 a10 : Value} (h : Blk w X t #[a0, a1, a2, a3, a4, a5, a6, a7, a8, a9, a10]) (v0 v1 v2 v3 v4 v5 v6 v7 v8 v9 v10 : Value) : Blk (((((((((((w.setCell ⟨X, 0, none⟩ v0).setCell ⟨X, 1, none⟩ v1).setCell ⟨X, 2, none⟩ v2).setCell ⟨X, 3, none⟩ v3).setCell ⟨X, 4, none⟩ v4).setCell ⟨X, 5, none⟩ v5).setCell ⟨X, 6, none⟩ v6).setCell ⟨X, 7, none⟩ v7).setCell ⟨X, 8, none⟩ v8).setCell ⟨X, 9, none⟩ v9).setCell ⟨X, 10, none⟩ v10) X t #[v0, v1, v2, v3, v4, v5, v6, v7, v8, v9, v10] := by
  have h1 := (((((((((((h.set_ 0 v0).set_ 1 v1).set_ 2 v2).set_ 3 v3).set_ 4 v4).set_ 5 v5).set_ 6 v6).set_ 7 v7).set_ 8 v8).set_ 9 v9).set_ 10 v10)
  simpa only [List.setIfInBounds_toArray, List.set_cons_zero, List.set_cons_succ] using h1
theorem bel11 {w0 w : World} {X : Nat} (h : Below X w0 w) (v0 v1 v2 v3 v4 v5 v6 v7 v8 v9 v10 : Value) : Below X w0 (((((((((((w.setCell ⟨X, 0, none⟩ v0).setCell ⟨X, 1, none⟩ v1).setCell ⟨X, 2, none⟩ v2).setCell ⟨X, 3, none⟩ v3).setCell ⟨X, 4, none⟩ v4).setCell ⟨X, 5, none⟩ v5).setCell ⟨X, 6, none⟩ v6).setCell ⟨X, 7, none⟩ v7).setCell ⟨X, 8, none⟩ v8).setCell ⟨X, 9, none⟩ v9).setCell ⟨X, 10, none⟩ v10) :=
  (((((((((((h.setCell (p := ⟨X, 0, none⟩) (Nat.le_refl _) v0).setCell (p := ⟨X, 1, none⟩) (Nat.le_refl _) v1).setCell (p := ⟨X, 2, none⟩) (Nat.le_refl _) v2).setCell (p := ⟨X, 3, none⟩) (Nat.le_refl _) v3).setCell (p := ⟨X, 4, none⟩) (Nat.le_refl _) v4).setCell (p := ⟨X, 5, none⟩) (Nat.le_refl _) v5).setCell (p := ⟨X, 6, none⟩) (Nat.le_refl _) v6).setCell (p := ⟨X, 7, none⟩) (Nat.le_refl _) v7).setCell (p := ⟨X, 8, none⟩) (Nat.le_refl _) v8).setCell (p := ⟨X, 9, none⟩) (Nat.le_refl _) v9).setCell (p := ⟨X, 10, none⟩) (Nat.le_refl _) v10)
end Cal
end Go.Proofs.YthcoelkpiflfeaaDoor
