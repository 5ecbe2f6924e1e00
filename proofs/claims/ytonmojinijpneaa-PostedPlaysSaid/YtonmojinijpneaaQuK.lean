/- slices.Insert at rows of numbers of one's own, one number. -/
import Derived.Test.YtonmojinijpneaaRows
import Derived.Test.YtonmojinijpneaaQuJ
import Derived.Shelf.Spec.SlicesInsertGrow
namespace Go.Proofs.Ytonmojinijpneaa
open Go Go.RowKit Go.Lib
set_option linter.unusedVariables false
set_option linter.unusedSimpArgs false
namespace Qu
def insRen : Go.Shelf.Ren := ⟨fun | 21 => 63 | 27 => 85 | 28 => 86 | 35 => 99 | 39 => 106 | n => n, fun | 22 => 116 | 3 => 3 | 4 => 4 | 0 => 0 | n => n, fun | n => n⟩
theorem insLays : Go.Proofs.Lays2.n21 Try.prog insRen := {
  mixed := by kernel_rfl
  f21 := Try.func63.trans (congrArg some (by kernel_rfl))
  f27 := Try.func85.trans (congrArg some (by kernel_rfl))
  f28 := Try.func86.trans (congrArg some (by kernel_rfl))
  f35 := Try.func99.trans (congrArg some (by kernel_rfl))
  f39 := Try.func106.trans (congrArg some (by kernel_rfl))
  t0 := Try.underlying0
  a0 := Try.isAgg0
  z0 := Try.sizeOf0
  v0 := Try.zeroValue0
  t3 := Try.underlying3
  a3 := Try.isAgg3
  z3 := Try.sizeOf3
  v3 := Try.zeroValue3
  t4 := Try.underlying4
  a4 := Try.isAgg4
  z4 := Try.sizeOf4
  v4 := Try.zeroValue4
  t22 := Try.underlying116
  a22 := Try.isAgg116
  z22 := Try.sizeOf116
  v22 := Try.zeroValue116
  i3 := int_infoQ }
def setAll (cs : Array Value) : Nat → List Value → Array Value
  | _, [] => cs
  | o, v :: r => setAll (cs.setIfInBounds o v) (o + 1) r
theorem setAll_size : ∀ (vs : List Value) (cs : Array Value) (o : Nat), (setAll cs o vs).size = cs.size
  | [], _, _ => rfl
  | v :: r, cs, o => by rw [setAll, setAll_size r]; simp
theorem setAll_blk {g : Nat} {t : TypeId} : ∀ (vs : List Value) (o : Nat) {w : World} {cs : Array Value}, Blk w g t cs → Blk (w.setCells g o vs) g t (setAll cs o vs)
  | [], _, _, _, h => h
  | v :: r, o, w, cs, h => setAll_blk r (o + 1) (h.set_ o v)
theorem setAll_get : ∀ (vs : List Value) (cs : Array Value) (o k : Nat), o + vs.length ≤ cs.size → (setAll cs o vs)[k]? = if o ≤ k ∧ k < o + vs.length then vs[k - o]? else cs[k]?
  | [], cs, o, k, _ => by rw [if_neg (by simp)]; rfl
  | v :: r, cs, o, k, h => by
    rw [List.length_cons] at h
    rw [setAll, setAll_get r _ (o + 1) k (by simp; omega), List.length_cons]
    by_cases h1 : o + 1 ≤ k ∧ k < o + 1 + r.length
    · rw [if_pos h1, if_pos (by omega)]
      have e : k - o = (k - (o + 1)) + 1 := by omega
      rw [e, List.getElem?_cons_succ]
    · rw [if_neg h1]
      by_cases h2 : k = o
      · subst h2
        rw [if_pos (by omega)]
        simp [show k < cs.size by omega]
      · rw [if_neg (by omega)]
        rw [Array.getElem?_setIfInBounds, if_neg (by omega)]
theorem setAll_list (vs : List Value) (cs : Array Value) (o : Nat) (h : o + vs.length ≤ cs.size) : (setAll cs o vs).toList = cs.toList.take o ++ (vs ++ cs.toList.drop (o + vs.length)) := by
  apply List.ext_getElem?
  intro k
  rw [Array.getElem?_toList, setAll_get vs cs o k h]
  have ho : (cs.toList.take o).length = o := by simp; omega
  by_cases h1 : k < o
  · rw [if_neg (by omega), List.getElem?_append_left (by omega), List.getElem?_take, if_pos h1, Array.getElem?_toList]
  · rw [List.getElem?_append_right (by omega), ho]
    by_cases h2 : k < o + vs.length
    · rw [if_pos (by omega), List.getElem?_append_left (by omega)]
    · rw [if_neg (by omega), List.getElem?_append_right (by omega), List.getElem?_drop, Array.getElem?_toList]
      congr 1
      omega
theorem ch_setCells {g : Nat} {S : List Nat} (hg : g ∈ S) {w0 : World} : ∀ (vs : List Value) (o : Nat) {w : World}, Ch S w0 w → Ch S w0 (w.setCells g o vs)
  | [], _, _, h => h
  | v :: r, o, w, h => ch_setCells hg r (o + 1) (h.trans (Ch.set_ w (p := ⟨g, o, none⟩) v hg))
theorem blk_shape {w : World} {g : Nat} {t : TypeId} {cs : Array Value} (h : Blk w g t cs) : w.shape? g = some (t, cs.size) := by
  unfold Blk at h
  simp [World.shape?, h]
/-- Where room is: what stands from i on goes one place on, then x comes in. -/
theorem ins_room (cur : Array Value) (l : List Value) (i c : Nat) (x : Value) (hi : i ≤ l.length) (hc : l.length + 1 ≤ c) (hs : cur.size = c) (ht : cur.toList.take l.length = l) :
    (setAll (setAll cur (i + 1) (l.drop i)) i [x]).toList.take (l.length + 1) = l.take i ++ x :: l.drop i := by
  have hL : cur.toList.length = c := by simpa using hs
  have hd : (l.drop i).length = l.length - i := List.length_drop
  apply List.ext_getElem?
  intro k
  rw [List.getElem?_take]
  by_cases hk : k < l.length + 1
  · rw [if_pos hk, Array.getElem?_toList, setAll_get _ _ _ _ (by rw [setAll_size, List.length_singleton]; omega), List.length_singleton]
    by_cases h1 : k = i
    · subst h1
      rw [if_pos (by omega), List.getElem?_append_right (by rw [List.length_take]; omega), List.length_take]
      simp [Nat.min_eq_left hi]
    · rw [if_neg (by omega), setAll_get _ _ _ _ (by omega), hd]
      by_cases h2 : k < i
      · rw [if_neg (by omega), List.getElem?_append_left (by rw [List.length_take]; omega), List.getElem?_take, if_pos h2, ← Array.getElem?_toList]
        conv => rhs; rw [← ht]
        rw [List.getElem?_take, if_pos (by omega)]
      · rw [if_pos (by omega), List.getElem?_append_right (by rw [List.length_take]; omega), List.length_take, Nat.min_eq_left hi]
        have e : k - i = (k - (i + 1)) + 1 := by omega
        rw [e, List.getElem?_cons_succ]
  · rw [if_neg hk, List.getElem?_eq_none]
    rw [List.length_append, List.length_take, List.length_cons, hd]
    omega
/-- Where none is: a new row. -/
theorem ins_grow (cur : Array Value) (l : List Value) (i c : Nat) (x : Value) (hi : i ≤ l.length) (hc : l.length + 1 ≤ c) (hs : cur.size = c) (ht : cur.toList.take i = l.take i) :
    (setAll (setAll cur i [x]) (i + 1) (l.drop i)).toList.take (l.length + 1) = l.take i ++ x :: l.drop i := by
  have hd : (l.drop i).length = l.length - i := List.length_drop
  apply List.ext_getElem?
  intro k
  rw [List.getElem?_take]
  by_cases hk : k < l.length + 1
  · rw [if_pos hk, Array.getElem?_toList, setAll_get _ _ _ _ (by rw [setAll_size, hd]; omega), hd]
    by_cases h1 : i < k
    · rw [if_pos (by omega), List.getElem?_append_right (by rw [List.length_take]; omega), List.length_take, Nat.min_eq_left hi]
      have e : k - i = (k - (i + 1)) + 1 := by omega
      rw [e, List.getElem?_cons_succ]
    · rw [if_neg (by omega), setAll_get _ _ _ _ (by rw [List.length_singleton]; omega), List.length_singleton]
      by_cases h2 : k = i
      · subst h2
        rw [if_pos (by omega), List.getElem?_append_right (by rw [List.length_take]; omega), List.length_take]
        simp [Nat.min_eq_left hi]
      · rw [if_neg (by omega), List.getElem?_append_left (by rw [List.length_take]; omega), ← ht, List.getElem?_take, if_pos (by omega), Array.getElem?_toList]
  · rw [if_neg hk, List.getElem?_eq_none]
    rw [List.length_append, List.length_take, List.length_cons, hd]
    omega
theorem ints_one (l : List Int) : ∀ u ∈ ints l, u.oneCell' = true := fun u hu => by
  obtain ⟨z, _, rfl⟩ := List.mem_map.1 hu
  rfl
theorem ints_ins (l : List Int) (i : Nat) (x : Int) : ints (l.take i ++ x :: l.drop i) = (ints l).take i ++ .int .i64 x :: (ints l).drop i := by simp [ints, List.map_take, List.map_drop]
theorem own_new {w : World} {g G n : Nat} {cs : Array Value} {xs : List Value} (h : Blk w g 3 cs) (hG : n ≤ G) (hM : G ≤ maxLen) (hs : cs.size = G) (ht : cs.toList.take n = xs) (hx : xs.length = n) : w.ownsRow 0 3 1 (.slice (some ⟨g, 0, none⟩) n G) n xs :=
  ⟨by omega, .inr ⟨g, G, cs, rfl, Nat.zero_le _, h, hG, hM, by omega, by rw [Nat.mul_one]; exact ht⟩⟩
theorem Insert_n (w : World) (A : Option Addr) (c n : Nat) (l : List Int) (i : Nat) (x : Int) (xb : Nat) (hi : i ≤ n) (hn : l.length = n) (hl : n ≤ 1000) (hown : w.ownsRow 0 3 1 (.slice A n c) n (ints l)) (hx : Blk w xb 3 #[.int .i64 x]) (hne : ∀ a, A = some a → a.block ≠ xb) :
    Calls Try.prog 63 #[.slice A n c, .int .i64 i, .slice (some ⟨xb, 0, none⟩) 1 1] w fun e w' => ∃ g c', e = .returned (.slice (some ⟨g, 0, none⟩) (n + 1) c') ∧ w'.ownsRow 0 3 1 (.slice (some ⟨g, 0, none⟩) (n + 1) c') (n + 1) (ints (l.take i ++ x :: l.drop i)) ∧ ((A = some ⟨g, 0, none⟩ ∧ Ch [g] w w') ∨ (w.heap.size ≤ g ∧ Below w.heap.size w w')) := by
  have hvs : ∀ (j : Nat) (v : Value), [Value.int .i64 x][j]? = some v → w.cell? ⟨xb, 0 + j, none⟩ = some v := fun j v hv => by
    rw [Nat.zero_add, hx.cell]
    simpa using hv
  have h1v : ∀ v ∈ [Value.int .i64 x], v.oneCell' = true := fun v hv => by rw [List.mem_singleton.1 hv]; rfl
  have hil : (ints l).length = n := by rw [ints_len, hn]
  have hGm : ∀ w : World, grownCap w (n + 1) c 3 ≤ maxLen := fun w => grownCap_le_maxLen w (n + 1) c 3 (by unfold maxLen; omega)
  have hGe : ∀ w : World, n + 1 ≤ grownCap w (n + 1) c 3 := fun w => grownCap_ge w _ _ _
  have hzc : (Value.int .i64 0).cells.size = 1 := rfl
  have hlen : (ints (l.take i ++ x :: l.drop i)).length = n + 1 := by rw [ints_len, List.length_append, List.length_cons, List.length_take, List.length_drop]; omega
  have hnc : n ≤ c := by
    rcases hown.2 with ⟨h, h0⟩ | ⟨g, cap, cur, h, _, _, h1, _⟩
    · injection h with _ h1 h2; omega
    · injection h with _ h2 h3; omega
  have hcm : c ≤ maxLen := by
    rcases hown.2 with ⟨h, h0⟩ | ⟨g, cap, cur, h, _, _, h1, h2, _⟩
    · injection h with _ h1 h2; unfold maxLen; omega
    · injection h with _ h3 h4; omega
  have hcs : ∀ (j : Nat) (v : Value) (g : Nat), A = some ⟨g, 0, none⟩ → (ints l)[j]? = some v → w.cell? ⟨g, j, none⟩ = some v := fun j v g hA hv => by
    have h0 : 0 < n := by have := (List.getElem?_eq_some_iff.1 hv).1; omega
    obtain ⟨g', hA', _, _, _, _, _, hc⟩ := own_cell hown h0
    rw [hA] at hA'
    cases hA'
    exact hc j v hv
  -- at the end, no room
  have GROW : ∀ (hie : i = n) (hroom : c < n + 1), Calls Try.prog 63 #[.slice A n c, .int .i64 i, .slice (some ⟨xb, 0, none⟩) 1 1] w fun e w' => ∃ g c', e = .returned (.slice (some ⟨g, 0, none⟩) (n + 1) c') ∧ w'.ownsRow 0 3 1 (.slice (some ⟨g, 0, none⟩) (n + 1) c') (n + 1) (ints (l.take i ++ x :: l.drop i)) ∧ ((A = some ⟨g, 0, none⟩ ∧ Ch [g] w w') ∨ (w.heap.size ≤ g ∧ Below w.heap.size w w')) := fun hie hroom => by
    subst hie
    have hA : ∀ a, A = some a → ∃ g, a = ⟨g, 0, none⟩ := fun a ha => by
      rcases hown.2 with ⟨hv, _⟩ | ⟨g, _, _, hv, _⟩
      · injection hv with hv; rw [hv] at ha; cases ha
      · injection hv with hv; rw [hv] at ha; cases ha; exact ⟨g, rfl⟩
    have K := Go.Proofs.Any2.slices_Insert_int_end_grow insLays A i c xb 0 1 1 (ints l) [.int .i64 x] w (by omega) hnc hroom (by omega) hil rfl (fun h0 => by
        rcases hown.2 with ⟨hv, h1⟩ | ⟨g, _, _, hv, _⟩
        · exact h1
        · injection hv with hv; rw [hv] at h0; cases h0)
      (fun a ha j v hv => by obtain ⟨g, rfl⟩ := hA a ha; rw [add_lit]; exact hcs j v g ha hv) hvs h1v
    refine K.mono ?_
    rintro e w' ⟨rfl, rfl⟩
    refine ⟨w.heap.size, _, rfl, own_new (Blk.new w.drew _ _) (hGe w) (hGm w) ?_ ?_ hlen, .inr ⟨Nat.le_refl _, (Below.refl _ _).drew.alloc (Nat.le_refl _) _⟩⟩
    · have := hGe w
      simp only [Array.size_append, size_zeroCells, hzc, List.size_toArray, List.length_append, hil, List.length_singleton]
      show i + 1 + (grownCap w (i + 1) c 3 - (i + 1)) * 1 = grownCap w (i + 1) c 3
      omega
    · have e1 : ints (l.take i ++ x :: l.drop i) = ints l ++ [.int .i64 x] := by rw [← hn, List.take_length, List.drop_length, ints_app]; rfl
      rw [e1]
      simp only [Array.toList_append]
      have : i + 1 = (ints l ++ [Value.int .i64 x]).length := by rw [List.length_append, hil]; rfl
      conv => lhs; rw [this]
      exact List.take_left
  rcases hown.2 with ⟨hv, h0⟩ | ⟨g, cap, cur, hv, _, hh, hnc', hcm', hcsz, htk⟩
  · injection hv with hA h2 h3
    exact GROW (by omega) (by omega)
  injection hv with hA _ hcap
  subst hA hcap
  have hB : Blk w g 3 cur := hh
  rw [Nat.mul_one] at hcsz htk
  by_cases hr : n + 1 ≤ c
  rotate_left
  · by_cases hie : i = n
    · exact GROW hie (by omega)
    · have K := Go.Proofs.Any2.slices_Insert_int_grow insLays g 0 n c i xb 0 1 1 (ints l) [.int .i64 x] w (by omega) (by omega) hnc (by omega) (by omega) hil rfl (fun j v hv => by rw [Nat.zero_add]; exact hcs j v g rfl hv) hvs (ints_one l) h1v
      refine K.mono ?_
      rintro e w' ⟨rfl, rfl⟩
      have bk := setAll_blk ((ints l).drop i) (i + 1) (setAll_blk [Value.int .i64 x] i (Blk.new w 3 (((ints l).take i).toArray ++ Builtin.zeroCells (Value.int .i64 0).cells (n + 1 - i) ++ Builtin.zeroCells (Value.int .i64 0).cells (grownCap w (n + 1) c 3 - (n + 1)))).drew).drew
      have hsz : (((ints l).take i).toArray ++ Builtin.zeroCells (Value.int .i64 0).cells (n + 1 - i) ++ Builtin.zeroCells (Value.int .i64 0).cells (grownCap w (n + 1) c 3 - (n + 1))).size = grownCap w (n + 1) c 3 := by
        have := hGe w
        simp only [Array.size_append, size_zeroCells, hzc, List.size_toArray, List.length_take, hil]
        omega
      have hch : ∀ (vs : List Value) (o : Nat) (w1 : World), Below w.heap.size w w1 → Below w.heap.size w (w1.setCells w.heap.size o vs) := fun vs => by
        induction vs with
        | nil => intro o w1 h; exact h
        | cons v vs ih => intro o w1 h; exact ih (o + 1) _ (h.setCell (p := ⟨w.heap.size, o, none⟩) (Nat.le_refl _) v)
      refine ⟨w.heap.size, _, rfl, own_new bk (hGe w) (hGm w) (by rw [setAll_size, setAll_size]; exact hsz) ?_ hlen, .inr ⟨Nat.le_refl _, hch _ _ _ (hch _ _ _ ((Below.refl _ _).alloc (Nat.le_refl _) _).drew).drew⟩⟩
      rw [ints_ins]
      have h3 := ins_grow _ (ints l) i (grownCap w (n + 1) c 3) (.int .i64 x) (by rw [hil]; exact hi) (by rw [hil]; exact hGe w) hsz (by
        simp only [Array.toList_append, List.append_assoc]
        exact List.take_left' (by rw [List.length_take, hil]; omega))
      rw [hil] at h3
      exact h3
  · by_cases hie : i = n
    · subst hie
      have K := Go.Proofs.Any2.slices_Insert_int_end_room insLays g 0 i c xb 0 1 1 [.int .i64 x] w (by omega) hr (by unfold maxLen at hcm; omega) rfl
        (fun j hj => by
          have : w.cell? ⟨g, 0 + i + j, none⟩ = cur[0 + i + j]? := hB.cell _
          rw [this, Array.getElem?_eq_getElem (by omega)]; rfl)
        (fun j hj => hB.frozen _) hvs h1v
      refine K.mono ?_
      rintro e w' ⟨rfl, rfl⟩
      have bk := setAll_blk [Value.int .i64 x] (0 + i) hB
      refine ⟨g, c, rfl, own_new bk hr hcm (by rw [setAll_size]; exact hcsz) ?_ hlen, .inl ⟨rfl, ch_setCells (List.mem_singleton.2 rfl) _ _ (Ch.refl _ _)⟩⟩
      have e1 : ints (l.take i ++ x :: l.drop i) = ints l ++ [.int .i64 x] := by rw [← hn, List.take_length, List.drop_length, ints_app]; rfl
      rw [e1, setAll_list _ _ _ (by rw [List.length_singleton]; omega), Nat.zero_add, htk, ← List.append_assoc]
      have : i + 1 = (ints l ++ [Value.int .i64 x]).length := by rw [List.length_append, hil]; rfl
      conv => lhs; rw [this]
      exact List.take_left
    · have K := Go.Proofs.Any2.slices_Insert_int_shift insLays g 0 n c i xb 0 1 1 (ints l) [.int .i64 x] w (by omega) (by omega) hr (by unfold maxLen at hcm; omega) (fun e => hne _ rfl e.symm) hil rfl (fun j v hv => by rw [Nat.zero_add]; exact hcs j v g rfl hv)
        (fun j hj => by
          have : w.cell? ⟨g, 0 + j, none⟩ = cur[0 + j]? := hB.cell _
          rw [this, Array.getElem?_eq_getElem (by omega)]; rfl)
        (fun j hj => hB.frozen _) hvs (ints_one l) h1v 3 3 1 cur.size (blk_shape hx) (blk_shape hB) (by omega) (hx.frozen _) (hx.frozen _)
      refine K.mono ?_
      rintro e w' ⟨rfl, rfl⟩
      have bk := setAll_blk [Value.int .i64 x] (0 + i) (setAll_blk ((ints l).drop i) (0 + (i + 1)) hB.drew)
      rw [Nat.zero_add, Nat.zero_add] at bk ⊢
      refine ⟨g, c, rfl, own_new bk hr hcm (by rw [setAll_size, setAll_size]; exact hcsz) ?_ hlen, .inl ⟨rfl, ch_setCells (List.mem_singleton.2 rfl) _ _ (ch_setCells (List.mem_singleton.2 rfl) _ _ (Ch.of_below (Below.refl _ _).drew))⟩⟩
      rw [ints_ins]
      have h3 := ins_room cur (ints l) i c (.int .i64 x) (by rw [hil]; exact hi) (by rw [hil]; exact hr) hcsz (by rw [hil]; exact htk)
      rw [hil] at h3
      exact h3
end Qu
end Go.Proofs.Ytonmojinijpneaa
