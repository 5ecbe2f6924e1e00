/- A copy of a queue: how it lies while it is made; slices.Clone. -/
import Derived.Test.YtomladbdebfikaaRows
import Derived.Test.YtomladbdebfikaaQuXd
import Derived.Test.YtomladbdebfikaaQuL
import Derived.Test.YtomladbdebfikaaQuJ
import Derived.Test.YtomladbdebfikaaQuU
import Derived.Laws.Cover3
namespace Go.Proofs.Ytomladbdebfikaa
open Go Go.RowKit Go.Lib
set_option linter.unusedVariables false
set_option linter.unusedSimpArgs false
namespace SMap
variable {κ : Type} [DecidableEq κ]
theorem look_perm {l k : List (κ × Value)} (h : l.Perm k) (hn : (l.map (·.1)).Nodup) (c : κ) : look l c = look k c := by
  have hk : (k.map (·.1)).Nodup := ((h.map (·.1)).nodup_iff).1 hn
  cases hl : look k c with
  | some v => exact mem_look l hn (c, v) (h.mem_iff.2 (look_mem k c v hl))
  | none =>
    have h1 : ¬ c ∈ k.map (·.1) := fun hm => (look_keys k c).1 hm hl
    cases h2 : look l c with
    | none => rfl
    | some v => exact absurd ((h.map (·.1)).mem_iff.1 ((look_keys l c).2 (by rw [h2]; simp))) h1
end SMap
namespace Qu
/-- The copy, its maps half full. -/
structure CSt (w : World) (B q : Nat) (L : QL) (l : List Msg) : Prop where
  blk : Blk w q 61 #[.map (some L.cm), .map (some L.pm), .map (some L.sm)]
  mc : SMap.MB chV w L.cm (L.cl.map fun p => (p.1, rowV (rowsOf l p.1) p.2))
  mp : SMap.MB whV w L.pm (L.pl.map fun p => (p.1, plV p.2))
  ms : SMap.MB inV w L.sm (L.sl.map fun p => (p.1, slV (fromsOf l p.1) p.2))
  fd : (L.foot q).Nodup
  lo : ∀ b ∈ L.foot q, B ≤ b
  crow : ∀ p ∈ L.cl, w.ownsRow 0 31 8 (.slice (some ⟨p.2.g, 0, none⟩) (rowsOf l p.1).length p.2.cap) (rowsOf l p.1).length (msgCs (rowsOf l p.1))
  srow : ∀ p ∈ L.sl, w.ownsRow 0 3 1 (.slice (some ⟨p.2.g, 0, none⟩) (fromsOf l p.1).length p.2.cap) (fromsOf l p.1).length (ints (fromsOf l p.1))
variable {w w' : World} {B q : Nat} {L : QL} {l : List Msg}
theorem CSt.keep (h : CSt w B q L l) (hk : ∀ b ∈ L.foot q, w'.heap[b]? = w.heap[b]?) : CSt w' B q L l :=
  ⟨(hk _ foot_q).trans h.blk, (hk _ foot_c).trans h.mc, (hk _ foot_p).trans h.mp, (hk _ foot_s).trans h.ms, h.fd, h.lo,
    fun p hp => own_heap (h.crow p hp) (hk _ (foot_row hp)), fun p hp => own_heap (h.srow p hp) (hk _ (foot_srow hp))⟩
theorem CSt.lt (h : CSt w B q L l) : ∀ b ∈ L.foot q, b < w.heap.size := fun b hb => by
  unfold QL.foot at hb
  rcases List.mem_cons.1 hb with rfl | hb
  · exact h.blk.lt
  rcases List.mem_cons.1 hb with rfl | hb
  · exact h.mc.lt
  rcases List.mem_cons.1 hb with rfl | hb
  · exact h.mp.lt
  rcases List.mem_cons.1 hb with rfl | hb
  · exact h.ms.lt
  rcases List.mem_append.1 hb with hb | hb
  · obtain ⟨p, hp, rfl⟩ := List.mem_map.1 hb
    exact own_in (h.crow p hp)
  · obtain ⟨p, hp, rfl⟩ := List.mem_map.1 hb
    exact own_in (h.srow p hp)
theorem CSt.below (h : CSt w B q L l) (hb : Below w.heap.size w w') : CSt w' B q L l := h.keep fun b hm => hb.block b (h.lt b hm)
theorem CSt.grown (h : CSt w B q L l) {r : Nat} (hg : w.grownBy w' (some r)) (hr : ¬ r ∈ L.foot q) : CSt w' B q L l := h.keep fun b hm => hg.block b (h.lt b hm) fun e => hr (by injection e with e; rw [← e]; exact hm)
/-- A channel more. -/
theorem CSt.addC (h : CSt w B q L l) {c : Chan} {x : CRow} (hB : B ≤ x.g) (hg : ¬ x.g ∈ L.foot q) (hn : ¬ c ∈ L.cl.map (·.1))
    (ho : w.ownsRow 0 31 8 (.slice (some ⟨x.g, 0, none⟩) (rowsOf l c).length x.cap) (rowsOf l c).length (msgCs (rowsOf l c)))
    (hm : SMap.MB chV w' L.cm (SMap.put (L.cl.map fun p => (p.1, rowV (rowsOf l p.1) p.2)) c (rowV (rowsOf l c) x))) (hgr : w.grownBy w' (some L.cm)) :
    CSt w' B q { L with cl := L.cl ++ [(c, x)] } l := by
  have hl : SMap.look (L.cl.map fun p => (p.1, rowV (rowsOf l p.1) p.2)) c = none := look_off (fun c x => rowV (rowsOf l c) x) hn
  rw [SMap.put_new _ _ _ hl] at hm
  have hnd := h.fd
  unfold QL.foot at hnd hg
  have hk : ∀ b ∈ L.foot q, b ≠ L.cm → w'.heap[b]? = w.heap[b]? := fun b hb hne => hgr.block b (h.lt b hb) fun e => hne (by injection e)
  have hcm : ∀ b ∈ L.foot q, b = q ∨ b = L.pm ∨ b = L.sm ∨ b ∈ L.cl.map (·.2.g) ∨ b ∈ L.sl.map (·.2.g) → b ≠ L.cm := fun b hb hor e => by
    subst e
    simp only [List.nodup_cons, List.mem_cons, List.mem_append, not_or] at hnd
    obtain ⟨⟨h1, h2, h3, h4, h5⟩, ⟨h6, h7, h8, h9⟩, _⟩ := hnd
    rcases hor with e | e | e | e | e
    · exact h1 e.symm
    · exact h6 e
    · exact h7 e
    · exact h8 e
    · exact h9 e
  refine ⟨(hk _ foot_q (hcm _ foot_q (.inl rfl))).trans h.blk, ?_, (hk _ foot_p (hcm _ foot_p (.inr (.inl rfl)))).trans h.mp, (hk _ foot_s (hcm _ foot_s (.inr (.inr (.inl rfl))))).trans h.ms, ?_, ?_, ?_, ?_⟩
  · show SMap.MB chV w' L.cm ((L.cl ++ [(c, x)]).map fun p => (p.1, rowV (rowsOf l p.1) p.2))
    rw [List.map_append]
    exact hm
  · show (q :: L.cm :: L.pm :: L.sm :: ((L.cl ++ [(c, x)]).map (·.2.g) ++ L.sl.map (·.2.g))).Nodup
    have e : q :: L.cm :: L.pm :: L.sm :: ((L.cl ++ [(c, x)]).map (·.2.g) ++ L.sl.map (·.2.g)) = (q :: L.cm :: L.pm :: L.sm :: L.cl.map (·.2.g)) ++ x.g :: L.sl.map (·.2.g) := by simp
    rw [e, nodup_mid]
    have e2 : (q :: L.cm :: L.pm :: L.sm :: L.cl.map (·.2.g)) ++ L.sl.map (·.2.g) = q :: L.cm :: L.pm :: L.sm :: (L.cl.map (·.2.g) ++ L.sl.map (·.2.g)) := by simp
    rw [e2]
    exact ⟨hg, hnd⟩
  · intro b hb
    have : b ∈ L.foot q ∨ b = x.g := by
      unfold QL.foot at hb ⊢
      simp only [List.mem_cons, List.mem_append, List.map_append, List.map_cons, List.map_nil, List.not_mem_nil, or_false] at hb ⊢
      rcases hb with h | h | h | h | (h | h) | h <;> simp [h]
    rcases this with h1 | rfl
    · exact h.lo b h1
    · exact hB
  · intro p hp
    rcases List.mem_append.1 hp with hp | hp
    · exact own_heap (h.crow p hp) (hk _ (foot_row hp) (hcm _ (foot_row hp) (.inr (.inr (.inr (.inl (List.mem_map_of_mem (f := fun p : Chan × CRow => p.2.g) hp)))))))
    · rw [List.mem_singleton.1 hp]
      refine own_heap ho (hgr.block x.g (own_in ho) fun e => hg ?_)
      injection e with e
      rw [e]
      simp
  · intro p hp
    exact own_heap (h.srow p hp) (hk _ (foot_srow hp) (hcm _ (foot_srow hp) (.inr (.inr (.inr (.inr (List.mem_map_of_mem (f := fun p : Inb × SRow => p.2.g) hp)))))))
/-- A place more. -/
theorem CSt.addP (h : CSt w B q L l) {c : Who} {x : PRow} (hn : ¬ c ∈ L.pl.map (·.1))
    (hm : SMap.MB whV w' L.pm (SMap.put (L.pl.map fun p => (p.1, plV p.2)) c (plV x))) (hgr : w.grownBy w' (some L.pm)) :
    CSt w' B q { L with pl := L.pl ++ [(c, x)] } l := by
  have hl : SMap.look (L.pl.map fun p => (p.1, plV p.2)) c = none := look_off (fun _ x => plV x) hn
  rw [SMap.put_new _ _ _ hl] at hm
  have hnd := h.fd
  unfold QL.foot at hnd
  have hk : ∀ b ∈ L.foot q, b ≠ L.pm → w'.heap[b]? = w.heap[b]? := fun b hb hne => hgr.block b (h.lt b hb) fun e => hne (by injection e)
  have hcm : ∀ b ∈ L.foot q, b = q ∨ b = L.cm ∨ b = L.sm ∨ b ∈ L.cl.map (·.2.g) ∨ b ∈ L.sl.map (·.2.g) → b ≠ L.pm := fun b hb hor e => by
    subst e
    simp only [List.nodup_cons, List.mem_cons, List.mem_append, not_or] at hnd
    obtain ⟨⟨h1, h2, h3, h4, h5⟩, ⟨h6, h7, h8, h9⟩, ⟨k1, k2, k3⟩, _⟩ := hnd
    rcases hor with e | e | e | e | e
    · exact h2 e.symm
    · exact h6 e.symm
    · exact k1 e
    · exact k2 e
    · exact k3 e
  refine ⟨(hk _ foot_q (hcm _ foot_q (.inl rfl))).trans h.blk, (hk _ foot_c (hcm _ foot_c (.inr (.inl rfl)))).trans h.mc, ?_, (hk _ foot_s (hcm _ foot_s (.inr (.inr (.inl rfl))))).trans h.ms, h.fd, h.lo, ?_, ?_⟩
  · show SMap.MB whV w' L.pm ((L.pl ++ [(c, x)]).map fun p => (p.1, plV p.2))
    rw [List.map_append]
    exact hm
  · intro p hp
    exact own_heap (h.crow p hp) (hk _ (foot_row hp) (hcm _ (foot_row hp) (.inr (.inr (.inr (.inl (List.mem_map_of_mem (f := fun p : Chan × CRow => p.2.g) hp)))))))
  · intro p hp
    exact own_heap (h.srow p hp) (hk _ (foot_srow hp) (hcm _ (foot_srow hp) (.inr (.inr (.inr (.inr (List.mem_map_of_mem (f := fun p : Inb × SRow => p.2.g) hp)))))))
/-- A receiver more. -/
theorem CSt.addS (h : CSt w B q L l) {c : Inb} {x : SRow} (hB : B ≤ x.g) (hg : ¬ x.g ∈ L.foot q) (hn : ¬ c ∈ L.sl.map (·.1))
    (ho : w.ownsRow 0 3 1 (.slice (some ⟨x.g, 0, none⟩) (fromsOf l c).length x.cap) (fromsOf l c).length (ints (fromsOf l c)))
    (hm : SMap.MB inV w' L.sm (SMap.put (L.sl.map fun p => (p.1, slV (fromsOf l p.1) p.2)) c (slV (fromsOf l c) x))) (hgr : w.grownBy w' (some L.sm)) :
    CSt w' B q { L with sl := L.sl ++ [(c, x)] } l := by
  have hl : SMap.look (L.sl.map fun p => (p.1, slV (fromsOf l p.1) p.2)) c = none := look_off (fun c x => slV (fromsOf l c) x) hn
  rw [SMap.put_new _ _ _ hl] at hm
  have hnd := h.fd
  unfold QL.foot at hnd hg
  have hk : ∀ b ∈ L.foot q, b ≠ L.sm → w'.heap[b]? = w.heap[b]? := fun b hb hne => hgr.block b (h.lt b hb) fun e => hne (by injection e)
  have hcm : ∀ b ∈ L.foot q, b = q ∨ b = L.cm ∨ b = L.pm ∨ b ∈ L.cl.map (·.2.g) ∨ b ∈ L.sl.map (·.2.g) → b ≠ L.sm := fun b hb hor e => by
    subst e
    simp only [List.nodup_cons, List.mem_cons, List.mem_append, not_or] at hnd
    obtain ⟨⟨h1, h2, h3, h4, h5⟩, ⟨h6, h7, h8, h9⟩, ⟨k1, k2, k3⟩, ⟨j1, j2⟩, _⟩ := hnd
    rcases hor with e | e | e | e | e
    · exact h3 e.symm
    · exact h7 e.symm
    · exact k1 e.symm
    · exact j1 e
    · exact j2 e
  refine ⟨(hk _ foot_q (hcm _ foot_q (.inl rfl))).trans h.blk, (hk _ foot_c (hcm _ foot_c (.inr (.inl rfl)))).trans h.mc, (hk _ foot_p (hcm _ foot_p (.inr (.inr (.inl rfl))))).trans h.mp, ?_, ?_, ?_, ?_, ?_⟩
  · show SMap.MB inV w' L.sm ((L.sl ++ [(c, x)]).map fun p => (p.1, slV (fromsOf l p.1) p.2))
    rw [List.map_append]
    exact hm
  · show (q :: L.cm :: L.pm :: L.sm :: (L.cl.map (·.2.g) ++ (L.sl ++ [(c, x)]).map (·.2.g))).Nodup
    have e : q :: L.cm :: L.pm :: L.sm :: (L.cl.map (·.2.g) ++ (L.sl ++ [(c, x)]).map (·.2.g)) = (q :: L.cm :: L.pm :: L.sm :: (L.cl.map (·.2.g) ++ L.sl.map (·.2.g))) ++ x.g :: [] := by simp
    rw [e, nodup_mid, List.append_nil]
    exact ⟨hg, hnd⟩
  · intro b hb
    have : b ∈ L.foot q ∨ b = x.g := by
      unfold QL.foot at hb ⊢
      simp only [List.mem_cons, List.mem_append, List.map_append, List.map_cons, List.map_nil, List.not_mem_nil, or_false] at hb ⊢
      rcases hb with h | h | h | h | h | h | h <;> simp [h]
    rcases this with h1 | rfl
    · exact h.lo b h1
    · exact hB
  · intro p hp
    exact own_heap (h.crow p hp) (hk _ (foot_row hp) (hcm _ (foot_row hp) (.inr (.inr (.inr (.inl (List.mem_map_of_mem (f := fun p : Chan × CRow => p.2.g) hp)))))))
  · intro p hp
    rcases List.mem_append.1 hp with hp | hp
    · exact own_heap (h.srow p hp) (hk _ (foot_srow hp) (hcm _ (foot_srow hp) (.inr (.inr (.inr (.inr (List.mem_map_of_mem (f := fun p : Inb × SRow => p.2.g) hp)))))))
    · rw [List.mem_singleton.1 hp]
      refine own_heap ho (hgr.block x.g (own_in ho) fun e => hg ?_)
      injection e with e
      rw [e]
      simp
/-- The copy is whole. -/
theorem CSt.whole {w0 : World} {q0 : Nat} {L0 : QL} (h0 : QSt w0 q0 L0 l) (h : CSt w B q L l) (hc : (L.cl.map (·.1)).Perm (L0.cl.map (·.1))) (hfi : ∀ p ∈ L.cl, ∃ x, (p.1, x) ∈ L0.cl ∧ p.2.fi = x.fi)
    (hp : (L.pl.map fun p => (p.1, plV p.2)).Perm (L0.pl.map fun p => (p.1, plV p.2))) (hs : (L.sl.map (·.1)).Perm (L0.sl.map (·.1))) : QSt w q L l := by
  have hpk : (L.pl.map (·.1)).Perm (L0.pl.map (·.1)) := by
    have := hp.map (·.1)
    rwa [List.map_map, List.map_map] at this
  have hkp : (L.pl.map (·.1)).Nodup := hpk.nodup_iff.2 h0.kp
  exact ⟨h.blk, h.mc, h.mp, h.ms, hc.nodup_iff.2 h0.kc, hkp, hs.nodup_iff.2 h0.ks, h.fd, fun c => (hc.mem_iff).trans (h0.cin c), h.crow,
    fun p hpm => (by
      obtain ⟨x, hx, e⟩ := hfi p hpm
      rw [e]
      exact h0.cfi _ hx), fun x => (by
      rw [SMap.look_perm hp (by rw [List.map_map]; exact hkp)]
      exact h0.pin x), fun b => (hs.mem_iff).trans (h0.sin b), h.srow, h0.ok, h0.uq⟩
set_option maxRecDepth 100000 in
/-- A row of messages, copied. -/
theorem clone_m {w : World} (g cap n : Nat) (r : List Msg) (h : MRow w (some ⟨g, 0, none⟩) r) (hg : g < w.heap.size) (hn : r.length = n) (hl : n ≤ 1000) :
    Calls Try.prog 36 #[.slice (some ⟨g, 0, none⟩) n cap] w fun e w' => ∃ A1 c1, e = .returned (.slice A1 n c1) ∧ w'.ownsRow w.heap.size 31 8 (.slice A1 n c1) n (msgCs r) ∧ Below w.heap.size w w' := by
  have he : ∀ w, (binOp BinOp.eql 27 (Value.slice (some ⟨g, 0, none⟩) n cap) (Value.slice none 0 0)).run Try.prog w = .ok (.bool false) w := fun w => by
    simp [binOp, run_equal_slice_nil w _ _ _ _ _ Try.underlying27]
  have ba := (Below.refl w.heap.size w).alloc (Nat.le_refl _) (.cells #[] 31)
  have own0 : (w.alloc (.cells #[] 31)).ownsRow w.heap.size 31 8 (.slice (some ⟨w.heap.size, 0, none⟩) 0 0) 0 (msgCs []) := ⟨rfl, .inr ⟨w.heap.size, 0, #[], rfl, Nat.le_refl _, heap_alloc_new w _, Nat.le_refl _, by unfold maxLen; omega, rfl, rfl⟩⟩
  have hr : Reads (w.alloc (.cells #[] 31)) (w.alloc (.cells #[] 31)).heap.size 8 (some ⟨g, 0, none⟩) n (msgCs r) := ⟨by rw [msgCs_len, hn], fun _ => ⟨_, rfl, by simp; omega, fun j u hu => by
    rw [add_lit]
    have hj : j < n * 8 := by
      have := (List.getElem?_eq_some_iff.1 hu).1
      rw [msgCs_len, hn] at this
      exact this
    obtain ⟨m, hm⟩ : ∃ m, r[j / 8]? = some m := ⟨_, List.getElem?_eq_getElem (by omega)⟩
    obtain ⟨g', e, _, hc⟩ := (h.below ba).it _ m hm
    cases e
    have hu2 := msgCs_at r (j / 8) m hm (j % 8) (by omega)
    rw [show j / 8 * 8 + j % 8 = j by omega, hu] at hu2
    have := hc (j % 8) u hu2.symm
    rwa [show j / 8 * 8 + j % 8 = j by omega] at this⟩⟩
  have hs1 : (w.alloc (.cells #[] 31)).heap.size = w.heap.size + 1 := by simp
  obtain ⟨Wz, hWz⟩ : ∃ x', w.alloc (.cells #[] 31) = x' := ⟨_, rfl⟩
  rw [hWz] at ba own0 hr hs1
  obtain ⟨A1, c1, w1, hrun, hown, hgr⟩ := push_ms Wz w.heap.size _ 0 0 _ (some ⟨g, 0, none⟩) cap n r hn own0 hr (by omega) (by omega) (by omega)
  rw [Nat.zero_add] at hrun hown
  have HOWN := hide hown
  have HB := hide (ba.grown hgr (by omega) (fun k e => by have := (own_block own0 e).1; omega))
  have RUN := hide hrun
  have HE := hide hWz
  clear hrun hown hgr ba own0 hr hs1 h hWz
  go_enter Try.func36, Try.ntmps36
  go_wp2_with (at_builtin; rw [HE.out]; refine Lib.wpList_append_run _ rfl _ _ 27 27 rfl _ _ rfl rfl _ _ RUN.out ?_)
  go_ret
  exact ⟨A1, c1, rfl, HOWN.out, HB.out⟩
set_option maxRecDepth 100000 in
/-- A row of numbers, copied. -/
theorem clone_n {w : World} (g cap n : Nat) (r : List Int) (h : NRow w (some ⟨g, 0, none⟩) r) (hg : g < w.heap.size) (hn : r.length = n) (hl : n ≤ 1000) :
    Calls Try.prog 37 #[.slice (some ⟨g, 0, none⟩) n cap] w fun e w' => ∃ A1 c1, e = .returned (.slice A1 n c1) ∧ w'.ownsRow w.heap.size 3 1 (.slice A1 n c1) n (ints r) ∧ Below w.heap.size w w' := by
  have he : ∀ w, (binOp BinOp.eql 49 (Value.slice (some ⟨g, 0, none⟩) n cap) (Value.slice none 0 0)).run Try.prog w = .ok (.bool false) w := fun w => by
    simp [binOp, run_equal_slice_nil w _ _ _ _ _ Try.underlying49]
  have ba := (Below.refl w.heap.size w).alloc (Nat.le_refl _) (.cells #[] 3)
  have own0 : (w.alloc (.cells #[] 3)).ownsRow w.heap.size 3 1 (.slice (some ⟨w.heap.size, 0, none⟩) 0 0) 0 (ints []) := ⟨rfl, .inr ⟨w.heap.size, 0, #[], rfl, Nat.le_refl _, heap_alloc_new w _, Nat.le_refl _, by unfold maxLen; omega, rfl, rfl⟩⟩
  have hr : Reads (w.alloc (.cells #[] 3)) (w.alloc (.cells #[] 3)).heap.size 1 (some ⟨g, 0, none⟩) n (ints r) := ⟨by rw [ints_len, hn]; omega, fun _ => ⟨_, rfl, by simp; omega, fun j u hu => by
    rw [add_lit]
    unfold ints at hu
    rw [List.getElem?_map] at hu
    cases hx : r[j]? with
    | none => rw [hx] at hu; cases hu
    | some x =>
      rw [hx] at hu
      cases hu
      obtain ⟨g', e, _, hc⟩ := (h.below ba).it _ x hx
      cases e
      exact hc⟩⟩
  have hs1 : (w.alloc (.cells #[] 3)).heap.size = w.heap.size + 1 := by simp
  obtain ⟨Wz, hWz⟩ : ∃ x', w.alloc (.cells #[] 3) = x' := ⟨_, rfl⟩
  rw [hWz] at ba own0 hr hs1
  obtain ⟨i0, hi0, hz0', hz1, hz2⟩ := info_parts int_infoQ
  obtain ⟨v11, w1, hrun, hown, hgr, hob⟩ := run_append_any (P := Try.prog) Wz w.heap.size 49 49 3 i0 _ 1 8 Try.underlying49 hi0 hz0' hz1 hz2 (by rfl) (by omega) _ _ _ own0 Wz.heap.size (some ⟨g, 0, none⟩) n cap _ hr (by intro u hu; obtain ⟨z, _, rfl⟩ := List.mem_map.1 (show u ∈ r.map (Value.int .i64) from hu); rfl) (by unfold maxLen; omega) (by omega) (by omega)
  rw [Nat.zero_add] at hown
  obtain ⟨A1, c1, rfl⟩ := own_form hown
  have HOWN := hide hown
  have HB := hide (ba.grown hgr (by omega) (fun k e => by have := (own_block own0 e).1; omega))
  have RUN := hide hrun
  have HE := hide hWz
  clear hrun hown hgr ba own0 hr hs1 h hWz hob
  go_enter Try.func37, Try.ntmps37
  go_wp2_with (at_builtin; rw [HE.out]; refine Lib.wpList_append_run _ rfl _ _ 49 49 rfl _ _ rfl rfl _ _ RUN.out ?_)
  go_ret
  exact ⟨A1, c1, rfl, HOWN.out, HB.out⟩
end Qu
end Go.Proofs.Ytomladbdebfikaa
