/- Is, said as the document says it; begin once more, with what the history is put together of. -/
import Derived.Test.YtflaikhkddjfjaaRows
import Derived.Test.YtflaikhkddjfjaaOrdAb
import Derived.BigQuiet
import Derived.OwnWalk
import Derived.LoopN
namespace Go.Proofs.Ytflaikhkddjfjaa
open Go Go.RowKit
set_option linter.unusedVariables false
set_option linter.unusedSimpArgs false
namespace Ord
def okA (E : Nat → Ev) (len : Nat) (l : List Int) (a : Nat) : Prop := (0 ≤ l.getD a 0 ∧ l.getD a 0 < (len : Int)) ∧ ∀ k, k < a → l.getD k 0 ≠ l.getD a 0 ∧ ahB E (l.getD k 0).toNat (l.getD a 0).toNat = false
theorem nodup_le : ∀ (n : Nat) (l : List Nat), l.Nodup → (∀ x ∈ l, x < n) → l.length ≤ n
  | 0, l, _, h => by
    cases l with
    | nil => exact Nat.le_refl _
    | cons x l => exact absurd (h x List.mem_cons_self) (Nat.not_lt_zero x)
  | n + 1, l, hn, h => by
    have ih := nodup_le n (l.erase n) (hn.erase n) (fun x hx => by
      have h1 := h x (List.mem_of_mem_erase hx)
      have h2 : x ≠ n := fun e => by
        rw [e] at hx
        exact (hn.mem_erase_iff.1 hx).1 rfl
      omega)
    by_cases hm : n ∈ l
    · rw [List.length_erase_of_mem hm] at ih
      omega
    · rw [List.erase_of_not_mem hm] at ih
      omega
theorem all_in {n : Nat} {l : List Nat} (hn : l.Nodup) (hl : ∀ x ∈ l, x < n) (hc : l.length = n) {k : Nat} (hk : k < n) : k ∈ l := by
  by_cases h : k ∈ l
  · exact h
  · have := nodup_le n (k :: l) (List.nodup_cons.2 ⟨h, hn⟩) (fun x hx => by
      rcases List.mem_cons.1 hx with rfl | hx
      · exact hk
      · exact hl x hx)
    rw [List.length_cons] at this
    omega
theorem VF.nodup {es : List Eo} : ∀ (l acc : List Nat), VF es acc l → l.Nodup
  | [], _, _ => List.nodup_nil
  | x :: xs, acc, h => List.nodup_cons.2 ⟨fun hm => (VF.mem xs _ h.2.2.2 x hm).2 (by simp), VF.nodup xs _ h.2.2.2⟩
theorem natI_getD (l : List Nat) (k : Nat) (h : k < l.length) : (natI l).getD k 0 = (l[k] : Int) := by
  rw [List.getD_eq_getElem?_getD, natI, List.getElem?_map, List.getElem?_eq_getElem h]
  rfl
theorem is_same {E : Nat → Ev} {es : List Eo} (H : Hist E es) {l : List Int} (hl : l.length = es.length) : isF es l (fun _ => false) = true ↔ ∀ a, a < l.length → okA E es.length l a := by
  constructor
  · intro h
    obtain ⟨r, rfl⟩ := isF_in l _ h
    have V := (isF_iff r [] _ (fun m => by simp)).1 h
    rw [natI_len] at hl
    rw [natI_len]
    intro a ha
    have hx := (VF.mem r [] V r[a] (List.getElem_mem ha)).1
    rw [show okA E es.length (natI r) a = ((0 ≤ (natI r).getD a 0 ∧ (natI r).getD a 0 < (es.length : Int)) ∧ ∀ k, k < a → (natI r).getD k 0 ≠ (natI r).getD a 0 ∧ ahB E ((natI r).getD k 0).toNat ((natI r).getD a 0).toNat = false) from rfl, natI_getD r a ha]
    refine ⟨by omega, fun k hk => ?_⟩
    rw [natI_getD r k (by omega), Int.toNat_natCast, Int.toNat_natCast]
    have hsp : r = r.take a ++ r[a] :: r.drop (a + 1) := by rw [← List.drop_eq_getElem_cons ha, List.take_append_drop]
    have V2 := V
    rw [hsp] at V2
    obtain ⟨V3, V4⟩ := (VF.app _ _ _).1 V2
    rw [List.nil_append] at V4
    have hkm : r[k] ∈ r.take a := by
      rw [List.mem_take_iff_getElem]
      exact ⟨k, by omega, rfl⟩
    have hcl : ∀ i ∈ r.take a, ∀ j ∈ (es.getD i default).ah, j ∈ r.take a := by
      have := VF.closed (r.take a) [] (fun i hi => by cases hi) V3
      simpa using this
    refine ⟨fun e => V4.2.1 ?_, ?_⟩
    · have e' : r[k] = r[a] := by omega
      rw [← e']
      exact hkm
    · cases hb : ahB E r[k] r[a] with
      | false => rfl
      | true => exact absurd (closed_ah H (fun i hi => (VF.mem _ _ V3 i hi).1) hcl (r[k] + 1) r[k] r[a] (by omega) hkm (ahB_iff.1 hb)) V4.2.1
  · intro h
    have hln : ∀ x ∈ l, 0 ≤ x := fun x hx => by
      obtain ⟨a, ha, rfl⟩ := List.mem_iff_getElem.1 hx
      have := (h a ha).1.1
      rw [List.getD_eq_getElem?_getD, List.getElem?_eq_getElem ha] at this
      exact this
    obtain ⟨r, hr⟩ : ∃ r : List Nat, l = natI r := ⟨l.map Int.toNat, by
      unfold natI
      rw [List.map_map]
      conv => lhs; rw [← List.map_id l]
      apply List.map_congr_left
      intro x hx
      show x = ((x.toNat : Nat) : Int)
      exact (Int.toNat_of_nonneg (hln x hx)).symm⟩
    subst hr
    rw [natI_len] at hl h
    refine (isF_iff r [] _ (fun m => by simp)).2 ?_
    have hA : ∀ a (ha : a < r.length), r[a] < es.length ∧ ∀ k (hk : k < a), r[k]'(by omega) ≠ r[a] ∧ ahB E (r[k]'(by omega)) r[a] = false := fun a ha => by
      obtain ⟨⟨h1, h2⟩, h3⟩ := h a ha
      rw [natI_getD r a ha] at h2 h3
      refine ⟨by omega, fun k hk => ?_⟩
      obtain ⟨h4, h5⟩ := h3 k hk
      rw [natI_getD r k (by omega)] at h4 h5
      rw [Int.toNat_natCast, Int.toNat_natCast] at h5
      exact ⟨fun e => h4 (by rw [e]), h5⟩
    have hlt : ∀ x ∈ r, x < es.length := fun x hx => by
      obtain ⟨a, ha, rfl⟩ := List.mem_iff_getElem.1 hx
      exact (hA a ha).1
    have hnd : r.Nodup := by
      rw [List.nodup_iff_pairwise_ne, List.pairwise_iff_getElem]
      intro i j hi hj hij
      exact ((hA j hj).2 i hij).1
    have step : ∀ j, j ≤ r.length → VF es [] (r.take j) := by
      intro j
      induction j with
      | zero => intro _; rw [List.take_zero]; trivial
      | succ j ih =>
        intro hj
        have hjl : j < r.length := by omega
        rw [List.take_succ_eq_append_getElem hjl, VF.app]
        refine ⟨ih (by omega), ?_⟩
        rw [List.nil_append]
        refine ⟨(hA j hjl).1, fun hm => ?_, fun k hk => ?_, trivial⟩
        · obtain ⟨i, hi, e⟩ := List.mem_take_iff_getElem.1 hm
          exact ((hA j hjl).2 i (by omega)).1 e
        · have hkl := H.lt _ (hA j hjl).1 k hk
          have hkr := all_in hnd hlt hl (k := k) (by have := (hA j hjl).1; omega)
          obtain ⟨i, hi, e⟩ := List.mem_iff_getElem.1 hkr
          by_cases hij : i < j
          · rw [List.mem_take_iff_getElem]
            exact ⟨i, by omega, e⟩
          · by_cases hij2 : i = j
            · subst hij2
              rw [e] at hkl
              exact absurd hkl (Nat.lt_irrefl _)
            · have h5 := ((hA i hi).2 j (by omega)).2
              rw [e] at h5
              have h6 := ahB_iff.2 ((H.a _ (hA j hjl).1).ah.2 ⟨k, hk, .inl rfl⟩)
              rw [h5] at h6
              cases h6
    have := step r.length (Nat.le_refl _)
    rwa [List.take_length] at this
set_option maxRecDepth 100000 in
set_option maxHeartbeats 4000000 in
theorem beginG_c (ni : Int) (A : Option Addr) (len cap : Nat) (F : Nat → Ec) (w : World) (hlen : len ≤ maxLen) (h : Evs w A len F) (hs : Small F len) :
    Calls Try.prog 10 #[.int .i64 ni, .slice A len cap] w fun e w' => ((e = .returned (.tuple #[.pointer none, .pointer none, .bool true])) ∨ ∃ (o o' : Nat) (es : List Eo) (gs : List Nat), e = .returned (.tuple #[.pointer (some ⟨o, 0, none⟩), .pointer (some ⟨o', 0, none⟩), .bool true]) ∧ (Both ni.toNat len F w' w.heap.size o o' es gs ∧ Grow ni.toNat (evN F) es) ∧ len ≤ 120) ∧ Below w.heap.size w w' := by
  have OC := hide (Of_c ni A len cap F w hlen h hs)
  have RC := hide (fun (w' : World) (hb : Below w.heap.size w w') => refOf_c ni A len cap F w' hlen (h.below hb) hs)
  have SM : Hid (Good ni F len → len ≤ 120) := hide (fun hg => by
    rcases hs with hs | hs
    · exact hs.1
    · have := hg.2.2.1; omega)
  clear h hs
  go_enter Try.func10, Try.ntmps10
  go_wp2_with fail
  refine OC.out.mono ?_
  rintro e w1 ⟨h1, hb1⟩
  have RC1 := hide (RC.out w1 hb1)
  have HB1 := hide hb1
  clear hb1
  rcases h1 with ⟨rfl, hno⟩ | ⟨o, es, rfl, hg, _, ho, hgr, hel⟩
  · have HNO := hide hno
    clear hno
    go_wp2_with fail
    refine RC1.out.mono ?_
    rintro e w2 ⟨h2, hb2⟩
    have HB2 := hide (HB1.out.trans (hb2.mono HB1.out.size))
    clear hb2
    rcases h2 with ⟨rfl, _⟩ | ⟨_, _, _, hg, _⟩
    · go_wp2_with fail
      go_ret3
      exact ⟨.inl rfl, HB2.out⟩
    · exact absurd hg HNO.out
  · have HG := hide hg
    have HOO := hide (And.intro ho (And.intro hgr hel))
    clear ho hgr hel hg
    go_wp2_with fail
    refine RC1.out.mono ?_
    rintro e w2 ⟨h2, hb2⟩
    have HB2 := hide (HB1.out.trans (hb2.mono HB1.out.size))
    rcases h2 with ⟨rfl, hno⟩ | ⟨o', gs, rfl, _, hrf, hgl⟩
    · exact absurd HG.out hno
    have FIN : Hid ((Both ni.toNat len F w2 w.heap.size o o' es gs ∧ Grow ni.toNat (evN F) es) ∧ len ≤ 120) := hide (by
      obtain ⟨ho, hgr, hel⟩ := HOO.out
      have hg := HG.out
      have h1 : 1 ≤ ni.toNat := by have := hg.1; omega
      have h2 : ni.toNat ≤ 64 := by have := hg.2.1; omega
      have hl := SM.out hg
      refine ⟨⟨⟨ho.below hb2, hgr.sound h1 h2 (by omega), hel, ⟨?_, fun i hi => (hrf.rows i hi).more HB1.out.size⟩, hgl, h1, h2, ?_, hgr.fit h1 h2 (by omega)⟩, hgr⟩, hl⟩
      · obtain ⟨R, rc, A, ac, b, o1, o2⟩ := hrf.tab
        exact ⟨R, rc, A, ac, b, own_more o1 HB1.out.size, own_more o2 HB1.out.size⟩
      · have := hg.2.2.2
        rwa [show ((ni.toNat : Nat) : Int) = ni from Int.toNat_of_nonneg (by have := hg.1; omega)])
    clear hb2 hrf hgl
    go_wp2_with fail
    go_ret3
    exact ⟨.inr ⟨o, o', es, gs, rfl, FIN.out⟩, HB2.out⟩
end Ord
end Go.Proofs.Ytflaikhkddjfjaa
