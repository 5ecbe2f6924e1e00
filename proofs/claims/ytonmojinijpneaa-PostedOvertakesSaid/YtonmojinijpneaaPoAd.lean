/- Messages of one channel, and receives that all of them fit: the k-th is the k-th's. No program. -/
import Derived.Test.YtonmojinijpneaaRows
import Derived.Test.YtonmojinijpneaaPoAc
namespace Go.Proofs.Ytonmojinijpneaa
open Go Go.Proofs.Ytonmojinijpneaa.Qu
set_option linter.unusedVariables false
set_option linter.unusedSimpArgs false
namespace Po
def msO (d i : Nat) : Msg := ⟨⟨#[]⟩, 1, 0, i, 5, 0, 1, decide (i < d)⟩
def MO (s d : Nat) : List Msg := (List.range s).map (msO d)
def rcO (d : Nat) (pe : Nat → Int) (i : Nat) : Rc := ⟨⟨#[]⟩, 0, i, pe i, -1, -1, decide (i < d), if i < d then 1 else 0, if i < d then i else 0⟩
def RO (g d : Nat) (pe : Nat → Int) : List Rc := (List.range g).map (rcO d pe)
theorem MO_len (s d : Nat) : (MO s d).length = s := by simp [MO]
theorem RO_len (g d : Nat) (pe : Nat → Int) : (RO g d pe).length = g := by simp [RO]
theorem MO_mem {s d : Nat} {m : Msg} (h : m ∈ MO s d) : ∃ i, i < s ∧ m = msO d i := by
  obtain ⟨i, hi, rfl⟩ := List.mem_map.1 h
  exact ⟨i, List.mem_range.1 hi, rfl⟩
theorem RO_mem {g d : Nat} {pe : Nat → Int} {r : Rc} (h : r ∈ RO g d pe) : ∃ i, i < g ∧ r = rcO d pe i := by
  obtain ⟨i, hi, rfl⟩ := List.mem_map.1 h
  exact ⟨i, List.mem_range.1 hi, rfl⟩
theorem RO_rise (g d : Nat) (pe : Nat → Int) : (RO g d pe).Pairwise fun a b => a.ca < b.ca := by
  unfold RO
  rw [List.pairwise_map]
  exact List.pairwise_lt_range.imp fun {a b} h => by show (a : Int) < (b : Int); omega
theorem MO_plc {s d k : Nat} (hk : k < s) : plc (MO s d) ⟨1, k⟩ = some k := by
  have hu : Uniq (MO s d) := by
    unfold Uniq MO
    rw [List.map_map]
    refine List.nodup_iff_pairwise_ne.2 ?_
    rw [List.pairwise_map]
    exact List.nodup_iff_pairwise_ne.1 List.nodup_range |>.imp fun {a b} h e => h (by
      have h2 : (a : Int) = (b : Int) := congrArg Who.ca e
      omega)
  exact plc_uniq hu (m := msO d k) (by unfold MO; rw [List.getElem?_map, List.getElem?_range hk]; rfl)
theorem MO_noplc {s d : Nat} : plc (MO s d) ⟨1, s⟩ = none := plc_none.2 fun m hm e => by
  obtain ⟨i, hi, rfl⟩ := MO_mem hm
  have h2 : (i : Int) = (s : Int) := congrArg Who.ca e
  omega
/-- A message more. -/
theorem MO_send {s d : Nat} (hd : d ≤ s) : sendE (MO s d) ⟨⟨#[]⟩, 1, 0, s, 5, 0, 1, false⟩ = 0 ∧ sendL (MO s d) ⟨⟨#[]⟩, 1, 0, s, 5, 0, 1, false⟩ = MO (s + 1) d := by
  have hc : mayM ⟨⟨#[]⟩, 1, 0, s, 5, 0, 1, false⟩ ∧ plc (MO s d) (Msg.who ⟨⟨#[]⟩, 1, 0, s, 5, 0, 1, false⟩) = none := ⟨by unfold mayM; simp only; refine ⟨?_, ?_, ?_, ?_, ?_, ?_, ?_, ?_, ?_, trivial⟩ <;> omega, MO_noplc⟩
  refine ⟨by unfold sendE; rw [if_pos hc], ?_⟩
  unfold sendL
  rw [if_pos hc]
  unfold MO
  rw [List.range_succ, List.map_append, List.map_singleton]
  congr 2
  unfold msO
  rw [decide_eq_false (show ¬ s < d by omega)]
/-- A receive more. -/
theorem RO_post {ls : Nat → List Rc} {g d : Nat} {pe : Nat → Int} {p : Int} (hd : d ≤ g) (h0 : ls 0 = RO g d pe) (hp : p = 1 ∨ p = -1) :
    postE ls ⟨⟨#[]⟩, 0, g, p, -1, -1, false, 0, 0⟩ = 0 ∧ postL ls ⟨⟨#[]⟩, 0, g, p, -1, -1, false, 0, 0⟩ 0 = RO (g + 1) d (updF pe g p) ∧ ∀ k, k ≠ 0 → postL ls ⟨⟨#[]⟩, 0, g, p, -1, -1, false, 0, 0⟩ k = ls k := by
  have hok : postOk ls ⟨⟨#[]⟩, 0, g, p, -1, -1, false, 0, 0⟩ := by
    refine ⟨?_, fun x hx => ?_⟩
    · unfold mayR
      simp only
      rcases hp with rfl | rfl <;> (refine ⟨?_, ?_, ?_, ?_, ?_, ?_, ?_, ?_⟩ <;> omega)
    · have hx : x ∈ ls 0 := hx
      rw [h0] at hx
      obtain ⟨i, hi, rfl⟩ := RO_mem hx
      show (i : Int) < (g : Int)
      omega
  refine ⟨by unfold postE; rw [if_pos hok], ?_, fun k hk => ?_⟩
  · unfold postL
    rw [if_pos hok]
    show updF ls 0 (ls 0 ++ [_]) 0 = _
    rw [updF_at, h0]
    unfold RO
    rw [List.range_succ, List.map_append, List.map_singleton]
    congr 1
    · refine List.map_congr_left fun i hi => ?_
      have := List.mem_range.1 hi
      unfold rcO
      rw [updF_ne pe g p (show i ≠ g by omega)]
    · unfold rcO fresh
      rw [updF_at, decide_eq_false (show ¬ g < d by omega), if_neg (show ¬ g < d by omega), if_neg (show ¬ g < d by omega)]
  · unfold postL
    rw [if_pos hok]
    exact updF_ne ls 0 _ hk
theorem MO_first_other {s d : Nat} {f : Int} (hf : f ≠ 1) : firstL (MO s d) ⟨⟨#[]⟩, f, 0⟩ (-1) = none := by
  unfold firstL
  refine List.find?_eq_none.2 fun m hm => ?_
  obtain ⟨i, _, rfl⟩ := MO_mem hm
  have : ¬ (msO d i).ch = ⟨⟨#[]⟩, f, 0⟩ := fun e => by
    unfold msO Msg.ch at e
    injection e with _ h2 _
    exact hf h2.symm
  simp [isM, this]
theorem MO_first_all {s d : Nat} (h : s ≤ d) {f : Int} : firstL (MO s d) ⟨⟨#[]⟩, f, 0⟩ (-1) = none := by
  unfold firstL
  refine List.find?_eq_none.2 fun m hm => ?_
  obtain ⟨i, hi, rfl⟩ := MO_mem hm
  have : (msO d i).tk = true := decide_eq_true (by omega)
  simp [isM, this]
theorem find_range {P : Nat → Bool} : ∀ (n k : Nat), k < n → P k = true → (∀ i, i < k → P i = false) → (List.range n).find? P = some k
  | 0, k, h, _, _ => absurd h (Nat.not_lt_zero k)
  | n + 1, k, h, hk, hl => by
    rw [List.range_succ, List.find?_append]
    rcases Nat.lt_or_ge k n with h1 | h1
    · rw [find_range n k h1 hk hl]
      rfl
    · obtain rfl : k = n := by omega
      rw [List.find?_eq_none.2 (fun i hi => by rw [hl i (List.mem_range.1 hi)]; decide)]
      simp [hk]
theorem MO_first {s d : Nat} (h : d < s) : firstL (MO s d) ⟨⟨#[]⟩, 1, 0⟩ (-1) = some (msO d d) := by
  unfold firstL MO
  rw [List.find?_map]
  rw [find_range s d h]
  · rfl
  · have h1 : (msO d d).tk = false := decide_eq_false (by omega)
    have h2 : (msO d d).ch = ⟨⟨#[]⟩, 1, 0⟩ := rfl
    simp [isM, tagged, h1, h2]
  · intro i hi
    have h1 : (msO d i).tk = true := decide_eq_true hi
    simp [isM, h1]
theorem MO_snd {s d : Nat} {p : Int} (hp : p = 1 ∨ p = -1) : (s ≤ d → (sndL (MO s d) ⟨#[]⟩ 0 p).filterMap (fun f => firstL (MO s d) ⟨⟨#[]⟩, f, 0⟩ (-1)) = []) ∧ (d < s → (sndL (MO s d) ⟨#[]⟩ 0 p).filterMap (fun f => firstL (MO s d) ⟨⟨#[]⟩, f, 0⟩ (-1)) = [msO d d]) := by
  refine ⟨fun h => ?_, fun h => ?_⟩
  · refine List.filterMap_eq_nil_iff.2 fun f _ => MO_first_all h
  · have hs : sndL (MO s d) ⟨#[]⟩ 0 p = [1] := by
      unfold sndL
      rcases hp with rfl | rfl
      · rfl
      · rw [if_pos rfl]
        unfold sendersL
        have : (fun f : Int => (firstL (MO s d) ⟨⟨#[]⟩, f, 0⟩ (-1)).isSome) = fun f => decide (f = 1) := funext fun f => by
          by_cases e : f = 1
          · subst e
            rw [MO_first h]
            rfl
          · rw [MO_first_other e, decide_eq_false e]
            rfl
        show (upto 64).filter (fun f : Int => (firstL (MO s d) ⟨⟨#[]⟩, f, 0⟩ (-1)).isSome) = [1]
        rw [this]
        decide +kernel
    rw [hs, List.filterMap_cons, MO_first h]
    rfl
/-- What may be the k-th receive's. -/
theorem RO_may {s g d k : Nat} {pe : Nat → Int} (hk : k < g) (hpe : ∀ i, pe i = 1 ∨ pe i = -1) : (k < d → mayL (MO s d) (RO g d pe) k = []) ∧ (d ≤ k → s ≤ d → mayL (MO s d) (RO g d pe) k = []) ∧ (d = k → k < s → mayL (MO s d) (RO g d pe) k = [msO k k]) := by
  have hx : rcO d pe k ∈ RO g d pe := List.mem_map_of_mem (List.mem_range.2 hk)
  have hm := mayL_at (l := MO s d) (RO_rise g d pe) hx
  have hm : mayL (MO s d) (RO g d pe) k = if decide (k < d) then [] else freeL (MO s d) (rcO d pe k) ((RO g d pe).filter fun y => decide (y.ca < (k : Int))) := hm
  refine ⟨fun h => ?_, fun h hs => ?_, fun h hs => ?_⟩
  · rw [hm, decide_eq_true h]
    rfl
  · rw [hm, decide_eq_false (show ¬ k < d by omega)]
    show flt _ ((sndL (MO s d) ⟨#[]⟩ 0 (pe k)).filterMap (fun f => firstL (MO s d) ⟨⟨#[]⟩, f, 0⟩ (-1))) = []
    rw [(MO_snd (hpe k)).1 hs]
    rfl
  · subst h
    rw [hm, decide_eq_false (show ¬ d < d by omega)]
    show flt _ ((sndL (MO s d) ⟨#[]⟩ 0 (pe d)).filterMap (fun f => firstL (MO s d) ⟨⟨#[]⟩, f, 0⟩ (-1))) = _
    rw [(MO_snd (hpe d)).2 hs]
    have hl : leaveB ((RO g d pe).filter fun y => decide (y.ca < (d : Int))) (msO d d) = true := by
      unfold leaveB
      rw [List.all_eq_true]
      intro y hy
      have hy := List.mem_filter.1 hy
      obtain ⟨i, hi, rfl⟩ := RO_mem hy.1
      have h1 : (i : Int) < (d : Int) := of_decide_eq_true hy.2
      have h2 : (rcO d pe i).dn = true := decide_eq_true (by omega)
      rw [h2]
      rfl
    unfold flt
    rw [List.filter_cons_of_pos hl, List.filter_nil]
/-- The next one is matched. -/
theorem RO_match {s g k : Nat} {pe : Nat → Int} (hs : k < s) : setD (RO g k pe) k 1 k = RO g (k + 1) pe ∧ takeL (MO s k) ⟨1, k⟩ = MO s (k + 1) := by
  constructor
  · unfold setD RO
    rw [List.map_map]
    refine List.map_congr_left fun i _ => ?_
    show (if (i : Int) = (k : Int) then { rcO k pe i with dn := true, fr := 1, sq := (k : Int) } else rcO k pe i) = rcO (k + 1) pe i
    by_cases e : i = k
    · subst e
      rw [if_pos rfl]
      unfold rcO
      rw [decide_eq_true (show i < i + 1 by omega), if_pos (show i < i + 1 by omega), if_pos (show i < i + 1 by omega)]
    · rw [if_neg (by omega)]
      unfold rcO
      rw [show decide (i < k) = decide (i < k + 1) from decide_eq_decide.2 (by omega)]
      by_cases h : i < k
      · rw [if_pos h, if_pos h, if_pos (show i < k + 1 by omega), if_pos (show i < k + 1 by omega)]
      · rw [if_neg h, if_neg h, if_neg (show ¬ i < k + 1 by omega), if_neg (show ¬ i < k + 1 by omega)]
  · unfold takeL
    rw [MO_plc hs]
    simp only
    refine List.ext_getElem? fun i => ?_
    rw [List.getElem?_modify]
    unfold MO
    rw [List.getElem?_map, List.getElem?_map]
    by_cases hi : i < s
    · rw [List.getElem?_range hi]
      simp only [Option.map_some]
      by_cases e : k = i
      · subst e
        show some (if k = k then (msO k k).took else msO k k) = _
        rw [if_pos rfl]
        unfold msO Msg.took
        rw [decide_eq_true (show k < k + 1 by omega)]
      · show some (if k = i then (msO k i).took else msO k i) = _
        rw [if_neg e]
        unfold msO
        rw [show decide (i < k) = decide (i < k + 1) from decide_eq_decide.2 (by omega)]
    · rw [List.getElem?_eq_none (by simp; omega)]
      simp
theorem RO_at {g d k : Nat} {pe : Nat → Int} (hk : k < g) : atL (RO g d pe) k = some (rcO d pe k) := by
  unfold atL
  have h : (RO g d pe)[k]? = some (rcO d pe k) := by unfold RO; rw [List.getElem?_map, List.getElem?_range hk]; rfl
  exact rise_find _ _ _ (RO_rise g d pe) h
end Po
end Go.Proofs.Ytonmojinijpneaa
