/- Signs and names: the contracts, at every text. The one variable that the program lays is read as the row lists it. -/
import Derived.Test.YtekdchhengcfoaaDoorRows
import Derived.Test.YtekdchhengcfoaaDoorScanB
namespace Go.Proofs.YtekdchhengcfoaaDoor
open Go.RowKit
set_option linter.unusedVariables false
set_option linter.unusedSimpArgs false
section
variable {P : Program}
theorem run_loadVar_cells (w : World) (a : Addr) (ty : TypeId) (cs : Array Value) (d : TypeDesc) (hc : ∀ j v, cs.toList[j]? = some v → w.cell? (a.add j) = some v)
    (hu : P.underlying ty = some d) (hd : (match d with | .struct _ | .array _ _ => true | _ => false) = true) (hi : (P.info? ty).map (·.size) = some cs.size) : (loadVar ty a).run P w = .ok (.agg cs) w := by
  have hl : (loadCells a cs.toList.length).run P w = .ok cs.toList.toArray w := run_loadCells_list (P := P) w a cs.toList hc
  cases hq : P.info? ty with
  | none => simp [hq] at hi
  | some i =>
    have hs : i.size = cs.size := by simpa [hq] using hi
    have hagg : (isAgg ty).run P w = .ok true w := by
      unfold isAgg
      rw [Sem.run_bind, run_underlying hu w]
      cases d <;> simp_all
    simp only [Array.length_toList, Array.toArray_toList] at hl
    simp [loadVar, Sem.run_bind, hagg, sizeOf, typeInfo, hq, hs, hl]
theorem wpList_load_cells {ops : Array Oper} {rest : List Oper} {o : Oper} {a : Act} {w : World} {Q : Exit → Act → World → Prop} (hgd : o.guard = none) (ty : TypeId) (x : Operand) (ho : o.op = .load ty x)
    (ad : Addr) (hx : a.eval x = .pointer (some ad)) (cs : Array Value) (d : TypeDesc) (hc : ∀ j v, cs.toList[j]? = some v → w.cell? (ad.add j) = some v)
    (hu : P.underlying ty = some d) (hd : (match d with | .struct _ | .array _ _ => true | _ => false) = true) (hi : (P.info? ty).map (·.size) = some cs.size)
    (h : wpList P ops Q rest (a.put o.dst (.agg cs)) w) : wpList P ops Q (o :: rest) a w :=
  wpList_plain hgd fun K hK => by
    unfold Oper.wp execOp
    simp only [ho, hx, Instr.loadAt, Instr.sureAddr, Sem.run_bind, Sem.run_pure, Result.andThen_ok, run_loadVar_cells w ad ty cs d hc hu hd hi]
    exact hK _ _ h
end
/-- The table of signs. -/
def signsV : Array Value := #[.string ⟨#[60, 61]⟩, .string ⟨#[62, 61]⟩, .string ⟨#[61, 61]⟩, .string ⟨#[33, 61]⟩, .string ⟨#[38, 38]⟩, .string ⟨#[124, 124]⟩, .string ⟨#[40]⟩, .string ⟨#[41]⟩, .string ⟨#[123]⟩, .string ⟨#[125]⟩, .string ⟨#[91]⟩, .string ⟨#[93]⟩, .string ⟨#[59]⟩, .string ⟨#[44]⟩, .string ⟨#[61]⟩, .string ⟨#[43]⟩, .string ⟨#[45]⟩, .string ⟨#[42]⟩, .string ⟨#[47]⟩, .string ⟨#[37]⟩, .string ⟨#[60]⟩, .string ⟨#[62]⟩, .string ⟨#[33]⟩]
def signAtK (k : Nat) : ByteArray := ⟨(signsL.getD k []).toArray⟩
theorem signAtK_toList (k : Nat) : (signAtK k).toList = signsL.getD k [] := by
  rw [ByteArray.toList_eq]; rfl
/-- What the row lists of the table. -/
def Sg (w : World) : Prop := 0 < w.heap.size ∧ ∀ j v, signsV.toList[j]? = some v → w.cell? ⟨0, j, none⟩ = some v
theorem Sg.below {w w' : World} (h : Sg w) (hb : Below w.heap.size w w') : Sg w' := ⟨Nat.lt_of_lt_of_le h.1 hb.size, fun j v hv => (hb.cell (p := ⟨0, j, none⟩) h.1).trans (h.2 j v hv)⟩
theorem Sg.belowB {w w' : World} {B : Nat} (h : Sg w) (hb : Below B w w') (hB : 0 < B) : Sg w' := ⟨Nat.lt_of_lt_of_le h.1 hb.size, fun j v hv => (hb.cell (p := ⟨0, j, none⟩) hB).trans (h.2 j v hv)⟩
theorem signsSize : (Tryd.prog.info? 61).map (·.size) = some signsV.size := by kernel_rfl
theorem signsIndex : ∀ (k : Nat) (hk : k < 23) (w : World), (Instr.index 61 (.agg signsV) (.int .i64 (k : Int))).run Tryd.prog w = .ok (.string (signAtK k)) w
  | 0, _, w => by kernel_rfl
  | 1, _, w => by kernel_rfl
  | 2, _, w => by kernel_rfl
  | 3, _, w => by kernel_rfl
  | 4, _, w => by kernel_rfl
  | 5, _, w => by kernel_rfl
  | 6, _, w => by kernel_rfl
  | 7, _, w => by kernel_rfl
  | 8, _, w => by kernel_rfl
  | 9, _, w => by kernel_rfl
  | 10, _, w => by kernel_rfl
  | 11, _, w => by kernel_rfl
  | 12, _, w => by kernel_rfl
  | 13, _, w => by kernel_rfl
  | 14, _, w => by kernel_rfl
  | 15, _, w => by kernel_rfl
  | 16, _, w => by kernel_rfl
  | 17, _, w => by kernel_rfl
  | 18, _, w => by kernel_rfl
  | 19, _, w => by kernel_rfl
  | 20, _, w => by kernel_rfl
  | 21, _, w => by kernel_rfl
  | 22, _, w => by kernel_rfl
  | k + 23, h, _ => absurd h (by omega)
/-! Beginnings -/
def hpB (s p : ByteArray) : Bool := decide (p.size ≤ s.size) && ((s.extract 0 p.size).toList == p.toList)
set_option maxRecDepth 100000 in
theorem prefix_in (s p : ByteArray) (w : World) (hs : s.size ≤ 9223372036854775807) (hp : p.size ≤ 9223372036854775807) : Calls Tryd.prog 43 #[.string s, .string p] w fun e w' => e = .returned (.bool (hpB s p)) ∧ w = w' := by
  by_cases h : p.size ≤ s.size
  · have h1 : (p.size : Int) ≤ (s.size : Int) := by omega
    have E := hide (show hpB s p = ((s.extract 0 p.size).toList == p.toList) by simp [hpB, h])
    go_enter Tryd.func43, Tryd.ntmps43
    go_wp2_with fail
    go_ret
    exact ⟨by rw [E.out]; rfl, rfl⟩
  · have h1 : ¬ (p.size : Int) ≤ (s.size : Int) := by omega
    have h2 := decide_eq_false h1
    have E := hide (show hpB s p = false by simp [hpB, h])
    go_enter Tryd.func43, Tryd.ntmps43
    go_wp2_with fail
    go_ret
    exact ⟨by rw [E.out]; rfl, rfl⟩
set_option maxRecDepth 100000 in
theorem prefix_a (s p : ByteArray) (w : World) (hs : s.size ≤ 9223372036854775807) (hp : p.size ≤ 9223372036854775807) : Calls Tryd.prog 41 #[.string s, .string p] w fun e w' => e = .returned (.bool (hpB s p)) ∧ w = w' := by
  go_enter Tryd.func41, Tryd.ntmps41
  go_wp2_with fail
  refine (prefix_in s p _ hs hp).mono ?_
  rintro e w' ⟨rfl, rfl⟩
  go_wp2_with fail
  go_ret
  exact ⟨rfl, rfl⟩
/-- How long the longest sign is with which a text begins. -/
def signFromL (s : ByteArray) : List ByteArray → Nat
  | [] => 0
  | p :: r => if hpB s p then p.size else signFromL s r
def signsB : List ByteArray := (List.range 23).map signAtK
def signFrom (s : ByteArray) (k : Nat) : Nat := signFromL s (signsB.drop k)
theorem signsB_drop {k : Nat} (hk : k < 23) : signsB.drop k = signAtK k :: signsB.drop (k + 1) := by
  rw [List.drop_eq_getElem_cons (by simpa [signsB] using hk)]
  simp [signsB]
theorem signFrom_yes {s : ByteArray} {k : Nat} (hk : k < 23) (h : hpB s (signAtK k) = true) : signFrom s k = (signAtK k).size := by
  unfold signFrom; rw [signsB_drop hk, signFromL, if_pos h]
theorem signFrom_no {s : ByteArray} {k : Nat} (hk : k < 23) (h : hpB s (signAtK k) = false) : signFrom s k = signFrom s (k + 1) := by
  unfold signFrom; rw [signsB_drop hk, signFromL, if_neg (by simp [h])]
theorem signFrom_end {s : ByteArray} {k : Nat} (hk : ¬ k < 23) : signFrom s k = 0 := by
  unfold signFrom; rw [List.drop_eq_nil_of_le (by simp [signsB]; omega), signFromL]
theorem signFromL_of (s : ByteArray) : ∀ L : List ByteArray, signFromL s L = 0 ∨ ∃ p ∈ L, hpB s p = true ∧ p.size = signFromL s L
  | [] => .inl rfl
  | p :: r => by
    by_cases h : hpB s p = true
    · exact .inr ⟨p, by simp, h, by rw [signFromL, if_pos h]⟩
    · rw [signFromL, if_neg h]
      rcases signFromL_of s r with h0 | ⟨q, hq, h1, h2⟩
      · exact .inl h0
      · exact .inr ⟨q, List.mem_cons_of_mem _ hq, h1, h2⟩
theorem toList_inj {x y : ByteArray} (h : x.toList = y.toList) : x = y := by
  rw [ByteArray.toList_eq, ByteArray.toList_eq] at h
  exact ByteArray.ext (Array.toList_inj.1 h)
theorem hpB_whole {s p : ByteArray} (h : hpB s p = true) (hs : p.size = s.size) : s = p := by
  simp only [hpB, Bool.and_eq_true, beq_iff_eq] at h
  have := toList_inj h.2
  rw [hs] at this
  rw [← this]
  apply ByteArray.ext
  simp
theorem signK_size (k : Nat) : (signAtK k).size ≤ 2 := by
  by_cases hk : k < 23
  · have h : ∀ k : Fin 23, (signAtK k.1).size ≤ 2 := by decide +kernel
    exact h ⟨k, hk⟩
  · have : signsL.getD k [] = [] := by
      rw [List.getD_eq_getElem?_getD, List.getElem?_eq_none (by have : signsL.length = 23 := rfl; omega)]; rfl
    unfold signAtK
    rw [this]
    decide
set_option maxRecDepth 100000 in
set_option maxHeartbeats 2000000 in
theorem sign_at (s : ByteArray) (w : World) (hs : s.size ≤ 9223372036854775807) (h : Sg w) : Calls Tryd.prog 27 #[.string s] w fun e w' => e = .returned (.int .i64 (signFrom s 0)) ∧ w = w' := by
  have H := hide h
  have hcell : ∀ j v, signsV.toList[j]? = some v → w.cell? ((⟨0, 0, none⟩ : Addr).add j) = some v := fun j v hv => by
    have hadd : (⟨0, 0, none⟩ : Addr).add j = ⟨0, j, none⟩ := by unfold Addr.add; split <;> simp_all
    rw [hadd]; exact h.2 j v hv
  have HC := hide hcell
  clear h hcell
  go_enter Tryd.func27, Tryd.ntmps27
  go_wp2_with (refine wpList_load_cells rfl 61 _ rfl ⟨0, 0, none⟩ rfl signsV _ HC.out Tryd.underlying61 rfl signsSize ?_)
  go_loop [6] (fun i => ∃ k : Nat, k ≤ 23 ∧ i = .int .i64 k ∧ signFrom s k = signFrom s 0) (fun i => 23 - (intOf i).toNat)
  case atStart => exact ⟨0, by omega, rfl, rfl⟩
  case round =>
    obtain ⟨k, hk, rfl, hr⟩ := hrel
    have Hr := hide hr
    clear hr
    by_cases hlt : k < 23
    · have hix := signsIndex k hlt
      have hz := signK_size k
      by_cases hp : hpB s (signAtK k) = true
      · have E := hide ((signFrom_yes hlt hp).symm.trans Hr.out)
        go_wp2_with fail
        refine (prefix_a s (signAtK k) _ hs (by omega)).mono ?_
        rintro e w' ⟨rfl, rfl⟩
        go_wp2_with fail
        go_ret
        exact ⟨by rw [← E.out]; rfl, rfl⟩
      · have hp : hpB s (signAtK k) = false := by simpa using hp
        have E := hide ((signFrom_no hlt hp).symm.trans Hr.out)
        go_wp2_with fail
        refine (prefix_a s (signAtK k) _ hs (by omega)).mono ?_
        rintro e w' ⟨rfl, rfl⟩
        go_wp2_with fail
        go_round
        case rel => exact ⟨k + 1, by omega, by go_num, E.out⟩
        case measure => simp [intOf]; omega
    · obtain rfl : k = 23 := by omega
      have E := hide ((signFrom_end hlt).symm.trans Hr.out)
      go_wp2_with fail
      go_ret
      exact ⟨by rw [← E.out]; rfl, rfl⟩
end Go.Proofs.YtekdchhengcfoaaDoor
