/- What reading a call's text calls of the library; the operation of a word. -/
import Derived.Test.YthcoelkpiflfeaaDoorRows
import Derived.Test.YthcoelkpiflfeaaDoorCtC
import Derived.Test.YthcoelkpiflfeaaDoorShelf
import Derived.Lib.AtoiErrMem
namespace Go.Proofs.YthcoelkpiflfeaaDoor
open Go Go.RowKit Go.Lib Go.Proofs.YthcoelkpiflfeaaDoor.Grp
set_option linter.unusedVariables false
set_option linter.unusedSimpArgs false
namespace Cal
/-- The laid variables that these calls read. -/
structure Env (w : World) : Prop where
  mx : ∃ m, w.cell? ⟨2, 0, none⟩ = some (.int .i64 m)
  es : ∃ te pe, w.cell? ⟨3, 0, none⟩ = some (.iface te pe)
  er : ∃ te pe, w.cell? ⟨4, 0, none⟩ = some (.iface te pe)
  pow : Pow w
  red : Red w
theorem Env.below {w w' : World} {B : Nat} (h : Env w) (hb : Below B w w') (hB : w.heap.size ≤ B) : Env w' := by
  refine ⟨?_, ?_, ?_, h.pow.below hb hB, h.red.below hb hB⟩
  · obtain ⟨m, e⟩ := h.mx
    have := block_lt_of_cell e
    exact ⟨m, (hb.cell (Nat.lt_of_lt_of_le this hB)).trans e⟩
  · obtain ⟨t, p, e⟩ := h.es
    have := block_lt_of_cell e
    exact ⟨t, p, (hb.cell (Nat.lt_of_lt_of_le this hB)).trans e⟩
  · obtain ⟨t, p, e⟩ := h.er
    have := block_lt_of_cell e
    exact ⟨t, p, (hb.cell (Nat.lt_of_lt_of_le this hB)).trans e⟩
theorem bytes_data (s : List UInt8) : (bytes s).data.toList = s := by simp [bytes]
theorem belowN (w : World) : ∀ n, Below w.heap.size w (w.drewN n) := fun n => ⟨rfl, rfl, rfl, Nat.le_refl _, fun _ _ => rfl⟩
theorem cut_c (s : List UInt8) (w : World) (h : Env w) (hs : s.length ≤ 1000000) :
    Calls Tryd.prog 51 #[.string (bytes s), .string ⟨#[40]⟩] w fun e w' => e = .returned (.tuple #[.string (bytes (cut1 40 s).1), .string (bytes (cut1 40 s).2.1), .bool (cut1 40 s).2.2]) ∧ Below w.heap.size w w' := by
  obtain ⟨m, hm⟩ := h.mx
  refine (Tryd.strings_Cut (bytes s) ⟨#[40]⟩ m w (by rw [bytes_size]; omega) hm).mono ?_
  rintro e w' ⟨rfl, n, rfl⟩
  rw [bytes_data, show (⟨#[40]⟩ : ByteArray).data.toList = [40] from rfl, (lib_cut1 40 s).1]
  exact ⟨rfl, belowN w n⟩
theorem tsuf_c (s : List UInt8) (w : World) (hs : s.length ≤ 1000000) :
    Calls Tryd.prog 54 #[.string (bytes s), .string ⟨#[41]⟩] w fun e w' => e = .returned (.string (bytes (trimSuffix s [41]))) ∧ w' = w := by
  refine (Tryd.strings_TrimSuffix (bytes s) ⟨#[41]⟩ w (by rw [bytes_size]; omega)).mono ?_
  rintro e w' ⟨rfl, rfl⟩
  rw [bytes_data, show (⟨#[41]⟩ : ByteArray).data.toList = [41] from rfl]
  exact ⟨rfl, rfl⟩
def strC (l : List (List UInt8)) : List Value := l.map fun x => .string (bytes x)
theorem strC_at {l : List (List UInt8)} {j : Nat} (h : j < l.length) : (strC l)[j]? = some (.string (bytes (l.getD j []))) := by
  rw [strC, List.getElem?_map, List.getD, List.getElem?_eq_getElem h]
  rfl
theorem split_c (s : List UInt8) (w : World) (h : Env w) (hs : s.length ≤ 1000000) :
    Calls Tryd.prog 53 #[.string (bytes s), .string ⟨#[44, 32]⟩] w fun e w' => e = .returned (.slice (some ⟨w.heap.size, 0, none⟩) (itemsP s).length (itemsP s).length) ∧ w' = w.alloc (.cells (strC (itemsP s)).toArray 9) := by
  obtain ⟨m, hm⟩ := h.mx
  refine (Tryd.strings_Split (bytes s) ⟨#[44, 32]⟩ m w (by rw [bytes_size]; omega) hm (by show 1 ≤ 2; omega)).mono ?_
  rintro e w' ⟨rfl, rfl⟩
  have e1 := items_cells (bytes s)
  rw [bytes_data] at e1
  have e2 : countB (bytes s) ⟨#[44, 32]⟩ + 1 = (itemsP s).length := by
    have := congrArg List.length e1
    rw [List.length_map, List.length_map, Go.Lib.splitB_all _ (by show 1 ≤ 2; omega) 0 _ _ rfl] at this
    exact this
  rw [e2, e1]
  exact ⟨rfl, rfl⟩
theorem items_len (s : List UInt8) : 1 ≤ (itemsP s).length ∧ (itemsP s).length ≤ s.length + 1 := by
  have e1 := items_cells (bytes s)
  rw [bytes_data] at e1
  have e2 : countB (bytes s) ⟨#[44, 32]⟩ + 1 = (itemsP s).length := by
    have := congrArg List.length e1
    rw [List.length_map, List.length_map, Go.Lib.splitB_all _ (by show 1 ≤ 2; omega) 0 _ _ rfl] at this
    exact this
  have e3 := Go.Lib.countB_le ⟨#[44, 32]⟩ (by show 1 ≤ 2; omega) (bytes s).size (bytes s) (Nat.le_refl _)
  rw [bytes_size] at e3
  omega
theorem splitK_mem (sep : List UInt8) : ∀ (k : Nat) (s : List UInt8), ∀ p ∈ splitK sep 0 k s, p.length ≤ s.length
  | 0, s, p, h => by rw [splitK] at h; rw [List.mem_singleton.1 h]; exact Nat.le_refl _
  | k + 1, s, p, h => by
    rw [splitK] at h
    split at h
    · rw [List.mem_singleton.1 h]; exact Nat.le_refl _
    · rcases List.mem_cons.1 h with rfl | h
      · rw [List.length_take]; omega
      · have := splitK_mem sep k _ p h
        rw [List.length_drop] at this
        omega
theorem items_mem (s : List UInt8) (j : Nat) : ((itemsP s).getD j []).length ≤ s.length := by
  rw [List.getD]
  cases e : (itemsP s)[j]? with
  | none => simp
  | some p => exact splitK_mem _ _ _ p (List.mem_of_getElem? e)
theorem trimSuf_len (s p : List UInt8) : (trimSuffix s p).length ≤ s.length := by
  unfold trimSuffix
  split
  · rw [List.length_take]; omega
  · exact Nat.le_refl _
theorem pint_ok (s : List UInt8) (hs : s.length ≤ 1000000) (v : Int) (h : parseIntB 64 s = .ok v) (w : World) :
    Calls Tryd.prog 56 #[.string (bytes s), .int .i64 10, .int .i64 64] w fun e w' => e = .returned (.tuple #[.int .i64 v, .nilIface]) ∧ Below w.heap.size w w' := by
  refine (Tryd.strconv_ParseInt_10_at64_ok (bytes s) (by rw [bytes_size]; omega) v (by rw [bytes_data]; exact h) w).mono ?_
  rintro e w' ⟨rfl, rfl | ⟨t, rfl⟩⟩
  · exact ⟨rfl, Below.refl _ _⟩
  · exact ⟨rfl, Go.Lib.bytesWorld_below w 5 t⟩
theorem pint_no (s : List UInt8) (hs : s.length ≤ 1000000) (h : ∀ v, parseIntB 64 s ≠ .ok v) (w : World) (hw : Env w) :
    Calls Tryd.prog 56 #[.string (bytes s), .int .i64 10, .int .i64 64] w fun e w' => ∃ x t p, e = .returned (.tuple #[.int .i64 x, .iface t p]) ∧ Below w.heap.size w w' := by
  obtain ⟨t1, p1, q1⟩ := hw.es
  obtain ⟨t2, p2, q2⟩ := hw.er
  rcases hc : parseIntB 64 s with v | _ | _
  · exact absurd hc (h v)
  · refine (Tryd.strconv_ParseInt_10_at64_syntax (bytes s) (by rw [bytes_size]; omega) (by rw [bytes_data]; exact (hc.trans (show _ = atoiAll [] from rfl))) _ w q1 (.inr ⟨t1, p1, rfl⟩)).mono ?_
    rintro e w' ⟨N, rfl, _, _, hb⟩
    exact ⟨_, _, _, rfl, hb⟩
  · refine (Tryd.strconv_ParseInt_10_at64_range (bytes s) (by rw [bytes_size]; omega) (by rw [bytes_data]; exact hc) _ w q2 (.inr ⟨t2, p2, rfl⟩)).mono ?_
    rintro e w' ⟨N, rfl, _, _, hb⟩
    exact ⟨_, _, _, rfl, hb⟩
theorem pint_fit {s : List UInt8} {v : Int} (h : parseIntB 64 s = .ok v) : Told.Fit v := by
  have h2 := Lib.parseIntB_bounds h
  have e : ((2 ^ (64 - 1) : Nat) : Int) = 9223372036854775808 := by decide
  rw [e] at h2
  unfold Told.Fit
  omega
theorem beq_word (x : List UInt8) (s : List UInt8) : ((bytes x).toList == (bytes s).toList) = decide (x = s) := by
  rw [ByteArray.toList_eq, ByteArray.toList_eq, bytes_data, bytes_data, Bool.eq_iff_iff]
  simp
theorem red_at : ∀ (k : Nat) (w : World), k < 3 → (Instr.index 51 (.agg #[.string ⟨#[115, 117, 109]⟩, .string ⟨#[109, 97, 120]⟩, .string ⟨#[109, 105, 110]⟩]) (.int .i64 (k : Int))).run Tryd.prog w = .ok (.string (bytes (redL (k : Int)))) w
  | 0, w, _ => by kernel_rfl
  | 1, w, _ => by kernel_rfl
  | 2, w, _ => by kernel_rfl
  | k + 3, w, h => absurd h (by omega)
theorem redOf_at (it : List UInt8) (k : Nat) (hk : k < 3) (h : redL (k : Int) = it) : redOf it = (k : Int) := by
  rw [← h]
  exact redOf_red (by omega) (by omega)
theorem redOf_none (it : List UInt8) (h : ∀ k < 3, redL ((k : Nat) : Int) ≠ it) : redOf it = 0 := by
  unfold redOf
  rw [if_neg (fun e => h 0 (by omega) e.symm), if_neg (fun e => h 1 (by omega) e.symm), if_neg (fun e => h 2 (by omega) e.symm)]
set_option maxRecDepth 100000 in
set_option maxHeartbeats 8000000 in
theorem reduction_c (it : List UInt8) (w : World) (hd : Red w) : Calls Tryd.prog 55 #[.string (bytes it)] w fun e w' => e = .returned (.int .u8 (redOf it)) ∧ w' = w := by
  have r0 : w.cell? ⟨0, 0, none⟩ = some (.string ⟨#[115, 117, 109]⟩) := hd.c 0 (by omega)
  have r1 : w.cell? ⟨0, 1, none⟩ = some (.string ⟨#[109, 97, 120]⟩) := hd.c 1 (by omega)
  have r2 : w.cell? ⟨0, 2, none⟩ = some (.string ⟨#[109, 105, 110]⟩) := hd.c 2 (by omega)
  have RA := hide (fun k (hk : k < 3) (w : World) => red_at k w hk)
  clear hd
  go_enter Tryd.func55, Tryd.ntmps55
  go_wp2_with fail
  clear r0 r1 r2
  go_loop [6] (fun i => ∃ k : Nat, k ≤ 3 ∧ i = .int .i64 k ∧ Hid (∀ j < k, redL (j : Int) ≠ it)) (fun i => 3 - (RowKit.intOf i).toNat)
  case atStart => exact ⟨0, by omega, rfl, hide fun j hj => by omega⟩
  case round =>
    obtain ⟨k, hk, rfl, hno⟩ := hrel
    by_cases hlt : k < 3
    · have hltI : (k : Int) < 3 := by omega
      have RI := RA.out k hlt
      have hw8 : IntKind.u8.wrap (k : Int) = (k : Int) := by rw [IntKind.wrap_u8]; omega
      by_cases he : redL (k : Int) = it
      · have E := hide (redOf_at it k hlt he)
        have eb : ((bytes (redL (k : Int))).toList == (bytes it).toList) = true := by rw [beq_word]; exact decide_eq_true he
        clear he
        go_wp2_with fail
        go_ret
        exact ⟨by rw [E.out]; rfl, rfl⟩
      · have eb : ((bytes (redL (k : Int))).toList == (bytes it).toList) = false := by rw [beq_word]; exact decide_eq_false he
        have HE := hide he
        clear he
        go_wp2_with fail
        go_round
        case rel => exact ⟨k + 1, by omega, by go_num, hide fun j hj => by
          by_cases hjk : j = k
          · subst hjk; exact HE.out
          · exact hno.out j (by omega)⟩
        case measure => simp [RowKit.intOf]; omega
    · obtain rfl : k = 3 := by omega
      have E := hide (redOf_none it hno.out)
      go_wp2_with fail
      go_ret
      exact ⟨by rw [E.out]; rfl, rfl⟩
end Cal
end Go.Proofs.YthcoelkpiflfeaaDoor
