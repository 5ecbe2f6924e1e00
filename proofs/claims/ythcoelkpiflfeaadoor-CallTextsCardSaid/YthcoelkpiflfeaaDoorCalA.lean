/- The fields that a kind uses, as the program tells them. -/
import Derived.Test.YthcoelkpiflfeaaDoorRows
import Derived.Test.YthcoelkpiflfeaaDoorCalP
import Derived.Test.YthcoelkpiflfeaaDoorGround
import Derived.MapKept
namespace Go.Proofs.YthcoelkpiflfeaaDoor
open Go Go.RowKit Go.Lib Go.MapKept
set_option linter.unusedVariables false
set_option linter.unusedSimpArgs false
namespace Cal
def i64s (l : List Int) : List Value := l.map fun z => .int .i64 z
theorem i64s_len (l : List Int) : (i64s l).length = l.length := by simp [i64s]
theorem i64s_at {l : List Int} {j : Nat} (h : j < l.length) : (i64s l)[j]? = some (.int .i64 (l.getD j 0)) := by
  rw [i64s, List.getElem?_map, List.getD, List.getElem?_eq_getElem h]
  rfl
/-- Entries of a map of rows, as they lie. -/
def EsOf (B : Nat) (w1 : World) : List MapEntry → List (Int × List Int) → Prop
  | [], [] => True
  | e :: es, p :: l => e.key = .int .u8 p.1 ∧ (∃ g, e.val = .slice (some ⟨g, 0, none⟩) p.2.length p.2.length ∧ B ≤ g ∧ Blk w1 g 3 (i64s p.2).toArray) ∧ EsOf B w1 es l
  | _, _ => False
theorem EsOf.keep {B : Nat} {w1 w2 : World} (hk : ∀ g, B ≤ g → g < w1.heap.size → (∃ t cs, Blk w1 g t cs) → w2.heap[g]? = w1.heap[g]?) : ∀ {es : List MapEntry} {l : List (Int × List Int)}, EsOf B w1 es l → EsOf B w2 es l
  | [], [], _ => trivial
  | e :: es, p :: l, ⟨h1, ⟨g, h2, h3, h4⟩, h5⟩ => ⟨h1, ⟨g, h2, h3, (hk g h3 h4.lt ⟨_, _, h4⟩).trans h4⟩, EsOf.keep hk h5⟩
theorem EsOf.push {B : Nat} {w1 : World} {k : Int} {row : List Int} {g : Nat} (h3 : B ≤ g) (h4 : Blk w1 g 3 (i64s row).toArray) (c : Nat) : ∀ {es : List MapEntry} {l : List (Int × List Int)}, EsOf B w1 es l → EsOf B w1 (es ++ [⟨.int .u8 k, .slice (some ⟨g, 0, none⟩) row.length row.length, c⟩]) (l ++ [(k, row)])
  | [], [], _ => ⟨rfl, ⟨g, rfl, h3, h4⟩, trivial⟩
  | e :: es, p :: l, ⟨h1, h2, h5⟩ => ⟨h1, h2, EsOf.push h3 h4 c h5⟩
def rowOf (k : Int) : List (Int × List Int) → Option (List Int)
  | [] => none
  | p :: l => if p.1 = k then some p.2 else rowOf k l
theorem EsOf.find {B : Nat} {w1 : World} (k : Int) : ∀ {es : List MapEntry} {l : List (Int × List Int)} (i : Nat), EsOf B w1 es l →
    (rowOf k l = none ∧ Instr.findNow (.int .u8) (.int .u8 k) es i = some none) ∨ ∃ row j v g, rowOf k l = some row ∧ Instr.findNow (.int .u8) (.int .u8 k) es i = some (some (j, v)) ∧ v = .slice (some ⟨g, 0, none⟩) row.length row.length ∧ B ≤ g ∧ Blk w1 g 3 (i64s row).toArray
  | [], [], i, _ => .inl ⟨rfl, rfl⟩
  | e :: es, p :: l, i, ⟨h1, ⟨g, h2, h3, h4⟩, h5⟩ => by
    unfold Instr.findNow rowOf
    rw [h1]
    by_cases h : p.1 = k
    · subst h
      refine .inr ⟨p.2, i, e.val, g, by rw [if_pos rfl], ?_, h2, h3, h4⟩
      simp [Instr.sameNow]
    · have hn : ¬ k = p.1 := fun e => h e.symm
      rw [if_neg h]
      simp only [Instr.sameNow, if_true, show (k == p.1) = false by simp [hn]]
      exact EsOf.find k (i + 1) h5
structure MpSt (w0 w1 : World) (M : Nat) (l : List (Int × List Int)) : Prop where
  map : ∃ (es : Array MapEntry) (clock : Nat), w1.heap[M]? = some (.map es clock) ∧ EsOf w0.heap.size w1 es.toList l
  bl : Below w0.heap.size w0 w1
  lo : w0.heap.size ≤ M
theorem MpSt.made (w : World) : MpSt w (w.alloc (.map #[] 0)) w.heap.size [] :=
  ⟨⟨#[], 0, (heap_alloc w _).1, trivial⟩, (Below.refl _ _).alloc (Nat.le_refl _) _, Nat.le_refl _⟩
theorem MpSt.ins {w0 w1 : World} {M : Nat} {l : List (Int × List Int)} (s : MpSt w0 w1 M l) (k : Int) (row : List Int) (n : Nat) (hn : row.length = n) (arr : Array Value) (harr : arr = (i64s row).toArray) (hk : rowOf k l = none) :
    ∃ w2, (Instr.mapUpdate 79 (.map (some M)) (.int .u8 k) (.slice (some ⟨w1.heap.size, 0, none⟩) n n)).run Tryd.prog (w1.alloc (.cells arr 3)) = .ok () w2 ∧ Hid (MpSt w0 w2 M (l ++ [(k, row)])) := by
  obtain ⟨⟨es, clock, hm, he⟩, hb, hlo⟩ := s
  subst hn
  have hM : M < w1.heap.size := (Array.getElem?_eq_some_iff.1 hm).1
  have bl1 := (Below.refl w1.heap.size w1).alloc (Nat.le_refl _) (.cells arr 3)
  have hm1 : (w1.alloc (.cells arr 3)).heap[M]? = some (.map es clock) := (bl1.block M hM).trans hm
  have he1 : EsOf w0.heap.size (w1.alloc (.cells arr 3)) es.toList l := he.keep fun g _ hg _ => bl1.block g hg
  have hg1 := Blk.new w1 3 arr
  have hf : Instr.findNow (.int .u8) (.int .u8 k) es.toList 0 = some none := by
    rcases he1.find k 0 with ⟨_, h⟩ | ⟨row', _, _, _, h, _⟩
    · exact h
    · rw [hk] at h; cases h
  refine ⟨{ (w1.alloc (.cells arr 3)) with heap := (w1.alloc (.cells arr 3)).heap.setIfInBounds M (.map (es.push ⟨.int .u8 k, .slice (some ⟨w1.heap.size, 0, none⟩) row.length row.length, clock⟩) (clock + 1)) }, ?_, ?_⟩
  · unfold Instr.mapUpdate
    simp only [Sem.run_bind, run_underlying Tryd.underlying79, Result.andThen, MapKept.run_getObj_map hm1, MapKept.run_checkKey (k := .int .u8 k) Tryd.underlying5 (by simp [IsKey]), MapKept.run_findKey Tryd.underlying5 hf, MapKept.run_setObj_map _ hm1]
  · refine hide ⟨⟨_, _, (heap_set hm1).1, ?_⟩, ?_, hlo⟩
    · rw [Array.toList_push]
      refine EsOf.push (Nat.le_trans hb.size (Nat.le_refl _)) ?_ _ (he1.keep fun g hg0 hgl hgb => ?_)
      · have hne : w1.heap.size ≠ M := by omega
        have := hg1
        rw [harr] at this ⊢
        exact ((heap_set (by rw [← harr]; exact hm1)).2 _ hne).trans this
      · obtain ⟨t, cs, hcs⟩ := hgb
        refine (heap_set hm1).2 g fun e => ?_
        subst e
        have := hm1.symm.trans hcs
        cases this
    · have h1 := hb.trans (bl1.mono hb.size)
      exact ⟨h1.os, h1.tape, h1.output, by simpa using h1.size, fun j hj => ((heap_set hm1).2 j (by omega)).trans (h1.block j hj)⟩
def tab : List (Int × List Int) := [(1, [0, 1, 2, 3, 4]), (2, [0, 1, 2, 3, 4]), (3, [0, 1, 2, 3, 4]), (4, [0, 1, 2, 3, 4]), (5, [0, 1, 2, 3, 4]), (6, [0, 1, 2]), (7, [0, 1, 2]), (8, [7]), (9, [7]), (10, [7]), (11, [7]), (12, [7]), (13, [0, 1, 2]), (14, [0, 1, 2]), (15, [0]), (16, [0, 5, 3]), (17, [0, 5, 3, 6]), (18, [0, 3, 6]), (19, [0, 5, 3]), (20, [0]), (21, [0, 8, 9]), (22, [0])]
theorem rowOf_tab (k : Int) : (rowOf k tab).getD [] = usedL k := by
  by_cases h1 : k = 1
  · subst h1; rfl
  by_cases h2 : k = 2
  · subst h2; rfl
  by_cases h3 : k = 3
  · subst h3; rfl
  by_cases h4 : k = 4
  · subst h4; rfl
  by_cases h5 : k = 5
  · subst h5; rfl
  by_cases h6 : k = 6
  · subst h6; rfl
  by_cases h7 : k = 7
  · subst h7; rfl
  by_cases h8 : k = 8
  · subst h8; rfl
  by_cases h9 : k = 9
  · subst h9; rfl
  by_cases h10 : k = 10
  · subst h10; rfl
  by_cases h11 : k = 11
  · subst h11; rfl
  by_cases h12 : k = 12
  · subst h12; rfl
  by_cases h13 : k = 13
  · subst h13; rfl
  by_cases h14 : k = 14
  · subst h14; rfl
  by_cases h15 : k = 15
  · subst h15; rfl
  by_cases h16 : k = 16
  · subst h16; rfl
  by_cases h17 : k = 17
  · subst h17; rfl
  by_cases h18 : k = 18
  · subst h18; rfl
  by_cases h19 : k = 19
  · subst h19; rfl
  by_cases h20 : k = 20
  · subst h20; rfl
  by_cases h21 : k = 21
  · subst h21; rfl
  by_cases h22 : k = 22
  · subst h22; rfl
  have e : rowOf k tab = none := by
    unfold tab
    simp only [rowOf]
    rw [if_neg (fun e => h1 e.symm)]
    rw [if_neg (fun e => h2 e.symm)]
    rw [if_neg (fun e => h3 e.symm)]
    rw [if_neg (fun e => h4 e.symm)]
    rw [if_neg (fun e => h5 e.symm)]
    rw [if_neg (fun e => h6 e.symm)]
    rw [if_neg (fun e => h7 e.symm)]
    rw [if_neg (fun e => h8 e.symm)]
    rw [if_neg (fun e => h9 e.symm)]
    rw [if_neg (fun e => h10 e.symm)]
    rw [if_neg (fun e => h11 e.symm)]
    rw [if_neg (fun e => h12 e.symm)]
    rw [if_neg (fun e => h13 e.symm)]
    rw [if_neg (fun e => h14 e.symm)]
    rw [if_neg (fun e => h15 e.symm)]
    rw [if_neg (fun e => h16 e.symm)]
    rw [if_neg (fun e => h17 e.symm)]
    rw [if_neg (fun e => h18 e.symm)]
    rw [if_neg (fun e => h19 e.symm)]
    rw [if_neg (fun e => h20 e.symm)]
    rw [if_neg (fun e => h21 e.symm)]
    rw [if_neg (fun e => h22 e.symm)]
  rw [e]
  unfold usedL
  rw [if_neg (by omega), if_neg (by omega), if_neg (by omega), if_neg (by omega), if_neg (by omega), if_neg (by omega), if_neg (by omega), if_neg (by omega)]
  rfl
theorem rowOf_mem (k : Int) : ∀ (l : List (Int × List Int)) (row : List Int), rowOf k l = some row → ∃ p ∈ l, p.2 = row
  | [], row, h => by cases h
  | p :: l, row, h => by
    unfold rowOf at h
    split at h
    · injection h with h
      exact ⟨p, List.mem_cons_self, h⟩
    · obtain ⟨q, hq, e⟩ := rowOf_mem k l row h
      exact ⟨q, List.mem_cons_of_mem _ hq, e⟩
theorem tab_pos : ∀ p ∈ tab, 0 < p.2.length := by decide
/-- What is told of a kind's fields. -/
def UsedV (w0 w1 : World) (k : Int) (v : Value) : Prop := (usedL k = [] ∧ v = .slice none 0 0) ∨ ∃ g, 0 < (usedL k).length ∧ v = .slice (some ⟨g, 0, none⟩) (usedL k).length (usedL k).length ∧ w0.heap.size ≤ g ∧ Blk w1 g 3 (i64s (usedL k)).toArray
theorem MpSt.look {w0 w1 : World} {M : Nat} (s : MpSt w0 w1 M tab) (k : Int) : ∃ v, (Instr.lookup 79 (.map (some M)) (.int .u8 k) false).run Tryd.prog w1 = .ok v w1 ∧ Hid (UsedV w0 w1 k v) := by
  obtain ⟨⟨es, clock, hm, he⟩, hb, hlo⟩ := s
  have hz : (zeroValue 22).run Tryd.prog w1 = .ok (.slice none 0 0) w1 := by kernel_rfl
  have ht := rowOf_tab k
  rcases he.find k 0 with ⟨h1, h2⟩ | ⟨row, j, v, g, h1, h2, h3, h4, h5⟩
  · refine ⟨.slice none 0 0, ?_, hide (.inl ⟨by rw [← ht, h1]; rfl, rfl⟩)⟩
    unfold Instr.lookup
    simp only [Sem.run_bind, run_underlying Tryd.underlying79, Result.andThen, MapKept.run_getObj_map hm, MapKept.run_checkKey (k := .int .u8 k) Tryd.underlying5 (by simp [IsKey]), MapKept.run_findKey Tryd.underlying5 h2, hz, Sem.run_pure]
    rfl
  · have e : usedL k = row := by rw [← ht, h1]; rfl
    obtain ⟨p, hp, hpr⟩ := rowOf_mem k tab row h1
    have h0 := tab_pos p hp
    rw [hpr] at h0
    subst e
    refine ⟨v, ?_, hide (.inr ⟨g, h0, h3, h4, h5⟩)⟩
    unfold Instr.lookup
    simp only [Sem.run_bind, run_underlying Tryd.underlying79, Result.andThen, MapKept.run_getObj_map hm, MapKept.run_checkKey (k := .int .u8 k) Tryd.underlying5 (by simp [IsKey]), MapKept.run_findKey Tryd.underlying5 h2, Sem.run_pure]
    rfl
set_option maxRecDepth 100000 in
set_option maxHeartbeats 8000000 in
theorem used_c (k : Int) (w : World) :
    Calls Tryd.prog 19 #[.int .u8 k] w fun e w' => ∃ v, e = .returned v ∧ UsedV w w' k v ∧ Below w.heap.size w w' := by
  obtain ⟨w1, hw1⟩ : ∃ y, w.alloc (.map #[] 0) = y := ⟨_, rfl⟩
  have s1 := hide (MpSt.made w)
  have MAKE := @run_makeMap Tryd.prog 79 w
  rw [hw1] at s1 MAKE
  clear hw1
  obtain ⟨w2, h2, s2⟩ := s1.out.ins 1 [0, 1, 2, 3, 4] 5 rfl #[.int .i64 0, .int .i64 1, .int .i64 2, .int .i64 3, .int .i64 4] rfl (by decide)
  clear s1
  obtain ⟨w3, h3, s3⟩ := s2.out.ins 2 [0, 1, 2, 3, 4] 5 rfl #[.int .i64 0, .int .i64 1, .int .i64 2, .int .i64 3, .int .i64 4] rfl (by decide)
  clear s2
  obtain ⟨w4, h4, s4⟩ := s3.out.ins 3 [0, 1, 2, 3, 4] 5 rfl #[.int .i64 0, .int .i64 1, .int .i64 2, .int .i64 3, .int .i64 4] rfl (by decide)
  clear s3
  obtain ⟨w5, h5, s5⟩ := s4.out.ins 4 [0, 1, 2, 3, 4] 5 rfl #[.int .i64 0, .int .i64 1, .int .i64 2, .int .i64 3, .int .i64 4] rfl (by decide)
  clear s4
  obtain ⟨w6, h6, s6⟩ := s5.out.ins 5 [0, 1, 2, 3, 4] 5 rfl #[.int .i64 0, .int .i64 1, .int .i64 2, .int .i64 3, .int .i64 4] rfl (by decide)
  clear s5
  obtain ⟨w7, h7, s7⟩ := s6.out.ins 6 [0, 1, 2] 3 rfl #[.int .i64 0, .int .i64 1, .int .i64 2] rfl (by decide)
  clear s6
  obtain ⟨w8, h8, s8⟩ := s7.out.ins 7 [0, 1, 2] 3 rfl #[.int .i64 0, .int .i64 1, .int .i64 2] rfl (by decide)
  clear s7
  obtain ⟨w9, h9, s9⟩ := s8.out.ins 8 [7] 1 rfl #[.int .i64 7] rfl (by decide)
  clear s8
  obtain ⟨w10, h10, s10⟩ := s9.out.ins 9 [7] 1 rfl #[.int .i64 7] rfl (by decide)
  clear s9
  obtain ⟨w11, h11, s11⟩ := s10.out.ins 10 [7] 1 rfl #[.int .i64 7] rfl (by decide)
  clear s10
  obtain ⟨w12, h12, s12⟩ := s11.out.ins 11 [7] 1 rfl #[.int .i64 7] rfl (by decide)
  clear s11
  obtain ⟨w13, h13, s13⟩ := s12.out.ins 12 [7] 1 rfl #[.int .i64 7] rfl (by decide)
  clear s12
  obtain ⟨w14, h14, s14⟩ := s13.out.ins 13 [0, 1, 2] 3 rfl #[.int .i64 0, .int .i64 1, .int .i64 2] rfl (by decide)
  clear s13
  obtain ⟨w15, h15, s15⟩ := s14.out.ins 14 [0, 1, 2] 3 rfl #[.int .i64 0, .int .i64 1, .int .i64 2] rfl (by decide)
  clear s14
  obtain ⟨w16, h16, s16⟩ := s15.out.ins 15 [0] 1 rfl #[.int .i64 0] rfl (by decide)
  clear s15
  obtain ⟨w17, h17, s17⟩ := s16.out.ins 16 [0, 5, 3] 3 rfl #[.int .i64 0, .int .i64 5, .int .i64 3] rfl (by decide)
  clear s16
  obtain ⟨w18, h18, s18⟩ := s17.out.ins 17 [0, 5, 3, 6] 4 rfl #[.int .i64 0, .int .i64 5, .int .i64 3, .int .i64 6] rfl (by decide)
  clear s17
  obtain ⟨w19, h19, s19⟩ := s18.out.ins 18 [0, 3, 6] 3 rfl #[.int .i64 0, .int .i64 3, .int .i64 6] rfl (by decide)
  clear s18
  obtain ⟨w20, h20, s20⟩ := s19.out.ins 19 [0, 5, 3] 3 rfl #[.int .i64 0, .int .i64 5, .int .i64 3] rfl (by decide)
  clear s19
  obtain ⟨w21, h21, s21⟩ := s20.out.ins 20 [0] 1 rfl #[.int .i64 0] rfl (by decide)
  clear s20
  obtain ⟨w22, h22, s22⟩ := s21.out.ins 21 [0, 8, 9] 3 rfl #[.int .i64 0, .int .i64 8, .int .i64 9] rfl (by decide)
  clear s21
  obtain ⟨w23, h23, s23⟩ := s22.out.ins 22 [0] 1 rfl #[.int .i64 0] rfl (by decide)
  clear s22
  have S : Hid (MpSt w w23 w.heap.size tab) := s23
  obtain ⟨v, hv, hu⟩ := S.out.look k
  have HB := hide S.out.bl
  clear S s23
  go_enter Tryd.func19, Tryd.ntmps19
  go_wp2_with fail
  go_ret
  exact ⟨v, rfl, hu.out, HB.out⟩
end Cal
end Go.Proofs.YthcoelkpiflfeaaDoor
