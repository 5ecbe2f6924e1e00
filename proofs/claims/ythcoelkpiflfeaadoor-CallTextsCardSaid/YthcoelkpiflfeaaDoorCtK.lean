/- A text's word and items: the document. -/
import Derived.Test.YthcoelkpiflfeaaDoorRows
import Derived.Test.YthcoelkpiflfeaaDoorCtE
import Derived.Test.YthcoelkpiflfeaaDoorGround
namespace Go.Proofs.YthcoelkpiflfeaaDoor
open Go Go.RowKit Go.Lib Go.Proofs.YthcoelkpiflfeaaDoor.Grp
set_option linter.unusedVariables false
set_option linter.unusedSimpArgs false
namespace Cal
def PartsIs (s : List UInt8) (w : World) (e : Ending) (w' : World) : Prop :=
  ((ptB s = none ∧ e = .returned (.tuple #[.string ⟨#[]⟩, .slice none 0 0, .bool false])) ∨ (∃ (wd : List UInt8) (args : List (List UInt8)) (A : Option Addr) (cap : Nat), ptB s = some (wd, args) ∧ e = .returned (.tuple #[.string (bytes wd), .slice A args.length cap, .bool true]) ∧ w'.ownsRow w.heap.size 9 1 (.slice A args.length cap) args.length (strC args))) ∧ Below w.heap.size w w'
theorem str_info : (Tryd.prog.info? 9).map (fun i => (i.zero, i.size, i.bytes)) = some (some (.string ⟨#[]⟩), 1, 16) := by kernel_rfl
theorem strC_app (a b : List (List UInt8)) : strC (a ++ b) = strC a ++ strC b := by simp [strC]
theorem ext_bytes (s : ByteArray) (f i : Nat) : s.extract f i = bytes ((s.data.toList.take i).drop f) := by
  have : bytes ((s.extract f i).data.toList) = s.extract f i := rfl
  rw [← this]
  congr 1
  rw [ByteArray.data_extract, Array.toList_extract, List.extract_eq_take_drop, List.drop_take]
set_option maxRecDepth 100000 in
/-- A text put behind a row of one's own. -/
theorem push_s (w : World) (B : Nat) (A : Option Addr) (cap n : Nat) (l : List (List UInt8)) (x : List UInt8) (hn : l.length = n) (h : w.ownsRow B 9 1 (.slice A n cap) n (strC l)) (hB : B ≤ w.heap.size) (hl : n ≤ 100000) :
    ∃ A1 c1 w1, (Builtin.append_ #[60, 60] 60 #[.slice A n cap, .slice (some ⟨w.heap.size, 0, none⟩) 1 1]).run Tryd.prog (w.alloc (.cells #[.string (bytes x)] 9)) = .ok (.slice A1 (n + 1) c1) w1 ∧
      w1.ownsRow B 9 1 (.slice A1 (n + 1) c1) (n + 1) (strC (l ++ [x])) ∧ Below B w w1 := by
  have ba := (Below.refl w.heap.size w).alloc (Nat.le_refl _) (.cells #[.string (bytes x)] 9)
  have kb := Blk.new w 9 #[.string (bytes x)]
  have ow := own_belowR h ba
  have hs1 : (w.alloc (.cells #[.string (bytes x)] 9)).heap.size = w.heap.size + 1 := by simp
  obtain ⟨Wz, hWz⟩ : ∃ x', w.alloc (.cells #[.string (bytes x)] 9) = x' := ⟨_, rfl⟩
  rw [hWz] at ba kb ow hs1 ⊢
  have hrd : Reads Wz Wz.heap.size 1 (some ⟨w.heap.size, 0, none⟩) 1 [.string (bytes x)] := ⟨rfl, fun _ => ⟨_, rfl, kb.lt, fun j u hu => by rw [add_lit, kb.cell]; simpa using hu⟩⟩
  obtain ⟨i0, hi0, hz0', hz1, hz2⟩ := info_parts str_info
  obtain ⟨v11, w11, hrun, hown, hk11, hob⟩ := run_append_any (P := Tryd.prog) Wz B 60 60 9 i0 _ 1 16 Tryd.underlying60 hi0 hz0' hz1 hz2 (by rfl) (by omega) _ _ _ ow Wz.heap.size (some ⟨w.heap.size, 0, none⟩) 1 1 _ hrd (by intro u hu; rw [List.mem_singleton.1 hu]; rfl) (by unfold maxLen; omega) (by omega) (by omega)
  obtain ⟨A11, c11, rfl⟩ := own_form hown
  exact ⟨A11, c11, w11, hrun, by rw [strC_app]; exact hown, (ba.mono hB).grown hk11 (by omega) (fun g e => (own_block h e).1)⟩
theorem ptB_none1 {s : List UInt8} {a : Nat} (hb : brk s = a) (h : s.length ≤ a + 1) : ptB s = none := by unfold ptB; rw [if_pos (.inl (by rw [hb]; exact h))]
theorem ptB_none2 {s : List UInt8} (h : s[s.length - 1]? ≠ some 41) : ptB s = none := by unfold ptB; rw [if_pos (.inr h)]
theorem ptB_some {s : List UInt8} {a : Nat} (hb : brk s = a) (h : ¬ s.length ≤ a + 1) (h2 : s[s.length - 1]? = some 41) : ptB s = some (s.take a, spl2 false [] ((s.take (s.length - 1)).drop (a + 1))) := by
  unfold ptB
  rw [hb, if_neg]
  rintro (h' | h')
  · exact h h'
  · exact h' h2
theorem jm_le {i J E : Nat} (hJ : J = i + 1) (h : i < E) : J ≤ E ∧ E - J < E - i ∧ J ≤ 100000 + E := by omega
theorem w64_add (i j k : Nat) (h : i ≤ 20000) (hk : k ≤ 2) (hj : j = i + k) : wrap64 ((i : Int) + (k : Int)) = (j : Int) := by unfold wrap64; omega
/-- One operation (at place i) writes; the one at place j takes over what it tells. -/
structure JW (i j : Nat) (w0 : World) (row : Option Nat) (P0 : World → Prop) (P1 : Value → World → Prop) (V : Nat → Option Value) (w : World) : Prop where
  no : V i = none → P0 w
  yes : ∀ u, V i = some u → P1 u w
  eq : ∀ v, V j = some v → V i = some v
  up : w0.grownBy w row
theorem JW.start {i j : Nat} {w0 : World} {row : Option Nat} {P0 : World → Prop} {P1 : Value → World → Prop} (h : P0 w0.drew) : JW i j w0 row P0 P1 (fun _ => none) w0.drew :=
  ⟨fun _ => h, fun _ e => by (cases e), fun _ e => by (cases e), grown_of_below (Below.refl _ _).drew⟩
theorem JW.other {i j : Nat} {w0 : World} {row : Option Nat} {P0 : World → Prop} {P1 : Value → World → Prop} {V : Nat → Option Value} {w w' : World} (h : JW i j w0 row P0 P1 V w) (hb : Below w.heap.size w w') (h0 : P0 w → P0 w') (h1 : ∀ u, P1 u w → P1 u w') (k : Nat) (x : Value) (hi : ¬ k = i) (hj : ¬ k = j) : JW i j w0 row P0 P1 (setV V k x) w' := by
  have ei : setV V k x i = V i := by unfold setV; rw [if_neg (fun e => hi e.symm)]
  have ej : setV V k x j = V j := by unfold setV; rw [if_neg (fun e => hj e.symm)]
  exact ⟨fun e => h0 (h.no (by rw [← ei]; exact e)), fun u e => h1 u (h.yes u (by rw [← ei]; exact e)), fun v e => by rw [ei]; exact h.eq v (by rw [← ej]; exact e), gtrans h.up (grown_of_below hb)⟩
theorem JW.write {i j : Nat} {w0 : World} {row : Option Nat} {P0 : World → Prop} {P1 : Value → World → Prop} {V : Nat → Option Value} {w w' : World} (h : JW i j w0 row P0 P1 V w) (u : Value) (hV : V i = none) (hij : ¬ i = j) (hg : w.grownBy w' row) (h1 : P1 u w') : JW i j w0 row P0 P1 (setV V i u) w' := by
  have ei : setV V i u i = some u := by unfold setV; rw [if_pos rfl]
  have ej : setV V i u j = V j := by unfold setV; rw [if_neg (fun e => hij e.symm)]
  refine ⟨fun e => ?_, fun u' e => ?_, fun v e => ?_, gtrans h.up hg⟩
  · rw [ei] at e; cases e
  · rw [ei] at e; cases e; exact h1
  · rw [ej] at e
    have := h.eq v e
    rw [hV] at this
    cases this
theorem JW.copy {i j : Nat} {w0 : World} {row : Option Nat} {P0 : World → Prop} {P1 : Value → World → Prop} {V : Nat → Option Value} {w : World} (h : JW i j w0 row P0 P1 V w) (v : Value) (hv : V i = some v) (hij : ¬ i = j) : JW i j w0 row P0 P1 (setV V j v) w := by
  have ei : setV V j v i = V i := by unfold setV; rw [if_neg hij]
  have ej : setV V j v j = some v := by unfold setV; rw [if_pos rfl]
  exact ⟨fun e => h.no (by rw [← ei]; exact e), fun u e => h.yes u (by rw [← ei]; exact e), fun u e => by rw [ej] at e; cases e; rw [ei]; exact hv, h.up⟩
set_option maxRecDepth 100000 in
set_option maxHeartbeats 16000000 in
theorem parts_b (s : List UInt8) (w : World) (hs : s.length ≤ 10000) :
    Calls Tryd.prog 35 #[.string (bytes s)] w (PartsIs s w) := by
  obtain ⟨S, hS⟩ : ∃ S, bytes s = S := ⟨_, rfl⟩
  have hz : S.size = s.length := by rw [← hS, bytes_size]
  have GET : Hid (∀ i (h : i < S.size), s[i]? = some S[i]) := hide (fun i h => by
    have e : s = S.data.toList := by rw [← hS, bytes_data]
    rw [e, List.getElem?_eq_getElem (by simpa using h)]
    simp [ByteArray.getElem_eq_getElem_data])
  have EXT : Hid (∀ f i, S.extract f i = bytes ((s.take i).drop f)) := hide (fun f i => by
    have e : s = S.data.toList := by rw [← hS, bytes_data]
    rw [ext_bytes, ← e])
  rw [hS]
  have HZ := hide hz
  have hsz : S.size ≤ 10000 := by omega
  clear hS hz hs
  go_enter Tryd.func35, Tryd.ntmps35
  go_wp2_with fail
  go_loopw [5] (fun vi wr => ∃ a : Nat, a ≤ S.size ∧ vi = .int .i64 a ∧ wr = w ∧ Hid (∀ j < a, s[j]? ≠ some 40)) (fun vi _ => S.size - (RowKit.intOf vi).toNat)
  case atStart => exact ⟨0, Nat.zero_le _, rfl, rfl, hide (fun j h => absurd h (Nat.not_lt_zero j))⟩
  case round =>
    obtain ⟨a, ha, rfl, rfl, HN⟩ := hrel
    have HBx := hide (Below.refl wr.heap.size wr)
    by_cases hlt : a < S.size
    rotate_left
    · have hltI : ¬ (a : Int) < (S.size : Int) := by omega
      obtain rfl : a = S.size := by omega
      have hb := brk_is s S.size (by have := HZ.out; omega) HN.out (.inl HZ.out)
      have WHY := hide (ptB_none1 hb (by have := HZ.out; omega))
      have g1 : (S.size : Int) - 1 ≤ (S.size : Int) := by omega
      have g2 : wrap64 ((S.size : Int) - 1) = (S.size : Int) - 1 := by unfold wrap64; omega
      clear hb
      go_wp2_with fail
      exact bodyPost_ret (v := .tuple #[.string ⟨#[]⟩, .slice none 0 0, .bool false]) (by simp [results, Tryd.results35, go_sem]) rfl ⟨.inl ⟨WHY.out, rfl⟩, HBx.out⟩
    have hltI : (a : Int) < (S.size : Int) := by omega
    by_cases he : ((S[a]).toNat : Int) = 40
    rotate_left
    · have HE := hide he
      go_wp2_with fail
      go_roundw
      case rel => exact ⟨a + 1, by omega, by go_num, by first | rfl | trivial, hide (fun j hj => by
        by_cases hja : j = a
        · subst hja
          rw [GET.out j hlt]
          intro e
          injection e with e
          exact HE.out (by rw [e]; rfl)
        · exact HN.out j (by omega))⟩
      case measure => simp [RowKit.intOf] <;> omega
    have hea : s[a]? = some 40 := by
      rw [GET.out a hlt]
      congr 1
      exact UInt8.toNat_inj.1 (by show (S[a]).toNat = 40; omega)
    have HBRK := hide (brk_is s a (by have := HZ.out; omega) HN.out (.inr hea))
    have g2 : wrap64 ((S.size : Int) - 1) = (S.size : Int) - 1 := by unfold wrap64; omega
    clear hea
    by_cases hend : S.size ≤ a + 1
    · have g1 : (S.size : Int) - 1 ≤ (a : Int) := by omega
      have WHY := hide (ptB_none1 HBRK.out (by have := HZ.out; omega))
      go_wp2_with fail
      exact bodyPost_ret (v := .tuple #[.string ⟨#[]⟩, .slice none 0 0, .bool false]) (by simp [results, Tryd.results35, go_sem]) rfl ⟨.inl ⟨WHY.out, rfl⟩, HBx.out⟩
    have g1 : ¬ (S.size : Int) - 1 ≤ (a : Int) := by omega
    have g1b : (a : Int) < (S.size : Int) - 1 := by omega
    obtain ⟨E, hE⟩ : ∃ E : Nat, S.size = E + 1 := ⟨S.size - 1, by omega⟩
    have hEl : E < S.size := by omega
    have g3 : (S.size : Int) - 1 = (E : Int) := by omega
    have HEE := hide hE
    have HLT := hide hlt
    have GETE := GET.out E hEl
    have eE : s[s.length - 1]? = some S[E] := by rw [← GETE]; congr 1; have := HZ.out; omega
    have HEN := hide hend
    have g4 : (0 : Int) ≤ (E : Int) := by omega
    have g5 : (E : Int) < (S.size : Int) := by omega
    have g6 : wrap64 (E : Int) = (E : Int) := by unfold wrap64; omega
    by_cases hl : ((S[E]).toNat : Int) = 41
    rotate_left
    · have WHY := hide (ptB_none2 (s := s) (by
        rw [eE]
        intro e
        injection e with e
        exact hl (by rw [e]; rfl)))
      rw [g3] at g1 g1b g2
      clear hE GETE eE
      go_wp2_with fail
      exact bodyPost_ret (v := .tuple #[.string ⟨#[]⟩, .slice none 0 0, .bool false]) (by simp [results, Tryd.results35, go_sem]) rfl ⟨.inl ⟨WHY.out, rfl⟩, HBx.out⟩
    have eE2 : s[s.length - 1]? = some 41 := by
      rw [eE]
      congr 1
      exact UInt8.toNat_inj.1 (by show (S[E]).toNat = 41; omega)
    have PS := hide (ptB_some HBRK.out (by have := HZ.out; omega) eE2)
    have s41 : s[E]? = some 41 := by rw [← eE2]; congr 1; have := HZ.out; omega
    have H41 := hide s41
    have hE1 : E ≤ s.length := by have := HZ.out; omega
    have ST := hide (PtI.start (m := s) (a := a + 1) (E := E) (by omega) hE1)
    have a1 : wrap64 ((a : Int) + 1) = (a : Int) + 1 := by unfold wrap64; omega
    rw [g3] at g1 g1b g2
    clear hE GETE eE eE2 s41 hend
    have G6 := hide g6
    go_wp2_with fail
    clear g2 g6 a1 he hl
    go_loopw [8, 7, 6] (fun vi vf vo wq => ∃ (i fr : Nat) (out : List (List UInt8)) (b : Bool) (A1 : Option Addr) (cap : Nat), vi = .int .i64 i ∧ vf = .int .i64 fr ∧ vo = .slice A1 out.length cap ∧ Hid (PtI s (a + 1) E i fr out b) ∧ Hid (out.length ≤ i) ∧ Hid (wq.ownsRow wr.heap.size 9 1 (.slice A1 out.length cap) out.length (strC out)) ∧ Hid (Below wr.heap.size wr wq)) (fun vi _ _ _ => E - (RowKit.intOf vi).toNat)
    case atStart => exact ⟨a + 1, a + 1, [], false, none, 0, by first | rfl | simp, by first | rfl | simp, rfl, ST, hide (Nat.zero_le _), hide ⟨rfl, .inl ⟨rfl, rfl⟩⟩, HBx⟩
    case round =>
      rename World => w2
      obtain ⟨i, fr, out, b, A1, cap, rfl, rfl, rfl, I, HOL, HOW, HB⟩ := hrel
      have hiE := I.out.le.2.1
      have hol := HOL.out
      have hE9 : E ≤ 10000 := by omega
      by_cases hiE2 : i < E
      rotate_left
      · have hiI : ¬ (i : Int) < (E : Int) := by omega
        obtain rfl : i = E := by omega
        obtain ⟨hf, hall⟩ := I.out.done
        have fI : (fr : Int) ≤ (i : Int) := by omega
        have fI2 : ¬ (i : Int) < (fr : Int) := by omega
        have PT : Hid (ptB s = some (s.take a, out ++ [(s.take i).drop fr])) := hide (by
          rw [PS.out, show s.length - 1 = i by have := HZ.out; have := HEE.out; omega, ← hall])
        have EX1 := hide (EXT.out 0 a)
        have EX2 := hide (EXT.out fr i)
        have aS : (a : Int) ≤ (S.size : Int) := by have := HLT.out; omega
        have iS : (i : Int) ≤ (S.size : Int) := by omega
        have HBS := hide (HB.out.size)
        have ihI := hide (info_parts str_info)
        have g9 : IntKind.i64.wrap (i : Int) = (i : Int) := by rw [IntKind.wrap_i64]; omega
        clear hall HLT
        have g6 := G6.out
        go_upto_region 16 with (fail)
        obtain ⟨row, hrow⟩ : ∃ x, (Value.slice A1 out.length cap).ownBlock = x := ⟨_, rfl⟩
        have hlow : ∀ k, row = some k → wr.heap.size ≤ k := fun k e => (own_block HOW.out (hrow.trans e)).1
        have hKB : ∀ x y : World, Below x.heap.size x y → x.grownBy y row := fun _ _ hb => grown_of_below hb
        let R : Nat → Value → World → Prop := fun sl u w1 => match sl with
          | 2 => u = .string (S.extract 0 a)
          | 4 => u = .bool true
          | 70 => u = .string S
          | 71 => u = .int .i64 a
          | 72 => u = .string (S.extract 0 a)
          | 73 => u = .slice A1 out.length cap
          | 74 => u = .string S
          | 75 => u = .int .i64 fr
          | 76 => u = .string S
          | 77 => u = .int .i64 S.size
          | 78 => u = .int .i64 i
          | 79 => u = .string (S.extract fr i)
          | 80 => ∃ g, u = .slice (some ⟨g, 0, none⟩) 1 1 ∧ w2.heap.size ≤ g ∧ Blk w1 g 9 #[.string (S.extract fr i)]
          | _ => True
        refine wp_region_relGW [] R (fun a b => a.grownBy b row) (JW 11 13 w2 row (fun w1 => w1.ownsRow wr.heap.size 9 1 (.slice A1 out.length cap) out.length (strC out)) (fun u w1 => w1.ownsRow wr.heap.size 9 1 u (out.length + 1) (strC out ++ [.string (S.extract fr i)]))) (by kernel_rfl) (by kernel_rfl) (by kernel_rfl) (by kernel_rfl) ?mono (fun w => hKB _ _ (Below.refl _ _)) (JW.start HOW.out.drew) ?gs ?step ?fin
        case mono =>
          intro sl u wx wy h hk
          match sl with
          | 80 =>
            obtain ⟨g, h1, h2, h3⟩ := h
            refine ⟨g, h1, h2, h3.grown hk fun e => ?_⟩
            have := (own_block HOW.out (hrow.trans e.symm)).2.1
            omega
          | 0 | 1 | 2 | 3 | 4 | 5 | 6 | 7 | 8 | 9 | 10 | 11 | 12 | 13 | 14 | 15 | 16 | 17 | 18 | 19 | 20 | 21 | 22 | 23 | 24 | 25 | 26 | 27 | 28 | 29 | 30 | 31 | 32 | 33 | 34 | 35 | 36 | 37 | 38 | 39 | 40 | 41 | 42 | 43 | 44 | 45 | 46 | 47 | 48 | 49 | 50 | 51 | 52 | 53 | 54 | 55 | 56 | 57 | 58 | 59 | 60 | 61 | 62 | 63 | 64 | 65 | 66 | 67 | 68 | 69 | 70 | 71 | 72 | 73 | 74 | 75 | 76 | 77 | 78 | 79 | 81 | _ + 82 => exact h
        case gs =>
          intro p hp u w1 h
          cases hp
        case step =>
          intro j o ho
          match j, ho with
          | 0, ho =>
            cases ho
            intro V aa wx hV hdep hval hj hsm hr
            have e0 : aa.tmps.getD 0 undef = .string S := hsm 0 (by decide)
            rw [Array.getD_eq_getD_getElem?] at e0
            unfold Oper.wp
            simp only [execOp, Act.eval, Array.getD_eq_getD_getElem?, e0]
            go_simp
            have hbb := Below.refl wx.heap.size wx
            first | exact ⟨_, rfl, rfl, hKB _ _ hbb, hj.other hbb (fun h => own_belowR h hbb) (fun _ h => own_belowR h hbb) 0 _ (by decide) (by decide)⟩ | exact ⟨_, rfl, hKB _ _ hbb, hj.other hbb (fun h => own_belowR h hbb) (fun _ h => own_belowR h hbb) 0 _ (by decide) (by decide)⟩
          | 1, ho =>
            cases ho
            intro V aa wx hV hdep hval hj hsm hr
            have e5 : aa.tmps.getD 5 undef = .int .i64 a := hsm 5 (by decide)
            rw [Array.getD_eq_getD_getElem?] at e5
            unfold Oper.wp
            simp only [execOp, Act.eval, Array.getD_eq_getD_getElem?, e5]
            go_simp
            have hbb := Below.refl wx.heap.size wx
            first | exact ⟨_, rfl, rfl, hKB _ _ hbb, hj.other hbb (fun h => own_belowR h hbb) (fun _ h => own_belowR h hbb) 1 _ (by decide) (by decide)⟩ | exact ⟨_, rfl, hKB _ _ hbb, hj.other hbb (fun h => own_belowR h hbb) (fun _ h => own_belowR h hbb) 1 _ (by decide) (by decide)⟩
          | 2, ho =>
            cases ho
            intro V aa wx hV hdep hval hj hsm hr
            have e70 : aa.tmps.getD 70 undef = .string S := hr 70 (by decide) (by apply Array.mem_toList_iff.1; repeat (first | exact List.Mem.head _ | apply List.Mem.tail))
            have e71 : aa.tmps.getD 71 undef = .int .i64 a := hr 71 (by decide) (by apply Array.mem_toList_iff.1; repeat (first | exact List.Mem.head _ | apply List.Mem.tail))
            rw [Array.getD_eq_getD_getElem?] at e70
            rw [Array.getD_eq_getD_getElem?] at e71
            unfold Oper.wp
            simp only [execOp, Act.eval, Array.getD_eq_getD_getElem?, e70, e71]
            go_simp
            have hbb := Below.refl wx.heap.size wx
            first | exact ⟨_, rfl, rfl, hKB _ _ hbb, hj.other hbb (fun h => own_belowR h hbb) (fun _ h => own_belowR h hbb) 2 _ (by decide) (by decide)⟩ | exact ⟨_, rfl, hKB _ _ hbb, hj.other hbb (fun h => own_belowR h hbb) (fun _ h => own_belowR h hbb) 2 _ (by decide) (by decide)⟩
          | 3, ho =>
            cases ho
            intro V aa wx hV hdep hval hj hsm hr
            have e6 : aa.tmps.getD 6 undef = .slice A1 out.length cap := hsm 6 (by decide)
            rw [Array.getD_eq_getD_getElem?] at e6
            unfold Oper.wp
            simp only [execOp, Act.eval, Array.getD_eq_getD_getElem?, e6]
            go_simp
            have hbb := Below.refl wx.heap.size wx
            first | exact ⟨_, rfl, rfl, hKB _ _ hbb, hj.other hbb (fun h => own_belowR h hbb) (fun _ h => own_belowR h hbb) 3 _ (by decide) (by decide)⟩ | exact ⟨_, rfl, hKB _ _ hbb, hj.other hbb (fun h => own_belowR h hbb) (fun _ h => own_belowR h hbb) 3 _ (by decide) (by decide)⟩
          | 4, ho =>
            cases ho
            intro V aa wx hV hdep hval hj hsm hr
            have e0 : aa.tmps.getD 0 undef = .string S := hsm 0 (by decide)
            rw [Array.getD_eq_getD_getElem?] at e0
            unfold Oper.wp
            simp only [execOp, Act.eval, Array.getD_eq_getD_getElem?, e0]
            go_simp
            have hbb := Below.refl wx.heap.size wx
            first | exact ⟨_, rfl, rfl, hKB _ _ hbb, hj.other hbb (fun h => own_belowR h hbb) (fun _ h => own_belowR h hbb) 4 _ (by decide) (by decide)⟩ | exact ⟨_, rfl, hKB _ _ hbb, hj.other hbb (fun h => own_belowR h hbb) (fun _ h => own_belowR h hbb) 4 _ (by decide) (by decide)⟩
          | 5, ho =>
            cases ho
            intro V aa wx hV hdep hval hj hsm hr
            have e7 : aa.tmps.getD 7 undef = .int .i64 fr := hsm 7 (by decide)
            rw [Array.getD_eq_getD_getElem?] at e7
            unfold Oper.wp
            simp only [execOp, Act.eval, Array.getD_eq_getD_getElem?, e7]
            go_simp
            have hbb := Below.refl wx.heap.size wx
            first | exact ⟨_, rfl, rfl, hKB _ _ hbb, hj.other hbb (fun h => own_belowR h hbb) (fun _ h => own_belowR h hbb) 5 _ (by decide) (by decide)⟩ | exact ⟨_, rfl, hKB _ _ hbb, hj.other hbb (fun h => own_belowR h hbb) (fun _ h => own_belowR h hbb) 5 _ (by decide) (by decide)⟩
          | 6, ho =>
            cases ho
            intro V aa wx hV hdep hval hj hsm hr
            have e0 : aa.tmps.getD 0 undef = .string S := hsm 0 (by decide)
            rw [Array.getD_eq_getD_getElem?] at e0
            unfold Oper.wp
            simp only [execOp, Act.eval, Array.getD_eq_getD_getElem?, e0]
            go_simp
            have hbb := Below.refl wx.heap.size wx
            first | exact ⟨_, rfl, rfl, hKB _ _ hbb, hj.other hbb (fun h => own_belowR h hbb) (fun _ h => own_belowR h hbb) 6 _ (by decide) (by decide)⟩ | exact ⟨_, rfl, hKB _ _ hbb, hj.other hbb (fun h => own_belowR h hbb) (fun _ h => own_belowR h hbb) 6 _ (by decide) (by decide)⟩
          | 7, ho =>
            cases ho
            intro V aa wx hV hdep hval hj hsm hr
            have e76 : aa.tmps.getD 76 undef = .string S := hr 76 (by decide) (by apply Array.mem_toList_iff.1; repeat (first | exact List.Mem.head _ | apply List.Mem.tail))
            rw [Array.getD_eq_getD_getElem?] at e76
            unfold Oper.wp
            simp only [execOp, Act.eval, Array.getD_eq_getD_getElem?, e76]
            go_simp
            have hbb := Below.refl wx.heap.size wx
            first | exact ⟨_, rfl, rfl, hKB _ _ hbb, hj.other hbb (fun h => own_belowR h hbb) (fun _ h => own_belowR h hbb) 7 _ (by decide) (by decide)⟩ | exact ⟨_, rfl, hKB _ _ hbb, hj.other hbb (fun h => own_belowR h hbb) (fun _ h => own_belowR h hbb) 7 _ (by decide) (by decide)⟩
          | 8, ho =>
            cases ho
            intro V aa wx hV hdep hval hj hsm hr
            have e77 : aa.tmps.getD 77 undef = .int .i64 S.size := hr 77 (by decide) (by apply Array.mem_toList_iff.1; repeat (first | exact List.Mem.head _ | apply List.Mem.tail))
            rw [Array.getD_eq_getD_getElem?] at e77
            unfold Oper.wp
            simp only [execOp, Act.eval, Array.getD_eq_getD_getElem?, e77]
            go_simp
            have hbb := Below.refl wx.heap.size wx
            first | exact ⟨_, rfl, rfl, hKB _ _ hbb, hj.other hbb (fun h => own_belowR h hbb) (fun _ h => own_belowR h hbb) 8 _ (by decide) (by decide)⟩ | exact ⟨_, rfl, hKB _ _ hbb, hj.other hbb (fun h => own_belowR h hbb) (fun _ h => own_belowR h hbb) 8 _ (by decide) (by decide)⟩
          | 9, ho =>
            cases ho
            intro V aa wx hV hdep hval hj hsm hr
            have e74 : aa.tmps.getD 74 undef = .string S := hr 74 (by decide) (by apply Array.mem_toList_iff.1; repeat (first | exact List.Mem.head _ | apply List.Mem.tail))
            have e75 : aa.tmps.getD 75 undef = .int .i64 fr := hr 75 (by decide) (by apply Array.mem_toList_iff.1; repeat (first | exact List.Mem.head _ | apply List.Mem.tail))
            have e78 : aa.tmps.getD 78 undef = .int .i64 i := hr 78 (by decide) (by apply Array.mem_toList_iff.1; repeat (first | exact List.Mem.head _ | apply List.Mem.tail))
            rw [Array.getD_eq_getD_getElem?] at e74
            rw [Array.getD_eq_getD_getElem?] at e75
            rw [Array.getD_eq_getD_getElem?] at e78
            unfold Oper.wp
            simp only [execOp, Act.eval, Array.getD_eq_getD_getElem?, e74, e75, e78]
            go_simp
            have hbb := Below.refl wx.heap.size wx
            first | exact ⟨_, rfl, rfl, hKB _ _ hbb, hj.other hbb (fun h => own_belowR h hbb) (fun _ h => own_belowR h hbb) 9 _ (by decide) (by decide)⟩ | exact ⟨_, rfl, hKB _ _ hbb, hj.other hbb (fun h => own_belowR h hbb) (fun _ h => own_belowR h hbb) 9 _ (by decide) (by decide)⟩
          | 10, ho =>
            cases ho
            intro V aa wx hV hdep hval hj hsm hr
            have e79 : aa.tmps.getD 79 undef = .string (S.extract fr i) := hr 79 (by decide) (by apply Array.mem_toList_iff.1; repeat (first | exact List.Mem.head _ | apply List.Mem.tail))
            rw [Array.getD_eq_getD_getElem?] at e79
            unfold Oper.wp
            simp only [execOp, Act.eval, Array.getD_eq_getD_getElem?, e79]
            go_simp
            have hbb := (Below.refl wx.heap.size wx).alloc (Nat.le_refl _) (.cells #[.string (S.extract fr i)] 9)
            exact ⟨_, rfl, ⟨wx.heap.size, rfl, hj.up.size, Blk.new wx 9 #[.string (S.extract fr i)]⟩, hKB _ _ hbb, hj.other hbb (fun h => own_belowR h hbb) (fun _ h => own_belowR h hbb) 10 _ (by decide) (by decide)⟩
          | 11, ho =>
            cases ho
            intro V aa wx hV hdep hval hj hsm hr
            have e73 : aa.tmps.getD 73 undef = .slice A1 out.length cap := hr 73 (by decide) (by apply Array.mem_toList_iff.1; repeat (first | exact List.Mem.head _ | apply List.Mem.tail))
            have r80 := hr 80 (by decide) (by apply Array.mem_toList_iff.1; repeat (first | exact List.Mem.head _ | apply List.Mem.tail))
            obtain ⟨g, e80, hg, hgb⟩ := r80
            have e80 : aa.tmps.getD 80 undef = .slice (some ⟨g, 0, none⟩) 1 1 := e80
            have hj0 := hj.no hV
            obtain ⟨i0, hi0, hz0, hz1, hz2⟩ := ihI.out
            have hsz1 : wr.heap.size ≤ wx.heap.size := by have := hgb.lt; have := HBS.out; omega
            have hrd : Reads wx wx.heap.size 1 (some ⟨g, 0, none⟩) 1 [.string (S.extract fr i)] := ⟨rfl, fun _ => ⟨_, rfl, hgb.lt, fun j u hu => by rw [add_lit, hgb.cell]; simpa using hu⟩⟩
            obtain ⟨v', w'', hrun, hown', hgb', _⟩ := run_append_any (P := Tryd.prog) wx wr.heap.size 60 60 9 i0 _ 1 16 Tryd.underlying60 hi0 hz0 hz1 hz2 (by rfl) (by omega) _ _ _ hj0 wx.heap.size (some ⟨g, 0, none⟩) 1 1 _ hrd (by intro u hu; rw [List.mem_singleton.1 hu]; rfl) (by unfold maxLen; omega) (by omega) (by omega)
            rw [hrow] at hgb'
            exact Lib.wp_append_run wx (.tmp 73) (.tmp 80) 60 60 rfl _ _ e73 e80 v' w'' hrun ⟨v', rfl, fun t ht => by cases ht; exact True.intro, hgb', hj.write v' hV (by decide) hgb' hown'⟩
          | 12, ho =>
            cases ho
            intro V aa wx hV hdep hval hj hsm hr
            have e72 : aa.tmps.getD 72 undef = .string (S.extract 0 a) := hr 72 (by decide) (by apply Array.mem_toList_iff.1; repeat (first | exact List.Mem.head _ | apply List.Mem.tail))
            rw [Array.getD_eq_getD_getElem?] at e72
            unfold Oper.wp
            simp only [execOp, Act.eval, Array.getD_eq_getD_getElem?, e72]
            go_simp
            have hbb := Below.refl wx.heap.size wx
            first | exact ⟨_, rfl, rfl, hKB _ _ hbb, hj.other hbb (fun h => own_belowR h hbb) (fun _ h => own_belowR h hbb) 12 _ (by decide) (by decide)⟩ | exact ⟨_, rfl, hKB _ _ hbb, hj.other hbb (fun h => own_belowR h hbb) (fun _ h => own_belowR h hbb) 12 _ (by decide) (by decide)⟩
          | 13, ho =>
            cases ho
            intro V aa wx hV hdep hval hj hsm hr
            unfold Oper.wp
            simp only [execOp, Act.eval, Array.getD_eq_getD_getElem?]
            go_simp
            have h1 := hval 11 _ 81 rfl rfl (hdep ⟨11, Ground.data⟩ (by simp) (by decide))
            have h1 : V 11 = some (aa.tmps[81]?.getD undef) := by rw [← Array.getD_eq_getD_getElem?]; exact h1
            exact ⟨_, rfl, trivial, hKB _ _ (Below.refl _ _), hj.copy _ h1 (by decide)⟩
          | 14, ho =>
            cases ho
            intro V aa wx hV hdep hval hj hsm hr
            unfold Oper.wp
            simp only [execOp, Act.eval, Array.getD_eq_getD_getElem?]
            go_simp
            have hbb := Below.refl wx.heap.size wx
            first | exact ⟨_, rfl, rfl, hKB _ _ hbb, hj.other hbb (fun h => own_belowR h hbb) (fun _ h => own_belowR h hbb) 14 _ (by decide) (by decide)⟩ | exact ⟨_, rfl, hKB _ _ hbb, hj.other hbb (fun h => own_belowR h hbb) (fun _ h => own_belowR h hbb) 14 _ (by decide) (by decide)⟩
          | _ + 15, ho => cases ho
        case fin =>
          intro ff V w9 hV hj hr
          have v11 := hV 11 _ rfl
          have v13 := hV 13 _ rfl
          have hown := hj.yes _ v11
          have hk := hj.up
          dsimp only at hown
          have e2 : ff 2 = .string (S.extract 0 a) := hr 2 (by decide)
          have e3 : ff 3 = ff 81 := (Option.some.inj (v11.symm.trans (hj.eq _ v13))).symm
          have e4 : ff 4 = .bool true := hr 4 (by decide)
          obtain ⟨a9, c9, e81⟩ := own_form hown
          rw [e81] at hown
          rw [e81] at e3
          have HBF := hide (HB.out.grown hk HBS.out hlow)
          have HOF : Hid (w9.ownsRow wr.heap.size 9 1 (.slice a9 (out ++ [(s.take i).drop fr]).length c9) (out ++ [(s.take i).drop fr]).length (strC (out ++ [(s.take i).drop fr]))) := hide (by
            rw [List.length_append, List.length_singleton, strC_app]
            rw [EX2.out] at hown
            exact hown)
          have LL : (out ++ [(s.take i).drop fr]).length = out.length + 1 := by simp
          have HLL := hide LL
          clear hr hj hown hk hKB v11 v13 hV
          simp only [putAll, slotsOf, List.take, List.drop, List.filterMap_cons, List.filterMap_nil, List.foldl_cons, List.foldl_nil, Act.put, e2, e3, e4]
          simp only [List.setIfInBounds_toArray, List.set_cons_succ, List.set_cons_zero]
          rw [EX1.out]
          go_wp2_with fail
          exact bodyPost_ret (v := .tuple #[.string (bytes ((s.take a).drop 0)), .slice a9 (out.length + 1) c9, .bool true]) (by simp [results, Tryd.results35, go_sem]) rfl ⟨.inr ⟨s.take a, out ++ [(s.take i).drop fr], a9, c9, PT.out, by rw [HLL.out, List.drop_zero], HOF.out⟩, HBF.out⟩
      have hiI : (i : Int) < (E : Int) := by omega
      have hiS : i < S.size := by omega
      obtain ⟨J, hJ⟩ : ∃ J, J = i + 1 := ⟨_, rfl⟩
      have hiS1 : J < S.size := by omega
      have g7 : (i : Int) < (S.size : Int) := by omega
      have g8 : (i : Int) + 1 < (S.size : Int) := by omega
      have hiS2 : i + 1 < S.size := by omega
      have g80 : (0 : Int) ≤ (i : Int) + 1 := by omega
      have IW := hide (w64_add i J 1 (Nat.le_trans hiE (Nat.le_trans hE9 (by decide))) (by decide) hJ)
      have IW2 := hide (w64_add i (J + 1) 2 (Nat.le_trans hiE (Nat.le_trans hE9 (by decide))) (by decide) (by rw [hJ]))
      have HJ := hide hJ
      have HIJ : Hid ((i : Int) + 1 = (J : Int)) := hide (by rw [hJ]; rfl)
      have HIJ2 : Hid ((i : Int) + 2 = ((J + 1 : Nat) : Int)) := hide (by rw [hJ]; rfl)
      obtain ⟨JE, JM, _⟩ := jm_le hJ hiE2
      have GI := GET.out i hiS
      have GJ := GET.out (i + 1) hiS2
      clear hJ hltI ha hE1
      by_cases h44 : ((S[i]).toNat : Int) = 44
      rotate_left
      · have I2 := hide (I.out.step hiE2 (fun h => h44 (by rw [GI] at h; injection h.1 with e; rw [e]; rfl)))
        rw [← HJ.out] at I2
        have HE := hide h44
        clear GI GJ
        have g6 := G6.out
        have iw : wrap64 ((i : Int) + 1) = (J : Int) := IW.out
        go_wp2_with fail
        go_roundw
        case rel => exact ⟨J, fr, out, false, A1, cap, by first | rfl | rw [HIJ.out], rfl, rfl, I2, hide (Nat.le_trans hol (by rw [HJ.out]; exact Nat.le_succ i)), HOW, HB⟩
        case measure => first | simpa [RowKit.intOf] using JM | (show E - ((i : Int) + 1).toNat < E - (i : Int).toNat; rw [HIJ.out]; exact JM)
      by_cases h32 : ((S[i + 1]).toNat : Int) = 32
      rotate_left
      · have I2 := hide (I.out.step hiE2 (fun h => h32 (by rw [GJ] at h; injection h.2.1 with e; rw [e]; rfl)))
        rw [← HJ.out] at I2
        have HE := hide h32
        clear GI GJ
        have g6 := G6.out
        have iw : wrap64 ((i : Int) + 1) = (J : Int) := IW.out
        go_wp2_with fail
        go_roundw
        case rel => exact ⟨J, fr, out, false, A1, cap, by first | rfl | rw [HIJ.out], rfl, rfl, I2, hide (Nat.le_trans hol (by rw [HJ.out]; exact Nat.le_succ i)), HOW, HB⟩
        case measure => first | simpa [RowKit.intOf] using JM | (show E - ((i : Int) + 1).toNat < E - (i : Int).toNat; rw [HIJ.out]; exact JM)
      have q1 : s[i]? = some 44 := by
        rw [GI]; congr 1
        exact UInt8.toNat_inj.1 (by show (S[i]).toNat = 44; omega)
      have q2 : s[i + 1]? = some 32 := by
        rw [GJ]; congr 1
        exact UInt8.toNat_inj.1 (by show (S[i + 1]).toNat = 32; omega)
      rw [← HJ.out] at q2
      have q3 : J < E := by
        refine Classical.byContradiction fun hn => ?_
        have e : J = E := by omega
        rw [e, H41.out] at q2
        cases q2
      rw [HJ.out] at q2 q3
      obtain ⟨hb, hfi, hI2⟩ := I.out.cut hiE2 q1 q2 q3
      have e2 : i + 2 = J + 1 := by have := HJ.out; omega
      rw [← HJ.out, e2] at hI2
      have I2 := hide hI2
      have fI : (fr : Int) ≤ (i : Int) := by omega
      have fI2 : ¬ (i : Int) < (fr : Int) := by omega
      have iS : (i : Int) ≤ (S.size : Int) := by omega
      have EX2 := hide (EXT.out fr i)
      obtain ⟨A2, c2, w4, hrun, hown, hb4⟩ := push_s w2 wr.heap.size A1 cap out.length out ((s.take i).drop fr) rfl HOW.out HB.out.size (by omega)
      rw [← EX2.out] at hrun
      have LL : (out ++ [(s.take i).drop fr]).length = out.length + 1 := by simp
      have HOW4 : Hid (w4.ownsRow wr.heap.size 9 1 (.slice A2 (out ++ [(s.take i).drop fr]).length c2) (out ++ [(s.take i).drop fr]).length (strC (out ++ [(s.take i).drop fr]))) := hide (by rw [LL]; exact hown)
      have HB4 := hide (HB.out.trans hb4)
      have RUN := hide hrun
      have HLL := hide LL
      clear GI GJ q1 q2 q3 hI2 hb hrun hown hb4 LL e2
      have g6 := G6.out
      have iw : wrap64 ((i : Int) + 1) = (J : Int) := IW.out
      have H44 := hide h44
      have H32 := hide h32
      clear h44 h32
      go_upto_region 11 with (fail)
      have h44 := H44.out
      have h32 := H32.out
      go_wp2_with (at_builtin; refine Lib.wpList_append_run _ rfl _ _ 60 60 rfl _ _ rfl rfl _ _ RUN.out ?_)
      go_roundw
      case rel => exact ⟨J, J + 1, out ++ [(s.take i).drop fr], true, A2, c2, by first | rfl | rw [HIJ.out], by first | rfl | rw [HIJ2.out], by rw [HLL.out], I2, hide (by rw [HLL.out, HJ.out]; exact Nat.succ_le_succ hol), HOW4, HB4⟩
      case measure => first | simpa [RowKit.intOf] using JM | (show E - ((i : Int) + 1).toNat < E - (i : Int).toNat; rw [HIJ.out]; exact JM)
end Cal
end Go.Proofs.YthcoelkpiflfeaaDoor
