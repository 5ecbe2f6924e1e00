/- A text's parts: the reference's split (layer 5). -/
import Derived.Test.YtegpimaakgledaaDoorRows
import Derived.Test.YtegpimaakgledaaDoorWitP
import Derived.Test.YtegpimaakgledaaDoorCodRe
import Derived.Test.YtegpimaakgledaaDoorBase
namespace Go.Proofs.YtegpimaakgledaaDoor
open Go.RowKit
set_option linter.unusedVariables false
set_option linter.unusedSimpArgs false
namespace Cod
open Wit (spl)
theorem own_ltS {w : World} {k size n g : Nat} {e : TypeId} {v : Value} {xs : List Value} (h : w.ownsRow k e size v n xs) (hg : v.ownBlock = some g) : k ≤ g ∧ g < w.heap.size := by
  rcases h.2 with ⟨rfl, _⟩ | ⟨g', cap, cur, rfl, hge, hh, _⟩
  · simp [Value.ownBlock] at hg
  · obtain rfl : g' = g := by simpa [Value.ownBlock] using hg
    exact ⟨hge, (Array.getElem?_eq_some_iff.1 hh).1⟩
/-- What an append behind a new block leaves. -/
def strV (p : List UInt8) : Value := .string (bytes p)
theorem str_info : (Tryd.prog.info? 9).map (fun i => (i.zero, i.size, i.bytes)) = some (some (.string ⟨#[]⟩), 1, 16) := by kernel_rfl
structure SpI (S : List UInt8) (b : UInt8) (i f : Nat) (P : List (List UInt8)) : Prop where
  le : i ≤ S.length + 1
  fi : f ≤ i
  inv : (i ≤ S.length ∧ spl b [] S = P ++ spl b ((S.drop f).take (i - f)) (S.drop i)) ∨ (i = S.length + 1 ∧ spl b [] S = P)
  len : P.length ≤ i
theorem spI_start (S : List UInt8) (b : UInt8) : SpI S b 0 0 [] := ⟨Nat.zero_le _, Nat.le_refl _, .inl ⟨Nat.zero_le _, by simp⟩, Nat.le_refl _⟩
theorem spI_cut {S : List UInt8} {b : UInt8} {i f : Nat} {P : List (List UInt8)} (I : SpI S b i f P) (hi : i < S.length) (hb : S[i] = b) : SpI S b (i + 1) (i + 1) (P ++ [(S.drop f).take (i - f)]) := by
  rcases I.inv with ⟨_, h⟩ | ⟨h, _⟩
  · refine ⟨by omega, Nat.le_refl _, .inl ⟨hi, ?_⟩, by have := I.len; simp; omega⟩
    rw [h, List.drop_eq_getElem_cons hi, spl, if_pos hb]
    simp
  · omega
theorem spI_go {S : List UInt8} {b : UInt8} {i f : Nat} {P : List (List UInt8)} (I : SpI S b i f P) (hi : i < S.length) (hb : ¬ S[i] = b) : SpI S b (i + 1) f P := by
  rcases I.inv with ⟨_, h⟩ | ⟨h, _⟩
  · refine ⟨by omega, by have := I.fi; omega, .inl ⟨hi, ?_⟩, by have := I.len; omega⟩
    rw [h, List.drop_eq_getElem_cons hi, spl, if_neg hb]
    have hf := I.fi
    have e : (S.drop f).take (i + 1 - f) = (S.drop f).take (i - f) ++ [S[i]] := by
      rw [show i + 1 - f = (i - f) + 1 by omega, List.take_succ_eq_append_getElem (by rw [List.length_drop]; omega)]
      congr 2
      rw [List.getElem_drop]
      congr 1
      omega
    rw [e]
  · omega
theorem spI_last {S : List UInt8} {b : UInt8} {f : Nat} {P : List (List UInt8)} (I : SpI S b S.length f P) : SpI S b (S.length + 1) (S.length + 1) (P ++ [(S.drop f).take (S.length - f)]) := by
  rcases I.inv with ⟨_, h⟩ | ⟨h, _⟩
  · refine ⟨by omega, Nat.le_refl _, .inr ⟨rfl, ?_⟩, by have := I.len; simp; omega⟩
    rw [h, List.drop_length, spl]
  · omega
theorem spI_end {S : List UInt8} {b : UInt8} {i f : Nat} {P : List (List UInt8)} (I : SpI S b i f P) (hi : ¬ i ≤ S.length) : spl b [] S = P := by
  rcases I.inv with ⟨h, _⟩ | ⟨_, h⟩
  · omega
  · exact h
theorem ext_bytes (s : ByteArray) (f i : Nat) : s.extract f i = bytes ((s.data.toList.drop f).take (i - f)) := by
  have : bytes ((s.extract f i).data.toList) = s.extract f i := rfl
  rw [← this]
  congr 1
  rw [ByteArray.data_extract, Array.toList_extract, List.extract_eq_take_drop]
set_option maxRecDepth 100000 in
set_option maxHeartbeats 4000000 in
theorem split_b (s : ByteArray) (b : UInt8) (w : World) (hs : s.size ≤ 10000000) :
    Calls Tryd.prog 35 #[.string s, .int .u8 b.toNat] w fun e w' => (∃ v, e = .returned v ∧ w'.ownsRow w.heap.size 9 1 v (spl b [] s.data.toList).length ((spl b [] s.data.toList).map strV)) ∧ Below w.heap.size w w' := by
  obtain ⟨i0, hi0, hz0, hz1, hz2⟩ := info_parts str_info
  have HI := hide (And.intro hi0 (And.intro hz0 (And.intro hz1 hz2)))
  have hSl : s.data.toList.length = s.size := by simp
  have HSL := hide hSl
  have FIN := hide (fun (P : List (List UInt8)) (hP : spl b [] s.data.toList = P) (v : Value) (w' : World) (h : w'.ownsRow w.heap.size 9 1 v P.length (P.map strV)) => show ∃ v', Ending.returned v = .returned v' ∧ w'.ownsRow w.heap.size 9 1 v' (spl b [] s.data.toList).length ((spl b [] s.data.toList).map strV) from ⟨v, rfl, by rw [hP]; exact h⟩)
  have ST := hide (spI_start s.data.toList b)
  generalize hRR : (fun (e : Ending) (w' : World) => ∃ v', e = .returned v' ∧ w'.ownsRow w.heap.size 9 1 v' (spl b [] s.data.toList).length ((spl b [] s.data.toList).map strV)) = RR
  have FIN2 : Hid (∀ (P : List (List UInt8)) (hP : spl b [] s.data.toList = P) (v : Value) (w' : World) (h : w'.ownsRow w.heap.size 9 1 v P.length (P.map strV)), RR (.returned v) w') := hide fun P hP v w' h => by rw [← hRR]; exact FIN.out P hP v w' h
  suffices Calls Tryd.prog 35 #[.string s, .int .u8 b.toNat] w fun e w' => RR e w' ∧ Below w.heap.size w w' by
    refine this.mono fun e w' hh => ⟨?_, hh.2⟩
    have := hh.1
    rw [← hRR] at this
    exact this
  clear hi0 hz0 hz1 hz2 hSl FIN hRR
  go_enter Tryd.func35, Tryd.ntmps35
  go_wp2_with fail
  go_loopw [5, 6, 7] (fun vo vf vi wr => ∃ (i f : Nat) (P : List (List UInt8)), vi = .int .i64 i ∧ vf = .int .i64 f ∧ Hid (SpI s.data.toList b i f P) ∧ Hid (wr.ownsRow w.heap.size 9 1 vo P.length (P.map strV)) ∧ Hid (Below w.heap.size w wr)) (fun _ _ vi _ => s.size + 1 - (intOf vi).toNat)
  case atStart => exact ⟨0, 0, [], rfl, rfl, ST, hide ⟨rfl, .inl ⟨rfl, rfl⟩⟩, hide (Below.refl _ _)⟩
  case round =>
    obtain ⟨i, f, P, rfl, rfl, I, Own, HB⟩ := hrel
    have hfi := I.out.fi
    have hP : P.length ≤ 10000001 := by have := I.out.len; have := I.out.le; have := HSL.out; omega
    have hs2 := HB.out.size
    by_cases hle : i ≤ s.size
    · have hleI : (i : Int) ≤ (s.size : Int) := by omega
      have app : ∀ (w' : World) (v' : Value) (x : List UInt8), w'.ownsRow w.heap.size 9 1 v' (P.length + 1) (P.map strV ++ [strV x]) → w'.ownsRow w.heap.size 9 1 v' (P ++ [x]).length ((P ++ [x]).map strV) := fun w' v' x h => by simpa using h
      have APP := hide app
      clear app
      by_cases hlast : i = s.size
      · subst hlast
        have EX := hide (ext_bytes s f s.size)
        have I2 : Hid (SpI s.data.toList b (s.size + 1) (s.size + 1) (P ++ [(s.data.toList.drop f).take (s.size - f)])) := hide (by
          have h := HSL.out
          have := I.out
          rw [← h] at this ⊢
          exact spI_last this)
        have c1 : ((s.size : Int) == (s.size : Int)) = true := by simp
        go_wp2_with (at_builtin; refine wpList_append_own _ rfl _ _ 70 rfl w.heap.size 9 i0 (.string ⟨#[]⟩) 1 16 Tryd.underlying70 HI.out.1 HI.out.2.1 HI.out.2.2.1 HI.out.2.2.2 rfl (by decide) _ _ _ rfl (Own.out.alloc _) ⟨wr.heap.size, 0, none⟩ 1 1 [.string (s.extract f s.size)] rfl rfl ?c1 ?c2 ?c3 ?c4 ?c5 ?_)
        case c1 =>
          intro j u hj
          match j, hj with
          | 0, hj => simp at hj; subst hj; simp [Addr.add]
        case c2 => intro u hu; simp at hu; subst hu; rfl
        case c3 => unfold maxLen; omega
        case c4 => omega
        case c5 => simp; omega
        intro v' w2 hown' hgrow _
        have hb2 := hide ((HB.out.alloc hs2 _).grown hgrow (by simp; omega) (fun k hk => (own_ltS Own.out hk).1))
        rw [EX.out] at hown'
        have Own2 := hide (APP.out _ _ _ hown')
        clear hown' hgrow
        go_wp2_with fail
        go_roundw
        case rel => exact ⟨s.size + 1, s.size + 1, _, by go_num, by go_num, I2, Own2, hb2⟩
        case measure => simp [intOf] <;> omega
      · have hi : i < s.size := by omega
        have iI : (i : Int) < (s.size : Int) := by omega
        have c1 : ((i : Int) == (s.size : Int)) = false := by
          have : ¬ (i : Int) = (s.size : Int) := by omega
          simpa using this
        have hil : i < s.data.toList.length := by rw [HSL.out]; exact hi
        have hgi : s.data.toList[i] = s[i] := rfl
        by_cases hb : s[i] = b
        · have EX := hide (ext_bytes s f i)
          have I2 := hide (spI_cut I.out hil (hgi.trans hb))
          have c2 : ((s[i].toNat : Int) == (b.toNat : Int)) = true := by simp [hb]
          have c3 : (s[i].toNat : Int) = (b.toNat : Int) := by rw [hb]
          have HBB := hide hb
          clear hb hgi
          go_wp2_with (at_builtin; refine wpList_append_own _ rfl _ _ 70 rfl w.heap.size 9 i0 (.string ⟨#[]⟩) 1 16 Tryd.underlying70 HI.out.1 HI.out.2.1 HI.out.2.2.1 HI.out.2.2.2 rfl (by decide) _ _ _ rfl (Own.out.alloc _) ⟨wr.heap.size, 0, none⟩ 1 1 [.string (s.extract f i)] rfl rfl ?c1 ?c2 ?c3 ?c4 ?c5 ?_)
          case c1 =>
            intro j u hj
            match j, hj with
            | 0, hj => simp at hj; subst hj; simp [Addr.add]
          case c2 => intro u hu; simp at hu; subst hu; rfl
          case c3 => unfold maxLen; omega
          case c4 => omega
          case c5 => simp; omega
          intro v' w2 hown' hgrow _
          have hb2 := hide ((HB.out.alloc hs2 _).grown hgrow (by simp; omega) (fun k hk => (own_ltS Own.out hk).1))
          rw [EX.out] at hown'
          have Own2 := hide (APP.out _ _ _ hown')
          clear hown' hgrow
          go_wp2_with fail
          go_roundw
          case rel => exact ⟨i + 1, i + 1, _, by go_num, by go_num, I2, Own2, hb2⟩
          case measure => simp [intOf] <;> omega
        · have I2 := hide (spI_go I.out hil (fun e => hb (hgi.symm.trans e)))
          have c3 : ¬ (s[i].toNat : Int) = (b.toNat : Int) := fun e => hb (UInt8.toNat_inj.1 (by omega))
          have c2 : ((s[i].toNat : Int) == (b.toNat : Int)) = false := by simpa using c3
          have HBB := hide hb
          clear hb hgi
          go_wp2_with fail
          go_roundw
          case rel => exact ⟨i + 1, f, P, by go_num, rfl, I2, Own, HB⟩
          case measure => simp [intOf] <;> omega
    · have hleI : ¬ (i : Int) ≤ (s.size : Int) := by omega
      have E := hide (spI_end I.out (by rw [HSL.out]; exact hle))
      go_wp2_with fail
      go_ret
      exact ⟨FIN2.out P E.out _ _ Own.out, HB.out⟩
end Cod
end Go.Proofs.YtegpimaakgledaaDoor
