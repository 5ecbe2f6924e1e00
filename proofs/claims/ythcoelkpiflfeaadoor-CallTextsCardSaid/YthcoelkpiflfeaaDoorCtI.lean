/- The text of a call, letter by letter, as the document puts it together; a list of numbers' text. -/
import Derived.Test.YthcoelkpiflfeaaDoorRows
import Derived.Test.YthcoelkpiflfeaaDoorCtC
import Derived.Test.YthcoelkpiflfeaaDoorNum05
import Derived.Test.YthcoelkpiflfeaaDoorToldP
namespace Go.Proofs.YthcoelkpiflfeaaDoor
open Go Go.RowKit Go.Lib Go.Proofs.YthcoelkpiflfeaaDoor.Grp
set_option linter.unusedVariables false
set_option linter.unusedSimpArgs false
namespace Cal
open Told (Fit fit_len)
/-- What a letter stands for. -/
def pcT (c : Cl) (x : Nat) : List UInt8 :=
  if x = 99 then itoa c.co else if x = 112 then itoa c.pe else if x = 116 then itoa c.tg else if x = 118 then itoa c.va else if x = 115 then itoa c.sz else if x = 114 then itoa c.ro
  else if x = 111 then redL c.op else if x = 107 then (itoa c.cl ++ [44, 32]) ++ itoa c.ky else jnC c.rq
def txB (c : Cl) (i : Nat) : List UInt8 := (wordL c.k ++ [40]) ++ jn2 (((usesS c.k).toList.take i).map fun x => pcT c x.toNat)
theorem tl2_snoc (p : List UInt8) : ∀ l : List (List UInt8), tl2 (l ++ [p]) = (tl2 l ++ [44, 32]) ++ p
  | [] => by simp [tl2]
  | q :: l => by rw [List.cons_append, tl2, tl2, tl2_snoc p l]; simp
theorem jn2_snoc (p : List UInt8) (l : List (List UInt8)) (h : l ≠ []) : jn2 (l ++ [p]) = (jn2 l ++ [44, 32]) ++ p := by
  cases l with
  | nil => exact absurd rfl h
  | cons q l => rw [List.cons_append, jn2, jn2, tl2_snoc]; simp
theorem txB_0 (c : Cl) : txB c 0 = wordL c.k ++ [40] := by simp [txB, jn2]
theorem txB_1 (c : Cl) (x : UInt8) (h : (usesS c.k)[0]? = some x) : txB c 1 = txB c 0 ++ pcT c x.toNat := by
  unfold txB
  have : (usesS c.k).toList.take 1 = [x] := by
    rw [← Array.getElem?_toList] at h
    cases e : (usesS c.k).toList with
    | nil => rw [e] at h; cases h
    | cons y l => rw [e] at h; simp at h; rw [h]; rfl
  rw [this]
  simp [jn2, tl2]
theorem txB_s (c : Cl) (i : Nat) (x : UInt8) (hi : 0 < i) (h : (usesS c.k)[i]? = some x) : txB c (i + 1) = (txB c i ++ [44, 32]) ++ pcT c x.toNat := by
  unfold txB
  rw [← Array.getElem?_toList] at h
  have hl : i < (usesS c.k).toList.length := (List.getElem?_eq_some_iff.1 h).1
  have e : (usesS c.k).toList[i] = x := (List.getElem?_eq_some_iff.1 h).2
  rw [List.take_succ_eq_append_getElem hl, e, List.map_append, List.map_singleton, jn2_snoc]
  · simp
  · intro h0
    have := congrArg List.length h0
    rw [List.length_map, List.length_take, List.length_nil] at this
    omega
theorem txB_all {c : Cl} (h : usedL c.k ≠ []) : txB c (usesS c.k).size ++ [41] = textOf c := by
  unfold txB textOf
  have e : jn2 (((usesS c.k).toList.take (usesS c.k).size).map fun x => pcT c x.toNat) = argT c := by
    rw [← Array.length_toList, List.take_length]
    unfold argT numsOf lastT hasF
    rcases shapes c.k with ⟨e1, e2⟩ | ⟨e1, e2⟩ | ⟨e1, e2⟩ | ⟨e1, e2⟩ | ⟨e1, e2⟩ | ⟨e1, e2⟩ | ⟨e1, e2⟩ | ⟨e1, e2⟩ | ⟨e1, e2⟩
    · exact absurd e1 h
    all_goals
      rw [e1, e2]
      simp [pcT, jn2, tl2, jnC, tlC, numF]
  rw [e]
theorem letters (k : Int) : ∀ x ∈ usesS k, x.toNat = 99 ∨ x.toNat = 112 ∨ x.toNat = 116 ∨ x.toNat = 118 ∨ x.toNat = 115 ∨ x.toNat = 114 ∨ x.toNat = 111 ∨ x.toNat = 107 ∨ (x.toNat = 108 ∧ usedL k = [7]) := by
  rcases shapes k with ⟨e1, e2⟩ | ⟨e1, e2⟩ | ⟨e1, e2⟩ | ⟨e1, e2⟩ | ⟨e1, e2⟩ | ⟨e1, e2⟩ | ⟨e1, e2⟩ | ⟨e1, e2⟩ | ⟨e1, e2⟩ <;> rw [e1, e2] <;> simp
theorem pcT_len {c : Cl} (h : c.ok) (hl : c.rq.length ≤ 1000) (x : Nat) : (pcT c x).length ≤ 23100 := by
  have h1 := fit_len h.co
  have h2 := fit_len h.pe
  have h3 := fit_len h.tg
  have h4 := fit_len h.va
  have h5 := fit_len h.sz
  have h6 := fit_len h.ro
  have h7 := fit_len h.cl
  have h8 := fit_len h.ky
  have h9 := red_len c.op
  have h10 := Told.jnC_len h.rq
  unfold pcT
  repeat' split
  all_goals first | omega | (simp only [List.length_append, List.length_cons, List.length_nil]; omega)
theorem uses_has (k : Int) (h : usedL k ≠ []) : hasF k 7 = decide ((108 : UInt8) ∈ (usesS k).toList) ∧ (hasF k 7 = true → kindR k) := by
  refine ⟨?_, fun h7 => ?_⟩
  · unfold hasF
    rcases shapes k with ⟨e1, e2⟩ | ⟨e1, e2⟩ | ⟨e1, e2⟩ | ⟨e1, e2⟩ | ⟨e1, e2⟩ | ⟨e1, e2⟩ | ⟨e1, e2⟩ | ⟨e1, e2⟩ | ⟨e1, e2⟩ <;> rw [e1, e2] <;> decide
  · have : (usedL k).getD 0 0 = 7 := by
      unfold hasF at h7
      rcases shapes k with ⟨e1, e2⟩ | ⟨e1, e2⟩ | ⟨e1, e2⟩ | ⟨e1, e2⟩ | ⟨e1, e2⟩ | ⟨e1, e2⟩ | ⟨e1, e2⟩ | ⟨e1, e2⟩ | ⟨e1, e2⟩ <;> rw [e1] at h7 ⊢ <;> simp at h7 ⊢
    exact (first_seven (c := { zeroC with k := k }) this).2
theorem uses_empty (k : Int) : (usesS k = #[] ↔ usedL k = []) := by
  rcases shapes k with ⟨e1, e2⟩ | ⟨e1, e2⟩ | ⟨e1, e2⟩ | ⟨e1, e2⟩ | ⟨e1, e2⟩ | ⟨e1, e2⟩ | ⟨e1, e2⟩ | ⟨e1, e2⟩ | ⟨e1, e2⟩ <;> rw [e1, e2] <;> simp
set_option maxRecDepth 100000 in
set_option maxHeartbeats 8000000 in
theorem list_b (A : Option Addr) (cap : Nat) (zs : List Int) (w : World) (h : Told.NRow w A zs) (hl : zs.length ≤ 1000) (hf : ∀ z ∈ zs, Fit z) :
    Calls Tryd.prog 33 #[.slice A zs.length cap, .string ⟨#[44, 32]⟩] w fun e w' => e = .returned (.string (bytes (jnC zs))) ∧ Below w.heap.size w w' := by
  have H := hide h
  have HF := hide (Told.getD_fit hf)
  have TL := hide (fun k => Told.jnC_len (Told.fit_take hf k))
  have J0 := hide (Told.jn_0 zs)
  have JS := hide (Told.jn_s zs)
  have JA : Hid (jnC (zs.take zs.length) = jnC zs) := hide (by rw [List.take_length])
  have HL := hide hl
  clear h hf
  go_enter Tryd.func33, Tryd.ntmps33
  go_wp2_with fail
  go_loopw [6, 5] (fun vi vs wr => ∃ (k : Nat), k ≤ zs.length ∧ vi = .int .i64 k ∧ vs = .string (bytes (jnC (zs.take k))) ∧ Hid (Below w.heap.size w wr)) (fun vi _ _ => zs.length - (RowKit.intOf vi).toNat)
  case atStart => exact ⟨0, by omega, rfl, rfl, hide (Below.refl _ _)⟩
  case round =>
    obtain ⟨k, hk, rfl, rfl, HB⟩ := hrel
    by_cases hlt : k < zs.length
    · obtain ⟨a, rfl, ha, hc⟩ := H.out.below HB.out (by omega)
      have hck := hc k hlt
      have hltI : (k : Int) < (zs.length : Int) := by omega
      have hl1 : (bytes (jnC (zs.take k))).size ≤ 30000 := by
        have := TL.out k
        rw [List.length_take] at this
        rw [bytes_size]
        omega
      have fz := HF.out k
      have NB := hide (fun w' => number16_b (zs.getD k 0) fz.1 fz.2 w')
      have il : (bytes (itoa (zs.getD k 0))).size ≤ 21 := by rw [bytes_size]; exact fit_len fz
      have E0 : Hid (k = 0 → bytes (jnC (zs.take (k + 1))) = bytes (jnC (zs.take k)) ++ bytes (itoa (zs.getD k 0))) := hide fun h => by
        subst h
        rw [J0.out (by omega), bytes_app]
        rfl
      have E1 : Hid (k ≠ 0 → bytes (jnC (zs.take (k + 1))) = bytes (jnC (zs.take k)) ++ ⟨#[44, 32]⟩ ++ bytes (itoa (zs.getD k 0))) := hide (fun h0 => by
        rw [JS.out k hlt h0, show (⟨#[44, 32]⟩ : ByteArray) = bytes [44, 32] from rfl, bytes_app, bytes_app])
      clear hc fz
      obtain ⟨S2, hS2⟩ : ∃ z, bytes (jnC (zs.take (k + 1))) = z := ⟨_, rfl⟩
      rw [hS2] at E0 E1
      have HS2 := hide hS2
      clear hS2
      generalize bytes (itoa (zs.getD k 0)) = SI at *
      generalize bytes (jnC (zs.take k)) = S1 at *
      generalize zs.getD k 0 = z at *
      have d2 : ((⟨#[44, 32]⟩ : ByteArray)).size = 2 := rfl
      have m1 : ¬ 9223372036854775807 < S1.size + 2 := by omega
      have m2 : ¬ 9223372036854775807 < S1.size + 2 + SI.size := by omega
      have m3 : ¬ 9223372036854775807 < S1.size + SI.size := by omega
      by_cases hz : (0 : Int) < (k : Int)
      · have EE := hide (E1.out (by omega))
        go_wp2_with fail
        refine (NB.out wr).mono ?_
        rintro e w3 ⟨rfl, hb4⟩
        have HB4 := hide (HB.out.trans (hb4.mono HB.out.size))
        clear hb4
        go_wp2_with fail
        go_roundw
        case rel => exact ⟨k + 1, by omega, by go_num, by rw [HS2.out, EE.out], HB4⟩
        case measure => simp [RowKit.intOf] <;> omega
      · have EE := hide (E0.out (by omega))
        have hz2 : decide ((0 : Int) < (k : Int)) = false := by simpa using hz
        go_wp2_with fail
        refine (NB.out wr).mono ?_
        rintro e w3 ⟨rfl, hb4⟩
        have HB4 := hide (HB.out.trans (hb4.mono HB.out.size))
        clear hb4
        go_wp2_with fail
        go_roundw
        case rel => exact ⟨k + 1, by omega, by go_num, by rw [HS2.out, EE.out], HB4⟩
        case measure => simp [RowKit.intOf] <;> omega
    · obtain rfl : k = zs.length := by omega
      have hltI : ¬ (zs.length : Int) < (zs.length : Int) := by omega
      rw [JA.out]
      go_wp2_with fail
      go_ret
      exact ⟨rfl, HB.out⟩
end Cal
end Go.Proofs.YthcoelkpiflfeaaDoor
