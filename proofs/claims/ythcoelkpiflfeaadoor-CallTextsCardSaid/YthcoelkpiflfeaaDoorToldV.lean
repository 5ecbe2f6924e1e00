/- call.values, and what a result tells, in plain words. -/
import Derived.Test.YthcoelkpiflfeaaDoorRows
import Derived.Test.YthcoelkpiflfeaaDoorToldA
import Derived.Lib.CountLaws
namespace Go.Proofs.YthcoelkpiflfeaaDoor
open Go.RowKit
open Go.Lib (itoa itoa_length_le)
set_option linter.unusedVariables false
set_option linter.unusedSimpArgs false
namespace Told
/-- The laid variables that are read. -/
structure Env (w : World) : Prop where
  pow : Pow w
  mx : ∃ m, w.cell? ⟨2, 0, none⟩ = some (.int .i64 m)
  sz : 2 < w.heap.size
theorem Env.below {w w' : World} {B : Nat} (h : Env w) (hb : Below B w w') (hB : w.heap.size ≤ B) : Env w' := by
  have z := h.sz
  obtain ⟨m, e⟩ := h.mx
  exact ⟨h.pow.below hb hB, ⟨m, (hb.cell (p := ⟨2, 0, none⟩) (Nat.lt_of_lt_of_le z hB)).trans e⟩, Nat.lt_of_lt_of_le z hb.size⟩
set_option maxRecDepth 100000 in
theorem values_a (A : Option Addr) (cap : Nat) (zs : List Int) (w : World) (h : NRow w A zs) (hl : zs.length ≤ 1000) (hf : ∀ z ∈ zs, Fit z) (he : Env w) :
    Calls Tryd.prog 57 #[.slice A zs.length cap] w fun e w' => e = .returned (.string (bytes (rowT zs))) ∧ Below w.heap.size w w' := by
  have R := hide (row64_a A cap zs w h hl hf he.pow)
  have hlj := jnC_len hf
  have hsz : (bytes (jnC zs)).size ≤ 23000 := by rw [bytes_size]; omega
  have hcb : Lib.countB (bytes (jnC zs)) ⟨#[44, 32]⟩ ≤ 23001 := by
    have h1 : Lib.countB (bytes (jnC zs)) ⟨#[44, 32]⟩ ≤ (bytes (jnC zs)).data.toList.length + 1 := Lib.count_le _ _
    have h2 : (bytes (jnC zs)).data.toList.length = (bytes (jnC zs)).size := by simp
    omega
  have RA : Hid (∀ w', Env w' → Calls Tryd.prog 69 #[.string (bytes (jnC zs)), .string ⟨#[44, 32]⟩, .string ⟨#[32]⟩] w' fun e w'' => e = .returned (.string (bytes (Lib.replaceAll (jnC zs) [44, 32] [32]))) ∧ Below w'.heap.size w' w'') := hide fun w' h' => by
    obtain ⟨m, hm⟩ := h'.mx
    have t := Tryd.strings_ReplaceAll (bytes (jnC zs)) ⟨#[44, 32]⟩ ⟨#[32]⟩ m w' (by omega) hm (by decide) (by
      have : (⟨#[32]⟩ : ByteArray).size = 1 := rfl
      rw [this]
      omega)
    rw [show (bytes (jnC zs)).data.toList = jnC zs by simp [bytes]] at t
    exact t
  have VS := values_spec zs
  have HL : (bytes (Lib.replaceAll (jnC zs) [44, 32] [32])).size ≤ 24000 := by
    rw [replace_jn, bytes_size]
    cases zs with
    | nil => simp
    | cons z l =>
      have h1 := fit_len (hf z List.mem_cons_self)
      have h2 := tlS_len (l := l) fun y hy => hf y (List.mem_cons_of_mem _ hy)
      simp only [List.length_append, List.length_cons] at hl ⊢
      omega
  have TS : Hid (∀ w', Calls Tryd.prog 54 #[.string (⟨#[114, 111, 119, 32]⟩ ++ bytes (Lib.replaceAll (jnC zs) [44, 32] [32])), .string ⟨#[32]⟩] w' fun e w'' => e = .returned (.string (bytes (rowT zs))) ∧ w'' = w') := hide fun w' => by
    have t := Tryd.strings_TrimSuffix (⟨#[114, 111, 119, 32]⟩ ++ bytes (Lib.replaceAll (jnC zs) [44, 32] [32])) ⟨#[32]⟩ w' (by rw [ByteArray.size_append]; have : (⟨#[114, 111, 119, 32]⟩ : ByteArray).size = 4 := rfl; omega)
    rw [show (⟨#[114, 111, 119, 32]⟩ ++ bytes (Lib.replaceAll (jnC zs) [44, 32] [32]) : ByteArray).data.toList = [114, 111, 119, 32] ++ Lib.replaceAll (jnC zs) [44, 32] [32] by simp [bytes]] at t
    rw [show (⟨#[32]⟩ : ByteArray).data.toList = [32] from rfl, VS] at t
    exact t
  have HE := hide he
  clear h he hf hcb VS hlj
  generalize bytes (Lib.replaceAll (jnC zs) [44, 32] [32]) = S2 at *
  generalize bytes (jnC zs) = S1 at *
  generalize bytes (rowT zs) = S3 at *
  have m1 : ¬ 9223372036854775807 < 4 + S2.size := by omega
  go_enter Tryd.func57, Tryd.ntmps57
  go_wp2_with fail
  refine R.out.mono ?_
  rintro e w1 ⟨rfl, hb1⟩
  have HB1 := hide hb1
  clear hb1
  go_wp2_with fail
  refine (RA.out w1 (HE.out.below HB1.out (Nat.le_refl _))).mono ?_
  rintro e w2 ⟨rfl, hb2⟩
  have HB2 := hide (HB1.out.trans (hb2.mono HB1.out.size))
  clear hb2
  go_wp2_with fail
  refine (TS.out w2).mono ?_
  rintro e w3 ⟨rfl, rfl⟩
  go_wp2_with fail
  go_ret
  exact ⟨rfl, HB2.out⟩
/- What a result tells. -/
structure Rs where
  fl : Bool
  v : Int
  p : Int
  t : Int
  q : Int
  i : Int
  c : Int
  row : List Int
def fI (b : Bool) : Int := if b = true then 1 else 0
def vT (x : Rs) : List UInt8 := [118, 97, 108, 117, 101, 32] ++ itoa x.v
def gotT (x : Rs) : List UInt8 := (((vT x ++ [32, 112, 101, 101, 114, 32]) ++ itoa x.p) ++ [32, 116, 97, 103, 32]) ++ itoa x.t
def pollT (x : Rs) : List UInt8 := (((([102, 108, 97, 103, 32] ++ itoa (fI x.fl)) ++ [32, 105, 110, 100, 101, 120, 32]) ++ itoa x.i) ++ [32]) ++ gotT x
def probeT (x : Rs) : List UInt8 := (((([102, 108, 97, 103, 32] ++ itoa (fI x.fl)) ++ [32, 112, 101, 101, 114, 32]) ++ itoa x.p) ++ [32, 116, 97, 103, 32]) ++ itoa x.t
def cls (k : Int) : Nat := if k = 4 ∨ k = 5 ∨ k = 7 then 1 else if k = 6 ∨ k = 8 then 2 else if k = 9 then 3 else if k = 10 ∨ k = 11 ∨ k = 12 then 4 else if k = 13 ∨ k = 14 then 5 else if k = 16 ∨ k = 17 ∨ k = 18 then 6 else if k = 19 then 7 else if k = 20 ∨ k = 21 then 8 else 0
def tT (n : Nat) (x : Rs) : List UInt8 := match n with
  | 1 => [114, 101, 113, 32] ++ itoa x.q
  | 2 => gotT x
  | 3 => (gotT x ++ [32]) ++ rowT x.row
  | 4 => pollT x
  | 5 => probeT x
  | 6 => vT x
  | 7 => rowT x.row
  | 8 => [99, 111, 109, 109, 32] ++ itoa x.c
  | _ => []
def Rs.ok (x : Rs) : Prop := Fit x.v ∧ Fit x.p ∧ Fit x.t ∧ Fit x.q ∧ Fit x.i ∧ Fit x.c ∧ ∀ z ∈ x.row, Fit z
theorem cls_0 {k : Int} (h4 : ¬ k = 4) (h5 : ¬ k = 5) (h6 : ¬ k = 6) (h7 : ¬ k = 7) (h8 : ¬ k = 8) (h9 : ¬ k = 9) (h10 : ¬ k = 10) (h11 : ¬ k = 11) (h12 : ¬ k = 12) (h13 : ¬ k = 13) (h14 : ¬ k = 14) (h16 : ¬ k = 16) (h17 : ¬ k = 17) (h18 : ¬ k = 18) (h19 : ¬ k = 19) (h20 : ¬ k = 20) (h21 : ¬ k = 21) : cls k = 0 := by
  unfold cls
  simp [h4, h5, h6, h7, h8, h9, h10, h11, h12, h13, h14, h16, h17, h18, h19, h20, h21]
end Told
end Go.Proofs.YthcoelkpiflfeaaDoor
