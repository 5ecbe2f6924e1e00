/- What a text is read as: the program's. -/
import Derived.Test.YtnmaclpjddafnaaRows
import Derived.Test.YtnmaclpjddafnaaSignRw
import Derived.Test.YtnmaclpjddafnaaSignTx
import Derived.Test.YtnmaclpjddafnaaRelT
import Derived.Lib.OthersKept
import Derived.Lib.SlBytesConst
import Derived.Deep.RegionLaw
import Derived.RegionTactic
import Derived.BigRegion
import Derived.Laws.RangeAny
namespace Go.Proofs.Ytnmaclpjddafnaa
open Go.RowKit
set_option linter.unusedVariables false
set_option linter.unusedSimpArgs false
def sgI (g : Bool) : Int := if g = true then -1 else 1
/-- The loop's relation. -/
structure RdI (S : ByteArray) (B : Nat) (pos : Nat) (ns : List Int) (n d : Nat) (g : Bool) (l : List Ch) : Prop where
  hp : pos ≤ S.size
  h : rdL (rs0 []) (S.data.toList.take pos) = some ⟨ns, n, d, g, l⟩
  ok : (⟨ns, n, d, g, l⟩ : RS).ok pos
theorem rdI_start (S : ByteArray) (B : Nat) : RdI S B 0 [] 0 0 false [] := ⟨Nat.zero_le _, rfl, rs0_ok⟩
theorem rdL_take (q0 : RS) (x : List UInt8) (k : Nat) (hk : k < x.length) : rdL q0 (x.take (k + 1)) = match rdL q0 (x.take k) with | some q => rdS q x[k].toNat | none => none := by
  rw [List.take_succ_eq_append_getElem hk, rdL_app]
  cases rdL q0 (x.take k) with
  | none => rfl
  | some q =>
    simp only [rdL]
    cases rdS q x[k].toNat <;> rfl
theorem rdL_none (q0 : RS) (x : List UInt8) (k : Nat) (h : rdL q0 (x.take k) = none) : rdL q0 x = none := by
  have := rdL_app (x.take k) (x.drop k) q0
  rw [List.take_append_drop, h] at this
  exact this
theorem rdI_step {S : ByteArray} {B pos : Nat} {ns ns' : List Int} {n d n' d' : Nat} {g g' : Bool} {l l' : List Ch} (I : RdI S B pos ns n d g l) (hp : pos < S.size) {c : Nat} (hc : S[pos].toNat = c) (hs : rdS ⟨ns, n, d, g, l⟩ c = some ⟨ns', n', d', g', l'⟩) :
    RdI S B (pos + 1) ns' n' d' g' l' := by
  have hlen : pos < S.data.toList.length := by simpa using hp
  have e : S.data.toList[pos].toNat = c := by rw [← hc]; rfl
  refine ⟨hp, ?_, rdS_ok I.ok hs⟩
  rw [rdL_take _ _ _ hlen, I.h, e]
  exact hs
theorem rdI_fail {S : ByteArray} {B pos : Nat} {ns : List Int} {n d : Nat} {g : Bool} {l : List Ch} (I : RdI S B pos ns n d g l) (hp : pos < S.size) {c : Nat} (hc : S[pos].toNat = c) (hs : rdS ⟨ns, n, d, g, l⟩ c = none) : rdL (rs0 []) S.data.toList = none := by
  have hlen : pos < S.data.toList.length := by simpa using hp
  have e : S.data.toList[pos].toNat = c := by rw [← hc]; rfl
  refine rdL_none _ _ (pos + 1) ?_
  rw [rdL_take _ _ _ hlen, I.h, e]
  exact hs
theorem rdI_end {S : ByteArray} {B pos : Nat} {ns : List Int} {n d : Nat} {g : Bool} {l : List Ch} (I : RdI S B pos ns n d g l) (hp : ¬ pos < S.size) : rdL (rs0 []) S.data.toList = some ⟨ns, n, d, g, l⟩ := by
  have := I.h
  rwa [List.take_of_length_le (by simpa using hp)] at this
/-- What is told. -/
def RdR (S : ByteArray) (e : Ending) (w' : World) : Prop := match rdL (rs0 []) S.data.toList with
  | some q => ∃ A c, e = .returned (.tuple #[.slice A q.l.length c, .bool true]) ∧ CRow w' A q.l
  | none => e = .returned (.tuple #[.slice none 0 0, .bool false])
theorem RdR.fail {S : ByteArray} (h : rdL (rs0 []) S.data.toList = none) (w' : World) : RdR S (.returned (.tuple #[.slice none 0 0, .bool false])) w' := by
  unfold RdR; rw [h]
theorem own_iterS {w : World} {k size n : Nat} {e : TypeId} {v : Value} {xs : List Value} (h : w.ownsRow (k + 1) e size v n xs) (s : ByteArray) (pos : Nat) : (w.iterAt k s pos).ownsRow (k + 1) e size v n xs := by
  refine ⟨h.1, h.2.imp id ?_⟩
  rintro ⟨g, cap, cur, rfl, hge, hh, r⟩
  exact ⟨g, cap, cur, rfl, hge, (Lib.iterAt_other w k g s pos (by omega)).trans hh, r⟩
theorem own_form {w : World} {B size n : Nat} {e : TypeId} {v : Value} {xs : List Value} (h : w.ownsRow B e size v n xs) : ∃ a c, v = .slice a n c := by
  rcases h.2 with ⟨rfl, h0⟩ | ⟨g, cap, cur, rfl, _⟩
  · exact ⟨none, 0, by rw [h0]⟩
  · exact ⟨_, _, rfl⟩
theorem own_ltS {w : World} {k size n g : Nat} {e : TypeId} {v : Value} {xs : List Value} (h : w.ownsRow k e size v n xs) (hg : v.ownBlock = some g) : k ≤ g ∧ g < w.heap.size := by
  rcases h.2 with ⟨rfl, _⟩ | ⟨g', cap, cur, rfl, hge, hh, _⟩
  · simp [Value.ownBlock] at hg
  · obtain rfl : g' = g := by simpa [Value.ownBlock] using hg
    exact ⟨hge, (Array.getElem?_eq_some_iff.1 hh).1⟩
/-- What an append behind a new block leaves. -/
theorem after_num {w w1 w2 : World} {B size n : Nat} {e : TypeId} {v : Value} {xs : List Value} {o : Obj} {X : Obj} (hit : w1.heap[B]? = some X) (hown : w1.ownsRow (B + 1) e size v n xs) (hb : Below B w w1)
    (hg : (w1.alloc o).grownBy w2 v.ownBlock) : w2.heap[B]? = some X ∧ Below B w w2 := by
  have hB : B < w1.heap.size := (Array.getElem?_eq_some_iff.1 hit).1
  refine ⟨?_, ?_⟩
  · rw [hg.block B (by simp; omega) (fun h => by have := (own_ltS hown h.symm).1; omega), Below.heap_alloc w1 o B hB]
    exact hit
  · exact (hb.alloc (by omega) o).grown hg (by simp; omega) (fun k hk => by have := (own_ltS hown hk).1; omega)
theorem own_addr {w : World} {B n c : Nat} {e : TypeId} {a : Option Addr} {xs : List Value} (h : w.ownsRow B e 1 (.slice a n c) n xs) (hn : 0 < n) :
    ∃ g, a = some ⟨g, 0, none⟩ ∧ g < w.heap.size ∧ ∀ (j : Nat) (u : Value), xs[j]? = some u → w.cell? ⟨g, j, none⟩ = some u := by
  rcases h.2 with ⟨_, h0⟩ | ⟨g, cap, cur, hv, hge, hh, hnc, _, hcs, htk⟩
  · omega
  · injection hv with hv
    subst hv
    refine ⟨g, rfl, (Array.getElem?_eq_some_iff.1 hh).1, fun j u hu => ?_⟩
    rw [← htk, List.getElem?_take] at hu
    split at hu
    · rw [Blk.cell (show Blk w g _ cur from hh)]
      simpa using hu
    · cases hu
theorem own_belowR {w w' : World} {B size n : Nat} {e : TypeId} {v : Value} {xs : List Value} (h : w.ownsRow B e size v n xs) (hb : Below w.heap.size w w') : w'.ownsRow B e size v n xs := by
  refine ⟨h.1, h.2.imp id ?_⟩
  rintro ⟨g, cap, cur, rfl, hge, hh, r⟩
  exact ⟨g, cap, cur, rfl, hge, (hb.block g (Array.getElem?_eq_some_iff.1 hh).1).trans hh, r⟩
theorem rd_no {q : RS} {c : Nat} (h1 : ¬ (48 ≤ c ∧ c ≤ 57 ∧ q.d < 15)) (h2 : ¬ (c = 45 ∧ q.d = 0 ∧ q.g = false)) (h3 : ¬ ((c = 46 ∨ c = 32) ∧ 0 < q.d ∧ q.ns.length < 5)) : rdS q c = none := by
  unfold rdS; rw [if_neg h1, if_neg h2, if_neg h3]
theorem rd_min {q : RS} (h2 : q.d = 0 ∧ q.g = false) : rdS q 45 = some ⟨q.ns, q.n, q.d, true, q.l⟩ := by
  unfold rdS; rw [if_neg (by omega), if_pos ⟨rfl, h2⟩]
theorem rd_pt {q : RS} (h : 0 < q.d ∧ q.ns.length < 5) : rdS q 46 = some ⟨q.ns ++ [sgn q.g q.n], 0, 0, false, q.l⟩ := by
  unfold rdS; rw [if_neg (by omega), if_neg (by omega), if_pos ⟨.inl rfl, h⟩, if_neg (by decide)]
theorem rd_bl {q : RS} (h : 0 < q.d ∧ q.ns.length = 4) : rdS q 32 = some ⟨[], 0, 0, false, q.l ++ [mkC (q.ns ++ [sgn q.g q.n])]⟩ := by
  unfold rdS; rw [if_neg (by omega), if_neg (by omega), if_pos ⟨.inr rfl, h.1, by omega⟩, if_pos rfl, if_pos h.2]
theorem rd_bln {q : RS} (h : 0 < q.d ∧ q.ns.length < 5) (h4 : ¬ q.ns.length = 4) : rdS q 32 = none := by
  unfold rdS; rw [if_neg (by omega), if_neg (by omega), if_pos ⟨.inr rfl, h⟩, if_pos rfl, if_neg h4]
theorem sgn_eq (g : Bool) (n : Nat) : sgI g * (n : Int) = sgn g n := by cases g <;> simp [sgI, sgn]
end Go.Proofs.Ytnmaclpjddafnaa
