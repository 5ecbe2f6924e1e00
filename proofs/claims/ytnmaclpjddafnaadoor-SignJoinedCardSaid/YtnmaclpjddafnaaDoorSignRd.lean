/- What a text is read as: the program's. -/
import Derived.Test.YtnmaclpjddafnaaDoorRows
import Derived.Test.YtnmaclpjddafnaaDoorSignRw
import Derived.Test.YtnmaclpjddafnaaDoorSignTx
import Derived.Test.YtnmaclpjddafnaaDoorRelT
import Derived.Lib.OthersKept
import Derived.Lib.SlBytesConst
import Derived.Deep.RegionLaw
import Derived.RegionTactic
import Derived.BigRegion
import Derived.Laws.RangeAny
namespace Go.Proofs.YtnmaclpjddafnaaDoor
open Go.RowKit
set_option linter.unusedVariables false
set_option linter.unusedSimpArgs false
def sgI (g : Bool) : Int := if g = true then -1 else 1
/-- The loop's relation. -/
structure RdI (S : ByteArray) (B : Nat) (pos : Nat) (ns : List Int) (n d : Nat) (g : Bool) (l : List Ch) : Prop where
  hp : pos ≤ S.size
  h : rdL (rs0 []) (S.data.toList.take pos) = some ⟨ns, n, d, g, l⟩
  ok : (⟨ns, n, d, g, l⟩ : RS).ok pos
theorem rdI_start (S : ByteArray) (B : Nat) : RdI S B 0 [] 0 0 false [] := ⟨Nat.zero_le _, rfl, rs0_ok⟩
theorem rdL_take (q0 : RS) (x : List UInt8) (k : Nat) (hk : k < x.length) : rdL q0 (x.take (k + 1)) = match rdL q0 (x.take k) with | some q => rdS q x[k].toNat | none => none := by
  rw [List.take_succ_eq_append_getElem hk, rdL_app]
  cases rdL q0 (x.take k) with
  | none => rfl
  | some q =>
    simp only [rdL]
    cases rdS q x[k].toNat <;> rfl
theorem rdL_none (q0 : RS) (x : List UInt8) (k : Nat) (h : rdL q0 (x.take k) = none) : rdL q0 x = none := by
  have := rdL_app (x.take k) (x.drop k) q0
  rw [List.take_append_drop, h] at this
  exact this
theorem rdI_step {S : ByteArray} {B pos : Nat} {ns ns' : List Int} {n d n' d' : Nat} {g g' : Bool} {l l' : List Ch} (I : RdI S B pos ns n d g l) (hp : pos < S.size) {c : Nat} (hc : S[pos].toNat = c) (hs : rdS ⟨ns, n, d, g, l⟩ c = some ⟨ns', n', d', g', l'⟩) :
    RdI S B (pos + 1) ns' n' d' g' l' := by
  have hlen : pos < S.data.toList.length := by simpa using hp
  have e : S.data.toList[pos].toNat = c := by rw [← hc]; rfl
  refine ⟨hp, ?_, rdS_ok I.ok hs⟩
  rw [rdL_take _ _ _ hlen, I.h, e]
  exact hs
theorem rdI_fail {S : ByteArray} {B pos : Nat} {ns : List Int} {n d : Nat} {g : Bool} {l : List Ch} (I : RdI S B pos ns n d g l) (hp : pos < S.size) {c : Nat} (hc : S[pos].toNat = c) (hs : rdS ⟨ns, n, d, g, l⟩ c = none) : rdL (rs0 []) S.data.toList = none := by
  have hlen : pos < S.data.toList.length := by simpa using hp
  have e : S.data.toList[pos].toNat = c := by rw [← hc]; rfl
  refine rdL_none _ _ (pos + 1) ?_
  rw [rdL_take _ _ _ hlen, I.h, e]
  exact hs
theorem rdI_end {S : ByteArray} {B pos : Nat} {ns : List Int} {n d : Nat} {g : Bool} {l : List Ch} (I : RdI S B pos ns n d g l) (hp : ¬ pos < S.size) : rdL (rs0 []) S.data.toList = some ⟨ns, n, d, g, l⟩ := by
  have := I.h
  rwa [List.take_of_length_le (by simpa using hp)] at this
/-- What is told. -/
def RdR (S : ByteArray) (e : Ending) (w' : World) : Prop := match rdL (rs0 []) S.data.toList with
  | some q => ∃ A c, e = .returned (.tuple #[.slice A q.l.length c, .bool true]) ∧ CRow w' A q.l
  | none => e = .returned (.tuple #[.slice none 0 0, .bool false])
theorem RdR.fail {S : ByteArray} (h : rdL (rs0 []) S.data.toList = none) (w' : World) : RdR S (.returned (.tuple #[.slice none 0 0, .bool false])) w' := by
  unfold RdR; rw [h]
theorem own_iterS {w : World} {k size n : Nat} {e : TypeId} {v : Value} {xs : List Value} (h : w.ownsRow (k + 1) e size v n xs) (s : ByteArray) (pos : Nat) : (w.iterAt k s pos).ownsRow (k + 1) e size v n xs := by
  refine ⟨h.1, h.2.imp id ?_⟩
  rintro ⟨g, cap, cur, rfl, hge, hh, r⟩
  exact ⟨g, cap, cur, rfl, hge, (Lib.iterAt_other w k g s pos (by omega)).trans hh, r⟩
theorem own_form {w : World} {B size n : Nat} {e : TypeId} {v : Value} {xs : List Value} (h : w.ownsRow B e size v n xs) : ∃ a c, v = .slice a n c := by
  rcases h.2 with ⟨rfl, h0⟩ | ⟨g, cap, cur, rfl, _⟩
  · exact ⟨none, 0, by rw [h0]⟩
  · exact ⟨_, _, rfl⟩
theorem own_ltS {w : World} {k size n g : Nat} {e : TypeId} {v : Value} {xs : List Value} (h : w.ownsRow k e size v n xs) (hg : v.ownBlock = some g) : k ≤ g ∧ g < w.heap.size := by
  rcases h.2 with ⟨rfl, _⟩ | ⟨g', cap, cur, rfl, hge, hh, _⟩
  · simp [Value.ownBlock] at hg
  · obtain rfl : g' = g := by simpa [Value.ownBlock] using hg
    exact ⟨hge, (Array.getElem?_eq_some_iff.1 hh).1⟩
/-- What an append behind a new block leaves. -/
theorem after_num {w w1 w2 : World} {B size n : Nat} {e : TypeId} {v : Value} {xs : List Value} {o : Obj} {X : Obj} (hit : w1.heap[B]? = some X) (hown : w1.ownsRow (B + 1) e size v n xs) (hb : Below B w w1)
    (hg : (w1.alloc o).grownBy w2 v.ownBlock) : w2.heap[B]? = some X ∧ Below B w w2 := by
  have hB : B < w1.heap.size := (Array.getElem?_eq_some_iff.1 hit).1
  refine ⟨?_, ?_⟩
  · rw [hg.block B (by simp; omega) (fun h => by have := (own_ltS hown h.symm).1; omega), Below.heap_alloc w1 o B hB]
    exact hit
  · exact (hb.alloc (by omega) o).grown hg (by simp; omega) (fun k hk => by have := (own_ltS hown hk).1; omega)
theorem own_addr {w : World} {B n c : Nat} {e : TypeId} {a : Option Addr} {xs : List Value} (h : w.ownsRow B e 1 (.slice a n c) n xs) (hn : 0 < n) :
    ∃ g, a = some ⟨g, 0, none⟩ ∧ g < w.heap.size ∧ ∀ (j : Nat) (u : Value), xs[j]? = some u → w.cell? ⟨g, j, none⟩ = some u := by
  rcases h.2 with ⟨_, h0⟩ | ⟨g, cap, cur, hv, hge, hh, hnc, _, hcs, htk⟩
  · omega
  · injection hv with hv
    subst hv
    refine ⟨g, rfl, (Array.getElem?_eq_some_iff.1 hh).1, fun j u hu => ?_⟩
    rw [← htk, List.getElem?_take] at hu
    split at hu
    · rw [Blk.cell (show Blk w g _ cur from hh)]
      simpa using hu
    · cases hu
theorem own_belowR {w w' : World} {B size n : Nat} {e : TypeId} {v : Value} {xs : List Value} (h : w.ownsRow B e size v n xs) (hb : Below w.heap.size w w') : w'.ownsRow B e size v n xs := by
  refine ⟨h.1, h.2.imp id ?_⟩
  rintro ⟨g, cap, cur, rfl, hge, hh, r⟩
  exact ⟨g, cap, cur, rfl, hge, (hb.block g (Array.getElem?_eq_some_iff.1 hh).1).trans hh, r⟩
theorem rd_no {q : RS} {c : Nat} (h1 : ¬ (48 ≤ c ∧ c ≤ 57 ∧ q.d < 15)) (h2 : ¬ (c = 45 ∧ q.d = 0 ∧ q.g = false)) (h3 : ¬ ((c = 46 ∨ c = 32) ∧ 0 < q.d ∧ q.ns.length < 5)) : rdS q c = none := by
  unfold rdS; rw [if_neg h1, if_neg h2, if_neg h3]
theorem rd_min {q : RS} (h2 : q.d = 0 ∧ q.g = false) : rdS q 45 = some ⟨q.ns, q.n, q.d, true, q.l⟩ := by
  unfold rdS; rw [if_neg (by omega), if_pos ⟨rfl, h2⟩]
theorem rd_pt {q : RS} (h : 0 < q.d ∧ q.ns.length < 5) : rdS q 46 = some ⟨q.ns ++ [sgn q.g q.n], 0, 0, false, q.l⟩ := by
  unfold rdS; rw [if_neg (by omega), if_neg (by omega), if_pos ⟨.inl rfl, h⟩, if_neg (by decide)]
theorem rd_bl {q : RS} (h : 0 < q.d ∧ q.ns.length = 4) : rdS q 32 = some ⟨[], 0, 0, false, q.l ++ [mkC (q.ns ++ [sgn q.g q.n])]⟩ := by
  unfold rdS; rw [if_neg (by omega), if_neg (by omega), if_pos ⟨.inr rfl, h.1, by omega⟩, if_pos rfl, if_pos h.2]
theorem rd_bln {q : RS} (h : 0 < q.d ∧ q.ns.length < 5) (h4 : ¬ q.ns.length = 4) : rdS q 32 = none := by
  unfold rdS; rw [if_neg (by omega), if_neg (by omega), if_pos ⟨.inr rfl, h⟩, if_pos rfl, if_neg h4]
theorem sgn_eq (g : Bool) (n : Nat) : sgI g * (n : Int) = sgn g n := by cases g <;> simp [sgI, sgn]
set_option maxRecDepth 100000 in
set_option maxHeartbeats 16000000 in
theorem read_x (s S : ByteArray) (w : World) (hs : s.size ≤ 10000000) (hX : s ++ ⟨#[32]⟩ = S) :
    Calls Tryd.prog 28 #[.string s] w fun e w' => RdR S e w' ∧ Below w.heap.size w w' := by
  have hsz0 : S.size = s.size + 1 := by rw [← hX, ByteArray.size_append]; rfl
  have hl : ¬ 9223372036854775807 < s.size + 1 := by omega
  obtain ⟨i0, hi0, hz0, hz1, hz2⟩ := info_parts ch_info
  obtain ⟨i1, hi1, hy0, hy1, hy2⟩ := info_parts int_info
  have HI := hide (And.intro hi0 (And.intro hz0 (And.intro hz1 hz2)))
  have HJ := hide (And.intro hi1 (And.intro hy0 (And.intro hy1 hy2)))
  have HS := hide (show S.size ≤ 10000001 by omega)
  clear hi0 hz0 hz1 hz2 hi1 hy0 hy1 hy2 hsz0
  go_enter Tryd.func28, Tryd.ntmps28
  go_wp2_with fail
  clear hX
  go_loopw [2, 4, 5, 6, 7] (fun vl vn v5 v6 v7 wr => ∃ (pos : Nat) (ns : List Int) (n d : Nat) (g : Bool) (l : List Ch), RdI S w.heap.size pos ns n d g l ∧ v5 = .int .i64 n ∧ v6 = .int .i64 d ∧ v7 = .int .i64 (sgI g) ∧
    wr.heap[w.heap.size]? = some (.stringIter S pos) ∧ wr.ownsRow (w.heap.size + 1) 31 5 vl l.length (chs l) ∧ wr.ownsRow (w.heap.size + 1) 3 1 vn ns.length (ns.map (Value.int .i64)) ∧ Below w.heap.size w wr) (fun _ _ _ _ _ wr => S.size - wr.iterPos w.heap.size)
  case atStart => exact ⟨0, [], 0, 0, false, [], rdI_start S _, rfl, rfl, rfl, World.iter_heap w S 0, ⟨rfl, .inl ⟨rfl, rfl⟩⟩, ⟨rfl, .inl ⟨rfl, rfl⟩⟩, (Below.refl _ w).alloc (Nat.le_refl _) _⟩
  case round =>
    obtain ⟨pos, ns, n, d, g, l, hI, rfl, rfl, rfl, hit, hown, honn, hbw⟩ := hrel
    have Inv := hide hI
    have Hit := hide hit
    have Own := hide hown
    have Onn := hide honn
    have Bw := hide hbw
    have hsz : w.heap.size < wr.heap.size := (Array.getElem?_eq_some_iff.1 hit).1
    have hn := hI.ok.small
    have hd := hI.ok.d
    have hln := hI.ok.ns
    simp only at hn hd hln
    clear hit hI hown honn hbw
    by_cases hp : pos < S.size
    · by_cases ha : (S[pos]).toNat < 128
      · have hnx : ∀ ty, (Instr.next (.pointer (some ⟨w.heap.size, 0, none⟩)) true ty).run Tryd.prog wr = _ := fun ty => Lib.run_next_ascii_at wr w.heap.size S pos ty Hit.out hp ha
        have hit2 := hide (Lib.iterAt_heap wr w.heap.size S pos (pos + 1) Hit.out)
        have bw2 := hide (Lib.below_iterAt Bw.out (k := w.heap.size) (Nat.le_refl _) S (pos + 1))
        have own2 := hide (own_iterS Own.out S (pos + 1))
        have onn2 := hide (own_iterS Onn.out S (pos + 1))
        have hsz2 : w.heap.size < (wr.iterAt w.heap.size S (pos + 1)).heap.size := (Array.getElem?_eq_some_iff.1 hit2.out).1
        have ST := hide (fun c (hc : (S[pos]).toNat = c) ns' n' d' g' l' hs => rdI_step (ns' := ns') (n' := n') (d' := d') (g' := g') (l' := l') Inv.out hp hc hs)
        have SF := hide (fun c (hc : (S[pos]).toNat = c) hs => rdI_fail Inv.out hp hc hs)
        generalize hc : (S[pos]).toNat = c at hnx ha
        have ST2 := hide (fun ns' n' d' g' l' hs => ST.out c hc ns' n' d' g' l' hs)
        have SF2 := hide (fun hs => SF.out c hc hs)
        clear hc ST SF
        generalize wr.iterAt w.heap.size S (pos + 1) = w1 at *
        have hit3 := hit2.out
        by_cases c1 : 48 ≤ c ∧ c ≤ 57
        · obtain ⟨c1, c2⟩ := c1
          have b1 : (48 : Int) ≤ (c : Int) := by omega
          have b2 : (c : Int) ≤ 57 := by omega
          by_cases hd15 : d < 15
          · have b3 : (d : Int) < 15 := by omega
            have I2 := hide (ST2.out ns (n * 10 + (c - 48)) (d + 1) g l (by unfold rdS; rw [if_pos ⟨c1, c2, hd15⟩]))
            have hn2 : (n : Int) ≤ 1000000000000000 := by omega
            go_wp2_with fail
            go_roundw
            case rel => exact ⟨pos + 1, ns, n * 10 + (c - 48), d + 1, g, l, I2.out, congrArg (Value.int .i64) (by omega), by go_num, rfl, hit2.out, own2.out, onn2.out, bw2.out⟩
            case measure =>
              simp only [World.iterPos, hit2.out, Hit.out]
              omega
          · have b3 : ¬ (d : Int) < 15 := by omega
            have F2 := hide (SF2.out (rd_no (by simp only; omega) (by simp only; omega) (by simp only; omega)))
            have e45 : ((c : Int) == 45) = false := by
              have : ¬ (c : Int) = 45 := by omega
              simpa using this
            have e46 : ((c : Int) == 46) = false := by
              have : ¬ (c : Int) = 46 := by omega
              simpa using this
            have e32 : ((c : Int) == 32) = false := by
              have : ¬ (c : Int) = 32 := by omega
              simpa using this
            go_wp2_with fail
            go_ret2
            exact ⟨RdR.fail F2.out _, bw2.out⟩
        have hc : ¬ (48 ≤ c ∧ c ≤ 57 ∧ d < 15) := by omega
        have HC := hide hc
        clear hc
        by_cases k45 : c = 45
        · subst k45
          by_cases kd : d = 0
          · cases g with
            | false =>
              subst kd
              have I2 := hide (ST2.out ns n 0 true l (rd_min ⟨rfl, rfl⟩))
              rw [show sgI false = 1 from rfl]
              go_wp2_with fail
              go_roundw
              case rel => exact ⟨pos + 1, ns, n, 0, true, l, I2.out, rfl, rfl, rfl, hit2.out, own2.out, onn2.out, bw2.out⟩
              case measure =>
                simp only [World.iterPos, hit2.out, Hit.out]
                omega
            | true =>
              subst kd
              have F2 := hide (SF2.out (rd_no (by simp only; omega) (by simp) (by simp only; omega)))
              rw [show sgI true = -1 from rfl]
              go_wp2_with fail
              go_ret2
              exact ⟨RdR.fail F2.out _, bw2.out⟩
          · have kdI : ((d : Int) == 0) = false := by
              have : ¬ (d : Int) = 0 := by omega
              simpa using this
            have F2 := hide (SF2.out (rd_no (by simp only; omega) (by simp only; omega) (by simp only; omega)))
            go_wp2_with fail
            go_ret2
            exact ⟨RdR.fail F2.out _, bw2.out⟩
        by_cases k46 : c = 46
        · subst k46
          by_cases kd : 0 < d
          · obtain ⟨an, cn, rfl⟩ := own_form onn2.out
            by_cases hl5 : ns.length < 5
            · have lI : (ns.length : Int) < 5 := by omega
              have kdI : (0 : Int) < (d : Int) := by omega
              have I2 := hide (ST2.out (ns ++ [sgn g n]) 0 0 false l (rd_pt ⟨kd, hl5⟩))
              have SG := hide (sgn_eq g n)
              have hn2 : (n : Int) ≤ 1000000000000000 := by omega
              have hl5' := hide hl5
              clear hl5
              cases g with
              | false =>
                rw [show sgI false = 1 from rfl]
                go_wp2_with (at_builtin; refine wpList_append_own _ rfl _ _ 68 rfl (w.heap.size + 1) 3 i1 (.int .i64 0) 1 8 Tryd.underlying68 HJ.out.1 HJ.out.2.1 HJ.out.2.2.1 HJ.out.2.2.2 rfl (by decide) _ _ _ rfl (onn2.out.alloc _) ⟨w1.heap.size, 0, none⟩ 1 1 [.int .i64 (n : Int)] rfl rfl ?c1 ?c2 ?c3 ?c4 ?c5 ?_)
                case c1 =>
                  intro j u hj
                  match j, hj with
                  | 0, hj => simp at hj; subst hj; simp [Addr.add]
                case c2 => intro u hu; simp at hu; subst hu; rfl
                case c3 => unfold maxLen; omega
                case c4 => omega
                case c5 => simp; omega
                intro v' w2 hown' hgrow _
                obtain ⟨hit4, bw4⟩ := after_num hit2.out onn2.out bw2.out hgrow
                have own4 := hide (own_far (own2.out.alloc _) hgrow (fun g hg h => own_apart own2.out onn2.out (by decide) g hg h.symm))
                have Hit4 := hide hit4
                have Bw4 := hide bw4
                have onn4 := hide hown'
                clear hit4 bw4 hown' hgrow
                go_wp2_with fail
                go_roundw
                case rel => exact ⟨pos + 1, ns ++ [sgn false n], 0, 0, false, l, I2.out, rfl, rfl, rfl, Hit4.out, own4.out, by simpa [sgn] using onn4.out, Bw4.out⟩
                case measure =>
                  simp only [World.iterPos, Hit4.out, Hit.out]
                  omega
              | true =>
                rw [show sgI true = -1 from rfl]
                go_wp2_with (at_builtin; refine wpList_append_own _ rfl _ _ 68 rfl (w.heap.size + 1) 3 i1 (.int .i64 0) 1 8 Tryd.underlying68 HJ.out.1 HJ.out.2.1 HJ.out.2.2.1 HJ.out.2.2.2 rfl (by decide) _ _ _ rfl (onn2.out.alloc _) ⟨w1.heap.size, 0, none⟩ 1 1 [.int .i64 (-(n : Int))] rfl rfl ?c1 ?c2 ?c3 ?c4 ?c5 ?_)
                case c1 =>
                  intro j u hj
                  match j, hj with
                  | 0, hj => simp at hj; subst hj; simp [Addr.add]
                case c2 => intro u hu; simp at hu; subst hu; rfl
                case c3 => unfold maxLen; omega
                case c4 => omega
                case c5 => simp; omega
                intro v' w2 hown' hgrow _
                obtain ⟨hit4, bw4⟩ := after_num hit2.out onn2.out bw2.out hgrow
                have own4 := hide (own_far (own2.out.alloc _) hgrow (fun g hg h => own_apart own2.out onn2.out (by decide) g hg h.symm))
                have Hit4 := hide hit4
                have Bw4 := hide bw4
                have onn4 := hide hown'
                clear hit4 bw4 hown' hgrow
                go_wp2_with fail
                go_roundw
                case rel => exact ⟨pos + 1, ns ++ [sgn true n], 0, 0, false, l, I2.out, rfl, rfl, rfl, Hit4.out, own4.out, by simpa [sgn] using onn4.out, Bw4.out⟩
                case measure =>
                  simp only [World.iterPos, Hit4.out, Hit.out]
                  omega
            · have lI : ¬ (ns.length : Int) < 5 := by omega
              have kdI : (0 : Int) < (d : Int) := by omega
              have F2 := hide (SF2.out (rd_no (by simp only; omega) (by simp only; omega) (by simp only; omega)))
              go_wp2_with fail
              go_ret2
              exact ⟨RdR.fail F2.out _, bw2.out⟩
          · have kdI : ¬ (0 : Int) < (d : Int) := by omega
            have F2 := hide (SF2.out (rd_no (by simp only; omega) (by simp only; omega) (by simp only; omega)))
            go_wp2_with fail
            go_ret2
            exact ⟨RdR.fail F2.out _, bw2.out⟩
        by_cases k32 : c = 32
        · subst k32
          by_cases kd : 0 < d
          · obtain ⟨an, cn, rfl⟩ := own_form onn2.out
            have kdI : (0 : Int) < (d : Int) := by omega
            have hn2 : (n : Int) ≤ 1000000000000000 := by omega
            by_cases hl5 : ns.length < 5
            · have lI : (ns.length : Int) < 5 := by omega
              by_cases h4 : ns.length = 4
              · obtain ⟨z0, z1, z2, z3, rfl⟩ : ∃ z0 z1 z2 z3, ns = [z0, z1, z2, z3] := by
                  match ns, h4 with
                  | [a, b, c, d], _ => exact ⟨a, b, c, d, rfl⟩
                have onn3 : Hid (w1.ownsRow (w.heap.size + 1) 3 1 (.slice an 4 cn) 4 [.int .i64 z0, .int .i64 z1, .int .i64 z2, .int .i64 z3]) := onn2
                have I2 := hide (ST2.out [] 0 0 false (l ++ [mkC ([z0, z1, z2, z3] ++ [sgn g n])]) (rd_bl ⟨kd, rfl⟩))
                have MK : Hid (mkC ([z0, z1, z2, z3] ++ [sgn g n]) = ⟨z0, z1, z3, sgn g n, z2⟩) := hide rfl
                rw [show [z0, z1, z2, z3].length = 4 from rfl]
                clear hl5 h4 lI hln
                cases g with
                | false =>
                  rw [show sgI false = 1 from rfl]
                  go_wp2_with (at_builtin; refine wpList_append_own _ rfl _ _ 68 rfl (w.heap.size + 1) 3 i1 (.int .i64 0) 1 8 Tryd.underlying68 HJ.out.1 HJ.out.2.1 HJ.out.2.2.1 HJ.out.2.2.2 rfl (by decide) _ _ _ rfl (onn3.out.alloc _) ⟨w1.heap.size, 0, none⟩ 1 1 [.int .i64 (n : Int)] rfl rfl ?c1 ?c2 ?c3 ?c4 ?c5 ?_)
                  case c1 =>
                    intro j u hj
                    match j, hj with
                    | 0, hj => simp at hj; subst hj; simp [Addr.add]
                  case c2 => intro u hu; simp at hu; subst hu; rfl
                  case c3 => unfold maxLen; omega
                  case c4 => omega
                  case c5 => simp; omega
                  intro v' w2 hown' hgrow _
                  obtain ⟨hit4, bw4⟩ := after_num hit2.out onn3.out bw2.out hgrow
                  have own4 := hide (own_far (own2.out.alloc _) hgrow (fun g hg h => own_apart own2.out onn3.out (by decide) g hg h.symm))
                  have Hit4 := hide hit4
                  have Bw4 := hide bw4
                  obtain ⟨vn, cn', rfl⟩ := own_form hown'
                  have onn4 := hide hown'
                  clear hit4 bw4 hown' hgrow
                  obtain ⟨gn, rfl, hgn, qc⟩ := own_addr onn4.out (by omega)
                  have q0 := qc 0 _ rfl
                  have q1 := qc 1 _ rfl
                  have q2 := qc 2 _ rfl
                  have q3 := qc 3 _ rfl
                  have q4 := qc 4 _ rfl
                  have hs2 := Bw4.out.size
                  have hkm : l.length + 1 ≤ maxLen := by have := Inv.out.ok.l; have := Inv.out.hp; have := HS.out; simp only at *; unfold maxLen; omega
                  have hkb : l.length + 1 ≤ 10000010 := by have := Inv.out.ok.l; have := Inv.out.hp; have := HS.out; simp only at *; omega
                  go_wp2_with fail
                  let R : Nat → Value → World → Prop := fun t u w1 => match t with
                    | 73 => u = u2
                    | 74 => u = .slice (some ⟨gn, 0, none⟩) 5 cn'
                    | 75 => u = .pointer (some ⟨gn, 0, none⟩)
                    | 76 => u = .int .i64 z0
                    | 77 => u = .slice (some ⟨gn, 0, none⟩) 5 cn'
                    | 78 => u = .pointer (some ⟨gn, 1, none⟩)
                    | 79 => u = .int .i64 z1
                    | 80 => u = .slice (some ⟨gn, 0, none⟩) 5 cn'
                    | 81 => u = .pointer (some ⟨gn, 2, none⟩)
                    | 82 => u = .int .i64 z2
                    | 83 => u = .slice (some ⟨gn, 0, none⟩) 5 cn'
                    | 84 => u = .pointer (some ⟨gn, 3, none⟩)
                    | 85 => u = .int .i64 z3
                    | 86 => u = .slice (some ⟨gn, 0, none⟩) 5 cn'
                    | 87 => u = .pointer (some ⟨gn, 4, none⟩)
                    | 88 => u = .int .i64 n
                    | 89 => u = .agg #[.int .i64 z0, .int .i64 z1, .int .i64 z3, .int .i64 n, .int .i64 z2]
                    | 90 => ∃ g, u = .slice (some ⟨g, 0, none⟩) 1 1 ∧ w2.heap.size ≤ g ∧ g < w1.heap.size ∧ w1.cell? ⟨g, 0, none⟩ = some (.int .i64 z0) ∧ w1.cell? ⟨g, 1, none⟩ = some (.int .i64 z1) ∧ w1.cell? ⟨g, 2, none⟩ = some (.int .i64 z3) ∧ w1.cell? ⟨g, 3, none⟩ = some (.int .i64 n) ∧ w1.cell? ⟨g, 4, none⟩ = some (.int .i64 z2)
                    | _ => True
                  refine wp_region_relT 18 R (by kernel_rfl) (by kernel_rfl) (by kernel_rfl) (by kernel_rfl) ?mono ?step ?fin
                  case mono =>
                    intro t u w1 w2 h hb
                    match t with
                    | 90 =>
                      obtain ⟨g, h1, h0, h2, h3, h4, h5, h6, h7⟩ := h
                      exact ⟨g, h1, h0, Nat.lt_of_lt_of_le h2 hb.size, (hb.cell (p := ⟨g, 0, none⟩) h2).trans h3, (hb.cell (p := ⟨g, 1, none⟩) h2).trans h4, (hb.cell (p := ⟨g, 2, none⟩) h2).trans h5, (hb.cell (p := ⟨g, 3, none⟩) h2).trans h6, (hb.cell (p := ⟨g, 4, none⟩) h2).trans h7⟩
                    | 73 | 74 | 75 | 76 | 77 | 78 | 79 | 80 | 81 | 82 | 83 | 84 | 85 | 86 | 87 | 88 | 89 => exact h
                    | 0 | 1 | 2 | 3 | 4 | 5 | 6 | 7 | 8 | 9 | 10 | 11 | 12 | 13 | 14 | 15 | 16 | 17 | 18 | 19 | 20 | 21 | 22 | 23 | 24 | 25 | 26 | 27 | 28 | 29 | 30 | 31 | 32 | 33 | 34 | 35 | 36 | 37 | 38 | 39 | 40 | 41 | 42 | 43 | 44 | 45 | 46 | 47 | 48 | 49 | 50 | 51 | 52 | 53 | 54 | 55 | 56 | 57 | 58 | 59 | 60 | 61 | 62 | 63 | 64 | 65 | 66 | 67 | 68 | 69 | 70 | 71 | 72 => trivial
                    | _ + 91 => trivial
                  case fin =>
                    intro ff w5 hb hr
                    have f73 : ff 73 = u2 := hr 73 (by decide)
                    have f90 : ∃ g, ff 90 = .slice (some ⟨g, 0, none⟩) 1 1 ∧ w2.heap.size ≤ g ∧ g < w5.heap.size ∧ w5.cell? ⟨g, 0, none⟩ = some (.int .i64 z0) ∧ w5.cell? ⟨g, 1, none⟩ = some (.int .i64 z1) ∧ w5.cell? ⟨g, 2, none⟩ = some (.int .i64 z3) ∧ w5.cell? ⟨g, 3, none⟩ = some (.int .i64 n) ∧ w5.cell? ⟨g, 4, none⟩ = some (.int .i64 z2) := hr 90 (by decide)
                    obtain ⟨g9, f90, hg9, hg9', c0, c1, c2, c3, c4⟩ := f90
                    have Own5 := hide (own_belowR own4.out hb)
                    have RD := hide (show Reads w5 w5.heap.size 5 (some ⟨g9, 0, none⟩) 1 [.int .i64 z0, .int .i64 z1, .int .i64 z3, .int .i64 n, .int .i64 z2] from ⟨rfl, fun _ => ⟨_, rfl, hg9', fun j u hj => by
                      rw [add_lit]
                      match j, hj with
                      | 0, hj => cases hj; exact c0
                      | 1, hj => cases hj; exact c1
                      | 2, hj => cases hj; exact c2
                      | 3, hj => cases hj; exact c3
                      | 4, hj => cases hj; exact c4⟩⟩)
                    have HO := hide (show ∀ u ∈ ([.int .i64 z0, .int .i64 z1, .int .i64 z3, .int .i64 n, .int .i64 z2] : List Value), u.oneCell' = true by simp [Value.oneCell'])
                    have Bw5 := hide (Bw4.out.trans (hb.mono Bw4.out.size))
                    have Hit5 := hide ((hb.block _ (Array.getElem?_eq_some_iff.1 Hit4.out).1).trans Hit4.out)
                    have hs5 : w.heap.size + 1 ≤ w5.heap.size := (Array.getElem?_eq_some_iff.1 Hit5.out).1
                    have hkb2 : (l.length + 1) * 40 ≤ 140737488355328 := by omega
                    simp only [putAll, slotsOf, List.take_succ_cons, List.take_zero, List.drop_succ_cons, List.drop_zero, List.filterMap_cons, List.filterMap_nil, List.foldl_cons, List.foldl_nil, Act.put, f73, f90]
                    simp only [List.setIfInBounds_toArray, List.set_cons_succ, List.set_cons_zero]
                    clear hb hr f73 f90 c0 c1 c2 c3 c4 q0 q1 q2 q3 q4
                    go_wp2_with (at_builtin; refine wpList_append_any _ rfl _ _ 22 rfl (w.heap.size + 1) 31 i0 chZ 5 40 Tryd.underlying22 HI.out.1 HI.out.2.1 HI.out.2.2.1 HI.out.2.2.2 rfl (by decide) u2 l.length (chs l) rfl Own5.out w5.heap.size (some ⟨g9, 0, none⟩) 1 1 _ rfl RD.out HO.out hkm hkb2 hs5 ?_)
                    intro v' w6 hown' hgrow _
                    have Own6 := hide hown'
                    have HG6 := hide hgrow
                    clear hown' hgrow
                    have Hit6 := hide ((HG6.out.block w.heap.size hs5 (fun h => by have := (own_ltS Own5.out h.symm).1; omega)).trans Hit5.out)
                    have Bw6 := hide (Bw5.out.grown HG6.out (by omega) (fun k hk => by have := (own_ltS Own5.out hk).1; omega))
                    go_wp2_with fail
                    go_roundw
                    case rel =>
                      refine ⟨pos + 1, [], 0, 0, false, l ++ [mkC ([z0, z1, z2, z3] ++ [sgn false n])], I2.out, rfl, rfl, rfl, Hit6.out, ?_, ⟨rfl, .inl ⟨rfl, rfl⟩⟩, Bw6.out⟩
                      rw [chs_app, chs_one, MK.out, List.length_append]
                      exact Own6.out
                    case measure =>
                      simp only [World.iterPos, Hit6.out, Hit.out]
                      omega
                  case step =>
                    intro o ho
                    simp only [List.take_succ_cons, List.take_zero, List.mem_cons, List.not_mem_nil, or_false] at ho
                    rcases ho with rfl | rfl | rfl | rfl | rfl | rfl | rfl | rfl | rfl | rfl | rfl | rfl | rfl | rfl | rfl | rfl | rfl | rfl
                    · intro a w1 hb hs hr
                      have e2 : a.tmps.getD 2 undef = u2 := hs 2 (by decide)
                      rw [Array.getD_eq_getD_getElem?] at e2
                      unfold Oper.wp
                      simp only [execOp, Act.eval, Array.getD_eq_getD_getElem?, e2]
                      go_simp
                      exact ⟨_, rfl, rfl, Below.refl _ _⟩
                    · intro a w1 hb hs hr
                      have e4 : a.tmps.getD 4 undef = .slice (some ⟨gn, 0, none⟩) 5 cn' := hs 4 (by decide)
                      rw [Array.getD_eq_getD_getElem?] at e4
                      unfold Oper.wp
                      simp only [execOp, Act.eval, Array.getD_eq_getD_getElem?, e4]
                      go_simp
                      exact ⟨_, rfl, rfl, Below.refl _ _⟩
                    · intro a w1 hb hs hr
                      have e74 : a.tmps.getD 74 undef = .slice (some ⟨gn, 0, none⟩) 5 cn' := hr 74 (by decide) (by apply Array.mem_toList_iff.1; repeat (first | exact List.Mem.head _ | apply List.Mem.tail))
                      rw [Array.getD_eq_getD_getElem?] at e74
                      unfold Oper.wp
                      simp only [execOp, Act.eval, Array.getD_eq_getD_getElem?, e74]
                      go_simp
                      exact ⟨_, rfl, rfl, Below.refl _ _⟩
                    · intro a w1 hb hs hr
                      have e75 : a.tmps.getD 75 undef = .pointer (some ⟨gn, 0, none⟩) := hr 75 (by decide) (by apply Array.mem_toList_iff.1; repeat (first | exact List.Mem.head _ | apply List.Mem.tail))
                      have cc : w1.cell? ⟨gn, 0, none⟩ = some (.int .i64 z0) := (hb.cell (p := ⟨gn, 0, none⟩) hgn).trans q0
                      rw [Array.getD_eq_getD_getElem?] at e75
                      unfold Oper.wp
                      simp only [execOp, Act.eval, Array.getD_eq_getD_getElem?, e75]
                      go_simp
                      exact ⟨_, rfl, rfl, Below.refl _ _⟩
                    · intro a w1 hb hs hr
                      have e4 : a.tmps.getD 4 undef = .slice (some ⟨gn, 0, none⟩) 5 cn' := hs 4 (by decide)
                      rw [Array.getD_eq_getD_getElem?] at e4
                      unfold Oper.wp
                      simp only [execOp, Act.eval, Array.getD_eq_getD_getElem?, e4]
                      go_simp
                      exact ⟨_, rfl, rfl, Below.refl _ _⟩
                    · intro a w1 hb hs hr
                      have e77 : a.tmps.getD 77 undef = .slice (some ⟨gn, 0, none⟩) 5 cn' := hr 77 (by decide) (by apply Array.mem_toList_iff.1; repeat (first | exact List.Mem.head _ | apply List.Mem.tail))
                      rw [Array.getD_eq_getD_getElem?] at e77
                      unfold Oper.wp
                      simp only [execOp, Act.eval, Array.getD_eq_getD_getElem?, e77]
                      go_simp
                      exact ⟨_, rfl, rfl, Below.refl _ _⟩
                    · intro a w1 hb hs hr
                      have e78 : a.tmps.getD 78 undef = .pointer (some ⟨gn, 1, none⟩) := hr 78 (by decide) (by apply Array.mem_toList_iff.1; repeat (first | exact List.Mem.head _ | apply List.Mem.tail))
                      have cc : w1.cell? ⟨gn, 1, none⟩ = some (.int .i64 z1) := (hb.cell (p := ⟨gn, 1, none⟩) hgn).trans q1
                      rw [Array.getD_eq_getD_getElem?] at e78
                      unfold Oper.wp
                      simp only [execOp, Act.eval, Array.getD_eq_getD_getElem?, e78]
                      go_simp
                      exact ⟨_, rfl, rfl, Below.refl _ _⟩
                    · intro a w1 hb hs hr
                      have e4 : a.tmps.getD 4 undef = .slice (some ⟨gn, 0, none⟩) 5 cn' := hs 4 (by decide)
                      rw [Array.getD_eq_getD_getElem?] at e4
                      unfold Oper.wp
                      simp only [execOp, Act.eval, Array.getD_eq_getD_getElem?, e4]
                      go_simp
                      exact ⟨_, rfl, rfl, Below.refl _ _⟩
                    · intro a w1 hb hs hr
                      have e80 : a.tmps.getD 80 undef = .slice (some ⟨gn, 0, none⟩) 5 cn' := hr 80 (by decide) (by apply Array.mem_toList_iff.1; repeat (first | exact List.Mem.head _ | apply List.Mem.tail))
                      rw [Array.getD_eq_getD_getElem?] at e80
                      unfold Oper.wp
                      simp only [execOp, Act.eval, Array.getD_eq_getD_getElem?, e80]
                      go_simp
                      exact ⟨_, rfl, rfl, Below.refl _ _⟩
                    · intro a w1 hb hs hr
                      have e81 : a.tmps.getD 81 undef = .pointer (some ⟨gn, 2, none⟩) := hr 81 (by decide) (by apply Array.mem_toList_iff.1; repeat (first | exact List.Mem.head _ | apply List.Mem.tail))
                      have cc : w1.cell? ⟨gn, 2, none⟩ = some (.int .i64 z2) := (hb.cell (p := ⟨gn, 2, none⟩) hgn).trans q2
                      rw [Array.getD_eq_getD_getElem?] at e81
                      unfold Oper.wp
                      simp only [execOp, Act.eval, Array.getD_eq_getD_getElem?, e81]
                      go_simp
                      exact ⟨_, rfl, rfl, Below.refl _ _⟩
                    · intro a w1 hb hs hr
                      have e4 : a.tmps.getD 4 undef = .slice (some ⟨gn, 0, none⟩) 5 cn' := hs 4 (by decide)
                      rw [Array.getD_eq_getD_getElem?] at e4
                      unfold Oper.wp
                      simp only [execOp, Act.eval, Array.getD_eq_getD_getElem?, e4]
                      go_simp
                      exact ⟨_, rfl, rfl, Below.refl _ _⟩
                    · intro a w1 hb hs hr
                      have e83 : a.tmps.getD 83 undef = .slice (some ⟨gn, 0, none⟩) 5 cn' := hr 83 (by decide) (by apply Array.mem_toList_iff.1; repeat (first | exact List.Mem.head _ | apply List.Mem.tail))
                      rw [Array.getD_eq_getD_getElem?] at e83
                      unfold Oper.wp
                      simp only [execOp, Act.eval, Array.getD_eq_getD_getElem?, e83]
                      go_simp
                      exact ⟨_, rfl, rfl, Below.refl _ _⟩
                    · intro a w1 hb hs hr
                      have e84 : a.tmps.getD 84 undef = .pointer (some ⟨gn, 3, none⟩) := hr 84 (by decide) (by apply Array.mem_toList_iff.1; repeat (first | exact List.Mem.head _ | apply List.Mem.tail))
                      have cc : w1.cell? ⟨gn, 3, none⟩ = some (.int .i64 z3) := (hb.cell (p := ⟨gn, 3, none⟩) hgn).trans q3
                      rw [Array.getD_eq_getD_getElem?] at e84
                      unfold Oper.wp
                      simp only [execOp, Act.eval, Array.getD_eq_getD_getElem?, e84]
                      go_simp
                      exact ⟨_, rfl, rfl, Below.refl _ _⟩
                    · intro a w1 hb hs hr
                      have e4 : a.tmps.getD 4 undef = .slice (some ⟨gn, 0, none⟩) 5 cn' := hs 4 (by decide)
                      rw [Array.getD_eq_getD_getElem?] at e4
                      unfold Oper.wp
                      simp only [execOp, Act.eval, Array.getD_eq_getD_getElem?, e4]
                      go_simp
                      exact ⟨_, rfl, rfl, Below.refl _ _⟩
                    · intro a w1 hb hs hr
                      have e86 : a.tmps.getD 86 undef = .slice (some ⟨gn, 0, none⟩) 5 cn' := hr 86 (by decide) (by apply Array.mem_toList_iff.1; repeat (first | exact List.Mem.head _ | apply List.Mem.tail))
                      rw [Array.getD_eq_getD_getElem?] at e86
                      unfold Oper.wp
                      simp only [execOp, Act.eval, Array.getD_eq_getD_getElem?, e86]
                      go_simp
                      exact ⟨_, rfl, rfl, Below.refl _ _⟩
                    · intro a w1 hb hs hr
                      have e87 : a.tmps.getD 87 undef = .pointer (some ⟨gn, 4, none⟩) := hr 87 (by decide) (by apply Array.mem_toList_iff.1; repeat (first | exact List.Mem.head _ | apply List.Mem.tail))
                      have cc : w1.cell? ⟨gn, 4, none⟩ = some (.int .i64 n) := (hb.cell (p := ⟨gn, 4, none⟩) hgn).trans q4
                      rw [Array.getD_eq_getD_getElem?] at e87
                      unfold Oper.wp
                      simp only [execOp, Act.eval, Array.getD_eq_getD_getElem?, e87]
                      go_simp
                      exact ⟨_, rfl, rfl, Below.refl _ _⟩
                    · intro a w1 hb hs hr
                      have e76 : a.tmps.getD 76 undef = .int .i64 z0 := hr 76 (by decide) (by apply Array.mem_toList_iff.1; repeat (first | exact List.Mem.head _ | apply List.Mem.tail))
                      have e79 : a.tmps.getD 79 undef = .int .i64 z1 := hr 79 (by decide) (by apply Array.mem_toList_iff.1; repeat (first | exact List.Mem.head _ | apply List.Mem.tail))
                      have e82 : a.tmps.getD 82 undef = .int .i64 z2 := hr 82 (by decide) (by apply Array.mem_toList_iff.1; repeat (first | exact List.Mem.head _ | apply List.Mem.tail))
                      have e85 : a.tmps.getD 85 undef = .int .i64 z3 := hr 85 (by decide) (by apply Array.mem_toList_iff.1; repeat (first | exact List.Mem.head _ | apply List.Mem.tail))
                      have e88 : a.tmps.getD 88 undef = .int .i64 n := hr 88 (by decide) (by apply Array.mem_toList_iff.1; repeat (first | exact List.Mem.head _ | apply List.Mem.tail))
                      rw [Array.getD_eq_getD_getElem?] at e76
                      rw [Array.getD_eq_getD_getElem?] at e79
                      rw [Array.getD_eq_getD_getElem?] at e82
                      rw [Array.getD_eq_getD_getElem?] at e85
                      rw [Array.getD_eq_getD_getElem?] at e88
                      unfold Oper.wp
                      simp only [execOp, Act.eval, Array.getD_eq_getD_getElem?, e76, e79, e82, e85, e88]
                      go_simp
                      exact ⟨_, rfl, rfl, Below.refl _ _⟩
                    · intro a w1 hb hs hr
                      have e89 : a.tmps.getD 89 undef = .agg #[.int .i64 z0, .int .i64 z1, .int .i64 z3, .int .i64 n, .int .i64 z2] := hr 89 (by decide) (by apply Array.mem_toList_iff.1; repeat (first | exact List.Mem.head _ | apply List.Mem.tail))
                      rw [Array.getD_eq_getD_getElem?] at e89
                      unfold Oper.wp
                      simp only [execOp, Act.eval, Array.getD_eq_getD_getElem?, e89]
                      go_simp
                      exact ⟨_, rfl, ⟨w1.heap.size, rfl, hb.size, by simp, by rw [(Blk.new w1 31 _).cell]; rfl, by rw [(Blk.new w1 31 _).cell]; rfl, by rw [(Blk.new w1 31 _).cell]; rfl, by rw [(Blk.new w1 31 _).cell]; rfl, by rw [(Blk.new w1 31 _).cell]; rfl⟩, (Below.refl _ _).alloc (Nat.le_refl _) _⟩
                | true =>
                  rw [show sgI true = -1 from rfl]
                  go_wp2_with (at_builtin; refine wpList_append_own _ rfl _ _ 68 rfl (w.heap.size + 1) 3 i1 (.int .i64 0) 1 8 Tryd.underlying68 HJ.out.1 HJ.out.2.1 HJ.out.2.2.1 HJ.out.2.2.2 rfl (by decide) _ _ _ rfl (onn3.out.alloc _) ⟨w1.heap.size, 0, none⟩ 1 1 [.int .i64 (-(n : Int))] rfl rfl ?c1 ?c2 ?c3 ?c4 ?c5 ?_)
                  case c1 =>
                    intro j u hj
                    match j, hj with
                    | 0, hj => simp at hj; subst hj; simp [Addr.add]
                  case c2 => intro u hu; simp at hu; subst hu; rfl
                  case c3 => unfold maxLen; omega
                  case c4 => omega
                  case c5 => simp; omega
                  intro v' w2 hown' hgrow _
                  obtain ⟨hit4, bw4⟩ := after_num hit2.out onn3.out bw2.out hgrow
                  have own4 := hide (own_far (own2.out.alloc _) hgrow (fun g hg h => own_apart own2.out onn3.out (by decide) g hg h.symm))
                  have Hit4 := hide hit4
                  have Bw4 := hide bw4
                  obtain ⟨vn, cn', rfl⟩ := own_form hown'
                  have onn4 := hide hown'
                  clear hit4 bw4 hown' hgrow
                  obtain ⟨gn, rfl, hgn, qc⟩ := own_addr onn4.out (by omega)
                  have q0 := qc 0 _ rfl
                  have q1 := qc 1 _ rfl
                  have q2 := qc 2 _ rfl
                  have q3 := qc 3 _ rfl
                  have q4 := qc 4 _ rfl
                  have hs2 := Bw4.out.size
                  have hkm : l.length + 1 ≤ maxLen := by have := Inv.out.ok.l; have := Inv.out.hp; have := HS.out; simp only at *; unfold maxLen; omega
                  have hkb : l.length + 1 ≤ 10000010 := by have := Inv.out.ok.l; have := Inv.out.hp; have := HS.out; simp only at *; omega
                  go_wp2_with fail
                  let R : Nat → Value → World → Prop := fun t u w1 => match t with
                    | 73 => u = u2
                    | 74 => u = .slice (some ⟨gn, 0, none⟩) 5 cn'
                    | 75 => u = .pointer (some ⟨gn, 0, none⟩)
                    | 76 => u = .int .i64 z0
                    | 77 => u = .slice (some ⟨gn, 0, none⟩) 5 cn'
                    | 78 => u = .pointer (some ⟨gn, 1, none⟩)
                    | 79 => u = .int .i64 z1
                    | 80 => u = .slice (some ⟨gn, 0, none⟩) 5 cn'
                    | 81 => u = .pointer (some ⟨gn, 2, none⟩)
                    | 82 => u = .int .i64 z2
                    | 83 => u = .slice (some ⟨gn, 0, none⟩) 5 cn'
                    | 84 => u = .pointer (some ⟨gn, 3, none⟩)
                    | 85 => u = .int .i64 z3
                    | 86 => u = .slice (some ⟨gn, 0, none⟩) 5 cn'
                    | 87 => u = .pointer (some ⟨gn, 4, none⟩)
                    | 88 => u = .int .i64 (-n)
                    | 89 => u = .agg #[.int .i64 z0, .int .i64 z1, .int .i64 z3, .int .i64 (-n), .int .i64 z2]
                    | 90 => ∃ g, u = .slice (some ⟨g, 0, none⟩) 1 1 ∧ w2.heap.size ≤ g ∧ g < w1.heap.size ∧ w1.cell? ⟨g, 0, none⟩ = some (.int .i64 z0) ∧ w1.cell? ⟨g, 1, none⟩ = some (.int .i64 z1) ∧ w1.cell? ⟨g, 2, none⟩ = some (.int .i64 z3) ∧ w1.cell? ⟨g, 3, none⟩ = some (.int .i64 (-n)) ∧ w1.cell? ⟨g, 4, none⟩ = some (.int .i64 z2)
                    | _ => True
                  refine wp_region_relT 18 R (by kernel_rfl) (by kernel_rfl) (by kernel_rfl) (by kernel_rfl) ?mono ?step ?fin
                  case mono =>
                    intro t u w1 w2 h hb
                    match t with
                    | 90 =>
                      obtain ⟨g, h1, h0, h2, h3, h4, h5, h6, h7⟩ := h
                      exact ⟨g, h1, h0, Nat.lt_of_lt_of_le h2 hb.size, (hb.cell (p := ⟨g, 0, none⟩) h2).trans h3, (hb.cell (p := ⟨g, 1, none⟩) h2).trans h4, (hb.cell (p := ⟨g, 2, none⟩) h2).trans h5, (hb.cell (p := ⟨g, 3, none⟩) h2).trans h6, (hb.cell (p := ⟨g, 4, none⟩) h2).trans h7⟩
                    | 73 | 74 | 75 | 76 | 77 | 78 | 79 | 80 | 81 | 82 | 83 | 84 | 85 | 86 | 87 | 88 | 89 => exact h
                    | 0 | 1 | 2 | 3 | 4 | 5 | 6 | 7 | 8 | 9 | 10 | 11 | 12 | 13 | 14 | 15 | 16 | 17 | 18 | 19 | 20 | 21 | 22 | 23 | 24 | 25 | 26 | 27 | 28 | 29 | 30 | 31 | 32 | 33 | 34 | 35 | 36 | 37 | 38 | 39 | 40 | 41 | 42 | 43 | 44 | 45 | 46 | 47 | 48 | 49 | 50 | 51 | 52 | 53 | 54 | 55 | 56 | 57 | 58 | 59 | 60 | 61 | 62 | 63 | 64 | 65 | 66 | 67 | 68 | 69 | 70 | 71 | 72 => trivial
                    | _ + 91 => trivial
                  case fin =>
                    intro ff w5 hb hr
                    have f73 : ff 73 = u2 := hr 73 (by decide)
                    have f90 : ∃ g, ff 90 = .slice (some ⟨g, 0, none⟩) 1 1 ∧ w2.heap.size ≤ g ∧ g < w5.heap.size ∧ w5.cell? ⟨g, 0, none⟩ = some (.int .i64 z0) ∧ w5.cell? ⟨g, 1, none⟩ = some (.int .i64 z1) ∧ w5.cell? ⟨g, 2, none⟩ = some (.int .i64 z3) ∧ w5.cell? ⟨g, 3, none⟩ = some (.int .i64 (-n)) ∧ w5.cell? ⟨g, 4, none⟩ = some (.int .i64 z2) := hr 90 (by decide)
                    obtain ⟨g9, f90, hg9, hg9', c0, c1, c2, c3, c4⟩ := f90
                    have Own5 := hide (own_belowR own4.out hb)
                    have RD := hide (show Reads w5 w5.heap.size 5 (some ⟨g9, 0, none⟩) 1 [.int .i64 z0, .int .i64 z1, .int .i64 z3, .int .i64 (-n), .int .i64 z2] from ⟨rfl, fun _ => ⟨_, rfl, hg9', fun j u hj => by
                      rw [add_lit]
                      match j, hj with
                      | 0, hj => cases hj; exact c0
                      | 1, hj => cases hj; exact c1
                      | 2, hj => cases hj; exact c2
                      | 3, hj => cases hj; exact c3
                      | 4, hj => cases hj; exact c4⟩⟩)
                    have HO := hide (show ∀ u ∈ ([.int .i64 z0, .int .i64 z1, .int .i64 z3, .int .i64 (-n), .int .i64 z2] : List Value), u.oneCell' = true by simp [Value.oneCell'])
                    have Bw5 := hide (Bw4.out.trans (hb.mono Bw4.out.size))
                    have Hit5 := hide ((hb.block _ (Array.getElem?_eq_some_iff.1 Hit4.out).1).trans Hit4.out)
                    have hs5 : w.heap.size + 1 ≤ w5.heap.size := (Array.getElem?_eq_some_iff.1 Hit5.out).1
                    have hkb2 : (l.length + 1) * 40 ≤ 140737488355328 := by omega
                    simp only [putAll, slotsOf, List.take_succ_cons, List.take_zero, List.drop_succ_cons, List.drop_zero, List.filterMap_cons, List.filterMap_nil, List.foldl_cons, List.foldl_nil, Act.put, f73, f90]
                    simp only [List.setIfInBounds_toArray, List.set_cons_succ, List.set_cons_zero]
                    clear hb hr f73 f90 c0 c1 c2 c3 c4 q0 q1 q2 q3 q4
                    go_wp2_with (at_builtin; refine wpList_append_any _ rfl _ _ 22 rfl (w.heap.size + 1) 31 i0 chZ 5 40 Tryd.underlying22 HI.out.1 HI.out.2.1 HI.out.2.2.1 HI.out.2.2.2 rfl (by decide) u2 l.length (chs l) rfl Own5.out w5.heap.size (some ⟨g9, 0, none⟩) 1 1 _ rfl RD.out HO.out hkm hkb2 hs5 ?_)
                    intro v' w6 hown' hgrow _
                    have Own6 := hide hown'
                    have HG6 := hide hgrow
                    clear hown' hgrow
                    have Hit6 := hide ((HG6.out.block w.heap.size hs5 (fun h => by have := (own_ltS Own5.out h.symm).1; omega)).trans Hit5.out)
                    have Bw6 := hide (Bw5.out.grown HG6.out (by omega) (fun k hk => by have := (own_ltS Own5.out hk).1; omega))
                    go_wp2_with fail
                    go_roundw
                    case rel =>
                      refine ⟨pos + 1, [], 0, 0, false, l ++ [mkC ([z0, z1, z2, z3] ++ [sgn true n])], I2.out, rfl, rfl, rfl, Hit6.out, ?_, ⟨rfl, .inl ⟨rfl, rfl⟩⟩, Bw6.out⟩
                      rw [chs_app, chs_one, MK.out, List.length_append]
                      exact Own6.out
                    case measure =>
                      simp only [World.iterPos, Hit6.out, Hit.out]
                      omega
                  case step =>
                    intro o ho
                    simp only [List.take_succ_cons, List.take_zero, List.mem_cons, List.not_mem_nil, or_false] at ho
                    rcases ho with rfl | rfl | rfl | rfl | rfl | rfl | rfl | rfl | rfl | rfl | rfl | rfl | rfl | rfl | rfl | rfl | rfl | rfl
                    · intro a w1 hb hs hr
                      have e2 : a.tmps.getD 2 undef = u2 := hs 2 (by decide)
                      rw [Array.getD_eq_getD_getElem?] at e2
                      unfold Oper.wp
                      simp only [execOp, Act.eval, Array.getD_eq_getD_getElem?, e2]
                      go_simp
                      exact ⟨_, rfl, rfl, Below.refl _ _⟩
                    · intro a w1 hb hs hr
                      have e4 : a.tmps.getD 4 undef = .slice (some ⟨gn, 0, none⟩) 5 cn' := hs 4 (by decide)
                      rw [Array.getD_eq_getD_getElem?] at e4
                      unfold Oper.wp
                      simp only [execOp, Act.eval, Array.getD_eq_getD_getElem?, e4]
                      go_simp
                      exact ⟨_, rfl, rfl, Below.refl _ _⟩
                    · intro a w1 hb hs hr
                      have e74 : a.tmps.getD 74 undef = .slice (some ⟨gn, 0, none⟩) 5 cn' := hr 74 (by decide) (by apply Array.mem_toList_iff.1; repeat (first | exact List.Mem.head _ | apply List.Mem.tail))
                      rw [Array.getD_eq_getD_getElem?] at e74
                      unfold Oper.wp
                      simp only [execOp, Act.eval, Array.getD_eq_getD_getElem?, e74]
                      go_simp
                      exact ⟨_, rfl, rfl, Below.refl _ _⟩
                    · intro a w1 hb hs hr
                      have e75 : a.tmps.getD 75 undef = .pointer (some ⟨gn, 0, none⟩) := hr 75 (by decide) (by apply Array.mem_toList_iff.1; repeat (first | exact List.Mem.head _ | apply List.Mem.tail))
                      have cc : w1.cell? ⟨gn, 0, none⟩ = some (.int .i64 z0) := (hb.cell (p := ⟨gn, 0, none⟩) hgn).trans q0
                      rw [Array.getD_eq_getD_getElem?] at e75
                      unfold Oper.wp
                      simp only [execOp, Act.eval, Array.getD_eq_getD_getElem?, e75]
                      go_simp
                      exact ⟨_, rfl, rfl, Below.refl _ _⟩
                    · intro a w1 hb hs hr
                      have e4 : a.tmps.getD 4 undef = .slice (some ⟨gn, 0, none⟩) 5 cn' := hs 4 (by decide)
                      rw [Array.getD_eq_getD_getElem?] at e4
                      unfold Oper.wp
                      simp only [execOp, Act.eval, Array.getD_eq_getD_getElem?, e4]
                      go_simp
                      exact ⟨_, rfl, rfl, Below.refl _ _⟩
                    · intro a w1 hb hs hr
                      have e77 : a.tmps.getD 77 undef = .slice (some ⟨gn, 0, none⟩) 5 cn' := hr 77 (by decide) (by apply Array.mem_toList_iff.1; repeat (first | exact List.Mem.head _ | apply List.Mem.tail))
                      rw [Array.getD_eq_getD_getElem?] at e77
                      unfold Oper.wp
                      simp only [execOp, Act.eval, Array.getD_eq_getD_getElem?, e77]
                      go_simp
                      exact ⟨_, rfl, rfl, Below.refl _ _⟩
                    · intro a w1 hb hs hr
                      have e78 : a.tmps.getD 78 undef = .pointer (some ⟨gn, 1, none⟩) := hr 78 (by decide) (by apply Array.mem_toList_iff.1; repeat (first | exact List.Mem.head _ | apply List.Mem.tail))
                      have cc : w1.cell? ⟨gn, 1, none⟩ = some (.int .i64 z1) := (hb.cell (p := ⟨gn, 1, none⟩) hgn).trans q1
                      rw [Array.getD_eq_getD_getElem?] at e78
                      unfold Oper.wp
                      simp only [execOp, Act.eval, Array.getD_eq_getD_getElem?, e78]
                      go_simp
                      exact ⟨_, rfl, rfl, Below.refl _ _⟩
                    · intro a w1 hb hs hr
                      have e4 : a.tmps.getD 4 undef = .slice (some ⟨gn, 0, none⟩) 5 cn' := hs 4 (by decide)
                      rw [Array.getD_eq_getD_getElem?] at e4
                      unfold Oper.wp
                      simp only [execOp, Act.eval, Array.getD_eq_getD_getElem?, e4]
                      go_simp
                      exact ⟨_, rfl, rfl, Below.refl _ _⟩
                    · intro a w1 hb hs hr
                      have e80 : a.tmps.getD 80 undef = .slice (some ⟨gn, 0, none⟩) 5 cn' := hr 80 (by decide) (by apply Array.mem_toList_iff.1; repeat (first | exact List.Mem.head _ | apply List.Mem.tail))
                      rw [Array.getD_eq_getD_getElem?] at e80
                      unfold Oper.wp
                      simp only [execOp, Act.eval, Array.getD_eq_getD_getElem?, e80]
                      go_simp
                      exact ⟨_, rfl, rfl, Below.refl _ _⟩
                    · intro a w1 hb hs hr
                      have e81 : a.tmps.getD 81 undef = .pointer (some ⟨gn, 2, none⟩) := hr 81 (by decide) (by apply Array.mem_toList_iff.1; repeat (first | exact List.Mem.head _ | apply List.Mem.tail))
                      have cc : w1.cell? ⟨gn, 2, none⟩ = some (.int .i64 z2) := (hb.cell (p := ⟨gn, 2, none⟩) hgn).trans q2
                      rw [Array.getD_eq_getD_getElem?] at e81
                      unfold Oper.wp
                      simp only [execOp, Act.eval, Array.getD_eq_getD_getElem?, e81]
                      go_simp
                      exact ⟨_, rfl, rfl, Below.refl _ _⟩
                    · intro a w1 hb hs hr
                      have e4 : a.tmps.getD 4 undef = .slice (some ⟨gn, 0, none⟩) 5 cn' := hs 4 (by decide)
                      rw [Array.getD_eq_getD_getElem?] at e4
                      unfold Oper.wp
                      simp only [execOp, Act.eval, Array.getD_eq_getD_getElem?, e4]
                      go_simp
                      exact ⟨_, rfl, rfl, Below.refl _ _⟩
                    · intro a w1 hb hs hr
                      have e83 : a.tmps.getD 83 undef = .slice (some ⟨gn, 0, none⟩) 5 cn' := hr 83 (by decide) (by apply Array.mem_toList_iff.1; repeat (first | exact List.Mem.head _ | apply List.Mem.tail))
                      rw [Array.getD_eq_getD_getElem?] at e83
                      unfold Oper.wp
                      simp only [execOp, Act.eval, Array.getD_eq_getD_getElem?, e83]
                      go_simp
                      exact ⟨_, rfl, rfl, Below.refl _ _⟩
                    · intro a w1 hb hs hr
                      have e84 : a.tmps.getD 84 undef = .pointer (some ⟨gn, 3, none⟩) := hr 84 (by decide) (by apply Array.mem_toList_iff.1; repeat (first | exact List.Mem.head _ | apply List.Mem.tail))
                      have cc : w1.cell? ⟨gn, 3, none⟩ = some (.int .i64 z3) := (hb.cell (p := ⟨gn, 3, none⟩) hgn).trans q3
                      rw [Array.getD_eq_getD_getElem?] at e84
                      unfold Oper.wp
                      simp only [execOp, Act.eval, Array.getD_eq_getD_getElem?, e84]
                      go_simp
                      exact ⟨_, rfl, rfl, Below.refl _ _⟩
                    · intro a w1 hb hs hr
                      have e4 : a.tmps.getD 4 undef = .slice (some ⟨gn, 0, none⟩) 5 cn' := hs 4 (by decide)
                      rw [Array.getD_eq_getD_getElem?] at e4
                      unfold Oper.wp
                      simp only [execOp, Act.eval, Array.getD_eq_getD_getElem?, e4]
                      go_simp
                      exact ⟨_, rfl, rfl, Below.refl _ _⟩
                    · intro a w1 hb hs hr
                      have e86 : a.tmps.getD 86 undef = .slice (some ⟨gn, 0, none⟩) 5 cn' := hr 86 (by decide) (by apply Array.mem_toList_iff.1; repeat (first | exact List.Mem.head _ | apply List.Mem.tail))
                      rw [Array.getD_eq_getD_getElem?] at e86
                      unfold Oper.wp
                      simp only [execOp, Act.eval, Array.getD_eq_getD_getElem?, e86]
                      go_simp
                      exact ⟨_, rfl, rfl, Below.refl _ _⟩
                    · intro a w1 hb hs hr
                      have e87 : a.tmps.getD 87 undef = .pointer (some ⟨gn, 4, none⟩) := hr 87 (by decide) (by apply Array.mem_toList_iff.1; repeat (first | exact List.Mem.head _ | apply List.Mem.tail))
                      have cc : w1.cell? ⟨gn, 4, none⟩ = some (.int .i64 (-n)) := (hb.cell (p := ⟨gn, 4, none⟩) hgn).trans q4
                      rw [Array.getD_eq_getD_getElem?] at e87
                      unfold Oper.wp
                      simp only [execOp, Act.eval, Array.getD_eq_getD_getElem?, e87]
                      go_simp
                      exact ⟨_, rfl, rfl, Below.refl _ _⟩
                    · intro a w1 hb hs hr
                      have e76 : a.tmps.getD 76 undef = .int .i64 z0 := hr 76 (by decide) (by apply Array.mem_toList_iff.1; repeat (first | exact List.Mem.head _ | apply List.Mem.tail))
                      have e79 : a.tmps.getD 79 undef = .int .i64 z1 := hr 79 (by decide) (by apply Array.mem_toList_iff.1; repeat (first | exact List.Mem.head _ | apply List.Mem.tail))
                      have e82 : a.tmps.getD 82 undef = .int .i64 z2 := hr 82 (by decide) (by apply Array.mem_toList_iff.1; repeat (first | exact List.Mem.head _ | apply List.Mem.tail))
                      have e85 : a.tmps.getD 85 undef = .int .i64 z3 := hr 85 (by decide) (by apply Array.mem_toList_iff.1; repeat (first | exact List.Mem.head _ | apply List.Mem.tail))
                      have e88 : a.tmps.getD 88 undef = .int .i64 (-n) := hr 88 (by decide) (by apply Array.mem_toList_iff.1; repeat (first | exact List.Mem.head _ | apply List.Mem.tail))
                      rw [Array.getD_eq_getD_getElem?] at e76
                      rw [Array.getD_eq_getD_getElem?] at e79
                      rw [Array.getD_eq_getD_getElem?] at e82
                      rw [Array.getD_eq_getD_getElem?] at e85
                      rw [Array.getD_eq_getD_getElem?] at e88
                      unfold Oper.wp
                      simp only [execOp, Act.eval, Array.getD_eq_getD_getElem?, e76, e79, e82, e85, e88]
                      go_simp
                      exact ⟨_, rfl, rfl, Below.refl _ _⟩
                    · intro a w1 hb hs hr
                      have e89 : a.tmps.getD 89 undef = .agg #[.int .i64 z0, .int .i64 z1, .int .i64 z3, .int .i64 (-n), .int .i64 z2] := hr 89 (by decide) (by apply Array.mem_toList_iff.1; repeat (first | exact List.Mem.head _ | apply List.Mem.tail))
                      rw [Array.getD_eq_getD_getElem?] at e89
                      unfold Oper.wp
                      simp only [execOp, Act.eval, Array.getD_eq_getD_getElem?, e89]
                      go_simp
                      exact ⟨_, rfl, ⟨w1.heap.size, rfl, hb.size, by simp, by rw [(Blk.new w1 31 _).cell]; rfl, by rw [(Blk.new w1 31 _).cell]; rfl, by rw [(Blk.new w1 31 _).cell]; rfl, by rw [(Blk.new w1 31 _).cell]; rfl, by rw [(Blk.new w1 31 _).cell]; rfl⟩, (Below.refl _ _).alloc (Nat.le_refl _) _⟩
              · have F2 := hide (SF2.out (rd_bln ⟨kd, hl5⟩ h4))
                have k4 : ((ns.length : Int) + 1 == 5) = false := by
                  have : ¬ ((ns.length : Int) + 1 = 5) := by omega
                  simpa using this
                have k4' : ((ns.length : Int) + 1 != 5) = true := by
                  have : ¬ ((ns.length : Int) + 1 = 5) := by omega
                  simpa using this
                clear hl5 h4
                cases g with
                | false =>
                  rw [show sgI false = 1 from rfl]
                  go_wp2_with (at_builtin; refine wpList_append_own _ rfl _ _ 68 rfl (w.heap.size + 1) 3 i1 (.int .i64 0) 1 8 Tryd.underlying68 HJ.out.1 HJ.out.2.1 HJ.out.2.2.1 HJ.out.2.2.2 rfl (by decide) _ _ _ rfl (onn2.out.alloc _) ⟨w1.heap.size, 0, none⟩ 1 1 [.int .i64 (n : Int)] rfl rfl ?c1 ?c2 ?c3 ?c4 ?c5 ?_)
                  case c1 =>
                    intro j u hj
                    match j, hj with
                    | 0, hj => simp at hj; subst hj; simp [Addr.add]
                  case c2 => intro u hu; simp at hu; subst hu; rfl
                  case c3 => unfold maxLen; omega
                  case c4 => omega
                  case c5 => simp; omega
                  intro v' w2 hown' hgrow _
                  obtain ⟨hit4, bw4⟩ := after_num hit2.out onn2.out bw2.out hgrow
                  have own4 := hide (own_far (own2.out.alloc _) hgrow (fun g hg h => own_apart own2.out onn2.out (by decide) g hg h.symm))
                  have Hit4 := hide hit4
                  have Bw4 := hide bw4
                  obtain ⟨vn, cn', rfl⟩ := own_form hown'
                  have onn4 := hide hown'
                  clear hit4 bw4 hown' hgrow
                  go_wp2_with fail
                  go_ret2
                  exact ⟨RdR.fail F2.out _, Bw4.out⟩
                | true =>
                  rw [show sgI true = -1 from rfl]
                  go_wp2_with (at_builtin; refine wpList_append_own _ rfl _ _ 68 rfl (w.heap.size + 1) 3 i1 (.int .i64 0) 1 8 Tryd.underlying68 HJ.out.1 HJ.out.2.1 HJ.out.2.2.1 HJ.out.2.2.2 rfl (by decide) _ _ _ rfl (onn2.out.alloc _) ⟨w1.heap.size, 0, none⟩ 1 1 [.int .i64 (-(n : Int))] rfl rfl ?c1 ?c2 ?c3 ?c4 ?c5 ?_)
                  case c1 =>
                    intro j u hj
                    match j, hj with
                    | 0, hj => simp at hj; subst hj; simp [Addr.add]
                  case c2 => intro u hu; simp at hu; subst hu; rfl
                  case c3 => unfold maxLen; omega
                  case c4 => omega
                  case c5 => simp; omega
                  intro v' w2 hown' hgrow _
                  obtain ⟨hit4, bw4⟩ := after_num hit2.out onn2.out bw2.out hgrow
                  have own4 := hide (own_far (own2.out.alloc _) hgrow (fun g hg h => own_apart own2.out onn2.out (by decide) g hg h.symm))
                  have Hit4 := hide hit4
                  have Bw4 := hide bw4
                  obtain ⟨vn, cn', rfl⟩ := own_form hown'
                  have onn4 := hide hown'
                  clear hit4 bw4 hown' hgrow
                  go_wp2_with fail
                  go_ret2
                  exact ⟨RdR.fail F2.out _, Bw4.out⟩
            · have lI : ¬ (ns.length : Int) < 5 := by omega
              have F2 := hide (SF2.out (rd_no (by simp only; omega) (by simp only; omega) (by simp only; omega)))
              go_wp2_with fail
              go_ret2
              exact ⟨RdR.fail F2.out _, bw2.out⟩
          · have kdI : ¬ (0 : Int) < (d : Int) := by omega
            have F2 := hide (SF2.out (rd_no (by simp only; omega) (by simp only; omega) (by simp only; omega)))
            go_wp2_with fail
            go_ret2
            exact ⟨RdR.fail F2.out _, bw2.out⟩
        have F2 := hide (SF2.out (rd_no (by have := HC.out; simpa using this) (by simp only; omega) (by simp only; omega)))
        have e45 : ((c : Int) == 45) = false := by
          have : ¬ (c : Int) = 45 := by omega
          simpa using this
        have e46 : ((c : Int) == 46) = false := by
          have : ¬ (c : Int) = 46 := by omega
          simpa using this
        have e32 : ((c : Int) == 32) = false := by
          have : ¬ (c : Int) = 32 := by omega
          simpa using this
        by_cases c48 : 48 ≤ c
        · have b1 : (48 : Int) ≤ (c : Int) := by omega
          have b2 : ¬ (c : Int) ≤ 57 := by omega
          go_wp2_with fail
          go_ret2
          exact ⟨RdR.fail F2.out _, bw2.out⟩
        · have b1 : ¬ (48 : Int) ≤ (c : Int) := by omega
          go_wp2_with fail
          go_ret2
          exact ⟨RdR.fail F2.out _, bw2.out⟩
      · have hnx : ∀ ty, (Instr.next (.pointer (some ⟨w.heap.size, 0, none⟩)) true ty).run Tryd.prog wr = _ := fun ty => Lib.run_next_any_at wr w.heap.size S pos ty Hit.out hp
        have bw2 := hide (Lib.below_iterAt Bw.out (k := w.heap.size) (Nat.le_refl _) S (pos + (Utf8.decode S pos).2))
        obtain ⟨hd1, hd2⟩ := decode_high S pos hp (by omega)
        have F2 := hide (rdI_fail Inv.out hp rfl (rdS_high (by omega)))
        generalize Utf8.decode S pos = D at *
        obtain ⟨c, dl⟩ := D
        simp only at hd1 hd2 hnx bw2
        have e45 : ((c : Int) == 45) = false := by
          have : ¬ (c : Int) = 45 := by omega
          simpa using this
        have e46 : ((c : Int) == 46) = false := by
          have : ¬ (c : Int) = 46 := by omega
          simpa using this
        have e32 : ((c : Int) == 32) = false := by
          have : ¬ (c : Int) = 32 := by omega
          simpa using this
        have b1 : (48 : Int) ≤ (c : Int) := by omega
        have b2 : ¬ (c : Int) ≤ 57 := by omega
        go_wp2_with fail
        go_ret2
        exact ⟨RdR.fail F2.out _, bw2.out⟩
    · have hnx : ∀ ty, (Instr.next (.pointer (some ⟨w.heap.size, 0, none⟩)) true ty).run Tryd.prog wr = _ := fun ty => Lib.run_next_end_at wr w.heap.size S pos ty Hit.out hp
      have hE := rdI_end Inv.out hp
      have R := hide (show ∀ (v : Value), v = u2 → RdR S (.returned (.tuple #[v, .bool true])) wr by
        rintro v rfl
        unfold RdR
        rw [hE]
        obtain ⟨A, cc, e1, e2⟩ := own_crow Own.out Inv.out.ok.all (by have := Inv.out.ok.l; have := Inv.out.hp; have := HS.out; simp only at *; unfold maxLen; omega)
        exact ⟨A, cc, by rw [e1], e2⟩)
      clear hE
      go_wp2_with fail
      go_ret2
      exact ⟨R.out _ rfl, Bw.out⟩
theorem read_a (s : ByteArray) (w : World) (hs : s.size ≤ 10000000) :
    Calls Tryd.prog 28 #[.string s] w fun e w' => RdR (s ++ ⟨#[32]⟩) e w' ∧ Below w.heap.size w w' := read_x s _ w hs rfl
end Go.Proofs.YtnmaclpjddafnaaDoor
