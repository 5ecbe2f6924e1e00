/- A text that came in as bytes: what is read of it, what both scans tell of it. -/
import Derived.Test.YtekdchhengcfoaaDoorRows
import Derived.Test.YtekdchhengcfoaaDoorScanT
namespace Go.Proofs.YtekdchhengcfoaaDoor
open Go.RowKit
set_option linter.unusedVariables false
set_option linter.unusedSimpArgs false
/-- A slice of bytes that reads as a text. -/
def TextAt (w : World) (a : Option Addr) (s : ByteArray) : Prop := (a = none ∧ s.size = 0) ∨ ∃ x, a = some x ∧ Lies w x s
theorem TextAt.below {w w' : World} {a : Option Addr} {s : ByteArray} (h : TextAt w a s) (hb : Below w.heap.size w w') : TextAt w' a s :=
  h.imp id fun ⟨x, e, hx⟩ => ⟨x, e, hx.below hb⟩
theorem TextAt.conv {w : World} {a : Option Addr} {s : ByteArray} (h : TextAt w a s) (cap : Nat) : (convert 22 9 (.slice a s.size cap)).run Tryd.prog w = .ok (.string s) w := by
  rcases h with ⟨rfl, h0⟩ | ⟨x, rfl, hx⟩
  · have e : s = ByteArray.empty := by
      apply ByteArray.ext
      exact Array.eq_empty_of_size_eq_zero h0
    rw [e]
    exact run_convert_bytes_nil w _ 5 Tryd.underlying22 Tryd.underlying5 0 _ _ Tryd.underlying9
  · refine conv_at w s x cap fun j hj => ?_
    have h1 : j < s.size := hj
    exact hx j h1
def bytesOf (s : ByteArray) : List Value := s.data.toList.map fun b => .int .u8 (b.toNat : Int)
theorem bytes_at (s : ByteArray) (j : Nat) : (bytesOf s)[j]? = if h : j < s.size then some (.int .u8 ((s[j]).toNat : Int)) else none := by
  unfold bytesOf
  rw [List.getElem?_map]
  split
  · rename_i h
    have h1 : j < s.data.toList.length := h
    rw [List.getElem?_eq_getElem h1]
    rfl
  · rename_i h
    have h1 : s.data.toList.length ≤ j := Nat.le_of_not_lt h
    rw [List.getElem?_eq_none h1]
    rfl
theorem bytesOf_len (s : ByteArray) : (bytesOf s).length = s.size := by unfold bytesOf; rw [List.length_map]; rfl
theorem bytesOf_one (s : ByteArray) : ∀ u ∈ bytesOf s, u.oneCell' = true := by
  intro u hu
  obtain ⟨b, _, rfl⟩ := List.mem_map.1 hu
  rfl
theorem TextAt.reads {w : World} {a : Option Addr} {s : ByteArray} (h : TextAt w a s) : Reads w w.heap.size 1 a s.size (bytesOf s) := by
  refine ⟨by rw [bytesOf_len, Nat.mul_one], fun h0 => ?_⟩
  rcases h with ⟨_, h1⟩ | ⟨x, rfl, hx⟩
  · omega
  · refine ⟨x, rfl, by have := block_lt_of_cell (hx 0 h0); rwa [block_of_add] at this, fun j u hj => ?_⟩
    rw [bytes_at] at hj
    split at hj
    · rename_i h1
      cases hj
      exact hx j h1
    · cases hj
theorem TextAt.own {w : World} {B n : Nat} {e : TypeId} {v : Value} {s : ByteArray} (h : w.ownsRow B e 1 v n (bytesOf s)) : ∃ A cap, v = .slice A s.size cap ∧ TextAt w A s := by
  have hn : n = s.size := by
    have := h.1
    rw [bytesOf_len] at this
    omega
  subst hn
  rcases Nat.eq_zero_or_pos s.size with h0 | h0
  · rcases h.2 with ⟨hv, _⟩ | ⟨g, cap, cur, hv, _⟩
    · exact ⟨none, 0, by rw [hv, h0], .inl ⟨rfl, h0⟩⟩
    · exact ⟨_, _, hv, .inr ⟨_, rfl, fun j hj => absurd hj (by omega)⟩⟩
  · obtain ⟨g, cap, hv, h1, _, h3, h4⟩ := own_slice h h0
    refine ⟨_, _, hv, .inr ⟨_, rfl, fun j hj => ?_⟩⟩
    rw [add_plain, Nat.zero_add]
    exact h4 j _ (by rw [bytes_at, dif_pos hj])
theorem text_arg {W : World} {a : Option Addr} {len cap : Nat} {z : List Int} (h : IsRow .u8 W a len cap z) : ∃ s : ByteArray, s.size = len ∧ TextAt W a s ∧ s.size ≤ cap ∧ cap ≤ maxLen := by
  rcases h with ⟨rfl, rfl, rfl, rfl⟩ | ⟨x, rfl, h1, h2, h3, h4, h5⟩
  · exact ⟨ByteArray.empty, rfl, .inl ⟨rfl, rfl⟩, Nat.zero_le _, Nat.zero_le _⟩
  · let s : ByteArray := ⟨((z.take len).map fun n => UInt8.ofNat n.toNat).toArray⟩
    have hl : s.data.toList = (z.take len).map fun n => UInt8.ofNat n.toNat := rfl
    have hsz : s.size = len := by
      have e : s.size = s.data.toList.length := rfl
      rw [e, hl, List.length_map, List.length_take]; omega
    refine ⟨s, hsz, .inr ⟨x, rfl, fun j hj => ?_⟩, by omega, h2⟩
    have hc := h4 j (by omega)
    have hjz : j < z.length := by omega
    have hj' : j < s.data.toList.length := hj
    have e1 : s[j] = UInt8.ofNat (z[j]).toNat := by
      have : s[j] = ((z.take len).map fun n => UInt8.ofNat n.toNat)[j]'(by rw [← hl]; exact hj') := rfl
      rw [this, List.getElem_map, List.getElem_take]
    have hw := h5 (z[j]) (List.getElem_mem hjz)
    simp [Lit.wf] at hw
    have hmn : IntKind.u8.min = 0 := rfl
    have hmx : IntKind.u8.max = 255 := rfl
    rw [hc, e1, List.getD_eq_getElem?_getD, List.getElem?_eq_getElem hjz]
    simp only [Option.getD_some]
    congr 2
    rw [UInt8.toNat_ofNat']
    omega
/-- The reference's scan of any text. -/
theorem scan_b_any (a : Option Addr) (cap : Nat) (s : ByteArray) (w : World) (hcap : s.size ≤ cap) (hcap2 : cap ≤ maxLen) (hx : TextAt w a s) :
    Calls Tryd.prog 9 #[.slice a s.size cap] w fun e w' => ScanR s w.heap.size e w' ∧ Below w.heap.size w w' := by
  rcases hx with ⟨rfl, h0⟩ | ⟨x, rfl, hx⟩
  · exact scan_b_nil _ _ _ _ h0
  · by_cases hl : 20000 < s.size
    · exact scan_b_long _ _ _ _ hl
    · exact scan_b x cap s w (by omega) hcap hcap2 hx
theorem scanR_blk {s : ByteArray} {B n c g : Nat} {a b ev : Int} {w' : World} (h : ScanR s B (.returned (.tuple #[.slice (some ⟨g, 0, none⟩) n c, .int .i64 a, .int .i64 b, .int .i64 ev])) w') : ∃ cur, Blk w' g 31 cur ∧ n * 5 ≤ cur.size := by
  unfold ScanR at h
  split at h
  · simp at h
  · obtain ⟨l, er, _, _, h2⟩ := h
    rcases er with _ | ⟨x, y⟩
    · obtain ⟨v, hv, hown⟩ := h2
      simp at hv
      obtain ⟨rfl, _⟩ := hv
      rcases hown.2 with ⟨hv, _⟩ | ⟨g', cap, cur, hv, _, hh, _, hcur, hsz, ht⟩
      · simp at hv
      · simp at hv
        obtain ⟨rfl, rfl, rfl⟩ := hv
        exact ⟨cur, hh, by
          have h1 := hown.1
          have h2 := congrArg List.length ht
          rw [List.length_take, Array.length_toList] at h2
          omega⟩
    · simp at h2
end Go.Proofs.YtekdchhengcfoaaDoor
