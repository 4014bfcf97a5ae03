/- A page's numbers: read and written; where a slot's mark is; a spot's size; the iterator's making. -/
import Derived.Test.YthcilmlaoddckaaRightWords
import Derived.Test.YthcilmlaoddckaaMemParts
import Derived.Test.YthcilmlaoddckaaPageMath
import Derived.IntWalk
import Derived.Lib.VarintBits
import Derived.Deep.QuietTactic
import Derived.BigQuiet
namespace Go.Proofs.Ythcilmlaoddckaa.Pg
open Go.RowKit Go.Proofs.Ythcilmlaoddckaa.Mem Go.Proofs.Ythcilmlaoddckaa.Right
set_option linter.unusedVariables false

theorem or_i64 (a b : Nat) (ha : a < 9223372036854775808) (hb : b < 9223372036854775808) : bits .or .i64 (a : Int) (b : Int) = ((a ||| b : Nat) : Int) := by
  have hx : a ||| b < 2 ^ 63 := Nat.or_lt_two_pow (by omega) (by omega)
  have h1 : (BitVec.ofInt 64 (a : Int)).toNat = a := by rw [BitVec.ofInt_natCast, BitVec.toNat_ofNat]; exact Nat.mod_eq_of_lt (by omega)
  have h2 : (BitVec.ofInt 64 (b : Int)).toNat = b := by rw [BitVec.ofInt_natCast, BitVec.toNat_ofNat]; exact Nat.mod_eq_of_lt (by omega)
  show IntKind.i64.wrap ((BitVec.ofInt 64 (a : Int) ||| BitVec.ofInt 64 (b : Int)).toNat : Int) = _
  rw [BitVec.toNat_or, h1, h2, IntKind.wrap_i64]
  omega
theorem or_two (a b : Nat) (ha : a < 256) (hb : b < 256) : bits .or .i64 ((a : Int) * 256) (b : Int) = ((a * 256 + b : Nat) : Int) := by
  have e : (a : Int) * 256 = ((2 ^ 8 * a : Nat) : Int) := by omega
  rw [e, or_i64 _ _ (by omega) (by omega), Nat.or_comm, Nat.or_comm b, ← Nat.two_pow_add_eq_or_of_lt (by omega)]
  omega
set_option maxHeartbeats 400000 in
theorem number_any (A : Option Addr) (n c k : Nat) (z : Int) (hz : z = k) (l : List UInt8) (x y : UInt8) (hx : l[k]? = some x) (hy : l[k + 1]? = some y) (w : World) (h : Bs w A n c l) :
    Calls Try.prog 72 #[.slice A n c, .int .i64 z] w fun e w' => e = .returned (.int .i64 ((x.toNat * 256 + y.toNat : Nat) : Int)) ∧ ∃ q, w' = w.drewN q := by
  subst hz
  obtain ⟨h1, h2, h3, h4⟩ := h
  obtain ⟨hk, _⟩ := List.getElem?_eq_some_iff.1 hy
  obtain ⟨b, o, c1, rfl, hb, e1, hc1⟩ := h1.byte (k := k) (by omega)
  obtain ⟨b', o', c2, e3, hb', e2, hc2⟩ := h1.byte (k := k + 1) (by omega)
  injection e3 with e3
  injection e3 with e3 e4
  subst e3 e4
  rw [hx] at e1; injection e1 with e1; subst e1
  rw [hy] at e2; injection e2 with e2; subst e2
  have HX := Lib.hid (or_two x.toNat y.toNat (UInt8.toNat_lt x) (UInt8.toNat_lt y))
  have hkn : (k : Int) < n := by omega
  have hkn1 : (k : Int) + 1 < n := by omega
  have hk64 : (k : Int) + 1 ≤ 9223372036854775807 := by omega
  have ux := UInt8.toNat_lt x
  have uy := UInt8.toNat_lt y
  clear hx hy h1 h2
  go_enter Try.func72, Try.ntmps72
  go_wp2
  go_quiet (fail)
  go_wp2
  go_ret
  exact ⟨ri HX.out, _, rfl⟩
/-- Block g holds these bytes, and others behind them. -/
def Blk (w : World) (g : Nat) (L : List UInt8) (ex : List Value) : Prop := w.heap[g]? = some (.cells (bys L ++ ex).toArray 5 (0, 0))
theorem Blk.at_cell {w : World} {g : Nat} {L : List UInt8} {ex : List Value} (h : Blk w g L ex) {k : Nat} {c : UInt8} (hk : L[k]? = some c) : w.cell? ⟨g, k, none⟩ = some (.int .u8 (c.toNat : Int)) := by
  have h' : w.heap[g]? = some (.cells (bys L ++ ex).toArray 5 (0, 0)) := h
  obtain ⟨hl, _⟩ := List.getElem?_eq_some_iff.1 hk
  rw [cell_of_row w g k _ _ _ h', List.getElem?_toArray, List.getElem?_append_left (by rw [bys_len]; exact hl)]
  simp [bys, hk]
theorem Blk.open_ {w : World} {g : Nat} {L : List UInt8} {ex : List Value} (h : Blk w g L ex) (k : Nat) : w.frozen? ⟨g, k, none⟩ = false := by
  have h' : w.heap[g]? = some (.cells (bys L ++ ex).toArray 5 (0, 0)) := h
  simp only [World.frozen?, h']
  simp
theorem Blk.set {w : World} {g : Nat} {L : List UInt8} {ex : List Value} (h : Blk w g L ex) {k : Nat} (hk : k < L.length) (c : UInt8) {z : Int} (hz : z = (c.toNat : Int)) : Blk (w.setCell ⟨g, k, none⟩ (.int .u8 z)) g (L.set k c) ex := by
  subst hz
  have h' : w.heap[g]? = some (.cells (bys L ++ ex).toArray 5 (0, 0)) := h
  show (w.heap.modify g _)[g]? = _
  rw [Array.getElem?_modify, h']
  simp only [if_true, Option.map_some]
  congr 2
  rw [List.setIfInBounds_toArray, List.set_append_left _ _ (by rw [bys_len]; exact hk)]
  simp [bys, List.map_set]
set_option maxHeartbeats 400000 in
theorem putNumber_any (g n c k v : Nat) (z u : Int) (hz : z = k) (hu : u = v) (L : List UInt8) (ex : List Value) (hk : k + 1 < n) (hn : n ≤ L.length) (hn64 : n ≤ 9223372036854775807) (hv : v < 65536) (w : World) (h : Blk w g L ex) :
    Calls Try.prog 69 #[.slice (some ⟨g, 0, none⟩) n c, .int .i64 z, .int .i64 u] w fun e w' => e = .returned (.tuple #[]) ∧ Blk w' g (put2 L k v) ex ∧ w.grownBy w' (some g) := by
  subst hz hu
  have H := Lib.hid h
  have c1 := h.at_cell (k := k) (List.getElem?_eq_getElem (by omega))
  have c2 := h.at_cell (k := k + 1) (List.getElem?_eq_getElem (by omega))
  have f1 := h.open_ k
  have f2 := h.open_ (k + 1)
  have hkn : (k : Int) < n := by omega
  have hkn1 : (k : Int) + 1 < n := by omega
  have hk64 : (k : Int) + 1 ≤ 9223372036854775807 := by omega
  clear h
  go_enter Try.func69, Try.ntmps69
  go_wp2
  go_end0
  refine ⟨rfl, ?_, grown_trans (grown_set _) (grown_set _)⟩
  have e1 : (v : Int) / 256 = ((hi v).toNat : Int) := by unfold hi; rw [UInt8.toNat_ofNat']; omega
  have e2 : (v : Int) % 256 = ((lo v).toNat : Int) := by unfold lo; rw [UInt8.toNat_ofNat']; omega
  exact (H.out.set (k := k) (by omega) (hi v) e1).set (k := k + 1) (by rw [List.length_set]; omega) (lo v) e2
theorem size_any (f : Bool) (a b : Nat) (hab : a ≤ b) (hb : b ≤ 512) (w : World) :
    Calls Try.prog 51 #[.agg #[.bool f, .int .i64 a, .int .i64 b]] w fun e w' => e = .returned (.int .i64 ((b - a : Nat) : Int)) ∧ Below w.heap.size w w' := by
  go_enter Try.func51, Try.ntmps51
  go_wp2
  go_ret
  exact ⟨ri (by omega), al (Below.refl _ _) _⟩
theorem markAt_any (k : Nat) (hk : k ≤ 1000) (w : World) : Calls Try.prog 70 #[.int .i64 k] w fun e w' => e = .returned (.int .i64 ((2 * (k + 1) : Nat) : Int)) ∧ w' = w := by
  go_enter Try.func70, Try.ntmps70
  go_wp2
  go_ret
  exact ⟨ri (by omega), rfl⟩
theorem spots_any (A : Option Addr) (n c : Nat) (w : World) : Calls Try.prog 62 #[.slice A n c] w fun e w' => e = .returned (.func (.func 71) #[] #[.pointer (some ⟨w.heap.size, 0, none⟩)]) ∧ w' = w.alloc (.cells #[.slice A n c] 32) := by
  go_enter Try.func62, Try.ntmps62
  go_wp2
  go_ret
  exact ⟨rfl, rfl⟩
end Go.Proofs.Ythcilmlaoddckaa.Pg
