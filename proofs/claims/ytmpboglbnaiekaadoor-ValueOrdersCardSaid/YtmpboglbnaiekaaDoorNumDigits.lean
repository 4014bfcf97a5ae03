/- What num.Digits answers. -/
import Derived.Test.YtmpboglbnaiekaaDoorRows
import Derived.Test.YtmpboglbnaiekaaDoorNumDigMath
import Derived.Test.YtmpboglbnaiekaaDoorNumMem
import Derived.WalkKit
import Derived.WalkSpells
import Derived.WalkLawsBesides
import Derived.Lib.Hide
import Derived.Laws.IdiomStrings
namespace Go.Proofs.YtmpboglbnaiekaaDoor.Num
open Go.RowKit
set_option linter.unusedVariables false

/-- The bytes of t stand from place p of the cells on. -/
def Tail (cs : Array Value) (p : Nat) (t : List UInt8) : Prop := cs.size = 20 ∧ t.length + p = 20 ∧ ∀ j (h : j < t.length), cs[p + j]? = some (.int .u8 (t[j].toNat : Int))

theorem Tail.put {cs : Array Value} {p : Nat} {t : List UInt8} {x : UInt8} {z : Int} (hx : (x.toNat : Int) = z) (h : Tail cs p t) (hp : 1 ≤ p) : Tail (cs.setIfInBounds (p - 1) (.int .u8 z)) (p - 1) (x :: t) := by
  subst hx
  obtain ⟨hs, hl, hc⟩ := h
  refine ⟨by simpa using hs, by simp; omega, fun j hj => ?_⟩
  cases j with
  | zero =>
    simp [show p - 1 < cs.size by omega]
  | succ j =>
    have hj' : j < t.length := by simpa using hj
    have := hc j hj'
    have e : p - 1 + (j + 1) = p + j := by omega
    rw [e, Array.getElem?_setIfInBounds_ne (by omega)]
    simpa using this
theorem Tail.push {cs : Array Value} {p m : Nat} {t : List UInt8} (h : Tail cs p t) (hp : 1 ≤ p) : Tail (cs.setIfInBounds (p - 1) (.int .u8 (48 + (m : Int) % 10))) (p - 1) (dc m :: t) :=
  h.put (dc_int m) hp
theorem arr_len : Tryd.prog.arrayLen 56 = 20 := by simp [Program.arrayLen, Tryd.underlying56]
theorem arr_elem : Tryd.prog.elem 56 = 5 := by simp [Program.elem, Tryd.underlying56]
theorem cells_byte : Tryd.prog.cellsOf 5 = 1 := by kernel_rfl
theorem slice_arr (W : World) (g q : Nat) (l : Int) (hl : l = q) (hq : q < 20) :
    (Instr.sliceAt 56 (.pointer (some ⟨g, 0, none⟩)) (some (.int .i64 l)) none none).run Tryd.prog W = .ok (.slice (some ⟨g, q, none⟩) (20 - q) (20 - q)) W := by
  subst hl
  rw [run_sliceAt_array_l W 56 ⟨g, 0, none⟩ (by rw [arr_len, arr_elem]; exact Tryd.underlying56) .i64 q (by omega) (by rw [arr_len]; omega), arr_len, arr_elem]
  have hs : (sizeOf 5).run Tryd.prog W = .ok 1 W := by kernel_rfl
  rw [hs]
  have h1 : ¬ 20 = ((q : Int)).toNat := by omega
  have h2 : ((q : Int)).toNat = q := by omega
  simp only [Result.andThen, slicedAt, h2] at h1 ⊢
  rw [if_neg h1]
  unfold Addr.add
  by_cases h0 : q = 0
  · subst h0; simp
  · simp [h0]
theorem text_of (W : World) (g q : Nat) (cs : Array Value) (t : List UInt8) (hb : ArrAt W g cs) (ht : Tail cs q t) :
    (convert 57 9 (.slice (some ⟨g, q, none⟩) (20 - q) (20 - q))).run Tryd.prog W = .ok (.string ⟨t.toArray⟩) W := by
  have e : 20 - q = t.length := by have := ht.2.1; omega
  rw [e]
  refine run_convert_bytes_back W 57 9 5 ⟨g, q, none⟩ _ t Tryd.underlying57 Tryd.underlying5 Tryd.underlying9 fun j hj => ?_
  have h := ht.2.2 j hj
  have e2 : (⟨g, q, none⟩ : Addr).add j = ⟨g, q + j, none⟩ := by unfold Addr.add; split <;> simp_all
  rw [e2, hb.at_cell]; exact h

set_option maxHeartbeats 400000 in
theorem digits_pos (n : Nat) (hn : n ≤ 9223372036854775807) (w : World) :
    Calls Tryd.prog 17 #[.int .i64 (n : Int)] w fun e w' => e = .returned (.string ⟨(dg n).toArray⟩) ∧ Below w.heap.size w w' := by
  have hl := dg_len19 (show n ≤ 9223372036854775808 by omega)
  go_enter Tryd.func17, Tryd.ntmps17
  go_wp2
  go_loopw [4, 5] (fun l i wr => ∃ (m p : Nat) (cs : Array Value) (t : List UInt8), l = .int .u64 (m : Int) ∧ i = .int .i64 (p : Int) ∧ ArrAt wr w.heap.size cs ∧ Tail cs p t ∧ dg m ++ t = dg n ∧ m ≤ n ∧ Below w.heap.size w wr) (fun _ i _ => (intOf i).toNat)
  case atStart =>
    exact ⟨n, 20, _, [], rfl, rfl, ArrAt.made _ _, ⟨rfl, rfl, fun j h => by simp at h⟩, by simp, Nat.le_refl _, (Below.refl _ _).alloc (Nat.le_refl _) _⟩
  case round =>
    obtain ⟨m, p, cs, t, rfl, rfl, hb, ⟨hs, ht, hc⟩, hd, hmn, hw⟩ := hrel
    have hm1 := dg_pos m
    have hlen := congrArg List.length hd
    rw [List.length_append] at hlen
    have hp : 2 ≤ p ∧ p ≤ 20 := by omega
    obtain ⟨v, hv⟩ : ∃ v, cs[p - 1]? = some v := ⟨cs[p - 1]'(by omega), Array.getElem?_eq_getElem (by omega)⟩
    have hcell := (hb.at_cell (p - 1)).trans hv
    have hfz := hb.open_ (p - 1)
    have HB := Lib.hid hb
    have HC := Lib.hid hc
    have HD := Lib.hid hd
    have HT := Lib.hid ht
    have HS := Lib.hid hs
    clear hb hc hd ht hs hv hlen
    have hsl : ∀ W : World, (Instr.sliceAt 56 (.pointer (some ⟨w.heap.size, 0, none⟩)) (some (.int .i64 ((p : Int) - 1))) none none).run Tryd.prog W = .ok (.slice (some ⟨w.heap.size, p - 1, none⟩) (20 - (p - 1)) (20 - (p - 1))) W :=
      fun W => slice_arr W _ (p - 1) _ (by omega) (by omega)
    have hB1 := HB.out.put (p - 1) (.int .u8 (48 + (m : Int) % 10))
    have hT1 := Tail.push (m := m) ⟨HS.out, HT.out, HC.out⟩ (by omega)
    by_cases h10 : m < 10
    · have hq : ((m : Int) / 10 == 0) = true := by simp; omega
      have htx := text_of _ _ _ _ _ hB1 hT1
      clear hB1 hT1
      go_wp2
      go_ret
      exact ⟨ret_str (by rw [← HD.out, dg_small h10]; rfl), hw.setCell (Nat.le_refl _) _⟩
    · have hq : ((m : Int) / 10 == 0) = false := by simp; omega
      have HB1 := Lib.hid hB1
      have HT1 := Lib.hid hT1
      clear hB1 hT1 hsl
      go_wp2
      go_roundw
      case rel =>
        refine ⟨m / 10, p - 1, _, _, by go_num, by go_num, HB1.out, HT1.out, ?_, by omega, ?_⟩
        · rw [← HD.out, dg_step h10]; simp
        · exact hw.setCell (Nat.le_refl _) _
      case measure => simp [intOf]; omega
set_option maxHeartbeats 400000 in
theorem digits_neg (n : Nat) (h0 : 1 ≤ n) (hn : n ≤ 9223372036854775808) (w : World) :
    Calls Tryd.prog 17 #[.int .i64 (-(n : Int))] w fun e w' => e = .returned (.string ⟨(45 :: dg n).toArray⟩) ∧ Below w.heap.size w w' := by
  have hl := dg_len19 (show n ≤ 9223372036854775808 by omega)
  go_enter Tryd.func17, Tryd.ntmps17
  go_wp2
  go_loopw [4, 5] (fun l i wr => ∃ (m p : Nat) (cs : Array Value) (t : List UInt8), l = .int .u64 (m : Int) ∧ i = .int .i64 (p : Int) ∧ ArrAt wr w.heap.size cs ∧ Tail cs p t ∧ dg m ++ t = dg n ∧ m ≤ n ∧ Below w.heap.size w wr) (fun _ i _ => (intOf i).toNat)
  case atStart =>
    exact ⟨n, 20, _, [], val_u64 (wrap_neg2 hn), rfl, ArrAt.made _ _, ⟨rfl, rfl, fun j h => by simp at h⟩, by simp, Nat.le_refl _, (Below.refl _ _).alloc (Nat.le_refl _) _⟩
  case round =>
    obtain ⟨m, p, cs, t, rfl, rfl, hb, ⟨hs, ht, hc⟩, hd, hmn, hw⟩ := hrel
    have hm1 := dg_pos m
    have hlen := congrArg List.length hd
    rw [List.length_append] at hlen
    have hp : 2 ≤ p ∧ p ≤ 20 := by omega
    obtain ⟨v, hv⟩ : ∃ v, cs[p - 1]? = some v := ⟨cs[p - 1]'(by omega), Array.getElem?_eq_getElem (by omega)⟩
    have hcell := (hb.at_cell (p - 1)).trans hv
    have hfz := hb.open_ (p - 1)
    have HB := Lib.hid hb
    have HC := Lib.hid hc
    have HD := Lib.hid hd
    have HT := Lib.hid ht
    have HS := Lib.hid hs
    clear hb hc hd ht hs hv hlen
    have hsl : ∀ W : World, (Instr.sliceAt 56 (.pointer (some ⟨w.heap.size, 0, none⟩)) (some (.int .i64 ((p : Int) - 1 - 1))) none none).run Tryd.prog W = .ok (.slice (some ⟨w.heap.size, p - 1 - 1, none⟩) (20 - (p - 1 - 1)) (20 - (p - 1 - 1))) W :=
      fun W => slice_arr W _ (p - 1 - 1) _ (by omega) (by omega)
    have hB1 := HB.out.put (p - 1) (.int .u8 (48 + (m : Int) % 10))
    have hT1 := Tail.push (m := m) ⟨HS.out, HT.out, HC.out⟩ (by omega)
    by_cases h10 : m < 10
    · have hq : ((m : Int) / 10 == 0) = true := by simp; omega
      have hp2 : 1 ≤ p - 1 := by omega
      obtain ⟨v2, hv2⟩ : ∃ v, cs[p - 1 - 1]? = some v := ⟨cs[p - 1 - 1]'(by have := HS.out; omega), Array.getElem?_eq_getElem (by have := HS.out; omega)⟩
      have hcell2 := (HB.out.at_cell (p - 1 - 1)).trans hv2
      have hfz2 := HB.out.open_ (p - 1 - 1)
      have htx := text_of _ _ _ _ _ (hB1.put (p - 1 - 1) (.int .u8 45)) (hT1.put (x := 45) (z := 45) rfl hp2)
      clear hB1 hT1 hv2
      go_wp2
      go_ret
      exact ⟨ret_str (by rw [← HD.out, dg_small h10]; rfl), (hw.setCell (Nat.le_refl _) _).setCell (Nat.le_refl _) _⟩
    · have hq : ((m : Int) / 10 == 0) = false := by simp; omega
      have HB1 := Lib.hid hB1
      have HT1 := Lib.hid hT1
      clear hB1 hT1 hsl
      go_wp2
      go_roundw
      case rel =>
        refine ⟨m / 10, p - 1, _, _, by go_num, by go_num, HB1.out, HT1.out, ?_, by omega, ?_⟩
        · rw [← HD.out, dg_step h10]; simp
        · exact hw.setCell (Nat.le_refl _) _
      case measure => simp [intOf]; omega

theorem digits_any (a : Int) (ha : -9223372036854775808 ≤ a) (ha' : a ≤ 9223372036854775807) (w : World) :
    Calls Tryd.prog 17 #[.int .i64 a] w fun e w' => e = .returned (.string ⟨(dgz a).toArray⟩) ∧ Below w.heap.size w w' := by
  by_cases h : a < 0
  · have e : a = -((a.natAbs : Nat) : Int) := by omega
    have k : dgz a = 45 :: dg a.natAbs := by unfold dgz; rw [if_pos h]
    rw [k]
    have := digits_neg a.natAbs (by omega) (by omega) w
    rw [← e] at this; exact this
  · have e : a = ((a.natAbs : Nat) : Int) := by omega
    have k : dgz a = dg a.natAbs := by unfold dgz; rw [if_neg h]
    rw [k]
    have := digits_pos a.natAbs (by omega) w
    rw [← e] at this; exact this
end Go.Proofs.YtmpboglbnaiekaaDoor.Num
