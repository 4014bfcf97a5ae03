/- Is one of the values wrong? -/
import Derived.Test.YtkpieiolplkifaaRowMem
import Derived.Outline
namespace Go.Proofs.Ytkpieiolplkifaa.Rw
open Go.RowKit Go.Proofs.Ytkpieiolplkifaa.Mem Go.Proofs.Ytkpieiolplkifaa.Right
set_option linter.unusedVariables false

set_option maxHeartbeats 1000000 in
theorem wrong_any (v : Vl) (b : Bool) (hb : v.ok = b) (w : World) (hs : v.s.size ≤ maxLen) :
    Calls Try.prog 25 #[.agg #[.int .i64 v.k, .int .i64 v.n, .string v.s]] w fun e w' => e = .returned (.bool (!b)) ∧ Below w.heap.size w w' := by
  have HB := Lib.hid (show okV v.k v.n v.s.data.toList = b from hb)
  clear hb
  go_enter Try.func25, Try.ntmps25
  go_wp2_with (go_at_call 37; (with_reducible refine (right_any v.k v.n v.s _ hs).mono ?_); rintro e w1 ⟨rfl, hb1⟩; rw [HB.out]; have HB1 := Lib.hid (on (al (Below.refl w.heap.size w) _) hb1); clear hb1)
  go_ret
  exact ⟨rfl, HB1.out⟩
/-- The place of the first wrong value from place k on; -1, if there is none. -/
def firstW : Nat → List Vl → Int
  | _, [] => -1
  | k, v :: r => if v.ok = true then firstW (k + 1) r else k
theorem firstW_all : ∀ (vs : List Vl) (k : Nat), decide (0 ≤ firstW k vs) = !vs.all Vl.ok
  | [], k => rfl
  | v :: r, k => by
    rw [firstW]
    by_cases h : v.ok = true
    · rw [if_pos h, firstW_all r (k + 1), List.all_cons, h, Bool.true_and]
    · rw [if_neg h, List.all_cons, Bool.eq_false_iff.2 h, Bool.false_and, decide_eq_true (by omega)]; rfl
theorem drop_at {α : Type} {l : List α} {k : Nat} {x : α} (h : l[k]? = some x) : l.drop k = x :: l.drop (k + 1) := by
  obtain ⟨hk, e⟩ := List.getElem?_eq_some_iff.1 h
  rw [List.drop_eq_getElem_cons hk, e]
set_option maxHeartbeats 1000000 in
theorem index_any (A : Option Addr) (n c : Nat) (vs : List Vl) (w : World) (hn : vs.length = n) (hN : n ≤ 9223372036854775807) (hz : ∀ v ∈ vs, v.s.size ≤ maxLen) (h : Vals w w.heap.size A vs) :
    Calls Try.prog 36 #[.slice A n c, .func (.func 25) #[] #[]] w fun e w' => e = .returned (.int .i64 (firstW 0 vs)) ∧ Below w.heap.size w w' := by
  have H := Lib.hid h
  have HZ := Lib.hid hz
  have HN := Lib.hid hn
  clear h hz hn
  go_enter Try.func36, Try.ntmps36
  go_wp2
  go_loopw [8] (fun i wr => ∃ k : Nat, k ≤ n ∧ i = .int .i64 k ∧ Hid (firstW 0 vs = firstW k (vs.drop k)) ∧ Hid (Below w.heap.size w wr)) (fun i _ => n - (intOf i).toNat)
  case atStart => exact ⟨0, Nat.zero_le _, rfl, Lib.hid rfl, Lib.hid (Below.refl _ _)⟩
  case round =>
    obtain ⟨k, hk, rfl, HF, HB⟩ := hrel
    by_cases hlt : k < n
    · obtain ⟨b, o, v, rfl, hb, hv, v0, v1, v2⟩ := (H.out.below HB.out (Nat.le_refl _)).at_ (k := k) (by have := HN.out; omega)
      have HS := Lib.hid (HZ.out v (List.mem_of_getElem? hv))
      have HD := Lib.hid (drop_at hv)
      have hlt' : (k : Int) < (n : Int) := by omega
      clear hv
      by_cases hok : v.ok = true
      · have HO := Lib.hid hok
        have HE := Lib.hid (show firstW 0 vs = firstW (k + 1) (vs.drop (k + 1)) by rw [HF.out, HD.out, firstW, if_pos hok])
        clear hok
        go_wp2_with (go_at_call 25; (with_reducible refine (wrong_any v true HO.out _ HS.out).mono ?_); rintro e w1 ⟨rfl, hb1⟩; have HB1 := Lib.hid (on HB.out hb1); clear hb1)
        go_roundw
        case rel => exact ⟨k + 1, by omega, by go_num, HE, HB1⟩
        case measure => simp [intOf]; omega
      · have HO := Lib.hid (show v.ok = false by simpa using hok)
        have HE := Lib.hid (show firstW 0 vs = (k : Int) by rw [HF.out, HD.out, firstW, if_neg hok])
        clear hok
        go_wp2_with (go_at_call 25; (with_reducible refine (wrong_any v false HO.out _ HS.out).mono ?_); rintro e w1 ⟨rfl, hb1⟩; have HB1 := Lib.hid (on HB.out hb1); clear hb1)
        go_ret
        exact ⟨ri HE.out.symm, HB1.out⟩
    · have HE := Lib.hid (show firstW 0 vs = -1 by rw [HF.out, List.drop_eq_nil_of_le (by have := HN.out; omega)]; rfl)
      go_wp2
      go_ret
      exact ⟨ri HE.out.symm, HB.out⟩
theorem contains_any (A : Option Addr) (n c : Nat) (vs : List Vl) (b : Bool) (hb : vs.all Vl.ok = b) (w : World) (hn : vs.length = n) (hN : n ≤ 9223372036854775807) (hz : ∀ v ∈ vs, v.s.size ≤ maxLen) (h : Vals w w.heap.size A vs) :
    Calls Try.prog 24 #[.slice A n c, .func (.func 25) #[] #[]] w fun e w' => e = .returned (.bool (!b)) ∧ Below w.heap.size w w' := by
  have hf := firstW_all vs 0
  rw [hb] at hf
  obtain ⟨i, hi⟩ : ∃ i, firstW 0 vs = i := ⟨_, rfl⟩
  rw [hi] at hf
  have HI := Lib.hid hi
  clear hi
  go_enter Try.func24, Try.ntmps24
  go_wp2_with (go_at_call 36; (with_reducible refine (index_any A n c vs _ hn hN hz h).mono ?_); rintro e w1 ⟨rfl, hb1⟩; rw [HI.out]; have HB1 := Lib.hid hb1; clear hb1)
  go_ret
  exact ⟨rfl, HB1.out⟩
end Go.Proofs.Ytkpieiolplkifaa.Rw
