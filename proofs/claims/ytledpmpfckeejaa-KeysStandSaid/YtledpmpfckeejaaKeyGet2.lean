/- What keys.getBool and keys.getText answer. -/
import Derived.Test.YtledpmpfckeejaaKeyGet1
import Derived.Laws.IdiomStrings
namespace Go.Proofs.Ytledpmpfckeejaa.Key
open Go.RowKit Go.Proofs.Ytledpmpfckeejaa.Mem Go.Proofs.Ytledpmpfckeejaa.Right
set_option linter.unusedVariables false

theorem zero_cell (w : World) {b o : Nat} {x : Value} (hb : b < w.heap.size) (h : w.cell? ⟨b, o, none⟩ = some x) : (w.alloc (.cells #[.int .i64 0, .int .i64 0, .string ⟨#[]⟩] 37)).cell? ⟨b, o, none⟩ = some x :=
  ((al (Below.refl w.heap.size w) _).cell (p := ⟨b, o, none⟩) hb).trans h

set_option maxHeartbeats 1000000 in
theorem getB_any (A : Option Addr) (n c : Nat) (l : List UInt8) (w : World) (B : Nat) (hB : B ≤ w.heap.size) (hn : n ≤ l.length) (hn' : l.length ≤ n) (hc : n ≤ c) (hC : c ≤ 9223372036854775807) (h : Row w B A (bys l)) :
    Calls Try.prog 28 #[.slice A n c] w (GotPost w B (getB l)) := by
  have H := Lib.hid h
  clear h
  by_cases h0 : n = 0
  · subst h0
    have HV := Lib.hid (show getB l = bad 13 by
      have : l = [] := List.eq_nil_of_length_eq_zero (by omega)
      subst this; rfl)
    go_enter Try.func28, Try.ntmps28
    go_wp2
    (try simp only [Exit.inBlock, Exit.then])
    refine bodyPost_ret (v := .tuple #[.agg #[.int .i64 0, .int .i64 0, .string ⟨#[]⟩], .slice none 0 0, .int .i64 13]) ?_ rfl ?_
    · rw [results_cell_tmp2 rfl]
      go_simp
    rw [HV.out]
    exact GotPost.bad_ (al (Below.refl _ _) _)
  · have t0 : ((n : Int) == 0) = false := beq_no (by omega)
    obtain ⟨b, o, d, rfl, hb, hd, hcell0⟩ := H.out.byte (k := 0) (by omega)
    have hcell := zero_cell w (Nat.lt_of_lt_of_le hb hB) hcell0
    rw [Nat.add_zero] at hcell
    have hn0 : (0 : Int) < (n : Int) := by omega
    have HL := Lib.hid (show l = d :: l.drop 1 by
      obtain ⟨hk', e⟩ := List.getElem?_eq_some_iff.1 hd
      have := List.drop_eq_getElem_cons hk'
      rw [List.drop_zero, e] at this
      exact this)
    clear hd hcell0
    by_cases h1 : 1 < d.toNat
    · have HV := Lib.hid (show getB l = bad 12 by rw [HL.out]; unfold getB; simp only; rw [if_pos h1])
      have h1' : (1 : Int) < (d.toNat : Int) := by omega
      have t1 : decide ((1 : Int) < (d.toNat : Int)) = true := decide_eq_true h1'
      go_enter Try.func28, Try.ntmps28
      go_wp2
      (try simp only [Exit.inBlock, Exit.then])
      refine bodyPost_ret (v := .tuple #[.agg #[.int .i64 0, .int .i64 0, .string ⟨#[]⟩], .slice none 0 0, .int .i64 12]) ?_ rfl ?_
      · rw [results_cell_tmp2 rfl]
        go_simp
      rw [HV.out]
      exact GotPost.bad_ (al (Below.refl _ _) _)
    · have HV := Lib.hid (show getB l = ⟨2, d.toNat, [], l.drop 1, 0⟩ by conv => lhs; rw [HL.out]
                                                                         unfold getB; simp only; rw [if_neg h1])
      have h1' : ¬ (1 : Int) < (d.toNat : Int) := by omega
      have t1 : decide ((1 : Int) < (d.toNat : Int)) = false := decide_eq_false h1'
      obtain ⟨o', ho', hsl⟩ := slice_from b o n c 1 1 rfl (by omega) hc
      have HO := Lib.hid ho'
      clear ho'
      go_enter Try.func28, Try.ntmps28
      go_wp2
      go_region
      go_wp2
      (try simp only [Exit.inBlock, Exit.then])
      refine bodyPost_ret (v := .tuple #[.agg #[.int .i64 2, .int .i64 d.toNat, .string ⟨#[]⟩], .slice (some ⟨b, o', none⟩) (n - 1) (c - 1), .int .i64 0]) ?_ rfl ?_
      · rw [results_cell_tmp2 rfl]
        go_simp
      exact GotPost.good HV.out (drop_len hn hn') (al (Below.refl _ _) _).drew (row_from H.out hn' hc HO.out) (by omega) (by omega)
end Go.Proofs.Ytledpmpfckeejaa.Key
