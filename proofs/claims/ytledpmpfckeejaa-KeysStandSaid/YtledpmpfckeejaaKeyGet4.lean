/- What keys.get answers: the value that a mark and bytes begin with, and the bytes behind it. -/
import Derived.Test.YtledpmpfckeejaaKeyGet3
namespace Go.Proofs.Ytledpmpfckeejaa.Key
open Go.RowKit Go.Proofs.Ytledpmpfckeejaa.Mem Go.Proofs.Ytledpmpfckeejaa.Right
set_option linter.unusedVariables false

/-- The cells of the result, behind calls. -/
theorem made_cells {w w' : World} {a b c : Value} {t : TypeId} (h : Below (w.alloc (.cells #[a, b, c] t)).heap.size (w.alloc (.cells #[a, b, c] t)) w') :
    (w'.cell? ⟨w.heap.size, 0, none⟩ = some a ∧ w'.cell? ⟨w.heap.size, 1, none⟩ = some b ∧ w'.cell? ⟨w.heap.size, 2, none⟩ = some c) ∧
    w'.frozen? ⟨w.heap.size, 0, none⟩ = false ∧ w'.frozen? ⟨w.heap.size, 1, none⟩ = false ∧ w'.frozen? ⟨w.heap.size, 2, none⟩ = false := by
  have h0 : w.heap.size < (w.alloc (.cells #[a, b, c] t)).heap.size := by simp
  have hh := (h.block _ h0).trans (heap_alloc_new w (.cells #[a, b, c] t))
  refine ⟨⟨?_, ?_, ?_⟩, ?_, ?_, ?_⟩ <;> simp [World.cell?, World.frozen?, hh]
theorem row_back {w : World} {B : Nat} {A : Option Addr} {us : List Value} {o : Obj} (h : Row (w.alloc o) B A us) (hB : B ≤ w.heap.size) : Row w B A us :=
  h.to fun p hp => ((al (Below.refl w.heap.size w) o).cell (Nat.lt_of_lt_of_le hp hB)).symm
theorem step_1 (b : List UInt8) : step 1 b = ⟨0, 0, [], b, 0⟩ := rfl
theorem step_2 (b : List UInt8) : step 2 b = getN b := rfl
theorem step_3 (b : List UInt8) : step 3 b = getB b := rfl
theorem step_4 (b : List UInt8) : step 4 b = scan b [] := rfl
theorem step_no {c : UInt8} (b : List UInt8) (h1 : ¬ c = 1) (h2 : ¬ c = 2) (h3 : ¬ c = 3) (h4 : ¬ c = 4) : step c b = bad 12 := by unfold step; rw [if_neg h1, if_neg h2, if_neg h3, if_neg h4]
theorem u8_ne {c : UInt8} {d : Nat} (h : ¬ c = UInt8.ofNat d) (hd : d < 256) : ((c.toNat : Int) == (d : Int)) = false :=
  beq_no fun e => h (UInt8.toNat_inj.1 (by rw [UInt8.toNat_ofNat']; omega))

set_option maxHeartbeats 1000000 in
theorem get_any (c : UInt8) (A : Option Addr) (n d : Nat) (l : List UInt8) (w : World) (B : Nat) (hB : B ≤ w.heap.size) (hn : n ≤ l.length) (hn' : l.length ≤ n) (hc : n ≤ d) (hC : d ≤ 9223372036854775807) (h : Row w B A (bys l)) :
    Calls Try.prog 21 #[.int .u8 (c.toNat : Int), .slice A n d] w (GotPost w B (step c l)) := by
  have H := Lib.hid h
  have HW := Lib.hid (fun o => (h.below (al (Below.refl w.heap.size w) o) hB : Row (w.alloc o) B A (bys l)))
  have HB := Lib.hid (fun o => (Nat.le_trans hB (by simp) : B ≤ (w.alloc o).heap.size))
  clear h
  by_cases h1 : c = 1
  · subst h1
    have HL := Lib.hid (show l.length = n by omega)
    go_enter Try.func21, Try.ntmps21
    go_wp2
    (try simp only [Exit.inBlock, Exit.then])
    refine bodyPost_ret (v := .tuple #[.agg #[.int .i64 0, .int .i64 0, .string ⟨#[]⟩], .slice A n d, .int .i64 0]) ?_ rfl ?_
    · rw [results_cell_tmp2 rfl]
      go_simp
    exact GotPost.good (step_1 l) HL.out (al (Below.refl _ _) _) H.out hc hC
  have t1 : ((c.toNat : Int) == 1) = false := u8_ne h1 (by decide)
  by_cases h2 : c = 2
  · subst h2
    clear t1 h1
    go_enter Try.func21, Try.ntmps21
    go_wp2_with (go_at_call 27; refine (getN_any A n d l _ B (HB.out _) hn hn' hc hC (HW.out _)).mono ?_; rintro e w1 ⟨A1, d1, rfl, hb1, hr1, hd1, hd2⟩; obtain ⟨⟨c0, c1, c2⟩, f0, f1, f2⟩ := made_cells hb1; have HR1 := Lib.hid (row_back hr1 hB); have HB1 := Lib.hid (on (al (Below.refl w.heap.size w) _) hb1); clear hr1 hb1)
    (try simp only [Exit.inBlock, Exit.then])
    refine bodyPost_ret (v := .tuple #[.agg #[.int .i64 (getN l).k, .int .i64 (getN l).n, .string ⟨(getN l).s.toArray⟩], .slice A1 (getN l).r.length d1, .int .i64 (getN l).e]) ?_ rfl ?_
    · rw [results_cell_tmp2 rfl]
      go_simp
    rw [step_2]
    exact ⟨A1, d1, rfl, ((HB1.out.setCell (Nat.le_refl _) _).setCell (Nat.le_refl _) _).setCell (Nat.le_refl _) _, HR1.out, hd1, hd2⟩
  have t2 : ((c.toNat : Int) == 2) = false := u8_ne h2 (by decide)
  by_cases h3 : c = 3
  · subst h3
    clear t1 h1 t2 h2
    go_enter Try.func21, Try.ntmps21
    go_wp2_with (go_at_call 28; refine (getB_any A n d l _ B (HB.out _) hn hn' hc hC (HW.out _)).mono ?_; rintro e w1 ⟨A1, d1, rfl, hb1, hr1, hd1, hd2⟩; obtain ⟨⟨c0, c1, c2⟩, f0, f1, f2⟩ := made_cells hb1; have HR1 := Lib.hid (row_back hr1 hB); have HB1 := Lib.hid (on (al (Below.refl w.heap.size w) _) hb1); clear hr1 hb1)
    (try simp only [Exit.inBlock, Exit.then])
    refine bodyPost_ret (v := .tuple #[.agg #[.int .i64 (getB l).k, .int .i64 (getB l).n, .string ⟨(getB l).s.toArray⟩], .slice A1 (getB l).r.length d1, .int .i64 (getB l).e]) ?_ rfl ?_
    · rw [results_cell_tmp2 rfl]
      go_simp
    rw [step_3]
    exact ⟨A1, d1, rfl, ((HB1.out.setCell (Nat.le_refl _) _).setCell (Nat.le_refl _) _).setCell (Nat.le_refl _) _, HR1.out, hd1, hd2⟩
  have t3 : ((c.toNat : Int) == 3) = false := u8_ne h3 (by decide)
  by_cases h4 : c = 4
  · subst h4
    clear t1 h1 t2 h2 t3 h3
    go_enter Try.func21, Try.ntmps21
    go_wp2_with (go_at_call 29; refine (getT_any A n d l _ B (HB.out _) hn hn' hc hC (HW.out _)).mono ?_; rintro e w1 ⟨A1, d1, rfl, hb1, hr1, hd1, hd2⟩; obtain ⟨⟨c0, c1, c2⟩, f0, f1, f2⟩ := made_cells hb1; have HR1 := Lib.hid (row_back hr1 hB); have HB1 := Lib.hid (on (al (Below.refl w.heap.size w) _) hb1); clear hr1 hb1)
    (try simp only [Exit.inBlock, Exit.then])
    refine bodyPost_ret (v := .tuple #[.agg #[.int .i64 (scan l []).k, .int .i64 (scan l []).n, .string ⟨(scan l []).s.toArray⟩], .slice A1 (scan l []).r.length d1, .int .i64 (scan l []).e]) ?_ rfl ?_
    · rw [results_cell_tmp2 rfl]
      go_simp
    rw [step_4]
    exact ⟨A1, d1, rfl, ((HB1.out.setCell (Nat.le_refl _) _).setCell (Nat.le_refl _) _).setCell (Nat.le_refl _) _, HR1.out, hd1, hd2⟩
  have t4 : ((c.toNat : Int) == 4) = false := u8_ne h4 (by decide)
  have HV := Lib.hid (step_no l h1 h2 h3 h4)
  clear h1 h2 h3 h4
  go_enter Try.func21, Try.ntmps21
  go_wp2
  (try simp only [Exit.inBlock, Exit.then])
  refine bodyPost_ret (v := .tuple #[.agg #[.int .i64 0, .int .i64 0, .string ⟨#[]⟩], .slice none 0 0, .int .i64 12]) ?_ rfl ?_
  · rw [results_cell_tmp2 rfl]
    go_simp
  rw [HV.out]
  exact GotPost.bad_ (al (Below.refl _ _) _)
end Go.Proofs.Ytledpmpfckeejaa.Key
