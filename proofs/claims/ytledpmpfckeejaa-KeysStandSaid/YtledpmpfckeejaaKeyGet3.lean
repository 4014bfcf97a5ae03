/- What keys.getText answers. -/
import Derived.Test.YtledpmpfckeejaaKeyGet2
import Derived.WalkMore
namespace Go.Proofs.Ytledpmpfckeejaa.Key
open Go.RowKit Go.Proofs.Ytledpmpfckeejaa.Mem Go.Proofs.Ytledpmpfckeejaa.Right
set_option linter.unusedVariables false

theorem convert_row (W : World) (b o m c : Nat) (t : List UInt8) (hm : t.length = m) (h : ∀ j x, (bys t)[j]? = some x → W.cell? ⟨b, o + j, none⟩ = some x) :
    (convert 25 9 (.slice (some ⟨b, o, none⟩) m c)).run Try.prog W = .ok (.string ⟨t.toArray⟩) W := by
  subst hm
  refine run_convert_bytes_back W 25 9 5 ⟨b, o, none⟩ _ t Try.underlying25 Try.underlying5 Try.underlying9 fun j hj => ?_
  have e2 : (⟨b, o, none⟩ : Addr).add j = ⟨b, o + j, none⟩ := by unfold Addr.add; split <;> simp_all
  rw [e2]
  exact h j _ (by simp [bys, hj])
theorem scan_end {l : List UInt8} {k : Nat} (hk : l.length ≤ k) (h : scan l [] = scan (l.drop k) (l.take k)) : scan l [] = bad 13 := by
  rw [h, List.drop_eq_nil_of_le hk, scan]
theorem scan_at {l : List UInt8} {k : Nat} {c : UInt8} (hc : l[k]? = some c) (h : scan l [] = scan (l.drop k) (l.take k)) :
    scan l [] = if c = 0 then ⟨3, 0, l.take k, l.drop (k + 1), 0⟩ else if okB c = false then bad 12 else if k = 32 then bad 3 else scan (l.drop (k + 1)) (l.take (k + 1)) := by
  obtain ⟨hk, e⟩ := List.getElem?_eq_some_iff.1 hc
  rw [h, List.drop_eq_getElem_cons hk, e, scan, List.length_take, Nat.min_eq_left (by omega), List.take_add_one, hc]
  rfl

set_option maxHeartbeats 1000000 in
theorem getT_any (A : Option Addr) (n c : Nat) (l : List UInt8) (w : World) (B : Nat) (hB : B ≤ w.heap.size) (hn : n ≤ l.length) (hn' : l.length ≤ n) (hc : n ≤ c) (hC : c ≤ 9223372036854775807) (h : Row w B A (bys l)) :
    Calls Try.prog 29 #[.slice A n c] w (GotPost w B (scan l [])) := by
  have H := Lib.hid h
  clear h
  go_enter Try.func29, Try.ntmps29
  go_wp2
  go_step3
  go_wp2
  go_step3
  go_wp2
  go_loop [5] (fun i => ∃ k : Nat, k ≤ n ∧ k ≤ 32 ∧ i = .int .i64 k ∧ Hid (scan l [] = scan (l.drop k) (l.take k))) (fun i => n - (intOf i).toNat)
  case atStart => exact ⟨0, Nat.zero_le _, Nat.zero_le _, rfl, Lib.hid rfl⟩
  case round =>
    obtain ⟨k, hk, hk2, rfl, HS⟩ := hrel
    by_cases hlt : k < n
    · have te : ((k : Int) == (n : Int)) = false := beq_no (by omega)
      obtain ⟨b, o, d, rfl, hb, hd, hcell0⟩ := H.out.byte (k := k) (by omega)
      have hcell := zero_cell w (Nat.lt_of_lt_of_le hb hB) hcell0
      have HV := Lib.hid (scan_at hd HS.out)
      have hlt' : (k : Int) < (n : Int) := by omega
      clear hd hcell0
      by_cases h0 : d = 0
      · subst h0
        have HV0 := Lib.hid (show scan l [] = ⟨3, 0, l.take k, l.drop (k + 1), 0⟩ by rw [HV.out, if_pos rfl])
        obtain ⟨o', ho', hsl⟩ := slice_from b o n c (k + 1) ((k : Int) + 1) (by omega) (by omega) hc
        have HO := Lib.hid ho'
        have hcv := convert_row (w.alloc (.cells #[.int .i64 0, .int .i64 0, .string ⟨#[]⟩] 37)) b o k c (l.take k) (by rw [List.length_take]; omega) (fun j x hj => by
          obtain ⟨b', o', he, hb', hc'⟩ := (show Row w B (some ⟨b, o, none⟩) (bys (l.take k)) by unfold bys; rw [List.map_take]; exact Row.take H.out) j x hj
          obtain ⟨rfl, rfl⟩ : b = b' ∧ o = o' := by simpa using he
          exact zero_cell w (Nat.lt_of_lt_of_le hb' hB) hc')
        have hcv2 := convert_row (w.alloc (.cells #[.int .i64 0, .int .i64 0, .string ⟨#[]⟩] 37)).drew b o k c (l.take k) (by rw [List.length_take]; omega) (fun j x hj => by
          obtain ⟨b', o', he, hb', hc'⟩ := (show Row w B (some ⟨b, o, none⟩) (bys (l.take k)) by unfold bys; rw [List.map_take]; exact Row.take H.out) j x hj
          obtain ⟨rfl, rfl⟩ : b = b' ∧ o = o' := by simpa using he
          exact zero_cell w (Nat.lt_of_lt_of_le hb' hB) hc')
        have hkc : (k : Int) ≤ (c : Int) := by omega
        have hk1 : (k : Int) + 1 ≤ (n : Int) := by omega
        clear ho'
        go_wp2
        have hws : IntKind.i64.wrap ((k : Int) + 1) = (k : Int) + 1 := IntWalk.i64_in _ (by omega)
        go_region
        go_wp2
        (try simp only [Exit.inBlock, Exit.then])
        (try rw [Exit.noGoto_ret])
        refine bodyPost_ret (v := .tuple #[.agg #[.int .i64 3, .int .i64 0, .string ⟨(l.take k).toArray⟩], .slice (some ⟨b, o', none⟩) (n - (k + 1)) (c - (k + 1)), .int .i64 0]) ?_ rfl ?_
        · rw [results_cell_tmp2 rfl]
          go_simp
        exact GotPost.good HV0.out (drop_len hn hn') (al (Below.refl _ _) _).drew (row_from H.out hn' hc HO.out) (by omega) (by omega)
      · have t0 : ((d.toNat : Int) == 0) = false := beq_no (fun e => h0 (UInt8.toNat_inj.1 (by have : (0 : UInt8).toNat = 0 := rfl
                                                                                               omega)))
        by_cases h1 : (d.toNat : Int) < 32
        · have HV0 := Lib.hid (show scan l [] = bad 12 by rw [HV.out, if_neg h0, if_pos (okB_not.2 (.inl (by omega)))])
          have t1 : decide ((d.toNat : Int) < 32) = true := decide_eq_true h1
          clear h0
          go_wp2
          (try simp only [Exit.inBlock, Exit.then])
          (try rw [Exit.noGoto_ret])
          refine bodyPost_ret (v := .tuple #[.agg #[.int .i64 0, .int .i64 0, .string ⟨#[]⟩], .slice none 0 0, .int .i64 12]) ?_ rfl ?_
          · rw [results_cell_tmp2 rfl]
            go_simp
          rw [HV0.out]
          exact GotPost.bad_ (al (Below.refl _ _) _)
        · have t1 : decide ((d.toNat : Int) < 32) = false := decide_eq_false h1
          by_cases h2 : 126 < (d.toNat : Int)
          · have HV0 := Lib.hid (show scan l [] = bad 12 by rw [HV.out, if_neg h0, if_pos (okB_not.2 (.inr (by omega)))])
            have t2 : decide (126 < (d.toNat : Int)) = true := decide_eq_true h2
            clear h0
            go_wp2
            (try simp only [Exit.inBlock, Exit.then])
            (try rw [Exit.noGoto_ret])
            refine bodyPost_ret (v := .tuple #[.agg #[.int .i64 0, .int .i64 0, .string ⟨#[]⟩], .slice none 0 0, .int .i64 12]) ?_ rfl ?_
            · rw [results_cell_tmp2 rfl]
              go_simp
            rw [HV0.out]
            exact GotPost.bad_ (al (Below.refl _ _) _)
          · have t2 : decide (126 < (d.toNat : Int)) = false := decide_eq_false h2
            have ho : ¬ okB d = false := fun e => by rcases okB_not.1 e with e | e <;> omega
            by_cases h3 : k = 32
            · have HV0 := Lib.hid (show scan l [] = bad 3 by rw [HV.out, if_neg h0, if_neg ho, if_pos h3])
              have t3 : ((k : Int) == 32) = true := beq_yes (by omega)
              clear h0 h3 ho
              go_wp2
              (try simp only [Exit.inBlock, Exit.then])
              (try rw [Exit.noGoto_ret])
              refine bodyPost_ret (v := .tuple #[.agg #[.int .i64 0, .int .i64 0, .string ⟨#[]⟩], .slice none 0 0, .int .i64 3]) ?_ rfl ?_
              · rw [results_cell_tmp2 rfl]
                go_simp
              rw [HV0.out]
              exact GotPost.bad_ (al (Below.refl _ _) _)
            · have HV0 := Lib.hid (show scan l [] = scan (l.drop (k + 1)) (l.take (k + 1)) by rw [HV.out, if_neg h0, if_neg ho, if_neg h3])
              have t3 : ((k : Int) == 32) = false := beq_no (by omega)
              have hk3 : k + 1 ≤ 32 := by omega
              clear h0 h3 ho
              go_wp2
              go_round
              case rel => exact ⟨k + 1, by omega, hk3, by go_num, HV0⟩
              case measure => simp [intOf]; omega
    · have HV0 := Lib.hid (scan_end (show l.length ≤ k by omega) HS.out)
      have te : ((k : Int) == (n : Int)) = true := beq_yes (by omega)
      go_wp2
      (try simp only [Exit.inBlock, Exit.then])
      (try rw [Exit.noGoto_ret])
      refine bodyPost_ret (v := .tuple #[.agg #[.int .i64 0, .int .i64 0, .string ⟨#[]⟩], .slice none 0 0, .int .i64 13]) ?_ rfl ?_
      · rw [results_cell_tmp2 rfl]
        go_simp
      rw [HV0.out]
      exact GotPost.bad_ (al (Below.refl _ _) _)
end Go.Proofs.Ytledpmpfckeejaa.Key
