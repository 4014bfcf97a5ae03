/- Small contracts: the document's Less and Same of values; the law's own 'large'. -/
import Derived.Test.YtledpmpfckeejaaKeySame
namespace Go.Proofs.Ytledpmpfckeejaa.Key
open Go.RowKit Go.Proofs.Ytledpmpfckeejaa.Mem Go.Proofs.Ytledpmpfckeejaa.Right
set_option linter.unusedVariables false

set_option maxHeartbeats 1000000 in
theorem vsame_yes (A C : Option Addr) (n ca cb : Nat) (vs : List Vl) (w : World) (hn : n ≤ vs.length) (hN : n ≤ 9223372036854775807) (h1 : Vals w w.heap.size A vs) (h2 : Vals w w.heap.size C vs) :
    Calls Try.prog 12 #[.slice A n ca, .slice C n cb] w fun e w' => e = .returned (.bool true) ∧ Below w.heap.size w w' := by
  have H1 := Lib.hid h1
  have H2 := Lib.hid h2
  clear h1 h2
  go_enter Try.func12, Try.ntmps12
  go_wp2
  go_loopw [5] (fun i wr => ∃ k : Nat, k ≤ n ∧ i = .int .i64 k ∧ Hid (Below w.heap.size w wr)) (fun i _ => n - (intOf i).toNat)
  case atStart => exact ⟨0, Nat.zero_le _, rfl, Lib.hid (Below.refl _ _)⟩
  case round =>
    obtain ⟨k, hk, rfl, HB⟩ := hrel
    by_cases hlt : k < n
    · obtain ⟨b, o, v, rfl, hb, hv, c0, c1, c2⟩ := (H1.out.below HB.out (Nat.le_refl _)).at_ (k := k) (by omega)
      obtain ⟨b', o', v', rfl, hb', hv', d0, d1, d2⟩ := (H2.out.below HB.out (Nat.le_refl _)).at_ (k := k) (by omega)
      obtain rfl : v = v' := by rw [hv] at hv'; injection hv'
      clear hv hv'
      have hlt' : (k : Int) < (n : Int) := by omega
      go_wp2
      go_quiet (fail)
      go_wp2
      go_roundw
      case rel => exact ⟨k + 1, by omega, by go_num, Lib.hid (below_drewN HB.out _)⟩
      case measure => simp [intOf]; omega
    · go_wp2
      go_ret
      exact ⟨rfl, HB.out⟩

theorem less_any (u v : Vl) (w : World) :
    Calls Try.prog 15 #[.agg #[.int .i64 u.k, .int .i64 u.n, .string u.s], .agg #[.int .i64 v.k, .int .i64 v.n, .string v.s]] w fun e w' => e = .returned (.bool (vlt u v)) ∧ Below w.heap.size w w' := by
  obtain ⟨k, n, s⟩ := u
  obtain ⟨k', n', s'⟩ := v
  simp only
  by_cases hk : k = k'
  · by_cases hn : n = n'
    · have HV := Lib.hid (show vlt ⟨k, n, s⟩ ⟨k', n', s'⟩ = Op.bytesLess s.toList s'.toList by
        unfold vlt; rw [if_neg (by simpa using hk), if_neg (by simpa using hn), Lib.toList_data, Lib.toList_data]; rfl)
      have t1 := bne_no hk
      have t2 := bne_no hn
      clear hk hn
      go_enter Try.func15, Try.ntmps15
      go_wp2
      go_ret
      exact ⟨rb HV.out.symm, al (al (Below.refl _ _) _) _⟩
    · have HV := Lib.hid (show vlt ⟨k, n, s⟩ ⟨k', n', s'⟩ = decide (n < n') by unfold vlt; rw [if_neg (by simpa using hk), if_pos (by simpa using hn)])
      have t1 := bne_no hk
      have t2 := bne_yes hn
      clear hk hn
      go_enter Try.func15, Try.ntmps15
      go_wp2
      go_ret
      exact ⟨rb HV.out.symm, al (al (Below.refl _ _) _) _⟩
  · have HV := Lib.hid (show vlt ⟨k, n, s⟩ ⟨k', n', s'⟩ = decide (k < k') by unfold vlt; rw [if_pos (by simpa using hk)])
    have t1 := bne_yes hk
    clear hk
    go_enter Try.func15, Try.ntmps15
    go_wp2
    go_ret
    exact ⟨rb HV.out.symm, al (al (Below.refl _ _) _) _⟩

/-- Are values more, or longer, than statements go? -/
def largeF : Nat → List Vl → Bool
  | _, [] => false
  | k, v :: r => decide (9 < k) || (decide (200 < (v.s.size : Int)) || largeF (k + 1) r)
theorem large_no : ∀ {vs : List Vl} {k : Nat}, largeF k vs = false → (vs ≠ [] → k + vs.length ≤ 10) ∧ ∀ v ∈ vs, v.s.size ≤ 200
  | [], k, h => ⟨fun h => absurd rfl h, by simp⟩
  | v :: r, k, h => by
    simp only [largeF, Bool.or_eq_false_iff, decide_eq_false_iff_not] at h
    obtain ⟨h1, h2, h3⟩ := h
    obtain ⟨h4, h5⟩ := large_no h3
    refine ⟨fun _ => ?_, fun u hu => ?_⟩
    · by_cases hr : r = []
      · subst hr; simp; omega
      · have := h4 hr
        simp only [List.length_cons]; omega
    · rcases List.mem_cons.1 hu with e | e
      · subst e; omega
      · exact h5 u e
theorem large_len {vs : List Vl} (h : largeF 0 vs = false) : vs.length ≤ 10 := by
  have := (large_no h).1
  by_cases hv : vs = []
  · subst hv; simp
  · have := this hv; omega
set_option maxHeartbeats 1000000 in
theorem large_any (A : Option Addr) (n c : Nat) (vs : List Vl) (w : World) (hn : n ≤ vs.length) (hn' : vs.length ≤ n) (hN : n ≤ 9223372036854775807) (hz : ∀ v ∈ vs, v.s.size ≤ maxLen) (h : Vals w w.heap.size A vs) :
    Calls Try.prog 6 #[.slice A n c] w fun e w' => e = .returned (.bool (largeF 0 vs)) ∧ w = w' := by
  have H := Lib.hid h
  have HZ := Lib.hid hz
  clear h hz
  go_enter Try.func6, Try.ntmps6
  go_wp2
  go_loop [3] (fun i => ∃ k : Nat, k ≤ n ∧ i = .int .i64 k ∧ Hid (largeF 0 vs = largeF k (vs.drop k))) (fun i => n - (intOf i).toNat)
  case atStart => exact ⟨0, Nat.zero_le _, rfl, Lib.hid rfl⟩
  case round =>
    obtain ⟨k, hk, rfl, HF⟩ := hrel
    by_cases hlt : k < n
    · obtain ⟨b, o, v, rfl, hb, hv, c0, c1, c2⟩ := H.out.at_ (k := k) (by omega)
      have hs := HZ.out v (List.mem_of_getElem? hv)
      unfold maxLen at hs
      have HD := Lib.hid (show vs.drop k = v :: vs.drop (k + 1) by
        obtain ⟨hk', e⟩ := List.getElem?_eq_some_iff.1 hv
        rw [List.drop_eq_getElem_cons hk', e])
      clear hv
      by_cases h9 : 9 < k
      · have HV := Lib.hid (show largeF 0 vs = true by rw [HF.out, HD.out, largeF, decide_eq_true h9]; rfl)
        have h9' : (9 : Int) < (k : Int) := by omega
        have t : decide ((9 : Int) < (k : Int)) = true := decide_eq_true h9'
        clear h9
        go_wp2
        go_ret
        exact ⟨rb HV.out.symm, rfl⟩
      · have t : decide ((9 : Int) < (k : Int)) = false := decide_eq_false (by omega)
        by_cases h2 : 200 < (v.s.size : Int)
        · have HV := Lib.hid (show largeF 0 vs = true by rw [HF.out, HD.out, largeF, decide_eq_false h9, decide_eq_true h2]; rfl)
          have t2 : decide (200 < (v.s.size : Int)) = true := decide_eq_true h2
          go_wp2
          go_ret
          exact ⟨rb HV.out.symm, rfl⟩
        · have t2 : decide (200 < (v.s.size : Int)) = false := decide_eq_false h2
          have HV := Lib.hid (show largeF 0 vs = largeF (k + 1) (vs.drop (k + 1)) by rw [HF.out, HD.out, largeF, decide_eq_false h9, t2]; rfl)
          go_wp2
          go_round
          case rel => exact ⟨k + 1, by omega, by go_num, HV⟩
          case measure => simp [intOf]; omega
    · have HV := Lib.hid (show largeF 0 vs = false by rw [HF.out, List.drop_eq_nil_of_le (by omega)]; rfl)
      go_wp2
      go_ret
      exact ⟨rb HV.out.symm, rfl⟩
end Go.Proofs.Ytledpmpfckeejaa.Key
