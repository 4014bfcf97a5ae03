/- The document's small calls on slots: how many bytes they take, whether there is data, trimmed, copied, which are not empty; are numbers the same. -/
import Derived.Test.YtgoadmkenglglaaPageRef
namespace Go.Proofs.Ytgoadmkenglglaa.Pg
open Go.RowKit Go.Proofs.Ytgoadmkenglglaa.Mem Go.Proofs.Ytgoadmkenglglaa.Right
set_option linter.unusedVariables false

theorem tot_sl {S : List Sl} {k : Nat} (h : k < S.length) : tot (S.take (k + 1)) = tot (S.take k) + ln (sl S k) := by
  have hs : S[k]? = some S[k] := List.getElem?_eq_getElem h
  rw [tot_next hs]
  unfold sl; rw [hs]; rfl
set_option maxHeartbeats 1000000 in
theorem size_ref (A : Option Addr) (n c : Nat) (S : List Sl) (w : World) (h : RL w A n c S) (hn : n ≤ 1000) (ht : tot S ≤ 100000) :
    Calls Try.prog 13 #[.slice A n c] w fun e w' => e = .returned (.int .i64 ((2 + 2 * n + tot S : Nat) : Int)) ∧ Below w.heap.size w w' := by
  have H := Lib.hid h
  have HL := Lib.hid h.len
  clear h
  go_enter Try.func13, Try.ntmps13
  go_wp2
  go_loopw [3, 4] (fun p i wr => ∃ (k T : Nat), k ≤ n ∧ T ≤ 100000 ∧ p = .int .i64 ((2 + 2 * n + T : Nat) : Int) ∧ i = .int .i64 k ∧ Hid (T = tot (S.take k)) ∧ Hid (Below w.heap.size w wr)) (fun _ i _ => n - (intOf i).toNat)
  case atStart => exact ⟨0, 0, Nat.zero_le _, by omega, by go_num, rfl, Lib.hid rfl, Lib.hid (Below.refl _ _)⟩
  case round =>
    obtain ⟨k, T, hk, hT, rfl, rfl, HT, HB⟩ := hrel
    by_cases hlt : k < n
    · obtain ⟨b, o, A', c', rfl, hb, c0, c1, hbs⟩ := (H.out.below HB.out).get hlt
      have HT2 := Lib.hid (show T + ln (sl S k) = tot (S.take (k + 1)) by rw [tot_sl (by rw [HL.out]; exact hlt), HT.out])
      have hle := tot_take S (k + 1)
      have hT3 : T + ln (sl S k) ≤ 100000 := by have := HT2.out; omega
      have hlt' : (k : Int) < (n : Int) := by omega
      clear hbs hle
      obtain ⟨d, hd⟩ : ∃ d, ln (sl S k) = d := ⟨_, rfl⟩
      rw [hd] at c1 hT3 HT2
      clear hd
      go_wp2
      go_roundw
      case rel => exact ⟨k + 1, T + d, by omega, hT3, by go_num, by go_num, HT2, HB⟩
      case measure => simp [intOf]; omega
    · obtain rfl : k = n := by omega
      go_wp2
      go_ret
      exact ⟨ri (by have := HT.out; rw [List.take_of_length_le (by rw [HL.out]; exact Nat.le_refl _)] at this; omega), HB.out⟩
set_option maxHeartbeats 1000000 in
theorem has_ref (A : Option Addr) (n c : Nat) (S : List Sl) (z : Int) (x : Bool) (hx : decide (0 ≤ z ∧ full S z.toNat = true) = x) (w : World) (h : RL w A n c S) :
    Calls Try.prog 40 #[.slice A n c, .int .i64 z] w fun e w' => e = .returned (.bool x) ∧ Below w.heap.size w w' := by
  have HL := Lib.hid h.len
  by_cases hz : 0 ≤ z
  · obtain ⟨k, rfl⟩ := Int.eq_ofNat_of_zero_le hz
    rw [Int.toNat_natCast] at hx
    by_cases hlt : k < n
    · obtain ⟨b, o, A', c', rfl, hb, c0, c1, _⟩ := h.get hlt
      have HX := Lib.hid (show (sl S k).isSome = x by rw [← hx, full_sl]; simp)
      have hlt' : (k : Int) < (n : Int) := by omega
      have d1 : decide ((0 : Int) ≤ (k : Int)) = true := decide_eq_true (by omega)
      have d2 : decide (k < n) = true := decide_eq_true hlt
      clear hx h c1
      go_enter Try.func40, Try.ntmps40
      go_wp2
      go_ret
      exact ⟨rb HX.out, Below.refl _ _⟩
    · have HX := Lib.hid (show false = x by rw [← hx, full_not (by rw [HL.out]; omega)]; simp)
      have hlt' : ¬ (k : Int) < (n : Int) := by omega
      have d1 : decide ((0 : Int) ≤ (k : Int)) = true := decide_eq_true (by omega)
      have d2 : decide (k < n) = false := decide_eq_false hlt
      clear hx h
      go_enter Try.func40, Try.ntmps40
      go_wp2
      go_ret
      exact ⟨rb HX.out, Below.refl _ _⟩
  · have HX := Lib.hid (show false = x by rw [← hx]; simp [hz])
    have d1 : decide ((0 : Int) ≤ z) = false := decide_eq_false hz
    clear hx h
    go_enter Try.func40, Try.ntmps40
    go_wp2
    go_ret
    exact ⟨rb HX.out, Below.refl _ _⟩
theorem lst_down {S : List Sl} {k : Nat} (hk : k < S.length) (h : sl S k = none) : lst (S.take (k + 1)) = lst (S.take k) := by
  have hs : S[k]? = some S[k] := List.getElem?_eq_getElem hk
  rw [lst_next hs]
  unfold sl at h
  rw [hs] at h
  simp at h
  rw [h]; rfl
theorem lst_stop {S : List Sl} {k : Nat} (hk : k < S.length) (h : (sl S k).isSome = true) : lst (S.take (k + 1)) = k + 1 := by
  have hs : S[k]? = some S[k] := List.getElem?_eq_getElem hk
  rw [lst_next hs]
  unfold sl at h
  rw [hs] at h
  simp at h
  rw [if_pos h]
set_option maxHeartbeats 1000000 in
theorem trim_ref (b o n c : Nat) (S : List Sl) (w : World) (h : RL w (some ⟨b, o, none⟩) n c S) :
    Calls Try.prog 41 #[.slice (some ⟨b, o, none⟩) n c] w fun e w' => e = .returned (.slice (some ⟨b, o, none⟩) (lst S) c) ∧ Below w.heap.size w w' := by
  have H := Lib.hid h
  have HL := Lib.hid h.len
  have hn64 : n ≤ 9223372036854775807 := by obtain ⟨_, _, _, _, h3, h4, _⟩ := h; omega
  have hnc : n ≤ c := by obtain ⟨_, _, _, _, h3, h4, _⟩ := h; omega
  clear h
  go_enter Try.func41, Try.ntmps41
  go_wp2
  go_loopw [3] (fun i wr => ∃ k : Nat, k ≤ n ∧ i = .int .i64 k ∧ Hid (lst (S.take k) = lst S) ∧ Hid (Below w.heap.size w wr)) (fun i _ => (intOf i).toNat)
  case atStart => exact ⟨n, Nat.le_refl _, rfl, Lib.hid (by rw [List.take_of_length_le (by rw [HL.out]; exact Nat.le_refl _)]), Lib.hid (Below.refl _ _)⟩
  case round =>
    obtain ⟨k, hk, rfl, HT, HB⟩ := hrel
    rcases Nat.eq_zero_or_pos k with h0 | hpos
    · subst h0
      have HS := Lib.hid (show lst S = 0 by rw [← HT.out]; rfl)
      go_wp2
      go_ret
      exact ⟨by rw [HS.out]; rfl, HB.out⟩
    · obtain ⟨j, rfl⟩ : ∃ j, k = j + 1 := ⟨k - 1, by omega⟩
      obtain ⟨b', o', A', c', e, hb, c0, c1, _⟩ := (H.out.below HB.out).get (k := j) (by omega)
      injection e with e; injection e with e1 e2
      subst e1 e2
      clear c1
      have hj : (j : Int) < (n : Int) := by omega
      cases hs : sl S j with
      | none =>
        have HT2 := Lib.hid (show lst (S.take j) = lst S by rw [← HT.out, lst_down (by rw [HL.out]; omega) hs])
        rw [hs] at c0
        have c0' : wr.cell? ⟨b, o + j * 2, none⟩ = some (.bool false) := c0
        clear hs c0
        go_wp2
        go_roundw
        case rel => exact ⟨j, by omega, by go_num, HT2, HB⟩
        case measure => simp [intOf]
      | some d =>
        have HS := Lib.hid (show lst S = j + 1 by rw [← HT.out, lst_stop (by rw [HL.out]; omega) (by rw [hs]; rfl)])
        rw [hs] at c0
        have c0' : wr.cell? ⟨b, o + j * 2, none⟩ = some (.bool true) := c0
        clear hs c0
        go_wp2
        go_ret
        exact ⟨by rw [HS.out]; rfl, HB.out⟩
end Go.Proofs.Ytgoadmkenglglaa.Pg
