/- What a writer's kinds writes: the sum of the values' kinds. -/
import Derived.Test.YtkpieiolplkifaaRowSmall
import Derived.Test.YtkpieiolplkifaaRowWrong
namespace Go.Proofs.Ytkpieiolplkifaa.Rw
open Go.RowKit Go.Proofs.Ytkpieiolplkifaa.Mem Go.Proofs.Ytkpieiolplkifaa.Right
set_option linter.unusedVariables false

theorem take_more {α : Type} {l : List α} {k : Nat} {x : α} (h : l[k]? = some x) : l.take (k + 1) = l.take k ++ [x] := by rw [List.take_add_one, h]; rfl
theorem kin_take {vs : List Vl} (h : ∀ u ∈ vs, Good u) (k : Nat) : kin (vs.take k) < 4 ^ k := by
  have h1 := kin_lt (vs := vs.take k) fun u hu => h u (List.mem_of_mem_take hu)
  have h2 : 4 ^ (vs.take k).length ≤ 4 ^ k := Nat.pow_le_pow_right (by decide) (List.length_take_le _ _)
  omega
set_option maxRecDepth 20000 in
set_option maxHeartbeats 1000000 in
theorem kinds_any (W : World) (g : Nat) (v : Value) (l : List UInt8) (A : Option Addr) (n c : Nat) (vs : List Vl) (w : World) (hn : vs.length = n) (h6 : n ≤ 6) (hl : l.length ≤ 100000) (h : Wr W w g v l) (hv : Vals W g A vs) (hk : ∀ u ∈ vs, Good u) :
    Calls Try.prog 20 #[.pointer (some ⟨g, 0, none⟩), .slice A n c] w (Put0 W g (l ++ [UInt8.ofNat (kin vs % 256), UInt8.ofNat (kin vs / 256)])) := by
  have H := Lib.hid h
  have HV := Lib.hid hv
  have HN := Lib.hid hn
  have HK := Lib.hid hk
  have HL := Lib.hid hl
  clear h hv hn hk hl
  go_enter Try.func20, Try.ntmps20
  go_wp2
  go_loopw [5, 10] (fun s i wr => ∃ k S : Nat, k ≤ n ∧ i = .int .i64 k ∧ s = .int .i64 S ∧ S < 4096 ∧ Hid (S = kin (vs.take k)) ∧ Hid (Wr W wr g v l)) (fun _ i _ => n - (intOf i).toNat)
  case atStart => exact ⟨0, 0, Nat.zero_le _, rfl, rfl, by decide, Lib.hid rfl, H⟩
  case round =>
    obtain ⟨k, S, hk, rfl, rfl, hS, HS, HW⟩ := hrel
    by_cases hlt : k < n
    · obtain ⟨b, o, u, rfl, hb, hu, u0, u1, u2⟩ := (HV.out.below HW.out.2.2 (Nat.le_refl _)).at_ (k := k) (by have := HN.out; omega)
      obtain ⟨hk0, hk4⟩ := good_k (HK.out u (List.mem_of_getElem? hu))
      have hS4 := kin_take HK.out k
      rw [← HS.out] at hS4
      have hor := or_kind hS4 (show k ≤ 5 by omega) hk0 hk4
      have HS1 := Lib.hid (show S + 4 ^ k * u.k.toNat = kin (vs.take (k + 1)) by
        rw [take_more hu, kin_snoc, ← HS.out, List.length_take, Nat.min_eq_left (by have := HN.out; omega)])
      have hS1 : S + 4 ^ k * u.k.toNat < 4096 := by
        have h1 := kin_take HK.out (k + 1)
        have h2 := pow_le (show k + 1 ≤ 6 by omega)
        rw [← HS1.out] at h1
        omega
      obtain ⟨S1, hS1e⟩ : ∃ S1, S + 4 ^ k * u.k.toNat = S1 := ⟨_, rfl⟩
      rw [hS1e] at hor HS1 hS1
      have hlt' : (k : Int) < (n : Int) := by omega
      clear hu hS4 hS1e
      go_wp2
      go_roundw
      case rel => exact ⟨k + 1, S1, by omega, by go_num, rfl, hS1, HS1, Lib.hid (HW.out.below (al (Below.refl _ _) _))⟩
      case measure => simp [intOf]; omega
    · have HS1 := Lib.hid (show S = kin vs by
        have := HS.out
        rwa [List.take_of_length_le (by have := HN.out; omega)] at this)
      have HC := Lib.hid (show (S : Int) % 256 = ((UInt8.ofNat (S % 256)).toNat : Int) by rw [ofNat_small (by omega)]; omega)
      have HC2 := Lib.hid (show ((S : Int) / 256) % 256 = ((UInt8.ofNat (S / 256)).toNat : Int) by rw [ofNat_small (by omega)]; omega)
      have HL1 := Lib.hid (show l.length ≤ 1000000 by have := HL.out; omega)
      have HL2 := Lib.hid (show (l ++ [UInt8.ofNat (S % 256)]).length ≤ 1000000 by have := HL.out; simp; omega)
      go_wp2_with (first | (go_at_call 19; (with_reducible refine (one_any W g _ l (UInt8.ofNat (S % 256)) (S : Int) wr HC.out HL1.out HW.out).mono ?_); rintro e w1 ⟨v2, rfl, hw, _⟩; have HW1 := Lib.hid hw; clear hw) | (go_at_call 19; (with_reducible refine (one_any W g _ _ (UInt8.ofNat (S / 256)) ((S : Int) / 256) w1 HC2.out HL2.out HW1.out).mono ?_); rintro e w2 ⟨v3, rfl, hw, _⟩; have HW2 := Lib.hid hw; clear hw))
      go_ret
      exact ⟨v3, rfl, by have := HW2.out; rw [List.append_assoc] at this; rw [← HS1.out]; exact this⟩
end Go.Proofs.Ytkpieiolplkifaa.Rw
