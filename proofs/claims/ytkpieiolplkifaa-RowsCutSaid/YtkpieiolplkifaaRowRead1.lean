/- What a reader's small reads. -/
import Derived.Test.YtkpieiolplkifaaRowOneR
import Derived.Test.YtkpieiolplkifaaRowBits
namespace Go.Proofs.Ytkpieiolplkifaa.Rw
open Go.RowKit Go.Proofs.Ytkpieiolplkifaa.Mem Go.Proofs.Ytkpieiolplkifaa.Right
set_option linter.unusedVariables false

/-- The next byte, where there is one. -/
theorem oneR_ok (B g : Nat) (c : UInt8) (r : List UInt8) (w : World) (h : Rd B w g (.ok () (c :: r))) :
    Calls Try.prog 41 #[.pointer (some ⟨g, 0, none⟩)] w fun e w' => e = .returned (.int .i64 (c.toNat : Int)) ∧ Moved B w g (.ok () r) w' := by
  refine (oneR_any B g _ w h).mono ?_
  rintro e w1 ⟨x, rfl, hm, _, hp⟩
  rcases hp with ⟨r', e1⟩ | ⟨y, e1, _⟩
  · rw [then_ok, rdB] at e1
    injection e1 with e1 e2
    subst e1
    exact ⟨rfl, hm⟩
  · cases e1
/-- No byte, where there is none, or was an error. -/
theorem oneR_bad (B g : Nat) (σ : Got Unit) (y : Int) (hy : (σ.then fun _ l => rdB l) = .bad y) (w : World) (h : Rd B w g σ) :
    Calls Try.prog 41 #[.pointer (some ⟨g, 0, none⟩)] w fun e w' => e = .returned (.int .i64 0) ∧ Moved B w g (.bad y) w' := by
  refine (oneR_any B g _ w h).mono ?_
  rintro e w1 ⟨x, rfl, hm, _, hp⟩
  rw [hy] at hm hp
  rcases hp with ⟨r', e1⟩ | ⟨z, _, rfl⟩
  · cases e1
  · exact ⟨rfl, hm⟩
theorem one_cases (σ : Got Unit) : (∃ c r, σ = .ok () (c :: r)) ∨ (∃ y, (σ.then fun _ l => rdB l) = .bad y) := by
  cases σ with
  | ok _ l =>
    cases l with
    | nil => exact .inr ⟨13, rfl⟩
    | cons c r => exact .inl ⟨c, r, rfl⟩
  | bad x => exact .inr ⟨x, rfl⟩
/-- What is still read, when k bytes have come to X. -/
def comb (k X : Nat) (τ : Got Unit) : Got Nat := τ.then fun _ l => (rdS k l).then fun n r => .ok (X + 128 ^ k * n) r
theorem comb_start (σ : Got Unit) : (σ.then fun _ l => rdS 0 l) = comb 0 0 σ := by
  unfold comb
  cases σ with
  | ok _ l =>
    simp only [then_ok]
    cases rdS 0 l <;> simp [Got.then]
  | bad x => rfl
theorem comb_dead (k X : Nat) (y : Int) : comb k X (.bad y) = .bad y := rfl
theorem comb_bad {k X : Nat} {τ : Got Unit} {y : Int} (h : (τ.then fun _ l => rdB l) = .bad y) : comb k X τ = .bad y := by
  unfold comb
  cases τ with
  | ok _ l =>
    cases l with
    | nil =>
      rw [then_ok, rdB] at h
      injection h with h
      subst h
      simp [Got.then, rdS]
    | cons c r => rw [then_ok, rdB] at h; cases h
  | bad x => simpa [Got.then] using h
theorem comb_form {k X : Nat} {c : UInt8} {r : List UInt8} (h : (c.toNat = 0 ∧ 0 < k) ∨ (1 < c.toNat ∧ k = 9)) : comb k X (.ok () (c :: r)) = .bad 12 := by
  unfold comb; rw [then_ok, rdS, if_pos h]; rfl
theorem comb_last {k X : Nat} {c : UInt8} {r : List UInt8} (h : ¬ ((c.toNat = 0 ∧ 0 < k) ∨ (1 < c.toNat ∧ k = 9))) (h2 : c.toNat < 128) : comb k X (.ok () (c :: r)) = .ok (X + 128 ^ k * c.toNat) r := by
  unfold comb; rw [then_ok, rdS, if_neg h, if_pos h2]; rfl
theorem comb_more {k X : Nat} {c : UInt8} {r : List UInt8} (h : ¬ ((c.toNat = 0 ∧ 0 < k) ∨ (1 < c.toNat ∧ k = 9))) (h2 : ¬ c.toNat < 128) : comb k X (.ok () (c :: r)) = comb (k + 1) (X + 128 ^ k * (c.toNat % 128)) (.ok () r) := by
  unfold comb
  rw [then_ok, then_ok, rdS, if_neg h, if_neg h2]
  cases rdS (k + 1) r with
  | ok n r' =>
    simp only [then_ok]
    rw [Nat.pow_succ, Nat.mul_add, Nat.add_assoc, ← Nat.mul_assoc]
  | bad e => rfl
/-- What reading a number of 64 bits leaves: it, as long as there was no error. -/
def BigPost (B : Nat) (w : World) (g : Nat) (p : Got Nat) (e : Ending) (w' : World) : Prop :=
  ∃ X : Nat, e = .returned (.int .u64 X) ∧ X ≤ 18446744073709551615 ∧ Moved B w g p.after w' ∧ (∀ a r, p = .ok a r → X = a)
theorem big_bad {B g : Nat} {w w' : World} {p : Got Nat} {y : Int} {X : Nat} (hp : p = .bad y) (hX : X ≤ 18446744073709551615) (hm : Moved B w g (.bad y) w') : BigPost B w g p (.returned (.int .u64 X)) w' := by
  subst hp
  exact ⟨X, rfl, hX, hm, fun a r h => by cases h⟩
theorem big_ok {B g : Nat} {w w' : World} {p : Got Nat} {X : Nat} {r : List UInt8} (hp : p = .ok X r) (hX : X ≤ 18446744073709551615) (hm : Moved B w g (.ok () r) w') : BigPost B w g p (.returned (.int .u64 X)) w' := by
  subst hp
  exact ⟨X, rfl, hX, hm, fun a r' h => by injection h⟩
set_option maxRecDepth 20000 in
set_option maxHeartbeats 8000000 in
theorem smallR_any (B g : Nat) (σ : Got Unit) (w : World) (h : Rd B w g σ) :
    Calls Try.prog 39 #[.pointer (some ⟨g, 0, none⟩)] w (BigPost B w g (σ.then fun _ l => rdS 0 l)) := by
  have H := Lib.hid h
  clear h
  generalize hp : (σ.then fun _ l => rdS 0 l) = p
  have HP := Lib.hid (show p = comb 0 0 σ by rw [← hp]; exact comb_start σ)
  clear hp
  go_enter Try.func39, Try.ntmps39
  go_wp2
  go_loopw [3, 6] (fun n i wr => ∃ (k X : Nat) (τ : Got Unit), k ≤ 10 ∧ i = .int .i64 k ∧ n = .int .u64 X ∧ X ≤ 18446744073709551615 ∧ Hid (Moved B w g τ wr) ∧ Hid (p = comb k X τ) ∧ Hid (X < 128 ^ k ∨ ∃ y, τ = .bad y) ∧ Hid (k = 10 → ∃ y, τ = .bad y)) (fun _ i _ => 10 - (intOf i).toNat)
  case atStart => exact ⟨0, 0, σ, by decide, rfl, rfl, by decide, Lib.hid (Moved.stay H.out), HP, Lib.hid (.inl (by decide)), Lib.hid (fun h => absurd h (by decide))⟩
  case round =>
    obtain ⟨k, X, τ, hk, rfl, rfl, hX, HM, HC, HB, HT⟩ := hrel
    by_cases hlt : k < 10
    · have hlt' : (k : Int) < 10 := by omega
      have HRd := Lib.hid HM.out.1
      rcases one_cases τ with ⟨c, r, rfl⟩ | ⟨y, hy⟩
      · have HXk := Lib.hid (show X < 128 ^ k by
          rcases HB.out with h | ⟨y, h⟩
          · exact h
          · cases h)
        have hc := c.toNat_lt
        obtain ⟨X1, hX1, hX1b⟩ := or_u64_in (X : Int) (IntKind.u64.wrap ((c.toNat : Int) % 128 * 2 ^ (7 * k)))
        have HX1 := Lib.hid hX1
        by_cases h0 : c.toNat = 0
        · obtain rfl : c = 0 := UInt8.toNat_inj.1 h0
          clear h0 hc hX1 hX1b HX1
          have hor := or_u64 X 0 (by omega) (by decide)
          rw [Nat.or_zero] at hor
          by_cases hk0 : k = 0
          · subst hk0
            have HE := Lib.hid (show p = .ok X r by rw [HC.out, comb_last (by decide) (by decide)]; rfl)
            have hor' : bits BinOp.or IntKind.u64 (X : Int) 0 = (X : Int) := hor
            clear hor
            go_wp2_with (go_at_call 41; (with_reducible refine (oneR_ok B g 0 r wr HRd.out).mono ?_); rintro e w1 ⟨rfl, hm⟩; have HM1 := Lib.hid (HM.out.on hm); clear hm)
            go_ret
            exact big_ok HE.out hX HM1.out
          · have HE := Lib.hid (show p = .bad 12 by rw [HC.out, comb_form (.inl ⟨rfl, by omega⟩)])
            have hor' : bits BinOp.or IntKind.u64 (X : Int) 0 = (X : Int) := hor
            have hkp : (0 : Int) < (k : Int) := by omega
            clear hor
            go_wp2_with (first | (go_at_call 41; (with_reducible refine (oneR_ok B g 0 r wr HRd.out).mono ?_); rintro e w1 ⟨rfl, hm⟩; have HM1 := Lib.hid (HM.out.on hm); have HR1 := Lib.hid hm.1; clear hm) | (go_at_call 40; (with_reducible refine (fail_any B g _ 12 w1 (by decide) HR1.out).mono ?_); rintro e w2 ⟨rfl, hm⟩; have HM2 := Lib.hid (HM1.out.on hm); clear hm))
            go_ret
            exact big_bad HE.out hX HM2.out
        · have t0 : ((c.toNat : Int) == 0) = false := beq_no (by omega)
          by_cases hf : 1 < c.toNat ∧ k = 9
          · obtain ⟨h1, hk9⟩ := hf
            have HE := Lib.hid (show p = .bad 12 by rw [HC.out, comb_form (.inr ⟨h1, hk9⟩)])
            have HK9 := Lib.hid (show Value.int .i64 ((k : Int) + 1) = .int .i64 ((10 : Nat) : Int) by rw [hk9]; rfl)
            have HK8 := Lib.hid hk9
            have t9 : ((k : Int) == 9) = true := beq_yes (by omega)
            clear hk9
            have h1' : (1 : Int) < (c.toNat : Int) := by omega
            by_cases h128 : c.toNat < 128
            · have h128' : (c.toNat : Int) < 128 := by omega
              go_wp2_with (first | (go_at_call 41; (with_reducible refine (oneR_ok B g c r wr HRd.out).mono ?_); rintro e w1 ⟨rfl, hm⟩; have HM1 := Lib.hid (HM.out.on hm); have HR1 := Lib.hid hm.1; clear hm) | (go_at_call 40; (with_reducible refine (fail_any B g _ 12 w1 (by decide) HR1.out).mono ?_); rintro e w2 ⟨rfl, hm⟩; have HM2 := Lib.hid (HM1.out.on hm); clear hm))
              go_ret
              exact big_bad HE.out hX1b HM2.out
            · have h128' : ¬ (c.toNat : Int) < 128 := by omega
              go_wp2_with (first | (go_at_call 41; (with_reducible refine (oneR_ok B g c r wr HRd.out).mono ?_); rintro e w1 ⟨rfl, hm⟩; have HM1 := Lib.hid (HM.out.on hm); have HR1 := Lib.hid hm.1; clear hm) | (go_at_call 40; (with_reducible refine (fail_any B g _ 12 w1 (by decide) HR1.out).mono ?_); rintro e w2 ⟨rfl, hm⟩; have HM2 := Lib.hid (HM1.out.on hm); clear hm))
              go_roundw
              case rel => exact ⟨10, X1, .bad 12, by decide, HK9.out, rfl, hX1b, HM2, Lib.hid (by rw [HE.out, comb_dead]), Lib.hid (.inr ⟨12, rfl⟩), Lib.hid (fun _ => ⟨12, rfl⟩)⟩
              case measure => simp [intOf]; omega
          · have hn : ¬ ((c.toNat = 0 ∧ 0 < k) ∨ (1 < c.toNat ∧ k = 9)) := by
              rintro (h | h)
              · exact h0 h.1
              · exact hf h
            have hlow : c.toNat % 128 < lim k := by
              rcases Nat.lt_or_ge k 9 with h | h
              · have := lim_step h
                have h4 : 0 < lim (k + 1) := by unfold lim; exact Nat.pow_pos (by decide)
                omega
              · have : k = 9 := by omega
                subst this
                rw [lim_9]
                omega
            have HXe := Lib.hid (show X1 = X + 128 ^ k * (c.toNat % 128) by
              have := or_seven HXk.out (show k ≤ 9 by omega) hlow
              rw [hX1] at this
              omega)
            by_cases h128 : c.toNat < 128
            · have HE := Lib.hid (show p = .ok X1 r by rw [HC.out, comb_last hn h128, HXe.out, Nat.mod_eq_of_lt h128])
              have h128' : (c.toNat : Int) < 128 := by omega
              by_cases h1 : 1 < c.toNat
              · have h1' : (1 : Int) < (c.toNat : Int) := by omega
                have t9 : ((k : Int) == 9) = false := beq_no (by omega)
                clear hn hf hlow h0
                go_wp2_with (go_at_call 41; (with_reducible refine (oneR_ok B g c r wr HRd.out).mono ?_); rintro e w1 ⟨rfl, hm⟩; have HM1 := Lib.hid (HM.out.on hm); clear hm)
                go_ret
                exact big_ok HE.out hX1b HM1.out
              · have h1' : ¬ (1 : Int) < (c.toNat : Int) := by omega
                clear hn hf hlow h0
                go_wp2_with (go_at_call 41; (with_reducible refine (oneR_ok B g c r wr HRd.out).mono ?_); rintro e w1 ⟨rfl, hm⟩; have HM1 := Lib.hid (HM.out.on hm); clear hm)
                go_ret
                exact big_ok HE.out hX1b HM1.out
            · have HE := Lib.hid (show p = comb (k + 1) X1 (.ok () r) by rw [HC.out, comb_more hn h128, HXe.out])
              have HXl := Lib.hid (show X1 < 128 ^ (k + 1) by
                have h1 := HXk.out
                have h2 : 128 ^ k * (c.toNat % 128) ≤ 128 ^ k * 127 := Nat.mul_le_mul_left _ (by omega)
                have h3 : 128 ^ (k + 1) = 128 ^ k * 128 := Nat.pow_succ ..
                have h4 := HXe.out
                omega)
              have h128' : ¬ (c.toNat : Int) < 128 := by omega
              have h1' : (1 : Int) < (c.toNat : Int) := by omega
              have hk9 : k + 1 ≤ 9 := by omega
              have t9 : ((k : Int) == 9) = false := beq_no (by omega)
              clear hn hf hlow h0
              go_wp2_with (go_at_call 41; (with_reducible refine (oneR_ok B g c r wr HRd.out).mono ?_); rintro e w1 ⟨rfl, hm⟩; have HM1 := Lib.hid (HM.out.on hm); clear hm)
              go_roundw
              case rel => exact ⟨k + 1, X1, .ok () r, by omega, by go_num, rfl, hX1b, HM1, HE, Lib.hid (.inl HXl.out), Lib.hid (fun h => by omega)⟩
              case measure => simp [intOf]; omega
      · have HE := Lib.hid (show p = .bad y by rw [HC.out, comb_bad hy])
        have HY := Lib.hid hy
        have hor := or_u64 X 0 (by omega) (by decide)
        rw [Nat.or_zero] at hor
        have hor' : bits BinOp.or IntKind.u64 (X : Int) 0 = (X : Int) := hor
        clear hor hy
        by_cases hk0 : k = 0
        · subst hk0
          go_wp2_with (go_at_call 41; (with_reducible refine (oneR_bad B g τ y HY.out wr HRd.out).mono ?_); rintro e w1 ⟨rfl, hm⟩; have HM1 := Lib.hid (HM.out.on hm); clear hm)
          go_ret
          exact big_bad HE.out hX HM1.out
        · have hkp : (0 : Int) < (k : Int) := by omega
          go_wp2_with (first | (go_at_call 41; (with_reducible refine (oneR_bad B g τ y HY.out wr HRd.out).mono ?_); rintro e w1 ⟨rfl, hm⟩; have HM1 := Lib.hid (HM.out.on hm); have HR1 := Lib.hid hm.1; clear hm) | (go_at_call 40; (with_reducible refine (fail_any B g _ 12 w1 (by decide) HR1.out).mono ?_); rintro e w2 ⟨rfl, hm⟩; have HM2 := Lib.hid (HM1.out.on hm); clear hm))
          go_ret
          exact big_bad HE.out hX HM2.out
    · obtain rfl : k = 10 := by omega
      obtain ⟨y, rfl⟩ := HT.out rfl
      have HE := Lib.hid (show p = .bad y by rw [HC.out, comb_dead])
      go_wp2
      go_ret
      exact big_bad HE.out hX HM.out
end Go.Proofs.Ytkpieiolplkifaa.Rw
