/- What a reader's number, count, kinds, text and end read. -/
import Derived.Test.YtkpieiolplkifaaRowRead1
import Derived.Laws.Shifts
namespace Go.Proofs.Ytkpieiolplkifaa.Rw
open Go.RowKit Go.Proofs.Ytkpieiolplkifaa.Mem Go.Proofs.Ytkpieiolplkifaa.Right
set_option linter.unusedVariables false

/-- What reading an integer leaves: it, as long as there was no error. -/
def IntPost (B : Nat) (w : World) (g : Nat) (p : Got Int) (e : Ending) (w' : World) : Prop :=
  ∃ x : Int, e = .returned (.int .i64 x) ∧ Moved B w g p.after w' ∧ (∀ a r, p = .ok a r → x = a)
theorem wrap_i (x : Nat) (h : x < 9223372036854775808) : IntKind.i64.wrap (x : Int) = x := by rw [IntKind.wrap_i64]; omega
theorem num_less {p : Got Nat} {X : Nat} (h : X < 9223372036854775808) (hv : ∀ a r, p = .ok a r → X = a) : (p.then fun n r => if n < 9223372036854775808 then .ok (n : Int) r else .bad 12 : Got Int).after = p.after ∧ ∀ a r, (p.then fun n r => if n < 9223372036854775808 then .ok (n : Int) r else .bad 12 : Got Int) = .ok a r → (X : Int) = a := by
  cases p with
  | ok a r =>
    have := hv a r rfl
    subst this
    simp only [then_ok, if_pos h]
    exact ⟨rfl, fun a r h => by injection h⟩
  | bad y => exact ⟨rfl, fun a r h => by cases h⟩
theorem num_more {p : Got Nat} {X : Nat} (h : ¬ X < 9223372036854775808) (hv : ∀ a r, p = .ok a r → X = a) : (p.then fun n r => if n < 9223372036854775808 then .ok (n : Int) r else .bad 12 : Got Int).after = p.after.fail 12 ∧ ∀ a r, ¬ (p.then fun n r => if n < 9223372036854775808 then .ok (n : Int) r else .bad 12 : Got Int) = .ok a r := by
  cases p with
  | ok a r =>
    have := hv a r rfl
    subst this
    simp only [then_ok, if_neg h]
    exact ⟨rfl, fun a r h => by cases h⟩
  | bad y => exact ⟨rfl, fun a r h => by cases h⟩
theorem then_assoc {α β γ : Type} (p : Got α) (f : α → List UInt8 → Got β) (k : β → List UInt8 → Got γ) : (p.then f).then k = p.then fun a r => (f a r).then k := by cases p <;> rfl
theorem rdN_then (σ : Got Unit) : (σ.then fun _ l => rdN l) = ((σ.then fun _ l => rdS 0 l).then fun n r => if n < 9223372036854775808 then .ok (n : Int) r else .bad 12 : Got Int) := by rw [then_assoc]; rfl
set_option maxRecDepth 20000 in
set_option maxHeartbeats 1000000 in
theorem number_any (B g : Nat) (σ : Got Unit) (w : World) (h : Rd B w g σ) :
    Calls Try.prog 27 #[.pointer (some ⟨g, 0, none⟩)] w (IntPost B w g (σ.then fun _ l => rdN l)) := by
  have H := Lib.hid h
  have HT := Lib.hid (rdN_then σ)
  clear h
  go_enter Try.func27, Try.ntmps27
  go_wp2_with (first | (go_at_call 39; (with_reducible refine (smallR_any B g σ w H.out).mono ?_); rintro e w1 ⟨X, rfl, hX, hm, hv⟩; have HM := Lib.hid hm; have HR := Lib.hid hm.1; have HV := Lib.hid hv; clear hm hv) | (go_at_call 40; (with_reducible refine (fail_any B g _ 12 w1 (by decide) HR.out).mono ?_); rintro e w2 ⟨rfl, hm⟩; have HM2 := Lib.hid (HM.out.on hm); clear hm))
  · have hX2 : (9223372036854775807 : Int) < (X : Int) := by assumption
    obtain ⟨e1, e2⟩ := num_more (show ¬ X < 9223372036854775808 by omega) HV.out
    go_ret
    rw [HT.out]
    exact ⟨_, rfl, by rw [e1]; exact HM2.out, fun a r h => absurd h (e2 a r)⟩
  · have hX2 : (X : Int) ≤ 9223372036854775807 := by assumption
    obtain ⟨e1, e2⟩ := num_less (show X < 9223372036854775808 by omega) HV.out
    go_ret
    rw [HT.out]
    exact ⟨_, rfl, by rw [e1]; exact HM.out, e2⟩
theorem or_bytes {a b : Nat} (ha : a ≤ 255) (hb : b ≤ 255) : ∃ S : Nat, bits .or .i64 (a : Int) ((b : Int) * 256) = S ∧ S ≤ 65535 ∧ S = a + 256 * b := by
  refine ⟨a + 256 * b, ?_, by omega, rfl⟩
  rw [show ((b : Int) * 256) = ((2 ^ 8 * b : Nat) : Int) by omega, or_i64 _ _ (by omega) (by omega), or_add (by omega)]
  congr 1
  omega
theorem shift_kinds {S m : Nat} (hS : S ≤ 65535) : ∃ T : Nat, Op.shift .shr .i64 (S : Int) .i64 (2 * (m : Int)) = pure (.int .i64 (T : Int)) ∧ (S < 4 ^ m → T = 0) ∧ (¬ S < 4 ^ m → ¬ T = 0) := by
  have h63 : (S : Int) / 2 ^ min (2 * (m : Int)).toNat 64 = ((S / 2 ^ min (2 * m) 64 : Nat) : Int) := by
    rw [show (2 * (m : Int)).toNat = 2 * m by omega]
    simp
  have hlt : S < 2 ^ min (2 * m) 64 ↔ S < 4 ^ m := by
    rcases Nat.le_total (2 * m) 64 with h | h
    · rw [Nat.min_eq_left h, ← two_four]
    · rw [Nat.min_eq_right h]
      have h1 : 2 ^ 64 ≤ 4 ^ m := by rw [← two_four]; exact Nat.pow_le_pow_right (by decide) h
      have h2 : (2 : Nat) ^ 64 = 18446744073709551616 := by decide
      omega
  refine ⟨S / 2 ^ min (2 * m) 64, ?_, fun h => Nat.div_eq_of_lt (hlt.2 h), fun h e => ?_⟩
  · rw [shift_shr_any _ _ _ _ (by omega)]
    show pure (Value.int .i64 ((S : Int) / 2 ^ min (2 * (m : Int)).toNat 64)) = _
    rw [h63]
  · have h1 : 2 ^ min (2 * m) 64 ≤ S := by
      rcases Nat.lt_or_ge S (2 ^ min (2 * m) 64) with h2 | h2
      · exact absurd (hlt.1 h2) h
      · exact h2
    have := Nat.div_pos h1 (Nat.pow_pos (by decide))
    omega
/-- What reading a number of some bytes leaves. -/
def NatPost (B : Nat) (w : World) (g : Nat) (hi : Nat) (p : Got Nat) (e : Ending) (w' : World) : Prop :=
  ∃ x : Nat, e = .returned (.int .i64 x) ∧ x ≤ hi ∧ Moved B w g p.after w' ∧ (∀ a r, p = .ok a r → x = a)
def OneOf (p : Got Nat) (x : Nat) : Prop := (∃ r, p = .ok x r) ∨ ∃ y, p = .bad y ∧ x = 0
theorem kin_less {σ : Got Unit} {a b m : Nat} (h1 : OneOf (σ.then fun _ l => rdB l) a) (h2 : OneOf ((σ.then fun _ l => rdB l).after.then fun _ l => rdB l) b) (h : a + 256 * b < 4 ^ m) :
    (σ.then fun _ l => rdK m l).after = ((σ.then fun _ l => rdB l).after.then fun _ l => rdB l).after ∧ ∀ x r, (σ.then fun _ l => rdK m l) = .ok x r → a + 256 * b = x := by
  rcases h1 with ⟨r, h1⟩ | ⟨y, h1, rfl⟩
  · rcases h2 with ⟨r2, h2⟩ | ⟨y, h2, rfl⟩
    · cases σ with
      | bad z => cases h1
      | ok u l =>
        rw [then_ok] at h1
        simp only [then_ok, rdK, h1, Got.after] at h2 ⊢
        rw [h2]
        simp only [then_ok, if_pos h]
        exact ⟨trivial, fun x r' e => by injection e⟩
    · cases σ with
      | bad z => cases h1
      | ok u l =>
        rw [then_ok] at h1
        simp only [then_ok, rdK, h1, Got.after] at h2 ⊢
        rw [h2]
        exact ⟨rfl, fun x r' e => by cases e⟩
  · cases σ with
    | bad z => exact ⟨rfl, fun x r' e => by cases e⟩
    | ok u l =>
      rw [then_ok] at h1
      simp only [then_ok, rdK, h1, Got.after]
      exact ⟨rfl, fun x r' e => by cases e⟩
theorem kin_more {σ : Got Unit} {a b m : Nat} (h1 : OneOf (σ.then fun _ l => rdB l) a) (h2 : OneOf ((σ.then fun _ l => rdB l).after.then fun _ l => rdB l) b) (h : ¬ a + 256 * b < 4 ^ m) :
    (σ.then fun _ l => rdK m l).after = ((σ.then fun _ l => rdB l).after.then fun _ l => rdB l).after.fail 12 ∧ ∀ x r, ¬ (σ.then fun _ l => rdK m l) = .ok x r := by
  rcases h1 with ⟨r, h1⟩ | ⟨y, h1, rfl⟩
  · rcases h2 with ⟨r2, h2⟩ | ⟨y, h2, rfl⟩
    · cases σ with
      | bad z => cases h1
      | ok u l =>
        rw [then_ok] at h1
        simp only [then_ok, rdK, h1, Got.after] at h2 ⊢
        rw [h2]
        simp only [then_ok, if_neg h]
        exact ⟨rfl, fun x r' e => by cases e⟩
    · cases σ with
      | bad z => cases h1
      | ok u l =>
        rw [then_ok] at h1
        simp only [then_ok, rdK, h1, Got.after] at h2 ⊢
        rw [h2]
        exact ⟨rfl, fun x r' e => by cases e⟩
  · cases σ with
    | bad z => exact ⟨rfl, fun x r' e => by cases e⟩
    | ok u l =>
      rw [then_ok] at h1
      simp only [then_ok, rdK, h1, Got.after]
      exact ⟨rfl, fun x r' e => by cases e⟩
set_option maxRecDepth 20000 in
set_option maxHeartbeats 1000000 in
theorem kindsR_any (B g m : Nat) (σ : Got Unit) (w : World) (hm : m ≤ 255) (h : Rd B w g σ) :
    Calls Try.prog 29 #[.pointer (some ⟨g, 0, none⟩), .int .i64 m] w (NatPost B w g 65535 (σ.then fun _ l => rdK m l)) := by
  have H := Lib.hid h
  clear h
  go_enter Try.func29, Try.ntmps29
  go_wp2_with (first | (go_at_call 41; (with_reducible refine (oneR_any B g σ w H.out).mono ?_); rintro e w1 ⟨a, rfl, hm1, ha, hv⟩; have HM := Lib.hid hm1; have HR := Lib.hid hm1.1; have HV := Lib.hid (show OneOf _ a from hv); clear hm1 hv) | (go_at_call 41; (with_reducible refine (oneR_any B g _ w1 HR.out).mono ?_); rintro e w2 ⟨b, rfl, hm2, hb, hv2⟩; have HM2 := Lib.hid (HM.out.on hm2); have HR2 := Lib.hid hm2.1; have HV2 := Lib.hid (show OneOf _ b from hv2); clear hm2 hv2; obtain ⟨S, hS, hSl, hSe⟩ := or_bytes ha hb; obtain ⟨T, hT, hT0, hT1⟩ := shift_kinds (m := m) hSl; have HSe := Lib.hid hSe; have HT0 := Lib.hid hT0; have HT1 := Lib.hid hT1; clear hSe hT0 hT1) | (go_at_call 40; (with_reducible refine (fail_any B g _ 12 w2 (by decide) HR2.out).mono ?_); rintro e w3 ⟨rfl, hm3⟩; have HM3 := Lib.hid (HM2.out.on hm3); clear hm3))
  · have hT2 : ((T : Int) != 0) = true := by assumption
    have hlt : ¬ a + 256 * b < 4 ^ m := fun e => by
      have := HT0.out (by rw [HSe.out]; exact e)
      rw [this] at hT2; cases hT2
    obtain ⟨e1, e2⟩ := kin_more HV.out HV2.out hlt
    go_ret
    exact ⟨S, rfl, hSl, by rw [e1]; exact HM3.out, fun a r h => absurd h (e2 a r)⟩
  · have hT2 : ((T : Int) != 0) = false := by assumption
    have hlt : a + 256 * b < 4 ^ m := Classical.byContradiction fun e => by
      have h1 := HT1.out (by rw [HSe.out]; exact e)
      have h2 : ((T : Int) != 0) = true := bne_yes (by omega)
      rw [h2] at hT2; cases hT2
    obtain ⟨e1, e2⟩ := kin_less HV.out HV2.out hlt
    go_ret
    exact ⟨S, rfl, hSl, by rw [e1]; exact HM2.out, fun a r h => by rw [HSe.out]; exact e2 a r h⟩
end Go.Proofs.Ytkpieiolplkifaa.Rw
