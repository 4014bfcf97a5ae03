/- What a reader's one reads. -/
import Derived.Test.YtkpieiolplkifaaRowTake
namespace Go.Proofs.Ytkpieiolplkifaa.Rw
open Go.RowKit Go.Proofs.Ytkpieiolplkifaa.Mem Go.Proofs.Ytkpieiolplkifaa.Right
set_option linter.unusedVariables false

theorem tk1_nil : rdTk 1 [] = .bad 13 := rfl
theorem tk1_cons (c : UInt8) (r : List UInt8) : rdTk 1 (c :: r) = .ok [c] r := by unfold rdTk; rw [if_neg (by simp)]; rfl
theorem Moved.on {B g : Nat} {w w1 w2 : World} {σ τ : Got Unit} (h : Moved B w g σ w1) (k : Moved B w1 g τ w2) : Moved B w g τ w2 := ⟨k.1, grown_trans h.2 k.2⟩
theorem take1_ok (B g : Nat) (c : UInt8) (r : List UInt8) (w : World) (h : Rd B w g (.ok () (c :: r))) :
    Calls Try.prog 44 #[.pointer (some ⟨g, 0, none⟩), .int .i64 1] w fun e w' => ∃ b o k, e = .returned (.slice (some ⟨b, o, none⟩) 1 k) ∧ Moved B w g (.ok () r) w' ∧ w'.cell? ⟨b, o, none⟩ = some (.int .u8 (c.toNat : Int)) := by
  have hB := h.1
  have hg := h.lt
  refine (show Calls _ _ #[_, .int .i64 ((1 : Nat) : Int)] _ _ from take_any B g _ 1 w (by decide) h).mono ?_
  rintro e w1 ⟨A, n, k, rfl, hm, hs⟩
  rw [then_ok, tk1_cons] at hm hs
  rcases hs with ⟨l, r', e1, hr, hl, _⟩ | ⟨x, e1, _⟩
  · injection e1 with e1 e2
    subst e1 e2
    obtain ⟨b, o, d, rfl, hb, hd, hc⟩ := hr.byte (k := 0) (by simp)
    simp at hd hl
    subst hd hl
    exact ⟨b, o, k, rfl, hm, ((grown_to hm.2 hB hg).cell (p := ⟨b, o, none⟩) hb).trans hc⟩
  · cases e1
theorem take1_bad (B g : Nat) (σ : Got Unit) (y : Int) (hy : (σ.then fun _ l => rdTk 1 l) = .bad y) (w : World) (h : Rd B w g σ) :
    Calls Try.prog 44 #[.pointer (some ⟨g, 0, none⟩), .int .i64 1] w fun e w' => ∃ k, e = .returned (.slice none 0 k) ∧ Moved B w g (.bad y) w' := by
  refine (show Calls _ _ #[_, .int .i64 ((1 : Nat) : Int)] _ _ from take_any B g _ 1 w (by decide) h).mono ?_
  rintro e w1 ⟨A, n, k, rfl, hm, hs⟩
  rw [hy] at hm hs
  rcases hs with ⟨l, r', e1, _⟩ | ⟨x, e1, rfl, rfl⟩
  · cases e1
  · exact ⟨k, rfl, hm⟩
/-- What reading a number leaves: it, as long as there was no error, and no more than so much. -/
def NumPost (B : Nat) (w : World) (g : Nat) (p : Got Nat) (e : Ending) (w' : World) : Prop :=
  ∃ x : Nat, e = .returned (.int .i64 x) ∧ Moved B w g p.after w' ∧ x ≤ 255 ∧ ((∃ r, p = .ok x r) ∨ (∃ y, p = .bad y ∧ x = 0))
set_option maxHeartbeats 1000000 in
theorem oneR_any (B g : Nat) (σ : Got Unit) (w : World) (h : Rd B w g σ) :
    Calls Try.prog 41 #[.pointer (some ⟨g, 0, none⟩)] w (NumPost B w g (σ.then fun _ l => rdB l)) := by
  have H := Lib.hid h
  have hx : (∃ c r, σ = .ok () (c :: r)) ∨ (∃ y, (σ.then fun _ l => rdTk 1 l) = .bad y ∧ (σ.then fun _ l => rdB l) = .bad y) := by
    cases σ with
    | ok _ l =>
      cases l with
      | nil => exact .inr ⟨13, rfl, rfl⟩
      | cons c r => exact .inl ⟨c, r, rfl⟩
    | bad x => exact .inr ⟨x, rfl, rfl⟩
  rcases hx with ⟨c, r, rfl⟩ | ⟨y, h1, h2⟩
  · clear h
    have hc := c.toNat_lt
    go_enter Try.func41, Try.ntmps41
    go_wp2_with (go_at_call 44; (with_reducible refine (take1_ok B g c r w H.out).mono ?_); rintro e w1 ⟨b, o, k, rfl, hm, hcell⟩; have HM := Lib.hid hm; clear hm)
    go_ret
    exact ⟨c.toNat, rfl, HM.out, by omega, .inl ⟨r, rfl⟩⟩
  · have H1 := Lib.hid h1
    have H2 := Lib.hid h2
    clear h h1 h2
    go_enter Try.func41, Try.ntmps41
    go_wp2_with (go_at_call 44; (with_reducible refine (take1_bad B g σ y H1.out w H.out).mono ?_); rintro e w1 ⟨k, rfl, hm⟩; have HM := Lib.hid hm; clear hm)
    go_ret
    exact ⟨0, rfl, by rw [H2.out]; exact HM.out, by decide, .inr ⟨y, H2.out, rfl⟩⟩
end Go.Proofs.Ytkpieiolplkifaa.Rw
