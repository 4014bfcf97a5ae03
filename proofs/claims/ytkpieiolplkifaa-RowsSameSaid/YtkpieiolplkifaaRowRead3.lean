/- What a reader's count, text and end read. -/
import Derived.Test.YtkpieiolplkifaaRowRead2
namespace Go.Proofs.Ytkpieiolplkifaa.Rw
open Go.RowKit Go.Proofs.Ytkpieiolplkifaa.Mem Go.Proofs.Ytkpieiolplkifaa.Right
set_option linter.unusedVariables false

theorem rdC_then (σ : Got Unit) : (σ.then fun _ l => rdC l) = ((σ.then fun _ l => rdB l).then fun n r => if 6 < n then .bad 12 else .ok n r : Got Nat) := by rw [then_assoc]; rfl
theorem cnt_more {p : Got Nat} {x : Nat} (h : 6 < x) (hv : OneOf p x) : (p.then fun n r => if 6 < n then .bad 12 else .ok n r : Got Nat).after = p.after.fail 12 ∧ ∀ a r, ¬ (p.then fun n r => if 6 < n then .bad 12 else .ok n r : Got Nat) = .ok a r := by
  rcases hv with ⟨r, rfl⟩ | ⟨y, rfl, rfl⟩
  · simp only [then_ok, if_pos h]
    exact ⟨rfl, fun a r e => by cases e⟩
  · exact ⟨rfl, fun a r e => by cases e⟩
theorem cnt_less {p : Got Nat} {x : Nat} (h : ¬ 6 < x) (hv : OneOf p x) : (p.then fun n r => if 6 < n then .bad 12 else .ok n r : Got Nat).after = p.after ∧ ∀ a r, (p.then fun n r => if 6 < n then .bad 12 else .ok n r : Got Nat) = .ok a r → x = a := by
  rcases hv with ⟨r, rfl⟩ | ⟨y, rfl, rfl⟩
  · simp only [then_ok, if_neg h]
    exact ⟨trivial, fun a r e => by injection e⟩
  · exact ⟨rfl, fun a r e => by cases e⟩
set_option maxRecDepth 20000 in
set_option maxHeartbeats 1000000 in
theorem count_any (B g : Nat) (σ : Got Unit) (w : World) (h : Rd B w g σ) :
    Calls Try.prog 28 #[.pointer (some ⟨g, 0, none⟩)] w (NatPost B w g 255 (σ.then fun _ l => rdC l)) := by
  have H := Lib.hid h
  have HT := Lib.hid (rdC_then σ)
  clear h
  go_enter Try.func28, Try.ntmps28
  go_wp2_with (first | (go_at_call 41; (with_reducible refine (oneR_any B g σ w H.out).mono ?_); rintro e w1 ⟨a, rfl, hm1, ha, hv⟩; have HM := Lib.hid hm1; have HR := Lib.hid hm1.1; have HV := Lib.hid (show OneOf _ a from hv); clear hm1 hv) | (go_at_call 40; (with_reducible refine (fail_any B g _ 12 w1 (by decide) HR.out).mono ?_); rintro e w2 ⟨rfl, hm⟩; have HM2 := Lib.hid (HM.out.on hm); clear hm))
  · have hX2 : (6 : Int) < (a : Int) := by assumption
    obtain ⟨e1, e2⟩ := cnt_more (show 6 < a by omega) HV.out
    go_ret
    rw [HT.out]
    exact ⟨_, rfl, ha, by rw [e1]; exact HM2.out, fun a r h => absurd h (e2 a r)⟩
  · have hX2 : (a : Int) ≤ 6 := by assumption
    obtain ⟨e1, e2⟩ := cnt_less (show ¬ 6 < a by omega) HV.out
    go_ret
    rw [HT.out]
    exact ⟨_, rfl, ha, by rw [e1]; exact HM.out, e2⟩
set_option maxRecDepth 20000 in
set_option maxHeartbeats 1000000 in
theorem end_any (B g : Nat) (σ : Got Unit) (w : World) (h : Rd B w g σ) :
    Calls Try.prog 31 #[.pointer (some ⟨g, 0, none⟩)] w fun e w' => e = .returned (.tuple #[]) ∧ Moved B w g (σ.then fun _ l => rdE l) w' := by
  have H := Lib.hid h
  cases σ with
  | ok _ l =>
    cases l with
    | nil =>
      obtain ⟨hB, A, n, c, hh, hr, hl, hn, hc⟩ := h.go
      obtain ⟨c0, c1, f0, f1⟩ := rd_cells hh
      obtain rfl : 0 = n := hl
      clear hh hr h
      go_enter Try.func31, Try.ntmps31
      go_wp2
      go_end0
      exact ⟨rfl, Moved.stay H.out⟩
    | cons x t =>
      obtain ⟨hB, A, n, c, hh, hr, hl, hn, hc⟩ := h.go
      obtain ⟨c0, c1, f0, f1⟩ := rd_cells hh
      have hn0 : 0 < n := by rw [← hl]; simp
      clear hh hr hl h
      go_enter Try.func31, Try.ntmps31
      go_wp2_with (go_at_call 40; (with_reducible refine (fail_any B g _ 14 w (by decide) H.out).mono ?_); rintro e w2 ⟨rfl, hm⟩; have HM2 := Lib.hid hm; clear hm)
      go_end0
      exact ⟨rfl, HM2.out⟩
  | bad x =>
    obtain ⟨hB, hx, A, n, c, hh, hn, hc⟩ := h.dead
    obtain ⟨c0, c1, f0, f1⟩ := rd_cells hh
    by_cases hn0 : n = 0
    · subst hn0
      clear hh h hx
      go_enter Try.func31, Try.ntmps31
      go_wp2
      go_end0
      exact ⟨rfl, Moved.stay H.out⟩
    · have hn1 : 0 < n := by omega
      clear hh h hx
      go_enter Try.func31, Try.ntmps31
      go_wp2_with (go_at_call 40; (with_reducible refine (fail_any B g _ 14 w (by decide) H.out).mono ?_); rintro e w2 ⟨rfl, hm⟩; have HM2 := Lib.hid hm; clear hm)
      go_end0
      exact ⟨rfl, HM2.out⟩
/-- Bytes with their length ahead of them. -/
def rdL (l : List UInt8) : Got (List UInt8) := (rdB l).then fun c r => if 32 < c then .bad 12 else rdTk c r
theorem take_none (B g : Nat) (σ : Got Unit) (z : Int) (k : Nat) (hz : z = k) (hk : k ≤ 1000) (y : Int) (hy : (σ.then fun _ l => rdTk k l) = .bad y) (w : World) (h : Rd B w g σ) :
    Calls Try.prog 44 #[.pointer (some ⟨g, 0, none⟩), .int .i64 z] w fun e w' => ∃ c, e = .returned (.slice none 0 c) ∧ Moved B w g (.bad y) w' := by
  subst hz
  refine (take_any B g _ k w hk h).mono ?_
  rintro e w1 ⟨A, n, c, rfl, hm, hs⟩
  rw [hy] at hm hs
  rcases hs with ⟨l, r', e1, _⟩ | ⟨x, e1, rfl, rfl⟩
  · cases e1
  · exact ⟨c, rfl, hm⟩
theorem take_some (B g : Nat) (k : Nat) (l : List UInt8) (hk : k ≤ 1000) (hl : k ≤ l.length) (w : World) (h : Rd B w g (.ok () l)) :
    Calls Try.prog 44 #[.pointer (some ⟨g, 0, none⟩), .int .i64 k] w fun e w' => ∃ A c, e = .returned (.slice A k c) ∧ Moved B w g (.ok () (l.drop k)) w' ∧ Row w' B A (bys (l.take k)) := by
  have hB := h.1
  have hg := h.lt
  refine (take_any B g _ k w hk h).mono ?_
  rintro e w1 ⟨A, n, c, rfl, hm, hs⟩
  have e0 : rdTk k l = .ok (l.take k) (l.drop k) := by unfold rdTk; rw [if_neg (by omega)]
  rw [then_ok, e0] at hm hs
  rcases hs with ⟨l1, r1, e1, hr, hl1, _⟩ | ⟨x, e1, _⟩
  · injection e1 with e1 e2
    subst e1 e2
    rw [List.length_take, Nat.min_eq_left hl] at hl1
    subst hl1
    exact ⟨A, c, rfl, hm, hr.to fun p hp => (grown_to hm.2 hB hg).cell hp⟩
  · cases e1
/-- What reading a text leaves. -/
def TextPost (B : Nat) (w : World) (g : Nat) (p : Got (List UInt8)) (e : Ending) (w' : World) : Prop :=
  ∃ l : List UInt8, e = .returned (.string ⟨l.toArray⟩) ∧ Moved B w g p.after w' ∧ ((∃ r, p = .ok l r) ∨ (∃ y, p = .bad y ∧ l = []))
set_option maxRecDepth 20000 in
set_option maxHeartbeats 1000000 in
theorem textR_any (B g : Nat) (σ : Got Unit) (w : World) (h : Rd B w g σ) :
    Calls Try.prog 46 #[.pointer (some ⟨g, 0, none⟩)] w (TextPost B w g (σ.then fun _ l => rdL l)) := by
  have H := Lib.hid h
  clear h
  rcases one_cases σ with ⟨c, r, rfl⟩ | ⟨y, hy⟩
  · have hc := c.toNat_lt
    by_cases h32 : 32 < c.toNat
    · have HE := Lib.hid (show rdL (c :: r) = .bad 12 by unfold rdL rdB; simp only; rw [then_ok, if_pos h32])
      have HT := Lib.hid (show ((Got.bad 12 : Got Unit).then fun _ l => rdTk c.toNat l) = .bad 12 from rfl)
      have h32' : (32 : Int) < (c.toNat : Int) := by omega
      go_enter Try.func46, Try.ntmps46
      go_wp2_with (first | (go_at_call 41; (with_reducible refine (oneR_ok B g c r w H.out).mono ?_); rintro e w1 ⟨rfl, hm⟩; have HM1 := Lib.hid hm; have HR1 := Lib.hid hm.1; clear hm) | (go_at_call 40; (with_reducible refine (fail_any B g _ 12 w1 (by decide) HR1.out).mono ?_); rintro e w2 ⟨rfl, hm⟩; have HM2 := Lib.hid (HM1.out.on hm); have HR2 := Lib.hid (show Rd B w2 g (.bad 12) from hm.1); clear hm) | (go_at_call 44; (with_reducible refine (take_none B g (.bad 12) _ c.toNat rfl (by omega) 12 HT.out w2 HR2.out).mono ?_); rintro e w3 ⟨k, rfl, hm⟩; have HM3 := Lib.hid (HM2.out.on hm); clear hm; have hcv := fun W => convert_any W 0 0 k none [] rfl Row.none_))
      go_ret
      exact ⟨[], rfl, by rw [then_ok, HE.out]; exact HM3.out, .inr ⟨12, HE.out, rfl⟩⟩
    · have h32' : ¬ (32 : Int) < (c.toNat : Int) := by omega
      by_cases hlt : r.length < c.toNat
      · have HT := Lib.hid (show ((Got.ok () r).then fun _ l => rdTk c.toNat l) = .bad 13 by rw [then_ok]; unfold rdTk; rw [if_pos hlt])
        have HE := Lib.hid (show rdL (c :: r) = .bad 13 by unfold rdL rdB rdTk; simp only; rw [then_ok, if_neg h32, if_pos hlt])
        clear hlt
        go_enter Try.func46, Try.ntmps46
        go_wp2_with (first | (go_at_call 41; (with_reducible refine (oneR_ok B g c r w H.out).mono ?_); rintro e w1 ⟨rfl, hm⟩; have HM1 := Lib.hid hm; have HR1 := Lib.hid hm.1; clear hm) | (go_at_call 44; (with_reducible refine (take_none B g (.ok () r) _ c.toNat rfl (by omega) 13 HT.out w1 HR1.out).mono ?_); rintro e w3 ⟨k, rfl, hm⟩; have HM3 := Lib.hid (HM1.out.on hm); clear hm; have hcv := fun W => convert_any W 0 0 k none [] rfl Row.none_))
        go_ret
        exact ⟨[], rfl, by rw [then_ok, HE.out]; exact HM3.out, .inr ⟨13, HE.out, rfl⟩⟩
      · have HE := Lib.hid (show rdL (c :: r) = .ok (r.take c.toNat) (r.drop c.toNat) by unfold rdL rdB rdTk; simp only; rw [then_ok, if_neg h32, if_neg hlt])
        have HLn := Lib.hid (show (r.take c.toNat).length = c.toNat by rw [List.length_take]; omega)
        have HL := Lib.hid (show c.toNat ≤ r.length by omega)
        clear hlt
        go_enter Try.func46, Try.ntmps46
        go_wp2_with (first | (go_at_call 41; (with_reducible refine (oneR_ok B g c r w H.out).mono ?_); rintro e w1 ⟨rfl, hm⟩; have HM1 := Lib.hid hm; have HR1 := Lib.hid hm.1; clear hm) | (go_at_call 44; (with_reducible refine (take_some B g c.toNat r (by omega) HL.out w1 HR1.out).mono ?_); rintro e w3 ⟨A, k, rfl, hm, hr⟩; have HM3 := Lib.hid (HM1.out.on hm); have hcv := convert_any w3 B c.toNat k A (r.take c.toNat) HLn.out hr; clear hm hr))
        go_ret
        exact ⟨r.take c.toNat, rfl, by rw [then_ok, HE.out]; exact HM3.out, .inl ⟨_, HE.out⟩⟩
  · have HE := Lib.hid (show (σ.then fun _ l => rdL l) = .bad y by
      cases σ with
      | bad x => rw [then_bad] at hy ⊢; injection hy with hy; rw [hy]
      | ok u l => rw [then_ok] at hy ⊢; unfold rdL; rw [hy]; rfl)
    have HY := Lib.hid hy
    have HZ := Lib.hid (show (0 : Int) = ((0 : Nat) : Int) from rfl)
    have HT := Lib.hid (show ((Got.bad y : Got Unit).then fun _ l => rdTk 0 l) = .bad y from rfl)
    clear hy
    go_enter Try.func46, Try.ntmps46
    go_wp2_with (first | (go_at_call 41; (with_reducible refine (oneR_bad B g σ y HY.out w H.out).mono ?_); rintro e w1 ⟨rfl, hm⟩; have HM1 := Lib.hid hm; have HR1 := Lib.hid hm.1; clear hm) | (go_at_call 44; (with_reducible refine (take_none B g (.bad y) (0 : Int) 0 HZ.out (by decide) y HT.out w1 HR1.out).mono ?_); rintro e w3 ⟨k, rfl, hm⟩; have HM3 := Lib.hid (HM1.out.on hm); clear hm; have hcv := fun W => convert_any W 0 0 k none [] rfl Row.none_))
    go_ret
    exact ⟨[], rfl, by rw [HE.out]; exact HM3.out, .inr ⟨y, HE.out, rfl⟩⟩
end Go.Proofs.Ytkpieiolplkifaa.Rw
