/- What a reader's values reads. -/
import Derived.Test.YtkpieiolplkifaaRowRead4
namespace Go.Proofs.Ytkpieiolplkifaa.Rw
open Go.RowKit Go.Proofs.Ytkpieiolplkifaa.Mem Go.Proofs.Ytkpieiolplkifaa.Right
set_option linter.unusedVariables false

/-- What is still read of values, when some have come. -/
def combV (m q : Nat) (acc : List Vl) (τ : Got Unit) : Got (List Vl) := τ.then fun _ l => (rdVs m q l).then fun vs r => .ok (acc ++ vs) r
theorem combV_start (m q : Nat) (σ : Got Unit) : (σ.then fun _ l => rdVs m q l) = combV m q [] σ := by
  unfold combV
  cases σ with
  | ok u l =>
    simp only [then_ok]
    cases rdVs m q l <;> simp [Got.then]
  | bad y => rfl
theorem combV_end (q : Nat) (acc : List Vl) (τ : Got Unit) : combV 0 q acc τ = τ.then fun _ r => .ok acc r := by
  unfold combV
  cases τ with
  | ok u l => simp [Got.then, rdVs]
  | bad y => rfl
theorem combV_step {m q : Nat} {acc : List Vl} {τ : Got Unit} {v : Vl} (h : ∀ a r, (τ.then fun _ l => rdV (q % 4) l) = .ok a r → v = a) :
    combV (m + 1) q acc τ = combV m (q / 4) (acc ++ [v]) (τ.then fun _ l => rdV (q % 4) l).after := by
  unfold combV
  cases τ with
  | bad y => rfl
  | ok u l =>
    simp only [then_ok, rdVs] at h ⊢
    cases hv : rdV (q % 4) l with
    | bad y => simp [Got.then, Got.after]
    | ok a r =>
      have := h a r hv
      subst this
      simp only [then_ok, Got.after]
      cases rdVs m (q / 4) r <;> simp [Got.then]
theorem combV_after {acc : List Vl} {τ : Got Unit} : (τ.then fun _ r => (.ok acc r : Got (List Vl))).after = τ := by
  cases τ <;> rfl
theorem and3 (q k : Nat) (hq : q ≤ 65535) : ∃ T : Nat, Op.shift .shr .i64 (q : Int) .i64 (2 * (k : Int)) = pure (.int .i64 (T : Int)) ∧ bits .and .i64 (T : Int) 3 = ((q / 4 ^ k % 4 : Nat) : Int) := by
  refine ⟨q / 4 ^ k, ?_, ?_⟩
  · rw [shift_shr_any _ _ _ _ (by omega)]
    show pure (Value.int .i64 ((q : Int) / 2 ^ min (2 * (k : Int)).toNat 64)) = _
    rw [show (2 * (k : Int)).toNat = 2 * k by omega]
    have e : q / 2 ^ min (2 * k) 64 = q / 4 ^ k := by
      rcases Nat.le_total (2 * k) 64 with h | h
      · rw [Nat.min_eq_left h, two_four]
      · rw [Nat.min_eq_right h]
        have h1 : 2 ^ 64 ≤ 4 ^ k := by rw [← two_four]; exact Nat.pow_le_pow_right (by decide) h
        have h2 : (2 : Nat) ^ 64 = 18446744073709551616 := by decide
        rw [Nat.div_eq_of_lt (by omega), Nat.div_eq_of_lt (by omega)]
    have e2 : (q : Int) / 2 ^ min (2 * k) 64 = ((q / 2 ^ min (2 * k) 64 : Nat) : Int) := by simp
    rw [e2, e]
  · have hT : q / 4 ^ k ≤ 65535 := Nat.le_trans (Nat.div_le_self _ _) hq
    generalize q / 4 ^ k = T at hT
    have h1 : (BitVec.ofInt 64 (T : Int)).toNat = T := by rw [BitVec.ofInt_natCast, BitVec.toNat_ofNat]; exact Nat.mod_eq_of_lt (by omega)
    have h2 : (BitVec.ofInt 64 3).toNat = 3 := by decide
    show IntKind.i64.wrap ((BitVec.ofInt 64 (T : Int) &&& BitVec.ofInt 64 3).toNat : Int) = _
    rw [BitVec.toNat_and, h1, h2, show T &&& 3 = T % 4 from Nat.and_two_pow_sub_one_eq_mod T 2, IntKind.wrap_i64]
    omega
/-- Values that the call owns, in blocks from base on. -/
def OwnV (base : Nat) (v : Value) (vs : List Vl) (w : World) : Prop := w.ownsRow base 43 3 v vs.length (cellsAll vs)
theorem OwnV.grow {base n : Nat} {v' : Value} {vs : List Vl} {w : World} (h : w.ownsRow base 43 3 v' n (cellsAll vs)) : OwnV base v' vs w := by
  have hn : n = vs.length := by have := h.1; rw [cellsAll_len] at this; omega
  subst hn
  exact h
theorem Rd.grown {B : Nat} {w w' : World} {g : Nat} {σ : Got Unit} {r : Option Nat} (h : Rd B w g σ) (hg : w.grownBy w' r) (hr : ∀ k, k ≤ g → r ≠ some k) : Rd B w' g σ := by
  have hl := h.lt
  obtain ⟨hB, A, n, c, e, hh, hn, hc, hs⟩ := h
  refine ⟨hB, A, n, c, e, (hg.block g hl (fun e => hr g (Nat.le_refl _) e.symm)).trans hh, hn, hc, ?_⟩
  rcases hs with ⟨l, e1, e2, hw, hl2⟩ | h
  · exact .inl ⟨l, e1, e2, hw.to fun p hp => World.cell?_of_block (w := w) (hg.block p.block (by omega) (fun e => hr p.block (by omega) e.symm)), hl2⟩
  · exact .inr h
/-- Values are put behind those of the call's own: the reader stands where it stood. -/
theorem Moved.grew {B : Nat} {w w1 w2 : World} {g base : Nat} {σ : Got Unit} {v : Value} {vs : List Vl} {o : Obj} (h : Moved B w g σ w1) (hg : g < w.heap.size) (hb : w.heap.size = base) (hv : OwnV base v vs w1) (hw : (w1.alloc o).grownBy w2 v.ownBlock) : Moved B w g σ w2 := by
  subst hb
  have h1 : Moved B w g σ (w1.alloc o) := h.below (al (Below.refl _ _) _)
  refine ⟨h1.1.grown hw fun k hk e => ?_, ?_⟩
  · have := (hv.lt k e).1
    omega
  · refine ⟨hw.os.trans h1.2.os, hw.tape.trans h1.2.tape, hw.output.trans h1.2.output, Nat.le_trans h1.2.size hw.size, fun k hk hr => ?_⟩
    exact (hw.block k (Nat.lt_of_lt_of_le hk h1.2.size) (fun e => by have := (hv.lt k e.symm).1; omega)).trans (h1.2.block k hk hr)
/-- What reading values leaves. -/
def ValsPost (B : Nat) (w : World) (g m : Nat) (p : Got (List Vl)) (e : Ending) (w' : World) : Prop :=
  ∃ v vs, e = .returned v ∧ Moved B w g p.after w' ∧ OwnV w.heap.size v vs w' ∧ vs.length = m ∧ (∀ a r, p = .ok a r → vs = a)
set_option maxRecDepth 20000 in
set_option maxHeartbeats 4000000 in
theorem values_rd (B g m q : Nat) (σ : Got Unit) (w : World) (hm : m ≤ 255) (hq : q ≤ 65535) (h : Rd B w g σ) :
    Calls Try.prog 30 #[.pointer (some ⟨g, 0, none⟩), .int .i64 m, .int .i64 q] w (ValsPost B w g m (σ.then fun _ l => rdVs m q l)) := by
  have HG := Lib.hid h.lt
  have H := Lib.hid h
  clear h
  generalize hp : (σ.then fun _ l => rdVs m q l) = p
  have HP := Lib.hid (show p = combV m q [] σ by rw [← hp]; exact combV_start m q σ)
  clear hp
  obtain ⟨base, hbase⟩ : ∃ base, w.heap.size = base := ⟨_, rfl⟩
  have HBs := Lib.hid hbase
  clear hbase
  go_enter Try.func30, Try.ntmps30
  go_wp2
  go_loopw [7, 10] (fun x i wr => ∃ (k : Nat) (acc : List Vl) (τ : Got Unit), k ≤ m ∧ i = .int .i64 k ∧ acc.length ≤ 255 ∧ Hid (acc.length = k) ∧ Hid (Moved B w g τ wr) ∧ Hid (OwnV base x acc wr) ∧ Hid (p = combV (m - k) (q / 4 ^ k) acc τ)) (fun _ i _ => m - (intOf i).toNat)
  case atStart => exact ⟨0, [], σ, Nat.zero_le _, rfl, by decide, Lib.hid rfl, Lib.hid (Moved.stay H.out), Lib.hid (World.ownsRow_nil _ _ _ _), Lib.hid (by rw [HP.out, Nat.sub_zero, Nat.pow_zero, Nat.div_one])⟩
  case round =>
    obtain ⟨k, acc, τ, hk, rfl, hal, HA, HM, HV, HC⟩ := hrel
    by_cases hlt : k < m
    · obtain ⟨T, hT, hT3⟩ := and3 q k hq
      have hk4 : q / 4 ^ k % 4 < 4 := by omega
      obtain ⟨K, hK⟩ : ∃ K, q / 4 ^ k % 4 = K := ⟨_, rfl⟩
      rw [hK] at hT3 hk4
      have HK := Lib.hid hK
      have HK4 := Lib.hid hk4
      have HR := Lib.hid HM.out.1
      have hlt' : (k : Int) < (m : Int) := by omega
      have HB1 := Lib.hid (show base ≤ wr.heap.size by have := HM.out.2.size; have := HBs.out; omega)
      clear hK hk4
      go_wp2_with (first | (go_at_call 42; (with_reducible refine (value_any B g K HK4.out τ wr HR.out).mono ?_); rintro e w1 ⟨v, rfl, hm1, hv1⟩; have M1 := Lib.hid (HM.out.on hm1); have V1 := Lib.hid (HV.out.kept hm1.2 (.inr (fun e => by have := (HV.out.lt g e).1; have := HG.out; have := HBs.out; omega))); have B1 := Lib.hid (Nat.le_trans HB1.out hm1.2.size); have HE := Lib.hid hv1; clear hm1 hv1) | (at_builtin; refine wp_val (x := v) elem_value base rfl (.tmp 13) (.tmp 21) rfl rfl rfl V1.out rfl (by omega) (by omega) B1.out ?_; intro x' w2 g1 g2 _; have V2 := Lib.hid (OwnV.grow g1); have M2 := Lib.hid (M1.out.grew HG.out HBs.out V1.out g2); clear g1 g2))
      go_roundw
      case rel => exact ⟨k + 1, acc ++ [v], _, by omega, by go_num, by have := HA.out; simp; omega, Lib.hid (by have := HA.out; simp; omega), M2, V2, Lib.hid (by
        have hs := combV_step (m := m - (k + 1)) (q := q / 4 ^ k) (acc := acc) (τ := τ) (v := v) (by rw [HK.out]; exact HE.out)
        rw [HC.out, show m - k = m - (k + 1) + 1 by omega, hs, Nat.div_div_eq_div_mul, ← Nat.pow_succ, HK.out])⟩
      case measure => simp [intOf]; omega
    · have HE := Lib.hid (show p = τ.then fun _ r => .ok acc r by rw [HC.out, show m - k = 0 by omega, combV_end])
      have hkm : k = m := by omega
      subst hkm
      go_wp2
      go_ret
      refine ⟨_, acc, rfl, by rw [HE.out, combV_after]; exact HM.out, by rw [HBs.out]; exact HV.out, HA.out, fun a r h => ?_⟩
      rw [HE.out] at h
      cases τ with
      | ok u l => rw [then_ok] at h; injection h
      | bad y => cases h
end Go.Proofs.Ytkpieiolplkifaa.Rw
