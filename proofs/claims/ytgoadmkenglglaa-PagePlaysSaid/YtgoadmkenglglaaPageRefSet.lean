/- The document's Put and Set of slots. -/
import Derived.Test.YtgoadmkenglglaaPageRefDrop
namespace Go.Proofs.Ytgoadmkenglglaa.Pg
open Go.RowKit Go.Proofs.Ytgoadmkenglglaa.Mem Go.Proofs.Ytgoadmkenglglaa.Right
set_option linter.unusedVariables false

set_option maxHeartbeats 1000000 in
theorem set_ref_long (A A2 : Option Addr) (n c m c2 : Nat) (S : List Sl) (z : Int) (w : World) (hm : 255 < m) :
    Calls Try.prog 23 #[.slice A n c, .int .i64 z, .slice A2 m c2] w (RefG w none 3) := by
  have t1 : (255 : Int) < (m : Int) := by omega
  go_enter Try.func23, Try.ntmps23
  go_wp2
  go_ret2
  exact ⟨rfl, Below.refl _ _⟩
set_option maxHeartbeats 1000000 in
theorem set_ref_no (A A2 : Option Addr) (n c m c2 : Nat) (S : List Sl) (z : Int) (w : World) (h : RL w A n c S) (hm : m ≤ 255) (hf : ¬ (0 ≤ z ∧ full S z.toNat = true)) :
    Calls Try.prog 23 #[.slice A n c, .int .i64 z, .slice A2 m c2] w (RefG w none 4) := by
  have H := Lib.hid (has_ref A n c S z false (decide_eq_false hf) w h)
  have t1 : ¬ (255 : Int) < (m : Int) := by omega
  clear h hf
  go_enter Try.func23, Try.ntmps23
  go_wp2_with (go_at_call 40; (with_reducible refine H.out.mono ?_); rintro e w1 ⟨rfl, hb1⟩; have HB1 := Lib.hid hb1; clear hb1)
  go_ret2
  exact ⟨rfl, HB1.out⟩
/-- The world behind a slot that was written. -/
def wrote (w : World) (g k : Nat) (A : Option Addr) (m c : Nat) : World := (w.setCell ⟨g, k * 2, none⟩ (.bool true)).setCell ⟨g, k * 2 + 1, none⟩ (.slice A m c)
set_option maxHeartbeats 1000000 in
theorem set_ref_yes (A A2 : Option Addr) (n c k m c2 : Nat) (S : List Sl) (d : List UInt8) (w : World) (h : RL w A n c S) (hn : n ≤ 1000) (hm : m ≤ 255) (hd : Bs w A2 m c2 d) (hk : k < n) (hf : full S k = true) (ht : tot (S.set k (some d)) ≤ 100000)
    (x : Bool) (hx : decide (512 < 2 + 2 * n + tot (S.set k (some d))) = x) :
    Calls Try.prog 23 #[.slice A n c, .int .i64 (k : Int), .slice A2 m c2] w (if x = true then RefG w none 5 else RefG w (some (S.set k (some d))) 0) := by
  have H := Lib.hid (has_ref A n c S (k : Int) true (decide_eq_true ⟨by omega, by rw [Int.toNat_natCast]; exact hf⟩) w h)
  have HR := Lib.hid h
  have hl := h.len
  have hdl : d.length = m := hd.2.1
  have hls : (S.set k (some d)).length = n := by rw [List.length_set]; exact hl
  have hlt' : (k : Int) < (n : Int) := by omega
  have t1 : ¬ (255 : Int) < (m : Int) := by omega
  clear h hf
  go_enter Try.func23, Try.ntmps23
  go_wp2_with (go_at_call 40; (with_reducible refine H.out.mono ?_); rintro e w1 ⟨rfl, hb1⟩; have HB1 := Lib.hid hb1; clear hb1)
  go_at_call 39
  with_reducible refine (copied_got A n c S w w1 HR.out HB1.out hn).mono ?_
  rintro e w2 ⟨v, rfl, hm2⟩
  obtain ⟨g, cg, rfl, hg, hg2⟩ := hm2.copy.form (by omega)
  rw [hl] at hm2 ⊢
  obtain ⟨⟨x0, c0⟩, ⟨x1, c1⟩, f0, f1⟩ := hm2.copy.at_ hl hk
  have HS := Lib.hid (show CopyO w (S.set k (some d)) (.slice (some ⟨g, 0, none⟩) n cg) ((w2.setCell ⟨g, k * 2, none⟩ (.bool true)).setCell ⟨g, k * 2 + 1, none⟩ (.slice A2 m c2)) from hdl ▸ CopyR.set (some d) A2 c2 hm2 hl hk hg (by show Bs w A2 d.length c2 d; rw [hdl]; exact hd))
  obtain ⟨A3, c3, e3, hr3⟩ := CopyO.rl HS.out
  injection e3 with e3 e4 e5
  subst e3 e5
  have HR3 := Lib.hid hr3
  rw [hls] at hr3
  have HT := Lib.hid (size_ref _ n cg _ _ hr3 hn ht)
  have HB2 := Lib.hid (show Below w.heap.size w ((w2.setCell ⟨g, k * 2, none⟩ (.bool true)).setCell ⟨g, k * 2 + 1, none⟩ (.slice A2 m c2)) by obtain ⟨_, _, h1, _⟩ := HS.out; exact h1.2)
  obtain ⟨T, hT⟩ : ∃ T, 2 + 2 * n + tot (S.set k (some d)) = T := ⟨_, rfl⟩
  rw [hT] at HT hx
  clear hm2 hr3 e4 hd ht hT
  cases x with
  | true =>
    have hx' : (512 : Int) < (T : Int) := by have := of_decide_eq_true hx; omega
    clear hx
    go_wp2_with (go_at_call 13; (with_reducible refine HT.out.mono ?_); rintro e w3 ⟨rfl, hb3⟩; have HB3 := Lib.hid hb3; clear hb3)
    go_ret2
    exact ⟨rfl, on HB2.out HB3.out⟩
  | false =>
    have hx' : ¬ (512 : Int) < (T : Int) := by have := of_decide_eq_false hx; omega
    clear hx
    go_wp2_with (go_at_call 13; (with_reducible refine HT.out.mono ?_); rintro e w3 ⟨rfl, hb3⟩; have HB3 := Lib.hid hb3; clear hb3)
    go_ret2
    refine ⟨⟨some ⟨g, 0, none⟩, cg, by rw [hls]; rfl, ?_⟩, on HB2.out HB3.out⟩
    exact HR3.out.below HB3.out
theorem set_tot {S : List Sl} {k : Nat} {d : List UInt8} (hk : k < S.length) : tot (S.set k (some d)) + ln (S[k]?.getD none) = tot S + d.length := by
  have hs : S[k]? = some S[k] := List.getElem?_eq_getElem hk
  obtain ⟨S1, S2, e1, e2, e3⟩ := split_at hs
  have e4 : S.set k (some d) = S1 ++ some d :: S2 := by
    conv => lhs; rw [e1]
    rw [set_mid S1 _ (some d) S2 e2]
  have htm : tot S = tot S1 + ln S[k] + tot S2 := by
    conv => lhs; rw [e1]
    rw [tot_mid]
  rw [e4, tot_mid, htm, hs]
  have h1 : ln (some d) = d.length := rfl
  show _ + ln S[k] = _
  omega
/-- The document's Set. -/
theorem set_ref (A A2 : Option Addr) (n c m c2 : Nat) (S : List Sl) (z : Int) (d : List UInt8) (w : World) (h : RL w A n c S) (hS : Ok S) (hd : Bs w A2 m c2 d) (x : Option (List Sl)) (y : Int) (hx : setV S z d = (x, y)) :
    Calls Try.prog 23 #[.slice A n c, .int .i64 z, .slice A2 m c2] w (RefG w x y) := by
  have hm : d.length = m := hd.2.1
  have hfit := hS.fit.room
  have hl := h.len
  unfold setV at hx
  by_cases h5 : 255 < d.length
  · rw [if_pos h5] at hx
    cases hx
    exact set_ref_long A A2 n c m c2 S z w (by omega)
  · rw [if_neg h5] at hx
    by_cases hf : 0 ≤ z ∧ full S z.toNat = true
    · rw [if_pos hf] at hx
      obtain ⟨k, rfl⟩ := Int.eq_ofNat_of_zero_le hf.1
      rw [Int.toNat_natCast] at hf hx
      have hk : k < S.length := Nat.lt_of_not_le fun h' => by rw [full_not h'] at hf; exact absurd hf.2 (by decide)
      have ht := set_tot (d := d) hk
      have hbig : tot (S.set k (some d)) ≤ 100000 := by omega
      have hgo := fun x hx => set_ref_yes A A2 n c k m c2 S d w h (by omega) (by omega) hd (by omega) hf.2 hbig x hx
      unfold roomN at hx
      by_cases ho : ln (S[k]?.getD none) + (510 - 2 * S.length - tot S) < d.length
      · rw [if_pos ho] at hx
        cases hx
        exact hgo true (decide_eq_true (by omega))
      · rw [if_neg ho] at hx
        cases hx
        exact hgo false (decide_eq_false (by omega))
    · rw [if_neg hf] at hx
      cases hx
      exact set_ref_no A A2 n c m c2 S z w h (by omega) hf
end Go.Proofs.Ytgoadmkenglglaa.Pg
