/- Set and Drop. -/
import Derived.Test.YthcilmlaoddckaaPageFrees
namespace Go.Proofs.Ythcilmlaoddckaa.Pg
open Go.RowKit Go.Proofs.Ythcilmlaoddckaa.Mem Go.Proofs.Ythcilmlaoddckaa.Right
set_option linter.unusedVariables false

set_option maxHeartbeats 1000000 in
theorem set_long (A A2 : Option Addr) (c m c2 : Nat) (S : List Sl) (z : Int) (w : World) (h : Good w A c S) (hm : 255 < m) :
    Calls Try.prog 32 #[.slice A 512 c, .int .i64 z, .slice A2 m c2] w (Got w none 3) := by
  have HC := Lib.hid (checkData_any A A2 c m c2 S w h)
  rw [if_neg (by omega)] at HC
  clear h
  go_enter Try.func32, Try.ntmps32
  go_wp2_with (go_at_call 50; (with_reducible refine HC.out.mono ?_); rintro e w1 ⟨rfl, hb1⟩; have HB1 := Lib.hid hb1; clear hb1)
  go_ret2
  exact ⟨rfl, HB1.out⟩
set_option maxHeartbeats 1000000 in
theorem set_none (A A2 : Option Addr) (c m c2 : Nat) (S : List Sl) (z : Int) (w : World) (h : Good w A c S) (hm : m ≤ 255) (hf : ¬ (0 ≤ z ∧ full S z.toNat = true)) :
    Calls Try.prog 32 #[.slice A 512 c, .int .i64 z, .slice A2 m c2] w (Got w none 4) := by
  have HC := Lib.hid (checkData_any A A2 c m c2 S w h)
  rw [if_pos hm] at HC
  have HF : Hid (∀ W', Below w.heap.size w W' → Calls Try.prog 47 #[.slice A 512 c, .int .i64 z] W' fun e w' => e = .returned (.tuple #[.agg #[.bool false, .int .i64 0, .int .i64 0], .int .i64 4]) ∧ Below W'.heap.size W' w') := Lib.hid fun W' hW' => (find_any A c S z W' (h.pag.below hW')).mono fun e w' ⟨a, b⟩ => ⟨by rw [a]; unfold findV; rw [if_neg hf], b⟩
  clear h hf
  go_enter Try.func32, Try.ntmps32
  go_wp2_with first | (go_at_call 50; (with_reducible refine HC.out.mono ?_); rintro e w1 ⟨rfl, hb1⟩; have HB1 := Lib.hid hb1; clear hb1) | (go_at_call 47; (with_reducible refine (HF.out _ HB1.out).mono ?_); rintro e w2 ⟨rfl, hb2⟩; have HB2 := Lib.hid (on HB1.out hb2); clear hb2)
  go_ret2
  exact ⟨rfl, al HB2.out _⟩
/-- What the parts of Set answer, in every later world. -/
structure SetIn (A A2 : Option Addr) (c m c2 k F T Z R : Nat) (w : World) : Prop where
  chk : Calls Try.prog 50 #[.slice A 512 c, .slice A2 m c2] w fun e w' => e = .returned (.int .i64 0) ∧ Below w.heap.size w w'
  find : ∀ W', Below w.heap.size w W' → Calls Try.prog 47 #[.slice A 512 c, .int .i64 (k : Int)] W' fun e w' => e = .returned (.tuple #[.agg #[.bool true, .int .i64 (F : Int), .int .i64 (T : Int)], .int .i64 0]) ∧ Below W'.heap.size W' w'
  size : ∀ W', Calls Try.prog 51 #[.agg #[.bool true, .int .i64 (F : Int), .int .i64 (T : Int)]] W' fun e w' => e = .returned (.int .i64 (Z : Int)) ∧ Below W'.heap.size W' w'
  room : ∀ W', Below w.heap.size w W' → Calls Try.prog 52 #[.slice A 512 c] W' fun e w' => e = .returned (.int .i64 (R : Int)) ∧ Below W'.heap.size W' w'
theorem setIn {A A2 : Option Addr} {c m c2 k : Nat} {S : List Sl} {d0 : List UInt8} {w : World} (h : Good w A c S) (hm : m ≤ 255) (hd : S[k]? = some (some d0)) : SetIn A A2 c m c2 k (to_ S (k + 1)) (to_ S k) d0.length (roomN S) w := by
  have hfull : full S k = true := by rw [full_of hd]; rfl
  have hln : to_ S (k + 1) + d0.length = to_ S k := h.2.fit.to_ln hd
  refine ⟨?_, fun W' hW' => ?_, fun W' => ?_, fun W' hW' => ?_⟩
  · have := checkData_any A A2 c m c2 S w h
    rw [if_pos hm] at this
    exact this
  · exact (find_any A c S k W' (h.pag.below hW')).mono fun e w' ⟨a, q⟩ => ⟨by rw [a]; unfold findV; rw [if_pos ⟨by omega, by rw [Int.toNat_natCast]; exact hfull⟩, Int.toNat_natCast], q⟩
  · exact (size_any true _ _ (to_down k) (to_le S k) W').mono fun e w' ⟨a, b⟩ => ⟨a.trans (ri (by omega)), b⟩
  · exact room_any A c S W' (h.pag.below hW')
set_option maxHeartbeats 1000000 in
theorem set_full (A A2 : Option Addr) (c m c2 k F T Z R : Nat) (w : World) (h : SetIn A A2 c m c2 k F T Z R w) (hm : m ≤ 255) (hZ : Z ≤ 255) (hR : Z + R < m) :
    Calls Try.prog 32 #[.slice A 512 c, .int .i64 (k : Int), .slice A2 m c2] w (Got w none 5) := by
  have H := Lib.hid h
  clear h
  have t2 : decide ((R : Int) < (m : Int) - (Z : Int)) = true := decide_eq_true (by omega)
  go_enter Try.func32, Try.ntmps32
  go_wp2_with first | (go_at_call 50; (with_reducible refine H.out.chk.mono ?_); rintro e w1 ⟨rfl, hb1⟩; have HB1 := Lib.hid hb1; clear hb1) | (go_at_call 47; (with_reducible refine (H.out.find _ HB1.out).mono ?_); rintro e w2 ⟨rfl, hb2⟩; have HB2 := Lib.hid (al (on HB1.out hb2) (.cells #[.bool true, .int .i64 F, .int .i64 T] 97)); have HZ2 := Lib.hid (Cel.new w2 97 #[.bool true, .int .i64 F, .int .i64 T] rfl); clear hb2) | (go_at_call 51; (with_reducible refine (H.out.size _).mono ?_); rintro e w3 ⟨rfl, hb3⟩; have HB3 := Lib.hid (on HB2.out hb3); have HZ3 := Lib.hid (HZ2.out.below hb3); clear hb3) | (go_at_call 52; (with_reducible refine (H.out.room _ HB3.out).mono ?_); rintro e w4 ⟨rfl, hb4⟩; have HB4 := Lib.hid (on HB3.out hb4); have HZ4 := Lib.hid (HZ3.out.below hb4); obtain ⟨⟨z0, z1, z2⟩, _⟩ := HZ4.out.three; clear hb4)
  go_ret2
  exact ⟨rfl, HB4.out⟩
set_option maxHeartbeats 1000000 in
theorem set_in (A A2 : Option Addr) (c m c2 k F T Z R : Nat) (L : List UInt8) (w : World) (h : SetIn A A2 c m c2 k F T Z R w) (hm : m ≤ 255) (hZ : Z ≤ 255) (hR : m ≤ Z + R)
    (hl : ∀ W', Below w.heap.size w W' → Calls Try.prog 53 #[.slice A 512 c, .int .i64 (k : Int), .agg #[.bool true, .int .i64 (F : Int), .int .i64 (T : Int)], .slice A2 m c2] W' fun e w' => ∃ v, e = .returned v ∧ Made W'.heap.size W' v L w') :
    Calls Try.prog 32 #[.slice A 512 c, .int .i64 (k : Int), .slice A2 m c2] w (Got w (some L) 0) := by
  have H := Lib.hid h
  have HL := Lib.hid hl
  clear h hl
  have t2 : decide ((R : Int) < (m : Int) - (Z : Int)) = false := decide_eq_false (by omega)
  go_enter Try.func32, Try.ntmps32
  go_wp2_with first | (go_at_call 50; (with_reducible refine H.out.chk.mono ?_); rintro e w1 ⟨rfl, hb1⟩; have HB1 := Lib.hid hb1; clear hb1) | (go_at_call 47; (with_reducible refine (H.out.find _ HB1.out).mono ?_); rintro e w2 ⟨rfl, hb2⟩; have HB2 := Lib.hid (al (on HB1.out hb2) (.cells #[.bool true, .int .i64 F, .int .i64 T] 97)); have HZ2 := Lib.hid (Cel.new w2 97 #[.bool true, .int .i64 F, .int .i64 T] rfl); clear hb2) | (go_at_call 51; (with_reducible refine (H.out.size _).mono ?_); rintro e w3 ⟨rfl, hb3⟩; have HB3 := Lib.hid (on HB2.out hb3); have HZ3 := Lib.hid (HZ2.out.below hb3); clear hb3) | (go_at_call 52; (with_reducible refine (H.out.room _ HB3.out).mono ?_); rintro e w4 ⟨rfl, hb4⟩; have HB4 := Lib.hid (on HB3.out hb4); have HZ4 := Lib.hid (HZ3.out.below hb4); obtain ⟨⟨z0, z1, z2⟩, _⟩ := HZ4.out.three; clear hb4) | (go_at_call 53; (with_reducible refine (HL.out _ HB4.out).mono ?_); rintro e w5 ⟨v, rfl, hm5⟩; have HM5 := Lib.hid hm5; obtain ⟨A5, n5, c5, rfl⟩ := made_slice hm5; clear hm5)
  go_ret2
  exact ⟨_, rfl, HM5.out.base HB4.out HB4.out.size⟩
/-- lay, at a slot that has data. -/
theorem lay_at (A A2 : Option Addr) (c m c2 k : Nat) (S : List Sl) (d0 d : List UInt8) (w : World) (h : Good w A c S) (hk : S[k]? = some (some d0)) (hd : Bs w A2 m c2 d) (h5 : d.length ≤ 255) (hr : d.length ≤ d0.length + roomN S) (W' : World) (hW' : Below w.heap.size w W') :
    Calls Try.prog 53 #[.slice A 512 c, .int .i64 (k : Nat), .agg #[.bool true, .int .i64 (to_ S (k + 1) : Nat), .int .i64 (to_ S k : Nat)], .slice A2 m c2] W' fun e w' => ∃ v, e = .returned v ∧ Made W'.heap.size W' v (pg (S.set k (some d))) w' := by
  obtain ⟨b, o, rfl, _⟩ := h.pag.some_
  have hfit := h.2.fit.room
  obtain ⟨S1, S2, e1, e2, e3⟩ := split_at hk
  have htk : to_ S k = 512 - tot S1 := by unfold to_; rw [e3]
  have htm : tot S = tot S1 + ln (some d0) + tot S2 := by rw [e1, tot_mid]
  have hlen : S.length = S1.length + 1 + S2.length := by rw [e1]; simp; omega
  have hl0 : ln (some d0) = d0.length := rfl
  unfold roomN at hr
  have hl := lay_any b o c m c2 A2 S S1 S2 (some d0) d true (to_ S k) W' (h.pag.below hW') (hd.below hW') (by show pgn S.length S = _; rw [← e1]) htm (by omega) (by omega) htk (by omega) (by omega)
  rw [← to_next hk, e2] at hl
  have e4 : S.set k (some d) = S1 ++ some d :: S2 := by
    conv => lhs; rw [e1]
    rw [set_mid S1 (some d0) (some d) S2 e2]
  have e5 : pgn (max S.length (k + 1)) (S1 ++ some d :: S2) = pg (S1 ++ some d :: S2) := by
    unfold pg
    congr 1
    rw [List.length_append, List.length_cons]
    omega
  rw [e4, ← e5]
  exact hl
/-- The answer of Set: an error, or the page then. -/
def setV (S : List Sl) (z : Int) (d : List UInt8) : Option (List Sl) × Int :=
  if 255 < d.length then (none, 3)
  else if 0 ≤ z ∧ full S z.toNat = true then (if ln (S[z.toNat]?.getD none) + roomN S < d.length then (none, 5) else (some (S.set z.toNat (some d)), 0))
  else (none, 4)
theorem set_any (A A2 : Option Addr) (c m c2 : Nat) (S : List Sl) (z : Int) (d : List UInt8) (w : World) (h : Good w A c S) (hd : Bs w A2 m c2 d) :
    Calls Try.prog 32 #[.slice A 512 c, .int .i64 z, .slice A2 m c2] w (Got w ((setV S z d).1.map pg) (setV S z d).2) := by
  have hm : d.length = m := hd.2.1
  unfold setV
  by_cases h5 : 255 < d.length
  · rw [if_pos h5]
    exact set_long A A2 c m c2 S z w h (by omega)
  · rw [if_neg h5]
    by_cases hf : 0 ≤ z ∧ full S z.toNat = true
    · rw [if_pos hf]
      obtain ⟨k, rfl⟩ := Int.eq_ofNat_of_zero_le hf.1
      rw [Int.toNat_natCast] at hf ⊢
      obtain ⟨d0, hk⟩ := full_dat hf.2
      have e0 : ln (S[k]?.getD none) = d0.length := by rw [hk]; rfl
      rw [e0]
      have h0 : d0.length ≤ 255 := h.2.fit.at_ hk
      by_cases hr : d0.length + roomN S < d.length
      · rw [if_pos hr]
        exact set_full A A2 c m c2 k _ _ _ _ w (setIn h (by omega) hk) (by omega) h0 (by omega)
      · rw [if_neg hr]
        exact set_in A A2 c m c2 k _ _ _ _ _ w (setIn h (by omega) hk) (by omega) h0 (by omega) (fun W' hW' => lay_at A A2 c m c2 k S d0 d w h hk hd (by omega) (by omega) W' hW')
    · rw [if_neg hf]
      exact set_none A A2 c m c2 S z w h (by omega) hf
theorem set_ok {S S' : List Sl} {z : Int} {d : List UInt8} (h : Ok S) (hs : (setV S z d).1 = some S') : Ok S' ∧ S' = S.set z.toNat (some d) ∧ 0 ≤ z ∧ full S z.toNat = true := by
  unfold setV at hs
  split at hs
  · cases hs
  · split at hs
    · rename_i h5 hf
      split at hs
      · cases hs
      · rename_i hr
        injection hs with hs
        subst hs
        refine ⟨?_, rfl, hf⟩
        obtain ⟨d0, hk⟩ := full_dat hf.2
        have e0 : ln (S[z.toNat]?.getD none) = d0.length := by rw [hk]; rfl
        rw [e0] at hr
        obtain ⟨S1, S2, e1, e2, e3⟩ := split_at hk
        have hfit := h.fit.room
        have htm : tot S = tot S1 + ln (some d0) + tot S2 := by rw [e1, tot_mid]
        have hlen : S.length = S1.length + 1 + S2.length := by rw [e1]; simp; omega
        have hl0 : ln (some d0) = d0.length := rfl
        unfold roomN at hr
        have e4 : S.set z.toNat (some d) = S1 ++ some d :: S2 := by
          conv => lhs; rw [e1]
          rw [set_mid S1 (some d0) (some d) S2 e2]
        rw [e4]
        have h' := h
        rw [e1] at h'
        exact h'.set (by omega) (by omega)
    · cases hs
end Go.Proofs.Ythcilmlaoddckaa.Pg
