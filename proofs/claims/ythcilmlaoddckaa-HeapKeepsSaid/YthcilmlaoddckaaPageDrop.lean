/- Drop. -/
import Derived.Test.YthcilmlaoddckaaPageSet
namespace Go.Proofs.Ythcilmlaoddckaa.Pg
open Go.RowKit Go.Proofs.Ythcilmlaoddckaa.Mem Go.Proofs.Ythcilmlaoddckaa.Right
set_option linter.unusedVariables false

set_option maxHeartbeats 1000000 in
theorem drop_none (A : Option Addr) (c : Nat) (S : List Sl) (z : Int) (w : World) (h : Good w A c S) (hf : ¬ (0 ≤ z ∧ full S z.toNat = true)) :
    Calls Try.prog 55 #[.slice A 512 c, .int .i64 z] w (Got w none 4) := by
  have HC := Lib.hid (check_got A c S w h)
  have HF : Hid (∀ W', Below w.heap.size w W' → Calls Try.prog 47 #[.slice A 512 c, .int .i64 z] W' fun e w' => e = .returned (.tuple #[.agg #[.bool false, .int .i64 0, .int .i64 0], .int .i64 4]) ∧ Below W'.heap.size W' w') := Lib.hid fun W' hW' => (find_any A c S z W' (h.pag.below hW')).mono fun e w' ⟨a, b⟩ => ⟨by rw [a]; unfold findV; rw [if_neg hf], b⟩
  clear h hf
  go_enter Try.func55, Try.ntmps55
  go_wp2_with first | (go_at_call 46; (with_reducible refine HC.out.mono ?_); rintro e w1 ⟨rfl, hb1⟩; have HB1 := Lib.hid hb1; clear hb1) | (go_at_call 47; (with_reducible refine (HF.out _ HB1.out).mono ?_); rintro e w2 ⟨rfl, hb2⟩; have HB2 := Lib.hid (on HB1.out hb2); clear hb2)
  go_ret2
  exact ⟨rfl, al HB2.out _⟩
/-- What the parts of Drop answer. -/
structure DropIn (A : Option Addr) (c k F T N : Nat) (L1 L2 L3 : List UInt8) (w : World) : Prop where
  chk : Calls Try.prog 46 #[.slice A 512 c] w fun e w' => e = .returned (.int .i64 0) ∧ Below w.heap.size w w'
  find : ∀ W', Below w.heap.size w W' → Calls Try.prog 47 #[.slice A 512 c, .int .i64 (k : Int)] W' fun e w' => e = .returned (.tuple #[.agg #[.bool true, .int .i64 (F : Int), .int .i64 (T : Int)], .int .i64 0]) ∧ Below W'.heap.size W' w'
  lay : ∀ W', Below w.heap.size w W' → Calls Try.prog 53 #[.slice A 512 c, .int .i64 (k : Int), .agg #[.bool true, .int .i64 (F : Int), .int .i64 (T : Int)], .slice none 0 0] W' fun e w' => ∃ g cap ex, e = .returned (.slice (some ⟨g, 0, none⟩) 512 cap) ∧ Blk w' g L1 ex ∧ Below W'.heap.size W' w' ∧ W'.heap.size ≤ g ∧ 512 ≤ cap ∧ cap ≤ 9223372036854775807 ∧ 512 + ex.length = cap
  mark : ∀ W' g cap ex, Blk W' g L1 ex → Calls Try.prog 69 #[.slice (some ⟨g, 0, none⟩) 512 cap, .int .i64 (2 * ((k : Int) + 1)), .int .i64 0] W' fun e w' => e = .returned (.tuple #[]) ∧ Blk w' g L2 ex ∧ W'.grownBy w' (some g)
  used : ∀ W' g cap ex, Blk W' g L2 ex → 512 ≤ cap → cap ≤ 9223372036854775807 → 512 + ex.length = cap → Calls Try.prog 64 #[.slice (some ⟨g, 0, none⟩) 512 cap] W' fun e w' => e = .returned (.int .i64 (N : Int)) ∧ Below W'.heap.size W' w'
  count : ∀ W' g cap ex, Blk W' g L2 ex → Calls Try.prog 69 #[.slice (some ⟨g, 0, none⟩) 512 cap, .int .i64 0, .int .i64 (N : Int)] W' fun e w' => e = .returned (.tuple #[]) ∧ Blk w' g L3 ex ∧ W'.grownBy w' (some g)
theorem Blk.below {w w' : World} {g : Nat} {L : List UInt8} {ex : List Value} (h : Blk w g L ex) (hb : Below w.heap.size w w') : Blk w' g L ex := (hb.block g (blk_lt h)).trans h
set_option maxHeartbeats 2000000 in
theorem drop_in (A : Option Addr) (c k F T N : Nat) (L1 L2 L3 : List UInt8) (w : World) (h : DropIn A c k F T N L1 L2 L3 w) (hk : k ≤ 1000) (h3 : L3.length = 512) :
    Calls Try.prog 55 #[.slice A 512 c, .int .i64 (k : Int)] w (Got w (some L3) 0) := by
  have H := Lib.hid h
  have HL := Lib.hid h3
  clear h h3
  go_enter Try.func55, Try.ntmps55
  go_wp2_with first | (go_at_call 46; (with_reducible refine H.out.chk.mono ?_); rintro e w1 ⟨rfl, hb1⟩; have HB1 := Lib.hid hb1; clear hb1) | (go_at_call 47; (with_reducible refine (H.out.find _ HB1.out).mono ?_); rintro e w2 ⟨rfl, hb2⟩; have HB2 := Lib.hid (al (on HB1.out hb2) (.cells #[.bool true, .int .i64 F, .int .i64 T] 97)); clear hb2) | (go_at_call 53; (with_reducible refine (H.out.lay _ HB2.out).mono ?_); rintro e w3 ⟨g, cap, ex, rfl, hq3, hb3, q1, q2, q3, q4⟩; have HQ3 := Lib.hid hq3; have HB3 := Lib.hid (on HB2.out hb3); have HG3 := Lib.hid (Nat.le_trans HB2.out.size q1); clear hq3 hb3 q1) | (go_at_call 70; (with_reducible refine (markAt_any _ hk _).mono ?_); rintro e w4 ⟨rfl, hw4⟩; subst hw4) | (go_at_call 69; (with_reducible refine (H.out.mark _ g cap ex HQ3.out).mono ?_); rintro e w5 ⟨rfl, hq5, hg5⟩; have HQ5 := Lib.hid hq5; have HB5 := Lib.hid (below_grown HB3.out hg5 HG3.out); clear hq5 hg5) | (go_at_call 64; (with_reducible refine (H.out.used _ g cap ex HQ5.out q2 q3 q4).mono ?_); rintro e w6 ⟨rfl, hb6⟩; have HQ6 := Lib.hid (HQ5.out.below hb6); have HB6 := Lib.hid (on HB5.out hb6); clear hb6) | (go_at_call 69; (with_reducible refine (H.out.count _ g cap ex HQ6.out).mono ?_); rintro e w7 ⟨rfl, hq7, hg7⟩; have HQ7 := Lib.hid hq7; have HB7 := Lib.hid (below_grown HB6.out hg7 HG3.out); clear hq7 hg7)
  go_ret2
  exact ⟨_, rfl, blk_made HQ7.out HB7.out HG3.out HL.out q2 q3 q4⟩
theorem nil_bs (w : World) : Bs w none 0 0 [] := ⟨Row.none_, rfl, Nat.le_refl _, by decide⟩
theorem dropIn {A : Option Addr} {c k : Nat} {S : List Sl} {d0 : List UInt8} {w : World} (h : Good w A c S) (hd : S[k]? = some (some d0)) :
    DropIn A c k (to_ S (k + 1)) (to_ S k) (lst (S.set k none)) (pg (S.set k (some []))) (pg (S.set k none)) (pg (drp S k)) w := by
  have hfull : full S k = true := by rw [full_of hd]; rfl
  obtain ⟨S1, S2, e1, e2, e3⟩ := split_at hd
  have es : S.set k none = S1 ++ none :: S2 := by
    conv => lhs; rw [e1]
    rw [set_mid S1 (some d0) none S2 e2]
  have ee : S.set k (some []) = S1 ++ some [] :: S2 := by
    conv => lhs; rw [e1]
    rw [set_mid S1 (some d0) (some []) S2 e2]
  have hfn : Fit (S.set k none) := by
    rw [es]
    have h' := h.2.fit
    rw [e1] at h'
    exact h'.none_
  have hle : (pg (S.set k (some []))).length = 512 := by
    have hr := hfn.room
    rw [es, tot_mid, List.length_append, List.length_cons] at hr
    rw [ee]
    refine len_pgn ?_
    rw [tot_mid, List.length_append, List.length_cons]
    exact hr
  have hk2 : k < S.length := (List.getElem?_eq_some_iff.1 hd).1
  have hr5 := h.2.fit.room
  refine ⟨check_got A c S w h, fun W' hW' => ?_, fun W' hW' => ?_, fun W' g cap ex hq => ?_, fun W' g cap ex hq h1 h2 h3 => ?_, fun W' g cap ex hq => ?_⟩
  · exact (find_any A c S k W' (h.pag.below hW')).mono fun e w' ⟨a, q⟩ => ⟨by rw [a]; unfold findV; rw [if_pos ⟨by omega, by rw [Int.toNat_natCast]; exact hfull⟩, Int.toNat_natCast], q⟩
  · refine (lay_at A none c 0 0 k S d0 [] w h hd (nil_bs w) (by decide) (Nat.zero_le _) W' hW').mono ?_
    rintro e w' ⟨v, rfl, hm⟩
    obtain ⟨g, cap, ex, rfl, p1, p2, p3, p4, p5⟩ := made_blk hm hle (by decide)
    exact ⟨g, cap, ex, rfl, p1, hm.2.1, p2, p3, p4, p5⟩
  · refine (putNumber_any g 512 cap (2 * (k + 1)) 0 _ 0 (by omega) rfl _ ex (by omega) (by rw [hle]; exact Nat.le_refl _) (by decide) (by decide) W' hq).mono ?_
    rintro e w' ⟨a, b, c⟩
    refine ⟨a, ?_, c⟩
    have e4 : put2 (pg (S.set k (some []))) (2 * (k + 1)) 0 = pg (S.set k none) := by
      rw [ee, es, ← e2]
      show put2 (pgn _ _) _ 0 = pgn _ _
      rw [drop_mark]
      congr 1
      simp
    rw [e4] at b
    exact b
  · have hm := blk_made (B := 0) (W := W') hq ((Below.refl W'.heap.size W').mono (Nat.zero_le _)) (Nat.zero_le _) hfn.len h1 h2 h3
    obtain ⟨A', c', ea, hb⟩ := made_bs hm hfn.len
    injection ea with ea1 ea2 ea3
    subst ea1 ea3
    exact used_any _ _ _ W' ⟨hb, hfn⟩
  · have hl := lst_le (S.set k none)
    rw [List.length_set] at hl
    refine (putNumber_any g 512 cap 0 (lst (S.set k none)) 0 _ rfl rfl _ ex (by decide) (by rw [hfn.len]; exact Nat.le_refl _) (by decide) (by omega) W' hq).mono ?_
    rintro e w' ⟨a, b, c⟩
    refine ⟨a, ?_, c⟩
    have e4 : put2 (pg (S.set k none)) 0 (lst (S.set k none)) = pg (drp S k) := by
      show put2 (pgn _ _) 0 _ = pgn _ _
      rw [put2_count]
      unfold drp
      rw [List.length_take, Nat.min_eq_left (lst_le _), pgn_trim _ _ _ (Nat.le_refl _) hfn.room]
    rw [e4] at b
    exact b
theorem drp_ok {S : List Sl} {k : Nat} {d0 : List UInt8} (h : Ok S) (hd : S[k]? = some (some d0)) : Ok (drp S k) := by
  obtain ⟨S1, S2, e1, e2, e3⟩ := split_at hd
  have es : S.set k none = S1 ++ none :: S2 := by
    conv => lhs; rw [e1]
    rw [set_mid S1 (some d0) none S2 e2]
  have hfn : Fit (S.set k none) := by
    rw [es]
    have h' := h.fit
    rw [e1] at h'
    exact h'.none_
  exact hfn.trim
/-- The answer of Drop. -/
def dropV (S : List Sl) (z : Int) : Option (List Sl) × Int := if 0 ≤ z ∧ full S z.toNat = true then (some (drp S z.toNat), 0) else (none, 4)
theorem drop_any (A : Option Addr) (c : Nat) (S : List Sl) (z : Int) (w : World) (h : Good w A c S) :
    Calls Try.prog 55 #[.slice A 512 c, .int .i64 z] w (Got w ((dropV S z).1.map pg) (dropV S z).2) := by
  unfold dropV
  by_cases hf : 0 ≤ z ∧ full S z.toNat = true
  · rw [if_pos hf]
    obtain ⟨k, rfl⟩ := Int.eq_ofNat_of_zero_le hf.1
    rw [Int.toNat_natCast] at hf ⊢
    obtain ⟨d0, hk⟩ := full_dat hf.2
    have hk2 : k < S.length := (List.getElem?_eq_some_iff.1 hk).1
    have hr5 := h.2.fit.room
    exact drop_in A c k _ _ _ _ _ _ w (dropIn h hk) (by omega) (drp_ok h.2 hk).fit.len
  · rw [if_neg hf]
    exact drop_none A c S z w h hf
/-- The answer of Get. -/
def getV (S : List Sl) (z : Int) : Option (List UInt8) × Int := if 0 ≤ z then (match S[z.toNat]? with | some (some d) => (some d, 0) | _ => (none, 4)) else (none, 4)
theorem get_any (A : Option Addr) (c : Nat) (S : List Sl) (z : Int) (w : World) (h : Good w A c S) :
    Calls Try.prog 29 #[.slice A 512 c, .int .i64 z] w (Got w (getV S z).1 (getV S z).2) := by
  by_cases hf : 0 ≤ z ∧ full S z.toNat = true
  · obtain ⟨k, rfl⟩ := Int.eq_ofNat_of_zero_le hf.1
    rw [Int.toNat_natCast] at hf
    obtain ⟨d0, hk⟩ := full_dat hf.2
    have e : getV S k = (some d0, 0) := by unfold getV; rw [if_pos (by omega), Int.toNat_natCast, hk]
    rw [e]
    exact get_some A c k S d0 w h hk
  · have e : getV S z = (none, 4) := by
      unfold getV
      by_cases h0 : 0 ≤ z
      · rw [if_pos h0]
        have hff : ¬ full S z.toNat = true := fun h1 => hf ⟨h0, h1⟩
        unfold full at hff
        split <;> simp_all
      · rw [if_neg h0]
    rw [e]
    exact get_none A c S z w h hf
end Go.Proofs.Ythcilmlaoddckaa.Pg
