/- Put, where there is room; what Put answers. -/
import Derived.Test.YtgoadmkenglglaaPagePut
namespace Go.Proofs.Ytgoadmkenglglaa.Pg
open Go.RowKit Go.Proofs.Ytgoadmkenglglaa.Mem Go.Proofs.Ytgoadmkenglglaa.Right
set_option linter.unusedVariables false

set_option maxHeartbeats 2000000 in
theorem put_in (A A2 : Option Addr) (c m c2 k T R N : Nat) (S : List Sl) (L : List UInt8) (w : World) (h : PutIn A A2 c m c2 S k T R w) (hm : m ≤ 255) (hN : N = if k = S.length then m + 2 else m) (hR : N ≤ R)
    (hl : ∀ W', Below w.heap.size w W' → Calls Try.prog 34 #[.slice A 512 c, .int .i64 (k : Int), .agg #[.bool false, .int .i64 (T : Int), .int .i64 (T : Int)], .slice A2 m c2] W' fun e w' => ∃ v, e = .returned v ∧ Made W'.heap.size W' v L w') :
    Calls Try.prog 18 #[.slice A 512 c, .slice A2 m c2] w fun e w' => ∃ v, e = .returned (.tuple #[v, .int .i64 (k : Int), .int .i64 0]) ∧ Made w.heap.size w v L w' := by
  have H := Lib.hid h
  have HL := Lib.hid hl
  clear h hl
  by_cases hk : k = S.length
  · rw [if_pos hk] at hN
    subst hN
    have t1 : ((k : Int) == (S.length : Int)) = true := beq_yes (by omega)
    have t2 : decide ((R : Int) < (m : Int) + 2) = false := decide_eq_false (by omega)
    have HK := Lib.hid hk
    clear hk
    go_enter Try.func18, Try.ntmps18
    go_wp2_with first | (go_at_call 32; (with_reducible refine H.out.chk.mono ?_); rintro e w1 ⟨rfl, hb1⟩; have HB1 := Lib.hid hb1; clear hb1) | (go_at_call 33; (with_reducible refine (H.out.free _ HB1.out).mono ?_); rintro e w2 ⟨rfl, hb2⟩; have HB2 := Lib.hid (al (on HB1.out hb2) (.cells #[.bool false, .int .i64 T, .int .i64 T] 62)); have HZ2 := Lib.hid (Cel.new w2 62 #[.bool false, .int .i64 T, .int .i64 T] rfl); clear hb2) | (go_at_call 26; (with_reducible refine (H.out.count _ HB2.out).mono ?_); rintro e w3 ⟨rfl, hb3⟩; have HB3 := Lib.hid (on HB2.out hb3); have HZ3 := Lib.hid (HZ2.out.below hb3); clear hb3) | (go_at_call 25; (with_reducible refine (H.out.room _ HB3.out).mono ?_); rintro e w4 ⟨rfl, hb4⟩; have HB4 := Lib.hid (on HB3.out hb4); have HZ4 := Lib.hid (HZ3.out.below hb4); obtain ⟨⟨z0, z1, z2⟩, _⟩ := HZ4.out.three; clear hb4) | (go_at_call 34; (with_reducible refine (HL.out _ HB4.out).mono ?_); rintro e w5 ⟨v, rfl, hm5⟩; have HM5 := Lib.hid hm5; obtain ⟨A5, n5, c5, rfl⟩ := made_slice hm5; clear hm5)
    go_ret3
    exact ⟨_, rfl, HM5.out.base HB4.out HB4.out.size⟩
  · rw [if_neg hk] at hN
    subst hN
    have t1 : ((k : Int) == (S.length : Int)) = false := beq_no (by omega)
    have t2 : decide ((R : Int) < (N : Int)) = false := decide_eq_false (by omega)
    have HK := Lib.hid hk
    clear hk
    go_enter Try.func18, Try.ntmps18
    go_wp2_with first | (go_at_call 32; (with_reducible refine H.out.chk.mono ?_); rintro e w1 ⟨rfl, hb1⟩; have HB1 := Lib.hid hb1; clear hb1) | (go_at_call 33; (with_reducible refine (H.out.free _ HB1.out).mono ?_); rintro e w2 ⟨rfl, hb2⟩; have HB2 := Lib.hid (al (on HB1.out hb2) (.cells #[.bool false, .int .i64 T, .int .i64 T] 62)); have HZ2 := Lib.hid (Cel.new w2 62 #[.bool false, .int .i64 T, .int .i64 T] rfl); clear hb2) | (go_at_call 26; (with_reducible refine (H.out.count _ HB2.out).mono ?_); rintro e w3 ⟨rfl, hb3⟩; have HB3 := Lib.hid (on HB2.out hb3); have HZ3 := Lib.hid (HZ2.out.below hb3); clear hb3) | (go_at_call 25; (with_reducible refine (H.out.room _ HB3.out).mono ?_); rintro e w4 ⟨rfl, hb4⟩; have HB4 := Lib.hid (on HB3.out hb4); have HZ4 := Lib.hid (HZ3.out.below hb4); obtain ⟨⟨z0, z1, z2⟩, _⟩ := HZ4.out.three; clear hb4) | (go_at_call 34; (with_reducible refine (HL.out _ HB4.out).mono ?_); rintro e w5 ⟨v, rfl, hm5⟩; have HM5 := Lib.hid hm5; obtain ⟨A5, n5, c5, rfl⟩ := made_slice hm5; clear hm5)
    go_ret3
    exact ⟨_, rfl, HM5.out.base HB4.out HB4.out.size⟩
/-- lay, at a slot that is empty, or behind the last one. -/
theorem lay_free (A A2 : Option Addr) (c m c2 : Nat) (S : List Sl) (d : List UInt8) (w : World) (h : Good w A c S) (hd : Bs w A2 m c2 d) (h5 : d.length ≤ 255) (hr : needN S d.length ≤ roomN S) (W' : World) (hW' : Below w.heap.size w W') :
    Calls Try.prog 34 #[.slice A 512 c, .int .i64 (freeN S : Nat), .agg #[.bool false, .int .i64 (to_ S (freeN S) : Nat), .int .i64 (to_ S (freeN S) : Nat)], .slice A2 m c2] W' fun e w' => ∃ v, e = .returned v ∧ Made W'.heap.size W' v (pg (upd S (freeN S) d)) w' := by
  obtain ⟨b, o, rfl, _⟩ := h.pag.some_
  have hfit := h.2.fit.room
  have hle := freeN_le S
  have ht0 : ln (none : Sl) = 0 := rfl
  by_cases hk : freeN S = S.length
  · unfold needN roomN at hr
    rw [if_pos hk] at hr
    have hl := lay_any b o c m c2 A2 S S [] none d false (to_ S (freeN S)) W' (h.pag.below hW') (hd.below hW') (by show pgn S.length S = _; rw [pgn_more _ _ (by omega)]) (by show _ = _ + ln none + 0; omega) (by omega) (Nat.le_refl _) (by rw [hk, to_all])
      (by show 2 + 2 * (S.length + 1 + 0) + (tot S + 0 + 0) ≤ 512; omega) (by show 2 + 2 * (S.length + 1 + 0) + (tot S + d.length + 0) ≤ 512; omega)
    rw [ht0, Nat.sub_zero] at hl
    have e1 : upd S (freeN S) d = S ++ [some d] := by unfold upd; rw [if_neg (by omega)]
    have e2 : pgn (max S.length (S.length + 1)) (S ++ [some d]) = pg (S ++ [some d]) := by
      unfold pg
      rw [List.length_append]; congr 1
      show max S.length (S.length + 1) = S.length + 1
      omega
    rw [e1, hk, ← e2]
    rw [hk] at hl
    exact hl
  · have hlt : freeN S < S.length := by omega
    have hs := freeN_none hlt
    unfold needN roomN at hr
    rw [if_neg hk] at hr
    obtain ⟨S1, S2, e1, e2, e3⟩ := split_at hs
    have htk : to_ S (freeN S) = 512 - tot S1 := by unfold to_; rw [e3]
    have htm : tot S = tot S1 + ln none + tot S2 := by rw [e1, tot_mid]
    have hlen : S.length = S1.length + 1 + S2.length := by rw [e1]; simp; omega
    have hl := lay_any b o c m c2 A2 S S1 S2 none d false (to_ S (freeN S)) W' (h.pag.below hW') (hd.below hW') (by show pgn S.length S = _; rw [← e1]) htm (by omega) (by omega) htk (by omega) (by omega)
    rw [ht0, Nat.sub_zero, e2] at hl
    have e4 : upd S (freeN S) d = S1 ++ some d :: S2 := by
      unfold upd
      rw [if_pos hlt]
      conv => lhs; rw [e1]
      rw [set_mid S1 none (some d) S2 (by rw [e2, ← e1])]
    have e5 : pgn (max S.length (freeN S + 1)) (S1 ++ some d :: S2) = pg (S1 ++ some d :: S2) := by
      unfold pg
      congr 1
      rw [List.length_append, List.length_cons]
      omega
    rw [e4, ← e5]
    exact hl
theorem put_any (A A2 : Option Addr) (c m c2 : Nat) (S : List Sl) (d : List UInt8) (w : World) (h : Good w A c S) (hd : Bs w A2 m c2 d) :
    Calls Try.prog 18 #[.slice A 512 c, .slice A2 m c2] w (PutR S d w) := by
  have hm : d.length = m := hd.2.1
  unfold PutR
  by_cases h5 : 255 < d.length
  · simp only [if_pos h5]
    exact put_long A A2 c m c2 S w h (by omega)
  · simp only [if_neg h5]
    by_cases hr : roomN S < needN S d.length
    · simp only [if_pos hr]
      exact put_full A A2 c m c2 _ _ _ (needN S d.length) S w (putIn h (by omega)) (by omega) (by rw [hm]; rfl) hr
    · simp only [if_neg hr]
      exact put_in A A2 c m c2 _ _ _ (needN S d.length) S _ w (putIn h (by omega)) (by omega) (by rw [hm]; rfl) (by omega) (fun W' hW' => lay_free A A2 c m c2 S d w h hd (by omega) (by omega) W' hW')
/-- What Put leaves is a page again. -/
theorem upd_ok {S : List Sl} {d : List UInt8} (h : Ok S) (h5 : ¬ 255 < d.length) (hr : ¬ roomN S < needN S d.length) : Ok (upd S (freeN S) d) := by
  have hfit := h.fit.room
  have hle := freeN_le S
  unfold upd needN roomN at *
  by_cases hk : freeN S = S.length
  · rw [if_pos hk] at hr
    rw [if_neg (by omega)]
    exact h.more (by omega) (by omega)
  · have hlt : freeN S < S.length := by omega
    rw [if_neg hk] at hr
    rw [if_pos hlt]
    obtain ⟨S1, S2, e1, e2, e3⟩ := split_at (freeN_none hlt)
    have htm : tot S = tot S1 + ln none + tot S2 := by rw [e1, tot_mid]
    have hlen : S.length = S1.length + 1 + S2.length := by rw [e1]; simp; omega
    have e4 : S.set (freeN S) (some d) = S1 ++ some d :: S2 := by
      conv => lhs; rw [e1]
      rw [set_mid S1 none (some d) S2 (by rw [e2, ← e1])]
    rw [e4]
    have h' := h
    rw [e1] at h'
    exact h'.set (by omega) (by have : ln (none : Sl) = 0 := rfl; omega)
end Go.Proofs.Ytgoadmkenglglaa.Pg
