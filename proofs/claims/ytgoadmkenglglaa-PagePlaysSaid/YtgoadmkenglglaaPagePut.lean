/- A page's calls: New, Get, Put, Set, Drop. -/
import Derived.Test.YtgoadmkenglglaaPageLay
import Derived.Test.YtgoadmkenglglaaPageFree
namespace Go.Proofs.Ytgoadmkenglglaa.Pg
open Go.RowKit Go.Proofs.Ytgoadmkenglglaa.Mem Go.Proofs.Ytgoadmkenglglaa.Right
set_option linter.unusedVariables false

theorem full_split {S : List Sl} {k : Nat} (h : full S k = true) : ∃ S1 d S2, S = S1 ++ some d :: S2 ∧ S1.length = k ∧ S1 = S.take k := by
  obtain ⟨d, hd⟩ := full_dat h
  obtain ⟨S1, S2, e1, e2, e3⟩ := split_at hd
  exact ⟨S1, d, S2, e1, e2, e3⟩
/-- A call that answers bytes and an error: the error, or bytes of the call's own. -/
def Got (w : World) (x : Option (List UInt8)) (err : Int) (e : Ending) (w' : World) : Prop :=
  match x with
  | none => e = .returned (.tuple #[.slice none 0 0, .int .i64 err]) ∧ Below w.heap.size w w'
  | some l => ∃ v, e = .returned (.tuple #[v, .int .i64 0]) ∧ Made w.heap.size w v l w'
set_option maxHeartbeats 1000000 in
theorem get_none (A : Option Addr) (c : Nat) (S : List Sl) (z : Int) (w : World) (h : Good w A c S) (hf : ¬ (0 ≤ z ∧ full S z.toNat = true)) :
    Calls Try.prog 21 #[.slice A 512 c, .int .i64 z] w (Got w none 4) := by
  have HC := Lib.hid (check_got A c S w h)
  have HF : Hid (∀ W', Below w.heap.size w W' → Calls Try.prog 35 #[.slice A 512 c, .int .i64 z] W' fun e w' => e = .returned (.tuple #[.agg #[.bool false, .int .i64 0, .int .i64 0], .int .i64 4]) ∧ Below W'.heap.size W' w') := Lib.hid fun W' hW' => (find_any A c S z W' (h.pag.below hW')).mono fun e w' ⟨a, b⟩ => ⟨by rw [a]; unfold findV; rw [if_neg hf], b⟩
  clear h hf
  go_enter Try.func21, Try.ntmps21
  go_wp2_with first | (go_at_call 14; (with_reducible refine HC.out.mono ?_); rintro e w1 ⟨rfl, hb1⟩; have HB1 := Lib.hid hb1; clear hb1) | (go_at_call 35; (with_reducible refine (HF.out _ HB1.out).mono ?_); rintro e w2 ⟨rfl, hb2⟩; have HB2 := Lib.hid (on HB1.out hb2); clear hb2)
  go_ret2
  exact ⟨rfl, al HB2.out _⟩
set_option maxHeartbeats 1000000 in
theorem get_some (A : Option Addr) (c k : Nat) (S : List Sl) (d : List UInt8) (w : World) (h : Good w A c S) (hd : S[k]? = some (some d)) :
    Calls Try.prog 21 #[.slice A 512 c, .int .i64 k] w (Got w (some d) 0) := by
  obtain ⟨b, o, rfl, _⟩ := h.pag.some_
  have HC := Lib.hid (check_got (some ⟨b, o, none⟩) c S w h)
  have hfull : full S k = true := by rw [full_of hd]; rfl
  obtain ⟨F, hF⟩ : ∃ F, to_ S (k + 1) = F := ⟨_, rfl⟩
  obtain ⟨T, hT⟩ : ∃ T, to_ S k = T := ⟨_, rfl⟩
  have hln : F + d.length = T := by rw [← hF, ← hT]; exact h.2.fit.to_ln hd
  have hd5 : d.length ≤ 255 := h.2.fit.at_ hd
  have hT5 : T ≤ 512 := by rw [← hT]; exact to_le _ _
  have HF : Hid (∀ W', Below w.heap.size w W' → Calls Try.prog 35 #[.slice (some ⟨b, o, none⟩) 512 c, .int .i64 k] W' fun e w' => e = .returned (.tuple #[.agg #[.bool true, .int .i64 F, .int .i64 T], .int .i64 0]) ∧ Below W'.heap.size W' w') := Lib.hid fun W' hW' => (find_any _ c S k W' (h.pag.below hW')).mono fun e w' ⟨a, q⟩ => ⟨by rw [a]; unfold findV; rw [if_pos ⟨by omega, by rw [Int.toNat_natCast]; exact hfull⟩, Int.toNat_natCast, hF, hT], q⟩
  have hdat : ((pg S).drop F).take (T - F) = d := by
    obtain ⟨S1, S2, e1, e2, e3⟩ := split_at hd
    have hp := (pg_data S.length (S1 := S1) (S2 := S2) (s := some d) (by rw [← e1]; exact h.2.fit.room)).2
    rw [← e1] at hp
    have e4 : 512 - tot S1 - ln (some d) = F := by
      have : to_ S k = 512 - tot S1 := by unfold to_; rw [e3]
      show _ - d.length = F
      omega
    rw [e4] at hp
    rw [show T - F = ln (some d) by show _ = d.length; omega]
    exact hp
  have HCL : Hid (∀ W', Below w.heap.size w W' → ∀ o', (F < c → o' = o + F) → Calls Try.prog 38 #[.slice (some ⟨b, o', none⟩) (T - F) (c - F)] W' fun e w' => ∃ v, e = .returned v ∧ Made W'.heap.size W' v d w') := Lib.hid fun W' hW' o' ho' => by
    have hp := bs_part (h.below hW').1 (by omega : F ≤ T) hT5 ho'
    rw [hdat] at hp
    exact clone_any b o' (T - F) (c - F) d W' hp (by omega)
  obtain ⟨o', ho', hsl⟩ := slice_two b o 512 c F T F T rfl rfl (by omega) (by have := h.1.2; omega)
  have HO := Lib.hid ho'
  clear h hd hfull hF hT hln hdat ho'
  go_enter Try.func21, Try.ntmps21
  go_wp2_with first | (go_at_call 14; (with_reducible refine HC.out.mono ?_); rintro e w1 ⟨rfl, hb1⟩; have HB1 := Lib.hid hb1; clear hb1) | (go_at_call 35; (with_reducible refine (HF.out _ HB1.out).mono ?_); rintro e w2 ⟨rfl, hb2⟩; have HB2 := Lib.hid (al (on HB1.out hb2) (.cells #[.bool true, .int .i64 F, .int .i64 T] 62)); clear hb2) | (go_at_call 38; (with_reducible refine (HCL.out _ HB2.out o' HO.out).mono ?_); rintro e w3 ⟨v, rfl, hm3⟩; obtain ⟨A3, n3, c3, rfl⟩ := made_slice hm3; have HM3 := Lib.hid hm3; clear hm3)
  go_ret2
  exact ⟨_, rfl, HM3.out.base HB2.out HB2.out.size⟩
theorem pg_nil : pg [] = zs 512 := by decide +kernel
theorem new_any (w : World) : Calls Try.prog 6 #[] w fun e w' => ∃ v, e = .returned v ∧ Made w.heap.size w v (pg []) w' := by
  obtain ⟨Z, hZ, hmk⟩ : ∃ Z : Array Value, Z = (List.replicate 512 (Value.int .u8 0)).toArray ∧ ∀ wx : World, (Instr.makeSlice 23 (.int .i64 512) (.int .i64 512)).run Try.prog wx = .ok (.slice (some ⟨wx.heap.size, 0, none⟩) 512 512) (wx.alloc (.cells Z 5)) := ⟨_, rfl, fun wx => by kernel_rfl⟩
  have HZ := Lib.hid hZ
  clear hZ
  go_enter Try.func6, Try.ntmps6
  go_wp2
  go_ret
  refine ⟨_, rfl, ?_⟩
  refine blk_made (ex := []) (L := pg []) ?_ (al (Below.refl _ _) _) (Nat.le_refl _) Ok.nil.fit.len (Nat.le_refl _) (by decide) rfl
  show (w.alloc _).heap[w.heap.size]? = _
  rw [World.alloc_heap_new, HZ.out, List.append_nil, pg_nil]
  have e : bys (zs 512) = List.replicate 512 (Value.int .u8 0) := by
    unfold bys zs
    rw [List.map_replicate]; rfl
  rw [e]
/-- The answer of Put. -/
def PutR (S : List Sl) (d : List UInt8) (w : World) (e : Ending) (w' : World) : Prop :=
  if 255 < d.length then e = .returned (.tuple #[.slice none 0 0, .int .i64 0, .int .i64 3]) ∧ Below w.heap.size w w'
  else if roomN S < needN S d.length then e = .returned (.tuple #[.slice none 0 0, .int .i64 0, .int .i64 5]) ∧ Below w.heap.size w w'
  else ∃ v, e = .returned (.tuple #[v, .int .i64 (freeN S : Nat), .int .i64 0]) ∧ Made w.heap.size w v (pg (upd S (freeN S) d)) w'
set_option maxHeartbeats 1000000 in
theorem put_long (A A2 : Option Addr) (c m c2 : Nat) (S : List Sl) (w : World) (h : Good w A c S) (hm : 255 < m) :
    Calls Try.prog 18 #[.slice A 512 c, .slice A2 m c2] w fun e w' => e = .returned (.tuple #[.slice none 0 0, .int .i64 0, .int .i64 3]) ∧ Below w.heap.size w w' := by
  have HC := Lib.hid (checkData_any A A2 c m c2 S w h)
  rw [if_neg (by omega)] at HC
  clear h
  go_enter Try.func18, Try.ntmps18
  go_wp2_with (go_at_call 32; (with_reducible refine HC.out.mono ?_); rintro e w1 ⟨rfl, hb1⟩; have HB1 := Lib.hid hb1; clear hb1)
  go_ret3
  exact ⟨rfl, HB1.out⟩
/-- What the parts of Put answer, in every later world. -/
structure PutIn (A A2 : Option Addr) (c m c2 : Nat) (S : List Sl) (k T R : Nat) (w : World) : Prop where
  chk : Calls Try.prog 32 #[.slice A 512 c, .slice A2 m c2] w fun e w' => e = .returned (.int .i64 0) ∧ Below w.heap.size w w'
  free : ∀ W', Below w.heap.size w W' → Calls Try.prog 33 #[.slice A 512 c] W' fun e w' => e = .returned (.tuple #[.int .i64 (k : Int), .agg #[.bool false, .int .i64 (T : Int), .int .i64 (T : Int)]]) ∧ Below W'.heap.size W' w'
  count : ∀ W', Below w.heap.size w W' → Calls Try.prog 26 #[.slice A 512 c] W' fun e w' => e = .returned (.int .i64 (S.length : Int)) ∧ Below W'.heap.size W' w'
  room : ∀ W', Below w.heap.size w W' → Calls Try.prog 25 #[.slice A 512 c] W' fun e w' => e = .returned (.int .i64 (R : Int)) ∧ Below W'.heap.size W' w'
theorem putIn {A A2 : Option Addr} {c m c2 : Nat} {S : List Sl} {w : World} (h : Good w A c S) (hm : m ≤ 255) : PutIn A A2 c m c2 S (freeN S) (to_ S (freeN S)) (roomN S) w := by
  refine ⟨?_, fun W' hW' => ?_, fun W' hW' => ?_, fun W' hW' => ?_⟩
  · have := checkData_any A A2 c m c2 S w h
    rw [if_pos hm] at this
    exact this
  · exact free_any A c S W' (h.pag.below hW')
  · exact (count_any A c S W' (h.pag.below hW')).mono fun e w' ⟨a, q, b⟩ => ⟨a, by rw [b]; exact below_drewN (Below.refl _ _) q⟩
  · exact room_any A c S W' (h.pag.below hW')
set_option maxHeartbeats 2000000 in
theorem put_full (A A2 : Option Addr) (c m c2 k T R N : Nat) (S : List Sl) (w : World) (h : PutIn A A2 c m c2 S k T R w) (hm : m ≤ 255) (hN : N = if k = S.length then m + 2 else m) (hR : R < N) :
    Calls Try.prog 18 #[.slice A 512 c, .slice A2 m c2] w fun e w' => e = .returned (.tuple #[.slice none 0 0, .int .i64 0, .int .i64 5]) ∧ Below w.heap.size w w' := by
  have H := Lib.hid h
  clear h
  by_cases hk : k = S.length
  · rw [if_pos hk] at hN
    subst hN
    have t1 : ((k : Int) == (S.length : Int)) = true := beq_yes (by omega)
    have t2 : decide ((R : Int) < (m : Int) + 2) = true := decide_eq_true (by omega)
    have HK := Lib.hid hk
    clear hk
    go_enter Try.func18, Try.ntmps18
    go_wp2_with first | (go_at_call 32; (with_reducible refine H.out.chk.mono ?_); rintro e w1 ⟨rfl, hb1⟩; have HB1 := Lib.hid hb1; clear hb1) | (go_at_call 33; (with_reducible refine (H.out.free _ HB1.out).mono ?_); rintro e w2 ⟨rfl, hb2⟩; have HB2 := Lib.hid (al (on HB1.out hb2) (.cells #[.bool false, .int .i64 T, .int .i64 T] 62)); clear hb2) | (go_at_call 26; (with_reducible refine (H.out.count _ HB2.out).mono ?_); rintro e w3 ⟨rfl, hb3⟩; have HB3 := Lib.hid (on HB2.out hb3); clear hb3) | (go_at_call 25; (with_reducible refine (H.out.room _ HB3.out).mono ?_); rintro e w4 ⟨rfl, hb4⟩; have HB4 := Lib.hid (on HB3.out hb4); clear hb4)
    go_ret3
    exact ⟨rfl, HB4.out⟩
  · rw [if_neg hk] at hN
    subst hN
    have t1 : ((k : Int) == (S.length : Int)) = false := beq_no (by omega)
    have t2 : decide ((R : Int) < (N : Int)) = true := decide_eq_true (by omega)
    have HK := Lib.hid hk
    clear hk
    go_enter Try.func18, Try.ntmps18
    go_wp2_with first | (go_at_call 32; (with_reducible refine H.out.chk.mono ?_); rintro e w1 ⟨rfl, hb1⟩; have HB1 := Lib.hid hb1; clear hb1) | (go_at_call 33; (with_reducible refine (H.out.free _ HB1.out).mono ?_); rintro e w2 ⟨rfl, hb2⟩; have HB2 := Lib.hid (al (on HB1.out hb2) (.cells #[.bool false, .int .i64 T, .int .i64 T] 62)); clear hb2) | (go_at_call 26; (with_reducible refine (H.out.count _ HB2.out).mono ?_); rintro e w3 ⟨rfl, hb3⟩; have HB3 := Lib.hid (on HB2.out hb3); clear hb3) | (go_at_call 25; (with_reducible refine (H.out.room _ HB3.out).mono ?_); rintro e w4 ⟨rfl, hb4⟩; have HB4 := Lib.hid (on HB3.out hb4); clear hb4)
    go_ret3
    exact ⟨rfl, HB4.out⟩
end Go.Proofs.Ytgoadmkenglglaa.Pg
