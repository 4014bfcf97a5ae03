/- Lists of lists of texts: is one of them twice in its list; all of them in one list (slices What the questions about one byte answer. A variable of a row's list, wherever it stands on it: an array of texts, cell by cell. The table of signs, as the row lays it, and how long the sign is with which a text begins. -/
import Derived.Lib.AppendZerosOnto
import Derived.Test.YtcblddpapehdeaaDoorC06
import Derived.Test.YtcblddpapehdeaaDoorC01
import Derived.Test.YtcblddpapehdeaaDoorC04
import Derived.Lib.LaidTab
import Derived.MakeChecks
import Derived.OpenShut
namespace Go.Proofs.YtcblddpapehdeaaDoor.Tk
open Go.RowKit Go.Proofs.YtcblddpapehdeaaDoor.Mem Go.Proofs.YtcblddpapehdeaaDoor.Ep Go.Proofs.YtcblddpapehdeaaDoor.Right
set_option linter.unusedVariables false
/-- From A on the lists can be read. -/
def RowR (w : World) (B : Nat) (A : Option Addr) (parts : List (List Bs)) : Prop :=
  ∀ j l, parts[j]? = some l → ∃ b o P c, A = some ⟨b, o, none⟩ ∧ b < B ∧ w.cell? ⟨b, o + j, none⟩ = some (.slice P l.length c) ∧ (P = none → c = 0) ∧ Row w B P (l.map str)
theorem RowR.below {w w' : World} {B B' : Nat} {A : Option Addr} {parts : List (List Bs)} (h : RowR w B A parts) (hb : Below B' w w') (hB : B ≤ B') : RowR w' B A parts := fun j l hl => by
  obtain ⟨b, o, P, c, h1, h2, h3, h4, h5⟩ := h j l hl
  exact ⟨b, o, P, c, h1, h2, (hb.cell (p := ⟨b, o + j, none⟩) (by show b < B'; omega)).trans h3, h4, h5.below hb hB⟩
def repsB (parts : List (List Bs)) : Bool := parts.any repB
theorem reps_yes {parts : List (List Bs)} {j : Nat} {l : List Bs} (h : parts[j]? = some l) (hk : repB l = true) : repsB parts = true := by
  unfold repsB
  rw [List.any_eq_true]
  exact ⟨l, List.mem_of_getElem? h, hk⟩
theorem reps_not {parts : List (List Bs)} (h : ∀ l ∈ parts, repB l = false) : repsB parts = false := by
  unfold repsB
  rw [List.any_eq_false]
  intro v hv
  rw [h v hv]; decide
abbrev repF : Value := .func (.func 83) #[] #[]
section
variable {A : Option Addr} {c : Nat} {parts : List (List Bs)} {w : World}
set_option maxHeartbeats 2000000 in
theorem indexRep_any (n : Nat) (hn : parts.length = n) (hN : n ≤ 100000) (hz : ∀ l ∈ parts, l.length ≤ 100000 ∧ ∀ s ∈ l, s.length ≤ 1000000) (h : RowR w w.heap.size A parts) : Calls Tryd.prog 92 #[.slice A n c, repF] w fun e w' => ∃ i : Int, e = .returned (.int .i64 i) ∧ decide (0 ≤ i) = repsB parts ∧ Below w.heap.size w w' := by
  have HN := Lib.hid hn
  have H := Lib.hid h
  have HZ := Lib.hid hz
  clear hn h hz
  go_enter Tryd.func92, Tryd.ntmps92
  go_wp2
  go_loopw [8] (fun i wr => ∃ j : Nat, j ≤ n ∧ i = .int .i64 (j : Int) ∧ Hid (∀ v ∈ parts.take j, repB v = false) ∧ Hid (Below w.heap.size w wr)) (fun i _ => n + 1 - (intOf i).toNat)
  case atStart => exact ⟨0, Nat.zero_le _, rfl, Lib.hid (fun v hv => by simp at hv), Lib.hid (Below.refl _ _)⟩
  case round =>
    obtain ⟨j, hj, rfl, HT, HB⟩ := hrel
    by_cases hlt : j < n
    · have tl : decide ((j : Int) < (n : Int)) = true := decide_eq_true (by omega)
      have tl2 : decide (j < n) = true := decide_eq_true hlt
      obtain ⟨l, hl⟩ := some_at HN.out hlt
      obtain ⟨b, o, P, c1, rfl, hb, c0, hc, hr⟩ := (H.out.below HB.out (Nat.le_refl _)) j l hl
      have HV := Lib.hid hl
      have hzl := HZ.out l (List.mem_of_getElem? hl)
      obtain ⟨q, hq⟩ : ∃ q, repB l = q := ⟨_, rfl⟩
      have HQ := Lib.hid hq
      obtain ⟨m, hm⟩ : ∃ m, l.length = m := ⟨_, rfl⟩
      have HC := Lib.hid (show Calls Tryd.prog 83 #[.slice P m c1] wr fun e w' => e = .returned (.bool q) ∧ Below wr.heap.size wr w' from hq ▸ repeats_any (c := c1) m hm (by omega) hzl.2 (fun k u hu => by
        obtain ⟨b', o', g1, g2, g3⟩ := hr k u hu
        exact ⟨b', o', g1, Nat.lt_of_lt_of_le g2 HB.out.size, g3⟩))
      rw [hm] at c0
      clear hl hq hm hr hc hzl hb
      cases q with
      | true =>
        have HF := Lib.hid (reps_yes HV.out HQ.out)
        go_wp2_with (go_at_call 83; (with_reducible refine HC.out.mono ?_); rintro e1 w1 ⟨rfl, hb1⟩; have HB1 := Lib.hid (Mem.on HB.out hb1); clear hb1)
        go_ret
        exact ⟨_, rfl, by rw [HF.out]; exact decide_eq_true (by omega), HB1.out⟩
      | false =>
        have HS := Lib.hid (take_all_on (C := fun v => repB v = false) HV.out HT.out HQ.out)
        go_wp2_with (go_at_call 83; (with_reducible refine HC.out.mono ?_); rintro e1 w1 ⟨rfl, hb1⟩; have HB1 := Lib.hid (Mem.on HB.out hb1); clear hb1)
        go_roundw
        case rel => exact ⟨j + 1, by omega, by go_num, HS, HB1⟩
        case measure => simp [intOf]; omega
    · have tl : decide ((j : Int) < (n : Int)) = false := decide_eq_false (by omega)
      have HF := Lib.hid (reps_not (parts := parts) (by have h1 := HT.out; rwa [List.take_of_length_le (by have := HN.out; omega)] at h1))
      go_wp2
      go_ret
      exact ⟨-1, rfl, by rw [HF.out]; rfl, HB.out⟩
theorem containsRep_any (n : Nat) (hn : parts.length = n) (hN : n ≤ 100000) (hz : ∀ l ∈ parts, l.length ≤ 100000 ∧ ∀ s ∈ l, s.length ≤ 1000000) (h : RowR w w.heap.size A parts) : Calls Tryd.prog 54 #[.slice A n c, repF] w fun e w' => e = .returned (.bool (repsB parts)) ∧ Below w.heap.size w w' := by
  have HC := Lib.hid (indexRep_any (c := c) n hn hN hz h)
  clear hn h hz
  go_enter Tryd.func54, Tryd.ntmps54
  go_wp2_with (go_at_call 92; (with_reducible refine HC.out.mono ?_); rintro e1 w1 ⟨i, rfl, hi, hb1⟩; have HB1 := Lib.hid hb1; have HI := Lib.hid hi; clear hb1 hi)
  go_ret
  exact ⟨by rw [← HI.out]; rfl, HB1.out⟩
end
theorem grow_run (n : Nat) (h0 : 0 < n) (hn : n ≤ 100000) (w : World) : ∃ (cap : Nat) (X : Array Value), n ≤ cap ∧ cap ≤ maxLen ∧ X.size = cap ∧ ∀ ty : TypeId, (Builtin.append_ #[32, 3] ty #[.slice none 0 0, .int .i64 (n : Int)]).run Tryd.prog w = .ok (.slice (some ⟨w.heap.size, 0, none⟩) n cap) (w.drew.alloc (.cells X tS)) := by
  obtain ⟨i, hi, hz, hz1, hz2⟩ := info_parts (show (Tryd.prog.info? tS).map (fun i => (i.zero, i.size, i.bytes)) = some (some (.string ⟨#[]⟩), 1, 16) from by kernel_rfl)
  refine ⟨grownCap w n 0 tS, Builtin.zeroCells (Value.string ⟨#[]⟩).cells n ++ Builtin.zeroCells (Value.string ⟨#[]⟩).cells (grownCap w n 0 tS - n), grownCap_ge w n 0 tS, grownCap_le_maxLen w n 0 tS (by unfold maxLen; omega), ?_, fun ty => ?_⟩
  · have := grownCap_ge w n 0 tS
    rw [Array.size_append, size_zeroCells, size_zeroCells]
    show n * 1 + (grownCap w n 0 tS - n) * 1 = grownCap w n 0 tS
    omega
  · exact Lib.run_append_nil_zeros w 32 3 ty tS i _ .i64 .i64 Tryd.underlying32 Tryd.underlying3 hi hz n h0 (by rw [hz1]; decide) (by omega) (by rw [hz2]; omega)
theorem growS_any (n : Nat) (hn : n ≤ 100000) (w : World) : Calls Tryd.prog 119 #[.slice none 0 0, .int .i64 (n : Int)] w fun e w' => ∃ v, e = .returned v ∧ TS w v [] w' := by
  have t0 : decide ((n : Int) < 0) = false := decide_eq_false (by omega)
  by_cases h : 0 < n
  · have t1 : decide (0 < (n : Int)) = true := decide_eq_true (by omega)
    obtain ⟨cap, X, h1, h2, h3, h4⟩ := grow_run n h hn w
    have H1 := Lib.hid h1
    have H2 := Lib.hid h2
    have H3 := Lib.hid h3
    have H4 := Lib.hid h4
    clear h2 h3 h4
    go_enter Tryd.func119, Tryd.ntmps119
    go_wp2_with (at_builtin; refine Lib.wpList_append_run _ rfl (.tmp 20) (.tmp 21) 32 3 rfl (.slice none 0 0) (.int .i64 (n : Int)) rfl rfl _ _ (H4.out _) ?_)
    go_ret
    refine ⟨_, rfl, ⟨rfl, .inr ⟨w.heap.size, cap, X, rfl, Nat.le_refl _, heap_alloc_new _ _, Nat.zero_le _, H2.out, by rw [H3.out, Nat.mul_one], by simp⟩⟩, (al (Below.refl _ _) _).drew⟩
  · obtain rfl : n = 0 := by omega
    go_enter Tryd.func119, Tryd.ntmps119
    go_wp2
    go_ret
    exact ⟨_, rfl, ts_none (Below.refl _ _)⟩
theorem flat_on {parts : List (List Bs)} {j : Nat} {l : List Bs} (h : parts[j]? = some l) : (parts.take (j + 1)).flatten = (parts.take j).flatten ++ l := by
  rw [List.take_add_one, h, List.flatten_append]; simp
theorem flat_le {parts : List (List Bs)} {j : Nat} : (parts.take j).flatten.length ≤ parts.flatten.length := by
  have h : parts.flatten = (parts.take j).flatten ++ (parts.drop j).flatten := by rw [← List.flatten_append, List.take_append_drop]
  rw [h, List.length_append]
  omega
section
variable {A : Option Addr} {c : Nat} {parts : List (List Bs)} {w : World}
set_option maxHeartbeats 4000000 in
theorem concat_any (n : Nat) (hn : parts.length = n) (hN : n ≤ 1000) (hz : parts.flatten.length ≤ 10000) (h : RowR w w.heap.size A parts) : Calls Tryd.prog 78 #[.slice A n c] w (fun e w' => ∃ v, e = .returned v ∧ TS w v parts.flatten w') := by
  have HN := Lib.hid hn
  have H := Lib.hid h
  have HZ := Lib.hid hz
  have HFL := Lib.hid (fun j => (Nat.le_trans (flat_le (parts := parts) (j := j)) hz))
  clear hn h hz
  go_enter Tryd.func78, Tryd.ntmps78
  go_wp2
  go_loop [11, 3] (fun i u => ∃ j : Nat, j ≤ n ∧ i = .int .i64 (j : Int) ∧ u = .int .i64 (((parts.take j).flatten.length : Nat) : Int)) (fun i _ => n + 1 - (intOf i).toNat)
  case atStart => exact ⟨0, Nat.zero_le _, rfl, rfl⟩
  case round =>
    obtain ⟨j, hj, rfl, rfl⟩ := hrel
    obtain ⟨s, hs⟩ : ∃ s, (parts.take j).flatten.length = s := ⟨_, rfl⟩
    have hsm : s ≤ 10000 := hs ▸ HFL.out j
    have HS := Lib.hid hs
    rw [hs]
    clear hs
    by_cases hlt : j < n
    · --<
      have tl : decide ((j : Int) < (n : Int)) = true := decide_eq_true (by omega)
      have tl2 : decide (j < n) = true := decide_eq_true hlt
      obtain ⟨l, hl⟩ := some_at HN.out hlt
      obtain ⟨b, o, P, c1, rfl, hb, c0, hc, hr⟩ := H.out j l hl
      obtain ⟨m, hm⟩ : ∃ m, l.length = m := ⟨_, rfl⟩
      have HE := Lib.hid (show ((parts.take (j + 1)).flatten.length) = s + m from by rw [flat_on hl, List.length_append, HS.out, hm])
      have hmm : s + m ≤ 10000 := HE.out ▸ HFL.out (j + 1)
      have t3 : decide ((s : Int) + (m : Int) < 0) = false := decide_eq_false (by omega)
      rw [hm] at c0
      clear hr hc hl hm hb
      go_wp2
      go_round
      case rel => exact ⟨j + 1, by omega, by go_num, by rw [HE.out]; go_num⟩
      case measure => simp [intOf]; omega
      -->
    · have tl : decide ((j : Int) < (n : Int)) = false := decide_eq_false (by omega)
      have tl2 : decide (j < n) = false := decide_eq_false hlt
      obtain rfl : j = n := by omega
      have HG := Lib.hid (growS_any s (by omega) w)
      clear hj hlt hsm
      go_wp2_with (go_at_call 119; (with_reducible refine HG.out.mono ?_); rintro e1 w1 ⟨v1, rfl, ht1⟩; have HT1 := Lib.hid ht1; clear ht1)
      go_loopw [27, 6] (fun i u wr => ∃ (k : Nat) (v : Value), k ≤ j ∧ i = .int .i64 (k : Int) ∧ v = u ∧ Hid (TS w v ((parts.take k).flatten) wr)) (fun i _ _ => j + 1 - (intOf i).toNat)
      case atStart => exact ⟨0, _, Nat.zero_le _, rfl, rfl, HT1⟩
      case round =>
        obtain ⟨k, v, hk, rfl, rfl, HT⟩ := hrel
        by_cases hlk : k < j
        · --<
          have tk : decide ((k : Int) < (j : Int)) = true := decide_eq_true (by omega)
          have tk2 : decide (k < j) = true := decide_eq_true hlk
          obtain ⟨l, hl⟩ := some_at HN.out hlk
          obtain ⟨b, o, P, c1, rfl, hb, c0, hc, hr⟩ := (H.out.below HT.out.low (Nat.le_refl _)) k l hl
          obtain ⟨m, hm⟩ : ∃ m, l.length = m := ⟨_, rfl⟩
          rw [hm] at c0
          have HM := Lib.hid hm
          have HR := Lib.hid hr
          have HC := Lib.hid hc
          have HE := Lib.hid (show ∀ v' w', TS w v' ((parts.take k).flatten ++ l) w' → TS w v' ((parts.take (k + 1)).flatten) w' from fun v' w' g => by rw [flat_on hl]; exact g)
          have HL := Lib.hid (show (parts.take k).flatten.length + m ≤ 100000 from by have h1 := HFL.out (k + 1); rw [flat_on hl, List.length_append, hm] at h1; omega)
          clear hr hc hl hm hb
          go_wp2_with (at_builtin; refine wp_app HT.out (.tmp 31) (.tmp 32) rfl rfl rfl rfl HR.out HM.out HC.out HL.out ?_; intro v2 w2 g1 g2 g3 g4; have HR2 := Lib.hid (HE.out _ _ g1); clear g1 g2 g3 g4)
          go_roundw
          case rel => exact ⟨k + 1, _, by omega, by go_num, rfl, HR2⟩
          case measure => simp [intOf]; omega
          -->
        · have tk : decide ((k : Int) < (j : Int)) = false := decide_eq_false (by omega)
          have tk2 : decide (k < j) = false := decide_eq_false hlk
          obtain rfl : k = j := by omega
          have h1 := HT.out
          rw [List.take_of_length_le (by have := HN.out; omega)] at h1
          have HD := Lib.hid h1
          clear h1
          go_wp2
          go_ret
          exact ⟨_, rfl, HD.out⟩
end
end Go.Proofs.YtcblddpapehdeaaDoor.Tk
namespace Go.Proofs.YtcblddpapehdeaaDoor.Lx
open Go.RowKit Go.Proofs.YtcblddpapehdeaaDoor.Mem Go.Proofs.YtcblddpapehdeaaDoor.Right
set_option linter.unusedVariables false
theorem small_any (c : UInt8) (w : World) : Calls Tryd.prog 172 #[.int .u8 (c.toNat : Int)] w fun e w' => e = .returned (.bool (small c)) ∧ w = w' := by
  have H := small_num c
  cases h : decide (97 ≤ (c.toNat : Int)) with
  | true =>
    rw [h, Bool.true_and] at H
    have H := Lib.hid H
    go_enter Tryd.func172, Tryd.ntmps172
    go_wp2
    go_ret
    exact ⟨rb H.out.symm, rfl⟩
  | false =>
    rw [h, Bool.false_and] at H
    have H := Lib.hid H
    go_enter Tryd.func172, Tryd.ntmps172
    go_wp2
    go_ret
    exact ⟨rb H.out.symm, rfl⟩
theorem cap_any (c : UInt8) (w : World) : Calls Tryd.prog 175 #[.int .u8 (c.toNat : Int)] w fun e w' => e = .returned (.bool (cap c)) ∧ w = w' := by
  have H := cap_num c
  cases h : decide (65 ≤ (c.toNat : Int)) with
  | true =>
    rw [h, Bool.true_and] at H
    have H := Lib.hid H
    go_enter Tryd.func175, Tryd.ntmps175
    go_wp2
    go_ret
    exact ⟨rb H.out.symm, rfl⟩
  | false =>
    rw [h, Bool.false_and] at H
    have H := Lib.hid H
    go_enter Tryd.func175, Tryd.ntmps175
    go_wp2
    go_ret
    exact ⟨rb H.out.symm, rfl⟩
theorem dig_any (c : UInt8) (w : World) : Calls Tryd.prog 177 #[.int .u8 (c.toNat : Int)] w fun e w' => e = .returned (.bool (dig c)) ∧ w = w' := by
  have H := dig_num c
  cases h : decide (48 ≤ (c.toNat : Int)) with
  | true =>
    rw [h, Bool.true_and] at H
    have H := Lib.hid H
    go_enter Tryd.func177, Tryd.ntmps177
    go_wp2
    go_ret
    exact ⟨rb H.out.symm, rfl⟩
  | false =>
    rw [h, Bool.false_and] at H
    have H := Lib.hid H
    go_enter Tryd.func177, Tryd.ntmps177
    go_wp2
    go_ret
    exact ⟨rb H.out.symm, rfl⟩
theorem inKey_any (c : UInt8) (w : World) : Calls Tryd.prog 176 #[.int .u8 (c.toNat : Int)] w fun e w' => e = .returned (.bool (inKey c)) ∧ w = w' := by
  have H : inKey c = (cap c || ((c.toNat : Int) == 95)) := by unfold inKey; rw [eq_byte]; rfl
  cases h : cap c with
  | true =>
    rw [h, Bool.true_or] at H
    have H := Lib.hid H
    go_enter Tryd.func176, Tryd.ntmps176
    go_wp2_with (go_at_call 175; refine (cap_any c _).mono ?_; rintro e w' ⟨rfl, rfl⟩)
    go_ret
    exact ⟨rb H.out.symm, rfl⟩
  | false =>
    rw [h, Bool.false_or] at H
    have H := Lib.hid H
    go_enter Tryd.func176, Tryd.ntmps176
    go_wp2_with (go_at_call 175; refine (cap_any c _).mono ?_; rintro e w' ⟨rfl, rfl⟩)
    go_ret
    exact ⟨rb H.out.symm, rfl⟩
theorem inName_any (c : UInt8) (w : World) : Calls Tryd.prog 174 #[.int .u8 (c.toNat : Int)] w fun e w' => e = .returned (.bool (inName c)) ∧ w = w' := by
  have H : inName c = (small c || dig c || ((c.toNat : Int) == 95)) := by unfold inName; rw [eq_byte]; rfl
  cases h : small c with
  | true =>
    rw [h, Bool.true_or, Bool.true_or] at H
    have H := Lib.hid H
    go_enter Tryd.func174, Tryd.ntmps174
    go_wp2_with (first | (go_at_call 172; refine (small_any c _).mono ?_; rintro e w' ⟨rfl, rfl⟩) | (go_at_call 177; refine (dig_any c _).mono ?_; rintro e w' ⟨rfl, rfl⟩))
    go_ret
    exact ⟨rb H.out.symm, rfl⟩
  | false =>
    rw [h, Bool.false_or] at H
    cases h2 : dig c with
    | true =>
      rw [h2, Bool.true_or] at H
      have H := Lib.hid H
      go_enter Tryd.func174, Tryd.ntmps174
      go_wp2_with (first | (go_at_call 172; refine (small_any c _).mono ?_; rintro e w' ⟨rfl, rfl⟩) | (go_at_call 177; refine (dig_any c _).mono ?_; rintro e w' ⟨rfl, rfl⟩))
      go_ret
      exact ⟨rb H.out.symm, rfl⟩
    | false =>
      rw [h2, Bool.false_or] at H
      have H := Lib.hid H
      go_enter Tryd.func174, Tryd.ntmps174
      go_wp2_with (first | (go_at_call 172; refine (small_any c _).mono ?_; rintro e w' ⟨rfl, rfl⟩) | (go_at_call 177; refine (dig_any c _).mono ?_; rintro e w' ⟨rfl, rfl⟩))
      go_ret
      exact ⟨rb H.out.symm, rfl⟩
/-- No kind, if the size is nothing. -/
theorem orNone_any (k n : Nat) (w : World) : Calls Tryd.prog 178 #[.int .i64 (k : Int), .int .i64 (n : Int)] w fun e w' => e = .returned (.tuple #[.int .i64 ((orN k n).1 : Int), .int .i64 ((orN k n).2 : Int)]) ∧ w = w' := by
  by_cases h : n = 0
  · subst h
    go_enter Tryd.func178, Tryd.ntmps178
    go_wp2
    go_ret2
    exact ⟨rfl, rfl⟩
  · have H := Lib.hid (show orN k n = (k, n) from if_neg h)
    have t : ((n : Int) == 0) = false := beq_no (by omega)
    clear h
    go_enter Tryd.func178, Tryd.ntmps178
    go_wp2
    go_ret2
    exact ⟨by rw [H.out]; rfl, rfl⟩
end Go.Proofs.YtcblddpapehdeaaDoor.Lx
namespace Go.Proofs.YtcblddpapehdeaaDoor.Mem
open Go.RowKit
set_option linter.unusedVariables false
/-- What a listed variable reads as. -/
theorem laid_var {P : Program} {w : World} {n : String} {d : DataW Unit} : ∀ {l : List (String × DataW Unit)} {ps : List MemPlace}, DataW.LaidVars P w l ps → (n, d) ∈ l →
    ∃ g t cs fuel p, P.globalNamed n = some g ∧ (P.globals[g]?).map (·.type) = some t ∧ w.var? P n = some cs ∧ DataW.trod (fun _ => ()) P w 0 (fun _ => true) false fuel t cs.toList = some (d, p)
  | [], _, _, h => by simp at h
  | (n', d') :: r, ps, h, hm => by
    obtain ⟨g, t, cs, fuel, p, q, h1, h2, h3, h4, h5, _⟩ := h
    rcases List.mem_cons.1 hm with e | hm
    · injection e with e1 e2
      subst e1 e2
      exact ⟨g, t, cs, fuel, p, h1, h2, h3, h4⟩
    · exact laid_var h5 hm
/-- An array of texts on the list. -/
theorem laid_texts {P : Program} {W : World} {l : List (String × DataW Unit)} {name : String} {L : List (List UInt8)} {g : Nat} {tA tS : TypeId} {N : Nat} (h : laidMetH P l W) (hp : (l.all fun x => x.2.handleName?.isNone) = true)
    (hm : (name, (DataW.agg (L.map fun l => .lit (.string l)) : DataW Unit)) ∈ l) (hg : P.globalNamed name = some g) (ht : (P.globals[g]?).map (·.type) = some tA) (hu : P.underlying tA = some (.array N tS)) (hs : P.underlying tS = some .string) (c1 : P.cellsOf tS = 1) (hN : L.length = N) :
    ∀ (k : Nat) (v : Value), (L.map fun l => Value.string ⟨l.toArray⟩)[k]? = some v → W.cell? ⟨g, k, none⟩ = some v := by
  rw [MakeChecks.laidMetH_plain _ _ _ hp] at h
  obtain ⟨ps, hv, _, _⟩ := h
  obtain ⟨g0, t0, cs0, f0, p0, hg0, ht0, hv0, hd0⟩ := laid_var hv hm
  obtain rfl := Option.some.inj (hg.symm.trans hg0)
  obtain rfl := Option.some.inj (ht.symm.trans ht0)
  obtain ⟨xs, m1, rfl, hx1, hlen, hn, hel⟩ := DataW.trod_array hu hd0
  have hxs : xs.map (·.1) = L.map fun l => (DataW.lit (.string l) : DataW Unit) := by
    have h1 : (DataW.agg (L.map fun l => (DataW.lit (.string l) : DataW Unit))) = DataW.agg (xs.map (·.1)) := congrArg Prod.fst hx1
    injection h1 with h1
    exact h1.symm
  intro k v hv
  rw [List.getElem?_map] at hv
  obtain ⟨l, hl, rfl⟩ := Option.map_eq_some_iff.1 hv
  obtain ⟨hk, _⟩ := List.getElem?_eq_some_iff.1 hl
  have h1 := hel k (by omega)
  rw [c1, Nat.mul_one] at h1
  have hxk : k < xs.length := by rw [hn]; omega
  rw [List.getElem?_eq_getElem hxk] at h1
  obtain ⟨z, hz, hx, _⟩ := DataW.trod_string hs h1
  have h2 : (xs.map (·.1))[k]? = some (DataW.lit (.string z.data.toList) : DataW Unit) := by
    rw [List.getElem?_map, List.getElem?_eq_getElem hxk, hx]; rfl
  rw [hxs, List.getElem?_map, hl] at h2
  injection h2 with h2
  injection h2 with h2
  injection h2 with h2
  have e : z = ⟨l.toArray⟩ := by
    obtain ⟨⟨z⟩⟩ := z
    simp at h2
    rw [h2]
  have h3 : cs0.toList[k]? = some (.string z) := by
    have := congrArg (·[0]?) hz
    simpa [List.getElem?_take, List.getElem?_drop] using this
  have := World.var?_cell hg0 hv0 k
  rw [this, ← e]
  simpa using h3
end Go.Proofs.YtcblddpapehdeaaDoor.Mem
namespace Go.Proofs.YtcblddpapehdeaaDoor.Lx
open Go.RowKit Go.Proofs.YtcblddpapehdeaaDoor.Mem Go.Proofs.YtcblddpapehdeaaDoor.Right
set_option linter.unusedVariables false
/-- All signs. -/
def sgs : List (List UInt8) := [[40], [41], [44], [61], [60, 62], [60], [60, 61], [62], [62, 61], [43], [45], [42], [47], [37], [124, 124]]
def SG : List Value := sgs.map fun l => .string ⟨l.toArray⟩
/-- The variable holds them. -/
def Signs (w : World) : Prop := ∀ (k : Nat) (v : Value), SG[k]? = some v → w.cell? ⟨0, k, none⟩ = some v
theorem Signs.below {w w' : World} {B : Nat} (h : Signs w) (hb : Below B w w') (hB : 0 < B) : Signs w' := fun k v hv => (hb.cell hB).trans (h k v hv)
theorem Signs.lt {w : World} (h : Signs w) : 0 < w.heap.size := cell_lt (h 0 _ rfl)
/-- From the row's condition to the cells. -/
theorem signs_of_laid {l : List (String × DataW Unit)} {W : World} (h : laidMetH Tryd.prog l W) (hp : (l.all fun x => x.2.handleName?.isNone) = true) (hm : ("registrar/lex.signs", (Rows.laid_registrar_lex_signs : DataW Unit)) ∈ l) : Signs W :=
  laid_texts (L := sgs) h hp hm (by kernel_rfl) (by kernel_rfl) Tryd.underlying207 Tryd.underlying9 (by kernel_rfl) rfl
end Go.Proofs.YtcblddpapehdeaaDoor.Lx
