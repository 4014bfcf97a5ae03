/- Is a text in a list twice? The program's set of what it has met. Lists of lists of texts: is one of them twice in its list; all of them in one list (slices -/
import Derived.Maps.OwnSet
import Derived.Test.YtcblddpapehdeaaDoorM15
import Derived.Lib.AppendZerosOnto
namespace Go.Proofs.YtcblddpapehdeaaDoor.Tk
open Go.RowKit Go.Proofs.YtcblddpapehdeaaDoor.Mem Go.Proofs.YtcblddpapehdeaaDoor.Ep Go.Proofs.YtcblddpapehdeaaDoor.Right Go.Maps
set_option linter.unusedVariables false
abbrev tSet : TypeId := 148
abbrev tUnit : TypeId := 149
def repB (L : List Bs) : Bool := decide (¬ L.Nodup)
def keysOf (L : List Bs) : List Lit := L.map Lit.string
def SetD (L : List Bs) : DataW Unit := setOf (.agg []) (keysOf L)
theorem setD_on (L : List Bs) (s : Bs) : SetD (L ++ [s]) = (SetD L).put (.string s) (.agg []) := by
  unfold SetD keysOf
  rw [List.map_append, List.map_singleton, setOf_snoc]
theorem has_setD (L : List Bs) (s : Bs) : Maps.has (SetD L) (.string s) = decide (s ∈ L) := by
  unfold SetD keysOf
  rw [has_setOf _ _ _ (fun y hy => by obtain ⟨_, _, rfl⟩ := List.mem_map.1 hy; trivial)]
  rw [Bool.eq_iff_iff, List.any_eq_true, decide_eq_true_iff]
  constructor
  · rintro ⟨y, hy, h⟩
    obtain ⟨t, ht, rfl⟩ := List.mem_map.1 hy
    have := (WideAt.sameKey_iff (b := .string s) trivial).1 h
    injection this with e
    exact e ▸ ht
  · intro h
    exact ⟨_, List.mem_map.2 ⟨s, h, rfl⟩, WideAt.sameKey_self trivial⟩
theorem rep_yes {L : List Bs} {j : Nat} {s : Bs} (h : L[j]? = some s) (hm : s ∈ L.take j) : repB L = true := by
  unfold repB
  rw [decide_eq_true_iff]
  intro hn
  obtain ⟨i, hi, e⟩ := List.mem_iff_getElem.1 hm
  rw [List.length_take] at hi
  rw [List.getElem_take] at e
  obtain ⟨hj, e2⟩ := List.getElem?_eq_some_iff.1 h
  exact (List.pairwise_iff_getElem.1 hn) i j (by omega) hj (by omega) (by rw [e, e2])
theorem nodup_on {L : List Bs} {j : Nat} {s : Bs} (h : L[j]? = some s) (hm : ¬ s ∈ L.take j) (hn : (L.take j).Nodup) : (L.take (j + 1)).Nodup := by
  rw [List.take_add_one, h]
  show (L.take j ++ [s]).Nodup
  rw [List.nodup_append]
  exact ⟨hn, by simp, fun a ha b hb => by simp at hb; subst hb; rintro rfl; exact hm ha⟩
theorem lawS : Keyed Tryd.prog tS := string_keyed Tryd.underlying9
theorem zeroU (w : World) : (zeroValue tUnit).run Tryd.prog w = .ok (.agg #[]) w := by kernel_rfl
theorem txt_key (s : Bs) (h : s.length ≤ maxLen) : keyOf Tryd.prog tS (.string (txt s)) = some (.string s) := by
  have := Go.WideMaps.keyOf_string_mk (k := tS) Tryd.underlying9 (s := txt s) (by show s.toArray.size ≤ maxLen; simpa using h)
  rw [this]
  show some (Lit.string s.toArray.toList) = _
  simp
section
variable {A : Option Addr} {c : Nat} {L : List Bs} {w : World}
set_option maxRecDepth 100000 in
set_option maxHeartbeats 2000000 in
theorem repeats_any (n : Nat) (hn : L.length = n) (hN : n ≤ 100000) (hz : ∀ s ∈ L, s.length ≤ 1000000) (h : Row w w.heap.size A (L.map str)) : Calls Tryd.prog 83 #[.slice A n c] w fun e w' => e = .returned (.bool (repB L)) ∧ Below w.heap.size w w' := by
  have HN := Lib.hid hn
  have H := Lib.hid h
  have HZ := Lib.hid hz
  have hmm := @run_makeMap Tryd.prog
  clear hn h hz
  go_enter Tryd.func83, Tryd.ntmps83
  go_wp2
  go_loopw [11] (fun i wr => ∃ j : Nat, j ≤ n ∧ i = .int .i64 (j : Int) ∧ Hid (wr.ownsMap Tryd.prog tS unitElem w.heap.size j (SetD (L.take j))) ∧ Hid ((L.take j).Nodup) ∧ Hid (Below w.heap.size w wr)) (fun i _ => n + 1 - (intOf i).toNat)
  case atStart => exact ⟨0, Nat.zero_le _, rfl, Lib.hid (World.ownsMap_made _ _ _ _), Lib.hid (by simp), Lib.hid (al (Below.refl _ _) _)⟩
  case round =>
    obtain ⟨j, hj, rfl, HM, HT, HB⟩ := hrel
    by_cases hlt : j < n
    · --<
      have tl : decide ((j : Int) < (n : Int)) = true := decide_eq_true (by omega)
      have tl2 : decide (j < n) = true := decide_eq_true hlt
      obtain ⟨s, hs⟩ := some_at HN.out hlt
      obtain ⟨b, o, rfl, hb, c0⟩ := (H.out.below HB.out (Nat.le_refl _)) j (str s) (by rw [List.getElem?_map, hs]; rfl)
      unfold str at c0
      have HK := Lib.hid (txt_key s (Nat.le_trans (HZ.out s (List.mem_of_getElem? hs)) (by unfold maxLen; omega)))
      have HS := Lib.hid hs
      obtain ⟨q, hq⟩ : ∃ q, Maps.has (SetD (L.take j)) (.string s) = q := ⟨_, rfl⟩
      have HQ := Lib.hid (show decide (s ∈ L.take j) = q from by rw [← has_setD]; exact hq)
      clear hs
      cases q with
      | true =>
        have HF := Lib.hid (rep_yes HS.out (of_decide_eq_true HQ.out))
        go_wp2_with (first | (at_lookup; refine wpList_lookup_own_unit _ rfl _ _ tSet rfl tS tUnit lawS Tryd.underlying148 (zeroU _) w.heap.size j _ rfl HM.out _ _ rfl HK.out ?_; rw [hq]) | go_in)
        go_ret
        exact ⟨rb HF.out.symm, al HB.out _⟩
      | false =>
        have HT2 := Lib.hid (nodup_on HS.out (of_decide_eq_false HQ.out) HT.out)
        have HE := Lib.hid (show SetD (L.take (j + 1)) = (SetD (L.take j)).put (.string s) (.agg []) from by rw [List.take_add_one, HS.out]; exact setD_on _ _)
        go_wp2_with (first | (at_lookup; refine wpList_lookup_own_unit _ rfl _ _ tSet rfl tS tUnit lawS Tryd.underlying148 (zeroU _) w.heap.size j _ rfl HM.out _ _ rfl HK.out ?_; rw [hq]) | (at_mapUpdate; refine wpList_mapUpdate_own _ rfl _ _ _ tSet rfl tS tUnit lawS Tryd.underlying148 (unitElem (H := Unit)) w.heap.size j _ rfl (HM.out.alloc _) (by unfold maxLen; omega) _ _ _ rfl rfl HK.out _ [] unitElem_mk ?_; intro w1 hown1 hgrow1; have HO1 := Lib.hid hown1; have HG1 := Lib.hid hgrow1; clear hown1 hgrow1) | go_in)
        go_roundw
        case rel => exact ⟨j + 1, by omega, by go_num, by rw [HE.out]; exact HO1, HT2, Lib.hid ((al HB.out _).grown HG1.out (al HB.out _).size (fun j hj => by cases hj; exact Nat.le_refl _))⟩
        case measure => simp [intOf]; omega
      -->
    · have tl : decide ((j : Int) < (n : Int)) = false := decide_eq_false (by omega)
      have tl2 : decide (j < n) = false := decide_eq_false hlt
      have HF := Lib.hid (show repB L = false from by
        have h1 := HT.out
        rw [List.take_of_length_le (by have := HN.out; omega)] at h1
        unfold repB
        rw [decide_eq_false_iff_not]
        exact fun g => g h1)
      go_wp2
      go_ret
      exact ⟨rb HF.out.symm, HB.out⟩
end
end Go.Proofs.YtcblddpapehdeaaDoor.Tk
namespace Go.Proofs.YtcblddpapehdeaaDoor.Tk
open Go.RowKit Go.Proofs.YtcblddpapehdeaaDoor.Mem Go.Proofs.YtcblddpapehdeaaDoor.Ep Go.Proofs.YtcblddpapehdeaaDoor.Right
set_option linter.unusedVariables false
/-- From A on the lists can be read. -/
def RowR (w : World) (B : Nat) (A : Option Addr) (parts : List (List Bs)) : Prop :=
  ∀ j l, parts[j]? = some l → ∃ b o P c, A = some ⟨b, o, none⟩ ∧ b < B ∧ w.cell? ⟨b, o + j, none⟩ = some (.slice P l.length c) ∧ (P = none → c = 0) ∧ Row w B P (l.map str)
theorem RowR.below {w w' : World} {B B' : Nat} {A : Option Addr} {parts : List (List Bs)} (h : RowR w B A parts) (hb : Below B' w w') (hB : B ≤ B') : RowR w' B A parts := fun j l hl => by
  obtain ⟨b, o, P, c, h1, h2, h3, h4, h5⟩ := h j l hl
  exact ⟨b, o, P, c, h1, h2, (hb.cell (p := ⟨b, o + j, none⟩) (by show b < B'; omega)).trans h3, h4, h5.below hb hB⟩
def repsB (parts : List (List Bs)) : Bool := parts.any repB
theorem reps_yes {parts : List (List Bs)} {j : Nat} {l : List Bs} (h : parts[j]? = some l) (hk : repB l = true) : repsB parts = true := by
  unfold repsB
  rw [List.any_eq_true]
  exact ⟨l, List.mem_of_getElem? h, hk⟩
theorem reps_not {parts : List (List Bs)} (h : ∀ l ∈ parts, repB l = false) : repsB parts = false := by
  unfold repsB
  rw [List.any_eq_false]
  intro v hv
  rw [h v hv]; decide
abbrev repF : Value := .func (.func 83) #[] #[]
section
variable {A : Option Addr} {c : Nat} {parts : List (List Bs)} {w : World}
set_option maxHeartbeats 2000000 in
theorem indexRep_any (n : Nat) (hn : parts.length = n) (hN : n ≤ 100000) (hz : ∀ l ∈ parts, l.length ≤ 100000 ∧ ∀ s ∈ l, s.length ≤ 1000000) (h : RowR w w.heap.size A parts) : Calls Tryd.prog 92 #[.slice A n c, repF] w fun e w' => ∃ i : Int, e = .returned (.int .i64 i) ∧ decide (0 ≤ i) = repsB parts ∧ Below w.heap.size w w' := by
  have HN := Lib.hid hn
  have H := Lib.hid h
  have HZ := Lib.hid hz
  clear hn h hz
  go_enter Tryd.func92, Tryd.ntmps92
  go_wp2
  go_loopw [8] (fun i wr => ∃ j : Nat, j ≤ n ∧ i = .int .i64 (j : Int) ∧ Hid (∀ v ∈ parts.take j, repB v = false) ∧ Hid (Below w.heap.size w wr)) (fun i _ => n + 1 - (intOf i).toNat)
  case atStart => exact ⟨0, Nat.zero_le _, rfl, Lib.hid (fun v hv => by simp at hv), Lib.hid (Below.refl _ _)⟩
  case round =>
    obtain ⟨j, hj, rfl, HT, HB⟩ := hrel
    by_cases hlt : j < n
    · have tl : decide ((j : Int) < (n : Int)) = true := decide_eq_true (by omega)
      have tl2 : decide (j < n) = true := decide_eq_true hlt
      obtain ⟨l, hl⟩ := some_at HN.out hlt
      obtain ⟨b, o, P, c1, rfl, hb, c0, hc, hr⟩ := (H.out.below HB.out (Nat.le_refl _)) j l hl
      have HV := Lib.hid hl
      have hzl := HZ.out l (List.mem_of_getElem? hl)
      obtain ⟨q, hq⟩ : ∃ q, repB l = q := ⟨_, rfl⟩
      have HQ := Lib.hid hq
      obtain ⟨m, hm⟩ : ∃ m, l.length = m := ⟨_, rfl⟩
      have HC := Lib.hid (show Calls Tryd.prog 83 #[.slice P m c1] wr fun e w' => e = .returned (.bool q) ∧ Below wr.heap.size wr w' from hq ▸ repeats_any (c := c1) m hm (by omega) hzl.2 (fun k u hu => by
        obtain ⟨b', o', g1, g2, g3⟩ := hr k u hu
        exact ⟨b', o', g1, Nat.lt_of_lt_of_le g2 HB.out.size, g3⟩))
      rw [hm] at c0
      clear hl hq hm hr hc hzl hb
      cases q with
      | true =>
        have HF := Lib.hid (reps_yes HV.out HQ.out)
        go_wp2_with (go_at_call 83; (with_reducible refine HC.out.mono ?_); rintro e1 w1 ⟨rfl, hb1⟩; have HB1 := Lib.hid (Mem.on HB.out hb1); clear hb1)
        go_ret
        exact ⟨_, rfl, by rw [HF.out]; exact decide_eq_true (by omega), HB1.out⟩
      | false =>
        have HS := Lib.hid (take_all_on (C := fun v => repB v = false) HV.out HT.out HQ.out)
        go_wp2_with (go_at_call 83; (with_reducible refine HC.out.mono ?_); rintro e1 w1 ⟨rfl, hb1⟩; have HB1 := Lib.hid (Mem.on HB.out hb1); clear hb1)
        go_roundw
        case rel => exact ⟨j + 1, by omega, by go_num, HS, HB1⟩
        case measure => simp [intOf]; omega
    · have tl : decide ((j : Int) < (n : Int)) = false := decide_eq_false (by omega)
      have HF := Lib.hid (reps_not (parts := parts) (by have h1 := HT.out; rwa [List.take_of_length_le (by have := HN.out; omega)] at h1))
      go_wp2
      go_ret
      exact ⟨-1, rfl, by rw [HF.out]; rfl, HB.out⟩
theorem containsRep_any (n : Nat) (hn : parts.length = n) (hN : n ≤ 100000) (hz : ∀ l ∈ parts, l.length ≤ 100000 ∧ ∀ s ∈ l, s.length ≤ 1000000) (h : RowR w w.heap.size A parts) : Calls Tryd.prog 54 #[.slice A n c, repF] w fun e w' => e = .returned (.bool (repsB parts)) ∧ Below w.heap.size w w' := by
  have HC := Lib.hid (indexRep_any (c := c) n hn hN hz h)
  clear hn h hz
  go_enter Tryd.func54, Tryd.ntmps54
  go_wp2_with (go_at_call 92; (with_reducible refine HC.out.mono ?_); rintro e1 w1 ⟨i, rfl, hi, hb1⟩; have HB1 := Lib.hid hb1; have HI := Lib.hid hi; clear hb1 hi)
  go_ret
  exact ⟨by rw [← HI.out]; rfl, HB1.out⟩
end
theorem grow_run (n : Nat) (h0 : 0 < n) (hn : n ≤ 100000) (w : World) : ∃ (cap : Nat) (X : Array Value), n ≤ cap ∧ cap ≤ maxLen ∧ X.size = cap ∧ ∀ ty : TypeId, (Builtin.append_ #[32, 3] ty #[.slice none 0 0, .int .i64 (n : Int)]).run Tryd.prog w = .ok (.slice (some ⟨w.heap.size, 0, none⟩) n cap) (w.drew.alloc (.cells X tS)) := by
  obtain ⟨i, hi, hz, hz1, hz2⟩ := info_parts (show (Tryd.prog.info? tS).map (fun i => (i.zero, i.size, i.bytes)) = some (some (.string ⟨#[]⟩), 1, 16) from by kernel_rfl)
  refine ⟨grownCap w n 0 tS, Builtin.zeroCells (Value.string ⟨#[]⟩).cells n ++ Builtin.zeroCells (Value.string ⟨#[]⟩).cells (grownCap w n 0 tS - n), grownCap_ge w n 0 tS, grownCap_le_maxLen w n 0 tS (by unfold maxLen; omega), ?_, fun ty => ?_⟩
  · have := grownCap_ge w n 0 tS
    rw [Array.size_append, size_zeroCells, size_zeroCells]
    show n * 1 + (grownCap w n 0 tS - n) * 1 = grownCap w n 0 tS
    omega
  · exact Lib.run_append_nil_zeros w 32 3 ty tS i _ .i64 .i64 Tryd.underlying32 Tryd.underlying3 hi hz n h0 (by rw [hz1]; decide) (by omega) (by rw [hz2]; omega)
theorem growS_any (n : Nat) (hn : n ≤ 100000) (w : World) : Calls Tryd.prog 119 #[.slice none 0 0, .int .i64 (n : Int)] w fun e w' => ∃ v, e = .returned v ∧ TS w v [] w' := by
  have t0 : decide ((n : Int) < 0) = false := decide_eq_false (by omega)
  by_cases h : 0 < n
  · have t1 : decide (0 < (n : Int)) = true := decide_eq_true (by omega)
    obtain ⟨cap, X, h1, h2, h3, h4⟩ := grow_run n h hn w
    have H1 := Lib.hid h1
    have H2 := Lib.hid h2
    have H3 := Lib.hid h3
    have H4 := Lib.hid h4
    clear h2 h3 h4
    go_enter Tryd.func119, Tryd.ntmps119
    go_wp2_with (at_builtin; refine Lib.wpList_append_run _ rfl (.tmp 20) (.tmp 21) 32 3 rfl (.slice none 0 0) (.int .i64 (n : Int)) rfl rfl _ _ (H4.out _) ?_)
    go_ret
    refine ⟨_, rfl, ⟨rfl, .inr ⟨w.heap.size, cap, X, rfl, Nat.le_refl _, heap_alloc_new _ _, Nat.zero_le _, H2.out, by rw [H3.out, Nat.mul_one], by simp⟩⟩, (al (Below.refl _ _) _).drew⟩
  · obtain rfl : n = 0 := by omega
    go_enter Tryd.func119, Tryd.ntmps119
    go_wp2
    go_ret
    exact ⟨_, rfl, ts_none (Below.refl _ _)⟩
theorem flat_on {parts : List (List Bs)} {j : Nat} {l : List Bs} (h : parts[j]? = some l) : (parts.take (j + 1)).flatten = (parts.take j).flatten ++ l := by
  rw [List.take_add_one, h, List.flatten_append]; simp
theorem flat_le {parts : List (List Bs)} {j : Nat} : (parts.take j).flatten.length ≤ parts.flatten.length := by
  have h : parts.flatten = (parts.take j).flatten ++ (parts.drop j).flatten := by rw [← List.flatten_append, List.take_append_drop]
  rw [h, List.length_append]
  omega
section
variable {A : Option Addr} {c : Nat} {parts : List (List Bs)} {w : World}
set_option maxHeartbeats 4000000 in
theorem concat_any (n : Nat) (hn : parts.length = n) (hN : n ≤ 1000) (hz : parts.flatten.length ≤ 10000) (h : RowR w w.heap.size A parts) : Calls Tryd.prog 78 #[.slice A n c] w (fun e w' => ∃ v, e = .returned v ∧ TS w v parts.flatten w') := by
  have HN := Lib.hid hn
  have H := Lib.hid h
  have HZ := Lib.hid hz
  have HFL := Lib.hid (fun j => (Nat.le_trans (flat_le (parts := parts) (j := j)) hz))
  clear hn h hz
  go_enter Tryd.func78, Tryd.ntmps78
  go_wp2
  go_loop [11, 3] (fun i u => ∃ j : Nat, j ≤ n ∧ i = .int .i64 (j : Int) ∧ u = .int .i64 (((parts.take j).flatten.length : Nat) : Int)) (fun i _ => n + 1 - (intOf i).toNat)
  case atStart => exact ⟨0, Nat.zero_le _, rfl, rfl⟩
  case round =>
    obtain ⟨j, hj, rfl, rfl⟩ := hrel
    obtain ⟨s, hs⟩ : ∃ s, (parts.take j).flatten.length = s := ⟨_, rfl⟩
    have hsm : s ≤ 10000 := hs ▸ HFL.out j
    have HS := Lib.hid hs
    rw [hs]
    clear hs
    by_cases hlt : j < n
    · --<
      have tl : decide ((j : Int) < (n : Int)) = true := decide_eq_true (by omega)
      have tl2 : decide (j < n) = true := decide_eq_true hlt
      obtain ⟨l, hl⟩ := some_at HN.out hlt
      obtain ⟨b, o, P, c1, rfl, hb, c0, hc, hr⟩ := H.out j l hl
      obtain ⟨m, hm⟩ : ∃ m, l.length = m := ⟨_, rfl⟩
      have HE := Lib.hid (show ((parts.take (j + 1)).flatten.length) = s + m from by rw [flat_on hl, List.length_append, HS.out, hm])
      have hmm : s + m ≤ 10000 := HE.out ▸ HFL.out (j + 1)
      have t3 : decide ((s : Int) + (m : Int) < 0) = false := decide_eq_false (by omega)
      rw [hm] at c0
      clear hr hc hl hm hb
      go_wp2
      go_round
      case rel => exact ⟨j + 1, by omega, by go_num, by rw [HE.out]; go_num⟩
      case measure => simp [intOf]; omega
      -->
    · have tl : decide ((j : Int) < (n : Int)) = false := decide_eq_false (by omega)
      have tl2 : decide (j < n) = false := decide_eq_false hlt
      obtain rfl : j = n := by omega
      have HG := Lib.hid (growS_any s (by omega) w)
      clear hj hlt hsm
      go_wp2_with (go_at_call 119; (with_reducible refine HG.out.mono ?_); rintro e1 w1 ⟨v1, rfl, ht1⟩; have HT1 := Lib.hid ht1; clear ht1)
      go_loopw [27, 6] (fun i u wr => ∃ (k : Nat) (v : Value), k ≤ j ∧ i = .int .i64 (k : Int) ∧ v = u ∧ Hid (TS w v ((parts.take k).flatten) wr)) (fun i _ _ => j + 1 - (intOf i).toNat)
      case atStart => exact ⟨0, _, Nat.zero_le _, rfl, rfl, HT1⟩
      case round =>
        obtain ⟨k, v, hk, rfl, rfl, HT⟩ := hrel
        by_cases hlk : k < j
        · --<
          have tk : decide ((k : Int) < (j : Int)) = true := decide_eq_true (by omega)
          have tk2 : decide (k < j) = true := decide_eq_true hlk
          obtain ⟨l, hl⟩ := some_at HN.out hlk
          obtain ⟨b, o, P, c1, rfl, hb, c0, hc, hr⟩ := (H.out.below HT.out.low (Nat.le_refl _)) k l hl
          obtain ⟨m, hm⟩ : ∃ m, l.length = m := ⟨_, rfl⟩
          rw [hm] at c0
          have HM := Lib.hid hm
          have HR := Lib.hid hr
          have HC := Lib.hid hc
          have HE := Lib.hid (show ∀ v' w', TS w v' ((parts.take k).flatten ++ l) w' → TS w v' ((parts.take (k + 1)).flatten) w' from fun v' w' g => by rw [flat_on hl]; exact g)
          have HL := Lib.hid (show (parts.take k).flatten.length + m ≤ 100000 from by have h1 := HFL.out (k + 1); rw [flat_on hl, List.length_append, hm] at h1; omega)
          clear hr hc hl hm hb
          go_wp2_with (at_builtin; refine wp_app HT.out (.tmp 31) (.tmp 32) rfl rfl rfl rfl HR.out HM.out HC.out HL.out ?_; intro v2 w2 g1 g2 g3 g4; have HR2 := Lib.hid (HE.out _ _ g1); clear g1 g2 g3 g4)
          go_roundw
          case rel => exact ⟨k + 1, _, by omega, by go_num, rfl, HR2⟩
          case measure => simp [intOf]; omega
          -->
        · have tk : decide ((k : Int) < (j : Int)) = false := decide_eq_false (by omega)
          have tk2 : decide (k < j) = false := decide_eq_false hlk
          obtain rfl : k = j := by omega
          have h1 := HT.out
          rw [List.take_of_length_le (by have := HN.out; omega)] at h1
          have HD := Lib.hid h1
          clear h1
          go_wp2
          go_ret
          exact ⟨_, rfl, HD.out⟩
end
end Go.Proofs.YtcblddpapehdeaaDoor.Tk
