/- Is a text in a list twice? The program's set of what it has met. -/
import Derived.Maps.OwnSet
import Derived.Test.YtcblddpapehdeaaDoorL09
namespace Go.Proofs.YtcblddpapehdeaaDoor.Tk
open Go.RowKit Go.Proofs.YtcblddpapehdeaaDoor.Mem Go.Proofs.YtcblddpapehdeaaDoor.Ep Go.Proofs.YtcblddpapehdeaaDoor.Right Go.Maps
set_option linter.unusedVariables false
abbrev tSet : TypeId := 148
abbrev tUnit : TypeId := 149
def repB (L : List Bs) : Bool := decide (¬ L.Nodup)
def keysOf (L : List Bs) : List Lit := L.map Lit.string
def SetD (L : List Bs) : DataW Unit := setOf (.agg []) (keysOf L)
theorem setD_on (L : List Bs) (s : Bs) : SetD (L ++ [s]) = (SetD L).put (.string s) (.agg []) := by
  unfold SetD keysOf
  rw [List.map_append, List.map_singleton, setOf_snoc]
theorem has_setD (L : List Bs) (s : Bs) : Maps.has (SetD L) (.string s) = decide (s ∈ L) := by
  unfold SetD keysOf
  rw [has_setOf _ _ _ (fun y hy => by obtain ⟨_, _, rfl⟩ := List.mem_map.1 hy; trivial)]
  rw [Bool.eq_iff_iff, List.any_eq_true, decide_eq_true_iff]
  constructor
  · rintro ⟨y, hy, h⟩
    obtain ⟨t, ht, rfl⟩ := List.mem_map.1 hy
    have := (WideAt.sameKey_iff (b := .string s) trivial).1 h
    injection this with e
    exact e ▸ ht
  · intro h
    exact ⟨_, List.mem_map.2 ⟨s, h, rfl⟩, WideAt.sameKey_self trivial⟩
theorem rep_yes {L : List Bs} {j : Nat} {s : Bs} (h : L[j]? = some s) (hm : s ∈ L.take j) : repB L = true := by
  unfold repB
  rw [decide_eq_true_iff]
  intro hn
  obtain ⟨i, hi, e⟩ := List.mem_iff_getElem.1 hm
  rw [List.length_take] at hi
  rw [List.getElem_take] at e
  obtain ⟨hj, e2⟩ := List.getElem?_eq_some_iff.1 h
  exact (List.pairwise_iff_getElem.1 hn) i j (by omega) hj (by omega) (by rw [e, e2])
theorem nodup_on {L : List Bs} {j : Nat} {s : Bs} (h : L[j]? = some s) (hm : ¬ s ∈ L.take j) (hn : (L.take j).Nodup) : (L.take (j + 1)).Nodup := by
  rw [List.take_add_one, h]
  show (L.take j ++ [s]).Nodup
  rw [List.nodup_append]
  exact ⟨hn, by simp, fun a ha b hb => by simp at hb; subst hb; rintro rfl; exact hm ha⟩
theorem lawS : Keyed Tryd.prog tS := string_keyed Tryd.underlying9
theorem zeroU (w : World) : (zeroValue tUnit).run Tryd.prog w = .ok (.agg #[]) w := by kernel_rfl
theorem txt_key (s : Bs) (h : s.length ≤ maxLen) : keyOf Tryd.prog tS (.string (txt s)) = some (.string s) := by
  have := Go.WideMaps.keyOf_string_mk (k := tS) Tryd.underlying9 (s := txt s) (by show s.toArray.size ≤ maxLen; simpa using h)
  rw [this]
  show some (Lit.string s.toArray.toList) = _
  simp
section
variable {A : Option Addr} {c : Nat} {L : List Bs} {w : World}
set_option maxRecDepth 100000 in
set_option maxHeartbeats 2000000 in
theorem repeats_any (n : Nat) (hn : L.length = n) (hN : n ≤ 100000) (hz : ∀ s ∈ L, s.length ≤ 1000000) (h : Row w w.heap.size A (L.map str)) : Calls Tryd.prog 83 #[.slice A n c] w fun e w' => e = .returned (.bool (repB L)) ∧ Below w.heap.size w w' := by
  have HN := Lib.hid hn
  have H := Lib.hid h
  have HZ := Lib.hid hz
  have hmm := @run_makeMap Tryd.prog
  clear hn h hz
  go_enter Tryd.func83, Tryd.ntmps83
  go_wp2
  go_loopw [11] (fun i wr => ∃ j : Nat, j ≤ n ∧ i = .int .i64 (j : Int) ∧ Hid (wr.ownsMap Tryd.prog tS unitElem w.heap.size j (SetD (L.take j))) ∧ Hid ((L.take j).Nodup) ∧ Hid (Below w.heap.size w wr)) (fun i _ => n + 1 - (intOf i).toNat)
  case atStart => exact ⟨0, Nat.zero_le _, rfl, Lib.hid (World.ownsMap_made _ _ _ _), Lib.hid (by simp), Lib.hid (al (Below.refl _ _) _)⟩
  case round =>
    obtain ⟨j, hj, rfl, HM, HT, HB⟩ := hrel
    by_cases hlt : j < n
    · --<
      have tl : decide ((j : Int) < (n : Int)) = true := decide_eq_true (by omega)
      have tl2 : decide (j < n) = true := decide_eq_true hlt
      obtain ⟨s, hs⟩ := some_at HN.out hlt
      obtain ⟨b, o, rfl, hb, c0⟩ := (H.out.below HB.out (Nat.le_refl _)) j (str s) (by rw [List.getElem?_map, hs]; rfl)
      unfold str at c0
      have HK := Lib.hid (txt_key s (Nat.le_trans (HZ.out s (List.mem_of_getElem? hs)) (by unfold maxLen; omega)))
      have HS := Lib.hid hs
      obtain ⟨q, hq⟩ : ∃ q, Maps.has (SetD (L.take j)) (.string s) = q := ⟨_, rfl⟩
      have HQ := Lib.hid (show decide (s ∈ L.take j) = q from by rw [← has_setD]; exact hq)
      clear hs
      cases q with
      | true =>
        have HF := Lib.hid (rep_yes HS.out (of_decide_eq_true HQ.out))
        go_wp2_with (first | (at_lookup; refine wpList_lookup_own_unit _ rfl _ _ tSet rfl tS tUnit lawS Tryd.underlying148 (zeroU _) w.heap.size j _ rfl HM.out _ _ rfl HK.out ?_; rw [hq]) | go_in)
        go_ret
        exact ⟨rb HF.out.symm, al HB.out _⟩
      | false =>
        have HT2 := Lib.hid (nodup_on HS.out (of_decide_eq_false HQ.out) HT.out)
        have HE := Lib.hid (show SetD (L.take (j + 1)) = (SetD (L.take j)).put (.string s) (.agg []) from by rw [List.take_add_one, HS.out]; exact setD_on _ _)
        go_wp2_with (first | (at_lookup; refine wpList_lookup_own_unit _ rfl _ _ tSet rfl tS tUnit lawS Tryd.underlying148 (zeroU _) w.heap.size j _ rfl HM.out _ _ rfl HK.out ?_; rw [hq]) | (at_mapUpdate; refine wpList_mapUpdate_own _ rfl _ _ _ tSet rfl tS tUnit lawS Tryd.underlying148 (unitElem (H := Unit)) w.heap.size j _ rfl (HM.out.alloc _) (by unfold maxLen; omega) _ _ _ rfl rfl HK.out _ [] unitElem_mk ?_; intro w1 hown1 hgrow1; have HO1 := Lib.hid hown1; have HG1 := Lib.hid hgrow1; clear hown1 hgrow1) | go_in)
        go_roundw
        case rel => exact ⟨j + 1, by omega, by go_num, by rw [HE.out]; exact HO1, HT2, Lib.hid ((al HB.out _).grown HG1.out (al HB.out _).size (fun j hj => by cases hj; exact Nat.le_refl _))⟩
        case measure => simp [intOf]; omega
      -->
    · have tl : decide ((j : Int) < (n : Int)) = false := decide_eq_false (by omega)
      have tl2 : decide (j < n) = false := decide_eq_false hlt
      have HF := Lib.hid (show repB L = false from by
        have h1 := HT.out
        rw [List.take_of_length_le (by have := HN.out; omega)] at h1
        unfold repB
        rw [decide_eq_false_iff_not]
        exact fun g => g h1)
      go_wp2
      go_ret
      exact ⟨rb HF.out.symm, HB.out⟩
end
end Go.Proofs.YtcblddpapehdeaaDoor.Tk
