/- A column's place; a text in a list: the program's calls and the document's. -/
import Derived.Test.YtcblddpapehdeaaDoorL23
namespace Go.Proofs.YtcblddpapehdeaaDoor.Tk
open Go.RowKit Go.Proofs.YtcblddpapehdeaaDoor.Mem Go.Proofs.YtcblddpapehdeaaDoor.Ep Go.Proofs.YtcblddpapehdeaaDoor.Sm Go.Proofs.YtcblddpapehdeaaDoor.Right Go.ChangeShapes Go.WideShapes
set_option linter.unusedVariables false
def colI (l : List Co) (s : Bs) : Int :=
  match l.findIdx? (fun c => decide (c.nm = s)) with
  | some j => (j : Int)
  | none => -1
theorem colI_at {l : List Co} {s : Bs} {j : Nat} {c : Co} (h : l[j]? = some c) (hc : c.nm = s) (hb : ∀ y ∈ l.take j, ¬ y.nm = s) : colI l s = (j : Int) := by
  have : l.findIdx? (fun c => decide (c.nm = s)) = some j := by
    rw [List.findIdx?_eq_some_iff_getElem]
    obtain ⟨hj, e⟩ := List.getElem?_eq_some_iff.1 h
    refine ⟨hj, by rw [e]; exact decide_eq_true hc, fun i hi => ?_⟩
    have := hb l[i] (List.mem_iff_getElem.2 ⟨i, by rw [List.length_take]; omega, by rw [List.getElem_take]⟩)
    simpa using this
  unfold colI
  rw [this]
theorem colI_no {l : List Co} {s : Bs} (hb : ∀ y ∈ l, ¬ y.nm = s) : colI l s = -1 := by
  have : l.findIdx? (fun c => decide (c.nm = s)) = none := by
    rw [List.findIdx?_eq_none_iff]
    intro x hx
    exact decide_eq_false (hb x hx)
  unfold colI
  rw [this]
theorem txt_is (a b : Bs) : ((txt a).toList == (txt b).toList) = decide (a = b) := by
  have h : (txt b).toList = b := by rw [Lib.toList_data]; show b.toArray.toList = b; simp
  rw [h]
  exact txt_eq
theorem mem_yes {L : List Bs} {j : Nat} {s : Bs} (h : L[j]? = some s) : decide (s ∈ L) = true := decide_eq_true (List.mem_of_getElem? h)
theorem mem_not {L : List Bs} {s : Bs} (h : ∀ y ∈ L, ¬ y = s) : decide (s ∈ L) = false := decide_eq_false fun g => h s g rfl
def IxP (L : List Bs) (s : Bs) (e : Ending) : Prop := ∃ i : Int, e = .returned (.int .i64 i) ∧ decide (0 ≤ i) = decide (s ∈ L)
theorem isCol_any {w : World} {b : Nat} {t : TypeId} {c : Co} {s : Bs} (hc : Cel w b t #[.string (txt s)]) : Calls Tryd.prog 53 #[.agg #[.string (txt c.nm), .int .i64 c.ty, .bool c.nn], .pointer (some ⟨b, 0, none⟩)] w fun e w' => e = .returned (.bool (decide (c.nm = s))) ∧ Below w.heap.size w w' := by
  have HB := Lib.hid (al (Below.refl w.heap.size w) (.cells #[.string (txt c.nm), .int .i64 c.ty, .bool c.nn] 49))
  have c0 : ∀ o, (w.alloc o).cell? ⟨b, 0, none⟩ = some (.string (txt s)) := fun o => (hc.alloc o).at_ 0
  have ht := txt_is c.nm s
  clear hc
  go_enter Tryd.func53, Tryd.ntmps53
  go_wp2
  go_ret
  exact ⟨rfl, HB.out⟩
section
variable {w : World} {A : Option Addr}
set_option maxHeartbeats 2000000 in
theorem indexCol_any (l : List Co) (s : Bs) (n c b : Nat) (hn : l.length = n) (hN : n ≤ 100000) (h : RowIn w (fun b => b < w.heap.size) A 3 (l.map coDt) 0) (hb : Cel w b tS #[.string (txt s)]) : Calls Tryd.prog 52 #[.slice A n c, .func (.func 53) #[] #[.pointer (some ⟨b, 0, none⟩)]] w fun e w' => e = .returned (.int .i64 (colI l s)) ∧ Below w.heap.size w w' := by
  have HN := Lib.hid hn
  have H := Lib.hid (fun W (g : Below w.heap.size w W) => (RowIn.to (fun b h => h) (fun p hp => g.cell hp) h : RowIn W (fun b => b < w.heap.size) A 3 (l.map coDt) 0))
  have HBX := Lib.hid (fun W (g : Below w.heap.size w W) => hb.below g)
  clear hn h hb
  go_enter Tryd.func52, Tryd.ntmps52
  go_wp2
  go_loopw [8] (fun i wr => ∃ j : Nat, j ≤ n ∧ i = .int .i64 (j : Int) ∧ Hid (∀ y ∈ l.take j, ¬ y.nm = s) ∧ Hid (Below w.heap.size w wr)) (fun i _ => n + 1 - (intOf i).toNat)
  case atStart => exact ⟨0, Nat.zero_le _, rfl, Lib.hid (fun v hv => by simp at hv), Lib.hid (Below.refl _ _)⟩
  case round =>
    obtain ⟨j, hj, rfl, HT, HB⟩ := hrel
    by_cases hlt : j < n
    · have tl : decide ((j : Int) < (n : Int)) = true := decide_eq_true (by omega)
      have tl2 : decide (j < n) = true := decide_eq_true hlt
      obtain ⟨x, hx⟩ := some_at HN.out hlt
      obtain ⟨b1, o1, rfl, hb1, p0, p1, p2⟩ := co_at (H.out wr HB.out) hx
      have HV := Lib.hid hx
      obtain ⟨q, hq⟩ : ∃ q, decide (x.nm = s) = q := ⟨_, rfl⟩
      have HQ := Lib.hid hq
      have HC := Lib.hid (show Calls Tryd.prog 53 #[.agg #[.string (txt x.nm), .int .i64 x.ty, .bool x.nn], .pointer (some ⟨b, 0, none⟩)] wr fun e w' => e = .returned (.bool q) ∧ Below wr.heap.size wr w' from hq ▸ isCol_any (HBX.out wr HB.out))
      clear hx hq hb1
      cases q with
      | true =>
        have HF := Lib.hid (colI_at HV.out (of_decide_eq_true HQ.out) HT.out)
        go_wp2_with (go_at_call 53; (with_reducible refine HC.out.mono ?_); rintro e1 w1 ⟨rfl, hb1⟩; have HB1 := Lib.hid (Mem.on HB.out hb1); clear hb1)
        go_ret
        exact ⟨by rw [HF.out]; rfl, HB1.out⟩
      | false =>
        have HS := Lib.hid (take_all_on (C := fun y : Co => ¬ y.nm = s) HV.out HT.out (of_decide_eq_false HQ.out))
        go_wp2_with (go_at_call 53; (with_reducible refine HC.out.mono ?_); rintro e1 w1 ⟨rfl, hb1⟩; have HB1 := Lib.hid (Mem.on HB.out hb1); clear hb1)
        go_roundw
        case rel => exact ⟨j + 1, by omega, by go_num, HS, HB1⟩
        case measure => simp [intOf]; omega
    · have tl : decide ((j : Int) < (n : Int)) = false := decide_eq_false (by omega)
      have HF := Lib.hid (colI_no (l := l) (s := s) (by have h1 := HT.out; rwa [List.take_of_length_le (by have := HN.out; omega)] at h1))
      go_wp2
      go_ret
      exact ⟨by rw [HF.out]; rfl, HB.out⟩
set_option maxHeartbeats 1000000 in
theorem indexS_any (L : List Bs) (s : Bs) (n c : Nat) (hn : L.length = n) (hN : n ≤ 100000) (h : Row w w.heap.size A (L.map str)) : Calls Tryd.prog 94 #[.slice A n c, .string (txt s)] w fun e w' => IxP L s e ∧ w = w' := by
  have HN := Lib.hid hn
  have H := Lib.hid h
  clear hn h
  go_enter Tryd.func94, Tryd.ntmps94
  go_wp2
  go_loop [8] (fun i => ∃ j : Nat, j ≤ n ∧ i = .int .i64 (j : Int) ∧ Hid (∀ y ∈ L.take j, ¬ y = s)) (fun i => n + 1 - (intOf i).toNat)
  case atStart => exact ⟨0, Nat.zero_le _, rfl, Lib.hid (fun v hv => by simp at hv)⟩
  case round =>
    obtain ⟨j, hj, rfl, HT⟩ := hrel
    by_cases hlt : j < n
    · have tl : decide ((j : Int) < (n : Int)) = true := decide_eq_true (by omega)
      have tl2 : decide (j < n) = true := decide_eq_true hlt
      obtain ⟨x, hx⟩ := some_at HN.out hlt
      obtain ⟨b, o, rfl, hb, c0⟩ := H.out j (str x) (by rw [List.getElem?_map, hx]; rfl)
      unfold str at c0
      have HV := Lib.hid hx
      clear hx hb
      by_cases he : s = x
      · subst he
        have t1 : ((txt s).toList == (txt s).toList) = true := by simp
        have HF := Lib.hid (mem_yes HV.out)
        go_wp2
        go_ret
        exact ⟨⟨_, rfl, by rw [HF.out]; exact decide_eq_true (by omega)⟩, rfl⟩
      · have t1 := txt_is s x
        rw [decide_eq_false he] at t1
        have HS := Lib.hid (take_all_on (C := fun y : Bs => ¬ y = s) HV.out HT.out (fun e => he e.symm))
        clear he
        go_wp2
        go_round
        case rel => exact ⟨j + 1, by omega, by go_num, HS⟩
        case measure => simp [intOf]; omega
    · have tl : decide ((j : Int) < (n : Int)) = false := decide_eq_false (by omega)
      have HF := Lib.hid (mem_not (L := L) (s := s) (by have h1 := HT.out; rwa [List.take_of_length_le (by have := HN.out; omega)] at h1))
      go_wp2
      go_ret
      exact ⟨⟨-1, rfl, by rw [HF.out]; rfl⟩, rfl⟩
theorem containsS_any (L : List Bs) (s : Bs) (n c : Nat) (hn : L.length = n) (hN : n ≤ 100000) (h : Row w w.heap.size A (L.map str)) : Calls Tryd.prog 57 #[.slice A n c, .string (txt s)] w fun e w' => e = .returned (.bool (decide (s ∈ L))) ∧ w = w' := by
  have HC := Lib.hid (indexS_any L s n c hn hN h)
  clear hn h
  go_enter Tryd.func57, Tryd.ntmps57
  go_wp2_with (go_at_call 94; (with_reducible refine HC.out.mono ?_); rintro e1 w1 ⟨⟨i, rfl, hi⟩, rfl⟩; have HI := Lib.hid hi; clear hi)
  go_ret
  exact ⟨by rw [← HI.out]; rfl, rfl⟩
end
end Go.Proofs.YtcblddpapehdeaaDoor.Tk
