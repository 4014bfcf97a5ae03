/- A column's place; a text in a list: the program's calls and the document's. Has a constraint or an index a column: the program's call (table.Uses). -/
import Derived.Test.YtcblddpapehdeaaDoorM22
import Derived.Test.YtcblddpapehdeaaDoorM26
namespace Go.Proofs.YtcblddpapehdeaaDoor.Tk
open Go.RowKit Go.Proofs.YtcblddpapehdeaaDoor.Mem Go.Proofs.YtcblddpapehdeaaDoor.Ep Go.Proofs.YtcblddpapehdeaaDoor.Sm Go.Proofs.YtcblddpapehdeaaDoor.Right Go.ChangeShapes Go.WideShapes
set_option linter.unusedVariables false
def colI (l : List Co) (s : Bs) : Int :=
  match l.findIdx? (fun c => decide (c.nm = s)) with
  | some j => (j : Int)
  | none => -1
theorem colI_at {l : List Co} {s : Bs} {j : Nat} {c : Co} (h : l[j]? = some c) (hc : c.nm = s) (hb : ∀ y ∈ l.take j, ¬ y.nm = s) : colI l s = (j : Int) := by
  have : l.findIdx? (fun c => decide (c.nm = s)) = some j := by
    rw [List.findIdx?_eq_some_iff_getElem]
    obtain ⟨hj, e⟩ := List.getElem?_eq_some_iff.1 h
    refine ⟨hj, by rw [e]; exact decide_eq_true hc, fun i hi => ?_⟩
    have := hb l[i] (List.mem_iff_getElem.2 ⟨i, by rw [List.length_take]; omega, by rw [List.getElem_take]⟩)
    simpa using this
  unfold colI
  rw [this]
theorem colI_no {l : List Co} {s : Bs} (hb : ∀ y ∈ l, ¬ y.nm = s) : colI l s = -1 := by
  have : l.findIdx? (fun c => decide (c.nm = s)) = none := by
    rw [List.findIdx?_eq_none_iff]
    intro x hx
    exact decide_eq_false (hb x hx)
  unfold colI
  rw [this]
theorem txt_is (a b : Bs) : ((txt a).toList == (txt b).toList) = decide (a = b) := by
  have h : (txt b).toList = b := by rw [Lib.toList_data]; show b.toArray.toList = b; simp
  rw [h]
  exact txt_eq
theorem mem_yes {L : List Bs} {j : Nat} {s : Bs} (h : L[j]? = some s) : decide (s ∈ L) = true := decide_eq_true (List.mem_of_getElem? h)
theorem mem_not {L : List Bs} {s : Bs} (h : ∀ y ∈ L, ¬ y = s) : decide (s ∈ L) = false := decide_eq_false fun g => h s g rfl
def IxP (L : List Bs) (s : Bs) (e : Ending) : Prop := ∃ i : Int, e = .returned (.int .i64 i) ∧ decide (0 ≤ i) = decide (s ∈ L)
section
variable {w : World} {A : Option Addr}
set_option maxHeartbeats 1000000 in
theorem indexS_any (L : List Bs) (s : Bs) (n c : Nat) (hn : L.length = n) (hN : n ≤ 100000) (h : Row w w.heap.size A (L.map str)) : Calls Tryd.prog 94 #[.slice A n c, .string (txt s)] w fun e w' => IxP L s e ∧ w = w' := by
  have HN := Lib.hid hn
  have H := Lib.hid h
  clear hn h
  go_enter Tryd.func94, Tryd.ntmps94
  go_wp2
  go_loop [8] (fun i => ∃ j : Nat, j ≤ n ∧ i = .int .i64 (j : Int) ∧ Hid (∀ y ∈ L.take j, ¬ y = s)) (fun i => n + 1 - (intOf i).toNat)
  case atStart => exact ⟨0, Nat.zero_le _, rfl, Lib.hid (fun v hv => by simp at hv)⟩
  case round =>
    obtain ⟨j, hj, rfl, HT⟩ := hrel
    by_cases hlt : j < n
    · have tl : decide ((j : Int) < (n : Int)) = true := decide_eq_true (by omega)
      have tl2 : decide (j < n) = true := decide_eq_true hlt
      obtain ⟨x, hx⟩ := some_at HN.out hlt
      obtain ⟨b, o, rfl, hb, c0⟩ := H.out j (str x) (by rw [List.getElem?_map, hx]; rfl)
      unfold str at c0
      have HV := Lib.hid hx
      clear hx hb
      by_cases he : s = x
      · subst he
        have t1 : ((txt s).toList == (txt s).toList) = true := by simp
        have HF := Lib.hid (mem_yes HV.out)
        go_wp2
        go_ret
        exact ⟨⟨_, rfl, by rw [HF.out]; exact decide_eq_true (by omega)⟩, rfl⟩
      · have t1 := txt_is s x
        rw [decide_eq_false he] at t1
        have HS := Lib.hid (take_all_on (C := fun y : Bs => ¬ y = s) HV.out HT.out (fun e => he e.symm))
        clear he
        go_wp2
        go_round
        case rel => exact ⟨j + 1, by omega, by go_num, HS⟩
        case measure => simp [intOf]; omega
    · have tl : decide ((j : Int) < (n : Int)) = false := decide_eq_false (by omega)
      have HF := Lib.hid (mem_not (L := L) (s := s) (by have h1 := HT.out; rwa [List.take_of_length_le (by have := HN.out; omega)] at h1))
      go_wp2
      go_ret
      exact ⟨⟨-1, rfl, by rw [HF.out]; rfl⟩, rfl⟩
theorem containsS_any (L : List Bs) (s : Bs) (n c : Nat) (hn : L.length = n) (hN : n ≤ 100000) (h : Row w w.heap.size A (L.map str)) : Calls Tryd.prog 57 #[.slice A n c, .string (txt s)] w fun e w' => e = .returned (.bool (decide (s ∈ L))) ∧ w = w' := by
  have HC := Lib.hid (indexS_any L s n c hn hN h)
  clear hn h
  go_enter Tryd.func57, Tryd.ntmps57
  go_wp2_with (go_at_call 94; (with_reducible refine HC.out.mono ?_); rintro e1 w1 ⟨⟨i, rfl, hi⟩, rfl⟩; have HI := Lib.hid hi; clear hi)
  go_ret
  exact ⟨by rw [← HI.out]; rfl, rfl⟩
end
end Go.Proofs.YtcblddpapehdeaaDoor.Tk
namespace Go.Proofs.YtcblddpapehdeaaDoor.Tk
open Go.RowKit Go.Proofs.YtcblddpapehdeaaDoor.Mem Go.Proofs.YtcblddpapehdeaaDoor.Ep Go.Proofs.YtcblddpapehdeaaDoor.Sm Go.Proofs.YtcblddpapehdeaaDoor.Right Go.ChangeShapes Go.WideShapes
set_option linter.unusedVariables false
def hasB (s : Bs) (parts : List (List Bs)) : Bool := parts.any fun l => decide (s ∈ l)
theorem hasB_yes {s : Bs} {parts : List (List Bs)} {j : Nat} {l : List Bs} (h : parts[j]? = some l) (hk : decide (s ∈ l) = true) : hasB s parts = true := by
  unfold hasB
  rw [List.any_eq_true]
  exact ⟨l, List.mem_of_getElem? h, hk⟩
theorem hasB_not {s : Bs} {parts : List (List Bs)} (h : ∀ l ∈ parts, decide (s ∈ l) = false) : hasB s parts = false := by
  unfold hasB
  rw [List.any_eq_false]
  intro v hv
  rw [h v hv]; decide
abbrev useF (b : Nat) : Value := .func (.func 56) #[] #[.pointer (some ⟨b, 0, none⟩)]
section
variable {A : Option Addr} {c b : Nat} {s : Bs} {parts : List (List Bs)} {w : World}
theorem used1_any {L : List Bs} {n : Nat} (hn : L.length = n) (hN : n ≤ 100000) (h : Row w w.heap.size A (L.map str)) (hb : Cel w b tS #[.string (txt s)]) : Calls Tryd.prog 56 #[.slice A n c, .pointer (some ⟨b, 0, none⟩)] w fun e w' => e = .returned (.bool (decide (s ∈ L))) ∧ Below w.heap.size w w' := by
  have HC := Lib.hid (containsS_any (A := A) (w := w) L s n c hn hN h)
  have c0 : w.cell? ⟨b, 0, none⟩ = some (.string (txt s)) := hb.at_ 0
  clear hn h hb
  go_enter Tryd.func56, Tryd.ntmps56
  go_wp2_with (go_at_call 57; (with_reducible refine HC.out.mono ?_); rintro e1 w1 ⟨rfl, rfl⟩)
  go_ret
  exact ⟨rfl, Below.refl _ _⟩
set_option maxHeartbeats 2000000 in
theorem indexUse_any (n : Nat) (hn : parts.length = n) (hN : n ≤ 100000) (hz : ∀ l ∈ parts, l.length ≤ 100000) (h : RowR w w.heap.size A parts) (hb : Cel w b tS #[.string (txt s)]) : Calls Tryd.prog 92 #[.slice A n c, useF b] w fun e w' => ∃ i : Int, e = .returned (.int .i64 i) ∧ decide (0 ≤ i) = hasB s parts ∧ Below w.heap.size w w' := by
  have HN := Lib.hid hn
  have H := Lib.hid h
  have HZ := Lib.hid hz
  have HX := Lib.hid hb
  clear hn h hz hb
  go_enter Tryd.func92, Tryd.ntmps92
  go_wp2
  go_loopw [8] (fun i wr => ∃ j : Nat, j ≤ n ∧ i = .int .i64 (j : Int) ∧ Hid (∀ v ∈ parts.take j, decide (s ∈ v) = false) ∧ Hid (Below w.heap.size w wr)) (fun i _ => n + 1 - (intOf i).toNat)
  case atStart => exact ⟨0, Nat.zero_le _, rfl, Lib.hid (fun v hv => by simp at hv), Lib.hid (Below.refl _ _)⟩
  case round =>
    obtain ⟨j, hj, rfl, HT, HB⟩ := hrel
    by_cases hlt : j < n
    · have tl : decide ((j : Int) < (n : Int)) = true := decide_eq_true (by omega)
      have tl2 : decide (j < n) = true := decide_eq_true hlt
      obtain ⟨l, hl⟩ := some_at HN.out hlt
      obtain ⟨b1, o, P, c1, rfl, hb, c0, hc, hr⟩ := (H.out.below HB.out (Nat.le_refl _)) j l hl
      have HV := Lib.hid hl
      have hzl := HZ.out l (List.mem_of_getElem? hl)
      obtain ⟨q, hq⟩ : ∃ q, decide (s ∈ l) = q := ⟨_, rfl⟩
      have HQ := Lib.hid hq
      obtain ⟨m, hm⟩ : ∃ m, l.length = m := ⟨_, rfl⟩
      have HC := Lib.hid (show Calls Tryd.prog 56 #[.slice P m c1, .pointer (some ⟨b, 0, none⟩)] wr fun e w' => e = .returned (.bool q) ∧ Below wr.heap.size wr w' from hq ▸ used1_any (c := c1) hm (by omega) (fun k u hu => by
        obtain ⟨b', o', g1, g2, g3⟩ := hr k u hu
        exact ⟨b', o', g1, Nat.lt_of_lt_of_le g2 HB.out.size, g3⟩) (HX.out.below HB.out))
      rw [hm] at c0
      clear hl hq hm hr hc hzl hb
      cases q with
      | true =>
        have HF := Lib.hid (hasB_yes HV.out HQ.out)
        go_wp2_with (go_at_call 56; (with_reducible refine HC.out.mono ?_); rintro e1 w1 ⟨rfl, hb1⟩; have HB1 := Lib.hid (Mem.on HB.out hb1); clear hb1)
        go_ret
        exact ⟨_, rfl, by rw [HF.out]; exact decide_eq_true (by omega), HB1.out⟩
      | false =>
        have HS := Lib.hid (take_all_on (C := fun v => decide (s ∈ v) = false) HV.out HT.out HQ.out)
        go_wp2_with (go_at_call 56; (with_reducible refine HC.out.mono ?_); rintro e1 w1 ⟨rfl, hb1⟩; have HB1 := Lib.hid (Mem.on HB.out hb1); clear hb1)
        go_roundw
        case rel => exact ⟨j + 1, by omega, by go_num, HS, HB1⟩
        case measure => simp [intOf]; omega
    · have tl : decide ((j : Int) < (n : Int)) = false := decide_eq_false (by omega)
      have HF := Lib.hid (hasB_not (s := s) (parts := parts) (by have h1 := HT.out; rwa [List.take_of_length_le (by have := HN.out; omega)] at h1))
      go_wp2
      go_ret
      exact ⟨-1, rfl, by rw [HF.out]; rfl, HB.out⟩
theorem containsUse_any (n : Nat) (hn : parts.length = n) (hN : n ≤ 100000) (hz : ∀ l ∈ parts, l.length ≤ 100000) (h : RowR w w.heap.size A parts) (hb : Cel w b tS #[.string (txt s)]) : Calls Tryd.prog 54 #[.slice A n c, useF b] w fun e w' => e = .returned (.bool (hasB s parts)) ∧ Below w.heap.size w w' := by
  have HC := Lib.hid (indexUse_any (c := c) n hn hN hz h hb)
  clear hn h hz hb
  go_enter Tryd.func54, Tryd.ntmps54
  go_wp2_with (go_at_call 92; (with_reducible refine HC.out.mono ?_); rintro e1 w1 ⟨i, rfl, hi, hb1⟩; have HB1 := Lib.hid hb1; have HI := Lib.hid hi; clear hb1 hi)
  go_ret
  exact ⟨by rw [← HI.out]; rfl, HB1.out⟩
end
/-- All lists of a table with few columns in each are short. -/
theorem usesL_short {x : Tb} (hc : ∀ c ∈ x.cons, c.cols.length ≤ 10000 ∧ (c.kind = 2 → size c.chk ≤ 1000)) (hi : ∀ i ∈ x.idx, i.2.length ≤ 10000) : ∀ l ∈ usesL x, l.length ≤ 100000 := by
  intro l hl
  unfold usesL at hl
  rcases List.mem_append.1 hl with h | h
  · obtain ⟨c, hcm, hl⟩ := List.mem_flatMap.1 h
    unfold useC at hl
    rcases List.mem_cons.1 hl with rfl | hl
    · have := (hc c hcm).1; omega
    · split at hl
      · rename_i hk
        simp at hl
        subst hl
        have h1 := names_len c.chk
        have h2 := (hc c hcm).2 hk
        omega
      · simp at hl
  · obtain ⟨i, him, rfl⟩ := List.mem_map.1 h
    have := hi i him; omega
theorem usesL_len (x : Tb) : (usesL x).length ≤ 2 * x.cons.length + x.idx.length := by
  unfold usesL
  rw [List.length_append, List.length_map]
  have := use_len x.cons
  omega
set_option maxRecDepth 20000 in
set_option maxHeartbeats 2000000 in
theorem uses2_any (x : Tb) (f : Fb) (s : Bs) (w : World) (hx : FbIn w w.heap.size f x) (h4 : f.n4 ≤ 10000) (h5 : f.n5 ≤ 10000) (hz : ∀ c ∈ x.cons, c.kind = 2 → Lim c.chk ∧ size c.chk ≤ 1000) (hs : ∀ l ∈ usesL x, l.length ≤ 100000) : Calls Tryd.prog 21 #[.agg #[.string (txt x.nm), .string (txt x.own), .int .i64 x.ver, .slice f.A3 f.n3 f.a3, .slice f.A4 f.n4 f.a4, .slice f.A5 f.n5 f.a5], .string (txt s)] w fun e w' => e = .returned (.bool (hasB s (usesL x))) ∧ Below w.heap.size w w' := by
  obtain ⟨V, hV⟩ : ∃ W1, w.alloc (.cells #[.string (txt x.nm), .string (txt x.own), .int .i64 x.ver, .slice f.A3 f.n3 f.a3, .slice f.A4 f.n4 f.a4, .slice f.A5 f.n5 f.a5] tTb) = W1 := ⟨_, rfl⟩
  have hb : Below w.heap.size w V := by rw [← hV]; exact al (Below.refl _ _) _
  have HX := Lib.hid (show Tbx V w.heap.size f x from by rw [← hV]; exact tbx_new hx)
  have HFA := Lib.hid (fun W (g : Below V.heap.size V W) => HX.out.facts g)
  have HE := Lib.hid (show ∀ W, Below V.heap.size V W → Below w.heap.size w W from fun W g => hb.trans (g.mono hb.size))
  obtain ⟨ya0, ya1, ya2, ya3, ya4, ya5, yb0, yb1, yb2, yb3, yb4, yb5⟩ := HFA.out V (Below.refl _ _)
  obtain ⟨U, hU⟩ : ∃ W1, V.alloc (.cells #[.string (txt s)] tS) = W1 := ⟨_, rfl⟩
  have hbu : Below V.heap.size V U := by rw [← hU]; exact al (Below.refl _ _) _
  have HU := Lib.hid hbu
  have HSB := Lib.hid (show Cel U V.heap.size tS #[.string (txt s)] from by rw [← hU]; exact Cel.new _ _ _ rfl)
  have HUS := Lib.hid (uses_any x f U (HX.out.on hbu).all h4 h5 hz)
  have HLN := Lib.hid (show (usesL x).length ≤ 100000 from by have h1 := usesL_len x; have h2 := hx.n4; have h3 := hx.n5; omega)
  have HSH := Lib.hid hs
  obtain ⟨L, hL⟩ : ∃ L, usesL x = L := ⟨_, rfl⟩
  rw [hL] at HUS HLN HSH ⊢
  obtain ⟨m, hm⟩ : ∃ m, L.length = m := ⟨_, rfl⟩
  have HM := Lib.hid hm
  have HUS2 := Lib.hid (show Calls Tryd.prog 55 #[.agg #[.string (txt x.nm), .string (txt x.own), .int .i64 x.ver, .slice f.A3 f.n3 f.a3, .slice f.A4 f.n4 f.a4, .slice f.A5 f.n5 f.a5]] U fun e w' => ∃ A c, e = .returned (.slice A m c) ∧ RowR w' w'.heap.size A L ∧ Below U.heap.size U w' from HUS.out.mono fun e w' ⟨A, c, h1, h2⟩ => by
    obtain ⟨A', c', h3, h4⟩ := h2.rows
    injection h3 with h3 _ h5
    subst h3 h5
    exact ⟨A, c, by rw [h1, hm], h4, h2.low⟩)
  obtain ⟨za0, za1, za2, za3, za4, za5, zb0, zb1, zb2, zb3, zb4, zb5⟩ := HFA.out U hbu
  clear hx hb hbu h4 h5 hz hs hL hm HUS
  go_enter Tryd.func21, Tryd.ntmps21
  go_wp2_with (first | (go_at_call 55; (with_reducible refine HUS2.out.mono ?_); rintro e1 w1 ⟨A1, c1, rfl, hr1, hb1⟩; have HB1 := Lib.hid (Mem.on HU.out hb1); have HC1 := Lib.hid (containsUse_any (c := c1) (s := s) (b := V.heap.size) m HM.out (by have := HLN.out; have := HM.out; omega) HSH.out hr1 (HSB.out.below hb1)); clear hr1 hb1) | (go_at_call 54; (with_reducible refine HC1.out.mono ?_); rintro e2 w2 ⟨rfl, hb2⟩; have HB2 := Lib.hid (Mem.on HB1.out hb2); clear hb2))
  go_ret
  exact ⟨rfl, HE.out _ HB2.out⟩
end Go.Proofs.YtcblddpapehdeaaDoor.Tk
