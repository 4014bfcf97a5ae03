import Derived.Test.YtjlfacmmokfleaaBtRefs
import Derived.Test.YtjlfacmmokfleaaBtTell
import Derived.Test.YtjlfacmmokfleaaBtLasts
/- The document's tree: Range. -/
namespace Go.Proofs.Ytjlfacmmokfleaa.Bt
open Go.RowKit Go.Proofs.Ytjlfacmmokfleaa.Mem Go.Proofs.Ytjlfacmmokfleaa.Right
set_option linter.unusedVariables false

/-- Is a pair asked for. -/
def askR (all : Bool) (f tt : List UInt8) (r : Pr) : Bool := !klt r.key f && (all || klt r.key tt)
theorem filter_on {α : Type} {L : List α} {p : α → Bool} {i : Nat} {r : α} (h : L[i]? = some r) : (L.take (i + 1)).filter p = (L.take i).filter p ++ (if p r then [r] else []) := by
  rw [List.take_add_one, h, List.filter_append]
  simp [List.filter_cons]
set_option maxHeartbeats 4000000 in
theorem rangeR_t (w : World) (n₀ rb : Nat) (v : Value) (L : List Pr) (A B : Option Addr) (m c m2 c2 : Nat) (f tt : List UInt8) (all : Bool) (h : RT w n₀ rb v L) (hf : Bs w A m c f) (ht : Bs w B m2 c2 tt) (hl : L.length ≤ 1000) (M : List Pr) (hM : L.filter (askR all f tt) = M) :
    Calls Try.prog 15 #[.pointer (some ⟨rb, 0, none⟩), .slice A m c, .slice B m2 c2, .bool all] w fun e w' => ∃ A9 c9, e = .returned (.slice A9 M.length c9) ∧ w'.ownsRow w.heap.size tRP 2 (.slice A9 M.length c9) M.length (cellsP M) ∧ Below w.heap.size w w' := by
  obtain ⟨Av, cv, ev, _⟩ := form_own h.own
  obtain ⟨n, hn⟩ : ∃ n, L.length = n := ⟨_, rfl⟩
  rw [hn] at ev
  have HY := Lib.hid (show ∀ W', Below w.heap.size w W' → W'.cell? ⟨rb, 0, none⟩ = some (.slice Av n cv) from fun W' hW => by rw [(h.cel.below hW).at_ 0, ev]; rfl)
  have HN := Lib.hid hn
  have H := Lib.hid h
  have HF := Lib.hid hf
  have HT := Lib.hid ht
  have hn6 : n ≤ 1000 := by omega
  have HEV := Lib.hid ev
  have HM := Lib.hid hM
  clear h hf ht hl hn ev hM
  go_enter Try.func15, Try.ntmps15
  go_upto_region 3 with (fail)
  go_loopw [9, 10] (fun o i wr => ∃ (k : Nat) (A9 : Option Addr) (c9 : Nat) (S : List Pr) (s : Nat), k ≤ n ∧ s ≤ k ∧ i = .int .i64 (k : Int) ∧ o = .slice A9 s c9 ∧ Hid (S.length = s ∧ (L.take k).filter (askR all f tt) = S ∧ wr.ownsRow w.heap.size tRP 2 (.slice A9 s c9) s (cellsP S) ∧ Below w.heap.size w wr)) (fun _ i _ => n - (intOf i).toNat)
  case atStart => exact ⟨0, none, 0, [], 0, Nat.zero_le _, Nat.le_refl _, rfl, rfl, Lib.hid ⟨rfl, rfl, World.ownsRow_nil _ _ _ _, Below.refl _ _⟩⟩
  case round =>
    obtain ⟨k, A9, c9, S, s, hk, hsk, rfl, rfl, HR⟩ := hrel
    have hb9 := HR.out.2.2.2
    by_cases hlt : k < n
    · obtain ⟨r, hr⟩ : ∃ r, L[k]? = some r := ⟨_, List.getElem?_eq_getElem (by rw [HN.out]; exact hlt)⟩
      obtain ⟨g, cg, e2, hkr, hcell⟩ := H.out.pair hr
      rw [HEV.out, HN.out] at e2
      injection e2 with e2 e3 e4
      subst e2 e4
      rw [HN.out] at hcell
      have HK := Lib.hid hcell
      obtain ⟨y0, y1, y2⟩ := hcell wr hb9
      have t1 : (k : Int) < (n : Int) := by omega
      obtain ⟨b1, hb1⟩ : ∃ b, klt r.key f = b := ⟨_, rfl⟩
      obtain ⟨b2, hb2⟩ : ∃ b, klt r.key tt = b := ⟨_, rfl⟩
      have hask : askR all f tt r = (!b1 && (all || b2)) := by unfold askR; rw [hb1, hb2]
      have HRR := Lib.hid hr
      have HA := Lib.hid hask
      have HB12 := Lib.hid (show klt r.key f = b1 ∧ klt r.key tt = b2 from ⟨hb1, hb2⟩)
      have HKR := Lib.hid hkr
      clear hr hkr hcell e3 hb1 hb2 hask
      obtain ⟨q, hq⟩ : ∃ q, (!b1 && (all || b2)) = q := ⟨_, rfl⟩
      have HQ := Lib.hid hq
      have HBF2 := Lib.hid (show ∀ W', Below wr.heap.size wr W' → Calls Try.prog 35 #[.slice r.a r.key.length r.c, .slice A m c] W' fun e w' => e = .returned (.bool b1) ∧ Below wr.heap.size wr w' from fun W' hW => (below_in r.a A r.key.length m r.c c r.key f b1 HB12.out.1 W' W' (HKR.out.a.below (Mem.on HR.out.2.2.2 hW)) (HF.out.below (Mem.on HR.out.2.2.2 hW)) (Below.refl _ _)).mono fun _ _ ⟨a, b⟩ => ⟨a, Mem.on hW b⟩)
      have HBT2 := Lib.hid (show ∀ W', Below wr.heap.size wr W' → Calls Try.prog 35 #[.slice r.a r.key.length r.c, .slice B m2 c2] W' fun e w' => e = .returned (.bool b2) ∧ Below wr.heap.size wr w' from fun W' hW => (below_in r.a B r.key.length m2 r.c c2 r.key tt b2 HB12.out.2 W' W' (HKR.out.a.below (Mem.on HR.out.2.2.2 hW)) (HT.out.below (Mem.on HR.out.2.2.2 hW)) (Below.refl _ _)).mono fun _ _ ⟨a, b⟩ => ⟨a, Mem.on hW b⟩)
      have hb8 := Below.refl wr.heap.size wr
      clear hb9
      go_upto_region 5 with (fail)
      go_cut [45] from 20 to 45 (fun x wx => x = .bool q ∧ Hid (Below wr.heap.size wr wx))
      case first =>
        cases b1 with
        | true =>
          subst hq
          go_wp2_with (go_at_call 35; (with_reducible refine (HBF2.out _ (by assumption)).mono ?_); rintro e w3 ⟨rfl, hb3⟩; obtain ⟨y0, y1, y2⟩ := HK.out _ (Mem.on HR.out.2.2.2 hb3); have HB3 := Lib.hid hb3)
          go_meet
          exact ⟨rfl, HB3⟩
        | false =>
          cases all with
          | true =>
            subst hq
            go_wp2_with (go_at_call 35; (with_reducible refine (HBF2.out _ (by assumption)).mono ?_); rintro e w3 ⟨rfl, hb3⟩; obtain ⟨y0, y1, y2⟩ := HK.out _ (Mem.on HR.out.2.2.2 hb3); have HB3 := Lib.hid hb3)
            go_meet
            exact ⟨rfl, HB3⟩
          | false =>
            have hq2 : b2 = q := by simpa using hq
            subst hq2
            clear hq
            go_wp2_with first | (go_at_call 35; (with_reducible refine (HBF2.out _ (by assumption)).mono ?_); rintro e w3 ⟨rfl, hb3⟩; obtain ⟨y0, y1, y2⟩ := HK.out _ (Mem.on HR.out.2.2.2 hb3); have HB3 := Lib.hid hb3) | (go_at_call 35; (with_reducible refine (HBT2.out _ (by assumption)).mono ?_); rintro e w3 ⟨rfl, hb3⟩; obtain ⟨y0, y1, y2⟩ := HK.out _ (Mem.on HR.out.2.2.2 hb3); have HB3 := Lib.hid hb3)
            go_meet
            exact ⟨rfl, HB3⟩
      case rest =>
        obtain ⟨rfl, HB⟩ := hcut
        have hbw := Mem.on HR.out.2.2.2 HB.out
        have HBW := Lib.hid hbw
        clear y0 y1 y2 HBF2 HBT2
        obtain ⟨y0, y1, y2⟩ := HK.out _ hbw
        cases q with
        | false =>
          go_wp2
          go_roundw
          case rel => exact ⟨k + 1, A9, c9, S, s, by omega, by omega, by go_num, rfl, Lib.hid ⟨HR.out.1, by rw [filter_on HRR.out, HA.out, HQ.out, HR.out.2.1]; simp, own_below HR.out.2.2.1 HB.out, HBW.out⟩⟩
          case measure => simp [intOf]; omega
        | true =>
          obtain ⟨s1, hs1⟩ : ∃ s1, s + 1 = s1 := ⟨_, rfl⟩
          have HS1 := Lib.hid hs1
          have hal := al (Below.refl wc.heap.size wc) (.cells #[.slice r.a r.key.length r.c, .int .i64 r.num] tRP)
          have HO4 := Lib.hid (own_below (own_below HR.out.2.2.1 HB.out) hal)
          have HAL := Lib.hid (Mem.on hbw hal)
          have HS4 := Lib.hid (show Src (wc.alloc (.cells #[.slice r.a r.key.length r.c, .int .i64 r.num] tRP)) 2 (.slice (some ⟨wc.heap.size, 0, none⟩) 1 1) 1 (cells2 r) from .inr ⟨_, _, rfl, rfl, fun j u hj => by
            have hc := Cel.new wc tRP #[.slice r.a r.key.length r.c, .int .i64 r.num] rfl
            match j with
            | 0 => simp [cells2, kv] at hj; subst hj; exact hc.at_ 0
            | 1 => simp [cells2, kv] at hj; subst hj; exact hc.at_ 1
            | j + 2 => simp [cells2] at hj⟩)
          clear hs1 hal hbw
          go_wp2_with (at_builtin; go_loud (refine wp_part elemRP (.tmp 46) (.tmp 54) rfl rfl (B := w.heap.size) (v := .slice A9 s c9) rfl rfl HO4.out HS4.out (fun u hu => by simp [cells2, kv] at hu; rcases hu with rfl | rfl <;> rfl) (by omega) (by omega) HAL.out.size s1 HS1.out ?_; intro A5 c5 w5 o5 g5 _; have HB5 := Lib.hid (show Below w.heap.size w w5 from HAL.out.trans (grown_low g5 (newRow_of HO4.out) HAL.out.size)); have HO5 := Lib.hid o5; clear o5 g5))
          go_roundw
          case rel => exact ⟨k + 1, A5, c5, S ++ [r], s1, by omega, by have := HS1.out; omega, by go_num, rfl, Lib.hid ⟨by rw [List.length_append, HR.out.1, ← HS1.out]; rfl, by rw [filter_on HRR.out, HA.out, HQ.out, HR.out.2.1]; simp, by
            have := HO5.out
            rw [show cellsP S ++ cells2 r = cellsP (S ++ [r]) by simp [cellsP]] at this
            exact this, HB5.out⟩⟩
          case measure => simp [intOf]; omega
    · have hkn : k = n := by omega
      subst hkn
      have y0 := HY.out wr hb9
      obtain ⟨r1, r2, r3, r4⟩ := HR.out
      rw [List.take_of_length_le (by rw [HN.out]; exact Nat.le_refl _), HM.out] at r2
      subst r2
      subst r1
      have HO := Lib.hid r3
      have HB := Lib.hid r4
      clear r3 r4 HR
      go_wp2
      go_ret
      exact ⟨A9, c9, rfl, HO.out, HB.out⟩
end Go.Proofs.Ytjlfacmmokfleaa.Bt
/- Two trees side by side: the pairs between two keys. -/
namespace Go.Proofs.Ytjlfacmmokfleaa.Bt
open Go.RowKit Go.Proofs.Ytjlfacmmokfleaa.Mem Go.Proofs.Ytjlfacmmokfleaa.Right
set_option linter.unusedVariables false

theorem key_le {a b : Pr} (h : ltb a.k b.k = true) {t : List UInt8} (hb : klt b.key t = true) : klt a.key t = true := by
  rcases ltb_iff.1 h with h | ⟨e, _⟩
  · exact klt_trans h hb
  · have e : a.key = b.key := e
    rw [e]; exact hb
theorem take_filter {all : Bool} {tt : List UInt8} : ∀ {L : List Pr}, Sorted L → L.takeWhile (goR all tt) = L.filter (goR all tt)
  | [], _ => rfl
  | x :: t, h => by
    obtain ⟨h1, h2⟩ := List.pairwise_cons.1 h
    rw [List.takeWhile_cons, List.filter_cons]
    cases e : goR all tt x with
    | true => rw [if_pos rfl, if_pos rfl, take_filter h2]
    | false =>
      rw [if_neg (by decide), if_neg (by decide)]
      refine (List.filter_eq_nil_iff.2 (fun y hy => ?_)).symm
      intro hy2
      unfold goR at e hy2
      cases all with
      | true => simp at e
      | false =>
        simp at e hy2
        rw [key_le (h1 y hy) hy2] at e
        cases e
theorem range_eq {all : Bool} {f tt : List UInt8} : ∀ {L : List Pr}, Sorted L → (∀ r ∈ L, -9223372036854775808 ≤ r.num) → (hi (f, minI) L).takeWhile (goR all tt) = L.filter (askR all f tt)
  | [], _, _ => rfl
  | x :: t, h, hn => by
    obtain ⟨h1, h2⟩ := List.pairwise_cons.1 h
    have hx := hn x (by simp)
    have e : ltb x.k (f, minI) = klt x.key f := by
      show (klt x.key f || (x.key == f && decide (x.num < minI))) = _
      rw [decide_eq_false (by unfold minI; omega)]; simp
    have hh : hi (f, minI) (x :: t) = if klt x.key f then hi (f, minI) t else x :: t := by
      unfold hi
      rw [List.dropWhile_cons, e]
    rw [hh, List.filter_cons]
    cases e2 : klt x.key f with
    | true =>
      have : askR all f tt x = false := by unfold askR; rw [e2]; rfl
      rw [if_pos rfl, this, if_neg (by decide)]
      exact range_eq h2 (fun r hr => hn r (by simp [hr]))
    | false =>
      rw [if_neg (by decide), take_filter h, List.filter_cons]
      have e3 : askR all f tt x = goR all tt x := by unfold askR goR; rw [e2]; rfl
      have e4 : t.filter (goR all tt) = t.filter (askR all f tt) := List.filter_congr (fun y hy => by
        have : klt y.key f = false := by
          cases e5 : klt y.key f with
          | false => rfl
          | true => rw [key_le (h1 y hy) e5] at e2; cases e2
        unfold askR goR
        rw [this]; rfl)
      rw [e3, e4]
theorem ask_map {all : Bool} {f tt : List UInt8} {L L' : List Pr} (h : L.map Pr.k = L'.map Pr.k) : (L.filter (askR all f tt)).map Pr.k = (L'.filter (askR all f tt)).map Pr.k := by
  have e : ∀ M : List Pr, (M.filter (askR all f tt)).map Pr.k = (M.map Pr.k).filter (fun y : Kn => !klt y.1 f && (all || klt y.1 tt)) := fun M => by
    rw [List.filter_map]; rfl
  rw [e, e, h]
/-- The pairs between two keys, handed out, are the document's. -/
theorem Duo.between {w : World} {n₀ tb rb n : Nat} (h : Duo w n₀ tb rb n) (hn : n ≤ 1000) (w0 : World) (h0 : Below w0.heap.size w0 w) (A B : Option Addr) (m1 c1 m2 c2 : Nat) (f tt : List UInt8) (hf : Bs w0 A m1 c1 f) (ht : Bs w0 B m2 c2 tt) (all : Bool) : ∃ m : Nat, ∀ W, Below w.heap.size w W →
    Calls Try.prog 14 #[.pointer (some ⟨tb, 0, none⟩), .slice A m1 c1, .slice B m2 c2, .bool all] W fun e w' => ∃ A3 c3, e = .returned (.slice A3 m c3) ∧
      Hid (Calls Try.prog 15 #[.pointer (some ⟨rb, 0, none⟩), .slice A m1 c1, .slice B m2 c2, .bool all] w' fun e' w2 => ∃ A9 c9, e' = .returned (.slice A9 m c9) ∧
        Hid (Calls Try.prog 13 #[.slice A3 m c3, .slice A9 m c9] w2 fun e'' w3 => e'' = .returned (.bool true) ∧ Below w.heap.size w w3)) := by
  obtain ⟨v, L, L', h1, h2, h3, h4, h5⟩ := h.both
  have hl := congrArg List.length h3
  simp at hl
  have hmap := ask_map (all := all) (f := f) (tt := tt) h3
  have hle : (L.filter (askR all f tt)).length ≤ L.length := List.length_filter_le _ _
  have hlM : (L'.filter (askR all f tt)).length = (L.filter (askR all f tt)).length := by
    have := congrArg List.length hmap
    simpa using this.symm
  refine ⟨(L.filter (askR all f tt)).length, fun W hW => ?_⟩
  have hw0 := Mem.on h0 hW
  refine (range_t W n₀ tb [rb] L A B m1 c1 m2 c2 f tt all (h1.below hW) (hf.below hw0) (ht.below hw0) (by omega) (fun r hr => by have := (h5 r hr).1; omega)).mono ?_
  rintro e w' ⟨A3, c3, s, rfl, ⟨k1, k2, k3, k4⟩, k5⟩
  rw [range_eq h1.sorted (fun r hr => (h5 r hr).2)] at k5
  have hsl : s.length = (L.filter (askR all f tt)).length := by have := congrArg List.length k5; simpa using this
  rw [hsl] at k1 ⊢
  refine ⟨A3, c3, rfl, Lib.hid ?_⟩
  have hW' := Mem.on hW k4
  have hw0' := Mem.on h0 hW'
  refine (rangeR_t w' n₀ rb v L' A B m1 c1 m2 c2 f tt all (h2.below hW') (hf.below hw0') (ht.below hw0') (by omega) _ rfl).mono ?_
  rintro e' w2 ⟨A9, c9, rfl, j1, j2⟩
  rw [hlM] at j1 ⊢
  refine ⟨A9, c9, rfl, Lib.hid ?_⟩
  have hW2 := Mem.on hW' j2
  have h2' := h2.below hW2
  refine (same_t w2 _ 0 w'.heap.size A3 A9 c3 c9 s _ (own_below k1 j2) j1 (fun r hr => ((k3 r hr).1.below j2).a) (fun r hr => (h2'.keys r ((List.mem_filter.1 hr).1)).a) (k5.trans hmap) hsl (by omega)).mono ?_
  rintro e'' w3 ⟨a, b⟩
  exact ⟨a, Mem.on hW2 b⟩
end Go.Proofs.Ytjlfacmmokfleaa.Bt
/- The law that what lies between two keys is the document's: the walk. -/
namespace Go.Proofs.Ytjlfacmmokfleaa.Bt
open Go.RowKit Go.Proofs.Ytjlfacmmokfleaa.Mem Go.Proofs.Ytjlfacmmokfleaa.Right
set_option linter.unusedVariables false

set_option maxRecDepth 100000 in
set_option maxHeartbeats 8000000 in
theorem walk_ranges (P : Option Addr) (n c : Nat) (acs : List Ab) (A1 : Option Addr) (n1 c1 : Nat) (l1 : List UInt8) (A2 : Option Addr) (n2 c2 : Nat) (l2 : List UInt8) (w : World) (hn : acs.length = n) (hn64 : n ≤ 9223372036854775807) (h : Acts w P acs) (hf : Bs w A1 n1 c1 l1) (ht : Bs w A2 n2 c2 l2) :
    Calls Try.prog 4 #[.slice P n c, .slice A1 n1 c1, .slice A2 n2 c2] w fun e w' => e = .returned (.bool true) ∧ Below w.heap.size w w' := by
  have H := Lib.hid h
  have HN := Lib.hid hn
  have HF := Lib.hid hf
  have HT := Lib.hid ht
  clear h hn hf ht
  by_cases hl1 : 100 < n1
  · have t1 : (100 : Int) < (n1 : Int) := by omega
    have t2 : decide ((100 : Int) < (n1 : Int)) = true := decide_eq_true t1
    go_enter Try.func4, Try.ntmps4
    go_wp2_with (go_at_call 9; (with_reducible refine (works_on (Below.refl w.heap.size w)).mono ?_); rintro e w3 ⟨rfl, hb3⟩; have HB3 := Lib.hid hb3; clear hb3)
    go_ret
    exact ⟨rfl, HB3.out⟩
  by_cases hl2 : 100 < n2
  · have t1 : decide ((100 : Int) < (n1 : Int)) = false := decide_eq_false (by omega)
    have t3 : (100 : Int) < (n2 : Int) := by omega
    have t4 : decide ((100 : Int) < (n2 : Int)) = true := decide_eq_true t3
    go_enter Try.func4, Try.ntmps4
    go_wp2_with (go_at_call 9; (with_reducible refine (works_on (Below.refl w.heap.size w)).mono ?_); rintro e w3 ⟨rfl, hb3⟩; have HB3 := Lib.hid hb3; clear hb3)
    go_ret
    exact ⟨rfl, HB3.out⟩
  have t1 : decide ((100 : Int) < (n1 : Int)) = false := decide_eq_false (by omega)
  have t2 : decide ((100 : Int) < (n2 : Int)) = false := decide_eq_false (by omega)
  go_enter Try.func4, Try.ntmps4
  go_upto_region 4 with (go_at_call 7; (with_reducible refine (new_t w).mono ?_); rintro e w1 ⟨tb, rfl, hp1, hb1⟩; have HD1 := Lib.hid (Duo.made hp1 hb1); have HB1 := Lib.hid (al hb1 (.cells #[.slice none 0 0] tR)); clear hp1 hb1)
  go_upto_region 5 with fail
  have hD2 := HD1.out
  have hB2 := HB1.out
  clear HD1 HB1
  generalize w1.alloc (.cells #[.slice none 0 0] tR) = W2 at hD2 hB2 ⊢
  generalize w1.heap.size = rb at hD2 ⊢
  have HD2 := Lib.hid (show _ ∧ _ from ⟨hD2, hB2⟩)
  clear hD2 hB2
  go_wp2
  go_loopw [9] (fun i wr => ∃ k : Nat, k ≤ n ∧ k ≤ 400 ∧ i = .int .i64 k ∧ Hid (Duo wr w.heap.size tb rb k ∧ Below w.heap.size w wr)) (fun i _ => n - (intOf i).toNat)
  case atStart => exact ⟨0, Nat.zero_le _, Nat.zero_le _, rfl, HD2⟩
  case round =>
    clear HD2
    obtain ⟨k, hk, hk4, rfl, HD⟩ := hrel
    by_cases hlt : k < n ∧ k < 400
    · obtain ⟨hlt, h4⟩ := hlt
      obtain ⟨b, o, a, rfl, hok, hc⟩ := H.out.one (k := k) (by rw [HN.out]; exact hlt)
      have HC := Lib.hid hc
      have HA := Lib.hid hok
      clear hc hok
      have hlt' : (k : Int) < (n : Int) := by omega
      have h4' : (k : Int) < 400 := by omega
      have d1 : decide (k < n) = true := decide_eq_true hlt
      have d2 : decide ((k : Int) < 400) = true := decide_eq_true h4'
      obtain ⟨e0, e1, e2⟩ := HC.out wr HD.out.2
      by_cases hlong : 100 < a.n
      · have HLG := Lib.hid (decide_eq_true (show (100 : Int) < (a.n : Int) by omega))
        have HB0 := Lib.hid HD.out.2
        clear HD
        go_wp2_with first | (go_at_call 8; (with_reducible refine (long_t a true HLG.out _).mono ?_); rintro e w2 ⟨rfl, hb2⟩; have HB2 := Lib.hid (Mem.on HB0.out hb2); clear hb2) | (go_at_call 9; (with_reducible refine (works_on HB2.out).mono ?_); rintro e w3 ⟨rfl, hb3⟩; have HB3 := Lib.hid hb3; clear hb3)
        go_ret
        exact ⟨rfl, HB3.out⟩
      · have HLG := Lib.hid (decide_eq_false (show ¬ (100 : Int) < (a.n : Int) by omega))
        go_upto_region 10 with (go_at_call 8; (with_reducible refine (long_t a false HLG.out _).mono ?_); rintro e w2 ⟨rfl, hb2⟩; have HD2 := Lib.hid (show Duo w2 w.heap.size tb rb k ∧ Below w.heap.size w w2 from ⟨HD.out.1.below hb2, Mem.on HD.out.2 hb2⟩); clear hb2)
        clear e0 e1 e2 HD HLG
        obtain ⟨e0, e1, e2⟩ := HC.out w2 HD2.out.2
        have HDN := Lib.hid (done_any w w2 tb rb k a HD2.out.1 HD2.out.2 HA.out (by omega) (by omega))
        clear hlong HD2
        go_wp2_with (go_at_call 10; (with_reducible refine HDN.out.mono ?_); rintro e w3 ⟨rfl, hd3, hb3⟩; have HD3 := Lib.hid (show Duo w3 w.heap.size tb rb (k + 1) ∧ Below w.heap.size w w3 from ⟨hd3, hb3⟩); clear hd3 hb3)
        go_roundw
        case rel => exact ⟨k + 1, by omega, by omega, by go_num, HD3⟩
        case measure => simp [intOf]; omega
    · by_cases hlt0 : k < n
      · have d1 : decide (k < n) = true := decide_eq_true hlt0
        have hlt' : (k : Int) < (n : Int) := by omega
        have d2 : decide ((k : Int) < 400) = false := decide_eq_false (by omega)
        have h4' : ¬ (k : Int) < 400 := by omega
        obtain ⟨p1, hp1⟩ := HD.out.1.between (by omega) w HD.out.2 A1 A2 n1 c1 n2 c2 l1 l2 HF.out HT.out false
        obtain ⟨p2, hp2⟩ := HD.out.1.between (by omega) w HD.out.2 A1 A2 n1 c1 n2 c2 l1 l2 HF.out HT.out true
        have HF1 := Lib.hid hp1
        have HF2 := Lib.hid hp2
        have HWK := Lib.hid (fun W (hW : Below wr.heap.size wr W) => works_on (w := wr) hW)
        have HB0 := Lib.hid HD.out.2
        have hb0 := Below.refl wr.heap.size wr
        clear hp1 hp2 HD
        go_wp2_with first | (go_at_call 14; (with_reducible refine (HF1.out _ hb0).mono ?_); rintro e w5 ⟨A5, c5, rfl, HR5⟩) | (go_at_call 15; (with_reducible refine HR5.out.mono ?_); rintro e w6 ⟨A6, c6, rfl, HS6⟩) | (go_at_call 13; (with_reducible refine HS6.out.mono ?_); rintro e w7 ⟨rfl, hb7⟩; have HB7 := Lib.hid hb7; clear hb7) | (go_at_call 14; (with_reducible refine (HF2.out _ HB7.out).mono ?_); rintro e w8 ⟨A8, c8, rfl, HR8⟩) | (go_at_call 15; (with_reducible refine HR8.out.mono ?_); rintro e w9 ⟨A9, c9, rfl, HS9⟩) | (go_at_call 13; (with_reducible refine HS9.out.mono ?_); rintro e w10 ⟨rfl, hb10⟩; have HB10 := Lib.hid hb10; clear hb10) | (go_at_call 9; (with_reducible refine (HWK.out _ HB10.out).mono ?_); rintro e w11 ⟨rfl, hb11⟩; have HB11 := Lib.hid hb11; clear hb11)
        go_ret
        exact ⟨rfl, Mem.on HB0.out HB11.out⟩
      · have d1 : decide (k < n) = false := decide_eq_false hlt0
        have hlt' : ¬ (k : Int) < (n : Int) := by omega
        obtain ⟨p1, hp1⟩ := HD.out.1.between (by omega) w HD.out.2 A1 A2 n1 c1 n2 c2 l1 l2 HF.out HT.out false
        obtain ⟨p2, hp2⟩ := HD.out.1.between (by omega) w HD.out.2 A1 A2 n1 c1 n2 c2 l1 l2 HF.out HT.out true
        have HF1 := Lib.hid hp1
        have HF2 := Lib.hid hp2
        have HWK := Lib.hid (fun W (hW : Below wr.heap.size wr W) => works_on (w := wr) hW)
        have HB0 := Lib.hid HD.out.2
        have hb0 := Below.refl wr.heap.size wr
        clear hp1 hp2 HD
        go_wp2_with first | (go_at_call 14; (with_reducible refine (HF1.out _ hb0).mono ?_); rintro e w5 ⟨A5, c5, rfl, HR5⟩) | (go_at_call 15; (with_reducible refine HR5.out.mono ?_); rintro e w6 ⟨A6, c6, rfl, HS6⟩) | (go_at_call 13; (with_reducible refine HS6.out.mono ?_); rintro e w7 ⟨rfl, hb7⟩; have HB7 := Lib.hid hb7; clear hb7) | (go_at_call 14; (with_reducible refine (HF2.out _ HB7.out).mono ?_); rintro e w8 ⟨A8, c8, rfl, HR8⟩) | (go_at_call 15; (with_reducible refine HR8.out.mono ?_); rintro e w9 ⟨A9, c9, rfl, HS9⟩) | (go_at_call 13; (with_reducible refine HS9.out.mono ?_); rintro e w10 ⟨rfl, hb10⟩; have HB10 := Lib.hid hb10; clear hb10) | (go_at_call 9; (with_reducible refine (HWK.out _ HB10.out).mono ?_); rintro e w11 ⟨rfl, hb11⟩; have HB11 := Lib.hid hb11; clear hb11)
        go_ret
        exact ⟨rfl, Mem.on HB0.out HB11.out⟩
end Go.Proofs.Ytjlfacmmokfleaa.Bt
