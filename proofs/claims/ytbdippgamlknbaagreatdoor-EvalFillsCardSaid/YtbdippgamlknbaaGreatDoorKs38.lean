/- The document's own way to tell a token's kind (registrarref09.Kind, IsName): it is kindOf. -/
import Derived.Deep.CutRange
import Derived.Deep.RegionWith
import Derived.Test.YtbdippgamlknbaaGreatDoorKs24
namespace Go.Proofs.YtbdippgamlknbaaGreatDoor.Lx
open Go.RowKit Go.Proofs.YtbdippgamlknbaaGreatDoor.Mem Go.Proofs.YtbdippgamlknbaaGreatDoor.Right
set_option linter.unusedVariables false
theorem signR_is (l : List UInt8) : signR l = decide (l ∈ sgs) := by
  match l with
  | [] => rfl
  | [c] =>
    show single c = _
    by_cases h : [c] ∈ sgs
    · rw [decide_eq_true h]; exact (single_sg c).2 h
    · rw [decide_eq_false h, Bool.eq_false_iff]; exact fun g => h ((single_sg c).1 g)
  | [c, d] =>
    show two c d = _
    by_cases h : [c, d] ∈ sgs
    · rw [decide_eq_true h]; exact (two_sg c d).2 h
    · rw [decide_eq_false h, Bool.eq_false_iff]; exact fun g => h ((two_sg c d).1 g)
  | c :: d :: e :: t =>
    rw [decide_eq_false (fun h => by have := sg_lit _ h; simp at this)]
    rfl
set_option maxHeartbeats 2000000 in
theorem refSign_any (s : ByteArray) (w : World) : Calls Tryz.prog 232 #[.string s] w fun e w' => e = .returned (.bool (signR s.data.toList)) ∧ w = w' := by
  have hq : ∀ l : List UInt8, (s.toList == l) = decide (s.data.toList = l) := fun l => by
    rw [Lib.toList_data]
    by_cases h : s.data.toList = l
    · rw [h]; simp
    · rw [decide_eq_false h, beq_eq_false_iff_ne]; exact h
  by_cases h : s.data.toList ∈ sgs
  · have H : signR s.data.toList = true := by rw [signR_is]; exact decide_eq_true h
    simp only [sgs, List.mem_cons, List.not_mem_nil, or_false] at h
    have hs : s = ⟨s.data.toList.toArray⟩ := by obtain ⟨⟨l⟩⟩ := s; rfl
    rcases h with h | h | h | h | h | h | h | h | h | h | h | h | h | h | h
    all_goals
      rw [H]
      rw [h] at hs
      subst hs
      clear h H hq
      go_enter Tryz.func232, Tryz.ntmps232
      go_wp2
      go_ret
      exact ⟨rfl, rfl⟩
  · have H := Lib.hid (show signR s.data.toList = false by rw [signR_is]; exact decide_eq_false h)
    have no : ∀ l ∈ sgs, (s.toList == l) = false := fun l hl => by rw [hq]; exact decide_eq_false fun e => h (e ▸ hl)
    have q1 := no [40] (by decide)
    have q2 := no [41] (by decide)
    have q3 := no [44] (by decide)
    have q4 := no [61] (by decide)
    have q5 := no [60, 62] (by decide)
    have q6 := no [60] (by decide)
    have q7 := no [60, 61] (by decide)
    have q8 := no [62] (by decide)
    have q9 := no [62, 61] (by decide)
    have qa := no [43] (by decide)
    have qb := no [45] (by decide)
    have qc := no [42] (by decide)
    have qd := no [47] (by decide)
    have qe := no [37] (by decide)
    have qf := no [124, 124] (by decide)
    clear h hq no
    go_enter Tryz.func232, Tryz.ntmps232
    go_wp2
    go_ret
    exact ⟨rb H.out.symm, rfl⟩
theorem dec3 (p : Prop) [Decidable p] (a b : Bool) : decide (p ∧ a = true ∧ b = true) = (decide p && (a && b)) := by cases a <;> cases b <;> simp
theorem dec4 (p q r : Prop) [Decidable p] [Decidable q] [Decidable r] (a : Bool) : decide (p ∧ a = true ∧ (q ∨ r)) = (decide p && (a && (decide q || decide r))) := by cases a <;> simp [Bool.decide_and, Bool.decide_or]
theorem inS_small : inS smallsL = small := by funext c; rw [inS_contains, small_set]
theorem inS_cap : inS capsL = cap := by funext c; rw [inS_contains, cap_set]
theorem inS_dig : inS digsL = dig := by funext c; rw [inS_contains, dig_set]
theorem inS_name : inS (smallsL ++ digsL ++ [95]) = inName := by funext c; rw [inS_contains, name_set]
theorem inS_key : inS (capsL ++ [95]) = inKey := by funext c; rw [inS_contains, key_set]
theorem kind_ifs {c : UInt8} {t : List UInt8} {K1 K2 K3 K4 K5 K6 : Bool} (h1 : decide ((c :: t).length ≤ 12 ∧ small c = true ∧ t.all inName = true) = K1) (h2 : decide ((c :: t).length ≤ 16 ∧ cap c = true ∧ t.all inKey = true) = K2)
    (h3 : decide ((c :: t).length ≤ 19 ∧ (c :: t).all dig = true ∧ (c :: t = [48] ∨ c ≠ 48)) = K3) (h4 : quotedR (c :: t) = K4) (h5 : decide (c = 36 ∧ isPar t = true) = K5) (h6 : signR (c :: t) = K6) :
    kindR (c :: t) = if K1 = true then 1 else if K2 = true then 2 else if K3 = true then 3 else if K4 = true then 4 else if K5 = true then 5 else if K6 = true then 6 else 0 := by
  rw [kindR_cons, ← h1, ← h2, ← h3, ← h4, ← h5, ← h6]
  simp only [decide_eq_true_eq]
set_option maxHeartbeats 4000000 in
set_option maxRecDepth 100000 in
theorem refKind_any (s : ByteArray) (hs : s.size ≤ 1000000) (w : World) :
    Calls Tryz.prog 170 #[.string s] w fun e w' => e = .returned (.int .i64 (kindOf s.data.toList : Int)) ∧ Below w.heap.size w w' := by
  rcases empty_or s with rfl | ⟨hne, hse⟩
  · go_enter Tryz.func170, Tryz.ntmps170
    go_wp2
    go_ret
    exact ⟨rfl, Below.refl _ _⟩
  obtain ⟨c, t, hL⟩ := List.exists_cons_of_ne_nil hne
  have hll : s.data.toList.length = s.size := by rw [Array.length_toList]; rfl
  have hp0 : 0 < s.size := by rw [← hll, hL]; simp
  have hc : s[0] = c := by
    have := byte_at s 0 hp0
    rw [hL] at this
    simp at this
    exact this.symm
  have hlc : (c :: t).length = s.size := by rw [← hL]; exact hll
  have hx : (s.extract 0 1).data.toList = [c] := by
    have : (s.extract 0 1).data.toList = s.data.toList.take 1 := by simp [ByteArray.data_extract, Array.toList_extract]
    rw [this, hL]; rfl
  have F := fun (z : ByteArray) (hz : z.size ≤ 1000) W => all_any (s.extract 0 1) z 0 (by rw [ByteArray.size_extract]; omega) hz (by omega) W
  have G := fun (n : Nat) (hn : n ≤ 1) (z : ByteArray) (hz : z.size ≤ 1000) W => all_any s z n hs hz (by omega) W
  rw [hx] at F
  rw [hL] at G
  obtain ⟨a1, ha1⟩ : ∃ a, small c = a := ⟨_, rfl⟩
  obtain ⟨a2, ha2⟩ : ∃ a, t.all inName = a := ⟨_, rfl⟩
  obtain ⟨b1, hb1⟩ : ∃ a, cap c = a := ⟨_, rfl⟩
  obtain ⟨b2, hb2⟩ : ∃ a, t.all inKey = a := ⟨_, rfl⟩
  obtain ⟨d1, hd1⟩ : ∃ a, (c :: t).all dig = a := ⟨_, rfl⟩
  have A1 := Lib.hid (show ∀ W, Calls Tryz.prog 230 #[.string (s.extract 0 1), .int .i64 0, .string ⟨#[97, 98, 99, 100, 101, 102, 103, 104, 105, 106, 107, 108, 109, 110, 111, 112, 113, 114, 115, 116, 117, 118, 119, 120, 121, 122]⟩] W fun e w' => e = .returned (.bool a1) ∧ Below W.heap.size W w' from fun W => by
    have := F ⟨#[97, 98, 99, 100, 101, 102, 103, 104, 105, 106, 107, 108, 109, 110, 111, 112, 113, 114, 115, 116, 117, 118, 119, 120, 121, 122]⟩ (by decide) W
    rw [show (⟨#[97, 98, 99, 100, 101, 102, 103, 104, 105, 106, 107, 108, 109, 110, 111, 112, 113, 114, 115, 116, 117, 118, 119, 120, 121, 122]⟩ : ByteArray).data.toList = smallsL from rfl, inS_small, List.drop_zero, List.all_cons, List.all_nil, Bool.and_true, ha1] at this
    exact this)
  have B1 := Lib.hid (show ∀ W, Calls Tryz.prog 230 #[.string (s.extract 0 1), .int .i64 0, .string ⟨#[65, 66, 67, 68, 69, 70, 71, 72, 73, 74, 75, 76, 77, 78, 79, 80, 81, 82, 83, 84, 85, 86, 87, 88, 89, 90]⟩] W fun e w' => e = .returned (.bool b1) ∧ Below W.heap.size W w' from fun W => by
    have := F ⟨#[65, 66, 67, 68, 69, 70, 71, 72, 73, 74, 75, 76, 77, 78, 79, 80, 81, 82, 83, 84, 85, 86, 87, 88, 89, 90]⟩ (by decide) W
    rw [show (⟨#[65, 66, 67, 68, 69, 70, 71, 72, 73, 74, 75, 76, 77, 78, 79, 80, 81, 82, 83, 84, 85, 86, 87, 88, 89, 90]⟩ : ByteArray).data.toList = capsL from rfl, inS_cap, List.drop_zero, List.all_cons, List.all_nil, Bool.and_true, hb1] at this
    exact this)
  have A2 := Lib.hid (show ∀ W, Calls Tryz.prog 230 #[.string s, .int .i64 1, .string ⟨#[97, 98, 99, 100, 101, 102, 103, 104, 105, 106, 107, 108, 109, 110, 111, 112, 113, 114, 115, 116, 117, 118, 119, 120, 121, 122, 48, 49, 50, 51, 52, 53, 54, 55, 56, 57, 95]⟩] W fun e w' => e = .returned (.bool a2) ∧ Below W.heap.size W w' from fun W => by
    have := G 1 (by omega) ⟨#[97, 98, 99, 100, 101, 102, 103, 104, 105, 106, 107, 108, 109, 110, 111, 112, 113, 114, 115, 116, 117, 118, 119, 120, 121, 122, 48, 49, 50, 51, 52, 53, 54, 55, 56, 57, 95]⟩ (by decide) W
    rw [show (⟨#[97, 98, 99, 100, 101, 102, 103, 104, 105, 106, 107, 108, 109, 110, 111, 112, 113, 114, 115, 116, 117, 118, 119, 120, 121, 122, 48, 49, 50, 51, 52, 53, 54, 55, 56, 57, 95]⟩ : ByteArray).data.toList = smallsL ++ digsL ++ [95] from rfl, inS_name, List.drop_succ_cons, List.drop_zero, ha2] at this
    exact this)
  have B2 := Lib.hid (show ∀ W, Calls Tryz.prog 230 #[.string s, .int .i64 1, .string ⟨#[65, 66, 67, 68, 69, 70, 71, 72, 73, 74, 75, 76, 77, 78, 79, 80, 81, 82, 83, 84, 85, 86, 87, 88, 89, 90, 95]⟩] W fun e w' => e = .returned (.bool b2) ∧ Below W.heap.size W w' from fun W => by
    have := G 1 (by omega) ⟨#[65, 66, 67, 68, 69, 70, 71, 72, 73, 74, 75, 76, 77, 78, 79, 80, 81, 82, 83, 84, 85, 86, 87, 88, 89, 90, 95]⟩ (by decide) W
    rw [show (⟨#[65, 66, 67, 68, 69, 70, 71, 72, 73, 74, 75, 76, 77, 78, 79, 80, 81, 82, 83, 84, 85, 86, 87, 88, 89, 90, 95]⟩ : ByteArray).data.toList = capsL ++ [95] from rfl, inS_key, List.drop_succ_cons, List.drop_zero, hb2] at this
    exact this)
  have D1 := Lib.hid (show ∀ W, Calls Tryz.prog 230 #[.string s, .int .i64 0, .string ⟨#[48, 49, 50, 51, 52, 53, 54, 55, 56, 57]⟩] W fun e w' => e = .returned (.bool d1) ∧ Below W.heap.size W w' from fun W => by
    have := G 0 (by omega) ⟨#[48, 49, 50, 51, 52, 53, 54, 55, 56, 57]⟩ (by decide) W
    rw [show (⟨#[48, 49, 50, 51, 52, 53, 54, 55, 56, 57]⟩ : ByteArray).data.toList = digsL from rfl, inS_dig, List.drop_zero, hd1] at this
    exact this)
  have Q := Lib.hid (fun W => refQuoted_any s hs W)
  have SI := Lib.hid (fun W => refSign_any s W)
  obtain ⟨K4, hK4⟩ : ∃ K, quotedR (c :: t) = K := ⟨_, rfl⟩
  obtain ⟨K5, hK5⟩ : ∃ K, decide (c = 36 ∧ isPar t = true) = K := ⟨_, rfl⟩
  obtain ⟨K6, hK6⟩ : ∃ K, signR (c :: t) = K := ⟨_, rfl⟩
  obtain ⟨e1, he1⟩ : ∃ e, decide (c :: t = [48]) = e := ⟨_, rfl⟩
  obtain ⟨e2, he2⟩ : ∃ e, decide (c ≠ 48) = e := ⟨_, rfl⟩
  have hz1 : (s.toList == [48]) = e1 := by
    rw [Lib.toList_data, hL, ← he1]
    by_cases h : c :: t = [48]
    · rw [h]; simp
    · rw [decide_eq_false h, beq_eq_false_iff_ne]; exact h
  have hz2 : ((c.toNat : Int) != 48) = e2 := by
    rw [← he2]
    by_cases h : c = 48
    · subst h; rfl
    · rw [decide_eq_true h]; exact bne_yes (fun e => h (byte_is' (k := 48) e))
  have H := Lib.hid (kind_ifs (c := c) (t := t) (K1 := decide (s.size ≤ 12) && (a1 && a2)) (K2 := decide (s.size ≤ 16) && (b1 && b2)) (K3 := decide (s.size ≤ 19) && (d1 && (e1 || e2)))
    (by rw [hlc, ha1, ha2]; exact dec3 _ _ _) (by rw [hlc, hb1, hb2]; exact dec3 _ _ _) (by rw [hlc, hd1, ← he1, ← he2]; exact dec4 _ _ _ _) hK4 hK5 hK6)
  rw [hL, ← kindR_is]
  rw [hL, hK4] at Q
  rw [hL, hK6] at SI
  have T2 := fun (h : s.size = 2) => (show ∃ d, t = [d] ∧ ∀ h1 : 1 < s.size, s[1] = d from by
    have h3 : t.length = 1 := by rw [List.length_cons] at hlc; omega
    obtain ⟨d, rfl⟩ := List.length_eq_one_iff.1 h3
    refine ⟨d, rfl, fun h1 => ?_⟩
    have := byte_at s 1 h1
    rw [hL] at this
    simp at this
    exact this.symm)
  have T3 := Lib.hid (show s.size ≠ 2 → K5 = false from fun h => by
    rw [← hK5]
    refine decide_eq_false fun g => ?_
    match t, g.2 with
    | [d], _ => simp at hlc; omega
    | [], g2 => cases g2
    | _ :: _ :: _, g2 => cases g2)
  have HB0 := Lib.hid (Below.refl w.heap.size w)
  have HK5 := Lib.hid hK5
  clear F G ha1 ha2 hb1 hb2 hd1 hK4 hK5 hK6 he1 he2 hne hll hlc hx hL
  go_enter Tryz.func170, Tryz.ntmps170
  go_upto_region 3 with fail
  go_cut [6] from 7 to 18 (fun x wx => x = .bool (decide (s.size ≤ 12) && (a1 && a2)) ∧ Hid (Below w.heap.size w wx))
  case first =>
    by_cases hl : s.size ≤ 12
    · have tl : decide ((s.size : Int) ≤ 12) = true := decide_eq_true (by omega)
      have tn : decide (s.size ≤ 12) = true := decide_eq_true hl
      cases a1 with
      | true =>
        go_wp2_with (first
            | (go_at_call_of 230 (Value.string (s.extract 0 1)); (with_reducible refine (A1.out _).mono ?_); rintro e' w2 ⟨rfl, hb2⟩; have HB2 := Lib.hid (Mem.on HB0.out hb2); clear hb2)
            | (go_at_call_of 230 (Value.string s); (with_reducible refine (A2.out _).mono ?_); rintro e' w3 ⟨rfl, hb3⟩; have HB3 := Lib.hid (Mem.on HB2.out hb3); clear hb3))
        go_meet
        exact ⟨by rw [tn]; rfl, HB3⟩
      | false =>
        go_wp2_with (first
            | (go_at_call_of 230 (Value.string (s.extract 0 1)); (with_reducible refine (A1.out _).mono ?_); rintro e' w2 ⟨rfl, hb2⟩; have HB2 := Lib.hid (Mem.on HB0.out hb2); clear hb2)
            | (go_at_call_of 230 (Value.string s); (with_reducible refine (A2.out _).mono ?_); rintro e' w3 ⟨rfl, hb3⟩; have HB3 := Lib.hid (Mem.on HB2.out hb3); clear hb3))
        go_meet
        exact ⟨by rw [tn]; rfl, HB2⟩
    · have tl : decide ((s.size : Int) ≤ 12) = false := decide_eq_false (by omega)
      have tn : decide (s.size ≤ 12) = false := decide_eq_false hl
      go_wp2
      go_meet
      exact ⟨by rw [tn]; rfl, HB0⟩
  case rest =>
    obtain ⟨rfl, HW1⟩ := hcut
    obtain ⟨K1, hK1⟩ : ∃ K, (decide (s.size ≤ 12) && (a1 && a2)) = K := ⟨_, rfl⟩
    rw [hK1] at H ⊢
    clear hK1
    cases K1 with
    | true =>
      go_wp2
      go_ret
      exact ⟨ri (by rw [H.out]; rfl), HW1.out⟩
    | false =>
    go_upto_region 5 with fail
    go_cut [19] from 20 to 31 (fun x wx => x = .bool (decide (s.size ≤ 16) && (b1 && b2)) ∧ Hid (Below w.heap.size w wx))
    case first =>
      by_cases hl : s.size ≤ 16
      · have tl : decide ((s.size : Int) ≤ 16) = true := decide_eq_true (by omega)
        have tn : decide (s.size ≤ 16) = true := decide_eq_true hl
        cases b1 with
        | true =>
          go_wp2_with (first
              | (go_at_call_of 230 (Value.string (s.extract 0 1)); (with_reducible refine (B1.out _).mono ?_); rintro e' w2 ⟨rfl, hb2⟩; have HB2 := Lib.hid (Mem.on HW1.out hb2); clear hb2)
              | (go_at_call_of 230 (Value.string s); (with_reducible refine (B2.out _).mono ?_); rintro e' w3 ⟨rfl, hb3⟩; have HB3 := Lib.hid (Mem.on HB2.out hb3); clear hb3))
          go_meet
          exact ⟨by rw [tn]; rfl, HB3⟩
        | false =>
          go_wp2_with (first
              | (go_at_call_of 230 (Value.string (s.extract 0 1)); (with_reducible refine (B1.out _).mono ?_); rintro e' w2 ⟨rfl, hb2⟩; have HB2 := Lib.hid (Mem.on HW1.out hb2); clear hb2)
              | (go_at_call_of 230 (Value.string s); (with_reducible refine (B2.out _).mono ?_); rintro e' w3 ⟨rfl, hb3⟩; have HB3 := Lib.hid (Mem.on HB2.out hb3); clear hb3))
          go_meet
          exact ⟨by rw [tn]; rfl, HB2⟩
      · have tl : decide ((s.size : Int) ≤ 16) = false := decide_eq_false (by omega)
        have tn : decide (s.size ≤ 16) = false := decide_eq_false hl
        go_wp2
        go_meet
        exact ⟨by rw [tn]; rfl, HW1⟩
    case rest =>
    obtain ⟨rfl, HW2⟩ := hcut
    obtain ⟨K2, hK2⟩ : ∃ K, (decide (s.size ≤ 16) && (b1 && b2)) = K := ⟨_, rfl⟩
    rw [hK2] at H ⊢
    clear hK2
    cases K2 with
    | true =>
      go_wp2
      go_ret
      exact ⟨ri (by rw [H.out]; rfl), HW2.out⟩
    | false =>
    go_upto_region 7 with fail
    go_cut [32] from 33 to 48 (fun x wx => x = .bool (decide (s.size ≤ 19) && (d1 && (e1 || e2))) ∧ Hid (Below w.heap.size w wx))
    case first =>
      by_cases hl : s.size ≤ 19
      · have tl : decide ((s.size : Int) ≤ 19) = true := decide_eq_true (by omega)
        have tn : decide (s.size ≤ 19) = true := decide_eq_true hl
        cases d1 with
        | true =>
          cases e1 with
          | true =>
            go_wp2_with (first | (go_at_call 230; (with_reducible refine (D1.out _).mono ?_); rintro e' w3 ⟨rfl, hb3⟩; have HB3 := Lib.hid (Mem.on HW2.out hb3); clear hb3))
            go_meet
            exact ⟨by rw [tn]; rfl, HB3⟩
          | false =>
            go_wp2_with (first | (go_at_call 230; (with_reducible refine (D1.out _).mono ?_); rintro e' w3 ⟨rfl, hb3⟩; have HB3 := Lib.hid (Mem.on HW2.out hb3); clear hb3))
            go_meet
            exact ⟨by rw [tn]; rfl, HB3⟩
        | false =>
          go_wp2_with (first | (go_at_call 230; (with_reducible refine (D1.out _).mono ?_); rintro e' w3 ⟨rfl, hb3⟩; have HB3 := Lib.hid (Mem.on HW2.out hb3); clear hb3))
          go_meet
          exact ⟨by rw [tn]; rfl, HB3⟩
      · have tl : decide ((s.size : Int) ≤ 19) = false := decide_eq_false (by omega)
        have tn : decide (s.size ≤ 19) = false := decide_eq_false hl
        go_wp2
        go_meet
        exact ⟨by rw [tn]; rfl, HW2⟩
    case rest =>
    obtain ⟨rfl, HW3⟩ := hcut
    obtain ⟨K3, hK3⟩ : ∃ K, (decide (s.size ≤ 19) && (d1 && (e1 || e2))) = K := ⟨_, rfl⟩
    rw [hK3] at H ⊢
    clear hK3
    cases K3 with
    | true =>
      go_wp2
      go_ret
      exact ⟨ri (by rw [H.out]; rfl), HW3.out⟩
    | false =>
    cases K4 with
    | true =>
      go_wp2_with (first | (go_at_call 231; (with_reducible refine (Q.out _).mono ?_); rintro e' w3 ⟨rfl, rfl⟩))
      go_ret
      exact ⟨ri (by rw [H.out]; rfl), HW3.out⟩
    | false =>
    go_upto_region 11 with (first | (go_at_call 231; (with_reducible refine (Q.out _).mono ?_); rintro e' w3 ⟨rfl, rfl⟩))
    go_cut [52] from 53 to 70 (fun x wx => x = .bool K5 ∧ Hid (Below w.heap.size w wx))
    case first =>
      by_cases h2 : s.size = 2
      · have t2 : ((s.size : Int) == 2) = true := beq_yes (by omega)
        obtain ⟨d, ht, hd⟩ := T2 h2
        have h1 : 1 < s.size := by omega
        have hd := hd h1
        have hk := HK5.out
        rw [ht] at hk
        by_cases h36 : c = 36
        · have t36 : ((c.toNat : Int) == 36) = true := beq_yes (by rw [h36]; rfl)
          by_cases h49 : 49 ≤ (d.toNat : Int)
          · have t49 : decide (49 ≤ (d.toNat : Int)) = true := decide_eq_true h49
            have hq : decide ((d.toNat : Int) ≤ 54) = K5 := by
              rw [← hk, decide_eq_decide]
              show _ ↔ c = 36 ∧ par d = true
              unfold par
              rw [Bool.and_eq_true, decide_eq_true_eq, decide_eq_true_eq, UInt8.le_iff_toNat_le, UInt8.le_iff_toNat_le]
              have e1 : (49 : UInt8).toNat = 49 := rfl
              have e2 : (54 : UInt8).toNat = 54 := rfl
              constructor
              · intro h
                exact ⟨h36, by omega, by omega⟩
              · rintro ⟨_, a, b⟩
                omega
            clear hk h36 h49 ht
            go_wp2
            go_meet
            exact ⟨rfl, HW3⟩
          · have t49 : decide (49 ≤ (d.toNat : Int)) = false := decide_eq_false h49
            have hq := Lib.hid (show false = K5 by
              rw [← hk, eq_comm]
              refine decide_eq_false fun g => h49 ?_
              have g2 : par d = true := g.2
              unfold par at g2
              rw [Bool.and_eq_true, decide_eq_true_eq, decide_eq_true_eq, UInt8.le_iff_toNat_le, UInt8.le_iff_toNat_le] at g2
              have e1 : (49 : UInt8).toNat = 49 := rfl
              omega)
            clear hk h36 h49 ht
            go_wp2
            go_meet
            exact ⟨by rw [hq.out], HW3⟩
        · have t36 : ((c.toNat : Int) == 36) = false := beq_no (fun e => h36 (byte_is' (k := 36) e))
          have hq := Lib.hid (show false = K5 by
            rw [← hk, eq_comm]
            exact decide_eq_false fun g => h36 g.1)
          clear hk h36 ht
          go_wp2
          go_meet
          exact ⟨by rw [hq.out], HW3⟩
      · have t2 : ((s.size : Int) == 2) = false := beq_no (by omega)
        have hq := Lib.hid (T3.out h2)
        clear h2
        go_wp2
        go_meet
        exact ⟨by rw [hq.out], HW3⟩
    case rest =>
    obtain ⟨rfl, HW4⟩ := hcut
    cases K5 with
    | true =>
      go_wp2
      go_ret
      exact ⟨ri (by rw [H.out]; rfl), HW4.out⟩
    | false =>
    cases K6 with
    | true =>
      go_wp2_with (first | (go_at_call 232; (with_reducible refine (SI.out _).mono ?_); rintro e' w3 ⟨rfl, rfl⟩))
      go_ret
      exact ⟨ri (by rw [H.out]; rfl), HW4.out⟩
    | false =>
      go_wp2_with (first | (go_at_call 232; (with_reducible refine (SI.out _).mono ?_); rintro e' w3 ⟨rfl, rfl⟩))
      go_ret
      exact ⟨ri (by rw [H.out]; rfl), HW4.out⟩
/-- Is a text a name? -/
theorem refIsName_any (s : ByteArray) (hs : s.size ≤ 1000000) (w : World) :
    Calls Tryz.prog 107 #[.string s] w fun e w' => e = .returned (.bool (decide (kindOf s.data.toList = 1))) ∧ Below w.heap.size w w' := by
  obtain ⟨k, hk⟩ : ∃ k, kindOf s.data.toList = k := ⟨_, rfl⟩
  have HK := Lib.hid (show Calls Tryz.prog 170 #[.string s] w fun e w' => e = .returned (.int .i64 (k : Int)) ∧ Below w.heap.size w w' by rw [← hk]; exact refKind_any s hs w)
  have HE := Lib.hid (show ((k : Int) == 1) = decide (kindOf s.data.toList = 1) by
    rw [hk]
    by_cases h : k = 1
    · subst h; rfl
    · rw [beq_no (by omega), decide_eq_false h])
  clear hk
  go_enter Tryz.func107, Tryz.ntmps107
  go_wp2_with (first | (go_at_call 170; (with_reducible refine HK.out.mono ?_); rintro e' w2 ⟨rfl, hb2⟩; have HB2 := Lib.hid hb2; clear hb2))
  go_ret
  exact ⟨rb HE.out, HB2.out⟩
end Go.Proofs.YtbdippgamlknbaaGreatDoor.Lx
