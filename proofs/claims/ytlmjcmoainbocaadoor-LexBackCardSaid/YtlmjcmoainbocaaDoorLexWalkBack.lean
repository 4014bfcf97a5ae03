/- The law LexBack, walked. -/
import Derived.Test.YtlmjcmoainbocaaDoorLexWalkBlanks
import Derived.Deep.CutRange
namespace Go.Proofs.YtlmjcmoainbocaaDoor.Lx
open Go.RowKit Go.Proofs.YtlmjcmoainbocaaDoor.Mem Go.Proofs.YtlmjcmoainbocaaDoor.Right
set_option linter.unusedVariables false
attribute [local go_sem] txt_list txt_size

/-! ### The texts put together -/
def tx (l : List Tk) (k : Nat) : List UInt8 := match l[k]? with
  | some t => t.text
  | none => []
theorem tx_at {l : List Tk} {k : Nat} {t : Tk} (h : l[k]? = some t) : tx l k = t.text := by unfold tx; rw [h]
def joinT (l : List Tk) : Nat → List UInt8
  | 0 => []
  | k + 1 => joinT l k ++ (if 0 < k ∧ k + 1 < l.length then [32] else []) ++ tx l k
theorem join_mid {y x : Tk} {r : List Tk} : ∀ {j : Nat}, j ≤ r.length → joinT (y :: r ++ [x]) (j + 1) = y.text ++ tailT (r.take j)
  | 0, _ => by
    show ([] ++ (if 0 < 0 ∧ 0 + 1 < (y :: r ++ [x]).length then [32] else [])) ++ tx (y :: r ++ [x]) 0 = _
    rw [if_neg (by omega)]
    simp [tx, tailT]
  | j + 1, h => by
    have hj : (y :: r ++ [x])[j + 1]? = some r[j] := by
      rw [List.cons_append, List.getElem?_cons_succ, List.getElem?_append_left (by omega), List.getElem?_eq_getElem (by omega)]
    rw [joinT, join_mid (by omega), if_pos ⟨by omega, by simp; omega⟩, tx_at hj, List.take_succ_eq_append_getElem (by omega)]
    unfold tailT
    rw [List.flatMap_append]
    simp
theorem join_all {l' : List Tk} {x : Tk} (hx : x.text = []) : joinT (l' ++ [x]) (l' ++ [x]).length = match l' with
    | [] => []
    | y :: r => y.text ++ tailT r := by
  cases l' with
  | nil => simp [joinT, tx, hx]
  | cons y r =>
    have e : (y :: r ++ [x]).length = r.length + 1 + 1 := by simp
    have ht : (y :: r ++ [x])[r.length + 1]? = some x := by
      rw [List.cons_append, List.getElem?_cons_succ, List.getElem?_append_right (Nat.le_refl _)]; simp
    rw [e, joinT, join_mid (Nat.le_refl _), List.take_length, if_neg (by rw [e]; omega), tx_at ht, hx]
    simp
/-- They are cut into the tokens again. -/
theorem cut_join {s : List UInt8} {l : List Tk} (h : cut s 0 0 = (l, 0, 0)) : ∃ m : List Tk, cut (joinT l l.length) 0 0 = (m, 0, 0) ∧ m.length = l.length ∧ ∀ (k : Nat) (t : Tk), l[k]? = some t → ∃ a : Nat, m[k]? = some (Tk.mk t.kind t.text a) := by
  have go : ∀ {m : List Tk}, m.map (fun t => (t.kind, t.text)) = l.map (fun t => (t.kind, t.text)) → m.length = l.length ∧ ∀ (k : Nat) (t : Tk), l[k]? = some t → ∃ a : Nat, m[k]? = some (Tk.mk t.kind t.text a) := fun {m} e => by
    refine ⟨by simpa using congrArg List.length e, fun k t ht => ?_⟩
    have h2 : (m.map (fun t => (t.kind, t.text)))[k]? = some (t.kind, t.text) := by rw [e, List.getElem?_map, ht]; rfl
    rw [List.getElem?_map] at h2
    obtain ⟨u, hu, h3⟩ := Option.map_eq_some_iff.1 h2
    obtain ⟨uk, ut, ua⟩ := u
    injection h3 with h3 h4
    subst h3 h4
    exact ⟨ua, hu⟩
  obtain ⟨l', x, e, rfl, hx, ⟨m, h1, h2⟩, h3, rfl⟩ := cut_again h 0
  rw [join_all hx]
  cases l' with
  | nil => exact ⟨m, h1, go h2⟩
  | cons y r =>
    obtain ⟨m, h1, h2⟩ := h3 y r rfl
    exact ⟨m, h1, go h2⟩
/-- What LexBack asks of each token. -/
theorem each_token {s : List UInt8} {l : List Tk} (h : cut s 0 0 = (l, 0, 0)) {k : Nat} {t : Tk} (ht : l[k]? = some t) :
    lng t.text = (t.kind, t.text.length) ∧ t.at_ + t.text.length ≤ s.length ∧ (s.drop t.at_).take t.text.length = t.text ∧ (t.kind = 7 ↔ k + 1 = l.length) := by
  obtain ⟨h1, _, h3, h4, h5, h6⟩ := (cut_each h).2 k t ht
  rw [Nat.sub_zero] at h4
  exact ⟨kind_lng h1 h6, by omega, h4, h5⟩
theorem wrap_i64 {n : Int} (h : -9223372036854775808 ≤ n) (h' : n ≤ 9223372036854775807) : IntKind.i64.wrap n = n := by
  simp [IntKind.wrap, IntKind.signed, IntKind.bits]
  omega
theorem quietC_val {C : World → Prop} {K : Act → Prop} {o : Oper} {a : Act} (h : ∃ v, (∀ w, C w → (execOp a.eval o).run Tryd.prog w = .ok (.value v) w) ∧ K (a.put o.dst v)) : o.quiet Tryd.prog a C K := by
  obtain ⟨v, h1, h2⟩ := h
  exact ⟨v, fun w hw => by unfold Oper.quietAt; rw [h1 w hw]; exact ⟨rfl, rfl⟩, h2⟩
set_option maxRecDepth 100000 in
set_option maxHeartbeats 8000000 in
theorem walk_back (s : ByteArray) (w : World) (hs : s.size ≤ maxLen) (h : Signs w) :
    Calls Tryd.prog 3 #[.string s] w fun e w' => e = .returned (.bool true) ∧ Below w.heap.size w w' := by
  unfold maxLen at hs
  by_cases hlong : 600 < s.size
  · have t0 : decide (600 < (s.size : Int)) = true := decide_eq_true (by omega)
    have HW := Lib.hid (works_any w h)
    clear h
    go_enter Tryd.func3, Tryd.ntmps3
    go_wp2_with (go_at_call 5; refine HW.out.mono ?_; rintro e w1 ⟨rfl, hb⟩; have HB := Lib.hid hb; clear hb)
    go_ret
    exact ⟨rfl, HB.out⟩
  have t0 : decide (600 < (s.size : Int)) = false := decide_eq_false (by omega)
  have hsl : s.data.toList.length = s.size := by rw [Array.length_toList]; rfl
  have HS0 : ∀ W, Below w.heap.size w W → Signs W := fun W hW => h.below hW h.lt
  have HS := Lib.hid HS0
  obtain ⟨l1, p1, e1, hR⟩ : ∃ l1 p1 e1, toksV s.data.toList = (l1, p1, e1) := ⟨_, _, _, rfl⟩
  have HT1 := Lib.hid (show Calls Tryd.prog 6 #[.string s] w fun e w' => ∃ A n c, e = .returned (.tuple #[.slice A n c, .int .i64 (p1 : Int), .int .i64 (e1 : Int)]) ∧ n = l1.length ∧ Toks w' w'.heap.size A l1 ∧ Below w.heap.size w w' from tokens_any s (by omega) w h _ hR)
  by_cases he : e1 = 0
  · subst he
    have hcut : cut s.data.toList 0 0 = (l1, 0, 0) ∧ s.size ≤ 400 := by
      unfold toksV at hR
      split at hR
      · injection hR with _ h2
        injection h2 with _ h3
        cases h3
      · rename_i h4
        have hp := (cut_ok hR).2.1
        subst hp
        exact ⟨hR, by omega⟩
    obtain ⟨hcut, h400⟩ := hcut
    obtain ⟨m, hm1, hm2, hm3⟩ := cut_join hcut
    have HFEW := cut_few hcut
    rw [hsl] at HFEW
    have HEA := Lib.hid (show ∀ k t, l1[k]? = some t → _ from fun k t ht => each_token hcut ht)
    have HFEW := Lib.hid HFEW
    have HM1 := Lib.hid hm1
    have HM2 := Lib.hid hm2
    have HM3 := Lib.hid hm3
    have HSL := Lib.hid hsl
    clear h HS0 hR hcut hm1 hm2 hm3 hsl t0 hlong
    have t0 : decide (600 < (s.size : Int)) = false := decide_eq_false (by omega)
    go_enter Tryd.func3, Tryd.ntmps3
    go_wp2_with (go_at_call 6; refine HT1.out.mono ?_; rintro e w1 ⟨A1, n1, c1, rfl, hn1, ht1, hb1⟩; have HN1 := Lib.hid hn1; have HA1 := Lib.hid ht1; have HB1 := Lib.hid hb1; have hnf := HFEW.out.1; rw [← HN1.out] at hnf; clear hn1 ht1 hb1)
    have hn401 : n1 ≤ 401 := by omega
    go_loopw [6, 7] (fun t i wr => ∃ (k : Nat) (tb : ByteArray), k ≤ n1 ∧ t = .string tb ∧ i = .int .i64 (k : Int) ∧ Hid (tb.data.toList = joinT l1 k) ∧ Hid (tb.size ≤ k * 401) ∧ Hid (Below w1.heap.size w1 wr)) (fun _ i _ => n1 + 1 - (intOf i).toNat)
    case atStart => exact ⟨0, ⟨#[]⟩, Nat.zero_le _, rfl, rfl, Lib.hid rfl, Lib.hid (Nat.zero_le _), Lib.hid (Below.refl _ _)⟩
    case round =>
      obtain ⟨k, tb, hk, rfl, rfl, HJ, HZ, HK0⟩ := hrel
      have htb : tb.size ≤ 160801 := Nat.le_trans HZ.out (Nat.le_trans (Nat.mul_le_mul_right 401 (show k ≤ 401 by omega)) (show 401 * 401 ≤ 160801 by decide))
      by_cases hlt : k < n1
      · have hlti : decide ((k : Int) < (n1 : Int)) = true := decide_eq_true (by omega)
        obtain ⟨⟨K, X, a⟩, ht⟩ : ∃ t, l1[k]? = some t := ⟨l1[k]'(by have := HN1.out; omega), List.getElem?_eq_getElem _⟩
        obtain ⟨f1, f2, f3, f4⟩ := HEA.out k _ ht
        have HTX := Lib.hid (tx_at ht)
        obtain ⟨b, o, rfl, _, c0, c1, c2⟩ := HA1.out k _ ht
        simp only at f1 f2 f3 f4 c0 c1 c2
        have HC := Lib.hid (show ∀ W, Below w1.heap.size w1 W → W.cell? ⟨b, o + k * 3, none⟩ = some (.int .i64 (K : Int)) ∧ W.cell? ⟨b, o + k * 3 + 1, none⟩ = some (.string (txt X)) ∧ W.cell? ⟨b, o + k * 3 + 2, none⟩ = some (.int .i64 (a : Int)) from fun W hW => ⟨(hW.cell (cell_lt c0)).trans c0, (hW.cell (cell_lt c1)).trans c1, (hW.cell (cell_lt c2)).trans c2⟩)
        have hb9 := HK0.out
        rw [HSL.out] at f2
        rw [← HN1.out] at f4
        have HRT := Lib.hid (show ∀ W, Below w1.heap.size w1 W → Calls Tryd.prog 7 #[.agg #[.int .i64 (K : Int), .string (txt X), .int .i64 (a : Int)]] W fun e w' => e = .returned (.bool true) ∧ Below w1.heap.size w1 w' from fun W hW => (right_yes K a (txt X) (by rw [txt_size]; omega) (by rw [txt_data, txt_size]; exact f1) W (HS.out W (Mem.on HB1.out hW))).mono fun _ _ ⟨h1, h2⟩ => ⟨h1, Mem.on hW h2⟩)
        obtain ⟨z2, hz2⟩ : ∃ z2, a + X.length = z2 := ⟨_, rfl⟩
        have ez2 : (a : Int) + (X.length : Int) = (z2 : Int) := by omega
        have hx : s.extract a z2 = txt X := by rw [extract_txt, ← hz2, Nat.add_sub_cancel_left, f3]
        have q0 : decide ((s.size : Int) < (a : Int)) = false := decide_eq_false (by omega)
        have q0n : decide (s.size < a) = false := decide_eq_false (by omega)
        obtain ⟨d, hd⟩ : ∃ d : Nat, (s.size : Int) - (a : Int) = (d : Int) := ⟨s.size - a, by omega⟩
        have qd : IntKind.i64.wrap (d : Int) = (d : Int) := wrap_i64 (by omega) (by omega)
        have qz : IntKind.i64.wrap (z2 : Int) = (z2 : Int) := wrap_i64 (by omega) (by omega)
        have qk : IntKind.i64.wrap ((k : Int) + 1) = (k : Int) + 1 := wrap_i64 (by omega) (by omega)
        have q1 : decide ((d : Int) < (X.length : Int)) = false := decide_eq_false (by omega)
        have q1n : decide (d < X.length) = false := decide_eq_false (by omega)
        have q2 : (X != X) = false := by simp
        have hX : X.length ≤ 400 := by omega
        have q3 : ((K : Int) == 7) = decide (k + 1 = n1) := by
          rw [Bool.eq_iff_iff, beq_iff_eq, decide_eq_true_eq, ← f4]; omega
        have q4 : ((k : Int) + 1 == (n1 : Int)) = decide (k + 1 = n1) := by
          rw [Bool.eq_iff_iff, beq_iff_eq, decide_eq_true_eq]; omega
        have q3n : (K == 7) = decide (k + 1 = n1) := by
          rw [Bool.eq_iff_iff, beq_iff_eq, decide_eq_true_eq, ← f4]
        have q4n : (k + 1 == n1) = decide (k + 1 = n1) := rfl
        have haz : a ≤ z2 := by omega
        have hzs : z2 ≤ s.size := by omega
        clear f1 f2 f3 f4 ht hz2 c0 c1 c2
        by_cases hkn : k + 1 = n1
        · rw [decide_eq_true hkn] at q3 q4 q3n q4n
          have q5n : decide (k + 1 < n1) = false := decide_eq_false (by omega)
          have q5 : decide ((k : Int) + 1 < (n1 : Int)) = false := decide_eq_false (by omega)
          have HJ2 := Lib.hid (show (tb ++ txt X).data.toList = joinT l1 (k + 1) by
            rw [app_list, HJ.out, joinT, HTX.out, if_neg (by have := HN1.out; omega), List.append_nil]; rfl)
          have HZ2 := Lib.hid (show (tb ++ txt X).size ≤ (k + 1) * 401 by
            rw [ByteArray.size_append, txt_size, Nat.add_mul]; have := HZ.out; omega)
          by_cases hk0 : k = 0
          · have q6 : decide (0 < (k : Int)) = false := decide_eq_false (by omega)
            have q6n : decide (0 < k) = false := decide_eq_false (by omega)
            clear hk0
            go_upto_region 10 with (fail)
            refine wp_region_quiet (C := fun w' => Below w1.heap.size w1 w') (by kernel_rfl) (by kernel_rfl) hb9.drew ?_
            repeat (first | go_big_quiet_skip | (refine BigFrame.wpQuiet_want rfl (fun K hK => ?_); refine quietC_val ?_; apply Exists.intro; refine ⟨fun W hW => ?_, hK _ ?_⟩; (focus (obtain ⟨c0, c1, c2⟩ := HC.out W hW; go_simp; first | done | rfl)); clear hK K; simp only [Act.put, List.setIfInBounds_toArray, List.set_cons_zero, List.set_cons_succ]) | (quiet_step ((intro hW; first | (go_at_call 7; exact HRT.out _ hW)))))
            refine wpQuiet_nil ?_
            intro W9 hw9
            have HW9 := Lib.hid hw9
            clear hw9
            obtain ⟨c0, c1, c2⟩ := HC.out _ HW9.out
            go_wp2
            go_roundw
            case rel => exact ⟨k + 1, _, by omega, rfl, by go_num, HJ2, HZ2, HW9⟩
            case measure => simp [intOf]; omega
          · have q6 : decide (0 < (k : Int)) = true := decide_eq_true (by omega)
            have q6n : decide (0 < k) = true := decide_eq_true (by omega)
            clear hk0
            go_upto_region 10 with (fail)
            refine wp_region_quiet (C := fun w' => Below w1.heap.size w1 w') (by kernel_rfl) (by kernel_rfl) hb9.drew ?_
            repeat (first | go_big_quiet_skip | (refine BigFrame.wpQuiet_want rfl (fun K hK => ?_); refine quietC_val ?_; apply Exists.intro; refine ⟨fun W hW => ?_, hK _ ?_⟩; (focus (obtain ⟨c0, c1, c2⟩ := HC.out W hW; go_simp; first | done | rfl)); clear hK K; simp only [Act.put, List.setIfInBounds_toArray, List.set_cons_zero, List.set_cons_succ]) | (quiet_step ((intro hW; first | (go_at_call 7; exact HRT.out _ hW)))))
            refine wpQuiet_nil ?_
            intro W9 hw9
            have HW9 := Lib.hid hw9
            clear hw9
            obtain ⟨c0, c1, c2⟩ := HC.out _ HW9.out
            go_wp2
            go_roundw
            case rel => exact ⟨k + 1, _, by omega, rfl, by go_num, HJ2, HZ2, HW9⟩
            case measure => simp [intOf]; omega
        · rw [decide_eq_false hkn] at q3 q4 q3n q4n
          have q5n : decide (k + 1 < n1) = true := decide_eq_true (by omega)
          have q5 : decide ((k : Int) + 1 < (n1 : Int)) = true := decide_eq_true (by omega)
          by_cases hk0 : k = 0
          · have HJ2 := Lib.hid (show (tb ++ txt X).data.toList = joinT l1 (k + 1) by
              rw [app_list, HJ.out, joinT, HTX.out, if_neg (by omega), List.append_nil]; rfl)
            have HZ2 := Lib.hid (show (tb ++ txt X).size ≤ (k + 1) * 401 by
              rw [ByteArray.size_append, txt_size, Nat.add_mul]; have := HZ.out; omega)
            have q6 : decide (0 < (k : Int)) = false := decide_eq_false (by omega)
            have q6n : decide (0 < k) = false := decide_eq_false (by omega)
            clear hk0
            go_upto_region 10 with (fail)
            refine wp_region_quiet (C := fun w' => Below w1.heap.size w1 w') (by kernel_rfl) (by kernel_rfl) hb9.drew ?_
            repeat (first | go_big_quiet_skip | (refine BigFrame.wpQuiet_want rfl (fun K hK => ?_); refine quietC_val ?_; apply Exists.intro; refine ⟨fun W hW => ?_, hK _ ?_⟩; (focus (obtain ⟨c0, c1, c2⟩ := HC.out W hW; go_simp; first | done | rfl)); clear hK K; simp only [Act.put, List.setIfInBounds_toArray, List.set_cons_zero, List.set_cons_succ]) | (quiet_step ((intro hW; first | (go_at_call 7; exact HRT.out _ hW)))))
            refine wpQuiet_nil ?_
            intro W9 hw9
            have HW9 := Lib.hid hw9
            clear hw9
            obtain ⟨c0, c1, c2⟩ := HC.out _ HW9.out
            go_wp2
            go_roundw
            case rel => exact ⟨k + 1, _, by omega, rfl, by go_num, HJ2, HZ2, HW9⟩
            case measure => simp [intOf]; omega
          · have HJ2 := Lib.hid (show (tb ++ (⟨#[32]⟩ : ByteArray) ++ txt X).data.toList = joinT l1 (k + 1) by
              rw [app_list, app_list, HJ.out, joinT, HTX.out, if_pos (by have := HN1.out; omega)]; rfl)
            have HZ2 := Lib.hid (show (tb ++ (⟨#[32]⟩ : ByteArray) ++ txt X).size ≤ (k + 1) * 401 by
              rw [ByteArray.size_append, ByteArray.size_append, txt_size, Nat.add_mul, show (⟨#[32]⟩ : ByteArray).size = 1 from rfl]; have := HZ.out; omega)
            have q6 : decide (0 < (k : Int)) = true := decide_eq_true (by omega)
            have q6n : decide (0 < k) = true := decide_eq_true (by omega)
            clear hk0
            go_upto_region 10 with (fail)
            refine wp_region_quiet (C := fun w' => Below w1.heap.size w1 w') (by kernel_rfl) (by kernel_rfl) hb9.drew ?_
            repeat (first | go_big_quiet_skip | (refine BigFrame.wpQuiet_want rfl (fun K hK => ?_); refine quietC_val ?_; apply Exists.intro; refine ⟨fun W hW => ?_, hK _ ?_⟩; (focus (obtain ⟨c0, c1, c2⟩ := HC.out W hW; go_simp; first | done | rfl)); clear hK K; simp only [Act.put, List.setIfInBounds_toArray, List.set_cons_zero, List.set_cons_succ]) | (quiet_step ((intro hW; first | (go_at_call 7; exact HRT.out _ hW)))))
            refine wpQuiet_nil ?_
            intro W9 hw9
            have HW9 := Lib.hid hw9
            clear hw9
            obtain ⟨c0, c1, c2⟩ := HC.out _ HW9.out
            go_wp2
            go_roundw
            case rel => exact ⟨k + 1, _, by omega, rfl, by go_num, HJ2, HZ2, HW9⟩
            case measure => simp [intOf]; omega
      · obtain rfl : k = n1 := by omega
        have hlti : decide ((k : Int) < (k : Int)) = false := decide_eq_false (by omega)
        have htl : tb.data.toList.length = tb.size := by rw [Array.length_toList]; rfl
        have HSW := HS.out wr (Mem.on HB1.out HK0.out)
        by_cases hT : 400 < tb.size
        · have tT : decide (400 < (tb.size : Int)) = true := decide_eq_true (by omega)
          have HT2 := Lib.hid (show Calls Tryd.prog 6 #[.string tb] wr fun e w' => ∃ A n c, e = .returned (.tuple #[.slice A n c, .int .i64 ((0 : Nat) : Int), .int .i64 ((3 : Nat) : Int)]) ∧ n = 0 ∧ Toks w' w'.heap.size A [] ∧ Below wr.heap.size wr w' from tokens_any tb (by omega) wr HSW ([], 0, 3) (by unfold toksV; rw [if_pos (by rw [htl]; exact hT)]))
          clear htl HSW hT
          go_wp2_with (first | (go_at_call 6; (with_reducible refine HT2.out.mono ?_); rintro e w2 ⟨A2, n2, c2, rfl, rfl, _, hb2⟩; have HB2 := Lib.hid (Mem.on (Mem.on HB1.out HK0.out) hb2); clear hb2) | (go_at_call 5; refine (works_any _ (HS.out _ HB2.out)).mono ?_; rintro e w3 ⟨rfl, hb⟩; have HB3 := Lib.hid (Mem.on HB2.out hb); clear hb))
          go_ret
          exact ⟨rfl, HB3.out⟩
        · have tT : decide (400 < (tb.size : Int)) = false := decide_eq_false (by omega)
          have HT2 := Lib.hid (show Calls Tryd.prog 6 #[.string tb] wr fun e w' => ∃ A n c, e = .returned (.tuple #[.slice A n c, .int .i64 ((0 : Nat) : Int), .int .i64 ((0 : Nat) : Int)]) ∧ n = m.length ∧ Toks w' w'.heap.size A m ∧ Below wr.heap.size wr w' from tokens_any tb (by omega) wr HSW (m, 0, 0) (by unfold toksV; rw [if_neg (by rw [htl]; exact hT), HJ.out, HN1.out]; exact HM1.out))
          have tn := bne_same (k : Int)
          clear htl HSW hT
          go_wp2_with (go_at_call 6; (with_reducible refine HT2.out.mono ?_); rintro e w2 ⟨A2, n2, c2, rfl, hn2, ht2, hb2⟩; obtain rfl : n2 = k := (by rw [hn2, HM2.out, HN1.out]); have HA2 := Lib.hid ht2; have HC1 := Lib.hid ((HA1.out.below HK0.out (Nat.le_refl _)).below hb2 HK0.out.size); have HB2 := Lib.hid (Mem.on (Mem.on HB1.out HK0.out) hb2); clear hn2 ht2 hb2)
          go_loopw [11] (fun i wx => ∃ j : Nat, j ≤ n2 ∧ i = .int .i64 (j : Int) ∧ Hid (Below w2.heap.size w2 wx) ∧ Hid (Below w.heap.size w wx)) (fun i _ => n2 + 1 - (intOf i).toNat)
          case atStart => exact ⟨0, Nat.zero_le _, rfl, Lib.hid (Below.refl _ _), HB2⟩
          case round =>
            obtain ⟨j, hj, rfl, HK, HK2⟩ := hrel
            by_cases hlt2 : j < n2
            · have hlt2i : decide ((j : Int) < (n2 : Int)) = true := decide_eq_true (by omega)
              obtain ⟨t, ht⟩ : ∃ t, l1[j]? = some t := ⟨l1[j]'(by have := HN1.out; omega), List.getElem?_eq_getElem _⟩
              obtain ⟨a2, ha2⟩ := HM3.out j t ht
              obtain ⟨b, o, rfl, _, c0, c1, _⟩ := HC1.out j t ht
              obtain ⟨b', o', rfl, _, d0, d1, _⟩ := HA2.out j _ ha2
              have c0 := (HK.out.cell (cell_lt c0)).trans c0
              have c1 := (HK.out.cell (cell_lt c1)).trans c1
              have d0 := (HK.out.cell (cell_lt d0)).trans d0
              have d1 := (HK.out.cell (cell_lt d1)).trans d1
              have q0 := bne_same (t.kind : Int)
              have q1 : (t.text != t.text) = false := by simp
              clear ht ha2
              go_wp2
              go_quiet (fail)
              go_wp2
              go_roundw
              case rel => exact ⟨j + 1, by omega, by go_num, Lib.hid (below_drewN HK.out _), Lib.hid (below_drewN HK2.out _)⟩
              case measure => simp [intOf]; omega
            · have hlt2i : decide ((j : Int) < (n2 : Int)) = false := decide_eq_false (by omega)
              go_wp2_with (go_at_call 5; refine (works_any _ (HS.out _ HK2.out)).mono ?_; rintro e w3 ⟨rfl, hb⟩; have HB3 := Lib.hid (Mem.on HK2.out hb); clear hb)
              go_ret
              exact ⟨rfl, HB3.out⟩
  · have hl0 : l1 = [] := by
      unfold toksV at hR
      split at hR
      · injection hR with h1 _
        exact h1.symm
      · exact (cut_error hR he).1
    subst hl0
    have te : ((e1 : Int) != 0) = true := bne_yes (by omega)
    clear h HS0 hR hsl
    go_enter Tryd.func3, Tryd.ntmps3
    go_wp2_with (first | (go_at_call 6; refine HT1.out.mono ?_; rintro e w1 ⟨A1, n1, c1, rfl, hn1, _, hb1⟩; obtain rfl : n1 = 0 := hn1; have HB1 := Lib.hid hb1; clear hb1) | (go_at_call 5; refine (works_any _ (HS.out _ HB1.out)).mono ?_; rintro e w2 ⟨rfl, hb⟩; have HB2 := Lib.hid (Mem.on HB1.out hb); clear hb))
    go_ret
    exact ⟨rfl, HB2.out⟩
end Go.Proofs.YtlmjcmoainbocaaDoor.Lx
