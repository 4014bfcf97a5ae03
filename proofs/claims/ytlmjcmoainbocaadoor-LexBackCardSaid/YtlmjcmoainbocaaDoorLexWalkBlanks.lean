/- The law LexBlanks, walked. -/
import Derived.Test.YtlmjcmoainbocaaDoorLexWorks
import Derived.BigQuiet
import Derived.Deep.QuietTactic
namespace Go.Proofs.YtlmjcmoainbocaaDoor.Lx
open Go.RowKit Go.Proofs.YtlmjcmoainbocaaDoor.Mem Go.Proofs.YtlmjcmoainbocaaDoor.Right
set_option linter.unusedVariables false
attribute [local go_sem] txt_list

theorem cut_len {s : List UInt8} {a n p : Nat} {l : List Tk} (h : cut s a n = (l, p, 0)) : l.length ≤ s.length + 1 := by
  obtain ⟨hn, _, h⟩ := cut_ok h
  rcases h with ⟨hu, rfl⟩ | ⟨u, k, m, l', hu, hk, hr, rfl⟩
  · simp
  · have hm := next_le hk
    have hul : u.length = s.length - run blank s := by rw [← hu, List.length_drop]
    have hlt : (u.drop m).length < s.length := by rw [List.length_drop]; omega
    have := cut_len hr
    rw [List.length_cons]
    omega
termination_by s.length
decreasing_by all_goals (have := ‹(List.drop _ _).length < _›; simpa using this)
/-- A fault stands at a place of the text. -/
theorem cut_place (s : List UInt8) (a n : Nat) : (cut s a n).2.1 ≤ a + s.length := by
  obtain ⟨u, hu⟩ : ∃ u, s.drop (run blank s) = u := ⟨_, rfl⟩
  have hb := run_le blank s
  by_cases hne : u = []
  · subst hne
    rw [cut_end hu]
    split
    · show a + run blank s ≤ _
      omega
    · exact Nat.zero_le _
  · cases hk : next u with
    | none =>
      rw [cut_none hu hne hk]
      show a + run blank s ≤ _
      omega
    | some km =>
      obtain ⟨k, m⟩ := km
      by_cases hn : n = 120
      · subst hn
        rw [cut_full hu hk]
        show a + run blank s ≤ _
        omega
      · have hm := next_le hk
        have hul : u.length = s.length - run blank s := by rw [← hu, List.length_drop]
        have hlt : (u.drop m).length < s.length := by rw [List.length_drop]; omega
        have ih := cut_place (u.drop m) (a + run blank s + m) (n + 1)
        rw [List.length_drop] at ih
        rw [cut_some hu hk hn]
        split
        · show (cut (u.drop m) (a + run blank s + m) (n + 1)).2.1 ≤ _
          omega
        · omega
termination_by s.length
decreasing_by all_goals (have := ‹(List.drop _ _).length < _›; simpa using this)
/-- As many at most as there are bytes, and End; each at a place of the text. -/
theorem cut_few {s : List UInt8} {p e : Nat} {l : List Tk} (h : cut s 0 0 = (l, p, e)) : l.length ≤ s.length + 1 ∧ ∀ (k : Nat) (t : Tk), l[k]? = some t → t.at_ ≤ s.length := by
  by_cases he : e = 0
  · subst he
    refine ⟨cut_len h, fun k t ht => ?_⟩
    have := ((cut_each h).2 k t ht).2.2.1
    omega
  · obtain ⟨rfl, _⟩ := cut_error h he
    exact ⟨Nat.zero_le _, fun k t ht => by simp at ht⟩
/-- Blanks ahead of a text and behind it. -/
theorem cut_both {F : List UInt8} (hF : ∀ c ∈ F, blank c = true) (s : List UInt8) {l1 l2 : List Tk} {p1 e1 p2 e2 : Nat} (h1 : cut s 0 0 = (l1, p1, e1)) (h2 : cut (F ++ s ++ F) 0 0 = (l2, p2, e2)) :
    e2 = e1 ∧ l2.length = l1.length ∧ (e1 = 0 ∨ e1 = 5 ∨ (e1 = 15 ∧ p2 = p1 + F.length)) ∧ ∀ k t, k + 1 < l1.length → l1[k]? = some t → l2[k]? = some ⟨t.kind, t.text, t.at_ + F.length⟩ := by
  obtain ⟨b1, b2, b3, b4⟩ := cut_behind hF s 0 0
  rw [h1] at b1 b2 b3 b4
  rw [List.append_assoc, cut_ahead hF, cut_shift] at h2
  injection h2 with h2 h3
  injection h3 with h3 h4
  subst h2
  rw [b1] at h4
  subst h4
  refine ⟨rfl, by rw [List.length_map]; exact b2, ?_, fun k t hk ht => ?_⟩
  · by_cases h0 : e1 = 0
    · exact .inl h0
    · rcases (cut_error h1 h0).2 with h | h
      · refine .inr (.inr ⟨h, ?_⟩)
        rw [if_neg (by rw [b1]; exact h0), b4 h] at h3
        exact h3.symm
      · exact .inr (.inl h)
  · rw [List.getElem?_map, b3 k hk, ht]; rfl
theorem below_drewN {B : Nat} {w a : World} (h : Below B w a) (n : Nat) : Below B w (a.drewN n) := h.trans ⟨rfl, rfl, rfl, Nat.le_refl _, fun _ _ => rfl⟩
theorem bne_same (a : Int) : (a != a) = false := by simp
theorem blanks_app {a b : ByteArray} (ha : ∀ c ∈ a.data.toList, blank c = true) (hb : ∀ c ∈ b.data.toList, blank c = true) : ∀ c ∈ (a ++ b).data.toList, blank c = true := fun c hc => by
  rw [ByteArray.data_append, Array.toList_append, List.mem_append] at hc
  exact hc.elim (ha c) (hb c)
theorem app_list (a b : ByteArray) : (a ++ b).data.toList = a.data.toList ++ b.data.toList := by rw [ByteArray.data_append, Array.toList_append]
set_option maxRecDepth 100000 in
set_option maxHeartbeats 4000000 in
theorem walk_blanks (s : ByteArray) (m : Int) (w : World) (hs : s.size ≤ maxLen) (hm : 0 ≤ m ∧ m ≤ 255) (h : Signs w) :
    Calls Tryd.prog 4 #[.string s, .int .u8 m] w fun e w' => e = .returned (.bool true) ∧ Below w.heap.size w w' := by
  unfold maxLen at hs
  by_cases hlong : 300 < s.size
  · have t0 : decide (300 < (s.size : Int)) = true := decide_eq_true (by omega)
    have HW := Lib.hid (works_any w h)
    clear h
    go_enter Tryd.func4, Tryd.ntmps4
    go_wp2_with (go_at_call 5; refine HW.out.mono ?_; rintro e w1 ⟨rfl, hb⟩; have HB := Lib.hid hb; clear hb)
    go_ret
    exact ⟨rfl, HB.out⟩
  have t0 : decide (300 < (s.size : Int)) = false := decide_eq_false (by omega)
  have HS0 : ∀ W, Below w.heap.size w W → Signs W := fun W hW => h.below hW h.lt
  have HS := Lib.hid HS0
  have HB0 := Lib.hid (Below.refl w.heap.size w)
  obtain ⟨q, hq⟩ : ∃ q : Nat, m % 9 = (q : Int) := ⟨(m % 9).toNat, by omega⟩
  have hq9 : q < 9 := by omega
  clear HS0 h
  go_enter Tryd.func4, Tryd.ntmps4
  go_wp2
  go_loop [5, 6] (fun f i => ∃ (k : Nat) (fb : ByteArray), k ≤ q ∧ f = .string fb ∧ i = .int .i64 (k : Int) ∧ fb.size = k ∧ Hid (∀ c ∈ fb.data.toList, blank c = true)) (fun _ i => q - (intOf i).toNat)
  case atStart => exact ⟨0, ⟨#[]⟩, Nat.zero_le _, rfl, rfl, rfl, Lib.hid (by simp)⟩
  case round =>
    obtain ⟨k, fb, hk, rfl, rfl, hfs, HF⟩ := hrel
    by_cases hlt : k < q
    · have tl : decide ((k : Int) < (q : Int)) = true := decide_eq_true (by omega)
      rcases Nat.mod_two_eq_zero_or_one k with hr | hr
      · have hr' : (k : Int) % 2 = 0 := by omega
        clear hr
        have HF2 := Lib.hid (blanks_app HF.out (b := (⟨#[32, 10]⟩ : ByteArray).extract 0 1) (by decide))
        go_wp2
        go_round
        case rel => exact ⟨k + 1, _, by omega, rfl, by go_num, by rw [ByteArray.size_append, hfs]; rfl, HF2⟩
        case measure => simp [intOf]; omega
      · have hr' : (k : Int) % 2 = 1 := by omega
        clear hr
        have HF2 := Lib.hid (blanks_app HF.out (b := (⟨#[32, 10]⟩ : ByteArray).extract 1 2) (by decide))
        go_wp2
        go_round
        case rel => exact ⟨k + 1, _, by omega, rfl, by go_num, by rw [ByteArray.size_append, hfs]; rfl, HF2⟩
        case measure => simp [intOf]; omega
    · obtain rfl : k = q := by omega
      obtain ⟨l1, p1, e1, h1⟩ : ∃ l1 p1 e1, cut s.data.toList 0 0 = (l1, p1, e1) := ⟨_, _, _, rfl⟩
      obtain ⟨l2, p2, e2, h2⟩ : ∃ l2 p2 e2, cut (fb.data.toList ++ s.data.toList ++ fb.data.toList) 0 0 = (l2, p2, e2) := ⟨_, _, _, rfl⟩
      obtain ⟨rfl, hlen, he, htk⟩ := cut_both HF.out _ h1 h2
      have hfl : fb.data.toList.length = k := by rw [Array.length_toList]; exact hfs
      rw [hfl] at he htk
      have hsl : s.data.toList.length = s.size := by rw [Array.length_toList]; rfl
      have hcl : (fb.data.toList ++ s.data.toList ++ fb.data.toList).length = k + s.size + k := by rw [List.length_append, List.length_append, hfl, hsl]
      have HT1 := Lib.hid (show Calls Tryd.prog 6 #[.string s] w fun e w' => ∃ A n c, e = .returned (.tuple #[.slice A n c, .int .i64 (p1 : Int), .int .i64 (e2 : Int)]) ∧ n = l1.length ∧ Toks w' w'.heap.size A l1 ∧ Below w.heap.size w w' from tokens_any s (by omega) w (HS.out w HB0.out) (l1, p1, e2) (by unfold toksV; rw [if_neg (by rw [hsl]; omega)]; exact h1))
      have HT2 := Lib.hid (show ∀ W, Below w.heap.size w W → Calls Tryd.prog 6 #[.string (fb ++ s ++ fb)] W fun e w' => ∃ A n c, e = .returned (.tuple #[.slice A n c, .int .i64 (p2 : Int), .int .i64 (e2 : Int)]) ∧ n = l2.length ∧ Toks w' w'.heap.size A l2 ∧ Below W.heap.size W w' from fun W hW =>
        tokens_any (fb ++ s ++ fb) (by rw [ByteArray.size_append, ByteArray.size_append]; omega) W (HS.out W hW) (l2, p2, e2) (by rw [app_list, app_list]; unfold toksV; rw [if_neg (by rw [hcl]; omega)]; exact h2))
      have HFEW := cut_few h1
      rw [hsl] at HFEW
      have HFEW := Lib.hid HFEW
      have hp1 : p1 ≤ 300 := by
        have := cut_place s.data.toList 0 0
        rw [h1, hsl] at this
        have h2 : p1 ≤ 0 + s.size := this
        omega
      have tpk := bne_same ((p1 : Int) + (k : Int))
      have HLN := Lib.hid hlen
      have HTK := Lib.hid htk
      have te := bne_same (e2 : Int)
      clear h1 h2 hlen htk hfl hsl hcl hlt
      rcases he with rfl | rfl | ⟨rfl, rfl⟩
      all_goals
        go_wp2_with (first
          | (go_at_call 6; (with_reducible refine HT1.out.mono ?_); rintro e w1 ⟨A1, n1, c1, rfl, hn1, ht1, hb1⟩; have HN1 := Lib.hid hn1; have HA1 := Lib.hid ht1; have HB1 := Lib.hid hb1; clear hn1 ht1 hb1)
          | (go_at_call 6; (with_reducible refine (HT2.out _ HB1.out).mono ?_); rintro e w2 ⟨A2, n2, c2, rfl, hn2, ht2, hb2⟩; obtain rfl : n2 = n1 := (by rw [hn2, HLN.out, HN1.out]); have HA2 := Lib.hid ht2; have HC1 := Lib.hid (HA1.out.below hb2 (Nat.le_refl _)); have HB2 := Lib.hid (Mem.on HB1.out hb2); have tn := bne_same (n2 : Int); have hnf := HFEW.out.1; rw [← HN1.out] at hnf; clear hn2 ht2 hb2))
        go_loopw [13] (fun i wr => ∃ j : Nat, j ≤ n2 ∧ i = .int .i64 (j : Int) ∧ Hid (Below w2.heap.size w2 wr) ∧ Hid (Below w.heap.size w wr)) (fun i _ => n2 + 1 - (intOf i).toNat)
        case atStart => exact ⟨0, Nat.zero_le _, rfl, Lib.hid (Below.refl _ _), HB2⟩
        case round =>
          obtain ⟨j, hj, rfl, HK, HK0⟩ := hrel
          by_cases hlt : j + 1 < n2
          · have hlti : decide ((j : Int) + 1 < (n2 : Int)) = true := decide_eq_true (by omega)
            obtain ⟨t, ht⟩ : ∃ t, l1[j]? = some t := ⟨l1[j]'(by have := HN1.out; omega), List.getElem?_eq_getElem _⟩
            obtain ⟨b, o, rfl, _, c0, c1, c2⟩ := HC1.out j t ht
            obtain ⟨b', o', rfl, hb', d0, d1, d2⟩ := HA2.out j _ (HTK.out j t (by have := HN1.out; omega) ht)
            have hat := HFEW.out.2 j t ht
            obtain ⟨a2, ha2⟩ : ∃ a2, t.at_ + k = a2 := ⟨_, rfl⟩
            have ha2i : (t.at_ : Int) + (k : Int) = (a2 : Int) := by omega
            rw [show (Tk.mk t.kind t.text (t.at_ + k)).at_ = a2 from ha2] at d2
            have c0 := (HK.out.cell (cell_lt c0)).trans c0
            have c1 := (HK.out.cell (cell_lt c1)).trans c1
            have c2 := (HK.out.cell (cell_lt c2)).trans c2
            have d0 := (HK.out.cell (cell_lt d0)).trans d0
            have d1 := (HK.out.cell (cell_lt d1)).trans d1
            have d2 := (HK.out.cell (cell_lt d2)).trans d2
            have q0 := bne_same (t.kind : Int)
            have q1 : (t.text != t.text) = false := by simp
            have q2 := bne_same (a2 : Int)
            clear ht ha2 hb'
            go_wp2
            go_quiet (fail)
            go_wp2
            go_roundw
            case rel => exact ⟨j + 1, by omega, by go_num, Lib.hid (below_drewN HK.out _), Lib.hid (below_drewN HK0.out _)⟩
            case measure => simp [intOf]; omega
          · have hlti : decide ((j : Int) + 1 < (n2 : Int)) = false := decide_eq_false (by omega)
            go_wp2_with (go_at_call 5; refine (works_any _ (HS.out _ HK0.out)).mono ?_; rintro e w3 ⟨rfl, hb⟩; have HB3 := Lib.hid (Mem.on HK0.out hb); clear hb)
            go_ret
            exact ⟨rfl, HB3.out⟩
/-- As the row hands it in. -/
theorem law_blanks (s : ByteArray) (m : Int) (w : World) (hs : s.size ≤ maxLen) (hm : (Lit.int .u8 m).wf = true) (h : Signs w) :
    Calls Tryd.prog 4 #[.string s, .int .u8 m] w fun e w' => e = .returned (.bool true) ∧ Below w.heap.size w w' := walk_blanks s m w hs (bounds_u8 hm) h
end Go.Proofs.YtlmjcmoainbocaaDoor.Lx
