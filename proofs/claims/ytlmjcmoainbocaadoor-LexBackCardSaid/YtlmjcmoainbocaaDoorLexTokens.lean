/- What lex.Tokens answers. -/
import Derived.Test.YtlmjcmoainbocaaDoorLexMem
namespace Go.Proofs.YtlmjcmoainbocaaDoor.Lx
open Go.RowKit Go.Proofs.YtlmjcmoainbocaaDoor.Mem Go.Proofs.YtlmjcmoainbocaaDoor.Right
set_option linter.unusedVariables false

theorem extract_txt (s : ByteArray) (a b : Nat) : s.extract a b = txt ((s.data.toList.drop a).take (b - a)) := l_inj (by rw [Lib.extract_data]; simp [txt])
theorem txt_data (l : List UInt8) : (txt l).data.toList = l := rfl
theorem txt_size (l : List UInt8) : (txt l).size = l.length := by simp [txt, ByteArray.size]
theorem txt_list (l : List UInt8) : (txt l).toList = l := by rw [Lib.toList_data]; rfl
theorem drop_all (s : ByteArray) (a : Nat) : (s.extract a s.size).data.toList = s.data.toList.drop a := by
  rw [Lib.extract_data, List.take_of_length_le (by rw [List.length_drop, Array.length_toList]; exact Nat.le_refl _)]
theorem ends3 {v : Value} {p e p' e' : Nat} {R : List Tk × Nat × Nat} (h : R.2 = (p, e)) : Ending.returned (.tuple #[v, .int .i64 (p : Int), .int .i64 (e : Int)]) = .returned (.tuple #[v, .int .i64 (R.2.1 : Int), .int .i64 (R.2.2 : Int)]) := by rw [h]
theorem lng_le (s : List UInt8) : (lng s).2 ≤ s.length := by
  cases s with
  | nil => exact Nat.le_refl _
  | cons c t =>
    have ho : ∀ k n, n ≤ t.length + 1 → (orN k n).2 ≤ t.length + 1 := fun k n h => by unfold orN; split <;> simp [h]
    have hr : ∀ p m, min (1 + run p t) m ≤ t.length + 1 := fun p m => by have := run_le p t; omega
    rw [List.length_cons]
    simp only [lng]
    split
    · exact hr _ _
    split
    · exact hr _ _
    split
    · exact Nat.le_add_left _ _
    split
    · exact hr _ _
    split
    · refine ho _ _ ?_
      unfold qs
      split
      · rename_i n hq; have := quo_le t n hq; omega
      · omega
    split
    · refine ho _ _ ?_
      cases t with
      | nil => simp [ps]
      | cons d r => simp only [ps]; split <;> simp
    · refine ho _ _ ?_
      cases t with
      | nil => simp only [sgn]; split <;> simp
      | cons d r => simp only [sgn]; split <;> (try split) <;> simp
set_option maxHeartbeats 2000000 in
theorem tokens_any (s : ByteArray) (hs : s.size ≤ 1000000) (w : World) (h : Signs w) (R : List Tk × Nat × Nat) (hR : toksV s.data.toList = R) :
    Calls Tryd.prog 6 #[.string s] w fun e w' => ∃ A n c, e = .returned (.tuple #[.slice A n c, .int .i64 (R.2.1 : Int), .int .i64 (R.2.2 : Int)]) ∧ n = R.1.length ∧ Toks w' w'.heap.size A R.1 ∧ Below w.heap.size w w' := by
  have hll : s.data.toList.length = s.size := by rw [Array.length_toList]; rfl
  unfold toksV at hR
  rw [hll] at hR
  by_cases hlong : 400 < s.size
  · rw [if_pos hlong] at hR
    subst hR
    have t0 : decide (400 < (s.size : Int)) = true := decide_eq_true (by omega)
    go_enter Tryd.func6, Tryd.ntmps6
    go_wp2
    go_ret3
    exact ⟨none, 0, 0, rfl, rfl, Toks.none_, Below.refl _ _⟩
  rw [if_neg hlong] at hR
  have t0 : decide (400 < (s.size : Int)) = false := decide_eq_false (by omega)
  have HS0 : ∀ W, Below w.heap.size w W → Signs W := fun W hW => h.below hW h.lt
  have HS := Lib.hid HS0
  have HR := Lib.hid (show Left s.data.toList R 0 [] from hR ▸ Left.start)
  have HB0 := Lib.hid (Below.refl w.heap.size w)
  have HO0 := Lib.hid (World.ownsRow_nil w w.heap.size 29 3)
  clear h HS0 hR hll
  go_enter Tryd.func6, Tryd.ntmps6
  go_wp2
  go_loopw [5, 6] (fun l i wr => ∃ (done : List Tk) (A : Option Addr) (n c a : Nat), l = .slice A n c ∧ i = .int .i64 (a : Int) ∧ n ≤ 120 ∧ a ≤ s.size ∧ Hid (n = done.length) ∧ Hid (Left s.data.toList R a done) ∧ Hid (wr.ownsRow w.heap.size 29 3 (.slice A n c) n (tcells done)) ∧ Hid (Below w.heap.size w wr)) (fun _ i _ => s.size + 1 - (intOf i).toNat)
  case atStart => exact ⟨[], none, 0, 0, 0, rfl, rfl, Nat.zero_le _, Nat.zero_le _, Lib.hid rfl, HR, HO0, HB0⟩
  case round =>
    obtain ⟨done, A, n, c, a, rfl, rfl, hn, ha, HN, HL, HO, HB⟩ := hrel
    obtain ⟨g, hg⟩ : ∃ g, run blank (s.data.toList.drop a) = g := ⟨_, rfl⟩
    have hgl : a + g ≤ s.size := by
      have := run_le blank (s.data.toList.drop a)
      rw [hg, List.length_drop, Array.length_toList] at this
      have e : s.data.size = s.size := rfl
      omega
    obtain ⟨a2, ha2⟩ : ∃ a2, a + g = a2 := ⟨_, rfl⟩
    obtain ⟨k, z, hkz⟩ : ∃ k z, lng (s.data.toList.drop a2) = (k, z) := ⟨_, _, rfl⟩
    have hz : z ≤ s.size - a2 := by
      have := lng_le (s.data.toList.drop a2)
      rw [hkz, List.length_drop, Array.length_toList] at this
      exact this
    obtain ⟨a3, ha3⟩ : ∃ a3, a2 + z = a3 := ⟨_, rfl⟩
    have e2 : (a : Int) + (g : Int) = (a2 : Int) := by omega
    have e3 : (a2 : Int) + (z : Int) = (a3 : Int) := by omega
    have hk7 : k ≤ 7 := by have := lng_kind (s.data.toList.drop a2); rw [hkz] at this; exact this
    have CG : ∀ W, Calls Tryd.prog 8 #[.string (s.extract a s.size)] W fun e w' => e = .returned (.int .i64 (g : Int)) ∧ W = w' := fun W => by
      have := gap_any (s.extract a s.size) (by rw [ByteArray.size_extract]; omega) W
      rw [drop_all, hg] at this
      exact this
    have CL : ∀ W, Below w.heap.size w W → Calls Tryd.prog 9 #[.string (s.extract a2 s.size)] W fun e w' => e = .returned (.tuple #[.int .i64 (k : Int), .int .i64 (z : Int)]) ∧ W = w' := fun W hW => by
      have := longest_any (s.extract a2 s.size) (by rw [ByteArray.size_extract]; omega) W (HS.out W hW)
      rw [drop_all, hkz] at this
      exact this
    have CR : ∀ W, Calls Tryd.prog 10 #[.int .i64 (k : Int), .string (s.extract a3 s.size)] W fun e w' => e = .returned (.bool (on k (s.data.toList.drop a3))) ∧ W = w' := fun W => by
      have := runsOn_any k hk7 (s.extract a3 s.size) (by rw [ByteArray.size_extract]; omega) W
      rw [drop_all] at this
      exact this
    have hbad : bad (s.data.toList.drop a2) = (decide (k = 0) || on k (s.data.toList.drop a3)) := by
      unfold bad
      rw [hkz, List.drop_drop, ha3]
    have CG := Lib.hid CG
    have CL := Lib.hid CL
    have CR := Lib.hid CR
    have HG := Lib.hid hg
    have H2 := Lib.hid ha2
    have H3 := Lib.hid ha3
    have HK := Lib.hid hkz
    have ha2s : a2 ≤ s.size := by omega
    have ha3s : a3 ≤ s.size := by omega
    have ha23 : a2 ≤ a3 := by omega
    clear hg hkz ha2 ha3 hz hgl
    by_cases k0 : k = 0
    · have HW := Lib.hid (HL.out.word HG.out (by rw [H2.out, hbad, decide_eq_true k0]; rfl))
      subst k0
      clear hbad
      go_wp2_with (first | (go_at_call 8; refine (CG.out _).mono ?_; rintro e w' ⟨rfl, rfl⟩) | (go_at_call 9; refine (CL.out _ HB.out).mono ?_; rintro e w' ⟨rfl, rfl⟩) | (go_at_call 10; refine (CR.out _).mono ?_; rintro e w' ⟨rfl, rfl⟩))
      go_ret3
      rw [HW.out]
      exact ⟨none, 0, 0, by rw [H2.out]; rfl, rfl, Toks.none_, HB.out⟩
    have tk0 : ((k : Int) == 0) = false := beq_no (by omega)
    rw [decide_eq_false k0, Bool.false_or] at hbad
    cases hon : on k (s.data.toList.drop a3) with
    | true =>
      have HW := Lib.hid (HL.out.word HG.out (by rw [H2.out, hbad, hon]))
      clear hbad k0
      go_wp2_with (first | (go_at_call 8; refine (CG.out _).mono ?_; rintro e w' ⟨rfl, rfl⟩) | (go_at_call 9; refine (CL.out _ HB.out).mono ?_; rintro e w' ⟨rfl, rfl⟩) | (go_at_call 10; refine (CR.out _).mono ?_; rintro e w' ⟨rfl, rfl⟩))
      go_ret3
      rw [HW.out]
      exact ⟨none, 0, 0, by rw [H2.out]; rfl, rfl, Toks.none_, HB.out⟩
    | false =>
      have HBD := Lib.hid (show bad (s.data.toList.drop (a + g)) = false by rw [H2.out, hbad, hon])
      clear hbad k0
      by_cases hn120 : n = 120
      · have HW := Lib.hid (HL.out.full HG.out HBD.out (by rw [← HN.out]; exact hn120))
        subst hn120
        go_wp2_with (first | (go_at_call 8; refine (CG.out _).mono ?_; rintro e w' ⟨rfl, rfl⟩) | (go_at_call 9; refine (CL.out _ HB.out).mono ?_; rintro e w' ⟨rfl, rfl⟩) | (go_at_call 10; refine (CR.out _).mono ?_; rintro e w' ⟨rfl, rfl⟩))
        go_ret3
        rw [HW.out]
        exact ⟨none, 0, 0, by rw [H2.out]; rfl, rfl, Toks.none_, HB.out⟩
      have tn : ((n : Int) == 120) = false := beq_no (by omega)
      have hx : s.extract a2 a3 = txt ((s.data.toList.drop a2).take z) := by rw [extract_txt]; congr 2; have := H3.out; omega
      by_cases hk : k = 7
      · have HE := Lib.hid (HL.out.ends HG.out (by rw [H2.out, HK.out]; exact hk) HBD.out (by rw [← HN.out]; exact hn120))
        clear hn120
        subst hk
        go_wp2_with (first | (go_at_call 8; refine (CG.out _).mono ?_; rintro e w' ⟨rfl, rfl⟩) | (go_at_call 9; refine (CL.out _ HB.out).mono ?_; rintro e w' ⟨rfl, rfl⟩) | (go_at_call 10; refine (CR.out _).mono ?_; rintro e w' ⟨rfl, rfl⟩) | (at_builtin; refine wp_tok (x := ⟨7, (s.data.toList.drop a2).take z, a2⟩) elem_tok w.heap.size rfl (.tmp 43) (.tmp 53) rfl rfl rfl HO.out rfl (by omega) (by omega) HB.out.size ?_; intro v' w2 ho2 hg2; have HO2 := Lib.hid ho2; have HB2 := Lib.hid ((al HB.out (.cells #[.int .i64 ((7 : Nat) : Int), .string (txt ((s.data.toList.drop a2).take z)), .int .i64 (a2 : Int)] 29)).grown hg2 (by have := HB.out.size; simp; omega) (fun j hj => (HO.out.lt j hj).1)); clear ho2 hg2))
        go_ret3
        obtain ⟨A', c', rfl, ht, hl⟩ := toks_own HO2.out
        have hz0 : z = 0 := by
          have := HE.out.1
          rw [H2.out, HK.out] at this
          exact this
        subst hz0
        rw [HE.out.2, H2.out]
        exact ⟨A', n + 1, c', rfl, by rw [hl]; rfl, ht, HB2.out⟩
      · have HM := Lib.hid (HL.out.more HG.out (by rw [H2.out]; exact HK.out) hk HBD.out (by rw [← HN.out]; exact hn120))
        have tk7 : ((k : Int) == 7) = false := beq_no (by omega)
        have hn1 : n + 1 ≤ 120 := by omega
        clear hn120 hk
        go_wp2_with (first | (go_at_call 8; refine (CG.out _).mono ?_; rintro e w' ⟨rfl, rfl⟩) | (go_at_call 9; refine (CL.out _ HB.out).mono ?_; rintro e w' ⟨rfl, rfl⟩) | (go_at_call 10; refine (CR.out _).mono ?_; rintro e w' ⟨rfl, rfl⟩) | (at_builtin; refine wp_tok (x := ⟨k, (s.data.toList.drop a2).take z, a2⟩) elem_tok w.heap.size rfl (.tmp 43) (.tmp 53) rfl rfl rfl HO.out rfl (by omega) (by omega) HB.out.size ?_; intro v' w2 ho2 hg2; have HO2 := Lib.hid ho2; have HB2 := Lib.hid ((al HB.out (.cells #[.int .i64 (k : Int), .string (txt ((s.data.toList.drop a2).take z)), .int .i64 (a2 : Int)] 29)).grown hg2 (by have := HB.out.size; simp; omega) (fun j hj => (HO.out.lt j hj).1)); clear ho2 hg2))
        obtain ⟨A', c', rfl, _, _⟩ := toks_own HO2.out
        go_roundw
        case rel =>
          refine ⟨done ++ [⟨k, (s.data.toList.drop a2).take z, a2⟩], A', n + 1, c', a3, rfl, rfl, hn1, ha3s, Lib.hid (by rw [List.length_append, HN.out]; rfl), Lib.hid ?_, HO2, HB2⟩
          have := HM.out.2
          rw [H2.out, H3.out] at this
          exact this
        case measure =>
          have h1 := HM.out.1
          have h2 := H2.out
          have h3 := H3.out
          simp [intOf]; omega
end Go.Proofs.YtlmjcmoainbocaaDoor.Lx
