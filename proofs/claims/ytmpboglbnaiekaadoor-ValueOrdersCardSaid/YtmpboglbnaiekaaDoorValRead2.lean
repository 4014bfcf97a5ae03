/- What value.Read answers: the whole. -/
import Derived.Test.YtmpboglbnaiekaaDoorValRead
namespace Go.Proofs.YtmpboglbnaiekaaDoor.Val
open Go.RowKit Go.Proofs.YtmpboglbnaiekaaDoor.Mem
set_option linter.unusedVariables false

theorem rd_0 {l : List UInt8} (h : l = wNull) : rd l = ⟨0, 0, [], 0⟩ := by unfold rd; rw [if_pos h]
theorem rd_q {l : List UInt8} (h1 : ¬ l = wNull) (h2 : ¬ l = wTrue) (h3 : ¬ l = wFalse) (h4 : l.head? = some 39) : rd l = rdT l := by unfold rd; rw [if_neg h1, if_neg h2, if_neg h3, if_pos h4]
theorem rd_n {l : List UInt8} (h1 : ¬ l = wNull) (h2 : ¬ l = wTrue) (h3 : ¬ l = wFalse) (h4 : ¬ l.head? = some 39) : rd l = rdN (Num.readV l) (Num.readE l) := by unfold rd; rw [if_neg h1, if_neg h2, if_neg h3, if_neg h4]
theorem hasp_any (s : ByteArray) (b : Bool) (h : decide (s.data.toList.head? = some 39) = b) (w : World) :
    Calls Tryd.prog 13 #[.string s, .string ⟨#[39]⟩] w fun e w' => e = .returned (.bool b) ∧ w = w' :=
  (Tryd.strings_HasPrefix s ⟨#[39]⟩ w).mono fun _ _ ⟨h1, h2⟩ => ⟨by
    rw [h1, ← h]
    have e : Lib.hasPrefix s.data.toList [39] = decide (s.data.toList.head? = some 39) := by
      unfold Lib.hasPrefix
      cases s.data.toList with
      | nil => rfl
      | cons c r =>
        by_cases hc : c = 39
        · subst hc; simp [List.isPrefixOf]
        · have : ((39 : UInt8) == c) = false := by simpa using fun e => hc e.symm
          simp [List.isPrefixOf, this, hc]
    exact congrArg (fun b => Ending.returned (Value.bool b)) e, h2.symm⟩
theorem readText_got (s : ByteArray) (k n : Int) (t : List UInt8) (e : Int) (h : rdT s.data.toList = ⟨k, n, t, e⟩) (m : Int) (w : World) (hs : s.size < 4294967281) (hm : w.cell? ⟨0, 0, none⟩ = some (.int .i64 m)) :
    Calls Tryd.prog 14 #[.string s] w fun e' w' => e' = .returned (.tuple #[.agg #[.int .i64 k, .int .i64 n, .string ⟨t.toArray⟩], .int .i64 e]) ∧ Below w.heap.size w w' :=
  (readText_any s m w hs hm).mono fun _ _ ⟨h1, h2⟩ => ⟨by rw [h1, h]; rfl, h2⟩
theorem whole_got (a b : Int) (k n : Int) (t : List UInt8) (e : Int) (h : rdN a b = ⟨k, n, t, e⟩) (w : World) :
    Calls Tryd.prog 15 #[.int .i64 a, .int .i64 b] w fun e' w' => e' = .returned (.tuple #[.agg #[.int .i64 k, .int .i64 n, .string ⟨t.toArray⟩], .int .i64 e]) ∧ Below w.heap.size w w' :=
  (whole_any a b w).mono fun _ _ ⟨h1, h2⟩ => ⟨by rw [h1, h]; rfl, h2⟩
theorem is_word (s : ByteArray) (l : List UInt8) : s = ⟨l.toArray⟩ ∨ (¬ s.data.toList = l ∧ (s.toList == l) = false) := by
  by_cases h : s.data.toList = l
  · left; apply WideShapes.bytes_inj; exact h
  · right; refine ⟨h, ?_⟩
    rw [Lib.toList_data]; simpa using h

set_option maxHeartbeats 1000000 in
theorem read_any (s : ByteArray) (m : Int) (w : World) (hs : s.size < 4294967281) (hm : w.cell? ⟨0, 0, none⟩ = some (.int .i64 m)) :
    Calls Tryd.prog 7 #[.string s] w fun e w' => e = .returned (rd s.data.toList).val ∧ Below w.heap.size w w' := by
  have HM := Lib.hid (held_alloc hm (.cells #[.int .i64 0, .int .i64 0, .string ByteArray.empty] 23))
  clear hm
  rcases is_word s wNull with rfl | ⟨h1, t1⟩
  · go_enter Tryd.func7, Tryd.ntmps7
    go_wp2
    (try simp only [Exit.inBlock, Exit.then])
    refine bodyPost_ret (v := (rd wNull).val) ?_ rfl ?_
    · rw [results_cell_tmp rfl]
      go_simp
      rfl
    exact ⟨rfl, al (Below.refl _ _) _⟩
  rcases is_word s wTrue with rfl | ⟨h2, t2⟩
  · clear h1 t1
    go_enter Tryd.func7, Tryd.ntmps7
    go_wp2
    (try simp only [Exit.inBlock, Exit.then])
    refine bodyPost_ret (v := (rd wTrue).val) ?_ rfl ?_
    · rw [results_cell_tmp rfl]
      go_simp
      rfl
    exact ⟨rfl, al (Below.refl _ _) _⟩
  rcases is_word s wFalse with rfl | ⟨h3, t3⟩
  · clear h1 t1 h2 t2
    go_enter Tryd.func7, Tryd.ntmps7
    go_wp2
    (try simp only [Exit.inBlock, Exit.then])
    refine bodyPost_ret (v := (rd wFalse).val) ?_ rfl ?_
    · rw [results_cell_tmp rfl]
      go_simp
      rfl
    exact ⟨rfl, al (Below.refl _ _) _⟩
  have r1 : (s.toList == [78, 85, 76, 76]) = false := t1
  have r2 : (s.toList == [84, 82, 85, 69]) = false := t2
  have r3 : (s.toList == [70, 65, 76, 83, 69]) = false := t3
  by_cases h4 : s.data.toList.head? = some 39
  · have HP := Lib.hid (decide_eq_true h4)
    obtain ⟨g, hg⟩ : ∃ g, rdT s.data.toList = g := ⟨_, rfl⟩
    have H := Lib.hid ((rd_q h1 h2 h3 h4).trans hg)
    have HG := Lib.hid hg
    clear h1 t1 h2 t2 h3 t3 h4 hg
    obtain ⟨k1, n1, s1, e1⟩ := g
    go_enter Tryd.func7, Tryd.ntmps7
    go_wp2_with (first | (go_at_call 13; refine (hasp_any _ _ HP.out _).mono ?_; rintro e w' ⟨rfl, rfl⟩) | (go_at_call 14; refine (readText_got _ _ _ _ _ HG.out m _ hs HM.out).mono ?_; rintro e w1 ⟨rfl, hb1⟩; have HB1 := Lib.hid (on (al (Below.refl w.heap.size w) _) hb1); obtain ⟨⟨c0, c1, c2⟩, f0, f1, f2⟩ := made_cells hb1; clear hb1))
    (try simp only [Exit.inBlock, Exit.then])
    refine bodyPost_ret (v := (rd s.data.toList).val) ?_ rfl ?_
    · rw [results_cell_tmp rfl, H.out]
      go_simp
      rfl
    exact ⟨rfl, ((HB1.out.setCell (Nat.le_refl _) _).setCell (Nat.le_refl _) _).setCell (Nat.le_refl _) _⟩
  · have HP := Lib.hid (decide_eq_false h4)
    obtain ⟨g, hg⟩ : ∃ g, rdN (Num.readV s.data.toList) (Num.readE s.data.toList) = g := ⟨_, rfl⟩
    have H := Lib.hid ((rd_n h1 h2 h3 h4).trans hg)
    have HG := Lib.hid hg
    have HL := Lib.hid (show s.size ≤ maxLen by unfold maxLen; omega)
    clear h1 t1 h2 t2 h3 t3 h4 hg
    obtain ⟨k1, n1, s1, e1⟩ := g
    go_enter Tryd.func7, Tryd.ntmps7
    go_wp2_with (first | (go_at_call 13; refine (hasp_any _ _ HP.out _).mono ?_; rintro e w' ⟨rfl, rfl⟩) | (go_at_call 16; (with_reducible refine (Num.read_any s HL.out _).mono ?_); rintro e w' ⟨rfl, rfl⟩) | (go_at_call 15; refine (whole_got _ _ _ _ _ _ HG.out _).mono ?_; rintro e w1 ⟨rfl, hb1⟩; have HB1 := Lib.hid (on (al (Below.refl w.heap.size w) _) hb1); obtain ⟨⟨c0, c1, c2⟩, f0, f1, f2⟩ := made_cells hb1; clear hb1))
    (try simp only [Exit.inBlock, Exit.then])
    refine bodyPost_ret (v := (rd s.data.toList).val) ?_ rfl ?_
    · rw [results_cell_tmp rfl, H.out]
      go_simp
      rfl
    exact ⟨rfl, ((HB1.out.setCell (Nat.le_refl _) _).setCell (Nat.le_refl _) _).setCell (Nat.le_refl _) _⟩
end Go.Proofs.YtmpboglbnaiekaaDoor.Val
