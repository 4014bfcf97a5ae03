/- The law of texts: the walk. -/
import Derived.Test.YtmpboglbnaiekaaDoorValWorks
namespace Go.Proofs.YtmpboglbnaiekaaDoor.Val
open Go.RowKit Go.Proofs.YtmpboglbnaiekaaDoor.Mem
set_option linter.unusedVariables false

/-- Block g holds a value. -/
def Box (w : World) (g : Nat) (k n : Int) (s : ByteArray) : Prop := w.heap[g]? = some (.cells #[.int .i64 k, .int .i64 n, .string s] 23 (0, 0))
theorem Box.made (w : World) (k n : Int) (s : ByteArray) : Box (w.alloc (.cells #[.int .i64 k, .int .i64 n, .string s] 23)) w.heap.size k n s := heap_alloc_new w _
theorem Box.lt {w : World} {g : Nat} {k n : Int} {s : ByteArray} (h : Box w g k n s) : g < w.heap.size := by
  rcases Nat.lt_or_ge g w.heap.size with h2 | h2
  · exact h2
  · unfold Box at h; rw [Array.getElem?_eq_none h2] at h; cases h
theorem Box.below {w w' : World} {g : Nat} {k n : Int} {s : ByteArray} (h : Box w g k n s) (hb : Below w.heap.size w w') : Box w' g k n s := (hb.block g h.lt).trans h
theorem Box.alloc {w : World} {g : Nat} {k n : Int} {s : ByteArray} (h : Box w g k n s) (o : Obj) : Box (w.alloc o) g k n s := h.below (al (Below.refl _ _) o)
theorem Box.cells {w : World} {g : Nat} {k n : Int} {s : ByteArray} (h : Box w g k n s) :
    w.cell? ⟨g, 0, none⟩ = some (.int .i64 k) ∧ w.cell? ⟨g, 1, none⟩ = some (.int .i64 n) ∧ w.cell? ⟨g, 2, none⟩ = some (.string s) := by
  unfold Box at h
  refine ⟨?_, ?_, ?_⟩ <;> simp [World.cell?, h]

theorem long_one (k n : Int) (t : ByteArray) (b : Bool) (hb : decide (200 < (t.size : Int)) = b) (ht : t.size ≤ maxLen) (w : World) (o : Obj) :
    Calls Tryd.prog 5 #[.slice (some ⟨w.heap.size + 1, 0, none⟩) 1 1] ((w.alloc o).alloc (.cells #[.int .i64 k, .int .i64 n, .string t] 23)) fun e w' => e = .returned (.bool b) ∧ (w.alloc o).alloc (.cells #[.int .i64 k, .int .i64 n, .string t] 23) = w' := by
  have hx := (Box.made (w.alloc o) k n t).cells.2.2
  rw [show (w.alloc o).heap.size = w.heap.size + 1 by simp] at hx
  refine (long_any (w.heap.size + 1) 1 [t] _ rfl (by decide) (fun s hs => by simp at hs; rw [hs]; exact ht) fun j s hj => ?_).mono fun e w' ⟨h1, h2⟩ => ⟨by rw [h1, ← hb]; simp [longB], h2⟩
  match j, hj with
  | 0, hj => simp at hj; subst hj; exact hx
  | j + 1, hj => simp at hj

theorem show_got (k n : Int) (s : ByteArray) (l : List UInt8) (h : showV k n s.data.toList = l) (m : Int) (w : World) (hn : -9223372036854775808 ≤ n) (hn' : n ≤ 9223372036854775807) (hs : s.size < 4294967281) (hm : w.cell? ⟨0, 0, none⟩ = some (.int .i64 m)) :
    Calls Tryd.prog 8 #[.agg #[.int .i64 k, .int .i64 n, .string s]] w fun e w' => e = .returned (.string ⟨l.toArray⟩) ∧ Below w.heap.size w w' :=
  (show_any k n s m w hn hn' hs hm).mono fun _ _ ⟨h1, h2⟩ => ⟨by rw [h1, h], h2⟩
theorem show_text (k n : Int) (s r : ByteArray) (h : showV k n s.data.toList = r.data.toList) (m : Int) (w : World) (hn : -9223372036854775808 ≤ n) (hn' : n ≤ 9223372036854775807) (hs : s.size < 4294967281) (hm : w.cell? ⟨0, 0, none⟩ = some (.int .i64 m)) :
    Calls Tryd.prog 8 #[.agg #[.int .i64 k, .int .i64 n, .string s]] w fun e w' => e = .returned (.string r) ∧ Below w.heap.size w w' :=
  (show_any k n s m w hn hn' hs hm).mono fun _ _ ⟨h1, h2⟩ => ⟨by rw [h1, h], h2⟩
theorem read_got (s : ByteArray) (k n : Int) (t : ByteArray) (e : Int) (h : rd s.data.toList = ⟨k, n, t.data.toList, e⟩) (m : Int) (w : World) (hs : s.size < 4294967281) (hm : w.cell? ⟨0, 0, none⟩ = some (.int .i64 m)) :
    Calls Tryd.prog 7 #[.string s] w fun e' w' => e' = .returned (.tuple #[.agg #[.int .i64 k, .int .i64 n, .string t], .int .i64 e]) ∧ Below w.heap.size w w' :=
  (read_any s m w hs hm).mono fun _ _ ⟨h1, h2⟩ => ⟨by rw [h1, h]; rfl, h2⟩
theorem right_got (k n : Int) (s : ByteArray) (b : Bool) (h : okV k n s.data.toList = b) (w : World) (hs : s.size ≤ maxLen) :
    Calls Tryd.prog 9 #[.agg #[.int .i64 k, .int .i64 n, .string s]] w fun e w' => e = .returned (.bool b) ∧ Below w.heap.size w w' :=
  (right_any k n s w hs).mono fun _ _ ⟨h1, h2⟩ => ⟨by rw [h1, h], h2⟩

theorem rv_range (n : Int) : -9223372036854775808 ≤ Num.rv n ∧ Num.rv n ≤ 9223372036854775807 := by
  unfold Num.rv
  split
  · rename_i h; exact (Num.fits_iff n).1 h
  · omega
theorem dgz_len {a : Int} (ha : -9223372036854775808 ≤ a) (ha' : a ≤ 9223372036854775807) : (Num.dgz a).length ≤ 20 := by
  have := Num.dg_len19 (n := a.natAbs) (by omega)
  unfold Num.dgz; split
  · simp; omega
  · omega
/-- A value's text is not much longer than its own. -/
theorem showV_len {k n : Int} {l : List UInt8} (hn : -9223372036854775808 ≤ n) (hn' : n ≤ 9223372036854775807) : (showV k n l).length ≤ 2 * l.length + 20 := by
  have h1 := dgz_len hn hn'
  have h2 := quo_len l
  have h3 := List.count_le_length (a := (39 : UInt8)) (l := l)
  have h4 : wNull.length = 4 := rfl
  have h5 : wTrue.length = 4 := rfl
  have h6 : wFalse.length = 5 := rfl
  unfold showV
  split
  · omega
  · split
    · omega
    · split
      · split <;> omega
      · split
        · omega
        · simp
/-- What is read is of 64 bits, and not longer than the text. -/
theorem rd_fits (l : List UInt8) : -9223372036854775808 ≤ (rd l).n ∧ (rd l).n ≤ 9223372036854775807 ∧ (rd l).s.length ≤ l.length := by
  have bd : ∀ e, -9223372036854775808 ≤ (bad e).n ∧ (bad e).n ≤ 9223372036854775807 ∧ (bad e).s.length ≤ l.length := fun e => ⟨by simp [bad], by simp [bad], by simp [bad]⟩
  unfold rd
  split
  · exact ⟨by decide, by decide, Nat.zero_le _⟩
  · split
    · exact ⟨by decide, by decide, Nat.zero_le _⟩
    · split
      · exact ⟨by decide, by decide, Nat.zero_le _⟩
      · split
        · unfold rdT
          split
          · exact bd _
          · split
            · split
              · exact bd _
              · refine ⟨(show (-9223372036854775808 : Int) ≤ 0 by decide), (show (0 : Int) ≤ 9223372036854775807 by decide), Nat.le_trans (un_le _) ?_⟩
                unfold inner; rw [List.length_take, List.length_drop]; omega
            · exact bd _
        · unfold rdN
          split
          · refine ⟨?_, ?_, Nat.zero_le _⟩
            · show -9223372036854775808 ≤ Num.readV l
              unfold Num.readV; split
              · exact (rv_range _).1
              · omega
            · show Num.readV l ≤ 9223372036854775807
              unfold Num.readV; split
              · exact (rv_range _).2
              · omega
          · exact bd _

set_option maxHeartbeats 2000000 in
theorem walk_back (k n : Int) (t : ByteArray) (s : ByteArray) (m : Int) (w : World) (hn : -9223372036854775808 ≤ n) (hn' : n ≤ 9223372036854775807) (wt : t.size ≤ maxLen) (ws : s.size ≤ maxLen) (hm : w.cell? ⟨0, 0, none⟩ = some (.int .i64 m)) :
    Calls Tryd.prog 3 #[.agg #[.int .i64 k, .int .i64 n, .string t], .string s] w fun e w' => e = .returned (.bool true) ∧ Below w.heap.size w w' := by
  have HM := Lib.hid hm
  have HWT := Lib.hid wt
  have ws' : s.size ≤ 9223372036854775807 := ws
  clear hm ws
  by_cases l1 : 200 < (t.size : Int)
  · have L1 := Lib.hid (decide_eq_true l1)
    clear l1
    go_enter Tryd.func3, Tryd.ntmps3
    go_wp2_with (first | (go_at_call 5; refine (long_one k n t true L1.out HWT.out _ _).mono ?_; rintro e w' ⟨rfl, rfl⟩) | (go_at_call 6; refine (works_any m _ (held_alloc (held_alloc HM.out _) _)).mono ?_; rintro e w9 ⟨rfl, hb9⟩))
    go_ret
    exact ⟨rfl, on (al (al (Below.refl _ _) _) _) hb9⟩
  have L1 := Lib.hid (decide_eq_false l1)
  by_cases l2 : 200 < (s.size : Int)
  · have t2 := decide_eq_true l2
    clear l1
    go_enter Tryd.func3, Tryd.ntmps3
    go_wp2_with (first | (go_at_call 5; refine (long_one k n t false L1.out HWT.out _ _).mono ?_; rintro e w' ⟨rfl, rfl⟩) | (go_at_call 6; refine (works_any m _ (held_alloc (held_alloc HM.out _) _)).mono ?_; rintro e w9 ⟨rfl, hb9⟩))
    go_ret
    exact ⟨rfl, on (al (al (Below.refl _ _) _) _) hb9⟩
  have t2 := decide_eq_false l2
  have hts : t.data.toList.length = t.size := by rw [Array.length_toList]; rfl
  have hss : s.data.toList.length = s.size := by rw [Array.length_toList]; rfl
  -- the value's text, and what it reads as
  obtain ⟨l, hl⟩ : ∃ l, showV k n t.data.toList = l := ⟨_, rfl⟩
  obtain ⟨g, hg⟩ : ∃ g, rd l = g := ⟨_, rfl⟩
  obtain ⟨k1, n1, u1, e1⟩ := g
  have hll := showV_len (k := k) (l := t.data.toList) hn hn'
  rw [hl] at hll
  -- what the text reads as
  obtain ⟨g, hg2⟩ : ∃ g, rd s.data.toList = g := ⟨_, rfl⟩
  have hf2 := rd_fits s.data.toList
  have hb2 := back_read (l := s.data.toList)
  rw [hg2] at hf2 hb2
  obtain ⟨k2, n2, u2, e2⟩ := g
  simp only at hf2 hb2
  obtain ⟨hf2a, hf2b, hf2c⟩ := hf2
  have HL := Lib.hid hl
  have HG := Lib.hid (show rd (⟨l.toArray⟩ : ByteArray).data.toList = ⟨k1, n1, (⟨u1.toArray⟩ : ByteArray).data.toList, e1⟩ from hg)
  have HG2 := Lib.hid (show rd s.data.toList = ⟨k2, n2, (⟨u2.toArray⟩ : ByteArray).data.toList, e2⟩ from hg2)
  have HS := Lib.hid (show (⟨l.toArray⟩ : ByteArray).size < 4294967281 by rw [bytes_size]; omega)
  have HT := Lib.hid (show t.size < 4294967281 by omega)
  have HS2 := Lib.hid (show s.size < 4294967281 by omega)
  have HU2 := Lib.hid (show (⟨u2.toArray⟩ : ByteArray).size < 4294967281 by rw [bytes_size]; omega)
  have HU3 := Lib.hid (show (⟨u2.toArray⟩ : ByteArray).size ≤ maxLen by rw [bytes_size]; unfold maxLen; omega)
  by_cases ok : okV k n t.data.toList = true
  · have hbk := back_value hn hn' ok
    rw [hl, hg] at hbk
    injection hbk with q1 q2 q3 q4
    subst q1 q2 q4
    have q5 : (⟨u1.toArray⟩ : ByteArray) = t := WideShapes.bytes_inj q3
    have HG' := HG
    rw [q5] at HG'
    have HO := Lib.hid ok
    clear HG hg hg2 hl hll hts hss l1 l2 ok q3 q5
    by_cases he2 : e2 = 0
    · subst he2
      obtain ⟨o2, sh2⟩ := hb2 rfl
      have O2 := Lib.hid (show okV k2 n2 (⟨u2.toArray⟩ : ByteArray).data.toList = true from o2)
      have SH2 := Lib.hid (show showV k2 n2 (⟨u2.toArray⟩ : ByteArray).data.toList = s.data.toList from sh2)
      clear o2 sh2 hb2
      go_enter Tryd.func3, Tryd.ntmps3
      go_wp2_with (first | (go_at_call 5; refine (long_one k1 n1 t false L1.out HWT.out _ _).mono ?_; rintro e w' ⟨rfl, rfl⟩) | (go_at_call_of 8 t; refine (show_got k1 n1 t l HL.out m _ hn hn' HT.out (held_alloc (held_alloc HM.out _) _)).mono ?_; rintro e w1 ⟨rfl, hb⟩; have B1 := Lib.hid (((Box.made w k1 n1 t).alloc _).below hb); have HB1 := Lib.hid (on (al (al (Below.refl _ _) _) _) hb); have HM1 := Lib.hid (held_below (held_alloc (held_alloc HM.out _) _) hb); clear hb) | (go_at_call_of 7 l; refine (read_got ⟨l.toArray⟩ k1 n1 t 0 HG'.out m _ HS.out HM1.out).mono ?_; rintro e w2 ⟨rfl, hb⟩; have B2 := Lib.hid (B1.out.below hb); have c0 := fun o => (B2.out.alloc o).cells.1; have c1 := fun o => (B2.out.alloc o).cells.2.1; have c2 := fun o => (B2.out.alloc o).cells.2.2; have HB2 := Lib.hid (on HB1.out hb); have HM2 := Lib.hid (held_below HM1.out hb); clear hb) | (go_at_call_of 9 t; refine (right_got k1 n1 t true HO.out _ HWT.out).mono ?_; rintro e w3 ⟨rfl, hb⟩; obtain ⟨d0, d1, d2⟩ := ((B2.out.alloc _).below hb).cells; obtain ⟨x0, x1, x2⟩ := ((Box.made w2 k1 n1 t).below hb).cells; have HB3 := Lib.hid (on (al HB2.out _) hb); have HM3 := Lib.hid (held_below (held_alloc HM2.out _) hb); clear hb) | (go_at_call_of 7 s; refine (read_got s k2 n2 ⟨u2.toArray⟩ 0 HG2.out m _ HS2.out HM3.out).mono ?_; rintro e w4 ⟨rfl, hb⟩; have HB4 := Lib.hid (on HB3.out hb); have HM4 := Lib.hid (held_alloc (held_below HM3.out hb) (.cells #[.int .i64 k2, .int .i64 n2, .string ⟨u2.toArray⟩] 23)); clear hb) | (go_at_call_of 9 u2; refine (right_got k2 n2 ⟨u2.toArray⟩ true O2.out _ HU3.out).mono ?_; rintro e w5 ⟨rfl, hb⟩; obtain ⟨y0, y1, y2⟩ := ((Box.made w4 k2 n2 ⟨u2.toArray⟩).below hb).cells; have HB5 := Lib.hid (on (al HB4.out _) hb); have HM5 := Lib.hid (held_below HM4.out hb); clear hb) | (go_at_call_of 8 u2; refine (show_text k2 n2 ⟨u2.toArray⟩ s SH2.out m _ hf2a hf2b HU2.out HM5.out).mono ?_; rintro e w6 ⟨rfl, hb⟩; have HB6 := Lib.hid (on HB5.out hb); have HM6 := Lib.hid (held_below HM5.out hb); clear hb) | (go_at_call 6; refine (works_any m _ HM6.out).mono ?_; rintro e w7 ⟨rfl, hb⟩; have HB7 := Lib.hid (on HB6.out hb); clear hb))
      go_ret
      exact ⟨rfl, HB7.out⟩
    · have t3 := bne_yes he2
      clear he2 hb2
      go_enter Tryd.func3, Tryd.ntmps3
      go_wp2_with (first | (go_at_call 5; refine (long_one k1 n1 t false L1.out HWT.out _ _).mono ?_; rintro e w' ⟨rfl, rfl⟩) | (go_at_call_of 8 t; refine (show_got k1 n1 t l HL.out m _ hn hn' HT.out (held_alloc (held_alloc HM.out _) _)).mono ?_; rintro e w1 ⟨rfl, hb⟩; have B1 := Lib.hid (((Box.made w k1 n1 t).alloc _).below hb); have HB1 := Lib.hid (on (al (al (Below.refl _ _) _) _) hb); have HM1 := Lib.hid (held_below (held_alloc (held_alloc HM.out _) _) hb); clear hb) | (go_at_call_of 7 l; refine (read_got ⟨l.toArray⟩ k1 n1 t 0 HG'.out m _ HS.out HM1.out).mono ?_; rintro e w2 ⟨rfl, hb⟩; have B2 := Lib.hid (B1.out.below hb); have c0 := fun o => (B2.out.alloc o).cells.1; have c1 := fun o => (B2.out.alloc o).cells.2.1; have c2 := fun o => (B2.out.alloc o).cells.2.2; have HB2 := Lib.hid (on HB1.out hb); have HM2 := Lib.hid (held_below HM1.out hb); clear hb) | (go_at_call_of 9 t; refine (right_got k1 n1 t true HO.out _ HWT.out).mono ?_; rintro e w3 ⟨rfl, hb⟩; obtain ⟨d0, d1, d2⟩ := ((B2.out.alloc _).below hb).cells; obtain ⟨x0, x1, x2⟩ := ((Box.made w2 k1 n1 t).below hb).cells; have HB3 := Lib.hid (on (al HB2.out _) hb); have HM3 := Lib.hid (held_below (held_alloc HM2.out _) hb); clear hb) | (go_at_call_of 7 s; refine (read_got s k2 n2 ⟨u2.toArray⟩ e2 HG2.out m _ HS2.out HM3.out).mono ?_; rintro e w4 ⟨rfl, hb⟩; have HB4 := Lib.hid (on HB3.out hb); have HM4 := Lib.hid (held_alloc (held_below HM3.out hb) (.cells #[.int .i64 k2, .int .i64 n2, .string ⟨u2.toArray⟩] 23)); clear hb) | (go_at_call 6; refine (works_any m _ HM4.out).mono ?_; rintro e w7 ⟨rfl, hb⟩; have HB7 := Lib.hid (on (al HB4.out _) hb); clear hb))
      go_ret
      exact ⟨rfl, HB7.out⟩
  · have HO := Lib.hid (show okV k n t.data.toList = false by simpa using ok)
    clear hg hg2 hl hll hts hss l1 l2 ok
    by_cases he2 : e2 = 0
    · subst he2
      obtain ⟨o2, sh2⟩ := hb2 rfl
      have O2 := Lib.hid (show okV k2 n2 (⟨u2.toArray⟩ : ByteArray).data.toList = true from o2)
      have SH2 := Lib.hid (show showV k2 n2 (⟨u2.toArray⟩ : ByteArray).data.toList = s.data.toList from sh2)
      clear o2 sh2 hb2
      go_enter Tryd.func3, Tryd.ntmps3
      go_wp2_with (first | (go_at_call 5; refine (long_one k n t false L1.out HWT.out _ _).mono ?_; rintro e w' ⟨rfl, rfl⟩) | (go_at_call_of 8 t; refine (show_got k n t l HL.out m _ hn hn' HT.out (held_alloc (held_alloc HM.out _) _)).mono ?_; rintro e w1 ⟨rfl, hb⟩; have B1 := Lib.hid (((Box.made w k n t).alloc _).below hb); have HB1 := Lib.hid (on (al (al (Below.refl _ _) _) _) hb); have HM1 := Lib.hid (held_below (held_alloc (held_alloc HM.out _) _) hb); clear hb) | (go_at_call_of 7 l; refine (read_got ⟨l.toArray⟩ k1 n1 ⟨u1.toArray⟩ e1 HG.out m _ HS.out HM1.out).mono ?_; rintro e w2 ⟨rfl, hb⟩; have B2 := Lib.hid (B1.out.below hb); have c0 := fun o => (B2.out.alloc o).cells.1; have c1 := fun o => (B2.out.alloc o).cells.2.1; have c2 := fun o => (B2.out.alloc o).cells.2.2; have HB2 := Lib.hid (on HB1.out hb); have HM2 := Lib.hid (held_below HM1.out hb); clear hb) | (go_at_call_of 9 t; refine (right_got k n t false HO.out _ HWT.out).mono ?_; rintro e w3 ⟨rfl, hb⟩; obtain ⟨d0, d1, d2⟩ := ((B2.out.alloc _).below hb).cells; obtain ⟨x0, x1, x2⟩ := ((Box.made w2 k1 n1 ⟨u1.toArray⟩).below hb).cells; have HB3 := Lib.hid (on (al HB2.out _) hb); have HM3 := Lib.hid (held_below (held_alloc HM2.out _) hb); clear hb) | (go_at_call_of 7 s; refine (read_got s k2 n2 ⟨u2.toArray⟩ 0 HG2.out m _ HS2.out HM3.out).mono ?_; rintro e w4 ⟨rfl, hb⟩; have HB4 := Lib.hid (on HB3.out hb); have HM4 := Lib.hid (held_alloc (held_below HM3.out hb) (.cells #[.int .i64 k2, .int .i64 n2, .string ⟨u2.toArray⟩] 23)); clear hb) | (go_at_call_of 9 u2; refine (right_got k2 n2 ⟨u2.toArray⟩ true O2.out _ HU3.out).mono ?_; rintro e w5 ⟨rfl, hb⟩; obtain ⟨y0, y1, y2⟩ := ((Box.made w4 k2 n2 ⟨u2.toArray⟩).below hb).cells; have HB5 := Lib.hid (on (al HB4.out _) hb); have HM5 := Lib.hid (held_below HM4.out hb); clear hb) | (go_at_call_of 8 u2; refine (show_text k2 n2 ⟨u2.toArray⟩ s SH2.out m _ hf2a hf2b HU2.out HM5.out).mono ?_; rintro e w6 ⟨rfl, hb⟩; have HB6 := Lib.hid (on HB5.out hb); have HM6 := Lib.hid (held_below HM5.out hb); clear hb) | (go_at_call 6; refine (works_any m _ HM6.out).mono ?_; rintro e w7 ⟨rfl, hb⟩; have HB7 := Lib.hid (on HB6.out hb); clear hb))
      go_ret
      exact ⟨rfl, HB7.out⟩
    · have t3 := bne_yes he2
      clear he2 hb2
      go_enter Tryd.func3, Tryd.ntmps3
      go_wp2_with (first | (go_at_call 5; refine (long_one k n t false L1.out HWT.out _ _).mono ?_; rintro e w' ⟨rfl, rfl⟩) | (go_at_call_of 8 t; refine (show_got k n t l HL.out m _ hn hn' HT.out (held_alloc (held_alloc HM.out _) _)).mono ?_; rintro e w1 ⟨rfl, hb⟩; have B1 := Lib.hid (((Box.made w k n t).alloc _).below hb); have HB1 := Lib.hid (on (al (al (Below.refl _ _) _) _) hb); have HM1 := Lib.hid (held_below (held_alloc (held_alloc HM.out _) _) hb); clear hb) | (go_at_call_of 7 l; refine (read_got ⟨l.toArray⟩ k1 n1 ⟨u1.toArray⟩ e1 HG.out m _ HS.out HM1.out).mono ?_; rintro e w2 ⟨rfl, hb⟩; have B2 := Lib.hid (B1.out.below hb); have c0 := fun o => (B2.out.alloc o).cells.1; have c1 := fun o => (B2.out.alloc o).cells.2.1; have c2 := fun o => (B2.out.alloc o).cells.2.2; have HB2 := Lib.hid (on HB1.out hb); have HM2 := Lib.hid (held_below HM1.out hb); clear hb) | (go_at_call_of 9 t; refine (right_got k n t false HO.out _ HWT.out).mono ?_; rintro e w3 ⟨rfl, hb⟩; obtain ⟨d0, d1, d2⟩ := ((B2.out.alloc _).below hb).cells; obtain ⟨x0, x1, x2⟩ := ((Box.made w2 k1 n1 ⟨u1.toArray⟩).below hb).cells; have HB3 := Lib.hid (on (al HB2.out _) hb); have HM3 := Lib.hid (held_below (held_alloc HM2.out _) hb); clear hb) | (go_at_call_of 7 s; refine (read_got s k2 n2 ⟨u2.toArray⟩ e2 HG2.out m _ HS2.out HM3.out).mono ?_; rintro e w4 ⟨rfl, hb⟩; have HB4 := Lib.hid (on HB3.out hb); have HM4 := Lib.hid (held_alloc (held_below HM3.out hb) (.cells #[.int .i64 k2, .int .i64 n2, .string ⟨u2.toArray⟩] 23)); clear hb) | (go_at_call 6; refine (works_any m _ HM4.out).mono ?_; rintro e w7 ⟨rfl, hb⟩; have HB7 := Lib.hid (on (al HB4.out _) hb); clear hb))
      go_ret
      exact ⟨rfl, HB7.out⟩
theorem of_wf {n : Int} (h : (Lit.int .i64 n).wf = true) : -9223372036854775808 ≤ n ∧ n ≤ 9223372036854775807 := by simpa [Lit.wf, IntKind.min, IntKind.max, IntKind.signed, IntKind.bits] using h
theorem law_back (k n : Int) (t : ByteArray) (s : ByteArray) (m : Int) (w : World) (wk : (Lit.int .i64 k).wf = true) (wn : (Lit.int .i64 n).wf = true) (wt : t.size ≤ maxLen) (ws : s.size ≤ maxLen) (hm : w.cell? ⟨0, 0, none⟩ = some (.int .i64 m)) :
    Calls Tryd.prog 3 #[.agg #[.int .i64 k, .int .i64 n, .string t], .string s] w fun e w' => e = .returned (.bool true) ∧ Below w.heap.size w w' :=
  walk_back k n t s m w (of_wf wn).1 (of_wf wn).2 wt ws hm
end Go.Proofs.YtmpboglbnaiekaaDoor.Val
