/- What keys.Next answers: the least bytes above all that begin so. -/
import Derived.Test.YtledpmpfckeejaaKeyBegins
import Derived.Test.YtledpmpfckeejaaKeyOne
import Derived.Lib.SliceRun
namespace Go.Proofs.Ytledpmpfckeejaa.Key
open Go.RowKit Go.Proofs.Ytledpmpfckeejaa.Mem Go.Proofs.Ytledpmpfckeejaa.Right
set_option linter.unusedVariables false

theorem cut_take : ∀ {b : List UInt8} {k : Nat}, (∀ c ∈ b.drop k, c = 255) → k ≤ b.length → (k = 0 ∨ ∃ j c, k = j + 1 ∧ b[j]? = some c ∧ c ≠ 255) → cut255 b = b.take k
  | [], k, _, _, _ => by simp [cut255]
  | c :: r, 0, h, _, _ => by
    have hc : c = 255 := h c (by simp)
    have hr : cut255 r = [] := by
      have := cut_take (b := r) (k := 0) (fun d hd => h d (by simp at hd ⊢; exact .inr hd)) (Nat.zero_le _) (.inl rfl)
      simpa using this
    rw [cut255, if_pos hr, if_pos hc]; rfl
  | c :: r, k + 1, h, hk, he => by
    obtain ⟨j, d, ej, hj, hd⟩ : ∃ j c', k + 1 = j + 1 ∧ (c :: r)[j]? = some c' ∧ c' ≠ 255 := by
      rcases he with he | he
      · omega
      · exact he
    obtain rfl : k = j := by omega
    simp only [List.length_cons] at hk
    have h' : ∀ x ∈ r.drop k, x = 255 := fun x hx => h x (by simpa using hx)
    cases k with
    | zero =>
      have hr : cut255 r = [] := by
        have := cut_take (b := r) (k := 0) h' (Nat.zero_le _) (.inl rfl)
        simpa using this
      simp at hj
      subst hj
      rw [cut255, if_pos hr, if_neg hd]; simp
    | succ i =>
      have hr := cut_take (b := r) (k := i + 1) h' (by omega) (.inr ⟨i, d, rfl, by simpa using hj, hd⟩)
      have hne : cut255 r ≠ [] := by
        rw [hr]
        intro e
        have := congrArg List.length e
        rw [List.length_take, Nat.min_eq_left (by omega)] at this
        simp at this
      rw [cut255, if_neg hne, hr, List.take_succ_cons]
theorem up_snoc : ∀ (l : List UInt8) (c : UInt8), up (l ++ [c]) = l ++ [c + 1]
  | [], c => rfl
  | d :: r, c => by rw [List.cons_append, up_cons (by simp), up_snoc r c, List.cons_append]
theorem next_zero {b : List UInt8} (h : ∀ c ∈ b.drop 0, c = 255) : nextV b = [] := by
  unfold nextV; rw [cut_take h (Nat.zero_le _) (.inl rfl)]; rfl
theorem next_at {b : List UInt8} {j : Nat} {c : UInt8} (h : ∀ c ∈ b.drop (j + 1), c = 255) (hj : b[j]? = some c) (hc : c ≠ 255) : nextV b = b.take j ++ [c + 1] := by
  obtain ⟨hk, e⟩ := List.getElem?_eq_some_iff.1 hj
  unfold nextV
  rw [cut_take h (by omega) (.inr ⟨j, c, rfl, hj, hc⟩), List.take_add_one, hj]
  exact up_snoc _ _
theorem drop_all {b : List UInt8} {j : Nat} {c : UInt8} (h : ∀ c ∈ b.drop (j + 1), c = 255) (hj : b[j]? = some c) (hc : c = 255) : ∀ c ∈ b.drop j, c = 255 := by
  obtain ⟨hk, e⟩ := List.getElem?_eq_some_iff.1 hj
  intro d hd
  rw [List.drop_eq_getElem_cons hk, e] at hd
  rcases List.mem_cons.1 hd with e2 | e2
  · rw [e2, hc]
  · exact h d e2

/-- What a clone leaves. -/
def CloneP (w : World) (l : List UInt8) (e : Ending) (w' : World) : Prop := ∃ g cap, e = .returned (.slice (some ⟨g, 0, none⟩) l.length cap) ∧ Made w.heap.size w (.slice (some ⟨g, 0, none⟩) l.length cap) l w'
set_option maxHeartbeats 1000000 in
theorem clone_any (b o n c : Nat) (l : List UInt8) (w : World) (hn : l.length = n) (h0 : 0 < n) (hs : n ≤ 1000000) (h : Row w w.heap.size (some ⟨b, o, none⟩) (bys l)) :
    Calls Try.prog 23 #[.slice (some ⟨b, o, none⟩) n c] w (CloneP w l) := by
  have hnil := fun w => Lib.run_eql_slice_nil (P := Try.prog) w 25 5 (some ⟨b, o, none⟩) n c 0 0 Try.underlying25
  have HN := Lib.hid hn
  have HR := Lib.hid (h.below (al (Below.refl w.heap.size w) (.cells #[] 5)) (Nat.le_refl _))
  have HM := Lib.hid (show Made w.heap.size w (.slice (some ⟨w.heap.size, 0, none⟩) 0 0) [] (w.alloc (.cells #[] 5)) from Made.at_ (al (Below.refl _ _) _) (Nat.le_refl _) (heap_alloc_new _ _) rfl rfl (by decide))
  clear hn h
  go_enter Try.func23, Try.ntmps23
  go_wp2_with (at_builtin; refine wp_many elem_byte w.heap.size (.tmp 5) (.tmp 6) rfl rfl rfl HM.out.1 rfl HR.out ((bys_len l).trans HN.out) (fun e => by cases e) (bys_one _) (by simp; omega) (by simp; omega) HM.out.2.2 ?_; intro v' w2 g1 g2 _; have HG := Lib.hid (show Made w.heap.size w v' l w2 from HM.out.grow (by exact g1) g2); clear g1 g2)
  go_ret
  obtain ⟨h1, h2⟩ := HG.out
  rcases h1.2 with ⟨_, h3⟩ | ⟨g, cap, cur, rfl, _⟩
  · have := HN.out; omega
  · exact ⟨g, cap, rfl, h1, h2⟩

/-- What Next leaves. -/
def NextP (w : World) (l : List UInt8) (e : Ending) (w' : World) : Prop := ∃ v', e = .returned v' ∧ Made w.heap.size w v' l w'
theorem NextP.of {w w' : World} {l l' : List UInt8} {v : Value} (h : l = l') (hm : Made w.heap.size w v l' w') : NextP w l (.returned v) w' := ⟨v, rfl, by rw [h]; exact hm⟩
theorem Made.set_last {w w' : World} {g cap j n : Nat} {l : List UInt8} {c : UInt8} (hl : l.length = j) (hn : j + 1 = n) (x : Int) (hx : x = (c.toNat : Int)) {d : UInt8} (h : Made w.heap.size w (.slice (some ⟨g, 0, none⟩) n cap) (l ++ [d]) w') :
    Made w.heap.size w (.slice (some ⟨g, 0, none⟩) n cap) (l ++ [c]) (w'.setCell ⟨g, j, none⟩ (.int .u8 x)) := by
  subst hl hn hx
  obtain ⟨h1, h2, h3⟩ := h
  have e1 : (l ++ [d]).length = l.length + 1 := by simp
  have e2 : (l ++ [c]).length = l.length + 1 := by simp
  rw [e1] at h1
  have hs := h1.stored l.length (.int .u8 (c.toNat : Int))
  have e3 : (bys (l ++ [d])).set l.length (.int .u8 (c.toNat : Int)) = bys (l ++ [c]) := by
    rw [← bys_app, ← bys_app, List.set_append_right _ _ (by rw [bys_len]; exact Nat.le_refl _), bys_len, Nat.sub_self]
    rfl
  rw [e3] at hs
  refine ⟨by rw [e2]; exact hs.1, h2.setCell (p := ⟨g, l.length, none⟩) (h1.lt g rfl).1 _, by simp [World.setCell]; exact h3⟩
theorem drop_of {b : List UInt8} {k : Nat} (h : b.length ≤ k) : ∀ c ∈ b.drop k, c = 255 := by
  rw [List.drop_eq_nil_of_le h]; simp

set_option maxHeartbeats 1000000 in
theorem next_any (A : Option Addr) (n c : Nat) (l : List UInt8) (w : World) (hn : n ≤ l.length) (hn' : l.length ≤ n) (hc : n ≤ c) (hs : n ≤ 1000000) (h : Row w w.heap.size A (bys l)) :
    Calls Try.prog 16 #[.slice A n c] w (NextP w (nextV l)) := by
  have H := Lib.hid h
  clear h
  go_enter Try.func16, Try.ntmps16
  go_wp2
  go_loop [3] (fun i => ∃ k : Nat, k ≤ n ∧ i = .int .i64 k ∧ Hid (∀ c ∈ l.drop k, c = 255)) (fun i => (intOf i).toNat)
  case atStart => exact ⟨n, Nat.le_refl _, rfl, Lib.hid (drop_of hn')⟩
  case round =>
    obtain ⟨k, hk, rfl, HD⟩ := hrel
    by_cases h0 : k = 0
    · subst h0
      have HV := Lib.hid (next_zero HD.out)
      go_wp2
      go_ret
      exact NextP.of HV.out (Made.start (Below.refl _ _))
    · obtain ⟨j, rfl⟩ : ∃ j, k = j + 1 := ⟨k - 1, by omega⟩
      obtain ⟨b, o, d, rfl, hb, hd, hcell⟩ := H.out.byte (k := j) (by omega)
      have HJ := Lib.hid hd
      have hjn : (j : Int) < (n : Int) := by omega
      clear hd h0
      by_cases he : d = 255
      · have HD2 := Lib.hid (drop_all HD.out HJ.out he)
        subst he
        go_wp2
        go_round
        case rel => exact ⟨j, by omega, by go_num, HD2⟩
        case measure => simp [intOf]
      · have hdl : d.toNat ≤ 254 := by
          have h1 : d.toNat ≠ 255 := fun e => he (UInt8.toNat_inj.1 e)
          have := d.toNat_lt
          omega
        have t1 : ((d.toNat : Int) == 255) = false := beq_no (by omega)
        have HV := Lib.hid (next_at HD.out HJ.out he)
        have HT := Lib.hid (show (l.take (j + 1)) = l.take j ++ [d] by rw [List.take_add_one, HJ.out]; rfl)
        have hjl : j ≤ l.length := by omega
        have HTL := Lib.hid (show (l.take j).length = j by rw [List.length_take]; omega)
        have HTL1 := Lib.hid (show (l.take (j + 1)).length = j + 1 by rw [List.length_take]; omega)
        have HR := Lib.hid (show Row w w.heap.size (some ⟨b, o, none⟩) (bys (l.take (j + 1))) by unfold bys; rw [List.map_take]; exact Row.take H.out)
        have hkc : ((j + 1 : Nat) : Int) ≤ (c : Int) := by omega
        have hkc2 : (j : Int) + 1 ≤ (c : Int) := by omega
        have HX := Lib.hid (show (d.toNat : Int) + 1 = ((d + 1).toNat : Int) by
          rw [UInt8.toNat_add]
          have : (1 : UInt8).toNat = 1 := rfl
          omega)
        clear he
        go_wp2_with (go_at_call 23; refine (clone_any b o (j + 1) c (l.take (j + 1)) w HTL1.out (by omega) (by omega) HR.out).mono ?_; rintro e w1 ⟨g, cap, rfl, m1⟩; rw [HTL1.out] at m1 ⊢; have m2 := m1.1; rw [HTL1.out] at m2; have hcl := m2.cellAt j (by omega); have hfz := m2.frozenAt j; rw [show (bys (l.take (j + 1)))[j]? = some (.int .u8 (d.toNat : Int)) by rw [HT.out, ← bys_app, List.getElem?_append_right (by rw [bys_len, HTL.out]; exact Nat.le_refl _), bys_len, HTL.out, Nat.sub_self]; rfl] at hcl; rw [HT.out] at m1; have HM := Lib.hid m1; clear m1 m2)
        go_ret
        exact NextP.of HV.out (Made.set_last HTL.out rfl _ HX.out HM.out)
end Go.Proofs.Ytledpmpfckeejaa.Key
