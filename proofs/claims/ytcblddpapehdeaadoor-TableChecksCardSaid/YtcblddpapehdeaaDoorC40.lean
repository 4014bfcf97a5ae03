/- The document's check of a table (registrarref14.Check), in mathematics: it comes to the sa -/
import Derived.Test.YtcblddpapehdeaaDoorC29
import Derived.Test.YtcblddpapehdeaaDoorC39
import Derived.Test.YtcblddpapehdeaaDoorC30
namespace Go.Proofs.YtcblddpapehdeaaDoor.Tk
open Go.RowKit Go.Proofs.YtcblddpapehdeaaDoor.Mem Go.Proofs.YtcblddpapehdeaaDoor.Ep Go.Proofs.YtcblddpapehdeaaDoor.Sm Go.Proofs.YtcblddpapehdeaaDoor.Right Go.ChangeShapes Go.WideShapes
set_option linter.unusedVariables false
theorem colI_in {l : List Co} {s : Bs} : 0 ≤ colI l s ↔ s ∈ l.map (·.nm) := by
  unfold colI
  cases h : l.findIdx? (fun c => decide (c.nm = s)) with
  | some j =>
    rw [List.findIdx?_eq_some_iff_getElem] at h
    obtain ⟨hj, e, -⟩ := h
    exact ⟨fun _ => List.mem_map.2 ⟨l[j], List.getElem_mem hj, of_decide_eq_true e⟩, fun _ => by simp⟩
  | none =>
    rw [List.findIdx?_eq_none_iff] at h
    refine ⟨fun g => by simp at g, fun g => ?_⟩
    obtain ⟨c, hc, e⟩ := List.mem_map.1 g
    exact absurd e (of_decide_eq_false (h c hc))
theorem th_used (x : Tb) : thB x = decide (∀ s ∈ usedL x, s ∈ x.cols.map (·.nm)) := by
  unfold thB
  rw [Bool.eq_iff_iff, decide_eq_true_iff, decide_eq_true_iff]
  constructor
  · intro h s hs
    obtain ⟨l, h1, h2⟩ := mem_used.1 hs
    exact colI_in.1 (h l h1 s h2)
  · intro h l hl s hs
    exact colI_in.2 (h s (mem_used.2 ⟨l, hl, hs⟩))
theorem one_unl {x : Tb} : (∀ l ∈ unlL x, repB l = false) ↔ OneT x := by
  unfold unlL usesL
  constructor
  · intro h
    refine ⟨h _ (by simp), h _ (by simp [nmsT]), fun l hl => ?_, fun c hc => h _ (by simp only [List.mem_append, List.mem_map]; exact .inr ⟨c, hc, rfl⟩)⟩
    unfold listsL at hl
    rcases List.mem_append.1 hl with hl | hl
    · obtain ⟨c, hc, rfl⟩ := List.mem_map.1 hl
      exact h _ (List.mem_append_left _ (List.mem_append_left _ (List.mem_append_left _ (List.mem_flatMap.2 ⟨c, hc, by unfold useC; exact List.mem_cons_self ..⟩))))
    · exact h _ (List.mem_append_left _ (List.mem_append_left _ (List.mem_append_right _ hl)))
  · intro h l hl
    rcases List.mem_append.1 hl with hl | hl
    · rcases List.mem_append.1 hl with hl | hl
      · rcases List.mem_append.1 hl with hl | hl
        · obtain ⟨c, hc, hl⟩ := List.mem_flatMap.1 hl
          unfold useC at hl
          rcases List.mem_cons.1 hl with rfl | hl
          · exact h.lists _ (by unfold listsL; exact List.mem_append_left _ (List.mem_map.2 ⟨c, hc, rfl⟩))
          · split at hl
            · simp at hl
              subst hl
              exact rep_of_nodup (names_nodup _)
            · simp at hl
        · exact h.lists _ (by unfold listsL; exact List.mem_append_right _ hl)
      · simp at hl
        rcases hl with rfl | rfl
        · exact h.cols
        · exact h.nms
    · obtain ⟨c, hc, rfl⟩ := List.mem_map.1 hl
      exact h.refs c hc
theorem rep_one (x : Tb) : repsB (unlL x) = !oneB x := by
  by_cases h : OneT x
  · rw [one_yes h]
    exact reps_not (one_unl.2 h)
  · rw [one_no h]
    cases hq : repsB (unlL x) with
    | true => rfl
    | false =>
      refine absurd (one_unl.1 fun l hl => ?_) h
      have := List.any_eq_false.1 hq l hl
      simpa using this
theorem chk_wr (x : Tb) : (wrT x ≠ 0 ∧ chkT x = wrT x) ∨ (wrT x = 0 ∧ numB x = true ∧ chkT x = cond (thB x) (cond (x.cons.any deepB) 17 (cond (x.cons.any wrongB) 2 0)) 4) := by
  unfold chkT chkB wrT
  rw [rep_one]
  cases namedB x <;> cases numB x <;> cases cntB x <;> cases oneB x <;> simp
/-- What the document asks of an expression first, and of the rest then. -/
def badA (c : Cn) : Bool := decide (c.kind = 2) && (!decide (checkE false c.chk = 0) || decide (0 < parE 0 c.chk))
def badC (c : Cn) : Bool :=
  if c.kind = 1 then hasChk c || hasOth c
  else if c.kind = 2 then decide (0 < c.cols.length) || hasOth c
  else hasChk c || (!isNm c.tbl || !decide (c.refs.length = c.cols.length))
theorem wrong_parts (c : Cn) : wrongB c = (badA c || badC c) := by
  unfold wrongB badA badC
  by_cases h1 : c.kind = 1
  · rw [if_pos h1, if_pos h1, decide_eq_false (show ¬ c.kind = 2 by omega)]
    rfl
  rw [if_neg h1, if_neg h1]
  by_cases h2 : c.kind = 2
  · rw [if_pos h2, if_pos h2, decide_eq_true h2]
    simp only [Bool.true_and, Bool.or_assoc]
  · rw [if_neg h2, if_neg h2, decide_eq_false h2]
    simp only [Bool.false_and, Bool.false_or, Bool.or_assoc]
theorem any_wrong {l : List Cn} (h : l.any badA = false) : l.any wrongB = l.any badC := by
  rw [Bool.eq_iff_iff, List.any_eq_true, List.any_eq_true]
  rw [List.any_eq_false] at h
  constructor
  · rintro ⟨c, hc, g⟩
    rw [wrong_parts, Bool.eq_false_iff.2 (h c hc)] at g
    exact ⟨c, hc, g⟩
  · rintro ⟨c, hc, g⟩
    exact ⟨c, hc, by rw [wrong_parts, g, Bool.or_true]⟩
theorem any_badA {l : List Cn} (h : l.any badA = true) : l.any wrongB = true := by
  rw [List.any_eq_true] at h ⊢
  obtain ⟨c, hc, g⟩ := h
  exact ⟨c, hc, by rw [wrong_parts, g]; rfl⟩
theorem any_take_on {p : Cn → Bool} {l : List Cn} {j : Nat} {c : Cn} (h : l[j]? = some c) : (l.take (j + 1)).any p = ((l.take j).any p || p c) := by
  rw [List.take_add_one, h, List.any_append]
  simp
theorem any_no {p : Cn → Bool} {l : List Cn} (h : ∀ c ∈ l, p c = false) : l.any p = false := by
  rw [List.any_eq_false]
  intro c hc
  rw [h c hc]
  exact Bool.false_ne_true
theorem refNone_any (e : Ex) (k0 o0 vk vn : Int) (vs ns : ByteArray) (A0 : Option Addr) (m0 c0 : Nat) (w : World) (h : ExAt w w.heap.size e [.int .i64 k0, .int .i64 o0, .int .i64 vk, .int .i64 vn, .string vs, .string ns, .slice A0 m0 c0]) :
    Calls Tryd.prog 47 #[.agg #[.int .i64 k0, .int .i64 o0, .int .i64 vk, .int .i64 vn, .string vs, .string ns, .slice A0 m0 c0]] w fun x w' => x = .returned (.bool (sameB e exZ)) ∧ Below w.heap.size w w' := by
  obtain ⟨V, hV⟩ : ∃ W1, w.alloc (.cells #[.int .i64 k0, .int .i64 o0, .int .i64 vk, .int .i64 vn, .string vs, .string ns, .slice A0 m0 c0] 54) = W1 := ⟨_, rfl⟩
  have hb : Below w.heap.size w V := by rw [← hV]; exact al (Below.refl _ _) _
  have hbox : Cel V w.heap.size 54 #[.int .i64 k0, .int .i64 o0, .int .i64 vk, .int .i64 vn, .string vs, .string ns, .slice A0 m0 c0] := by rw [← hV]; exact Cel.new _ _ _ rfl
  have y0 : V.cell? ⟨w.heap.size, 0, none⟩ = some (.int .i64 k0) := hbox.at_ 0
  have y1 : V.cell? ⟨w.heap.size, 1, none⟩ = some (.int .i64 o0) := hbox.at_ 1
  have y2 : V.cell? ⟨w.heap.size, 2, none⟩ = some (.int .i64 vk) := hbox.at_ 2
  have y3 : V.cell? ⟨w.heap.size, 3, none⟩ = some (.int .i64 vn) := hbox.at_ 3
  have y4 : V.cell? ⟨w.heap.size, 4, none⟩ = some (.string vs) := hbox.at_ 4
  have y5 : V.cell? ⟨w.heap.size, 5, none⟩ = some (.string ns) := hbox.at_ 5
  have y6 : V.cell? ⟨w.heap.size, 6, none⟩ = some (.slice A0 m0 c0) := hbox.at_ 6
  have HE := Lib.hid (show ∀ W, Below V.heap.size V W → Below w.heap.size w W from fun W g => hb.trans (g.mono hb.size))
  have HSM := Lib.hid (show Calls Tryd.prog 89 #[.agg #[.int .i64 k0, .int .i64 o0, .int .i64 vk, .int .i64 vn, .string vs, .string ns, .slice A0 m0 c0], .agg #[.int .i64 0, .int .i64 0, .int .i64 0, .int .i64 0, .string ⟨#[]⟩, .string ⟨#[]⟩, .slice none 0 0]] V fun e2 w' => e2 = .returned (.bool (sameB e exZ)) ∧ Below V.heap.size V w' from refSame_any e exZ _ _ V (DtIn.on h hb) (exZ_in V _))
  clear h hb hbox
  go_enter Tryd.func47, Tryd.ntmps47
  go_wp2_with (go_at_call 89; (with_reducible refine HSM.out.mono ?_); rintro e1 w1 ⟨rfl, hb1⟩; have HB1 := Lib.hid hb1; clear hb1)
  go_ret
  exact ⟨rfl, HE.out _ HB1.out⟩
end Go.Proofs.YtcblddpapehdeaaDoor.Tk
