/- The law of a row's bytes: the walk. -/
import Derived.Test.YtkpieiolplkifaaRowWorks
import Derived.Test.YtkpieiolplkifaaRowSame2
namespace Go.Proofs.Ytkpieiolplkifaa.Rw
open Go.RowKit Go.Proofs.Ytkpieiolplkifaa.Mem Go.Proofs.Ytkpieiolplkifaa.Right Go.Proofs.Ytkpieiolplkifaa.Refs
set_option linter.unusedVariables false

theorem quiet_row {C : World → Prop} {K : Act → Prop} {o : Oper} {a : Act} {g : Nat} {num : Int} {A : Option Addr} {n c : Nat} (x : Operand) (ho : o.op = .load 24 x) (hx : a.eval x = .pointer (some ⟨g, 0, none⟩))
    (hB : ∀ w, C w → RBox w g num A n c) (hk : K (a.put o.dst (.agg #[.int .i64 num, .slice A n c]))) : o.quiet Try.prog a C K := by
  refine ⟨_, fun w hw => ?_, hk⟩
  obtain ⟨c0, c1⟩ := (hB w hw).cells
  unfold Oper.quietAt execOp
  simp only [ho, hx]
  go_simp
theorem check_in (num : Int) (A : Option Addr) (n c : Nat) (vs : List Vl) (x : Int) (hx : putE num vs = x) (w0 W : World) (h : Came w0 A n num vs) (hW : Below w0.heap.size w0 W) :
    Calls Try.prog 12 #[.agg #[.int .i64 num, .slice A n c]] W fun e w' => e = .returned (.int .i64 x) ∧ Below w0.heap.size w0 w' :=
  (check_any num A n c vs x hx W (h.below hW)).mono fun _ _ ⟨a, b⟩ => ⟨a, on hW b⟩
theorem refCheck_in (num : Int) (A : Option Addr) (n c : Nat) (vs : List Vl) (x : Int) (hx : putE num vs = x) (w0 W : World) (h : Came w0 A n num vs) (hW : Below w0.heap.size w0 W) :
    Calls Try.prog 13 #[.agg #[.int .i64 num, .slice A n c]] W fun e w' => e = .returned (.int .i64 x) ∧ Below w0.heap.size w0 w' :=
  (refCheck_any num A n c vs x hx W (h.below hW)).mono fun _ _ ⟨a, b⟩ => ⟨a, on hW b⟩
theorem size_in (num : Int) (A : Option Addr) (n c : Nat) (vs : List Vl) (m : Nat) (hm : (putB num vs).length = m) (w0 W : World) (h : Came w0 A n num vs) (hW : Below w0.heap.size w0 W) :
    Calls Try.prog 14 #[.agg #[.int .i64 num, .slice A n c]] W fun e w' => e = .returned (.int .i64 m) ∧ Below w0.heap.size w0 w' :=
  (size_any num A n c vs m hm W (h.below hW)).mono fun _ _ ⟨a, b⟩ => ⟨a, on hW b⟩
theorem works_in (w0 W : World) (hW : Below w0.heap.size w0 W) : Calls Try.prog 8 #[] W fun e w' => e = .returned (.bool true) ∧ Below w0.heap.size w0 w' :=
  (works_any W).mono fun _ _ ⟨a, b⟩ => ⟨a, on hW b⟩
theorem sameR_in (na nb : Int) (A C : Option Addr) (n m ca cb : Nat) (vs us : List Vl) (x : Bool) (hx : decide (na = nb ∧ vs = us) = x) (w0 W : World) (h1 : Came w0 A n na vs) (h2 : Came w0 C m nb us) (hW : Below w0.heap.size w0 W) :
    Calls Try.prog 16 #[.agg #[.int .i64 na, .slice A n ca], .agg #[.int .i64 nb, .slice C m cb]] W fun e w' => e = .returned (.bool x) ∧ Below w0.heap.size w0 w' :=
  (sameR_any na nb A C n m ca cb vs us x hx W (h1.below hW) (h2.below hW)).mono fun _ _ ⟨a, b⟩ => ⟨a, on hW b⟩
theorem refSame_in (na nb : Int) (A C : Option Addr) (n m ca cb : Nat) (vs us : List Vl) (x : Bool) (hx : decide (na = nb ∧ vs = us) = x) (w0 W : World) (h1 : Came w0 A n na vs) (h2 : Came w0 C m nb us) (hW : Below w0.heap.size w0 W) :
    Calls Try.prog 17 #[.agg #[.int .i64 na, .slice A n ca], .agg #[.int .i64 nb, .slice C m cb]] W fun e w' => e = .returned (.bool x) ∧ Below w0.heap.size w0 w' :=
  (refSame_any na nb A C n m ca cb vs us x hx W (h1.below hW) (h2.below hW)).mono fun _ _ ⟨a, b⟩ => ⟨a, on hW b⟩
theorem same_self (l : List UInt8) : decide (l = l) = true := decide_eq_true rfl

set_option maxRecDepth 20000 in
set_option maxHeartbeats 4000000 in
theorem walk_puts (num : Int) (A : Option Addr) (n c : Nat) (vs : List Vl) (w : World) (h : Came w A n num vs) :
    Calls Try.prog 3 #[.agg #[.int .i64 num, .slice A n c]] w fun e w' => e = .returned (.bool true) ∧ Below w.heap.size w w' := by
  obtain ⟨W1, hW1⟩ : ∃ W1, w.alloc (.cells #[.int .i64 num, .slice A n c] 24) = W1 := ⟨_, rfl⟩
  have HR := Lib.hid (show RBox W1 w.heap.size num A n c by rw [← hW1]; exact RBox.made _ _ _ _ _)
  have HB := Lib.hid (show Below w.heap.size w W1 by rw [← hW1]; exact al (Below.refl _ _) _)
  have HW := Lib.hid hW1
  have H := Lib.hid (h.below HB.out)
  obtain ⟨r0, r1⟩ := HR.out.cells
  clear h hW1
  by_cases hl : largeF 0 vs = true
  · have HL := Lib.hid hl
    clear hl
    go_enter Try.func3, Try.ntmps3
    go_wp2_with fail
    rw [HW.out]
    go_wp2_with (first | (go_at_call 7; (with_reducible refine (large_any num A n c vs true HL.out W1 H.out).mono ?_); rintro e w1 ⟨rfl, hb1⟩; have HB1 := Lib.hid (on HB.out hb1); clear hb1) | (go_at_call 8; (with_reducible refine (works_any _).mono ?_); rintro e w2 ⟨rfl, hb2⟩; have HB2 := Lib.hid (on HB1.out hb2); clear hb2))
    go_ret
    exact ⟨rfl, HB2.out⟩
  · have HL := Lib.hid (show largeF 0 vs = false by simpa using hl)
    obtain ⟨l, hlb⟩ : ∃ l, putB num vs = l := ⟨_, rfl⟩
    obtain ⟨x, hx⟩ : ∃ x, putE num vs = x := ⟨_, rfl⟩
    obtain ⟨m, hm⟩ : ∃ m, l.length = m := ⟨_, rfl⟩
    have HLB := Lib.hid hlb
    have HX := Lib.hid hx
    have HM := Lib.hid hm
    have HMP := Lib.hid (show (putB num vs).length = m by rw [hlb, hm])
    clear hl hlb hx hm
    go_enter Try.func3, Try.ntmps3
    go_wp2_with fail
    rw [HW.out]
    go_wp2_with (first | (go_at_call 7; (with_reducible refine (large_any num A n c vs false HL.out W1 H.out).mono ?_); rintro e w1 ⟨rfl, hb1⟩; have HB1 := Lib.hid (on HB.out hb1); have H1 := Lib.hid (H.out.below hb1); have HR1 := Lib.hid (HR.out.below hb1); obtain ⟨s0, s1⟩ := HR1.out.cells; clear hb1) | (go_at_call 9; (with_reducible refine (put_got num A n c vs l x m HLB.out HX.out HM.out w1 H1.out).mono ?_); rintro e w2 ⟨A2, c2, rfl, hb2, hs2, -⟩; have HB2 := Lib.hid (on HB1.out hb2); have H2 := Lib.hid (H1.out.below hb2); have HR2 := Lib.hid (HR1.out.below hb2); obtain ⟨t0, t1⟩ := HR2.out.cells; have HS2 := Lib.hid hs2; clear hb2 hs2) | (go_at_call 10; (with_reducible refine (refPut_got num A n c vs l x m HLB.out HX.out HM.out w2 H2.out).mono ?_); rintro e w3 ⟨A3, c3, rfl, hb3, hs3, -⟩; have HB3 := Lib.hid (on HB2.out hb3); have H3 := Lib.hid (H2.out.below hb3); have HR3 := Lib.hid (HR2.out.below hb3); have HS3 := Lib.hid hs3; have HS23 := Lib.hid (HS2.out.below hb3); clear hb3 hs3))
    refine wp_region_quiet (C := fun w' => Below w3.heap.size w3 w') (by kernel_rfl) (by kernel_rfl) (Below.refl _ _).drew ?_
    repeat (first | (refine BigFrame.wpQuiet_skip rfl ?_; simp only [Act.put, List.setIfInBounds_toArray, List.set_cons_zero, List.set_cons_succ]) | (refine BigFrame.wpQuiet_want rfl (fun K hK => ?_); refine quiet_row (g := w.heap.size) (num := num) (A := A) (n := n) (c := c) _ rfl rfl (fun W h => HR3.out.below h) ?_; refine hK _ ?_; clear hK K; simp only [Act.put, List.setIfInBounds_toArray, List.set_cons_zero, List.set_cons_succ]) | (quiet_step ((intro hW; first | (go_at_call 11; with_reducible exact same_in A2 A3 m m c2 c3 l l true (same_self l) w3 _ HS23.out HS3.out hW) | (go_at_call 12; with_reducible exact check_in num A n c vs x HX.out w3 _ H3.out hW) | (go_at_call 13; with_reducible exact refCheck_in num A n c vs x HX.out w3 _ H3.out hW) | (go_at_call 14; with_reducible exact size_in num A n c vs m HMP.out w3 _ H3.out hW) | (go_at_call 8; with_reducible exact works_in w3 _ hW)))) | (refine BigFrame.wpQuiet_want rfl (fun K hK => ?_); refine quiet_val ?_; apply Exists.intro; refine ⟨fun w => ?_, hK _ ?_⟩; (go_simp; try rfl); clear hK K; simp only [Act.put, List.setIfInBounds_toArray, List.set_cons_zero, List.set_cons_succ]))
    refine wpQuiet_nil ?_
    intro W9 hW9
    go_wp2
    go_ret
    exact ⟨rfl, on HB3.out hW9⟩
end Go.Proofs.Ytkpieiolplkifaa.Rw
