/- A constraint: is its expression too high (isDeep), has it what its kind has not (isWrong); -/
import Derived.Test.YtcblddpapehdeaaDoorC30
import Derived.Test.YtcblddpapehdeaaDoorC16
import Derived.Test.YtcblddpapehdeaaDoorC19
import Derived.Test.YtcblddpapehdeaaDoorC23
namespace Go.Proofs.YtcblddpapehdeaaDoor.Tk
open Go.RowKit Go.Proofs.YtcblddpapehdeaaDoor.Mem Go.Proofs.YtcblddpapehdeaaDoor.Ep Go.Proofs.YtcblddpapehdeaaDoor.Sm Go.Proofs.YtcblddpapehdeaaDoor.Right Go.Proofs.YtcblddpapehdeaaDoor.Lx Go.ChangeShapes Go.WideShapes
set_option linter.unusedVariables false
abbrev tCn : TypeId := 56
def exZ : Ex := .mk 0 0 0 0 [] [] []
theorem exZ_in (w : World) (S : Nat → Prop) : ExIn w S exZ [.int .i64 0, .int .i64 0, .int .i64 0, .int .i64 0, .string (txt []), .string (txt []), .slice none 0 0] :=
  (exIn_mk _ _ _ _ _ _ _ _ _ _).2 ⟨none, 0, rfl, Nat.le_refl _, by unfold maxLen; omega, fun _ => rfl, kidsIn_nil _ _ _ _⟩
def deepB (c : Cn) : Bool := decide (c.kind = 2) && decide (checkE false c.chk = 17)
def hasChk (c : Cn) : Bool := !sameB c.chk exZ
def hasOth (c : Cn) : Bool := !eB c.tbl || decide (0 < c.refs.length)
def isNm (s : Bs) : Bool := decide (kindOf s = 1)
def wrongB (c : Cn) : Bool :=
  if c.kind = 1 then hasChk c || hasOth c
  else if c.kind = 2 then !decide (checkE false c.chk = 0) || decide (0 < parE 0 c.chk) || decide (0 < c.cols.length) || hasOth c
  else hasChk c || !isNm c.tbl || !decide (c.refs.length = c.cols.length)
/-- A constraint as it lies. -/
structure CnIn (w : World) (B : Nat) (c : Cn) (P : Option Addr) (pn pc : Nat) (k0 o0 vk vn : Int) (vs ns : ByteArray) (A0 : Option Addr) (m0 c0 : Nat) (Q : Option Addr) (qn qc : Nat) : Prop where
  chk : ExAt w B c.chk [.int .i64 k0, .int .i64 o0, .int .i64 vk, .int .i64 vn, .string vs, .string ns, .slice A0 m0 c0]
  cols : pn = c.cols.length
  refs : qn = c.refs.length
section
variable {c : Cn} {P : Option Addr} {pn pc : Nat} {k0 o0 vk vn : Int} {vs ns : ByteArray} {A0 : Option Addr} {m0 c0 : Nat} {Q : Option Addr} {qn qc : Nat} {w : World}
theorem deep_any (h : CnIn w w.heap.size c P pn pc k0 o0 vk vn vs ns A0 m0 c0 Q qn qc) (hS : Signs w) (hl : c.kind = 2 → Lim c.chk) : Calls Tryd.prog 43 #[.agg #[.string (txt c.nm), .int .i64 c.kind, .slice P pn pc, .int .i64 k0, .int .i64 o0, .int .i64 vk, .int .i64 vn, .string vs, .string ns, .slice A0 m0 c0, .string (txt c.tbl), .slice Q qn qc]] w fun e w' => e = .returned (.bool (deepB c)) ∧ Below w.heap.size w w' := by
  obtain ⟨V, hV⟩ : ∃ W, w.alloc (.cells #[.string (txt c.nm), .int .i64 c.kind, .slice P pn pc, .int .i64 k0, .int .i64 o0, .int .i64 vk, .int .i64 vn, .string vs, .string ns, .slice A0 m0 c0, .string (txt c.tbl), .slice Q qn qc] tCn) = W := ⟨_, rfl⟩
  have hb : Below w.heap.size w V := by rw [← hV]; exact al (Below.refl _ _) _
  have hbox : Cel V w.heap.size tCn #[.string (txt c.nm), .int .i64 c.kind, .slice P pn pc, .int .i64 k0, .int .i64 o0, .int .i64 vk, .int .i64 vn, .string vs, .string ns, .slice A0 m0 c0, .string (txt c.tbl), .slice Q qn qc] := by rw [← hV]; exact Cel.new _ _ _ rfl
  have y1 : V.cell? ⟨w.heap.size, 1, none⟩ = some (.int .i64 c.kind) := hbox.at_ 1
  have y3 : V.cell? ⟨w.heap.size, 3, none⟩ = some (.int .i64 k0) := hbox.at_ 3
  have y4 : V.cell? ⟨w.heap.size, 4, none⟩ = some (.int .i64 o0) := hbox.at_ 4
  have y5 : V.cell? ⟨w.heap.size, 5, none⟩ = some (.int .i64 vk) := hbox.at_ 5
  have y6 : V.cell? ⟨w.heap.size, 6, none⟩ = some (.int .i64 vn) := hbox.at_ 6
  have y7 : V.cell? ⟨w.heap.size, 7, none⟩ = some (.string vs) := hbox.at_ 7
  have y8 : V.cell? ⟨w.heap.size, 8, none⟩ = some (.string ns) := hbox.at_ 8
  have y9 : V.cell? ⟨w.heap.size, 9, none⟩ = some (.slice A0 m0 c0) := hbox.at_ 9
  have HB := Lib.hid hb
  by_cases hk : c.kind = 2
  · have HC := Lib.hid (check_any c.chk _ false V (DtIn.on h.chk hb) (hS.below hb hS.lt) (hl hk))
    obtain ⟨ce, hce⟩ : ∃ z, checkE false c.chk = z := ⟨_, rfl⟩
    obtain ⟨q, hq⟩ : ∃ q, (ce == 17) = q := ⟨_, rfl⟩
    have HQ := Lib.hid (show deepB c = q from by unfold deepB; rw [decide_eq_true hk, hce, Bool.true_and, ← hq]; rfl)
    rw [hce] at HC
    rw [hk] at hV y1 ⊢
    clear h hS hl hb hbox hk hce
    go_enter Tryd.func43, Tryd.ntmps43
    go_wp2_with (go_at_call 70; (with_reducible refine HC.out.mono ?_); rintro e1 w1 ⟨rfl, hb1⟩; have HB1 := Lib.hid (Mem.on HB.out hb1); clear hb1)
    go_ret
    exact ⟨rb HQ.out.symm, HB1.out⟩
  · have tk : (c.kind == 2) = false := beq_no hk
    have HQ := Lib.hid (show deepB c = false from by unfold deepB; rw [decide_eq_false hk]; rfl)
    clear h hS hl hb hbox
    go_enter Tryd.func43, Tryd.ntmps43
    go_wp2
    go_ret
    exact ⟨rb HQ.out.symm, HB.out⟩
end
end Go.Proofs.YtcblddpapehdeaaDoor.Tk
