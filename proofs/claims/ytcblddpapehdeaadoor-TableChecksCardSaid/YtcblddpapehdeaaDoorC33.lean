/- Is one of a table's constraints too deep, or wrong (slices.ContainsFunc). -/
import Derived.Test.YtcblddpapehdeaaDoorC32
import Derived.Test.YtcblddpapehdeaaDoorC26
namespace Go.Proofs.YtcblddpapehdeaaDoor.Tk
open Go.RowKit Go.Proofs.YtcblddpapehdeaaDoor.Mem Go.Proofs.YtcblddpapehdeaaDoor.Ep Go.Proofs.YtcblddpapehdeaaDoor.Sm Go.Proofs.YtcblddpapehdeaaDoor.Right Go.Proofs.YtcblddpapehdeaaDoor.Lx Go.ChangeShapes Go.WideShapes
set_option linter.unusedVariables false
/-- What is asked of a constraint ahead of the last questions. -/
structure CnG (c : Cn) : Prop where
  kind : in3 c.kind
  lim : Lim c.chk ∧ size c.chk ≤ 1000
  tbl : c.tbl.length ≤ 1000000
theorem deepC {c : Cn} {P : Option Addr} {pn pc : Nat} {k0 o0 vk vn : Int} {vs ns : ByteArray} {A0 : Option Addr} {m0 c0 : Nat} {Q : Option Addr} {qn qc : Nat} {w : World} (h : CnIn w w.heap.size c P pn pc k0 o0 vk vn vs ns A0 m0 c0 Q qn qc) (hS : Signs w) (hg : CnG c) (hn : pn ≤ maxLen ∧ qn ≤ maxLen) : Calls Tryd.prog 43 #[.agg #[.string (txt c.nm), .int .i64 c.kind, .slice P pn pc, .int .i64 k0, .int .i64 o0, .int .i64 vk, .int .i64 vn, .string vs, .string ns, .slice A0 m0 c0, .string (txt c.tbl), .slice Q qn qc]] w fun e w' => e = .returned (.bool (deepB c)) ∧ Below w.heap.size w w' := deep_any h hS (fun _ => hg.lim.1)
theorem wrongC {c : Cn} {P : Option Addr} {pn pc : Nat} {k0 o0 vk vn : Int} {vs ns : ByteArray} {A0 : Option Addr} {m0 c0 : Nat} {Q : Option Addr} {qn qc : Nat} {w : World} (h : CnIn w w.heap.size c P pn pc k0 o0 vk vn vs ns A0 m0 c0 Q qn qc) (hS : Signs w) (hg : CnG c) (hn : pn ≤ maxLen ∧ qn ≤ maxLen) : Calls Tryd.prog 44 #[.agg #[.string (txt c.nm), .int .i64 c.kind, .slice P pn pc, .int .i64 k0, .int .i64 o0, .int .i64 vk, .int .i64 vn, .string vs, .string ns, .slice A0 m0 c0, .string (txt c.tbl), .slice Q qn qc]] w fun e w' => e = .returned (.bool (wrongB c)) ∧ Below w.heap.size w w' := by
  have h3 := hg.kind
  unfold in3 at h3
  have h4 : c.kind = 1 ∨ c.kind = 2 ∨ c.kind = 3 := by omega
  rcases h4 with hk | hk | hk
  · have := wrong_1 h hS hg.lim hg.tbl hn hk
    rw [hk]; exact this
  · have := wrong_2 h hS hg.lim hg.tbl hn hk
    rw [hk]; exact this
  · have := wrong_3 h hS hg.lim hg.tbl hn hk
    rw [hk]; exact this
theorem any_yes {α : Type} {g : α → Bool} {l : List α} {j : Nat} {x : α} (h : l[j]? = some x) (hk : g x = true) : l.any g = true := by
  rw [List.any_eq_true]
  exact ⟨x, List.mem_of_getElem? h, hk⟩
theorem any_not {α : Type} {g : α → Bool} {l : List α} (h : ∀ x ∈ l, g x = false) : l.any g = false := by
  rw [List.any_eq_false]
  intro v hv
  rw [h v hv]; decide
set_option maxRecDepth 20000 in
set_option maxHeartbeats 4000000 in
theorem indexDeep_any (l : List Cn) (A : Option Addr) (n c9 : Nat) (w : World) (hn : l.length = n) (hN : n ≤ 100000) (h : RowIn w (fun b => b < w.heap.size) A 12 (l.map cnDt) 0) (hS : Signs w) (hg : ∀ c ∈ l, CnG c) : Calls Tryd.prog 84 #[.slice A n c9, .func (.func 43) #[] #[]] w fun e w' => ∃ i : Int, e = .returned (.int .i64 i) ∧ decide (0 ≤ i) = l.any deepB ∧ Below w.heap.size w w' := by
  have HN := Lib.hid hn
  have H := Lib.hid h
  have HS := Lib.hid hS
  have HG := Lib.hid hg
  clear hn h hS hg
  go_enter Tryd.func84, Tryd.ntmps84
  go_wp2
  go_loopw [8] (fun i wr => ∃ j : Nat, j ≤ n ∧ i = .int .i64 (j : Int) ∧ Hid (∀ c ∈ l.take j, deepB c = false) ∧ Hid (Below w.heap.size w wr)) (fun i _ => n + 1 - (intOf i).toNat)
  case atStart => exact ⟨0, Nat.zero_le _, rfl, Lib.hid (fun v hv => by simp at hv), Lib.hid (Below.refl _ _)⟩
  case round =>
    obtain ⟨j, hj, rfl, HT, HW⟩ := hrel
    by_cases hlt : j < n
    · have tl : decide ((j : Int) < (n : Int)) = true := decide_eq_true (by omega)
      have tl2 : decide (j < n) = true := decide_eq_true hlt
      obtain ⟨c, hc⟩ := some_at HN.out hlt
      obtain ⟨b1, o1, P, pn, pc, k0, o0, vk, vn, vs, ns, A0, m0, c0, Q, qn, qc, rfl, hb1, hp, i1, i2, i3⟩ := cn_at H.out hc
      have p0 : wr.cell? ⟨b1, o1 + j * 12, none⟩ = some (.string (txt c.nm)) := (HW.out.cell (p := ⟨b1, o1 + j * 12, none⟩) hb1).trans (hp 0 _ rfl)
      have p1 : wr.cell? ⟨b1, o1 + j * 12 + 1, none⟩ = some (.int .i64 c.kind) := (HW.out.cell (p := ⟨b1, o1 + j * 12 + 1, none⟩) hb1).trans (hp 1 _ rfl)
      have p2 : wr.cell? ⟨b1, o1 + j * 12 + 2, none⟩ = some (.slice P pn pc) := (HW.out.cell (p := ⟨b1, o1 + j * 12 + 2, none⟩) hb1).trans (hp 2 _ rfl)
      have p3 : wr.cell? ⟨b1, o1 + j * 12 + 3, none⟩ = some (.int .i64 k0) := (HW.out.cell (p := ⟨b1, o1 + j * 12 + 3, none⟩) hb1).trans (hp 3 _ rfl)
      have p4 : wr.cell? ⟨b1, o1 + j * 12 + 4, none⟩ = some (.int .i64 o0) := (HW.out.cell (p := ⟨b1, o1 + j * 12 + 4, none⟩) hb1).trans (hp 4 _ rfl)
      have p5 : wr.cell? ⟨b1, o1 + j * 12 + 5, none⟩ = some (.int .i64 vk) := (HW.out.cell (p := ⟨b1, o1 + j * 12 + 5, none⟩) hb1).trans (hp 5 _ rfl)
      have p6 : wr.cell? ⟨b1, o1 + j * 12 + 6, none⟩ = some (.int .i64 vn) := (HW.out.cell (p := ⟨b1, o1 + j * 12 + 6, none⟩) hb1).trans (hp 6 _ rfl)
      have p7 : wr.cell? ⟨b1, o1 + j * 12 + 7, none⟩ = some (.string vs) := (HW.out.cell (p := ⟨b1, o1 + j * 12 + 7, none⟩) hb1).trans (hp 7 _ rfl)
      have p8 : wr.cell? ⟨b1, o1 + j * 12 + 8, none⟩ = some (.string ns) := (HW.out.cell (p := ⟨b1, o1 + j * 12 + 8, none⟩) hb1).trans (hp 8 _ rfl)
      have p9 : wr.cell? ⟨b1, o1 + j * 12 + 9, none⟩ = some (.slice A0 m0 c0) := (HW.out.cell (p := ⟨b1, o1 + j * 12 + 9, none⟩) hb1).trans (hp 9 _ rfl)
      have p10 : wr.cell? ⟨b1, o1 + j * 12 + 10, none⟩ = some (.string (txt c.tbl)) := (HW.out.cell (p := ⟨b1, o1 + j * 12 + 10, none⟩) hb1).trans (hp 10 _ rfl)
      have p11 : wr.cell? ⟨b1, o1 + j * 12 + 11, none⟩ = some (.slice Q qn qc) := (HW.out.cell (p := ⟨b1, o1 + j * 12 + 11, none⟩) hb1).trans (hp 11 _ rfl)
      obtain ⟨-, hl1, -⟩ := row_str i1
      obtain ⟨-, hl3, -⟩ := row_str i3
      have hci : CnIn wr wr.heap.size c P pn pc k0 o0 vk vn vs ns A0 m0 c0 Q qn qc := ⟨DtIn.on i2 HW.out, hl1.symm, hl3.symm⟩
      obtain ⟨q, hq⟩ : ∃ q, deepB c = q := ⟨_, rfl⟩
      have HQ := Lib.hid hq
      have HV := Lib.hid hc
      have HC := Lib.hid (show Calls Tryd.prog 43 #[.agg #[.string (txt c.nm), .int .i64 c.kind, .slice P pn pc, .int .i64 k0, .int .i64 o0, .int .i64 vk, .int .i64 vn, .string vs, .string ns, .slice A0 m0 c0, .string (txt c.tbl), .slice Q qn qc]] wr fun e w' => e = .returned (.bool q) ∧ Below wr.heap.size wr w' from hq ▸ deepC hci (HS.out.below HW.out HS.out.lt) (HG.out c (List.mem_of_getElem? hc)) ⟨(isRow_ls i1).2.1, (isRow_ls i3).2.1⟩)
      clear hp i1 i2 i3 hl1 hl3 hci hq hc hb1
      cases q with
      | true =>
        have HF := Lib.hid (any_yes HV.out HQ.out)
        go_wp2_with (go_at_call 43; (with_reducible refine HC.out.mono ?_); rintro e1 w1 ⟨rfl, hb1⟩; have HB1 := Lib.hid (Mem.on HW.out hb1); clear hb1)
        go_ret
        exact ⟨_, rfl, by rw [HF.out]; exact decide_eq_true (by omega), HB1.out⟩
      | false =>
        have HS2 := Lib.hid (take_all_on (C := fun c => deepB c = false) HV.out HT.out HQ.out)
        go_wp2_with (go_at_call 43; (with_reducible refine HC.out.mono ?_); rintro e1 w1 ⟨rfl, hb1⟩; have HB1 := Lib.hid (Mem.on HW.out hb1); clear hb1)
        go_roundw
        case rel => exact ⟨j + 1, by omega, by go_num, HS2, HB1⟩
        case measure => simp [intOf]; omega
    · have tl : decide ((j : Int) < (n : Int)) = false := decide_eq_false (by omega)
      have HF := Lib.hid (any_not (g := deepB) (l := l) (by have h1 := HT.out; rwa [List.take_of_length_le (by have := HN.out; omega)] at h1))
      go_wp2
      go_ret
      exact ⟨-1, rfl, by rw [HF.out]; rfl, HW.out⟩
theorem containsDeep_any (l : List Cn) (A : Option Addr) (n c9 : Nat) (w : World) (hn : l.length = n) (hN : n ≤ 100000) (h : RowIn w (fun b => b < w.heap.size) A 12 (l.map cnDt) 0) (hS : Signs w) (hg : ∀ c ∈ l, CnG c) : Calls Tryd.prog 42 #[.slice A n c9, .func (.func 43) #[] #[]] w fun e w' => e = .returned (.bool (l.any deepB)) ∧ Below w.heap.size w w' := by
  have HC := Lib.hid (indexDeep_any l A n c9 w hn hN h hS hg)
  clear hn h hS hg
  go_enter Tryd.func42, Tryd.ntmps42
  go_wp2_with (go_at_call 84; (with_reducible refine HC.out.mono ?_); rintro e1 w1 ⟨i, rfl, hi, hb1⟩; have HB1 := Lib.hid hb1; have HI := Lib.hid hi; clear hb1 hi)
  go_ret
  exact ⟨by rw [← HI.out]; rfl, HB1.out⟩
set_option maxRecDepth 20000 in
set_option maxHeartbeats 4000000 in
theorem indexWrong_any (l : List Cn) (A : Option Addr) (n c9 : Nat) (w : World) (hn : l.length = n) (hN : n ≤ 100000) (h : RowIn w (fun b => b < w.heap.size) A 12 (l.map cnDt) 0) (hS : Signs w) (hg : ∀ c ∈ l, CnG c) : Calls Tryd.prog 84 #[.slice A n c9, .func (.func 44) #[] #[]] w fun e w' => ∃ i : Int, e = .returned (.int .i64 i) ∧ decide (0 ≤ i) = l.any wrongB ∧ Below w.heap.size w w' := by
  have HN := Lib.hid hn
  have H := Lib.hid h
  have HS := Lib.hid hS
  have HG := Lib.hid hg
  clear hn h hS hg
  go_enter Tryd.func84, Tryd.ntmps84
  go_wp2
  go_loopw [8] (fun i wr => ∃ j : Nat, j ≤ n ∧ i = .int .i64 (j : Int) ∧ Hid (∀ c ∈ l.take j, wrongB c = false) ∧ Hid (Below w.heap.size w wr)) (fun i _ => n + 1 - (intOf i).toNat)
  case atStart => exact ⟨0, Nat.zero_le _, rfl, Lib.hid (fun v hv => by simp at hv), Lib.hid (Below.refl _ _)⟩
  case round =>
    obtain ⟨j, hj, rfl, HT, HW⟩ := hrel
    by_cases hlt : j < n
    · have tl : decide ((j : Int) < (n : Int)) = true := decide_eq_true (by omega)
      have tl2 : decide (j < n) = true := decide_eq_true hlt
      obtain ⟨c, hc⟩ := some_at HN.out hlt
      obtain ⟨b1, o1, P, pn, pc, k0, o0, vk, vn, vs, ns, A0, m0, c0, Q, qn, qc, rfl, hb1, hp, i1, i2, i3⟩ := cn_at H.out hc
      have p0 : wr.cell? ⟨b1, o1 + j * 12, none⟩ = some (.string (txt c.nm)) := (HW.out.cell (p := ⟨b1, o1 + j * 12, none⟩) hb1).trans (hp 0 _ rfl)
      have p1 : wr.cell? ⟨b1, o1 + j * 12 + 1, none⟩ = some (.int .i64 c.kind) := (HW.out.cell (p := ⟨b1, o1 + j * 12 + 1, none⟩) hb1).trans (hp 1 _ rfl)
      have p2 : wr.cell? ⟨b1, o1 + j * 12 + 2, none⟩ = some (.slice P pn pc) := (HW.out.cell (p := ⟨b1, o1 + j * 12 + 2, none⟩) hb1).trans (hp 2 _ rfl)
      have p3 : wr.cell? ⟨b1, o1 + j * 12 + 3, none⟩ = some (.int .i64 k0) := (HW.out.cell (p := ⟨b1, o1 + j * 12 + 3, none⟩) hb1).trans (hp 3 _ rfl)
      have p4 : wr.cell? ⟨b1, o1 + j * 12 + 4, none⟩ = some (.int .i64 o0) := (HW.out.cell (p := ⟨b1, o1 + j * 12 + 4, none⟩) hb1).trans (hp 4 _ rfl)
      have p5 : wr.cell? ⟨b1, o1 + j * 12 + 5, none⟩ = some (.int .i64 vk) := (HW.out.cell (p := ⟨b1, o1 + j * 12 + 5, none⟩) hb1).trans (hp 5 _ rfl)
      have p6 : wr.cell? ⟨b1, o1 + j * 12 + 6, none⟩ = some (.int .i64 vn) := (HW.out.cell (p := ⟨b1, o1 + j * 12 + 6, none⟩) hb1).trans (hp 6 _ rfl)
      have p7 : wr.cell? ⟨b1, o1 + j * 12 + 7, none⟩ = some (.string vs) := (HW.out.cell (p := ⟨b1, o1 + j * 12 + 7, none⟩) hb1).trans (hp 7 _ rfl)
      have p8 : wr.cell? ⟨b1, o1 + j * 12 + 8, none⟩ = some (.string ns) := (HW.out.cell (p := ⟨b1, o1 + j * 12 + 8, none⟩) hb1).trans (hp 8 _ rfl)
      have p9 : wr.cell? ⟨b1, o1 + j * 12 + 9, none⟩ = some (.slice A0 m0 c0) := (HW.out.cell (p := ⟨b1, o1 + j * 12 + 9, none⟩) hb1).trans (hp 9 _ rfl)
      have p10 : wr.cell? ⟨b1, o1 + j * 12 + 10, none⟩ = some (.string (txt c.tbl)) := (HW.out.cell (p := ⟨b1, o1 + j * 12 + 10, none⟩) hb1).trans (hp 10 _ rfl)
      have p11 : wr.cell? ⟨b1, o1 + j * 12 + 11, none⟩ = some (.slice Q qn qc) := (HW.out.cell (p := ⟨b1, o1 + j * 12 + 11, none⟩) hb1).trans (hp 11 _ rfl)
      obtain ⟨-, hl1, -⟩ := row_str i1
      obtain ⟨-, hl3, -⟩ := row_str i3
      have hci : CnIn wr wr.heap.size c P pn pc k0 o0 vk vn vs ns A0 m0 c0 Q qn qc := ⟨DtIn.on i2 HW.out, hl1.symm, hl3.symm⟩
      obtain ⟨q, hq⟩ : ∃ q, wrongB c = q := ⟨_, rfl⟩
      have HQ := Lib.hid hq
      have HV := Lib.hid hc
      have HC := Lib.hid (show Calls Tryd.prog 44 #[.agg #[.string (txt c.nm), .int .i64 c.kind, .slice P pn pc, .int .i64 k0, .int .i64 o0, .int .i64 vk, .int .i64 vn, .string vs, .string ns, .slice A0 m0 c0, .string (txt c.tbl), .slice Q qn qc]] wr fun e w' => e = .returned (.bool q) ∧ Below wr.heap.size wr w' from hq ▸ wrongC hci (HS.out.below HW.out HS.out.lt) (HG.out c (List.mem_of_getElem? hc)) ⟨(isRow_ls i1).2.1, (isRow_ls i3).2.1⟩)
      clear hp i1 i2 i3 hl1 hl3 hci hq hc hb1
      cases q with
      | true =>
        have HF := Lib.hid (any_yes HV.out HQ.out)
        go_wp2_with (go_at_call 44; (with_reducible refine HC.out.mono ?_); rintro e1 w1 ⟨rfl, hb1⟩; have HB1 := Lib.hid (Mem.on HW.out hb1); clear hb1)
        go_ret
        exact ⟨_, rfl, by rw [HF.out]; exact decide_eq_true (by omega), HB1.out⟩
      | false =>
        have HS2 := Lib.hid (take_all_on (C := fun c => wrongB c = false) HV.out HT.out HQ.out)
        go_wp2_with (go_at_call 44; (with_reducible refine HC.out.mono ?_); rintro e1 w1 ⟨rfl, hb1⟩; have HB1 := Lib.hid (Mem.on HW.out hb1); clear hb1)
        go_roundw
        case rel => exact ⟨j + 1, by omega, by go_num, HS2, HB1⟩
        case measure => simp [intOf]; omega
    · have tl : decide ((j : Int) < (n : Int)) = false := decide_eq_false (by omega)
      have HF := Lib.hid (any_not (g := wrongB) (l := l) (by have h1 := HT.out; rwa [List.take_of_length_le (by have := HN.out; omega)] at h1))
      go_wp2
      go_ret
      exact ⟨-1, rfl, by rw [HF.out]; rfl, HW.out⟩
theorem containsWrong_any (l : List Cn) (A : Option Addr) (n c9 : Nat) (w : World) (hn : l.length = n) (hN : n ≤ 100000) (h : RowIn w (fun b => b < w.heap.size) A 12 (l.map cnDt) 0) (hS : Signs w) (hg : ∀ c ∈ l, CnG c) : Calls Tryd.prog 42 #[.slice A n c9, .func (.func 44) #[] #[]] w fun e w' => e = .returned (.bool (l.any wrongB)) ∧ Below w.heap.size w w' := by
  have HC := Lib.hid (indexWrong_any l A n c9 w hn hN h hS hg)
  clear hn h hS hg
  go_enter Tryd.func42, Tryd.ntmps42
  go_wp2_with (go_at_call 84; (with_reducible refine HC.out.mono ?_); rintro e1 w1 ⟨i, rfl, hi, hb1⟩; have HB1 := Lib.hid hb1; have HI := Lib.hid hi; clear hb1 hi)
  go_ret
  exact ⟨by rw [← HI.out]; rfl, HB1.out⟩
end Go.Proofs.YtcblddpapehdeaaDoor.Tk
