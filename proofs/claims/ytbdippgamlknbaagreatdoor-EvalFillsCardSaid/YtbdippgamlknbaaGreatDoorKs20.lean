/- Is one part of a tree right: the program's way (isRight), walked, kind by kind (wip/gen/is All that was there stays, but one block. Trees whose texts are not too long; what a list's beginning is. -/
import Derived.Test.YtbdippgamlknbaaGreatDoorKs19
import Derived.Test.YtbdippgamlknbaaGreatDoorKs06
namespace Go.Proofs.YtbdippgamlknbaaGreatDoor.Ep
open Go.RowKit Go.Proofs.YtbdippgamlknbaaGreatDoor.Mem Go.Proofs.YtbdippgamlknbaaGreatDoor.Right Go.Proofs.YtbdippgamlknbaaGreatDoor.Lx
set_option linter.unusedVariables false
theorem below_drewN {B : Nat} {w a : World} (h : Below B w a) (n : Nat) : Below B w (a.drewN n) := h.trans ⟨rfl, rfl, rfl, Nat.le_refl _, fun _ _ => rfl⟩
set_option maxHeartbeats 8000000 in
set_option maxRecDepth 100000 in
theorem part_1 (o vk vn : Int) (vs nm : List UInt8) (A : Option Addr) (n c : Nat) (slots : Bool) (w : World) (h : Signs w) (hvs : vs.length ≤ 1000000) (hnm : nm.length ≤ 1000000) :
    Calls Tryz.prog 69 #[exV 1 o vk vn (txt vs) (txt nm) A n c, .bool slots] w fun e w' => e = .returned (.bool (headB slots 1 o vk vn vs nm n)) ∧ Below w.heap.size w w' := by
  have hb := al (Below.refl w.heap.size w) (.cells #[.int .i64 1, .int .i64 o, .int .i64 vk, .int .i64 vn, .string (txt vs), .string (txt nm), .slice A n c] 26)
  have HB0 := Lib.hid hb
  have HS := Lib.hid (h.below hb h.lt)
  have e0 : ((txt nm).toList == []) = eB nm := txt_eq
  obtain ⟨z, hz⟩ : ∃ z, zB vk vn vs = z := ⟨_, rfl⟩
  obtain ⟨en, hen⟩ : ∃ en, eB nm = en := ⟨_, rfl⟩
  obtain ⟨eo, heo⟩ : ∃ eo, (o == 0) = eo := ⟨_, rfl⟩
  rw [hen] at e0
  have HZ := Lib.hid hz
  obtain ⟨zn, hzn⟩ : ∃ zn, ((n : Int) == 0) = zn := ⟨_, rfl⟩
  have H := Lib.hid (show headB slots 1 o vk vn vs nm n = (eo && (en && (zn && litB vk vn vs))) from by rw [head_1, heo, hen, ← hzn]; rfl)
  have HL := Lib.hid (show ∀ W, Calls Tryz.prog 136 #[.agg #[.int .i64 vk, .int .i64 vn, .string (txt vs)]] W fun e w' => e = .returned (.bool (litB vk vn vs)) ∧ Below W.heap.size W w' from fun W => isLit_any vk vn vs W (by unfold maxLen; omega))
  clear h hb hz hen
  unfold exV
  go_enter Tryz.func69, Tryz.ntmps69
  go_wp2
  refine wp_region_quiet_lit (by kernel_rfl) (by kernel_rfl) ?_
  repeat (first
    | (go_big_quiet_want; refine quiet_eqz _ _ rfl rfl rfl HZ.out ?_; go_big_quiet_on; simp only [Act.put, List.setIfInBounds_toArray, List.set_cons_zero, List.set_cons_succ])
    | go_big_quiet_step (fail))
  refine wpQuiet_nil ?_
  intro _ hw'
  obtain ⟨nq, hw''⟩ := hw'
  subst hw''
  go_wp2_with (first | (go_at_call 136; (with_reducible refine (HL.out _).mono ?_); rintro e w2 ⟨rfl, hb2⟩; have HB2 := Lib.hid (Mem.on (below_drewN HB0.out nq) hb2); clear hb2))
  all_goals (go_ret; refine ⟨rb ?_, ?_⟩)
  all_goals first
    | (rw [H.out]; simp [*])
    | exact HB2.out
    | exact below_drewN HB0.out nq
set_option maxHeartbeats 8000000 in
set_option maxRecDepth 100000 in
theorem part_2 (o vk vn : Int) (vs nm : List UInt8) (A : Option Addr) (n c : Nat) (slots : Bool) (w : World) (h : Signs w) (hvs : vs.length ≤ 1000000) (hnm : nm.length ≤ 1000000) :
    Calls Tryz.prog 69 #[exV 2 o vk vn (txt vs) (txt nm) A n c, .bool slots] w fun e w' => e = .returned (.bool (headB slots 2 o vk vn vs nm n)) ∧ Below w.heap.size w w' := by
  have hb := al (Below.refl w.heap.size w) (.cells #[.int .i64 2, .int .i64 o, .int .i64 vk, .int .i64 vn, .string (txt vs), .string (txt nm), .slice A n c] 26)
  have HB0 := Lib.hid hb
  have HS := Lib.hid (h.below hb h.lt)
  have e0 : ((txt nm).toList == []) = eB nm := txt_eq
  obtain ⟨z, hz⟩ : ∃ z, zB vk vn vs = z := ⟨_, rfl⟩
  obtain ⟨en, hen⟩ : ∃ en, eB nm = en := ⟨_, rfl⟩
  obtain ⟨eo, heo⟩ : ∃ eo, (o == 0) = eo := ⟨_, rfl⟩
  rw [hen] at e0
  have HZ := Lib.hid hz
  obtain ⟨zn, hzn⟩ : ∃ zn, ((n : Int) == 0) = zn := ⟨_, rfl⟩
  have H := Lib.hid (show headB slots 2 o vk vn vs nm n = (eo && (z && (zn && decide (kindOf nm = 1)))) from by rw [head_2, heo, hz, ← hzn]; rfl)
  have HL0 := Lib.hid (fun W (hW : Signs W) => (show Calls Tryz.prog 137 #[.string (txt nm)] W fun e w' => e = .returned (.bool (decide (kindOf nm = 1))) ∧ W = w' from isName_any (txt nm) hnm W hW))
  clear h hb hz hen
  unfold exV
  go_enter Tryz.func69, Tryz.ntmps69
  go_wp2
  refine wp_region_quiet_lit (by kernel_rfl) (by kernel_rfl) ?_
  repeat (first
    | (go_big_quiet_want; refine quiet_eqz _ _ rfl rfl rfl HZ.out ?_; go_big_quiet_on; simp only [Act.put, List.setIfInBounds_toArray, List.set_cons_zero, List.set_cons_succ])
    | go_big_quiet_step (fail))
  refine wpQuiet_nil ?_
  intro _ hw'
  obtain ⟨nq, hw''⟩ := hw'
  subst hw''
  have HS2 := Lib.hid (show Signs ((w.alloc (.cells #[.int .i64 2, .int .i64 o, .int .i64 vk, .int .i64 vn, .string (txt vs), .string (txt nm), .slice A n c] 26)).drewN nq) from HS.out)
  have HL := Lib.hid (HL0.out _ HS2.out)
  go_wp2_with (first | (go_at_call 137; (with_reducible refine HL.out.mono ?_); rintro e w2 ⟨rfl, rfl⟩))
  all_goals (go_ret; refine ⟨rb ?_, ?_⟩)
  all_goals first
    | (rw [H.out]; simp [*])
    | exact HB2.out
    | exact below_drewN HB0.out nq
set_option maxHeartbeats 8000000 in
set_option maxRecDepth 100000 in
theorem part_3 (o vk vn : Int) (vs nm : List UInt8) (A : Option Addr) (n c : Nat) (slots : Bool) (w : World) (h : Signs w) (hvs : vs.length ≤ 1000000) (hnm : nm.length ≤ 1000000) :
    Calls Tryz.prog 69 #[exV 3 o vk vn (txt vs) (txt nm) A n c, .bool slots] w fun e w' => e = .returned (.bool (headB slots 3 o vk vn vs nm n)) ∧ Below w.heap.size w w' := by
  have hb := al (Below.refl w.heap.size w) (.cells #[.int .i64 3, .int .i64 o, .int .i64 vk, .int .i64 vn, .string (txt vs), .string (txt nm), .slice A n c] 26)
  have HB0 := Lib.hid hb
  have HS := Lib.hid (h.below hb h.lt)
  have e0 : ((txt nm).toList == []) = eB nm := txt_eq
  obtain ⟨z, hz⟩ : ∃ z, zB vk vn vs = z := ⟨_, rfl⟩
  obtain ⟨en, hen⟩ : ∃ en, eB nm = en := ⟨_, rfl⟩
  obtain ⟨eo, heo⟩ : ∃ eo, (o == 0) = eo := ⟨_, rfl⟩
  rw [hen] at e0
  have HZ := Lib.hid hz
  obtain ⟨zn, hzn⟩ : ∃ zn, ((n : Int) == 0) = zn := ⟨_, rfl⟩
  have H := Lib.hid (show headB slots 3 o vk vn vs nm n = (z && (en && (zn && inB o 1 6))) from by rw [head_3, hz, hen, ← hzn]; rfl)
  clear h hb hz hen
  unfold exV
  go_enter Tryz.func69, Tryz.ntmps69
  go_wp2
  refine wp_region_quiet_lit (by kernel_rfl) (by kernel_rfl) ?_
  repeat (first
    | (go_big_quiet_want; refine quiet_eqz _ _ rfl rfl rfl HZ.out ?_; go_big_quiet_on; simp only [Act.put, List.setIfInBounds_toArray, List.set_cons_zero, List.set_cons_succ])
    | go_big_quiet_step (fail))
  refine wpQuiet_nil ?_
  intro _ hw'
  obtain ⟨nq, hw''⟩ := hw'
  subst hw''
  go_wp2_with (first | (go_at_call 138; (with_reducible refine (within_any _ _ _ _).mono ?_); rintro e w2 ⟨rfl, rfl⟩))
  all_goals (go_ret; refine ⟨rb ?_, ?_⟩)
  all_goals first
    | (rw [H.out]; simp [*])
    | exact HB2.out
    | exact below_drewN HB0.out nq
set_option maxHeartbeats 8000000 in
set_option maxRecDepth 100000 in
theorem part_4 (o vk vn : Int) (vs nm : List UInt8) (A : Option Addr) (n c : Nat) (slots : Bool) (w : World) (h : Signs w) (hvs : vs.length ≤ 1000000) (hnm : nm.length ≤ 1000000) :
    Calls Tryz.prog 69 #[exV 4 o vk vn (txt vs) (txt nm) A n c, .bool slots] w fun e w' => e = .returned (.bool (headB slots 4 o vk vn vs nm n)) ∧ Below w.heap.size w w' := by
  have hb := al (Below.refl w.heap.size w) (.cells #[.int .i64 4, .int .i64 o, .int .i64 vk, .int .i64 vn, .string (txt vs), .string (txt nm), .slice A n c] 26)
  have HB0 := Lib.hid hb
  have HS := Lib.hid (h.below hb h.lt)
  have e0 : ((txt nm).toList == []) = eB nm := txt_eq
  obtain ⟨z, hz⟩ : ∃ z, zB vk vn vs = z := ⟨_, rfl⟩
  obtain ⟨en, hen⟩ : ∃ en, eB nm = en := ⟨_, rfl⟩
  obtain ⟨eo, heo⟩ : ∃ eo, (o == 0) = eo := ⟨_, rfl⟩
  rw [hen] at e0
  have HZ := Lib.hid hz
  obtain ⟨zn, hzn⟩ : ∃ zn, ((n : Int) == 1) = zn := ⟨_, rfl⟩
  have H := Lib.hid (show headB slots 4 o vk vn vs nm n = (z && (en && (zn && inB o 1 4))) from by rw [head_4, hz, hen, ← hzn]; rfl)
  clear h hb hz hen
  unfold exV
  go_enter Tryz.func69, Tryz.ntmps69
  go_wp2
  refine wp_region_quiet_lit (by kernel_rfl) (by kernel_rfl) ?_
  repeat (first
    | (go_big_quiet_want; refine quiet_eqz _ _ rfl rfl rfl HZ.out ?_; go_big_quiet_on; simp only [Act.put, List.setIfInBounds_toArray, List.set_cons_zero, List.set_cons_succ])
    | go_big_quiet_step (fail))
  refine wpQuiet_nil ?_
  intro _ hw'
  obtain ⟨nq, hw''⟩ := hw'
  subst hw''
  go_wp2_with (first | (go_at_call 138; (with_reducible refine (within_any _ _ _ _).mono ?_); rintro e w2 ⟨rfl, rfl⟩))
  all_goals (go_ret; refine ⟨rb ?_, ?_⟩)
  all_goals first
    | (rw [H.out]; simp [*])
    | exact HB2.out
    | exact below_drewN HB0.out nq
set_option maxHeartbeats 8000000 in
set_option maxRecDepth 100000 in
theorem part_5 (o vk vn : Int) (vs nm : List UInt8) (A : Option Addr) (n c : Nat) (slots : Bool) (w : World) (h : Signs w) (hvs : vs.length ≤ 1000000) (hnm : nm.length ≤ 1000000) :
    Calls Tryz.prog 69 #[exV 5 o vk vn (txt vs) (txt nm) A n c, .bool slots] w fun e w' => e = .returned (.bool (headB slots 5 o vk vn vs nm n)) ∧ Below w.heap.size w w' := by
  have hb := al (Below.refl w.heap.size w) (.cells #[.int .i64 5, .int .i64 o, .int .i64 vk, .int .i64 vn, .string (txt vs), .string (txt nm), .slice A n c] 26)
  have HB0 := Lib.hid hb
  have HS := Lib.hid (h.below hb h.lt)
  have e0 : ((txt nm).toList == []) = eB nm := txt_eq
  obtain ⟨z, hz⟩ : ∃ z, zB vk vn vs = z := ⟨_, rfl⟩
  obtain ⟨en, hen⟩ : ∃ en, eB nm = en := ⟨_, rfl⟩
  obtain ⟨eo, heo⟩ : ∃ eo, (o == 0) = eo := ⟨_, rfl⟩
  rw [hen] at e0
  have HZ := Lib.hid hz
  obtain ⟨zn, hzn⟩ : ∃ zn, ((n : Int) == 2) = zn := ⟨_, rfl⟩
  have H := Lib.hid (show headB slots 5 o vk vn vs nm n = (z && (en && (zn && inB o 1 14))) from by rw [head_5, hz, hen, ← hzn]; rfl)
  clear h hb hz hen
  unfold exV
  go_enter Tryz.func69, Tryz.ntmps69
  go_wp2
  refine wp_region_quiet_lit (by kernel_rfl) (by kernel_rfl) ?_
  repeat (first
    | (go_big_quiet_want; refine quiet_eqz _ _ rfl rfl rfl HZ.out ?_; go_big_quiet_on; simp only [Act.put, List.setIfInBounds_toArray, List.set_cons_zero, List.set_cons_succ])
    | go_big_quiet_step (fail))
  refine wpQuiet_nil ?_
  intro _ hw'
  obtain ⟨nq, hw''⟩ := hw'
  subst hw''
  go_wp2_with (first | (go_at_call 138; (with_reducible refine (within_any _ _ _ _).mono ?_); rintro e w2 ⟨rfl, rfl⟩))
  all_goals (go_ret; refine ⟨rb ?_, ?_⟩)
  all_goals first
    | (rw [H.out]; simp [*])
    | exact HB2.out
    | exact below_drewN HB0.out nq
set_option maxHeartbeats 8000000 in
set_option maxRecDepth 100000 in
theorem part_6 (o vk vn : Int) (vs nm : List UInt8) (A : Option Addr) (n c : Nat) (slots : Bool) (w : World) (h : Signs w) (hvs : vs.length ≤ 1000000) (hnm : nm.length ≤ 1000000) :
    Calls Tryz.prog 69 #[exV 6 o vk vn (txt vs) (txt nm) A n c, .bool slots] w fun e w' => e = .returned (.bool (headB slots 6 o vk vn vs nm n)) ∧ Below w.heap.size w w' := by
  have hb := al (Below.refl w.heap.size w) (.cells #[.int .i64 6, .int .i64 o, .int .i64 vk, .int .i64 vn, .string (txt vs), .string (txt nm), .slice A n c] 26)
  have HB0 := Lib.hid hb
  have HS := Lib.hid (h.below hb h.lt)
  have e0 : ((txt nm).toList == []) = eB nm := txt_eq
  obtain ⟨z, hz⟩ : ∃ z, zB vk vn vs = z := ⟨_, rfl⟩
  obtain ⟨en, hen⟩ : ∃ en, eB nm = en := ⟨_, rfl⟩
  obtain ⟨eo, heo⟩ : ∃ eo, (o == 0) = eo := ⟨_, rfl⟩
  rw [hen] at e0
  have HZ := Lib.hid hz
  have H := Lib.hid (show headB slots 6 o vk vn vs nm n = (eo && (z && (en && inB (n : Int) (2 : Nat) (9 : Nat)))) from by rw [head_6, heo, hz, hen])
  clear h hb hz hen
  unfold exV
  go_enter Tryz.func69, Tryz.ntmps69
  go_wp2
  refine wp_region_quiet_lit (by kernel_rfl) (by kernel_rfl) ?_
  repeat (first
    | (go_big_quiet_want; refine quiet_eqz _ _ rfl rfl rfl HZ.out ?_; go_big_quiet_on; simp only [Act.put, List.setIfInBounds_toArray, List.set_cons_zero, List.set_cons_succ])
    | go_big_quiet_step (fail))
  refine wpQuiet_nil ?_
  intro _ hw'
  obtain ⟨nq, hw''⟩ := hw'
  subst hw''
  go_wp2_with (first | (go_at_call 138; (with_reducible refine (within_any _ _ _ _).mono ?_); rintro e w2 ⟨rfl, rfl⟩))
  all_goals (go_ret; refine ⟨rb ?_, ?_⟩)
  all_goals first
    | (rw [H.out]; simp [*])
    | exact HB2.out
    | exact below_drewN HB0.out nq
set_option maxHeartbeats 8000000 in
set_option maxRecDepth 100000 in
theorem part_7 (o vk vn : Int) (vs nm : List UInt8) (A : Option Addr) (n c : Nat) (slots : Bool) (w : World) (h : Signs w) (hvs : vs.length ≤ 1000000) (hnm : nm.length ≤ 1000000) :
    Calls Tryz.prog 69 #[exV 7 o vk vn (txt vs) (txt nm) A n c, .bool slots] w fun e w' => e = .returned (.bool (headB slots 7 o vk vn vs nm n)) ∧ Below w.heap.size w w' := by
  have hb := al (Below.refl w.heap.size w) (.cells #[.int .i64 7, .int .i64 o, .int .i64 vk, .int .i64 vn, .string (txt vs), .string (txt nm), .slice A n c] 26)
  have HB0 := Lib.hid hb
  have HS := Lib.hid (h.below hb h.lt)
  have e0 : ((txt nm).toList == []) = eB nm := txt_eq
  obtain ⟨z, hz⟩ : ∃ z, zB vk vn vs = z := ⟨_, rfl⟩
  obtain ⟨en, hen⟩ : ∃ en, eB nm = en := ⟨_, rfl⟩
  obtain ⟨eo, heo⟩ : ∃ eo, (o == 0) = eo := ⟨_, rfl⟩
  rw [hen] at e0
  have HZ := Lib.hid hz
  have H := Lib.hid (show headB slots 7 o vk vn vs nm n = (eo && (z && takesB nm n)) from by rw [head_7, heo, hz])
  clear h hb hz hen
  unfold exV
  go_enter Tryz.func69, Tryz.ntmps69
  go_wp2
  refine wp_region_quiet_lit (by kernel_rfl) (by kernel_rfl) ?_
  repeat (first
    | (go_big_quiet_want; refine quiet_eqz _ _ rfl rfl rfl HZ.out ?_; go_big_quiet_on; simp only [Act.put, List.setIfInBounds_toArray, List.set_cons_zero, List.set_cons_succ])
    | go_big_quiet_step (fail))
  refine wpQuiet_nil ?_
  intro _ hw'
  obtain ⟨nq, hw''⟩ := hw'
  subst hw''
  go_wp2_with (first | (go_at_call 139; (with_reducible refine (takes_any nm n _).mono ?_); rintro e w2 ⟨rfl, rfl⟩))
  all_goals (go_ret; refine ⟨rb ?_, ?_⟩)
  all_goals first
    | (rw [H.out]; simp [*])
    | exact HB2.out
    | exact below_drewN HB0.out nq
set_option maxHeartbeats 8000000 in
set_option maxRecDepth 100000 in
theorem part_8 (o vk vn : Int) (vs nm : List UInt8) (A : Option Addr) (n c : Nat) (slots : Bool) (w : World) (h : Signs w) (hvs : vs.length ≤ 1000000) (hnm : nm.length ≤ 1000000) :
    Calls Tryz.prog 69 #[exV 8 o vk vn (txt vs) (txt nm) A n c, .bool slots] w fun e w' => e = .returned (.bool (headB slots 8 o vk vn vs nm n)) ∧ Below w.heap.size w w' := by
  have hb := al (Below.refl w.heap.size w) (.cells #[.int .i64 8, .int .i64 o, .int .i64 vk, .int .i64 vn, .string (txt vs), .string (txt nm), .slice A n c] 26)
  have HB0 := Lib.hid hb
  have HS := Lib.hid (h.below hb h.lt)
  have e0 : ((txt nm).toList == []) = eB nm := txt_eq
  obtain ⟨z, hz⟩ : ∃ z, zB vk vn vs = z := ⟨_, rfl⟩
  obtain ⟨en, hen⟩ : ∃ en, eB nm = en := ⟨_, rfl⟩
  obtain ⟨eo, heo⟩ : ∃ eo, (o == 0) = eo := ⟨_, rfl⟩
  rw [hen] at e0
  have HZ := Lib.hid hz
  obtain ⟨zn, hzn⟩ : ∃ zn, ((n : Int) == 0) = zn := ⟨_, rfl⟩
  have H := Lib.hid (show headB slots 8 o vk vn vs nm n = (slots && (z && (en && (zn && inB o 0 5)))) from by rw [head_8, hz, hen, ← hzn]; rfl)
  clear h hb hz hen
  unfold exV
  go_enter Tryz.func69, Tryz.ntmps69
  go_wp2
  refine wp_region_quiet_lit (by kernel_rfl) (by kernel_rfl) ?_
  repeat (first
    | (go_big_quiet_want; refine quiet_eqz _ _ rfl rfl rfl HZ.out ?_; go_big_quiet_on; simp only [Act.put, List.setIfInBounds_toArray, List.set_cons_zero, List.set_cons_succ])
    | go_big_quiet_step (fail))
  refine wpQuiet_nil ?_
  intro _ hw'
  obtain ⟨nq, hw''⟩ := hw'
  subst hw''
  go_wp2_with (first | (go_at_call 138; (with_reducible refine (within_any _ _ _ _).mono ?_); rintro e w2 ⟨rfl, rfl⟩))
  all_goals (go_ret; refine ⟨rb ?_, ?_⟩)
  all_goals first
    | (rw [H.out]; simp [*])
    | exact HB2.out
    | exact below_drewN HB0.out nq
set_option maxHeartbeats 8000000 in
set_option maxRecDepth 100000 in
theorem part_no (k o vk vn : Int) (vs nm : List UInt8) (A : Option Addr) (n c : Nat) (slots : Bool) (w : World) (h : Signs w) (hvs : vs.length ≤ 1000000) (hnm : nm.length ≤ 1000000) (h1 : k ≠ 1) (h2 : k ≠ 2) (h3 : k ≠ 3) (h4 : k ≠ 4) (h5 : k ≠ 5) (h6 : k ≠ 6) (h7 : k ≠ 7) (h8 : k ≠ 8) :
    Calls Tryz.prog 69 #[exV k o vk vn (txt vs) (txt nm) A n c, .bool slots] w fun e w' => e = .returned (.bool (headB slots k o vk vn vs nm n)) ∧ Below w.heap.size w w' := by
  have hb := al (Below.refl w.heap.size w) (.cells #[.int .i64 k, .int .i64 o, .int .i64 vk, .int .i64 vn, .string (txt vs), .string (txt nm), .slice A n c] 26)
  have HB0 := Lib.hid hb
  have HS := Lib.hid (h.below hb h.lt)
  have e0 : ((txt nm).toList == []) = eB nm := txt_eq
  obtain ⟨z, hz⟩ : ∃ z, zB vk vn vs = z := ⟨_, rfl⟩
  obtain ⟨en, hen⟩ : ∃ en, eB nm = en := ⟨_, rfl⟩
  obtain ⟨eo, heo⟩ : ∃ eo, (o == 0) = eo := ⟨_, rfl⟩
  rw [hen] at e0
  have HZ := Lib.hid hz
  have H := Lib.hid (show headB slots k o vk vn vs nm n = (false) from by exact head_no h1 h2 h3 h4 h5 h6 h7 h8)
  have k1 : (k == 1) = false := beq_no h1
  have k2 : (k == 2) = false := beq_no h2
  have k3 : (k == 3) = false := beq_no h3
  have k4 : (k == 4) = false := beq_no h4
  have k5 : (k == 5) = false := beq_no h5
  have k6 : (k == 6) = false := beq_no h6
  have k7 : (k == 7) = false := beq_no h7
  have k8 : (k == 8) = false := beq_no h8
  clear h hb hz hen heo h1 h2 h3 h4 h5 h6 h7 h8
  unfold exV
  go_enter Tryz.func69, Tryz.ntmps69
  go_wp2
  refine wp_region_quiet_lit (by kernel_rfl) (by kernel_rfl) ?_
  repeat (first
    | (go_big_quiet_want; refine quiet_eqz _ _ rfl rfl rfl HZ.out ?_; go_big_quiet_on; simp only [Act.put, List.setIfInBounds_toArray, List.set_cons_zero, List.set_cons_succ])
    | go_big_quiet_step (fail))
  refine wpQuiet_nil ?_
  intro _ hw'
  obtain ⟨nq, hw''⟩ := hw'
  subst hw''
  go_wp2
  go_ret
  exact ⟨rb H.out.symm, below_drewN HB0.out nq⟩
theorem isRight_any (k o vk vn : Int) (vs nm : List UInt8) (A : Option Addr) (n c : Nat) (slots : Bool) (w : World) (h : Signs w) (hvs : vs.length ≤ 1000000) (hnm : nm.length ≤ 1000000) :
    Calls Tryz.prog 69 #[exV k o vk vn (txt vs) (txt nm) A n c, .bool slots] w fun e w' => e = .returned (.bool (headB slots k o vk vn vs nm n)) ∧ Below w.heap.size w w' := by
  by_cases h1 : k = 1
  · subst h1; exact part_1 o vk vn vs nm A n c slots w h hvs hnm
  by_cases h2 : k = 2
  · subst h2; exact part_2 o vk vn vs nm A n c slots w h hvs hnm
  by_cases h3 : k = 3
  · subst h3; exact part_3 o vk vn vs nm A n c slots w h hvs hnm
  by_cases h4 : k = 4
  · subst h4; exact part_4 o vk vn vs nm A n c slots w h hvs hnm
  by_cases h5 : k = 5
  · subst h5; exact part_5 o vk vn vs nm A n c slots w h hvs hnm
  by_cases h6 : k = 6
  · subst h6; exact part_6 o vk vn vs nm A n c slots w h hvs hnm
  by_cases h7 : k = 7
  · subst h7; exact part_7 o vk vn vs nm A n c slots w h hvs hnm
  by_cases h8 : k = 8
  · subst h8; exact part_8 o vk vn vs nm A n c slots w h hvs hnm
  exact part_no k o vk vn vs nm A n c slots w h hvs hnm h1 h2 h3 h4 h5 h6 h7 h8
end Go.Proofs.YtbdippgamlknbaaGreatDoor.Ep
namespace Go.Proofs.YtbdippgamlknbaaGreatDoor.Mem
open Go.RowKit
set_option linter.unusedVariables false
/-- Below p nothing turns, and above it nothing that was there. -/
def Oth (p : Nat) (w w' : World) : Prop := Below p w w' ∧ ∀ b, b < w.heap.size → b ≠ p → w'.heap[b]? = w.heap[b]?
section
variable {p : Nat} {w a b : World}
theorem Oth.refl (p : Nat) (w : World) : Oth p w w := ⟨Below.refl _ _, fun _ _ _ => rfl⟩
theorem Oth.trans (h : Oth p w a) (k : Oth p a b) : Oth p w b :=
  ⟨h.1.trans k.1, fun c hc hp => (k.2 c (Nat.lt_of_lt_of_le hc h.1.size) hp).trans (h.2 c hc hp)⟩
theorem Oth.alloc (h : Oth p w a) (hp : p ≤ a.heap.size) (o : Obj) : Oth p w (a.alloc o) :=
  ⟨h.1.alloc hp o, fun c hc hcp => (Below.heap_alloc a o c (Nat.lt_of_lt_of_le hc h.1.size)).trans (h.2 c hc hcp)⟩
theorem Oth.set (h : Oth p w a) (i : Nat) (v : Value) : Oth p w (a.setCell ⟨p, i, none⟩ v) :=
  ⟨h.1.setCell (Nat.le_refl _) v, fun c hc hcp => (Below.heap_setCell a ⟨p, i, none⟩ v c hcp).trans (h.2 c hc hcp)⟩
theorem Oth.of (h : Below w.heap.size w a) (hp : p ≤ w.heap.size) : Oth p w a := ⟨h.mono hp, fun c hc _ => h.block c hc⟩
theorem Oth.cel {B : Nat} {t : TypeId} {cs : Array Value} (h : Oth p w a) (hB : B ≠ p) (hc : Cel w B t cs) : Cel a B t cs := (h.2 B hc.lt hB).trans hc
end
end Go.Proofs.YtbdippgamlknbaaGreatDoor.Mem
namespace Go.Proofs.YtbdippgamlknbaaGreatDoor.Ep
open Go.RowKit Go.Proofs.YtbdippgamlknbaaGreatDoor.Mem Go.Proofs.YtbdippgamlknbaaGreatDoor.Right
set_option linter.unusedVariables false
abbrev tI : TypeId := 3
abbrev tE : TypeId := 26
mutual
/-- No text in it is longer than a machine can walk in one sitting. -/
def Lim : Ex → Prop
  | .mk _ _ _ _ vs nm kids => vs.length ≤ 1000000 ∧ nm.length ≤ 1000000 ∧ LimL kids
def LimL : List Ex → Prop
  | [] => True
  | x :: l => Lim x ∧ LimL l
end
theorem limL_iff : ∀ {l : List Ex}, LimL l ↔ ∀ x ∈ l, Lim x
  | [] => by rw [LimL]; simp
  | x :: l => by rw [LimL, limL_iff]; simp
theorem lim_mk (k o vk vn : Int) (vs nm : List UInt8) (kids : List Ex) : Lim (.mk k o vk vn vs nm kids) ↔ vs.length ≤ 1000000 ∧ nm.length ≤ 1000000 ∧ ∀ x ∈ kids, Lim x := by rw [Lim, limL_iff]
mutual
theorem cnt_lim : ∀ {e : Ex} {n m : Nat}, cnt e n = some m → Lim e
  | .mk k o vk vn vs nm kids, n, m, h => by
    rw [cnt] at h
    split at h
    · cases h
    · rename_i h0
      rw [Lim]
      exact ⟨by omega, by omega, cntL_lim h⟩
theorem cntL_lim : ∀ {l : List Ex} {n m : Nat}, cntL l n = some m → LimL l
  | [], n, m, h => by rw [LimL]; trivial
  | x :: l, n, m, h => by
    rw [cntL] at h
    split at h
    · cases h
    · rename_i m' e
      rw [LimL]
      exact ⟨cnt_lim e, cntL_lim h⟩
end
theorem rightL_snoc {slots : Bool} : ∀ (l : List Ex) (x : Ex), rightL slots (l ++ [x]) = (rightL slots l && rightB slots x)
  | [], x => by simp [rightL]
  | y :: l, x => by rw [List.cons_append, rightL, rightL, rightL_snoc l x, Bool.and_assoc]
end Go.Proofs.YtbdippgamlknbaaGreatDoor.Ep
