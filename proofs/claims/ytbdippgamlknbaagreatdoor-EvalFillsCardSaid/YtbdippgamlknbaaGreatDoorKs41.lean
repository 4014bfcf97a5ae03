/- Are two trees one: the document's answer (registrarref10.Same, SameList). The law: values in the place of parameters, as the document says: the walk. -/
import Derived.Deep.CutRange
import Derived.Test.YtbdippgamlknbaaGreatDoorKs06
import Derived.Test.YtbdippgamlknbaaGreatDoorKs21
import Derived.Deep.RegionHeld3
import Derived.Test.YtbdippgamlknbaaGreatDoorKs31
import Derived.Test.YtbdippgamlknbaaGreatDoorKs05
import Derived.Test.YtbdippgamlknbaaGreatDoorKs40
import Derived.Test.YtbdippgamlknbaaGreatDoorKs25
import Derived.Test.YtbdippgamlknbaaGreatDoorKs26
import Derived.Test.YtbdippgamlknbaaGreatDoorKs01
namespace Go.Proofs.YtbdippgamlknbaaGreatDoor.Ep
open Go.RowKit Go.Proofs.YtbdippgamlknbaaGreatDoor.Mem Go.Proofs.YtbdippgamlknbaaGreatDoor.Right
set_option linter.unusedVariables false
theorem same_mk (k o vk vn : Int) (vs nm : List UInt8) (kids : List Ex) (k' o' vk' vn' : Int) (vs' nm' : List UInt8) (kids' : List Ex) :
    sameB (.mk k o vk vn vs nm kids) (.mk k' o' vk' vn' vs' nm' kids') = (decide (k = k' ∧ o = o' ∧ (vk = vk' ∧ vn = vn' ∧ vs = vs') ∧ nm = nm') && sameL kids kids') := by rw [sameB]
theorem sameL_take {l m : List Ex} {j : Nat} {x y : Ex} (hl : l.length = m.length) (hx : l[j]? = some x) (hy : m[j]? = some y) : sameL (l.drop j) (m.drop j) = (sameB x y && sameL (l.drop (j + 1)) (m.drop (j + 1))) := by
  rw [drop_kid hx, drop_kid hy, sameL]
theorem sameL_len : ∀ {l m : List Ex}, l.length ≠ m.length → sameL l m = false
  | [], [], h => absurd rfl h
  | x :: l, [], _ => by rw [sameL] <;> simp
  | [], y :: m, _ => by rw [sameL] <;> simp
  | x :: l, y :: m, h => by
    rw [sameL, sameL_len (l := l) (m := m) (by simpa using h), Bool.and_false]
/-- What is asked of a function that tells whether two trees are one. -/
def SameC (f : FuncId) (x : Ex) : Prop := ∀ (y : Ex) (cs ds : List Value) (w : World), ExAt w w.heap.size x cs → ExAt w w.heap.size y ds →
  Calls Tryz.prog f #[.agg cs.toArray, .agg ds.toArray] w fun e w' => e = .returned (.bool (sameB x y)) ∧ Below w.heap.size w w'
set_option maxHeartbeats 4000000 in
theorem refList_of (l : List Ex) (ih : ∀ x ∈ l, SameC 12 x) (m : List Ex) (A C : Option Addr) (ca cc : Nat) (w : World) (hmx : l.length ≤ maxLen) (h1 : KidsIn w (fun b => b < w.heap.size) A 0 l) (h2 : KidsIn w (fun b => b < w.heap.size) C 0 m) :
    Calls Tryz.prog 46 #[.slice A l.length ca, .slice C m.length cc] w fun e w' => e = .returned (.bool (sameL l m)) ∧ Below w.heap.size w w' := by
  unfold maxLen at hmx
  obtain ⟨n, hn⟩ : ∃ n, l.length = n := ⟨_, rfl⟩
  obtain ⟨n', hn'⟩ : ∃ n, m.length = n := ⟨_, rfl⟩
  rw [hn] at hmx
  rw [hn, hn']
  by_cases hnn : n = n'
  case neg =>
    have t : ((n : Int) != (n' : Int)) = true := bne_yes (by omega)
    have HL := Lib.hid (show sameL l m = false from sameL_len (by omega))
    clear ih h1 h2 hn hn' hnn
    go_enter Tryz.func46, Tryz.ntmps46
    go_wp2
    go_ret
    exact ⟨rb HL.out.symm, Below.refl _ _⟩
  subst hnn
  have t : ((n : Int) != (n : Int)) = false := by simp
  have HK := Lib.hid h1
  have HM := Lib.hid h2
  have HN := Lib.hid hn
  have HN2 := Lib.hid hn'
  have HI := Lib.hid ih
  clear ih h1 h2 hn hn'
  go_enter Tryz.func46, Tryz.ntmps46
  go_wp2
  go_loopw [5] (fun i wr => ∃ j : Nat, j ≤ n ∧ i = .int .i64 (j : Int) ∧ Hid (sameL l m = sameL (l.drop j) (m.drop j)) ∧ Hid (Below w.heap.size w wr)) (fun i _ => n + 1 - (intOf i).toNat)
  case atStart => exact ⟨0, Nat.zero_le _, rfl, Lib.hid (by rw [List.drop_zero, List.drop_zero]), Lib.hid (Below.refl _ _)⟩
  case round =>
    obtain ⟨j, hj, rfl, HL, HB⟩ := hrel
    by_cases hlt : j < n
    · obtain ⟨x, hx⟩ := kid_some (l := l) (j := j) (by have := HN.out; omega)
      obtain ⟨y, hy⟩ := kid_some (l := m) (j := j) (by have := HN2.out; omega)
      have hst := sameL_take (by rw [HN.out, HN2.out]) hx hy
      have hxm := HI.out x (kid_mem hx)
      obtain ⟨k1, o1, vk1, vn1, vs1, nm1, ks1, A1, n1, c1, b1, z1, e1, rfl, hb1, hn1, c0, c1', c2, c3, c4, c5, c6, hin1⟩ := kid_at HK.out hx
      obtain ⟨k2, o2, vk2, vn2, vs2, nm2, ks2, A2, n2, c2', b2, z2, e2, rfl, hb2, hn2, d0, d1, d2, d3, d4, d5, d6, hin2⟩ := kid_at HM.out hy
      obtain ⟨q, hq⟩ : ∃ q, sameB x y = q := ⟨_, rfl⟩
      have HI2 := Lib.hid (show ∀ W, Below wr.heap.size wr W → Calls Tryz.prog 12 #[exV k1 o1 vk1 vn1 (txt vs1) (txt nm1) A1 n1 c1, exV k2 o2 vk2 vn2 (txt vs2) (txt nm2) A2 n2 c2'] W fun e w' => e = .returned (.bool q) ∧ Below W.heap.size W w' from fun W hW => by
        rw [← hq]
        exact hxm y _ _ W (ExAt.on hin1 (Mem.on HB.out hW)) (ExAt.on hin2 (Mem.on HB.out hW)))
      rw [hst, hq] at HL
      have HX := Lib.hid (show ∀ W, Below wr.heap.size wr W → (W.cell? ⟨b1, z1 + j * 7, none⟩ = some (.int .i64 k1) ∧ W.cell? ⟨b1, z1 + j * 7 + 1, none⟩ = some (.int .i64 o1) ∧ W.cell? ⟨b1, z1 + j * 7 + 2, none⟩ = some (.int .i64 vk1) ∧ W.cell? ⟨b1, z1 + j * 7 + 3, none⟩ = some (.int .i64 vn1) ∧ W.cell? ⟨b1, z1 + j * 7 + 4, none⟩ = some (.string (txt vs1)) ∧ W.cell? ⟨b1, z1 + j * 7 + 5, none⟩ = some (.string (txt nm1)) ∧ W.cell? ⟨b1, z1 + j * 7 + 6, none⟩ = some (.slice A1 n1 c1)) ∧
          (W.cell? ⟨b2, z2 + j * 7, none⟩ = some (.int .i64 k2) ∧ W.cell? ⟨b2, z2 + j * 7 + 1, none⟩ = some (.int .i64 o2) ∧ W.cell? ⟨b2, z2 + j * 7 + 2, none⟩ = some (.int .i64 vk2) ∧ W.cell? ⟨b2, z2 + j * 7 + 3, none⟩ = some (.int .i64 vn2) ∧ W.cell? ⟨b2, z2 + j * 7 + 4, none⟩ = some (.string (txt vs2)) ∧ W.cell? ⟨b2, z2 + j * 7 + 5, none⟩ = some (.string (txt nm2)) ∧ W.cell? ⟨b2, z2 + j * 7 + 6, none⟩ = some (.slice A2 n2 c2')) from fun W hW => by
        have hw := Mem.on HB.out hW
        exact ⟨⟨(hw.cell hb1).trans c0, (hw.cell hb1).trans c1', (hw.cell hb1).trans c2, (hw.cell hb1).trans c3, (hw.cell hb1).trans c4, (hw.cell hb1).trans c5, (hw.cell hb1).trans c6⟩, (hw.cell hb2).trans d0, (hw.cell hb2).trans d1, (hw.cell hb2).trans d2, (hw.cell hb2).trans d3, (hw.cell hb2).trans d4, (hw.cell hb2).trans d5, (hw.cell hb2).trans d6⟩)
      have tl : decide ((j : Int) < (n : Int)) = true := decide_eq_true (by omega)
      have lt1 : j < n := hlt
      clear hin1 hin2 hx hy hst hxm hq c0 c1' c2 c3 c4 c5 c6 d0 d1 d2 d3 d4 d5 d6 hn1 hn2
      clear e1 e2
      go_upto_region 6 with fail
      refine wp_region_quiet (C := fun w' => Below wr.heap.size wr w') (by kernel_rfl) (by kernel_rfl) (Below.refl _ _).drew ?_
      repeat (first | go_big_quiet_skip | (refine BigFrame.wpQuiet_want rfl (fun K hK => ?_); refine quietC_val ?_; apply Exists.intro; refine ⟨fun W hW => ?_, hK _ ?_⟩; (focus (obtain ⟨⟨c0, c1', c2, c3, c4, c5, c6⟩, d0, d1, d2, d3, d4, d5, d6⟩ := HX.out W hW; go_simp; first | done | rfl)); clear hK K; simp only [Act.put, List.setIfInBounds_toArray, List.set_cons_zero, List.set_cons_succ]) | (quiet_step ((intro hW; first | (go_at_call 12; exact ((HI2.out _ hW).mono fun _ _ ⟨a, b⟩ => ⟨a, Mem.on hW b⟩))))))
      refine wpQuiet_nil ?_
      intro W9 hw9
      have HW9 := Lib.hid hw9
      clear hw9
      cases q with
      | true =>
        go_wp2
        go_roundw
        case rel => exact ⟨j + 1, by omega, by go_num, Lib.hid (by rw [HL.out]; rfl), Lib.hid (Mem.on HB.out HW9.out)⟩
        case measure => simp [intOf]; omega
      | false =>
        go_wp2
        go_ret
        exact ⟨rb (by rw [HL.out]; rfl), Mem.on HB.out HW9.out⟩
    · have tl : decide ((j : Int) < (n : Int)) = false := decide_eq_false (by omega)
      have hd : sameL (l.drop j) (m.drop j) = true := by
        rw [List.drop_eq_nil_of_le (by have := HN.out; omega), List.drop_eq_nil_of_le (by have := HN2.out; omega), sameL]
      go_wp2
      go_ret
      exact ⟨rb (by rw [HL.out, hd]), HB.out⟩
/-- The leaves' facts: two texts, unlike. -/
theorem txt_ne {l m : List UInt8} (h : l ≠ m) : ¬ (txt l).toList = (txt m).toList ∧ ¬ txt l = txt m ∧ ((txt l).toList == (txt m).toList) = false := by
  have h1 : ¬ (txt l).toList = (txt m).toList := fun e => h (by rw [Lib.toList_data, Lib.toList_data, txt_back, txt_back] at e; exact e)
  have h2 : ¬ txt l = txt m := fun e => h1 (by rw [e])
  exact ⟨h1, h2, beq_eq_false_iff_ne.2 h1⟩
set_option maxHeartbeats 4000000 in
theorem refSame_any : ∀ (x : Ex), SameC 12 x := by
  refine Ex.byKids fun k o vk vn vs nm kids ih y cs ds w h1 h2 => ?_
  obtain ⟨A, n, c, rfl, hn, hnc, hcm, -, hk1⟩ := ex_open h1
  obtain ⟨k', o', vk', vn', vs', nm', kids'⟩ := y
  obtain ⟨A', n', c', rfl, hn', -, -, -, hk2⟩ := ex_open h2
  rw [same_mk]
  obtain ⟨r, hr⟩ : ∃ r, (decide (k = k' ∧ o = o' ∧ (vk = vk' ∧ vn = vn' ∧ vs = vs') ∧ nm = nm') && sameL kids kids') = r := ⟨_, rfl⟩
  rw [hr]
  have HR := Lib.hid hr
  clear hr
  obtain ⟨W, hW⟩ : ∃ W, (w.alloc (.cells #[.int .i64 k, .int .i64 o, .int .i64 vk, .int .i64 vn, .string (txt vs), .string (txt nm), .slice A n c] 26)).alloc (.cells #[.int .i64 k', .int .i64 o', .int .i64 vk', .int .i64 vn', .string (txt vs'), .string (txt nm'), .slice A' n' c'] 26) = W := ⟨_, rfl⟩
  have hb : Below w.heap.size w W := by rw [← hW]; exact al (al (Below.refl _ _) _) _
  have x1 : Cel W w.heap.size 26 #[.int .i64 k, .int .i64 o, .int .i64 vk, .int .i64 vn, .string (txt vs), .string (txt nm), .slice A n c] := by rw [← hW]; exact (Cel.new w _ _ rfl).alloc _
  have x2 : Cel W (w.heap.size + 1) 26 #[.int .i64 k', .int .i64 o', .int .i64 vk', .int .i64 vn', .string (txt vs'), .string (txt nm'), .slice A' n' c'] := by rw [← hW]; exact Cel.new _ _ _ (by simp)
  have HB := Lib.hid hb
  have HL := Lib.hid (show Calls Tryz.prog 46 #[.slice A n c, .slice A' n' c'] W fun e w' => e = .returned (.bool (sameL kids kids')) ∧ Below W.heap.size W w' from by
    rw [hn, hn']
    exact refList_of kids ih kids' A A' c c' W (by omega) (KidsIn.to (fun b h => Nat.lt_of_lt_of_le h hb.size) (fun p hp => hb.cell hp) hk1) (KidsIn.to (fun b h => Nat.lt_of_lt_of_le h hb.size) (fun p hp => hb.cell hp) hk2))
  have c0 := x1.at_ 0
  have c1 := x1.at_ 1
  have c2 := x1.at_ 2
  have c3 := x1.at_ 3
  have c4 := x1.at_ 4
  have c5 := x1.at_ 5
  have c6 := x1.at_ 6
  have d0 := x2.at_ 0
  have d1 := x2.at_ 1
  have d2 := x2.at_ 2
  have d3 := x2.at_ 3
  have d4 := x2.at_ 4
  have d5 := x2.at_ 5
  have d6 := x2.at_ 6
  clear h1 h2 hk1 hk2 x1 x2 ih hb hn hn' hnc hcm
  by_cases e0 : k = k'
  case neg =>
    have t1 : (k != k') = true := bne_yes e0
    have HF := Lib.hid (show false = r from by have := HR.out; rw [decide_eq_false (fun g => e0 g.1), Bool.false_and] at this; exact this)
    go_enter Tryz.func12, Tryz.ntmps12
    go_wp2
    go_ret
    exact ⟨rb HF.out, HB.out⟩
  subst e0
  by_cases e0 : o = o'
  case neg =>
    have t1 : (o != o') = true := bne_yes e0
    have HF := Lib.hid (show false = r from by have := HR.out; rw [decide_eq_false (fun g => e0 g.2.1), Bool.false_and] at this; exact this)
    go_enter Tryz.func12, Tryz.ntmps12
    go_wp2
    go_ret
    exact ⟨rb HF.out, HB.out⟩
  subst e0
  by_cases e0 : vk = vk'
  case neg =>
    have HF := Lib.hid (show false = r from by have := HR.out; rw [decide_eq_false (fun g => e0 g.2.2.1.1), Bool.false_and] at this; exact this)
    go_enter Tryz.func12, Tryz.ntmps12
    go_wp2
    go_ret
    exact ⟨rb HF.out, HB.out⟩
  subst e0
  by_cases e0 : vn = vn'
  case neg =>
    have HF := Lib.hid (show false = r from by have := HR.out; rw [decide_eq_false (fun g => e0 g.2.2.1.2.1), Bool.false_and] at this; exact this)
    go_enter Tryz.func12, Tryz.ntmps12
    go_wp2
    go_ret
    exact ⟨rb HF.out, HB.out⟩
  subst e0
  by_cases e0 : vs = vs'
  case neg =>
    obtain ⟨t3, t4, t5⟩ := txt_ne e0
    have HF := Lib.hid (show false = r from by have := HR.out; rw [decide_eq_false (fun g => e0 g.2.2.1.2.2), Bool.false_and] at this; exact this)
    go_enter Tryz.func12, Tryz.ntmps12
    go_wp2
    go_ret
    exact ⟨rb HF.out, HB.out⟩
  subst e0
  by_cases e0 : nm = nm'
  case neg =>
    obtain ⟨t3, t4, t5⟩ := txt_ne e0
    have HF := Lib.hid (show false = r from by have := HR.out; rw [decide_eq_false (fun g => e0 g.2.2.2), Bool.false_and] at this; exact this)
    go_enter Tryz.func12, Tryz.ntmps12
    go_wp2
    go_ret
    exact ⟨rb HF.out, HB.out⟩
  subst e0
  have HF := Lib.hid (show sameL kids kids' = r from by have := HR.out; rw [decide_eq_true ⟨rfl, rfl, ⟨rfl, rfl, rfl⟩, rfl⟩, Bool.true_and] at this; exact this)
  go_enter Tryz.func12, Tryz.ntmps12
  go_wp2_with (go_at_call 46; (with_reducible refine HL.out.mono ?_); rintro e' w2 ⟨rfl, hb2⟩; have HB2 := Lib.hid (Mem.on HB.out hb2); clear hb2)
  go_ret
  exact ⟨rb HF.out, HB2.out⟩
end Go.Proofs.YtbdippgamlknbaaGreatDoor.Ep
namespace Go.Proofs.YtbdippgamlknbaaGreatDoor.Eo
open Go.RowKit Go.Proofs.YtbdippgamlknbaaGreatDoor.Mem Go.Proofs.YtbdippgamlknbaaGreatDoor.Right Go.Proofs.YtbdippgamlknbaaGreatDoor.Lx Go.Proofs.YtbdippgamlknbaaGreatDoor.Ep Go.Proofs.YtbdippgamlknbaaGreatDoor.Ev Go.Proofs.YtbdippgamlknbaaGreatDoor.Tk
set_option linter.unusedVariables false
set_option linter.unusedSimpArgs false
set_option maxRecDepth 100000 in
set_option maxHeartbeats 8000000 in
theorem walk_fills (cs : List Value) (e : Ex) (A1 : Option Addr) (n1 c1 : Nat) (vs1 : List Vl) (w : World) (hx : ExAt w w.heap.size e cs) (hf : Fine e) (hn1 : n1 ≤ vs1.length) (hn1' : vs1.length ≤ n1) (hm1 : n1 ≤ 9223372036854775807) (hv1 : Vals w w.heap.size A1 vs1) (hb1 : ∀ v ∈ vs1, (-9223372036854775808 ≤ v.n ∧ v.n ≤ 9223372036854775807) ∧ v.s.size ≤ maxLen) (hS : Signs w) :
    Calls Tryz.prog 3 #[.agg cs.toArray, .slice A1 n1 c1] w fun x w' => x = .returned (.bool true) ∧ Below w.heap.size w w' := by
  have h7 := hx
  obtain ⟨k, o, vk, vn, vs, nm, kids⟩ := e
  obtain ⟨B, kn, kc, rfl, -⟩ := ex_open h7
  obtain ⟨e, he⟩ : ∃ e, Ex.mk k o vk vn vs nm kids = e := ⟨_, rfl⟩
  rw [he] at hx hf
  obtain ⟨V, hV⟩ : ∃ V, (w.alloc (.cells #[.int .i64 k, .int .i64 o, .int .i64 vk, .int .i64 vn, .string (txt vs), .string (txt nm), .slice B kn kc] 26)).alloc (.cells #[.slice A1 n1 c1] 27) = V := ⟨_, rfl⟩
  have HBV := Lib.hid (show Below w.heap.size w V from by rw [← hV]; exact al (al (Below.refl _ _) _) _)
  have HEC := Lib.hid (show Cel V (w.heap.size) 26 #[.int .i64 k, .int .i64 o, .int .i64 vk, .int .i64 vn, .string (txt vs), .string (txt nm), .slice B kn kc] from by rw [← hV]; exact ((Cel.new w _ _ rfl).alloc _))
  have HLC := Lib.hid (show Cel V (w.heap.size + 1) 27 #[.slice A1 n1 c1] from by rw [← hV]; exact (Cel.new (w.alloc _) _ _ (by simp)))
  have HX := Lib.hid (show ExAt V V.heap.size e _ from ExAt.on hx HBV.out)
  have HS := Lib.hid (hS.below HBV.out hS.lt)
  have HV1 := Lib.hid (show Vals V V.heap.size A1 vs1 from (hv1.below HBV.out (Nat.le_refl _)).more HBV.out.size)
  have HN1 := Lib.hid (show n1 = vs1.length from by omega)
  have HD1 := Lib.hid hb1
  have HFE := Lib.hid (few_lists [⟨A1, n1, c1, vs1⟩] (w.heap.size + 1) 1 1 V rfl (by omega) (fun i s hs => by
    match i, hs with
    | 0, hs => injection hs with hs; subst hs; exact ⟨HLC.out.at_ 0, HV1.out, HN1.out, hm1, fun v hv => (hb1 v hv).2⟩))
  have HW := Lib.hid (show ∀ W, Below V.heap.size V W → Calls Tryz.prog 9 #[] W fun x w' => x = .returned (.bool true) ∧ Below W.heap.size W w' from fun W hW => works_any W (HS.out.below hW HS.out.lt))
  have y0 := HEC.out.at_ 0
  have y1 := HEC.out.at_ 1
  have y2 := HEC.out.at_ 2
  have y3 := HEC.out.at_ 3
  have y4 := HEC.out.at_ 4
  have y5 := HEC.out.at_ 5
  have y6 := HEC.out.at_ 6
  clear hx hf hn1 hn1' hm1 hv1 hb1 hS h7 he
  go_enter Tryz.func3, Tryz.ntmps3
  go_wp2_with (fail)
  go_at_call 7
  with_reducible refine HFE.out.mono ?_
  rintro e1 w1 ⟨r, rfl, hr, rfl⟩
  have HR := Lib.hid hr
  clear hr HFE
  cases r with
  | false =>
    go_wp2_with (go_at_call 9; (with_reducible refine (HW.out _ (Below.refl _ _)).mono ?_); rintro e3 w3 ⟨rfl, hb3⟩; have HB3 := Lib.hid (Mem.on HBV.out hb3); clear hb3)
    go_ret
    exact ⟨rfl, HB3.out⟩
  | true =>
  have hq1 : FewL ⟨A1, n1, c1, vs1⟩ := HR.out rfl _ (by simp)
  have h12 : n1 ≤ 12 := hq1.1
  have HFW := Lib.hid (show Calls Tryz.prog 8 #[.agg #[.int .i64 k, .int .i64 o, .int .i64 vk, .int .i64 vn, .string (txt vs), .string (txt nm), .slice B kn kc], .int .i64 60] V fun x w' => x = .returned (.bool (cnt e 60).isSome) ∧ Below V.heap.size V w' from few_any e _ 60 V HX.out (by omega))
  clear hq1 HR
  go_wp2_with (fail)
  go_at_call 8
  with_reducible refine HFW.out.mono ?_
  rintro e2 w2 ⟨rfl, hb2⟩
  have HB2 := Lib.hid hb2
  clear hb2 HFW
  cases hc : cnt e 60 with
  | none =>
    simp only [Option.isSome_none]
    clear hc
    go_wp2_with (go_at_call 9; (with_reducible refine (HW.out _ HB2.out).mono ?_); rintro e3 w3 ⟨rfl, hb3⟩; have HB3 := Lib.hid (Mem.on HBV.out (Mem.on HB2.out hb3)); clear hb3)
    go_ret
    exact ⟨rfl, HB3.out⟩
  | some z =>
  simp only [Option.isSome_some]
  have HLM := Lib.hid (cnt_lim hc)
  have hz60 : size e ≤ 1000 := by have := cnt_size hc; omega
  obtain ⟨⟨X, f⟩, hX⟩ : ∃ R, fillT (vs1.map vv) e = R := ⟨_, rfl⟩
  have HFI := Lib.hid (show ∀ W, Below V.heap.size V W → Calls Tryz.prog 10 #[.agg #[.int .i64 k, .int .i64 o, .int .i64 vk, .int .i64 vn, .string (txt vs), .string (txt nm), .slice B kn kc], .slice A1 n1 c1] W (TreV W (X, f)) from fun W hW => by
    rw [← hX]
    exact evFill_any ((HV1.out.below hW (Nat.le_refl _)).more hW.size) HN1.out (by omega) HD1.out (ExAt.on HX.out hW) (HS.out.below hW HS.out.lt) HLM.out hz60)
  have HRI := Lib.hid (show ∀ W, Below V.heap.size V W → Calls Tryz.prog 11 #[.agg #[.int .i64 k, .int .i64 o, .int .i64 vk, .int .i64 vn, .string (txt vs), .string (txt nm), .slice B kn kc], .slice A1 n1 c1] W (TreV W (X, f)) from fun W hW => by
    rw [← hX]
    exact refFill_any ((HV1.out.below hW (Nat.le_refl _)).more hW.size) HN1.out (by omega) HD1.out (ExAt.on HX.out hW) HLM.out hz60)
  have HSM := Lib.hid (show ∀ (W : World) (cs ds : List Value), ExAt W W.heap.size X cs → ExAt W W.heap.size X ds → Calls Tryz.prog 12 #[.agg cs.toArray, .agg ds.toArray] W fun x w' => x = .returned (.bool true) ∧ Below W.heap.size W w' from fun W cs ds h1 h2 => by
    have := refSame_any X X cs ds W h1 h2
    rwa [sameB_iff.2 rfl] at this)
  clear hX hc y0 y1 y2 y3 y4 y5 y6
  have t4 : (f == f) = true := by simp
  have u0 := (HEC.out.below HB2.out).at_ 0
  have u1 := (HEC.out.below HB2.out).at_ 1
  have u2 := (HEC.out.below HB2.out).at_ 2
  have u3 := (HEC.out.below HB2.out).at_ 3
  have u4 := (HEC.out.below HB2.out).at_ 4
  have u5 := (HEC.out.below HB2.out).at_ 5
  have u6 := (HEC.out.below HB2.out).at_ 6
  go_wp2_with (first
    | (go_at_call 10; (with_reducible refine (HFI.out _ HB2.out).mono ?_); rintro e7 w7 ⟨k7, o7, vk7, vn7, vs7, nm7, A7, n7, c7, rfl, hi7, hb7⟩; have hal7 := al (Below.refl w7.heap.size w7) (.cells #[.int .i64 k7, .int .i64 o7, .int .i64 vk7, .int .i64 vn7, .string (txt vs7), .string (txt nm7), .slice A7 n7 c7] 26); have HB7 := Lib.hid (Mem.on HB2.out (Mem.on hb7 hal7)); have HI7 := Lib.hid (show ExAt (w7.alloc (.cells #[.int .i64 k7, .int .i64 o7, .int .i64 vk7, .int .i64 vn7, .string (txt vs7), .string (txt nm7), .slice A7 n7 c7] 26)) (w7.alloc (.cells #[.int .i64 k7, .int .i64 o7, .int .i64 vk7, .int .i64 vn7, .string (txt vs7), .string (txt nm7), .slice A7 n7 c7] 26)).heap.size X #[.int .i64 k7, .int .i64 o7, .int .i64 vk7, .int .i64 vn7, .string (txt vs7), .string (txt nm7), .slice A7 n7 c7].toList from ExAt.on (show ExAt w7 w7.heap.size X _ from hi7.more fun b hb => hb.2) hal7); have HX7 := Lib.hid (Cel.new w7 26 #[.int .i64 k7, .int .i64 o7, .int .i64 vk7, .int .i64 vn7, .string (txt vs7), .string (txt nm7), .slice A7 n7 c7] rfl); clear hi7 hb7 hal7; have a0 := (HEC.out.below HB7.out).at_ 0; have a1 := (HEC.out.below HB7.out).at_ 1; have a2 := (HEC.out.below HB7.out).at_ 2; have a3 := (HEC.out.below HB7.out).at_ 3; have a4 := (HEC.out.below HB7.out).at_ 4; have a5 := (HEC.out.below HB7.out).at_ 5; have a6 := (HEC.out.below HB7.out).at_ 6)
    | (go_at_call 11; (with_reducible refine (HRI.out _ HB7.out).mono ?_); rintro e8 w8 ⟨k8, o8, vk8, vn8, vs8, nm8, A8, n8, c8, rfl, hi8, hb8⟩; have hal8 := al (Below.refl w8.heap.size w8) (.cells #[.int .i64 k8, .int .i64 o8, .int .i64 vk8, .int .i64 vn8, .string (txt vs8), .string (txt nm8), .slice A8 n8 c8] 26); have HB8 := Lib.hid (Mem.on HB7.out (Mem.on hb8 hal8)); have HJ7 := Lib.hid (ExAt.on HI7.out (Mem.on hb8 hal8)); have HI8 := Lib.hid (show ExAt (w8.alloc (.cells #[.int .i64 k8, .int .i64 o8, .int .i64 vk8, .int .i64 vn8, .string (txt vs8), .string (txt nm8), .slice A8 n8 c8] 26)) (w8.alloc (.cells #[.int .i64 k8, .int .i64 o8, .int .i64 vk8, .int .i64 vn8, .string (txt vs8), .string (txt nm8), .slice A8 n8 c8] 26)).heap.size X #[.int .i64 k8, .int .i64 o8, .int .i64 vk8, .int .i64 vn8, .string (txt vs8), .string (txt nm8), .slice A8 n8 c8].toList from ExAt.on (show ExAt w8 w8.heap.size X _ from hi8.more fun b hb => hb.2) hal8); have HX8 := Lib.hid (Cel.new w8 26 #[.int .i64 k8, .int .i64 o8, .int .i64 vk8, .int .i64 vn8, .string (txt vs8), .string (txt nm8), .slice A8 n8 c8] rfl); have HY7 := Lib.hid (HX7.out.below (Mem.on hb8 hal8)); clear hi8 hb8 hal8; have b0 := HY7.out.at_ 0; have b1 := HY7.out.at_ 1; have b2 := HY7.out.at_ 2; have b3 := HY7.out.at_ 3; have b4 := HY7.out.at_ 4; have b5 := HY7.out.at_ 5; have b6 := HY7.out.at_ 6; have c0 := HX8.out.at_ 0; have c1 := HX8.out.at_ 1; have c2 := HX8.out.at_ 2; have c3 := HX8.out.at_ 3; have c4 := HX8.out.at_ 4; have c5 := HX8.out.at_ 5; have c6 := HX8.out.at_ 6)
    | (go_at_call 12; (with_reducible refine (HSM.out _ _ _ HJ7.out HI8.out).mono ?_); rintro e9 w9 ⟨rfl, hb9⟩; have HB9 := Lib.hid (Mem.on HB8.out hb9); clear hb9)
    | (go_at_call 9; (with_reducible refine (HW.out _ HB9.out).mono ?_); rintro e13 w13 ⟨rfl, hb13⟩; have HB13 := Lib.hid (Mem.on HBV.out (Mem.on HB9.out hb13)); clear hb13))
  go_ret
  exact ⟨rfl, HB13.out⟩
/-- What the law asks of the listed variables. -/
theorem signs_fills {W : World} (h : laidMetH Tryz.prog Rows.evalFillsRow.laid W) : Signs W := signs_of_laid h (by kernel_rfl) (by repeat (first | exact List.Mem.head _ | apply List.Mem.tail))
end Go.Proofs.YtbdippgamlknbaaGreatDoor.Eo
