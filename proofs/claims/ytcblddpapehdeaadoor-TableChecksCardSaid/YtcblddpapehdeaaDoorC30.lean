/- Are two trees one: the document's answer (registrarref10.Same, SameList). Are two trees one: the program's answer (expr.Same, by slices.EqualFunc). -/
import Derived.Deep.CutRange
import Derived.Test.YtcblddpapehdeaaDoorC04
import Derived.Test.YtcblddpapehdeaaDoorC05
import Derived.Test.YtcblddpapehdeaaDoorC15
namespace Go.Proofs.YtcblddpapehdeaaDoor.Ep
open Go.RowKit Go.Proofs.YtcblddpapehdeaaDoor.Mem Go.Proofs.YtcblddpapehdeaaDoor.Right
set_option linter.unusedVariables false
theorem same_mk (k o vk vn : Int) (vs nm : List UInt8) (kids : List Ex) (k' o' vk' vn' : Int) (vs' nm' : List UInt8) (kids' : List Ex) :
    sameB (.mk k o vk vn vs nm kids) (.mk k' o' vk' vn' vs' nm' kids') = (decide (k = k' ∧ o = o' ∧ (vk = vk' ∧ vn = vn' ∧ vs = vs') ∧ nm = nm') && sameL kids kids') := by rw [sameB]
theorem sameL_take {l m : List Ex} {j : Nat} {x y : Ex} (hl : l.length = m.length) (hx : l[j]? = some x) (hy : m[j]? = some y) : sameL (l.drop j) (m.drop j) = (sameB x y && sameL (l.drop (j + 1)) (m.drop (j + 1))) := by
  rw [drop_kid hx, drop_kid hy, sameL]
theorem sameL_len : ∀ {l m : List Ex}, l.length ≠ m.length → sameL l m = false
  | [], [], h => absurd rfl h
  | x :: l, [], _ => by rw [sameL] <;> simp
  | [], y :: m, _ => by rw [sameL] <;> simp
  | x :: l, y :: m, h => by
    rw [sameL, sameL_len (l := l) (m := m) (by simpa using h), Bool.and_false]
/-- What is asked of a function that tells whether two trees are one. -/
def SameC (f : FuncId) (x : Ex) : Prop := ∀ (y : Ex) (cs ds : List Value) (w : World), ExAt w w.heap.size x cs → ExAt w w.heap.size y ds →
  Calls Tryd.prog f #[.agg cs.toArray, .agg ds.toArray] w fun e w' => e = .returned (.bool (sameB x y)) ∧ Below w.heap.size w w'
set_option maxHeartbeats 4000000 in
theorem refList_of (l : List Ex) (ih : ∀ x ∈ l, SameC 89 x) (m : List Ex) (A C : Option Addr) (ca cc : Nat) (w : World) (hmx : l.length ≤ maxLen) (h1 : KidsIn w (fun b => b < w.heap.size) A 0 l) (h2 : KidsIn w (fun b => b < w.heap.size) C 0 m) :
    Calls Tryd.prog 122 #[.slice A l.length ca, .slice C m.length cc] w fun e w' => e = .returned (.bool (sameL l m)) ∧ Below w.heap.size w w' := by
  unfold maxLen at hmx
  obtain ⟨n, hn⟩ : ∃ n, l.length = n := ⟨_, rfl⟩
  obtain ⟨n', hn'⟩ : ∃ n, m.length = n := ⟨_, rfl⟩
  rw [hn] at hmx
  rw [hn, hn']
  by_cases hnn : n = n'
  case neg =>
    have t : ((n : Int) != (n' : Int)) = true := bne_yes (by omega)
    have HL := Lib.hid (show sameL l m = false from sameL_len (by omega))
    clear ih h1 h2 hn hn' hnn
    go_enter Tryd.func122, Tryd.ntmps122
    go_wp2
    go_ret
    exact ⟨rb HL.out.symm, Below.refl _ _⟩
  subst hnn
  have t : ((n : Int) != (n : Int)) = false := by simp
  have HK := Lib.hid h1
  have HM := Lib.hid h2
  have HN := Lib.hid hn
  have HN2 := Lib.hid hn'
  have HI := Lib.hid ih
  clear ih h1 h2 hn hn'
  go_enter Tryd.func122, Tryd.ntmps122
  go_wp2
  go_loopw [5] (fun i wr => ∃ j : Nat, j ≤ n ∧ i = .int .i64 (j : Int) ∧ Hid (sameL l m = sameL (l.drop j) (m.drop j)) ∧ Hid (Below w.heap.size w wr)) (fun i _ => n + 1 - (intOf i).toNat)
  case atStart => exact ⟨0, Nat.zero_le _, rfl, Lib.hid (by rw [List.drop_zero, List.drop_zero]), Lib.hid (Below.refl _ _)⟩
  case round =>
    obtain ⟨j, hj, rfl, HL, HB⟩ := hrel
    by_cases hlt : j < n
    · obtain ⟨x, hx⟩ := kid_some (l := l) (j := j) (by have := HN.out; omega)
      obtain ⟨y, hy⟩ := kid_some (l := m) (j := j) (by have := HN2.out; omega)
      have hst := sameL_take (by rw [HN.out, HN2.out]) hx hy
      have hxm := HI.out x (kid_mem hx)
      obtain ⟨k1, o1, vk1, vn1, vs1, nm1, ks1, A1, n1, c1, b1, z1, e1, rfl, hb1, hn1, c0, c1', c2, c3, c4, c5, c6, hin1⟩ := kid_at HK.out hx
      obtain ⟨k2, o2, vk2, vn2, vs2, nm2, ks2, A2, n2, c2', b2, z2, e2, rfl, hb2, hn2, d0, d1, d2, d3, d4, d5, d6, hin2⟩ := kid_at HM.out hy
      obtain ⟨q, hq⟩ : ∃ q, sameB x y = q := ⟨_, rfl⟩
      have HI2 := Lib.hid (show ∀ W, Below wr.heap.size wr W → Calls Tryd.prog 89 #[exV k1 o1 vk1 vn1 (txt vs1) (txt nm1) A1 n1 c1, exV k2 o2 vk2 vn2 (txt vs2) (txt nm2) A2 n2 c2'] W fun e w' => e = .returned (.bool q) ∧ Below W.heap.size W w' from fun W hW => by
        rw [← hq]
        exact hxm y _ _ W (ExAt.on hin1 (Mem.on HB.out hW)) (ExAt.on hin2 (Mem.on HB.out hW)))
      rw [hst, hq] at HL
      have HX := Lib.hid (show ∀ W, Below wr.heap.size wr W → (W.cell? ⟨b1, z1 + j * 7, none⟩ = some (.int .i64 k1) ∧ W.cell? ⟨b1, z1 + j * 7 + 1, none⟩ = some (.int .i64 o1) ∧ W.cell? ⟨b1, z1 + j * 7 + 2, none⟩ = some (.int .i64 vk1) ∧ W.cell? ⟨b1, z1 + j * 7 + 3, none⟩ = some (.int .i64 vn1) ∧ W.cell? ⟨b1, z1 + j * 7 + 4, none⟩ = some (.string (txt vs1)) ∧ W.cell? ⟨b1, z1 + j * 7 + 5, none⟩ = some (.string (txt nm1)) ∧ W.cell? ⟨b1, z1 + j * 7 + 6, none⟩ = some (.slice A1 n1 c1)) ∧
          (W.cell? ⟨b2, z2 + j * 7, none⟩ = some (.int .i64 k2) ∧ W.cell? ⟨b2, z2 + j * 7 + 1, none⟩ = some (.int .i64 o2) ∧ W.cell? ⟨b2, z2 + j * 7 + 2, none⟩ = some (.int .i64 vk2) ∧ W.cell? ⟨b2, z2 + j * 7 + 3, none⟩ = some (.int .i64 vn2) ∧ W.cell? ⟨b2, z2 + j * 7 + 4, none⟩ = some (.string (txt vs2)) ∧ W.cell? ⟨b2, z2 + j * 7 + 5, none⟩ = some (.string (txt nm2)) ∧ W.cell? ⟨b2, z2 + j * 7 + 6, none⟩ = some (.slice A2 n2 c2')) from fun W hW => by
        have hw := Mem.on HB.out hW
        exact ⟨⟨(hw.cell hb1).trans c0, (hw.cell hb1).trans c1', (hw.cell hb1).trans c2, (hw.cell hb1).trans c3, (hw.cell hb1).trans c4, (hw.cell hb1).trans c5, (hw.cell hb1).trans c6⟩, (hw.cell hb2).trans d0, (hw.cell hb2).trans d1, (hw.cell hb2).trans d2, (hw.cell hb2).trans d3, (hw.cell hb2).trans d4, (hw.cell hb2).trans d5, (hw.cell hb2).trans d6⟩)
      have tl : decide ((j : Int) < (n : Int)) = true := decide_eq_true (by omega)
      have lt1 : j < n := hlt
      clear hin1 hin2 hx hy hst hxm hq c0 c1' c2 c3 c4 c5 c6 d0 d1 d2 d3 d4 d5 d6 hn1 hn2
      clear e1 e2
      go_upto_region 6 with fail
      refine wp_region_quiet (C := fun w' => Below wr.heap.size wr w') (by kernel_rfl) (by kernel_rfl) (Below.refl _ _).drew ?_
      repeat (first | go_big_quiet_skip | (refine BigFrame.wpQuiet_want rfl (fun K hK => ?_); refine quietC_val ?_; apply Exists.intro; refine ⟨fun W hW => ?_, hK _ ?_⟩; (focus (obtain ⟨⟨c0, c1', c2, c3, c4, c5, c6⟩, d0, d1, d2, d3, d4, d5, d6⟩ := HX.out W hW; go_simp; first | done | rfl)); clear hK K; simp only [Act.put, List.setIfInBounds_toArray, List.set_cons_zero, List.set_cons_succ]) | (quiet_step ((intro hW; first | (go_at_call 89; exact ((HI2.out _ hW).mono fun _ _ ⟨a, b⟩ => ⟨a, Mem.on hW b⟩))))))
      refine wpQuiet_nil ?_
      intro W9 hw9
      have HW9 := Lib.hid hw9
      clear hw9
      cases q with
      | true =>
        go_wp2
        go_roundw
        case rel => exact ⟨j + 1, by omega, by go_num, Lib.hid (by rw [HL.out]; rfl), Lib.hid (Mem.on HB.out HW9.out)⟩
        case measure => simp [intOf]; omega
      | false =>
        go_wp2
        go_ret
        exact ⟨rb (by rw [HL.out]; rfl), Mem.on HB.out HW9.out⟩
    · have tl : decide ((j : Int) < (n : Int)) = false := decide_eq_false (by omega)
      have hd : sameL (l.drop j) (m.drop j) = true := by
        rw [List.drop_eq_nil_of_le (by have := HN.out; omega), List.drop_eq_nil_of_le (by have := HN2.out; omega), sameL]
      go_wp2
      go_ret
      exact ⟨rb (by rw [HL.out, hd]), HB.out⟩
/-- The leaves' facts: two texts, unlike. -/
theorem txt_ne {l m : List UInt8} (h : l ≠ m) : ¬ (txt l).toList = (txt m).toList ∧ ¬ txt l = txt m ∧ ((txt l).toList == (txt m).toList) = false := by
  have h1 : ¬ (txt l).toList = (txt m).toList := fun e => h (by rw [Lib.toList_data, Lib.toList_data, txt_back, txt_back] at e; exact e)
  have h2 : ¬ txt l = txt m := fun e => h1 (by rw [e])
  exact ⟨h1, h2, beq_eq_false_iff_ne.2 h1⟩
set_option maxHeartbeats 4000000 in
theorem refSame_any : ∀ (x : Ex), SameC 89 x := by
  refine Ex.byKids fun k o vk vn vs nm kids ih y cs ds w h1 h2 => ?_
  obtain ⟨A, n, c, rfl, hn, hnc, hcm, -, hk1⟩ := ex_open h1
  obtain ⟨k', o', vk', vn', vs', nm', kids'⟩ := y
  obtain ⟨A', n', c', rfl, hn', -, -, -, hk2⟩ := ex_open h2
  rw [same_mk]
  obtain ⟨r, hr⟩ : ∃ r, (decide (k = k' ∧ o = o' ∧ (vk = vk' ∧ vn = vn' ∧ vs = vs') ∧ nm = nm') && sameL kids kids') = r := ⟨_, rfl⟩
  rw [hr]
  have HR := Lib.hid hr
  clear hr
  obtain ⟨W, hW⟩ : ∃ W, (w.alloc (.cells #[.int .i64 k, .int .i64 o, .int .i64 vk, .int .i64 vn, .string (txt vs), .string (txt nm), .slice A n c] 54)).alloc (.cells #[.int .i64 k', .int .i64 o', .int .i64 vk', .int .i64 vn', .string (txt vs'), .string (txt nm'), .slice A' n' c'] 54) = W := ⟨_, rfl⟩
  have hb : Below w.heap.size w W := by rw [← hW]; exact al (al (Below.refl _ _) _) _
  have x1 : Cel W w.heap.size 54 #[.int .i64 k, .int .i64 o, .int .i64 vk, .int .i64 vn, .string (txt vs), .string (txt nm), .slice A n c] := by rw [← hW]; exact (Cel.new w _ _ rfl).alloc _
  have x2 : Cel W (w.heap.size + 1) 54 #[.int .i64 k', .int .i64 o', .int .i64 vk', .int .i64 vn', .string (txt vs'), .string (txt nm'), .slice A' n' c'] := by rw [← hW]; exact Cel.new _ _ _ (by simp)
  have HB := Lib.hid hb
  have HL := Lib.hid (show Calls Tryd.prog 122 #[.slice A n c, .slice A' n' c'] W fun e w' => e = .returned (.bool (sameL kids kids')) ∧ Below W.heap.size W w' from by
    rw [hn, hn']
    exact refList_of kids ih kids' A A' c c' W (by omega) (KidsIn.to (fun b h => Nat.lt_of_lt_of_le h hb.size) (fun p hp => hb.cell hp) hk1) (KidsIn.to (fun b h => Nat.lt_of_lt_of_le h hb.size) (fun p hp => hb.cell hp) hk2))
  have c0 := x1.at_ 0
  have c1 := x1.at_ 1
  have c2 := x1.at_ 2
  have c3 := x1.at_ 3
  have c4 := x1.at_ 4
  have c5 := x1.at_ 5
  have c6 := x1.at_ 6
  have d0 := x2.at_ 0
  have d1 := x2.at_ 1
  have d2 := x2.at_ 2
  have d3 := x2.at_ 3
  have d4 := x2.at_ 4
  have d5 := x2.at_ 5
  have d6 := x2.at_ 6
  clear h1 h2 hk1 hk2 x1 x2 ih hb hn hn' hnc hcm
  by_cases e0 : k = k'
  case neg =>
    have t1 : (k != k') = true := bne_yes e0
    have HF := Lib.hid (show false = r from by have := HR.out; rw [decide_eq_false (fun g => e0 g.1), Bool.false_and] at this; exact this)
    go_enter Tryd.func89, Tryd.ntmps89
    go_wp2
    go_ret
    exact ⟨rb HF.out, HB.out⟩
  subst e0
  by_cases e0 : o = o'
  case neg =>
    have t1 : (o != o') = true := bne_yes e0
    have HF := Lib.hid (show false = r from by have := HR.out; rw [decide_eq_false (fun g => e0 g.2.1), Bool.false_and] at this; exact this)
    go_enter Tryd.func89, Tryd.ntmps89
    go_wp2
    go_ret
    exact ⟨rb HF.out, HB.out⟩
  subst e0
  by_cases e0 : vk = vk'
  case neg =>
    have HF := Lib.hid (show false = r from by have := HR.out; rw [decide_eq_false (fun g => e0 g.2.2.1.1), Bool.false_and] at this; exact this)
    go_enter Tryd.func89, Tryd.ntmps89
    go_wp2
    go_ret
    exact ⟨rb HF.out, HB.out⟩
  subst e0
  by_cases e0 : vn = vn'
  case neg =>
    have HF := Lib.hid (show false = r from by have := HR.out; rw [decide_eq_false (fun g => e0 g.2.2.1.2.1), Bool.false_and] at this; exact this)
    go_enter Tryd.func89, Tryd.ntmps89
    go_wp2
    go_ret
    exact ⟨rb HF.out, HB.out⟩
  subst e0
  by_cases e0 : vs = vs'
  case neg =>
    obtain ⟨t3, t4, t5⟩ := txt_ne e0
    have HF := Lib.hid (show false = r from by have := HR.out; rw [decide_eq_false (fun g => e0 g.2.2.1.2.2), Bool.false_and] at this; exact this)
    go_enter Tryd.func89, Tryd.ntmps89
    go_wp2
    go_ret
    exact ⟨rb HF.out, HB.out⟩
  subst e0
  by_cases e0 : nm = nm'
  case neg =>
    obtain ⟨t3, t4, t5⟩ := txt_ne e0
    have HF := Lib.hid (show false = r from by have := HR.out; rw [decide_eq_false (fun g => e0 g.2.2.2), Bool.false_and] at this; exact this)
    go_enter Tryd.func89, Tryd.ntmps89
    go_wp2
    go_ret
    exact ⟨rb HF.out, HB.out⟩
  subst e0
  have HF := Lib.hid (show sameL kids kids' = r from by have := HR.out; rw [decide_eq_true ⟨rfl, rfl, ⟨rfl, rfl, rfl⟩, rfl⟩, Bool.true_and] at this; exact this)
  go_enter Tryd.func89, Tryd.ntmps89
  go_wp2_with (go_at_call 122; (with_reducible refine HL.out.mono ?_); rintro e' w2 ⟨rfl, hb2⟩; have HB2 := Lib.hid (Mem.on HB.out hb2); clear hb2)
  go_ret
  exact ⟨rb HF.out, HB2.out⟩
end Go.Proofs.YtcblddpapehdeaaDoor.Ep
namespace Go.Proofs.YtcblddpapehdeaaDoor.Ep
open Go.RowKit Go.Proofs.YtcblddpapehdeaaDoor.Mem Go.Proofs.YtcblddpapehdeaaDoor.Right
set_option linter.unusedVariables false
/-- The function as a value. -/
abbrev sameV : Value := .func (.func 85) #[] #[]
set_option maxHeartbeats 4000000 in
theorem eqList_of (l : List Ex) (ih : ∀ x ∈ l, SameC 85 x) (m : List Ex) (A C : Option Addr) (ca cc : Nat) (w : World) (hmx : l.length ≤ maxLen) (h1 : KidsIn w (fun b => b < w.heap.size) A 0 l) (h2 : KidsIn w (fun b => b < w.heap.size) C 0 m) :
    Calls Tryd.prog 121 #[.slice A l.length ca, .slice C m.length cc, sameV] w fun e w' => e = .returned (.bool (sameL l m)) ∧ Below w.heap.size w w' := by
  unfold maxLen at hmx
  obtain ⟨n, hn⟩ : ∃ n, l.length = n := ⟨_, rfl⟩
  obtain ⟨n', hn'⟩ : ∃ n, m.length = n := ⟨_, rfl⟩
  rw [hn] at hmx
  rw [hn, hn']
  by_cases hnn : n = n'
  case neg =>
    have t : ((n : Int) != (n' : Int)) = true := bne_yes (by omega)
    have HL := Lib.hid (show sameL l m = false from sameL_len (by omega))
    clear ih h1 h2 hn hn' hnn
    go_enter Tryd.func121, Tryd.ntmps121
    go_wp2
    go_ret
    exact ⟨rb HL.out.symm, Below.refl _ _⟩
  subst hnn
  have t : ((n : Int) != (n : Int)) = false := by simp
  have HK := Lib.hid h1
  have HM := Lib.hid h2
  have HN := Lib.hid hn
  have HN2 := Lib.hid hn'
  have HI := Lib.hid ih
  clear ih h1 h2 hn hn'
  go_enter Tryd.func121, Tryd.ntmps121
  go_wp2
  go_loopw [17] (fun i wr => ∃ j : Nat, j ≤ n ∧ i = .int .i64 (j : Int) ∧ Hid (sameL l m = sameL (l.drop j) (m.drop j)) ∧ Hid (Below w.heap.size w wr)) (fun i _ => n + 1 - (intOf i).toNat)
  case atStart => exact ⟨0, Nat.zero_le _, rfl, Lib.hid (by rw [List.drop_zero, List.drop_zero]), Lib.hid (Below.refl _ _)⟩
  case round =>
    obtain ⟨j, hj, rfl, HL, HB⟩ := hrel
    by_cases hlt : j < n
    · obtain ⟨x, hx⟩ := kid_some (l := l) (j := j) (by have := HN.out; omega)
      obtain ⟨y, hy⟩ := kid_some (l := m) (j := j) (by have := HN2.out; omega)
      have hst := sameL_take (by rw [HN.out, HN2.out]) hx hy
      have hxm := HI.out x (kid_mem hx)
      obtain ⟨k1, o1, vk1, vn1, vs1, nm1, ks1, A1, n1, c1, b1, z1, e1, rfl, hb1, hn1, c0, c1', c2, c3, c4, c5, c6, hin1⟩ := kid_at HK.out hx
      obtain ⟨k2, o2, vk2, vn2, vs2, nm2, ks2, A2, n2, c2', b2, z2, e2, rfl, hb2, hn2, d0, d1, d2, d3, d4, d5, d6, hin2⟩ := kid_at HM.out hy
      obtain ⟨q, hq⟩ : ∃ q, sameB x y = q := ⟨_, rfl⟩
      have HI2 := Lib.hid (show ∀ W, Below wr.heap.size wr W → Calls Tryd.prog 85 #[exV k1 o1 vk1 vn1 (txt vs1) (txt nm1) A1 n1 c1, exV k2 o2 vk2 vn2 (txt vs2) (txt nm2) A2 n2 c2'] W fun e w' => e = .returned (.bool q) ∧ Below W.heap.size W w' from fun W hW => by
        rw [← hq]
        exact hxm y _ _ W (ExAt.on hin1 (Mem.on HB.out hW)) (ExAt.on hin2 (Mem.on HB.out hW)))
      rw [hst, hq] at HL
      obtain ⟨W1, hW1⟩ : ∃ W1, wr.alloc (.cells #[.int .i64 k1, .int .i64 o1, .int .i64 vk1, .int .i64 vn1, .string (txt vs1), .string (txt nm1), .slice A1 n1 c1] 54) = W1 := ⟨_, rfl⟩
      have c0 := (HB.out.cell hb1).trans c0
      have c1' := (HB.out.cell hb1).trans c1'
      have c2 := (HB.out.cell hb1).trans c2
      have c3 := (HB.out.cell hb1).trans c3
      have c4 := (HB.out.cell hb1).trans c4
      have c5 := (HB.out.cell hb1).trans c5
      have c6 := (HB.out.cell hb1).trans c6
      obtain ⟨W2, hW2⟩ : ∃ W2, W1.alloc (.cells #[.int .i64 k2, .int .i64 o2, .int .i64 vk2, .int .i64 vn2, .string (txt vs2), .string (txt nm2), .slice A2 n2 c2'] 54) = W2 := ⟨_, rfl⟩
      have hb1w : Below wr.heap.size wr W1 := by rw [← hW1]; exact al (Below.refl _ _) _
      have hb2w : Below wr.heap.size wr W2 := by rw [← hW2]; exact al hb1w _
      have hsz : W1.heap.size = wr.heap.size + 1 := by rw [← hW1]; simp
      have HW2 := Lib.hid (Mem.on HB.out hb2w)
      have HY2 := Lib.hid hb2w
      have d0 := ((Mem.on HB.out hb1w).cell hb2).trans d0
      have d1 := ((Mem.on HB.out hb1w).cell hb2).trans d1
      have d2 := ((Mem.on HB.out hb1w).cell hb2).trans d2
      have d3 := ((Mem.on HB.out hb1w).cell hb2).trans d3
      have d4 := ((Mem.on HB.out hb1w).cell hb2).trans d4
      have d5 := ((Mem.on HB.out hb1w).cell hb2).trans d5
      have d6 := ((Mem.on HB.out hb1w).cell hb2).trans d6
      have x1 : Cel W2 wr.heap.size 54 #[.int .i64 k1, .int .i64 o1, .int .i64 vk1, .int .i64 vn1, .string (txt vs1), .string (txt nm1), .slice A1 n1 c1] := by rw [← hW2, ← hW1]; exact (Cel.new wr _ _ rfl).alloc _
      have x2 : Cel W2 W1.heap.size 54 #[.int .i64 k2, .int .i64 o2, .int .i64 vk2, .int .i64 vn2, .string (txt vs2), .string (txt nm2), .slice A2 n2 c2'] := by rw [← hW2]; exact Cel.new W1 _ _ rfl
      have y0 := x1.at_ 0
      have z0 := x2.at_ 0
      have y1 := x1.at_ 1
      have z1 := x2.at_ 1
      have y2 := x1.at_ 2
      have z2 := x2.at_ 2
      have y3 := x1.at_ 3
      have z3 := x2.at_ 3
      have y4 := x1.at_ 4
      have z4 := x2.at_ 4
      have y5 := x1.at_ 5
      have z5 := x2.at_ 5
      have y6 := x1.at_ 6
      have z6 := x2.at_ 6
      have tl : decide ((j : Int) < (n : Int)) = true := decide_eq_true (by omega)
      clear hin1 hin2 hx hy hst hxm hq hn1 hn2 e1 e2 x1 x2 hb1w hb2w hsz
      cases q with
      | true =>
        go_wp2_with (go_at_call 85; (with_reducible refine (HI2.out _ HY2.out).mono ?_); rintro e' w2 ⟨rfl, hb2⟩; have HB2 := Lib.hid (Mem.on HW2.out hb2); clear hb2)
        go_roundw
        case rel => exact ⟨j + 1, by omega, by go_num, Lib.hid (by rw [HL.out]; rfl), HB2⟩
        case measure => simp [intOf]; omega
      | false =>
        go_wp2_with (go_at_call 85; (with_reducible refine (HI2.out _ HY2.out).mono ?_); rintro e' w2 ⟨rfl, hb2⟩; have HB2 := Lib.hid (Mem.on HW2.out hb2); clear hb2)
        go_ret
        exact ⟨rb (by rw [HL.out]; rfl), HB2.out⟩
    · have tl : decide ((j : Int) < (n : Int)) = false := decide_eq_false (by omega)
      have hd : sameL (l.drop j) (m.drop j) = true := by
        rw [List.drop_eq_nil_of_le (by have := HN.out; omega), List.drop_eq_nil_of_le (by have := HN2.out; omega), sameL]
      go_wp2
      go_ret
      exact ⟨rb (by rw [HL.out, hd]), HB.out⟩
set_option maxHeartbeats 4000000 in
theorem same_any : ∀ (x : Ex), SameC 85 x := by
  refine Ex.byKids fun k o vk vn vs nm kids ih y cs ds w h1 h2 => ?_
  obtain ⟨A, n, c, rfl, hn, hnc, hcm, -, hk1⟩ := ex_open h1
  obtain ⟨k', o', vk', vn', vs', nm', kids'⟩ := y
  obtain ⟨A', n', c', rfl, hn', -, -, -, hk2⟩ := ex_open h2
  rw [same_mk]
  obtain ⟨r, hr⟩ : ∃ r, (decide (k = k' ∧ o = o' ∧ (vk = vk' ∧ vn = vn' ∧ vs = vs') ∧ nm = nm') && sameL kids kids') = r := ⟨_, rfl⟩
  rw [hr]
  have HR := Lib.hid hr
  clear hr
  obtain ⟨W, hW⟩ : ∃ W, (w.alloc (.cells #[.int .i64 k, .int .i64 o, .int .i64 vk, .int .i64 vn, .string (txt vs), .string (txt nm), .slice A n c] 54)).alloc (.cells #[.int .i64 k', .int .i64 o', .int .i64 vk', .int .i64 vn', .string (txt vs'), .string (txt nm'), .slice A' n' c'] 54) = W := ⟨_, rfl⟩
  have hb : Below w.heap.size w W := by rw [← hW]; exact al (al (Below.refl _ _) _) _
  have x1 : Cel W w.heap.size 54 #[.int .i64 k, .int .i64 o, .int .i64 vk, .int .i64 vn, .string (txt vs), .string (txt nm), .slice A n c] := by rw [← hW]; exact (Cel.new w _ _ rfl).alloc _
  have x2 : Cel W (w.heap.size + 1) 54 #[.int .i64 k', .int .i64 o', .int .i64 vk', .int .i64 vn', .string (txt vs'), .string (txt nm'), .slice A' n' c'] := by rw [← hW]; exact Cel.new _ _ _ (by simp)
  have HB := Lib.hid hb
  have HL := Lib.hid (show Calls Tryd.prog 121 #[.slice A n c, .slice A' n' c', sameV] W fun e w' => e = .returned (.bool (sameL kids kids')) ∧ Below W.heap.size W w' from by
    rw [hn, hn']
    exact eqList_of kids ih kids' A A' c c' W (by omega) (KidsIn.to (fun b h => Nat.lt_of_lt_of_le h hb.size) (fun p hp => hb.cell hp) hk1) (KidsIn.to (fun b h => Nat.lt_of_lt_of_le h hb.size) (fun p hp => hb.cell hp) hk2))
  have c0 := x1.at_ 0
  have c1 := x1.at_ 1
  have c2 := x1.at_ 2
  have c3 := x1.at_ 3
  have c4 := x1.at_ 4
  have c5 := x1.at_ 5
  have c6 := x1.at_ 6
  have d0 := x2.at_ 0
  have d1 := x2.at_ 1
  have d2 := x2.at_ 2
  have d3 := x2.at_ 3
  have d4 := x2.at_ 4
  have d5 := x2.at_ 5
  have d6 := x2.at_ 6
  clear h1 h2 hk1 hk2 x1 x2 ih hb hn hn' hnc hcm
  by_cases e0 : k = k'
  case neg =>
    have t1 : (k == k') = false := beq_no e0
    have HF := Lib.hid (show false = r from by have := HR.out; rw [decide_eq_false (fun g => e0 g.1), Bool.false_and] at this; exact this)
    go_enter Tryd.func85, Tryd.ntmps85
    go_wp2
    go_ret
    exact ⟨rb HF.out, HB.out⟩
  subst e0
  by_cases e0 : o = o'
  case neg =>
    have t1 : (o == o') = false := beq_no e0
    have HF := Lib.hid (show false = r from by have := HR.out; rw [decide_eq_false (fun g => e0 g.2.1), Bool.false_and] at this; exact this)
    go_enter Tryd.func85, Tryd.ntmps85
    go_wp2
    go_ret
    exact ⟨rb HF.out, HB.out⟩
  subst e0
  by_cases e0 : vk = vk'
  case neg =>
    have HF := Lib.hid (show false = r from by have := HR.out; rw [decide_eq_false (fun g => e0 g.2.2.1.1), Bool.false_and] at this; exact this)
    go_enter Tryd.func85, Tryd.ntmps85
    go_wp2
    go_ret
    exact ⟨rb HF.out, HB.out⟩
  subst e0
  by_cases e0 : vn = vn'
  case neg =>
    have HF := Lib.hid (show false = r from by have := HR.out; rw [decide_eq_false (fun g => e0 g.2.2.1.2.1), Bool.false_and] at this; exact this)
    go_enter Tryd.func85, Tryd.ntmps85
    go_wp2
    go_ret
    exact ⟨rb HF.out, HB.out⟩
  subst e0
  by_cases e0 : vs = vs'
  case neg =>
    obtain ⟨t3, t4, t5⟩ := txt_ne e0
    have HF := Lib.hid (show false = r from by have := HR.out; rw [decide_eq_false (fun g => e0 g.2.2.1.2.2), Bool.false_and] at this; exact this)
    go_enter Tryd.func85, Tryd.ntmps85
    go_wp2
    go_ret
    exact ⟨rb HF.out, HB.out⟩
  subst e0
  by_cases e0 : nm = nm'
  case neg =>
    obtain ⟨t3, t4, t5⟩ := txt_ne e0
    have HF := Lib.hid (show false = r from by have := HR.out; rw [decide_eq_false (fun g => e0 g.2.2.2), Bool.false_and] at this; exact this)
    go_enter Tryd.func85, Tryd.ntmps85
    go_wp2
    go_ret
    exact ⟨rb HF.out, HB.out⟩
  subst e0
  have HF := Lib.hid (show sameL kids kids' = r from by have := HR.out; rw [decide_eq_true ⟨rfl, rfl, ⟨rfl, rfl, rfl⟩, rfl⟩, Bool.true_and] at this; exact this)
  go_enter Tryd.func85, Tryd.ntmps85
  go_wp2_with (go_at_call 121; (with_reducible refine HL.out.mono ?_); rintro e' w2 ⟨rfl, hb2⟩; have HB2 := Lib.hid (Mem.on HB.out hb2); clear hb2)
  go_ret
  exact ⟨rb HF.out, HB2.out⟩
end Go.Proofs.YtcblddpapehdeaaDoor.Ep
