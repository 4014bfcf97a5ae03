import Derived.Test.YtgbaolafedkbdaaGreatDoorProg
import Derived.WalkKit
import Derived.ProofKit
import Derived.BigFrame
import Derived.BigQuiet
import Derived.Deep.QuietTactic
import Derived.Test.YtgbaolafedkbdaaGreatDoorRights
import Derived.Test.YtgbaolafedkbdaaGreatDoorIsRights
import Derived.Deep.CutRange
import Derived.Lib.MinMax
import Derived.OpenShut
import Derived.ChangeOld

/- An operation of a region that draws its order, which only reads. -/
namespace Go.Proofs.YtgbaolafedkbdaaGreatDoor.Mem
open Go.RowKit
set_option linter.unusedVariables false

theorem quietC_val {C : World → Prop} {K : Act → Prop} {o : Oper} {a : Act} (h : ∃ v, (∀ w, C w → (execOp a.eval o).run Tryz.prog w = .ok (.value v) w) ∧ K (a.put o.dst v)) : o.quiet Tryz.prog a C K := by
  obtain ⟨v, h1, h2⟩ := h
  exact ⟨v, fun w hw => by unfold Oper.quietAt; rw [h1 w hw]; exact ⟨rfl, rfl⟩, h2⟩
end Go.Proofs.YtgbaolafedkbdaaGreatDoor.Mem
/- Are two trees one: the document's answer (registrarref10.Same, SameList). -/
namespace Go.Proofs.YtgbaolafedkbdaaGreatDoor.Ep
open Go.RowKit Go.Proofs.YtgbaolafedkbdaaGreatDoor.Mem Go.Proofs.YtgbaolafedkbdaaGreatDoor.Right
set_option linter.unusedVariables false

theorem same_mk (k o vk vn : Int) (vs nm : List UInt8) (kids : List Ex) (k' o' vk' vn' : Int) (vs' nm' : List UInt8) (kids' : List Ex) :
    sameB (.mk k o vk vn vs nm kids) (.mk k' o' vk' vn' vs' nm' kids') = (decide (k = k' ∧ o = o' ∧ (vk = vk' ∧ vn = vn' ∧ vs = vs') ∧ nm = nm') && sameL kids kids') := by rw [sameB]
theorem sameL_self (l : List Ex) : sameL l l = true := sameL_iff.2 rfl
theorem sameL_take {l m : List Ex} {j : Nat} {x y : Ex} (hl : l.length = m.length) (hx : l[j]? = some x) (hy : m[j]? = some y) : sameL (l.drop j) (m.drop j) = (sameB x y && sameL (l.drop (j + 1)) (m.drop (j + 1))) := by
  rw [drop_kid hx, drop_kid hy, sameL]
theorem sameL_len : ∀ {l m : List Ex}, l.length ≠ m.length → sameL l m = false
  | [], [], h => absurd rfl h
  | x :: l, [], _ => by rw [sameL] <;> simp
  | [], y :: m, _ => by rw [sameL] <;> simp
  | x :: l, y :: m, h => by
    rw [sameL, sameL_len (l := l) (m := m) (by simpa using h), Bool.and_false]
/-- What is asked of a function that tells whether two trees are one. -/
def SameC (f : FuncId) (x : Ex) : Prop := ∀ (y : Ex) (cs ds : List Value) (w : World), ExAt w w.heap.size x cs → ExAt w w.heap.size y ds →
  Calls Tryz.prog f #[.agg cs.toArray, .agg ds.toArray] w fun e w' => e = .returned (.bool (sameB x y)) ∧ Below w.heap.size w w'
theorem exAt_more {w : World} {S : Nat → Prop} {x : Ex} {cs : List Value} (h : ExIn w S x cs) (hS : ∀ b, S b → b < w.heap.size) : ExAt w w.heap.size x cs := ExIn.more h hS

set_option maxHeartbeats 4000000 in
theorem refList_of (l : List Ex) (ih : ∀ x ∈ l, SameC 9 x) (m : List Ex) (A C : Option Addr) (ca cc : Nat) (w : World) (hmx : l.length ≤ maxLen) (h1 : KidsIn w (fun b => b < w.heap.size) A 0 l) (h2 : KidsIn w (fun b => b < w.heap.size) C 0 m) :
    Calls Tryz.prog 22 #[.slice A l.length ca, .slice C m.length cc] w fun e w' => e = .returned (.bool (sameL l m)) ∧ Below w.heap.size w w' := by
  unfold maxLen at hmx
  obtain ⟨n, hn⟩ : ∃ n, l.length = n := ⟨_, rfl⟩
  obtain ⟨n', hn'⟩ : ∃ n, m.length = n := ⟨_, rfl⟩
  rw [hn] at hmx
  rw [hn, hn']
  by_cases hnn : n = n'
  case neg =>
    have t : ((n : Int) != (n' : Int)) = true := bne_yes (by omega)
    have HL := Lib.hid (show sameL l m = false from sameL_len (by omega))
    clear ih h1 h2 hn hn' hnn
    go_enter Tryz.func22, Tryz.ntmps22
    go_wp2
    go_ret
    exact ⟨rb HL.out.symm, Below.refl _ _⟩
  subst hnn
  have t : ((n : Int) != (n : Int)) = false := by simp
  have HK := Lib.hid h1
  have HM := Lib.hid h2
  have HN := Lib.hid hn
  have HN2 := Lib.hid hn'
  have HI := Lib.hid ih
  clear ih h1 h2 hn hn'
  go_enter Tryz.func22, Tryz.ntmps22
  go_wp2
  go_loopw [5] (fun i wr => ∃ j : Nat, j ≤ n ∧ i = .int .i64 (j : Int) ∧ Hid (sameL l m = sameL (l.drop j) (m.drop j)) ∧ Hid (Below w.heap.size w wr)) (fun i _ => n + 1 - (intOf i).toNat)
  case atStart => exact ⟨0, Nat.zero_le _, rfl, Lib.hid (by rw [List.drop_zero, List.drop_zero]), Lib.hid (Below.refl _ _)⟩
  case round =>
    obtain ⟨j, hj, rfl, HL, HB⟩ := hrel
    by_cases hlt : j < n
    · obtain ⟨x, hx⟩ := kid_some (l := l) (j := j) (by have := HN.out; omega)
      obtain ⟨y, hy⟩ := kid_some (l := m) (j := j) (by have := HN2.out; omega)
      have hst := sameL_take (by rw [HN.out, HN2.out]) hx hy
      have hxm := HI.out x (kid_mem hx)
      obtain ⟨k1, o1, vk1, vn1, vs1, nm1, ks1, A1, n1, c1, b1, z1, e1, rfl, hb1, hn1, c0, c1', c2, c3, c4, c5, c6, hin1⟩ := kid_at HK.out hx
      obtain ⟨k2, o2, vk2, vn2, vs2, nm2, ks2, A2, n2, c2', b2, z2, e2, rfl, hb2, hn2, d0, d1, d2, d3, d4, d5, d6, hin2⟩ := kid_at HM.out hy
      obtain ⟨q, hq⟩ : ∃ q, sameB x y = q := ⟨_, rfl⟩
      have HI2 := Lib.hid (show ∀ W, Below wr.heap.size wr W → Calls Tryz.prog 9 #[exV k1 o1 vk1 vn1 (txt vs1) (txt nm1) A1 n1 c1, exV k2 o2 vk2 vn2 (txt vs2) (txt nm2) A2 n2 c2'] W fun e w' => e = .returned (.bool q) ∧ Below W.heap.size W w' from fun W hW => by
        rw [← hq]
        exact hxm y _ _ W (ExAt.on hin1 (Mem.on HB.out hW)) (ExAt.on hin2 (Mem.on HB.out hW)))
      rw [hst, hq] at HL
      have HX := Lib.hid (show ∀ W, Below wr.heap.size wr W → (W.cell? ⟨b1, z1 + j * 7, none⟩ = some (.int .i64 k1) ∧ W.cell? ⟨b1, z1 + j * 7 + 1, none⟩ = some (.int .i64 o1) ∧ W.cell? ⟨b1, z1 + j * 7 + 2, none⟩ = some (.int .i64 vk1) ∧ W.cell? ⟨b1, z1 + j * 7 + 3, none⟩ = some (.int .i64 vn1) ∧ W.cell? ⟨b1, z1 + j * 7 + 4, none⟩ = some (.string (txt vs1)) ∧ W.cell? ⟨b1, z1 + j * 7 + 5, none⟩ = some (.string (txt nm1)) ∧ W.cell? ⟨b1, z1 + j * 7 + 6, none⟩ = some (.slice A1 n1 c1)) ∧
          (W.cell? ⟨b2, z2 + j * 7, none⟩ = some (.int .i64 k2) ∧ W.cell? ⟨b2, z2 + j * 7 + 1, none⟩ = some (.int .i64 o2) ∧ W.cell? ⟨b2, z2 + j * 7 + 2, none⟩ = some (.int .i64 vk2) ∧ W.cell? ⟨b2, z2 + j * 7 + 3, none⟩ = some (.int .i64 vn2) ∧ W.cell? ⟨b2, z2 + j * 7 + 4, none⟩ = some (.string (txt vs2)) ∧ W.cell? ⟨b2, z2 + j * 7 + 5, none⟩ = some (.string (txt nm2)) ∧ W.cell? ⟨b2, z2 + j * 7 + 6, none⟩ = some (.slice A2 n2 c2')) from fun W hW => by
        have hw := Mem.on HB.out hW
        exact ⟨⟨(hw.cell hb1).trans c0, (hw.cell hb1).trans c1', (hw.cell hb1).trans c2, (hw.cell hb1).trans c3, (hw.cell hb1).trans c4, (hw.cell hb1).trans c5, (hw.cell hb1).trans c6⟩, (hw.cell hb2).trans d0, (hw.cell hb2).trans d1, (hw.cell hb2).trans d2, (hw.cell hb2).trans d3, (hw.cell hb2).trans d4, (hw.cell hb2).trans d5, (hw.cell hb2).trans d6⟩)
      have tl : decide ((j : Int) < (n : Int)) = true := decide_eq_true (by omega)
      have lt1 : j < n := hlt
      clear hin1 hin2 hx hy hst hxm hq c0 c1' c2 c3 c4 c5 c6 d0 d1 d2 d3 d4 d5 d6 hn1 hn2
      clear e1 e2
      go_upto_region 6 with fail
      refine wp_region_quiet (C := fun w' => Below wr.heap.size wr w') (by kernel_rfl) (by kernel_rfl) (Below.refl _ _).drew ?_
      repeat (first | go_big_quiet_skip | (refine BigFrame.wpQuiet_want rfl (fun K hK => ?_); refine quietC_val ?_; apply Exists.intro; refine ⟨fun W hW => ?_, hK _ ?_⟩; (focus (obtain ⟨⟨c0, c1', c2, c3, c4, c5, c6⟩, d0, d1, d2, d3, d4, d5, d6⟩ := HX.out W hW; go_simp; first | done | rfl)); clear hK K; simp only [Act.put, List.setIfInBounds_toArray, List.set_cons_zero, List.set_cons_succ]) | (quiet_step ((intro hW; first | (go_at_call 9; exact ((HI2.out _ hW).mono fun _ _ ⟨a, b⟩ => ⟨a, Mem.on hW b⟩))))))
      refine wpQuiet_nil ?_
      intro W9 hw9
      have HW9 := Lib.hid hw9
      clear hw9
      cases q with
      | true =>
        go_wp2
        go_roundw
        case rel => exact ⟨j + 1, by omega, by go_num, Lib.hid (by rw [HL.out]; rfl), Lib.hid (Mem.on HB.out HW9.out)⟩
        case measure => simp [intOf]; omega
      | false =>
        go_wp2
        go_ret
        exact ⟨rb (by rw [HL.out]; rfl), Mem.on HB.out HW9.out⟩
    · have tl : decide ((j : Int) < (n : Int)) = false := decide_eq_false (by omega)
      have hd : sameL (l.drop j) (m.drop j) = true := by
        rw [List.drop_eq_nil_of_le (by have := HN.out; omega), List.drop_eq_nil_of_le (by have := HN2.out; omega), sameL]
      go_wp2
      go_ret
      exact ⟨rb (by rw [HL.out, hd]), HB.out⟩
/-- The leaves' facts: two texts, unlike. -/
theorem txt_ne {l m : List UInt8} (h : l ≠ m) : ¬ (txt l).toList = (txt m).toList ∧ ¬ txt l = txt m ∧ ((txt l).toList == (txt m).toList) = false := by
  have h1 : ¬ (txt l).toList = (txt m).toList := fun e => h (by rw [Lib.toList_data, Lib.toList_data, txt_back, txt_back] at e; exact e)
  have h2 : ¬ txt l = txt m := fun e => h1 (by rw [e])
  exact ⟨h1, h2, beq_eq_false_iff_ne.2 h1⟩
set_option maxHeartbeats 4000000 in
theorem refSame_any : ∀ (x : Ex), SameC 9 x := by
  refine Ex.byKids fun k o vk vn vs nm kids ih y cs ds w h1 h2 => ?_
  obtain ⟨A, n, c, rfl, hn, hnc, hcm, -, hk1⟩ := ex_open h1
  obtain ⟨k', o', vk', vn', vs', nm', kids'⟩ := y
  obtain ⟨A', n', c', rfl, hn', -, -, -, hk2⟩ := ex_open h2
  rw [same_mk]
  obtain ⟨r, hr⟩ : ∃ r, (decide (k = k' ∧ o = o' ∧ (vk = vk' ∧ vn = vn' ∧ vs = vs') ∧ nm = nm') && sameL kids kids') = r := ⟨_, rfl⟩
  rw [hr]
  have HR := Lib.hid hr
  clear hr
  obtain ⟨W, hW⟩ : ∃ W, (w.alloc (.cells #[.int .i64 k, .int .i64 o, .int .i64 vk, .int .i64 vn, .string (txt vs), .string (txt nm), .slice A n c] 32)).alloc (.cells #[.int .i64 k', .int .i64 o', .int .i64 vk', .int .i64 vn', .string (txt vs'), .string (txt nm'), .slice A' n' c'] 32) = W := ⟨_, rfl⟩
  have hb : Below w.heap.size w W := by rw [← hW]; exact al (al (Below.refl _ _) _) _
  have x1 : Cel W w.heap.size 32 #[.int .i64 k, .int .i64 o, .int .i64 vk, .int .i64 vn, .string (txt vs), .string (txt nm), .slice A n c] := by rw [← hW]; exact (Cel.new w _ _ rfl).alloc _
  have x2 : Cel W (w.heap.size + 1) 32 #[.int .i64 k', .int .i64 o', .int .i64 vk', .int .i64 vn', .string (txt vs'), .string (txt nm'), .slice A' n' c'] := by rw [← hW]; exact Cel.new _ _ _ (by simp)
  have HB := Lib.hid hb
  have HL := Lib.hid (show Calls Tryz.prog 22 #[.slice A n c, .slice A' n' c'] W fun e w' => e = .returned (.bool (sameL kids kids')) ∧ Below W.heap.size W w' from by
    rw [hn, hn']
    exact refList_of kids ih kids' A A' c c' W (by omega) (KidsIn.to (fun b h => Nat.lt_of_lt_of_le h hb.size) (fun p hp => hb.cell hp) hk1) (KidsIn.to (fun b h => Nat.lt_of_lt_of_le h hb.size) (fun p hp => hb.cell hp) hk2))
  have c0 := x1.at_ 0
  have c1 := x1.at_ 1
  have c2 := x1.at_ 2
  have c3 := x1.at_ 3
  have c4 := x1.at_ 4
  have c5 := x1.at_ 5
  have c6 := x1.at_ 6
  have d0 := x2.at_ 0
  have d1 := x2.at_ 1
  have d2 := x2.at_ 2
  have d3 := x2.at_ 3
  have d4 := x2.at_ 4
  have d5 := x2.at_ 5
  have d6 := x2.at_ 6
  clear h1 h2 hk1 hk2 x1 x2 ih hb hn hn' hnc hcm
  by_cases e0 : k = k'
  case neg =>
    have t1 : (k != k') = true := bne_yes e0
    have HF := Lib.hid (show false = r from by have := HR.out; rw [decide_eq_false (fun g => e0 g.1), Bool.false_and] at this; exact this)
    go_enter Tryz.func9, Tryz.ntmps9
    go_wp2
    go_ret
    exact ⟨rb HF.out, HB.out⟩
  subst e0
  by_cases e0 : o = o'
  case neg =>
    have t1 : (o != o') = true := bne_yes e0
    have HF := Lib.hid (show false = r from by have := HR.out; rw [decide_eq_false (fun g => e0 g.2.1), Bool.false_and] at this; exact this)
    go_enter Tryz.func9, Tryz.ntmps9
    go_wp2
    go_ret
    exact ⟨rb HF.out, HB.out⟩
  subst e0
  by_cases e0 : vk = vk'
  case neg =>
    have HF := Lib.hid (show false = r from by have := HR.out; rw [decide_eq_false (fun g => e0 g.2.2.1.1), Bool.false_and] at this; exact this)
    go_enter Tryz.func9, Tryz.ntmps9
    go_wp2
    go_ret
    exact ⟨rb HF.out, HB.out⟩
  subst e0
  by_cases e0 : vn = vn'
  case neg =>
    have HF := Lib.hid (show false = r from by have := HR.out; rw [decide_eq_false (fun g => e0 g.2.2.1.2.1), Bool.false_and] at this; exact this)
    go_enter Tryz.func9, Tryz.ntmps9
    go_wp2
    go_ret
    exact ⟨rb HF.out, HB.out⟩
  subst e0
  by_cases e0 : vs = vs'
  case neg =>
    obtain ⟨t3, t4, t5⟩ := txt_ne e0
    have HF := Lib.hid (show false = r from by have := HR.out; rw [decide_eq_false (fun g => e0 g.2.2.1.2.2), Bool.false_and] at this; exact this)
    go_enter Tryz.func9, Tryz.ntmps9
    go_wp2
    go_ret
    exact ⟨rb HF.out, HB.out⟩
  subst e0
  by_cases e0 : nm = nm'
  case neg =>
    obtain ⟨t3, t4, t5⟩ := txt_ne e0
    have HF := Lib.hid (show false = r from by have := HR.out; rw [decide_eq_false (fun g => e0 g.2.2.2), Bool.false_and] at this; exact this)
    go_enter Tryz.func9, Tryz.ntmps9
    go_wp2
    go_ret
    exact ⟨rb HF.out, HB.out⟩
  subst e0
  have HF := Lib.hid (show sameL kids kids' = r from by have := HR.out; rw [decide_eq_true ⟨rfl, rfl, ⟨rfl, rfl, rfl⟩, rfl⟩, Bool.true_and] at this; exact this)
  go_enter Tryz.func9, Tryz.ntmps9
  go_wp2_with (go_at_call 22; (with_reducible refine HL.out.mono ?_); rintro e' w2 ⟨rfl, hb2⟩; have HB2 := Lib.hid (Mem.on HB.out hb2); clear hb2)
  go_ret
  exact ⟨rb HF.out, HB2.out⟩
end Go.Proofs.YtgbaolafedkbdaaGreatDoor.Ep
/- Has a tree few parts? The document's count (registrarref10.count, Few). -/
namespace Go.Proofs.YtgbaolafedkbdaaGreatDoor.Ep
open Go.RowKit Go.Proofs.YtgbaolafedkbdaaGreatDoor.Mem Go.Proofs.YtgbaolafedkbdaaGreatDoor.Right
set_option linter.unusedVariables false

/-- What count answers. -/
def cntR : Option Nat → Array Value
  | none => #[.int .i64 0, .bool false]
  | some m => #[.int .i64 (m : Int), .bool true]
theorem cnt_mk (k o vk vn : Int) (vs nm : List UInt8) (kids : List Ex) (n : Nat) : cnt (.mk k o vk vn vs nm kids) n = if n = 0 ∨ 12 < kids.length ∨ 100 < nm.length ∨ 100 < vs.length then none else cntL kids (n - 1) := by rw [cnt]
theorem cntL_nil (n : Nat) : cntL [] n = some n := by rw [cntL]
theorem cntL_cons (x : Ex) (l : List Ex) (n : Nat) : cntL (x :: l) n = match cnt x n with | none => none | some m => cntL l m := by rw [cntL]; rfl
theorem cnt_le {e : Ex} {n m : Nat} (h : cnt e n = some m) : m ≤ n := by have := cnt_size h; omega
set_option maxHeartbeats 4000000 in
theorem count_any : ∀ (e : Ex) (cs : List Value) (n : Nat) (w : World), ExAt w w.heap.size e cs → n ≤ 1000 →
    Calls Tryz.prog 23 #[.agg cs.toArray, .int .i64 (n : Int)] w fun x w' => x = .returned (.tuple (cntR (cnt e n))) ∧ Below w.heap.size w w' := by
  refine Ex.byKids fun k o vk vn vs nm kids ih cs n w h hn => ?_
  obtain ⟨A, kn, c, rfl, hkn, hc1, hc2, hc3, hk⟩ := ex_open h
  rw [cnt_mk]
  obtain ⟨nb, hnb⟩ : ∃ nb, txt nm = nb := ⟨_, rfl⟩
  obtain ⟨vb, hvb⟩ : ∃ vb, txt vs = vb := ⟨_, rfl⟩
  have hns : nb.size = nm.length := by rw [← hnb]; rfl
  have hvs : vb.size = vs.length := by rw [← hvb]; rfl
  rw [hnb, hvb]
  have HB0 := Lib.hid (al (Below.refl w.heap.size w) (.cells #[.int .i64 k, .int .i64 o, .int .i64 vk, .int .i64 vn, .string vb, .string nb, .slice A kn c] 32))
  have HN := Lib.hid hkn
  have t1c : 12 < kids.length ↔ 12 < kn := by rw [hkn]
  clear hkn
  by_cases h0 : n = 0
  · subst h0
    rw [if_pos (.inl rfl)]
    go_enter Tryz.func23, Tryz.ntmps23
    go_wp2
    go_ret2
    exact ⟨rfl, HB0.out⟩
  have t0 : decide ((n : Int) ≤ 0) = false := decide_eq_false (by omega)
  by_cases h1 : 12 < kids.length
  · rw [if_pos (.inr (.inl h1))]
    have t1 : decide (12 < (kn : Int)) = true := decide_eq_true (by have := t1c.1 h1; omega)
    clear h1 t1c
    go_enter Tryz.func23, Tryz.ntmps23
    go_wp2
    go_ret2
    exact ⟨rfl, HB0.out⟩
  have t1 : decide (12 < (kn : Int)) = false := decide_eq_false (fun g => h1 (t1c.2 (by omega)))
  have h12 : kn ≤ 12 := by omega
  by_cases h2 : 100 < nm.length
  · rw [if_pos (.inr (.inr (.inl h2)))]
    have t2 : decide (100 < (nb.size : Int)) = true := decide_eq_true (by omega)
    go_enter Tryz.func23, Tryz.ntmps23
    go_wp2
    go_ret2
    exact ⟨rfl, HB0.out⟩
  have t2 : decide (100 < (nb.size : Int)) = false := decide_eq_false (by omega)
  by_cases h3 : 100 < vs.length
  · rw [if_pos (.inr (.inr (.inr h3)))]
    have t3 : decide (100 < (vb.size : Int)) = true := decide_eq_true (by omega)
    go_enter Tryz.func23, Tryz.ntmps23
    go_wp2
    go_ret2
    exact ⟨rfl, HB0.out⟩
  have t3 : decide (100 < (vb.size : Int)) = false := decide_eq_false (by omega)
  rw [if_neg (by omega)]
  have HK := Lib.hid hk
  obtain ⟨n1, hn1⟩ : ∃ n1, n - 1 = n1 := ⟨_, rfl⟩
  have hn1' : (n : Int) - 1 = (n1 : Int) := by omega
  rw [hn1]
  clear hk h hnb hvb hns hvs hn1 h1 h2 h3 hc1 hc2 hc3 t1c
  go_enter Tryz.func23, Tryz.ntmps23
  go_wp2
  go_loopw [6, 1] (fun i l wr => ∃ (j m : Nat), j ≤ kn ∧ m ≤ 1000 ∧ i = .int .i64 (j : Int) ∧ l = .int .i64 (m : Int) ∧ Hid (cntL kids n1 = cntL (kids.drop j) m) ∧ Hid (Below (w.alloc (.cells #[.int .i64 k, .int .i64 o, .int .i64 vk, .int .i64 vn, .string vb, .string nb, .slice A kn c] 32)).heap.size (w.alloc (.cells #[.int .i64 k, .int .i64 o, .int .i64 vk, .int .i64 vn, .string vb, .string nb, .slice A kn c] 32)) wr)) (fun i _ _ => kn + 1 - (intOf i).toNat)
  case atStart => exact ⟨0, n1, Nat.zero_le _, by omega, rfl, rfl, Lib.hid (by rw [List.drop_zero]), Lib.hid (Below.refl _ _)⟩
  case round =>
    obtain ⟨j, m, hj, hm, rfl, rfl, HL, HB⟩ := hrel
    have HBw := Lib.hid (HB0.out.trans (HB.out.mono HB0.out.size))
    have d6 := HB.out.cell (p := ⟨w.heap.size, 6, none⟩) (by simp)
    by_cases hlt : j < kn
    · obtain ⟨x, hx⟩ := kid_some (l := kids) (j := j) (by have := HN.out; omega)
      obtain ⟨k', o', vk', vn', vs', nm', ks', A', n', c', b, p, e, rfl, hb, hn', c0, c1, c2, c3, c4, c5, c6, hin⟩ := kid_at HK.out hx
      have HI : ∀ W, Below w.heap.size w W → Calls Tryz.prog 23 #[exV k' o' vk' vn' (txt vs') (txt nm') A' n' c', .int .i64 (m : Int)] W fun x' w' => x' = .returned (.tuple (cntR (cnt x m))) ∧ Below W.heap.size W w' := fun W hW => ih x (kid_mem hx) _ m W (ExAt.on hin hW) hm
      rw [drop_kid hx, cntL_cons] at HL
      have c0 := (HBw.out.cell hb).trans c0
      have c1 := (HBw.out.cell hb).trans c1
      have c2 := (HBw.out.cell hb).trans c2
      have c3 := (HBw.out.cell hb).trans c3
      have c4 := (HBw.out.cell hb).trans c4
      have c5 := (HBw.out.cell hb).trans c5
      have c6 := (HBw.out.cell hb).trans c6
      have tl : decide ((j : Int) < (kn : Int)) = true := decide_eq_true (by omega)
      clear hin hn' e
      cases hcx : cnt x m with
      | none =>
        rw [hcx] at HI HL
        simp only [cntR] at HI
        have HI := Lib.hid HI
        go_wp2_with (go_at_call 23; (with_reducible refine (HI.out _ HBw.out).mono ?_); rintro e' w2 ⟨rfl, hb2⟩; have HB2 := Lib.hid hb2; clear hb2)
        go_ret2
        exact ⟨by rw [HL.out]; rfl, Mem.on HBw.out HB2.out⟩
      | some m' =>
        rw [hcx] at HI HL
        simp only [cntR] at HI
        have hm' := cnt_le hcx
        have HI := Lib.hid HI
        go_wp2_with (go_at_call 23; (with_reducible refine (HI.out _ HBw.out).mono ?_); rintro e' w2 ⟨rfl, hb2⟩; have HB2 := Lib.hid hb2; clear hb2)
        go_roundw
        case rel => exact ⟨j + 1, m', by omega, by omega, by go_num, rfl, HL, Lib.hid (HB.out.trans (HB2.out.mono HB.out.size))⟩
        case measure => simp [intOf]; omega
    · have tl : decide ((j : Int) < (kn : Int)) = false := decide_eq_false (by omega)
      have hd : kids.drop j = [] := List.drop_eq_nil_of_le (by have := HN.out; omega)
      rw [hd, cntL_nil] at HL
      go_wp2
      go_ret2
      exact ⟨by rw [HL.out]; rfl, HBw.out⟩
theorem few_any (e : Ex) (cs : List Value) (n : Nat) (w : World) (h : ExAt w w.heap.size e cs) (hn : n ≤ 1000) :
    Calls Tryz.prog 10 #[.agg cs.toArray, .int .i64 (n : Int)] w fun x w' => x = .returned (.bool (cnt e n).isSome) ∧ Below w.heap.size w w' := by
  have HC : ∀ W, Below w.heap.size w W → Calls Tryz.prog 23 #[.agg cs.toArray, .int .i64 (n : Int)] W fun x w' => x = .returned (.tuple (cntR (cnt e n))) ∧ Below W.heap.size W w' := fun W hW => count_any e cs n W (h.on hW) hn
  obtain ⟨k, o, vk, vn, vs, nm, kids⟩ := e
  obtain ⟨A, kn, c, rfl, -⟩ := ex_open h
  have HB0 := Lib.hid (al (Below.refl w.heap.size w) (.cells #[.int .i64 k, .int .i64 o, .int .i64 vk, .int .i64 vn, .string (txt vs), .string (txt nm), .slice A kn c] 32))
  cases hc : cnt (.mk k o vk vn vs nm kids) n with
  | none =>
    rw [hc] at HC
    simp only [cntR] at HC
    have HC := Lib.hid HC
    clear h
    go_enter Tryz.func10, Tryz.ntmps10
    go_wp2_with (go_at_call 23; (with_reducible refine (HC.out _ HB0.out).mono ?_); rintro e' w2 ⟨rfl, hb2⟩; have HB2 := Lib.hid hb2; clear hb2)

    go_ret
    exact ⟨rfl, Mem.on HB0.out HB2.out⟩
  | some m =>
    rw [hc] at HC
    simp only [cntR] at HC
    have HC := Lib.hid HC
    clear h
    go_enter Tryz.func10, Tryz.ntmps10
    go_wp2_with (go_at_call 23; (with_reducible refine (HC.out _ HB0.out).mono ?_); rintro e' w2 ⟨rfl, hb2⟩; have HB2 := Lib.hid hb2; clear hb2)
    go_ret
    exact ⟨rfl, Mem.on HB0.out HB2.out⟩
end Go.Proofs.YtgbaolafedkbdaaGreatDoor.Ep
/- How high a tree is: the program's way, which hands its parts to a function, and the document's. -/
namespace Go.Proofs.YtgbaolafedkbdaaGreatDoor.Ep
open Go.RowKit Go.Proofs.YtgbaolafedkbdaaGreatDoor.Mem Go.Proofs.YtgbaolafedkbdaaGreatDoor.Right
set_option linter.unusedVariables false

/-! ### The document's -/
set_option maxHeartbeats 4000000 in
theorem refHeight_any : ∀ (e : Ex) (cs : List Value) (w : World), ExAt w w.heap.size e cs → size e ≤ 1000000 →
    Calls Tryz.prog 21 #[.agg cs.toArray] w fun x w' => x = .returned (.int .i64 (hgt e : Int)) ∧ Below w.heap.size w w' := by
  refine Ex.byKids fun k o vk vn vs nm kids ih cs w h hs => ?_
  obtain ⟨A, kn, c, rfl, hkn, -, -, -, hk⟩ := ex_open h
  rw [size] at hs
  rw [hgt_mk]
  have HB0 := Lib.hid (al (Below.refl w.heap.size w) (.cells #[.int .i64 k, .int .i64 o, .int .i64 vk, .int .i64 vn, .string (txt vs), .string (txt nm), .slice A kn c] 32))
  have HK := Lib.hid hk
  have HN := Lib.hid hkn
  have HSZ := Lib.hid hs
  have hkm : kn ≤ 1000000 := by have := sizeL_len kids; omega
  clear hk h hkn hs
  go_enter Tryz.func21, Tryz.ntmps21
  go_wp2
  go_loopw [4, 3] (fun i l wr => ∃ (j m : Nat), j ≤ kn ∧ m ≤ 1000000 ∧ i = .int .i64 (j : Int) ∧ l = .int .i64 (m : Int) ∧ Hid (m = hgtL (kids.take j)) ∧ Hid (Below (w.alloc (.cells #[.int .i64 k, .int .i64 o, .int .i64 vk, .int .i64 vn, .string (txt vs), .string (txt nm), .slice A kn c] 32)).heap.size (w.alloc (.cells #[.int .i64 k, .int .i64 o, .int .i64 vk, .int .i64 vn, .string (txt vs), .string (txt nm), .slice A kn c] 32)) wr)) (fun i _ _ => kn + 1 - (intOf i).toNat)
  case atStart => exact ⟨0, 0, Nat.zero_le _, by omega, rfl, rfl, Lib.hid (by rw [List.take_zero, hgtL]), Lib.hid (Below.refl _ _)⟩
  case round =>
    obtain ⟨j, m, hj, hm, rfl, rfl, HL, HB⟩ := hrel
    have HBw := Lib.hid (HB0.out.trans (HB.out.mono HB0.out.size))
    have d6 := HB.out.cell (p := ⟨w.heap.size, 6, none⟩) (by simp)
    by_cases hlt : j < kn
    · obtain ⟨x, hx⟩ := kid_some (l := kids) (j := j) (by have := HN.out; omega)
      obtain ⟨k', o', vk', vn', vs', nm', ks', A', n', c', b, p, e, rfl, hb, hn', c0, c1, c2, c3, c4, c5, c6, hin⟩ := kid_at HK.out hx
      have hsx : size x ≤ sizeL kids := sizeL_mem (kid_mem hx)
      obtain ⟨g, hg⟩ : ∃ g, hgt x = g := ⟨_, rfl⟩
      have hg6 : g ≤ 1000000 := by have := hgt_size x; have := HSZ.out; omega
      have HI : ∀ W, Below w.heap.size w W → Calls Tryz.prog 21 #[exV k' o' vk' vn' (txt vs') (txt nm') A' n' c'] W fun x' w' => x' = .returned (.int .i64 (g : Int)) ∧ Below W.heap.size W w' := fun W hW => by
        rw [← hg]
        exact ih x (kid_mem hx) _ W (ExAt.on hin hW) (by have := HSZ.out; omega)
      have HI := Lib.hid HI
      have HT := Lib.hid (show hgtL (kids.take (j + 1)) = max m g by rw [List.take_add_one, hx, HL.out, ← hg]; exact hgtL_snoc _ _)
      have c0 := (HBw.out.cell hb).trans c0
      have c1 := (HBw.out.cell hb).trans c1
      have c2 := (HBw.out.cell hb).trans c2
      have c3 := (HBw.out.cell hb).trans c3
      have c4 := (HBw.out.cell hb).trans c4
      have c5 := (HBw.out.cell hb).trans c5
      have c6 := (HBw.out.cell hb).trans c6
      have tl : decide ((j : Int) < (kn : Int)) = true := decide_eq_true (by omega)
      clear hin hn' e hx hg hsx
      by_cases hgm : m < g
      · have tg : decide ((m : Int) < (g : Int)) = true := decide_eq_true (by omega)
        go_wp2_with (go_at_call 21; (with_reducible refine (HI.out _ HBw.out).mono ?_); rintro e' w2 ⟨rfl, hb2⟩; have HB2 := Lib.hid hb2; clear hb2)
        go_roundw
        case rel => exact ⟨j + 1, g, by omega, by omega, by go_num, rfl, Lib.hid (by rw [HT.out]; omega), Lib.hid (HB.out.trans (HB2.out.mono HB.out.size))⟩
        case measure => simp [intOf]; omega
      · have tg : decide ((m : Int) < (g : Int)) = false := decide_eq_false (by omega)
        go_wp2_with (go_at_call 21; (with_reducible refine (HI.out _ HBw.out).mono ?_); rintro e' w2 ⟨rfl, hb2⟩; have HB2 := Lib.hid hb2; clear hb2)
        go_roundw
        case rel => exact ⟨j + 1, m, by omega, by omega, by go_num, rfl, Lib.hid (by rw [HT.out]; omega), Lib.hid (HB.out.trans (HB2.out.mono HB.out.size))⟩
        case measure => simp [intOf]; omega
    · have tl : decide ((j : Int) < (kn : Int)) = false := decide_eq_false (by omega)
      have hd : kids.take j = kids := List.take_of_length_le (by have := HN.out; omega)
      rw [hd] at HL
      go_wp2
      go_ret
      exact ⟨ri (by rw [← HL.out]; omega), HBw.out⟩
end Go.Proofs.YtgbaolafedkbdaaGreatDoor.Ep
/- A tree that came in as an argument. -/
namespace Go.Proofs.YtgbaolafedkbdaaGreatDoor.Ep
open Go.ChangeShapes Go.WideShapes Go.ChangeAt Go.RowKit Go.Proofs.YtgbaolafedkbdaaGreatDoor.Mem Go.Proofs.YtgbaolafedkbdaaGreatDoor.Right
set_option linter.unusedVariables false

/-- How this program has expressions. -/
theorem hasEx : HasEx Tryz.prog 32 29 30 where
  ex := ⟨_, _, _, _, _, Tryz.underlying32, ⟨rfl, rfl, rfl, rfl, rfl⟩, rfl, rfl, ⟨Tryz.underlying3, by kernel_rfl⟩, ⟨Tryz.underlying3, by kernel_rfl⟩, ⟨Tryz.underlying9, by kernel_rfl⟩⟩
  val := ⟨_, _, _, Tryz.underlying29, ⟨rfl, rfl, rfl⟩, ⟨Tryz.underlying3, by kernel_rfl⟩, ⟨Tryz.underlying3, by kernel_rfl⟩, ⟨Tryz.underlying9, by kernel_rfl⟩⟩
  list := Tryz.underlying30
  size := ⟨by kernel_rfl, by kernel_rfl, by kernel_rfl⟩
section
variable {H : Type} {enc : TypeId × Value → H} {W : World}
set_option maxRecDepth 100000 in
theorem open_exv {r : Reach} {b0 : Nat} {v : Value} {d : DataW H} {p : List MemPlace} (hv : Value.okWide Tryz.prog W r b0 32 v) (h : DataW.Trod enc Tryz.prog W 0 (fun _ => true) true 32 v d p) :
    ∃ cs e, v = .agg (List.toArray cs) ∧ ExAt W W.heap.size e cs ∧ Fine e := by
  obtain ⟨cs, rfl, hsz⟩ := okWide_struct Tryz.underlying32 hv
  obtain ⟨fuel, hf⟩ := h
  obtain ⟨e, h1, h2⟩ := open_ex hasEx fuel cs.toList _ hf
  exact ⟨cs.toList, e, rfl, h1, h2⟩
end
end Go.Proofs.YtgbaolafedkbdaaGreatDoor.Ep
