/- What two values make: value.Math, by the document's words. -/
import Derived.Test.YtbdippgamlknbaaGreatDoorKs08
namespace Go.Proofs.YtbdippgamlknbaaGreatDoor.Eo
open Go.RowKit Go.Proofs.YtbdippgamlknbaaGreatDoor.Mem Go.Proofs.YtbdippgamlknbaaGreatDoor.Right Go.Proofs.YtbdippgamlknbaaGreatDoor.Lx Go.Proofs.YtbdippgamlknbaaGreatDoor.Ep Go.Proofs.YtbdippgamlknbaaGreatDoor.Ev
set_option linter.unusedVariables false
set_option linter.unusedSimpArgs false
/-- The kind that a sign takes. -/
def tak (o : Int) : Int := if o = 14 then 3 else 1
theorem takes_any (o : Int) (h1 : 9 ≤ o) (h2 : o ≤ 14) (w : World) : Calls Tryz.prog 246 #[.int .i64 o] w fun e w' => e = .returned (.int .i64 (tak o)) ∧ w = w' := by
  have h : o = 9 ∨ o = 10 ∨ o = 11 ∨ o = 12 ∨ o = 13 ∨ o = 14 := by omega
  clear h1 h2
  rcases h with rfl | rfl | rfl | rfl | rfl | rfl
  all_goals
    go_enter Tryz.func246, Tryz.ntmps246
    go_wp2
    go_ret
    exact ⟨rfl, rfl⟩
def mayB (k kd : Int) : Bool := decide (k = kd) || decide (k = 0)
set_option maxHeartbeats 400000 in
theorem mayBe_any (k n kd : Int) (s : ByteArray) (w : World) : Calls Tryz.prog 247 #[.agg #[.int .i64 k, .int .i64 n, .string s], .int .i64 kd] w fun e w' => e = .returned (.bool (mayB k kd)) ∧ Below w.heap.size w w' := by
  by_cases h1 : k = kd
  · subst h1
    have HR := Lib.hid (show mayB k k = true from by unfold mayB; simp)
    have t0 : (k == k) = true := by simp
    go_enter Tryz.func247, Tryz.ntmps247
    go_wp2
    go_ret
    exact ⟨by rw [HR.out]; rfl, al (Below.refl _ _) _⟩
  have t1 := Right.beq_no h1
  by_cases h0 : k = 0
  · subst h0
    have HR := Lib.hid (show mayB 0 kd = true from by unfold mayB; simp)
    clear h1
    go_enter Tryz.func247, Tryz.ntmps247
    go_wp2
    go_ret
    exact ⟨by rw [HR.out]; rfl, al (Below.refl _ _) _⟩
  · have HR := Lib.hid (show mayB k kd = false from by unfold mayB; simp [h1, h0])
    have t0 := Right.beq_no h0
    clear h1 h0
    go_enter Tryz.func247, Tryz.ntmps247
    go_wp2
    go_ret
    exact ⟨by rw [HR.out]; rfl, al (Below.refl _ _) _⟩
/-- What two numbers make. -/
def ctV (o a b : Int) : Int := if o = 9 then Num.rv (a + b) else if o = 10 then Num.rv (a - b) else if o = 11 then Num.rv (a * b) else if o = 12 then Num.ov a b else Num.rs a b
def ctE (o a b : Int) : Int := if o = 9 then Num.re (a + b) else if o = 10 then Num.re (a - b) else if o = 11 then Num.re (a * b) else Num.oe a b
theorem ct_is {o : Int} (a b : Int) : numV (ctV o a b) (ctE o a b) = mathN o a b := by
  unfold ctV ctE mathN
  repeat' split
  all_goals first | rfl | omega
def i64r (a : Int) : Prop := -9223372036854775808 ≤ a ∧ a ≤ 9223372036854775807
set_option maxHeartbeats 400000 in
theorem count_any (o a b : Int) (h1 : 9 ≤ o) (h2 : o ≤ 13) (ha : i64r a) (hb : i64r b) (w : World) : Calls Tryz.prog 250 #[.int .i64 o, .int .i64 a, .int .i64 b] w fun e w' => e = .returned (.tuple #[.int .i64 (ctV o a b), .int .i64 (ctE o a b)]) ∧ w = w' := by
  have h : o = 9 ∨ o = 10 ∨ o = 11 ∨ o = 12 ∨ o = 13 := by omega
  clear h1 h2
  have H9 := Lib.hid (show ∀ W, _ from Num.plus_any a b ha.1 ha.2 hb.1 hb.2)
  have H10 := Lib.hid (show ∀ W, _ from Num.minus_any a b ha.1 ha.2 hb.1 hb.2)
  have H11 := Lib.hid (show ∀ W, _ from Num.times_any a b ha.1 ha.2 hb.1 hb.2)
  have H12 := Lib.hid (show ∀ W, _ from Num.over_any a b ha.1 ha.2 hb.1 hb.2)
  have H13 := Lib.hid (show ∀ W, _ from Num.rest_any a b ha.1 ha.2 hb.1 hb.2)
  clear ha hb
  rcases h with rfl | rfl | rfl | rfl | rfl
  · go_enter Tryz.func250, Tryz.ntmps250
    go_wp2_with (go_at_call 276; (with_reducible refine (H9.out _).mono ?_); rintro e w1 ⟨rfl, rfl⟩)
    go_ret2
    exact ⟨rfl, rfl⟩
  · go_enter Tryz.func250, Tryz.ntmps250
    go_wp2_with (go_at_call 206; (with_reducible refine (H10.out _).mono ?_); rintro e w1 ⟨rfl, rfl⟩)
    go_ret2
    exact ⟨rfl, rfl⟩
  · go_enter Tryz.func250, Tryz.ntmps250
    go_wp2_with (go_at_call 277; (with_reducible refine (H11.out _).mono ?_); rintro e w1 ⟨rfl, rfl⟩)
    go_ret2
    exact ⟨rfl, rfl⟩
  · go_enter Tryz.func250, Tryz.ntmps250
    go_wp2_with (go_at_call 278; (with_reducible refine (H12.out _).mono ?_); rintro e w1 ⟨rfl, rfl⟩)
    go_ret2
    exact ⟨rfl, rfl⟩
  · go_enter Tryz.func250, Tryz.ntmps250
    go_wp2_with (go_at_call 279; (with_reducible refine (H13.out _).mono ?_); rintro e w1 ⟨rfl, rfl⟩)
    go_ret2
    exact ⟨rfl, rfl⟩
set_option maxHeartbeats 400000 in
theorem numV_any (n f : Int) (w : World) : Calls Tryz.prog 249 #[.int .i64 n, .int .i64 f] w (ValE w (numV n f)) := by
  by_cases h0 : f = 0
  · subst h0
    rw [show numV n 0 = (⟨1, n, []⟩, 0) from if_pos rfl]
    go_enter Tryz.func249, Tryz.ntmps249
    go_wp2
    (try simp only [Exit.inBlock, Exit.then])
    refine bodyPost_ret (v := .tuple #[.agg #[.int .i64 1, .int .i64 n, .string ⟨#[]⟩], .int .i64 0]) (by simp [results, Tryz.results249, go_sem]) rfl ?_
    exact ⟨by rfl, al (Below.refl _ _) _⟩
  · have t0 : (f != 0) = true := bne_yes h0
    rw [show numV n f = (nul, f) from if_neg h0]
    clear h0
    go_enter Tryz.func249, Tryz.ntmps249
    go_wp2
    (try simp only [Exit.inBlock, Exit.then])
    refine bodyPost_ret (v := .tuple #[.agg #[.int .i64 0, .int .i64 0, .string ⟨#[]⟩], .int .i64 f]) (by simp [results, Tryz.results249, go_sem]) rfl ?_
    exact ⟨by rfl, al (Below.refl _ _) _⟩
/-- One text behind the other. -/
def catV (a b : List UInt8) : Vv × Int := if 32 < a.length + b.length then (nul, 3) else (⟨3, 0, a ++ b⟩, 0)
theorem txt_app (a b : List UInt8) : txt a ++ txt b = txt (a ++ b) := by
  apply Right.l_inj
  simp [txt, ByteArray.data_append]
set_option maxHeartbeats 400000 in
theorem join_any (a b : List UInt8) (ha : a.length ≤ 1000) (hb : b.length ≤ 1000) (w : World) : Calls Tryz.prog 248 #[.string (txt a), .string (txt b)] w (ValE w (catV a b)) := by
  have hab := txt_app a b
  have hsa : (txt a).size = a.length := rfl
  have hsb : (txt b).size = b.length := rfl
  obtain ⟨x, hx⟩ : ∃ x, txt a = x := ⟨_, rfl⟩
  obtain ⟨y, hy⟩ : ∃ x, txt b = x := ⟨_, rfl⟩
  rw [hx] at hsa hab ⊢
  rw [hy] at hsb hab ⊢
  have hxs : x.size ≤ 1000 := by omega
  have hys : y.size ≤ 1000 := by omega
  by_cases hl : 32 < a.length + b.length
  · rw [show catV a b = (nul, 3) from if_pos hl]
    have t0 : decide (32 < (x.size : Int) + (y.size : Int)) = true := decide_eq_true (by omega)
    clear hab hsa hsb hx hy ha hb hl
    go_enter Tryz.func248, Tryz.ntmps248
    go_wp2
    (try simp only [Exit.inBlock, Exit.then])
    refine bodyPost_ret (v := .tuple #[.agg #[.int .i64 0, .int .i64 0, .string ⟨#[]⟩], .int .i64 3]) (by simp [results, Tryz.results248, go_sem]) rfl ?_
    exact ⟨by rfl, al (Below.refl _ _) _⟩
  · rw [show catV a b = (⟨3, 0, a ++ b⟩, 0) from if_neg hl]
    have t0 : decide (32 < (x.size : Int) + (y.size : Int)) = false := decide_eq_false (by omega)
    have HAB := Lib.hid hab
    have HM : Hid (x.size + y.size ≤ maxLen) := Lib.hid (by unfold maxLen; omega)
    clear hab hsa hsb hx hy ha hb hl
    go_enter Tryz.func248, Tryz.ntmps248
    go_wp2
    (try simp only [Exit.inBlock, Exit.then])
    refine bodyPost_ret (v := .tuple #[.agg #[.int .i64 3, .int .i64 0, .string (x ++ y)], .int .i64 0]) (by simp [results, Tryz.results248, go_sem]) rfl ?_
    exact ⟨by rw [HAB.out], al (Below.refl _ _) _⟩
theorem math_no {o : Int} {a b : Vv} (h : mayB a.k (tak o) = false ∨ mayB b.k (tak o) = false) : mathV o a b = (nul, 11) := by
  unfold mathV
  refine if_pos ?_
  unfold mayB tak at h
  rcases h with h | h <;> simp at h <;> omega
theorem math_ok {o : Int} {a b : Vv} (h1 : mayB a.k (tak o) = true) (h2 : mayB b.k (tak o) = true) : mathV o a b = if a.k = 0 ∨ b.k = 0 then (nul, 0) else if o = 14 then catV a.s b.s else mathN o a.n b.n := by
  unfold mathV
  have e : ¬ ((a.k ≠ 0 ∧ a.k ≠ (if o = 14 then 3 else 1)) ∨ (b.k ≠ 0 ∧ b.k ≠ (if o = 14 then 3 else 1))) := by
    unfold mayB tak at h1 h2
    simp at h1 h2
    omega
  rw [if_neg e]
  split
  · rfl
  split
  · unfold catV
    by_cases hl : 32 < a.s.length + b.s.length
    · rw [if_pos hl, if_pos (by omega)]
    · rw [if_neg hl, if_neg (by omega)]
  · rfl
set_option maxRecDepth 20000 in
set_option maxHeartbeats 1000000 in
theorem math_any (o : Int) (a b : Vv) (h1 : 9 ≤ o) (h2 : o ≤ 14) (ha : Vb a) (hb : Vb b) (w : World) : Calls Tryz.prog 200 #[.int .i64 o, vV a, vV b] w (ValE w (mathV o a b)) := by
  obtain ⟨k1, n1, s1⟩ := a
  obtain ⟨k2, n2, s2⟩ := b
  have HT := Lib.hid (show ∀ W, _ from takes_any o h1 h2)
  have hk : tak o ≠ 0 := by unfold tak; split <;> decide
  have t0 := Right.beq_no hk
  have HNO := Lib.hid (show (mayB k1 (tak o) = false ∨ mayB k2 (tak o) = false) → mathV o ⟨k1, n1, s1⟩ ⟨k2, n2, s2⟩ = (nul, 11) from math_no (o := o) (a := ⟨k1, n1, s1⟩) (b := ⟨k2, n2, s2⟩))
  have HOK := Lib.hid (show mayB k1 (tak o) = true → mayB k2 (tak o) = true → _ from math_ok (o := o) (a := ⟨k1, n1, s1⟩) (b := ⟨k2, n2, s2⟩))
  have HMA := Lib.hid (show ∀ W, _ from mayBe_any k1 n1 (tak o) (txt s1))
  have HMB := Lib.hid (show ∀ W, _ from mayBe_any k2 n2 (tak o) (txt s2))
  have HJ := Lib.hid (show ∀ W, _ from join_any s1 s2 ha.2 hb.2)
  have HC := Lib.hid (show o ≤ 13 → ∀ W, _ from fun h => count_any o n1 n2 h1 h ha.1 hb.1)
  have HTK := Lib.hid (show (o = 14 → tak o = 3) ∧ (o ≠ 14 → tak o = 1 ∧ o ≤ 13) from ⟨fun h => by unfold tak; rw [if_pos h], fun h => ⟨by unfold tak; rw [if_neg h], by omega⟩⟩)
  obtain ⟨kd, hkd⟩ : ∃ kd, tak o = kd := ⟨_, rfl⟩
  obtain ⟨V, hV⟩ : ∃ V, ((w.alloc (.cells #[.int .i64 k1, .int .i64 n1, .string (txt s1)] tVa)).alloc (.cells #[.int .i64 k2, .int .i64 n2, .string (txt s2)] tVa)).alloc (.cells #[.int .i64 0, .int .i64 0, .string ⟨#[]⟩] tVa) = V := ⟨_, rfl⟩
  have HBV := Lib.hid (show Below w.heap.size w V from by rw [← hV]; exact al (al (al (Below.refl _ _) _) _) _)
  have HXA := Lib.hid (show Cel V w.heap.size tVa #[.int .i64 k1, .int .i64 n1, .string (txt s1)] from by rw [← hV]; exact ((Cel.new _ _ _ rfl).alloc _).alloc _)
  have HXB := Lib.hid (show Cel V (w.heap.size + 1) tVa #[.int .i64 k2, .int .i64 n2, .string (txt s2)] from by rw [← hV]; exact (Cel.new _ _ _ (by simp)).alloc _)
  have HXR := Lib.hid (show Cel V (w.heap.size + 1 + 1) tVa #[.int .i64 0, .int .i64 0, .string ⟨#[]⟩] from by rw [← hV]; exact Cel.new _ _ _ (by simp))
  rw [hkd] at HT t0 HNO HOK HMA HMB HTK
  clear hk hkd h1 h2 ha hb
  have x00 := HXA.out.at_ 0
  have x01 := HXA.out.at_ 1
  have x02 := HXA.out.at_ 2
  have y00 := HXB.out.at_ 0
  have y01 := HXB.out.at_ 1
  have y02 := HXB.out.at_ 2
  have z00 := HXR.out.at_ 0
  have z01 := HXR.out.at_ 1
  have z02 := HXR.out.at_ 2
  cases hA : mayB k1 kd with
  | false =>
    rw [HNO.out (.inl hA)]
    rw [hA] at HMA
    clear hA HNO HOK
    go_enter Tryz.func200, Tryz.ntmps200
    go_wp2_with (fail)
    go_at_call 246
    with_reducible refine (HT.out _).mono ?_
    rintro e0 w0 ⟨rfl, rfl⟩
    go_wp2_with (fail)
    go_at_call 247
    with_reducible refine (HMA.out _).mono ?_
    rintro e1 w1 ⟨rfl, hb1⟩
    have HB1 := Lib.hid hb1
    clear hb1
    have a10 := (HXA.out.below HB1.out).at_ 0
    have a11 := (HXA.out.below HB1.out).at_ 1
    have a12 := (HXA.out.below HB1.out).at_ 2
    have b10 := (HXB.out.below HB1.out).at_ 0
    have b11 := (HXB.out.below HB1.out).at_ 1
    have b12 := (HXB.out.below HB1.out).at_ 2
    have r10 := (HXR.out.below HB1.out).at_ 0
    have r11 := (HXR.out.below HB1.out).at_ 1
    have r12 := (HXR.out.below HB1.out).at_ 2
    have o10 := (HXR.out.below HB1.out).open_ 0
    have o11 := (HXR.out.below HB1.out).open_ 1
    have o12 := (HXR.out.below HB1.out).open_ 2
    go_wp2
    (try simp only [Exit.inBlock, Exit.then])
    refine bodyPost_ret (v := .tuple #[.agg #[.int .i64 0, .int .i64 0, .string ⟨#[]⟩], .int .i64 11]) (ret_v rfl rfl (three_set (HXR.out.below HB1.out)) rfl) rfl ?_
    exact ⟨by rfl, below_three (Mem.on HBV.out HB1.out) (show w.heap.size ≤ w.heap.size + 1 + 1 from by omega)⟩
  | true =>
  rw [hA] at HMA
  cases hB : mayB k2 kd with
  | false =>
    rw [HNO.out (.inr hB)]
    rw [hB] at HMB
    clear hA hB HNO HOK
    go_enter Tryz.func200, Tryz.ntmps200
    go_wp2_with (fail)
    go_at_call 246
    with_reducible refine (HT.out _).mono ?_
    rintro e0 w0 ⟨rfl, rfl⟩
    go_wp2_with (fail)
    go_at_call 247
    with_reducible refine (HMA.out _).mono ?_
    rintro e1 w1 ⟨rfl, hb1⟩
    have HB1 := Lib.hid hb1
    clear hb1
    have a10 := (HXA.out.below HB1.out).at_ 0
    have a11 := (HXA.out.below HB1.out).at_ 1
    have a12 := (HXA.out.below HB1.out).at_ 2
    have b10 := (HXB.out.below HB1.out).at_ 0
    have b11 := (HXB.out.below HB1.out).at_ 1
    have b12 := (HXB.out.below HB1.out).at_ 2
    have r10 := (HXR.out.below HB1.out).at_ 0
    have r11 := (HXR.out.below HB1.out).at_ 1
    have r12 := (HXR.out.below HB1.out).at_ 2
    have o10 := (HXR.out.below HB1.out).open_ 0
    have o11 := (HXR.out.below HB1.out).open_ 1
    have o12 := (HXR.out.below HB1.out).open_ 2
    go_wp2_with (fail)
    go_at_call 247
    with_reducible refine (HMB.out _).mono ?_
    rintro e2 w2 ⟨rfl, hb2⟩
    have HB2 := Lib.hid (Mem.on HB1.out hb2)
    clear hb2
    have a20 := (HXA.out.below HB2.out).at_ 0
    have a21 := (HXA.out.below HB2.out).at_ 1
    have a22 := (HXA.out.below HB2.out).at_ 2
    have b20 := (HXB.out.below HB2.out).at_ 0
    have b21 := (HXB.out.below HB2.out).at_ 1
    have b22 := (HXB.out.below HB2.out).at_ 2
    have r20 := (HXR.out.below HB2.out).at_ 0
    have r21 := (HXR.out.below HB2.out).at_ 1
    have r22 := (HXR.out.below HB2.out).at_ 2
    have o20 := (HXR.out.below HB2.out).open_ 0
    have o21 := (HXR.out.below HB2.out).open_ 1
    have o22 := (HXR.out.below HB2.out).open_ 2
    go_wp2
    (try simp only [Exit.inBlock, Exit.then])
    refine bodyPost_ret (v := .tuple #[.agg #[.int .i64 0, .int .i64 0, .string ⟨#[]⟩], .int .i64 11]) (ret_v rfl rfl (three_set (HXR.out.below HB2.out)) rfl) rfl ?_
    exact ⟨by rfl, below_three (Mem.on HBV.out HB2.out) (show w.heap.size ≤ w.heap.size + 1 + 1 from by omega)⟩
  | true =>
  rw [hB] at HMB
  rw [HOK.out hA hB]
  clear hA hB HNO HOK
  by_cases c1 : k1 = 0
  · subst c1
    rw [if_pos (.inl rfl)]
    go_enter Tryz.func200, Tryz.ntmps200
    go_wp2_with (fail)
    go_at_call 246
    with_reducible refine (HT.out _).mono ?_
    rintro e0 w0 ⟨rfl, rfl⟩
    go_wp2_with (fail)
    go_at_call 247
    with_reducible refine (HMA.out _).mono ?_
    rintro e1 w1 ⟨rfl, hb1⟩
    have HB1 := Lib.hid hb1
    clear hb1
    have a10 := (HXA.out.below HB1.out).at_ 0
    have a11 := (HXA.out.below HB1.out).at_ 1
    have a12 := (HXA.out.below HB1.out).at_ 2
    have b10 := (HXB.out.below HB1.out).at_ 0
    have b11 := (HXB.out.below HB1.out).at_ 1
    have b12 := (HXB.out.below HB1.out).at_ 2
    have r10 := (HXR.out.below HB1.out).at_ 0
    have r11 := (HXR.out.below HB1.out).at_ 1
    have r12 := (HXR.out.below HB1.out).at_ 2
    have o10 := (HXR.out.below HB1.out).open_ 0
    have o11 := (HXR.out.below HB1.out).open_ 1
    have o12 := (HXR.out.below HB1.out).open_ 2
    go_wp2_with (fail)
    go_at_call 247
    with_reducible refine (HMB.out _).mono ?_
    rintro e2 w2 ⟨rfl, hb2⟩
    have HB2 := Lib.hid (Mem.on HB1.out hb2)
    clear hb2
    have a20 := (HXA.out.below HB2.out).at_ 0
    have a21 := (HXA.out.below HB2.out).at_ 1
    have a22 := (HXA.out.below HB2.out).at_ 2
    have b20 := (HXB.out.below HB2.out).at_ 0
    have b21 := (HXB.out.below HB2.out).at_ 1
    have b22 := (HXB.out.below HB2.out).at_ 2
    have r20 := (HXR.out.below HB2.out).at_ 0
    have r21 := (HXR.out.below HB2.out).at_ 1
    have r22 := (HXR.out.below HB2.out).at_ 2
    have o20 := (HXR.out.below HB2.out).open_ 0
    have o21 := (HXR.out.below HB2.out).open_ 1
    have o22 := (HXR.out.below HB2.out).open_ 2
    go_wp2
    (try simp only [Exit.inBlock, Exit.then])
    refine bodyPost_ret (v := .tuple #[.agg #[.int .i64 0, .int .i64 0, .string ⟨#[]⟩], .int .i64 0]) (ret_v rfl rfl (three_set (HXR.out.below HB2.out)) rfl) rfl ?_
    exact ⟨by rfl, below_three (Mem.on HBV.out HB2.out) (show w.heap.size ≤ w.heap.size + 1 + 1 from by omega)⟩
  have u1 := Right.beq_no c1
  by_cases c2 : k2 = 0
  · subst c2
    rw [if_pos (.inr rfl)]
    clear c1
    go_enter Tryz.func200, Tryz.ntmps200
    go_wp2_with (fail)
    go_at_call 246
    with_reducible refine (HT.out _).mono ?_
    rintro e0 w0 ⟨rfl, rfl⟩
    go_wp2_with (fail)
    go_at_call 247
    with_reducible refine (HMA.out _).mono ?_
    rintro e1 w1 ⟨rfl, hb1⟩
    have HB1 := Lib.hid hb1
    clear hb1
    have a10 := (HXA.out.below HB1.out).at_ 0
    have a11 := (HXA.out.below HB1.out).at_ 1
    have a12 := (HXA.out.below HB1.out).at_ 2
    have b10 := (HXB.out.below HB1.out).at_ 0
    have b11 := (HXB.out.below HB1.out).at_ 1
    have b12 := (HXB.out.below HB1.out).at_ 2
    have r10 := (HXR.out.below HB1.out).at_ 0
    have r11 := (HXR.out.below HB1.out).at_ 1
    have r12 := (HXR.out.below HB1.out).at_ 2
    have o10 := (HXR.out.below HB1.out).open_ 0
    have o11 := (HXR.out.below HB1.out).open_ 1
    have o12 := (HXR.out.below HB1.out).open_ 2
    go_wp2_with (fail)
    go_at_call 247
    with_reducible refine (HMB.out _).mono ?_
    rintro e2 w2 ⟨rfl, hb2⟩
    have HB2 := Lib.hid (Mem.on HB1.out hb2)
    clear hb2
    have a20 := (HXA.out.below HB2.out).at_ 0
    have a21 := (HXA.out.below HB2.out).at_ 1
    have a22 := (HXA.out.below HB2.out).at_ 2
    have b20 := (HXB.out.below HB2.out).at_ 0
    have b21 := (HXB.out.below HB2.out).at_ 1
    have b22 := (HXB.out.below HB2.out).at_ 2
    have r20 := (HXR.out.below HB2.out).at_ 0
    have r21 := (HXR.out.below HB2.out).at_ 1
    have r22 := (HXR.out.below HB2.out).at_ 2
    have o20 := (HXR.out.below HB2.out).open_ 0
    have o21 := (HXR.out.below HB2.out).open_ 1
    have o22 := (HXR.out.below HB2.out).open_ 2
    go_wp2
    (try simp only [Exit.inBlock, Exit.then])
    refine bodyPost_ret (v := .tuple #[.agg #[.int .i64 0, .int .i64 0, .string ⟨#[]⟩], .int .i64 0]) (ret_v rfl rfl (three_set (HXR.out.below HB2.out)) rfl) rfl ?_
    exact ⟨by rfl, below_three (Mem.on HBV.out HB2.out) (show w.heap.size ≤ w.heap.size + 1 + 1 from by omega)⟩
  have u2 := Right.beq_no c2
  rw [if_neg (by simp [c1, c2])]
  clear c1 c2
  by_cases c3 : o = 14
  · rw [if_pos c3]
    obtain rfl := HTK.out.1 c3
    obtain ⟨⟨⟨vk, vn, vs⟩, f⟩, hR⟩ : ∃ R, catV s1 s2 = R := ⟨_, rfl⟩
    show Calls _ _ _ _ (ValE w (catV s1 s2))
    rw [hR] at HJ ⊢
    clear hR c3 HC HTK
    go_enter Tryz.func200, Tryz.ntmps200
    go_wp2_with (fail)
    go_at_call 246
    with_reducible refine (HT.out _).mono ?_
    rintro e0 w0 ⟨rfl, rfl⟩
    go_wp2_with (fail)
    go_at_call 247
    with_reducible refine (HMA.out _).mono ?_
    rintro e1 w1 ⟨rfl, hb1⟩
    have HB1 := Lib.hid hb1
    clear hb1
    have a10 := (HXA.out.below HB1.out).at_ 0
    have a11 := (HXA.out.below HB1.out).at_ 1
    have a12 := (HXA.out.below HB1.out).at_ 2
    have b10 := (HXB.out.below HB1.out).at_ 0
    have b11 := (HXB.out.below HB1.out).at_ 1
    have b12 := (HXB.out.below HB1.out).at_ 2
    have r10 := (HXR.out.below HB1.out).at_ 0
    have r11 := (HXR.out.below HB1.out).at_ 1
    have r12 := (HXR.out.below HB1.out).at_ 2
    have o10 := (HXR.out.below HB1.out).open_ 0
    have o11 := (HXR.out.below HB1.out).open_ 1
    have o12 := (HXR.out.below HB1.out).open_ 2
    go_wp2_with (fail)
    go_at_call 247
    with_reducible refine (HMB.out _).mono ?_
    rintro e2 w2 ⟨rfl, hb2⟩
    have HB2 := Lib.hid (Mem.on HB1.out hb2)
    clear hb2
    have a20 := (HXA.out.below HB2.out).at_ 0
    have a21 := (HXA.out.below HB2.out).at_ 1
    have a22 := (HXA.out.below HB2.out).at_ 2
    have b20 := (HXB.out.below HB2.out).at_ 0
    have b21 := (HXB.out.below HB2.out).at_ 1
    have b22 := (HXB.out.below HB2.out).at_ 2
    have r20 := (HXR.out.below HB2.out).at_ 0
    have r21 := (HXR.out.below HB2.out).at_ 1
    have r22 := (HXR.out.below HB2.out).at_ 2
    have o20 := (HXR.out.below HB2.out).open_ 0
    have o21 := (HXR.out.below HB2.out).open_ 1
    have o22 := (HXR.out.below HB2.out).open_ 2
    go_wp2_with (go_at_call 248; (with_reducible refine (HJ.out _).mono ?_); rintro e3 w3 ⟨rfl, hb3⟩; have HB3 := Lib.hid (Mem.on HB2.out hb3); clear hb3; have a30 := (HXA.out.below HB3.out).at_ 0; have a31 := (HXA.out.below HB3.out).at_ 1; have a32 := (HXA.out.below HB3.out).at_ 2; have b30 := (HXB.out.below HB3.out).at_ 0; have b31 := (HXB.out.below HB3.out).at_ 1; have b32 := (HXB.out.below HB3.out).at_ 2; have r30 := (HXR.out.below HB3.out).at_ 0; have r31 := (HXR.out.below HB3.out).at_ 1; have r32 := (HXR.out.below HB3.out).at_ 2; have o30 := (HXR.out.below HB3.out).open_ 0; have o31 := (HXR.out.below HB3.out).open_ 1; have o32 := (HXR.out.below HB3.out).open_ 2)
    (try simp only [Exit.inBlock, Exit.then])
    refine bodyPost_ret (v := .tuple #[.agg #[.int .i64 vk, .int .i64 vn, .string (txt vs)], .int .i64 f]) (ret_v rfl rfl (three_set (HXR.out.below HB3.out)) rfl) rfl ?_
    exact ⟨by rfl, below_three (Mem.on HBV.out HB3.out) (show w.heap.size ≤ w.heap.size + 1 + 1 from by omega)⟩
  · rw [if_neg c3]
    obtain ⟨rfl, h13⟩ := HTK.out.2 c3
    have HC := Lib.hid (HC.out h13)
    show Calls _ _ _ _ (ValE w (mathN o n1 n2))
    rw [← ct_is]
    obtain ⟨cv, hcv⟩ : ∃ x, ctV o n1 n2 = x := ⟨_, rfl⟩
    obtain ⟨ce, hce⟩ : ∃ x, ctE o n1 n2 = x := ⟨_, rfl⟩
    rw [hcv, hce] at HC ⊢
    have HN := Lib.hid (show ∀ W, _ from numV_any cv ce)
    obtain ⟨⟨⟨vk, vn, vs⟩, f⟩, hR⟩ : ∃ R, numV cv ce = R := ⟨_, rfl⟩
    rw [hR] at HN ⊢
    clear hR c3 HTK h13 hcv hce
    go_enter Tryz.func200, Tryz.ntmps200
    go_wp2_with (fail)
    go_at_call 246
    with_reducible refine (HT.out _).mono ?_
    rintro e0 w0 ⟨rfl, rfl⟩
    go_wp2_with (fail)
    go_at_call 247
    with_reducible refine (HMA.out _).mono ?_
    rintro e1 w1 ⟨rfl, hb1⟩
    have HB1 := Lib.hid hb1
    clear hb1
    have a10 := (HXA.out.below HB1.out).at_ 0
    have a11 := (HXA.out.below HB1.out).at_ 1
    have a12 := (HXA.out.below HB1.out).at_ 2
    have b10 := (HXB.out.below HB1.out).at_ 0
    have b11 := (HXB.out.below HB1.out).at_ 1
    have b12 := (HXB.out.below HB1.out).at_ 2
    have r10 := (HXR.out.below HB1.out).at_ 0
    have r11 := (HXR.out.below HB1.out).at_ 1
    have r12 := (HXR.out.below HB1.out).at_ 2
    have o10 := (HXR.out.below HB1.out).open_ 0
    have o11 := (HXR.out.below HB1.out).open_ 1
    have o12 := (HXR.out.below HB1.out).open_ 2
    go_wp2_with (fail)
    go_at_call 247
    with_reducible refine (HMB.out _).mono ?_
    rintro e2 w2 ⟨rfl, hb2⟩
    have HB2 := Lib.hid (Mem.on HB1.out hb2)
    clear hb2
    have a20 := (HXA.out.below HB2.out).at_ 0
    have a21 := (HXA.out.below HB2.out).at_ 1
    have a22 := (HXA.out.below HB2.out).at_ 2
    have b20 := (HXB.out.below HB2.out).at_ 0
    have b21 := (HXB.out.below HB2.out).at_ 1
    have b22 := (HXB.out.below HB2.out).at_ 2
    have r20 := (HXR.out.below HB2.out).at_ 0
    have r21 := (HXR.out.below HB2.out).at_ 1
    have r22 := (HXR.out.below HB2.out).at_ 2
    have o20 := (HXR.out.below HB2.out).open_ 0
    have o21 := (HXR.out.below HB2.out).open_ 1
    have o22 := (HXR.out.below HB2.out).open_ 2
    go_wp2_with (first | (go_at_call 250; (with_reducible refine (HC.out _).mono ?_); rintro e3 w3 ⟨rfl, rfl⟩) | (go_at_call 249; (with_reducible refine (HN.out _).mono ?_); rintro e3 w3 ⟨rfl, hb3⟩; have HB3 := Lib.hid (Mem.on HB2.out hb3); clear hb3; have a30 := (HXA.out.below HB3.out).at_ 0; have a31 := (HXA.out.below HB3.out).at_ 1; have a32 := (HXA.out.below HB3.out).at_ 2; have b30 := (HXB.out.below HB3.out).at_ 0; have b31 := (HXB.out.below HB3.out).at_ 1; have b32 := (HXB.out.below HB3.out).at_ 2; have r30 := (HXR.out.below HB3.out).at_ 0; have r31 := (HXR.out.below HB3.out).at_ 1; have r32 := (HXR.out.below HB3.out).at_ 2; have o30 := (HXR.out.below HB3.out).open_ 0; have o31 := (HXR.out.below HB3.out).open_ 1; have o32 := (HXR.out.below HB3.out).open_ 2))
    (try simp only [Exit.inBlock, Exit.then])
    refine bodyPost_ret (v := .tuple #[.agg #[.int .i64 vk, .int .i64 vn, .string (txt vs)], .int .i64 f]) (ret_v rfl rfl (three_set (HXR.out.below HB3.out)) rfl) rfl ?_
    exact ⟨by rfl, below_three (Mem.on HBV.out HB3.out) (show w.heap.size ≤ w.heap.size + 1 + 1 from by omega)⟩
end Go.Proofs.YtbdippgamlknbaaGreatDoor.Eo
