/- A sign ahead of one, or behind it, is written. -/
import Derived.Test.YtgbaolafedkbdaaGreatDoorExBare
namespace Go.Proofs.YtgbaolafedkbdaaGreatDoor.Ep
open Go.RowKit Go.Proofs.YtgbaolafedkbdaaGreatDoor.Mem Go.Proofs.YtgbaolafedkbdaaGreatDoor.Right Go.Proofs.YtgbaolafedkbdaaGreatDoor.Lx
set_option linter.unusedVariables false

theorem drew_wr (b : Nat) (W : World) : Wr b W W.drew := ⟨(Below.refl b W).drew, (Lib.OthersKept.refl t8 (some b) W).drew⟩
set_option maxHeartbeats 4000000 in
set_option maxRecDepth 100000 in
theorem un_any {a : Ex} (ha : KidC a) (o : Int) (h1o : 1 ≤ o) (h4o : o ≤ 4) (ca : List Value) (b : Nat) (l : List UInt8) (w : World) (h1 : ExAt w b a ca) (hl : Bl b l w) (hO : Osg w) (hg : gTop < b) (hlen : l.length + (tx (pcs (un o a))).length ≤ 1000000) :
    Calls Tryz.prog 72 #[prV b, .int .i64 o, .agg ca.toArray] w fun x w' => x = .returned (.tuple #[]) ∧ ∃ l', Bl b l' w' ∧ Wr b w w' ∧ WT l (tx (pcs (un o a))) l' := by
  have hka := h1
  obtain ⟨k1, o1, vk1, vn1, vs1, nm1, kids1⟩ := a
  obtain ⟨A1, n1, c1, rfl, -⟩ := ex_open h1
  obtain ⟨a, hea⟩ : ∃ a, Ex.mk k1 o1 vk1 vn1 vs1 nm1 kids1 = a := ⟨_, rfl⟩
  rw [hea] at hka ha hlen ⊢
  clear hea h1
  obtain ⟨W, hW⟩ : ∃ W, (w.alloc (.cells (prC b) tP)).alloc (.cells #[.int .i64 k1, .int .i64 o1, .int .i64 vk1, .int .i64 vn1, .string (txt vs1), .string (txt nm1), .slice A1 n1 c1] tE) = W := ⟨_, rfl⟩
  obtain ⟨g1, g2, g3, g4⟩ := boxes hl _ _ _ _ W hW (by decide) (by decide)
  have HX := Lib.hid (show ∀ W', Wr b W W' → (W'.cell? ⟨w.heap.size, 0, none⟩ = some (.func (.func 25) #[.pointer (some ⟨b, 0, none⟩)] #[]) ∧ W'.cell? ⟨w.heap.size, 1, none⟩ = some (.func (.func 26) #[.pointer (some ⟨b, 0, none⟩)] #[])) ∧ (W'.cell? ⟨w.heap.size + 1, 0, none⟩ = some (.int .i64 k1) ∧ W'.cell? ⟨w.heap.size + 1, 1, none⟩ = some (.int .i64 o1) ∧ W'.cell? ⟨w.heap.size + 1, 2, none⟩ = some (.int .i64 vk1) ∧ W'.cell? ⟨w.heap.size + 1, 3, none⟩ = some (.int .i64 vn1) ∧ W'.cell? ⟨w.heap.size + 1, 4, none⟩ = some (.string (txt vs1)) ∧ W'.cell? ⟨w.heap.size + 1, 5, none⟩ = some (.string (txt nm1)) ∧ W'.cell? ⟨w.heap.size + 1, 6, none⟩ = some (.slice A1 n1 c1)) from fun W' hW' => by
    have y := g4 W' hW'
    exact ⟨⟨(g3 W' hW').at_ 0, (g3 W' hW').at_ 1⟩, y.at_ 0, y.at_ 1, y.at_ 2, y.at_ 3, y.at_ 4, y.at_ 5, y.at_ 6⟩)
  have HKD := Lib.hid (show ∀ (r : Nat) (l' : List UInt8) W', Bl b l' W' → Wr b W W' → l'.length + (tx (kidP a r)).length ≤ 1000000 → Calls Tryz.prog 27 #[prV b, exV k1 o1 vk1 vn1 (txt vs1) (txt nm1) A1 n1 c1, .int .i64 (r : Int)] W' fun x w' => x = .returned (.tuple #[]) ∧ ∃ l2, Bl b l2 w' ∧ Wr b W' w' ∧ WT l' (tx (kidP a r)) l2 from
    fun r l' W' q1 q2 q3 => ha _ b r l' W' (hka.wr (g1.trans q2)) q1 (hO.below (g1.trans q2).1 hg) hg q3)
  have HPUT := Lib.hid (show ∀ (s : ByteArray) (m : List UInt8) W', Bl b m W' → m.length + s.size ≤ 1000000000 → Calls Tryz.prog 25 #[.pointer (some ⟨b, 0, none⟩), .string s] W' fun e w' => ∃ n, e = .returned (.tuple #[.int .i64 n, .nilIface]) ∧ Bl b (m ++ s.data.toList) w' ∧ Wr b W' w' from fun s m W' q1 q2 => put_any b m s W' q1 q2)
  have HW := Lib.hid g1
  have HL0 := Lib.hid g2
  have hpu := pcs_un o a
  obtain ⟨⟨x0, x1⟩, y0, y1, y2, y3, y4, y5, y6⟩ := HX.out W (Wr.refl _ _)
  clear hka ha g1 g2 g3 g4 hl hO
  by_cases e1 : o = 1
  · subst e1
    have HT := Lib.hid (show tx (pcs (un 1 a)) = [45] ++ tx (kidP a 7) by rw [hpu]; rfl)
    have HLEN := Lib.hid (show l.length + 1 + (tx (kidP a 7)).length ≤ 1000000 by rw [HT.out] at hlen; simp only [List.length_append, List.length_cons, List.length_nil] at hlen; omega)
    have HSZ := Lib.hid (show (ByteArray.mk #[45]).size = 1 from rfl)
    have HKR := Lib.hid (show ∀ (l' : List UInt8) W', Bl b l' W' → Wr b W W' → l'.length + (tx (kidP a 7)).length ≤ 1000000 → Calls Tryz.prog 27 #[prV b, exV k1 o1 vk1 vn1 (txt vs1) (txt nm1) A1 n1 c1, .int .i64 7] W' fun x w' => x = .returned (.tuple #[]) ∧ ∃ l2, Bl b l2 w' ∧ Wr b W' w' ∧ WT l' (tx (kidP a 7)) l2 from fun l' W' q1 q2 q3 => HKD.out 7 l' W' q1 q2 q3)
    clear hpu hlen h1o h4o
    go_enter Tryz.func72, Tryz.ntmps72
    go_wp2_with (first
      | (go_at_call 25; (with_reducible refine (HPUT.out ⟨#[45]⟩ l W HL0.out (by have := HLEN.out; have := HSZ.out; omega)).mono ?_); rintro e' w2 ⟨n2, rfl, hl2, hr2⟩; have HL2 := Lib.hid hl2; have HR2 := Lib.hid hr2; obtain ⟨⟨x0, x1⟩, y0, y1, y2, y3, y4, y5, y6⟩ := HX.out w2 hr2; clear hl2 hr2)
      | (go_at_call 27; (with_reducible refine (HKR.out (l ++ [45]) w2 HL2.out HR2.out (by have := HLEN.out; simp only [List.length_append, List.length_cons, List.length_nil]; omega)).mono ?_); rintro e' w3 ⟨rfl, l3, hl3, hr3, ht3⟩; have HL3 := Lib.hid hl3; have HT3 := Lib.hid ht3; have HR3 := Lib.hid (HR2.out.trans hr3); clear hl3 hr3 ht3))
    go_end0
    refine ⟨rfl, _, HL3.out, HW.out.trans HR3.out, ?_⟩
    rw [HT.out]
    exact (WT.lit l _).trans HT3.out
  by_cases e2 : o = 2
  · subst e2
    have HT := Lib.hid (show tx (pcs (un 2 a)) = [78, 79, 84, 32] ++ tx (kidP a 3) by rw [hpu]; rfl)
    have HLEN := Lib.hid (show l.length + 4 + (tx (kidP a 3)).length ≤ 1000000 by rw [HT.out] at hlen; simp only [List.length_append, List.length_cons, List.length_nil] at hlen; omega)
    have HSZ := Lib.hid (show (ByteArray.mk #[78, 79, 84, 32]).size = 4 from rfl)
    have HKR := Lib.hid (show ∀ (l' : List UInt8) W', Bl b l' W' → Wr b W W' → l'.length + (tx (kidP a 3)).length ≤ 1000000 → Calls Tryz.prog 27 #[prV b, exV k1 o1 vk1 vn1 (txt vs1) (txt nm1) A1 n1 c1, .int .i64 3] W' fun x w' => x = .returned (.tuple #[]) ∧ ∃ l2, Bl b l2 w' ∧ Wr b W' w' ∧ WT l' (tx (kidP a 3)) l2 from fun l' W' q1 q2 q3 => HKD.out 3 l' W' q1 q2 q3)
    clear hpu hlen h1o h4o
    go_enter Tryz.func72, Tryz.ntmps72
    go_wp2_with (first
      | (go_at_call 25; (with_reducible refine (HPUT.out ⟨#[78, 79, 84, 32]⟩ l W HL0.out (by have := HLEN.out; have := HSZ.out; omega)).mono ?_); rintro e' w2 ⟨n2, rfl, hl2, hr2⟩; have HL2 := Lib.hid hl2; have HR2 := Lib.hid hr2; obtain ⟨⟨x0, x1⟩, y0, y1, y2, y3, y4, y5, y6⟩ := HX.out w2 hr2; clear hl2 hr2)
      | (go_at_call 27; (with_reducible refine (HKR.out (l ++ [78, 79, 84, 32]) w2 HL2.out HR2.out (by have := HLEN.out; simp only [List.length_append, List.length_cons, List.length_nil]; omega)).mono ?_); rintro e' w3 ⟨rfl, l3, hl3, hr3, ht3⟩; have HL3 := Lib.hid hl3; have HT3 := Lib.hid ht3; have HR3 := Lib.hid (HR2.out.trans hr3); clear hl3 hr3 ht3))
    go_end0
    refine ⟨rfl, _, HL3.out, HW.out.trans HR3.out, ?_⟩
    rw [HT.out]
    exact (WT.lit l _).trans HT3.out
  by_cases e3 : o = 3
  · subst e3
    have HT := Lib.hid (show tx (pcs (un 3 a)) = tx (kidP a 5) ++ [32, 73, 83, 32, 78, 85, 76, 76] by rw [hpu, if_neg (by decide), if_neg (by decide), if_pos rfl, tx_app]; rfl)
    have HLEN := Lib.hid (show l.length + 8 + (tx (kidP a 5)).length ≤ 1000000 by rw [HT.out] at hlen; simp only [List.length_append, List.length_cons, List.length_nil] at hlen; omega)
    have HSZ := Lib.hid (show (ByteArray.mk #[32, 73, 83, 32, 78, 85, 76, 76]).size = 8 from rfl)
    have HKR := Lib.hid (show ∀ (l' : List UInt8) W', Bl b l' W' → Wr b W W' → l'.length + (tx (kidP a 5)).length ≤ 1000000 → Calls Tryz.prog 27 #[prV b, exV k1 o1 vk1 vn1 (txt vs1) (txt nm1) A1 n1 c1, .int .i64 5] W' fun x w' => x = .returned (.tuple #[]) ∧ ∃ l2, Bl b l2 w' ∧ Wr b W' w' ∧ WT l' (tx (kidP a 5)) l2 from fun l' W' q1 q2 q3 => HKD.out 5 l' W' q1 q2 q3)
    clear hpu hlen h1o h4o
    go_enter Tryz.func72, Tryz.ntmps72
    go_wp2_with (first
      | (go_at_call 27; (with_reducible refine (HKR.out l W HL0.out (Wr.refl _ _) (by have := HLEN.out; omega)).mono ?_); rintro e' w3 ⟨rfl, l3, hl3, hr3, ht3⟩; have HL3 := Lib.hid hl3; have HT3 := Lib.hid ht3; have HR3 := Lib.hid hr3; obtain ⟨⟨x0, x1⟩, y0, y1, y2, y3, y4, y5, y6⟩ := HX.out w3 hr3; clear hl3 hr3 ht3)
      | (go_at_call 25; (with_reducible refine (HPUT.out ⟨#[32, 73, 83, 32, 78, 85, 76, 76]⟩ l3 w3 HL3.out (by have := HLEN.out; have := HT3.out.len; have := HSZ.out; omega)).mono ?_); rintro e' w4 ⟨n4, rfl, hl4, hr4⟩; have HL4 := Lib.hid hl4; have HR4 := Lib.hid (HR3.out.trans hr4); clear hl4 hr4))
    go_end0
    refine ⟨rfl, _, HL4.out, HW.out.trans HR4.out, ?_⟩
    rw [HT.out]
    exact HT3.out.trans (WT.lit _ _)
  obtain rfl : o = 4 := by omega
  have HT := Lib.hid (show tx (pcs (un 4 a)) = tx (kidP a 5) ++ [32, 73, 83, 32, 78, 79, 84, 32, 78, 85, 76, 76] by rw [hpu, if_neg (by decide), if_neg (by decide), if_neg (by decide), tx_app]; rfl)
  have HLEN := Lib.hid (show l.length + 12 + (tx (kidP a 5)).length ≤ 1000000 by rw [HT.out] at hlen; simp only [List.length_append, List.length_cons, List.length_nil] at hlen; omega)
  have HSZ := Lib.hid (show (ByteArray.mk #[32, 73, 83, 32, 78, 79, 84, 32, 78, 85, 76, 76]).size = 12 from rfl)
  have HKR := Lib.hid (show ∀ (l' : List UInt8) W', Bl b l' W' → Wr b W W' → l'.length + (tx (kidP a 5)).length ≤ 1000000 → Calls Tryz.prog 27 #[prV b, exV k1 o1 vk1 vn1 (txt vs1) (txt nm1) A1 n1 c1, .int .i64 5] W' fun x w' => x = .returned (.tuple #[]) ∧ ∃ l2, Bl b l2 w' ∧ Wr b W' w' ∧ WT l' (tx (kidP a 5)) l2 from fun l' W' q1 q2 q3 => HKD.out 5 l' W' q1 q2 q3)
  clear hpu hlen h1o h4o
  go_enter Tryz.func72, Tryz.ntmps72
  go_wp2_with (first
    | (go_at_call 27; (with_reducible refine (HKR.out l W HL0.out (Wr.refl _ _) (by have := HLEN.out; omega)).mono ?_); rintro e' w3 ⟨rfl, l3, hl3, hr3, ht3⟩; have HL3 := Lib.hid hl3; have HT3 := Lib.hid ht3; have HR3 := Lib.hid hr3; obtain ⟨⟨x0, x1⟩, y0, y1, y2, y3, y4, y5, y6⟩ := HX.out w3 hr3; clear hl3 hr3 ht3)
    | (go_at_call 25; (with_reducible refine (HPUT.out ⟨#[32, 73, 83, 32, 78, 79, 84, 32, 78, 85, 76, 76]⟩ l3 w3 HL3.out (by have := HLEN.out; have := HT3.out.len; have := HSZ.out; omega)).mono ?_); rintro e' w4 ⟨n4, rfl, hl4, hr4⟩; have HL4 := Lib.hid hl4; have HR4 := Lib.hid (HR3.out.trans hr4); clear hl4 hr4))
  go_end0
  refine ⟨rfl, _, HL4.out, HW.out.trans HR4.out, ?_⟩
  rw [HT.out]
  exact HT3.out.trans (WT.lit _ _)
set_option maxHeartbeats 4000000 in
set_option maxRecDepth 100000 in
theorem bare_un {a : Ex} (ha : KidC a) (o : Int) (h1o : 1 ≤ o) (h4o : o ≤ 4) : BareC (un o a) := by
  intro cs b l w h hl hO hg hlen
  obtain ⟨A, kn, cp, rfl, hkn, hcl, -, -, hk⟩ := ex_open (show ExIn w _ (.mk 4 o 0 0 [] [] [a]) cs from h)
  obtain rfl : kn = 1 := hkn
  obtain ⟨k1, o1, vk1, vn1, vs1, nm1, ks1, A1, n1, c1', b1, p1, ea, hA1, hb1, -, c0, c1, c2, c3, c4, c5, c6, hina⟩ := kid_at (j := 0) hk rfl
  subst hA1
  obtain ⟨W, hW⟩ : ∃ W, (w.alloc (.cells (prC b) tP)).alloc (.cells #[.int .i64 4, .int .i64 o, .int .i64 0, .int .i64 0, .string (txt []), .string (txt []), .slice (some ⟨b1, p1, none⟩) 1 cp] tE) = W := ⟨_, rfl⟩
  obtain ⟨g1, g2, g3, g4⟩ := boxes hl _ _ _ _ W hW (by decide) (by decide)
  have kk := (g4 W (Wr.refl _ _)).at_ 0
  simp at kk
  have hwD : Wr b w W.drew := g1.trans (drew_wr b W)
  have g3' := g3 W.drew (drew_wr b W)
  have g4' := g4 W.drew (drew_wr b W)
  have x0 : W.drew.cell? ⟨w.heap.size, 0, none⟩ = some (.func (.func 25) #[.pointer (some ⟨b, 0, none⟩)] #[]) := g3'.at_ 0
  have x1 : W.drew.cell? ⟨w.heap.size, 1, none⟩ = some (.func (.func 26) #[.pointer (some ⟨b, 0, none⟩)] #[]) := g3'.at_ 1
  have y1 : W.drew.cell? ⟨w.heap.size + 1, 1, none⟩ = some (.int .i64 o) := g4'.at_ 1
  have y6 : W.drew.cell? ⟨w.heap.size + 1, 6, none⟩ = some (.slice (some ⟨b1, p1, none⟩) 1 cp) := g4'.at_ 6
  simp only [Nat.zero_mul, Nat.add_zero] at c0 c1 c2 c3 c4 c5 c6
  have HBN := Lib.hid (show Calls Tryz.prog 72 #[prV b, .int .i64 o, exV k1 o1 vk1 vn1 (txt vs1) (txt nm1) A1 n1 c1'] W.drew fun x w' => x = .returned (.tuple #[]) ∧ ∃ l', Bl b l' w' ∧ Wr b W.drew w' ∧ WT l (tx (pcs (un o a))) l' from
    un_any ha o h1o h4o _ b l W.drew (hina.to (fun _ h => h) (fun p hp => hwD.1.cell hp)) g2 (hO.below hwD.1 hg) hg hlen)
  have HW := Lib.hid hwD
  have e0 : W.drew.cell? ⟨b1, p1, none⟩ = some (.int .i64 k1) := (hwD.1.cell hb1).trans c0
  have e1 : W.drew.cell? ⟨b1, p1 + 1, none⟩ = some (.int .i64 o1) := (hwD.1.cell hb1).trans c1
  have e2 : W.drew.cell? ⟨b1, p1 + 2, none⟩ = some (.int .i64 vk1) := (hwD.1.cell hb1).trans c2
  have e3 : W.drew.cell? ⟨b1, p1 + 3, none⟩ = some (.int .i64 vn1) := (hwD.1.cell hb1).trans c3
  have e4 : W.drew.cell? ⟨b1, p1 + 4, none⟩ = some (.string (txt vs1)) := (hwD.1.cell hb1).trans c4
  have e5 : W.drew.cell? ⟨b1, p1 + 5, none⟩ = some (.string (txt nm1)) := (hwD.1.cell hb1).trans c5
  have e6 : W.drew.cell? ⟨b1, p1 + 6, none⟩ = some (.slice A1 n1 c1') := (hwD.1.cell hb1).trans c6
  clear h hl hO hlen hk hcl hina g1 g2 g3 g4 g3' g4' hwD ha c0 c1 c2 c3 c4 c5 c6 ea hb1 h1o h4o
  go_enter Tryz.func47, Tryz.ntmps47
  go_wp2
  refine wp_region_still_tail 7 (by kernel_rfl) (by kernel_rfl) ?_
  simp only [List.take_succ_cons, List.take_zero, List.drop_succ_cons, List.drop_zero]
  change wpStill _ _ (W.drew) (fun a' => wpList _ _ _ _ a' (W.drew)) _ _
  clear kk hW
  generalize W.drew = w3 at *
  repeat still_step
  refine wpStill_nil ?_
  go_wp2_with (first | (go_at_call 72; (with_reducible refine HBN.out.mono ?_); rintro e' w5 ⟨rfl, l5, hl5, hr5, ht5⟩; have HL5 := Lib.hid hl5; have HT5 := Lib.hid ht5; have HR5 := Lib.hid hr5; clear hl5 hr5 ht5))
  go_end0
  exact ⟨rfl, _, HL5.out, HW.out.trans HR5.out, HT5.out⟩
end Go.Proofs.YtgbaolafedkbdaaGreatDoor.Ep
