/- The law of two trees' likeness: the walk. -/
import Derived.Test.YtmhojhfajkhbbaaDoorExSames
import Derived.Test.YtmhojhfajkhbbaaDoorExClones
import Derived.Test.YtmhojhfajkhbbaaDoorExFew
import Derived.Test.YtmhojhfajkhbbaaDoorExTells
import Derived.Test.YtmhojhfajkhbbaaDoorExCame
import Derived.Test.YtmhojhfajkhbbaaDoorMemQuiet
import Derived.Deep.LoopGhost
namespace Go.Proofs.YtmhojhfajkhbbaaDoor.Ep
open Go.RowKit Go.Proofs.YtmhojhfajkhbbaaDoor.Mem Go.Proofs.YtmhojhfajkhbbaaDoor.Right Go.Proofs.YtmhojhfajkhbbaaDoor.Lx
set_option linter.unusedVariables false

/-- What the law asks of the listed variables. -/
theorem signs_both {W : World} (h : laidMetH Tryd.prog Rows.exprSameRow.laid W) : Signs W ∧ Osg W :=
  ⟨signs_of_laid h (by kernel_rfl) (by repeat (first | exact List.Mem.head _ | apply List.Mem.tail)), osg_of_laid h (by kernel_rfl) (by repeat (first | exact List.Mem.head _ | apply List.Mem.tail))⟩
/-- Outside the clone's blocks all stands. -/
def Kp (n1 hi : Nat) (W w : World) : Prop := W.heap.size ≤ w.heap.size ∧ ∀ b, (b < n1 ∨ hi ≤ b) → b < W.heap.size → w.heap[b]? = W.heap[b]?
theorem Kp.refl (n1 hi : Nat) (W : World) : Kp n1 hi W W := ⟨Nat.le_refl _, fun _ _ _ => rfl⟩
theorem Kp.set {n1 hi b i : Nat} {W w : World} (h : Kp n1 hi W w) (h1 : n1 ≤ b) (h2 : b < hi) (v : Value) : Kp n1 hi W (w.setCell ⟨b, i, none⟩ v) :=
  ⟨by have := h.1; simpa using this, fun c hc hs => (Below.heap_setCell _ ⟨b, i, none⟩ _ _ (by show c ≠ b; omega)).trans (h.2 c hc hs)⟩
theorem Kp.cel {n1 hi B : Nat} {W w : World} {t : TypeId} {cs : Array Value} (h : Kp n1 hi W w) (hb : B < n1 ∨ hi ≤ B) (hc : Cel W B t cs) : Cel w B t cs := (h.2 B hb hc.lt).trans hc
theorem Kp.cell {n1 hi : Nat} {W w : World} (h : Kp n1 hi W w) (p : Addr) (hb : p.block < n1 ∨ hi ≤ p.block) (hs : p.block < W.heap.size) : w.cell? p = W.cell? p := World.cell?_of_block (h.2 _ hb hs)
theorem same_self (e : Ex) : sameB e e = true := sameB_iff.2 rfl
theorem Cl.form {n0 : Nat} {w : World} {k o vk vn : Int} {vs nm : List UInt8} {kids : List Ex} {cs : List Value} (h : Cl n0 w (.mk k o vk vn vs nm kids) cs) : ∃ A c, cs = [.int .i64 k, .int .i64 o, .int .i64 vk, .int .i64 vn, .string (txt vs), .string (txt nm), .slice A kids.length c] := by
  obtain ⟨k1, o1, vk1, vn1, vs1, nm1, kids1, A1, c1, g, e1, rfl, -⟩ := h
  injection e1 with a1 a2 a3 a4 a5 a6 a7
  subst a1 a2 a3 a4 a5 a6 a7
  exact ⟨A1, c1, rfl⟩
theorem Cl.at_ {n0 : Nat} {w : World} {e : Ex} {cs : List Value} (h : Cl n0 w e cs) : ExAt w w.heap.size e cs := ExIn.more h.in_ fun b hb => hb.2.lt
set_option maxRecDepth 20000 in
set_option maxHeartbeats 8000000 in
theorem walk_same (cs1 : List Value) (a : Ex) (cs2 : List Value) (b : Ex) (w : World) (h1 : ExAt w w.heap.size a cs1) (hf1 : Fine a) (h2 : ExAt w w.heap.size b cs2) (hf2 : Fine b) (hfact : Signs w ∧ Osg w) :
    Calls Tryd.prog 3 #[.agg cs1.toArray, .agg cs2.toArray] w fun x w' => x = .returned (.bool true) ∧ Below w.heap.size w w' := by
  obtain ⟨hs, hO⟩ := hfact
  have hca := h1
  have hcb := h2
  obtain ⟨k1, o1, vk1, vn1, vs1, nm1, kids1⟩ := a
  obtain ⟨A1, n1, c1, rfl, hn1, -, -, -, -⟩ := ex_open h1
  obtain ⟨k2, o2, vk2, vn2, vs2, nm2, kids2⟩ := b
  obtain ⟨A2, n2, c2, rfl, -⟩ := ex_open h2
  obtain ⟨a, ha⟩ : ∃ a, Ex.mk k1 o1 vk1 vn1 vs1 nm1 kids1 = a := ⟨_, rfl⟩
  obtain ⟨b, hb⟩ : ∃ b, Ex.mk k2 o2 vk2 vn2 vs2 nm2 kids2 = b := ⟨_, rfl⟩
  rw [ha] at hca hf1
  rw [hb] at hcb hf2
  clear h1 h2 hf1 hf2 hb
  have HA := Lib.hid ha
  have HN1 := Lib.hid hn1
  clear ha hn1
  have HFA := Lib.hid (show ∀ W, Below w.heap.size w W → Calls Tryd.prog 4 #[exV k1 o1 vk1 vn1 (txt vs1) (txt nm1) A1 n1 c1, .int .i64 60] W fun x w' => x = .returned (.bool (cnt a 60).isSome) ∧ Below W.heap.size W w' from fun W hW => few_any a _ 60 W (hca.on hW) (by omega))
  have HFB := Lib.hid (show ∀ W, Below w.heap.size w W → Calls Tryd.prog 4 #[exV k2 o2 vk2 vn2 (txt vs2) (txt nm2) A2 n2 c2, .int .i64 60] W fun x w' => x = .returned (.bool (cnt b 60).isSome) ∧ Below W.heap.size W w' from fun W hW => few_any b _ 60 W (hcb.on hW) (by omega))
  have HW := Lib.hid (show ∀ W, Below w.heap.size w W → Calls Tryd.prog 5 #[] W fun x w' => x = .returned (.bool true) ∧ Below W.heap.size W w' from fun W hW => works_any W (hs.below hW hs.lt) (hO.below hW hO.lt))
  obtain ⟨W0, hW0⟩ : ∃ W0, (w.alloc (.cells #[.int .i64 k1, .int .i64 o1, .int .i64 vk1, .int .i64 vn1, .string (txt vs1), .string (txt nm1), .slice A1 n1 c1] 26)).alloc (.cells #[.int .i64 k2, .int .i64 o2, .int .i64 vk2, .int .i64 vn2, .string (txt vs2), .string (txt nm2), .slice A2 n2 c2] 26) = W0 := ⟨_, rfl⟩
  have hb0 : Below w.heap.size w W0 := by rw [← hW0]; exact al (al (Below.refl _ _) _) _
  have x1 : Cel W0 w.heap.size 26 #[.int .i64 k1, .int .i64 o1, .int .i64 vk1, .int .i64 vn1, .string (txt vs1), .string (txt nm1), .slice A1 n1 c1] := by rw [← hW0]; exact (Cel.new w _ _ rfl).alloc _
  have x2 : Cel W0 (w.heap.size + 1) 26 #[.int .i64 k2, .int .i64 o2, .int .i64 vk2, .int .i64 vn2, .string (txt vs2), .string (txt nm2), .slice A2 n2 c2] := by rw [← hW0]; exact Cel.new _ _ _ (by simp)
  have hX : ∀ W', Below W0.heap.size W0 W' → (W'.cell? ⟨w.heap.size, 0, none⟩ = some (.int .i64 k1) ∧ W'.cell? ⟨w.heap.size, 1, none⟩ = some (.int .i64 o1) ∧ W'.cell? ⟨w.heap.size, 2, none⟩ = some (.int .i64 vk1) ∧ W'.cell? ⟨w.heap.size, 3, none⟩ = some (.int .i64 vn1) ∧ W'.cell? ⟨w.heap.size, 4, none⟩ = some (.string (txt vs1)) ∧ W'.cell? ⟨w.heap.size, 5, none⟩ = some (.string (txt nm1)) ∧ W'.cell? ⟨w.heap.size, 6, none⟩ = some (.slice A1 n1 c1)) ∧ (W'.cell? ⟨w.heap.size + 1, 0, none⟩ = some (.int .i64 k2) ∧ W'.cell? ⟨w.heap.size + 1, 1, none⟩ = some (.int .i64 o2) ∧ W'.cell? ⟨w.heap.size + 1, 2, none⟩ = some (.int .i64 vk2) ∧ W'.cell? ⟨w.heap.size + 1, 3, none⟩ = some (.int .i64 vn2) ∧ W'.cell? ⟨w.heap.size + 1, 4, none⟩ = some (.string (txt vs2)) ∧ W'.cell? ⟨w.heap.size + 1, 5, none⟩ = some (.string (txt nm2)) ∧ W'.cell? ⟨w.heap.size + 1, 6, none⟩ = some (.slice A2 n2 c2)) := fun W' hW' => by
    have y1 := x1.below hW'
    have y2 := x2.below hW'
    exact ⟨⟨y1.at_ 0, y1.at_ 1, y1.at_ 2, y1.at_ 3, y1.at_ 4, y1.at_ 5, y1.at_ 6⟩, y2.at_ 0, y2.at_ 1, y2.at_ 2, y2.at_ 3, y2.at_ 4, y2.at_ 5, y2.at_ 6⟩
  have HX := Lib.hid hX
  have HX1 := Lib.hid x1
  have HX2 := Lib.hid x2
  have HB0 := Lib.hid hb0
  obtain ⟨⟨p0, p1, p2, p3, p4, p5, p6⟩, q0, q1, q2, q3, q4, q5, q6⟩ := hX W0 (Below.refl _ _)
  clear x1 x2 hX hb0
  cases hac : cnt a 60 with
  | none =>
    rw [hac] at HFA
    clear hca hcb hs hO hac HFB
    go_enter Tryd.func3, Tryd.ntmps3
    go_wp2_with (first
      | (go_at_call 4; (with_reducible refine (HFA.out _ HB0.out).mono ?_); rintro e' w2 ⟨rfl, hb2⟩; have HB2 := Lib.hid (Mem.on HB0.out hb2); clear hb2)
      | (go_at_call 5; (with_reducible refine (HW.out _ HB2.out).mono ?_); rintro e' w3 ⟨rfl, hb3⟩; have HB3 := Lib.hid (Mem.on HB2.out hb3); clear hb3))
    go_ret
    exact ⟨rfl, HB3.out⟩
  | some m =>
  rw [hac] at HFA
  have hsza := cnt_size hac
  have HBX := Lib.hid (show ∀ w1, Below W0.heap.size W0 w1 → (w1.cell? ⟨w.heap.size + 1, 0, none⟩ = some (.int .i64 k2) ∧ w1.cell? ⟨w.heap.size + 1, 1, none⟩ = some (.int .i64 o2) ∧ w1.cell? ⟨w.heap.size + 1, 2, none⟩ = some (.int .i64 vk2) ∧ w1.cell? ⟨w.heap.size + 1, 3, none⟩ = some (.int .i64 vn2) ∧ w1.cell? ⟨w.heap.size + 1, 4, none⟩ = some (.string (txt vs2)) ∧ w1.cell? ⟨w.heap.size + 1, 5, none⟩ = some (.string (txt nm2)) ∧ w1.cell? ⟨w.heap.size + 1, 6, none⟩ = some (.slice A2 n2 c2)) from fun w1 h => (HX.out w1 h).2)
  cases hbc : cnt b 60 with
  | none =>
    rw [hbc] at HFB
    clear hca hcb hs hO hac hbc
    go_enter Tryd.func3, Tryd.ntmps3
    go_wp2_with (first
      | (go_at_call 4; (with_reducible refine (HFA.out _ HB0.out).mono ?_); rintro e' w1 ⟨rfl, hb1⟩; have HB1 := Lib.hid (Mem.on HB0.out hb1); obtain ⟨r0, r1, r2, r3, r4, r5, r6⟩ := HBX.out _ hb1; clear hb1)
      | (go_at_call 4; (with_reducible refine (HFB.out _ HB1.out).mono ?_); rintro e' w2 ⟨rfl, hb2⟩; have HB2 := Lib.hid (Mem.on HB1.out hb2); clear hb2)
      | (go_at_call 5; (with_reducible refine (HW.out _ HB2.out).mono ?_); rintro e' w3 ⟨rfl, hb3⟩; have HB3 := Lib.hid (Mem.on HB2.out hb3); clear hb3))
    go_ret
    exact ⟨rfl, HB3.out⟩
  | some m2 =>
  rw [hbc] at HFB
  have HC1 := Lib.hid (show ∀ (csx : List Value) (W : World), ExAt W W.heap.size a csx → Calls Tryd.prog 6 #[.agg (List.toArray csx)] W fun x w' => ∃ A c, x = .returned (exV k1 o1 vk1 vn1 (txt vs1) (txt nm1) A n1 c) ∧ Cl W.heap.size w' a [.int .i64 k1, .int .i64 o1, .int .i64 vk1, .int .i64 vn1, .string (txt vs1), .string (txt nm1), .slice A n1 c] ∧ Below W.heap.size W w' from fun csx W hW => by
    refine (clone_any a csx W hW (by omega)).mono ?_
    rintro x w' ⟨cs', rfl, hcl, hb⟩
    rw [← HA.out] at hcl
    obtain ⟨A, c, rfl⟩ := hcl.form
    rw [HA.out, ← HN1.out] at hcl
    exact ⟨A, c, by rw [HN1.out], hcl, hb⟩)
  have HSM := Lib.hid (show n1 ≤ 1000 ∧ ∀ y ∈ kids1, (kidsOf y).length ≤ 1000 from by
    have hz := hsza
    rw [← HA.out, size] at hz
    refine ⟨by have := sizeL_len kids1; have := HN1.out; omega, fun y hy => ?_⟩
    have h1 := sizeL_mem hy
    obtain ⟨k, o, vk, vn, vs, nm, ks⟩ := y
    rw [size] at h1
    have h2 := sizeL_len ks
    show ks.length ≤ 1000
    omega)
  have HCA := Lib.hid hca
  have HCB := Lib.hid hcb
  have HS := Lib.hid (And.intro hs hO)
  clear hca hcb hs hO hac hbc hsza
  go_enter Tryd.func3, Tryd.ntmps3
  go_upto_region 3 with (first
    | (go_at_call 4; (with_reducible refine (HFA.out _ HB0.out).mono ?_); rintro e' w0 ⟨rfl, hb1⟩; have HB00 := Lib.hid (Mem.on HB0.out hb1); have HK0 := Lib.hid hb1; obtain ⟨r0, r1, r2, r3, r4, r5, r6⟩ := HBX.out _ hb1; clear hb1)
    | (go_at_call 4; (with_reducible refine (HFB.out _ HB00.out).mono ?_); rintro e' w1 ⟨rfl, hb2⟩; have HB1 := Lib.hid (Mem.on HB00.out hb2); have HK1 := Lib.hid (Mem.on HK0.out hb2); clear hb2))
  clear hW0 p0 p1 p2 p3 p4 p5 p6 q0 q1 q2 q3 q4 q5 q6 r0 r1 r2 r3 r4 r5 r6
  obtain ⟨⟨p0, p1, p2, p3, p4, p5, p6⟩, q0, q1, q2, q3, q4, q5, q6⟩ := HX.out _ HK1.out
  go_upto_region 4 with (go_at_call 6; (with_reducible refine (HC1.out _ _ (HCA.out.on HB1.out)).mono ?_); rintro e' w2 ⟨Ac, cc, rfl, hcl, hb2⟩; have HCL := Lib.hid hcl; have HB2 := Lib.hid hb2; clear hcl hb2)
  clear p0 p1 p2 p3 p4 p5 p6 q0 q1 q2 q3 q4 q5 q6
  obtain ⟨W3, hW3⟩ : ∃ W3, w2.alloc (.cells #[.int .i64 k1, .int .i64 o1, .int .i64 vk1, .int .i64 vn1, .string (txt vs1), .string (txt nm1), .slice Ac n1 cc] 26) = W3 := ⟨_, rfl⟩
  rw [hW3]
  have hb3 : Below w2.heap.size w2 W3 := by rw [← hW3]; exact al (Below.refl _ _) _
  have HX3 := Lib.hid (show Cel W3 w2.heap.size 26 #[.int .i64 k1, .int .i64 o1, .int .i64 vk1, .int .i64 vn1, .string (txt vs1), .string (txt nm1), .slice Ac n1 cc] by rw [← hW3]; exact Cel.new w2 _ _ rfl)
  have HS3 := Lib.hid (show W3.heap.size = w2.heap.size + 1 by rw [← hW3]; simp)
  have HB3 := Lib.hid hb3
  clear hW3 hb3
  have p0 := HX3.out.at_ 0
  have p1 := HX3.out.at_ 1
  have p2 := HX3.out.at_ 2
  have p3 := HX3.out.at_ 3
  have p4 := HX3.out.at_ 4
  have p5 := HX3.out.at_ 5
  have p6 := HX3.out.at_ 6
  go_upto_region 5 with (go_at_call 6; (with_reducible refine (HC1.out _ _ (HCL.out.at_.on HB3.out)).mono ?_); rintro e' w4 ⟨Ad, cd, rfl, hcl, hb4⟩; have HDL := Lib.hid hcl; have HB4 := Lib.hid hb4; clear hcl hb4)
  clear p0 p1 p2 p3 p4 p5 p6
  obtain ⟨W5, hW5⟩ : ∃ W5, w4.alloc (.cells #[.int .i64 k1, .int .i64 o1, .int .i64 vk1, .int .i64 vn1, .string (txt vs1), .string (txt nm1), .slice Ad n1 cd] 26) = W5 := ⟨_, rfl⟩
  rw [hW5]
  have hb5 : Below w4.heap.size w4 W5 := by rw [← hW5]; exact al (Below.refl _ _) _
  have HX5 := Lib.hid (show Cel W5 w4.heap.size 26 #[.int .i64 k1, .int .i64 o1, .int .i64 vk1, .int .i64 vn1, .string (txt vs1), .string (txt nm1), .slice Ad n1 cd] by rw [← hW5]; exact Cel.new w4 _ _ rfl)
  have HB5 := Lib.hid hb5
  clear hW5 hb5
  have HB25 := Lib.hid (Mem.on (Mem.on HB3.out HB4.out) HB5.out)
  have HB15 := Lib.hid (Mem.on HB2.out HB25.out)
  have HBW5 := Lib.hid (Mem.on HB1.out HB15.out)
  have HY3 := Lib.hid (HX3.out.below (Mem.on HB4.out HB5.out))
  have HY1 := Lib.hid ((HX1.out.below HK1.out).below HB15.out)
  have HY2 := Lib.hid ((HX2.out.below HK1.out).below HB15.out)
  have HZ := Lib.hid (show ∀ W', Below W5.heap.size W5 W' → (W'.cell? ⟨w.heap.size, 0, none⟩ = some (.int .i64 k1) ∧ W'.cell? ⟨w.heap.size, 1, none⟩ = some (.int .i64 o1) ∧ W'.cell? ⟨w.heap.size, 2, none⟩ = some (.int .i64 vk1) ∧ W'.cell? ⟨w.heap.size, 3, none⟩ = some (.int .i64 vn1) ∧ W'.cell? ⟨w.heap.size, 4, none⟩ = some (.string (txt vs1)) ∧ W'.cell? ⟨w.heap.size, 5, none⟩ = some (.string (txt nm1)) ∧ W'.cell? ⟨w.heap.size, 6, none⟩ = some (.slice A1 n1 c1)) ∧ (W'.cell? ⟨w.heap.size + 1, 0, none⟩ = some (.int .i64 k2) ∧ W'.cell? ⟨w.heap.size + 1, 1, none⟩ = some (.int .i64 o2) ∧ W'.cell? ⟨w.heap.size + 1, 2, none⟩ = some (.int .i64 vk2) ∧ W'.cell? ⟨w.heap.size + 1, 3, none⟩ = some (.int .i64 vn2) ∧ W'.cell? ⟨w.heap.size + 1, 4, none⟩ = some (.string (txt vs2)) ∧ W'.cell? ⟨w.heap.size + 1, 5, none⟩ = some (.string (txt nm2)) ∧ W'.cell? ⟨w.heap.size + 1, 6, none⟩ = some (.slice A2 n2 c2)) ∧ (W'.cell? ⟨w2.heap.size, 0, none⟩ = some (.int .i64 k1) ∧ W'.cell? ⟨w2.heap.size, 1, none⟩ = some (.int .i64 o1) ∧ W'.cell? ⟨w2.heap.size, 2, none⟩ = some (.int .i64 vk1) ∧ W'.cell? ⟨w2.heap.size, 3, none⟩ = some (.int .i64 vn1) ∧ W'.cell? ⟨w2.heap.size, 4, none⟩ = some (.string (txt vs1)) ∧ W'.cell? ⟨w2.heap.size, 5, none⟩ = some (.string (txt nm1)) ∧ W'.cell? ⟨w2.heap.size, 6, none⟩ = some (.slice Ac n1 cc)) from fun W' hW' => by
    have y1 := HY1.out.below hW'
    have y2 := HY2.out.below hW'
    have y3 := HY3.out.below hW'
    exact ⟨⟨y1.at_ 0, y1.at_ 1, y1.at_ 2, y1.at_ 3, y1.at_ 4, y1.at_ 5, y1.at_ 6⟩, ⟨y2.at_ 0, y2.at_ 1, y2.at_ 2, y2.at_ 3, y2.at_ 4, y2.at_ 5, y2.at_ 6⟩, y3.at_ 0, y3.at_ 1, y3.at_ 2, y3.at_ 3, y3.at_ 4, y3.at_ 5, y3.at_ 6⟩)
  obtain ⟨sb, hsb⟩ : ∃ sb, sameB a b = sb := ⟨_, rfl⟩
  have HP := Lib.hid (show ∀ W, Below W5.heap.size W5 W → Calls Tryd.prog 7 #[exV k1 o1 vk1 vn1 (txt vs1) (txt nm1) A1 n1 c1, exV k2 o2 vk2 vn2 (txt vs2) (txt nm2) A2 n2 c2] W fun x w' => x = .returned (.bool sb) ∧ Below W.heap.size W w' from fun W hW => by rw [← hsb]; exact same_any a b _ _ W (HCA.out.on (Mem.on HBW5.out hW)) (HCB.out.on (Mem.on HBW5.out hW)))
  have HQ := Lib.hid (show ∀ W, Below W5.heap.size W5 W → Calls Tryd.prog 8 #[exV k1 o1 vk1 vn1 (txt vs1) (txt nm1) A1 n1 c1, exV k2 o2 vk2 vn2 (txt vs2) (txt nm2) A2 n2 c2] W fun x w' => x = .returned (.bool sb) ∧ Below W.heap.size W w' from fun W hW => by rw [← hsb]; exact refSame_any a b _ _ W (HCA.out.on (Mem.on HBW5.out hW)) (HCB.out.on (Mem.on HBW5.out hW)))
  have HPC := Lib.hid (show ∀ W, Below W5.heap.size W5 W → Calls Tryd.prog 7 #[exV k1 o1 vk1 vn1 (txt vs1) (txt nm1) Ac n1 cc, exV k1 o1 vk1 vn1 (txt vs1) (txt nm1) A1 n1 c1] W fun x w' => x = .returned (.bool true) ∧ Below W.heap.size W w' from fun W hW => by rw [← same_self a]; exact same_any a a _ _ W (HCL.out.at_.on (Mem.on HB25.out hW)) (HCA.out.on (Mem.on HBW5.out hW)))
  have HQC := Lib.hid (show ∀ W, Below W5.heap.size W5 W → Calls Tryd.prog 8 #[exV k1 o1 vk1 vn1 (txt vs1) (txt nm1) Ac n1 cc, exV k1 o1 vk1 vn1 (txt vs1) (txt nm1) A1 n1 c1] W fun x w' => x = .returned (.bool true) ∧ Below W.heap.size W w' from fun W hW => by rw [← same_self a]; exact refSame_any a a _ _ W (HCL.out.at_.on (Mem.on HB25.out hW)) (HCA.out.on (Mem.on HBW5.out hW)))
  have tb : (sb != sb) = false := by simp
  clear hsb
  refine wp_region_quiet (C := fun w' => Below W5.heap.size W5 w') (by kernel_rfl) (by kernel_rfl) (Below.refl _ _).drew ?_
  repeat (first | go_big_quiet_skip | (refine BigFrame.wpQuiet_want rfl (fun K hK => ?_); refine quietC_val ?_; apply Exists.intro; refine ⟨fun W hW => ?_, hK _ ?_⟩; (focus (obtain ⟨⟨p0, p1, p2, p3, p4, p5, p6⟩, ⟨q0, q1, q2, q3, q4, q5, q6⟩, r0, r1, r2, r3, r4, r5, r6⟩ := HZ.out W hW; go_simp; first | done | rfl)); clear hK K; simp only [Act.put, List.setIfInBounds_toArray, List.set_cons_zero, List.set_cons_succ]) | (quiet_step ((intro hW; first | (go_at_call_of 7 (Value.agg #[.int .i64 k2, .int .i64 o2, .int .i64 vk2, .int .i64 vn2, .string (txt vs2), .string (txt nm2), .slice A2 n2 c2]); exact ((HP.out _ hW).mono fun _ _ ⟨a, b⟩ => ⟨a, Mem.on hW b⟩)) | (go_at_call_of 8 (Value.agg #[.int .i64 k2, .int .i64 o2, .int .i64 vk2, .int .i64 vn2, .string (txt vs2), .string (txt nm2), .slice A2 n2 c2]); exact ((HQ.out _ hW).mono fun _ _ ⟨a, b⟩ => ⟨a, Mem.on hW b⟩)) | (go_at_call_of 7 (Value.agg #[.int .i64 k1, .int .i64 o1, .int .i64 vk1, .int .i64 vn1, .string (txt vs1), .string (txt nm1), .slice Ac n1 cc]); exact ((HPC.out _ hW).mono fun _ _ ⟨a, b⟩ => ⟨a, Mem.on hW b⟩)) | (go_at_call_of 8 (Value.agg #[.int .i64 k1, .int .i64 o1, .int .i64 vk1, .int .i64 vn1, .string (txt vs1), .string (txt nm1), .slice Ac n1 cc]); exact ((HQC.out _ hW).mono fun _ _ ⟨a, b⟩ => ⟨a, Mem.on hW b⟩))))))
  refine wpQuiet_nil ?_
  intro W9 hw9
  have HW9 := Lib.hid hw9
  clear hw9
  have HG := Lib.hid (show kids1 ≠ [] → ∃ g, Ac = some ⟨g, 0, none⟩ ∧ w1.heap.size ≤ g ∧ Mut W9 g w2.heap.size kids1 from fun hne => by
    have h := HCL.out
    rw [← HA.out] at h
    obtain ⟨g, h1, h2, h3⟩ := h.mut hne
    exact ⟨g, h1, h2, h3.below (Mem.on HB25.out HW9.out)⟩)
  have HF := Lib.hid (show n1 ≤ 1000 ∧ ∀ y ∈ kids1, (kidsOf y).length ≤ 1000 from HSM.out)
  have HBW9 := Lib.hid (Mem.on HBW5.out HW9.out)
  have HKP := Lib.hid (Kp.refl w1.heap.size w2.heap.size W9)
  have HV1 := Lib.hid (HY1.out.below HW9.out)
  have HV3 := Lib.hid (HY3.out.below HW9.out)
  have HV5 := Lib.hid (HX5.out.below HW9.out)
  have HVD := Lib.hid (ExIn.to (S' := fun b => W3.heap.size ≤ b ∧ b < W9.heap.size) (fun b hb => ⟨hb.1, Nat.lt_of_lt_of_le hb.2.lt (Mem.on HB5.out HW9.out).size⟩) (fun p hp => (Mem.on HB5.out HW9.out).cell hp.2.lt) a _ HDL.out.in_)
  have HVA := Lib.hid (HCA.out.below HBW9.out)
  have HLT := Lib.hid (show w.heap.size + 2 ≤ w1.heap.size ∧ w1.heap.size ≤ w2.heap.size ∧ W3.heap.size = w2.heap.size + 1 ∧ W3.heap.size ≤ w4.heap.size ∧ w4.heap.size < W9.heap.size from by
    have e1 := HK1.out.size
    have e2 := HB2.out.size
    have e3 := HB4.out.size
    have e4 := HX5.out.lt
    have e5 := HW9.out.size
    have e6 := HX2.out.lt
    have e7 := HS3.out
    omega)
  obtain ⟨gg, hgg⟩ : ∃ gg, kids1 ≠ [] → Ac = some ⟨gg, 0, none⟩ ∧ w1.heap.size ≤ gg ∧ Mut W9 gg w2.heap.size kids1 := by
    by_cases hk : kids1 = []
    · exact ⟨0, fun h => absurd hk h⟩
    · obtain ⟨g, hg⟩ := HG.out hk
      exact ⟨g, fun _ => hg⟩
  have HGG := Lib.hid hgg
  have hn1k : n1 ≤ 1000 := HF.out.1
  have z6 := HV3.out.at_ 6
  clear hgg
  go_wp2
  clear z6
  go_loopg [7] n1 (fun gk i wx => ∃ k : Nat, k + gk = n1 ∧ i = .int .i64 (k : Int) ∧ Hid (kids1 ≠ [] → Mut wx gg w2.heap.size kids1) ∧ Hid (Kp w1.heap.size w2.heap.size W9 wx) ∧ Hid (Below w.heap.size w wx))
  case atStart => exact ⟨0, by omega, rfl, Lib.hid (fun h => (HGG.out h).2.2), HKP, HBW9⟩
  case round =>
    obtain ⟨k, hk, rfl, HM, HK, HBR⟩ := hrel
    have z6 := (HK.out.cel (.inr (Nat.le_refl _)) HV3.out).at_ 6
    cases gk with
    | zero =>
      obtain rfl : k = n1 := by omega
      have tl : decide ((k : Int) < (k : Int)) = false := decide_eq_false (by omega)
      have hd := HK.out.cel (.inr (by have := HLT.out; omega)) HV5.out
      have he := HK.out.cel (.inl (by have := HLT.out; omega)) HV1.out
      have d0 := hd.at_ 0
      have d1 := hd.at_ 1
      have d2 := hd.at_ 2
      have d3 := hd.at_ 3
      have d4 := hd.at_ 4
      have d5 := hd.at_ 5
      have d6 := hd.at_ 6
      have e0 := he.at_ 0
      have e1 := he.at_ 1
      have e2 := he.at_ 2
      have e3 := he.at_ 3
      have e4 := he.at_ 4
      have e5 := he.at_ 5
      have e6 := he.at_ 6
      have HR := Lib.hid (show Calls Tryd.prog 8 #[exV k1 o1 vk1 vn1 (txt vs1) (txt nm1) Ad k cd, exV k1 o1 vk1 vn1 (txt vs1) (txt nm1) A1 k c1] wr fun x w' => x = .returned (.bool true) ∧ Below wr.heap.size wr w' from by
        rw [← same_self a]
        have h9 := HK.out.1
        have hl := HLT.out
        exact refSame_any a a _ _ wr (ExIn.to (fun b hb => Nat.lt_of_lt_of_le hb.2 h9) (fun p hp => HK.out.cell p (.inr (by have := hp.1; omega)) hp.2) a _ HVD.out) (ExIn.to (fun b hb => Nat.lt_of_lt_of_le hb HBR.out.size) (fun p hp => HK.out.cell p (.inl (by omega)) (Nat.lt_of_lt_of_le hp HBW9.out.size)) a _ HVA.out))
      have HWR := Lib.hid (HW.out wr HBR.out)
      clear hd he
      go_wp2_with (first
        | (go_at_call 8; (with_reducible refine HR.out.mono ?_); rintro e' w6 ⟨rfl, hb6⟩; have HB6 := Lib.hid (Mem.on HBR.out hb6); clear hb6)
        | (go_at_call 5; (with_reducible refine (HW.out _ HB6.out).mono ?_); rintro e' w7 ⟨rfl, hb7⟩; have HB7 := Lib.hid (Mem.on HB6.out hb7); clear hb7))
      go_ret
      exact ⟨rfl, HB7.out⟩
    | succ gr =>
      have hlt : k < n1 := by omega
      have hne : kids1 ≠ [] := fun e => by have := HN1.out; subst e; simp at this; omega
      obtain ⟨rfl, hg1, -⟩ := HGG.out hne
      have hm := HM.out hne
      have HMU := Lib.hid hm
      obtain ⟨h0, hO, hall⟩ := hm
      obtain ⟨y, hy⟩ := kid_some (l := kids1) (j := k) (by have := HN1.out; omega)
      obtain ⟨⟨x, hx⟩, A', c', ha6, hgr⟩ := hall k y hy
      obtain ⟨cur, hc⟩ := hO
      have f0 := hc.open_ (k * 7)
      have HO := Lib.hid (show OpenB wr gg from ⟨cur, hc⟩)
      have HY := Lib.hid hy
      have HG1 := Lib.hid (show w1.heap.size ≤ gg ∧ gg < w2.heap.size from ⟨hg1, h0⟩)
      obtain ⟨m, hm⟩ : ∃ m, (kidsOf y).length = m := ⟨_, rfl⟩
      have hm1k : m ≤ 1000 := by rw [← hm]; exact HF.out.2 y (kid_mem hy)
      have HMY := Lib.hid hm
      have tl : decide ((k : Int) < (n1 : Int)) = true := decide_eq_true (by omega)
      have hw2 : OpenB wr gg := ⟨cur, hc⟩
      have HB1s := Lib.hid (fun v => HBR.out.setCell (p := ⟨gg, k * 7, none⟩) (by have := HLT.out; show w.heap.size ≤ gg; omega) v)
      clear h0 hall hgr ha6 hc hy hg1 hm hw2 hne
      go_wp2
      go_loopg [8] m (fun gk i wx => ∃ j : Nat, j + gk = m ∧ i = .int .i64 (j : Int) ∧ Hid (Mut wx gg w2.heap.size kids1) ∧ Hid (Kp w1.heap.size w2.heap.size W9 wx) ∧ Hid (Below w.heap.size w wx))
      case atStart => exact ⟨0, by omega, rfl, Lib.hid (HMU.out.kind k _), Lib.hid (HK.out.set HG1.out.1 HG1.out.2 _), Lib.hid (HB1s.out _)⟩
      case round =>
        clear f0 hx z6
        obtain ⟨j, hj, rfl, HM2, HK2, HBR2⟩ := hrel
        have z6 := (HK2.out.cel (.inr (Nat.le_refl _)) HV3.out).at_ 6
        have hm2 := HM2.out
        obtain ⟨h0, hO, hall⟩ := hm2
        obtain ⟨-, A', c', ha6, hgr⟩ := hall k y HY.out
        rw [HMY.out] at ha6
        unfold Grand at hgr
        rw [HMY.out] at hgr
        cases gk with
        | zero =>
          obtain rfl : j = m := by omega
          have tl2 : decide ((j : Int) < (j : Int)) = false := decide_eq_false (by omega)
          clear hgr hall hO h0
          go_wp2
          go_roundg gr
          case measure => omega
          case rel => exact ⟨k + 1, by omega, by go_num, Lib.hid fun _ => HM2.out, HK2, HBR2⟩
        | succ g2 =>
          have hjm : j < m := by omega
          have tl2 : decide ((j : Int) < (m : Int)) = true := decide_eq_true (by omega)
          obtain ⟨b2, p2, rfl, hgb, hbh, hO2, x2, hx2⟩ := hgr j hjm
          obtain ⟨cur2, hc2⟩ := hO2
          have f2 := hc2.open_ (p2 + j * 7 + 1)
          have HM3 := Lib.hid (fun v => HM2.out.sign (b := b2) (i := p2 + j * 7 + 1) hgb ⟨cur2, hc2⟩ v)
          have HK3 := Lib.hid (fun v => HK2.out.set (b := b2) (i := p2 + j * 7 + 1) (by have := HG1.out.1; omega) hbh v)
          have HB3s := Lib.hid (fun v => HBR2.out.setCell (p := ⟨b2, p2 + j * 7 + 1, none⟩) (by have := HLT.out; have := HG1.out.1; show w.heap.size ≤ b2; omega) v)
          clear hgr hall hO h0 hc2
          go_wp2
          go_roundg g2
          case measure => omega
          case rel => exact ⟨j + 1, by omega, by go_num, Lib.hid (HM3.out _), Lib.hid (HK3.out _), Lib.hid (HB3s.out _)⟩
end Go.Proofs.YtmhojhfajkhbbaaDoor.Ep
