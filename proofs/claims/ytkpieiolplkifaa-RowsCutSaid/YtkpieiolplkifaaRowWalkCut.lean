/- The law of bytes that are cut, or too many: the walk. -/
import Derived.Test.YtkpieiolplkifaaRowWalkBack
namespace Go.Proofs.Ytkpieiolplkifaa.Rw
open Go.RowKit Go.Proofs.Ytkpieiolplkifaa.Mem Go.Proofs.Ytkpieiolplkifaa.Right Go.Proofs.Ytkpieiolplkifaa.Refs
set_option linter.unusedVariables false

/-- Bytes that lie somewhere, behind those of the call's own. -/
theorem wp_src {B B2 : Nat} {W w0 : World} {v : Value} {l cs : List UInt8} {A : Option Addr} {m c : Nat} (h : Made B W v l w0) (hr : Row w0 B2 A (bys cs)) (hm : cs.length = m) (hA : A = none → c = 0) {ops : Array Oper} {rest : List Oper} {o : Oper} {a : Act} {Q : Exit → Act → World → Prop} (s y : Operand)
    (hgd : o.guard = none) (ho : o.op = .call { callee := .builtin .append, args := #[s, y], argTypes := #[27, 27] })
    (hs : a.eval s = v) (hy : a.eval y = .slice A m c) (hl : l.length + m ≤ 2000000)
    (k : ∀ v' w', Made B W v' (l ++ cs) w' → wpList Try.prog ops Q rest (a.put o.dst v') w') :
    wpList Try.prog ops Q (o :: rest) a w0 :=
  wp_many elem_byte B s y hgd ho hs h.1 hy hr (by rw [bys_len, hm]) hA (bys_one _) (by omega) (by omega) h.2.2 fun v' w' g1 g2 _ => k v' w' (h.grow (by rw [bys_app] at g1; exact g1) g2)
theorem empty_made (w : World) (o : Obj) : Made (w.alloc o).heap.size (w.alloc o) (.slice (some ⟨w.heap.size + 1, 0, none⟩) 0 0) [] ((w.alloc o).alloc (.cells #[] 5)) :=
  Made.at_ (al (Below.refl _ _) _) (by simp) (lit_at w o _) rfl rfl (by decide)
theorem made_bs {B : Nat} {W w' : World} {v : Value} {l : List UInt8} {n : Nat} (h : Made B W v l w') (hn : l.length = n) : ∃ A c, v = .slice A n c ∧ Bs w' A n c l := by
  subst hn
  exact h.bs
theorem cut_bs {w : World} {A : Option Addr} {p c k : Nat} {l : List UInt8} (h : Bs w A p c l) (hk : k < p) : Bs w A k c (l.take k) ∧ (k : Int) ≤ (c : Int) := by
  obtain ⟨h1, h2, h3, h4⟩ := h
  exact ⟨⟨row_take h1, by rw [List.length_take]; omega, by omega, h4⟩, by omega⟩
theorem row_len {num : Int} {vs : List Vl} (h : Fine num vs) : (rowB num vs).length ≤ 1000 := by
  have h1 := sm_len num.toNat 0 (by decide) (by rw [lim_0]; have := h.2.1; omega)
  have h2 := vals_len h.2.2.2
  have h3 := h.2.2.1
  unfold rowB
  simp only [List.length_append, List.length_cons]
  omega
set_option maxRecDepth 20000 in
set_option maxHeartbeats 4000000 in
theorem cut_large (num : Int) (A : Option Addr) (n c : Nat) (vs : List Vl) (at_ more : Int) (w : World) (h : Came w A n num vs) (hl : largeF 0 vs = true) :
    Calls Try.prog 5 #[.agg #[.int .i64 num, .slice A n c], .int .u16 at_, .int .u8 more] w fun e w' => e = .returned (.bool true) ∧ Below w.heap.size w w' := by
  obtain ⟨W1, hW1⟩ : ∃ W1, w.alloc (.cells #[.int .i64 num, .slice A n c] 24) = W1 := ⟨_, rfl⟩
  have HR := Lib.hid (show RBox W1 w.heap.size num A n c by rw [← hW1]; exact RBox.made _ _ _ _ _)
  have HB := Lib.hid (show Below w.heap.size w W1 by rw [← hW1]; exact al (Below.refl _ _) _)
  have HW := Lib.hid hW1
  have H := Lib.hid (h.below HB.out)
  obtain ⟨r0, r1⟩ := HR.out.cells
  have HL := Lib.hid hl
  clear h hW1 hl
  go_enter Try.func5, Try.ntmps5
  go_wp2_with fail
  rw [HW.out]
  go_wp2_with (first | (go_at_call 7; (with_reducible refine (large_any num A n c vs true HL.out W1 H.out).mono ?_); rintro e w1 ⟨rfl, hb1⟩; have HB1 := Lib.hid (on HB.out hb1); clear hb1) | (go_at_call 8; (with_reducible refine (works_any _).mono ?_); rintro e w2 ⟨rfl, hb2⟩; have HB2 := Lib.hid (on HB1.out hb2); clear hb2))
  go_ret
  exact ⟨rfl, HB2.out⟩
set_option maxRecDepth 20000 in
set_option maxHeartbeats 4000000 in
theorem cut_no (num : Int) (A : Option Addr) (n c : Nat) (vs : List Vl) (at_ more : Int) (w : World) (h : Came w A n num vs) (hl : largeF 0 vs = false) (x : Int) (hx : putE num vs = x) (hx0 : ¬ x = 0) :
    Calls Try.prog 5 #[.agg #[.int .i64 num, .slice A n c], .int .u16 at_, .int .u8 more] w fun e w' => e = .returned (.bool true) ∧ Below w.heap.size w w' := by
  obtain ⟨W1, hW1⟩ : ∃ W1, w.alloc (.cells #[.int .i64 num, .slice A n c] 24) = W1 := ⟨_, rfl⟩
  have HR := Lib.hid (show RBox W1 w.heap.size num A n c by rw [← hW1]; exact RBox.made _ _ _ _ _)
  have HB := Lib.hid (show Below w.heap.size w W1 by rw [← hW1]; exact al (Below.refl _ _) _)
  have HW := Lib.hid hW1
  have H := Lib.hid (h.below HB.out)
  obtain ⟨r0, r1⟩ := HR.out.cells
  have HL := Lib.hid hl
  have HX := Lib.hid hx
  have HLB := Lib.hid (putB_no hx hx0)
  have HP := Lib.hid (show ([] : List UInt8).length = 0 from rfl)
  have tx := bne_yes hx0
  clear h hW1 hl hx hx0
  go_enter Try.func5, Try.ntmps5
  go_wp2_with fail
  rw [HW.out]
  go_wp2_with (first | (go_at_call 7; (with_reducible refine (large_any num A n c vs false HL.out W1 H.out).mono ?_); rintro e w1 ⟨rfl, hb1⟩; have HB1 := Lib.hid (on HB.out hb1); have H1 := Lib.hid (H.out.below hb1); have HR1 := Lib.hid (HR.out.below hb1); obtain ⟨s0, s1⟩ := HR1.out.cells; clear hb1) | (go_at_call 9; (with_reducible refine (put_got num A n c vs [] x 0 HLB.out HX.out HP.out w1 H1.out).mono ?_); rintro e w2 ⟨A2, c2, rfl, hb2, -, -⟩; have HB2 := Lib.hid (on HB1.out hb2); clear hb2) | (go_at_call 8; (with_reducible refine (works_any _).mono ?_); rintro e w3 ⟨rfl, hb3⟩; have HB3 := Lib.hid (on HB2.out hb3); clear hb3))
  go_ret
  exact ⟨rfl, HB3.out⟩
set_option maxRecDepth 20000 in
set_option maxHeartbeats 4000000 in
theorem cut_yes (num : Int) (A : Option Addr) (n c : Nat) (vs : List Vl) (at_ more : Int) (w : World) (hat : 0 ≤ at_ ∧ at_ ≤ 65535) (hmo : 0 ≤ more ∧ more ≤ 255) (h : Came w A n num vs) (hl : largeF 0 vs = false) (hx : putE num vs = 0) :
    Calls Try.prog 5 #[.agg #[.int .i64 num, .slice A n c], .int .u16 at_, .int .u8 more] w fun e w' => e = .returned (.bool true) ∧ Below w.heap.size w w' := by
  obtain ⟨W1, hW1⟩ : ∃ W1, w.alloc (.cells #[.int .i64 num, .slice A n c] 24) = W1 := ⟨_, rfl⟩
  have HR := Lib.hid (show RBox W1 w.heap.size num A n c by rw [← hW1]; exact RBox.made _ _ _ _ _)
  have HB := Lib.hid (show Below w.heap.size w W1 by rw [← hW1]; exact al (Below.refl _ _) _)
  have HW := Lib.hid hW1
  have H := Lib.hid (h.below HB.out)
  obtain ⟨r0, r1⟩ := HR.out.cells
  have HL := Lib.hid hl
  have HX := Lib.hid hx
  have HFI := Lib.hid (h.fine hx)
  obtain ⟨l, hlb⟩ : ∃ l, rowB num vs = l := ⟨_, rfl⟩
  obtain ⟨p, hp⟩ : ∃ p, l.length = p := ⟨_, rfl⟩
  have HLB := Lib.hid (show putB num vs = l by rw [putB_0 hx, hlb])
  have HRL := Lib.hid hlb
  have HP := Lib.hid hp
  have hp0 : 0 < p := by rw [← hp, ← hlb]; unfold rowB; simp; omega
  have tp : ((p : Int) == 0) = false := beq_no (by omega)
  obtain ⟨ha0, ha1⟩ := hat
  obtain ⟨hm0, hm1⟩ := hmo
  have hp0' : (0 : Int) < (p : Int) := by omega
  obtain ⟨k, hk, hkp⟩ : ∃ k : Nat, at_ % (p : Int) = k ∧ k < p := by
    have h1 := Int.emod_nonneg at_ (show (p : Int) ≠ 0 by omega)
    have h2 := Int.emod_lt_of_pos at_ hp0'
    exact ⟨(at_ % (p : Int)).toNat, by omega, by omega⟩
  obtain ⟨z, rfl⟩ : ∃ z : Nat, more = z := ⟨more.toNat, by omega⟩
  have HG1 := Lib.hid (show getR (l.take k) = .bad 13 by rw [← hlb]; exact getR_cut (h.fine hx) (by rw [hlb, hp]; exact hkp))
  have HG2 := Lib.hid (show getR (([] ++ l) ++ [UInt8.ofNat z]) = .bad 14 by rw [List.nil_append, ← hlb]; exact getR_more (h.fine hx) _)
  have HLk := Lib.hid (show (l.take k).length = k by rw [List.length_take]; omega)
  have HP1 := Lib.hid (show (([] ++ l) ++ [UInt8.ofNat z]).length = p + 1 by simp; exact hp)
  have HLa := Lib.hid (show ([] : List UInt8).length + p ≤ 2000000 by have := row_len (h.fine hx); rw [hlb, hp] at this; simp; omega)
  have HLb := Lib.hid (show ([] ++ l).length + 1 ≤ 2000000 by have := row_len (h.fine hx); rw [hlb] at this; simp; omega)
  have HC := Lib.hid (show [Value.int .u8 (z : Int)] = bys [UInt8.ofNat z] by
    unfold bys
    rw [show (z : Int) = ((UInt8.ofNat z).toNat : Int) by rw [ofNat_small (by omega)]]
    simp)
  clear h hW1 hl hx hlb hp
  go_enter Try.func5, Try.ntmps5
  go_wp2_with fail
  rw [HW.out]
  go_wp2_with (first | (go_at_call 7; (with_reducible refine (large_any num A n c vs false HL.out W1 H.out).mono ?_); rintro e w1 ⟨rfl, hb1⟩; have HB1 := Lib.hid (on HB.out hb1); have H1 := Lib.hid (H.out.below hb1); have HR1 := Lib.hid (HR.out.below hb1); obtain ⟨s0, s1⟩ := HR1.out.cells; clear hb1) | (go_at_call 9; (with_reducible refine (put_got num A n c vs l 0 p HLB.out HX.out HP.out w1 H1.out).mono ?_); rintro e w2 ⟨A2, c2, rfl, hb2, hs2, hA2⟩; have HB2 := Lib.hid (on HB1.out hb2); have HS2 := Lib.hid hs2; have HA2 := Lib.hid hA2; obtain ⟨hk2, hkc⟩ := cut_bs hs2 hkp; have HK := Lib.hid hk2; clear hk2; clear hb2 hs2 hA2) | (go_at_call 15; (with_reducible refine (get_not A2 k c2 (l.take k) 13 HG1.out w2 HK.out).mono ?_); rintro e w3 ⟨c3, rfl, hb3⟩; have HB3 := Lib.hid (on HB2.out hb3); have HS3 := Lib.hid (HS2.out.below hb3); clear hb3) | (at_builtin; refine wp_src (empty_made w3 (.cells #[.int .i64 0, .slice none 0 c3] 24)) (HS3.out.below (al (al (Below.refl _ _) _) _)).1 HP.out HA2.out (.tmp 50) (.tmp 51) rfl rfl rfl rfl HLa.out ?_; intro v6 w6 m6; have HM6 := Lib.hid m6; clear m6) | (at_builtin; refine wp_lit HM6.out [UInt8.ofNat z] rfl (.tmp 52) (.tmp 54) rfl rfl rfl rfl HC.out rfl HLb.out ?_; intro v7 w7 m7 _ _; obtain ⟨A7, c7, rfl, hs7⟩ := made_bs m7 HP1.out; have HS7 := Lib.hid hs7; have HB7 := Lib.hid (on (al HB3.out _) m7.2.1); clear m7 hs7) | (go_at_call 15; (with_reducible refine (get_not A7 (p + 1) c7 _ 14 HG2.out w7 HS7.out).mono ?_); rintro e w8 ⟨c8, rfl, hb8⟩; have HB8 := Lib.hid (al (on HB7.out hb8) (.cells #[.int .i64 0, .slice none 0 c8] 24)); clear hb8) | (go_at_call 8; (with_reducible refine (works_any _).mono ?_); rintro e w9 ⟨rfl, hb9⟩; have HB9 := Lib.hid (on HB8.out hb9); clear hb9))
  go_ret
  exact ⟨rfl, HB9.out⟩
theorem walk_cut (num : Int) (A : Option Addr) (n c : Nat) (vs : List Vl) (at_ more : Int) (w : World) (h : Came w A n num vs) (hat : (Lit.int .u16 at_).wf = true) (hmo : (Lit.int .u8 more).wf = true) :
    Calls Try.prog 5 #[.agg #[.int .i64 num, .slice A n c], .int .u16 at_, .int .u8 more] w fun e w' => e = .returned (.bool true) ∧ Below w.heap.size w w' := by
  have h1 := bounds_u16 hat
  have h2 := bounds_u8 hmo
  cases hl : largeF 0 vs with
  | true => exact cut_large num A n c vs at_ more w h hl
  | false =>
    by_cases hx : putE num vs = 0
    · exact cut_yes num A n c vs at_ more w ⟨by omega, by omega⟩ ⟨by omega, by omega⟩ h hl hx
    · exact cut_no num A n c vs at_ more w h hl _ rfl hx
end Go.Proofs.Ytkpieiolplkifaa.Rw
