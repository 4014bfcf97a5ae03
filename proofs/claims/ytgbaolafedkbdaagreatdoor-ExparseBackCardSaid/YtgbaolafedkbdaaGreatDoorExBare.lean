/- A column, and a sign between two, are written. -/
import Derived.Test.YtgbaolafedkbdaaGreatDoorExOuts
import Derived.StillTailTactics
import Derived.Laws.Concat
namespace Go.Proofs.YtgbaolafedkbdaaGreatDoor.Ep
open Go.RowKit Go.Proofs.YtgbaolafedkbdaaGreatDoor.Mem Go.Proofs.YtgbaolafedkbdaaGreatDoor.Right Go.Proofs.YtgbaolafedkbdaaGreatDoor.Lx
set_option linter.unusedVariables false

theorem boxes {w : World} {b : Nat} {l : List UInt8} (h : Bl b l w) (c1 : Array Value) (t1 : TypeId) (c2 : Array Value) (t2 : TypeId) (W : World) (hW : (w.alloc (.cells c1 t1)).alloc (.cells c2 t2) = W) (h1 : t1 ≠ t8) (h2 : t2 ≠ t8) :
    Wr b w W ∧ Bl b l W ∧ (∀ W', Wr b W W' → Cel W' w.heap.size t1 c1) ∧ (∀ W', Wr b W W' → Cel W' (w.heap.size + 1) t2 c2) := by
  have hbw := h.lt
  subst hW
  exact ⟨((Wr.refl b w).alloc h.2 _).alloc (by simp; omega) _, (h.alloc _).alloc _, fun W' hW' => hW'.cel (by omega) h1 ((Cel.new w t1 c1 rfl).alloc _), fun W' hW' => hW'.cel (by omega) h2 (Cel.new _ t2 c2 (by simp))⟩
theorem below_wr {b : Nat} {w a c : World} (h : Wr b w a) (k : Wr b a c) : Below b w c := (h.trans k).1
set_option maxHeartbeats 4000000 in
set_option maxRecDepth 100000 in
theorem bare_col (nm : List UInt8) : BareC (col nm) := by
  intro cs b l w h hl hO hg hlen
  have ht : tx (pcs (col nm)) = nm := by rw [pcs_col, tx_some]; simp [tx]
  rw [ht] at hlen ⊢
  obtain ⟨A, kn, c, rfl, -⟩ := ex_open (show ExIn w _ (.mk 2 0 0 0 [] nm []) cs from h)
  obtain ⟨W, hW⟩ : ∃ W, (w.alloc (.cells (prC b) tP)).alloc (.cells #[.int .i64 2, .int .i64 0, .int .i64 0, .int .i64 0, .string (txt []), .string (txt nm), .slice A kn c] tE) = W := ⟨_, rfl⟩
  obtain ⟨h1, h2, h3, h4⟩ := boxes hl _ _ _ _ W hW (by decide) (by decide)
  have x0 := (h3 W (Wr.refl _ _)).at_ 0
  have y0 := (h4 W (Wr.refl _ _)).at_ 0
  have y5 := (h4 W (Wr.refl _ _)).at_ 5
  have HP := Lib.hid (put_any b l (txt nm) W h2 (by rw [txt_size]; omega))
  have HW := Lib.hid h1
  simp at x0 y0 y5
  clear h hl hO hlen ht h1 h2 h3 h4
  go_enter Tryz.func47, Tryz.ntmps47
  go_wp2_with (first | (go_at_call 25; (with_reducible refine HP.out.mono ?_); rintro e' w2 ⟨n2, rfl, hl2, hr2⟩; have HL2 := Lib.hid hl2; have HR2 := Lib.hid hr2; clear hl2 hr2))
  go_end0
  exact ⟨rfl, _, HL2.out, HW.out.trans HR2.out, WT.lit _ _⟩
/-- A blank, a sign, a blank. -/
theorem sign_text (l : List UInt8) : (((⟨#[32]⟩ : ByteArray) ++ txt l) ++ ⟨#[32]⟩).data.toList = 32 :: (l ++ [32]) := by
  simp [ByteArray.data_append, txt]
theorem sign_size (l : List UInt8) : (((⟨#[32]⟩ : ByteArray) ++ txt l) ++ ⟨#[32]⟩).size = l.length + 2 := by
  simp [ByteArray.size_append, txt_size]
  have : (ByteArray.mk #[32]).size = 1 := rfl
  omega
theorem len_ite (p : Prop) [Decidable p] (a b : List UInt8) (ha : a.length ≤ 3) (hb : b.length ≤ 3) : (if p then a else b).length ≤ 3 := by split <;> assumption
theorem sg_len (o : Int) : (sg o).length ≤ 3 := by
  unfold sg
  repeat (refine len_ite _ _ _ (by decide) ?_)
  decide
theorem sign_at (j : Nat) (hj : j < 14) (w : World) : (Instr.indexAt 119 (.pointer (some ⟨1, 0, none⟩)) (.int .i64 (j : Int))).run Tryz.prog w = .ok (.pointer (some ⟨1, j, none⟩)) w := by
  simp [Instr.indexAt, run_underlying Tryz.underlying119, asIntOf, go_sem]
  intro h
  omega
theorem wrap_i64 {n : Int} (h : -9223372036854775808 ≤ n) (h' : n ≤ 9223372036854775807) : IntKind.i64.wrap n = n := by
  simp [IntKind.wrap, IntKind.signed, IntKind.bits]
  omega
set_option maxHeartbeats 4000000 in
set_option maxRecDepth 100000 in
theorem bin_any {a c : Ex} (ha : KidC a) (hc : KidC c) (j : Nat) (hj : j < 14) (ca cc : List Value) (b : Nat) (l : List UInt8) (w : World) (h1 : ExAt w b a ca) (h2 : ExAt w b c cc) (hl : Bl b l w) (hO : Osg w) (hg : gTop < b)
    (hlen : l.length + (tx (pcs (bin ((j : Int) + 1) a c))).length ≤ 1000000) :
    Calls Tryz.prog 73 #[prV b, .int .i64 ((j : Int) + 1), .agg ca.toArray, .agg cc.toArray] w fun x w' => x = .returned (.tuple #[]) ∧ ∃ l', Bl b l' w' ∧ Wr b w w' ∧ WT l (tx (pcs (bin ((j : Int) + 1) a c))) l' := by
  obtain ⟨o, ho⟩ : ∃ o : Int, (j : Int) + 1 = o := ⟨_, rfl⟩
  have ht : tx (pcs (bin o a c)) = tx (kidP a (ask1 o)) ++ ((32 :: (sg o ++ [32])) ++ tx (kidP c (ask2 o))) := by
    rw [pcs_bin, tx_app, tx_none, tx_some, tx_none]
    have : (sgT o).2 = sg o := by unfold sgT; split <;> rfl
    rw [this]
    simp
  rw [ho] at hlen ⊢
  rw [ht] at hlen ⊢
  simp only [List.length_append, List.length_cons, List.length_nil] at hlen
  have hsgn := hO.sign hj
  rw [ho] at hsgn
  have hka := h1
  have hkc := h2
  obtain ⟨k1, o1, vk1, vn1, vs1, nm1, kids1⟩ := a
  obtain ⟨k2, o2, vk2, vn2, vs2, nm2, kids2⟩ := c
  obtain ⟨A1, n1, c1, rfl, -⟩ := ex_open h1
  obtain ⟨A2, n2, c2, rfl, -⟩ := ex_open h2
  obtain ⟨a, hea⟩ : ∃ a, Ex.mk k1 o1 vk1 vn1 vs1 nm1 kids1 = a := ⟨_, rfl⟩
  obtain ⟨c, hec⟩ : ∃ c, Ex.mk k2 o2 vk2 vn2 vs2 nm2 kids2 = c := ⟨_, rfl⟩
  rw [hea] at hka ha hlen
  rw [hec] at hkc hc hlen
  rw [hea, hec]
  clear hea hec h1 h2 ht
  obtain ⟨r1, hr1⟩ : ∃ r, ask1 o = r := ⟨_, rfl⟩
  obtain ⟨r2, hr2⟩ : ∃ r, ask2 o = r := ⟨_, rfl⟩
  rw [hr1, hr2] at hlen ⊢
  have HAK := Lib.hid (show ∀ W, Calls Tryz.prog 100 #[.int .i64 o] W fun e w' => e = .returned (.tuple #[.int .i64 (r1 : Int), .int .i64 (r2 : Int)]) ∧ W = w' from fun W => by rw [← hr1, ← hr2]; exact askedOf_any o W)
  obtain ⟨W0, hW0⟩ : ∃ W0, w.alloc (.cells (prC b) tP) = W0 := ⟨_, rfl⟩
  have hl0 : Bl b l W0 := by rw [← hW0]; exact hl.alloc _
  have hs0 : W0.heap.size = w.heap.size + 1 := by rw [← hW0]; simp
  have hw0 : Wr b w W0 := by rw [← hW0]; exact (Wr.refl b w).alloc hl.2 _
  have hp0 : Cel W0 w.heap.size tP (prC b) := by rw [← hW0]; exact Cel.new w tP _ rfl
  obtain ⟨W, hW⟩ : ∃ W, (W0.alloc (.cells #[.int .i64 k1, .int .i64 o1, .int .i64 vk1, .int .i64 vn1, .string (txt vs1), .string (txt nm1), .slice A1 n1 c1] tE)).alloc (.cells #[.int .i64 k2, .int .i64 o2, .int .i64 vk2, .int .i64 vn2, .string (txt vs2), .string (txt nm2), .slice A2 n2 c2] tE) = W := ⟨_, rfl⟩
  obtain ⟨g1, g2, g3, g4⟩ := boxes hl0 _ _ _ _ W hW (by decide) (by decide)
  have hbw := hl.lt
  have gp : ∀ W', Wr b W W' → Cel W' w.heap.size tP (prC b) := fun W' hW' => (g1.trans hW').cel (Nat.ne_of_gt hbw) (by decide) hp0
  have hX : ∀ W', Wr b W W' → W'.cell? ⟨w.heap.size, 0, none⟩ = some (.func (.func 25) #[.pointer (some ⟨b, 0, none⟩)] #[]) ∧ W'.cell? ⟨w.heap.size, 1, none⟩ = some (.func (.func 26) #[.pointer (some ⟨b, 0, none⟩)] #[]) := fun W' hW' => ⟨(gp W' hW').at_ 0, (gp W' hW').at_ 1⟩
  have hY : ∀ W', Wr b W W' → W'.cell? ⟨W0.heap.size, 0, none⟩ = some (.int .i64 k1) ∧ W'.cell? ⟨W0.heap.size, 1, none⟩ = some (.int .i64 o1) ∧ W'.cell? ⟨W0.heap.size, 2, none⟩ = some (.int .i64 vk1) ∧ W'.cell? ⟨W0.heap.size, 3, none⟩ = some (.int .i64 vn1) ∧ W'.cell? ⟨W0.heap.size, 4, none⟩ = some (.string (txt vs1)) ∧ W'.cell? ⟨W0.heap.size, 5, none⟩ = some (.string (txt nm1)) ∧ W'.cell? ⟨W0.heap.size, 6, none⟩ = some (.slice A1 n1 c1) := fun W' hW' => by
    have := g3 W' hW'
    exact ⟨this.at_ 0, this.at_ 1, this.at_ 2, this.at_ 3, this.at_ 4, this.at_ 5, this.at_ 6⟩
  have hZ : ∀ W', Wr b W W' → W'.cell? ⟨W0.heap.size + 1, 0, none⟩ = some (.int .i64 k2) ∧ W'.cell? ⟨W0.heap.size + 1, 1, none⟩ = some (.int .i64 o2) ∧ W'.cell? ⟨W0.heap.size + 1, 2, none⟩ = some (.int .i64 vk2) ∧ W'.cell? ⟨W0.heap.size + 1, 3, none⟩ = some (.int .i64 vn2) ∧ W'.cell? ⟨W0.heap.size + 1, 4, none⟩ = some (.string (txt vs2)) ∧ W'.cell? ⟨W0.heap.size + 1, 5, none⟩ = some (.string (txt nm2)) ∧ W'.cell? ⟨W0.heap.size + 1, 6, none⟩ = some (.slice A2 n2 c2) := fun W' hW' => by
    have := g4 W' hW'
    exact ⟨this.at_ 0, this.at_ 1, this.at_ 2, this.at_ 3, this.at_ 4, this.at_ 5, this.at_ 6⟩
  obtain ⟨x0, x1⟩ := hX W (Wr.refl _ _)
  obtain ⟨y0, y1, y2, y3, y4, y5, y6⟩ := hY W (Wr.refl _ _)
  obtain ⟨z0, z1, z2, z3, z4, z5, z6⟩ := hZ W (Wr.refl _ _)
  have hwW := hw0.trans g1
  have HKA := Lib.hid (show Calls Tryz.prog 27 #[prV b, exV k1 o1 vk1 vn1 (txt vs1) (txt nm1) A1 n1 c1, .int .i64 (r1 : Int)] W fun x w' => x = .returned (.tuple #[]) ∧ ∃ l', Bl b l' w' ∧ Wr b W w' ∧ WT l (tx (kidP a r1)) l' from ha _ b r1 l W (hka.wr hwW) g2 (hO.below hwW.1 hg) hg (by omega))
  have HKC := Lib.hid (show ∀ (l' : List UInt8) W', Bl b l' W' → Wr b W W' → l'.length + (tx (kidP c r2)).length ≤ 1000000 → Calls Tryz.prog 27 #[prV b, exV k2 o2 vk2 vn2 (txt vs2) (txt nm2) A2 n2 c2, .int .i64 (r2 : Int)] W' fun x w' => x = .returned (.tuple #[]) ∧ ∃ l2, Bl b l2 w' ∧ Wr b W' w' ∧ WT l' (tx (kidP c r2)) l2 from fun l' W' q1 q2 q3 => hc _ b r2 l' W' (hkc.wr (hwW.trans q2)) q1 (hO.below (below_wr hwW q2) hg) hg q3)
  have HPUT := Lib.hid (show ∀ (m : List UInt8) W', Bl b m W' → m.length + (sg o).length + 2 ≤ 1000000 → Calls Tryz.prog 25 #[.pointer (some ⟨b, 0, none⟩), .string (((⟨#[32]⟩ : ByteArray) ++ txt (sg o)) ++ ⟨#[32]⟩)] W' fun e w' => ∃ n, e = .returned (.tuple #[.int .i64 n, .nilIface]) ∧ Bl b (m ++ (32 :: (sg o ++ [32]))) w' ∧ Wr b W' w' from fun m W' q1 q2 => by
    have := put_any b m (((⟨#[32]⟩ : ByteArray) ++ txt (sg o)) ++ ⟨#[32]⟩) W' q1 (by rw [sign_size]; omega)
    rw [sign_text] at this
    exact this)
  have HX := Lib.hid hX
  have HZ := Lib.hid hZ
  have HW := Lib.hid hwW
  have HO := Lib.hid (show ∀ W', Wr b W W' → W'.cell? ⟨1, j, none⟩ = some (.string (txt (sg o))) from fun W' hW' => ((below_wr hwW hW').cell (p := ⟨1, j, none⟩) (g_signs hg)).trans hsgn)
  obtain ⟨st, hst⟩ : ∃ st, txt (sg o) = st := ⟨_, rfl⟩
  have hsz : st.size ≤ 3 := by rw [← hst, txt_size]; exact sg_len o
  rw [hst] at HPUT HO
  have HLEN := Lib.hid hlen
  have hj1 : o - 1 = (j : Int) := by omega
  have hjw : IntKind.i64.wrap (j : Int) = (j : Int) := wrap_i64 (by omega) (by omega)
  have HOJ := Lib.hid ho
  clear hka hkc ha hc hlen hsgn hr1 hr2 hl0 hs0 hw0 hp0 g1 g2 g3 g4 gp hX hY hZ hwW hO hl ho hst
  go_enter Tryz.func73, Tryz.ntmps73
  go_wp2_with (first
    | (go_at_call 100; (with_reducible refine (HAK.out _).mono ?_); rintro e' w1 ⟨rfl, rfl⟩)
    | (go_at_call 27; (with_reducible refine HKA.out.mono ?_); rintro e' w2 ⟨rfl, l2, hl2, hr2, ht2⟩; have HL2 := Lib.hid hl2; have HT2 := Lib.hid ht2; have HR2 := Lib.hid hr2; obtain ⟨x0, x1⟩ := HX.out w2 hr2; obtain ⟨z0, z1, z2, z3, z4, z5, z6⟩ := HZ.out w2 hr2; have sj := HO.out w2 hr2; clear hl2 hr2 ht2))
  have hr3 : Wr b W w2.drew := ⟨HR2.out.1.drew, HR2.out.2.drew⟩
  have hl3 : Bl b l2 w2.drew := HL2.out
  have HP3 := Lib.hid (HPUT.out l2 w2.drew hl3 (by have := HT2.out.len; have := HLEN.out; omega))
  refine wp_region_still_tail 8 (by kernel_rfl) (by kernel_rfl) ?_
  simp only [List.take_succ_cons, List.take_zero, List.drop_succ_cons, List.drop_zero]
  change wpStill _ _ (w2.drew) (fun a' => wpList _ _ _ _ a' (w2.drew)) _ _
  clear x0 x1 z0 z1 z2 z3 z4 z5 z6 sj y0 y1 y2 y3 y4 y5 y6
  generalize w2.drew = w3 at *
  obtain ⟨x0, x1⟩ := HX.out w3 hr3
  have sj := HO.out w3 hr3
  have HR3 := Lib.hid hr3
  have hia := sign_at j hj w3
  have h32 : (ByteArray.mk #[32]).size = 1 := rfl
  have hca := run_string_add_sum (P := Tryz.prog) (w := w3) ⟨#[32]⟩ st (by omega)
  have hcb := run_string_add_sum (P := Tryz.prog) (w := w3) ((⟨#[32]⟩ : ByteArray) ++ st) ⟨#[32]⟩ (by rw [ByteArray.size_append]; omega)
  clear h32
  clear hr3 hl3
  repeat still_step
  refine wpStill_nil ?_
  go_wp2_with (first
    | (go_at_call 25; (with_reducible refine HP3.out.mono ?_); rintro e' w4 ⟨n4, rfl, hl4, hr4⟩; have HL4 := Lib.hid hl4; have HR4 := Lib.hid (HR3.out.trans hr4); obtain ⟨x0, x1⟩ := HX.out w4 HR4.out; obtain ⟨z0, z1, z2, z3, z4, z5, z6⟩ := HZ.out w4 HR4.out; clear hl4 hr4)
    | (go_at_call 27; (with_reducible refine (HKC.out _ w4 HL4.out HR4.out (by have := HT2.out.len; have := HLEN.out; simp only [List.length_append, List.length_cons, List.length_nil]; omega)).mono ?_); rintro e' w5 ⟨rfl, l5, hl5, hr5, ht5⟩; have HL5 := Lib.hid hl5; have HT5 := Lib.hid ht5; have HR5 := Lib.hid (HR4.out.trans hr5); clear hl5 hr5 ht5))
  go_end0
  exact ⟨rfl, _, HL5.out, HW.out.trans HR5.out, HT2.out.trans ((WT.lit _ _).trans HT5.out)⟩
end Go.Proofs.YtgbaolafedkbdaaGreatDoor.Ep
