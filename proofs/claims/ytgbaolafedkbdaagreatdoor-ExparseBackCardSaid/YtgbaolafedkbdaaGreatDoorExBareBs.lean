import Derived.Test.YtgbaolafedkbdaaGreatDoorExBare
/- A sign between two is written, from a tree's cells. -/
namespace Go.Proofs.YtgbaolafedkbdaaGreatDoor.Ep
open Go.RowKit Go.Proofs.YtgbaolafedkbdaaGreatDoor.Mem Go.Proofs.YtgbaolafedkbdaaGreatDoor.Right Go.Proofs.YtgbaolafedkbdaaGreatDoor.Lx
set_option linter.unusedVariables false

set_option maxHeartbeats 4000000 in
set_option maxRecDepth 100000 in
theorem bare_bin {a c : Ex} (ha : KidC a) (hc : KidC c) (j : Nat) (hj : j < 14) : BareC (bin ((j : Int) + 1) a c) := by
  intro cs b l w h hl hO hg hlen
  obtain ⟨A, kn, cp, rfl, hkn, hcl, -, -, hk⟩ := ex_open (show ExIn w _ (.mk 5 ((j : Int) + 1) 0 0 [] [] [a, c]) cs from h)
  obtain rfl : kn = 2 := hkn
  obtain ⟨k1, o1, vk1, vn1, vs1, nm1, ks1, A1, n1, c1', b1, p1, ea, hA1, hb1, -, c0, c1, c2, c3, c4, c5, c6, hina⟩ := kid_at (j := 0) hk rfl
  obtain ⟨k2, o2, vk2, vn2, vs2, nm2, ks2, A2, n2, c2', b2, p2, ec, hA2, hb2, -, d0, d1, d2, d3, d4, d5, d6, hinc⟩ := kid_at (j := 1) hk rfl
  subst hA1
  injection hA2 with hA2
  injection hA2 with e1 e2
  subst e1 e2
  obtain ⟨W, hW⟩ : ∃ W, (w.alloc (.cells (prC b) tP)).alloc (.cells #[.int .i64 5, .int .i64 ((j : Int) + 1), .int .i64 0, .int .i64 0, .string (txt []), .string (txt []), .slice (some ⟨b1, p1, none⟩) 2 cp] tE) = W := ⟨_, rfl⟩
  obtain ⟨g1, g2, g3, g4⟩ := boxes hl _ _ _ _ W hW (by decide) (by decide)
  have hwW := g1
  have c0 := (hwW.1.cell hb1).trans c0
  have c1 := (hwW.1.cell hb1).trans c1
  have c2 := (hwW.1.cell hb1).trans c2
  have c3 := (hwW.1.cell hb1).trans c3
  have c4 := (hwW.1.cell hb1).trans c4
  have c5 := (hwW.1.cell hb1).trans c5
  have c6 := (hwW.1.cell hb1).trans c6
  have d0 := (hwW.1.cell hb2).trans d0
  have d1 := (hwW.1.cell hb2).trans d1
  have d2 := (hwW.1.cell hb2).trans d2
  have d3 := (hwW.1.cell hb2).trans d3
  have d4 := (hwW.1.cell hb2).trans d4
  have d5 := (hwW.1.cell hb2).trans d5
  have d6 := (hwW.1.cell hb2).trans d6
  simp only [Nat.zero_mul, Nat.one_mul, Nat.add_zero, Nat.add_assoc, Nat.reduceAdd] at c0 c1 c2 c3 c4 c5 c6 d0 d1 d2 d3 d4 d5 d6
  have kk := (g4 W (Wr.refl _ _)).at_ 0
  simp at kk
  have g3' := g3 W.drew ⟨(Below.refl b W).drew, (Lib.OthersKept.refl t8 (some b) W).drew⟩
  have g4' := g4 W.drew ⟨(Below.refl b W).drew, (Lib.OthersKept.refl t8 (some b) W).drew⟩
  have x0 : W.drew.cell? ⟨w.heap.size, 0, none⟩ = some (.func (.func 25) #[.pointer (some ⟨b, 0, none⟩)] #[]) := g3'.at_ 0
  have x1 : W.drew.cell? ⟨w.heap.size, 1, none⟩ = some (.func (.func 26) #[.pointer (some ⟨b, 0, none⟩)] #[]) := g3'.at_ 1
  have y1 : W.drew.cell? ⟨w.heap.size + 1, 1, none⟩ = some (.int .i64 ((j : Int) + 1)) := g4'.at_ 1
  have y6 : W.drew.cell? ⟨w.heap.size + 1, 6, none⟩ = some (.slice (some ⟨b1, p1, none⟩) 2 cp) := g4'.at_ 6
  have hwD : Wr b w W.drew := ⟨hwW.1.drew, hwW.2.drew⟩
  have hBN := bin_any ha hc j hj _ _ b l W.drew (hina.to (fun _ h => h) (fun p hp => hwD.1.cell hp)) (hinc.to (fun _ h => h) (fun p hp => hwD.1.cell hp)) g2 (hO.below hwD.1 hg) hg hlen
  have HBN := Lib.hid (show Calls Tryz.prog 73 #[prV b, .int .i64 ((j : Int) + 1), exV k1 o1 vk1 vn1 (txt vs1) (txt nm1) A1 n1 c1', exV k2 o2 vk2 vn2 (txt vs2) (txt nm2) A2 n2 c2'] W.drew fun x w' => x = .returned (.tuple #[]) ∧ ∃ l', Bl b l' w' ∧ Wr b W.drew w' ∧ WT l (tx (pcs (bin ((j : Int) + 1) a c))) l' from hBN)
  have HW := Lib.hid hwD
  have e0 : W.drew.cell? ⟨b1, p1, none⟩ = some (.int .i64 k1) := c0
  have e1 : W.drew.cell? ⟨b1, p1 + 1, none⟩ = some (.int .i64 o1) := c1
  have e2 : W.drew.cell? ⟨b1, p1 + 2, none⟩ = some (.int .i64 vk1) := c2
  have e3 : W.drew.cell? ⟨b1, p1 + 3, none⟩ = some (.int .i64 vn1) := c3
  have e4 : W.drew.cell? ⟨b1, p1 + 4, none⟩ = some (.string (txt vs1)) := c4
  have e5 : W.drew.cell? ⟨b1, p1 + 5, none⟩ = some (.string (txt nm1)) := c5
  have e6 : W.drew.cell? ⟨b1, p1 + 6, none⟩ = some (.slice A1 n1 c1') := c6
  have f0 : W.drew.cell? ⟨b1, p1 + 7, none⟩ = some (.int .i64 k2) := d0
  have f1 : W.drew.cell? ⟨b1, p1 + 8, none⟩ = some (.int .i64 o2) := d1
  have f2 : W.drew.cell? ⟨b1, p1 + 9, none⟩ = some (.int .i64 vk2) := d2
  have f3 : W.drew.cell? ⟨b1, p1 + 10, none⟩ = some (.int .i64 vn2) := d3
  have f4 : W.drew.cell? ⟨b1, p1 + 11, none⟩ = some (.string (txt vs2)) := d4
  have f5 : W.drew.cell? ⟨b1, p1 + 12, none⟩ = some (.string (txt nm2)) := d5
  have f6 : W.drew.cell? ⟨b1, p1 + 13, none⟩ = some (.slice A2 n2 c2') := d6
  clear h hl hO hlen hk hcl hina hinc g1 g2 g3 g4 g3' g4' hwW hwD hBN ha hc c0 c1 c2 c3 c4 c5 c6 d0 d1 d2 d3 d4 d5 d6 ea ec hb1 hb2
  go_enter Tryz.func47, Tryz.ntmps47
  go_wp2
  refine wp_region_still_tail 11 (by kernel_rfl) (by kernel_rfl) ?_
  simp only [List.take_succ_cons, List.take_zero, List.drop_succ_cons, List.drop_zero]
  change wpStill _ _ (W.drew) (fun a' => wpList _ _ _ _ a' (W.drew)) _ _
  clear kk hW
  generalize W.drew = w3 at *
  repeat still_step
  refine wpStill_nil ?_
  go_wp2_with (first | (go_at_call 73; (with_reducible refine HBN.out.mono ?_); rintro e' w5 ⟨rfl, l5, hl5, hr5, ht5⟩; have HL5 := Lib.hid hl5; have HT5 := Lib.hid ht5; have HR5 := Lib.hid hr5; clear hl5 hr5 ht5))
  go_end0
  exact ⟨rfl, _, HL5.out, HW.out.trans HR5.out, HT5.out⟩
end Go.Proofs.YtgbaolafedkbdaaGreatDoor.Ep
/- An expression's text (Print): the program's answer, where its parts are written as they must be; and the law's example. -/
namespace Go.Proofs.YtgbaolafedkbdaaGreatDoor.Ep
open Go.RowKit Go.Proofs.YtgbaolafedkbdaaGreatDoor.Mem Go.Proofs.YtgbaolafedkbdaaGreatDoor.Right Go.Proofs.YtgbaolafedkbdaaGreatDoor.Lx
set_option linter.unusedVariables false

/-- What Print answers: a text, an error. -/
def printV (e : Ex) : List UInt8 × Int := if checkE true e ≠ 0 then ([], checkE true e) else if 400 < (tx (pcs e)).length then ([], 3) else (tx (pcs e), 0)
theorem rank_pos (e : Ex) : 1 ≤ e.rank := by
  obtain ⟨k, o, vk, vn, vs, nm, kids⟩ := e
  show 1 ≤ rk k o
  unfold rk
  repeat' split
  all_goals omega
theorem kid_one (e : Ex) : kidP e 1 = pcs e := by
  unfold kidP asked br
  rw [decide_eq_false (by have := rank_pos e; omega), if_neg (by decide)]
/-- A builder of the call's own, of which nothing is written. -/
theorem Bl.new (w : World) {b : Nat} (hb : w.heap.size = b) : Bl b [] (w.alloc (.cells #[.pointer none, .slice none 0 0] tB)) := by
  subst hb
  refine ⟨.inl ⟨Nat.le_refl _, .slice none 0 0, heap_alloc_new w _, World.ownsRowF_nil _ _ _ _, by simp [Value.ownBlock]⟩, by simp⟩
set_option maxHeartbeats 4000000 in
set_option maxRecDepth 100000 in
theorem print_any (e : Ex) (he : KidC e) (cs : List Value) (w : World) (h : ExAt w w.heap.size e cs) (hs : Signs w) (hO : Osg w) (hl : Lim e) (hlen : (tx (pcs e)).length ≤ 1000000) :
    Calls Tryz.prog 12 #[.agg cs.toArray] w fun x w' => x = .returned (.tuple #[.string (txt (printV e).1), .int .i64 (printV e).2]) ∧ Below w.heap.size w w' := by
  have hcs := h
  obtain ⟨k, o, vk, vn, vs, nm, kids⟩ := e
  obtain ⟨A, kn, c, rfl, -⟩ := ex_open h
  obtain ⟨e, hee⟩ : ∃ e, Ex.mk k o vk vn vs nm kids = e := ⟨_, rfl⟩
  rw [hee] at hcs hl he hlen ⊢
  clear hee h
  obtain ⟨W, hW⟩ : ∃ W, w.alloc (.cells #[.int .i64 k, .int .i64 o, .int .i64 vk, .int .i64 vn, .string (txt vs), .string (txt nm), .slice A kn c] tE) = W := ⟨_, rfl⟩
  have hb : Below w.heap.size w W := by rw [← hW]; exact al (Below.refl _ _) _
  have hbx : Cel W w.heap.size tE #[.int .i64 k, .int .i64 o, .int .i64 vk, .int .i64 vn, .string (txt vs), .string (txt nm), .slice A kn c] := by rw [← hW]; exact Cel.new w tE _ rfl
  have hX : ∀ W', Below (w.heap.size + 1) W W' → W'.cell? ⟨w.heap.size, 0, none⟩ = some (.int .i64 k) ∧ W'.cell? ⟨w.heap.size, 1, none⟩ = some (.int .i64 o) ∧ W'.cell? ⟨w.heap.size, 2, none⟩ = some (.int .i64 vk) ∧ W'.cell? ⟨w.heap.size, 3, none⟩ = some (.int .i64 vn) ∧ W'.cell? ⟨w.heap.size, 4, none⟩ = some (.string (txt vs)) ∧ W'.cell? ⟨w.heap.size, 5, none⟩ = some (.string (txt nm)) ∧ W'.cell? ⟨w.heap.size, 6, none⟩ = some (.slice A kn c) := fun W' hW' => by
    have hc : Cel W' w.heap.size tE #[.int .i64 k, .int .i64 o, .int .i64 vk, .int .i64 vn, .string (txt vs), .string (txt nm), .slice A kn c] := (hW'.block _ (Nat.lt_succ_self _)).trans hbx
    exact ⟨hc.at_ 0, hc.at_ 1, hc.at_ 2, hc.at_ 3, hc.at_ 4, hc.at_ 5, hc.at_ 6⟩
  have hsz : W.heap.size = w.heap.size + 1 := by rw [← hW]; simp
  obtain ⟨x0, x1, x2, x3, x4, x5, x6⟩ := hX W (Below.refl _ _)
  obtain ⟨er, her⟩ : ∃ er, checkE true e = er := ⟨_, rfl⟩
  have HC := Lib.hid (show Calls Tryz.prog 15 #[exV k o vk vn (txt vs) (txt nm) A kn c, .bool true] W fun x w' => x = .returned (.int .i64 er) ∧ Below W.heap.size W w' from by rw [← her]; exact check_any e _ true W (hcs.on hb) (hs.below hb hs.lt) hl)
  have HB := Lib.hid hb
  by_cases h0 : er = 0
  · subst h0
    have HK := Lib.hid (show ∀ W', Below W.heap.size W W' → Calls Tryz.prog 27 #[prV W'.heap.size, exV k o vk vn (txt vs) (txt nm) A kn c, .int .i64 1] (W'.alloc (.cells #[.pointer none, .slice none 0 0] tB)) fun x w' => x = .returned (.tuple #[]) ∧ ∃ l', Bl W'.heap.size l' w' ∧ Below W'.heap.size W' w' ∧ WT [] (tx (pcs e)) l' from fun W' hW' => by
      have hbw := Mem.on hb hW'
      have hsz' := hbw.size
      have hal : Below W'.heap.size W' (W'.alloc (.cells #[.pointer none, .slice none 0 0] tB)) := al (Below.refl _ _) _
      refine (he _ W'.heap.size 1 [] _ (ExIn.to (fun b hb' => Nat.lt_of_lt_of_le hb' hsz') (fun p hp => (Mem.on hbw hal).cell hp) e _ hcs) (Bl.new W' rfl) (hO.below (Mem.on hbw hal) hO.lt) (Nat.lt_of_lt_of_le hO.lt hsz') (by rw [kid_one]; simpa using hlen)).mono ?_
      rintro x w' ⟨rfl, l', h1, h2, h3⟩
      rw [kid_one] at h3
      exact ⟨rfl, l', h1, hal.trans h2.1, h3⟩)
    have HX := Lib.hid hX
    have HSZ := Lib.hid hsz
    have HLN := Lib.hid (fun b l w h => (long_any b l w h : Calls Tryz.prog 26 #[.pointer (some ⟨b, 0, none⟩)] w fun e w' => e = .returned (.int .i64 (l.length : Int)) ∧ w' = w))
    have HTD := Lib.hid (fun b l w h => (told_any b l w h : Calls Tryz.prog 28 #[.pointer (some ⟨b, 0, none⟩)] w fun e w' => e = .returned (.string (txt l)) ∧ Bl b l w' ∧ Wr b w w'))
    by_cases h4 : 400 < (tx (pcs e)).length
    · have HV := Lib.hid (show printV e = ([], 3) by unfold printV; rw [her, if_neg (by decide), if_pos h4])
      clear hcs hs hO hl hlen hb hbx hX hsz her he
      have H4 := Lib.hid h4
      clear h4
      go_enter Tryz.func12, Tryz.ntmps12
      go_wp2_with (first
        | (go_at_call 15; (with_reducible refine HC.out.mono ?_); rintro e' w2 ⟨rfl, hb2⟩; have HB2 := Lib.hid hb2; obtain ⟨x0, x1, x2, x3, x4, x5, x6⟩ := HX.out (w2.alloc (.cells #[.pointer none, .slice none 0 0] tB)) ((hb2.mono (Nat.le_of_eq HSZ.out.symm)).alloc (by have := hb2.size; have := HSZ.out; omega) _); clear hb2)
        | (go_at_call 27; (with_reducible refine (HK.out w2 HB2.out).mono ?_); rintro e' w3 ⟨rfl, l3, hl3, hb3, ht3⟩; have HL3 := Lib.hid hl3; have HB3 := Lib.hid (Mem.on (Mem.on HB.out HB2.out) hb3); have t3 : decide (400 < (l3.length : Int)) = true := decide_eq_true (by have := ht3.told.1.2 H4.out; omega); clear hl3 hb3 ht3)
        | (go_at_call 26; (with_reducible refine (HLN.out _ _ _ HL3.out).mono ?_); rintro e' w4 ⟨rfl, rfl⟩))
      go_ret2
      exact ⟨by rw [HV.out]; rfl, HB3.out⟩
    · have HV := Lib.hid (show printV e = (tx (pcs e), 0) by unfold printV; rw [her, if_neg (by decide), if_neg h4])
      clear hcs hs hO hl hlen hb hbx hX hsz her he
      have H4 := Lib.hid h4
      clear h4
      go_enter Tryz.func12, Tryz.ntmps12
      go_wp2_with (first
        | (go_at_call 15; (with_reducible refine HC.out.mono ?_); rintro e' w2 ⟨rfl, hb2⟩; have HB2 := Lib.hid hb2; obtain ⟨x0, x1, x2, x3, x4, x5, x6⟩ := HX.out (w2.alloc (.cells #[.pointer none, .slice none 0 0] tB)) ((hb2.mono (Nat.le_of_eq HSZ.out.symm)).alloc (by have := hb2.size; have := HSZ.out; omega) _); clear hb2)
        | (go_at_call 27; (with_reducible refine (HK.out w2 HB2.out).mono ?_); rintro e' w3 ⟨rfl, l3, hl3, hb3, ht3⟩; have HL3 := Lib.hid hl3; have HB3 := Lib.hid (Mem.on (Mem.on HB.out HB2.out) hb3); have t3 : decide (400 < (l3.length : Int)) = false := decide_eq_false (fun g => H4.out (ht3.told.1.1 (by omega))); have HE3 := Lib.hid (ht3.told.2 (by have := of_decide_eq_false t3; omega)); clear hl3 hb3 ht3)
        | (go_at_call 26; (with_reducible refine (HLN.out _ _ _ HL3.out).mono ?_); rintro e' w4 ⟨rfl, rfl⟩)
        | (go_at_call 28; (with_reducible refine (HTD.out _ _ _ HL3.out).mono ?_); rintro e' w5 ⟨rfl, hl5, hr5⟩; have HR5 := Lib.hid hr5; clear hl5 hr5))
      go_ret2
      exact ⟨by rw [HV.out, HE3.out]; rfl, HB3.out.trans (HR5.out.1.mono (by have := (Mem.on HB.out HB2.out).size; omega))⟩
  · have HV := Lib.hid (show printV e = ([], er) by unfold printV; rw [her, if_pos h0])
    have t0 : (er != 0) = true := bne_yes h0
    clear hcs hs hO hl hlen hb hbx hX hsz her he h0
    go_enter Tryz.func12, Tryz.ntmps12
    go_wp2_with (first
        | (go_at_call 15; (with_reducible refine HC.out.mono ?_); rintro e' w2 ⟨rfl, hb2⟩; have HB2 := Lib.hid hb2; clear hb2))
    go_ret2
    exact ⟨by rw [HV.out]; rfl, Mem.on HB.out HB2.out⟩
end Go.Proofs.YtgbaolafedkbdaaGreatDoor.Ep
