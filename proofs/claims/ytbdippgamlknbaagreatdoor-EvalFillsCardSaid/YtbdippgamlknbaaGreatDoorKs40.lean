/- registrarref16.Fill told whole. -/
import Derived.Test.YtbdippgamlknbaaGreatDoorKs36
import Derived.Test.YtbdippgamlknbaaGreatDoorKs37
import Derived.Test.YtbdippgamlknbaaGreatDoorKs39
import Derived.Test.YtbdippgamlknbaaGreatDoorKs24
import Derived.Test.YtbdippgamlknbaaGreatDoorKs25
namespace Go.Proofs.YtbdippgamlknbaaGreatDoor.Eo
open Go.RowKit Go.Proofs.YtbdippgamlknbaaGreatDoor.Mem Go.Proofs.YtbdippgamlknbaaGreatDoor.Right Go.Proofs.YtbdippgamlknbaaGreatDoor.Lx Go.Proofs.YtbdippgamlknbaaGreatDoor.Ep Go.Proofs.YtbdippgamlknbaaGreatDoor.Ev Go.Proofs.YtbdippgamlknbaaGreatDoor.Tk
set_option linter.unusedVariables false
set_option linter.unusedSimpArgs false
/-- Is a part right: a parameter's value, if it is one? -/
def okPt (ps : List Vv) (p : Ex) : Bool := !(decide (kindE p = 3)) || Right.okV (ps.getD (opE p - 1).toNat nul).k (ps.getD (opE p - 1).toNat nul).n (ps.getD (opE p - 1).toNat nul).s
theorem partsL_all {f : Ex → Bool} : ∀ l : List Ex, (partsL l).all f = l.all fun x => (partsE x).all f
  | [] => by rw [partsL]; rfl
  | x :: l => by rw [partsL, List.all_append, List.all_cons, partsL_all l]
theorem okUL_all (ps : List Vv) : ∀ l : List Ex, okUL ps l = l.all fun x => okU ps x
  | [] => by rw [okUL]; rfl
  | x :: l => by rw [okUL, okUL_all ps l, List.all_cons]
theorem all_same {f g : Ex → Bool} : ∀ {l : List Ex}, (∀ x ∈ l, f x = g x) → l.all f = l.all g
  | [], _ => rfl
  | x :: l, h => by rw [List.all_cons, List.all_cons, h x (by simp), all_same fun y hy => h y (List.mem_cons_of_mem _ hy)]
theorem okU_step {ps : List Vv} {k o vk vn : Int} {vs nm : List UInt8} {kids : List Ex} (h3 : k = 3 → kids = []) (ih : ∀ x ∈ kids, okU ps x = (partsE x).all (okPt ps)) : okU ps (.mk k o vk vn vs nm kids) = (partsE (.mk k o vk vn vs nm kids)).all (okPt ps) := by
  rw [partsE_mk, List.all_cons, partsL_all]
  by_cases c : k = 3
  · subst c
    rw [h3 rfl, okU_par]
    unfold okPt kindE opE
    simp
  · rw [okU_kids _ c, okUL_all, all_same ih]
    unfold okPt kindE
    rw [decide_eq_false c]; rfl
theorem okU_parts {slots : Bool} {ps : List Vv} {e : Ex} (h : Rs slots e) : okU ps e = (partsE e).all (okPt ps) := by
  induction h with
  | lit h1 h2 => exact okU_step (fun c => absurd c (by decide)) fun x hx => by cases hx
  | col h => exact okU_step (fun c => absurd c (by decide)) fun x hx => by cases hx
  | par h1 h2 => exact okU_step (fun _ => rfl) fun x hx => by cases hx
  | un h1 h2 h ih =>
      refine okU_step (fun c => absurd c (by decide)) fun x hx => ?_
      simp only [List.mem_singleton] at hx; subst hx; exact ih
  | bin h1 h2 h h' ih ih' =>
      refine okU_step (fun c => absurd c (by decide)) fun x hx => ?_
      simp only [List.mem_cons, List.not_mem_nil, or_false] at hx
      rcases hx with rfl | rfl
      · exact ih
      · exact ih'
  | inn h1 h2 h h' ih ih' =>
      refine okU_step (fun c => absurd c (by decide)) fun x hx => ?_
      rcases List.mem_cons.1 hx with rfl | hx
      · exact ih
      · exact ih' x hx
  | call h1 h2 h ih => exact okU_step (fun c => absurd c (by decide)) fun x hx => ih x hx
  | slot hs h1 h2 => exact okU_step (fun c => absurd c (by decide)) fun x hx => by cases hx
mutual
theorem at_parts {n : Nat} : ∀ {e : Ex}, AtU n e → ∀ p ∈ partsE e, kindE p = 3 → 1 ≤ opE p ∧ opE p ≤ (n : Int)
  | .mk k o vk vn vs nm kids, h, p, hp, hk => by
    rw [AtU] at h
    rw [partsE] at hp
    rcases List.mem_cons.1 hp with rfl | hp
    · exact h.1 hk
    · exact at_partsL h.2 p hp hk
theorem at_partsL {n : Nat} : ∀ {l : List Ex}, AtUL n l → ∀ p ∈ partsL l, kindE p = 3 → 1 ≤ opE p ∧ opE p ≤ (n : Int)
  | [], _, p, hp, _ => by rw [partsL] at hp; cases hp
  | x :: l, h, p, hp, hk => by
    rw [AtUL] at h
    rw [partsL] at hp
    rcases List.mem_append.1 hp with hp | hp
    · exact at_parts h.1 p hp hk
    · exact at_partsL h.2 p hp hk
end
set_option maxRecDepth 100000 in
set_option maxHeartbeats 4000000 in
theorem refFill_any {w : World} {Ap : Option Addr} {n c : Nat} {vl : List Vl} (hV : Vals w w.heap.size Ap vl) (hn : n = vl.length) (hm : n ≤ 1000000) (hb : ∀ v ∈ vl, (-9223372036854775808 ≤ v.n ∧ v.n ≤ 9223372036854775807) ∧ v.s.size ≤ maxLen) {e : Ex} {cs : List Value} (hx : ExAt w w.heap.size e cs) (hl : Lim e) (hz : size e ≤ 1000) :
    Calls Tryz.prog 11 #[.agg cs.toArray, .slice Ap n c] w (TreV w (fillT (vl.map vv) e)) := by
  have HCK := Lib.hid (show ∀ W, Below w.heap.size w W → Calls Tryz.prog 40 #[.agg cs.toArray, .bool true] W fun x w' => x = .returned (.int .i64 (checkE true e)) ∧ Below W.heap.size W w' from fun W hW => refCheck_any e cs true W (ExAt.on hx hW) hl (by omega))
  have HPA := Lib.hid (show ∀ W, Below w.heap.size w W → Calls Tryz.prog 41 #[.agg cs.toArray] W fun x w' => x = .returned (.int .i64 (parE 0 e)) ∧ Below W.heap.size W w' from fun W hW => refParams_any e cs W (ExAt.on hx hW) (by omega))
  have HPT := Lib.hid (show ∀ W, Below w.heap.size w W → Calls Tryz.prog 42 #[.agg cs.toArray] W fun x w' => ∃ A c, x = .returned (.slice A (size e) c) ∧ OwnT w' W.heap.size tE (fun b => b < w.heap.size) (.slice A (size e) c) (partsE e) ∧ Below W.heap.size W w' from fun W hW => refParts_any w.heap.size e cs W (DtIn.below hx hW) hW.size (by omega))
  have HFD := Lib.hid (show ∀ W, Below w.heap.size w W → AtU n e → Calls Tryz.prog 44 #[.agg cs.toArray, .slice Ap n c] W (TreE W (fill (vl.map vv) e)) from fun W hW hat => filled_any hn hm hb e cs W (ExAt.on hx hW) ((hV.below hW (Nat.le_refl _)).more hW.size) hat (by omega))
  have HSZ := Lib.hid hz
  have HVV := Lib.hid hV
  have HNN := Lib.hid hn
  have HBN := Lib.hid hb
  have h7 := hx
  obtain ⟨k, o, vk, vn, vs, nm, kids⟩ := e
  obtain ⟨A, n0, c0, rfl, -⟩ := ex_open h7
  obtain ⟨e, he⟩ : ∃ e, Ex.mk k o vk vn vs nm kids = e := ⟨_, rfl⟩
  rw [he] at HCK HPA HPT HFD HSZ ⊢
  obtain ⟨RR, hRR⟩ : ∃ R, fillT (vl.map vv) e = R := ⟨_, rfl⟩
  rw [hRR]
  have hlen : (vl.map vv).length = n := by rw [List.length_map, hn]
  have HF0 := Lib.hid (show checkE true e ≠ 0 → RR = (zx, checkE true e) from fun h => by rw [← hRR]; unfold fillT; rw [if_pos h])
  have HF1 := Lib.hid (show checkE true e = 0 → (n : Int) < parE 0 e → RR = (zx, 37) from fun h g => by rw [← hRR]; unfold fillT; rw [if_neg (by simpa using h), hlen, if_pos g])
  have HF2 := Lib.hid (show checkE true e = 0 → ¬ (n : Int) < parE 0 e → (AtU n e ∧ okU (vl.map vv) e = (partsE e).all (okPt (vl.map vv))) ∧ (okU (vl.map vv) e = false → RR = (zx, 2)) ∧ (okU (vl.map vv) e = true → 8 < hgt (fill (vl.map vv) e) → RR = (zx, 17)) ∧ (okU (vl.map vv) e = true → ¬ 8 < hgt (fill (vl.map vv) e) → RR = (fill (vl.map vv) e, 0)) from fun h g => by
    rw [← hRR]
    unfold fillT
    rw [if_neg (by simpa using h), hlen, if_neg g]
    exact ⟨⟨hlen ▸ fill_at h (by rw [hlen]; exact g), okU_parts (rs_of e (check_right h))⟩, fun i => by rw [if_pos i], fun i j => by rw [if_neg (by rw [i]; decide), if_pos j], fun i j => by rw [if_neg (by rw [i]; decide), if_neg j]⟩)
  obtain ⟨q, hq⟩ : ∃ q, checkE true e = q := ⟨_, rfl⟩
  rw [hq] at HCK HF0 HF1 HF2
  obtain ⟨V, hV⟩ : ∃ V, (w.alloc (.cells #[.int .i64 k, .int .i64 o, .int .i64 vk, .int .i64 vn, .string (txt vs), .string (txt nm), .slice A n0 c0] 26)).alloc (.cells #[.int .i64 0, .int .i64 0, .int .i64 0, .int .i64 0, .string ⟨#[]⟩, .string ⟨#[]⟩, .slice none 0 0] 26) = V := ⟨_, rfl⟩
  have HBV := Lib.hid (show Below w.heap.size w V from by rw [← hV]; exact al (al (Below.refl _ _) _) _)
  have HEC := Lib.hid (show Cel V w.heap.size 26 #[.int .i64 k, .int .i64 o, .int .i64 vk, .int .i64 vn, .string (txt vs), .string (txt nm), .slice A n0 c0] from by rw [← hV]; exact ((Cel.new w _ _ rfl).alloc _))
  have HRC := Lib.hid (show Cel V (w.heap.size + 1) 26 #[.int .i64 0, .int .i64 0, .int .i64 0, .int .i64 0, .string ⟨#[]⟩, .string ⟨#[]⟩, .slice none 0 0] from by rw [← hV]; exact (Cel.new (w.alloc _) _ _ (by simp)))
  have HSV := Lib.hid (show V.heap.size = w.heap.size + 2 from by rw [← hV]; simp)
  clear hq he hx hl h7 hRR hlen hb hz hn
  have ae0 := (HEC.out.below (Below.refl _ _)).at_ 0
  have ae1 := (HEC.out.below (Below.refl _ _)).at_ 1
  have ae2 := (HEC.out.below (Below.refl _ _)).at_ 2
  have ae3 := (HEC.out.below (Below.refl _ _)).at_ 3
  have ae4 := (HEC.out.below (Below.refl _ _)).at_ 4
  have ae5 := (HEC.out.below (Below.refl _ _)).at_ 5
  have ae6 := (HEC.out.below (Below.refl _ _)).at_ 6
  go_enter Tryz.func11, Tryz.ntmps11
  go_wp2_with (fail)
  go_at_call 40
  with_reducible refine (HCK.out _ HBV.out).mono ?_
  rintro e1 w1 ⟨rfl, hb1⟩
  have HB1 := Lib.hid hb1
  clear ae0 ae1 ae2 ae3 ae4 ae5 ae6
  clear hb1 hV
  have be0 := (HEC.out.below HB1.out).at_ 0
  have be1 := (HEC.out.below HB1.out).at_ 1
  have be2 := (HEC.out.below HB1.out).at_ 2
  have be3 := (HEC.out.below HB1.out).at_ 3
  have be4 := (HEC.out.below HB1.out).at_ 4
  have be5 := (HEC.out.below HB1.out).at_ 5
  have be6 := (HEC.out.below HB1.out).at_ 6
  have br0 := (HRC.out.below HB1.out).at_ 0
  have br1 := (HRC.out.below HB1.out).at_ 1
  have br2 := (HRC.out.below HB1.out).at_ 2
  have br3 := (HRC.out.below HB1.out).at_ 3
  have br4 := (HRC.out.below HB1.out).at_ 4
  have br5 := (HRC.out.below HB1.out).at_ 5
  have br6 := (HRC.out.below HB1.out).at_ 6
  have bo0 := (HRC.out.below HB1.out).open_ 0
  have bo1 := (HRC.out.below HB1.out).open_ 1
  have bo2 := (HRC.out.below HB1.out).open_ 2
  have bo3 := (HRC.out.below HB1.out).open_ 3
  have bo4 := (HRC.out.below HB1.out).open_ 4
  have bo5 := (HRC.out.below HB1.out).open_ 5
  have bo6 := (HRC.out.below HB1.out).open_ 6
  by_cases h0 : q = 0
  case neg =>
    have t0 : (q != 0) = true := bne_yes h0
    have HWZ := Lib.hid (HF0.out h0)
    clear h0
    go_wp2
    (try simp only [Exit.inBlock, Exit.then])
    refine bodyPost_ret (v := .tuple #[.agg #[.int .i64 0, .int .i64 0, .int .i64 0, .int .i64 0, .string ⟨#[]⟩, .string ⟨#[]⟩, .slice none 0 0], .int .i64 q]) (ret_xv rfl rfl (seven_set (HRC.out.below HB1.out)) rfl) rfl ?_
    exact trv_err (by rw [HWZ.out]) (Mem.on HBV.out HB1.out) (show w.heap.size ≤ w.heap.size + 1 by omega)
  subst h0
  obtain ⟨P, hP⟩ : ∃ P, parE 0 e = P := ⟨_, rfl⟩
  rw [hP] at HPA HF1 HF2
  clear hP
  have HPA1 := Lib.hid (HPA.out _ (Mem.on HBV.out HB1.out))
  by_cases hlt : (n : Int) < P
  case pos =>
    have HWZ := Lib.hid (HF1.out rfl hlt)
    have hge : ¬ P ≤ (n : Int) := by omega
    have t1 : decide ((n : Int) < P) = true := decide_eq_true hlt
    go_wp2_with (go_at_call 41; (with_reducible refine HPA1.out.mono ?_); rintro e2 w2 ⟨rfl, hb2⟩; have HB2 := Lib.hid (Mem.on HB1.out hb2); clear hb2; have cr0 := (HRC.out.below HB2.out).at_ 0; have cr1 := (HRC.out.below HB2.out).at_ 1; have cr2 := (HRC.out.below HB2.out).at_ 2; have cr3 := (HRC.out.below HB2.out).at_ 3; have cr4 := (HRC.out.below HB2.out).at_ 4; have cr5 := (HRC.out.below HB2.out).at_ 5; have cr6 := (HRC.out.below HB2.out).at_ 6; have co0 := (HRC.out.below HB2.out).open_ 0; have co1 := (HRC.out.below HB2.out).open_ 1; have co2 := (HRC.out.below HB2.out).open_ 2; have co3 := (HRC.out.below HB2.out).open_ 3; have co4 := (HRC.out.below HB2.out).open_ 4; have co5 := (HRC.out.below HB2.out).open_ 5; have co6 := (HRC.out.below HB2.out).open_ 6)
    (try simp only [Exit.inBlock, Exit.then])
    refine bodyPost_ret (v := .tuple #[.agg #[.int .i64 0, .int .i64 0, .int .i64 0, .int .i64 0, .string ⟨#[]⟩, .string ⟨#[]⟩, .slice none 0 0], .int .i64 37]) (ret_xv rfl rfl (seven_set (HRC.out.below HB2.out)) rfl) rfl ?_
    exact trv_err (by rw [HWZ.out]) (Mem.on HBV.out HB2.out) (show w.heap.size ≤ w.heap.size + 1 by omega)
  obtain ⟨⟨hat, hok⟩, hr1, hr2, hr3⟩ := HF2.out rfl (by omega)
  have HAT := Lib.hid hat
  have HOKP := Lib.hid hok
  have HG1 := Lib.hid hr1
  have HG2 := Lib.hid hr2
  have HG3 := Lib.hid hr3
  clear hat hok hr1 hr2 hr3 HF0 HF1 HF2
  have t1 : decide ((n : Int) < P) = false := decide_eq_false hlt
  have t2 : P ≤ (n : Int) := by omega
  obtain ⟨PP, hPP⟩ : ∃ PP, partsE e = PP := ⟨_, rfl⟩
  obtain ⟨pn, hpn⟩ : ∃ pn, size e = pn := ⟨_, rfl⟩
  have HPN := Lib.hid (show PP.length = pn from by rw [← hPP, ← hpn]; exact parts_len e)
  have HATP := Lib.hid (show ∀ p ∈ PP, kindE p = 3 → 1 ≤ opE p ∧ opE p ≤ (n : Int) from hPP ▸ at_parts HAT.out)
  rw [hPP, hpn] at HPT
  rw [hPP] at HOKP
  have hpn2 : pn ≤ 1000 := hpn ▸ HSZ.out
  clear hPP hpn
  go_wp2_with (first | (go_at_call 41; (with_reducible refine HPA1.out.mono ?_); rintro e2 w2 ⟨rfl, hb2⟩; have HB2 := Lib.hid (Mem.on HB1.out hb2); clear hb2; clear be0 be1 be2 be3 be4 be5 be6 br0 br1 br2 br3 br4 br5 br6 bo0 bo1 bo2 bo3 bo4 bo5 bo6; have ce0 := (HEC.out.below HB2.out).at_ 0; have ce1 := (HEC.out.below HB2.out).at_ 1; have ce2 := (HEC.out.below HB2.out).at_ 2; have ce3 := (HEC.out.below HB2.out).at_ 3; have ce4 := (HEC.out.below HB2.out).at_ 4; have ce5 := (HEC.out.below HB2.out).at_ 5; have ce6 := (HEC.out.below HB2.out).at_ 6) | (go_at_call 42; (with_reducible refine (HPT.out _ (Mem.on HBV.out HB2.out)).mono ?_); rintro e3 w3 ⟨A1, c1, rfl, ho3, hb3⟩; have HB3 := Lib.hid (Mem.on HB2.out hb3); have HK := Lib.hid (OwnT.kids ho3); have HLT := Lib.hid (OwnT.lt ho3); have HS3 := Lib.hid (show w.heap.size ≤ w2.heap.size ∧ w2.heap.size ≤ w3.heap.size from ⟨(Mem.on HBV.out HB2.out).size, hb3.size⟩); clear ho3 hb3; clear ce0 ce1 ce2 ce3 ce4 ce5 ce6))
  go_loopw [8] (fun i wr => ∃ j : Nat, j ≤ pn ∧ i = .int .i64 (j : Int) ∧ Hid ((PP.take j).all (okPt (vl.map vv)) = true) ∧ Hid (Below w3.heap.size w3 wr)) (fun i _ => pn + 1 - (intOf i).toNat)
  case atStart => exact ⟨0, Nat.zero_le _, rfl, Lib.hid rfl, Lib.hid (Below.refl _ _)⟩
  case round =>
    obtain ⟨j, hj, rfl, HA, HL⟩ := hrel
    by_cases hlt2 : j < pn
    · have tl : decide ((j : Int) < (pn : Int)) = true := decide_eq_true (by omega)
      have tl2 : decide (j < pn) = true := decide_eq_true hlt2
      obtain ⟨y, hy⟩ := kid_some (l := PP) (j := j) (by have := HPN.out; omega)
      obtain ⟨k', o', vk', vn', vs', nm', ks', A', n', c', b, q2, e', rfl, hbb, hn', c0', c1', c2', c3', c4', c5', c6', hin⟩ := kid_at HK.out hy
      have hb1 : b < w3.heap.size := by
        rcases hbb with h1 | h1
        · exact Nat.lt_of_lt_of_le h1 (Nat.le_trans HS3.out.1 HS3.out.2)
        · exact (HLT.out b h1).2
      have d0 : wr.cell? ⟨b, q2 + j * 7, none⟩ = some (.int .i64 k') := (HL.out.cell (p := ⟨b, q2 + j * 7, none⟩) hb1).trans c0'
      have d1 : wr.cell? ⟨b, q2 + j * 7 + 1, none⟩ = some (.int .i64 o') := (HL.out.cell (p := ⟨b, q2 + j * 7 + 1, none⟩) hb1).trans c1'
      have HON := Lib.hid (show (PP.take (j + 1)).all (okPt (vl.map vv)) = okPt (vl.map vv) y from by rw [List.take_add_one, hy, List.all_append, HA.out]; simp)
      have HPY := Lib.hid (show okPt (vl.map vv) y = (!(decide (k' = 3)) || Right.okV ((vl.map vv).getD (o' - 1).toNat nul).k ((vl.map vv).getD (o' - 1).toNat nul).n ((vl.map vv).getD (o' - 1).toNat nul).s) from by rw [e']; rfl)
      have HAY := Lib.hid (show k' = 3 → 1 ≤ o' ∧ o' ≤ (n : Int) from fun h => by have := HATP.out y (List.mem_of_getElem? hy) (by rw [e']; exact h); rw [e'] at this; exact this)
      have HYM := Lib.hid (List.mem_of_getElem? hy)
      clear hin hn' e' hy hbb c0' c1' c2' c3' c4' c5' c6' hb1
      by_cases hk3 : k' = 3
      · subst hk3
        obtain ⟨hq1, hq2⟩ := HAY.out rfl
        obtain ⟨i, rfl⟩ : ∃ i : Nat, o' = (i : Int) + 1 := ⟨(o' - 1).toNat, by omega⟩
        have HVr := Lib.hid (HVV.out.below (Mem.on HBV.out (Mem.on HB3.out HL.out)) (Nat.le_refl _))
        obtain ⟨b4, o4, v, hA4, hb4, hv4, v0, v1, v2⟩ := HVr.out.at_ (k := i) (by have := HNN.out; omega)
        subst hA4
        have hgd : (vl.map vv).getD ((i : Int) + 1 - 1).toNat nul = vv v := by rw [show ((i : Int) + 1 - 1).toNat = i by omega, List.getD_eq_getElem?_getD, List.getElem?_map, hv4]; rfl
        obtain ⟨r, hr⟩ : ∃ r, Right.okV v.k v.n v.s.data.toList = r := ⟨_, rfl⟩
        have HPY2 := Lib.hid (show okPt (vl.map vv) y = r from by rw [HPY.out, hgd, ← hr]; simp; rfl)
        have HRI := Lib.hid (show Calls Tryz.prog 43 #[.agg #[.int .i64 v.k, .int .i64 v.n, .string v.s]] wr fun e w' => e = .returned (.bool r) ∧ Below wr.heap.size wr w' from hr ▸ refRight_any v.k v.n v.s wr (HBN.out v (List.mem_of_getElem? hv4)).2)
        have e1 : (i : Int) + 1 - 1 = (i : Int) := by omega
        have hin4 : i < n := by omega
        clear hv4 hgd hr HPY HAY hb4
        cases r with
        | false =>
          have HE := Lib.hid (HG1.out (by rw [HOKP.out, List.all_eq_false]; exact ⟨y, HYM.out, by rw [HPY2.out]; decide⟩))
          clear HG1 HG2 HG3
          go_wp2_with (go_at_call 43; (with_reducible refine HRI.out.mono ?_); rintro e4 w4 ⟨rfl, hb4⟩; have HB4 := Lib.hid (Mem.on HB3.out (Mem.on HL.out hb4)); clear hb4; have dr0 := (HRC.out.below HB4.out).at_ 0; have dr1 := (HRC.out.below HB4.out).at_ 1; have dr2 := (HRC.out.below HB4.out).at_ 2; have dr3 := (HRC.out.below HB4.out).at_ 3; have dr4 := (HRC.out.below HB4.out).at_ 4; have dr5 := (HRC.out.below HB4.out).at_ 5; have dr6 := (HRC.out.below HB4.out).at_ 6; have do0 := (HRC.out.below HB4.out).open_ 0; have do1 := (HRC.out.below HB4.out).open_ 1; have do2 := (HRC.out.below HB4.out).open_ 2; have do3 := (HRC.out.below HB4.out).open_ 3; have do4 := (HRC.out.below HB4.out).open_ 4; have do5 := (HRC.out.below HB4.out).open_ 5; have do6 := (HRC.out.below HB4.out).open_ 6)
          (try simp only [Exit.inBlock, Exit.then])
          refine bodyPost_ret (v := .tuple #[.agg #[.int .i64 0, .int .i64 0, .int .i64 0, .int .i64 0, .string ⟨#[]⟩, .string ⟨#[]⟩, .slice none 0 0], .int .i64 2]) (ret_xv rfl rfl (seven_set (HRC.out.below HB4.out)) rfl) rfl ?_
          exact trv_err (by rw [HE.out]) (Mem.on HBV.out HB4.out) (show w.heap.size ≤ w.heap.size + 1 by omega)
        | true =>
          go_wp2_with (go_at_call 43; (with_reducible refine HRI.out.mono ?_); rintro e4 w4 ⟨rfl, hb4⟩; have HB4 := Lib.hid (Mem.on HL.out hb4); clear hb4)
          go_roundw
          case rel => exact ⟨j + 1, by omega, by go_num, Lib.hid (by rw [HON.out, HPY2.out]), HB4⟩
          case measure => simp [intOf]; omega
      · have tk : (k' == 3) = false := beq_no hk3
        have HPY2 := Lib.hid (show okPt (vl.map vv) y = true from by rw [HPY.out, decide_eq_false hk3]; rfl)
        go_wp2
        go_roundw
        case rel => exact ⟨j + 1, by omega, by go_num, Lib.hid (by rw [HON.out, HPY2.out]), HL⟩
        case measure => simp [intOf]; omega
    · have tl : decide ((j : Int) < (pn : Int)) = false := decide_eq_false (by omega)
      have tl2 : decide (j < pn) = false := decide_eq_false hlt2
      obtain rfl : j = pn := by omega
      have HOK := Lib.hid (show okU (vl.map vv) e = true from by rw [HOKP.out]; have := HA.out; rwa [List.take_of_length_le (by have := HPN.out; omega)] at this)
      have HWR := Lib.hid (show Below V.heap.size V wr from Mem.on HB3.out HL.out)
      have HFD1 := Lib.hid (HFD.out wr (Mem.on HBV.out HWR.out) HAT.out)
      obtain ⟨X, hX⟩ : ∃ X, fill (vl.map vv) e = X := ⟨_, rfl⟩
      have HXS := Lib.hid (show size X ≤ 1000000 from by have := size_fill (vl.map vv) e; have := HSZ.out; rw [hX] at *; omega)
      rw [hX] at HFD1 HG2 HG3
      clear hX
      have ge0 := (HEC.out.below HWR.out).at_ 0
      have ge1 := (HEC.out.below HWR.out).at_ 1
      have ge2 := (HEC.out.below HWR.out).at_ 2
      have ge3 := (HEC.out.below HWR.out).at_ 3
      have ge4 := (HEC.out.below HWR.out).at_ 4
      have ge5 := (HEC.out.below HWR.out).at_ 5
      have ge6 := (HEC.out.below HWR.out).at_ 6
      by_cases h8 : 8 < hgt X
      case pos =>
        have HE := Lib.hid (HG2.out HOK.out h8)
        clear HG1 HG2 HG3
        have t8 : decide ((8 : Int) < (hgt X : Int)) = true := decide_eq_true (by omega)
        have t9 : ¬ (hgt X : Int) ≤ 8 := by omega
        go_wp2_with (first | (go_at_call 44; (with_reducible refine HFD1.out.mono ?_); rintro e5 w5 ⟨k5, o5, vk5, vn5, vs5, nm5, A5, n5, c5, rfl, hi5, hb5⟩; have HX5 := Lib.hid (Cel.new w5 26 #[.int .i64 k5, .int .i64 o5, .int .i64 vk5, .int .i64 vn5, .string (txt vs5), .string (txt nm5), .slice A5 n5 c5] rfl); have HB5 := Lib.hid (al (Mem.on HWR.out hb5) (.cells #[.int .i64 k5, .int .i64 o5, .int .i64 vk5, .int .i64 vn5, .string (txt vs5), .string (txt nm5), .slice A5 n5 c5] 26)); have HI5 := Lib.hid (in_on hi5 (al (Below.refl w5.heap.size w5) (.cells #[.int .i64 k5, .int .i64 o5, .int .i64 vk5, .int .i64 vn5, .string (txt vs5), .string (txt nm5), .slice A5 n5 c5] 26)) (Nat.le_refl _)); clear hi5 hb5; have q0 := HX5.out.at_ 0; have q1 := HX5.out.at_ 1; have q2 := HX5.out.at_ 2; have q3 := HX5.out.at_ 3; have q4 := HX5.out.at_ 4; have q5 := HX5.out.at_ 5; have q6 := HX5.out.at_ 6) | (go_at_call 45; (with_reducible refine (refHeight_any X _ _ (HI5.out.more fun b hb => hb.2) HXS.out).mono ?_); rintro e6 w6 ⟨rfl, hb6⟩; have HB6 := Lib.hid (Mem.on HB5.out hb6); have HL6 := Lib.hid hb6; clear hb6 q0 q1 q2 q3 q4 q5 q6; have q0 := (HX5.out.below HL6.out).at_ 0; have q1 := (HX5.out.below HL6.out).at_ 1; have q2 := (HX5.out.below HL6.out).at_ 2; have q3 := (HX5.out.below HL6.out).at_ 3; have q4 := (HX5.out.below HL6.out).at_ 4; have q5 := (HX5.out.below HL6.out).at_ 5; have q6 := (HX5.out.below HL6.out).at_ 6; have dr0 := (HRC.out.below HB6.out).at_ 0; have dr1 := (HRC.out.below HB6.out).at_ 1; have dr2 := (HRC.out.below HB6.out).at_ 2; have dr3 := (HRC.out.below HB6.out).at_ 3; have dr4 := (HRC.out.below HB6.out).at_ 4; have dr5 := (HRC.out.below HB6.out).at_ 5; have dr6 := (HRC.out.below HB6.out).at_ 6; have do0 := (HRC.out.below HB6.out).open_ 0; have do1 := (HRC.out.below HB6.out).open_ 1; have do2 := (HRC.out.below HB6.out).open_ 2; have do3 := (HRC.out.below HB6.out).open_ 3; have do4 := (HRC.out.below HB6.out).open_ 4; have do5 := (HRC.out.below HB6.out).open_ 5; have do6 := (HRC.out.below HB6.out).open_ 6))
        (try simp only [Exit.inBlock, Exit.then])
        refine bodyPost_ret (v := .tuple #[.agg #[.int .i64 0, .int .i64 0, .int .i64 0, .int .i64 0, .string ⟨#[]⟩, .string ⟨#[]⟩, .slice none 0 0], .int .i64 17]) (ret_xv rfl rfl (seven_set (HRC.out.below HB6.out)) rfl) rfl ?_
        exact trv_err (by rw [HE.out]) (Mem.on HBV.out HB6.out) (show w.heap.size ≤ w.heap.size + 1 by omega)
      have HE := Lib.hid (HG3.out HOK.out h8)
      clear HG1 HG2 HG3
      have t8 : decide ((8 : Int) < (hgt X : Int)) = false := decide_eq_false (by omega)
      have t9 : (hgt X : Int) ≤ 8 := by omega
      go_wp2_with (first | (go_at_call 44; (with_reducible refine HFD1.out.mono ?_); rintro e5 w5 ⟨k5, o5, vk5, vn5, vs5, nm5, A5, n5, c5, rfl, hi5, hb5⟩; have HX5 := Lib.hid (Cel.new w5 26 #[.int .i64 k5, .int .i64 o5, .int .i64 vk5, .int .i64 vn5, .string (txt vs5), .string (txt nm5), .slice A5 n5 c5] rfl); have HB5 := Lib.hid (al (Mem.on HWR.out hb5) (.cells #[.int .i64 k5, .int .i64 o5, .int .i64 vk5, .int .i64 vn5, .string (txt vs5), .string (txt nm5), .slice A5 n5 c5] 26)); have HI5 := Lib.hid (in_on hi5 (al (Below.refl w5.heap.size w5) (.cells #[.int .i64 k5, .int .i64 o5, .int .i64 vk5, .int .i64 vn5, .string (txt vs5), .string (txt nm5), .slice A5 n5 c5] 26)) (Nat.le_refl _)); clear hi5 hb5; have q0 := HX5.out.at_ 0; have q1 := HX5.out.at_ 1; have q2 := HX5.out.at_ 2; have q3 := HX5.out.at_ 3; have q4 := HX5.out.at_ 4; have q5 := HX5.out.at_ 5; have q6 := HX5.out.at_ 6) | (go_at_call 45; (with_reducible refine (refHeight_any X _ _ (HI5.out.more fun b hb => hb.2) HXS.out).mono ?_); rintro e6 w6 ⟨rfl, hb6⟩; have HB6 := Lib.hid (Mem.on HB5.out hb6); have HL6 := Lib.hid hb6; clear hb6 q0 q1 q2 q3 q4 q5 q6; have q0 := (HX5.out.below HL6.out).at_ 0; have q1 := (HX5.out.below HL6.out).at_ 1; have q2 := (HX5.out.below HL6.out).at_ 2; have q3 := (HX5.out.below HL6.out).at_ 3; have q4 := (HX5.out.below HL6.out).at_ 4; have q5 := (HX5.out.below HL6.out).at_ 5; have q6 := (HX5.out.below HL6.out).at_ 6; have dr0 := (HRC.out.below HB6.out).at_ 0; have dr1 := (HRC.out.below HB6.out).at_ 1; have dr2 := (HRC.out.below HB6.out).at_ 2; have dr3 := (HRC.out.below HB6.out).at_ 3; have dr4 := (HRC.out.below HB6.out).at_ 4; have dr5 := (HRC.out.below HB6.out).at_ 5; have dr6 := (HRC.out.below HB6.out).at_ 6; have do0 := (HRC.out.below HB6.out).open_ 0; have do1 := (HRC.out.below HB6.out).open_ 1; have do2 := (HRC.out.below HB6.out).open_ 2; have do3 := (HRC.out.below HB6.out).open_ 3; have do4 := (HRC.out.below HB6.out).open_ 4; have do5 := (HRC.out.below HB6.out).open_ 5; have do6 := (HRC.out.below HB6.out).open_ 6))
      (try simp only [Exit.inBlock, Exit.then])
      refine bodyPost_ret (v := .tuple #[.agg #[.int .i64 k5, .int .i64 o5, .int .i64 vk5, .int .i64 vn5, .string (txt vs5), .string (txt nm5), .slice A5 n5 c5], .int .i64 0]) (ret_xv rfl rfl (seven_set (HRC.out.below HB6.out)) rfl) rfl ?_
      have hs := HSV.out
      have hs2 := HWR.out.size
      have hs6 := HL6.out.size
      refine ⟨k5, o5, vk5, vn5, vs5, nm5, A5, n5, c5, by rw [HE.out], ?_, below_seven (Mem.on HBV.out HB6.out) (show w.heap.size ≤ w.heap.size + 1 by omega)⟩
      rw [HE.out]
      exact ExIn.to (fun b hb => ⟨by omega, Nat.lt_of_lt_of_le hb.2 (by simp only [World.size_setCell]; exact hs6)⟩) (fun p hp => (World.cell?_of_block (seven_oth (by have := hp.1; omega))).trans (HL6.out.cell hp.2)) _ _ HI5.out
end Go.Proofs.YtbdippgamlknbaaGreatDoor.Eo
