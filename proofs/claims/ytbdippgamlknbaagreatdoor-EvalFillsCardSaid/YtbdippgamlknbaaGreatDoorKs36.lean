/- eval.Fill told whole. -/
import Derived.Test.YtbdippgamlknbaaGreatDoorKs34
import Derived.Test.YtbdippgamlknbaaGreatDoorKs21
import Derived.Test.YtbdippgamlknbaaGreatDoorKs22
import Derived.Test.YtbdippgamlknbaaGreatDoorKs23
import Derived.Test.YtbdippgamlknbaaGreatDoorKs35
namespace Go.Proofs.YtbdippgamlknbaaGreatDoor.Eo
open Go.RowKit Go.Proofs.YtbdippgamlknbaaGreatDoor.Mem Go.Proofs.YtbdippgamlknbaaGreatDoor.Right Go.Proofs.YtbdippgamlknbaaGreatDoor.Lx Go.Proofs.YtbdippgamlknbaaGreatDoor.Ep Go.Proofs.YtbdippgamlknbaaGreatDoor.Ev Go.Proofs.YtbdippgamlknbaaGreatDoor.Tk
set_option linter.unusedVariables false
set_option linter.unusedSimpArgs false
/-- A tree and an error: the tree in memory of the call's own. -/
def TreV (w : World) (R : Ex × Int) (e : Ending) (w' : World) : Prop := ∃ k o vk vn vs nm A n c, e = .returned (.tuple #[.agg #[.int .i64 k, .int .i64 o, .int .i64 vk, .int .i64 vn, .string (txt vs), .string (txt nm), .slice A n c], .int .i64 R.2]) ∧ ExIn w' (fun b => w.heap.size ≤ b ∧ b < w'.heap.size) R.1 [.int .i64 k, .int .i64 o, .int .i64 vk, .int .i64 vn, .string (txt vs), .string (txt nm), .slice A n c] ∧ Below w.heap.size w w'
theorem zx_in (w : World) (S : Nat → Prop) : ExIn w S zx [.int .i64 0, .int .i64 0, .int .i64 0, .int .i64 0, .string (txt []), .string (txt []), .slice none 0 0] := (exIn_mk _ _ _ _ _ _ _ _ _ _).2 ⟨none, 0, rfl, Nat.le_refl _, Nat.zero_le _, fun _ => rfl, kidsIn_nil _ _ _ _⟩
theorem ret_xv {fn : Func} {p u : Tmp} (h : fn.results = #[.cell p 26, .tmp u]) {tmps : Array Value} {W : World} {g : Nat} {c0 c1 c2 c3 c4 c5 c6 f : Value} (hp : tmps.getD p undef = .pointer (some ⟨g, 0, none⟩)) (hc : Cel W g 26 #[c0, c1, c2, c3, c4, c5, c6]) (hv : tmps.getD u undef = f) :
    (results fn tmps).run Tryz.prog W = .ok (.tuple #[.agg #[c0, c1, c2, c3, c4, c5, c6], f]) W := res_cell_tmp (P := Tryz.prog) h tmps W g [c0, c1, c2, c3, c4, c5, c6] _ hp hc Tryz.underlying26 rfl (by kernel_rfl) f hv
theorem trv_err {w W : World} {R : Ex × Int} {f : Int} {g : Nat} {x0 x1 x2 x3 x4 x5 x6 : Value} (hR : R = (zx, f)) (hb : Below w.heap.size w W) (hg : w.heap.size ≤ g) : TreV w R (.returned (.tuple #[.agg #[.int .i64 0, .int .i64 0, .int .i64 0, .int .i64 0, .string ⟨#[]⟩, .string ⟨#[]⟩, .slice none 0 0], .int .i64 f])) (set7 W g x0 x1 x2 x3 x4 x5 x6) := by
  subst hR
  exact ⟨0, 0, 0, 0, [], [], none, 0, 0, rfl, zx_in _ _, below_seven hb hg⟩
set_option maxRecDepth 100000 in
set_option maxHeartbeats 4000000 in
theorem evFill_any {w : World} {Ap : Option Addr} {n c : Nat} {vl : List Vl} (hV : Vals w w.heap.size Ap vl) (hn : n = vl.length) (hm : n ≤ 1000000) (hb : ∀ v ∈ vl, (-9223372036854775808 ≤ v.n ∧ v.n ≤ 9223372036854775807) ∧ v.s.size ≤ maxLen) {e : Ex} {cs : List Value} (hx : ExAt w w.heap.size e cs) (hs : Signs w) (hl : Lim e) (hz : size e ≤ 1000) :
    Calls Tryz.prog 10 #[.agg cs.toArray, .slice Ap n c] w (TreV w (fillT (vl.map vv) e)) := by
  have HCK := Lib.hid (show ∀ W, Below w.heap.size w W → Calls Tryz.prog 35 #[.agg cs.toArray, .bool true] W fun x w' => x = .returned (.int .i64 (checkE true e)) ∧ Below W.heap.size W w' from fun W hW => check_any e cs true W (ExAt.on hx hW) (hs.below hW hs.lt) hl)
  have HPA := Lib.hid (show ∀ W, Below w.heap.size w W → Calls Tryz.prog 36 #[.agg cs.toArray] W fun x w' => x = .returned (.int .i64 (parE 0 e)) ∧ Below W.heap.size W w' from fun W hW => params_any e cs W (ExAt.on hx hW) (by omega))
  have HCL := Lib.hid (show ∀ W, Below w.heap.size w W → Calls Tryz.prog 37 #[.agg cs.toArray] W fun x w' => ∃ cs', x = .returned (.agg (List.toArray cs')) ∧ RnN w' W.heap.size w'.heap.size e cs' ∧ Below W.heap.size W w' from fun W hW => clone_rn e cs W (ExAt.on hx hW) hz)
  have HSZ := Lib.hid hz
  have HFA := Lib.hid (show ∀ x, FillS Ap n c vl x from fill_any hn hm hb)
  have HVV := Lib.hid hV
  have HNN := Lib.hid hn
  have h7 := hx
  obtain ⟨k, o, vk, vn, vs, nm, kids⟩ := e
  obtain ⟨A, n0, c0, rfl, -⟩ := ex_open h7
  obtain ⟨e, he⟩ : ∃ e, Ex.mk k o vk vn vs nm kids = e := ⟨_, rfl⟩
  rw [he] at HCK HPA HCL HSZ ⊢
  obtain ⟨RR, hRR⟩ : ∃ R, fillT (vl.map vv) e = R := ⟨_, rfl⟩
  rw [hRR]
  have HRR := Lib.hid hRR
  have hlen : (vl.map vv).length = n := by rw [List.length_map, hn]
  have HF0 := Lib.hid (show checkE true e ≠ 0 → RR = (zx, checkE true e) from fun h => by rw [← hRR]; unfold fillT; rw [if_pos h])
  have HF1 := Lib.hid (show checkE true e = 0 → (n : Int) < parE 0 e → RR = (zx, 37) from fun h g => by rw [← hRR]; unfold fillT; rw [if_neg (by simpa using h), hlen, if_pos g])
  have HF2 := Lib.hid (show checkE true e = 0 → ¬ (n : Int) < parE 0 e → AtU n e ∧ (okU (vl.map vv) e = false → RR = (zx, 2)) ∧ (okU (vl.map vv) e = true → 8 < hgt (fill (vl.map vv) e) → RR = (zx, 17)) ∧ (okU (vl.map vv) e = true → ¬ 8 < hgt (fill (vl.map vv) e) → RR = (fill (vl.map vv) e, 0)) from fun h g => by
    rw [← hRR]
    unfold fillT
    rw [if_neg (by simpa using h), hlen, if_neg g]
    exact ⟨hlen ▸ fill_at h (by rw [hlen]; exact g), fun i => by rw [if_pos i], fun i j => by rw [if_neg (by rw [i]; decide), if_pos j], fun i j => by rw [if_neg (by rw [i]; decide), if_neg j]⟩)
  obtain ⟨q, hq⟩ : ∃ q, checkE true e = q := ⟨_, rfl⟩
  rw [hq] at HCK HF0 HF1 HF2
  obtain ⟨V, hV⟩ : ∃ V, (w.alloc (.cells #[.int .i64 k, .int .i64 o, .int .i64 vk, .int .i64 vn, .string (txt vs), .string (txt nm), .slice A n0 c0] 26)).alloc (.cells #[.int .i64 0, .int .i64 0, .int .i64 0, .int .i64 0, .string ⟨#[]⟩, .string ⟨#[]⟩, .slice none 0 0] 26) = V := ⟨_, rfl⟩
  have HBV := Lib.hid (show Below w.heap.size w V from by rw [← hV]; exact al (al (Below.refl _ _) _) _)
  have HEC := Lib.hid (show Cel V w.heap.size 26 #[.int .i64 k, .int .i64 o, .int .i64 vk, .int .i64 vn, .string (txt vs), .string (txt nm), .slice A n0 c0] from by rw [← hV]; exact ((Cel.new w _ _ rfl).alloc _))
  have HRC := Lib.hid (show Cel V (w.heap.size + 1) 26 #[.int .i64 0, .int .i64 0, .int .i64 0, .int .i64 0, .string ⟨#[]⟩, .string ⟨#[]⟩, .slice none 0 0] from by rw [← hV]; exact (Cel.new (w.alloc _) _ _ (by simp)))
  have HSV := Lib.hid (show V.heap.size = w.heap.size + 2 from by rw [← hV]; simp)
  clear hq he hx hs hl h7 hRR hlen hb hz hn
  have ae0 := (HEC.out.below (Below.refl _ _)).at_ 0
  have ae1 := (HEC.out.below (Below.refl _ _)).at_ 1
  have ae2 := (HEC.out.below (Below.refl _ _)).at_ 2
  have ae3 := (HEC.out.below (Below.refl _ _)).at_ 3
  have ae4 := (HEC.out.below (Below.refl _ _)).at_ 4
  have ae5 := (HEC.out.below (Below.refl _ _)).at_ 5
  have ae6 := (HEC.out.below (Below.refl _ _)).at_ 6
  go_enter Tryz.func10, Tryz.ntmps10
  go_wp2_with (fail)
  go_at_call 35
  with_reducible refine (HCK.out _ HBV.out).mono ?_
  rintro e1 w1 ⟨rfl, hb1⟩
  have HB1 := Lib.hid hb1
  clear ae0 ae1 ae2 ae3 ae4 ae5 ae6
  clear hb1 hV
  have be0 := (HEC.out.below HB1.out).at_ 0
  have be1 := (HEC.out.below HB1.out).at_ 1
  have be2 := (HEC.out.below HB1.out).at_ 2
  have be3 := (HEC.out.below HB1.out).at_ 3
  have be4 := (HEC.out.below HB1.out).at_ 4
  have be5 := (HEC.out.below HB1.out).at_ 5
  have be6 := (HEC.out.below HB1.out).at_ 6
  have br0 := (HRC.out.below HB1.out).at_ 0
  have br1 := (HRC.out.below HB1.out).at_ 1
  have br2 := (HRC.out.below HB1.out).at_ 2
  have br3 := (HRC.out.below HB1.out).at_ 3
  have br4 := (HRC.out.below HB1.out).at_ 4
  have br5 := (HRC.out.below HB1.out).at_ 5
  have br6 := (HRC.out.below HB1.out).at_ 6
  have bo0 := (HRC.out.below HB1.out).open_ 0
  have bo1 := (HRC.out.below HB1.out).open_ 1
  have bo2 := (HRC.out.below HB1.out).open_ 2
  have bo3 := (HRC.out.below HB1.out).open_ 3
  have bo4 := (HRC.out.below HB1.out).open_ 4
  have bo5 := (HRC.out.below HB1.out).open_ 5
  have bo6 := (HRC.out.below HB1.out).open_ 6
  by_cases h0 : q = 0
  case neg =>
    have t0 : (q != 0) = true := bne_yes h0
    have HWZ := Lib.hid (HF0.out h0)
    clear h0
    go_wp2
    (try simp only [Exit.inBlock, Exit.then])
    refine bodyPost_ret (v := .tuple #[.agg #[.int .i64 0, .int .i64 0, .int .i64 0, .int .i64 0, .string ⟨#[]⟩, .string ⟨#[]⟩, .slice none 0 0], .int .i64 q]) (ret_xv rfl rfl (seven_set (HRC.out.below HB1.out)) rfl) rfl ?_
    exact trv_err (by rw [HWZ.out]) (Mem.on HBV.out HB1.out) (show w.heap.size ≤ w.heap.size + 1 by omega)
  subst h0
  obtain ⟨P, hP⟩ : ∃ P, parE 0 e = P := ⟨_, rfl⟩
  rw [hP] at HPA HF1 HF2
  clear hP
  have HPA1 := Lib.hid (HPA.out _ (Mem.on HBV.out HB1.out))
  by_cases hlt : (n : Int) < P
  case pos =>
    have HWZ := Lib.hid (HF1.out rfl hlt)
    have hge : ¬ P ≤ (n : Int) := by omega
    have t1 : decide ((n : Int) < P) = true := decide_eq_true hlt
    go_wp2_with (go_at_call 36; (with_reducible refine HPA1.out.mono ?_); rintro e2 w2 ⟨rfl, hb2⟩; have HB2 := Lib.hid (Mem.on HB1.out hb2); clear hb2; have cr0 := (HRC.out.below HB2.out).at_ 0; have cr1 := (HRC.out.below HB2.out).at_ 1; have cr2 := (HRC.out.below HB2.out).at_ 2; have cr3 := (HRC.out.below HB2.out).at_ 3; have cr4 := (HRC.out.below HB2.out).at_ 4; have cr5 := (HRC.out.below HB2.out).at_ 5; have cr6 := (HRC.out.below HB2.out).at_ 6; have co0 := (HRC.out.below HB2.out).open_ 0; have co1 := (HRC.out.below HB2.out).open_ 1; have co2 := (HRC.out.below HB2.out).open_ 2; have co3 := (HRC.out.below HB2.out).open_ 3; have co4 := (HRC.out.below HB2.out).open_ 4; have co5 := (HRC.out.below HB2.out).open_ 5; have co6 := (HRC.out.below HB2.out).open_ 6)
    (try simp only [Exit.inBlock, Exit.then])
    refine bodyPost_ret (v := .tuple #[.agg #[.int .i64 0, .int .i64 0, .int .i64 0, .int .i64 0, .string ⟨#[]⟩, .string ⟨#[]⟩, .slice none 0 0], .int .i64 37]) (ret_xv rfl rfl (seven_set (HRC.out.below HB2.out)) rfl) rfl ?_
    exact trv_err (by rw [HWZ.out]) (Mem.on HBV.out HB2.out) (show w.heap.size ≤ w.heap.size + 1 by omega)
  obtain ⟨hat, hr1, hr2, hr3⟩ := HF2.out rfl (by omega)
  have HAT := Lib.hid hat
  have HG1 := Lib.hid hr1
  have HG2 := Lib.hid hr2
  have HG3 := Lib.hid hr3
  clear hat hr1 hr2 hr3
  have t1 : decide ((n : Int) < P) = false := decide_eq_false hlt
  have t2 : P ≤ (n : Int) := by omega
  go_wp2_with (first | (go_at_call 36; (with_reducible refine HPA1.out.mono ?_); rintro e2 w2 ⟨rfl, hb2⟩; have HB2 := Lib.hid (Mem.on HB1.out hb2); clear hb2; clear be0 be1 be2 be3 be4 be5 be6 br0 br1 br2 br3 br4 br5 br6 bo0 bo1 bo2 bo3 bo4 bo5 bo6; have ce0 := (HEC.out.below HB2.out).at_ 0; have ce1 := (HEC.out.below HB2.out).at_ 1; have ce2 := (HEC.out.below HB2.out).at_ 2; have ce3 := (HEC.out.below HB2.out).at_ 3; have ce4 := (HEC.out.below HB2.out).at_ 4; have ce5 := (HEC.out.below HB2.out).at_ 5; have ce6 := (HEC.out.below HB2.out).at_ 6) | (go_at_call 37; (with_reducible refine (HCL.out _ (Mem.on HBV.out HB2.out)).mono ?_); rintro e3 w3 ⟨ds, rfl, hrn, hb3⟩; have HB3 := Lib.hid (Mem.on HB2.out hb3); obtain ⟨k3, o3, vk3, vn3, vs3, nm3, ks3, A3, c3, -, rfl⟩ := rn_open hrn; have HRN := Lib.hid hrn; have HS2 := Lib.hid (show V.heap.size ≤ w2.heap.size ∧ w2.heap.size ≤ w3.heap.size from ⟨HB2.out.size, hb3.size⟩); clear hrn hb3))
  obtain ⟨W4, hW4⟩ : ∃ W4, (w3.alloc (.cells #[.int .i64 k3, .int .i64 o3, .int .i64 vk3, .int .i64 vn3, .string (txt vs3), .string (txt nm3), .slice A3 ks3.length c3] 26)) = W4 := ⟨_, rfl⟩
  have HX4 := Lib.hid (show Cel W4 w3.heap.size tE #[.int .i64 k3, .int .i64 o3, .int .i64 vk3, .int .i64 vn3, .string (txt vs3), .string (txt nm3), .slice A3 ks3.length c3] from by rw [← hW4]; exact Cel.new w3 _ _ rfl)
  have HL4 := Lib.hid (show Below w3.heap.size w3 W4 from by rw [← hW4]; exact al (Below.refl _ _) _)
  have HB4 := Lib.hid (Mem.on HB3.out HL4.out)
  have HS4 := Lib.hid (show w3.heap.size < W4.heap.size from HX4.out.lt)
  have HFL := Lib.hid (HFA.out e W4 w2.heap.size w3.heap.size 0 w2.heap.size w3.heap.size _ _ HX4.out (Nat.le_refl _) HS2.out.2 (Nat.le_refl _) (.inr (Nat.le_refl _)) HL4.out.size (RnN.keep HRN.out fun b _ _ ho => HL4.out.block b ho.lt) (fun i u hu => by rw [Nat.zero_add, HX4.out.at_]; simpa using hu) ((HVV.out.below (Mem.on HBV.out HB4.out) (Nat.le_refl _)).more (by have := HS2.out.1; have := HBV.out.size; omega)) HAT.out HSZ.out)
  rw [hW4]
  clear ce0 ce1 ce2 ce3 ce4 ce5 ce6
  clear hW4
  obtain ⟨X, hX⟩ : ∃ X, fill (vl.map vv) e = X := ⟨_, rfl⟩
  obtain ⟨r, hr⟩ : ∃ r, okU (vl.map vv) e = r := ⟨_, rfl⟩
  have HXS := Lib.hid (show size X ≤ 100000 from by have := size_fill (vl.map vv) e; have := HSZ.out; rw [hX] at *; omega)
  have HFR := Lib.hid (show ∀ E5 w5, FilC (vl.map vv) w2.heap.size w3.heap.size 0 w2.heap.size w3.heap.size e W4 E5 w5 → E5 = .returned (.bool r) ∧ Below V.heap.size V w5 ∧ (r = true → ∃ k o vk vn vs nm A n c, ExIn w5 (fun b => w2.heap.size ≤ b ∧ b < w5.heap.size) X [.int .i64 k, .int .i64 o, .int .i64 vk, .int .i64 vn, .string (txt vs), .string (txt nm), .slice A n c] ∧ (w5.cell? ⟨w3.heap.size, 0, none⟩ = some (.int .i64 k) ∧ w5.cell? ⟨w3.heap.size, 1, none⟩ = some (.int .i64 o) ∧ w5.cell? ⟨w3.heap.size, 2, none⟩ = some (.int .i64 vk) ∧ w5.cell? ⟨w3.heap.size, 3, none⟩ = some (.int .i64 vn) ∧ w5.cell? ⟨w3.heap.size, 4, none⟩ = some (.string (txt vs)) ∧ w5.cell? ⟨w3.heap.size, 5, none⟩ = some (.string (txt nm)) ∧ w5.cell? ⟨w3.heap.size, 6, none⟩ = some (.slice A n c)) ∧ w3.heap.size < w5.heap.size) from fun E5 w5 h => by
    obtain ⟨h1, h2, h3⟩ := h
    have hs5 := h2.1.size
    have hs4 := HS4.out
    have hs2 := HS2.out
    refine ⟨by rw [h1, hr], HB4.out.trans (h2.1.mono hs2.1), fun h => ?_⟩
    obtain ⟨ds, hl, hc, hi⟩ := h3 (by rw [hr, h])
    rw [hX] at hi
    obtain ⟨k, o, vk, vn, vs, nm, ks⟩ := X
    obtain ⟨A, n, c, rfl, -⟩ := ex_open hi
    exact ⟨k, o, vk, vn, vs, nm, A, n, c, hi.more fun b hb => by omega, ⟨hc 0 _ rfl, hc 1 _ rfl, hc 2 _ rfl, hc 3 _ rfl, hc 4 _ rfl, hc 5 _ rfl, hc 6 _ rfl⟩, by omega⟩)
  have HG1 := Lib.hid (show r = false → RR = (zx, 2) from hr ▸ HG1.out)
  have HG2 := Lib.hid (show r = true → 8 < hgt X → RR = (zx, 17) from fun h g => HG2.out (by rw [hr, h]) (by rw [hX]; exact g))
  have HG3 := Lib.hid (show r = true → ¬ 8 < hgt X → RR = (X, 0) from fun h g => by rw [← hX]; exact HG3.out (by rw [hr, h]) (by rw [hX]; exact g))
  clear hX hr
  cases r with
  | false =>
    have HE := Lib.hid (HG1.out rfl)
    clear HG1 HG2 HG3
    go_wp2_with (go_at_call 38; (with_reducible refine HFL.out.mono ?_); rintro e5 w5 hf; obtain ⟨rfl, hb5, -⟩ := HFR.out _ _ hf; clear hf; have HB5 := Lib.hid hb5; clear hb5; have dr0 := (HRC.out.below HB5.out).at_ 0; have dr1 := (HRC.out.below HB5.out).at_ 1; have dr2 := (HRC.out.below HB5.out).at_ 2; have dr3 := (HRC.out.below HB5.out).at_ 3; have dr4 := (HRC.out.below HB5.out).at_ 4; have dr5 := (HRC.out.below HB5.out).at_ 5; have dr6 := (HRC.out.below HB5.out).at_ 6; have do0 := (HRC.out.below HB5.out).open_ 0; have do1 := (HRC.out.below HB5.out).open_ 1; have do2 := (HRC.out.below HB5.out).open_ 2; have do3 := (HRC.out.below HB5.out).open_ 3; have do4 := (HRC.out.below HB5.out).open_ 4; have do5 := (HRC.out.below HB5.out).open_ 5; have do6 := (HRC.out.below HB5.out).open_ 6)
    (try simp only [Exit.inBlock, Exit.then])
    refine bodyPost_ret (v := .tuple #[.agg #[.int .i64 0, .int .i64 0, .int .i64 0, .int .i64 0, .string ⟨#[]⟩, .string ⟨#[]⟩, .slice none 0 0], .int .i64 2]) (ret_xv rfl rfl (seven_set (HRC.out.below HB5.out)) rfl) rfl ?_
    exact trv_err (by rw [HE.out]) (Mem.on HBV.out HB5.out) (show w.heap.size ≤ w.heap.size + 1 by omega)
  | true =>
    by_cases h8 : 8 < hgt X
    case pos =>
      have HE := Lib.hid (HG2.out rfl h8)
      clear HG1 HG2 HG3
      have t8 : decide ((8 : Int) < (hgt X : Int)) = true := decide_eq_true (by omega)
      have t9 : ¬ (hgt X : Int) ≤ 8 := by omega
      go_wp2_with (first | (go_at_call 38; (with_reducible refine HFL.out.mono ?_); rintro e5 w5 hf; obtain ⟨rfl, hb5, hf5⟩ := HFR.out _ _ hf; obtain ⟨k5, o5, vk5, vn5, vs5, nm5, A5, n5, c5, hi5, hc5, hl5⟩ := hf5 rfl; have HB5 := Lib.hid hb5; have HI5 := Lib.hid hi5; have HC5 := Lib.hid hc5; have HL5 := Lib.hid hl5; clear hf hb5 hf5 hi5 hc5 hl5; obtain ⟨q0, q1, q2, q3, q4, q5, q6⟩ := HC5.out; have HH5 := Lib.hid (height_any X _ w5 (HI5.out.more fun b hb => hb.2) HXS.out)) | (go_at_call 39; (with_reducible refine HH5.out.mono ?_); rintro e6 w6 ⟨rfl, hb6⟩; have HB6 := Lib.hid (Mem.on HB5.out hb6); have HL6 := Lib.hid hb6; have HC6 := Lib.hid (show _ from (And.intro ((hb6.cell HL5.out).trans q0) (And.intro ((hb6.cell HL5.out).trans q1) (And.intro ((hb6.cell HL5.out).trans q2) (And.intro ((hb6.cell HL5.out).trans q3) (And.intro ((hb6.cell HL5.out).trans q4) (And.intro ((hb6.cell HL5.out).trans q5) ((hb6.cell HL5.out).trans q6))))))) : w6.cell? ⟨w3.heap.size, 0, none⟩ = some (.int .i64 k5) ∧ w6.cell? ⟨w3.heap.size, 1, none⟩ = some (.int .i64 o5) ∧ w6.cell? ⟨w3.heap.size, 2, none⟩ = some (.int .i64 vk5) ∧ w6.cell? ⟨w3.heap.size, 3, none⟩ = some (.int .i64 vn5) ∧ w6.cell? ⟨w3.heap.size, 4, none⟩ = some (.string (txt vs5)) ∧ w6.cell? ⟨w3.heap.size, 5, none⟩ = some (.string (txt nm5)) ∧ w6.cell? ⟨w3.heap.size, 6, none⟩ = some (.slice A5 n5 c5)); clear hb6 q0 q1 q2 q3 q4 q5 q6; obtain ⟨q0, q1, q2, q3, q4, q5, q6⟩ := HC6.out; have dr0 := (HRC.out.below HB6.out).at_ 0; have dr1 := (HRC.out.below HB6.out).at_ 1; have dr2 := (HRC.out.below HB6.out).at_ 2; have dr3 := (HRC.out.below HB6.out).at_ 3; have dr4 := (HRC.out.below HB6.out).at_ 4; have dr5 := (HRC.out.below HB6.out).at_ 5; have dr6 := (HRC.out.below HB6.out).at_ 6; have do0 := (HRC.out.below HB6.out).open_ 0; have do1 := (HRC.out.below HB6.out).open_ 1; have do2 := (HRC.out.below HB6.out).open_ 2; have do3 := (HRC.out.below HB6.out).open_ 3; have do4 := (HRC.out.below HB6.out).open_ 4; have do5 := (HRC.out.below HB6.out).open_ 5; have do6 := (HRC.out.below HB6.out).open_ 6))
      (try simp only [Exit.inBlock, Exit.then])
      refine bodyPost_ret (v := .tuple #[.agg #[.int .i64 0, .int .i64 0, .int .i64 0, .int .i64 0, .string ⟨#[]⟩, .string ⟨#[]⟩, .slice none 0 0], .int .i64 17]) (ret_xv rfl rfl (seven_set (HRC.out.below HB6.out)) rfl) rfl ?_
      exact trv_err (by rw [HE.out]) (Mem.on HBV.out HB6.out) (show w.heap.size ≤ w.heap.size + 1 by omega)
    have HE := Lib.hid (HG3.out rfl h8)
    clear HG1 HG2 HG3
    have t8 : decide ((8 : Int) < (hgt X : Int)) = false := decide_eq_false (by omega)
    have t9 : (hgt X : Int) ≤ 8 := by omega
    go_wp2_with (first | (go_at_call 38; (with_reducible refine HFL.out.mono ?_); rintro e5 w5 hf; obtain ⟨rfl, hb5, hf5⟩ := HFR.out _ _ hf; obtain ⟨k5, o5, vk5, vn5, vs5, nm5, A5, n5, c5, hi5, hc5, hl5⟩ := hf5 rfl; have HB5 := Lib.hid hb5; have HI5 := Lib.hid hi5; have HC5 := Lib.hid hc5; have HL5 := Lib.hid hl5; clear hf hb5 hf5 hi5 hc5 hl5; obtain ⟨q0, q1, q2, q3, q4, q5, q6⟩ := HC5.out; have HH5 := Lib.hid (height_any X _ w5 (HI5.out.more fun b hb => hb.2) HXS.out)) | (go_at_call 39; (with_reducible refine HH5.out.mono ?_); rintro e6 w6 ⟨rfl, hb6⟩; have HB6 := Lib.hid (Mem.on HB5.out hb6); have HL6 := Lib.hid hb6; have HC6 := Lib.hid (show _ from (And.intro ((hb6.cell HL5.out).trans q0) (And.intro ((hb6.cell HL5.out).trans q1) (And.intro ((hb6.cell HL5.out).trans q2) (And.intro ((hb6.cell HL5.out).trans q3) (And.intro ((hb6.cell HL5.out).trans q4) (And.intro ((hb6.cell HL5.out).trans q5) ((hb6.cell HL5.out).trans q6))))))) : w6.cell? ⟨w3.heap.size, 0, none⟩ = some (.int .i64 k5) ∧ w6.cell? ⟨w3.heap.size, 1, none⟩ = some (.int .i64 o5) ∧ w6.cell? ⟨w3.heap.size, 2, none⟩ = some (.int .i64 vk5) ∧ w6.cell? ⟨w3.heap.size, 3, none⟩ = some (.int .i64 vn5) ∧ w6.cell? ⟨w3.heap.size, 4, none⟩ = some (.string (txt vs5)) ∧ w6.cell? ⟨w3.heap.size, 5, none⟩ = some (.string (txt nm5)) ∧ w6.cell? ⟨w3.heap.size, 6, none⟩ = some (.slice A5 n5 c5)); clear hb6 q0 q1 q2 q3 q4 q5 q6; obtain ⟨q0, q1, q2, q3, q4, q5, q6⟩ := HC6.out; have dr0 := (HRC.out.below HB6.out).at_ 0; have dr1 := (HRC.out.below HB6.out).at_ 1; have dr2 := (HRC.out.below HB6.out).at_ 2; have dr3 := (HRC.out.below HB6.out).at_ 3; have dr4 := (HRC.out.below HB6.out).at_ 4; have dr5 := (HRC.out.below HB6.out).at_ 5; have dr6 := (HRC.out.below HB6.out).at_ 6; have do0 := (HRC.out.below HB6.out).open_ 0; have do1 := (HRC.out.below HB6.out).open_ 1; have do2 := (HRC.out.below HB6.out).open_ 2; have do3 := (HRC.out.below HB6.out).open_ 3; have do4 := (HRC.out.below HB6.out).open_ 4; have do5 := (HRC.out.below HB6.out).open_ 5; have do6 := (HRC.out.below HB6.out).open_ 6))
    (try simp only [Exit.inBlock, Exit.then])
    refine bodyPost_ret (v := .tuple #[.agg #[.int .i64 k5, .int .i64 o5, .int .i64 vk5, .int .i64 vn5, .string (txt vs5), .string (txt nm5), .slice A5 n5 c5], .int .i64 0]) (ret_xv rfl rfl (seven_set (HRC.out.below HB6.out)) rfl) rfl ?_
    have hs := HSV.out
    have hs2 := HS2.out.1
    have hs6 := HL6.out.size
    refine ⟨k5, o5, vk5, vn5, vs5, nm5, A5, n5, c5, by rw [HE.out], ?_, below_seven (Mem.on HBV.out HB6.out) (show w.heap.size ≤ w.heap.size + 1 by omega)⟩
    rw [HE.out]
    exact ExIn.to (fun b hb => ⟨by omega, Nat.lt_of_lt_of_le hb.2 (by simp only [World.size_setCell]; exact hs6)⟩) (fun p hp => (World.cell?_of_block (seven_oth (by have := hp.1; omega))).trans (HL6.out.cell hp.2)) _ _ HI5.out
end Go.Proofs.YtbdippgamlknbaaGreatDoor.Eo
