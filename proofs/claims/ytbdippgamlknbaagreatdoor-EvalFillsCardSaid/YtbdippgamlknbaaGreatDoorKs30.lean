/- Eval: what an expression comes to, or the error, by the document's words. -/
import Derived.Test.YtbdippgamlknbaaGreatDoorKs29
import Derived.Test.YtbdippgamlknbaaGreatDoorKs21
namespace Go.Proofs.YtbdippgamlknbaaGreatDoor.Eo
open Go.RowKit Go.Proofs.YtbdippgamlknbaaGreatDoor.Mem Go.Proofs.YtbdippgamlknbaaGreatDoor.Right Go.Proofs.YtbdippgamlknbaaGreatDoor.Lx Go.Proofs.YtbdippgamlknbaaGreatDoor.Ep Go.Proofs.YtbdippgamlknbaaGreatDoor.Ev
set_option linter.unusedVariables false
set_option linter.unusedSimpArgs false
theorem litsB_of {slots : Bool} {e : Ex} (h : Rs slots e) : Wide e → LitsB e := by
  induction h with
  | @lit k n s h1 h2 =>
    intro w
    refine (litsB_mk _ _ _ _ _ _ _).2 ⟨fun _ => ⟨((wide_mk _ _ _ _ _ _ _).1 w).1, ?_⟩, by simp⟩
    show s.length ≤ 1000
    unfold Val.okV at h1
    split at h1
    · simp at h1; rw [h1.2]; decide
    split at h1
    · simp at h1; rw [h1]; decide
    split at h1
    · simp at h1; rw [h1.2]; decide
    split at h1
    · simp at h1; omega
    · cases h1
  | col h => exact fun _ => (litsB_mk _ _ _ _ _ _ _).2 ⟨fun h => absurd h (by decide), by simp⟩
  | par h1 h2 => exact fun _ => (litsB_mk _ _ _ _ _ _ _).2 ⟨fun h => absurd h (by decide), by simp⟩
  | slot h h1 h2 => exact fun _ => (litsB_mk _ _ _ _ _ _ _).2 ⟨fun h => absurd h (by decide), by simp⟩
  | un h1 h2 _ ih =>
    intro w
    refine (litsB_mk _ _ _ _ _ _ _).2 ⟨fun h => absurd h (by decide), fun x hx => ?_⟩
    obtain rfl : x = _ := by simpa using hx
    exact ih (((wide_mk _ _ _ _ _ _ _).1 w).2 _ (by simp))
  | bin h1 h2 _ _ ih ih' =>
    intro w
    refine (litsB_mk _ _ _ _ _ _ _).2 ⟨fun h => absurd h (by decide), fun x hx => ?_⟩
    rcases List.mem_cons.1 hx with rfl | hx
    · exact ih (((wide_mk _ _ _ _ _ _ _).1 w).2 _ (by simp))
    · obtain rfl : x = _ := by simpa using hx
      exact ih' (((wide_mk _ _ _ _ _ _ _).1 w).2 _ (by simp))
  | inn h1 h2 _ _ ih ih' =>
    intro w
    refine (litsB_mk _ _ _ _ _ _ _).2 ⟨fun h => absurd h (by decide), fun x hx => ?_⟩
    rcases List.mem_cons.1 hx with rfl | hx
    · exact ih (((wide_mk _ _ _ _ _ _ _).1 w).2 _ (by simp))
    · exact ih' x hx (((wide_mk _ _ _ _ _ _ _).1 w).2 _ (List.mem_cons_of_mem _ hx))
  | call h1 h2 _ ih =>
    intro w
    exact (litsB_mk _ _ _ _ _ _ _).2 ⟨fun h => absurd h (by decide), fun x hx => ih x hx (((wide_mk _ _ _ _ _ _ _).1 w).2 _ hx)⟩
theorem cm_mk (g : GS) {k o vk vn : Int} {vs nm : List UInt8} {a : Ex} {r : List Ex} (h1 : k ≠ 1) (h2 : k ≠ 2) (h8 : k ≠ 8) (h3 : k ≠ 3) : cm g (.mk k o vk vn vs nm (a :: r)) = comb ordW k o nm (cm g a) (comeH ordW (g.row.map vv) (g.prs.map vv) r) (inL ordW (g.row.map vv) (g.prs.map vv) (cm g a).1 0 r) (coL ordW (g.row.map vv) (g.prs.map vv) (cm g a).1 r) := by
  unfold cm
  rw [come, if_neg h1, if_neg h2, if_neg h8, if_neg h3, comeK]
/-- Whatever may be: what a part comes to. -/
theorem of_all : ∀ {e : Ex}, Rs true e → LitsB e → OfC e := by
  intro e h
  induction h with
  | @lit k n s h1 h2 =>
    intro hl cs w g hG hx
    obtain ⟨A, n', c, rfl, -⟩ := ex_open hx
    have e : cm g (lit k n s) = (⟨k, n, s⟩, 0) := by unfold cm lit; rw [come, if_pos rfl]
    rw [e]
    exact of_lit g _ k n s _ A n' c w
  | @col nm h =>
    intro hl cs w g hG hx
    obtain ⟨A, n', c, rfl, -⟩ := ex_open hx
    have e : cm g (col nm) = (nul, 4) := by unfold cm col; rw [come, if_neg (by decide), if_pos rfl]
    rw [e]
    exact of_col g _ _ _ _ _ A n' c w
  | @par o h1 h2 =>
    intro hl cs w g hG hx
    obtain ⟨A, n', c, rfl, -⟩ := ex_open hx
    have e : cm g (Ep.par o) = valAt (g.prs.map vv) (o - 1) := by unfold cm Ep.par; rw [come, if_neg (by decide), if_neg (by decide), if_neg (by decide), if_pos rfl]
    rw [e]
    exact of_par g o _ _ _ _ A n' c w h1 h2 hG
  | @slot o h h1 h2 =>
    intro hl cs w g hG hx
    obtain ⟨A, n', c, rfl, -⟩ := ex_open hx
    have e : cm g (.mk 8 o 0 0 [] [] []) = valAt (g.row.map vv) o := by unfold cm; rw [come, if_neg (by decide), if_neg (by decide), if_pos rfl]
    rw [e]
    exact of_slot g o _ _ _ _ A n' c w h1 h2 hG
  | @un o a h1 h2 h ih =>
    intro hl cs w g hG hx
    obtain ⟨A, n', c, rfl, hn, -, -, -, hk⟩ := ex_open hx
    have hla : LitsB a := ((litsB_mk _ _ _ _ _ _ _).1 hl).2 a (by simp)
    have e : cm g (un o a) = unV o (cm g a) := by
      unfold un
      rw [cm_mk g (by decide) (by decide) (by decide) (by decide)]
      unfold unV
      by_cases ha : (cm g a).2 ≠ 0
      · rw [if_pos ha, comb_err ha]
      · rw [if_neg ha, comb_un ha]
    rw [e]
    exact of_un g o _ _ _ _ A n' c a w h1 h2 hG hk hn (ih hla) (cm_vb hG hla)
  | @bin o a b h1 h2 h h' ih ih' =>
    intro hl cs w g hG hx
    obtain ⟨A, n', c, rfl, hn, -, -, -, hk⟩ := ex_open hx
    obtain rfl : n' = 2 := hn
    have hl2 := ((litsB_mk _ _ _ _ _ _ _).1 hl).2
    have hla : LitsB a := hl2 a (by simp)
    have hlb : LitsB b := hl2 b (by simp)
    refine of_bin g o _ _ _ _ A 2 c _ w fun W hW => ?_
    have e : cm g (bin o a b) = comb ordW 5 o [] (cm g a) (cm g b) (inL ordW (g.row.map vv) (g.prs.map vv) (cm g a).1 0 [b]) (coL ordW (g.row.map vv) (g.prs.map vv) (cm g a).1 [b]) := by
      unfold bin
      rw [cm_mk g (by decide) (by decide) (by decide) (by decide), comeH]
      rfl
    rw [e]
    have hih : ∀ x ∈ [a, b], OfC x := fun x hx => by
      rcases List.mem_cons.1 hx with rfl | hx
      · exact ih hla
      · obtain rfl : x = b := by simpa using hx
        exact ih' hlb
    by_cases c1 : o = 1
    · subst c1
      rw [← jn_two (.inl rfl)]
      exact bin_join1 g A 2 c [a, b] W (hG.on hW) (kids_on hk hW) rfl (by omega) hih
    by_cases c2 : o = 2
    · subst c2
      rw [← jn_two (.inr rfl)]
      exact bin_join2 g A 2 c [a, b] W (hG.on hW) (kids_on hk hW) rfl (by omega) hih
    have e2 : comb ordW 5 o [] (cm g a) (cm g b) (inL ordW (g.row.map vv) (g.prs.map vv) (cm g a).1 0 [b]) (coL ordW (g.row.map vv) (g.prs.map vv) (cm g a).1 [b]) = binV o (cm g a) (cm g b) := by
      unfold binV
      by_cases ha : (cm g a).2 ≠ 0
      · rw [if_pos ha, comb_err ha]
      · rw [if_neg ha, comb_two ha (by omega)]
    rw [e2]
    exact bin_two g o A c a b W (by omega) h2 (hG.on hW) (kids_on hk hW) (ih hla) (ih' hlb) (cm_vb hG hla) (cm_vb hG hlb)
  | @inn a l h1 h2 h h' ih ih' =>
    intro hl cs w g hG hx
    obtain ⟨A, n', c, rfl, hn, hc, hcm, -, hk⟩ := ex_open hx
    have hl2 := ((litsB_mk _ _ _ _ _ _ _).1 hl).2
    have hpos := List.length_pos_iff.2 h1
    have e : cm g (inn (a :: l)) = inV g (cm g a) l := by
      unfold inn
      rw [cm_mk g (by decide) (by decide) (by decide) (by decide)]
      unfold inV
      by_cases ha : (cm g a).2 ≠ 0
      · rw [if_pos ha, comb_err ha]
      · rw [if_neg ha, comb_in ha]
        by_cases h0 : (cm g a).1.k = 0
        · rw [if_pos h0, if_pos h0]
        · rw [if_neg h0, if_neg h0]
          exact (jn_in (.inl rfl)).symm
    rw [e]
    rw [List.length_cons] at hn hc
    exact of_in g _ _ _ _ _ A n' c a l w hG hk hn (by omega) (by omega) (by omega) hcm (ih (hl2 a (by simp))) fun x hx => ih' x hx (hl2 x (List.mem_cons_of_mem _ hx))
  | @call nm l h1 h2 h ih =>
    intro hl cs w g hG hx
    obtain ⟨A, n', c, rfl, hn, hc, hcm, -, hk⟩ := ex_open hx
    have hl2 := ((litsB_mk _ _ _ _ _ _ _).1 hl).2
    have hih : ∀ x ∈ l, OfC x := fun x hx => ih x hx (hl2 x hx)
    refine of_call g _ _ _ _ (txt nm) A n' c _ w fun W hW => ?_
    match l, h1 with
    | a :: l, _ =>
      rcases h2 with ⟨rfl, h4⟩ | ⟨hnm, h4⟩
      · have e : cm g (call nCoal (a :: l)) = coS ((a :: l).map (cm g)) := by
          unfold call
          rw [cm_mk g (by decide) (by decide) (by decide) (by decide)]
          exact coS_is.symm
        rw [e]
        exact call_coal g A n' c (a :: l) W (hG.on hW) (kids_on hk hW) hn (by omega) hih
      · obtain rfl : l = [] := List.length_eq_zero_iff.1 (by simpa using h4)
        have e : cm g (call nm [a]) = callW nm (cm g a) := by
          unfold call
          rw [cm_mk g (by decide) (by decide) (by decide) (by decide)]
          unfold callW
          by_cases ha : (cm g a).2 ≠ 0
          · rw [if_pos ha, comb_err ha]
          · rw [if_neg ha, comb_call ha (by rcases hnm with rfl | rfl <;> decide)]
        rw [e]
        exact call_any g nm A n' c [a] a W hnm (hG.on hW) (kids_on hk hW) hn (by rw [hn]; simp) rfl (hih a (by simp)) (cm_vb hG (hl2 a (by simp)))
/-- What Eval tells. -/
def evalT (g : GS) (e : Ex) : Vv × Int := if checkE true e ≠ 0 then (nul, checkE true e) else cm g e
set_option maxHeartbeats 1000000 in
theorem eval_any {w : World} {g : GS} (hG : GIn w w.heap.size g) {e : Ex} {cs : List Value} (hx : ExAt w w.heap.size e cs) (hs : Signs w) (hl : Lim e) (hw : Wide e) :
    Calls Tryz.prog 34 #[.agg cs.toArray, .slice g.A1 g.n1 g.c1, .slice g.A2 g.n2 g.c2] w (ValE w (evalT g e)) := by
  have HCK := Lib.hid (show ∀ W, Below w.heap.size w W → Calls Tryz.prog 35 #[.agg cs.toArray, .bool true] W fun x w' => x = .returned (.int .i64 (checkE true e)) ∧ Below W.heap.size W w' from fun W hW => check_any e cs true W (ExAt.on hx hW) (hs.below hW hs.lt) hl)
  have HOF := Lib.hid (show checkE true e = 0 → ∀ W, Below w.heap.size w W → Calls Tryz.prog 66 #[.agg g.cells, .agg cs.toArray] W (ValE W (cm g e)) from fun h0 W hW => by
    have hr : rightB true e = true := by
      unfold checkE at h0
      split at h0
      · cases h0
      · split at h0
        · rename_i h; exact h
        · cases h0
    exact of_all (rs_of e hr) (litsB_of (rs_of e hr) hw) cs W g (hG.on hW) (ExAt.on hx hW))
  have h7 := hx
  obtain ⟨k, o, vk, vn, vs, nm, kids⟩ := e
  obtain ⟨A, n, c, rfl, -⟩ := ex_open h7
  obtain ⟨e, he⟩ : ∃ e, Ex.mk k o vk vn vs nm kids = e := ⟨_, rfl⟩
  rw [he] at HCK HOF ⊢
  obtain ⟨q, hq⟩ : ∃ q, checkE true e = q := ⟨_, rfl⟩
  have HEV := Lib.hid (show evalT g e = if q ≠ 0 then (nul, q) else cm g e from by unfold evalT; rw [hq])
  rw [hq] at HCK HOF
  obtain ⟨V, hV⟩ : ∃ V, (w.alloc (.cells #[.int .i64 k, .int .i64 o, .int .i64 vk, .int .i64 vn, .string (txt vs), .string (txt nm), .slice A n c] 26)).alloc (.cells #[.int .i64 0, .int .i64 0, .string ⟨#[]⟩] 23) = V := ⟨_, rfl⟩
  have HBV := Lib.hid (show Below w.heap.size w V from by rw [← hV]; exact al (al (Below.refl _ _) _) _)
  have HEC := Lib.hid (show Cel V (w.heap.size) 26 #[.int .i64 k, .int .i64 o, .int .i64 vk, .int .i64 vn, .string (txt vs), .string (txt nm), .slice A n c] from by rw [← hV]; exact ((Cel.new w _ _ rfl).alloc _))
  have HRC := Lib.hid (show Cel V (w.heap.size + 1) 23 #[.int .i64 0, .int .i64 0, .string ⟨#[]⟩] from by rw [← hV]; exact (Cel.new (w.alloc _) _ _ (by simp)))
  clear hq he hG hx hs hl hw h7
  have y0 := HEC.out.at_ 0
  have y1 := HEC.out.at_ 1
  have y2 := HEC.out.at_ 2
  have y3 := HEC.out.at_ 3
  have y4 := HEC.out.at_ 4
  have y5 := HEC.out.at_ 5
  have y6 := HEC.out.at_ 6
  have r00 := HRC.out.at_ 0
  have r01 := HRC.out.at_ 1
  have r02 := HRC.out.at_ 2
  have r0o0 := HRC.out.open_ 0
  have r0o1 := HRC.out.open_ 1
  have r0o2 := HRC.out.open_ 2
  obtain ⟨RR, hRR⟩ : ∃ R, evalT g e = R := ⟨_, rfl⟩
  rw [hRR] at HEV ⊢
  clear hRR
  go_enter Tryz.func34, Tryz.ntmps34
  go_wp2_with (fail)
  go_at_call 35
  with_reducible refine (HCK.out _ HBV.out).mono ?_
  rintro e1 w1 ⟨rfl, hb1⟩
  have HB1 := Lib.hid hb1
  have HBW := Lib.hid (Mem.on HBV.out hb1)
  have u0 := (HEC.out.below hb1).at_ 0
  have u1 := (HEC.out.below hb1).at_ 1
  have u2 := (HEC.out.below hb1).at_ 2
  have u3 := (HEC.out.below hb1).at_ 3
  have u4 := (HEC.out.below hb1).at_ 4
  have u5 := (HEC.out.below hb1).at_ 5
  have u6 := (HEC.out.below hb1).at_ 6
  have r10 := (HRC.out.below hb1).at_ 0
  have r11 := (HRC.out.below hb1).at_ 1
  have r12 := (HRC.out.below hb1).at_ 2
  have r1o0 := (HRC.out.below hb1).open_ 0
  have r1o1 := (HRC.out.below hb1).open_ 1
  have r1o2 := (HRC.out.below hb1).open_ 2
  clear hb1
  by_cases h0 : q = 0
  · subst h0
    obtain ⟨⟨⟨zk, zn, zs⟩, zf⟩, hZ⟩ : ∃ R, cm g e = R := ⟨_, rfl⟩
    rw [hZ] at HOF HEV
    have HWZ := Lib.hid (show RR = (⟨zk, zn, zs⟩, zf) from by rw [HEV.out, if_neg (by decide)])
    have HZ := Lib.hid (HOF.out rfl _ HBW.out)
    clear hZ HOF
    go_wp2_with (go_at_call 66; (with_reducible refine (HZ.out).mono ?_); rintro e2 w2 ⟨rfl, hb2⟩; have HB2 := Lib.hid (Mem.on HB1.out hb2); clear hb2; have r20 := (HRC.out.below HB2.out).at_ 0; have r21 := (HRC.out.below HB2.out).at_ 1; have r22 := (HRC.out.below HB2.out).at_ 2; have r2o0 := (HRC.out.below HB2.out).open_ 0; have r2o1 := (HRC.out.below HB2.out).open_ 1; have r2o2 := (HRC.out.below HB2.out).open_ 2)
    (try simp only [Exit.inBlock, Exit.then])
    refine bodyPost_ret (v := .tuple #[.agg #[.int .i64 zk, .int .i64 zn, .string (txt zs)], .int .i64 zf]) (ret_v rfl rfl (three_set (HRC.out.below HB2.out)) rfl) rfl ?_
    exact ⟨by rw [HWZ.out], below_three (Mem.on HBV.out HB2.out) (show w.heap.size ≤ w.heap.size + 1 by omega)⟩
  · have t0 : (q != 0) = true := bne_yes h0
    have HWZ := Lib.hid (show RR = (nul, q) from by rw [HEV.out, if_pos h0])
    clear h0 HOF
    go_wp2
    (try simp only [Exit.inBlock, Exit.then])
    refine bodyPost_ret (v := .tuple #[.agg #[.int .i64 0, .int .i64 0, .string ⟨#[]⟩], .int .i64 q]) (ret_v rfl rfl (three_set (HRC.out.below HB1.out)) rfl) rfl ?_
    exact ⟨by rw [HWZ.out]; rfl, below_three (Mem.on HBV.out HB1.out) (show w.heap.size ≤ w.heap.size + 1 by omega)⟩
end Go.Proofs.YtbdippgamlknbaaGreatDoor.Eo
