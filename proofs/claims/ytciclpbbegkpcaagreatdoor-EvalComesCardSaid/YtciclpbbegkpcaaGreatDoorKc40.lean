/- The document's Eval and Holds, the program's Holds, of any tree. -/
import Derived.Test.YtciclpbbegkpcaaGreatDoorKc33
import Derived.Test.YtciclpbbegkpcaaGreatDoorKc34
import Derived.Test.YtciclpbbegkpcaaGreatDoorKc35
import Derived.Test.YtciclpbbegkpcaaGreatDoorKc37
import Derived.Test.YtciclpbbegkpcaaGreatDoorKc39
namespace Go.Proofs.YtciclpbbegkpcaaGreatDoor.Eo
open Go.RowKit Go.Proofs.YtciclpbbegkpcaaGreatDoor.Mem Go.Proofs.YtciclpbbegkpcaaGreatDoor.Right Go.Proofs.YtciclpbbegkpcaaGreatDoor.Lx Go.Proofs.YtciclpbbegkpcaaGreatDoor.Ep Go.Proofs.YtciclpbbegkpcaaGreatDoor.Ev
set_option linter.unusedVariables false
set_option linter.unusedSimpArgs false
theorem come_all : ∀ {e : Ex}, Rs true e → LitsB e → ComeC e := by
  intro e h
  induction h with
  | @lit k n s h1 h2 =>
    intro hl cs w g hG hx
    obtain ⟨A, n', c, rfl, -⟩ := ex_open hx
    have e : cm g (lit k n s) = (⟨k, n, s⟩, 0) := by unfold cm lit; rw [come, if_pos rfl]
    rw [e]
    exact come_lit g _ k n s _ A n' c w
  | @col nm h =>
    intro hl cs w g hG hx
    obtain ⟨A, n', c, rfl, -⟩ := ex_open hx
    have e : cm g (col nm) = (nul, 4) := by unfold cm col; rw [come, if_neg (by decide), if_pos rfl]
    rw [e]
    exact come_col g _ _ _ _ _ A n' c w
  | @par o h1 h2 =>
    intro hl cs w g hG hx
    obtain ⟨A, n', c, rfl, -⟩ := ex_open hx
    have e : cm g (Ep.par o) = valAt (g.prs.map vv) (o - 1) := by unfold cm Ep.par; rw [come, if_neg (by decide), if_neg (by decide), if_neg (by decide), if_pos rfl]
    rw [e]
    exact come_par g o _ _ _ _ A n' c w h1 h2 hG
  | @slot o h h1 h2 =>
    intro hl cs w g hG hx
    obtain ⟨A, n', c, rfl, -⟩ := ex_open hx
    have e : cm g (.mk 8 o 0 0 [] [] []) = valAt (g.row.map vv) o := by unfold cm; rw [come, if_neg (by decide), if_neg (by decide), if_pos rfl]
    rw [e]
    exact come_slot g o _ _ _ _ A n' c w h1 hG
  | @un o a h1 h2 h ih =>
    intro hl cs w g hG hx
    obtain ⟨A, n', c, rfl, hn, -, -, -, hk⟩ := ex_open hx
    have hla : LitsB a := ((litsB_mk _ _ _ _ _ _ _).1 hl).2 a (by simp)
    have e : cm g (un o a) = if (cm g a).2 ≠ 0 then (nul, (cm g a).2) else Ev.one o (cm g a).1 := by
      unfold un
      rw [cm_mk g (by decide) (by decide) (by decide) (by decide)]
      by_cases ha : (cm g a).2 ≠ 0
      · rw [if_pos ha, comb_err ha]
      · rw [if_neg ha, comb_un ha]
    rw [e]
    have hn1 : n' = 1 := hn
    exact come_un g o _ _ _ _ A n' c [a] a w hG hk (by omega) (by omega) rfl (ih hla) (Ev.one o (cm g a).1) (fun _ W hW => refOne_any 0 4 o _ _ _ _ A n' c (cm g a).1 h1 h2 (cm_vb hG hla) W)
  | @bin o a b h1 h2 h h' ih ih' =>
    intro hl cs w g hG hx
    obtain ⟨A, n', c, rfl, hn, -, -, -, hk⟩ := ex_open hx
    obtain rfl : n' = 2 := hn
    have hl2 := ((litsB_mk _ _ _ _ _ _ _).1 hl).2
    have hla : LitsB a := hl2 a (by simp)
    have hlb : LitsB b := hl2 b (by simp)
    have e : cm g (bin o a b) = comb ordW 5 o [] (cm g a) (cm g b) (inL ordW (g.row.map vv) (g.prs.map vv) (cm g a).1 0 [b]) (coL ordW (g.row.map vv) (g.prs.map vv) (cm g a).1 [b]) := by
      unfold bin
      rw [cm_mk g (by decide) (by decide) (by decide) (by decide), comeH]
      rfl
    rw [e]
    by_cases c12 : o ≤ 2
    · have ho : o = 1 ∨ o = 2 := by omega
      have e2 : comb ordW 5 o [] (cm g a) (cm g b) (inL ordW (g.row.map vv) (g.prs.map vv) (cm g a).1 0 [b]) (coL ordW (g.row.map vv) (g.prs.map vv) (cm g a).1 [b]) = if (cm g a).2 ≠ 0 then (nul, (cm g a).2) else bothW o (cm g a).1 (cm g b) := by
        by_cases ha : (cm g a).2 ≠ 0
        · rw [if_pos ha, comb_err ha]
        · rw [if_neg ha, comb_and ha c12]
          unfold bothW
          rw [show tog o (ofV (cm g a).1).1 (ofV (cm g b).1).1 = if o = 2 then andT (ofV (cm g a).1).1 (ofV (cm g b).1).1 else orT (ofV (cm g a).1).1 (ofV (cm g b).1).1 from by
            rcases ho with rfl | rfl
            · rw [if_neg (by decide), tog_or (of_3 _) (of_3 _)]
            · rw [if_pos rfl, tog_and (of_3 _) (of_3 _)]]
      rw [e2]
      exact come_both g o _ _ _ _ A 2 c [a, b] a w hG hk (by omega) (by omega) rfl (ih hla) c12 (bothW o (cm g a).1 (cm g b)) (fun _ W hW => both_any g 5 o _ _ _ _ A c (cm g a).1 [a, b] b W ho (hG.on hW) (kids_on hk hW) rfl (ih' hlb))
    · have e2 : comb ordW 5 o [] (cm g a) (cm g b) (inL ordW (g.row.map vv) (g.prs.map vv) (cm g a).1 0 [b]) (coL ordW (g.row.map vv) (g.prs.map vv) (cm g a).1 [b]) = binV o (cm g a) (cm g b) := by
        unfold binV
        by_cases ha : (cm g a).2 ≠ 0
        · rw [if_pos ha, comb_err ha]
        · rw [if_neg ha, comb_two ha c12]
      rw [e2]
      exact come_two g o _ _ _ _ A c [a, b] a b w (by omega) h2 hG hk rfl rfl (ih hla) (ih' hlb) (cm_vb hG hla) (cm_vb hG hlb)
  | @inn a l h1 h2 h h' ih ih' =>
    intro hl cs w g hG hx
    obtain ⟨A, n', c, rfl, hn, hc, hcm, -, hk⟩ := ex_open hx
    have hl2 := ((litsB_mk _ _ _ _ _ _ _).1 hl).2
    have hpos := List.length_pos_iff.2 h1
    have e : cm g (inn (a :: l)) = if (cm g a).2 ≠ 0 then (nul, (cm g a).2) else inW g (cm g a).1 ((a :: l).drop 1) := by
      unfold inn
      rw [cm_mk g (by decide) (by decide) (by decide) (by decide)]
      by_cases ha : (cm g a).2 ≠ 0
      · rw [if_pos ha, comb_err ha]
      · rw [if_neg ha, comb_in ha]
        rfl
    rw [e]
    have hn' := hn
    rw [List.length_cons] at hn hc
    exact come_in g _ _ _ _ _ A n' c (a :: l) a w hG hk (by omega) (by omega) rfl (ih (hl2 a (by simp))) (inW g (cm g a).1 ((a :: l).drop 1)) (fun _ W hW => refIn_any g 6 _ _ _ _ _ A n' c (cm g a).1 (a :: l) W (hG.on hW) (kids_on hk hW) hn' (by omega) (by omega) (fun x hx => by
      rcases List.mem_cons.1 hx with rfl | hx
      · exact ih (hl2 _ (by simp))
      · exact ih' x hx (hl2 x (List.mem_cons_of_mem _ hx))))
  | @call nm l h1 h2 h ih =>
    intro hl cs w g hG hx
    obtain ⟨A, n', c, rfl, hn, hc, hcm, -, hk⟩ := ex_open hx
    have hl2 := ((litsB_mk _ _ _ _ _ _ _).1 hl).2
    have hih : ∀ x ∈ l, ComeC x := fun x hx => ih x hx (hl2 x hx)
    match l, h1 with
    | a :: l, _ =>
      rcases h2 with ⟨rfl, h4⟩ | ⟨hnm, h4⟩
      · have e : cm g (call nCoal (a :: l)) = if (cm g a).2 ≠ 0 then (nul, (cm g a).2) else coL ordW (g.row.map vv) (g.prs.map vv) (cm g a).1 ((a :: l).drop 1) := by
          unfold call
          rw [cm_mk g (by decide) (by decide) (by decide) (by decide)]
          by_cases ha : (cm g a).2 ≠ 0
          · rw [if_pos ha, comb_err ha]
          · rw [if_neg ha, comb_co ha]
            rfl
        rw [e]
        exact come_coal g _ _ _ _ A n' c (a :: l) a w hG hk hn (by omega) rfl hih
      · obtain rfl : l = [] := List.length_eq_zero_iff.1 (by simpa using h4)
        have e : cm g (call nm [a]) = if (cm g a).2 ≠ 0 then (nul, (cm g a).2) else callV nm (cm g a).1 := by
          unfold call
          rw [cm_mk g (by decide) (by decide) (by decide) (by decide)]
          by_cases ha : (cm g a).2 ≠ 0
          · rw [if_pos ha, comb_err ha]
          · rw [if_neg ha, comb_call ha (by rcases hnm with rfl | rfl <;> decide)]
        rw [e]
        have hn1 : n' = 1 := hn
        exact come_call g _ _ _ _ (txt nm) A n' c [a] a w hG hk (by omega) (by omega) rfl (hih a (by simp)) (by rw [Lib.toList_data]; rcases hnm with rfl | rfl <;> decide) (callV nm (cm g a).1) (fun _ W hW => refCall_any nm (cm g a).1 hnm (cm_vb hG (hl2 a (by simp))) W)
set_option maxRecDepth 20000 in
set_option maxHeartbeats 1000000 in
theorem refEval_any {w : World} {g : GS} (hG : GIn w w.heap.size g) {e : Ex} {cs : List Value} (hx : ExAt w w.heap.size e cs) (hl : Lim e) (hw : Wide e) (hz : size e ≤ 1000000) :
    Calls Tryz.prog 12 #[.agg cs.toArray, .slice g.A1 g.n1 g.c1, .slice g.A2 g.n2 g.c2] w (ValE w (evalT g e)) := by
  have HCK := Lib.hid (show ∀ W, Below w.heap.size w W → Calls Tryz.prog 41 #[.agg cs.toArray, .bool true] W fun x w' => x = .returned (.int .i64 (checkE true e)) ∧ Below W.heap.size W w' from fun W hW => refCheck_any e cs true W (ExAt.on hx hW) hl hz)
  have HOF := Lib.hid (show checkE true e = 0 → ∀ W, Below w.heap.size w W → Calls Tryz.prog 42 #[.agg cs.toArray, .slice g.A1 g.n1 g.c1, .slice g.A2 g.n2 g.c2] W (ValE W (cm g e)) from fun h0 W hW => by
    have hr : rightB true e = true := by
      unfold checkE at h0
      split at h0
      · cases h0
      · split at h0
        · rename_i h; exact h
        · cases h0
    exact come_all (rs_of e hr) (litsB_of (rs_of e hr) hw) cs W g (hG.on hW) (ExAt.on hx hW))
  have h7 := hx
  obtain ⟨k, o, vk, vn, vs, nm, kids⟩ := e
  obtain ⟨A, n, c, rfl, -⟩ := ex_open h7
  obtain ⟨e, he⟩ : ∃ e, Ex.mk k o vk vn vs nm kids = e := ⟨_, rfl⟩
  rw [he] at HCK HOF ⊢
  obtain ⟨q, hq⟩ : ∃ q, checkE true e = q := ⟨_, rfl⟩
  have HEV := Lib.hid (show evalT g e = if q ≠ 0 then (nul, q) else cm g e from by unfold evalT; rw [hq])
  rw [hq] at HCK HOF
  obtain ⟨V, hV⟩ : ∃ V, (w.alloc (.cells #[.int .i64 k, .int .i64 o, .int .i64 vk, .int .i64 vn, .string (txt vs), .string (txt nm), .slice A n c] 26)).alloc (.cells #[.int .i64 0, .int .i64 0, .string ⟨#[]⟩] 23) = V := ⟨_, rfl⟩
  have HBV := Lib.hid (show Below w.heap.size w V from by rw [← hV]; exact al (al (Below.refl _ _) _) _)
  have HEC := Lib.hid (show Cel V (w.heap.size) 26 #[.int .i64 k, .int .i64 o, .int .i64 vk, .int .i64 vn, .string (txt vs), .string (txt nm), .slice A n c] from by rw [← hV]; exact ((Cel.new w _ _ rfl).alloc _))
  have HRC := Lib.hid (show Cel V (w.heap.size + 1) 23 #[.int .i64 0, .int .i64 0, .string ⟨#[]⟩] from by rw [← hV]; exact (Cel.new (w.alloc _) _ _ (by simp)))
  clear hq he hG hx hl hw h7 hz
  have y0 := HEC.out.at_ 0
  have y1 := HEC.out.at_ 1
  have y2 := HEC.out.at_ 2
  have y3 := HEC.out.at_ 3
  have y4 := HEC.out.at_ 4
  have y5 := HEC.out.at_ 5
  have y6 := HEC.out.at_ 6
  have r0 := HRC.out.at_ 0
  have r1 := HRC.out.at_ 1
  have r2 := HRC.out.at_ 2
  have ro0 := HRC.out.open_ 0
  have ro1 := HRC.out.open_ 1
  have ro2 := HRC.out.open_ 2
  by_cases hq0 : q = 0
  · subst hq0
    rw [HEV.out, if_neg (by simp)]
    obtain ⟨⟨⟨zk, zn, zs⟩, zf⟩, hZ⟩ : ∃ R, cm g e = R := ⟨_, rfl⟩
    rw [hZ] at HOF ⊢
    replace HOF := Lib.hid (HOF.out rfl)
    clear hZ HEV
    go_enter Tryz.func12, Tryz.ntmps12
    go_wp2_with (first | (go_at_call 41; (with_reducible refine (HCK.out _ HBV.out).mono ?_); rintro e1 w1 ⟨rfl, hb1⟩; have HB1 := Lib.hid hb1; clear hb1; have r10 := (HRC.out.below HB1.out).at_ 0; have r11 := (HRC.out.below HB1.out).at_ 1; have r12 := (HRC.out.below HB1.out).at_ 2; have r1o0 := (HRC.out.below HB1.out).open_ 0; have r1o1 := (HRC.out.below HB1.out).open_ 1; have r1o2 := (HRC.out.below HB1.out).open_ 2; have y10 := (HEC.out.below HB1.out).at_ 0; have y11 := (HEC.out.below HB1.out).at_ 1; have y12 := (HEC.out.below HB1.out).at_ 2; have y13 := (HEC.out.below HB1.out).at_ 3; have y14 := (HEC.out.below HB1.out).at_ 4; have y15 := (HEC.out.below HB1.out).at_ 5; have y16 := (HEC.out.below HB1.out).at_ 6) | (go_at_call 42; (with_reducible refine (HOF.out _ (Mem.on HBV.out HB1.out)).mono ?_); rintro e2 w2 ⟨rfl, hb2⟩; have HB2 := Lib.hid (Mem.on HB1.out hb2); clear hb2; have r20 := (HRC.out.below HB2.out).at_ 0; have r21 := (HRC.out.below HB2.out).at_ 1; have r22 := (HRC.out.below HB2.out).at_ 2; have r2o0 := (HRC.out.below HB2.out).open_ 0; have r2o1 := (HRC.out.below HB2.out).open_ 1; have r2o2 := (HRC.out.below HB2.out).open_ 2))
    (try simp only [Exit.inBlock, Exit.then])
    refine bodyPost_ret (v := .tuple #[.agg #[.int .i64 zk, .int .i64 zn, .string (txt zs)], .int .i64 zf]) (ret_v rfl rfl (three_set (HRC.out.below HB2.out)) rfl) rfl ?_
    exact ⟨by rfl, below_three (Mem.on HBV.out HB2.out) (show w.heap.size ≤ w.heap.size + 1 by omega)⟩
  · have t0 := bne_yes hq0
    rw [HEV.out, if_pos hq0]
    clear hq0 HEV HOF
    go_enter Tryz.func12, Tryz.ntmps12
    go_wp2_with (go_at_call 41; (with_reducible refine (HCK.out _ HBV.out).mono ?_); rintro e1 w1 ⟨rfl, hb1⟩; have HB1 := Lib.hid hb1; clear hb1; have r10 := (HRC.out.below HB1.out).at_ 0; have r11 := (HRC.out.below HB1.out).at_ 1; have r12 := (HRC.out.below HB1.out).at_ 2; have r1o0 := (HRC.out.below HB1.out).open_ 0; have r1o1 := (HRC.out.below HB1.out).open_ 1; have r1o2 := (HRC.out.below HB1.out).open_ 2; have y10 := (HEC.out.below HB1.out).at_ 0; have y11 := (HEC.out.below HB1.out).at_ 1; have y12 := (HEC.out.below HB1.out).at_ 2; have y13 := (HEC.out.below HB1.out).at_ 3; have y14 := (HEC.out.below HB1.out).at_ 4; have y15 := (HEC.out.below HB1.out).at_ 5; have y16 := (HEC.out.below HB1.out).at_ 6)
    (try simp only [Exit.inBlock, Exit.then])
    refine bodyPost_ret (v := .tuple #[.agg #[.int .i64 0, .int .i64 0, .string ⟨#[]⟩], .int .i64 q]) (ret_v rfl rfl (three_set (HRC.out.below HB1.out)) rfl) rfl ?_
    exact ⟨by rfl, below_three (Mem.on HBV.out HB1.out) (show w.heap.size ≤ w.heap.size + 1 by omega)⟩
/-- Whether a condition holds. -/
def holdsT (g : GS) (e : Ex) : Bool × Int := if (evalT g e).2 ≠ 0 then (false, (evalT g e).2) else ((ofV (evalT g e).1).1 == 1, (ofV (evalT g e).1).2)
def HoE (w : World) (R : Bool × Int) (e : Ending) (w' : World) : Prop := e = .returned (.tuple #[.bool R.1, .int .i64 R.2]) ∧ Below w.heap.size w w'
set_option maxRecDepth 20000 in
set_option maxHeartbeats 1000000 in
theorem refHolds_of {w : World} {g : GS} {e : Ex} {k o vk vn : Int} {vs nm : List UInt8} {A : Option Addr} {n c : Nat} (hE : ∀ W, Below w.heap.size w W → Calls Tryz.prog 12 #[.agg #[.int .i64 k, .int .i64 o, .int .i64 vk, .int .i64 vn, .string (txt vs), .string (txt nm), .slice A n c], .slice g.A1 g.n1 g.c1, .slice g.A2 g.n2 g.c2] W (ValE W (evalT g e))) :
    Calls Tryz.prog 14 #[.agg #[.int .i64 k, .int .i64 o, .int .i64 vk, .int .i64 vn, .string (txt vs), .string (txt nm), .slice A n c], .slice g.A1 g.n1 g.c1, .slice g.A2 g.n2 g.c2] w (HoE w (holdsT g e)) := by
  unfold holdsT
  obtain ⟨⟨⟨xk, xn, xs⟩, xf⟩, hX⟩ : ∃ R, evalT g e = R := ⟨_, rfl⟩
  rw [hX] at hE ⊢
  clear hX
  obtain ⟨V, hV⟩ : ∃ V, w.alloc (.cells #[.int .i64 k, .int .i64 o, .int .i64 vk, .int .i64 vn, .string (txt vs), .string (txt nm), .slice A n c] 26) = V := ⟨_, rfl⟩
  have HBV := Lib.hid (show Below w.heap.size w V from by rw [← hV]; exact al (Below.refl _ _) _)
  have HEC := Lib.hid (show Cel V (w.heap.size) 26 #[.int .i64 k, .int .i64 o, .int .i64 vk, .int .i64 vn, .string (txt vs), .string (txt nm), .slice A n c] from by rw [← hV]; exact (Cel.new w _ _ rfl))
  have HE := Lib.hid (show ∀ W, Below V.heap.size V W → _ from fun W hW => hE W (Mem.on HBV.out hW))
  clear hE
  have y0 := HEC.out.at_ 0
  have y1 := HEC.out.at_ 1
  have y2 := HEC.out.at_ 2
  have y3 := HEC.out.at_ 3
  have y4 := HEC.out.at_ 4
  have y5 := HEC.out.at_ 5
  have y6 := HEC.out.at_ 6
  by_cases hf : xf = 0
  · subst hf
    rw [if_neg (by simp)]
    have HT := Lib.hid (show ∀ W, _ from of_isR ⟨xk, xn, xs⟩)
    obtain ⟨⟨t, tf⟩, hT⟩ : ∃ R, ofV ⟨xk, xn, xs⟩ = R := ⟨_, rfl⟩
    rw [hT] at HT
    show Calls _ _ _ _ (HoE w ((ofV ⟨xk, xn, xs⟩).1 == 1, (ofV ⟨xk, xn, xs⟩).2))
    rw [hT]
    clear hT
    go_enter Tryz.func14, Tryz.ntmps14
    go_wp2_with (first | (go_at_call 12; (with_reducible refine (HE.out _ (Below.refl _ _)).mono ?_); rintro e1 w1 ⟨rfl, hb1⟩; have HB1 := Lib.hid hb1; clear hb1) | (go_at_call 44; (with_reducible refine (HT.out _).mono ?_); rintro e2 w2 ⟨rfl, hb2⟩; have HB2 := Lib.hid (Mem.on (al HB1.out (.cells #[.int .i64 xk, .int .i64 xn, .string (txt xs)] 23)) hb2); clear hb2))
    go_ret2
    exact ⟨rfl, Mem.on HBV.out HB2.out⟩
  · have t1 := bne_yes hf
    rw [if_pos hf]
    clear hf
    go_enter Tryz.func14, Tryz.ntmps14
    go_wp2_with (go_at_call 12; (with_reducible refine (HE.out _ (Below.refl _ _)).mono ?_); rintro e1 w1 ⟨rfl, hb1⟩; have HB1 := Lib.hid hb1; clear hb1)
    go_ret2
    exact ⟨rfl, Mem.on HBV.out (al HB1.out _)⟩
set_option maxRecDepth 20000 in
set_option maxHeartbeats 1000000 in
theorem holds_of {w : World} {g : GS} {e : Ex} {k o vk vn : Int} {vs nm : List UInt8} {A : Option Addr} {n c : Nat} (hE : ∀ W, Below w.heap.size w W → Calls Tryz.prog 11 #[.agg #[.int .i64 k, .int .i64 o, .int .i64 vk, .int .i64 vn, .string (txt vs), .string (txt nm), .slice A n c], .slice g.A1 g.n1 g.c1, .slice g.A2 g.n2 g.c2] W (ValE W (evalT g e))) :
    Calls Tryz.prog 13 #[.agg #[.int .i64 k, .int .i64 o, .int .i64 vk, .int .i64 vn, .string (txt vs), .string (txt nm), .slice A n c], .slice g.A1 g.n1 g.c1, .slice g.A2 g.n2 g.c2] w (HoE w (holdsT g e)) := by
  unfold holdsT
  obtain ⟨⟨⟨xk, xn, xs⟩, xf⟩, hX⟩ : ∃ R, evalT g e = R := ⟨_, rfl⟩
  rw [hX] at hE ⊢
  clear hX
  obtain ⟨V, hV⟩ : ∃ V, w.alloc (.cells #[.int .i64 k, .int .i64 o, .int .i64 vk, .int .i64 vn, .string (txt vs), .string (txt nm), .slice A n c] 26) = V := ⟨_, rfl⟩
  have HBV := Lib.hid (show Below w.heap.size w V from by rw [← hV]; exact al (Below.refl _ _) _)
  have HEC := Lib.hid (show Cel V (w.heap.size) 26 #[.int .i64 k, .int .i64 o, .int .i64 vk, .int .i64 vn, .string (txt vs), .string (txt nm), .slice A n c] from by rw [← hV]; exact (Cel.new w _ _ rfl))
  have HE := Lib.hid (show ∀ W, Below V.heap.size V W → _ from fun W hW => hE W (Mem.on HBV.out hW))
  clear hE
  have y0 := HEC.out.at_ 0
  have y1 := HEC.out.at_ 1
  have y2 := HEC.out.at_ 2
  have y3 := HEC.out.at_ 3
  have y4 := HEC.out.at_ 4
  have y5 := HEC.out.at_ 5
  have y6 := HEC.out.at_ 6
  by_cases hf : xf = 0
  · subst hf
    rw [if_neg (by simp)]
    have HT := Lib.hid (show ∀ W, _ from of_is ⟨xk, xn, xs⟩)
    obtain ⟨⟨t, tf⟩, hT⟩ : ∃ R, ofV ⟨xk, xn, xs⟩ = R := ⟨_, rfl⟩
    rw [hT] at HT
    show Calls _ _ _ _ (HoE w ((ofV ⟨xk, xn, xs⟩).1 == 1, (ofV ⟨xk, xn, xs⟩).2))
    rw [hT]
    clear hT
    go_enter Tryz.func13, Tryz.ntmps13
    go_wp2_with (first | (go_at_call 11; (with_reducible refine (HE.out _ (Below.refl _ _)).mono ?_); rintro e1 w1 ⟨rfl, hb1⟩; have HB1 := Lib.hid hb1; clear hb1) | (go_at_call 43; (with_reducible refine (HT.out _).mono ?_); rintro e2 w2 ⟨rfl, hb2⟩; have HB2 := Lib.hid (Mem.on (al HB1.out (.cells #[.int .i64 xk, .int .i64 xn, .string (txt xs)] 23)) hb2); clear hb2))
    go_ret2
    exact ⟨rfl, Mem.on HBV.out HB2.out⟩
  · have t1 := bne_yes hf
    rw [if_pos hf]
    clear hf
    go_enter Tryz.func13, Tryz.ntmps13
    go_wp2_with (go_at_call 11; (with_reducible refine (HE.out _ (Below.refl _ _)).mono ?_); rintro e1 w1 ⟨rfl, hb1⟩; have HB1 := Lib.hid hb1; clear hb1)
    go_ret2
    exact ⟨rfl, Mem.on HBV.out (al HB1.out _)⟩
end Go.Proofs.YtciclpbbegkpcaaGreatDoor.Eo
