/- A value as an expression, in memory of its own: eval.written. -/
import Derived.Test.YtbdippgamlknbaaGreatDoorKs31
import Derived.Test.YtbdippgamlknbaaGreatDoorKs21
namespace Go.Proofs.YtbdippgamlknbaaGreatDoor.Eo
open Go.RowKit Go.Proofs.YtbdippgamlknbaaGreatDoor.Mem Go.Proofs.YtbdippgamlknbaaGreatDoor.Right Go.Proofs.YtbdippgamlknbaaGreatDoor.Lx Go.Proofs.YtbdippgamlknbaaGreatDoor.Ep Go.Proofs.YtbdippgamlknbaaGreatDoor.Ev
set_option linter.unusedVariables false
set_option linter.unusedSimpArgs false
/-- What a call leaves that makes a tree. -/
def TreE (w : World) (x : Ex) (e : Ending) (w' : World) : Prop := ∃ k o vk vn vs nm A n c, e = .returned (.agg #[.int .i64 k, .int .i64 o, .int .i64 vk, .int .i64 vn, .string (txt vs), .string (txt nm), .slice A n c]) ∧ ExIn w' (fun b => w.heap.size ≤ b ∧ b < w'.heap.size) x [.int .i64 k, .int .i64 o, .int .i64 vk, .int .i64 vn, .string (txt vs), .string (txt nm), .slice A n c] ∧ Below w.heap.size w w'
theorem one_kid {w : World} {S : Nat → Prop} {g : Nat} {t : TypeId} {a : Ex} {ca : List Value} (h : Cel w g t ca.toArray) (hg : S g) (h1 : ExIn w S a ca) : KidsIn w S (some ⟨g, 0, none⟩) 0 [a] := by
  have l1 := h1.len
  refine (kidsIn_cons _ _ _ _ _ _).2 ⟨⟨g, 0, ca, rfl, hg, l1, fun i u hu => ?_, h1⟩, kidsIn_nil _ _ _ _⟩
  have hi := (List.getElem?_eq_some_iff.1 hu).1
  have := h.at_ (0 + 0 * 7 + i)
  rw [this, List.getElem?_toArray, Nat.zero_mul, Nat.add_zero, Nat.zero_add]
  exact hu
theorem in_on {w w' : World} {B B' : Nat} {x : Ex} {cs : List Value} (h : ExIn w (fun b => B' ≤ b ∧ b < w.heap.size) x cs) (hb : Below w.heap.size w w') (hB : B ≤ B') : ExIn w' (fun b => B ≤ b ∧ b < w'.heap.size) x cs :=
  ExIn.to (fun b hb' => ⟨by omega, Nat.lt_of_lt_of_le hb'.2 hb.size⟩) (fun p hp => hb.cell hp.2) x cs h
theorem lit_in {w : World} {S : Nat → Prop} (k n : Int) (s : List UInt8) : ExIn w S (lit k n s) [.int .i64 1, .int .i64 0, .int .i64 k, .int .i64 n, .string (txt s), .string (txt []), .slice none 0 0] :=
  (exIn_mk _ _ _ _ _ _ _ _ _ _).2 ⟨none, 0, rfl, Nat.le_refl _, Nat.zero_le _, fun _ => rfl, kidsIn_nil _ _ _ _⟩
theorem un_in {w : World} {S : Nat → Prop} {g : Nat} {t : TypeId} {o : Int} {a : Ex} {ca : List Value} (h : Cel w g t ca.toArray) (hg : S g) (h1 : ExIn w S a ca) : ExIn w S (un o a) [.int .i64 4, .int .i64 o, .int .i64 0, .int .i64 0, .string (txt []), .string (txt []), .slice (some ⟨g, 0, none⟩) 1 1] :=
  (exIn_mk _ _ _ _ _ _ _ _ _ _).2 ⟨_, 1, rfl, Nat.le_refl _, (by unfold maxLen; decide), (fun e => by cases e), one_kid h hg h1⟩
/-- Results: a struct in a box. -/
theorem res_cell_one {P : Program} {fn : Func} {p : Tmp} {ty : TypeId} (h : fn.results = #[.cell p ty]) (tmps : Array Value) (w : World) (g : Nat) (cs : List Value) (d : TypeDesc)
    (hp : tmps.getD p undef = .pointer (some ⟨g, 0, none⟩)) (hc : Cel w g ty cs.toArray) (hu : P.underlying ty = some d) (hd : d.isRow = true) (hi : (P.info? ty).map (·.size) = some cs.length) :
    (results fn tmps).run P w = .ok (.agg cs.toArray) w := by
  rw [results_one h, hp]
  have hr := run_loadVar_mid (P := P) w g 0 ty cs d (fun i v hv => by rw [Nat.zero_add, hc.at_ i]; simpa using hv) hu hd hi
  show ((loadVar ty ⟨g, 0, none⟩).run P w) = _
  rw [hr]
theorem ret_x {fn : Func} {p : Tmp} (h : fn.results = #[.cell p 26]) {tmps : Array Value} {W : World} {g : Nat} {c0 c1 c2 c3 c4 c5 c6 : Value} (hp : tmps.getD p undef = .pointer (some ⟨g, 0, none⟩)) (hc : Cel W g 26 #[c0, c1, c2, c3, c4, c5, c6]) :
    (results fn tmps).run Tryz.prog W = .ok (.agg #[c0, c1, c2, c3, c4, c5, c6]) W := res_cell_one (P := Tryz.prog) h tmps W g [c0, c1, c2, c3, c4, c5, c6] _ hp hc Tryz.underlying26 rfl (by kernel_rfl)
def set7 (W : World) (g : Nat) (x0 x1 x2 x3 x4 x5 x6 : Value) : World := ((((((W.setCell ⟨g, 0, none⟩ x0).setCell ⟨g, 1, none⟩ x1).setCell ⟨g, 2, none⟩ x2).setCell ⟨g, 3, none⟩ x3).setCell ⟨g, 4, none⟩ x4).setCell ⟨g, 5, none⟩ x5).setCell ⟨g, 6, none⟩ x6
section
variable {W : World} {g : Nat} {t : TypeId} {a0 a1 a2 a3 a4 a5 a6 x0 x1 x2 x3 x4 x5 x6 : Value}
theorem seven_set (h : Cel W g t #[a0, a1, a2, a3, a4, a5, a6]) : Cel (set7 W g x0 x1 x2 x3 x4 x5 x6) g t #[x0, x1, x2, x3, x4, x5, x6] := by
  have := ((((((h.set 0 x0).set 1 x1).set 2 x2).set 3 x3).set 4 x4).set 5 x5).set 6 x6
  simpa [set7] using this
theorem below_seven {B : Nat} {w : World} (h : Below B w W) (hg : B ≤ g) : Below B w (set7 W g x0 x1 x2 x3 x4 x5 x6) :=
  ((((((h.setCell (p := ⟨g, 0, none⟩) hg x0).setCell (p := ⟨g, 1, none⟩) hg x1).setCell (p := ⟨g, 2, none⟩) hg x2).setCell (p := ⟨g, 3, none⟩) hg x3).setCell (p := ⟨g, 4, none⟩) hg x4).setCell (p := ⟨g, 5, none⟩) hg x5).setCell (p := ⟨g, 6, none⟩) hg x6
theorem seven_oth {b : Nat} (hb : b ≠ g) : (set7 W g x0 x1 x2 x3 x4 x5 x6).heap[b]? = W.heap[b]? := put7_oth (q := 0) hb
theorem seven_size : (set7 W g x0 x1 x2 x3 x4 x5 x6).heap.size = W.heap.size := put7_size (q := 0)
end
theorem in_seven {W : World} {g B : Nat} {x0 x1 x2 x3 x4 x5 x6 : Value} {x : Ex} {cs : List Value} (h : ExIn W (fun b => g < b ∧ b < W.heap.size) x cs) (hB : B ≤ g) : ExIn (set7 W g x0 x1 x2 x3 x4 x5 x6) (fun b => B ≤ b ∧ b < (set7 W g x0 x1 x2 x3 x4 x5 x6).heap.size) x cs :=
  ExIn.to (fun b hb => ⟨by omega, by rw [seven_size]; exact hb.2⟩) (fun q hq => by unfold World.cell?; rw [seven_oth (by omega)]) x cs h
set_option maxRecDepth 20000 in
set_option maxHeartbeats 1000000 in
theorem wr_plain (v : Vv) (h : v.k ≠ 1 ∨ 0 ≤ v.n) (w : World) : Calls Tryz.prog 72 #[vV v] w (TreE w (lit v.k v.n v.s)) := by
  obtain ⟨k, n, s⟩ := v
  replace h : k ≠ 1 ∨ 0 ≤ n := h
  show Calls _ _ _ _ (TreE w (lit k n s))
  by_cases h1 : k = 1
  · subst h1
    have t1 : decide (0 ≤ n) = true := decide_eq_true (by omega)
    clear h
    go_enter Tryz.func72, Tryz.ntmps72
    go_wp2
    (try simp only [Exit.inBlock, Exit.then])
    refine bodyPost_ret (v := .agg #[.int .i64 1, .int .i64 0, .int .i64 1, .int .i64 n, .string (txt s), .string ⟨#[]⟩, .slice none 0 0]) (by simp [results, Tryz.results72, go_sem]) rfl ?_
    exact ⟨1, 0, 1, n, s, [], none, 0, 0, rfl, lit_in 1 n s, al (al (Below.refl _ _) _) _⟩
  · have t1 := bne_yes h1
    clear h h1
    go_enter Tryz.func72, Tryz.ntmps72
    go_wp2
    (try simp only [Exit.inBlock, Exit.then])
    refine bodyPost_ret (v := .agg #[.int .i64 1, .int .i64 0, .int .i64 k, .int .i64 n, .string (txt s), .string ⟨#[]⟩, .slice none 0 0]) (by simp [results, Tryz.results72, go_sem]) rfl ?_
    exact ⟨1, 0, k, n, s, [], none, 0, 0, rfl, lit_in k n s, al (al (Below.refl _ _) _) _⟩
set_option maxRecDepth 20000 in
set_option maxHeartbeats 1000000 in
theorem wr_neg (n : Int) (s : List UInt8) (h : n < 0) (h2 : -9223372036854775808 < n) (w : World) : Calls Tryz.prog 72 #[vV ⟨1, n, s⟩] w (TreE w (un 1 (lit 1 (-n) []))) := by
  have hf := (Num.fits_iff (-n)).2 ⟨by omega, by omega⟩
  have e1 : Num.rv (-n) = -n := by unfold Num.rv; rw [if_pos hf]
  have e2 : Num.re (-n) = 0 := by unfold Num.re; rw [if_pos hf]
  have HBK := Lib.hid (show ∀ W, _ from Num.back_any n (by omega) (by omega))
  rw [e1, e2] at HBK
  have HWH := Lib.hid (show ∀ W : World, Calls Tryz.prog 141 #[.int .i64 (-n)] W fun e w' => e = .returned (.agg #[.int .i64 1, .int .i64 (-n), .string ⟨#[]⟩]) ∧ Below W.heap.size W w' from whole_any (-n))
  have HWR := Lib.hid (show ∀ W, Calls Tryz.prog 72 #[.agg #[.int .i64 1, .int .i64 (-n), .string ⟨#[]⟩]] W (TreE W (lit 1 (-n) [])) from fun W => wr_plain ⟨1, -n, []⟩ (.inr (by show 0 ≤ -n; omega)) W)
  have t1 : decide (0 ≤ n) = false := decide_eq_false (by omega)
  obtain ⟨V, hV⟩ : ∃ V, (w.alloc (.cells #[.int .i64 1, .int .i64 n, .string (txt s)] 23)).alloc (.cells #[.int .i64 0, .int .i64 0, .int .i64 0, .int .i64 0, .string ⟨#[]⟩, .string ⟨#[]⟩, .slice none 0 0] 26) = V := ⟨_, rfl⟩
  have HBV := Lib.hid (show Below w.heap.size w V from by rw [← hV]; exact al (al (Below.refl _ _) _) _)
  have HAC := Lib.hid (show Cel V w.heap.size 23 #[.int .i64 1, .int .i64 n, .string (txt s)] from by rw [← hV]; exact (Cel.new w _ _ rfl).alloc _)
  have HRC := Lib.hid (show Cel V (w.heap.size + 1) 26 #[.int .i64 0, .int .i64 0, .int .i64 0, .int .i64 0, .string ⟨#[]⟩, .string ⟨#[]⟩, .slice none 0 0] from by rw [← hV]; exact Cel.new (w.alloc _) _ _ (by simp))
  have HSV := Lib.hid (show V.heap.size = w.heap.size + 2 from by rw [← hV]; simp)
  have a0 := HAC.out.at_ 0
  have a1 := HAC.out.at_ 1
  have a2 := HAC.out.at_ 2
  clear e1 e2 hf h h2
  go_enter Tryz.func72, Tryz.ntmps72
  go_wp2_with (first | (go_at_call 140; (with_reducible refine (HBK.out _).mono ?_); rintro e1 w1 ⟨rfl, rfl⟩) | (go_at_call 141; (with_reducible refine (HWH.out _).mono ?_); rintro e2 w2 ⟨rfl, hb2⟩; have HB2 := Lib.hid hb2; clear hb2) | (go_at_call 72; (with_reducible refine (HWR.out _).mono ?_); rintro e3 w3 ⟨k', o', vk', vn', vs', nm', A', n', c', rfl, hin, hb3⟩; have HB3 := Lib.hid (Mem.on HB2.out hb3); have HIN := Lib.hid hin; have HSZ := Lib.hid HB2.out.size; clear hin hb3; have HB4 := Lib.hid (al HB3.out (.cells #[.int .i64 k', .int .i64 o', .int .i64 vk', .int .i64 vn', .string (txt vs'), .string (txt nm'), .slice A' n' c'] 26)); have HQ := Lib.hid (Cel.new w3 26 #[.int .i64 k', .int .i64 o', .int .i64 vk', .int .i64 vn', .string (txt vs'), .string (txt nm'), .slice A' n' c'] rfl); have r0 := (HRC.out.below HB4.out).at_ 0; have r1 := (HRC.out.below HB4.out).at_ 1; have r2 := (HRC.out.below HB4.out).at_ 2; have r3 := (HRC.out.below HB4.out).at_ 3; have r4 := (HRC.out.below HB4.out).at_ 4; have r5 := (HRC.out.below HB4.out).at_ 5; have r6 := (HRC.out.below HB4.out).at_ 6; have ro0 := (HRC.out.below HB4.out).open_ 0; have ro1 := (HRC.out.below HB4.out).open_ 1; have ro2 := (HRC.out.below HB4.out).open_ 2; have ro3 := (HRC.out.below HB4.out).open_ 3; have ro4 := (HRC.out.below HB4.out).open_ 4; have ro5 := (HRC.out.below HB4.out).open_ 5; have ro6 := (HRC.out.below HB4.out).open_ 6))
  (try simp only [Exit.inBlock, Exit.then])
  refine bodyPost_ret (v := .agg #[.int .i64 4, .int .i64 1, .int .i64 0, .int .i64 0, .string ⟨#[]⟩, .string ⟨#[]⟩, .slice (some ⟨w3.heap.size, 0, none⟩) 1 1]) (ret_x rfl rfl (seven_set (HRC.out.below HB4.out))) rfl ?_
  have hw3 : V.heap.size ≤ w3.heap.size := HB3.out.size
  refine ⟨4, 1, 0, 0, [], [], some ⟨w3.heap.size, 0, none⟩, 1, 1, rfl, in_seven ?_ (show w.heap.size ≤ w.heap.size + 1 by omega), below_seven (Mem.on HBV.out HB4.out) (show w.heap.size ≤ w.heap.size + 1 by omega)⟩
  refine un_in (t := 26) HQ.out ⟨by have := HSV.out; omega, HQ.out.lt⟩ ?_
  exact ExIn.to (fun b hb => ⟨by have := HSV.out; have := HSZ.out; omega, Nat.lt_of_lt_of_le hb.2 (al (Below.refl _ _) _).size⟩) (fun q hq => (al (Below.refl w3.heap.size w3) _).cell hq.2) _ _ HIN.out
set_option maxRecDepth 20000 in
set_option maxHeartbeats 2000000 in
theorem wr_least (s : List UInt8) (w : World) : Calls Tryz.prog 72 #[vV ⟨1, -9223372036854775808, s⟩] w (TreE w (bin 10 (un 1 (lit 1 9223372036854775807 [])) (lit 1 1 []))) := by
  have HBK := Lib.hid (show ∀ W, _ from Num.back_any (-9223372036854775808) (by omega) (by omega))
  rw [show Num.rv (-(-9223372036854775808)) = 0 from by decide, show Num.re (-(-9223372036854775808)) = 10 from by decide] at HBK
  have HW1 := Lib.hid (show ∀ W : World, Calls Tryz.prog 141 #[.int .i64 (-9223372036854775807)] W fun e w' => e = .returned (.agg #[.int .i64 1, .int .i64 (-9223372036854775807), .string ⟨#[]⟩]) ∧ Below W.heap.size W w' from whole_any _)
  have HW2 := Lib.hid (show ∀ W : World, Calls Tryz.prog 141 #[.int .i64 1] W fun e w' => e = .returned (.agg #[.int .i64 1, .int .i64 1, .string ⟨#[]⟩]) ∧ Below W.heap.size W w' from whole_any _)
  have HR1 := Lib.hid (show ∀ W, Calls Tryz.prog 72 #[.agg #[.int .i64 1, .int .i64 (-9223372036854775807), .string ⟨#[]⟩]] W (TreE W (un 1 (lit 1 9223372036854775807 []))) from fun W => wr_neg (-9223372036854775807) [] (by decide) (by decide) W)
  have HR2 := Lib.hid (show ∀ W, Calls Tryz.prog 72 #[.agg #[.int .i64 1, .int .i64 1, .string ⟨#[]⟩]] W (TreE W (lit 1 1 [])) from fun W => wr_plain ⟨1, 1, []⟩ (.inr (by decide)) W)
  obtain ⟨V, hV⟩ : ∃ V, (w.alloc (.cells #[.int .i64 1, .int .i64 (-9223372036854775808), .string (txt s)] 23)).alloc (.cells #[.int .i64 0, .int .i64 0, .int .i64 0, .int .i64 0, .string ⟨#[]⟩, .string ⟨#[]⟩, .slice none 0 0] 26) = V := ⟨_, rfl⟩
  have HBV := Lib.hid (show Below w.heap.size w V from by rw [← hV]; exact al (al (Below.refl _ _) _) _)
  have HAC := Lib.hid (show Cel V w.heap.size 23 #[.int .i64 1, .int .i64 (-9223372036854775808), .string (txt s)] from by rw [← hV]; exact (Cel.new w _ _ rfl).alloc _)
  have HRC := Lib.hid (show Cel V (w.heap.size + 1) 26 #[.int .i64 0, .int .i64 0, .int .i64 0, .int .i64 0, .string ⟨#[]⟩, .string ⟨#[]⟩, .slice none 0 0] from by rw [← hV]; exact Cel.new (w.alloc _) _ _ (by simp))
  have HSV := Lib.hid (show V.heap.size = w.heap.size + 2 from by rw [← hV]; simp)
  have a0 := HAC.out.at_ 0
  have a1 := HAC.out.at_ 1
  have a2 := HAC.out.at_ 2
  go_enter Tryz.func72, Tryz.ntmps72
  go_wp2_with (first | (go_at_call 140; (with_reducible refine (HBK.out _).mono ?_); rintro e1 w1 ⟨rfl, rfl⟩) | (go_at_call 141; (with_reducible refine (HW1.out _).mono ?_); rintro e2 w2 ⟨rfl, hb2⟩; have HB2 := Lib.hid hb2; clear hb2) | (go_at_call 72; (with_reducible refine (HR1.out _).mono ?_); rintro e3 w3 ⟨k', o', vk', vn', vs', nm', A', n', c', rfl, hin, hb3⟩; have HB3 := Lib.hid (Mem.on HB2.out hb3); have HIN := Lib.hid hin; have HSZ := Lib.hid HB2.out.size; clear hin hb3) | (go_at_call 141; (with_reducible refine (HW2.out _).mono ?_); rintro e4 w4 ⟨rfl, hb4⟩; have HL4 := Lib.hid hb4; have HB4 := Lib.hid (Mem.on HB3.out hb4); clear hb4) | (go_at_call 72; (with_reducible refine (HR2.out _).mono ?_); rintro e5 w5 ⟨l', p', wk', wn', ws', om', B', m', d', rfl, hin, hb5⟩; have HL5 := Lib.hid (Mem.on HL4.out hb5); have HB5 := Lib.hid (Mem.on HB4.out hb5); have HIN2 := Lib.hid hin; have HSZ2 := Lib.hid HB4.out.size; clear hin hb5; have HB6 := Lib.hid (al HB5.out (.cells #[.int .i64 k', .int .i64 o', .int .i64 vk', .int .i64 vn', .string (txt vs'), .string (txt nm'), .slice A' n' c', .int .i64 l', .int .i64 p', .int .i64 wk', .int .i64 wn', .string (txt ws'), .string (txt om'), .slice B' m' d'] 26)); have HQ := Lib.hid (Cel.new w5 26 #[.int .i64 k', .int .i64 o', .int .i64 vk', .int .i64 vn', .string (txt vs'), .string (txt nm'), .slice A' n' c', .int .i64 l', .int .i64 p', .int .i64 wk', .int .i64 wn', .string (txt ws'), .string (txt om'), .slice B' m' d'] rfl); have r0 := (HRC.out.below HB6.out).at_ 0; have r1 := (HRC.out.below HB6.out).at_ 1; have r2 := (HRC.out.below HB6.out).at_ 2; have r3 := (HRC.out.below HB6.out).at_ 3; have r4 := (HRC.out.below HB6.out).at_ 4; have r5 := (HRC.out.below HB6.out).at_ 5; have r6 := (HRC.out.below HB6.out).at_ 6; have ro0 := (HRC.out.below HB6.out).open_ 0; have ro1 := (HRC.out.below HB6.out).open_ 1; have ro2 := (HRC.out.below HB6.out).open_ 2; have ro3 := (HRC.out.below HB6.out).open_ 3; have ro4 := (HRC.out.below HB6.out).open_ 4; have ro5 := (HRC.out.below HB6.out).open_ 5; have ro6 := (HRC.out.below HB6.out).open_ 6))
  (try simp only [Exit.inBlock, Exit.then])
  refine bodyPost_ret (v := .agg #[.int .i64 5, .int .i64 10, .int .i64 0, .int .i64 0, .string ⟨#[]⟩, .string ⟨#[]⟩, .slice (some ⟨w5.heap.size, 0, none⟩) 2 2]) (ret_x rfl rfl (seven_set (HRC.out.below HB6.out))) rfl ?_
  have hw5 : V.heap.size ≤ w5.heap.size := HB5.out.size
  refine ⟨5, 10, 0, 0, [], [], some ⟨w5.heap.size, 0, none⟩, 2, 2, rfl, in_seven ?_ (show w.heap.size ≤ w.heap.size + 1 by omega), below_seven (Mem.on HBV.out HB6.out) (show w.heap.size ≤ w.heap.size + 1 by omega)⟩
  refine bi_in (t := 26) (ca := [.int .i64 k', .int .i64 o', .int .i64 vk', .int .i64 vn', .string (txt vs'), .string (txt nm'), .slice A' n' c']) (cc := [.int .i64 l', .int .i64 p', .int .i64 wk', .int .i64 wn', .string (txt ws'), .string (txt om'), .slice B' m' d']) HQ.out ⟨by have := HSV.out; omega, HQ.out.lt⟩ ?_ ?_
  · exact ExIn.to (fun b hb => ⟨by have := HSV.out; have := HSZ.out; omega, Nat.lt_of_lt_of_le hb.2 (Nat.le_trans HL5.out.size (al (Below.refl _ _) _).size)⟩) (fun q hq => (al HL5.out _).cell hq.2) _ _ HIN.out
  · exact ExIn.to (fun b hb => ⟨by have := HSV.out; have := HSZ2.out; omega, Nat.lt_of_lt_of_le hb.2 (al (Below.refl _ _) _).size⟩) (fun q hq => (al (Below.refl w5.heap.size w5) _).cell hq.2) _ _ HIN2.out
/-- Any value as an expression. -/
theorem wr_any (v : Vv) (h : -9223372036854775808 ≤ v.n) (w : World) : Calls Tryz.prog 72 #[vV v] w (TreE w (litX v)) := by
  unfold litX
  by_cases c : v.k ≠ 1 ∨ 0 ≤ v.n
  · rw [if_pos c]; exact wr_plain v c w
  · rw [if_neg c]
    obtain ⟨k, n, s⟩ := v
    replace c : ¬ (k ≠ 1 ∨ 0 ≤ n) := c
    replace h : -9223372036854775808 ≤ n := h
    obtain rfl : k = 1 := by omega
    show Calls _ _ _ _ (TreE w (if n = -9223372036854775808 then bin 10 (un 1 (lit 1 9223372036854775807 [])) (lit 1 1 []) else un 1 (lit 1 (-n) [])))
    by_cases d : n = -9223372036854775808
    · subst d; rw [if_pos rfl]; exact wr_least s w
    · rw [if_neg d]; exact wr_neg n s (by omega) (by omega) w
end Go.Proofs.YtbdippgamlknbaaGreatDoor.Eo
