/- What value.Compare answers. Values and their errors, small calls: a place's value, what is told of a truth, what a rul -/
import Derived.Test.YtbdippgamlknbaaGreatDoorKs07
import Derived.Test.YtbdippgamlknbaaGreatDoorKs03
import Derived.Test.YtbdippgamlknbaaGreatDoorKs06
namespace Go.Proofs.YtbdippgamlknbaaGreatDoor.Val
open Go.RowKit Go.Proofs.YtbdippgamlknbaaGreatDoor.Mem
set_option linter.unusedVariables false
/-- No sign, or no kind. -/
def outB (op k1 k2 : Int) : Bool := decide (op < 3) || decide (8 < op) || !(knownB k1) || !(knownB k2)
def nullB (k1 k2 : Int) : Bool := k1 == 0 || k2 == 0
/-- Whether two values stand so, and the error. -/
def cmpT (op k1 k2 o : Int) : Int := if outB op k1 k2 then 0 else if nullB k1 k2 then 2 else if k1 = k2 then (if holdsB op o then 1 else 0) else 0
def cmpE (op k1 k2 : Int) : Int := if outB op k1 k2 then 11 else if nullB k1 k2 then 0 else if k1 = k2 then 0 else 11
theorem cmp_out {op k1 k2 : Int} (o : Int) (h : outB op k1 k2 = true) : cmpT op k1 k2 o = 0 ∧ cmpE op k1 k2 = 11 := by unfold cmpT cmpE; rw [if_pos h, if_pos h]; exact ⟨rfl, rfl⟩
theorem cmp_null {op k1 k2 : Int} (o : Int) (h : outB op k1 k2 = false) (k : nullB k1 k2 = true) : cmpT op k1 k2 o = 2 ∧ cmpE op k1 k2 = 0 := by
  unfold cmpT cmpE; simp [h, k]
theorem cmp_unlike {op k1 k2 : Int} (o : Int) (h : outB op k1 k2 = false) (k : nullB k1 k2 = false) (u : ¬ k1 = k2) : cmpT op k1 k2 o = 0 ∧ cmpE op k1 k2 = 11 := by
  unfold cmpT cmpE; simp [h, k, u]
theorem cmp_like {op k1 k2 : Int} (o : Int) (h : outB op k1 k2 = false) (k : nullB k1 k2 = false) (u : k1 = k2) : cmpT op k1 k2 o = (if holdsB op o then 1 else 0) ∧ cmpE op k1 k2 = 0 := by
  subst u; unfold cmpT cmpE; simp [h, k]
theorem r2 {a b c d : Int} (h : c = a) (k : d = b) : Ending.returned (.tuple #[.int .i64 a, .int .i64 b]) = .returned (.tuple #[.int .i64 c, .int .i64 d]) := by rw [h, k]
set_option maxHeartbeats 1000000 in
theorem compare_any (op k1 n1 : Int) (s1 : ByteArray) (k2 n2 : Int) (s2 : ByteArray) (w : World) :
    Calls Tryz.prog 199 #[.int .i64 op, .agg #[.int .i64 k1, .int .i64 n1, .string s1], .agg #[.int .i64 k2, .int .i64 n2, .string s2]] w fun e w' => e = .returned (.tuple #[.int .i64 (cmpT op k1 k2 (ordV k1 n1 s1 k2 n2 s2)), .int .i64 (cmpE op k1 k2)]) ∧ Below w.heap.size w w' := by
  by_cases a1 : op < 3
  · have t1 : decide (op < 3) = true := decide_eq_true a1
    have H := Lib.hid (cmp_out (op := op) (k1 := k1) (k2 := k2) (ordV k1 n1 s1 k2 n2 s2) (by unfold outB; rw [t1]; rfl))
    clear a1
    go_enter Tryz.func199, Tryz.ntmps199
    go_wp2
    go_ret2
    exact ⟨r2 H.out.1 H.out.2, al (al (Below.refl _ _) _) _⟩
  have t1 : decide (op < 3) = false := decide_eq_false a1
  by_cases a2 : 8 < op
  · have t2 : decide (8 < op) = true := decide_eq_true a2
    have H := Lib.hid (cmp_out (op := op) (k1 := k1) (k2 := k2) (ordV k1 n1 s1 k2 n2 s2) (by unfold outB; rw [t1, t2]; rfl))
    clear a1 a2
    go_enter Tryz.func199, Tryz.ntmps199
    go_wp2
    go_ret2
    exact ⟨r2 H.out.1 H.out.2, al (al (Below.refl _ _) _) _⟩
  have t2 : decide (8 < op) = false := decide_eq_false a2
  clear a1 a2
  by_cases a3 : knownB k1 = true
  · by_cases a4 : knownB k2 = true
    · have ho : outB op k1 k2 = false := by unfold outB; rw [t1, t2, a3, a4]; rfl
      have HO := Lib.hid ho
      clear ho
      by_cases b1 : k1 = 0
      · have t3 := beq_yes b1
        have H := Lib.hid (cmp_null (ordV k1 n1 s1 k2 n2 s2) HO.out (by unfold nullB; rw [t3]; rfl))
        clear b1
        go_enter Tryz.func199, Tryz.ntmps199
        go_wp2_with (go_at_call 243; (with_reducible refine (known_any _ _).mono ?_); rintro e w' ⟨rfl, rfl⟩)
        go_ret2
        exact ⟨r2 H.out.1 H.out.2, al (al (Below.refl _ _) _) _⟩
      have t3 := beq_no b1
      clear b1
      by_cases b2 : k2 = 0
      · have t4 := beq_yes b2
        have H := Lib.hid (cmp_null (ordV k1 n1 s1 k2 n2 s2) HO.out (by unfold nullB; rw [t3, t4]; rfl))
        clear b2
        go_enter Tryz.func199, Tryz.ntmps199
        go_wp2_with (go_at_call 243; (with_reducible refine (known_any _ _).mono ?_); rintro e w' ⟨rfl, rfl⟩)
        go_ret2
        exact ⟨r2 H.out.1 H.out.2, al (al (Below.refl _ _) _) _⟩
      have t4 := beq_no b2
      clear b2
      have HN := Lib.hid (show nullB k1 k2 = false by unfold nullB; rw [t3, t4]; rfl)
      by_cases c1 : k1 = k2
      · have t5 := bne_no c1
        obtain ⟨o, ho⟩ : ∃ o, ordV k1 n1 s1 k2 n2 s2 = o := ⟨_, rfl⟩
        have H := Lib.hid (cmp_like o HO.out HN.out c1)
        rw [ho]
        have HD := Lib.hid ho
        clear c1 ho
        by_cases d : holdsB op o = true
        · have K := Lib.hid (show (if holdsB op o = true then (1 : Int) else 0) = 1 by rw [if_pos d])
          go_enter Tryz.func199, Tryz.ntmps199
          go_wp2_with (first | (go_at_call 243; (with_reducible refine (known_any _ _).mono ?_); rintro e w' ⟨rfl, rfl⟩) | (go_at_call 245; (with_reducible refine (order_any _ _ _ _ _ _ _).mono ?_); rw [HD.out]; rintro e w1 ⟨rfl, hb⟩) | (go_at_call 244; (with_reducible refine (holds_any _ _ _).mono ?_); rintro e w' ⟨rfl, rfl⟩))
          go_ret2
          exact ⟨r2 (H.out.1.trans K.out) H.out.2, on (al (al (Below.refl _ _) _) _) hb⟩
        · have d' : holdsB op o = false := by simpa using d
          have K := Lib.hid (show (if holdsB op o = true then (1 : Int) else 0) = 0 by rw [if_neg d])
          clear d
          go_enter Tryz.func199, Tryz.ntmps199
          go_wp2_with (first | (go_at_call 243; (with_reducible refine (known_any _ _).mono ?_); rintro e w' ⟨rfl, rfl⟩) | (go_at_call 245; (with_reducible refine (order_any _ _ _ _ _ _ _).mono ?_); rw [HD.out]; rintro e w1 ⟨rfl, hb⟩) | (go_at_call 244; (with_reducible refine (holds_any _ _ _).mono ?_); rintro e w' ⟨rfl, rfl⟩))
          go_ret2
          exact ⟨r2 (H.out.1.trans K.out) H.out.2, on (al (al (Below.refl _ _) _) _) hb⟩
      · have t5 := bne_yes c1
        have H := Lib.hid (cmp_unlike (ordV k1 n1 s1 k2 n2 s2) HO.out HN.out c1)
        clear c1
        go_enter Tryz.func199, Tryz.ntmps199
        go_wp2_with (go_at_call 243; (with_reducible refine (known_any _ _).mono ?_); rintro e w' ⟨rfl, rfl⟩)
        go_ret2
        exact ⟨r2 H.out.1 H.out.2, al (al (Below.refl _ _) _) _⟩
    · have a4' : knownB k2 = false := by simpa using a4
      have H := Lib.hid (cmp_out (op := op) (k1 := k1) (k2 := k2) (ordV k1 n1 s1 k2 n2 s2) (by unfold outB; rw [a4']; simp))
      clear a4
      go_enter Tryz.func199, Tryz.ntmps199
      go_wp2_with (go_at_call 243; (with_reducible refine (known_any _ _).mono ?_); rintro e w' ⟨rfl, rfl⟩)
      go_ret2
      exact ⟨r2 H.out.1 H.out.2, al (al (Below.refl _ _) _) _⟩
  · have a3' : knownB k1 = false := by simpa using a3
    have H := Lib.hid (cmp_out (op := op) (k1 := k1) (k2 := k2) (ordV k1 n1 s1 k2 n2 s2) (by unfold outB; rw [a3']; simp))
    clear a3
    go_enter Tryz.func199, Tryz.ntmps199
    go_wp2_with (go_at_call 243; (with_reducible refine (known_any _ _).mono ?_); rintro e w' ⟨rfl, rfl⟩)
    go_ret2
    exact ⟨r2 H.out.1 H.out.2, al (al (Below.refl _ _) _) _⟩
end Go.Proofs.YtbdippgamlknbaaGreatDoor.Val
namespace Go.Proofs.YtbdippgamlknbaaGreatDoor.Eo
open Go.RowKit Go.Proofs.YtbdippgamlknbaaGreatDoor.Mem Go.Proofs.YtbdippgamlknbaaGreatDoor.Right Go.Proofs.YtbdippgamlknbaaGreatDoor.Lx Go.Proofs.YtbdippgamlknbaaGreatDoor.Ep Go.Proofs.YtbdippgamlknbaaGreatDoor.Ev
set_option linter.unusedVariables false
set_option linter.unusedSimpArgs false
abbrev tVa : TypeId := 23
/-- A value, as the model has it. -/
abbrev vV (v : Vv) : Value := .agg #[.int .i64 v.k, .int .i64 v.n, .string (txt v.s)]
/-- What a call leaves that comes to a value, or an error. -/
def ValE (w : World) (R : Vv × Int) (e : Ending) (w' : World) : Prop := e = .returned (.tuple #[vV R.1, .int .i64 R.2]) ∧ Below w.heap.size w w'
/-- A value of a list. -/
def vv (v : Vl) : Vv := ⟨v.k, v.n, v.s.data.toList⟩
theorem valAt_some {vs : List Vl} {i : Nat} {v : Vl} (h : vs[i]? = some v) : valAt (vs.map vv) (i : Int) = (vv v, 0) := by
  obtain ⟨hi, rfl⟩ := List.getElem?_eq_some_iff.1 h
  unfold valAt
  rw [if_neg (by rw [List.length_map]; omega), List.getD_eq_getElem?_getD, Int.toNat_natCast, List.getElem?_map, h]
  rfl
theorem valAt_none {vs : List Vl} {i : Int} (h : (vs.length : Int) ≤ i) : valAt (vs.map vv) i = (nul, 37) := by
  unfold valAt
  rw [if_pos (by rw [List.length_map]; exact h)]
theorem three_set {W : World} {g : Nat} {t : TypeId} {a b c x y z : Value} (h : Cel W g t #[a, b, c]) : Cel (((W.setCell ⟨g, 0, none⟩ x).setCell ⟨g, 1, none⟩ y).setCell ⟨g, 2, none⟩ z) g t #[x, y, z] := ((h.set 0 x).set 1 y).set 2 z
theorem below_three {B g : Nat} {w W : World} {x y z : Value} (h : Below B w W) (hg : B ≤ g) : Below B w (((W.setCell ⟨g, 0, none⟩ x).setCell ⟨g, 1, none⟩ y).setCell ⟨g, 2, none⟩ z) :=
  ((h.setCell (p := ⟨g, 0, none⟩) hg x).setCell (p := ⟨g, 1, none⟩) hg y).setCell (p := ⟨g, 2, none⟩) hg z
/-- Results: a value in a box, and an error. -/
theorem ret_v {fn : Func} {p u : Tmp} (h : fn.results = #[.cell p tVa, .tmp u]) {tmps : Array Value} {W : World} {g : Nat} {x y z f : Value} (hp : tmps.getD p undef = .pointer (some ⟨g, 0, none⟩)) (hc : Cel W g tVa #[x, y, z]) (hv : tmps.getD u undef = f) :
    (results fn tmps).run Tryz.prog W = .ok (.tuple #[.agg #[x, y, z], f]) W := res_cell_tmp (P := Tryz.prog) h tmps W g [x, y, z] _ hp hc Tryz.underlying23 rfl (by kernel_rfl) f hv
set_option maxHeartbeats 400000 in
theorem at_any {w : World} {A : Option Addr} {n c : Nat} {vs : List Vl} (h : Vals w w.heap.size A vs) (hn : n = vs.length) (hm : n ≤ 1000000) (i : Int) (hi : 0 ≤ i) :
    Calls Tryz.prog 131 #[.slice A n c, .int .i64 i] w (ValE w (valAt (vs.map vv) i)) := by
  have HB := Lib.hid (al (Below.refl w.heap.size w) (.cells #[.int .i64 0, .int .i64 0, .string ⟨#[]⟩] tVa))
  by_cases hlt : i < n
  · obtain ⟨j, rfl⟩ : ∃ j : Nat, i = (j : Int) := ⟨i.toNat, by omega⟩
    obtain ⟨b, o, v, rfl, hb, hv, c0, c1, c2⟩ := h.at_ (k := j) (by omega)
    have HV := Lib.hid (valAt_some hv)
    have d0 := (HB.out.cell (p := ⟨b, o + j * 3, none⟩) hb).trans c0
    have d1 := (HB.out.cell (p := ⟨b, o + j * 3 + 1, none⟩) hb).trans c1
    have d2 := (HB.out.cell (p := ⟨b, o + j * 3 + 2, none⟩) hb).trans c2
    have t1 : decide ((n : Int) ≤ (j : Int)) = false := decide_eq_false (by omega)
    have hbw : ¬ b = w.heap.size := by omega
    clear h hn hv
    go_enter Tryz.func131, Tryz.ntmps131
    go_wp2
    (try simp only [Exit.inBlock, Exit.then])
    refine bodyPost_ret (v := .tuple #[.agg #[.int .i64 v.k, .int .i64 v.n, .string v.s], .int .i64 0]) (by simp [results, Tryz.results131, go_sem]) rfl ?_
    exact ⟨by rw [HV.out]; rfl, al (Below.refl _ _) _⟩
  · have HV := Lib.hid (valAt_none (vs := vs) (i := i) (by omega))
    have t1 : decide ((n : Int) ≤ i) = true := decide_eq_true (by omega)
    clear h hn
    go_enter Tryz.func131, Tryz.ntmps131
    go_wp2
    (try simp only [Exit.inBlock, Exit.then])
    refine bodyPost_ret (v := .tuple #[.agg #[.int .i64 0, .int .i64 0, .string ⟨#[]⟩], .int .i64 37]) (by simp [results, Tryz.results131, go_sem]) rfl ?_
    exact ⟨by rw [HV.out]; rfl, al (Below.refl _ _) _⟩
theorem truthOf_any (b : Bool) (w : World) : Calls Tryz.prog 197 #[.bool b] w fun e w' => e = .returned (.int .i64 (if b = true then 1 else 0)) ∧ w = w' := by
  cases b
  all_goals
    go_enter Tryz.func197, Tryz.ntmps197
    go_wp2
    go_ret
    exact ⟨rfl, rfl⟩
theorem value_tr (a : Int) (w : World) : Calls Tryz.prog 239 #[.int .i64 a] w fun e w' => e = .returned (vV (trV a)) ∧ Below w.heap.size w w' := by
  refine (Truth.value_any a w).mono ?_
  rintro e w' ⟨rfl, hb⟩
  refine ⟨?_, hb⟩
  unfold Truth.valV trV
  by_cases h0 : a = 0
  · subst h0; rfl
  by_cases h1 : a = 1
  · subst h1; rfl
  rw [if_neg h0, if_neg h1, if_neg (by omega)]; rfl
theorem told_any (t f : Int) (w : World) : Calls Tryz.prog 195 #[.int .i64 t, .int .i64 f] w (ValE w (if f ≠ 0 then (nul, f) else (trV t, 0))) := by
  by_cases h0 : f = 0
  · subst h0
    have HT := Lib.hid (value_tr t)
    rw [if_neg (by decide)]
    obtain ⟨⟨vk, vn, vs⟩, hv⟩ : ∃ v, trV t = v := ⟨_, rfl⟩
    rw [hv] at HT ⊢
    clear hv
    go_enter Tryz.func195, Tryz.ntmps195
    go_wp2_with (go_at_call 239; (with_reducible refine (HT.out _).mono ?_); rintro e w1 ⟨rfl, hb1⟩; have HB := Lib.hid (Mem.on (al (Below.refl _ _) _) hb1); have HC := Lib.hid ((Cel.new w tVa #[.int .i64 0, .int .i64 0, .string ⟨#[]⟩] rfl).below hb1); clear hb1; have g0 := HC.out.at_ 0; have g1 := HC.out.at_ 1; have g2 := HC.out.at_ 2; have f0 := HC.out.open_ 0; have f1 := HC.out.open_ 1; have f2 := HC.out.open_ 2)
    (try simp only [Exit.inBlock, Exit.then])
    refine bodyPost_ret (v := .tuple #[.agg #[.int .i64 vk, .int .i64 vn, .string (txt vs)], .int .i64 0]) (ret_v rfl rfl (three_set HC.out) rfl) rfl ?_
    exact ⟨by rfl, below_three HB.out (Nat.le_refl _)⟩
  · have t0 : (f != 0) = true := bne_yes h0
    have HR := Lib.hid (show (if f ≠ 0 then (nul, f) else (trV t, 0)) = (nul, f) from if_pos h0)
    rw [HR.out]
    clear h0
    go_enter Tryz.func195, Tryz.ntmps195
    go_wp2
    (try simp only [Exit.inBlock, Exit.then])
    refine bodyPost_ret (v := .tuple #[.agg #[.int .i64 0, .int .i64 0, .string ⟨#[]⟩], .int .i64 f]) (by simp [results, Tryz.results195, go_sem]) rfl ?_
    exact ⟨by rfl, al (Below.refl _ _) _⟩
theorem whole_any (n : Int) (w : World) : Calls Tryz.prog 141 #[.int .i64 n] w fun e w' => e = .returned (vV ⟨1, n, []⟩) ∧ Below w.heap.size w w' := by
  go_enter Tryz.func141, Tryz.ntmps141
  go_wp2
  exact bodyPost_ret (v := .agg #[.int .i64 1, .int .i64 n, .string ⟨#[]⟩]) (by simp [results, Tryz.results141, go_sem]) rfl ⟨rfl, al (Below.refl _ _) _⟩
theorem one_1_nul {v : Vv} (h : v.k = 0) : Ev.one 1 v = (nul, 0) := by
  unfold Ev.one
  simp [h]
theorem one_1_num {v : Vv} (h : v.k = 1) : Ev.one 1 v = numV (Num.rv (-v.n)) (Num.re (-v.n)) := by
  unfold Ev.one
  simp [h]
theorem one_1_no {v : Vv} (h0 : ¬ v.k = 0) (h1 : ¬ v.k = 1) : Ev.one 1 v = (nul, 11) := by
  unfold Ev.one
  simp [h0, h1]
set_option maxHeartbeats 400000 in
theorem changed_back (v : Vv) (hv : -9223372036854775808 ≤ v.n ∧ v.n ≤ 9223372036854775807) (w : World) : Calls Tryz.prog 193 #[vV v, .func (.func 140) #[] #[]] w (ValE w (Ev.one 1 v)) := by
  obtain ⟨k, n, s⟩ := v
  by_cases h0 : k = 0
  · subst h0
    rw [one_1_nul rfl]
    clear hv
    go_enter Tryz.func193, Tryz.ntmps193
    go_wp2
    (try simp only [Exit.inBlock, Exit.then])
    refine bodyPost_ret (v := .tuple #[.agg #[.int .i64 0, .int .i64 0, .string ⟨#[]⟩], .int .i64 0]) (by simp [results, Tryz.results193, go_sem]) rfl ?_
    exact ⟨by rfl, al (al (Below.refl _ _) _) _⟩
  by_cases h1 : k = 1
  · subst h1
    rw [one_1_num rfl]
    have HR := Lib.hid (show ∀ W, _ from Num.back_any n hv.1 hv.2)
    obtain ⟨m, hm⟩ : ∃ m, Num.rv (-n) = m := ⟨_, rfl⟩
    obtain ⟨f, hf⟩ : ∃ f, Num.re (-n) = f := ⟨_, rfl⟩
    rw [hm, hf] at HR
    simp only [hm, hf]
    clear hm hf hv h0
    by_cases hz : f = 0
    · subst hz
      rw [show numV m 0 = (⟨1, m, []⟩, 0) from if_pos rfl]
      go_enter Tryz.func193, Tryz.ntmps193
      go_wp2_with (first | (go_at_call 140; (with_reducible refine (HR.out _).mono ?_); rintro e w1 ⟨rfl, rfl⟩) | (go_at_call 141; (with_reducible refine (whole_any _ _).mono ?_); rintro e w1 ⟨rfl, hb1⟩; have HB := Lib.hid (Mem.on (al (al (Below.refl _ _) _) _) hb1); have HC := Lib.hid ((Cel.new (w.alloc (.cells #[.int .i64 1, .int .i64 n, .string (txt s)] tVa)) tVa #[.int .i64 0, .int .i64 0, .string ⟨#[]⟩] (B := w.heap.size + 1) (by simp)).below hb1); clear hb1; have g0 := HC.out.at_ 0; have g1 := HC.out.at_ 1; have g2 := HC.out.at_ 2; have f0 := HC.out.open_ 0; have f1 := HC.out.open_ 1; have f2 := HC.out.open_ 2))
      (try simp only [Exit.inBlock, Exit.then])
      refine bodyPost_ret (v := .tuple #[.agg #[.int .i64 1, .int .i64 m, .string ⟨#[]⟩], .int .i64 0]) (ret_v rfl rfl (three_set HC.out) rfl) rfl ?_
      exact ⟨by rfl, below_three HB.out (by simp)⟩
    · have t0 : (f != 0) = true := bne_yes hz
      rw [show numV m f = (nul, f) from if_neg hz]
      clear hz
      go_enter Tryz.func193, Tryz.ntmps193
      go_wp2_with (go_at_call 140; (with_reducible refine (HR.out _).mono ?_); rintro e w1 ⟨rfl, rfl⟩)
      (try simp only [Exit.inBlock, Exit.then])
      refine bodyPost_ret (v := .tuple #[.agg #[.int .i64 0, .int .i64 0, .string ⟨#[]⟩], .int .i64 f]) (by simp [results, Tryz.results193, go_sem]) rfl ?_
      exact ⟨by rfl, al (al (Below.refl _ _) _) _⟩
  · rw [one_1_no h0 h1]
    have t0 := Right.beq_no h0
    have t1 := Right.beq_no h1
    clear hv h0 h1
    go_enter Tryz.func193, Tryz.ntmps193
    go_wp2
    (try simp only [Exit.inBlock, Exit.then])
    refine bodyPost_ret (v := .tuple #[.agg #[.int .i64 0, .int .i64 0, .string ⟨#[]⟩], .int .i64 11]) (by simp [results, Tryz.results193, go_sem]) rfl ?_
    exact ⟨by rfl, al (al (Below.refl _ _) _) _⟩
theorem call_abs_nul {v : Vv} (h : v.k = 0) : callV nAbs v = (nul, 0) := by
  unfold callV
  simp [h]
theorem call_abs_num {v : Vv} (h : v.k = 1) : callV nAbs v = numV (Num.rv (Num.mag v.n)) (Num.re (Num.mag v.n)) := by
  unfold callV
  rw [if_neg (by omega), if_neg (fun g => absurd g.1 (by decide)), if_pos ⟨rfl, h⟩]
theorem call_abs_no {v : Vv} (h0 : ¬ v.k = 0) (h1 : ¬ v.k = 1) : callV nAbs v = (nul, 11) := by
  unfold callV
  rw [if_neg h0, if_neg (fun g => absurd g.1 (by decide)), if_neg (fun g => h1 g.2)]
set_option maxHeartbeats 400000 in
theorem changed_size (v : Vv) (hv : -9223372036854775808 ≤ v.n ∧ v.n ≤ 9223372036854775807) (w : World) : Calls Tryz.prog 193 #[vV v, .func (.func 204) #[] #[]] w (ValE w (callV nAbs v)) := by
  obtain ⟨k, n, s⟩ := v
  by_cases h0 : k = 0
  · subst h0
    rw [call_abs_nul rfl]
    clear hv
    go_enter Tryz.func193, Tryz.ntmps193
    go_wp2
    (try simp only [Exit.inBlock, Exit.then])
    refine bodyPost_ret (v := .tuple #[.agg #[.int .i64 0, .int .i64 0, .string ⟨#[]⟩], .int .i64 0]) (by simp [results, Tryz.results193, go_sem]) rfl ?_
    exact ⟨by rfl, al (al (Below.refl _ _) _) _⟩
  by_cases h1 : k = 1
  · subst h1
    rw [call_abs_num rfl]
    have HR := Lib.hid (show ∀ W, _ from Num.size_any n hv.1 hv.2)
    obtain ⟨m, hm⟩ : ∃ m, Num.rv (Num.mag n) = m := ⟨_, rfl⟩
    obtain ⟨f, hf⟩ : ∃ f, Num.re (Num.mag n) = f := ⟨_, rfl⟩
    rw [hm, hf] at HR
    simp only [hm, hf]
    clear hm hf hv h0
    by_cases hz : f = 0
    · subst hz
      rw [show numV m 0 = (⟨1, m, []⟩, 0) from if_pos rfl]
      go_enter Tryz.func193, Tryz.ntmps193
      go_wp2_with (first | (go_at_call 204; (with_reducible refine (HR.out _).mono ?_); rintro e w1 ⟨rfl, rfl⟩) | (go_at_call 141; (with_reducible refine (whole_any _ _).mono ?_); rintro e w1 ⟨rfl, hb1⟩; have HB := Lib.hid (Mem.on (al (al (Below.refl _ _) _) _) hb1); have HC := Lib.hid ((Cel.new (w.alloc (.cells #[.int .i64 1, .int .i64 n, .string (txt s)] tVa)) tVa #[.int .i64 0, .int .i64 0, .string ⟨#[]⟩] (B := w.heap.size + 1) (by simp)).below hb1); clear hb1; have g0 := HC.out.at_ 0; have g1 := HC.out.at_ 1; have g2 := HC.out.at_ 2; have f0 := HC.out.open_ 0; have f1 := HC.out.open_ 1; have f2 := HC.out.open_ 2))
      (try simp only [Exit.inBlock, Exit.then])
      refine bodyPost_ret (v := .tuple #[.agg #[.int .i64 1, .int .i64 m, .string ⟨#[]⟩], .int .i64 0]) (ret_v rfl rfl (three_set HC.out) rfl) rfl ?_
      exact ⟨by rfl, below_three HB.out (by simp)⟩
    · have t0 : (f != 0) = true := bne_yes hz
      rw [show numV m f = (nul, f) from if_neg hz]
      clear hz
      go_enter Tryz.func193, Tryz.ntmps193
      go_wp2_with (go_at_call 204; (with_reducible refine (HR.out _).mono ?_); rintro e w1 ⟨rfl, rfl⟩)
      (try simp only [Exit.inBlock, Exit.then])
      refine bodyPost_ret (v := .tuple #[.agg #[.int .i64 0, .int .i64 0, .string ⟨#[]⟩], .int .i64 f]) (by simp [results, Tryz.results193, go_sem]) rfl ?_
      exact ⟨by rfl, al (al (Below.refl _ _) _) _⟩
  · rw [call_abs_no h0 h1]
    have t0 := Right.beq_no h0
    have t1 := Right.beq_no h1
    clear hv h0 h1
    go_enter Tryz.func193, Tryz.ntmps193
    go_wp2
    (try simp only [Exit.inBlock, Exit.then])
    refine bodyPost_ret (v := .tuple #[.agg #[.int .i64 0, .int .i64 0, .string ⟨#[]⟩], .int .i64 11]) (by simp [results, Tryz.results193, go_sem]) rfl ?_
    exact ⟨by rfl, al (al (Below.refl _ _) _) _⟩
set_option maxHeartbeats 400000 in
theorem length_any (v : Vv) (hs : v.s.length ≤ 1000) (w : World) : Calls Tryz.prog 203 #[vV v] w (ValE w (callV nLen v)) := by
  obtain ⟨k, n, s⟩ := v
  by_cases h0 : k = 0
  · subst h0
    rw [show callV nLen ⟨0, n, s⟩ = (nul, 0) from if_pos rfl]
    clear hs
    go_enter Tryz.func203, Tryz.ntmps203
    go_wp2
    (try simp only [Exit.inBlock, Exit.then])
    refine bodyPost_ret (v := .tuple #[.agg #[.int .i64 0, .int .i64 0, .string ⟨#[]⟩], .int .i64 0]) (by simp [results, Tryz.results203, go_sem]) rfl ?_
    exact ⟨by rfl, al (al (Below.refl _ _) _) _⟩
  by_cases h1 : k = 3
  · subst h1
    rw [show callV nLen ⟨3, n, s⟩ = (⟨1, s.length, []⟩, 0) from by unfold callV; rw [if_neg (show ¬ (3 : Int) = 0 by decide), if_pos ⟨rfl, rfl⟩]]
    have hsz : (txt s).size = s.length := rfl
    have HSZ := Lib.hid hsz
    obtain ⟨m, hm⟩ : ∃ m : Nat, s.length = m := ⟨_, rfl⟩
    obtain ⟨q, hq⟩ : ∃ q, txt s = q := ⟨_, rfl⟩
    rw [hm] at hs HSZ ⊢
    rw [hq] at HSZ
    show Calls _ _ #[.agg #[.int .i64 3, .int .i64 n, .string (txt s)]] _ _
    rw [hq]
    rw [show ((m : Nat) : Int) = ((q.size : Nat) : Int) from by rw [HSZ.out]]
    clear hsz hm hq h0
    go_enter Tryz.func203, Tryz.ntmps203
    go_wp2_with (go_at_call 141; (with_reducible refine (whole_any _ _).mono ?_); rintro e w1 ⟨rfl, hb1⟩; have HB := Lib.hid (Mem.on (al (al (Below.refl _ _) _) _) hb1); have HC := Lib.hid ((Cel.new (w.alloc (.cells #[.int .i64 3, .int .i64 n, .string q] tVa)) tVa #[.int .i64 0, .int .i64 0, .string ⟨#[]⟩] (B := w.heap.size + 1) (by simp)).below hb1); clear hb1; have g0 := HC.out.at_ 0; have g1 := HC.out.at_ 1; have g2 := HC.out.at_ 2; have f0 := HC.out.open_ 0; have f1 := HC.out.open_ 1; have f2 := HC.out.open_ 2)
    (try simp only [Exit.inBlock, Exit.then])
    refine bodyPost_ret (v := .tuple #[.agg #[.int .i64 1, .int .i64 (q.size : Nat), .string ⟨#[]⟩], .int .i64 0]) (ret_v rfl rfl (three_set HC.out) rfl) rfl ?_
    exact ⟨by rfl, below_three HB.out (by simp)⟩
  · rw [show callV nLen ⟨k, n, s⟩ = (nul, 11) from by unfold callV; rw [if_neg h0, if_neg (fun g => h1 g.2), if_neg (fun g => absurd g.1 (by decide))]]
    have t0 := Right.beq_no h0
    have t1 := Right.beq_no h1
    clear hs h0 h1
    go_enter Tryz.func203, Tryz.ntmps203
    go_wp2
    (try simp only [Exit.inBlock, Exit.then])
    refine bodyPost_ret (v := .tuple #[.agg #[.int .i64 0, .int .i64 0, .string ⟨#[]⟩], .int .i64 11]) (by simp [results, Tryz.results203, go_sem]) rfl ?_
    exact ⟨by rfl, al (al (Below.refl _ _) _) _⟩
end Go.Proofs.YtbdippgamlknbaaGreatDoor.Eo
