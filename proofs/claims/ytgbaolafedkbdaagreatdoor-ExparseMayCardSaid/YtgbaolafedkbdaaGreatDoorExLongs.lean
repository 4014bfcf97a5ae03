import Derived.Test.YtgbaolafedkbdaaGreatDoorValMaths
import Derived.Test.YtgbaolafedkbdaaGreatDoorExBareBs
import Derived.Test.YtgbaolafedkbdaaGreatDoorExMany
import Derived.Test.YtgbaolafedkbdaaGreatDoorExParses
import Derived.Test.YtgbaolafedkbdaaGreatDoorExBrackets
/- How long a value's text is. -/
namespace Go.Proofs.YtgbaolafedkbdaaGreatDoor.Val
set_option linter.unusedVariables false

theorem dgz_len {a : Int} (ha : -9223372036854775808 ≤ a) (ha' : a ≤ 9223372036854775807) : (Num.dgz a).length ≤ 20 := by
  have := Num.dg_len19 (n := a.natAbs) (by omega)
  unfold Num.dgz; split
  · simp; omega
  · omega
/-- A value's text is not much longer than its own. -/
theorem showV_len {k n : Int} {l : List UInt8} (hn : -9223372036854775808 ≤ n) (hn' : n ≤ 9223372036854775807) : (showV k n l).length ≤ 2 * l.length + 20 := by
  have h1 := dgz_len hn hn'
  have h2 := quo_len l
  have h3 := List.count_le_length (a := (39 : UInt8)) (l := l)
  have h4 : wNull.length = 4 := rfl
  have h5 : wTrue.length = 4 := rfl
  have h6 : wFalse.length = 5 := rfl
  unfold showV
  split
  · omega
  · split
    · omega
    · split
      · split <;> omega
      · split
        · omega
        · simp
end Go.Proofs.YtgbaolafedkbdaaGreatDoor.Val
/- A right tree's text is not much longer than it has parts. -/
namespace Go.Proofs.YtgbaolafedkbdaaGreatDoor.Ep
open Go.Proofs.YtgbaolafedkbdaaGreatDoor.Lx
set_option linter.unusedVariables false

theorem name_len {l : List UInt8} (h : kindOf l = 1) : l.length ≤ 12 := by
  rw [← kindR_is] at h
  match l, h with
  | [], h => simp
  | c :: t, h =>
    rw [kindR_cons] at h
    split at h
    · rename_i g; exact g.1
    · repeat' split at h
      all_goals cases h
theorem kidP_len (e : Ex) (r : Nat) : (tx (kidP e r)).length ≤ (tx (pcs e)).length + 2 := by
  unfold kidP br
  split
  · rw [tx_some, tx_app, tx_some]
    simp [sgn6, tx]
  · omega
theorem sgT_len (o : Int) : (sgT o).2.length ≤ 3 := by
  have : (sgT o).2 = sg o := by unfold sgT; split <;> rfl
  rw [this]; exact sg_len o
theorem size_call (k o vk vn : Int) (vs nm : List UInt8) (kids : List Ex) : size (.mk k o vk vn vs nm kids) = sizeL kids + 1 := by rw [size]
theorem pcsL_len : ∀ {l : List Ex}, (∀ x ∈ l, (tx (pcs x)).length + 3 ≤ 200 * size x) → (tx (pcsL l)).length ≤ 200 * sizeL l
  | [], _ => by rw [pcsL]; simp [tx]
  | [a], h => by
    rw [pcsL_one, sizeL, sizeL]
    have := h a (by simp)
    omega
  | a :: b :: l, h => by
    rw [pcsL_more, tx_app, tx_some, sizeL]
    have h1 := h a (by simp)
    have h2 := pcsL_len (l := b :: l) fun x hx => h x (List.mem_cons_of_mem _ hx)
    have h3 : (sgn6 44).2.length = 1 := rfl
    rw [List.length_append, List.length_append, h3]
    omega
theorem ok_len32 {k n : Int} {s : List UInt8} (h : Val.okV k n s = true) : s.length ≤ 32 := by
  unfold Val.okV at h
  repeat' split at h
  all_goals simp at h
  all_goals first | (obtain ⟨_, rfl⟩ := h; simp) | (subst h; simp) | (obtain ⟨⟨_, h⟩, _⟩ := h; omega) | omega
theorem text_len {e : Ex} (h : Rt e) : (tx (pcs e)).length + 3 ≤ 200 * size e := by
  induction h with
  | @lit k n s h0 h1 h2 h3 =>
    have hl := ok_len32 h0
    have hv := Val.showV_len (k := k) (l := s) h3 h2
    have ht : tx (pcs (lit k n s)) = Val.showV k n s := by rw [pcs_lit, tx_some]; simp [tx, valT]
    rw [ht]
    show _ ≤ 200 * size (.mk 1 0 k n s [] [])
    rw [size_call, sizeL]
    omega
  | @col nm h =>
    have := name_len h
    have ht : tx (pcs (col nm)) = nm := by rw [pcs_col, tx_some]; simp [tx]
    rw [ht]
    show _ ≤ 200 * size (.mk 2 0 0 0 [] nm [])
    rw [size_call, sizeL]
    omega
  | @par o h1 h2 =>
    have ht : (tx (pcs (par o))).length = 2 := by rw [pcs_par, tx_some]; simp [tx, parT]
    rw [ht]
    show _ ≤ 200 * size (.mk 3 o 0 0 [] [] [])
    rw [size_call, sizeL]
    omega
  | @un o a h1 h2 _ ih =>
    show _ ≤ 200 * size (.mk 4 o 0 0 [] [] [a])
    rw [size_call, sizeL, sizeL]
    have h7 := kidP_len a 7
    have h3 := kidP_len a 3
    have h5 := kidP_len a 5
    rw [pcs_un]
    split
    · rw [tx_some, List.length_append]
      have : (sgn6 45).2.length = 1 := rfl
      omega
    split
    · rw [tx_some, tx_none, List.length_append, List.length_cons]
      have : (key kNOT).2.length = 3 := rfl
      omega
    split
    · rw [tx_app, List.length_append]
      have : (tx [none, some (key kIS), none, some (key Val.wNull)]).length = 8 := by decide
      omega
    · rw [tx_app, List.length_append]
      have : (tx [none, some (key kIS), none, some (key kNOT), none, some (key Val.wNull)]).length = 12 := by decide
      omega
  | @bin o a c h1 h2 _ _ iha ihc =>
    show _ ≤ 200 * size (.mk 5 o 0 0 [] [] [a, c])
    rw [size_call, sizeL, sizeL, sizeL]
    have ha := kidP_len a (ask1 o)
    have hc := kidP_len c (ask2 o)
    have hs := sgT_len o
    rw [pcs_bin, tx_app, tx_none, tx_some, tx_none]
    simp only [List.length_append, List.length_cons]
    omega
  | @inn a l hne hl _ _ iha ihl =>
    show _ ≤ 200 * size (.mk 6 0 0 0 [] [] (a :: l))
    rw [size_call, sizeL]
    have ha := kidP_len a 5
    have hm := pcsL_len ihl
    rw [pcs_inn, tx_app, tx_none, tx_some, tx_none, tx_some, tx_app, tx_some]
    have e1 : (key kIN).2.length = 2 := rfl
    have e2 : (sgn6 40).2.length = 1 := rfl
    have e3 : (sgn6 41).2.length = 1 := rfl
    have e4 : (tx []).length = 0 := rfl
    simp only [List.length_append, List.length_cons, e1, e2, e3, e4]
    omega
  | @call nm l hne hn _ ih =>
    show _ ≤ 200 * size (.mk 7 0 0 0 [] nm l)
    rw [size_call]
    have hm := pcsL_len ih
    have hc : (callT nm).2.length ≤ 8 := by
      unfold callT key
      simp only
      split
      · decide
      · split <;> decide
    rw [pcs_call, tx_some, tx_some, tx_app, tx_some]
    have e2 : (sgn6 40).2.length = 1 := rfl
    have e3 : (sgn6 41).2.length = 1 := rfl
    have e4 : (tx []).length = 0 := rfl
    simp only [List.length_append, e2, e3, e4]
    omega
end Go.Proofs.YtgbaolafedkbdaaGreatDoor.Ep
/- Print of a right tree without slots: the program's answer, whole. -/
namespace Go.Proofs.YtgbaolafedkbdaaGreatDoor.Ep
open Go.RowKit Go.Proofs.YtgbaolafedkbdaaGreatDoor.Mem Go.Proofs.YtgbaolafedkbdaaGreatDoor.Right Go.Proofs.YtgbaolafedkbdaaGreatDoor.Lx
set_option linter.unusedVariables false

theorem print_rt {e : Ex} (he : Rt e) (hz : size e ≤ 1000) (cs : List Value) (w : World) (h : ExAt w w.heap.size e cs) (hs : Signs w) (hO : Osg w) (hl : Lim e) :
    Calls Tryz.prog 12 #[.agg cs.toArray] w fun x w' => x = .returned (.tuple #[.string (txt (printV e).1), .int .i64 (printV e).2]) ∧ Below w.heap.size w w' :=
  print_any e (kid_all he) cs w h hs hO hl (by have := text_len he; omega)
end Go.Proofs.YtgbaolafedkbdaaGreatDoor.Ep
/- What was read may be; its text is read as it again; in brackets it is the same: as mathematics. -/
namespace Go.Proofs.YtgbaolafedkbdaaGreatDoor.Ep
open Go.RowKit Go.Proofs.YtgbaolafedkbdaaGreatDoor.Mem Go.Proofs.YtgbaolafedkbdaaGreatDoor.Right Go.Proofs.YtgbaolafedkbdaaGreatDoor.Lx
set_option linter.unusedVariables false

theorem rt_lim {e : Ex} (h : Rt e) : Lim e := by
  induction h with
  | @lit k n s h0 h1 h2 h3 =>
    have := ok_len32 h0
    unfold lit
    exact (lim_mk ..).2 ⟨by omega, by decide, fun x hx => by cases hx⟩
  | @col nm h =>
    have := name_len h
    unfold col
    exact (lim_mk ..).2 ⟨by decide, by omega, fun x hx => by cases hx⟩
  | @par o h1 h2 =>
    unfold par
    exact (lim_mk ..).2 ⟨by decide, by decide, fun x hx => by cases hx⟩
  | @un o a h1 h2 _ ih =>
    unfold un
    refine (lim_mk ..).2 ⟨by decide, by decide, fun x hx => ?_⟩
    rw [List.mem_singleton] at hx
    exact hx ▸ ih
  | @bin o a b h1 h2 _ _ ih1 ih2 =>
    unfold bin
    refine (lim_mk ..).2 ⟨by decide, by decide, fun x hx => ?_⟩
    rw [List.mem_cons, List.mem_singleton] at hx
    rcases hx with rfl | rfl
    · exact ih1
    · exact ih2
  | @inn a l h1 h2 _ _ ih1 ih2 =>
    unfold inn
    refine (lim_mk ..).2 ⟨by decide, by decide, fun x hx => ?_⟩
    rw [List.mem_cons] at hx
    rcases hx with rfl | hx
    · exact ih1
    · exact ih2 x hx
  | @call nm l h1 h2 _ ih =>
    unfold call
    refine (lim_mk ..).2 ⟨by decide, ?_, fun x hx => ih x hx⟩
    rcases h2 with ⟨rfl, -⟩ | ⟨rfl | rfl, -⟩ <;> decide
theorem rt_check {e : Ex} (h : Rt e) (hh : high e = false) (slots : Bool) : checkE slots e = 0 := by
  unfold checkE
  unfold high at hh
  rw [if_neg (of_decide_eq_false hh), if_pos (rightB_of h.rs)]
theorem printV_rt {e : Ex} (h : Rt e) (hh : high e = false) : printV e = if 400 < (tx (pcs e)).length then ([], 3) else (tx (pcs e), 0) := by
  unfold printV
  rw [if_neg (by rw [rt_check h hh]; decide)]
/-- What a tree is that was told. -/
theorem told_rt {l : List UInt8} {V : Ex × Int × Int} (h : Told l V) (h0 : V.2.2 = 0) : ∃ x, V = (x, 0, 0) ∧ Rt x ∧ high x = false ∧ size x ≤ 1000 := by
  obtain ⟨ts, p, x, q, hR, ⟨F, hF⟩, hh, hq, rfl⟩ := told_yes h h0
  obtain ⟨hok, hx, -⟩ := lex_ok hR
  have hlen : ts.length ≤ 120 := by
    unfold toksV at hR
    split at hR
    · cases hR
    · have := cut_len _ hR (by decide)
      omega
  have hL := rts_of hok (by unfold lOf; rw [List.length_map]; omega) fun x h => Nat.le_trans (hx x h) (by decide)
  have hr : rankP (Ts (lOf ts)) F 1 0 = .ok x q := hF F (Nat.le_refl _)
  have hi := (inner hL.2.2 F).rank 1 0 (by rw [List.length_map]; exact (toksOk_iff.1 hok).1)
  rw [show rankP (List.map toTt (lOf ts)) F 1 0 = .ok x q from hr] at hi
  refine ⟨x, rfl, (sound (Wf.rts hL.2.2) F).rank 1 0 x q hr, hh, ?_⟩
  have := hi.1
  omega
theorem may_brackets {s : List UInt8} (hs : s.length ≤ 390) {x : Ex} (h : Told s (x, 0, 0)) {V : Ex × Int × Int} (hV : Told (40 :: (s ++ [41])) V) : V.2.2 = 5 ∨ V = (x, 0, 0) := by
  obtain ⟨ts, p, x', q, hR, hE, hh, hq, e⟩ := told_yes h rfl
  injection e with e _
  subst e
  have hv : toksV s = cut s 0 0 := by unfold toksV; rw [if_neg (by omega)]
  rw [hv] at hR
  have hc : ct s 0 = (ts.map kt, 0) := by unfold ct; rw [hR]
  obtain ⟨T, hT, hlex⟩ := lexed_of (n0 := 0) (by rw [hc])
  rw [hc] at hT
  have h1 : ts.map kt = T ++ [(7, [])] := congrArg Prod.fst hT
  have hlen : ts.length = T.length + 1 := by
    have := congrArg List.length h1
    simpa using this
  obtain ⟨i1, i2⟩ := ct_brackets hlex
  have hl : (40 :: (s ++ [41])).length ≤ 400 := by simp; omega
  rw [ts_kt, h1, show q = T.length by omega] at hE
  by_cases h3 : T.length + 3 ≤ 120
  · right
    have hb := read_brackets (ts := T) hE
    refine told_of hV hl (T := sgn6 40 :: (T ++ [sgn6 41])) ?_ ?_ hh
    · rw [i1 h3]; simp
    · have e1 : (sgn6 40 :: (T ++ [sgn6 41])) ++ [(7, [])] = brL T := by unfold brL; simp
      rw [e1, show (sgn6 40 :: (T ++ [sgn6 41])).length = T.length + 2 by simp]
      exact hb
  · left
    exact (told_not hV hl (i2 (by omega)) (by decide)).2
theorem may_back {x : Ex} (hx : Rt x) (hh : high x = false) (hl : (tx (pcs x)).length ≤ 400) {V : Ex × Int × Int} (hV : Told (tx (pcs x)) V) : V.2.2 = 5 ∨ V = (x, 0, 0) := by
  obtain ⟨b1, b2, b3⟩ := back_text hx
  by_cases h3 : (tt (pcs x)).length < 120
  · exact .inr (told_of hV hl (b1 h3) b3 hh)
  · exact .inl (told_not hV hl (b2 (by omega)) (by decide)).2
end Go.Proofs.YtgbaolafedkbdaaGreatDoor.Ep
/- The law's example: ranks are kept. -/
namespace Go.Proofs.YtgbaolafedkbdaaGreatDoor.Ep
open Go.RowKit Go.Proofs.YtgbaolafedkbdaaGreatDoor.Mem Go.Proofs.YtgbaolafedkbdaaGreatDoor.Right Go.Proofs.YtgbaolafedkbdaaGreatDoor.Lx
set_option linter.unusedVariables false

def wE : Ex := bin 1 (un 2 (bin 3 (col [97]) (lit 1 1 []))) (col [98])
theorem wE_rt : Rt wE := .bin (by decide) (by decide) (.un (by decide) (by decide) (.bin (by decide) (by decide) (.col (by decide)) (.lit (by decide) (by decide) (by decide) (by decide)))) (.col (by decide))
theorem wE_text : tx (pcs wE) = [78, 79, 84, 32, 97, 32, 61, 32, 49, 32, 79, 82, 32, 98] := by decide +kernel
theorem wE_low : high wE = false := by decide +kernel
theorem wE_told : Told [78, 79, 84, 32, 97, 32, 61, 32, 49, 32, 79, 82, 32, 98] (wE, 0, 0) := by
  obtain ⟨V, hV⟩ := told_some [78, 79, 84, 32, 97, 32, 61, 32, 49, 32, 79, 82, 32, 98]
  rw [← wE_text] at hV
  obtain ⟨b1, b2, b3⟩ := back_text wE_rt
  have := told_of hV (by rw [wE_text]; decide) (b1 (by decide +kernel)) b3 wE_low
  rw [this, wE_text] at hV
  exact hV
theorem wE_cells {w1 : World} {cs : List Value} (hx : ExAt w1 w1.heap.size wE cs) : ∃ b1 p1 c b3 p3 c1, cs = [.int .i64 5, .int .i64 1, .int .i64 0, .int .i64 0, .string (Ep.txt []), .string (Ep.txt []), .slice (some ⟨b1, p1, none⟩) 2 c] ∧
    w1.cell? ⟨b1, p1 + 1, none⟩ = some (.int .i64 2) ∧ w1.cell? ⟨b1, p1 + 6, none⟩ = some (.slice (some ⟨b3, p3, none⟩) 1 c1) ∧ w1.cell? ⟨b3, p3 + 1, none⟩ = some (.int .i64 3) := by
  unfold wE bin un at hx
  obtain ⟨A, n, c, rfl, hn, -, -, -, hk⟩ := ex_open hx
  obtain ⟨k1, o1, vk1, vn1, vs1, nm1, ks1, A1, n1, c1, b1, p1, g1, rfl, -, hn1, q0, q1, -, -, -, -, q6, hx1⟩ := kid_at (j := 0) hk rfl
  injection g1 with a1 a2 a3 a4 a5 a6 a7
  subst a1 a2 a3 a4 a5 a6 a7
  obtain ⟨A2, n2, c2, g4, hn2, -, -, -, hk2⟩ := ex_open hx1
  have g5 : Value.slice A1 n1 c1 = .slice A2 n2 c2 := List.head_eq_of_cons_eq (List.tail_eq_of_cons_eq (List.tail_eq_of_cons_eq (List.tail_eq_of_cons_eq (List.tail_eq_of_cons_eq (List.tail_eq_of_cons_eq (List.tail_eq_of_cons_eq g4))))))
  injection g5 with b1' b2' b3'
  subst b1' b2' b3'
  obtain ⟨k3, o3, vk3, vn3, vs3, nm3, ks3, A3, n3, c3, b3, p3, g6, rfl, -, -, r0, r1, -, -, -, -, -, -⟩ := kid_at (j := 0) hk2 rfl
  injection g6 with d1 d2 d3 d4 d5 d6 d7
  subst d1 d2 d3 d4 d5 d6 d7
  rw [Nat.zero_mul, Nat.add_zero] at q1 q6 r1
  subst hn
  rw [hn1] at q6
  exact ⟨b1, p1, c, b3, p3, c1, rfl, q1, q6, r1⟩
set_option maxHeartbeats 4000000 in
set_option maxRecDepth 100000 in
theorem works_any (w : World) (hw : Wd w) : Calls Tryz.prog 6 #[] w fun e w' => e = .returned (.bool true) ∧ Below w.heap.size w w' := by
  have HP := Lib.hid (parse_any (w := w) ⟨#[78, 79, 84, 32, 97, 32, 61, 32, 49, 32, 79, 82, 32, 98]⟩ (by decide) hw wE_told)
  clear hw
  go_enter Tryz.func6, Tryz.ntmps6
  go_wp2_with (go_at_call 13; (refine HP.out.mono ?_); rintro e' w1 ⟨cs, rfl, hx, hb1⟩; obtain ⟨b1, p1, c, b3, p3, c1, rfl, q1, q6, r1⟩ := wE_cells hx; (have HB := Lib.hid (al hb1 (.cells #[.int .i64 5, .int .i64 1, .int .i64 0, .int .i64 0, .string (Ep.txt []), .string (Ep.txt []), .slice (some ⟨b1, p1, none⟩) 2 c] tE))); (replace q1 := past q1 (.cells #[.int .i64 5, .int .i64 1, .int .i64 0, .int .i64 0, .string (Ep.txt []), .string (Ep.txt []), .slice (some ⟨b1, p1, none⟩) 2 c] tE)); (replace q6 := past q6 (.cells #[.int .i64 5, .int .i64 1, .int .i64 0, .int .i64 0, .string (Ep.txt []), .string (Ep.txt []), .slice (some ⟨b1, p1, none⟩) 2 c] tE)); (replace r1 := past r1 (.cells #[.int .i64 5, .int .i64 1, .int .i64 0, .int .i64 0, .string (Ep.txt []), .string (Ep.txt []), .slice (some ⟨b1, p1, none⟩) 2 c] tE)); clear hb1 hx)
  go_ret
  exact ⟨rfl, HB.out⟩
end Go.Proofs.YtgbaolafedkbdaaGreatDoor.Ep
